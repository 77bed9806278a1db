/- Texts of one proof, one behind the other: SC7A. -/
import Derived.Test.YtclinobfbdljhahB33
/- Walks: the members of a set, in a row of one's own. -/
namespace Go.Proofs.Ytclinobfbdljhah
open Go.RowKit

set_option maxRecDepth 10000 in
set_option maxHeartbeats 4000000 in
theorem set_membersO {N : Nat} (hN : N ≤ 40) (P : Nat → Bool) (w : World) :
    Calls Try.prog 75 #[.int .u64 (bm N P : Nat), .int .i64 (N : Nat)] w fun e w' => ∃ ad cp, e = .returned (.slice ad (memTo P N).length cp) ∧ OwnN w.heap.size w' ad cp (memTo P N) ∧ Below w.heap.size w w' := by
  (have hNI : (N : Int) ≤ 40 := by omega); (have HH : Hid (∀ n, n < N → ∀ w, Calls Try.prog 61 #[.int .u64 (bm N P : Nat), .int .i64 (n : Nat)] w fun e w' => e = .returned (.bool (P n)) ∧ w' = w) := fun n hn w => set_has hN P n hn w); have HN : Hid (N ≤ 40) := hN; generalize bm N P = s at *; clear hN
  go_enter Try.func75, Try.ntmps75
  go_wp2_with fail
  go_loopg [8, 5] N (fun gg cc x wr => ∃ i ad cp, i ≤ N ∧ gg = N - i ∧ cc = .int .i64 (i : Nat) ∧ x = .slice ad (memTo P i).length cp ∧ Hid (wr.ownsRow w.heap.size 3 1 (.slice ad (memTo P i).length cp) (memTo P i).length ((memTo P i).map encI)) ∧ Hid (Below w.heap.size w wr))
  case atStart => exact ⟨0, none, 0, by omega, by omega, rfl, rfl, ⟨rfl, Or.inl ⟨rfl, rfl⟩⟩, Below.refl _ _⟩
  case round =>
    obtain ⟨i, ad, cp, hi, hg, rfl, rfl, HOw, HB⟩ := hrel; have HGk : Hid (gk = N - i) := hg; clear hg; by_cases hlt : i < N
    · have hltI : (i : Int) < (N : Int) := by omega
      have HI : Hid (i < N) := hlt; (have HSc : Hid (memTo P (i + 1) = if P i = true then memTo P i ++ [i] else memTo P i) := memTo_succ P i); have HLn : Hid ((memTo P i).length ≤ i) := memTo_len P i; generalize memTo P i = LL at *; (have hlnI : (LL.length : Int) ≤ 40 := by have := HLn.out; have := HN.out; omega); clear hlt hi; go_wp2_with fail; refine (HH.out i HI.out wr).mono ?_; rintro _ w9 ⟨rfl, e9⟩
      replace e9 := e9.symm
      subst e9; by_cases hp : P i = true
      · rw [hp] at HSc ⊢
        obtain ⟨i0, hi0, hz0, hz1, hz2⟩ := infoI9; clear hp
        go_wp2_with (first
          | (at_builtin
             have hsz := HB.out.size; have hlm := HLn.out; have hnm := HN.out; have hil := HI.out; have hown := rowM_up HOw.out ((Below.refl _ wr).alloc (Nat.le_refl _) (.cells #[.int .i64 (i : Nat)] 3 (0, 0))); (refine wpList_append_lies _ rfl _ _ 45 rfl w.heap.size 3 i0 (.int .i64 0) 1 8 Try.underlying45 hi0 hz0 hz1 hz2 rfl (by decide) (.slice ad LL.length cp) LL.length (LL.map encI) rfl hown ⟨wr.heap.size, 0, none⟩ 1 1 [.int .i64 (i : Nat)] rfl rfl ?_ ?_ (by omega) (by unfold maxLen; omega) (by omega) (by simp; omega) _ rfl ?_)
             · intro j u hu
               rw [add_none, Nat.zero_add, blk_cell (blk_new wr _)]; simpa using hu
             · intro u hu
               simp at hu; subst hu; rfl
             intro g3 cp3 w3 hown3 hgrow hat hlt3; have hgrow' : (wr.alloc (.cells #[.int .i64 (i : Nat)] 3 (0, 0))).grownBy w3 (Value.slice ad LL.length cp).ownBlock := hgrow; have hlt' := HOw.out.lt; (have HB3 : Hid (Below w.heap.size w w3) := ((HB.out.alloc hsz _).grown hgrow' (by simp; omega) fun k hk => by have := (hlt' k hk).1; omega)); have HOw3 : Hid (w3.ownsRow w.heap.size 3 1 (.slice (some ⟨g3, 0, none⟩) (LL.length + 1) cp3) (LL.length + 1) (LL.map encI ++ [.int .i64 (i : Nat)])) := hown3
             clear hgrow hgrow' hat hown3 hown hlt' hsz hlt3 hi0 hz0 hz1 hz2 hlm hnm hil)
          | fail)
        (have HSc9 : memTo P (i + 1) = LL ++ [i] := by rw [HSc.out]; rfl); (have hl9 : (memTo P (i + 1)).length = LL.length + 1 := by rw [HSc9]; simp)
        go_roundg (N - (i + 1))
        case measure => have := HGk.out; have := HI.out; omega
        case rel =>
          (refine ⟨i + 1, some ⟨g3, 0, none⟩, cp3, HI.out, rfl, by go_num, by rw [hl9], ?_, HB3⟩); rw [hl9, HSc9, List.map_append]; exact HOw3
      · have hpf : P i = false := by simpa using hp
        rw [hpf] at HSc ⊢; clear hp hpf; go_wp2_with fail; (have HSc9 : memTo P (i + 1) = LL := by rw [HSc.out]; rfl)
        go_roundg (N - (i + 1))
        case measure => have := HGk.out; have := HI.out; omega
        case rel => exact ⟨i + 1, ad, cp, HI.out, rfl, by go_num, by rw [HSc9], by rw [HSc9]; exact HOw, HB⟩
    · have hii : N = i := by omega
      subst hii; (have hge : ¬ (N : Int) < (N : Int) := by omega); clear hlt hi; go_wp2_with fail; go_ret; exact ⟨ad, cp, rfl, HOw.out, HB.out⟩
end Go.Proofs.Ytclinobfbdljhah
