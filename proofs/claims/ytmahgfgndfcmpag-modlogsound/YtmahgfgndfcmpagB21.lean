/- Texts of one proof, one behind the other: MLC. -/
import Derived.Test.YtmahgfgndfcmpagB17
import Derived.Test.YtmahgfgndfcmpagB20
import Derived.Test.YtmahgfgndfcmpagB05
/- Walks: all sets of parts that can be true at one world (modlog.worldsOf). -/
namespace Go.Proofs.Ytmahgfgndfcmpag
open Go.RowKit Go.Sort

theorem infoW : ∃ i, Try.prog.info? 104 = some i ∧ i.zero = some (.agg #[.int .u64 0, .int .u64 0, .int .u64 0]) ∧ i.size = 3 ∧ i.bytes = 24 := by
  (obtain ⟨i, hi, h⟩ := Option.map_eq_some_iff.1 (show (Try.prog.info? 104).map (fun i => (i.zero, i.size, i.bytes)) = some (some (.agg #[.int .u64 0, .int .u64 0, .int .u64 0]), 3, 24) by kernel_rfl)); simp only [Prod.mk.injEq] at h; exact ⟨i, hi, h.1, h.2.1, h.2.2⟩
theorem shl_rowW (n : Nat) (h : n ≤ 10) : IntKind.u64.wrap ((2 : Int) ^ n) = ((2 ^ n : Nat) : Int) ∧ 1 ≤ 2 ^ n ∧ 2 ^ n ≤ 1024 := by
  (have h1 : 2 ^ n ≤ 2 ^ 10 := Nat.pow_le_pow_right (by omega) h); (have h2 : (2 : Int) ^ n = ((2 ^ n : Nat) : Int) := by simp); refine ⟨?_, Nat.two_pow_pos n, h1⟩; rw [h2]; (exact wraps_u64 _ (Int.natCast_nonneg _) (by exact_mod_cast Nat.lt_of_le_of_lt h1 (by decide : 2 ^ 10 < 2 ^ 62)))
theorem SRow.own {ps : List PartM} {w : World} {B cp : Nat} {ad : Option Addr} {l : List Nat} (h : w.ownsRow B 104 3 (.slice ad l.length cp) l.length (encW ps l)) (hl : l ≠ []) : ∃ g rest, ad = some ⟨g, 0, none⟩ ∧ B ≤ g ∧ SRow ps w g l rest := by
  rcases h.2 with ⟨hv, h0⟩ | ⟨g, cap', cur, hv, hB, hh, h1, h2, h3, h4⟩
  · exact absurd (List.length_eq_zero_iff.1 h0) hl
  · simp only [Value.slice.injEq, true_and] at hv
    refine ⟨g, cur.toList.drop (l.length * 3), hv.1, hB, ?_⟩; unfold SRow; rw [hh]
    congr 2
    apply Array.ext'; rw [← h4]
    simp
/-- All sets of parts that can be true at one world, up to i. -/
def whol (ps : List PartM) (i : Nat) : List Nat := (List.range i).filter (wholeB ps)
theorem whol_succ (ps : List PartM) (i : Nat) : whol ps (i + 1) = if wholeB ps i = true then whol ps i ++ [i] else whol ps i := by
  rw [whol, List.range_succ, List.filter_append, whol]; (by_cases h : wholeB ps i = true <;> simp [h])
theorem whol_len (ps : List PartM) (i : Nat) : (whol ps i).length ≤ i := by
  have := List.length_filter_le (wholeB ps) (List.range i)
  rwa [List.length_range] at this
theorem whol_ne {ps : List PartM} {fs : List Fm} (ht : TabOk ps fs) (hf : ∀ g ∈ fs, Fine g) : whol ps (2 ^ ps.length) ≠ [] := by
  (have h1 := typ_whole (N := 1) (R := fun _ _ => false) (p := fun _ _ => false) ht hf 0); (have h2 : typ ps fs 1 (fun _ _ => false) (fun _ _ => false) 0 < 2 ^ ps.length := bm_lt _ _); exact List.ne_nil_of_mem (List.mem_filter.2 ⟨List.mem_range.2 h2, h1⟩)
set_option maxRecDepth 10000 in
set_option maxHeartbeats 8000000 in
theorem worldsOf_any {ps : List PartM} {fs : List Fm} (ht : TabOk ps fs) (hf : ∀ g ∈ fs, Fine g) (hL : ps.length ≤ 10) (T : Nat → Prop) (bt : Nat) (ns : List Nat) (w : World) (htab : TabAt w T bt ps ns) :
    Calls Try.prog 89 #[.pointer (some ⟨bt, 0, none⟩)] w fun e w' => ∃ g cap l rest, e = .returned (.slice (some ⟨g, 0, none⟩) l.length cap) ∧ SRow ps w' g l rest ∧ l.Perm (whol ps (2 ^ ps.length)) ∧ l.length ≤ cap ∧ cap ≤ maxLen ∧ l.length ≤ 1024 ∧ w.heap.size ≤ g ∧ Below w.heap.size w w' := by
  (have HI : Hid (∀ h, h < 2 ^ ps.length → ∀ w', Below w.heap.size w w' → Calls Try.prog 108 #[.int .u64 (h : Nat), .pointer (some ⟨bt, 0, none⟩)] w' _) := fun h hh w' hb => wWhole_any ht (by omega) T bt ns h hh w' (htab.below hb)); (have HW : Hid (∀ h, h < 2 ^ ps.length → ∀ w', Below w.heap.size w w' → Calls Try.prog 109 #[.int .u64 (h : Nat), .pointer (some ⟨bt, 0, none⟩)] w' _) := fun h hh w' hb => worldOf_any ht (by omega) T bt ns h hh w' (htab.below hb)); have HLe : Hid (Calls Try.prog 52 #[.pointer (some ⟨bt, 0, none⟩)] w _) := plen_any w T bt ps ns htab; (have HSo : Hid (∀ (g cap : Nat) (rest : List Value) (l : List Nat), l.length ≤ 100000 → l.length ≤ cap → ∀ w, SRow ps w g l rest → Calls Try.prog 110 #[.slice (some ⟨g, 0, none⟩) l.length cap, .func (.func 111) #[] #[]] w fun e w' => SortP ps g l rest w e w') := fun g cap rest l h1 h2 w h3 => sortW_any g cap rest l h1 h2 w h3); have HNe := whol_ne ht hf; have HNe : Hid (whol ps (2 ^ ps.length) ≠ []) := HNe; obtain ⟨hsh, hM1, hM2⟩ := shl_rowW ps.length hL; obtain ⟨M, hM⟩ : ∃ M, M = 2 ^ ps.length := ⟨_, rfl⟩; rw [← hM] at hsh hM1 hM2 HI HW HNe ⊢; have HM : Hid (1 ≤ M ∧ M ≤ 1024) := ⟨hM1, hM2⟩; (have hMI : (M : Int) ≤ 1024 := by omega); have HSh : Hid (IntKind.u64.wrap ((2 : Int) ^ ps.length) = (M : Int)) := hsh; obtain ⟨L, hLe⟩ : ∃ L, L = ps.length := ⟨_, rfl⟩; rw [← hLe] at HLe HSh; (have hLI : (L : Int) ≤ 10 := by omega); have hsh := HSh.out; clear hM hM1 hM2 hLe hL htab ht hf HSh
  go_enter Try.func89, Try.ntmps89
  go_wp2_with fail; refine HLe.out.mono ?_; rintro _ w9 ⟨rfl, e9⟩
  replace e9 := e9.symm
  subst e9; go_wp2_with fail; clear hsh
  go_loopg [8, 3, 4] M (fun gg cc x y wr => ∃ i ad cp, i ≤ M ∧ gg = M - i ∧ cc = .int .u64 (i : Nat) ∧ x = .slice ad (whol ps i).length cp ∧ Hid (wr.ownsRow w.heap.size 104 3 (.slice ad (whol ps i).length cp) (whol ps i).length (encW ps (whol ps i))) ∧ Hid (Below w.heap.size w wr))
  case atStart => exact ⟨0, none, 0, by omega, by omega, rfl, rfl, ⟨rfl, Or.inl ⟨rfl, rfl⟩⟩, Below.refl _ _⟩
  case round =>
    obtain ⟨i, ad, cp, hi, hg, rfl, rfl, HOw, HB⟩ := hrel; have HGk : Hid (gk = M - i) := hg; clear hg; by_cases hlt : i < M
    · have hltI : (i : Int) < (M : Int) := by omega
      have HIl : Hid (i < M) := hlt; (have H1 : Hid (∀ w', Below w.heap.size w w' → Calls Try.prog 108 #[.int .u64 (i : Nat), .pointer (some ⟨bt, 0, none⟩)] w' _) := fun w' hb => HI.out i hlt w' hb); (have H2 : Hid (∀ w', Below w.heap.size w w' → Calls Try.prog 109 #[.int .u64 (i : Nat), .pointer (some ⟨bt, 0, none⟩)] w' _) := fun w' hb => HW.out i hlt w' hb); (have HSc : Hid (whol ps (i + 1) = if wholeB ps i = true then whol ps i ++ [i] else whol ps i) := whol_succ ps i); have HLn : Hid ((whol ps i).length ≤ i) := whol_len ps i; unfold WV at H2; generalize whol ps i = LL at *; (have hlnI : (LL.length : Int) ≤ 1024 := by have := HLn.out; have := HM.out; omega); clear hlt hi; go_wp2_with fail; refine (H1.out _ HB.out).mono ?_; rintro _ w1 ⟨rfl, hb1⟩; have HB1 : Hid (Below w.heap.size w w1) := below_join HB.out hb1; have HO1 : Hid (w1.ownsRow w.heap.size 104 3 (.slice ad LL.length cp) LL.length (encW ps LL)) := rowM_up HOw.out hb1; clear hb1; by_cases hp : wholeB ps i = true
      · rw [hp] at HSc ⊢
        obtain ⟨i0, hi0, hz0, hz1, hz2⟩ := infoW; clear hp; go_wp2_with fail; refine (H2.out _ HB1.out).mono ?_; rintro _ w2 ⟨rfl, hb2⟩; have HB2 : Hid (Below w.heap.size w w2) := below_join HB1.out hb2; have HO2 : Hid (w2.ownsRow w.heap.size 104 3 (.slice ad LL.length cp) LL.length (encW ps LL)) := rowM_up HO1.out hb2; clear hb2; obtain ⟨wa, hwa⟩ : ∃ wa, wa = bm ps.length (wnB ps i) := ⟨_, rfl⟩; obtain ⟨sa, hsa⟩ : ∃ sa, sa = bm ps.length (swB ps i) := ⟨_, rfl⟩; rw [← hwa, ← hsa]; (have HEn : Hid (encW ps LL ++ [.int .u64 (i : Nat), .int .u64 (wa : Nat), .int .u64 (sa : Nat)] = encW ps (LL ++ [i])) := by show _ = _; rw [hwa, hsa, encW_app]; rfl); clear hwa hsa
        go_wp2_with (first
          | (at_builtin
             have hsz := HB2.out.size; have hlm := HLn.out; have hnm := HM.out; have hil := HIl.out; have hown := rowM_up HO2.out ((Below.refl _ w2).alloc (Nat.le_refl _) (.cells #[.int .u64 (i : Nat), .int .u64 (wa : Nat), .int .u64 (sa : Nat)] 104 (0, 0))); (refine wpList_append_lies _ rfl _ _ 137 rfl w.heap.size 104 i0 (.agg #[.int .u64 0, .int .u64 0, .int .u64 0]) 3 24 Try.underlying137 hi0 hz0 hz1 hz2 rfl (by decide) (.slice ad LL.length cp) LL.length (encW ps LL) rfl hown ⟨w2.heap.size, 0, none⟩ 1 1 [.int .u64 (i : Nat), .int .u64 (wa : Nat), .int .u64 (sa : Nat)] rfl rfl ?_ ?_ (by omega) (by unfold maxLen; omega) (by omega) (by simp; omega) _ rfl ?_)
             · intro j u hu
               rw [add_none, Nat.zero_add, blk_cell (blk_new w2 _)]; simpa using hu
             · intro u hu
               simp at hu
               rcases hu with rfl | rfl | rfl <;> rfl
             intro g3 cp3 w3 hown3 hgrow hat hlt3; have hgrow' : (w2.alloc (.cells #[.int .u64 (i : Nat), .int .u64 (wa : Nat), .int .u64 (sa : Nat)] 104 (0, 0))).grownBy w3 (Value.slice ad LL.length cp).ownBlock := hgrow; have hlt' := HO2.out.lt; (have HB3 : Hid (Below w.heap.size w w3) := ((HB2.out.alloc hsz _).grown hgrow' (by simp; omega) fun k hk => by have := (hlt' k hk).1; omega)); have HOw3 : Hid (w3.ownsRow w.heap.size 104 3 (.slice (some ⟨g3, 0, none⟩) (LL.length + 1) cp3) (LL.length + 1) (encW ps LL ++ [.int .u64 (i : Nat), .int .u64 (wa : Nat), .int .u64 (sa : Nat)])) := hown3
             clear hgrow hgrow' hat hown3 hown hlt' hsz hlt3 hi0 hz0 hz1 hz2 hlm hnm hil)
          | fail)
        (have HSc9 : whol ps (i + 1) = LL ++ [i] := by rw [HSc.out]; rfl); (have hl9 : (whol ps (i + 1)).length = LL.length + 1 := by rw [HSc9]; simp)
        go_roundg (M - (i + 1))
        case measure => have := HGk.out; have := HIl.out; omega
        case rel =>
          (refine ⟨i + 1, some ⟨g3, 0, none⟩, cp3, HIl.out, rfl, by go_num, by rw [hl9], ?_, HB3⟩); rw [hl9, HSc9, ← HEn.out]; exact HOw3
      · have hpf : wholeB ps i = false := by simpa using hp
        rw [hpf] at HSc ⊢; clear hp hpf; go_wp2_with fail; (have HSc9 : whol ps (i + 1) = LL := by rw [HSc.out]; rfl)
        go_roundg (M - (i + 1))
        case measure => have := HGk.out; have := HIl.out; omega
        case rel => exact ⟨i + 1, ad, cp, HIl.out, rfl, by go_num, by rw [HSc9], by rw [HSc9]; exact HO1, HB1⟩
    · have hii : M = i := by omega
      subst hii; (have hge : ¬ (M : Int) < (M : Int) := by omega); have hln := whol_len ps M; obtain ⟨hcp, hcx⟩ := rowM_caps HOw.out; obtain ⟨g, rest, rfl, hgB, hsr⟩ := SRow.own HOw.out HNe.out; generalize hLL : whol ps M = LL at *; (have HLL : Hid (LL.length ≤ cp ∧ cp ≤ maxLen ∧ LL.length ≤ 1024 ∧ w.heap.size ≤ g) := ⟨hcp, hcx, by have := HM.out; omega, hgB⟩); have HSr : Hid (SRow ps wr g LL rest) := hsr; clear hlt hi hcp hcx hgB hsr hln; go_wp2_with fail; (refine (HSo.out g cp rest LL (by have := HLL.out; omega) HLL.out.1 wr HSr.out).mono ?_); rintro _ w1 ⟨l1, q1, rfl, q3, q4⟩; (have HQ : Hid (l1.Perm LL ∧ SRow ps w1 g l1 rest ∧ Kept (fun b => b ≠ g) wr w1) := ⟨q1, q3, q4⟩); clear q1 q3 q4; go_wp2_with fail; go_ret; have hlen := HQ.out.1.length_eq; have hll := HLL.out; (refine ⟨g, cp, l1, rest, by rw [hlen]; rfl, HQ.out.2.1, by rw [hLL]; exact HQ.out.1, by omega, hll.2.1, by omega, hll.2.2.2, ?_⟩); have hk := HQ.out.2.2; have hB := HB.out; (exact ⟨hk.os.trans hB.os, hk.tape.trans hB.tape, hk.output.trans hB.output, Nat.le_trans hB.size hk.size, fun b hb => (hk.block b (Nat.lt_of_lt_of_le hb hB.size) (by omega)).trans (hB.block b hb)⟩)
end Go.Proofs.Ytmahgfgndfcmpag
