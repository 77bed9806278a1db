/- Texts of one proof, one behind the other: TP3. -/
import Derived.Test.YtffkoiemnchdgabB38
import Derived.Test.YtffkoiemnchdgabB23
/- Walks: a table of functions of two values (put). -/
namespace Go.Proofs.Ytffkoiemnchdgab
open Go.RowKit

/-- A list of numbers in memory. -/
def IL (w : World) (v : Value) (a : List Nat) : Prop := ∃ ad cap, v = .slice ad a.length cap ∧ a.length ≤ cap ∧ cap ≤ maxLen ∧ (a ≠ [] → ∃ g off, ad = some ⟨g, off, none⟩ ∧ ∀ (j : Nat) (x : Nat), a[j]? = some x → w.cell? ⟨g, off + j, none⟩ = some (.int .i64 (x : Nat)))

theorem pow16 {i : Nat} (h : i ≤ 4) : 2 ^ i ≤ 16 := by
  rcases (by omega : i = 0 ∨ i = 1 ∨ i = 2 ∨ i = 3 ∨ i = 4) with rfl | rfl | rfl | rfl | rfl <;> decide
theorem wrap_sum {a i : Nat} (ha : a ≤ 16) (hi : i ≤ 4) : wrap64 ((a : Int) + wrap64 ((2 : Int) ^ i)) = ((a + 2 ^ i : Nat) : Int) := by
  have h := pow16 hi; (rw [(shl_row i (by omega)).1]); generalize 2 ^ i = p at *; unfold wrap64; omega
def argN (a : List Nat) (i : Nat) : Nat := a.getD i 0

set_option maxHeartbeats 4000000 in
theorem put_walk (t : Tb) (hok : t.Ok) (a : List Nat) (ha : a.length = t.n) (h16 : ∀ x ∈ a, x < 16) (v u : Value) (w : World) (h : TR w t v) (hu : IL w u a) :
    Calls Try.prog 39 #[v, u] w fun e w' => e = .returned (.int .i64 (putT t (argN a) : Nat)) ∧ Below w.heap.size w w' := by
  obtain ⟨g, off, cap, rfl, hc, hcells⟩ := h.cells hok; obtain ⟨ad, cp, rfl, hu1, hu2, hu3⟩ := hu; have hl := hok.len; obtain ⟨hn4, hlen⟩ := hok; have q0 := blk_new w (.cells #[.int .i64 (t.n : Nat), .slice (some ⟨g, off, none⟩) t.bits.length cap] 33 (0, 0)); have B0 := below_more (Below.refl _ w) (.cells #[.int .i64 (t.n : Nat), .slice (some ⟨g, off, none⟩) t.bits.length cap] 33 (0, 0)); have HCe : Hid (∀ j, j < t.bits.length → w.cell? ⟨g, off + j, none⟩ = some (.bool (t.bits.getD j false))) := hcells; have HU3 : Hid (a ≠ [] → ∃ g off, ad = some ⟨g, off, none⟩ ∧ ∀ (j : Nat) (x : Nat), a[j]? = some x → w.cell? ⟨g, off + j, none⟩ = some (.int .i64 (x : Nat))) := hu3; have H16 : Hid (∀ x ∈ a, x < 16) := h16; have HLn : Hid (t.bits.length = 2 ^ t.n) := hlen; have HA : Hid (a.length = t.n) := ha; (have HAt : Hid (∀ v, t.at v = t.bits.getD (idx t.n v) false) := fun _ => rfl); (have HPt : Hid (putT t (argN a) = idx 4 fun r => t.at fun i => (argN a i).testBit r) := rfl); generalize putT t (argN a) = res at *; clear hlen ha h16 hu3 hcells h; generalize hM : t.bits.length = M at *; clear hM; (have hMI : (M : Int) ≤ 16 := by omega); (have hlI : (a.length : Int) ≤ 4 := by have := HA.out; omega)
  go_enter Try.func39, Try.ntmps39
  go_wp2_with fail
  go_loopg [6, 5] 4 (fun gk c o wr => ∃ r, r ≤ 4 ∧ gk = 4 - r ∧ c = .int .i64 (r : Nat) ∧ o = .int .i64 (idx r (fun r => t.at fun i => (argN a i).testBit r) : Nat) ∧ Below w.heap.size w wr ∧ wr.heap[w.heap.size]? = some (.cells #[.int .i64 (t.n : Nat), .slice (some ⟨g, off, none⟩) M cap] 33 (0, 0)))
  case atStart => exact ⟨0, by omega, by omega, rfl, rfl, B0, q0⟩
  case round =>
    obtain ⟨r, hr, hg, rfl, rfl, hbr, q1⟩ := hrel; have HG : Hid (gk = 4 - r) := hg; clear hg; (have hI1 := idx_lt r (fun r => t.at fun i => (argN a i).testBit r)); have hI2 := pow16 hr; by_cases hlt : r < 4
    · have hltI : (r : Int) < 4 := by omega
      (have HI : Hid (idx (r + 1) (fun r => t.at fun i => (argN a i).testBit r) = idx r (fun r => t.at fun i => (argN a i).testBit r) + if (t.at fun i => (argN a i).testBit r) then 2 ^ r else 0) := rfl); (have hIb : idx r (fun r => t.at fun i => (argN a i).testBit r) ≤ 16 := by omega); (generalize idx r (fun r => t.at fun i => (argN a i).testBit r) = o at *); obtain ⟨W0, hW0⟩ : ∃ W0, W0 = wr := ⟨_, rfl⟩; subst hW0; clear hI1 hI2; go_wp2_with fail
      go_loopg [8, 7] a.length (fun gk c kk wr => ∃ i, i ≤ a.length ∧ gk = a.length - i ∧ c = .int .i64 (i : Nat) ∧ kk = .int .i64 (idx i (fun i => (argN a i).testBit r) : Nat) ∧ wr = W0)
      case atStart => exact ⟨0, by omega, by omega, rfl, rfl, rfl⟩
      case round =>
        obtain ⟨i, hi, hg2, rfl, rfl, hw⟩ := hrel; have HG2 : Hid (gk = a.length - i) := hg2; have hw' := hw.symm; subst hw'; clear hg2; (have hK1 := idx_lt i (fun i => (argN a i).testBit r)); (have hK2 := pow16 (i := i) (by omega)); by_cases hia : i < a.length
        · obtain ⟨x, hx⟩ : ∃ x, a[i]? = some x := ⟨_, List.getElem?_eq_getElem hia⟩
          (obtain ⟨g2, off2, rfl, hc2⟩ := HU3.out (fun e => by rw [e] at hia; simp at hia)); have g0 := (hbr.cell (p := ⟨g2, off2 + i, none⟩) (lt_of_cell (hc2 i x hx))).trans (hc2 i x hx); have hx16 := H16.out x (List.mem_of_getElem? hx); (have hdb := digit_bit x r (by omega)); (rw [Nat.min_eq_left (by omega)] at hdb); (have hax : argN a i = x := by unfold argN; rw [List.getD_eq_getElem?_getD, hx]; rfl)
          have HK : Hid (idx (i + 1) (fun i => (argN a i).testBit r) = idx i (fun i => (argN a i).testBit r) + if x.testBit r then 2 ^ i else 0) := by
            show _ = _; rw [idx, hax]
          (have hKb : idx i (fun i => (argN a i).testBit r) ≤ 16 := by omega); (have hsh := (shl_row i (by have := HA.out; omega)).1); (generalize idx i (fun i => (argN a i).testBit r) = kk at *); (have hiI : (i : Int) < (a.length : Int) := by omega); (have hicI : (i : Int) < (cp : Int) := by omega); (have hrI : (0 : Int) ≤ (r : Int) := by omega); clear hc2 hx hax HU3 hK1
          cases hb : x.testBit r
          · rw [hb] at hdb
            have HK' : Hid (kk = idx (i + 1) (fun i => (argN a i).testBit r)) := by
              show _ = _; have := HK.out; rw [hb] at this; simpa using this.symm
            clear HK hb; go_wp2_with fail
            go_roundg (a.length - (i + 1))
            case measure => have := HG2.out; omega
            case rel => exact ⟨i + 1, by omega, rfl, by go_num, by rw [← HK'.out], rfl⟩
          · rw [hb] at hdb
            have HK' : Hid (wrap64 ((kk : Int) + wrap64 ((2 : Int) ^ i)) = ((idx (i + 1) (fun i => (argN a i).testBit r) : Nat) : Int)) := by
              show _ = _; have := HK.out; rw [hb, if_pos rfl] at this; (rw [this, wrap_sum hKb (by omega)])
            clear HK hb hsh; go_wp2_with fail
            go_roundg (a.length - (i + 1))
            case measure => have := HG2.out; omega
            case rel => exact ⟨i + 1, by omega, rfl, by go_num, by rw [← HK'.out], rfl⟩
        · have hin : i = a.length := by omega
          (have hge : ¬ (i : Int) < (a.length : Int) := by omega); (have hge2 : ¬ (a.length : Int) < (a.length : Int) := by omega); subst hin
          have hidx : idx a.length (fun i => (argN a i).testBit r) < M := by
            rw [HA.out] at hK1 ⊢; have := HLn.out; omega
          (have g0 := (hbr.cell (p := ⟨g, off + idx a.length (fun i => (argN a i).testBit r), none⟩) (lt_of_cell (HCe.out _ hidx))).trans (HCe.out _ hidx))
          have HF : Hid ((t.at fun i => (argN a i).testBit r) = t.bits.getD (idx a.length (fun i => (argN a i).testBit r)) false) := by
            show _ = _; rw [HAt.out, HA.out]
          obtain ⟨a0, a1, -⟩ := blk2 q1; (generalize t.bits.getD (idx a.length (fun i => (argN a i).testBit r)) false = bb at *); (generalize idx a.length (fun i => (argN a i).testBit r) = kk at *); (have hkI : (kk : Int) < (M : Int) := by omega); (have hkc : (kk : Int) < (cap : Int) := by omega); clear hidx hK1 hK2 HU3
          cases bb
          · have HO : Hid (o = idx (r + 1) (fun r => t.at fun i => (argN a i).testBit r)) := by
              show _ = _; have := HI.out; rw [HF.out] at this; simpa using this.symm
            clear HI HF; go_wp2_with fail
            go_roundg (4 - (r + 1))
            case measure => have := HG.out; omega
            case rel => exact ⟨r + 1, by omega, rfl, by go_num, by rw [← HO.out], hbr, q1⟩
          · have HO : Hid (wrap64 ((o : Int) + wrap64 ((2 : Int) ^ r)) = ((idx (r + 1) (fun r => t.at fun i => (argN a i).testBit r) : Nat) : Int)) := by
              show _ = _; have := HI.out; rw [HF.out, if_pos rfl] at this; (rw [this, wrap_sum hIb (by omega)])
            clear HI HF; go_wp2_with fail
            go_roundg (4 - (r + 1))
            case measure => have := HG.out; omega
            case rel => exact ⟨r + 1, by omega, rfl, by go_num, by rw [← HO.out], hbr, q1⟩
    · have hr4 : r = 4 := by omega
      subst hr4; (have HO : Hid (res = idx 4 (fun r => t.at fun i => (argN a i).testBit r)) := HPt); (generalize idx 4 (fun r => t.at fun i => (argN a i).testBit r) = o at *); go_wp2_with fail; go_ret; (exact ⟨by rw [HO.out]; rfl, hbr⟩)
end Go.Proofs.Ytffkoiemnchdgab
