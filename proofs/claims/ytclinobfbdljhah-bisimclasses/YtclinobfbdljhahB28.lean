/- Texts of one proof, one behind the other: SB7. -/
import Derived.Test.YtclinobfbdljhahB26
/- Walks: numbers of what parts worlds (numberOf at sights). -/
namespace Go.Proofs.Ytclinobfbdljhah
open Go.RowKit Go.Maps Go.WideMaps

theorem laidS : laidOutB Try.prog = true := by kernel_rfl
theorem sightLaw : Keyed Try.prog 165 := Keyed.of_law (deep_law_laid laidS (m := 3) (by omega) (of_decide_eq_true (by kernel_rfl)) (by kernel_rfl) (by kernel_rfl))
def sightLits (p : Nat × Nat) : List Lit := [.int .i64 (p.1 : Nat), .int .u64 (p.2 : Nat)]
def sightKey (p : Nat × Nat) : Lit := .string (keyBytes (sightLits p))
def OkS2 (p : Nat × Nat) : Prop := p.1 < 1099511627776 ∧ p.2 < 1099511627776
theorem wf_u64n {n : Nat} (h : n < 1099511627776) : (Lit.int .u64 (n : Nat)).wf = true := WalkArith.wf_u64 (by omega)
theorem keySight (p : Nat × Nat) (h : OkS2 p) : keyOf Try.prog 165 (.agg #[.int .i64 (p.1 : Nat), .int .u64 (p.2 : Nat)]) = some (sightKey p) := by
  obtain ⟨c, s⟩ := p; (have hc : (Lit.int .i64 (c : Nat)).wf = true := WalkArith.wf_i64 (by have := h.1; simp only at this; omega)); have hs : (Lit.int .u64 (s : Nat)).wf = true := wf_u64n h.2; (have h1 : Try.prog.keyType 165 = true := by kernel_rfl); (have h2 : (Value.agg #[.int .i64 (c : Nat), .int .u64 (s : Nat)]).formed Try.prog 165 = true := by kernel_rfl); (obtain ⟨d, hd⟩ : ∃ d, Try.prog.types.size = d + 2 := ⟨Try.prog.types.size - 2, by kernel_rfl⟩); unfold keyOf; rw [Try.underlying165]; simp only [h1, h2, hd]; (have c1 : Try.prog.cellsOf 3 = 1 := by kernel_rfl); (have c2 : Try.prog.cellsOf 71 = 1 := by kernel_rfl); (have c4 : Try.prog.cellsOf 165 = 2 := by kernel_rfl); simp [Program.keyLits, Value.cells, sightLits, sightKey, Try.underlying165, Try.underlying3, Try.underlying71, c1, c2, c4, hc, hs]
theorem sightKey_inj (p q : Nat × Nat) (hp : OkS2 p) (hq : OkS2 q) (e : sightKey p = sightKey q) : p = q := by
  (have e' : keyBytes (sightLits p) = keyBytes (sightLits q) := by unfold sightKey at e; injection e)
  have h := keyBytes_inj (l := sightLits p) (l' := sightLits q) ⟨rfl, rfl, trivial⟩ (by
    intro x hx; simp [sightLits] at hx
    rcases hx with rfl | rfl
    · exact WalkArith.wf_i64 (by have := hp.1; omega)
    · exact wf_u64n hp.2) (by
    intro x hx; simp [sightLits] at hx
    rcases hx with rfl | rfl
    · exact WalkArith.wf_i64 (by have := hq.1; omega)
    · exact wf_u64n hq.2) e'
  simp only [sightLits, List.cons.injEq, Lit.int.injEq, true_and, and_true] at h; (exact Prod.ext (by exact_mod_cast h.1) (by exact_mod_cast h.2))
abbrev NuS (w : World) (b : Nat) (l : List (Nat × Nat)) : Prop := NuM 165 sightKey OkS2 w b l
set_option maxRecDepth 10000 in
set_option maxHeartbeats 4000000 in
theorem numberS_any (p : Nat × Nat) (hok : OkS2 p) (b : Nat) (l : List (Nat × Nat)) (hl : l.length ≤ 1000) (w : World) (h0 : NuS w b l) :
    Calls Try.prog 113 #[.agg #[.int .i64 (p.1 : Nat), .int .u64 (p.2 : Nat)], .map (some b)] w fun e w' => e = .returned (.int .i64 (nuK l p : Nat)) ∧ NuS w' b (extK l [p]) ∧ Kept (fun x => x ≠ b) w w' := by
  have hkey := keySight p hok; obtain ⟨X, hX⟩ : ∃ X, X = w.alloc (.cells #[.int .i64 (p.1 : Nat), .int .u64 (p.2 : Nat)] 165 (0, 0)) := ⟨_, rfl⟩; (have hxb : X.heap[w.heap.size]? = some (.cells #[.int .i64 (p.1 : Nat), .int .u64 (p.2 : Nat)] 165 (0, 0)) := by rw [hX]; exact blk_new _ _); (have h : NuS X b l := NuM.same h0 (by rw [hX]; exact Below.heap_alloc _ _ _ (NuM.lt h0))); have hbn : b ≠ w.heap.size := Nat.ne_of_lt (NuM.lt h0); (have HB : Hid (Below w.heap.size w X) := by rw [hX]; exact below_more (Below.refl _ w) _); have HXe : Hid (w.alloc (.cells #[.int .i64 (p.1 : Nat), .int .u64 (p.2 : Nat)] 165 (0, 0)) = X) := hX.symm; have hlB : b < X.heap.size := NuM.lt h; obtain ⟨g0, g1, -⟩ := blk2 hxb; obtain ⟨c, d, hci, hcn, hlk⟩ := NuM.look sightLaw Try.underlying162 h hok hkey; have hlk0 : (Instr.lookup 162 (.map (some b)) (.agg #[.int .i64 (p.1 : Nat), .int .u64 (p.2 : Nat)]) true).run Try.prog X = .ok (.tuple #[.int .i64 c, .bool d]) X := hlk 0; obtain ⟨n, D, hown, hn, hsz, hh1, hh2, hh3⟩ := h; have HM : Hid (NuS X b l) := ⟨n, D, hown, hn, hsz, hh1, hh2, hh3⟩; (have HN : Hid (p ∉ l → ∀ w', w'.ownsMap Try.prog 165 (plainElem Try.prog 3) b (n + 1) (D.put (sightKey p) (.lit (.int .i64 (l.length : Nat)))) → NuS w' b (l ++ [p])) := fun hnl w' hw' => NuM.snoc (key := sightKey) sightKey_inj (fun a => by unfold sightKey; first | trivial | exact True.intro | simp [WideAt.IsKeyLit]) hok hnl hn (hown.tidy sightLaw) hown.isMap hsz hh1 hh2 hh3 hw'); (have hnm : n < maxLen := by unfold maxLen; omega); have HBn : Hid (b ≠ w.heap.size) := hbn; clear hX hlk hh1 hh2 hh3 h0 hxb hbn
  go_enter Try.func113, Try.ntmps113
  go_upto_region 1 with fail
  rw [HXe.out]; by_cases hin : p ∈ l
  · obtain ⟨rfl, rfl⟩ := hci hin
    (have HR : Hid (nuK l p = ixK l p) := by show _ = _; rw [nuK, if_pos hin]); (have HE : Hid (extK l [p] = l) := by show _ = _; rw [extK_one, if_pos hin]); clear hci hcn hin hown hkey hsz; go_wp2_with fail; go_ret; (exact ⟨by rw [HR.out]; rfl, by rw [HE.out]; exact HM.out, kept_of_below HB.out fun _ h _ => h⟩)
  · have hd := hcn hin
    subst hd; (have HR : Hid (nuK l p = l.length) := by show _ = _; rw [nuK, if_neg hin]); (have HE : Hid (extK l [p] = l ++ [p]) := by show _ = _; rw [extK_one, if_neg hin]); have HN2 := HN.out hin; clear hci hcn hin
    go_wp2_with (first
      | (at_len; refine wpList_len_own _ rfl _ 162 rfl 165 3 Try.underlying162 _ b n D rfl hown ?_; rw [hsz])
      | (at_mapUpdate
         (refine wpList_mapUpdate_own _ rfl _ _ _ 162 rfl 165 3 sightLaw Try.underlying162 _ b n _ rfl hown hnm _ _ _ rfl rfl hkey _ [] (plainElem_int Try.underlying3 (WalkArith.wf_i64 (by omega))) ?_); intro w1 hown1 hgrow1; have HR1 : Hid (NuS w1 b (l ++ [p])) := HN2 _ hown1; have HG1 : Hid (X.grownBy w1 (some b)) := hgrow1
         clear hown1 hgrow1)
      | fail)
    go_ret; (refine ⟨by rw [HR.out]; rfl, by rw [HE.out]; exact HR1.out, ?_⟩); (have h1 : Kept (fun x => x ≠ b) X w1 := kept_grownS HG1.out); (exact ⟨h1.os.trans HB.out.os, h1.tape.trans HB.out.tape, h1.output.trans HB.out.output, Nat.le_trans HB.out.size h1.size, fun x hx hn => (h1.block x (Nat.lt_of_lt_of_le hx HB.out.size) hn).trans (HB.out.block x hx)⟩)
end Go.Proofs.Ytclinobfbdljhah
