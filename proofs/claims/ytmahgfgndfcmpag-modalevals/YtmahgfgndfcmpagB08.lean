/- Texts of one proof, one behind the other: Swaps1, ME3, ME4, MS1. -/
import Derived.Test.YtmahgfgndfcmpagB04
import Derived.Deep.RegionLaw
import Derived.Deep.DeepCutAuto
import Derived.Test.YtmahgfgndfcmpagB01
import Derived.Deep.QuietTactic
import Derived.BigQuiet
/- Walks: what FormulaSwaps calls. -/
namespace Go.Proofs.Ytmahgfgndfcmpag
open Go.RowKit

theorem txt_eq (a b : List UInt8) : ((⟨a.toArray⟩ : ByteArray).toList = (⟨b.toArray⟩ : ByteArray).toList) ↔ a = b := by
  rw [ByteArray.toList_eq, ByteArray.toList_eq]

set_option maxHeartbeats 1000000 in
theorem hasText_any (l : List (List UInt8)) (t : List UInt8) (v : Value) (w : World) (h : TL w v l) :
    Calls Try.prog 46 #[v, .string ⟨t.toArray⟩] w fun e w' => e = .returned (.bool (decide (t ∈ l))) ∧ w' = w := by
  obtain ⟨ad, cap, rfl, h1, h2, h3⟩ := h; (have hlI : (l.length : Int) ≤ 9223372036854775807 := by unfold maxLen at h2; omega); have H3 : Hid (l ≠ [] → ∃ g, ad = some ⟨g, 0, none⟩ ∧ ∀ (j : Nat) (t : List UInt8), l[j]? = some t → w.cell? ⟨g, j, none⟩ = some (.string ⟨t.toArray⟩)) := h3; clear h3
  go_enter Try.func46, Try.ntmps46
  go_wp2_with fail
  go_loopg [5] l.length (fun g c wr => ∃ i, i ≤ l.length ∧ g = l.length - i ∧ c = .int .i64 (i : Nat) ∧ wr = w ∧ Hid (t ∉ l.take i))
  case atStart => exact ⟨0, by omega, by omega, rfl, rfl, by show _ ∉ _; simp⟩
  case round =>
    obtain ⟨i, hi, hg, rfl, rfl, HN⟩ := hrel; have HG : Hid (gk = l.length - i) := hg; clear hg; by_cases hlt : i < l.length
    · obtain ⟨x, hx⟩ : ∃ x, l[i]? = some x := ⟨_, List.getElem?_eq_getElem hlt⟩
      (obtain ⟨g, rfl, hc⟩ := H3.out (fun e => by rw [e] at hlt; simp at hlt)); have g0 := hc i x hx; (have hltI : (i : Int) < (l.length : Int) := by omega); (have hlc : (i : Int) < (cap : Int) := by omega); have HX : Hid (l[i]? = some x) := hx; clear hc hx H3; by_cases hxt : x = t
      · subst hxt
        have HD : Hid (decide (x ∈ l) = true) := by
          show _ = _; exact decide_eq_true (List.mem_of_getElem? HX.out)
        go_wp2_with fail; go_ret; (exact ⟨by rw [HD.out]; rfl, rfl⟩)
      · have hne : ((⟨x.toArray⟩ : ByteArray).toList == (⟨t.toArray⟩ : ByteArray).toList) = false := by
          rw [beq_eq_false_iff_ne, Ne, txt_eq]; exact hxt
        have HNN : Hid (t ∉ l.take (i + 1)) := by
          show _ ∉ _; rw [List.take_add_one, HX.out]; intro hm
          rcases List.mem_append.1 hm with h | h
          · exact HN.out h
          · simp at h; exact hxt h.symm
        generalize hb : (⟨x.toArray⟩ : ByteArray) = X at *; generalize hb2 : (⟨t.toArray⟩ : ByteArray) = Y at *; clear hb hb2 HX; go_wp2_with fail
        go_roundg (l.length - (i + 1))
        case measure => have := HG.out; omega
        case rel => exact ⟨i + 1, by omega, rfl, by go_num, rfl, HNN⟩
    · have HD : Hid (decide (t ∈ l) = false) := by
        show _ = _; have := HN.out; (rw [List.take_of_length_le (by omega)] at this); exact decide_eq_false this
      (have hge : ¬ (i : Int) < (l.length : Int) := by omega); clear H3 HN; go_wp2_with fail; go_ret; (exact ⟨by rw [HD.out]; rfl, rfl⟩)

theorem code_zero {f : Fm} (h : f.code.1 = 0) : f.code = (0, 0) := by
  rcases hx : chk f 0 with s | ⟨c, a⟩
  · simp only [Fm.code, hx]
  · have := chk_code f 0 c a hx
    simp only [Fm.code, hx] at h; exact absurd h this
theorem code_chk {f : Fm} (h : f.code = (0, 0)) : ∃ s, chk f 0 = .ok s := by
  rcases hx : chk f 0 with s | ⟨c, a⟩
  · exact ⟨s, rfl⟩
  · have := chk_code f 0 c a hx
    simp only [Fm.code, hx] at h; exact absurd (Prod.mk.inj h).1 this

end Go.Proofs.Ytmahgfgndfcmpag
/- Walks: frames; which worlds are such, by what they see. -/
namespace Go.Proofs.Ytmahgfgndfcmpag
open Go.RowKit

/-- Of each world what it sees, in memory. -/
def FR (w : World) (g N : Nat) (R : Nat → Nat → Bool) : Prop := ∀ u, u < N → w.cell? ⟨g, u, none⟩ = some (.int .u64 (bm N (R u) : Nat))
theorem FR.up {w w' : World} {g N : Nat} {R : Nat → Nat → Bool} (h : FR w g N R) (hb : Below w.heap.size w w') : FR w' g N R := fun u hu => (hb.cell (lt_of_cell (h u hu))).trans (h u hu)
/-- What is asked of what a world sees: it only makes memory. -/
structure AskS (N fn : Nat) (cap : Array Value) (q : (Nat → Bool) → Bool) (Ok : World → Prop) : Prop where
  up : ∀ {w w' : World}, Ok w → Below w.heap.size w w' → Ok w'
  ent : ∀ (v : Value) (w : World), (callFunc fn (#[v] ++ cap)).run Try.prog w = .ok (.enter fn (#[v] ++ cap)) w
  call : ∀ (P : Nat → Bool) (w : World), Ok w → Calls Try.prog fn (#[.int .u64 (bm N P : Nat)] ++ cap) w fun e w' => e = .returned (.bool (q P)) ∧ Below w.heap.size w w'
theorem set_with1x {N : Nat} (hN : N ≤ 40) (P : Nat → Bool) {x : Nat} (hx : x = bm N P) (n b : Nat) (hn : n < N) (w : World) (hc : w.cell? ⟨b, 0, none⟩ = some (.int .i64 (n : Nat))) :
    Calls Try.prog 32 #[.int .u64 (x : Nat), .slice (some ⟨b, 0, none⟩) 1 1] w fun e w' => e = .returned (.int .u64 (bm N (fun i => P i || i == n) : Nat)) ∧ w' = w := by
  rw [hx]; exact set_with1 hN P n b hn w hc
set_option maxHeartbeats 2000000 in
theorem those_any {N fn : Nat} (hN : N ≤ 40) {cap : Array Value} {q : (Nat → Bool) → Bool} {Ok : World → Prop} (A : AskS N fn cap q Ok) (g : Nat) (R : Nat → Nat → Bool) (w : World) (hF : FR w g N R) (hok : Ok w) :
    Calls Try.prog 58 #[.slice (some ⟨g, 0, none⟩) N N, .func (.func fn) #[] cap] w fun e w' => e = .returned (.int .u64 (bm N (fun u => q (R u)) : Nat)) ∧ Below w.heap.size w w' := by
  (have hNI : (N : Int) ≤ 40 := by omega); have hcf := A.ent; (have HA : Hid (∀ (P : Nat → Bool) (w : World), Ok w → Calls Try.prog fn (#[.int .u64 (bm N P : Nat)] ++ cap) w fun e w' => e = .returned (.bool (q P)) ∧ Below w.heap.size w w') := A.call); have HU : Hid (∀ {w w' : World}, Ok w → Below w.heap.size w w' → Ok w') := A.up; have HF : Hid (FR w g N R) := hF; have HO : Hid (Ok w) := hok; have HN : Hid (N ≤ 40) := hN; clear hF hok A hN
  go_enter Try.func58, Try.ntmps58
  go_wp2_with fail
  go_loopg [10, 5] N (fun gg c s wr => ∃ i x, i ≤ N ∧ gg = N - i ∧ c = .int .i64 (i : Nat) ∧ s = .int .u64 (x : Nat) ∧ Hid (x = bm N fun u => decide (u < i) && q (R u)) ∧ Hid (Below w.heap.size w wr))
  case atStart => exact ⟨0, 0, by omega, by omega, rfl, rfl, by show _ = _; exact (bm_none N).symm.trans (bm_ext fun k _ => by simp), Below.refl _ _⟩
  case round =>
    obtain ⟨i, x, hi, hg, rfl, rfl, HX, HB⟩ := hrel; have HGk : Hid (gk = N - i) := hg; clear hg; by_cases hlt : i < N
    · have hltI : (i : Int) < (N : Int) := by omega
      have c0 := HF.out.up HB.out i hlt; have HC : Hid (Calls Try.prog fn (#[.int .u64 (bm N (R i) : Nat)] ++ cap) wr _) := HA.out (R i) wr (HU.out HO.out HB.out); have HI : Hid (i < N) := hlt; obtain ⟨y, hy⟩ : ∃ y, y = bm N (R i) := ⟨_, rfl⟩; rw [← hy] at c0 HC; obtain ⟨bb, hbb⟩ : ∃ bb, bb = q (R i) := ⟨_, rfl⟩; rw [← hbb] at HC; have HBB : Hid (bb = q (R i)) := hbb; clear hlt hi hy hbb; go_wp2_with fail; refine HC.out.mono ?_; rintro _ w1 ⟨rfl, hb1⟩; have HB1 : Hid (Below w.heap.size w w1) := below_join HB.out hb1; clear hb1 c0
      cases bb
      · go_wp2_with fail
        go_roundg (N - (i + 1))
        case measure => have := HGk.out; have := HI.out; omega
        case rel =>
          (refine ⟨i + 1, x, HI.out, rfl, by go_num, rfl, ?_, HB1⟩); show _ = _; rw [HX.out]; (refine bm_ext fun u _ => ?_); by_cases e : u = i
          · subst e; simp [← HBB.out]
          · have : decide (u < i + 1) = decide (u < i) := by rw [decide_eq_decide]; omega
            rw [this]
      · have HY : Hid (Calls Try.prog 32 #[.int .u64 (x : Nat), .slice (some ⟨w1.heap.size, 0, none⟩) 1 1] (w1.alloc (.cells #[.int .i64 (i : Nat)] 3 (0, 0))) _) := set_with1x HN.out _ HX.out i w1.heap.size HI.out (w1.alloc (.cells #[.int .i64 (i : Nat)] 3 (0, 0))) (by simp)
        go_wp2_with fail; refine HY.out.mono ?_; rintro _ _ ⟨rfl, rfl⟩; have HB2 : Hid (Below w.heap.size w (w1.alloc (.cells #[.int .i64 (i : Nat)] 3 (0, 0)))) := below_more HB1.out _; clear HY; go_wp2_with fail
        go_roundg (N - (i + 1))
        case measure => have := HGk.out; have := HI.out; omega
        case rel =>
          (refine ⟨i + 1, _, HI.out, rfl, by go_num, rfl, ?_, HB2⟩); show _ = _; (refine bm_ext fun u _ => ?_); by_cases e : u = i
          · subst e; simp [← HBB.out]
          · have : decide (u < i + 1) = decide (u < i) := by rw [decide_eq_decide]; omega
            simp [this, e]
    · have hii : i = N := by omega
      subst hii; (have hge : ¬ (i : Int) < (i : Int) := by omega); clear hlt hi; go_wp2_with fail; go_ret; (refine ⟨congrArg (fun x : Nat => Ending.returned (Value.int .u64 (x : Int))) (HX.out.trans (bm_ext fun u hu => ?_)), HB.out⟩); simp [hu]
end Go.Proofs.Ytmahgfgndfcmpag
/- Walks: where a formula is true. -/
namespace Go.Proofs.Ytmahgfgndfcmpag
open Go.RowKit

/-- What tells of a name where it is true: it only makes memory. -/
structure Hav (N fn : Nat) (cap : Array Value) (p : Nat → List UInt8 → Bool) (Ok : World → Prop) : Prop where
  up : ∀ {w w' : World}, Ok w → Below w.heap.size w w' → Ok w'
  ent : ∀ (v : Value) (w : World), (callFunc fn (#[v] ++ cap)).run Try.prog w = .ok (.enter fn (#[v] ++ cap)) w
  call : ∀ (n : ByteArray) (w : World), Ok w → n.size ≤ 8 → Calls Try.prog fn (#[.string n] ++ cap) w fun e w' => e = .returned (.int .u64 (bm N (fun u => p u n.data.toList) : Nat)) ∧ Below w.heap.size w w'
/-- The worlds below N that u sees, as a list. -/
def seeR (N : Nat) (R : Nat → Nat → Bool) (u : Nat) : List Nat := (List.range N).filter (R u)
/-- Blocks that the two closures of where read. -/
def OkB (cb a0 a1 : Nat) (w : World) : Prop := w.heap[cb]? = some (.cells #[.int .u64 (a0 : Nat), .int .u64 (a1 : Nat)] 108 (0, 0))
set_option maxHeartbeats 1000000 in
theorem where1_any {N : Nat} (hN : N ≤ 40) (cb a1 : Nat) (P Q : Nat → Bool) (w : World) (h : OkB cb (bm N Q) a1 w) :
    Calls Try.prog 59 (#[.int .u64 (bm N P : Nat)] ++ #[.pointer (some ⟨cb, 0, none⟩)]) w fun e w' => e = .returned (.bool (((List.range N).filter P).all Q)) ∧ Below w.heap.size w w' := by
  (have HW : Hid (∀ w, Calls Try.prog 60 _ w _) := fun w => set_within hN P Q w); obtain ⟨c0, c1, -⟩ := blk2 h
  have e : decide (∀ i, i < N → P i = true → Q i = true) = ((List.range N).filter P).all Q := by
    rw [Bool.eq_iff_iff, decide_eq_true_iff, List.all_eq_true]; simp only [List.mem_filter, List.mem_range, and_imp]
  rw [← e]; generalize decide (∀ i, i < N → P i = true → Q i = true) = bb at *; clear e h; show Calls Try.prog 59 #[.int .u64 (bm N P : Nat), .pointer (some ⟨cb, 0, none⟩)] w _
  go_enter Try.func59, Try.ntmps59
  go_wp2_with fail; refine (HW.out w).mono ?_; rintro _ _ ⟨rfl, rfl⟩; go_wp2_with fail; go_ret; exact ⟨rfl, Below.refl _ _⟩
set_option maxHeartbeats 1000000 in
theorem where2_any {N : Nat} (hN : N ≤ 40) (cb a1 : Nat) (P Q : Nat → Bool) (w : World) (h : OkB cb (bm N Q) a1 w) :
    Calls Try.prog 61 (#[.int .u64 (bm N P : Nat)] ++ #[.pointer (some ⟨cb, 0, none⟩)]) w fun e w' => e = .returned (.bool (((List.range N).filter P).any Q)) ∧ Below w.heap.size w w' := by
  obtain ⟨c0, c1, -⟩ := blk2 h; (have ha : bits .and .u64 (bm N P : Nat) (bm N Q : Nat) = ((bm N (fun i => P i && Q i) : Nat) : Int) := by rw [u64_and (bm_small hN P) (bm_small hN Q), bm_and])
  have e : (!(((bm N (fun i => P i && Q i) : Nat) : Int) == 0)) = ((List.range N).filter P).any Q := by
    rw [Bool.eq_iff_iff, List.any_eq_true, Bool.not_eq_true', ← Bool.not_eq_true, beq_iff_eq, Int.natCast_eq_zero, bm_zero]; simp only [List.mem_filter, List.mem_range]
    constructor
    · intro h
      obtain ⟨i, hi⟩ := Classical.not_forall.1 h; obtain ⟨hi1, hi2⟩ := Classical.not_imp.1 hi; simp at hi2; exact ⟨i, ⟨hi1, hi2.1⟩, hi2.2⟩
    · rintro ⟨i, ⟨h1, h2⟩, h3⟩ h
      have := h i h1; simp [h2, h3] at this
  (have HE : Hid ((!(((bm N (fun i => P i && Q i) : Nat) : Int) == 0)) = ((List.range N).filter P).any Q) := e); generalize ((List.range N).filter P).any Q = bb at *; clear e h; show Calls Try.prog 61 #[.int .u64 (bm N P : Nat), .pointer (some ⟨cb, 0, none⟩)] w _
  go_enter Try.func61, Try.ntmps61
  go_wp2_with fail; go_ret; (exact ⟨congrArg (fun b => Ending.returned (Value.bool b)) HE.out, Below.refl _ _⟩)
theorem whereC_in (cap : Array Value) (w : World) : (callFunc 59 cap).run Try.prog w = .ok (.enter 59 cap) w ∧ (callFunc 61 cap).run Try.prog w = .ok (.enter 61 cap) w := by
  constructor <;> simp [go_sem]
theorem asksBox {N : Nat} (hN : N ≤ 40) (cb a1 : Nat) (Q : Nat → Bool) : AskS N 59 #[.pointer (some ⟨cb, 0, none⟩)] (fun P => ((List.range N).filter P).all Q) (OkB cb (bm N Q) a1) where
  up := fun h hb => below_keep hb h
  ent := fun _ w => (whereC_in _ w).1
  call := fun P w hok => where1_any hN cb a1 P Q w hok
theorem asksDia {N : Nat} (hN : N ≤ 40) (cb a1 : Nat) (Q : Nat → Bool) : AskS N 61 #[.pointer (some ⟨cb, 0, none⟩)] (fun P => ((List.range N).filter P).any Q) (OkB cb (bm N Q) a1) where
  up := fun h hb => below_keep hb h
  ent := fun _ w => (whereC_in _ w).2
  call := fun P w hok => where2_any hN cb a1 P Q w hok
def Wheres (N fn : Nat) (cap : Array Value) (p : Nat → List UInt8 → Bool) (Ok : World → Prop) (g : Nat) (R : Nat → Nat → Bool) (m : Nat) : Prop := ∀ (f : Fm) (v : Value) (w : World), f.size < m → Fine f → Rep w (fun _ => True) f v → FR w g N R → Ok w →
  Calls Try.prog 34 #[.slice (some ⟨g, 0, none⟩) N N, v, .func (.func fn) #[] cap] w fun e w' => e = .returned (.int .u64 (bm N (mtv (seeR N R) p f) : Nat)) ∧ Below w.heap.size w w'
theorem fine_kids {k : Int} {n : ByteArray} {ks : List Fm} (h : Fine (.mk k n ks)) : ks.length ≤ 2 := by
  rcases h.forms with ⟨n, e, -⟩ | e | e | ⟨k, g, -, e, -⟩ | ⟨k, g, g', -, e, -, -⟩ <;> cases e <;> simp
theorem kid_size {k : Int} {n : ByteArray} {ks : List Fm} {i : Nat} {f : Fm} (h : ks[i]? = some f) : f.size < (Fm.mk k n ks).size := by
  have hs : ∀ l : List Fm, f ∈ l → f.size ≤ Fm.sizes l := by
    intro l
    induction l with
    | nil => intro h; cases h
    | cons a tl ih =>
      intro h; rw [Fm.sizes]
      rcases List.mem_cons.1 h with rfl | h
      · omega
      · have := ih h; omega
  have := hs ks (List.mem_of_getElem? h); rw [Fm.size]; omega
theorem Below.drewE {B : Nat} {a w : World} (n : Nat) (h : Below B a w) : Below B a (w.drewN n) := ⟨h.os, h.tape, h.output, h.size, h.block⟩
theorem blk_secE (w : World) (o o' : Obj) : ((w.alloc o).alloc o').heap[w.heap.size + 1]? = some o' := by
  have := blk_new (w.alloc o) o'
  rwa [show (w.alloc o).heap.size = w.heap.size + 1 by simp] at this
theorem set_cellE {w : World} {g j : Nat} {C : Array Value} {T : TypeId} (h : w.heap[g]? = some (.cells C T (0, 0))) (u : Value) : (w.setCell ⟨g, j, none⟩ u).heap[g]? = some (.cells (C.setIfInBounds j u) T (0, 0)) := by
  simp [World.setCell, Array.getElem?_modify, h]
set_option maxHeartbeats 4000000 in
theorem where_step {N fn : Nat} (hN : N ≤ 40) {cap : Array Value} {p : Nat → List UInt8 → Bool} {Ok : World → Prop} (A : Hav N fn cap p Ok) (g : Nat) (R : Nat → Nat → Bool) (m : Nat) (ih : Wheres N fn cap p Ok g R m) : Wheres N fn cap p Ok g R (m + 1) := by
  intro f v w hm hfi hrep hF hok; obtain ⟨k, n, ks⟩ := f; obtain ⟨sl, cp, rfl, hns, hkc, hcm, hks⟩ := Rep.def.1 hrep; have hk2 := fine_kids hfi; (have hkI : (ks.length : Int) ≤ 2 := by omega); (have hkcI : (ks.length : Int) ≤ (cp : Int) := by omega); (have hNI : (N : Int) ≤ 40 := by omega); obtain ⟨W, hW⟩ : ∃ W, W = (w.alloc (.cells #[.int .i64 k, .string n, .slice sl ks.length cp] 28 (0, 0))).alloc (.cells #[.int .u64 0, .int .u64 0] 108 (0, 0)) := ⟨_, rfl⟩; (have HB0 : Hid (Below w.heap.size w W) := by rw [hW]; exact below_more (below_more (Below.refl _ w) _) _); (have HQ0 : Hid (W.heap[w.heap.size]? = some (.cells #[.int .i64 k, .string n, .slice sl ks.length cp] 28 (0, 0))) := by rw [hW]; exact alloc_keep (blk_new _ _) _); (have HQ1 : Hid (W.heap[w.heap.size + 1]? = some (.cells #[.int .u64 0, .int .u64 0] 108 (0, 0))) := by rw [hW]; exact blk_secE _ _ _); (have HA : Hid (∀ (n : ByteArray) (w : World), Ok w → n.size ≤ 8 → Calls Try.prog fn (#[.string n] ++ cap) w fun e w' => e = .returned (.int .u64 (bm N (fun u => p u n.data.toList) : Nat)) ∧ Below w.heap.size w w') := A.call); have HU : Hid (∀ {w w' : World}, Ok w → Below w.heap.size w w' → Ok w') := A.up; have hcf := A.ent; (have HIh : Hid (∀ (i : Nat) (f : Fm) (v : Value) (w : World), ks[i]? = some f → Rep w (fun _ => True) f v → FR w g N R → Ok w → Calls Try.prog 34 #[.slice (some ⟨g, 0, none⟩) N N, v, .func (.func fn) #[] cap] w fun e w' => e = .returned (.int .u64 (bm N (mtv (seeR N R) p f) : Nat)) ∧ Below w.heap.size w w') := fun i f v w hi hr hF ho => ih f v w (by have := kid_size (k := k) (n := n) hi; omega) (hfi.kid i f hi) hr hF ho)
  have HKs : Hid (ks ≠ [] → ∃ b off, sl = some ⟨b, off, none⟩ ∧ Reps w (fun _ => True) b off ks) := fun hne => by
    obtain ⟨b, off, e, -, hr⟩ := hks hne; exact ⟨b, off, e, hr⟩
  have HF : Hid (FR w g N R) := hF; have HO : Hid (Ok w) := hok; have HFi : Hid (Fine (.mk k n ks)) := hfi; have HN : Hid (N ≤ 40) := hN; clear ih hfi hF hok hks hkc hcm A hrep hm hN
  go_enter Try.func34, Try.ntmps34
  go_wp2_with fail; rw [← hW]; clear hW
  go_loopg [14] ks.length (fun gg c wr => ∃ i a0 a1, i ≤ ks.length ∧ gg = ks.length - i ∧ c = .int .i64 (i : Nat) ∧ Hid (wr.heap[w.heap.size + 1]? = some (.cells #[.int .u64 (a0 : Nat), .int .u64 (a1 : Nat)] 108 (0, 0))) ∧ Hid (∀ f, 0 < i → ks[0]? = some f → a0 = bm N (mtv (seeR N R) p f)) ∧ Hid (∀ f, 1 < i → ks[1]? = some f → a1 = bm N (mtv (seeR N R) p f)) ∧ Hid (Below (w.heap.size + 1) W wr))
  case atStart => exact ⟨0, 0, 0, by omega, by omega, rfl, HQ1, fun f h => absurd h (by omega), fun f h => absurd h (by omega), Below.refl _ _⟩
  case round =>
    obtain ⟨i, a0, a1, hi, hg, rfl, HOf, HA0, HA1, HBr⟩ := hrel; have HGk : Hid (gk = ks.length - i) := hg; (have HQr : Hid (wr.heap[w.heap.size]? = some (.cells #[.int .i64 k, .string n, .slice sl ks.length cp] 28 (0, 0))) := (HBr.out.block _ (by omega)).trans HQ0.out); (have HBw : Hid (Below w.heap.size w wr) := HB0.out.trans (HBr.out.mono (by omega))); obtain ⟨k0, k1, k2, -⟩ := blk3 HQr.out; clear hg; by_cases hlt : i < ks.length
    · obtain ⟨f', hr⟩ : ∃ r, ks[i]? = some r := ⟨_, List.getElem?_eq_getElem hlt⟩
      (obtain ⟨b, off, rfl, hrs⟩ := HKs.out (fun e => by rw [e] at hlt; simp at hlt)); obtain ⟨k', n', ks'⟩ := f'; obtain ⟨sl', cp', g0, g1, g2, hrep'⟩ := (hrs.up HBw.out).at i k' n' ks' hr; (have hltI : (i : Int) < (ks.length : Int) := by omega); (have hltc : (i : Int) < (cp : Int) := by omega); (have hlt2 : (i : Int) < 2 := by omega); obtain ⟨X, hX⟩ : ∃ X, X = wr.alloc (.cells #[.int .i64 k', .string n', .slice sl' ks'.length cp'] 28 (0, 0)) := ⟨_, rfl⟩; (have HBX : Hid (Below wr.heap.size wr X) := by rw [hX]; exact below_more (Below.refl _ _) _); have HC : Hid (Calls Try.prog 34 _ X _) := HIh.out i (.mk k' n' ks') (.agg #[.int .i64 k', .string n', .slice sl' ks'.length cp']) X hr (hrep'.up HBX.out) (HF.out.up (below_join HBw.out HBX.out)) (HU.out HO.out (below_join HBw.out HBX.out)); have HRi : Hid (ks[i]? = some (.mk k' n' ks')) := hr; have HI : Hid (i < ks.length) := hlt; have HOX : Hid (X.heap[w.heap.size + 1]? = some (.cells #[.int .u64 (a0 : Nat), .int .u64 (a1 : Nat)] 108 (0, 0))) := below_keep HBX.out HOf.out; clear hlt hi hr hrs hrep'; go_wp2_with fail; rw [← hX]; refine HC.out.mono ?_; rintro _ Y ⟨rfl, hbY⟩; clear hX HC g0 g1 g2 k0 k1 k2; have HOY : Hid (Y.heap[w.heap.size + 1]? = some (.cells #[.int .u64 (a0 : Nat), .int .u64 (a1 : Nat)] 108 (0, 0))) := below_keep hbY HOX.out; (have HBY : Hid (Below (w.heap.size + 1) W Y) := (HBr.out.trans (HBX.out.mono (by have := lt_of_block HOf.out; omega))).trans (hbY.mono (by have := lt_of_block HOX.out; omega))); clear hbY; obtain ⟨z, hz⟩ : ∃ z, z = bm N (mtv (seeR N R) p (.mk k' n' ks')) := ⟨_, rfl⟩; rw [← hz]; have HZ : Hid (z = bm N (mtv (seeR N R) p (.mk k' n' ks'))) := hz; clear hz; obtain ⟨c0, c1, -⟩ := blk2 HOY.out; have f0 := blk_fz HOY.out 0; have f1 := blk_fz HOY.out 1; (obtain rfl | rfl : i = 0 ∨ i = 1 := by omega)
      · go_wp2_with fail
        go_roundg (ks.length - 1)
        case measure => have := HGk.out; have := HI.out; omega
        case rel =>
          (refine ⟨1, z, a1, HI.out, rfl, by go_num, set_cellE HOY.out _, fun f _ hf => ?_, fun f h => absurd h (by omega), HBY.out.setCell (p := ⟨w.heap.size + 1, 0, none⟩) (Nat.le_refl _) _⟩); rw [HRi.out] at hf
          cases hf
          exact HZ.out
      · go_wp2_with fail
        go_roundg (ks.length - 2)
        case measure => have := HGk.out; have := HI.out; omega
        case rel =>
          (refine ⟨2, a0, z, HI.out, rfl, by go_num, set_cellE HOY.out _, fun f _ hf => HA0.out f (by omega) hf, fun f _ hf => ?_, HBY.out.setCell (p := ⟨w.heap.size + 1, 1, none⟩) (Nat.le_refl _) _⟩); rw [HRi.out] at hf
          cases hf
          exact HZ.out
    · have hii : i = ks.length := by omega
      subst hii; (have hge : ¬ (ks.length : Int) < (ks.length : Int) := by omega); (have HBl : Hid (∀ w, Calls Try.prog 56 #[.int .i64 (N : Nat)] w _) := fun w => set_below HN.out w); clear hlt hi; go_wp2_with fail; refine (HBl.out wr).mono ?_; rintro _ w9 ⟨rfl, e9⟩
      replace e9 := e9.symm
      subst e9; clear HBl hge; (obtain ⟨al, hal⟩ : ∃ al, al = bm N fun _ => true := ⟨_, rfl⟩); rw [← hal]; (have HAl : Hid (al = bm N fun _ => true) := hal); (have HAl2 : Hid (al < 1099511627776) := by show _ < _; rw [hal]; exact bm_small HN.out _); obtain ⟨c0, c1, -⟩ := blk2 HOf.out; clear hal; have hfi := HFi.out
      rcases hfi.forms with ⟨n1, e, hn⟩ | e | e | ⟨kk, f1, hk, e, hg⟩ | ⟨kk, f1, f2, hk, e, hg, hg'⟩
      · cases e
        have hsm := hfi.small.1; have HC : Hid (Calls Try.prog fn (#[.string n] ++ cap) _ _) := HA.out n _ (HU.out HO.out HBw.out) hsm; (have HT : Hid (mtv (seeR N R) p (.mk 1 n []) = fun u => p u n.data.toList) := by funext u; rw [mtv, mtvs]; rfl); clear hfi hn; go_wp2_with fail; refine HC.out.mono ?_; rintro _ w1 ⟨rfl, hb1⟩; have HB1 : Hid (Below w.heap.size w w1) := below_join HBw.out hb1; clear hb1 c0 c1 k0 k1 k2; go_wp2_with fail; go_ret; (exact ⟨by rw [HT.out]; rfl, HB1.out⟩)
      · cases e
        (have HT : Hid (mtv (seeR N R) p (.mk 2 ⟨#[]⟩ []) = fun _ => true) := by funext u; rw [mtv, mtvs]; rfl); clear hfi; go_wp2_with fail; go_ret; (exact ⟨by rw [HT.out, HAl.out]; rfl, HBw.out⟩)
      · cases e
        (have HT : Hid (mtv (seeR N R) p (.mk 3 ⟨#[]⟩ []) = fun _ => false) := by funext u; rw [mtv, mtvs]; rfl); clear hfi; go_wp2_with fail; go_ret; (exact ⟨by rw [HT.out, bm_none]; rfl, HBw.out⟩)
      · cases e
        (have h0 := HA0.out f1 (by simp) rfl); have HX0 : Hid (a0 = bm N (mtv (seeR N R) p f1)) := h0; clear hfi hg h0
        rcases hk with rfl | rfl | rfl
        · have HW : Hid (Calls Try.prog 57 #[.int .u64 (al : Nat), .int .u64 (a0 : Nat)] wr fun e w' => e = .returned (.int .u64 (bm N (fun i => true && !(mtv (seeR N R) p f1) i) : Nat)) ∧ w' = wr) := by
            (have := set_without HN.out (fun _ => true) (mtv (seeR N R) p f1) wr); rw [← HAl.out, ← HX0.out] at this; exact this
          (have HT : Hid (mtv (seeR N R) p (.mk 4 ⟨#[]⟩ [f1]) = fun u => !mtv (seeR N R) p f1 u) := mtv_not (seeR N R) p f1 ⟨#[]⟩); go_wp2_with fail; refine HW.out.mono ?_; rintro _ _ ⟨rfl, rfl⟩; go_wp2_with fail; go_ret; refine ⟨?_, HBw.out⟩; rw [HT.out]; (exact congrArg (fun x : Nat => Ending.returned (Value.int .u64 (x : Int))) (bm_ext fun i _ => by simp))
        · obtain ⟨z, hz⟩ : ∃ z, z = bm N fun u => ((List.range N).filter (R u)).all (mtv (seeR N R) p f1) := ⟨_, rfl⟩
          have HW : Hid (Calls Try.prog 58 #[.slice (some ⟨g, 0, none⟩) N N, .func (.func 59) #[] #[.pointer (some ⟨w.heap.size + 1, 0, none⟩)]] wr fun e w' => e = .returned (.int .u64 (z : Nat)) ∧ Below wr.heap.size wr w') := by
            rw [hz]; (exact those_any HN.out (asksBox HN.out (w.heap.size + 1) a1 (mtv (seeR N R) p f1)) g R wr (HF.out.up HBw.out) (by have := HOf.out; rw [HX0.out] at this; exact this))
          (have HT : Hid (mtv (seeR N R) p (.mk 8 ⟨#[]⟩ [f1]) = fun u => (seeR N R u).all (mtv (seeR N R) p f1)) := mtv_box (seeR N R) p f1 ⟨#[]⟩); (have hmf : ∀ (fn : Fn) (first cap : Array Value) (w : World), (Instr.makeFunc fn first cap).run Try.prog w = .ok (.func fn first cap) w := fun _ _ _ _ => rfl); (have HZ : Hid (z = bm N fun u => ((List.range N).filter (R u)).all (mtv (seeR N R) p f1)) := hz); clear hz; go_wp2_with fail; refine HW.out.mono ?_; rintro _ w1 ⟨rfl, hb1⟩; have HB1 : Hid (Below w.heap.size w w1) := below_join HBw.out hb1; clear hb1 c0 c1 k0 k1 k2; go_wp2_with fail; go_ret; refine ⟨?_, HB1.out⟩; rw [HT.out]; (exact congrArg (fun x : Nat => Ending.returned (Value.int .u64 (x : Int))) HZ.out)
        · obtain ⟨z, hz⟩ : ∃ z, z = bm N fun u => ((List.range N).filter (R u)).any (mtv (seeR N R) p f1) := ⟨_, rfl⟩
          have HW : Hid (Calls Try.prog 58 #[.slice (some ⟨g, 0, none⟩) N N, .func (.func 61) #[] #[.pointer (some ⟨w.heap.size + 1, 0, none⟩)]] wr fun e w' => e = .returned (.int .u64 (z : Nat)) ∧ Below wr.heap.size wr w') := by
            rw [hz]; (exact those_any HN.out (asksDia HN.out (w.heap.size + 1) a1 (mtv (seeR N R) p f1)) g R wr (HF.out.up HBw.out) (by have := HOf.out; rw [HX0.out] at this; exact this))
          (have HT : Hid (mtv (seeR N R) p (.mk 9 ⟨#[]⟩ [f1]) = fun u => (seeR N R u).any (mtv (seeR N R) p f1)) := mtv_dia (seeR N R) p f1 ⟨#[]⟩); (have hmf : ∀ (fn : Fn) (first cap : Array Value) (w : World), (Instr.makeFunc fn first cap).run Try.prog w = .ok (.func fn first cap) w := fun _ _ _ _ => rfl); (have HZ : Hid (z = bm N fun u => ((List.range N).filter (R u)).any (mtv (seeR N R) p f1)) := hz); clear hz; go_wp2_with fail; refine HW.out.mono ?_; rintro _ w1 ⟨rfl, hb1⟩; have HB1 : Hid (Below w.heap.size w w1) := below_join HBw.out hb1; clear hb1 c0 c1 k0 k1 k2; go_wp2_with fail; go_ret; refine ⟨?_, HB1.out⟩; rw [HT.out]; (exact congrArg (fun x : Nat => Ending.returned (Value.int .u64 (x : Int))) HZ.out)
      · cases e
        (have HX0 : Hid (a0 = bm N (mtv (seeR N R) p f1)) := HA0.out f1 (by simp) rfl); (have HX1 : Hid (a1 = bm N (mtv (seeR N R) p f2)) := HA1.out f2 (by simp) rfl); (have HS0 : Hid (a0 < 1099511627776) := by show _ < _; rw [HX0.out]; exact bm_small HN.out _); (have HS1 : Hid (a1 < 1099511627776) := by show _ < _; rw [HX1.out]; exact bm_small HN.out _); clear hfi hg hg'
        rcases hk with rfl | rfl | rfl
        · have HT : Hid (mtv (seeR N R) p (.mk 5 ⟨#[]⟩ [f1, f2]) = fun u => mtv (seeR N R) p f1 u && mtv (seeR N R) p f2 u) := mtv_and (seeR N R) p f1 f2 ⟨#[]⟩
          go_wp2_with fail; go_ret; refine ⟨?_, HBw.out⟩; rw [HT.out]; (exact congrArg (fun x : Int => Ending.returned (Value.int .u64 x)) (by rw [u64_and HS0.out HS1.out, HX0.out, HX1.out, bm_and]))
        · have HT : Hid (mtv (seeR N R) p (.mk 6 ⟨#[]⟩ [f1, f2]) = fun u => mtv (seeR N R) p f1 u || mtv (seeR N R) p f2 u) := mtv_or (seeR N R) p f1 f2 ⟨#[]⟩
          go_wp2_with fail; go_ret; refine ⟨?_, HBw.out⟩; rw [HT.out]; (exact congrArg (fun x : Int => Ending.returned (Value.int .u64 x)) (by rw [u64_or HS0.out HS1.out, HX0.out, HX1.out, bm_or]))
        · have HT : Hid (mtv (seeR N R) p (.mk 7 ⟨#[]⟩ [f1, f2]) = fun u => !mtv (seeR N R) p f1 u || mtv (seeR N R) p f2 u) := mtv_then (seeR N R) p f1 f2 ⟨#[]⟩
          have HW : Hid (∀ w, Calls Try.prog 57 #[.int .u64 (al : Nat), .int .u64 (a0 : Nat)] w fun e w' => e = .returned (.int .u64 (bm N (fun i => true && !(mtv (seeR N R) p f1) i) : Nat)) ∧ w' = w) := fun w => by
            (have := set_without HN.out (fun _ => true) (mtv (seeR N R) p f1) w); rw [← HAl.out, ← HX0.out] at this; exact this
          (obtain ⟨z, hz⟩ : ∃ z, z = bm N (fun i => true && !(mtv (seeR N R) p f1) i) := ⟨_, rfl⟩); rw [← hz] at HW; (have HZ : Hid (z = bm N (fun i => true && !(mtv (seeR N R) p f1) i)) := hz); (have HZ2 : Hid (z < 1099511627776) := by show _ < _; rw [hz]; exact bm_small HN.out _); clear hz; go_wp2_with fail
          go_quiet (first
            | (go_at_call 57
               refine Calls.quiet_of_same (HW.out _))
            | fail)
          go_wp2_with fail; go_ret; refine ⟨?_, Below.drewE _ HBw.out⟩; rw [HT.out]; (exact congrArg (fun x : Int => Ending.returned (Value.int .u64 x)) (by rw [u64_or HZ2.out HS1.out, HZ.out, HX1.out, bm_or]; exact congrArg Int.ofNat (bm_ext fun i _ => by simp)))
theorem wheres_all {N fn : Nat} (hN : N ≤ 40) {cap : Array Value} {p : Nat → List UInt8 → Bool} {Ok : World → Prop} (A : Hav N fn cap p Ok) (g : Nat) (R : Nat → Nat → Bool) : ∀ m, Wheres N fn cap p Ok g R m
  | 0 => fun _ _ _ h => absurd h (Nat.not_lt_zero _)
  | m + 1 => where_step hN A g R m (wheres_all hN A g R m)
theorem where_any {N fn : Nat} (hN : N ≤ 40) {cap : Array Value} {p : Nat → List UInt8 → Bool} {Ok : World → Prop} (A : Hav N fn cap p Ok) (g : Nat) (R : Nat → Nat → Bool) (f : Fm) (v : Value) (w : World) (hf : Fine f) (hrep : Rep w (fun _ => True) f v) (hF : FR w g N R) (hok : Ok w) :
    Calls Try.prog 34 #[.slice (some ⟨g, 0, none⟩) N N, v, .func (.func fn) #[] cap] w fun e w' => e = .returned (.int .u64 (bm N (mtv (seeR N R) p f) : Nat)) ∧ Below w.heap.size w w' :=
  wheres_all hN A g R (f.size + 1) f v w (Nat.lt_succ_self _) hf hrep hF hok
end Go.Proofs.Ytmahgfgndfcmpag
/- Six formulas and six shapes, plain. -/
namespace Go.Proofs.Ytmahgfgndfcmpag

/-- All that P has Q has, below N. -/
def subB (N : Nat) (P Q : Nat → Bool) : Bool := decide (∀ i, i < N → P i = true → Q i = true)
def sh0 (N : Nat) (R : Nat → Nat → Bool) : Bool := (List.range N).all fun u => R u u
def sh1 (N : Nat) (R : Nat → Nat → Bool) : Bool := (List.range N).all fun u => (seeR N R u).all fun v => subB N (R v) (R u)
def sh2 (N : Nat) (R : Nat → Nat → Bool) : Bool := (List.range N).all fun u => (seeR N R u).all fun v => R v u
def sh3 (N : Nat) (R : Nat → Nat → Bool) : Bool := (List.range N).all fun u => (seeR N R u).all fun v => subB N (R u) (R v)
def sh4 (N : Nat) (R : Nat → Nat → Bool) : Bool := (List.range N).all fun u => !(seeR N R u).isEmpty
def sh5 (N : Nat) (R : Nat → Nat → Bool) : Bool := sh1 N R && (List.range N).all fun u => !R u u
theorem mem_seeR {N : Nat} {R : Nat → Nat → Bool} {u v : Nat} : v ∈ seeR N R u ↔ v < N ∧ R u v = true := by
  rw [seeR, List.mem_filter, List.mem_range]
end Go.Proofs.Ytmahgfgndfcmpag
