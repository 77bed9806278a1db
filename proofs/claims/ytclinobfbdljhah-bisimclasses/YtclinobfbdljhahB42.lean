/- Texts of one proof, one behind the other: SC4, SC5, SC7, SC8, SC9, SCA, SCB, SCC, SCD, SCE, SCF, SCG, SCH. -/
import Derived.Test.YtclinobfbdljhahB40
import Derived.Test.YtclinobfbdljhahB33
import Derived.Test.YtclinobfbdljhahB27
import Derived.Deep.OwnRows
import Derived.Deep.RegionHeld3
import Derived.Test.YtclinobfbdljhahB37
import Derived.Test.YtclinobfbdljhahB41
import Derived.Test.YtclinobfbdljhahB38
import Derived.Test.YtclinobfbdljhahB18
import Derived.Test.YtclinobfbdljhahB12
import Derived.Test.YtclinobfbdljhahB15
import Derived.Test.YtclinobfbdljhahB39
import Derived.Test.YtclinobfbdljhahB23
import Derived.Test.YtclinobfbdljhahB24
import Derived.Test.YtclinobfbdljhahB36
import Derived.Deep.QuietTactic
import Derived.BigQuiet
/- Walks: which worlds are alike (AlikeWorlds of the yardstick). -/
namespace Go.Proofs.Ytclinobfbdljhah
open Go.RowKit

theorem MtR.congr {w : World} {gi N : Nat} {rb : Nat → Nat} {M M' : Nat → Nat → Bool} (h : MtR w gi N rb M) (e : ∀ u v, u < N → v < N → M u v = M' u v) : MtR w gi N rb M' :=
  ⟨h.top, fun u hu => by rw [h.row u hu, boolC_ext (e u · hu)], h.inj⟩
/-- The square being made: so many rows are there. -/
def rowsP (N : Nat) (rb : Nat → Nat) (i : Nat) : Array Value := ((List.range N).map fun u => if u < i then Value.slice (some ⟨rb u, 0, none⟩) N N else .slice none 0 0).toArray
theorem rowsP_size (N : Nat) (rb : Nat → Nat) (i : Nat) : (rowsP N rb i).size = N := by simp [rowsP]
theorem rowsP_zero (N : Nat) (rb : Nat → Nat) : madeCells #[Value.slice none 0 0] N = rowsP N rb 0 := by
  apply Array.ext'; rw [toList_madeCells_one]; simp [rowsP, List.map_const']
theorem rowsP_get {N u : Nat} (rb : Nat → Nat) (i : Nat) (h : u < N) : (rowsP N rb i)[u]? = some (if u < i then Value.slice (some ⟨rb u, 0, none⟩) N N else .slice none 0 0) := by simp [rowsP, h]
theorem rowsP_all (N : Nat) (rb : Nat → Nat) : rowsP N rb N = rowsC N rb := by
  unfold rowsP rowsC
  congr 1
  (exact List.map_congr_left fun u hu => if_pos (List.mem_range.1 hu))
theorem rowsP_set {N i : Nat} (rb : Nat → Nat) (b : Nat) : (rowsP N rb i).setIfInBounds i (.slice (some ⟨b, 0, none⟩) N N) = rowsP N (fun u => if u = i then b else rb u) (i + 1) := by
  apply Array.ext_getElem?; intro j; by_cases hj : j < N
  · rw [rowsP_get _ _ hj]
    by_cases e : i = j
    · subst e
      (rw [Array.getElem?_setIfInBounds_self_of_lt (by rw [rowsP_size]; exact hj)])
      simp
    · rw [Array.getElem?_setIfInBounds_ne e, rowsP_get _ _ hj]
      (have e2 : ¬ j = i := fun h => e h.symm); (have e3 : j < i + 1 ↔ j < i := by omega); simp [e2, e3]
  · rw [Array.getElem?_eq_none (by simp [rowsP_size]; omega), Array.getElem?_eq_none (by simp [rowsP_size]; omega)]
structure FlR (B : Nat) (w : World) (gi N : Nat) (rb : Nat → Nat) (i : Nat) (M : Nat → Nat → Bool) : Prop where
  top : w.heap[gi]? = some (.cells (rowsP N rb i) 54 (0, 0))
  row : ∀ u, u < i → w.heap[rb u]? = some (.cells (boolC N (M u)) 4 (0, 0))
  inj : ∀ u v, u < i → v < i → rb u = rb v → u = v
  low : ∀ u, u < i → B ≤ rb u
theorem FlR.up {B : Nat} {w w' : World} {gi N : Nat} {rb : Nat → Nat} {i : Nat} {M : Nat → Nat → Bool} (h : FlR B w gi N rb i M) (hb : Below w.heap.size w w') : FlR B w' gi N rb i M :=
  ⟨below_keep hb h.top, fun u hu => below_keep hb (h.row u hu), h.inj, h.low⟩
theorem boolC_none (N : Nat) : madeCells #[Value.bool false] N = boolC N fun _ => false := by
  apply Array.ext'; rw [toList_madeCells_one]; simp [boolC, List.map_const']
/-- A row more. -/
theorem FlR.more {B : Nat} {w : World} {gi N : Nat} {rb : Nat → Nat} {i : Nat} {M : Nat → Nat → Bool} (h : FlR B w gi N rb i M) (hB : B ≤ w.heap.size) : FlR B ((w.setCell ⟨gi, i, none⟩ (.slice (some ⟨w.heap.size, 0, none⟩) N N)).alloc (.cells (madeCells #[.bool false] N) 4 (0, 0))) gi N (fun u => if u = i then w.heap.size else rb u) (i + 1) (fun u v => if u = i then false else M u v) := by
  have hz := size_setS w ⟨gi, i, none⟩ (.slice (some ⟨w.heap.size, 0, none⟩) N N); (refine ⟨?_, fun u hu => ?_, fun u v hu hv e => ?_, fun u hu => ?_⟩)
  · rw [← rowsP_set]
    exact alloc_keep (blk_setS h.top _) _
  · by_cases e : u = i
    · subst e
      simp only [if_true]; have := blk_new (w.setCell ⟨gi, u, none⟩ (.slice (some ⟨w.heap.size, 0, none⟩) N N)) (.cells (madeCells #[.bool false] N) 4 (0, 0)); rw [hz] at this; rw [this, boolC_none]
    · have hu' : u < i := by omega
      have h1 := h.row u hu'; simp only [if_neg e]
      have hne : rb u ≠ gi := fun e2 => by
        rw [e2, h.top] at h1; simp at h1
      exact alloc_keep ((blk_otherS _ hne).trans h1) _
  · by_cases e1 : u = i <;> by_cases e2 : v = i
    · omega
    · simp only [e1, if_true, if_neg e2] at e
      (have := lt_of_block (h.row v (by omega))); omega
    · simp only [e2, if_true, if_neg e1] at e
      (have := lt_of_block (h.row u (by omega))); omega
    · simp only [if_neg e1, if_neg e2] at e
      (exact h.inj u v (by omega) (by omega) e)
  · by_cases e : u = i
    · simp [e, hB]
    · simp only [if_neg e]
      (exact h.low u (by omega))
theorem FlR.set {B : Nat} {w : World} {gi N : Nat} {rb : Nat → Nat} {i : Nat} {M : Nat → Nat → Bool} (h : FlR B w gi N rb i M) {u v : Nat} (hu : u < i) (b : Bool) : FlR B (w.setCell ⟨rb u, v, none⟩ (.bool b)) gi N rb i (fun x y => if x = u ∧ y = v then b else M x y) := by
  (refine ⟨?_, fun x hx => ?_, h.inj, h.low⟩)
  · refine (blk_otherS _ fun e => ?_).trans h.top
    have h1 := h.top; rw [e, h.row u hu] at h1; simp at h1
  · by_cases e : x = u
    · subst e
      rw [blk_setS (h.row x hx), boolC_set]
      congr 2
      (exact boolC_ext fun y _ => by simp)
    · rw [blk_otherS _ fun e2 => e (h.inj x u hx hu e2), h.row x hx]
      congr 2
      (exact boolC_ext fun y _ => by simp [e])
theorem FlR.mt {B : Nat} {w : World} {gi N : Nat} {rb : Nat → Nat} {M : Nat → Nat → Bool} (h : FlR B w gi N rb N M) : MtR w gi N rb M :=
  ⟨by rw [← rowsP_all]; exact h.top, h.row, h.inj⟩
/-- What else is in memory while the square is made. -/
structure AlS (w wr : World) (N : Nat) (rel : List (Int × Int)) (MO : Obj) (bS bI gs gi : Nat) : Prop where
  below : Below w.heap.size w wr
  mo : wr.heap[w.heap.size]? = some MO
  s : wr.heap[bS]? = some (.cells #[.slice (some ⟨gs, 0, none⟩) N N] 91 (0, 0))
  i : wr.heap[bI]? = some (.cells #[.slice (some ⟨gi, 0, none⟩) N N] 89 (0, 0))
  sn : SnR w.heap.size wr gs N rel
  low : w.heap.size ≤ gi
theorem AlS.up {w wr wq : World} {N : Nat} {rel : List (Int × Int)} {MO : Obj} {bS bI gs gi : Nat} (h : AlS w wr N rel MO bS bI gs gi) (hb : Below wr.heap.size wr wq) : AlS w wq N rel MO bS bI gs gi :=
  ⟨below_join h.below hb, below_keep hb h.mo, below_keep hb h.s, below_keep hb h.i, h.sn.up hb, h.low⟩
/-- A cell of a block of another type is written. -/
theorem AlS.set {w wr : World} {N : Nat} {rel : List (Int × Int)} {cs0 : Array Value} {bS bI gs gi b j : Nat} {cs : Array Value} {T : TypeId} (v : Value) (h : AlS w wr N rel (.cells cs0 30 (0, 0)) bS bI gs gi) (hb : wr.heap[b]? = some (.cells cs T (0, 0))) (hlow : w.heap.size ≤ b) (h1 : T ≠ 30) (h2 : T ≠ 91) (h3 : T ≠ 89) (h4 : T ≠ 45) (h5 : T ≠ 3) : AlS w (wr.setCell ⟨b, j, none⟩ v) N rel (.cells cs0 30 (0, 0)) bS bI gs gi := by
  have far : ∀ (x : Nat) (cur : Array Value) (T' : TypeId), wr.heap[x]? = some (.cells cur T' (0, 0)) → T ≠ T' → (wr.setCell ⟨b, j, none⟩ v).heap[x]? = wr.heap[x]? := fun x cur T' hx hT => by
    (refine blk_otherS _ fun e => ?_); rw [e, hb] at hx; simp only [Option.some.injEq, Obj.cells.injEq] at hx; exact hT hx.2.1
  refine ⟨h.below.setCell (p := ⟨b, j, none⟩) hlow _, (far _ _ _ h.mo h1).trans h.mo, (far _ _ _ h.s h2).trans h.s, (far _ _ _ h.i h3).trans h.i, ?_, h.low⟩; obtain ⟨cs9, e1, e2⟩ := h.sn; (exact ⟨cs9, (far _ _ _ e1 h4).trans e1, e2.move fun g cur hh => far g cur _ hh h5⟩)
/-- A pass over all pairs. -/
structure PasM (N : Nat) (R : Nat → Nat → Bool) (tr : List (List (List UInt8))) (cl : List Nat) (M0 M : Nat → Nat → Bool) (ag : Bool) (u v : Nat) : Prop where
  al : AlM N R tr cl M
  no : ag = false → M = M0 ∧ ∀ a b, a < N → b < N → (a < u ∨ (a = u ∧ b < v)) → M a b = true → covM N R M a b = true ∧ covM N R M b a = true
  yes : ag = true → cntM N M < cntM N M0
section
variable {N : Nat} {R : Nat → Nat → Bool} {tr : List (List (List UInt8))} {cl : List Nat} {M0 M : Nat → Nat → Bool} {ag : Bool} {u v : Nat}
theorem PasM.go (h : PasM N R tr cl M0 M ag u v) (hk : M u v = true → covM N R M u v = true ∧ covM N R M v u = true) : PasM N R tr cl M0 M ag u (v + 1) :=
  ⟨h.al, fun e => ⟨(h.no e).1, fun a b ha hb hc hm => by
    rcases hc with hc | ⟨hc, hd⟩
    · exact (h.no e).2 a b ha hb (Or.inl hc) hm
    · by_cases e2 : b = v
      · subst hc e2
        exact hk hm
      · exact (h.no e).2 a b ha hb (Or.inr ⟨hc, by omega⟩) hm⟩, h.yes⟩
theorem PasM.cutD (h : PasM N R tr cl M0 M ag u v) (hal : AlM N R tr cl (cutM M u v)) (hu : u < N) (hv : v < N) (hm : M u v = true) : PasM N R tr cl M0 (cutM M u v) true u (v + 1) :=
  ⟨hal, fun e => (by cases e), fun _ => by
    have h1 := cntM_cut hu hv hm
    cases hag : ag with
    | true => have := h.yes hag; omega
    | false => rw [(h.no hag).1] at h1 ⊢; exact h1⟩
theorem PasM.next (h : PasM N R tr cl M0 M ag u N) : PasM N R tr cl M0 M ag (u + 1) 0 :=
  ⟨h.al, fun e => ⟨(h.no e).1, fun a b ha hb hc hm => (h.no e).2 a b ha hb (by omega) hm⟩, h.yes⟩
end
theorem MtR.cut {w : World} {gi N : Nat} {rb : Nat → Nat} {M : Nat → Nat → Bool} (h : MtR w gi N rb M) {u v : Nat} (hu : u < N) (hv : v < N) : MtR ((w.setCell ⟨rb u, v, none⟩ (.bool false)).setCell ⟨rb v, u, none⟩ (.bool false)) gi N rb (cutM M u v) := by
  (refine ((h.set (v := v) hu false).set (v := u) hv false).congr fun a b _ _ => ?_); unfold cutM; by_cases e1 : a = v ∧ b = u
  · obtain ⟨rfl, rfl⟩ := e1
    simp
  · rw [if_neg e1]
    by_cases e2 : a = u ∧ b = v
    · obtain ⟨rfl, rfl⟩ := e2
      simp
    · rw [if_neg e2]
      have h1 : (a == u && b == v) = false := by
        rw [Bool.eq_false_iff]; intro e; simp only [Bool.and_eq_true, beq_iff_eq] at e; exact e2 e
      have h2 : (a == v && b == u) = false := by
        rw [Bool.eq_false_iff]; intro e; simp only [Bool.and_eq_true, beq_iff_eq] at e; exact e1 e
      rw [h1, h2]
      simp
theorem covered_in (cap : Array Value) (w : World) : (callFunc 77 cap).run Try.prog w = .ok (.enter 77 cap) w := by
  simp [go_sem]
set_option maxRecDepth 10000 in
set_option maxHeartbeats 16000000 in
theorem alike_any (N : Nat) (h0 : 0 < N) (hN : N ≤ 40) (rel : List (Int × Int)) (hrl : rel.length ≤ 2000) (hin : InR N rel) (tr : List (List (List UInt8))) (htl : tr.length = N) (hnm : ∀ l ∈ tr, l.length ≤ 30 ∧ ∀ t ∈ l, isNm t = true) (ra ta : Option Addr) (rc tc : Nat) (w : World) (hp : PL w (.slice ra rel.length rc) rel) (ht : SLs w (.slice ta tr.length tc) tr) :
    Calls Try.prog 43 #[.agg #[.int .i64 (N : Nat), .slice ra rel.length rc, .slice ta tr.length tc]] w fun e w' => ∃ gi rb M, e = .returned (.slice (some ⟨gi, 0, none⟩) N N) ∧ MtR w' gi N rb M ∧ (∀ u v, u < N → v < N → M u v = eqC (clsK N (relB rel) (tr.map nmz)) u v) ∧ Below w.heap.size w w' := by
  have HIn : Hid (InR N rel) := hin; have HN : Hid (0 < N ∧ N ≤ 40) := ⟨h0, hN⟩; have HTl : Hid (tr.length = N) := htl; have HNm : Hid (∀ l ∈ tr, l.length ≤ 30 ∧ ∀ t ∈ l, isNm t = true) := hnm; (have hNi : (N : Int) ≤ 40 := by omega); (have HSe : Hid (∀ W, Below w.heap.size w W → Calls Try.prog 44 #[.agg #[.int .i64 (N : Nat), .slice ra rel.length rc, .slice ta tr.length tc]] W fun e w' => ∃ g, e = .returned (.slice (some ⟨g, 0, none⟩) N N) ∧ W.heap.size ≤ g ∧ SnR W.heap.size w' g N rel ∧ Below W.heap.size W w') := fun W hb => seen_any N hN rel hrl hin ra ta rc tr.length tc W (hp.up hb)); (have hmk1 := fun w => run_make_row' (P := Try.prog) 89 54 (.slice none 0 0) 24 Try.underlying89 (by kernel_rfl) rfl .i64 .i64 N (by omega) (by omega) w); (have hmk2 := fun w => run_make_row' (P := Try.prog) 54 4 (.bool false) 1 Try.underlying54 (by kernel_rfl) rfl .i64 .i64 N (by omega) (by omega) w); obtain ⟨ad9, cap9, e9, ht1, ht2, ht3⟩ := ht; simp only [Value.slice.injEq, true_and] at e9; obtain ⟨rfl, rfl⟩ := e9
  have HTc : Hid (∀ (j : Nat) (r : List (List UInt8)), tr[j]? = some r → ∃ b off u, ta = some ⟨b, off, none⟩ ∧ w.cell? ⟨b, off + j, none⟩ = some u ∧ SL w u r) := fun j r hj => by
    (obtain ⟨b, off, e, hc⟩ := ht3 (fun e => by rw [e] at hj; cases hj)); obtain ⟨u, h1, h2⟩ := hc j r hj; exact ⟨b, off, u, e, h1, h2⟩
  (have htI : (tr.length : Int) ≤ (tc : Int) := by omega); obtain ⟨W, hW⟩ : ∃ W, W = w.alloc (.cells #[.int .i64 (N : Nat), .slice ra rel.length rc, .slice ta tr.length tc] 30 (0, 0)) := ⟨_, rfl⟩; (have HB0 : Hid (Below w.heap.size w W) := by rw [hW]; exact below_more (Below.refl _ w) _); (have HX : Hid (W.heap[w.heap.size]? = some (.cells #[.int .i64 (N : Nat), .slice ra rel.length rc, .slice ta tr.length tc] 30 (0, 0))) := by rw [hW]; exact blk_new _ _); obtain ⟨q0, q1, q2, -⟩ := blk3 HX.out; clear hin hN h0 ht3 ht1 ht2 htl hnm hp hrl
  go_enter Try.func43, Try.ntmps43
  go_wp2_with fail; rw [← hW]; clear hW; refine (HSe.out W HB0.out).mono ?_; rintro _ w1 ⟨gs, rfl, hgs, hsn, hb1⟩; have HB1 : Hid (Below w.heap.size w w1) := below_join HB0.out hb1; have HX1 : Hid (w1.heap[w.heap.size]? = some (.cells #[.int .i64 (N : Nat), .slice ra rel.length rc, .slice ta tr.length tc] 30 (0, 0))) := below_keep hb1 HX.out
  have HSn : Hid (SnR w.heap.size w1 gs N rel) := by
    obtain ⟨cs, e1, e2, e3⟩ := hsn
    exact ⟨cs, e1, e2, fun j l hj => by
      obtain ⟨a, c, e4, e5⟩ := e3 j l hj
      exact ⟨a, c, e4, rowM_low e5 HB0.out.size⟩⟩
  obtain ⟨d0, d1, d2, -⟩ := blk3 HX1.out; have z1 := lt_of_block HX1.out; (have z2 : w.heap.size < w1.heap.size + 1 := by omega); (have z3 : w.heap.size < w1.heap.size + 1 + 1 := by omega); clear hb1 hsn q0 q1 q2 hgs; obtain ⟨Y, hY⟩ : ∃ Y, Y = ((w1.alloc (.cells #[.slice (some ⟨gs, 0, none⟩) N N] 91 (0, 0))).alloc (.cells (madeCells #[.slice none 0 0] N) 54 (0, 0))).alloc (.cells #[.slice (some ⟨w1.heap.size + 1, 0, none⟩) N N] 89 (0, 0)) := ⟨_, rfl⟩; (have HbY : Hid (Below w1.heap.size w1 Y) := by rw [hY]; exact al3b _ _ _ _)
  have HAl0 : Hid (AlS w Y N rel (.cells #[.int .i64 (N : Nat), .slice ra rel.length rc, .slice ta tr.length tc] 30 (0, 0)) w1.heap.size (w1.heap.size + 1 + 1) gs (w1.heap.size + 1)) :=
    ⟨below_join HB1.out HbY.out, below_keep HbY.out HX1.out, by rw [hY]; exact al30 _ _ _ _, by rw [hY]; exact al32 _ _ _ _, HSn.out.up HbY.out, by have := HB1.out.size; omega⟩
  (have HFl0 : Hid (FlR w.heap.size Y (w1.heap.size + 1) N (fun _ => 0) 0 (fun _ _ => false)) := ⟨by rw [hY, ← rowsP_zero]; exact al31 _ _ _ _, fun u hu => by omega, fun u v hu => by omega, fun u hu => by omega⟩)
  go_upto_region 3 with fail
  rw [← hY]; obtain ⟨bS, hbS⟩ : ∃ b, b = w1.heap.size := ⟨_, rfl⟩; obtain ⟨gi, hgi⟩ : ∃ b, b = w1.heap.size + 1 := ⟨_, rfl⟩; obtain ⟨bI, hbI⟩ : ∃ b, b = w1.heap.size + 1 + 1 := ⟨_, rfl⟩; rw [← hbI, ← hgi, ← hbS] at HAl0; rw [← hgi] at HFl0; rw [← hbI, ← hgi, ← hbS]; clear hbS hgi hbI hY d0 d1 d2 z1 z2 z3 hmk1 HbY HX1 HB1 HSn HX HB0 HSe w1; obtain ⟨CS, hCS⟩ : ∃ CS : Array Value, CS = #[.int .i64 (N : Nat), .slice ra rel.length rc, .slice ta tr.length tc] := ⟨_, rfl⟩; rw [← hCS] at HAl0; (have HCs : Hid (some (Obj.cells CS 30 (0, 0)) = some (.cells #[.int .i64 (N : Nat), .slice ra rel.length rc, .slice ta tr.length tc] 30 (0, 0))) := by rw [hCS]; rfl); clear hCS; obtain ⟨q0, q1, q2, -⟩ := blk3 (HAl0.out.mo.trans HCs.out); go_wp2_with fail; clear q0 q1 q2; (obtain ⟨T, hT⟩ : ∃ T : Nat → Nat → Bool, T = fun u v => sameT (nmAt tr u) (nmAt tr v) := ⟨_, rfl⟩); (have HT : Hid (T = fun u v => sameT (nmAt tr u) (nmAt tr v)) := hT); clear hT
  go_loopg [5, 6] N (fun gg cc y6 wr => ∃ i rb M, i ≤ N ∧ gg = N - i ∧ cc = .int .i64 (i : Nat) ∧ Hid (FlR w.heap.size wr gi N rb i M) ∧ Hid (∀ u v, u < i → v < N → M u v = T u v) ∧ Hid (AlS w wr N rel (.cells CS 30 (0, 0)) bS bI gs gi))
  case atStart => exact ⟨0, fun _ => 0, fun _ _ => false, by omega, by omega, rfl, HFl0, fun u v hu => by omega, HAl0⟩
  case round =>
    obtain ⟨i, rb, M, hi, hg, rfl, HFl, HMT, HAl⟩ := hrel; have HGk : Hid (gk = N - i) := hg; clear hg; obtain ⟨k0, k1, k2, -⟩ := blk3 (HAl.out.mo.trans HCs.out); have j0 : wr.cell? ⟨bI, 0, none⟩ = some (.slice (some ⟨gi, 0, none⟩) N N) := blk_cell HAl.out.i 0; by_cases hlt : i < N
    · have hltI : (i : Int) < (N : Int) := by omega
      have HI : Hid (i < N) := hlt; (have j1 : wr.cell? ⟨gi, i, none⟩ = some (.slice none 0 0) := (blk_cell HFl.out.top i).trans (by rw [rowsP_get _ _ hlt, if_neg (Nat.lt_irrefl _)])); have j2 := blk_fz HFl.out.top i; have zg := lt_of_block HFl.out.top; have zi := lt_of_block HAl.out.i; have zw := lt_of_block HAl.out.mo; clear hlt hi
      go_upto_region 6 with fail
      go_region
      go_wp2_with fail; obtain ⟨Z, hZ⟩ : ∃ Z, Z = ((wr.setCell ⟨gi, i, none⟩ (.slice (some ⟨wr.heap.size, 0, none⟩) N N)).alloc (.cells (madeCells #[.bool false] N) 4 (0, 0))).drew := ⟨_, rfl⟩; rw [← hZ]
      have HAlZ : Hid (AlS w Z N rel (.cells CS 30 (0, 0)) bS bI gs gi) := by
        rw [hZ]; (exact ((HAl.out.set _ HFl.out.top HAl.out.low (by decide) (by decide) (by decide) (by decide) (by decide)).up (below_more (Below.refl _ _) _)).up (Below.refl _ _).drew)
      have HFlZ : Hid (FlR w.heap.size Z gi N (fun u => if u = i then wr.heap.size else rb u) (i + 1) (fun u v => if u = i then false else M u v)) := by
        rw [hZ]; exact (HFl.out.more HAl.out.below.size).up (Below.refl _ _).drew
      have HM1 : Hid (∀ a b, a < i → b < N → (fun u v => if u = i then false else M u v) a b = T a b) := fun a b ha hb => by
        (simp only [if_neg (show ¬ a = i by omega)]); exact HMT.out a b ha hb
      (generalize (fun u => if u = i then wr.heap.size else rb u) = rb2 at *); (generalize (fun u v => if u = i then false else M u v) = M2 at *); clear hZ HFl HMT HAl k0 k1 k2 j0 j1 j2 zg zi zw rb M; obtain ⟨V, hV⟩ : ∃ V, V = wr := ⟨_, rfl⟩; clear hV V
      go_loopg [6] N (fun gg cc wr => ∃ v M3, v ≤ N ∧ gg = N - v ∧ cc = .int .i64 (v : Nat) ∧ Hid (FlR w.heap.size wr gi N rb2 (i + 1) M3) ∧ Hid (∀ a b, a < i → b < N → M3 a b = T a b) ∧ Hid (∀ b, b < v → M3 i b = T i b) ∧ Hid (AlS w wr N rel (.cells CS 30 (0, 0)) bS bI gs gi))
      case atStart => exact ⟨0, M2, by omega, by omega, rfl, HFlZ, HM1, fun b hb => by omega, HAlZ⟩
      case round =>
        obtain ⟨v, M3, hv, hg, rfl, HFl, HMa, HMb, HAl⟩ := hrel; have HGq : Hid (gk = N - v) := hg; clear hg; obtain ⟨k0, k1, k2, -⟩ := blk3 (HAl.out.mo.trans HCs.out); have j0 : wr.cell? ⟨bI, 0, none⟩ = some (.slice (some ⟨gi, 0, none⟩) N N) := blk_cell HAl.out.i 0; by_cases hlt : v < N
        · have hltI : (v : Int) < (N : Int) := by omega
          have HV : Hid (v < N) := hlt; (have j1 : wr.cell? ⟨gi, i, none⟩ = some (.slice (some ⟨rb2 i, 0, none⟩) N N) := (blk_cell HFl.out.top i).trans (by rw [rowsP_get _ _ HI.out, if_pos (Nat.lt_succ_self _)])); have hrow := HFl.out.row i (Nat.lt_succ_self _); have j2 : wr.cell? ⟨rb2 i, v, none⟩ = some (.bool (M3 i v)) := (blk_cell hrow v).trans (boolC_get _ hlt); have j3 := blk_fz hrow v; (obtain ⟨r1, hr1⟩ : ∃ r, tr[i]? = some r := ⟨_, List.getElem?_eq_getElem (by have := HTl.out; have := HI.out; omega)⟩); (obtain ⟨r2, hr2⟩ : ∃ r, tr[v]? = some r := ⟨_, List.getElem?_eq_getElem (by have := HTl.out; omega)⟩); obtain ⟨b, off, u1, hta, hc1, hs1⟩ := HTc.out i r1 hr1; obtain ⟨b', off', u2, hta2, hc2, hs2⟩ := HTc.out v r2 hr2; rw [hta] at hta2
          cases hta2
          have HB9 := HAl.out.below; have c1 := (HB9.cell (lt_of_cell hc1)).trans hc1; have c2 := (HB9.cell (lt_of_cell hc2)).trans hc2
          have HS9 : Hid (Calls Try.prog 76 #[u1, u2] wr.drew fun e w' => e = .returned (.bool (T i v)) ∧ w' = wr.drew) := by
            have e1 : T i v = sameT r1 r2 := by
              rw [HT.out]; show sameT (nmAt tr i) (nmAt tr v) = _; rw [nmAt, nmAt, List.getD_eq_getElem?_getD, List.getD_eq_getElem?_getD, hr1, hr2]; rfl
            rw [e1]
            have hup : ∀ {u r}, SL w u r → SL wr.drew u r := fun {u r} hs => by
              obtain ⟨ad', cap', e', q1, q2, q3⟩ := hs; (refine ⟨ad', cap', e', q1, q2, fun hne => ?_⟩); obtain ⟨b9, off9, e9, hc9⟩ := q3 hne; (exact ⟨b9, off9, e9, fun j t hj => (HB9.cell (lt_of_cell (hc9 j t hj))).trans (hc9 j t hj)⟩)
            exact sameT_any r1 r2 (HNm.out r1 (List.mem_of_getElem? hr1)).1 (HNm.out r2 (List.mem_of_getElem? hr2)).1 u1 u2 wr.drew (hup hs1) (hup hs2)
          obtain ⟨a1, p1, rfl, -⟩ := hs1; obtain ⟨a2, p2, rfl, -⟩ := hs2; subst hta; (have hiI : (i : Int) < (N : Int) := by have := HI.out; omega); (have hti : (i : Int) < (tr.length : Int) := by have := HTl.out; have := HI.out; omega); (have htv : (v : Int) < (tr.length : Int) := by have := HTl.out; omega); (have htic : (i : Int) < (tc : Int) := by omega); (have htvc : (v : Int) < (tc : Int) := by omega); have zlo := HFl.out.low i (Nat.lt_succ_self _); have hbw : b < w.heap.size := lt_of_cell hc1
          have n1 : ¬ bI = rb2 i := fun e => by
            have h9 := HAl.out.i; rw [e, hrow] at h9; simp at h9
          (have n2 : ¬ rb2 i = bI := fun e => n1 e.symm)
          have n3 : ¬ gi = rb2 i := fun e => by
            have h9 := HFl.out.top; rw [e, hrow] at h9; simp at h9
          (have n4 : ¬ rb2 i = gi := fun e => n3 e.symm)
          have n5 : ¬ w.heap.size = rb2 i := fun e => by
            have h9 := HAl.out.mo; rw [e, hrow] at h9; simp at h9
          (have n6 : ¬ rb2 i = w.heap.size := fun e => n5 e.symm); (have n7 : ¬ b = rb2 i := by omega); (have n8 : ¬ rb2 i = b := by omega); have HRow : Hid (wr.heap[rb2 i]? = some (.cells (boolC N (M3 i)) 4 (0, 0))) := hrow; have HZl : Hid (w.heap.size ≤ rb2 i) := zlo; obtain ⟨bR, hbR⟩ : ∃ bR, bR = rb2 i := ⟨_, rfl⟩; obtain ⟨bM, hbM⟩ : ∃ bM, bM = w.heap.size := ⟨_, rfl⟩; rw [← hbR] at j1 j2 j3 n1 n2 n3 n4 n5 n6 n7 n8; rw [← hbM] at k2 n5 n6; have HbR : Hid (bR = rb2 i) := hbR; have HbM : Hid (bM = w.heap.size) := hbM
          go_upto_region 10 with fail
          rw [← hbM]; clear hlt hv hr1 hr2 hc1 hc2 HB9 hrow k0 k1 zlo hbw hbR hbM
          go_region_held3 (fun w' => w'.cell? ⟨bI, 0, none⟩ = some (.slice (some ⟨gi, 0, none⟩) N N) ∧ w'.cell? ⟨gi, i, none⟩ = some (.slice (some ⟨bR, 0, none⟩) N N) ∧ w'.cell? ⟨bM, 2, none⟩ = some (.slice (some ⟨b, off, none⟩) tr.length tc) ∧ w'.cell? ⟨b, off + i, none⟩ = some (.slice a1 r1.length p1) ∧ w'.cell? ⟨b, off + v, none⟩ = some (.slice a2 r2.length p2)) (go_keep)
            (first
             | (go_at_call 76
                refine HS9.out.mono ?_; rintro e w2 ⟨rfl, hw2⟩
                subst hw2)
             | fail)
          obtain ⟨F, hF⟩ : ∃ F, F = (wr.setCell ⟨bR, v, none⟩ (.bool (T i v))).drew := ⟨_, rfl⟩
          have HFF : Hid (FlR w.heap.size F gi N rb2 (i + 1) (fun x y => if x = i ∧ y = v then T i v else M3 x y)) := by
            rw [hF, HbR.out]; exact (HFl.out.set (Nat.lt_succ_self _) _).up (Below.refl _ _).drew
          have HFA : Hid (AlS w F N rel (.cells CS 30 (0, 0)) bS bI gs gi) := by
            rw [hF, HbR.out]; (exact (HAl.out.set _ HRow.out HZl.out (by decide) (by decide) (by decide) (by decide) (by decide)).up (Below.refl _ _).drew)
          rw [← hF]; have hbM := HbM.out; clear HbM; subst hbM; clear hF j0 j1 j2 j3 c1 c2 n1 n2 n3 n4 n5 n6 n7 n8 k2; go_wp2_with fail
          go_roundg (N - (v + 1))
          case measure => have := HGq.out; have := HV.out; omega
          case rel =>
            (refine ⟨v + 1, _, HV.out, rfl, by go_num, HFF, fun a b ha hb => ?_, fun b hb => ?_, HFA⟩)
            · simp only [if_neg (show ¬ (a = i ∧ b = v) by omega)]
              exact HMa.out a b ha hb
            · by_cases e : b = v
              · subst e
                simp
              · show (if i = i ∧ b = v then T i v else M3 i b) = T i b
                (rw [if_neg fun h => e h.2]); (exact HMb.out b (by omega))
        · have hii : v = N := by omega
          subst hii; (have hge : ¬ (v : Int) < (v : Int) := by omega); clear hlt hv; go_wp2_with fail
          go_roundg (v - (i + 1))
          case measure => have := HGk.out; have := HI.out; omega
          case rel =>
            (refine ⟨i + 1, rb2, M3, HI.out, rfl, by go_num, HFl, fun a b ha hb => ?_, HAl⟩); by_cases e : a = i
            · rw [e]; exact HMb.out b hb
            · exact HMa.out a b (by omega) hb
    · have hii : i = N := by omega
      subst hii; (have hge : ¬ (i : Int) < (i : Int) := by omega); clear hlt hi HGk; have HMt : Hid (MtR wr gi i rb M) := HFl.out.mt; have HLow : Hid (∀ u, u < i → w.heap.size ≤ rb u) := HFl.out.low
      have HAM : Hid (AlM i (relB rel) tr (clsK i (relB rel) (tr.map nmz)) T) := by
        rw [HT.out]; (exact AlM.start HTl.out fun l hl => (HNm.out l hl).2)
      have HMt0 : Hid (MtR wr gi i rb T) := HMt.out.congr HMT.out; (have HCv : Hid (∀ (u v : Nat) (M : Nat → Nat → Bool) (W : World), u < i → v < i → AlS w W i rel (.cells CS 30 (0, 0)) bS bI gs gi → MtR W gi i rb M → Calls Try.prog 77 #[.int .i64 (u : Nat), .int .i64 (v : Nat), .pointer (some ⟨bS, 0, none⟩), .pointer (some ⟨bI, 0, none⟩)] W fun e w' => e = .returned (.bool (covM i (relB rel) M u v)) ∧ Below W.heap.size W w') := fun u v M W hu hv hA hM => cov_any HN.out.2 HIn.out u v w.heap.size gs gi bS bI hu hv W hA.s hA.i hA.sn hM); (have HCt : Hid (∀ (M : Nat → Nat → Bool) (u v : Nat), u < i → v < i → AlM i (relB rel) tr (clsK i (relB rel) (tr.map nmz)) M → (covM i (relB rel) M u v && covM i (relB rel) M v u) = false → AlM i (relB rel) tr (clsK i (relB rel) (tr.map nmz)) (cutM M u v)) := fun M u v hu hv hA hc => hA.cut HTl.out hu hv hc); (have HDn : Hid (∀ (M : Nat → Nat → Bool), AlM i (relB rel) tr (clsK i (relB rel) (tr.map nmz)) M → (∀ u v, u < i → v < i → M u v = true → covM i (relB rel) M u v = true ∧ covM i (relB rel) M v u = true) → ∀ u v, u < i → v < i → M u v = eqC (clsK i (relB rel) (tr.map nmz)) u v) := fun M hA hc u v hu hv => hA.done HTl.out (fun l hl => (HNm.out l hl).2) hc u v hu hv); obtain ⟨cl, hcl⟩ : ∃ cl, cl = clsK i (relB rel) (tr.map nmz) := ⟨_, rfl⟩; rw [← hcl] at HAM HCt HDn; have HCle : Hid (cl = clsK i (relB rel) (tr.map nmz)) := hcl; clear hcl; have hci := covered_in; clear HFl HMT HMt HT j0 hmk2 HNm HTl HTc htI HIn; go_wp2_with fail; clear M k0 k1 k2; obtain ⟨V, hV⟩ : ∃ V, V = wr := ⟨_, rfl⟩; subst hV
      go_loopg [8, 9, 10] (cntM i T + 1) (fun gg y8 y9 y10 wr => ∃ ag M, gg = (if ag = true then cntM i M + 1 else 0) ∧ y8 = .bool ag ∧ Hid (MtR wr gi i rb M) ∧ Hid (AlM i (relB rel) tr cl M) ∧ Hid (ag = false → ∀ a b, a < i → b < i → M a b = true → covM i (relB rel) M a b = true ∧ covM i (relB rel) M b a = true) ∧ Hid (AlS w wr i rel (.cells CS 30 (0, 0)) bS bI gs gi))
      case atStart => exact ⟨true, T, by simp, rfl, HMt0, HAM, (fun h => by cases h), HAl⟩
      case round =>
        obtain ⟨ag, M, hg, rfl, HMr, HAr, HCr, HSr⟩ := hrel; (have HGk : Hid (gk = (if ag = true then cntM i M + 1 else 0)) := hg); clear hg; obtain ⟨k0, k1, k2, -⟩ := blk3 (HSr.out.mo.trans HCs.out); have j0 : wr.cell? ⟨bI, 0, none⟩ = some (.slice (some ⟨gi, 0, none⟩) i i) := blk_cell HSr.out.i 0
        cases ag
        · go_wp2_with fail
          go_ret; (exact ⟨gi, rfl, rb, M, HMr.out, fun u v hu hv => (by rw [← HCle.out]; exact HDn.out M HAr.out (HCr.out (by first | rfl | trivial)) u v hu hv), HSr.out.below⟩)
        · have HP0 : Hid (PasM i (relB rel) tr cl M M false 0 0) := ⟨HAr.out, fun _ => ⟨rfl, fun a b _ _ hc => by omega⟩, fun e => (by cases e)⟩
          go_wp2_with fail; clear k0 k1 k2 j0; obtain ⟨V2, hV2⟩ : ∃ V2, V2 = wr := ⟨_, rfl⟩; subst hV2
          go_loopg [9, 8, 10] i (fun gg y9 y8 y10 wr => ∃ u ag M2, u ≤ i ∧ gg = i - u ∧ y9 = .int .i64 (u : Nat) ∧ y8 = .bool ag ∧ Hid (PasM i (relB rel) tr cl M M2 ag u 0) ∧ Hid (MtR wr gi i rb M2) ∧ Hid (AlS w wr i rel (.cells CS 30 (0, 0)) bS bI gs gi))
          case atStart => exact ⟨0, false, M, by omega, by omega, rfl, rfl, HP0, HMr, HSr⟩
          case round =>
            obtain ⟨u, ag, M2, hu, hg, rfl, rfl, HPu, HMu, HSu⟩ := hrel; have HGu : Hid (gk = i - u) := hg; clear hg; obtain ⟨k0, k1, k2, -⟩ := blk3 (HSu.out.mo.trans HCs.out); by_cases hlt : u < i
            · have hltI : (u : Int) < (i : Int) := by omega
              have HU : Hid (u < i) := hlt; clear hlt hu; go_wp2_with fail; clear k0 k1 k2; obtain ⟨V3, hV3⟩ : ∃ V3, V3 = wr := ⟨_, rfl⟩; subst hV3
              go_loopg [10, 8] i (fun gg y10 y8 wr => ∃ v ag M2, v ≤ i ∧ gg = i - v ∧ y10 = .int .i64 (v : Nat) ∧ y8 = .bool ag ∧ Hid (PasM i (relB rel) tr cl M M2 ag u v) ∧ Hid (MtR wr gi i rb M2) ∧ Hid (AlS w wr i rel (.cells CS 30 (0, 0)) bS bI gs gi))
              case atStart => exact ⟨0, ag, M2, by omega, by omega, rfl, rfl, HPu, HMu, HSu⟩
              case round =>
                clear HPu HMu HSu M2; obtain ⟨v, ag, M2, hv, hg, rfl, rfl, HPv, HMv, HSv⟩ := hrel; have HGv : Hid (gk = i - v) := hg; clear hg; obtain ⟨k0, k1, k2, -⟩ := blk3 (HSv.out.mo.trans HCs.out); by_cases hlt : v < i
                · have hltI : (v : Int) < (i : Int) := by omega
                  (have huI : (u : Int) < (i : Int) := by have := HU.out; omega); have HV : Hid (v < i) := hlt; obtain ⟨c1, c2⟩ := HMv.out.cells HU.out hlt; have j0 : wr.cell? ⟨bI, 0, none⟩ = some (.slice (some ⟨gi, 0, none⟩) i i) := blk_cell HSv.out.i 0; clear hlt hv
                  cases hm : M2 u v with
                  | false =>
                    rw [hm] at c2; (have HPn : Hid (PasM i (relB rel) tr cl M M2 ag u (v + 1)) := HPv.out.go fun e => by rw [hm] at e; cases e); clear hm; go_wp2_with fail
                    go_roundg (i - (v + 1))
                    case measure => have := HGv.out; have := HV.out; omega
                    case rel => exact ⟨v + 1, ag, M2, HV.out, rfl, by go_num, rfl, HPn, HMv, HSv⟩
                  | true =>
                    rw [hm] at c2; have HM9 : Hid (M2 u v = true) := hm; have HK1 := HCv.out u v M2 wr HU.out HV.out HSv.out HMv.out; clear hm; go_wp2_with fail; refine HK1.mono ?_; rintro _ w4 ⟨rfl, hb4⟩; have HM4 : Hid (MtR w4 gi i rb M2) := HMv.out.up hb4; have HS4 : Hid (AlS w w4 i rel (.cells CS 30 (0, 0)) bS bI gs gi) := HSv.out.up hb4; obtain ⟨e1, e2⟩ := HM4.out.cells HU.out HV.out; obtain ⟨e3, e4⟩ := HM4.out.cells HV.out HU.out; have e0 : w4.cell? ⟨bI, 0, none⟩ = some (.slice (some ⟨gi, 0, none⟩) i i) := blk_cell HS4.out.i 0; have f1 := blk_fz (HM4.out.row u HU.out) v; clear hb4 HK1 c1 c2 j0 k0 k1 k2
                    cases hc1 : covM i (relB rel) M2 u v with
                    | true =>
                      have HK2 := HCv.out v u M2 w4 HV.out HU.out HS4.out HM4.out; have HC1 : Hid (covM i (relB rel) M2 u v = true) := hc1; clear hc1; go_wp2_with fail; refine HK2.mono ?_; rintro _ w5 ⟨rfl, hb5⟩; have HM5 : Hid (MtR w5 gi i rb M2) := HM4.out.up hb5; have HS5 : Hid (AlS w w5 i rel (.cells CS 30 (0, 0)) bS bI gs gi) := HS4.out.up hb5; clear hb5 HK2 e1 e2 e3 e4 e0 f1
                      cases hc2 : covM i (relB rel) M2 v u with
                      | true =>
                        (have HPn : Hid (PasM i (relB rel) tr cl M M2 ag u (v + 1)) := HPv.out.go fun _ => ⟨HC1.out, hc2⟩); clear hc2; go_wp2_with fail
                        go_roundg (i - (v + 1))
                        case measure => have := HGv.out; have := HV.out; omega
                        case rel => exact ⟨v + 1, ag, M2, HV.out, rfl, by go_num, rfl, HPn, HM5, HS5⟩
                      | false =>
                        (have HPn : Hid (PasM i (relB rel) tr cl M (cutM M2 u v) true u (v + 1)) := HPv.out.cutD (HCt.out M2 u v HU.out HV.out HPv.out.al (by rw [hc2, Bool.and_false])) HU.out HV.out HM9.out); clear hc2; obtain ⟨m1, m2⟩ := HM5.out.cells HU.out HV.out; have m0 : w5.cell? ⟨bI, 0, none⟩ = some (.slice (some ⟨gi, 0, none⟩) i i) := blk_cell HS5.out.i 0; have m3 := blk_fz (HM5.out.row u HU.out) v; obtain ⟨X1, hX1⟩ : ∃ X1, X1 = w5.setCell ⟨rb u, v, none⟩ (.bool false) := ⟨_, rfl⟩; (have HMx : Hid (MtR X1 gi i rb (fun x y => if x = u ∧ y = v then false else M2 x y)) := by rw [hX1]; exact HM5.out.set HU.out false); (have HSx : Hid (AlS w X1 i rel (.cells CS 30 (0, 0)) bS bI gs gi) := by rw [hX1]; exact HS5.out.set _ (HM5.out.row u HU.out) (HLow.out u HU.out) (by decide) (by decide) (by decide) (by decide) (by decide))
                        go_upto_region 23 with fail
                        rw [← hX1]; (have HMf : Hid (MtR (X1.setCell ⟨rb v, u, none⟩ (.bool false)) gi i rb (cutM M2 u v)) := by rw [hX1]; exact HM5.out.cut HU.out HV.out); (have HSf : Hid (AlS w (X1.setCell ⟨rb v, u, none⟩ (.bool false)) i rel (.cells CS 30 (0, 0)) bS bI gs gi) := HSx.out.set _ (HMx.out.row v HV.out) (HLow.out v HV.out) (by decide) (by decide) (by decide) (by decide) (by decide)); clear m0 m1 m2 m3 hX1; obtain ⟨m1, m2⟩ := HMx.out.cells HV.out HU.out; have m0 : X1.cell? ⟨bI, 0, none⟩ = some (.slice (some ⟨gi, 0, none⟩) i i) := blk_cell HSx.out.i 0; have m3 := blk_fz (HMx.out.row v HV.out) u; go_wp2_with fail
                        go_roundg (i - (v + 1))
                        case measure => have := HGv.out; have := HV.out; omega
                        case rel => exact ⟨v + 1, true, cutM M2 u v, HV.out, rfl, by go_num, rfl, HPn, HMf, HSf⟩
                    | false =>
                      (have HPn : Hid (PasM i (relB rel) tr cl M (cutM M2 u v) true u (v + 1)) := HPv.out.cutD (HCt.out M2 u v HU.out HV.out HPv.out.al (by rw [hc1, Bool.false_and])) HU.out HV.out HM9.out); clear hc1; obtain ⟨m1, m2⟩ := HM4.out.cells HU.out HV.out; have m0 : w4.cell? ⟨bI, 0, none⟩ = some (.slice (some ⟨gi, 0, none⟩) i i) := blk_cell HS4.out.i 0; have m3 := blk_fz (HM4.out.row u HU.out) v; obtain ⟨X1, hX1⟩ : ∃ X1, X1 = w4.setCell ⟨rb u, v, none⟩ (.bool false) := ⟨_, rfl⟩; (have HMx : Hid (MtR X1 gi i rb (fun x y => if x = u ∧ y = v then false else M2 x y)) := by rw [hX1]; exact HM4.out.set HU.out false); (have HSx : Hid (AlS w X1 i rel (.cells CS 30 (0, 0)) bS bI gs gi) := by rw [hX1]; exact HS4.out.set _ (HM4.out.row u HU.out) (HLow.out u HU.out) (by decide) (by decide) (by decide) (by decide) (by decide))
                      go_upto_region 23 with fail
                      rw [← hX1]; (have HMf : Hid (MtR (X1.setCell ⟨rb v, u, none⟩ (.bool false)) gi i rb (cutM M2 u v)) := by rw [hX1]; exact HM4.out.cut HU.out HV.out); (have HSf : Hid (AlS w (X1.setCell ⟨rb v, u, none⟩ (.bool false)) i rel (.cells CS 30 (0, 0)) bS bI gs gi) := HSx.out.set _ (HMx.out.row v HV.out) (HLow.out v HV.out) (by decide) (by decide) (by decide) (by decide) (by decide)); clear m0 m1 m2 m3 hX1 e0 e1 e2 e3 e4 f1; obtain ⟨m1, m2⟩ := HMx.out.cells HV.out HU.out; have m0 : X1.cell? ⟨bI, 0, none⟩ = some (.slice (some ⟨gi, 0, none⟩) i i) := blk_cell HSx.out.i 0; have m3 := blk_fz (HMx.out.row v HV.out) u; go_wp2_with fail
                      go_roundg (i - (v + 1))
                      case measure => have := HGv.out; have := HV.out; omega
                      case rel => exact ⟨v + 1, true, cutM M2 u v, HV.out, rfl, by go_num, rfl, HPn, HMf, HSf⟩
                · have hii : v = i := by omega
                  subst hii; (have hge : ¬ (v : Int) < (v : Int) := by omega); clear hlt hv; go_wp2_with fail
                  go_roundg (v - (u + 1))
                  case measure => have := HGu.out; have := HU.out; omega
                  case rel => exact ⟨u + 1, ag, M2, HU.out, rfl, by go_num, rfl, HPv.out.next, HMv, HSv⟩
            · have hii : u = i := by omega
              subst hii; (have hge : ¬ (u : Int) < (u : Int) := by omega); clear hlt hu; go_wp2_with fail
              go_roundg (if ag = true then cntM u M2 + 1 else 0)
              case measure =>
                have h1 := HGk.out; simp only [if_true] at h1; rw [h1]
                split
                · rename_i e; have := HPu.out.yes e; omega
                · omega
              case rel => exact ⟨ag, M2, rfl, rfl, HMu, HPu.out.al, fun e a b ha hb hm => (HPu.out.no e).2 a b ha hb (Or.inl ha) hm, HSu⟩
end Go.Proofs.Ytclinobfbdljhah
/- Walks: the classes of the yardstick (ClassesOf). -/
namespace Go.Proofs.Ytclinobfbdljhah
open Go.RowKit

theorem new_num {cl : List Nat} (hn : numK cl = cl) {u c : Nat} (hc : cl[u]? = some c) (hno : c ∉ cl.take u) : c = (extK [] (cl.take u)).length := by
  have h1 := numK_get hc; rw [hn, hc] at h1
  have h2 : c ∉ extK [] (cl.take u) := fun h => by
    rcases (extK_mem _ _ _).1 h with h | h
    · cases h
    · exact hno h
  have h3 : extK [] cl = extK (extK [] (cl.take u) ++ [c]) (cl.drop (u + 1)) := by
    have e : cl = cl.take u ++ ([c] ++ cl.drop (u + 1)) := by
      have hlt := (List.getElem?_eq_some_iff.1 hc).1; have hg := (List.getElem?_eq_some_iff.1 hc).2
      conv => lhs; rw [← List.take_append_drop u cl]
      rw [List.drop_eq_getElem_cons hlt, hg]; rfl
    conv => lhs; rw [e]
    rw [extK_app, extK_app, extK_one, if_neg h2]
  obtain ⟨r, hr⟩ := extK_pre (cl.drop (u + 1)) (extK [] (cl.take u) ++ [c]); (rw [h3, hr, idxOf_pre (by simp), idxOf_new h2] at h1); exact Option.some.inj h1
theorem ext_grow {cl : List Nat} {u c : Nat} (hc : cl[u]? = some c) : (extK [] (cl.take (u + 1))).length = if c ∈ cl.take u then (extK [] (cl.take u)).length else (extK [] (cl.take u)).length + 1 := by
  rw [(take_num hc).2, extK_one]; (have e : c ∈ extK [] (cl.take u) ↔ c ∈ cl.take u := by rw [extK_mem]; simp); by_cases h : c ∈ cl.take u
  · rw [if_pos (e.2 h), if_pos h]
  · rw [if_neg fun h2 => h (e.1 h2), if_neg h, List.length_append]
    rfl
/-- The classes' numbers as far as they are written. -/
structure OutP (wr : World) (go N : Nat) (cl : List Nat) (u : Nat) (cur : Array Value) : Prop where
  blk : wr.heap[go]? = some (.cells cur 3 (0, 0))
  size : cur.size = N
  each : ∀ j c, j < u → cl[j]? = some c → cur[j]? = some (.int .i64 (c : Nat))
theorem OutP.set {wr : World} {go N : Nat} {cl : List Nat} {u : Nat} {cur : Array Value} (h : OutP wr go N cl u cur) (x : Value) : OutP (wr.setCell ⟨go, u, none⟩ x) go N cl u (cur.setIfInBounds u x) :=
  ⟨blk_setS h.blk x, by rw [Array.size_setIfInBounds]; exact h.size, fun j c hj hc => by rw [Array.getElem?_setIfInBounds_ne (by omega)]; exact h.each j c hj hc⟩
theorem OutP.cell {wr : World} {go N : Nat} {cl : List Nat} {u : Nat} {cur : Array Value} (h : OutP wr go N cl u cur) {j : Nat} {x : Value} (hx : cur[j]? = some x) : wr.cell? ⟨go, j, none⟩ = some x := (blk_cell h.blk j).trans hx
theorem OutP.step {wr : World} {go N : Nat} {cl : List Nat} {u c : Nat} {cur : Array Value} (h : OutP wr go N cl u cur) (hc : cl[u]? = some c) (hx : cur[u]? = some (.int .i64 (c : Nat))) : OutP wr go N cl (u + 1) cur :=
  ⟨h.blk, h.size, fun j c' hj hc' => by
    by_cases e : j = u
    · subst e
      rw [hc] at hc'
      cases hc'
      exact hx
    · exact h.each j c' (by omega) hc'⟩
set_option maxRecDepth 10000 in
set_option maxHeartbeats 8000000 in
theorem classesOf_any (N : Nat) (h0 : 0 < N) (hN : N ≤ 40) (rel : List (Int × Int)) (hrl : rel.length ≤ 2000) (hin : InR N rel) (tr : List (List (List UInt8))) (htl : tr.length = N) (hnm : ∀ l ∈ tr, l.length ≤ 30 ∧ ∀ t ∈ l, isNm t = true) (ra ta : Option Addr) (rc tc : Nat) (w : World) (hp : PL w (.slice ra rel.length rc) rel) (ht : SLs w (.slice ta tr.length tc) tr) :
    Calls Try.prog 22 #[.agg #[.int .i64 (N : Nat), .slice ra rel.length rc, .slice ta tr.length tc]] w fun e w' => ∃ go cur, e = .returned (.slice (some ⟨go, 0, none⟩) N N) ∧ w.heap.size ≤ go ∧ OutP w' go N (clsK N (relB rel) (tr.map nmz)) N cur ∧ Below w.heap.size w w' := by
  (have hNi : (N : Int) ≤ 40 := by omega); (have hl0 : (byN (tr.map nmz)).length = N := by rw [byN_len, List.length_map, htl]); (have hlt0 : ∀ n ∈ byN (tr.map nmz), n < N := fun n hn => by have := byN_lt n hn; rwa [List.length_map, htl] at this); obtain ⟨cl, hcl⟩ : ∃ cl, cl = clsK N (relB rel) (tr.map nmz) := ⟨_, rfl⟩; have HCl : Hid (cl = clsK N (relB rel) (tr.map nmz)) := hcl; (have HLen : Hid (cl.length = N) := by rw [hcl]; exact levK_len hl0 _); (have HLt : Hid (∀ n ∈ cl, n < N) := by rw [hcl]; exact levK_lt hlt0 _); (have HNum : Hid (numK cl = cl) := by rw [hcl]; exact levK_num (by rw [byN]; exact numK_idem _) _)
  have HAk : Hid (∀ W, Below w.heap.size w W → Calls Try.prog 43 #[.agg #[.int .i64 (N : Nat), .slice ra rel.length rc, .slice ta tr.length tc]] W fun e w' => ∃ gi rb M, e = .returned (.slice (some ⟨gi, 0, none⟩) N N) ∧ MtR w' gi N rb M ∧ (∀ u v, u < N → v < N → M u v = eqC cl u v) ∧ Below W.heap.size W w') := fun W hb => by
    rw [hcl]; exact alike_any N h0 hN rel hrl hin tr htl hnm ra ta rc tc W (hp.up hb) (ht.upM hb)
  (have hmk := fun w => run_make_row' (P := Try.prog) 45 3 (.int .i64 0) 8 Try.underlying45 (by kernel_rfl) rfl .i64 .i64 N (by omega) (by omega) w); have HN : Hid (N ≤ 40) := hN; obtain ⟨W, hW⟩ : ∃ W, W = w.alloc (.cells #[.int .i64 (N : Nat), .slice ra rel.length rc, .slice ta tr.length tc] 30 (0, 0)) := ⟨_, rfl⟩; (have HB0 : Hid (Below w.heap.size w W) := by rw [hW]; exact below_more (Below.refl _ w) _); (have HX : Hid (W.heap[w.heap.size]? = some (.cells #[.int .i64 (N : Nat), .slice ra rel.length rc, .slice ta tr.length tc] 30 (0, 0))) := by rw [hW]; exact blk_new _ _); obtain ⟨q0, q1, q2, -⟩ := blk3 HX.out; rw [← hcl]; clear hin hN h0 htl hnm hp ht hrl hl0 hlt0 hcl
  go_enter Try.func22, Try.ntmps22
  go_wp2_with fail; rw [← hW]; clear hW; refine (HAk.out W HB0.out).mono ?_; rintro _ w1 ⟨gi, rb, M, rfl, hmt, hmc, hb1⟩; have HB1 : Hid (Below w.heap.size w w1) := below_join HB0.out hb1; have HX1 : Hid (w1.heap[w.heap.size]? = some (.cells #[.int .i64 (N : Nat), .slice ra rel.length rc, .slice ta tr.length tc] 30 (0, 0))) := below_keep hb1 HX.out; have HMt : Hid (MtR w1 gi N rb M) := hmt; have HMc : Hid (∀ u v, u < N → v < N → M u v = eqC cl u v) := hmc; obtain ⟨d0, d1, d2, -⟩ := blk3 HX1.out; have z1 := lt_of_block HX1.out; obtain ⟨Y, hY⟩ : ∃ Y, Y = w1.alloc (.cells (madeCells #[.int .i64 0] N) 3 (0, 0)) := ⟨_, rfl⟩; (have HbY : Hid (Below w1.heap.size w1 Y) := by rw [hY]; exact below_more (Below.refl _ _) _); (have HOY : Hid (OutP Y w1.heap.size N cl 0 (madeCells #[.int .i64 0] N)) := ⟨by rw [hY]; exact blk_new _ _, by simp [madeCells], fun j c hj => by omega⟩); clear hb1 hmt hmc q0 q1 q2
  go_upto_region 3 with fail
  rw [← hY]; obtain ⟨go, hgo⟩ : ∃ b, b = w1.heap.size := ⟨_, rfl⟩; rw [← hgo] at HOY ⊢; (have HGo : Hid (w.heap.size ≤ go) := by rw [hgo]; exact HB1.out.size); (have HGn : Hid (w1.heap.size ≤ go) := by rw [hgo]; exact Nat.le_refl _); (have HBY : Hid (Below go w1 Y) := by rw [hgo]; exact HbY.out); clear hgo hY d0 d1 d2 z1 hmk HbY HB0 HX HAk; (obtain ⟨k0, k1, k2, -⟩ := blk3 ((HBY.out.block _ (by have := lt_of_block HX1.out; have := HGn.out; omega)).trans HX1.out)); go_wp2_with fail; clear k0 k1 k2
  go_loopg [6, 5, 7] N (fun gg y6 y5 y7 wr => ∃ u cur, u ≤ N ∧ gg = N - u ∧ y6 = .int .i64 (u : Nat) ∧ y5 = .int .i64 ((extK [] (cl.take u)).length : Nat) ∧ Hid (OutP wr go N cl u cur) ∧ Hid (Below go w1 wr))
  case atStart => exact ⟨0, _, by omega, by omega, rfl, rfl, HOY, HBY⟩
  case round =>
    obtain ⟨u, cur, hu, hg, rfl, rfl, HO, HB⟩ := hrel; have HGk : Hid (gk = N - u) := hg; clear hg; (have HXr : Hid (wr.heap[w.heap.size]? = some (.cells #[.int .i64 (N : Nat), .slice ra rel.length rc, .slice ta tr.length tc] 30 (0, 0))) := (HB.out.block _ (by have := lt_of_block HX1.out; have := HGn.out; omega)).trans HX1.out); obtain ⟨k0, k1, k2, -⟩ := blk3 HXr.out
    have hel : ((extK [] (cl.take u)).length : Int) ≤ 40 := by
      have h1 := extK_len (cl.take u) ([] : List Nat); have h2 := HN.out; rw [List.length_take] at h1; simp at h1; omega
    by_cases hlt : u < N
    · have hltI : (u : Int) < (N : Int) := by omega
      have HU : Hid (u < N) := hlt; (obtain ⟨c, hc⟩ : ∃ c, cl[u]? = some c := ⟨_, List.getElem?_eq_getElem (by rw [HLen.out]; exact hlt)⟩); have HC : Hid (cl[u]? = some c) := hc; (have HGr : Hid ((extK [] (cl.take (u + 1))).length = if c ∈ cl.take u then (extK [] (cl.take u)).length else (extK [] (cl.take u)).length + 1) := ext_grow hc); have HNw : Hid (c ∉ cl.take u → c = (extK [] (cl.take u)).length) := new_num HNum.out hc; (obtain ⟨x0, hx0⟩ : ∃ x, cur[u]? = some x := ⟨_, Array.getElem?_eq_getElem (by rw [HO.out.size]; exact hlt)⟩); have j0 : wr.cell? ⟨go, u, none⟩ = some x0 := HO.out.cell hx0; have j1 := blk_fz HO.out.blk u; obtain ⟨F, hF⟩ : ∃ F, F = wr.setCell ⟨go, u, none⟩ (.int .i64 (-1)) := ⟨_, rfl⟩; (have HOF : Hid (OutP F go N cl u (cur.setIfInBounds u (.int .i64 (-1)))) := by rw [hF]; exact HO.out.set _); (have HBF : Hid (Below go w1 F) := by rw [hF]; exact HB.out.setCell (p := ⟨go, u, none⟩) (Nat.le_refl _) _); (have hcu : (cur.setIfInBounds u (.int .i64 (-1)))[u]? = some (.int .i64 (-1)) := Array.getElem?_setIfInBounds_self_of_lt (by rw [HO.out.size]; exact hlt)); generalize cur.setIfInBounds u (.int .i64 (-1)) = cur1 at *; have HCu : Hid (cur1[u]? = some (.int .i64 (-1))) := hcu; generalize hnn : (extK [] (cl.take u)).length = nn at *; clear hnn; clear hlt hu hc hx0 hcu
      go_upto_region 8 with fail
      rw [← hF]; clear hF j0 j1 k0 k1 k2; go_wp2_with fail; obtain ⟨V, hV⟩ : ∃ V, V = wr := ⟨_, rfl⟩; clear hV V
      go_loopg [7] u (fun gg y7 wr => ∃ v cur2 x, v ≤ u ∧ gg = u - v ∧ y7 = .int .i64 (v : Nat) ∧ Hid (OutP wr go N cl u cur2) ∧ Hid (cur2[u]? = some (.int .i64 x)) ∧ Hid (x = if c ∈ cl.take v then (c : Int) else -1) ∧ Hid (Below go w1 wr))
      case atStart => exact ⟨0, cur1, -1, by omega, by omega, rfl, HOF, HCu, by show _ = _; simp, HBF⟩
      case round =>
        obtain ⟨v, cur2, x, hv, hg, rfl, HO2, HX2, HXe, HB2⟩ := hrel; have HGv : Hid (gk = u - v) := hg; clear hg; by_cases hlt : v < u
        · have hltI : (v : Int) < (u : Int) := by omega
          (have hvN : (v : Int) < (N : Int) := by have := HU.out; omega); (have huN : (u : Int) < (N : Int) := by have := HU.out; omega); have HV : Hid (v < u) := hlt; (obtain ⟨cv, hcv⟩ : ∃ c, cl[v]? = some c := ⟨_, List.getElem?_eq_getElem (by rw [HLen.out]; have := HU.out; omega)⟩); (obtain ⟨m1, m2⟩ := (HMt.out.up (HB2.out.mono HGn.out)).cells HU.out (show v < N by have := HU.out; omega)); (rw [HMc.out u v HU.out (by have := HU.out; omega), eqC, getD_of HC.out, getD_of hcv] at m2); have j0 : wr.cell? ⟨go, v, none⟩ = some (.int .i64 (cv : Nat)) := HO2.out.cell (HO2.out.each v cv hlt hcv); have j1 : wr.cell? ⟨go, u, none⟩ = some (.int .i64 x) := HO2.out.cell HX2.out; have j2 := blk_fz HO2.out.blk u; (have HTk : Hid (cl.take (v + 1) = cl.take v ++ [cv]) := by show _ = _; rw [List.take_add_one, hcv]; rfl); by_cases he : c = cv
          · rw [decide_eq_true he] at m2
            have HOn : Hid (OutP (wr.setCell ⟨go, u, none⟩ (.int .i64 (cv : Nat))) go N cl u (cur2.setIfInBounds u (.int .i64 (cv : Nat)))) := HO2.out.set _; (have HXn : Hid ((cur2.setIfInBounds u (.int .i64 (cv : Nat)))[u]? = some (.int .i64 (cv : Nat))) := Array.getElem?_setIfInBounds_self_of_lt (by rw [HO2.out.size]; exact HU.out))
            have HXm : Hid ((cv : Int) = if c ∈ cl.take (v + 1) then (c : Int) else -1) := by
              show _ = _; (rw [HTk.out, if_pos (by rw [he]; simp), he])
            have HBn : Hid (Below go w1 (wr.setCell ⟨go, u, none⟩ (.int .i64 (cv : Nat)))) := HB2.out.setCell (p := ⟨go, u, none⟩) (Nat.le_refl _) _; clear hlt hv hcv he; go_wp2_with fail
            go_roundg (u - (v + 1))
            case measure => have := HGv.out; have := HV.out; omega
            case rel => exact ⟨v + 1, _, _, HV.out, rfl, by go_num, HOn, HXn, HXm, HBn⟩
          · rw [decide_eq_false he] at m2
            have HXm : Hid (x = if c ∈ cl.take (v + 1) then (c : Int) else -1) := by
              show _ = _; rw [HXe.out, HTk.out]; (have e : (c ∈ cl.take v ++ [cv]) ↔ c ∈ cl.take v := by simp [he]); by_cases h9 : c ∈ cl.take v
              · rw [if_pos h9, if_pos (e.2 h9)]
              · rw [if_neg h9, if_neg fun h => h9 (e.1 h)]
            clear hlt hv hcv he; go_wp2_with fail
            go_roundg (u - (v + 1))
            case measure => have := HGv.out; have := HV.out; omega
            case rel => exact ⟨v + 1, _, _, HV.out, rfl, by go_num, HO2, HX2, HXm, HB2⟩
        · have hii : v = u := by omega
          subst hii; (have hge : ¬ (v : Int) < (v : Int) := by omega); (have hvN : (v : Int) < (N : Int) := by have := HU.out; omega); have j1 : wr.cell? ⟨go, v, none⟩ = some (.int .i64 x) := HO2.out.cell HX2.out; have j2 := blk_fz HO2.out.blk v; clear hlt hv HGv; by_cases hc : c ∈ cl.take v
          · have hxe : x = (c : Int) := by rw [HXe.out, if_pos hc]
            (have HEl : Hid ((extK [] (cl.take (v + 1))).length = nn) := by show _ = _; rw [HGr.out, if_pos hc]); (have HOn : Hid (OutP wr go N cl (v + 1) cur2) := HO2.out.step HC.out (by rw [HX2.out, hxe])); subst hxe; (have hnl : ¬ (c : Int) < 0 := by omega); clear hc; go_wp2_with fail
            go_roundg (N - (v + 1))
            case measure => have := HGk.out; have := HU.out; omega
            case rel => exact ⟨v + 1, cur2, HU.out, rfl, by go_num, by rw [HEl.out], HOn, HB2⟩
          · have hxe : x = -1 := by rw [HXe.out, if_neg hc]
            have hcn : c = nn := HNw.out hc; (have HEl : Hid ((extK [] (cl.take (v + 1))).length = nn + 1) := by show _ = _; rw [HGr.out, if_neg hc]); (have HOn : Hid (OutP (wr.setCell ⟨go, v, none⟩ (.int .i64 (nn : Nat))) go N cl (v + 1) (cur2.setIfInBounds v (.int .i64 (nn : Nat)))) := (HO2.out.set _).step HC.out (by rw [hcn]; exact Array.getElem?_setIfInBounds_self_of_lt (by rw [HO2.out.size]; exact HU.out))); have HBn : Hid (Below go w1 (wr.setCell ⟨go, v, none⟩ (.int .i64 (nn : Nat)))) := HB2.out.setCell (p := ⟨go, v, none⟩) (Nat.le_refl _) _; subst hxe; clear hc hcn; go_wp2_with fail
            go_roundg (N - (v + 1))
            case measure => have := HGk.out; have := HU.out; omega
            case rel => exact ⟨v + 1, _, HU.out, rfl, by go_num, by rw [HEl.out]; go_num, HOn, HBn⟩
    · have hii : u = N := by omega
      subst hii; (have hge : ¬ (u : Int) < (u : Int) := by omega); clear hlt hu; go_wp2_with fail; go_ret; exact ⟨go, rfl, HGo.out, ⟨cur, HO.out⟩, HB1.out.trans (HB.out.mono HGo.out)⟩
end Go.Proofs.Ytclinobfbdljhah
/- Walks: the classes of a view as worlds (shrunk). -/
namespace Go.Proofs.Ytclinobfbdljhah
open Go.RowKit Go.Sort

theorem rowSh11 (l : List Value) (h0 : l.length = 11) : ∃ x0 x1 x2 x3 x4 x5 x6 x7 x8 x9 x10, l = [x0, x1, x2, x3, x4, x5, x6, x7, x8, x9, x10] := by
  obtain ⟨x0, l1, e0, h1⟩ := cons_lenM h0; obtain ⟨x1, l2, e1, h2⟩ := cons_lenM h1; obtain ⟨x2, l3, e2, h3⟩ := cons_lenM h2; obtain ⟨x3, l4, e3, h4⟩ := cons_lenM h3; obtain ⟨x4, l5, e4, h5⟩ := cons_lenM h4; obtain ⟨x5, l6, e5, h6⟩ := cons_lenM h5; obtain ⟨x6, l7, e6, h7⟩ := cons_lenM h6; obtain ⟨x7, l8, e7, h8⟩ := cons_lenM h7; obtain ⟨x8, l9, e8, h9⟩ := cons_lenM h8; obtain ⟨x9, l10, e9, h10⟩ := cons_lenM h9; obtain ⟨x10, l11, e10, h11⟩ := cons_lenM h10; have e11 : l11 = [] := List.length_eq_zero_iff.1 h11; subst e11 e10 e9 e8 e7 e6 e5 e4 e3 e2 e1 e0; exact ⟨x0, x1, x2, x3, x4, x5, x6, x7, x8, x9, x10, rfl⟩
/-- The first worlds of classes. -/
def firsts (cl : List Nat) (u : Nat) : List Nat := (List.range u).filter fun v => !(cl.take v).contains (cl.getD v 0)
theorem firsts_succ (cl : List Nat) {u c : Nat} (hc : cl[u]? = some c) : firsts cl (u + 1) = if c ∈ cl.take u then firsts cl u else firsts cl u ++ [u] := by
  unfold firsts; rw [List.range_succ, List.filter_append, List.filter_cons, List.filter_nil, getD_of hc]; by_cases h : c ∈ cl.take u
  · rw [if_pos h, List.contains_iff_mem.2 h]
    simp
  · have h2 : (cl.take u).contains c = false := by
      rw [Bool.eq_false_iff]; intro e; exact h (List.contains_iff_mem.1 e)
    rw [if_neg h, h2]; rfl
theorem firsts_len {cl : List Nat} : ∀ {u : Nat}, u ≤ cl.length → (firsts cl u).length = (extK [] (cl.take u)).length
  | 0, _ => rfl
  | u + 1, h => by
    (obtain ⟨c, hc⟩ : ∃ c, cl[u]? = some c := ⟨_, List.getElem?_eq_getElem (by omega)⟩); rw [firsts_succ cl hc, ext_grow hc]; (have ih := firsts_len (cl := cl) (u := u) (by omega)); by_cases hm : c ∈ cl.take u
    · rw [if_pos hm, if_pos hm, ih]
    · rw [if_neg hm, if_neg hm, List.length_append, ih]
      rfl
theorem old_num {cl : List Nat} (hn : numK cl = cl) {u c : Nat} (hc : cl[u]? = some c) (hin : c ∈ cl.take u) : c < (extK [] (cl.take u)).length := by
  have h1 := numK_get hc; rw [hn, hc] at h1; have h2 : c ∈ extK [] (cl.take u) := (extK_mem _ _ _).2 (Or.inr hin)
  have h3 : extK [] cl = extK (extK [] (cl.take u)) (cl.drop u) := by
    conv => lhs; rw [← List.take_append_drop u cl]
    exact extK_app _ _ _
  obtain ⟨r, hr⟩ := extK_pre (cl.drop u) (extK [] (cl.take u)); rw [h3, hr, idxOf_pre h2] at h1; rw [Option.some.inj h1]; exact List.idxOf_lt_length_of_mem h2
def relsK (N : Nat) (R : Nat → Nat → Bool) (cl : List Nat) (u : Nat) : List (Int × Int) := (memTo (seesC N R cl u) N).map fun b => (((cl.getD u 0 : Nat) : Int), ((b : Nat) : Int))
def shRel (N : Nat) (R : Nat → Nat → Bool) (cl : List Nat) (u : Nat) : List (Int × Int) := (firsts cl u).flatMap (relsK N R cl)
def shTr (nss : List (List (List UInt8))) (cl : List Nat) (u : Nat) : List (List (List UInt8)) := (firsts cl u).map (nmAt nss)
theorem shRel_len {N : Nat} (R : Nat → Nat → Bool) (cl : List Nat) (u : Nat) : (shRel N R cl u).length ≤ u * N := by
  unfold shRel
  have h1 : (firsts cl u).length ≤ u := by
    (have := List.length_filter_le (fun v => !(cl.take v).contains (cl.getD v 0)) (List.range u))
    rwa [List.length_range] at this
  have h2 : ∀ (l : List Nat), (l.flatMap (relsK N R cl)).length ≤ l.length * N := fun l => by
    induction l with
    | nil => simp
    | cons a l ih =>
      (have h3 : (relsK N R cl a).length ≤ N := by rw [relsK, List.length_map]; exact memTo_len _ _); rw [List.flatMap_cons, List.length_append, List.length_cons, Nat.add_mul, Nat.one_mul]; omega
  exact Nat.le_trans (h2 _) (Nat.mul_le_mul_right _ h1)
/-- The model being made. -/
structure ShP (w wr : World) (bm cu : Nat) (rels : List (Int × Int)) (trs : List (List (List UInt8))) (adr : Option Addr) (cpr : Nat) (adt : Option Addr) (cpt : Nat) (us : List Value) : Prop where
  md : wr.heap[bm]? = some (.cells #[.int .i64 (cu : Nat), .slice adr rels.length cpr, .slice adt trs.length cpt] 30 (0, 0))
  rl : wr.ownsRow w.heap.size 42 2 (.slice adr rels.length cpr) rels.length (encP rels)
  tr : wr.ownsRow w.heap.size 80 1 (.slice adt trs.length cpt) trs.length us
  tx : TxsAre w.heap.size wr us trs
  below : Below w.heap.size w wr
theorem ShP.up {w wr wq : World} {bm cu : Nat} {rels : List (Int × Int)} {trs : List (List (List UInt8))} {adr : Option Addr} {cpr : Nat} {adt : Option Addr} {cpt : Nat} {us : List Value} (h : ShP w wr bm cu rels trs adr cpr adt cpt us) (hb : Below wr.heap.size wr wq) : ShP w wq bm cu rels trs adr cpr adt cpt us :=
  ⟨below_keep hb h.md, rowM_up h.rl hb, rowM_up h.tr hb, h.tx.move fun g _ _ hh => hb.block g (lt_of_block hh), below_join h.below hb⟩
/-- What stays beside it. -/
structure ShO (w wr : World) (N g h bO : Nat) (adc : Option Addr) (cpc : Nat) (cl : List Nat) : Prop where
  box : wr.heap[w.heap.size]? = some (.cells #[.slice (some ⟨g, 0, none⟩) N N, .slice (some ⟨h, 0, none⟩) N N] 84 (0, 0))
  cls : OwnN w.heap.size wr adc cpc cl
  out : wr.heap[bO]? = some (.cells #[.int .i64 0, .slice none 0 0, .slice none 0 0] 30 (0, 0))
theorem ShO.up {w wr wq : World} {N g h bO : Nat} {adc : Option Addr} {cpc : Nat} {cl : List Nat} (x : ShO w wr N g h bO adc cpc cl) (hb : Below wr.heap.size wr wq) : ShO w wq N g h bO adc cpc cl :=
  ⟨below_keep hb x.box, rowM_up x.cls hb, below_keep hb x.out⟩
theorem ShO.move {w wr wq : World} {N g h bO : Nat} {adc : Option Addr} {cpc : Nat} {cl : List Nat} (x : ShO w wr N g h bO adc cpc cl) (h1 : ∀ (b : Nat) (cs : Array Value), wr.heap[b]? = some (.cells cs 84 (0, 0)) → wq.heap[b]? = wr.heap[b]?) (h2 : ∀ (b : Nat) (cs : Array Value), wr.heap[b]? = some (.cells cs 3 (0, 0)) → wq.heap[b]? = wr.heap[b]?) (h3 : wq.heap[bO]? = wr.heap[bO]?) : ShO w wq N g h bO adc cpc cl :=
  ⟨(h1 _ _ x.box).trans x.box, OwnN.move x.cls h2, h3.trans x.out⟩
/-- A cell of the model is written. -/
theorem far_model {wr : World} {bm i : Nat} {cs : Array Value} (hb : wr.heap[bm]? = some (.cells cs 30 (0, 0))) (v : Value) (b : Nat) (cur : Array Value) (T : TypeId) (h : wr.heap[b]? = some (.cells cur T (0, 0))) (hT : T ≠ 30) : (wr.setCell ⟨bm, i, none⟩ v).heap[b]? = wr.heap[b]? := by
  (refine blk_otherS _ fun e => ?_); rw [e, hb] at h; simp only [Option.some.injEq, Obj.cells.injEq] at h; exact hT h.2.1.symm
theorem ShO.setM {w wr : World} {N g h bO bm i : Nat} {adc : Option Addr} {cpc : Nat} {cl : List Nat} {cs : Array Value} (x : ShO w wr N g h bO adc cpc cl) (hb : wr.heap[bm]? = some (.cells cs 30 (0, 0))) (hne : bO ≠ bm) (v : Value) : ShO w (wr.setCell ⟨bm, i, none⟩ v) N g h bO adc cpc cl :=
  x.move (fun b cur hc => far_model hb v b cur _ hc (by decide)) (fun b cur hc => far_model hb v b cur _ hc (by decide)) (blk_otherS _ hne)
section
variable {w wr : World} {bm cu : Nat} {rels : List (Int × Int)} {trs : List (List (List UInt8))} {adr : Option Addr} {cpr : Nat} {adt : Option Addr} {cpt : Nat} {us : List Value}
theorem ShP.setN (h : ShP w wr bm cu rels trs adr cpr adt cpt us) (hlo : w.heap.size ≤ bm) (k : Nat) : ShP w (wr.setCell ⟨bm, 0, none⟩ (.int .i64 (k : Nat))) bm k rels trs adr cpr adt cpt us :=
  ⟨by rw [blk_setS h.md]; rfl, rowM_move h.rl fun g cur _ hh => far_model h.md _ g cur _ hh (by decide), rowM_move h.tr fun g cur _ hh => far_model h.md _ g cur _ hh (by decide), h.tx.move fun g cur _ hh => far_model h.md _ g cur _ hh (by decide), h.below.setCell (p := ⟨bm, 0, none⟩) hlo _⟩
end
/-- A model that lies in rows of its own. -/
def MRo (B : Nat) (w : World) (m : Mdl) (u : Value) : Prop := ∃ adr cpr adt cpt us, u = .agg #[.int .i64 m.n, .slice adr m.rel.length cpr, .slice adt m.tr.length cpt] ∧ w.ownsRow B 42 2 (.slice adr m.rel.length cpr) m.rel.length (encP m.rel) ∧ w.ownsRow B 80 1 (.slice adt m.tr.length cpt) m.tr.length us ∧ TxsAre B w us m.tr ∧ ∀ l ∈ m.tr, ∀ t ∈ l, t.length ≤ maxLen
theorem MRo.mr {B : Nat} {w : World} {m : Mdl} {u : Value} (h : MRo B w m u) : MR w m u := by
  obtain ⟨adr, cpr, adt, cpt, us, rfl, h1, h2, h3, h4⟩ := h; exact ⟨adr, cpr, adt, cpt, rfl, PL.own h1, h3.sls h2, h4⟩
theorem MRo.low {B B' : Nat} {w : World} {m : Mdl} {u : Value} (h : MRo B w m u) (hB : B' ≤ B) : MRo B' w m u := by
  obtain ⟨adr, cpr, adt, cpt, us, rfl, h1, h2, h3, h4⟩ := h; (refine ⟨adr, cpr, adt, cpt, us, rfl, rowM_low h1 hB, rowM_low h2 hB, ⟨h3.1, fun j r hj => ?_⟩, h4⟩); obtain ⟨ad, cp, e, ho⟩ := h3.2 j r hj; exact ⟨ad, cp, e, rowM_low ho hB⟩
theorem MRo.move {B : Nat} {w w' : World} {m : Mdl} {u : Value} (h : MRo B w m u) (hk : ∀ (b : Nat) (cur : Array Value) (T : TypeId), w.heap[b]? = some (.cells cur T (0, 0)) → T = 42 ∨ T = 80 ∨ T = 9 → w'.heap[b]? = w.heap[b]?) : MRo B w' m u := by
  obtain ⟨adr, cpr, adt, cpt, us, rfl, h1, h2, h3, h4⟩ := h; (exact ⟨adr, cpr, adt, cpt, us, rfl, rowM_move h1 fun g cur _ hh => hk g cur _ hh (Or.inl rfl), rowM_move h2 fun g cur _ hh => hk g cur _ hh (Or.inr (Or.inl rfl)), h3.move fun g cur _ hh => hk g cur _ hh (Or.inr (Or.inr rfl)), h4⟩)
set_option maxRecDepth 10000 in
set_option maxHeartbeats 16000000 in
theorem shrunk_any {N : Nat} (h0 : 0 < N) (hN : N ≤ 40) (R : Nat → Nat → Bool) (nss : List (List (List UInt8))) (hns : ∀ r ∈ nss, r.length ≤ 30 ∧ ∀ t ∈ r, t.length ≤ 8) (v : Value) (w : World) (hv : VwR w N R nss v) :
    Calls Try.prog 41 #[v] w fun e w' => ∃ u, e = .returned u ∧ MRo w.heap.size w' ⟨((extK [] (clsK N R nss)).length : Nat), shRel N R (clsK N R nss) N, shTr nss (clsK N R nss) N⟩ u ∧ Below w.heap.size w w' := by
  (have hnl : nss.length = N := by obtain ⟨_, _, -, -, h, -⟩ := hv; exact h); (have hl0 : (byN nss).length = N := by rw [byN_len, hnl]); (have hlt0 : ∀ n ∈ byN nss, n < N := fun n hn => by have := byN_lt n hn; rwa [hnl] at this); (have hNi : (N : Int) ≤ 40 := by omega); obtain ⟨cl, hcl⟩ : ∃ cl, cl = clsK N R nss := ⟨_, rfl⟩; (have HLen : Hid (cl.length = N) := by rw [hcl]; exact levK_len hl0 _); (have HLt : Hid (∀ n ∈ cl, n < N) := by rw [hcl]; exact levK_lt hlt0 _); (have HNum : Hid (numK cl = cl) := by rw [hcl]; exact levK_num (by rw [byN]; exact numK_idem _) _)
  have HVc : Hid (∀ W, Below w.heap.size w W → Calls Try.prog 40 #[v] W fun e w' => ∃ ad cp, e = .returned (.slice ad N cp) ∧ OwnN W.heap.size w' ad cp cl ∧ Below W.heap.size W w') := fun W hb => by
    rw [hcl]; exact vclasses_any h0 hN R nss hns v W (hv.up hb)
  (have HCs : Hid (∀ W u vc, Below w.heap.size w W → u < N → NL W vc cl → Calls Try.prog 74 #[v, .int .i64 (u : Nat), vc] W fun e w' => e = .returned (.int .u64 (bm N (seesC N R cl u) : Nat)) ∧ Below W.heap.size W w') := fun W u vc hb hu hc => cseen_any hN R nss u hu cl HLen.out HLt.out v vc W (hv.up hb) hc); (have HMb : Hid (∀ (P : Nat → Bool) (W : World), Calls Try.prog 75 #[.int .u64 (bm N P : Nat), .int .i64 (N : Nat)] W fun e w' => ∃ ad cp, e = .returned (.slice ad (memTo P N).length cp) ∧ OwnN W.heap.size w' ad cp (memTo P N) ∧ Below W.heap.size W w') := fun P W => set_membersO hN P W); have HN : Hid (0 < N ∧ N ≤ 40) := ⟨h0, hN⟩; have HNl : Hid (nss.length = N) := hnl; have HNs : Hid (∀ r ∈ nss, r.length ≤ 30 ∧ ∀ t ∈ r, t.length ≤ 8) := hns; rw [← hcl]; obtain ⟨g, h, rfl, hfr, -, hnm⟩ := hv; have HNm : Hid (∀ (j : Nat) (r : List (List UInt8)), nss[j]? = some r → ∃ u, w.cell? ⟨h, j, none⟩ = some u ∧ SL w u r) := hnm; obtain ⟨W, hW⟩ : ∃ W, W = (w.alloc (.cells #[.slice (some ⟨g, 0, none⟩) N N, .slice (some ⟨h, 0, none⟩) N N] 84 (0, 0))).alloc (.cells #[.int .i64 0, .slice none 0 0, .slice none 0 0] 30 (0, 0)) := ⟨_, rfl⟩; (have HB0 : Hid (Below w.heap.size w W) := by rw [hW]; exact below_more (below_more (Below.refl _ w) _) _); (have HX : Hid (W.heap[w.heap.size]? = some (.cells #[.slice (some ⟨g, 0, none⟩) N N, .slice (some ⟨h, 0, none⟩) N N] 84 (0, 0))) := by rw [hW]; exact alloc_keep (blk_new _ _) _); (have HOb : Hid (W.heap[w.heap.size + 1]? = some (.cells #[.int .i64 0, .slice none 0 0, .slice none 0 0] 30 (0, 0))) := by rw [hW]; exact blk_secE _ _ _); obtain ⟨q0, q1, -⟩ := blk2 HX.out; clear hnl hl0 hlt0 hcl hfr hnm h0 hN hns
  go_enter Try.func41, Try.ntmps41
  go_wp2_with fail; rw [← hW]; clear hW; refine (HVc.out W HB0.out).mono ?_; rintro _ w1 ⟨adc, cpc, rfl, ho1, hb1⟩
  obtain ⟨bc, rfl⟩ : ∃ bc, adc = some ⟨bc, 0, none⟩ := by
    (obtain ⟨b, e, -⟩ := rowM_cells ho1 (by rw [HLen.out]; exact HN.out.1)); exact ⟨b, e⟩
  obtain ⟨Y, hY⟩ : ∃ Y, Y = w1.alloc (.cells #[.int .i64 0, .slice none 0 0, .slice none 0 0] 30 (0, 0)) := ⟨_, rfl⟩; (have HbY : Hid (Below w1.heap.size w1 Y) := by rw [hY]; exact below_more (Below.refl _ _) _); have HB1 : Hid (Below w.heap.size w w1) := below_join HB0.out hb1; have HO1 : Hid (ShO w Y N g h (w.heap.size + 1) (some ⟨bc, 0, none⟩) cpc cl) := ShO.up ⟨below_keep hb1 HX.out, rowM_low ho1 HB0.out.size, below_keep hb1 HOb.out⟩ HbY.out; (have HS1 : Hid (ShP w Y w1.heap.size (extK [] (cl.take 0)).length (shRel N R cl 0) (shTr nss cl 0) none 0 none 0 []) := ⟨by rw [hY]; exact blk_new _ _, ⟨rfl, Or.inl ⟨rfl, rfl⟩⟩, ⟨rfl, Or.inl ⟨rfl, rfl⟩⟩, ⟨rfl, fun j r hj => by cases hj⟩, below_join HB1.out HbY.out⟩); have HWs : Hid (W.heap.size ≤ w1.heap.size) := hb1.size; clear ho1 hb1 q0 q1
  go_upto_region 3 with fail
  rw [← hY]; obtain ⟨bm, hbm⟩ : ∃ b, b = w1.heap.size := ⟨_, rfl⟩; rw [← hbm] at HS1 ⊢
  have Hbm : Hid (w.heap.size + 1 < bm) := by
    rw [hbm]; exact Nat.lt_of_lt_of_le (lt_of_block HOb.out) HWs.out
  clear hbm hY HbY HB1 HB0 HX HOb HWs HVc w1 W; obtain ⟨bO, hbO⟩ : ∃ b, b = w.heap.size + 1 := ⟨_, rfl⟩; rw [← hbO] at HO1 Hbm ⊢; have HbO : Hid (bO = w.heap.size + 1) := hbO; clear hbO; go_wp2_with fail
  go_loopg [13, 5, 6, 8] N (fun gg y13 y5 y6 y8 wr => ∃ u adr cpr adt cpt us, u ≤ N ∧ gg = N - u ∧ y13 = .int .i64 (u : Nat) ∧ Hid (ShP w wr bm (extK [] (cl.take u)).length (shRel N R cl u) (shTr nss cl u) adr cpr adt cpt us) ∧ Hid (ShO w wr N g h bO (some ⟨bc, 0, none⟩) cpc cl))
  case atStart => exact ⟨0, none, 0, none, 0, [], by omega, by omega, rfl, HS1, HO1⟩
  case round =>
    obtain ⟨u, adr, cpr, adt, cpt, us, hu, hg, rfl, HS, HO⟩ := hrel; have HGk : Hid (gk = N - u) := hg; clear hg HS1 HO1; by_cases hlt : u < N
    · have hltI : (u : Int) < (N : Int) := by omega
      have HU : Hid (u < N) := hlt; (obtain ⟨c, hc⟩ : ∃ c, cl[u]? = some c := ⟨_, List.getElem?_eq_getElem (by rw [HLen.out]; exact hlt)⟩); have HC : Hid (cl[u]? = some c) := hc; have hcN := HLt.out c (List.mem_of_getElem? hc); have HGr := ext_grow hc; have HFs := firsts_succ cl hc; have HNw := new_num HNum.out hc; have HOd := old_num HNum.out hc
      have hel : (extK [] (cl.take u)).length ≤ u := by
        have h1 := extK_len (cl.take u) ([] : List Nat); rw [List.length_take] at h1; simp at h1; omega
      obtain ⟨adc', cpc', ec, hcc, hca⟩ := (OwnN.nl HO.out.cls).at; simp only [Value.slice.injEq, true_and] at ec; obtain ⟨rfl, rfl⟩ := ec; obtain ⟨bc', ebc, hcell⟩ := hca u c hc
      cases ebc
      (have huc : (u : Int) < (cpc : Int) := by have := HLen.out; omega); obtain ⟨m0, m1, m2, f0, f1, f2⟩ := blk3 HS.out.md; by_cases hin : c ∈ cl.take u
      · have h1 := HOd hin
        (have h1I : (c : Int) < ((extK [] (cl.take u)).length : Int) := by omega); rw [if_pos hin] at HGr HFs
        have HSn : Hid (ShP w wr bm (extK [] (cl.take (u + 1))).length (shRel N R cl (u + 1)) (shTr nss cl (u + 1)) adr cpr adt cpt us) := by
          unfold shRel shTr; rw [HGr, HFs]; exact HS.out
        clear hlt hu hc hcN HNw HOd hel hcc hca hin HGr HFs h1; go_wp2_with fail
        go_roundg (N - (u + 1))
        case measure => have := HGk.out; have := HU.out; omega
        case rel => exact ⟨u + 1, adr, cpr, adt, cpt, us, HU.out, rfl, by go_num, HSn, HO⟩
      · have h1 := HNw hin
        rw [if_neg hin] at HGr HFs; (have HG9 : Hid ((extK [] (cl.take (u + 1))).length = c + 1) := by rw [h1]; exact HGr); have HF9 : Hid (firsts cl (u + 1) = firsts cl u ++ [u]) := HFs; have HS9 := HS.out; rw [← h1] at HS9 m0 hel; have HS : Hid (ShP w wr bm c (shRel N R cl u) (shTr nss cl u) adr cpr adt cpt us) := HS9; (have hcI : ¬ (c : Int) < (c : Int) := by omega); (have hc40 : (c : Int) ≤ 40 := by have := HN.out; omega); (have HTl : Hid ((shTr nss cl u).length = c) := by show _ = _; rw [shTr, List.length_map, firsts_len (by have := HLen.out; omega), ← h1])
        have HRl : Hid ((shRel N R cl u).length ≤ 1600) := by
          have h3 := shRel_len (N := N) R cl u; (have h4 : u * N ≤ 40 * 40 := Nat.mul_le_mul (by have := HN.out; omega) HN.out.2); show _ ≤ _; omega
        obtain ⟨F, hF⟩ : ∃ F, F = wr.setCell ⟨bm, 0, none⟩ (.int .i64 ((c + 1 : Nat) : Int)) := ⟨_, rfl⟩; (have HSF : Hid (ShP w F bm (c + 1) (shRel N R cl u) (shTr nss cl u) adr cpr adt cpt us) := by rw [hF]; exact HS.out.setN (by have := Hbm.out; have := HbO.out; omega) (c + 1)); (have HOF : Hid (ShO w F N g h bO (some ⟨bc, 0, none⟩) cpc cl) := by rw [hF]; exact HO.out.setM HS.out.md (by have := Hbm.out; omega) _); (have hcast : ((c + 1 : Nat) : Int) = (c : Int) + 1 := by omega); rw [hcast] at hF; clear hlt hu hc hcN HNw HOd hel hca hin HGr HFs h1 HS9 hcast; (have HC40 : Hid (c ≤ 40) := by show _ ≤ _; omega); (obtain ⟨r, hr⟩ : ∃ r, nss[u]? = some r := ⟨_, List.getElem?_eq_getElem (by rw [HNl.out]; exact HU.out)⟩); obtain ⟨uu, hcu, hsu⟩ := HNm.out u r hr; (have HRu : Hid (nmAt nss u = r) := by show _ = _; rw [nmAt, List.getD_eq_getElem?_getD, hr]; rfl); have hrs := HNs.out r (List.mem_of_getElem? hr)
        have HCp : Hid (∀ W, Below F.heap.size F W → Calls Try.prog 73 #[uu] W fun e w' => ∃ ad cp, e = .returned (.slice ad r.length cp) ∧ KS w.heap.size w' ad cp r ∧ Below W.heap.size W w') := fun W hW => by
          have hbw := below_join HSF.out.below hW; have hsl : SL W uu r := hsu.up hbw; refine (copied_any r hrs.1 hrs.2 uu W hsl).mono ?_; rintro _ w9 ⟨ad9, cp9, rfl, hk9, hb9⟩; exact ⟨ad9, cp9, rfl, ks_lowS hk9 hbw.size, hb9⟩
        have HCu0 : Hid (F.cell? ⟨h, u, none⟩ = some uu) := (HSF.out.below.cell (lt_of_cell hcu)).trans hcu; obtain ⟨au, cpu, rfl, -⟩ := hsu; have HCu := HCu0; clear HCu0
        go_upto_region 8 with fail
        rw [← hF]; clear hF m0 m1 m2 f0 f1 f2 hcell hr hcu hrs; (refine wp_region_wr (by kernel_rfl) [fun v _ => v = (.pointer (some ⟨bm, 2, none⟩)), fun v _ => v = (.slice adt (shTr nss cl u).length cpt), fun v _ => v = (.pointer (some ⟨w.heap.size, 1, none⟩)), fun v _ => v = (.slice (some ⟨h, 0, none⟩) N N), fun v _ => v = (.int .i64 (u : Nat)), fun v _ => v = (.pointer (some ⟨h, u, none⟩)), fun v _ => v = (.slice au r.length cpu), fun v w0 => ∃ ad cp, v = .slice ad r.length cp ∧ KS w.heap.size w0 ad cp r, fun v w0 => ∃ q ad cp, v = .slice (some ⟨q, 0, none⟩) 1 1 ∧ w0.heap[q]? = some (.cells #[.slice ad r.length cp] 80 (0, 0)) ∧ KS w.heap.size w0 ad cp r, fun _ _ => True, fun v _ => v = (.pointer (some ⟨bm, 2, none⟩))] ?_ (by kernel_rfl) (by kernel_rfl) 60 rfl (by kernel_rfl) 11 _ rfl rfl (by kernel_rfl) (fun i => if i = 10 then some (.pointer (some ⟨bm, 2, none⟩)) else none) 9 _ (by decide) rfl rfl 12 (by kernel_rfl) (fun v w0 => ∃ g3 cp3 us3, v = (.slice (some ⟨g3, 0, none⟩) ((shTr nss cl u).length + 1) cp3) ∧ Hid (w0.heap[bm]? = some (.cells #[.int .i64 ((c + 1 : Nat) : Int), .slice adr (shRel N R cl u).length cpr, .slice adt (shTr nss cl u).length cpt] 30 (0, 0))) ∧ Hid (w0.ownsRow w.heap.size 42 2 (.slice adr (shRel N R cl u).length cpr) (shRel N R cl u).length (encP (shRel N R cl u))) ∧ Hid (w0.ownsRow w.heap.size 80 1 (.slice (some ⟨g3, 0, none⟩) ((shTr nss cl u).length + 1) cp3) ((shTr nss cl u).length + 1) us3) ∧ Hid (TxsAre w.heap.size w0 us3 (shTr nss cl u ++ [r])) ∧ Hid (Below w.heap.size w w0) ∧ Hid (ShO w w0 N g h bO (some ⟨bc, 0, none⟩) cpc cl)) ?_ ?_ ?_ ?_)
        · intro p hp
          simp only [List.mem_cons, List.not_mem_nil, or_false] at hp
          rcases hp with rfl | rfl | rfl | rfl | rfl | rfl | rfl | rfl | rfl | rfl | rfl
          · exact fun _ _ _ h _ => h
          · exact fun _ _ _ h _ => h
          · exact fun _ _ _ h _ => h
          · exact fun _ _ _ h _ => h
          · exact fun _ _ _ h _ => h
          · exact fun _ _ _ h _ => h
          · exact fun _ _ _ h _ => h
          · rintro v w1 w2 ⟨ad, cp, e, h⟩ hb
            exact ⟨ad, cp, e, KS.up h hb⟩
          · rintro v w1 w2 ⟨q, ad, cp, e, h, hk⟩ hb
            exact ⟨q, ad, cp, e, below_keep hb h, KS.up hk hb⟩
          · exact fun _ _ _ h _ => h
          · exact fun _ _ _ h _ => h
        · intro j c wq hj
          by_cases h10 : j = 10
          · subst h10
            have e : some (.pointer (some ⟨bm, 2, none⟩)) = some c := hj; exact (Option.some.inj e).symm
          simp only [if_neg h10] at hj
          cases hj
        · refine ⟨?_, ?_, ?_, ?_, ?_, ?_, ?_, ?_, ?_, ?_, ?_, trivial⟩
          · show StepOk _ _ _ _ _ _ _ _
            intro a wx hB hold hdep K hK; have t4 : a.tmps[4]? = some (.pointer (some ⟨bm, 0, none⟩)) := hold.2.2 4 rfl; clear hold hdep; go_simp; exact hK.out _ _ rfl (Below.refl _ _)
          · show StepOk _ _ _ _ _ _ _ _
            intro a wx hB hold hdep K hK; obtain ⟨v26, t26, p26⟩ := hdep 0 rfl _ 26 rfl rfl; have e26 : v26 = (.pointer (some ⟨bm, 2, none⟩)) := p26; subst e26; obtain ⟨k0, k1, k2, -⟩ := blk3 (below_keep hB HSF.out.md); clear hold hdep; go_simp; exact hK.out _ _ rfl (Below.refl _ _)
          · show StepOk _ _ _ _ _ _ _ _
            intro a wx hB hold hdep K hK; have t1 : a.tmps[1]? = some (.pointer (some ⟨w.heap.size, 0, none⟩)) := hold.2.2 1 rfl; clear hold hdep; go_simp; exact hK.out _ _ rfl (Below.refl _ _)
          · show StepOk _ _ _ _ _ _ _ _
            intro a wx hB hold hdep K hK; obtain ⟨v28, t28, p28⟩ := hdep 2 rfl _ 28 rfl rfl; have e28 : v28 = (.pointer (some ⟨w.heap.size, 1, none⟩)) := p28; subst e28; obtain ⟨l0, l1, -⟩ := blk2 (below_keep hB HOF.out.box); clear hold hdep; go_simp; exact hK.out _ _ rfl (Below.refl _ _)
          · show StepOk _ _ _ _ _ _ _ _
            intro a wx hB hold hdep K hK; have t5 : a.tmps[5]? = some (.int .i64 (u : Nat)) := hold.2.2 5 rfl; clear hold hdep; go_simp; exact hK.out _ _ rfl (Below.refl _ _)
          · show StepOk _ _ _ _ _ _ _ _
            intro a wx hB hold hdep K hK; obtain ⟨v29, t29, p29⟩ := hdep 3 rfl _ 29 rfl rfl; have e29 : v29 = (.slice (some ⟨h, 0, none⟩) N N) := p29; subst e29; obtain ⟨v30, t30, p30⟩ := hdep 4 rfl _ 30 rfl rfl; have e30 : v30 = (.int .i64 (u : Nat)) := p30; subst e30; clear hold hdep; go_simp; exact hK.out _ _ rfl (Below.refl _ _)
          · show StepOk _ _ _ _ _ _ _ _
            intro a wx hB hold hdep K hK; obtain ⟨v31, t31, p31⟩ := hdep 5 rfl _ 31 rfl rfl; have e31 : v31 = (.pointer (some ⟨h, u, none⟩)) := p31; subst e31; have d0 := (hB.cell (lt_of_cell HCu.out)).trans HCu.out; clear hold hdep; go_simp; exact hK.out _ _ rfl (Below.refl _ _)
          · show StepOk _ _ _ _ _ _ _ _
            intro a wx hB hold hdep K hK; obtain ⟨v32, t32, p32⟩ := hdep 6 rfl _ 32 rfl rfl; have e32 : v32 = (.slice au r.length cpu) := p32; subst e32; have HCo := HCp.out wx hB; clear hold hdep; go_simp; refine HCo.mono ?_; rintro _ w9 ⟨ad9, cp9, rfl, hk9, hb9⟩; have HK9 : Hid (KS w.heap.size w9 ad9 cp9 r) := hk9; clear hk9; go_simp; exact hK.out _ _ ⟨ad9, cp9, rfl, HK9.out⟩ hb9
          · show StepOk _ _ _ _ _ _ _ _
            intro a wx hB hold hdep K hK; obtain ⟨v33, t33, p33⟩ := hdep 7 rfl _ 33 rfl rfl; (have P33 : Hid ((fun v w0 => ∃ ad cp, v = .slice ad r.length cp ∧ KS w.heap.size w0 ad cp r) v33 wx) := p33); clear p33; obtain ⟨ad8, cp8, rfl, hk8⟩ := P33.out; have HK8 : Hid (KS w.heap.size wx ad8 cp8 r) := hk8; clear hk8 P33; clear hold hdep; go_simp; exact hK.out _ _ ⟨_, ad8, cp8, rfl, blk_new _ _, KS.up HK8.out (below_more (Below.refl _ _) _)⟩ (below_more (Below.refl _ _) _)
          · exact trivial
          · show StepE _ _ _ _ _ _ _
            intro a wx hold hdep K hK; have t4 : a.tmps[4]? = some (.pointer (some ⟨bm, 0, none⟩)) := hold.2.2 4 rfl; clear hold hdep; go_simp; exact hK.out
        · intro a wx hB hold hgot K hK
          (obtain ⟨v27, tv27, pv27⟩ := hgot 1 _ 27 (by decide) (by decide) rfl rfl rfl); have ev27 : v27 = (.slice adt (shTr nss cl u).length cpt) := pv27; subst ev27; (obtain ⟨v34, tv34, pv34⟩ := hgot 8 _ 34 (by decide) (by decide) rfl rfl rfl); obtain ⟨q, ad8, cp8, rfl, hq, hk8⟩ := pv34; obtain ⟨i0, hi0, hz0, hz1, hz2⟩ := infoTx; have hn1 := HTl.out; have hc9 := HC40.out; have hS := HSF.out.up hB; have hO := HOF.out.up hB; have hsx := hS.below.size; have hrow := hS.tr; have hlow := hrow.lt; clear hold hgot; (refine step_append_lies wx rfl _ _ 28 rfl w.heap.size 80 i0 (.slice none 0 0) 1 24 Try.underlying28 hi0 hz0 hz1 hz2 rfl (by decide) (.slice adt (shTr nss cl u).length cpt) (shTr nss cl u).length us (eval_tmpM tv27) hrow ⟨q, 0, none⟩ 1 1 [.slice ad8 r.length cp8] (eval_tmpM tv34) rfl ?_ ?_ (by omega) (by unfold maxLen; omega) (by omega) (by omega) _ rfl ?_)
          · intro j u hu
            rw [add_none, Nat.zero_add, blk_cell hq]; simpa using hu
          · intro u hu
            simp at hu; subst hu; rfl
          intro g3 cp3 w3 hown3 hgrow hat hlt3; have hgrow' : wx.grownBy w3 (Value.slice adt (shTr nss cl u).length cpt).ownBlock := hgrow; (have far : ∀ (b : Nat) (cur : Array Value) (T : TypeId), wx.heap[b]? = some (.cells cur T (0, 0)) → T ≠ 80 → w3.heap[b]? = wx.heap[b]? := fun b cur T hb hT => hgrow'.block b (lt_of_block hb) fun e2 => rowM_ne hrow hb hT e2.symm); refine hK.out _ _ ⟨g3, cp3, us ++ [.slice ad8 r.length cp8], rfl, ?_, ?_, ?_, ?_, ?_, ?_⟩
          · exact (far _ _ _ hS.md (by decide)).trans hS.md
          · exact rowM_move hS.rl fun g cur _ hh => far g cur _ hh (by decide)
          · exact hown3
          · exact TxsAre.snoc (hS.tx.move fun g cur _ hh => far g cur _ hh (by decide)) (rowM_move hk8 fun g cur _ hh => far g cur _ hh (by decide))
          · exact hS.below.grown hgrow' hsx fun k hk => (hlow k hk).1
          · exact hO.move (fun b cur hb => far b cur _ hb (by decide)) (fun b cur hb => far b cur _ hb (by decide)) (far _ _ _ hO.out (by decide))
        · intro a wx hold hpx hpu K hK
          (have t36 : a.tmps[36]? = some (.pointer (some ⟨bm, 2, none⟩)) := hpu 10 _ 36 _ rfl (by decide) rfl rfl); obtain ⟨v35, t35, g3, cp3, us3, rfl, HM3, HR3, HT3, HX3, HB3, HO3⟩ := hpx 35 rfl; obtain ⟨j0, j1, j2, z0, z1, z2⟩ := blk3 HM3.out; obtain ⟨tm, df⟩ := a; (obtain ⟨ys, hys, htm, rfl⟩ := frame_mid2 26 11 (by kernel_rfl) (Nat.le_of_ble_eq_true rfl) hold); obtain ⟨x26, x27, x28, x29, x30, x31, x32, x33, x34, x35, x36, rfl⟩ := rowSh11 ys hys; simp only [List.take_succ_cons, List.take_zero, List.drop_succ_cons, List.drop_zero, List.cons_append, List.nil_append] at htm; subst htm; obtain rfl : x35 = _ := someInjM t35; obtain rfl : x36 = _ := someInjM t36; clear hys hold hpx hpu t35 t36; go_simp; refine hK.out _ _ ?_; clear hK j0 j1 j2 z0 z1 z2; obtain ⟨E, hE⟩ : ∃ E, E = wx.setCell ⟨bm, 2, none⟩ (.slice (some ⟨g3, 0, none⟩) ((shTr nss cl u).length + 1) cp3) := ⟨_, rfl⟩; (have hfar := fun b cur T hb hT => far_model (i := 2) HM3.out (.slice (some ⟨g3, 0, none⟩) ((shTr nss cl u).length + 1) cp3) b cur T hb hT); (have htl : (shTr nss cl (u + 1)).length = (shTr nss cl u).length + 1 := by rw [shTr, shTr, HF9.out, List.map_append, List.length_append]; rfl); (have htr : shTr nss cl (u + 1) = shTr nss cl u ++ [r] := by rw [shTr, shTr, HF9.out, List.map_append, ← HRu.out]; rfl)
          have HSE : Hid (ShP w E bm (c + 1) (shRel N R cl u) (shTr nss cl (u + 1)) adr cpr (some ⟨g3, 0, none⟩) cp3 us3) := by
            rw [hE]; (refine ⟨?_, rowM_move HR3.out fun g cur _ hh => hfar g cur _ hh (by decide), ?_, ?_, HB3.out.setCell (p := ⟨bm, 2, none⟩) (by have := Hbm.out; have := HbO.out; simp; omega) _⟩)
            · rw [htl, blk_setS HM3.out]
              rfl
            · rw [htl]
              (exact rowM_move HT3.out fun g cur _ hh => hfar g cur _ hh (by decide))
            · rw [htr]
              (exact HX3.out.move fun g cur _ hh => hfar g cur _ hh (by decide))
          (have HOE : Hid (ShO w E N g h bO (some ⟨bc, 0, none⟩) cpc cl) := by rw [hE]; exact HO3.out.setM HM3.out (by have := Hbm.out; omega) _); rw [← hE]; clear hE hfar HM3 HR3 HT3 HX3 HB3 HO3 HSF HOF htl htr; (have HNc : Hid (NL E (.slice (some ⟨bc, 0, none⟩) N cpc) cl) := by have := OwnN.nl HOE.out.cls; rwa [HLen.out] at this); have HCk := HCs.out E u _ HSE.out.below HU.out HNc.out; obtain ⟨l0, l1, -⟩ := blk2 HOE.out.box; go_wp2_with fail; refine HCk.mono ?_; rintro _ w4 ⟨rfl, hb4⟩; have HS4 : Hid (ShP w w4 bm (c + 1) (shRel N R cl u) (shTr nss cl (u + 1)) adr cpr (some ⟨g3, 0, none⟩) cp3 us3) := HSE.out.up hb4; have HO4 : Hid (ShO w w4 N g h bO (some ⟨bc, 0, none⟩) cpc cl) := HOE.out.up hb4; clear hb4 HCk l0 l1; go_wp2_with fail; refine (HMb.out (seesC N R cl u) w4).mono ?_; rintro _ w5 ⟨am, cm, rfl, hxm, hb5⟩; have HS5 : Hid (ShP w w5 bm (c + 1) (shRel N R cl u) (shTr nss cl (u + 1)) adr cpr (some ⟨g3, 0, none⟩) cp3 us3) := HS4.out.up hb5; have HO5 : Hid (ShO w w5 N g h bO (some ⟨bc, 0, none⟩) cpc cl) := HO4.out.up hb5; (have HRe : Hid (relsK N R cl u = (memTo (seesC N R cl u) N).map fun b => ((c : Int), ((b : Nat) : Int))) := by show _ = _; rw [relsK, getD_of HC.out]); have HMl : Hid ((memTo (seesC N R cl u) N).length ≤ N) := memTo_len _ _; (have HMt : Hid (∀ n ∈ memTo (seesC N R cl u) N, n < N) := fun n hn => memTo_lt hn); generalize memTo (seesC N R cl u) N = ms at *; have HMo : Hid (OwnN w4.heap.size w5 am cm ms) := hxm; (have hmmI : (ms.length : Int) ≤ (cm : Int) := by have := (rowM_caps hxm).1; omega); (have hmlI : (ms.length : Int) ≤ 40 := by have := HMl.out; have := HN.out; omega); clear hb5 hxm HS4 HO4 HSE HOE HNc; go_wp2_with fail
          have HSx : Hid (ShP w w5 bm (c + 1) (shRel N R cl u ++ (ms.take 0).map fun b => ((c : Int), ((b : Nat) : Int))) (shTr nss cl (u + 1)) adr cpr (some ⟨g3, 0, none⟩) cp3 us3) := by
            show ShP _ _ _ _ _ _ _ _ _ _ _; rw [List.take_zero, List.map_nil, List.append_nil]; exact HS5.out
          have HRl9 : Hid ((shRel N R cl u).length ≤ 1600) := HRl.out; obtain ⟨rel0, hrel0⟩ : ∃ rel0, rel0 = shRel N R cl u := ⟨_, rfl⟩; rw [← hrel0] at HSx HRl9; have HRl0 : Hid (rel0 = shRel N R cl u) := hrel0; obtain ⟨trs, htrs⟩ : ∃ trs, trs = shTr nss cl (u + 1) := ⟨_, rfl⟩; rw [← htrs] at HSx; have HTrs : Hid (trs = shTr nss cl (u + 1)) := htrs; clear hrel0 htrs HS5 HS HO HRl HTl HCp HCu
          go_loopg [45, 8] ms.length (fun gg y45 y8 wr => ∃ k adr cpr, k ≤ ms.length ∧ gg = ms.length - k ∧ y45 = .int .i64 (k : Nat) ∧ Hid (ShP w wr bm (c + 1) (rel0 ++ (ms.take k).map fun b => ((c : Int), ((b : Nat) : Int))) trs adr cpr (some ⟨g3, 0, none⟩) cp3 us3) ∧ Hid (ShO w wr N g h bO (some ⟨bc, 0, none⟩) cpc cl) ∧ Hid (OwnN w4.heap.size wr am cm ms))
          case atStart => exact ⟨0, adr, cpr, by omega, by omega, rfl, HSx, HO5, HMo⟩
          case round =>
            obtain ⟨k, adr, cpr, hk, hg, rfl, HSk, HOk, HMk⟩ := hrel; have HGm : Hid (gk = ms.length - k) := hg; clear hg; by_cases hlt : k < ms.length
            · have hltI : (k : Int) < (ms.length : Int) := by omega
              (have hltc : (k : Int) < (cm : Int) := by omega); have HK : Hid (k < ms.length) := hlt; obtain ⟨n, hn⟩ : ∃ n, ms[k]? = some n := ⟨_, List.getElem?_eq_getElem hlt⟩; (obtain ⟨bq, hbq, hcq⟩ := rowM_cells HMk.out (by omega)); (have c9 := hcq k (encI n) (by rw [List.getElem?_map, hn]; rfl)); rw [Nat.zero_add] at c9; have c8 : wr.cell? ⟨bq, k, none⟩ = some (.int .i64 (n : Nat)) := c9
              have HTk : Hid ((ms.take (k + 1)).map (fun b => ((c : Int), ((b : Nat) : Int))) = (ms.take k).map (fun b => ((c : Int), ((b : Nat) : Int))) ++ [((c : Int), ((n : Nat) : Int))]) := by
                show _ = _; rw [List.take_add_one, hn, Option.toList_some, List.map_append]; rfl
              have hl9 : (rel0 ++ (ms.take k).map fun b => ((c : Int), ((b : Nat) : Int))).length ≤ 1700 := by
                rw [List.length_append, List.length_map, List.length_take]; have := HRl9.out; have := HMl.out; have := HN.out; omega
              (generalize hrk : (rel0 ++ (ms.take k).map fun b => ((c : Int), ((b : Nat) : Int))) = rk at *)
              have HRk : Hid (rel0 ++ (ms.take (k + 1)).map (fun b => ((c : Int), ((b : Nat) : Int))) = rk ++ [((c : Int), ((n : Nat) : Int))]) := by
                show _ = _; rw [HTk.out, ← List.append_assoc, hrk]
              (have hrI : (rk.length : Int) ≤ 1700 := by omega); obtain ⟨m0, m1, m2, f0, f1, f2⟩ := blk3 HSk.out.md; subst hbq; clear hlt hk hn hcq c9 hrk HTk hl9; obtain ⟨i0, hi0, hz0, hz1, hz2⟩ := infoPr
              go_wp2_with (first
                | (at_builtin
                   have hsz := HSk.out.below.size; have hown := rowM_up HSk.out.rl ((Below.refl _ wr).alloc (Nat.le_refl _) (.cells #[.int .i64 (c : Nat), .int .i64 (n : Nat)] 42 (0, 0))); (refine wpList_append_lies _ rfl _ _ 27 rfl w.heap.size 42 i0 (.agg #[.int .i64 0, .int .i64 0]) 2 16 Try.underlying27 hi0 hz0 hz1 hz2 rfl (by decide) (.slice adr rk.length cpr) rk.length (encP rk) rfl hown ⟨wr.heap.size, 0, none⟩ 1 1 [.int .i64 (c : Nat), .int .i64 (n : Nat)] rfl rfl ?_ ?_ (by omega) (by unfold maxLen; omega) (by omega) (by simp; omega) _ rfl ?_)
                   · intro j u hu
                     rw [add_none, Nat.zero_add, blk_cell (blk_new wr _)]; simpa using hu
                   · intro u hu
                     simp at hu
                     rcases hu with rfl | rfl <;> rfl
                   intro g4 cp4 w7 hown4 hgrow hat hlt3; have hgrow' : (wr.alloc (.cells #[.int .i64 (c : Nat), .int .i64 (n : Nat)] 42 (0, 0))).grownBy w7 (Value.slice adr rk.length cpr).ownBlock := hgrow; have hlow := World.ownsRow.lt HSk.out.rl; (have far : ∀ (b : Nat) (cur : Array Value) (T : TypeId), wr.heap[b]? = some (.cells cur T (0, 0)) → T ≠ 42 → w7.heap[b]? = wr.heap[b]? := fun b cur T hb hT => (hgrow'.block b (by have := lt_of_block hb; simp; omega) fun e2 => rowM_ne HSk.out.rl hb hT e2.symm).trans (Below.heap_alloc _ _ b (lt_of_block hb))); (have HM7 : Hid (w7.heap[bm]? = some (.cells #[.int .i64 ((c + 1 : Nat) : Int), .slice adr rk.length cpr, .slice (some ⟨g3, 0, none⟩) trs.length cp3] 30 (0, 0))) := (far _ _ _ HSk.out.md (by decide)).trans HSk.out.md); (have HT7 : Hid (w7.ownsRow w.heap.size 80 1 (.slice (some ⟨g3, 0, none⟩) trs.length cp3) trs.length us3) := rowM_move HSk.out.tr fun g cur _ hh => far g cur _ hh (by decide)); (have HX7 : Hid (TxsAre w.heap.size w7 us3 trs) := HSk.out.tx.move fun g cur _ hh => far g cur _ hh (by decide)); (have HB7 : Hid (Below w.heap.size w w7) := ((HSk.out.below.alloc hsz _).grown hgrow' (by simp; omega) fun k hk => by have := (hlow k hk).1; omega)); (have HO7 : Hid (ShO w w7 N g h bO (some ⟨bc, 0, none⟩) cpc cl) := HOk.out.move (fun b cur hb => far b cur _ hb (by decide)) (fun b cur hb => far b cur _ hb (by decide)) (far _ _ _ HOk.out.out (by decide))); (have HN7 : Hid (OwnN w4.heap.size w7 (some ⟨bq, 0, none⟩) cm ms) := OwnN.move HMk.out fun q cur hq => far q cur _ hq (by decide)); have HR7 : Hid (w7.ownsRow w.heap.size 42 2 (.slice (some ⟨g4, 0, none⟩) (rk.length + 1) cp4) (rk.length + 1) (encP rk ++ [.int .i64 (c : Nat), .int .i64 (n : Nat)])) := hown4; have v0 := blk_cell HM7.out 1; have v1 := blk_fz HM7.out 1; have v2 : w7.cell? ⟨bm, 1, none⟩ = some (.slice adr rk.length cpr) := v0
                   clear hgrow hgrow' hat hown4 hown hsz hlt3 hi0 hz0 hz1 hz2 hlow far v0)
                | fail)
              obtain ⟨E7, hE7⟩ : ∃ E7, E7 = w7.setCell ⟨bm, 1, none⟩ (.slice (some ⟨g4, 0, none⟩) (rk.length + 1) cp4) := ⟨_, rfl⟩; rw [← hE7]; (have hfar := fun b cur T hb hT => far_model (i := 1) HM7.out (.slice (some ⟨g4, 0, none⟩) (rk.length + 1) cp4) b cur T hb hT); (have hlr : (rk ++ [((c : Int), ((n : Nat) : Int))]).length = rk.length + 1 := by simp)
              have HSf : Hid (ShP w E7 bm (c + 1) (rel0 ++ (ms.take (k + 1)).map fun b => ((c : Int), ((b : Nat) : Int))) trs (some ⟨g4, 0, none⟩) cp4 (some ⟨g3, 0, none⟩) cp3 us3) := by
                show ShP _ _ _ _ _ _ _ _ _ _ _; rw [HRk.out, hE7]; (refine ⟨?_, ?_, rowM_move HT7.out fun g cur _ hh => hfar g cur _ hh (by decide), HX7.out.move fun g cur _ hh => hfar g cur _ hh (by decide), HB7.out.setCell (p := ⟨bm, 1, none⟩) (by have := Hbm.out; have := HbO.out; simp; omega) _⟩)
                · rw [hlr, blk_setS HM7.out]
                  rfl
                · rw [hlr, encP_app]
                  (exact rowM_move HR7.out fun g cur _ hh => hfar g cur _ hh (by decide))
              (have HOf : Hid (ShO w E7 N g h bO (some ⟨bc, 0, none⟩) cpc cl) := by rw [hE7]; exact HO7.out.setM HM7.out (by have := Hbm.out; omega) _); (have HNf : Hid (OwnN w4.heap.size E7 (some ⟨bq, 0, none⟩) cm ms) := by rw [hE7]; exact OwnN.move HN7.out fun q cur hq => hfar q cur _ hq (by decide)); clear hE7 hfar hlr; go_wp2_with fail
              go_roundg (ms.length - (k + 1))
              case measure => have := HGm.out; have := HK.out; omega
              case rel => exact ⟨k + 1, some ⟨g4, 0, none⟩, cp4, HK.out, rfl, by go_num, HSf, HOf, HNf⟩
            · have hii : k = ms.length := by omega
              subst hii; (have hge : ¬ (ms.length : Int) < (ms.length : Int) := by omega); rw [List.take_length] at HSk
              have HSn : Hid (ShP w wr bm (extK [] (cl.take (u + 1))).length (shRel N R cl (u + 1)) (shTr nss cl (u + 1)) adr cpr (some ⟨g3, 0, none⟩) cp3 us3) := by
                have e1 : shRel N R cl (u + 1) = rel0 ++ ms.map fun b => ((c : Int), ((b : Nat) : Int)) := by
                  rw [HRl0.out, shRel, shRel, HF9.out, List.flatMap_append]
                  congr 1
                  rw [List.flatMap_cons, List.flatMap_nil, List.append_nil]; exact HRe.out
                show ShP _ _ _ _ _ _ _ _ _ _ _; rw [HG9.out, e1, ← HTrs.out]; exact HSk.out
              clear hlt hk; go_wp2_with fail
              go_roundg (N - (u + 1))
              case measure => have := HGk.out; have := HU.out; omega
              case rel => exact ⟨u + 1, adr, cpr, some ⟨g3, 0, none⟩, cp3, us3, HU.out, rfl, by go_num, HSn, HOk⟩
    · have hii : u = N := by omega
      subst hii; (have hge : ¬ (u : Int) < (u : Int) := by omega); (have htk : cl.take u = cl := List.take_of_length_le (by rw [HLen.out]; exact Nat.le_refl _)); rw [htk] at HS; obtain ⟨m0, m1, m2, -⟩ := blk3 HS.out.md; obtain ⟨o0, o1, o2, f0, f1, f2⟩ := blk3 HO.out.out; (have hne : bO ≠ bm := by have := Hbm.out; omega); (have hne2 : bm ≠ bO := fun e => hne e.symm); generalize hcu : (extK [] cl).length = cu at *; obtain ⟨rl, hrl⟩ : ∃ rl, rl = shRel u R cl u := ⟨_, rfl⟩; obtain ⟨tl, htl⟩ : ∃ tl, tl = shTr nss cl u := ⟨_, rfl⟩; rw [← hrl, ← htl] at HS; rw [← hrl] at m1; rw [← htl] at m2; have HRl : Hid (rl = shRel u R cl u) := hrl; have HTl : Hid (tl = shTr nss cl u) := htl; have HCu : Hid ((extK [] cl).length = cu) := hcu; clear hlt hu htk hrl htl hcu; go_wp2_with fail; obtain ⟨E, hE⟩ : ∃ E, E = ((wr.setCell ⟨bO, 0, none⟩ (.int .i64 (cu : Nat))).setCell ⟨bO, 1, none⟩ (.slice adr rl.length cpr)).setCell ⟨bO, 2, none⟩ (.slice adt tl.length cpt) := ⟨_, rfl⟩; rw [← hE]; (have hEy : E.heap[bO]? = some (.cells #[.int .i64 (cu : Nat), .slice adr rl.length cpr, .slice adt tl.length cpt] 30 (0, 0)) := by rw [hE]; exact set3M HO.out.out _ _ _); (have hoth : ∀ b, b ≠ bO → E.heap[b]? = wr.heap[b]? := fun b hb => by rw [hE, blk_otherS _ hb, blk_otherS _ hb, blk_otherS _ hb])
      have hfar : ∀ (b : Nat) (cur : Array Value) (T : TypeId), wr.heap[b]? = some (.cells cur T (0, 0)) → T ≠ 30 → E.heap[b]? = wr.heap[b]? := fun b cur T hb hT => hoth b fun e => by
        rw [e, HO.out.out] at hb; simp only [Option.some.injEq, Obj.cells.injEq] at hb; exact hT hb.2.1.symm
      have hEB : Below w.heap.size w E := by
        rw [hE]; have hb := HbO.out; (exact ((HS.out.below.setCell (p := ⟨bO, 0, none⟩) (by simp; omega) _).setCell (p := ⟨bO, 1, none⟩) (by simp; omega) _).setCell (p := ⟨bO, 2, none⟩) (by simp; omega) _)
      have HMR : Hid (MRo w.heap.size E ⟨((extK [] cl).length : Nat), shRel u R cl u, shTr nss cl u⟩ (.agg #[.int .i64 (cu : Nat), .slice adr rl.length cpr, .slice adt tl.length cpt])) := by
        show MRo _ _ _ _; rw [← HRl.out, ← HTl.out, HCu.out]; (refine ⟨adr, cpr, adt, cpt, us, rfl, rowM_move HS.out.rl fun g cur _ hh => hfar g cur _ hh (by decide), rowM_move HS.out.tr fun g cur _ hh => hfar g cur _ hh (by decide), HS.out.tx.move fun g cur _ hh => hfar g cur _ hh (by decide), fun l hl t ht => ?_⟩); rw [HTl.out, shTr] at hl; obtain ⟨q, -, rfl⟩ := List.mem_map.1 hl; unfold nmAt at ht; rw [List.getD_eq_getElem?_getD] at ht
        cases hq : nss[q]? with
        | none => rw [hq] at ht; cases ht
        | some r =>
          rw [hq] at ht; have := (HNs.out r (List.mem_of_getElem? hq)).2 t ht; unfold maxLen; omega
      clear hfar hoth m0 m1 m2 o0 o1 o2 f0 f1 f2; obtain ⟨j0, j1, j2, -⟩ := blk3 hEy; (refine bodyPost_ret (v := .agg #[.int .i64 (cu : Nat), .slice adr rl.length cpr, .slice adt tl.length cpt]) (by clear hE; simp [results, Try.results41, go_sem, j0, j1, j2]) rfl ⟨_, rfl, HMR.out, hEB⟩)
end Go.Proofs.Ytclinobfbdljhah
/- Walks: bisim.Shrink. -/
namespace Go.Proofs.Ytclinobfbdljhah
open Go.RowKit

set_option maxRecDepth 10000 in
set_option maxHeartbeats 4000000 in
theorem Shrink_bad (m : Mdl) (h0 : (mdcode 40 2000 m).1 ≠ 0) (v : Value) (w : World) (hv : MR w m v) :
    Calls Try.prog 18 #[v] w fun e w' => e = .returned (.tuple #[.agg #[.int .i64 0, .slice none 0 0, .slice none 0 0], .agg #[.int .i64 (mdcode 40 2000 m).1, .int .i64 (mdcode 40 2000 m).2]]) ∧ Below w.heap.size w w' := by
  (have HCk : Hid (∀ w, MR w m v → Calls Try.prog 38 #[v] w fun e w' => e = .returned (.agg #[.int .i64 (mdcode 40 2000 m).1, .int .i64 (mdcode 40 2000 m).2]) ∧ Below w.heap.size w w') := fun w h => kCheck_any m v w h); have HV : Hid (MR w m v) := hv; obtain ⟨ra, rc, ta, tc, rfl, -⟩ := hv; generalize mdcode 40 2000 m = md at *; obtain ⟨c, a⟩ := md; (have hcn : (c != 0) = true := by simpa using h0); obtain ⟨W, hW⟩ : ∃ W, W = ((w.alloc (.cells #[.int .i64 m.n, .slice ra m.rel.length rc, .slice ta m.tr.length tc] 30 (0, 0))).alloc (.cells #[.int .i64 0, .slice none 0 0, .slice none 0 0] 30 (0, 0))).alloc (.cells #[.int .i64 0, .int .i64 0] 32 (0, 0)) := ⟨_, rfl⟩; (have HB0 : Hid (Below w.heap.size w W) := by rw [hW]; exact al3b _ _ _ _); (have HQ1 : Hid (W.heap[w.heap.size + 1]? = some (.cells #[.int .i64 0, .slice none 0 0, .slice none 0 0] 30 (0, 0))) := by rw [hW]; exact al31 _ _ _ _); (have HQ2 : Hid (W.heap[w.heap.size + 1 + 1]? = some (.cells #[.int .i64 0, .int .i64 0] 32 (0, 0))) := by rw [hW]; exact al32 _ _ _ _); clear h0
  go_enter Try.func18, Try.ntmps18
  go_wp2_with fail; rw [← hW]; refine (HCk.out _ (HV.out.up HB0.out)).mono ?_; rintro _ w1 ⟨rfl, hb1⟩; have HB1 : Hid (Below w.heap.size w w1) := below_join HB0.out hb1; have HR1 : Hid (w1.heap[w.heap.size + 1]? = some (.cells #[.int .i64 0, .slice none 0 0, .slice none 0 0] 30 (0, 0))) := below_keep hb1 HQ1.out; have HR2 : Hid (w1.heap[w.heap.size + 1 + 1]? = some (.cells #[.int .i64 0, .int .i64 0] 32 (0, 0))) := below_keep hb1 HQ2.out; clear hb1 hW; obtain ⟨X, hX⟩ : ∃ X, w1.alloc (.cells #[.int .i64 c, .int .i64 a] 32 (0, 0)) = X := ⟨_, rfl⟩; (have HX1 : Hid (X.heap[w.heap.size + 1]? = some (.cells #[.int .i64 0, .slice none 0 0, .slice none 0 0] 30 (0, 0))) := by rw [← hX]; exact alloc_keep HR1.out _); (have HX2 : Hid (X.heap[w.heap.size + 1 + 1]? = some (.cells #[.int .i64 0, .int .i64 0] 32 (0, 0))) := by rw [← hX]; exact alloc_keep HR2.out _); obtain ⟨q20, q21, q22, q23⟩ := blk2 HX2.out; obtain ⟨s0, s1, s2, z0, z1, z2⟩ := blk3 HX1.out; (obtain ⟨q30, q31, -⟩ := blk2 (show X.heap[w1.heap.size]? = some _ by rw [← hX]; exact blk_new _ _)); (have HBX : Hid (Below w.heap.size w X) := by rw [← hX]; exact below_more HB1.out _); have zb2 := lt_of_block HR2.out; (have n1 : ¬ w1.heap.size = w.heap.size + 1 := by have := lt_of_block HR1.out; omega); (have n2 : ¬ w.heap.size + 1 = w1.heap.size := by have := lt_of_block HR1.out; omega); (have n3 : ¬ w1.heap.size = w.heap.size + 1 + 1 := by omega); (have n4 : ¬ w.heap.size + 1 + 1 = w1.heap.size := by omega); (have n5 : ¬ w.heap.size + 1 + 1 = w.heap.size + 1 := by omega); (have n6 : ¬ w.heap.size + 1 = w.heap.size + 1 + 1 := by omega); go_wp2_with fail
  go_region
  all_goals
    go_wp2_with fail; obtain ⟨F, hF⟩ : ∃ F, F = ((((X.setCell ⟨w.heap.size + 1, 0, none⟩ (.int .i64 0)).setCell ⟨w.heap.size + 1, 1, none⟩ (.slice none 0 0)).setCell ⟨w.heap.size + 1, 2, none⟩ (.slice none 0 0)).setCell ⟨w.heap.size + 1 + 1, 0, none⟩ (.int .i64 c)).setCell ⟨w.heap.size + 1 + 1, 1, none⟩ (.int .i64 a) := ⟨_, rfl⟩; (have HF0 : Hid ((((X.setCell ⟨w.heap.size + 1, 0, none⟩ (.int .i64 0)).setCell ⟨w.heap.size + 1, 1, none⟩ (.slice none 0 0)).setCell ⟨w.heap.size + 1, 2, none⟩ (.slice none 0 0)).heap[w.heap.size + 1 + 1]? = some (.cells #[.int .i64 0, .int .i64 0] 32 (0, 0))) := by show _ = _; rw [blk_otherS _ n5, blk_otherS _ n5, blk_otherS _ n5]; exact HX2.out)
    have HF1 : Hid (F.heap[w.heap.size + 1]? = some (.cells #[.int .i64 0, .slice none 0 0, .slice none 0 0] 30 (0, 0))) := by
      rw [hF, blk_otherS _ n6, blk_otherS _ n6]; exact set3M HX1.out _ _ _
    (have HF2 : Hid (F.heap[w.heap.size + 1 + 1]? = some (.cells #[.int .i64 c, .int .i64 a] 32 (0, 0))) := by rw [hF]; exact set2 HF0.out _ _); (have HF3 : Hid (Below w.heap.size w F) := by rw [hF]; exact ((((HBX.out.setCell (p := ⟨w.heap.size + 1, 0, none⟩) (by simp) _).setCell (p := ⟨w.heap.size + 1, 1, none⟩) (by simp) _).setCell (p := ⟨w.heap.size + 1, 2, none⟩) (by simp) _).setCell (p := ⟨w.heap.size + 1 + 1, 0, none⟩) (by simp; omega) _).setCell (p := ⟨w.heap.size + 1 + 1, 1, none⟩) (by simp; omega) _); rw [← hF]; clear hF HF0 q20 q21 q22 q23 s0 s1 s2 z0 z1 z2; obtain ⟨o6, o7, -⟩ := blk2 HF2.out; obtain ⟨o0, o1, o2, -⟩ := blk3 HF1.out; (exact bodyPost_ret (v := .tuple #[.agg #[.int .i64 0, .slice none 0 0, .slice none 0 0], .agg #[.int .i64 c, .int .i64 a]]) (by simp [results, Try.results18, go_sem, o0, o1, o2, o6, o7]) rfl ⟨rfl, HF3.out.drew⟩)
set_option maxRecDepth 10000 in
set_option maxHeartbeats 4000000 in
theorem Shrink_ok (N : Nat) (rel : List (Int × Int)) (tr : List (List (List UInt8))) (h0 : mdcode 40 2000 ⟨(N : Int), rel, tr⟩ = (0, 0)) (v : Value) (w : World) (hv : MR w ⟨(N : Int), rel, tr⟩ v) :
    Calls Try.prog 18 #[v] w fun e w' => ∃ u, e = .returned (.tuple #[u, .agg #[.int .i64 0, .int .i64 0]]) ∧ MRo w.heap.size w' ⟨((extK [] (clsK N (relB rel) (tr.map nmz))).length : Nat), shRel N (relB rel) (clsK N (relB rel) (tr.map nmz)) N, shTr (tr.map nmz) (clsK N (relB rel) (tr.map nmz)) N⟩ u ∧ Below w.heap.size w w' := by
  (obtain ⟨N', hN', hN1, hN2, hrl, htl, hin⟩ := mdcode_in (show (mdcode 40 2000 ⟨(N : Int), rel, tr⟩).1 = 0 by rw [h0])); (have hnn : N' = N := by simp only at hN'; omega); subst hnn; (have hnm := mdcode_names (show (mdcode 40 2000 ⟨(N' : Int), rel, tr⟩).1 = 0 by rw [h0])); simp only at hrl htl hin hnm; (have hN40 : N' ≤ 40 := by omega); obtain ⟨ec, hec⟩ : ∃ ec : Int, (0 : Int) = ec := ⟨_, rfl⟩; obtain ⟨ea, hea⟩ : ∃ ea : Int, ((0 : Int), (0 : Int)).2 = ea := ⟨_, rfl⟩
  have HCk : Hid (∀ w, MR w ⟨(N' : Int), rel, tr⟩ v → Calls Try.prog 38 #[v] w fun e w' => e = .returned (.agg #[.int .i64 ec, .int .i64 ea]) ∧ Below w.heap.size w w') := fun w h => by
    have := kCheck_any _ v w h; rw [h0] at this; rw [← hec, ← hea]; exact this
  (have hcn : (ec != 0) = false := by rw [← hec]; rfl); have HV : Hid (MR w ⟨(N' : Int), rel, tr⟩ v) := hv; obtain ⟨ra, rc, ta, tc, rfl, hpl, hsl, -⟩ := hv; simp only at hpl hsl HCk HV ⊢; (have HVo : Hid (∀ wx, Below w.heap.size w wx → Calls Try.prog 39 #[.agg #[.int .i64 (N' : Nat), .slice ra rel.length rc, .slice ta tr.length tc]] wx _) := fun wx hb => viewOf_any N' hN1 hN40 rel (by omega) hin tr htl (fun r hr => (hnm r hr).1) ra ta rc tc wx (hpl.up hb) (hsl.upM hb))
  have HCl : Hid (∀ x wx, VwR wx N' (relB rel) (tr.map nmz) x → Calls Try.prog 41 #[x] wx _) := fun x wx h => shrunk_any hN1 hN40 (relB rel) (tr.map nmz) (fun r hr => by
    obtain ⟨r0, hr0, rfl⟩ := List.mem_map.1 hr
    exact nmz_small (hnm r0 hr0)) x wx h
  generalize (⟨((extK [] (clsK N' (relB rel) (tr.map nmz))).length : Nat), shRel N' (relB rel) (clsK N' (relB rel) (tr.map nmz)) N', shTr (tr.map nmz) (clsK N' (relB rel) (tr.map nmz)) N'⟩ : Mdl) = sm at *; obtain ⟨W, hW⟩ : ∃ W, W = ((w.alloc (.cells #[.int .i64 (N' : Nat), .slice ra rel.length rc, .slice ta tr.length tc] 30 (0, 0))).alloc (.cells #[.int .i64 0, .slice none 0 0, .slice none 0 0] 30 (0, 0))).alloc (.cells #[.int .i64 0, .int .i64 0] 32 (0, 0)) := ⟨_, rfl⟩; (have HB0 : Hid (Below w.heap.size w W) := by rw [hW]; exact al3b _ _ _ _); (have HQ0 : Hid (W.heap[w.heap.size]? = some (.cells #[.int .i64 (N' : Nat), .slice ra rel.length rc, .slice ta tr.length tc] 30 (0, 0))) := by rw [hW]; exact al30 _ _ _ _); (have HQ1 : Hid (W.heap[w.heap.size + 1]? = some (.cells #[.int .i64 0, .slice none 0 0, .slice none 0 0] 30 (0, 0))) := by rw [hW]; exact al31 _ _ _ _); (have HQ2 : Hid (W.heap[w.heap.size + 1 + 1]? = some (.cells #[.int .i64 0, .int .i64 0] 32 (0, 0))) := by rw [hW]; exact al32 _ _ _ _); clear h0 hec hea hpl hsl hrl hin hnm htl hN1 hN2 hN40 hN'
  go_enter Try.func18, Try.ntmps18
  go_wp2_with fail; rw [← hW]; refine (HCk.out _ (HV.out.up HB0.out)).mono ?_; rintro _ w1 ⟨rfl, hb1⟩; have HB1 : Hid (Below w.heap.size w w1) := below_join HB0.out hb1; have HR0 : Hid (w1.heap[w.heap.size]? = some (.cells #[.int .i64 (N' : Nat), .slice ra rel.length rc, .slice ta tr.length tc] 30 (0, 0))) := below_keep hb1 HQ0.out; have HR1 : Hid (w1.heap[w.heap.size + 1]? = some (.cells #[.int .i64 0, .slice none 0 0, .slice none 0 0] 30 (0, 0))) := below_keep hb1 HQ1.out; have HR2 : Hid (w1.heap[w.heap.size + 1 + 1]? = some (.cells #[.int .i64 0, .int .i64 0] 32 (0, 0))) := below_keep hb1 HQ2.out; clear hb1 hW; obtain ⟨X, hX⟩ : ∃ X, w1.alloc (.cells #[.int .i64 ec, .int .i64 ea] 32 (0, 0)) = X := ⟨_, rfl⟩; (have HX1 : Hid (X.heap[w.heap.size + 1]? = some (.cells #[.int .i64 0, .slice none 0 0, .slice none 0 0] 30 (0, 0))) := by rw [← hX]; exact alloc_keep HR1.out _); (have HX2 : Hid (X.heap[w.heap.size + 1 + 1]? = some (.cells #[.int .i64 0, .int .i64 0] 32 (0, 0))) := by rw [← hX]; exact alloc_keep HR2.out _); (obtain ⟨q0, q1, q2, -⟩ := blk3 (show X.heap[w.heap.size]? = some _ by rw [← hX]; exact alloc_keep HR0.out _)); (obtain ⟨q30, q31, -⟩ := blk2 (show X.heap[w1.heap.size]? = some _ by rw [← hX]; exact blk_new _ _)); (have HBX : Hid (Below w.heap.size w X) := by rw [← hX]; exact below_more HB1.out _); go_wp2_with fail; refine (HVo.out X HBX.out).mono ?_; rintro _ w2 ⟨x, rfl, hx, hb2⟩; have HX3 : Hid (VwR w2 N' (relB rel) (tr.map nmz) x) := hx; have HB2 : Hid (Below w.heap.size w w2) := below_join HBX.out hb2; have HS1 : Hid (w2.heap[w.heap.size + 1]? = some (.cells #[.int .i64 0, .slice none 0 0, .slice none 0 0] 30 (0, 0))) := below_keep hb2 HX1.out; have HS2 : Hid (w2.heap[w.heap.size + 1 + 1]? = some (.cells #[.int .i64 0, .int .i64 0] 32 (0, 0))) := below_keep hb2 HX2.out; clear hb2 hx q0 q1 q2 q30 q31 hX; go_wp2_with fail; refine (HCl.out x w2 HX3.out).mono ?_; rintro _ w3 ⟨u3, rfl, ho3, hb3⟩; have HO3 : Hid (MRo w.heap.size w3 sm u3) := ho3.low HB2.out.size; have HB3 : Hid (Below w.heap.size w w3) := below_join HB2.out hb3; have HT1 : Hid (w3.heap[w.heap.size + 1]? = some (.cells #[.int .i64 0, .slice none 0 0, .slice none 0 0] 30 (0, 0))) := below_keep hb3 HS1.out; have HT2 : Hid (w3.heap[w.heap.size + 1 + 1]? = some (.cells #[.int .i64 0, .int .i64 0] 32 (0, 0))) := below_keep hb3 HS2.out; obtain ⟨r0, r1, r2, r3⟩ := blk2 HT2.out; obtain ⟨s0, s1, s2, z0, z1, z2⟩ := blk3 HT1.out; obtain ⟨a3, p3, b3, q3, us3, rfl, -⟩ := ho3; (have n5 : ¬ w.heap.size + 1 + 1 = w.heap.size + 1 := by omega); (have n6 : ¬ w.heap.size + 1 = w.heap.size + 1 + 1 := by omega); clear hb3; go_wp2_with fail; obtain ⟨F, hF⟩ : ∃ F, F = ((((w3.setCell ⟨w.heap.size + 1, 0, none⟩ (.int .i64 sm.n)).setCell ⟨w.heap.size + 1, 1, none⟩ (.slice a3 sm.rel.length p3)).setCell ⟨w.heap.size + 1, 2, none⟩ (.slice b3 sm.tr.length q3)).setCell ⟨w.heap.size + 1 + 1, 0, none⟩ (.int .i64 0)).setCell ⟨w.heap.size + 1 + 1, 1, none⟩ (.int .i64 0) := ⟨_, rfl⟩; (have HF0 : Hid ((((w3.setCell ⟨w.heap.size + 1, 0, none⟩ (.int .i64 sm.n)).setCell ⟨w.heap.size + 1, 1, none⟩ (.slice a3 sm.rel.length p3)).setCell ⟨w.heap.size + 1, 2, none⟩ (.slice b3 sm.tr.length q3)).heap[w.heap.size + 1 + 1]? = some (.cells #[.int .i64 0, .int .i64 0] 32 (0, 0))) := by show _ = _; rw [blk_otherS _ n5, blk_otherS _ n5, blk_otherS _ n5]; exact HT2.out)
  have HF1 : Hid (F.heap[w.heap.size + 1]? = some (.cells #[.int .i64 sm.n, .slice a3 sm.rel.length p3, .slice b3 sm.tr.length q3] 30 (0, 0))) := by
    rw [hF, blk_otherS _ n6, blk_otherS _ n6]; exact set3M HT1.out _ _ _
  (have HF2 : Hid (F.heap[w.heap.size + 1 + 1]? = some (.cells #[.int .i64 0, .int .i64 0] 32 (0, 0))) := by rw [hF]; exact set2 HF0.out _ _); (have HF3 : Hid (Below w.heap.size w F) := by rw [hF]; exact ((((HB3.out.setCell (p := ⟨w.heap.size + 1, 0, none⟩) (by simp) _).setCell (p := ⟨w.heap.size + 1, 1, none⟩) (by simp) _).setCell (p := ⟨w.heap.size + 1, 2, none⟩) (by simp) _).setCell (p := ⟨w.heap.size + 1 + 1, 0, none⟩) (by simp; omega) _).setCell (p := ⟨w.heap.size + 1 + 1, 1, none⟩) (by simp; omega) _)
  have HFo : Hid (MRo w.heap.size F sm (.agg #[.int .i64 sm.n, .slice a3 sm.rel.length p3, .slice b3 sm.tr.length q3])) := HO3.out.move fun b cur T hb hT => by
    have e1 : b ≠ w.heap.size + 1 := fun e => by
      rw [e, HT1.out] at hb; simp only [Option.some.injEq, Obj.cells.injEq] at hb; rw [← hb.2.1] at hT; (exact absurd hT (by decide))
    have e2 : b ≠ w.heap.size + 1 + 1 := fun e => by
      rw [e, HT2.out] at hb; simp only [Option.some.injEq, Obj.cells.injEq] at hb; rw [← hb.2.1] at hT; (exact absurd hT (by decide))
    rw [hF, blk_otherS _ e2, blk_otherS _ e2, blk_otherS _ e1, blk_otherS _ e1, blk_otherS _ e1]
  rw [← hF]; clear hF HF0 r0 r1 r2 r3 s0 s1 s2 z0 z1 z2; obtain ⟨o6, o7, -⟩ := blk2 HF2.out; obtain ⟨o0, o1, o2, -⟩ := blk3 HF1.out; (exact bodyPost_ret (v := .tuple #[.agg #[.int .i64 sm.n, .slice a3 sm.rel.length p3, .slice b3 sm.tr.length q3], .agg #[.int .i64 0, .int .i64 0]]) (by simp [results, Try.results18, go_sem, o0, o1, o2, o6, o7]) rfl ⟨_, rfl, HFo.out, HF3.out⟩)
end Go.Proofs.Ytclinobfbdljhah
/- Walks: the yardstick's shrunk model (Shrunk). -/
namespace Go.Proofs.Ytclinobfbdljhah
open Go.RowKit Go.Sort

/-- What stays beside the model that is made. -/
structure SkO (w wr : World) (N : Nat) (rel : List (Int × Int)) (CS : Array Value) (bO go gs : Nat) (cl : List Nat) : Prop where
  mo : wr.heap[w.heap.size]? = some (.cells CS 30 (0, 0))
  out : wr.heap[bO]? = some (.cells #[.int .i64 0, .slice none 0 0, .slice none 0 0] 30 (0, 0))
  cls : ∃ cur, OutP wr go N cl N cur
  sn : SnR w.heap.size wr gs N rel
section
variable {w wr wq : World} {N : Nat} {rel : List (Int × Int)} {CS : Array Value} {bO go gs bm i : Nat} {cl : List Nat}
theorem SkO.move (x : SkO w wr N rel CS bO go gs cl) (h1 : ∀ (b : Nat) (cs : Array Value) (T : TypeId), wr.heap[b]? = some (.cells cs T (0, 0)) → T = 3 ∨ T = 45 → wq.heap[b]? = wr.heap[b]?) (h2 : wq.heap[w.heap.size]? = wr.heap[w.heap.size]?) (h3 : wq.heap[bO]? = wr.heap[bO]?) : SkO w wq N rel CS bO go gs cl := by
  obtain ⟨cur, hc⟩ := x.cls; obtain ⟨cs, e1, e2⟩ := x.sn; (exact ⟨h2.trans x.mo, h3.trans x.out, ⟨cur, (h1 _ _ _ hc.blk (Or.inl rfl)).trans hc.blk, hc.size, hc.each⟩, ⟨cs, (h1 _ _ _ e1 (Or.inr rfl)).trans e1, e2.move fun g cur hh => h1 g cur _ hh (Or.inl rfl)⟩⟩)
theorem SkO.up (x : SkO w wr N rel CS bO go gs cl) (hb : Below wr.heap.size wr wq) : SkO w wq N rel CS bO go gs cl :=
  x.move (fun b _ _ hh _ => hb.block b (lt_of_block hh)) (hb.block _ (lt_of_block x.mo)) (hb.block _ (lt_of_block x.out))
theorem SkO.setM {cs : Array Value} (x : SkO w wr N rel CS bO go gs cl) (hb : wr.heap[bm]? = some (.cells cs 30 (0, 0))) (h1 : w.heap.size ≠ bm) (h2 : bO ≠ bm) (v : Value) : SkO w (wr.setCell ⟨bm, i, none⟩ v) N rel CS bO go gs cl :=
  x.move (fun b cur T hc hT => far_model hb v b cur T hc (by rcases hT with rfl | rfl <;> decide)) (blk_otherS _ h1) (blk_otherS _ h2)
end
theorem one_newS {w : World} {v : Value} {T : TypeId} (i : Nat) (u : Value) (hu : [v][i]? = some u) : ((w.drewN 1).alloc (.cells #[v] T (0, 0))).cell? ((⟨w.heap.size, 0, none⟩ : Addr).add i) = some u := by
  rw [add_none, Nat.zero_add, show w.heap.size = (w.drewN 1).heap.size from rfl, blk_cell (blk_new (w.drewN 1) _)]; simpa using hu
theorem nmz_of {r L : List (List UInt8)} (h : Rising L ∧ ∀ t, t ∈ L ↔ t ∈ r) : L = nmz r :=
  rising_ext h.1 (uniq_rising r) fun t => by
    show t ∈ L ↔ t ∈ nmz r; rw [nmz_memI]; exact h.2 t
/-- Whether a world of class a is seen, from u, to go to class b. -/
def tieK (N : Nat) (rel : List (Int × Int)) (cl : List Nat) (a b u : Nat) : Bool := (seenTo N rel u N).any fun v => cl.getD u 0 == a && cl.getD v 0 == b
def tiesK (N : Nat) (rel : List (Int × Int)) (cl : List Nat) (a b n : Nat) : Bool := (List.range n).any (tieK N rel cl a b)
def rowT (N : Nat) (rel : List (Int × Int)) (cl : List Nat) (a n : Nat) : List (Int × Int) := ((List.range n).filter fun b => tiesK N rel cl a b N).map fun b => ((a : Int), ((b : Nat) : Int))
def relT (N : Nat) (rel : List (Int × Int)) (cl : List Nat) (C n : Nat) : List (Int × Int) := (List.range n).flatMap fun a => rowT N rel cl a C
theorem tiesK_succ (N : Nat) (rel : List (Int × Int)) (cl : List Nat) (a b n : Nat) : tiesK N rel cl a b (n + 1) = (tiesK N rel cl a b n || tieK N rel cl a b n) := by
  rw [tiesK, tiesK, List.range_succ, List.any_append]
  simp
theorem rowT_succ (N : Nat) (rel : List (Int × Int)) (cl : List Nat) (a n : Nat) : rowT N rel cl a (n + 1) = rowT N rel cl a n ++ if tiesK N rel cl a n N = true then [((a : Int), ((n : Nat) : Int))] else [] := by
  rw [rowT, rowT, List.range_succ, List.filter_append, List.map_append]
  congr 1
  by_cases h : tiesK N rel cl a n N = true
  · simp [h]
  · simp [h]
theorem relT_succ (N : Nat) (rel : List (Int × Int)) (cl : List Nat) (C n : Nat) : relT N rel cl C (n + 1) = relT N rel cl C n ++ rowT N rel cl n C := by
  rw [relT, relT, List.range_succ, List.flatMap_append]
  simp
theorem rowT_len (N : Nat) (rel : List (Int × Int)) (cl : List Nat) (a n : Nat) : (rowT N rel cl a n).length ≤ n := by
  rw [rowT, List.length_map]; (have := List.length_filter_le (fun b => tiesK N rel cl a b N) (List.range n))
  rwa [List.length_range] at this
theorem relT_len (N : Nat) (rel : List (Int × Int)) (cl : List Nat) (C : Nat) : ∀ n, (relT N rel cl C n).length ≤ n * C
  | 0 => by simp [relT]
  | n + 1 => by
    rw [relT_succ, List.length_append, Nat.add_mul, Nat.one_mul]; have h1 := relT_len N rel cl C n; have h2 := rowT_len N rel cl n C; omega
theorem firsts_cls {cl : List Nat} (hn : numK cl = cl) : ∀ {u : Nat}, u ≤ cl.length → (firsts cl u).map (fun f => cl.getD f 0) = List.range (extK [] (cl.take u)).length
  | 0, _ => rfl
  | u + 1, h => by
    (obtain ⟨c, hc⟩ : ∃ c, cl[u]? = some c := ⟨_, List.getElem?_eq_getElem (by omega)⟩); (have ih := firsts_cls hn (u := u) (by omega)); rw [firsts_succ cl hc, ext_grow hc]; by_cases hm : c ∈ cl.take u
    · rw [if_pos hm, if_pos hm, ih]
    · rw [if_neg hm, if_neg hm, List.map_append, ih, List.range_succ, List.map_cons, List.map_nil, getD_of hc, ← new_num hn hc hm]
theorem cls_small {cl : List Nat} (hn : numK cl = cl) {u c : Nat} (hc : cl[u]? = some c) : c < (extK [] cl).length := by
  have h1 := numK_get hc; rw [hn, hc] at h1; rw [Option.some.inj h1]; refine List.idxOf_lt_length_of_mem ((extK_mem _ _ _).2 (Or.inr ?_)); exact List.mem_of_getElem? hc
theorem filter_cut (P Q : Nat → Bool) (C : Nat) : ∀ N, C ≤ N → (∀ b, b < C → P b = Q b) → (∀ b, C ≤ b → P b = false) → (List.range N).filter P = (List.range C).filter Q
  | 0, h, _, _ => by obtain rfl : C = 0 := by omega
                     rfl
  | N + 1, h, h1, h2 => by
    by_cases e : C = N + 1
    · subst e
      (exact List.filter_congr fun b hb => h1 b (List.mem_range.1 hb))
    · rw [List.range_succ, List.filter_append, filter_cut P Q C N (by omega) h1 h2]
      (simp [h2 N (by omega)])
theorem flatMap_same {β : Type} {f g : Nat → List β} : ∀ l : List Nat, (∀ x ∈ l, f x = g x) → l.flatMap f = l.flatMap g
  | [], _ => rfl
  | a :: l, h => by rw [List.flatMap_cons, List.flatMap_cons, h a (by simp), flatMap_same l fun x hx => h x (by simp [hx])]
theorem relT_eq {N : Nat} {rel : List (Int × Int)} (hin : InR N rel) {tr : List (List (List UInt8))} (htl : tr.length = N) (hlen : (clsK N (relB rel) (tr.map nmz)).length = N) (hnum : numK (clsK N (relB rel) (tr.map nmz)) = clsK N (relB rel) (tr.map nmz)) :
    relT N rel (clsK N (relB rel) (tr.map nmz)) (extK [] (clsK N (relB rel) (tr.map nmz))).length (extK [] (clsK N (relB rel) (tr.map nmz))).length = shRel N (relB rel) (clsK N (relB rel) (tr.map nmz)) N := by
  (have hcov := fun u v hu hv e x hx hr => cls_cov (R := relB rel) htl (u := u) (v := v) hu hv e x hx hr); generalize clsK N (relB rel) (tr.map nmz) = cl at *; (have htk : cl.take N = cl := List.take_of_length_le (by omega))
  have hC : (extK [] cl).length ≤ N := by
    have := extK_len cl ([] : List Nat); simp at this; omega
  (have hf := firsts_cls hnum (u := N) (by omega)); rw [htk] at hf; unfold relT shRel; rw [← hf, List.flatMap_map]; (refine flatMap_same _ fun f hfm => ?_)
  have hfN : f < N := by
    unfold firsts at hfm; exact List.mem_range.1 (List.mem_filter.1 hfm).1
  unfold rowT relsK memTo
  congr 1
  (refine (filter_cut _ _ _ N hC (fun b _ => ?_) (fun b hb => ?_)).symm)
  · rw [Bool.eq_iff_iff]
    simp only [seesC, tiesK, tieK, List.any_eq_true, List.mem_range, Bool.and_eq_true, beq_iff_eq]
    constructor
    · rintro ⟨v, hv, h1, h2⟩
      exact ⟨f, hfN, v, (seen_mem hin).2 ⟨hv, h1⟩, rfl, h2⟩
    · rintro ⟨u, hu, v, hv, h1, h2⟩
      obtain ⟨h3, h4⟩ := (seen_mem hin).1 hv; obtain ⟨y, hy, h5, h6⟩ := hcov u f hu hfN h1 v h3 h4; exact ⟨y, hy, h5, h6.symm.trans h2⟩
  · rw [Bool.eq_false_iff]
    intro h; simp only [seesC, List.any_eq_true, List.mem_range, Bool.and_eq_true, beq_iff_eq] at h; obtain ⟨v, hv, h1, h2⟩ := h; (obtain ⟨c, hc⟩ : ∃ c, cl[v]? = some c := ⟨_, List.getElem?_eq_getElem (by omega)⟩); rw [getD_of hc] at h2; have := cls_small hnum hc; omega
set_option maxRecDepth 10000 in
set_option maxHeartbeats 32000000 in
theorem shrunkR_any (N : Nat) (h0 : 0 < N) (hN : N ≤ 40) (rel : List (Int × Int)) (hrl : rel.length ≤ 2000) (hin : InR N rel) (tr : List (List (List UInt8))) (htl : tr.length = N) (hnm : ∀ l ∈ tr, l.length ≤ 30 ∧ ∀ t ∈ l, isNm t = true) (ra ta : Option Addr) (rc tc : Nat) (w : World) (hp : PL w (.slice ra rel.length rc) rel) (ht : SLs w (.slice ta tr.length tc) tr) :
    Calls Try.prog 23 #[.agg #[.int .i64 (N : Nat), .slice ra rel.length rc, .slice ta tr.length tc]] w fun e w' => ∃ u, e = .returned u ∧ MRo w.heap.size w' ⟨((extK [] (clsK N (relB rel) (tr.map nmz))).length : Nat), shRel N (relB rel) (clsK N (relB rel) (tr.map nmz)) N, shTr (tr.map nmz) (clsK N (relB rel) (tr.map nmz)) N⟩ u ∧ Below w.heap.size w w' := by
  (have hNi : (N : Int) ≤ 40 := by omega); (have hl0 : (byN (tr.map nmz)).length = N := by rw [byN_len, List.length_map, htl]); (have hlt0 : ∀ n ∈ byN (tr.map nmz), n < N := fun n hn => by have := byN_lt n hn; rwa [List.length_map, htl] at this); obtain ⟨cl, hcl⟩ : ∃ cl, cl = clsK N (relB rel) (tr.map nmz) := ⟨_, rfl⟩; (have HLen : Hid (cl.length = N) := by rw [hcl]; exact levK_len hl0 _); (have HLt : Hid (∀ n ∈ cl, n < N) := by rw [hcl]; exact levK_lt hlt0 _); (have HNum : Hid (numK cl = cl) := by rw [hcl]; exact levK_num (by rw [byN]; exact numK_idem _) _)
  have HRT : Hid (relT N rel cl (extK [] cl).length (extK [] cl).length = shRel N (relB rel) cl N) := by
    have h1 := HLen.out; have h2 := HNum.out; rw [hcl] at h1 h2 ⊢; exact relT_eq hin htl h1 h2
  have HCo : Hid (∀ W, Below w.heap.size w W → Calls Try.prog 22 #[.agg #[.int .i64 (N : Nat), .slice ra rel.length rc, .slice ta tr.length tc]] W fun e w' => ∃ go cur, e = .returned (.slice (some ⟨go, 0, none⟩) N N) ∧ W.heap.size ≤ go ∧ OutP w' go N cl N cur ∧ Below W.heap.size W w') := fun W hb => by
    rw [hcl]; exact classesOf_any N h0 hN rel hrl hin tr htl hnm ra ta rc tc W (hp.up hb) (ht.upM hb)
  (have HSe : Hid (∀ W, Below w.heap.size w W → Calls Try.prog 44 #[.agg #[.int .i64 (N : Nat), .slice ra rel.length rc, .slice ta tr.length tc]] W fun e w' => ∃ g, e = .returned (.slice (some ⟨g, 0, none⟩) N N) ∧ W.heap.size ≤ g ∧ SnR W.heap.size w' g N rel ∧ Below W.heap.size W w') := fun W hb => seen_any N hN rel hrl hin ra ta rc tr.length tc W (hp.up hb)); have HN : Hid (0 < N ∧ N ≤ 40) := ⟨h0, hN⟩; have HTl : Hid (tr.length = N) := htl; have HNm : Hid (∀ l ∈ tr, l.length ≤ 30 ∧ ∀ t ∈ l, isNm t = true) := hnm; have HIn : Hid (InR N rel) := hin; obtain ⟨i0, hi, hz0, hz1, hz2⟩ := infoText; have HIo : Hid (Try.prog.info? 9 = some i0 ∧ i0.zero = some (.string ⟨#[]⟩) ∧ i0.size = 1 ∧ i0.bytes = 16) := ⟨hi, hz0, hz1, hz2⟩; clear hi hz0 hz1 hz2; obtain ⟨ad9, cap9, e9, ht1, ht2, ht3⟩ := ht; simp only [Value.slice.injEq, true_and] at e9; obtain ⟨rfl, rfl⟩ := e9; (obtain ⟨bt, ot, rfl, hct⟩ := ht3 (fun e => by rw [e] at htl; simp at htl; omega)); have HTc : Hid (∀ (j : Nat) (r : List (List UInt8)), tr[j]? = some r → ∃ u, w.cell? ⟨bt, ot + j, none⟩ = some u ∧ SL w u r) := hct; (have htI : (tr.length : Int) ≤ (tc : Int) := by omega); rw [← hcl]; obtain ⟨W, hW⟩ : ∃ W, W = (w.alloc (.cells #[.int .i64 (N : Nat), .slice ra rel.length rc, .slice (some ⟨bt, ot, none⟩) tr.length tc] 30 (0, 0))).alloc (.cells #[.int .i64 0, .slice none 0 0, .slice none 0 0] 30 (0, 0)) := ⟨_, rfl⟩; (have HB0 : Hid (Below w.heap.size w W) := by rw [hW]; exact below_more (below_more (Below.refl _ w) _) _); (have HX : Hid (W.heap[w.heap.size]? = some (.cells #[.int .i64 (N : Nat), .slice ra rel.length rc, .slice (some ⟨bt, ot, none⟩) tr.length tc] 30 (0, 0))) := by rw [hW]; exact alloc_keep (blk_new _ _) _); (have HOb : Hid (W.heap[w.heap.size + 1]? = some (.cells #[.int .i64 0, .slice none 0 0, .slice none 0 0] 30 (0, 0))) := by rw [hW]; exact blk_secE _ _ _); obtain ⟨q0, q1, q2, -⟩ := blk3 HX.out; clear hl0 hlt0 hcl h0 hN hrl hin htl hnm hp ht1 ht2 ht3 hct
  go_enter Try.func23, Try.ntmps23
  go_wp2_with fail; rw [← hW]; clear hW; refine (HCo.out W HB0.out).mono ?_; rintro _ w1 ⟨go, cur0, rfl, hgo, hcl1, hb1⟩; have HB1 : Hid (Below w.heap.size w w1) := below_join HB0.out hb1; have HX1 : Hid (w1.heap[w.heap.size]? = some (.cells #[.int .i64 (N : Nat), .slice ra rel.length rc, .slice (some ⟨bt, ot, none⟩) tr.length tc] 30 (0, 0))) := below_keep hb1 HX.out; have HOb1 : Hid (w1.heap[w.heap.size + 1]? = some (.cells #[.int .i64 0, .slice none 0 0, .slice none 0 0] 30 (0, 0))) := below_keep hb1 HOb.out; have HC1 : Hid (OutP w1 go N cl N cur0) := hcl1; obtain ⟨k0, k1, k2, -⟩ := blk3 HX1.out; have HWs : Hid (W.heap.size ≤ w1.heap.size) := hb1.size; clear hb1 hcl1 hgo q0 q1 q2; go_wp2_with fail; refine (HSe.out w1 HB1.out).mono ?_; rintro _ w2 ⟨gs, rfl, hgs, hsn, hb2⟩; obtain ⟨Y, hY⟩ : ∃ Y, Y = w2.alloc (.cells #[.int .i64 0, .slice none 0 0, .slice none 0 0] 30 (0, 0)) := ⟨_, rfl⟩; (have HbY : Hid (Below w1.heap.size w1 Y) := by rw [hY]; exact below_more hb2 _)
  have HS0 : Hid (SnR w.heap.size Y gs N rel) := by
    rw [hY]; refine SnR.up ?_ (below_more (Below.refl _ _) _); obtain ⟨cs, e1, e2, e3⟩ := hsn
    exact ⟨cs, e1, e2, fun j l hj => by
      obtain ⟨a, c, e4, e5⟩ := e3 j l hj
      exact ⟨a, c, e4, rowM_low e5 HB1.out.size⟩⟩
  obtain ⟨CS, hCS⟩ : ∃ CS : Array Value, CS = #[.int .i64 (N : Nat), .slice ra rel.length rc, .slice (some ⟨bt, ot, none⟩) tr.length tc] := ⟨_, rfl⟩; (have HCs : Hid (some (Obj.cells CS 30 (0, 0)) = some (.cells #[.int .i64 (N : Nat), .slice ra rel.length rc, .slice (some ⟨bt, ot, none⟩) tr.length tc] 30 (0, 0))) := by rw [hCS]; rfl); (have HK0 : Hid (SkO w Y N rel CS (w.heap.size + 1) go gs cl) := ⟨by rw [hCS]; exact below_keep HbY.out HX1.out, below_keep HbY.out HOb1.out, ⟨cur0, below_keep HbY.out HC1.out.blk, HC1.out.size, HC1.out.each⟩, HS0.out⟩); (have HP0 : Hid (ShP w Y w2.heap.size (extK [] (cl.take 0)).length [] (shTr (tr.map nmz) cl 0) none 0 none 0 []) := ⟨by rw [hY]; exact blk_new _ _, ⟨rfl, Or.inl ⟨rfl, rfl⟩⟩, ⟨rfl, Or.inl ⟨rfl, rfl⟩⟩, ⟨rfl, fun j r hj => by cases hj⟩, below_join HB1.out HbY.out⟩); have HWs2 : Hid (w1.heap.size ≤ w2.heap.size) := hb2.size; clear hb2 hsn hgs k0 k1 k2 hCS
  go_upto_region 4 with fail
  rw [← hY]; obtain ⟨bm, hbm⟩ : ∃ b, b = w2.heap.size := ⟨_, rfl⟩; rw [← hbm] at HP0 ⊢
  have Hbm : Hid (w.heap.size + 1 < bm) := by
    rw [hbm]; exact Nat.lt_of_lt_of_le (lt_of_block HOb.out) (Nat.le_trans HWs.out HWs2.out)
  clear hbm hY HbY HB1 HB0 HX HOb HWs HWs2 HX1 HOb1 HC1 HS0 HCo HSe w2 w1 W cur0; obtain ⟨bO, hbO⟩ : ∃ b, b = w.heap.size + 1 := ⟨_, rfl⟩; rw [← hbO] at HK0 Hbm ⊢; have HbO : Hid (bO = w.heap.size + 1) := hbO; clear hbO; obtain ⟨k0, k1, k2, -⟩ := blk3 (HK0.out.mo.trans HCs.out); go_wp2_with fail; clear k0 k1 k2
  go_loopg [6, 7, 8, 9, 10] N (fun gg y6 y7 y8 y9 y10 wr => ∃ u adt cpt us, u ≤ N ∧ gg = N - u ∧ y6 = .int .i64 (u : Nat) ∧ Hid (ShP w wr bm (extK [] (cl.take u)).length [] (shTr (tr.map nmz) cl u) none 0 adt cpt us) ∧ Hid (SkO w wr N rel CS bO go gs cl))
  case atStart => exact ⟨0, none, 0, [], by omega, by omega, rfl, HP0, HK0⟩
  case round =>
    obtain ⟨u, adt, cpt, us, hu, hg, rfl, HS, HO⟩ := hrel; have HGk : Hid (gk = N - u) := hg; clear hg HP0 HK0; obtain ⟨k0, k1, k2, -⟩ := blk3 (HO.out.mo.trans HCs.out); by_cases hlt : u < N
    · have hltI : (u : Int) < (N : Int) := by omega
      have HU : Hid (u < N) := hlt; (obtain ⟨c, hc⟩ : ∃ c, cl[u]? = some c := ⟨_, List.getElem?_eq_getElem (by rw [HLen.out]; exact hlt)⟩); have HC : Hid (cl[u]? = some c) := hc; have hcN := HLt.out c (List.mem_of_getElem? hc); have HGr := ext_grow hc; have HFs := firsts_succ cl hc; have HNw := new_num HNum.out hc; have HOd := old_num HNum.out hc
      have hel : (extK [] (cl.take u)).length ≤ u := by
        have h1 := extK_len (cl.take u) ([] : List Nat); rw [List.length_take] at h1; simp at h1; omega
      obtain ⟨cur, hcur⟩ := HO.out.cls; have hcell : wr.cell? ⟨go, u, none⟩ = some (.int .i64 (c : Nat)) := hcur.cell (hcur.each u c hlt hc); obtain ⟨m0, m1, m2, f0, f1, f2⟩ := blk3 HS.out.md; by_cases hin : c ∈ cl.take u
      · have h1 := HOd hin
        (have h1I : (c : Int) < ((extK [] (cl.take u)).length : Int) := by omega); rw [if_pos hin] at HGr HFs
        have HSn : Hid (ShP w wr bm (extK [] (cl.take (u + 1))).length [] (shTr (tr.map nmz) cl (u + 1)) none 0 adt cpt us) := by
          unfold shTr; rw [HGr, HFs]; exact HS.out
        clear hlt hu hc hcN HNw HOd hel hin HGr HFs h1 hcur; go_wp2_with fail
        go_quiet (fail)
        go_wp2_with fail
        go_roundg (N - (u + 1))
        case measure => have := HGk.out; have := HU.out; omega
        case rel => exact ⟨u + 1, adt, cpt, us, HU.out, rfl, by go_num, HSn.out.up (below_drewN (Below.refl _ _) _), HO.out.up (below_drewN (Below.refl _ _) _)⟩
      · have h1 := HNw hin
        rw [if_neg hin] at HGr HFs; (have HG9 : Hid ((extK [] (cl.take (u + 1))).length = c + 1) := by rw [h1]; exact HGr); have HF9 : Hid (firsts cl (u + 1) = firsts cl u ++ [u]) := HFs; have HS9 := HS.out; rw [← h1] at HS9 m0 hel; have HS : Hid (ShP w wr bm c [] (shTr (tr.map nmz) cl u) none 0 adt cpt us) := HS9; (have hcI : ¬ (c : Int) < (c : Int) := by omega); (have hc40 : (c : Int) ≤ 40 := by have := HN.out; omega); (have HC40 : Hid (c ≤ 40) := by show _ ≤ _; omega); (have HTl9 : Hid ((shTr (tr.map nmz) cl u).length = c) := by show _ = _; rw [shTr, List.length_map, firsts_len (by have := HLen.out; omega), ← h1]); (obtain ⟨r, hr⟩ : ∃ r, tr[u]? = some r := ⟨_, List.getElem?_eq_getElem (by rw [HTl.out]; exact hlt)⟩); obtain ⟨uu, hcu, hsu⟩ := HTc.out u r hr; (have HRu : Hid (nmAt (tr.map nmz) u = nmz r) := by show _ = _; rw [nmAt, List.getD_eq_getElem?_getD, List.getElem?_map, hr]; rfl); have hrs := (HNm.out r (List.mem_of_getElem? hr)).1; have HRs : Hid (r.length ≤ 30) := hrs; have HSu : Hid (SL w uu r) := hsu; obtain ⟨au, cpu, rfl, hsu1, hsu2, hsu3⟩ := hsu; have HCu : Hid (w.cell? ⟨bt, ot + u, none⟩ = some (.slice au r.length cpu)) := hcu
        have HSc : Hid (∀ (j : Nat) (t : List UInt8), r[j]? = some t → ∃ b off, au = some ⟨b, off, none⟩ ∧ w.cell? ⟨b, off + j, none⟩ = some (.string ⟨t.toArray⟩)) := fun j t hj => by
          (obtain ⟨b, off, e, hc9⟩ := hsu3 (fun e => by rw [e] at hj; cases hj)); exact ⟨b, off, e, hc9 j t hj⟩
        (have hrI : (r.length : Int) ≤ 30 := by omega); (have hruI : (r.length : Int) ≤ (cpu : Int) := by omega); (have hutI : (u : Int) < (tr.length : Int) := by have := HTl.out; omega); (have hutc : (u : Int) < (tc : Int) := by omega); clear hlt hu hc hcN HNw HOd hel hin HGr HFs h1 HS9 hcur hr hcu hrs hsu1 hsu2 hsu3; go_wp2_with fail
        go_quiet (fail)
        obtain ⟨V, hV⟩ : ∃ V, V = (wr.drewN nq).setCell ⟨bm, 0, none⟩ (.int .i64 ((c : Int) + 1)) := ⟨_, rfl⟩; (have hcast : ((c + 1 : Nat) : Int) = (c : Int) + 1 := by omega); have HSq : Hid (ShP w (wr.drewN nq) bm c [] (shTr (tr.map nmz) cl u) none 0 adt cpt us) := HS.out.up (below_drewN (Below.refl _ _) _)
        have HSV : Hid (ShP w V bm (c + 1) [] (shTr (tr.map nmz) cl u) none 0 adt cpt us) := by
          rw [hV, ← hcast]; (exact HSq.out.setN (by have := Hbm.out; have := HbO.out; omega) (c + 1))
        have HOV : Hid (SkO w V N rel CS bO go gs cl) := by
          rw [hV]; (exact (HO.out.up (below_drewN (Below.refl _ _) _)).setM HSq.out.md (by have := Hbm.out; have := HbO.out; omega) (by have := Hbm.out; omega) _)
        clear hcast HSq
        go_upto_region 9 with fail
        rw [← hV]; clear hV m0 m1 m2 f0 f1 f2 hcell k0 k1 k2 HS HO; obtain ⟨k0, k1, k2, -⟩ := blk3 (HOV.out.mo.trans HCs.out); have c9 := (HSV.out.below.cell (lt_of_cell HCu.out)).trans HCu.out; go_wp2_with fail; clear k0 k1 k2 c9
        go_loopg [8, 7, 9, 10] r.length (fun gg y8 y7 y9 y10 wz => ∃ j ad cy L, j ≤ r.length ∧ gg = r.length - j ∧ y8 = .int .i64 (j : Nat) ∧ y7 = .slice ad L.length cy ∧ Hid (Below V.heap.size V wz) ∧ Hid (KS V.heap.size wz ad cy L) ∧ L.length ≤ j ∧ Hid (Rising L ∧ ∀ t, t ∈ L ↔ t ∈ r.take j))
        case atStart => exact ⟨0, none, 0, [], by omega, by omega, rfl, rfl, Below.refl _ _, KS.nil, by simp, List.Pairwise.nil, fun t => by simp⟩
        case round =>
          obtain ⟨j, ad, cy, L, hj, hg, rfl, rfl, HBy, HK, hLj, HL⟩ := hrel; have HG : Hid (gk = r.length - j) := hg; clear hg; have HBw : Hid (Below w.heap.size w wr) := below_join HSV.out.below HBy.out; obtain ⟨k0, k1, k2, -⟩ := blk3 (below_keep HBy.out (HOV.out.mo.trans HCs.out)); have c9 := (HBw.out.cell (lt_of_cell HCu.out)).trans HCu.out; by_cases hlt : j < r.length
          · obtain ⟨t, hki⟩ : ∃ t, r[j]? = some t := ⟨_, List.getElem?_eq_getElem hlt⟩
            obtain ⟨bu, ou, rfl, hcj⟩ := HSc.out j t hki; have zy := HBy.out.size; have p1 := (HBw.out.cell (lt_of_cell hcj)).trans hcj; (have hltI : (j : Int) < (r.length : Int) := by omega); (have hlc : (j : Int) < (cpu : Int) := by omega); (have hT : r.take (j + 1) = r.take j ++ [t] := by rw [List.take_add_one, hki]; rfl); have hha := hasText_any L t _ wr HK.out.list; obtain ⟨hi, hz0, hz1, hz2⟩ := HIo.out; by_cases hm : t ∈ L
            · rw [decide_eq_true hm] at hha
              have HA : Hid (Calls Try.prog 45 _ wr _) := hha
              have HT : Hid (∀ x, x ∈ L ↔ x ∈ r.take (j + 1)) := fun x => by
                rw [hT, List.mem_append, HL.out.2 x]
                constructor
                · exact Or.inl
                · rintro (h | h)
                  · exact h
                  · simp at h; subst h; exact (HL.out.2 _).1 hm
              generalize (⟨t.toArray⟩ : ByteArray) = TT at *; clear hT hki hha
              go_wp2_with (first
                | (go_at_call 45
                   refine HA.out.mono ?_
                   rintro e w2 ⟨rfl, rfl⟩)
                | fail)
              go_roundg (r.length - (j + 1))
              case measure => have := HG.out; omega
              case rel => exact ⟨j + 1, ad, cy, L, by omega, rfl, by go_num, rfl, HBy, HK, by omega, HL.out.1, HT.out⟩
            · rw [decide_eq_false hm] at hha
              have HA : Hid (Calls Try.prog 45 _ wr _) := hha; have HM : Hid (t ∉ L) := hm
              have HT : Hid (∀ M : List (List UInt8), (∀ x, x ∈ M ↔ x ∈ L ∨ x = t) → ∀ x, x ∈ M ↔ x ∈ r.take (j + 1)) := fun M hM x => by
                rw [hT, List.mem_append, hM x, HL.out.2 x]
                simp
              clear hT hki hha hm
              go_wp2_with (first
                | (go_at_call 45
                   refine HA.out.mono ?_; rintro e w2 ⟨rfl, hw2⟩; have hw3 := hw2.symm
                   subst hw3)
                | fail)
              (have hLI : (L.length : Int) ≤ 30 := by omega); obtain ⟨W0, hW0⟩ : ∃ W0, W0 = wr := ⟨_, rfl⟩; subst hW0
              go_loopg [10] L.length (fun g c wz => ∃ a, a ≤ L.length ∧ g = L.length - a ∧ c = .int .i64 (a : Nat) ∧ Below W0.heap.size W0 wz ∧ Hid (∀ (i : Nat) (x : List UInt8), i < a → L[i]? = some x → x < t))
              case atStart => exact ⟨0, by omega, by omega, rfl, Below.refl _ _, fun i x h => absurd h (Nat.not_lt_zero _)⟩
              case round =>
                obtain ⟨a, ha, hg2, rfl, hbz, HX⟩ := hrel; have HG2 : Hid (gk = L.length - a) := hg2; have HKz : Hid (KS V.heap.size wr ad cy L) := HK.out.up hbz; clear hg2 HA; by_cases hal : a < L.length
                · obtain ⟨x, hx⟩ : ∃ x, L[a]? = some x := ⟨_, List.getElem?_eq_getElem hal⟩
                  (have haI : (a : Int) < (L.length : Int) := by omega)
                  rcases HKz.out.ne with ⟨-, h0, -⟩ | ⟨gL, rfl, hgB, hgz, hLc, hcm⟩
                  · rw [h0] at hal; simp at hal
                  have hx0 := HKz.out.cell a x hx; (have hac : (a : Int) < (cy : Int) := by omega); by_cases hxt : x < t
                  · have HXN : Hid (∀ (i : Nat) (y : List UInt8), i < a + 1 → L[i]? = some y → y < t) := fun i y hi hy => by
                      rcases Nat.lt_or_ge i a with h | h
                      · exact HX.out i y h hy
                      · obtain rfl : i = a := by omega
                        rw [hx] at hy; rw [← Option.some.inj hy]; exact hxt
                    (have hbl : Op.bytesLess x t = true := by rw [bytesLess_eq]; exact decide_eq_true hxt); have HBd : Hid (a < L.length) := hal; clear hx hxt hgB hgz hLc hcm hLj ha hal hj hlt; go_wp2_with fail
                    go_roundg (L.length - (a + 1))
                    case measure => have := HG2.out; have := HBd.out; omega
                    case rel => exact ⟨a + 1, HBd.out, rfl, by go_num, hbz, HXN⟩
                  · have hbl : Op.bytesLess x t = false := by rw [bytesLess_eq]; exact decide_eq_false hxt
                    (have HBd : Hid (V.heap.size ≤ gL ∧ gL < wr.heap.size ∧ L.length ≤ cy ∧ cy ≤ maxLen ∧ a < L.length ∧ L.length ≤ 30) := ⟨hgB, hgz, hLc, hcm, hal, by omega⟩); (have HRi : Hid (Rising (L.take a ++ t :: L.drop a)) := rising_ins HL.out.1 HX.out (fun y hy => by rw [hx] at hy; rw [← Option.some.inj hy]; exact hxt) HM.out); (have hLcI : (L.length : Int) ≤ (cy : Int) := by omega); have HJ : Hid (j < r.length ∧ L.length ≤ j) := ⟨hlt, hLj⟩; (have haI2 : (a : Int) ≤ (L.length : Int) := by omega); (have hacn : ¬ cy = a := by omega); (have hacy : a ≤ cy := by omega); (have haL : a ≤ L.length := by omega); clear hx hxt hgB hgz hLc hcm hLj ha hal hj hlt; go_wp2_with fail
                    go_region_law
                      (first
                       | (have hw4 := HW4.out
                          (refine step_append_lies _ rfl _ _ 80 rfl V.heap.size 9 i0 (.string ⟨#[]⟩) 1 16 Try.underlying80 hi hz0 hz1 hz2 rfl (by decide) _ _ _ rfl HO4.out ⟨g4, 0, none⟩ (1 + (L.length - a)) cp4 ((t :: L.drop a).map encStr) rfl (by simp; omega) (fun j u hu => hw4.cells (g := g4) rfl j u hu) (enc_one _) (by omega) (by have := HBd.out; unfold maxLen; omega) (by have := HBd.out; omega) (by have := HBd.out; have := HG4.out.size; simp at this; have := hbz.size; omega) _ rfl ?_); intro g5 cp5 w5 hown5 hgrow5 hat5 hlt5; (have HE5 := ins_end (below_join HBy.out hbz) (by have := hbz.size; omega) HBd.out.1 (by have := HBd.out; simp; omega) HG4.out hgrow5 hown5); have HE : Hid (KS V.heap.size w5 (some ⟨g5, 0, none⟩) cp5 (L.take a ++ t :: L.drop a) ∧ Below V.heap.size V w5) := HE5
                          clear HE5 hown5 hgrow5 hat5 hw4)
                       | (have hin : ((wr.drewN 1).alloc (.cells #[.string ⟨t.toArray⟩] 9 (0, 0))).ownsRow wr.heap.size 9 1 (.slice (some ⟨wr.heap.size, 0, none⟩) 1 1) 1 [.string ⟨t.toArray⟩] := ⟨rfl, Or.inr ⟨wr.heap.size, 1, #[.string ⟨t.toArray⟩], rfl, Nat.le_refl _, blk_new _ _, by omega, by simp [maxLen], rfl, rfl⟩⟩
                          have hks : KS V.heap.size ((wr.drewN 1).alloc (.cells #[.string ⟨t.toArray⟩] 9 (0, 0))) (some ⟨gL, 0, none⟩) cy L := HKz.out.up ((below_drewN (Below.refl _ wr) _).alloc (Nat.le_refl _) _); (refine step_append_lies _ rfl _ _ 80 rfl wr.heap.size 9 i0 (.string ⟨#[]⟩) 1 16 Try.underlying80 hi hz0 hz1 hz2 rfl (by decide) _ _ _ rfl hin ⟨gL, a, none⟩ (L.length - a) (cy - a) ((L.drop a).map encStr) rfl (by simp) (hks.drop a) (enc_one _) (by have := HBd.out; omega) (by have := HBd.out; unfold maxLen; omega) (by have := HBd.out; omega) (by simp) _ rfl ?_); intro g4 cp4 w4 hown4 hgrow4 hat4 hlt4; have HW4 : Hid (w4.ownsRow wr.heap.size 9 1 (.slice (some ⟨g4, 0, none⟩) (1 + (L.length - a)) cp4) (1 + (L.length - a)) ((t :: L.drop a).map encStr)) := hown4; have HG4 : Hid (((wr.drewN 1).alloc (.cells #[.string ⟨t.toArray⟩] 9 (0, 0))).grownBy w4 (some wr.heap.size)) := hgrow4; (have HO4 : Hid (w4.ownsRow V.heap.size 9 1 (.slice (some ⟨gL, 0, none⟩) a cy) a ((L.take a).map encStr)) := (hks.keep (HG4.out.block gL (by have := HBd.out; simp; omega) (fun e => by have : gL = wr.heap.size := Option.some.inj e; have := HBd.out; omega))).take a (by have := HBd.out; omega))
                          clear hown4 hgrow4 hat4 hin hks)
                       | fail)
                    all_goals
                      go_wp2_with fail; (have hl2 : (L.take a ++ t :: L.drop a).length = L.length + 1 := by have := HBd.out; simp; omega)
                      go_roundg (r.length - (j + 1))
                      case measure => have := HG.out; have := HJ.out; omega
                      case rel => exact ⟨j + 1, some ⟨g5, 0, none⟩, cp5, L.take a ++ t :: L.drop a, by have := HJ.out; omega, rfl, by go_num, by rw [hl2, show a + (1 + (L.length - a)) = L.length + 1 by have := HBd.out; omega], HE.out.2, HE.out.1, by have := HJ.out; omega, HRi.out, HT.out _ (mem_ins L t a)⟩
                · obtain rfl : a = L.length := by omega
                  (have hal' : decide ((L.length : Int) < (L.length : Int)) = false := by simp)
                  have HRi : Hid (Rising (L ++ [t])) := by
                    (have := rising_ins HL.out.1 HX.out (fun y hy => by rw [List.getElem?_eq_none (Nat.le_refl _)] at hy; cases hy) HM.out)
                    rwa [List.take_length, List.drop_length] at this
                  (have HMI : Hid (∀ x, x ∈ L ++ [t] ↔ x ∈ L ∨ x = t) := fun x => by simp); (have HJ : Hid (j < r.length ∧ L.length ≤ j ∧ L.length ≤ 30) := ⟨hlt, hLj, by omega⟩)
                  rcases HKz.out.ne with ⟨rfl, rfl, rfl⟩ | ⟨gL, rfl, hgB, hgz, hLc, hcm⟩
                  · clear hLj ha hal hj hlt
                    go_wp2_with fail
                    go_region_law
                      (first
                       | (refine step_append_lies _ rfl _ _ 80 rfl V.heap.size 9 i0 (.string ⟨#[]⟩) 1 16 Try.underlying80 hi hz0 hz1 hz2 rfl (by decide) _ _ _ rfl (show World.ownsRow ((wr.drewN 1).alloc (.cells #[.string ⟨t.toArray⟩] 9 (0, 0))) V.heap.size 9 1 (.slice none 0 0) 0 [] from ⟨rfl, Or.inl ⟨rfl, rfl⟩⟩) ⟨wr.heap.size, 0, none⟩ 1 1 [.string ⟨t.toArray⟩] rfl rfl ?_ ?_ (by omega) (by unfold maxLen; omega) (by omega) (by have := hbz.size; simp; omega) _ rfl ?_
                          · exact fun i u hu => one_newS i u hu
                          · intro u hu
                            simp at hu
                            rcases hu with rfl; rfl
                          intro g5 cp5 w5 hown5 hgrow5 hat5 hlt5; (have HE5 := app_end (t := t) (w := wr) (q := 1) (o := .cells #[.string ⟨t.toArray⟩] 9 (0, 0)) (below_join HBy.out hbz) (by have := hbz.size; omega) HKz.out hgrow5 hown5); have HE : Hid (KS V.heap.size w5 (some ⟨g5, 0, none⟩) cp5 (([] : List (List UInt8)) ++ [t]) ∧ Below V.heap.size V w5) := HE5
                          clear HE5 hown5 hgrow5 hat5)
                       | fail)
                    all_goals
                      go_wp2_with fail
                      go_roundg (r.length - (j + 1))
                      case measure => have := HG.out; have := HJ.out; omega
                      case rel => exact ⟨j + 1, some ⟨g5, 0, none⟩, cp5, ([] : List (List UInt8)) ++ [t], by have := HJ.out; omega, rfl, by go_num, by simp, HE.out.2, HE.out.1, by simp, HRi.out, HT.out _ HMI.out⟩
                  · have hLcI : (L.length : Int) ≤ (cy : Int) := by omega
                    have HBd : Hid (V.heap.size ≤ gL ∧ gL < wr.heap.size ∧ L.length ≤ cy ∧ cy ≤ maxLen) := ⟨hgB, hgz, hLc, hcm⟩; clear hLj ha hal hj hlt hgB hgz hcm; by_cases hcl : L.length = cy
                    · subst hcl
                      clear hLc; go_wp2_with fail
                      go_region_law
                        (first
                         | (refine step_append_lies _ rfl _ _ 80 rfl V.heap.size 9 i0 (.string ⟨#[]⟩) 1 16 Try.underlying80 hi hz0 hz1 hz2 rfl (by decide) _ _ _ rfl (HKz.out.up ((below_drewN (Below.refl _ wr) 1).alloc (Nat.le_refl _) (.cells #[.string ⟨t.toArray⟩] 9 (0, 0)))) ⟨wr.heap.size, 0, none⟩ 1 1 [.string ⟨t.toArray⟩] rfl rfl ?_ ?_ (by omega) (by have := HJ.out; unfold maxLen; simp at this ⊢; omega) (by have := HJ.out; simp at this ⊢; omega) (by have := hbz.size; simp; omega) _ rfl ?_
                            · exact fun i u hu => one_newS i u hu
                            · intro u hu
                              simp at hu
                              rcases hu with rfl; rfl
                            intro g5 cp5 w5 hown5 hgrow5 hat5 hlt5; (have HE5 := app_end (t := t) (w := wr) (q := 1) (o := .cells #[.string ⟨t.toArray⟩] 9 (0, 0)) (below_join HBy.out hbz) (by have := hbz.size; omega) HKz.out hgrow5 hown5); have HE : Hid (KS V.heap.size w5 (some ⟨g5, 0, none⟩) cp5 (L ++ [t]) ∧ Below V.heap.size V w5) := HE5
                            clear HE5 hown5 hgrow5 hat5)
                         | (refine step_append_zero rfl _ _ 80 rfl 9 i0 Try.underlying80 hi wr.heap.size 0 1 1 rfl (by omega) _ _ rfl ?_)
                         | fail)
                      all_goals
                        clear hal' hLcI; go_wp2_with fail
                        go_roundg (r.length - (j + 1))
                        case measure => have := HG.out; have := HJ.out; omega
                        case rel => exact ⟨j + 1, some ⟨g5, 0, none⟩, cp5, L ++ [t], by have := HJ.out; omega, rfl, by go_num, by simp, HE.out.2, HE.out.1, by have := HJ.out; simp at this ⊢; omega, HRi.out, HT.out _ HMI.out⟩
                    · have hacn : ¬ cy = L.length := fun e => hcl e.symm
                      go_wp2_with fail
                      go_region_law
                        (first
                         | (refine step_append_lies _ rfl _ _ 80 rfl V.heap.size 9 i0 (.string ⟨#[]⟩) 1 16 Try.underlying80 hi hz0 hz1 hz2 rfl (by decide) _ _ _ rfl (HKz.out.up ((below_drewN (Below.refl _ wr) 1).alloc (Nat.le_refl _) (.cells #[.string ⟨t.toArray⟩] 9 (0, 0)))) ⟨wr.heap.size, 0, none⟩ 1 1 [.string ⟨t.toArray⟩] rfl rfl ?_ ?_ (by omega) (by have := HJ.out; unfold maxLen; simp at this ⊢; omega) (by have := HJ.out; simp at this ⊢; omega) (by have := hbz.size; simp; omega) _ rfl ?_
                            · exact fun i u hu => one_newS i u hu
                            · intro u hu
                              simp at hu
                              rcases hu with rfl; rfl
                            intro g5 cp5 w5 hown5 hgrow5 hat5 hlt5; (have HE5 := app_end (t := t) (w := wr) (q := 1) (o := .cells #[.string ⟨t.toArray⟩] 9 (0, 0)) (below_join HBy.out hbz) (by have := hbz.size; omega) HKz.out hgrow5 hown5); have HE : Hid (KS V.heap.size w5 (some ⟨g5, 0, none⟩) cp5 (L ++ [t]) ∧ Below V.heap.size V w5) := HE5
                            clear HE5 hown5 hgrow5 hat5)
                         | (refine step_append_zero rfl _ _ 80 rfl 9 i0 Try.underlying80 hi wr.heap.size 0 1 1 rfl (by omega) _ _ rfl ?_)
                         | fail)
                      all_goals
                        clear hal' hLcI; go_wp2_with fail
                        go_roundg (r.length - (j + 1))
                        case measure => have := HG.out; have := HJ.out; omega
                        case rel => exact ⟨j + 1, some ⟨g5, 0, none⟩, cp5, L ++ [t], by have := HJ.out; omega, rfl, by go_num, by simp, HE.out.2, HE.out.1, by have := HJ.out; simp at this ⊢; omega, HRi.out, HT.out _ HMI.out⟩
          · have hge : ¬ (j : Int) < (r.length : Int) := by omega
            (have HE9 : Hid (L = nmz r) := nmz_of ⟨HL.out.1, by have := HL.out.2; rwa [List.take_of_length_le (by omega)] at this⟩); have HSF : Hid (ShP w wr bm (c + 1) [] (shTr (tr.map nmz) cl u) none 0 adt cpt us) := HSV.out.up HBy.out; have HOF : Hid (SkO w wr N rel CS bO go gs cl) := HOV.out.up HBy.out; have HK9 : Hid (KS w.heap.size wr ad cy L) := ks_lowS HK.out HSV.out.below.size; obtain ⟨m0, m1, m2, f0, f1, f2⟩ := blk3 HSF.out.md; obtain ⟨trs, htrs⟩ : ∃ trs, trs = shTr (tr.map nmz) cl u := ⟨_, rfl⟩; rw [← htrs] at HSF m2 HTl9; have HTrs : Hid (trs = shTr (tr.map nmz) cl u) := htrs; have hn1 := HTl9.out; (have hn2 : trs.length ≤ 40 := by have := HC40.out; omega); obtain ⟨i1, hi0, hz0, hz1, hz2⟩ := infoTx; clear hlt hj htrs hn1 HSV HOV HBy HK HL hLj
            go_wp2_with (first
              | (at_builtin
                 have hsz := HSF.out.below.size; have hown := rowM_up HSF.out.tr ((Below.refl _ wr).alloc (Nat.le_refl _) (.cells #[.slice ad L.length cy] 80 (0, 0))); (refine wpList_append_lies _ rfl _ _ 28 rfl w.heap.size 80 i1 (.slice none 0 0) 1 24 Try.underlying28 hi0 hz0 hz1 hz2 rfl (by decide) (.slice adt trs.length cpt) trs.length us rfl hown ⟨wr.heap.size, 0, none⟩ 1 1 [.slice ad L.length cy] rfl rfl ?_ ?_ (by omega) (by unfold maxLen; omega) (by omega) (by simp; omega) _ rfl ?_)
                 · intro j u hu
                   rw [add_none, Nat.zero_add, blk_cell (blk_new wr _)]; simpa using hu
                 · intro u hu
                   simp at hu; subst hu; rfl
                 intro g3 cp3 w7 hown4 hgrow hat hlt3; have hgrow' : (wr.alloc (.cells #[.slice ad L.length cy] 80 (0, 0))).grownBy w7 (Value.slice adt trs.length cpt).ownBlock := hgrow; have hlow := World.ownsRow.lt HSF.out.tr; (have far : ∀ (b : Nat) (cur : Array Value) (T : TypeId), wr.heap[b]? = some (.cells cur T (0, 0)) → T ≠ 80 → w7.heap[b]? = wr.heap[b]? := fun b cur T hb hT => (hgrow'.block b (by have := lt_of_block hb; simp; omega) fun e2 => rowM_ne HSF.out.tr hb hT e2.symm).trans (Below.heap_alloc _ _ b (lt_of_block hb))); (have HM7 : Hid (w7.heap[bm]? = some (.cells #[.int .i64 ((c + 1 : Nat) : Int), .slice none 0 0, .slice adt trs.length cpt] 30 (0, 0))) := (far _ _ _ HSF.out.md (by decide)).trans HSF.out.md); (have HX7 : Hid (TxsAre w.heap.size w7 (us ++ [.slice ad L.length cy]) (trs ++ [L])) := TxsAre.snoc (HSF.out.tx.move fun g cur _ hh => far g cur _ hh (by decide)) (rowM_move HK9.out fun g cur _ hh => far g cur _ hh (by decide))); (have HB7 : Hid (Below w.heap.size w w7) := ((HSF.out.below.alloc hsz _).grown hgrow' (by simp; omega) fun k hk => by have := (hlow k hk).1; omega)); (have HO7 : Hid (SkO w w7 N rel CS bO go gs cl) := HOF.out.move (fun b cur T hb hT => far b cur T hb (by rcases hT with rfl | rfl <;> decide)) (far _ _ _ HOF.out.mo (by decide)) (far _ _ _ HOF.out.out (by decide))); have HR7 : Hid (w7.ownsRow w.heap.size 80 1 (.slice (some ⟨g3, 0, none⟩) (trs.length + 1) cp3) (trs.length + 1) (us ++ [.slice ad L.length cy])) := hown4; have v0 := blk_cell HM7.out 2; have v1 := blk_fz HM7.out 2; have v2 : w7.cell? ⟨bm, 2, none⟩ = some (.slice adt trs.length cpt) := v0
                 clear hgrow hgrow' hat hown4 hown hsz hlt3 hi0 hz0 hz1 hz2 hlow far v0)
              | fail)
            obtain ⟨E7, hE7⟩ : ∃ E7, E7 = w7.setCell ⟨bm, 2, none⟩ (.slice (some ⟨g3, 0, none⟩) (trs.length + 1) cp3) := ⟨_, rfl⟩; rw [← hE7]; (have hfar := fun b cur T hb hT => far_model (i := 2) HM7.out (.slice (some ⟨g3, 0, none⟩) (trs.length + 1) cp3) b cur T hb hT)
            have htr : shTr (tr.map nmz) cl (u + 1) = trs ++ [L] := by
              rw [HE9.out, HTrs.out, shTr, shTr, HF9.out, List.map_append, ← HRu.out]; rfl
            (have htl : (trs ++ [L]).length = trs.length + 1 := by simp)
            have HSn : Hid (ShP w E7 bm (extK [] (cl.take (u + 1))).length [] (shTr (tr.map nmz) cl (u + 1)) none 0 (some ⟨g3, 0, none⟩) cp3 (us ++ [.slice ad L.length cy])) := by
              show ShP _ _ _ _ _ _ _ _ _ _ _; rw [HG9.out, htr, hE7]; (refine ⟨?_, ⟨rfl, Or.inl ⟨rfl, rfl⟩⟩, ?_, HX7.out.move fun g cur _ hh => hfar g cur _ hh (by decide), HB7.out.setCell (p := ⟨bm, 2, none⟩) (by have := Hbm.out; have := HbO.out; simp; omega) _⟩)
              · rw [htl, blk_setS HM7.out]
                rfl
              · rw [htl]
                (exact rowM_move HR7.out fun g cur _ hh => hfar g cur _ hh (by decide))
            (have HOf : Hid (SkO w E7 N rel CS bO go gs cl) := by rw [hE7]; exact HO7.out.setM HM7.out (by have := Hbm.out; have := HbO.out; omega) (by have := Hbm.out; omega) _); clear hE7 hfar htr htl; go_wp2_with fail
            go_roundg (N - (u + 1))
            case measure => have := HGk.out; have := HU.out; omega
            case rel => exact ⟨u + 1, some ⟨g3, 0, none⟩, cp3, us ++ [.slice ad L.length cy], HU.out, rfl, by go_num, HSn, HOf⟩
    · obtain rfl : N = u := by omega
      (have hge : ¬ (N : Int) < (N : Int) := by omega); (have htk : cl.take N = cl := List.take_of_length_le (by rw [HLen.out]; exact Nat.le_refl _)); obtain ⟨m0, m1, m2, f0, f1, f2⟩ := blk3 HS.out.md; obtain ⟨C, hC⟩ : ∃ C, C = (extK [] cl).length := ⟨_, rfl⟩; have HCe : Hid ((extK [] cl).length = C) := hC.symm
      have hC40 : C ≤ 40 := by
        have h1 := extK_len cl ([] : List Nat); have h2 := HLen.out; have h3 := HN.out; simp at h1; omega
      have HC40 : Hid (C ≤ 40) := hC40; (have hCI : (C : Int) ≤ 40 := by omega); obtain ⟨trs, htrs⟩ : ∃ trs, trs = shTr (tr.map nmz) cl N := ⟨_, rfl⟩; rw [htk, ← hC, ← htrs] at HS; have HTrs : Hid (trs = shTr (tr.map nmz) cl N) := htrs; have HS0 : Hid (ShP w wr bm C (relT N rel cl C 0) trs none 0 adt cpt us) := HS.out; clear hlt hu htk hC htrs hC40 m0 m1 m2 f0 f1 f2 HS; go_wp2_with fail; clear k0 k1 k2
      go_loopg [11, 12, 13, 14, 15] C (fun gg y11 y12 y13 y14 y15 wz => ∃ a adr cpr, a ≤ C ∧ gg = C - a ∧ y11 = .int .i64 (a : Nat) ∧ Hid (ShP w wz bm C (relT N rel cl C a) trs adr cpr adt cpt us) ∧ Hid (SkO w wz N rel CS bO go gs cl))
      case atStart => exact ⟨0, none, 0, by omega, by omega, rfl, HS0, HO⟩
      case round =>
        clear HS0 HO HGk; obtain ⟨a, adr, cpr, ha, hg, rfl, HS4, HO4⟩ := hrel; have HGa : Hid (gk = C - a) := hg; clear hg; obtain ⟨m0, m1, m2, f0, f1, f2⟩ := blk3 HS4.out.md; by_cases hlt : a < C
        · have hltI : (a : Int) < (C : Int) := by omega
          have HA : Hid (a < C) := hlt; (have haI : (a : Int) ≤ 40 := by omega)
          have HS5 : Hid (ShP w wr bm C (relT N rel cl C a ++ rowT N rel cl a 0) trs adr cpr adt cpt us) := by
            show ShP _ _ _ _ _ _ _ _ _ _ _; rw [show rowT N rel cl a 0 = [] from rfl, List.append_nil]; exact HS4.out
          have HRl : Hid ((relT N rel cl C a).length ≤ 1600) := by
            have h1 := relT_len N rel cl C a; (have h2 : a * C ≤ 40 * 40 := Nat.mul_le_mul (by have := HC40.out; omega) HC40.out); show _ ≤ _; omega
          go_wp2_with fail; clear m0 m1 m2 f0 f1 f2 hlt ha HS4
          go_loopg [12, 13, 14, 15] C (fun gg y12 y13 y14 y15 wz => ∃ b adr cpr, b ≤ C ∧ gg = C - b ∧ y12 = .int .i64 (b : Nat) ∧ Hid (ShP w wz bm C (relT N rel cl C a ++ rowT N rel cl a b) trs adr cpr adt cpt us) ∧ Hid (SkO w wz N rel CS bO go gs cl))
          case atStart => exact ⟨0, adr, cpr, by omega, by omega, rfl, HS5, HO4⟩
          case round =>
            clear HS5 HO4 adr cpr; obtain ⟨b, adr, cpr, hb, hg, rfl, HSb, HOb⟩ := hrel; have HGb : Hid (gk = C - b) := hg; clear hg; obtain ⟨m0, m1, m2, f0, f1, f2⟩ := blk3 HSb.out.md; by_cases hlt : b < C
            · have hltb : (b : Int) < (C : Int) := by omega
              have HBb : Hid (b < C) := hlt; (have hbI : (b : Int) ≤ 40 := by omega); clear hlt hb; obtain ⟨W5, hW5⟩ : ∃ W5, W5 = wr := ⟨_, rfl⟩; subst hW5; go_wp2_with fail; obtain ⟨k0, k1, k2, -⟩ := blk3 (HOb.out.mo.trans HCs.out)
              go_loopg [13, 14, 15] N (fun gg y13 y14 y15 wz => ∃ u, u ≤ N ∧ gg = N - u ∧ y13 = .bool (tiesK N rel cl a b u) ∧ y14 = .int .i64 (u : Nat) ∧ W5 = wz)
              case atStart => exact ⟨0, by omega, by omega, rfl, rfl, rfl⟩
              case round =>
                obtain ⟨u, hu, hg, rfl, rfl, hw5⟩ := hrel; subst hw5; have HGu : Hid (gk = N - u) := hg; clear hg; by_cases hlt : u < N
                · have hltu : (u : Int) < (N : Int) := by omega
                  have HU : Hid (u < N) := hlt; obtain ⟨au, cpu, hcu, hl1, hl2, hcs⟩ := HOb.out.sn.row hlt
                  have HCs9 : Hid (∀ (j k : Nat), (seenTo N rel u N)[j]? = some k → ∃ b, au = some ⟨b, 0, none⟩ ∧ W5.cell? ⟨b, j, none⟩ = some (.int .i64 (k : Nat))) := fun j k hj => by
                    (obtain ⟨b, e, h⟩ := hcs (Nat.lt_of_le_of_lt (Nat.zero_le j) (by have := List.getElem?_eq_some_iff.1 hj; exact this.1))); exact ⟨b, e, h j k hj⟩
                  (have HMu : Hid (∀ x ∈ seenTo N rel u N, x < N) := fun x hx => ((seen_mem HIn.out).1 hx).1); (have hlu : ((seenTo N rel u N).length : Int) ≤ 40 := by have := seen_len (rel := rel) (N := N) u; omega); (have hcuI : ((seenTo N rel u N).length : Int) ≤ (cpu : Int) := by omega); (have HTs : Hid (tiesK N rel cl a b (u + 1) = (tiesK N rel cl a b u || (seenTo N rel u N).any fun v => cl.getD u 0 == a && cl.getD v 0 == b)) := tiesK_succ N rel cl a b u); (obtain ⟨cu, hcu9⟩ : ∃ c, cl[u]? = some c := ⟨_, List.getElem?_eq_getElem (by rw [HLen.out]; exact hlt)⟩); (have hgu : cl.getD u 0 = cu := by rw [List.getD_eq_getElem?_getD, hcu9]; rfl); rw [hgu] at HTs; obtain ⟨cur, hcur⟩ := HOb.out.cls; have hcell : W5.cell? ⟨go, u, none⟩ = some (.int .i64 (cu : Nat)) := hcur.cell (hcur.each u cu hlt hcu9)
                  have HCl : Hid (∀ k < N, W5.cell? ⟨go, k, none⟩ = some (.int .i64 (cl.getD k 0 : Nat))) := fun k hk => by
                    (obtain ⟨ck, hck⟩ : ∃ c, cl[k]? = some c := ⟨_, List.getElem?_eq_getElem (by rw [HLen.out]; exact hk)⟩); rw [List.getD_eq_getElem?_getD, hck]; exact hcur.cell (hcur.each k ck hk hck)
                  generalize seenTo N rel u N = su at *; generalize tiesK N rel cl a b u = B0 at *; clear hlt hu hl1 hl2 hcs hcu9 hgu hcur; go_wp2_with fail
                  go_loopg [13, 15] su.length (fun gg y13 y15 wz => ∃ i, i ≤ su.length ∧ gg = su.length - i ∧ y13 = .bool (B0 || (su.take i).any fun v => cu == a && cl.getD v 0 == b) ∧ y15 = .int .i64 (i : Nat) ∧ W5 = wz)
                  case atStart => exact ⟨0, by omega, by omega, by simp, rfl, rfl⟩
                  case round =>
                    obtain ⟨i, hi, hg, rfl, rfl, hw5⟩ := hrel; subst hw5; have HGi : Hid (gk = su.length - i) := hg; clear hg; by_cases hlt : i < su.length
                    · have hlti : (i : Int) < (su.length : Int) := by omega
                      (have hltc : (i : Int) < (cpu : Int) := by omega); have HI : Hid (i < su.length) := hlt; obtain ⟨k, hk⟩ : ∃ k, su[i]? = some k := ⟨_, List.getElem?_eq_getElem hlt⟩; obtain ⟨bu, rfl, hck⟩ := HCs9.out i k hk; have hkN := HMu.out k (List.mem_of_getElem? hk); (have hkI : (k : Int) < (N : Int) := by omega); have hcl := HCl.out k hkN; generalize hqk : cl.getD k 0 = ck at hcl
                      have HTn : Hid ((B0 || (su.take (i + 1)).any fun v => cu == a && cl.getD v 0 == b) = ((B0 || (su.take i).any fun v => cu == a && cl.getD v 0 == b) || (cu == a && ck == b))) := by
                        show _ = _; rw [List.take_add_one, hk, List.any_append, Option.toList_some, List.any_cons, List.any_nil, Bool.or_false, hqk, Bool.or_assoc]
                      (generalize (B0 || (su.take i).any fun v => cu == a && cl.getD v 0 == b) = B1 at *); clear hlt hi hk hkN hqk
                      cases B1 with
                      | true =>
                        rw [Bool.true_or] at HTn; go_wp2_with fail
                        go_roundg (su.length - (i + 1))
                        case measure => have := HGi.out; have := HI.out; omega
                        case rel => exact ⟨i + 1, HI.out, rfl, by rw [HTn.out], by go_num, rfl⟩
                      | false =>
                        rw [Bool.false_or] at HTn; by_cases hqa : cu = a
                        · subst hqa
                          by_cases hqb : ck = b
                          · subst hqb
                            go_wp2_with fail
                            go_roundg (su.length - (i + 1))
                            case measure => have := HGi.out; have := HI.out; omega
                            case rel => exact ⟨i + 1, HI.out, rfl, by rw [HTn.out]; simp, by go_num, rfl⟩
                          · have hqI : ¬ (ck : Int) = (b : Int) := by omega
                            have HQb : Hid (ck ≠ b) := hqb; go_wp2_with fail
                            go_roundg (su.length - (i + 1))
                            case measure => have := HGi.out; have := HI.out; omega
                            case rel => exact ⟨i + 1, HI.out, rfl, by rw [HTn.out, beq_self_eq_true, Bool.true_and, beq_eq_false_iff_ne.2 HQb.out, beq_eq_false_iff_ne.2 (show ¬ (ck : Int) = (b : Int) by have := HQb.out; omega)], by go_num, rfl⟩
                        · have hqI : ¬ (cu : Int) = (a : Int) := by omega
                          have HQa : Hid (cu ≠ a) := hqa; go_wp2_with fail
                          go_roundg (su.length - (i + 1))
                          case measure => have := HGi.out; have := HI.out; omega
                          case rel => exact ⟨i + 1, HI.out, rfl, by rw [HTn.out, beq_eq_false_iff_ne.2 HQa.out, Bool.false_and], by go_num, rfl⟩
                    · have hge7 : ¬ (i : Int) < (su.length : Int) := by omega
                      (rw [List.take_of_length_le (by omega), ← HTs.out]); clear hlt hi; go_wp2_with fail
                      go_roundg (N - (u + 1))
                      case measure => have := HGu.out; have := HU.out; omega
                      case rel => exact ⟨u + 1, HU.out, rfl, rfl, by go_num, rfl⟩
                · obtain rfl : N = u := by omega
                  (have hge6 : ¬ (N : Int) < (N : Int) := by omega); have HRs := rowT_succ N rel cl a b; clear hlt hu
                  cases hB : tiesK N rel cl a b N with
                  | true =>
                    rw [hB, if_pos rfl] at HRs; obtain ⟨rk, hrk⟩ : ∃ rk, rk = relT N rel cl C a ++ rowT N rel cl a b := ⟨_, rfl⟩
                    have HRk : Hid (relT N rel cl C a ++ rowT N rel cl a (b + 1) = rk ++ [((a : Int), ((b : Nat) : Int))]) := by
                      show _ = _; rw [HRs, ← List.append_assoc, ← hrk]
                    have hrk9 : rk.length ≤ 1700 := by
                      rw [hrk, List.length_append]; have := HRl.out; have := rowT_len N rel cl a b; have := HBb.out; have := HC40.out; omega
                    rw [← hrk] at HSb m1; (have hrI : (rk.length : Int) ≤ 1700 := by omega); clear HRs hrk; obtain ⟨i1, hi0, hz0, hz1, hz2⟩ := infoPr
                    go_wp2_with (first
                      | (at_builtin
                         have hsz := HSb.out.below.size; have hown := rowM_up HSb.out.rl ((Below.refl _ W5).alloc (Nat.le_refl _) (.cells #[.int .i64 (a : Nat), .int .i64 (b : Nat)] 42 (0, 0))); (refine wpList_append_lies _ rfl _ _ 27 rfl w.heap.size 42 i1 (.agg #[.int .i64 0, .int .i64 0]) 2 16 Try.underlying27 hi0 hz0 hz1 hz2 rfl (by decide) (.slice adr rk.length cpr) rk.length (encP rk) rfl hown ⟨W5.heap.size, 0, none⟩ 1 1 [.int .i64 (a : Nat), .int .i64 (b : Nat)] rfl rfl ?_ ?_ (by omega) (by unfold maxLen; omega) (by omega) (by simp; omega) _ rfl ?_)
                         · intro j u hu
                           rw [add_none, Nat.zero_add, blk_cell (blk_new W5 _)]; simpa using hu
                         · intro u hu
                           simp at hu
                           rcases hu with rfl | rfl <;> rfl
                         intro g4 cp4 w7 hown4 hgrow hat hlt3; have hgrow' : (W5.alloc (.cells #[.int .i64 (a : Nat), .int .i64 (b : Nat)] 42 (0, 0))).grownBy w7 (Value.slice adr rk.length cpr).ownBlock := hgrow; have hlow := World.ownsRow.lt HSb.out.rl; (have far : ∀ (b : Nat) (cur : Array Value) (T : TypeId), W5.heap[b]? = some (.cells cur T (0, 0)) → T ≠ 42 → w7.heap[b]? = W5.heap[b]? := fun b cur T hb hT => (hgrow'.block b (by have := lt_of_block hb; simp; omega) fun e2 => rowM_ne HSb.out.rl hb hT e2.symm).trans (Below.heap_alloc _ _ b (lt_of_block hb))); (have HM7 : Hid (w7.heap[bm]? = some (.cells #[.int .i64 (C : Nat), .slice adr rk.length cpr, .slice adt trs.length cpt] 30 (0, 0))) := (far _ _ _ HSb.out.md (by decide)).trans HSb.out.md); (have HT7 : Hid (w7.ownsRow w.heap.size 80 1 (.slice adt trs.length cpt) trs.length us) := rowM_move HSb.out.tr fun g cur _ hh => far g cur _ hh (by decide)); (have HX7 : Hid (TxsAre w.heap.size w7 us trs) := HSb.out.tx.move fun g cur _ hh => far g cur _ hh (by decide)); (have HB7 : Hid (Below w.heap.size w w7) := ((HSb.out.below.alloc hsz _).grown hgrow' (by simp; omega) fun k hk => by have := (hlow k hk).1; omega)); (have HO7 : Hid (SkO w w7 N rel CS bO go gs cl) := HOb.out.move (fun b cur T hb hT => far b cur T hb (by rcases hT with rfl | rfl <;> decide)) (far _ _ _ HOb.out.mo (by decide)) (far _ _ _ HOb.out.out (by decide))); have HR7 : Hid (w7.ownsRow w.heap.size 42 2 (.slice (some ⟨g4, 0, none⟩) (rk.length + 1) cp4) (rk.length + 1) (encP rk ++ [.int .i64 (a : Nat), .int .i64 (b : Nat)])) := hown4; have v0 := blk_cell HM7.out 1; have v1 := blk_fz HM7.out 1; have v2 : w7.cell? ⟨bm, 1, none⟩ = some (.slice adr rk.length cpr) := v0
                         clear hgrow hgrow' hat hown4 hown hsz hlt3 hi0 hz0 hz1 hz2 hlow far v0)
                      | fail)
                    obtain ⟨E7, hE7⟩ : ∃ E7, E7 = w7.setCell ⟨bm, 1, none⟩ (.slice (some ⟨g4, 0, none⟩) (rk.length + 1) cp4) := ⟨_, rfl⟩; rw [← hE7]; (have hfar := fun b cur T hb hT => far_model (i := 1) HM7.out (.slice (some ⟨g4, 0, none⟩) (rk.length + 1) cp4) b cur T hb hT); (have hlr : (rk ++ [((a : Int), ((b : Nat) : Int))]).length = rk.length + 1 := by simp)
                    have HSf : Hid (ShP w E7 bm C (relT N rel cl C a ++ rowT N rel cl a (b + 1)) trs (some ⟨g4, 0, none⟩) cp4 adt cpt us) := by
                      show ShP _ _ _ _ _ _ _ _ _ _ _; rw [HRk.out, hE7]; (refine ⟨?_, ?_, rowM_move HT7.out fun g cur _ hh => hfar g cur _ hh (by decide), HX7.out.move fun g cur _ hh => hfar g cur _ hh (by decide), HB7.out.setCell (p := ⟨bm, 1, none⟩) (by have := Hbm.out; have := HbO.out; simp; omega) _⟩)
                      · rw [hlr, blk_setS HM7.out]
                        rfl
                      · rw [hlr, encP_app]
                        (exact rowM_move HR7.out fun g cur _ hh => hfar g cur _ hh (by decide))
                    (have HOf : Hid (SkO w E7 N rel CS bO go gs cl) := by rw [hE7]; exact HO7.out.setM HM7.out (by have := Hbm.out; have := HbO.out; omega) (by have := Hbm.out; omega) _); clear hE7 hfar hlr; go_wp2_with fail
                    go_roundg (C - (b + 1))
                    case measure => have := HGb.out; have := HBb.out; omega
                    case rel => exact ⟨b + 1, some ⟨g4, 0, none⟩, cp4, HBb.out, rfl, by go_num, HSf, HOf⟩
                  | false =>
                    (rw [hB, if_neg (by decide), List.append_nil] at HRs)
                    have HSn : Hid (ShP w W5 bm C (relT N rel cl C a ++ rowT N rel cl a (b + 1)) trs adr cpr adt cpt us) := by
                      show ShP _ _ _ _ _ _ _ _ _ _ _; rw [HRs]; exact HSb.out
                    clear HRs hB; go_wp2_with fail
                    go_roundg (C - (b + 1))
                    case measure => have := HGb.out; have := HBb.out; omega
                    case rel => exact ⟨b + 1, adr, cpr, HBb.out, rfl, by go_num, HSn, HOb⟩
            · obtain rfl : C = b := by omega
              (have hge5 : ¬ (C : Int) < (C : Int) := by omega)
              have HSn : Hid (ShP w wr bm C (relT N rel cl C (a + 1)) trs adr cpr adt cpt us) := by
                show ShP _ _ _ _ _ _ _ _ _ _ _; rw [relT_succ]; exact HSb.out
              clear hlt hb; go_wp2_with fail
              go_roundg (C - (a + 1))
              case measure => have := HGa.out; have := HA.out; omega
              case rel => exact ⟨a + 1, adr, cpr, HA.out, rfl, by go_num, HSn, HOb⟩
        · obtain rfl : C = a := by omega
          (have hge4 : ¬ (C : Int) < (C : Int) := by omega); obtain ⟨o0, o1, o2, g0, g1, g2⟩ := blk3 HO4.out.out; obtain ⟨rl, hrl⟩ : ∃ rl, rl = relT N rel cl C C := ⟨_, rfl⟩; rw [← hrl] at HS4 m1
          have HRl : Hid (rl = shRel N (relB rel) cl N) := by
            have := HRT.out; rw [HCe.out] at this; exact hrl.trans this
          clear hlt ha hrl; go_wp2_with fail; obtain ⟨E, hE⟩ : ∃ E, E = ((wr.setCell ⟨bO, 0, none⟩ (.int .i64 (C : Nat))).setCell ⟨bO, 1, none⟩ (.slice adr rl.length cpr)).setCell ⟨bO, 2, none⟩ (.slice adt trs.length cpt) := ⟨_, rfl⟩; rw [← hE]; (have hEy : E.heap[bO]? = some (.cells #[.int .i64 (C : Nat), .slice adr rl.length cpr, .slice adt trs.length cpt] 30 (0, 0)) := by rw [hE]; exact set3M HO4.out.out _ _ _); (have hoth : ∀ b, b ≠ bO → E.heap[b]? = wr.heap[b]? := fun b hb => by rw [hE, blk_otherS _ hb, blk_otherS _ hb, blk_otherS _ hb])
          have hfar : ∀ (b : Nat) (cur : Array Value) (T : TypeId), wr.heap[b]? = some (.cells cur T (0, 0)) → T ≠ 30 → E.heap[b]? = wr.heap[b]? := fun b cur T hb hT => hoth b fun e => by
            rw [e, HO4.out.out] at hb; simp only [Option.some.injEq, Obj.cells.injEq] at hb; exact hT hb.2.1.symm
          have hEB : Below w.heap.size w E := by
            rw [hE]; have hb := HbO.out; (exact ((HS4.out.below.setCell (p := ⟨bO, 0, none⟩) (by simp; omega) _).setCell (p := ⟨bO, 1, none⟩) (by simp; omega) _).setCell (p := ⟨bO, 2, none⟩) (by simp; omega) _)
          have HMR : Hid (MRo w.heap.size E ⟨((extK [] cl).length : Nat), shRel N (relB rel) cl N, shTr (tr.map nmz) cl N⟩ (.agg #[.int .i64 (C : Nat), .slice adr rl.length cpr, .slice adt trs.length cpt])) := by
            show MRo _ _ _ _; rw [← HRl.out, ← HTrs.out, HCe.out]; (refine ⟨adr, cpr, adt, cpt, us, rfl, rowM_move HS4.out.rl fun g cur _ hh => hfar g cur _ hh (by decide), rowM_move HS4.out.tr fun g cur _ hh => hfar g cur _ hh (by decide), HS4.out.tx.move fun g cur _ hh => hfar g cur _ hh (by decide), fun l hl t ht => ?_⟩); rw [HTrs.out, shTr] at hl; obtain ⟨q, -, rfl⟩ := List.mem_map.1 hl; unfold nmAt at ht; rw [List.getD_eq_getElem?_getD, List.getElem?_map] at ht
            cases hq : tr[q]? with
            | none => rw [hq] at ht; cases ht
            | some r =>
              rw [hq] at ht; have := nm8 ((HNm.out r (List.mem_of_getElem? hq)).2 t ((nmz_memI r t).1 ht)); unfold maxLen; omega
          clear hfar hoth m0 m1 m2 o0 o1 o2 f0 f1 f2 g0 g1 g2; obtain ⟨j0, j1, j2, -⟩ := blk3 hEy; (refine bodyPost_ret (v := .agg #[.int .i64 (C : Nat), .slice adr rl.length cpr, .slice adt trs.length cpt]) (by clear hE; simp [results, Try.results23, go_sem, j0, j1, j2]) rfl ⟨_, rfl, HMR.out, hEB⟩)
end Go.Proofs.Ytclinobfbdljhah
/- Walks: noModel at the empty model. -/
namespace Go.Proofs.Ytclinobfbdljhah
open Go.RowKit

set_option maxRecDepth 10000 in
set_option maxHeartbeats 4000000 in
theorem noModel_yes (w : World) :
    Calls Try.prog 21 #[.agg #[.int .i64 0, .slice none 0 0, .slice none 0 0]] w fun e w' => e = .returned (.bool true) ∧ Below w.heap.size w w' := by
  obtain ⟨W, hW⟩ : ∃ W, W = w.alloc (.cells #[.int .i64 0, .slice none 0 0, .slice none 0 0] 30 (0, 0)) := ⟨_, rfl⟩; (have HB0 : Hid (Below w.heap.size w W) := by rw [hW]; exact below_more (Below.refl _ w) _); (have HX : Hid (W.heap[w.heap.size]? = some (.cells #[.int .i64 0, .slice none 0 0, .slice none 0 0] 30 (0, 0))) := by rw [hW]; exact blk_new _ _); obtain ⟨q0, q1, q2, -⟩ := blk3 HX.out
  go_enter Try.func21, Try.ntmps21
  go_upto_region 1 with fail
  rw [← hW]; clear hW; go_wp2_with fail; go_ret; exact ⟨rfl, HB0.out⟩
end Go.Proofs.Ytclinobfbdljhah
/- Plain: what is true at a class is true at its worlds; the shrunk model's own facts. -/
namespace Go.Proofs.Ytclinobfbdljhah
open Go.RowKit

mutual
/-- A map that keeps names and goes to and fro along what is seen keeps what is true. -/
theorem mtv_morph {S T : Nat → List Nat} {p q : Nat → List UInt8 → Bool} {N : Nat} {h : Nat → Nat} (hS : ∀ u, u < N → ∀ v ∈ S u, v < N ∧ h v ∈ T (h u)) (hT : ∀ u, u < N → ∀ b ∈ T (h u), ∃ v ∈ S u, h v = b) (hp : ∀ u s, u < N → p u s = q (h u) s) : ∀ (f : Fm) (u : Nat), u < N → mtv S p f u = mtv T q f (h u)
  | .mk k n ks, u, hu => by
    have h0 := mtvs_morph hS hT hp ks 0; have h1 := mtvs_morph hS hT hp ks 1; rw [mtv, mtv]; unfold mval
    have ha : (S u).all ((mtvs S p ks).getD 0 fun _ => false) = (T (h u)).all ((mtvs T q ks).getD 0 fun _ => false) := by
      rw [Bool.eq_iff_iff, List.all_eq_true, List.all_eq_true]; (refine ⟨fun g b hb => ?_, fun g v hv => ?_⟩)
      · obtain ⟨v, hv, e⟩ := hT u hu b hb
        rw [← e, ← h0 v (hS u hu v hv).1]; exact g v hv
      · rw [h0 v (hS u hu v hv).1]
        exact g _ (hS u hu v hv).2
    have hb : (S u).any ((mtvs S p ks).getD 0 fun _ => false) = (T (h u)).any ((mtvs T q ks).getD 0 fun _ => false) := by
      rw [Bool.eq_iff_iff, List.any_eq_true, List.any_eq_true]; (refine ⟨fun ⟨v, hv, g⟩ => ⟨h v, (hS u hu v hv).2, ?_⟩, fun ⟨b, hb, g⟩ => ?_⟩)
      · rw [← h0 v (hS u hu v hv).1]
        exact g
      · obtain ⟨v, hv, e⟩ := hT u hu b hb
        refine ⟨v, hv, ?_⟩; rw [h0 v (hS u hu v hv).1, e]; exact g
    rw [ha, hb, h0 u hu, h1 u hu]; by_cases hk : k = 1
    · rw [if_pos hk, if_pos hk]; exact hp u _ hu
    · rw [if_neg hk, if_neg hk]
theorem mtvs_morph {S T : Nat → List Nat} {p q : Nat → List UInt8 → Bool} {N : Nat} {h : Nat → Nat} (hS : ∀ u, u < N → ∀ v ∈ S u, v < N ∧ h v ∈ T (h u)) (hT : ∀ u, u < N → ∀ b ∈ T (h u), ∃ v ∈ S u, h v = b) (hp : ∀ u s, u < N → p u s = q (h u) s) : ∀ (fs : List Fm) (i u : Nat), u < N → (mtvs S p fs).getD i (fun _ => false) u = (mtvs T q fs).getD i (fun _ => false) (h u)
  | [], i, u, _ => by rw [mtvs, mtvs]; simp
  | f :: fs, i, u, hu => by
    rw [mtvs, mtvs]
    cases i with
    | zero => simpa using mtv_morph hS hT hp f u hu
    | succ i => simpa using mtvs_morph hS hT hp fs i u hu
end
/-- What a model's classes are known by. -/
structure ClsP (N : Nat) (rel : List (Int × Int)) (tr : List (List (List UInt8))) (cl : List Nat) : Prop where
  len : cl.length = N
  lt : ∀ n ∈ cl, n < N
  num : numK cl = cl
  cov : ∀ u v, u < N → v < N → cl.getD u 0 = cl.getD v 0 → ∀ x, x < N → relB rel u x = true → ∃ y, y < N ∧ relB rel v y = true ∧ cl.getD x 0 = cl.getD y 0
  nms : ∀ u v, u < N → v < N → cl.getD u 0 = cl.getD v 0 → nmAt (tr.map nmz) u = nmAt (tr.map nmz) v
theorem nmAt_map (tr : List (List (List UInt8))) {u : Nat} (hu : u < tr.length) : nmAt (tr.map nmz) u = nmz (nmAt tr u) := by
  rw [nmAt, nmAt, List.getD_eq_getElem?_getD, List.getD_eq_getElem?_getD, List.getElem?_map, List.getElem?_eq_getElem hu]; rfl
theorem cls_p {N : Nat} {rel : List (Int × Int)} {tr : List (List (List UInt8))} (htl : tr.length = N) (hnm : ∀ l ∈ tr, ∀ t ∈ l, isNm t = true) : ClsP N rel tr (clsK N (relB rel) (tr.map nmz)) := by
  (have hl0 : (byN (tr.map nmz)).length = N := by rw [byN_len, List.length_map, htl]); (have hlt0 : ∀ n ∈ byN (tr.map nmz), n < N := fun n hn => by have := byN_lt n hn; rwa [List.length_map, htl] at this); (refine ⟨levK_len hl0 _, levK_lt hlt0 _, levK_num (by rw [byN]; exact numK_idem _) _, fun u v hu hv e x hx hr => cls_cov htl hu hv e x hx hr, fun u v hu hv e => ?_⟩); have h1 := (AlM.start (R := relB rel) htl hnm).low u v hu hv e; (rw [nmAt_map tr (by omega), nmAt_map tr (by omega)]); exact nmz_eq.2 h1
theorem firsts_lt {cl : List Nat} {N f : Nat} (h : f ∈ firsts cl N) : f < N := by
  unfold firsts at h; exact List.mem_range.1 (List.mem_filter.1 h).1
/-- The first world of a class. -/
theorem first_of {N : Nat} {rel : List (Int × Int)} {tr : List (List (List UInt8))} {cl : List Nat} (P : ClsP N rel tr cl) {a : Nat} (ha : a < (extK [] cl).length) : ∃ f, (firsts cl N)[a]? = some f ∧ f < N ∧ cl.getD f 0 = a := by
  (have htk : cl.take N = cl := List.take_of_length_le (by have := P.len; omega)); (have hf := firsts_cls P.num (u := N) (by have := P.len; omega)); rw [htk] at hf
  have hl : (firsts cl N).length = (extK [] cl).length := by
    have := congrArg List.length hf; simpa using this
  (obtain ⟨f, hff⟩ : ∃ f, (firsts cl N)[a]? = some f := ⟨_, List.getElem?_eq_getElem (by omega)⟩); refine ⟨f, hff, firsts_lt (List.mem_of_getElem? hff), ?_⟩; (have h1 := congrArg (fun l => l[a]?) hf); simp only [List.getElem?_map, hff, List.getElem?_range ha, Option.map_some] at h1; exact Option.some.inj h1
/-- Who sees whom in the shrunk model. -/
theorem shRel_mem {N : Nat} {rel : List (Int × Int)} {tr : List (List (List UInt8))} {cl : List Nat} (P : ClsP N rel tr cl) {u b : Nat} (hu : u < N) : relB (shRel N (relB rel) cl N) (cl.getD u 0) b = true ↔ ∃ v, v < N ∧ relB rel u v = true ∧ cl.getD v 0 = b := by
  have hcu : cl.getD u 0 < (extK [] cl).length := by
    (obtain ⟨c, hc⟩ : ∃ c, cl[u]? = some c := ⟨_, List.getElem?_eq_getElem (by have := P.len; omega)⟩); rw [getD_of hc]; exact cls_small P.num hc
  rw [relB, List.contains_iff_mem, shRel, List.mem_flatMap]
  constructor
  · rintro ⟨f, hf, hm⟩
    rw [relsK, List.mem_map] at hm; obtain ⟨b', hb', e⟩ := hm; rw [memTo, List.mem_filter] at hb'; simp only [Prod.mk.injEq] at e; (have e1 : cl.getD f 0 = cl.getD u 0 := by omega); (have e2 : b' = b := by omega); subst e2; obtain ⟨x, hx, hr, hc⟩ := sees_iff.1 hb'.2; obtain ⟨y, hy, hr2, hc2⟩ := P.cov f u (firsts_lt hf) hu e1 x hx hr; (exact ⟨y, hy, hr2, by rw [← hc2]; exact hc⟩)
  · rintro ⟨v, hv, hr, rfl⟩
    obtain ⟨f, hf, hfN, hfc⟩ := first_of P hcu; refine ⟨f, List.mem_of_getElem? hf, ?_⟩; obtain ⟨y, hy, hr2, hc2⟩ := P.cov u f hu hfN hfc.symm v hv hr; rw [relsK, List.mem_map]; (refine ⟨cl.getD v 0, ?_, by rw [hfc]⟩); rw [memTo, List.mem_filter, List.mem_range]; exact ⟨getD_lt P.len P.lt hv, sees_iff.2 ⟨y, hy, hr2, hc2.symm⟩⟩
theorem shTr_at {N : Nat} {rel : List (Int × Int)} {tr : List (List (List UInt8))} {cl : List Nat} (P : ClsP N rel tr cl) {u : Nat} (hu : u < N) : nmAt (shTr (tr.map nmz) cl N) (cl.getD u 0) = nmAt (tr.map nmz) u := by
  have hcu : cl.getD u 0 < (extK [] cl).length := by
    (obtain ⟨c, hc⟩ : ∃ c, cl[u]? = some c := ⟨_, List.getElem?_eq_getElem (by have := P.len; omega)⟩); rw [getD_of hc]; exact cls_small P.num hc
  obtain ⟨f, hf, hfN, hfc⟩ := first_of P hcu; rw [shTr]
  conv => lhs; rw [nmAt, List.getD_eq_getElem?_getD, List.getElem?_map, hf]
  exact P.nms f u hfN hu hfc
end Go.Proofs.Ytclinobfbdljhah
/- Plain: the shrunk model shrinks no more. -/
namespace Go.Proofs.Ytclinobfbdljhah
open Go.RowKit

/-- Numbers that differ are numbered by their places. -/
theorem range_of {cl : List Nat} {C : Nat} (hn : numK cl = cl) (hl : cl.length = C) (hi : ∀ a b, a < C → b < C → cl.getD a 0 = cl.getD b 0 → a = b) : cl = List.range C := by
  have hno : ∀ u c, cl[u]? = some c → c ∉ cl.take u := fun u c hc hm => by
    (have hu : u < C := by have := (List.getElem?_eq_some_iff.1 hc).1; omega); obtain ⟨j, hj⟩ := List.getElem?_of_mem hm
    have hju : j < u := by
      rcases Nat.lt_or_ge j u with h | h
      · exact h
      · rw [List.getElem?_take_eq_none h] at hj; cases hj
    rw [List.getElem?_take_of_lt hju] at hj; (have := hi j u (by omega) hu (by rw [getD_of hj, getD_of hc])); omega
  have hle : ∀ u, u ≤ C → (extK [] (cl.take u)).length = u := fun u => by
    induction u with
    | zero => intro _; rfl
    | succ u ih =>
      intro h; (obtain ⟨c, hc⟩ : ∃ c, cl[u]? = some c := ⟨_, List.getElem?_eq_getElem (by omega)⟩); (rw [ext_grow hc, if_neg (hno u c hc), ih (by omega)])
  (refine List.ext_getElem? fun u => ?_)
  rcases Nat.lt_or_ge u C with h | h
  · obtain ⟨c, hc⟩ : ∃ c, cl[u]? = some c := ⟨_, List.getElem?_eq_getElem (by omega)⟩
    have h1 := new_num hn hc (hno u c hc); (rw [hle u (by omega)] at h1); rw [hc, List.getElem?_range h, h1]
  · rw [List.getElem?_eq_none (by omega), List.getElem?_eq_none (by rw [List.length_range]; omega)]
section
variable {N : Nat} {rel : List (Int × Int)} {tr : List (List (List UInt8))}
theorem shTr_len {cl : List Nat} (P : ClsP N rel tr cl) : (shTr (tr.map nmz) cl N).length = (extK [] cl).length := by
  (rw [shTr, List.length_map, firsts_len (by have := P.len; omega), List.take_of_length_le (by have := P.len; omega)])
theorem shTr_nm {cl : List Nat} (htl : tr.length = N) (hnm : ∀ l ∈ tr, ∀ t ∈ l, isNm t = true) : ∀ l ∈ shTr (tr.map nmz) cl N, ∀ t ∈ l, isNm t = true := fun l hl t ht => by
  rw [shTr] at hl; obtain ⟨f, hf, rfl⟩ := List.mem_map.1 hl; have hfN := firsts_lt hf; (rw [nmAt_map tr (by omega), nmz_memI] at ht); (rw [nmAt, List.getD_eq_getElem?_getD, List.getElem?_eq_getElem (by omega)] at ht); (exact hnm _ (List.getElem_mem (by omega)) t ht)
theorem nmz_nmz (r : List (List UInt8)) : nmz (nmz r) = nmz r := (nmz_of ⟨uniq_rising r, fun t => by show t ∈ nmz r ↔ t ∈ nmz r; exact Iff.rfl⟩).symm
theorem shTr_nmz {cl : List Nat} (htl : tr.length = N) : (shTr (tr.map nmz) cl N).map nmz = shTr (tr.map nmz) cl N := by
  rw [shTr, List.map_map]; (refine List.map_congr_left fun f hf => ?_); have hfN := firsts_lt hf; show nmz (nmAt (tr.map nmz) f) = _; (rw [nmAt_map tr (by omega), nmz_nmz])
theorem cls_lt {cl : List Nat} (P : ClsP N rel tr cl) {u : Nat} (hu : u < N) : cl.getD u 0 < (extK [] cl).length := by
  (obtain ⟨c, hc⟩ : ∃ c, cl[u]? = some c := ⟨_, List.getElem?_eq_getElem (by have := P.len; omega)⟩); rw [getD_of hc]; exact cls_small P.num hc
/-- No two classes of the shrunk model are alike. -/
theorem sh_cls (htl : tr.length = N) (hnm : ∀ l ∈ tr, ∀ t ∈ l, isNm t = true) (cl : List Nat) (hcl : cl = clsK N (relB rel) (tr.map nmz)) :
    clsK (extK [] cl).length (relB (shRel N (relB rel) cl N)) ((shTr (tr.map nmz) cl N).map nmz) = List.range (extK [] cl).length := by
  (have P : ClsP N rel tr cl := by rw [hcl]; exact cls_p htl hnm); have Q := cls_p (N := (extK [] cl).length) (rel := shRel N (relB rel) cl N) (tr := shTr (tr.map nmz) cl N) (shTr_len P) (shTr_nm htl hnm); generalize hc2 : clsK (extK [] cl).length (relB (shRel N (relB rel) cl N)) ((shTr (tr.map nmz) cl N).map nmz) = c2 at *
  have key : ∀ u v, u < N → v < N → c2.getD (cl.getD u 0) 0 = c2.getD (cl.getD v 0) 0 → cl.getD u 0 = cl.getD v 0 := by
    have hcv : ∀ u v, u < N → v < N → c2.getD (cl.getD u 0) 0 = c2.getD (cl.getD v 0) 0 → covM N (relB rel) (fun u v => eqC c2 (cl.getD u 0) (cl.getD v 0)) u v = true := fun u v hu hv e => covM_iff.2 fun x hx hr => by
      obtain ⟨b, hb, hr2, e2⟩ := Q.cov _ _ (cls_lt P hu) (cls_lt P hv) e (cl.getD x 0) (cls_lt P hx) ((shRel_mem P hu).2 ⟨x, hx, hr, rfl⟩); obtain ⟨y, hy, hr3, e3⟩ := (shRel_mem P hv).1 hr2; (exact ⟨y, hy, hr3, by rw [eqC, decide_eq_true_iff, e3]; exact e2⟩)
    have hal : AlM N (relB rel) tr (clsK N (relB rel) (tr.map nmz)) (fun u v => eqC c2 (cl.getD u 0) (cl.getD v 0)) := by
      (refine ⟨fun u v hu hv => ?_, fun u v hu hv e => ?_, fun u v hu hv hm => ?_⟩)
      · show eqC _ _ _ = eqC _ _ _
        rw [eqC, eqC, decide_eq_decide]; exact ⟨Eq.symm, Eq.symm⟩
      · rw [← hcl] at e
        show eqC _ _ _ = true; rw [eqC, e]
        simp
      · have h1 := Q.nms _ _ (cls_lt P hu) (cls_lt P hv) (of_decide_eq_true hm)
        (rw [shTr_nmz htl, shTr_at P hu, shTr_at P hv, nmAt_map tr (by omega), nmAt_map tr (by omega)] at h1); exact nmz_eq.1 h1
    intro u v hu hv e; (have h1 := AlM.done htl hnm hal (fun u v hu hv hm => ⟨hcv u v hu hv (of_decide_eq_true hm), hcv v u hv hu (of_decide_eq_true hm).symm⟩) u v hu hv); rw [← hcl] at h1; have h2 : eqC c2 (cl.getD u 0) (cl.getD v 0) = true := decide_eq_true e; exact of_decide_eq_true (h1.symm.trans h2)
  (refine range_of Q.num Q.len fun a b ha hb e => ?_); obtain ⟨f, -, hf, hfa⟩ := first_of P ha; obtain ⟨g, -, hg, hgb⟩ := first_of P hb; rw [← hfa, ← hgb] at e; have := key f g hf hg e; omega
end
end Go.Proofs.Ytclinobfbdljhah
/- Plain: the shrunk model has no fault, and shrinks to itself. -/
namespace Go.Proofs.Ytclinobfbdljhah
open Go.RowKit

theorem relT_mem {N : Nat} {rel : List (Int × Int)} {cl : List Nat} {C n : Nat} {p : Int × Int} : p ∈ relT N rel cl C n ↔ ∃ a b : Nat, a < n ∧ b < C ∧ tiesK N rel cl a b N = true ∧ p = ((a : Int), (b : Int)) := by
  rw [relT, List.mem_flatMap]
  constructor
  · rintro ⟨a, ha, hm⟩
    rw [rowT, List.mem_map] at hm; obtain ⟨b, hb, rfl⟩ := hm; rw [List.mem_filter, List.mem_range] at hb; exact ⟨a, b, List.mem_range.1 ha, hb.1, hb.2, rfl⟩
  · rintro ⟨a, b, ha, hb, ht, rfl⟩
    refine ⟨a, List.mem_range.2 ha, ?_⟩; rw [rowT, List.mem_map]; (exact ⟨b, by rw [List.mem_filter, List.mem_range]; exact ⟨hb, ht⟩, rfl⟩)
theorem relT_at {N : Nat} {rel : List (Int × Int)} {cl : List Nat} {C a b : Nat} (ha : a < C) (hb : b < C) : relB (relT N rel cl C C) a b = tiesK N rel cl a b N := by
  rw [Bool.eq_iff_iff, relB, List.contains_iff_mem, relT_mem]
  constructor
  · rintro ⟨a', b', -, -, ht, e⟩
    simp only [Prod.mk.injEq] at e; (obtain rfl : a' = a := by omega); (obtain rfl : b' = b := by omega); exact ht
  · exact fun ht => ⟨a, b, ha, hb, ht, rfl⟩
theorem firsts_range (C : Nat) : firsts (List.range C) C = List.range C := by
  unfold firsts; rw [List.filter_eq_self]; intro a ha; have ha := List.mem_range.1 ha; (rw [List.getD_eq_getElem?_getD, List.getElem?_range ha, List.take_range, Nat.min_eq_left (by omega)])
  simp
theorem getD_range {C b : Nat} (h : b < C) : (List.range C).getD b 0 = b := by
  rw [List.getD_eq_getElem?_getD, List.getElem?_range h]; rfl
/-- Pairs in order are made again. -/
theorem shRel_again {N : Nat} {rel : List (Int × Int)} {cl : List Nat} {C : Nat} : shRel C (relB (relT N rel cl C C)) (List.range C) C = relT N rel cl C C := by
  conv => rhs; rw [relT]
  rw [shRel, firsts_range]; (refine flatMap_same _ fun a ha => ?_); have ha := List.mem_range.1 ha; rw [relsK, rowT, memTo, getD_range ha]
  congr 1
  (refine List.filter_congr fun b hb => ?_); have hb := List.mem_range.1 hb; rw [← relT_at ha hb, Bool.eq_iff_iff, sees_iff]
  constructor
  · rintro ⟨x, hx, hr, e⟩
    rw [getD_range hx] at e; subst e; exact hr
  · exact fun hr => ⟨b, hb, hr, getD_range hb⟩
theorem shTr_again {nss : List (List (List UInt8))} {C : Nat} (h : nss.length = C) : shTr nss (List.range C) C = nss := by
  rw [shTr, firsts_range]; (refine List.ext_getElem? fun i => ?_); rw [List.getElem?_map]
  rcases Nat.lt_or_ge i C with hi | hi
  · rw [List.getElem?_range hi, List.getElem?_eq_getElem (by omega), Option.map_some, nmAt, List.getD_eq_getElem?_getD, List.getElem?_eq_getElem (by omega)]
    rfl
  · rw [List.getElem?_eq_none (by rw [List.length_range]; omega), List.getElem?_eq_none (by omega)]
    rfl
theorem wfirst_okS : ∀ (ls : List (List (List UInt8))) (i : Nat), (∀ l ∈ ls, l.length ≤ 30 ∧ ∀ t ∈ l, isNm t = true) → wfirst ls i = (0, 0)
  | [], _, _ => rfl
  | l :: ls, i, h => by
    (have h1 := h l (by simp))
    have h2 : wcode l = 0 := by
      have h3 : l.any (fun t => !isNm t) = false := by
        rw [List.any_eq_false]; intro t ht; rw [h1.2 t ht]
        decide
      (rw [wcode, if_neg (by omega), h3]); rfl
    rw [wfirst, if_pos h2]; (exact wfirst_okS ls (i + 1) fun l hl => h l (by simp [hl]))
/-- No fault. -/
theorem md_ok {C : Nat} {rl : List (Int × Int)} {ts : List (List (List UInt8))} (h0 : 0 < C) (h1 : C ≤ 40) (h2 : rl.length ≤ 2000) (h3 : ts.length = C) (h4 : ∀ p ∈ rl, 0 ≤ p.1 ∧ p.1 < C ∧ 0 ≤ p.2 ∧ p.2 < C) (h5 : ∀ l ∈ ts, l.length ≤ 30 ∧ ∀ t ∈ l, isNm t = true) : mdcode 40 2000 ⟨(C : Nat), rl, ts⟩ = (0, 0) := by
  have h6 : rl.any (pairBad (C : Int)) = false := by
    rw [List.any_eq_false]; intro p hp; obtain ⟨a, b, c, d⟩ := h4 p hp; simp only [pairBad, Bool.or_eq_true, decide_eq_true_eq, not_or]; omega
  unfold mdcode; (rw [if_neg (by show ¬ ((C : Int) < 1 ∨ (40 : Int) < (C : Int) ∨ (2000 : Int) < (rl.length : Int)); omega), if_neg (by show ¬ ((ts.length : Int) ≠ (C : Int)); omega), if_neg (by show ¬ (rl.any (pairBad (C : Int)) = true); rw [h6]; decide)]); exact wfirst_okS ts 0 h5
/-- All that is asked of the shrunk model, when it is shrunk again. -/
theorem sh_fine {N : Nat} (h0 : 0 < N) (hN : N ≤ 40) {rel : List (Int × Int)} (hin : InR N rel) {tr : List (List (List UInt8))} (htl : tr.length = N) (hnm : ∀ l ∈ tr, l.length ≤ 30 ∧ ∀ t ∈ l, isNm t = true) (cl : List Nat) (hcl : cl = clsK N (relB rel) (tr.map nmz)) (C : Nat) (hC : C = (extK [] cl).length) (rl : List (Int × Int)) (hrl : rl = shRel N (relB rel) cl N) (ts : List (List (List UInt8))) (hts : ts = shTr (tr.map nmz) cl N) :
    mdcode 40 2000 ⟨(C : Nat), rl, ts⟩ = (0, 0) ∧ 0 < C ∧ C ≤ 40 ∧ InR C rl ∧ rl.length ≤ 2000 ∧ ts.length = C ∧ (∀ l ∈ ts, l.length ≤ 30 ∧ ∀ t ∈ l, isNm t = true) ∧ (extK [] (clsK C (relB rl) (ts.map nmz))).length = C ∧ shRel C (relB rl) (clsK C (relB rl) (ts.map nmz)) C = rl ∧ shTr (ts.map nmz) (clsK C (relB rl) (ts.map nmz)) C = ts := by
  (have hnm2 : ∀ l ∈ tr, ∀ t ∈ l, isNm t = true := fun l hl => (hnm l hl).2); (have P : ClsP N rel tr cl := by rw [hcl]; exact cls_p htl hnm2); (have hc2 : clsK C (relB rl) (ts.map nmz) = List.range C := by rw [hC, hrl, hts]; exact sh_cls htl hnm2 cl hcl)
  have hT : rl = relT N rel cl C C := by
    rw [hrl, hC]; have h1 := P.len; have h2 := P.num; rw [hcl] at h1 h2 ⊢; exact (relT_eq hin htl h1 h2).symm
  (have hC0 : 0 < C := by have := cls_lt P h0; omega)
  have hC40 : C ≤ 40 := by
    have h1 := extK_len cl ([] : List Nat); have h2 := P.len; simp at h1; omega
  have hlen : rl.length ≤ 2000 := by
    have h1 := relT_len N rel cl C C; have h2 : C * C ≤ 40 * 40 := Nat.mul_le_mul hC40 hC40; rw [hT]; omega
  have hI : InR C rl := fun p hp => by
    rw [hT, relT_mem] at hp; obtain ⟨a, b, ha, hb, -, rfl⟩ := hp; (refine ⟨?_, ?_, ?_, ?_⟩ <;> simp <;> omega)
  (have hl : ts.length = C := by rw [hts, hC]; exact shTr_len P)
  have hns : ∀ l ∈ ts, l.length ≤ 30 ∧ ∀ t ∈ l, isNm t = true := fun l hl => by
    rw [hts] at hl; refine ⟨?_, shTr_nm htl hnm2 l hl⟩; rw [shTr] at hl; obtain ⟨f, hf, rfl⟩ := List.mem_map.1 hl; have hfN := firsts_lt hf; (rw [nmAt_map tr (by omega)]); refine (nmz_small (hnm _ ?_)).1; (rw [nmAt, List.getD_eq_getElem?_getD, List.getElem?_eq_getElem (by omega)]); (exact List.getElem_mem (by omega))
  (have hts2 : ts.map nmz = ts := by rw [hts]; exact shTr_nmz htl); refine ⟨md_ok hC0 hC40 hlen hl hI hns, hC0, hC40, hI, hlen, hl, hns, ?_, ?_, ?_⟩
  · rw [hc2]
    (have h1 := firsts_len (cl := List.range C) (u := C) (by rw [List.length_range]; exact Nat.le_refl _)); (rw [firsts_range, List.length_range, List.take_of_length_le (by rw [List.length_range]; exact Nat.le_refl _)] at h1); exact h1.symm
  · rw [hc2]
    conv => lhs; rw [hT]
    rw [shRel_again, ← hT]
  · rw [hc2, hts2]
    exact shTr_again hl
end Go.Proofs.Ytclinobfbdljhah
/- Plain: what is true at a class, said with the names as AllAt reads them. -/
namespace Go.Proofs.Ytclinobfbdljhah
open Go.RowKit

theorem nmz_has (tr : List (List (List UInt8))) {u : Nat} (hu : u < tr.length) (s : List UInt8) : (nmAt (tr.map nmz) u).contains s = pT tr u s := by
  rw [nmAt_map tr hu, pT, Bool.eq_iff_iff, List.contains_iff_mem, List.contains_iff_mem, nmz_memI]; exact Iff.rfl
/-- What is true at a class is true at its worlds. -/
theorem sh_all {N : Nat} {rel : List (Int × Int)} {tr : List (List (List UInt8))} (htl : tr.length = N) {cl : List Nat} (P : ClsP N rel tr cl) (f : Fm) {u : Nat} (hu : u < N) :
    mtv (seeR N (relB rel)) (pT tr) f u = mtv (seeR (extK [] cl).length (relB (shRel N (relB rel) cl N))) (pT (shTr (tr.map nmz) cl N)) f (cl.getD u 0) := by
  (refine mtv_morph (N := N) (h := fun u => cl.getD u 0) (fun u hu v hv => ?_) (fun u hu b hb => ?_) (fun u s hu => ?_) f u hu)
  · have hv := mem_seeR.1 hv
    exact ⟨hv.1, mem_seeR.2 ⟨cls_lt P hv.1, (shRel_mem P hu).2 ⟨v, hv.1, hv.2, rfl⟩⟩⟩
  · have hb := mem_seeR.1 hb
    obtain ⟨v, hv, hr, e⟩ := (shRel_mem P hu).1 hb.2; exact ⟨v, mem_seeR.2 ⟨hv, hr⟩, e⟩
  · have h1 := shTr_at P hu
    (rw [← nmz_has tr (by omega) s, ← h1]); rfl
end Go.Proofs.Ytclinobfbdljhah
/- The law BisimClasses of a model that is not fine. -/
namespace Go.Proofs.Ytclinobfbdljhah
open Go.RowKit Go.Sort

set_option maxRecDepth 10000 in
set_option maxHeartbeats 16000000 in
theorem bcl_bad (m : Mdl) (hn1 : m.rel.length ≤ 8796093022208) (hn2 : m.tr.length ≤ 5864062014634) (hn3 : ∀ l ∈ m.tr, l.length ≤ 8796093022208) (h0 : (mdcode 40 2000 m).1 ≠ 0) (f : Fm) (v u : Value) (w : World) (hm : MR w m v) (hv : Rep w (fun _ => True) f u) :
    Calls Try.prog 5 #[v, u] w fun e w' => e = .returned (.bool true) ∧ Below w.heap.size w w' := by
  obtain ⟨la, hla⟩ : ∃ la : Option Addr, none = la := ⟨_, rfl⟩; obtain ⟨ll, hll⟩ : ∃ ll : Nat, 0 = ll := ⟨_, rfl⟩; obtain ⟨sn, hsn⟩ : ∃ sn : Int, 0 = sn := ⟨_, rfl⟩; (have HBe : Hid (∀ W, Calls Try.prog 15 #[] W _) := fun W => bisimBegun_any W); (have HOw : Hid (∀ v W, MR W m v → Calls Try.prog 16 #[v] W _) := fun v W h => ownModel_any m hn1 hn2 hn3 v W h); (have HCl : Hid (∀ v W, MR W m v → Calls Try.prog 17 #[v] W fun e w' => e = .returned (.tuple #[.slice la ll ll, .agg #[.int .i64 (mdcode 40 2000 m).1, .int .i64 (mdcode 40 2000 m).2]]) ∧ Below W.heap.size W w') := fun v W h => by rw [← hla, ← hll]; exact Classes_bad m h0 v W h); (have HSh : Hid (∀ v W, MR W m v → Calls Try.prog 18 #[v] W fun e w' => e = .returned (.tuple #[.agg #[.int .i64 sn, .slice la ll ll, .slice la ll ll], .agg #[.int .i64 (mdcode 40 2000 m).1, .int .i64 (mdcode 40 2000 m).2]]) ∧ Below W.heap.size W w') := fun v W h => by rw [← hla, ← hll, ← hsn]; exact Shrink_bad m h0 v W h); (have HNo : Hid (∀ W, Calls Try.prog 21 #[.agg #[.int .i64 sn, .slice la ll ll, .slice la ll ll]] W fun e w' => e = .returned (.bool true) ∧ Below W.heap.size W w') := fun W => by rw [← hla, ← hll, ← hsn]; exact noModel_yes W); (have HMf : Hid (∀ v W, MR W m v → Calls Try.prog 19 #[v, .int .i64 40, .int .i64 2000] W _) := fun v W h => modelFault_any 40 2000 m (by omega) (by omega) v W h); (have HSm : Hid (∀ v u W, MR W m v → MR W m u → Calls Try.prog 20 #[v, u] W _) := fun v u W h1 h2 => sameModel_any m v u W h1 h2); have HRm : Hid (MR w m v) := hm; (have hl0 : ((ll : Int) == 0) = true := by rw [← hll]; rfl); clear hn1 hn2 hn3 hla hsn hll; generalize mdcode 40 2000 m = md at *; obtain ⟨c, d⟩ := md; (have hcn : (c != 0) = true := by simpa using h0); clear h0; obtain ⟨ra, rc, ta, tc, rfl, -⟩ := hm; obtain ⟨k, n, ks⟩ := f; obtain ⟨sl, cap, rfl⟩ := slice_shape hv; clear hv; obtain ⟨W, hW⟩ : ∃ W, W = (w.alloc (.cells #[.int .i64 m.n, .slice ra m.rel.length rc, .slice ta m.tr.length tc] 30 (0, 0))).alloc (.cells #[.int .i64 k, .string n, .slice sl ks.length cap] 24 (0, 0)) := ⟨_, rfl⟩; (have HB0 : Hid (Below w.heap.size w W) := by rw [hW]; exact below_more (below_more (Below.refl _ w) _) _); (have HM0 : Hid (W.heap[w.heap.size]? = some (.cells #[.int .i64 m.n, .slice ra m.rel.length rc, .slice ta m.tr.length tc] 30 (0, 0))) := by rw [hW]; exact alloc_keep (blk_new _ _) _); (have HF0 : Hid (W.heap[w.heap.size + 1]? = some (.cells #[.int .i64 k, .string n, .slice sl ks.length cap] 24 (0, 0))) := by rw [hW]; exact blk_secE _ _ _)
  go_enter Try.func5, Try.ntmps5
  go_wp2_with fail; rw [← hW]; refine (HBe.out _).mono ?_; rintro _ w1 ⟨rfl, hb1⟩; have HB1 : Hid (Below w.heap.size w w1) := below_join HB0.out hb1; have HM1 : Hid (w1.heap[w.heap.size]? = some (.cells #[.int .i64 m.n, .slice ra m.rel.length rc, .slice ta m.tr.length tc] 30 (0, 0))) := below_keep hb1 HM0.out; have HF1 : Hid (w1.heap[w.heap.size + 1]? = some (.cells #[.int .i64 k, .string n, .slice sl ks.length cap] 24 (0, 0))) := below_keep hb1 HF0.out; clear hb1 hW HBe HB0 HM0 HF0; obtain ⟨k0, k1, k2, -⟩ := blk3 HM1.out; go_wp2_with fail; refine (HOw.out _ _ (HRm.out.up HB1.out)).mono ?_; rintro _ w3 ⟨xv, rfl, hmr, hb3⟩; have HX3 : Hid (MR w3 m xv) := hmr; obtain ⟨ra2, rc2, ta2, tc2, rfl, -⟩ := hmr; have HB3 : Hid (Below w.heap.size w w3) := below_join HB1.out hb3; have HM3 : Hid (w3.heap[w.heap.size]? = some (.cells #[.int .i64 m.n, .slice ra m.rel.length rc, .slice ta m.tr.length tc] 30 (0, 0))) := below_keep hb3 HM1.out; have HF3 : Hid (w3.heap[w.heap.size + 1]? = some (.cells #[.int .i64 k, .string n, .slice sl ks.length cap] 24 (0, 0))) := below_keep hb3 HF1.out; clear hb3 HOw HB1 HM1 HF1 k0 k1 k2; obtain ⟨X, hX⟩ : ∃ X, X = w3.alloc (.cells #[.int .i64 m.n, .slice ra2 m.rel.length rc2, .slice ta2 m.tr.length tc2] 30 (0, 0)) := ⟨_, rfl⟩; (have HXB : Hid (Below w3.heap.size w3 X) := by rw [hX]; exact below_more (Below.refl _ _) _); (have HXN : Hid (X.heap[w3.heap.size]? = some (.cells #[.int .i64 m.n, .slice ra2 m.rel.length rc2, .slice ta2 m.tr.length tc2] 30 (0, 0))) := by rw [hX]; exact blk_new _ _); have hXe := hX.symm; clear hX; obtain ⟨k0, k1, k2, -⟩ := blk3 HXN.out; go_wp2_with fail; refine (HCl.out _ _ (HX3.out.up HXB.out)).mono ?_; rintro _ w4 ⟨rfl, hb4⟩; have HB4 : Hid (Below w3.heap.size w3 w4) := below_join HXB.out hb4; have HN4 : Hid (w4.heap[w3.heap.size]? = some (.cells #[.int .i64 m.n, .slice ra2 m.rel.length rc2, .slice ta2 m.tr.length tc2] 30 (0, 0))) := below_keep hb4 HXN.out; have h34 := lt_of_block HN4.out; clear hb4 HCl hXe k0 k1 k2 HXB HXN; obtain ⟨X, hX⟩ : ∃ X, X = w4.alloc (.cells #[.int .i64 c, .int .i64 d] 32 (0, 0)) := ⟨_, rfl⟩; (have HXB : Hid (Below w4.heap.size w4 X) := by rw [hX]; exact below_more (Below.refl _ _) _); (have HX1 : Hid (X.heap[w4.heap.size]? = some (.cells #[.int .i64 c, .int .i64 d] 32 (0, 0))) := by rw [hX]; exact blk_new _ _); have hXe := hX.symm; clear hX; obtain ⟨k0, k1, k2, -⟩ := blk3 (below_keep HXB.out HN4.out); go_wp2_with fail; refine (HSh.out _ _ (HX3.out.up (below_join HB4.out HXB.out))).mono ?_; rintro _ w5 ⟨rfl, hb5⟩; have HB5 : Hid (Below w3.heap.size w3 w5) := below_join (below_join HB4.out HXB.out) hb5; have HN5 : Hid (w5.heap[w3.heap.size]? = some (.cells #[.int .i64 m.n, .slice ra2 m.rel.length rc2, .slice ta2 m.tr.length tc2] 30 (0, 0))) := below_keep hb5 (below_keep HXB.out HN4.out); have HE5 : Hid (w5.heap[w4.heap.size]? = some (.cells #[.int .i64 c, .int .i64 d] 32 (0, 0))) := below_keep hb5 HX1.out; have h45 := lt_of_block HE5.out; clear hb5 HSh hXe k0 k1 k2 HXB HX1 HN4 HB4; obtain ⟨X, hX⟩ : ∃ X, X = (w5.alloc (.cells #[.int .i64 sn, .slice la ll ll, .slice la ll ll] 30 (0, 0))).alloc (.cells #[.int .i64 c, .int .i64 d] 32 (0, 0)) := ⟨_, rfl⟩; (have HXB : Hid (Below w5.heap.size w5 X) := by rw [hX]; exact below_more (below_more (Below.refl _ _) _) _); (have HX1 : Hid (X.heap[w5.heap.size]? = some (.cells #[.int .i64 sn, .slice la ll ll, .slice la ll ll] 30 (0, 0))) := by rw [hX]; exact alloc_keep (blk_new _ _) _); (have HX2 : Hid (X.heap[w5.heap.size + 1]? = some (.cells #[.int .i64 c, .int .i64 d] 32 (0, 0))) := by rw [hX]; exact blk_secE _ _ _); have hXe := hX.symm; clear hX; obtain ⟨k0, k1, k2, -⟩ := blk3 (below_keep HXB.out (below_keep HB5.out HM3.out)); go_wp2_with fail; refine (HMf.out _ _ (HRm.out.up (below_join HB3.out (below_join HB5.out HXB.out)))).mono ?_; rintro _ w7 ⟨rfl, hb7⟩; obtain ⟨Y, hY⟩ : ∃ Y, Y = w7.alloc (.cells #[.int .i64 c, .int .i64 d] 32 (0, 0)) := ⟨_, rfl⟩; (have hbY : Below w5.heap.size w5 Y := by rw [hY]; exact below_more (below_join HXB.out hb7) _); have H3Y : Hid (Below w3.heap.size w3 Y) := below_join HB5.out hbY; have HYB : Hid (Below w.heap.size w Y) := below_join HB3.out H3Y.out
  have HYm : Hid (Y.heap[w.heap.size]? = some (.cells #[.int .i64 m.n, .slice ra m.rel.length rc, .slice ta m.tr.length tc] 30 (0, 0))) := below_keep H3Y.out HM3.out; have HYf : Hid (Y.heap[w.heap.size + 1]? = some (.cells #[.int .i64 k, .string n, .slice sl ks.length cap] 24 (0, 0))) := below_keep H3Y.out HF3.out; have HYn : Hid (Y.heap[w3.heap.size]? = some (.cells #[.int .i64 m.n, .slice ra2 m.rel.length rc2, .slice ta2 m.tr.length tc2] 30 (0, 0))) := below_keep hbY HN5.out; have HY1 : Hid (Y.heap[w4.heap.size]? = some (.cells #[.int .i64 c, .int .i64 d] 32 (0, 0))) := below_keep hbY HE5.out; (have HYs : Hid (Y.heap[w5.heap.size]? = some (.cells #[.int .i64 sn, .slice la ll ll, .slice la ll ll] 30 (0, 0))) := by rw [hY]; exact alloc_keep (below_keep hb7 HX1.out) _); (have HY2 : Hid (Y.heap[w5.heap.size + 1]? = some (.cells #[.int .i64 c, .int .i64 d] 32 (0, 0))) := by rw [hY]; exact alloc_keep (below_keep hb7 HX2.out) _); (have HYw : Hid (Y.heap[w7.heap.size]? = some (.cells #[.int .i64 c, .int .i64 d] 32 (0, 0))) := by rw [hY]; exact blk_new _ _); have HYx : Hid (MR Y m (.agg #[.int .i64 m.n, .slice ra2 m.rel.length rc2, .slice ta2 m.tr.length tc2])) := HX3.out.up H3Y.out; have HYr : Hid (MR Y m (.agg #[.int .i64 m.n, .slice ra m.rel.length rc, .slice ta m.tr.length tc])) := HRm.out.up HYB.out; have hYe := hY.symm; clear hY hbY hb7 HXB HX1 HX2 k0 k1 k2 HB5 HN5 HE5 HX3 HM3 HF3 HB3 HMf h34 h45; obtain ⟨k0, k1, k2, -⟩ := blk3 HYm.out; obtain ⟨n0, n1, n2, -⟩ := blk3 HYn.out; obtain ⟨e0, e1, -⟩ := blk2 HY1.out; obtain ⟨g0, g1, -⟩ := blk2 HY2.out; obtain ⟨i0, i1, -⟩ := blk2 HYw.out; go_wp2_with fail; refine (HSm.out _ _ _ HYx.out HYr.out).mono ?_; rintro _ w8 ⟨rfl, hb8⟩; have HB8 : Hid (Below w.heap.size w w8) := below_join HYB.out hb8; have H8m : Hid (w8.heap[w.heap.size]? = some (.cells #[.int .i64 m.n, .slice ra m.rel.length rc, .slice ta m.tr.length tc] 30 (0, 0))) := below_keep hb8 HYm.out; have H8f : Hid (w8.heap[w.heap.size + 1]? = some (.cells #[.int .i64 k, .string n, .slice sl ks.length cap] 24 (0, 0))) := below_keep hb8 HYf.out; have H8s : Hid (w8.heap[w5.heap.size]? = some (.cells #[.int .i64 sn, .slice la ll ll, .slice la ll ll] 30 (0, 0))) := below_keep hb8 HYs.out; have H8w : Hid (w8.heap[w7.heap.size]? = some (.cells #[.int .i64 c, .int .i64 d] 32 (0, 0))) := below_keep hb8 HYw.out; clear hb8 hXe hYe HYx HYr HYm HYf HYn HY1 HYs HY2 HYw HYB H3Y HSm k0 k1 k2 n0 n1 n2 e0 e1 g0 g1 i0 i1; obtain ⟨s0, s1, s2, -⟩ := blk3 H8s.out; obtain ⟨i0, i1, -⟩ := blk2 H8w.out; obtain ⟨k0, k1, k2, -⟩ := blk3 H8m.out; go_wp2_with fail; refine (HNo.out _).mono ?_; rintro _ w9 ⟨rfl, hb9⟩; go_wp2_with fail; go_ret; exact ⟨rfl, below_join HB8.out hb9⟩
end Go.Proofs.Ytclinobfbdljhah
/- The law BisimClasses of a model that is fine. -/
namespace Go.Proofs.Ytclinobfbdljhah
open Go.RowKit Go.Sort

theorem rowC12 (l : List Value) (h0 : l.length = 12) : ∃ x0 x1 x2 x3 x4 x5 x6 x7 x8 x9 x10 x11, l = [x0, x1, x2, x3, x4, x5, x6, x7, x8, x9, x10, x11] := by
  obtain ⟨x0, l1, e0, h1⟩ := cons_lenM h0; obtain ⟨x1, l2, e1, h2⟩ := cons_lenM h1; obtain ⟨x2, l3, e2, h3⟩ := cons_lenM h2; obtain ⟨x3, l4, e3, h4⟩ := cons_lenM h3; obtain ⟨x4, l5, e4, h5⟩ := cons_lenM h4; obtain ⟨x5, l6, e5, h6⟩ := cons_lenM h5; obtain ⟨x6, l7, e6, h7⟩ := cons_lenM h6; obtain ⟨x7, l8, e7, h8⟩ := cons_lenM h7; obtain ⟨x8, l9, e8, h9⟩ := cons_lenM h8; obtain ⟨x9, l10, e9, h10⟩ := cons_lenM h9; obtain ⟨x10, l11, e10, h11⟩ := cons_lenM h10; obtain ⟨x11, l12, e11, h12⟩ := cons_lenM h11; have e12 : l12 = [] := List.length_eq_zero_iff.1 h12; subst e12 e11 e10 e9 e8 e7 e6 e5 e4 e3 e2 e1 e0; exact ⟨x0, x1, x2, x3, x4, x5, x6, x7, x8, x9, x10, x11, rfl⟩
theorem rowC6 (l : List Value) (h0 : l.length = 6) : ∃ x0 x1 x2 x3 x4 x5, l = [x0, x1, x2, x3, x4, x5] := by
  obtain ⟨x0, l1, e0, h1⟩ := cons_lenM h0; obtain ⟨x1, l2, e1, h2⟩ := cons_lenM h1; obtain ⟨x2, l3, e2, h3⟩ := cons_lenM h2; obtain ⟨x3, l4, e3, h4⟩ := cons_lenM h3; obtain ⟨x4, l5, e4, h5⟩ := cons_lenM h4; obtain ⟨x5, l6, e5, h6⟩ := cons_lenM h5; have e6 : l6 = [] := List.length_eq_zero_iff.1 h6; subst e6 e5 e4 e3 e2 e1 e0; exact ⟨x0, x1, x2, x3, x4, x5, rfl⟩
theorem rowC2 (l : List Value) (h0 : l.length = 2) : ∃ x0 x1, l = [x0, x1] := by
  obtain ⟨x0, l1, e0, h1⟩ := cons_lenM h0; obtain ⟨x1, l2, e1, h2⟩ := cons_lenM h1; have e2 : l2 = [] := List.length_eq_zero_iff.1 h2; subst e2 e1 e0; exact ⟨x0, x1, rfl⟩
def kMd (m : Mdl) : Value → World → Prop := fun v w => MR w m v
theorem kMd_stays (m : Mdl) : Stays (kMd m) := fun _ _ _ h hb => MR.up h hb
def kAl (N : Nat) (T : Nat → Bool) : Value → World → Prop := fun v w => ∃ g, v = .slice (some ⟨g, 0, none⟩) N N ∧ w.heap[g]? = some (.cells (outC N N T) 4 (0, 0))
theorem kAl_stays (N : Nat) (T : Nat → Bool) : Stays (kAl N T) := fun _ _ _ h hb => by
  obtain ⟨g, e, h2⟩ := h; exact ⟨g, e, below_keep hb h2⟩
theorem OutP.nl {w : World} {go N : Nat} {cl : List Nat} {cur : Array Value} (h : OutP w go N cl N cur) (hl : cl.length = N) (hN : N ≤ 40) : NL w (.slice (some ⟨go, 0, none⟩) N N) cl := by
  subst hl; (exact ⟨_, _, rfl, Nat.le_refl _, by unfold maxLen; omega, fun _ => ⟨go, rfl, fun j n hj => h.cell (h.each j n (List.getElem?_eq_some_iff.1 hj).1 hj)⟩⟩)
theorem OwnN.nl2 {B : Nat} {w : World} {ad : Option Addr} {cp N : Nat} {l : List Nat} (h : OwnN B w ad cp l) (hl : l.length = N) : NL w (.slice ad N cp) l := by
  subst hl; exact h.nl
set_option maxRecDepth 10000 in
set_option maxHeartbeats 16000000 in
theorem bcl_ok (N : Nat) (rel : List (Int × Int)) (tr : List (List (List UInt8))) (h0 : mdcode 40 2000 ⟨(N : Int), rel, tr⟩ = (0, 0)) (f : Fm) (v u : Value) (w : World) (hm : MR w ⟨(N : Int), rel, tr⟩ v) (hv : Rep w (fun _ => True) f u) :
    Calls Try.prog 5 #[v, u] w fun e w' => e = .returned (.bool true) ∧ Below w.heap.size w w' := by
  (obtain ⟨N9, hN9, hN1, hN2, hrl, htl, hin⟩ := mdcode_in (show (mdcode 40 2000 ⟨(N : Int), rel, tr⟩).1 = 0 by rw [h0])); (have hnn : N9 = N := by simp only at hN9; omega); rw [hnn] at hN1 hN2 htl hin; clear hN9 hnn N9; (have hnm := mdcode_names (show (mdcode 40 2000 ⟨(N : Int), rel, tr⟩).1 = 0 by rw [h0])); simp only at hrl htl hin hnm; (have hN40 : N ≤ 40 := by omega); obtain ⟨cl, hcl⟩ : ∃ cl, cl = clsK N (relB rel) (tr.map nmz) := ⟨_, rfl⟩; (have P : ClsP N rel tr cl := by rw [hcl]; exact cls_p htl (fun l hl t ht => (hnm l hl).2 t ht)); (have hlen : cl.length = N := by rw [hcl]; exact levK_len (by rw [byN_len, List.length_map]; exact htl) _); obtain ⟨hs0, hC1, hC40, hsin, hsrl, hstl, hsnm, hse1, hse2, hse3⟩ := sh_fine hN1 hN40 hin htl hnm cl hcl _ rfl _ rfl _ rfl; (have HT9 : Hid (∀ f u, u < N → mtv (seeR N (relB rel)) (pT tr) f u = mtv (seeR (extK [] cl).length (relB (shRel N (relB rel) cl N))) (pT (shTr (tr.map nmz) cl N)) f (cl.getD u 0)) := fun f u hu => sh_all htl P f hu)
  have hcl9 : ∀ (u x : Nat), cl[u]? = some x → x < (extK [] cl).length := fun u x hx => by
    have hlt := (List.getElem?_eq_some_iff.1 hx).1; (have := cls_lt P (u := u) (by omega))
    rwa [show cl.getD u 0 = x by simp [List.getD, hx]] at this
  obtain ⟨c, hc⟩ : ∃ c : Int, (0 : Int) = c := ⟨_, rfl⟩; obtain ⟨d, hd⟩ : ∃ d : Int, (0 : Int) = d := ⟨_, rfl⟩; (have hsm : ∀ W v, MR W ⟨((extK [] (clsK N (relB rel) (tr.map nmz))).length : Nat), shRel N (relB rel) (clsK N (relB rel) (tr.map nmz)) N, shTr (tr.map nmz) (clsK N (relB rel) (tr.map nmz)) N⟩ v → MR W ⟨((extK [] cl).length : Nat), shRel N (relB rel) cl N, shTr (tr.map nmz) cl N⟩ v := fun W v h => by rw [hcl]; exact h); (have HBe : Hid (∀ W, Calls Try.prog 15 #[] W _) := fun W => bisimBegun_any W); (have HOw : Hid (∀ v W, MR W ⟨(N : Int), rel, tr⟩ v → Calls Try.prog 16 #[v] W _) := fun v W h => ownModel_any ⟨(N : Int), rel, tr⟩ (by show rel.length ≤ _; omega) (by show tr.length ≤ _; omega) (fun l hl => by have := (hnm l hl).1; omega) v W h)
  have HCl : Hid (∀ v W, MR W ⟨(N : Int), rel, tr⟩ v → Calls Try.prog 17 #[v] W fun e w' => ∃ ad cp, e = .returned (.tuple #[.slice ad N cp, .agg #[.int .i64 c, .int .i64 d]]) ∧ NL w' (.slice ad N cp) cl ∧ Below W.heap.size W w') := fun v W h => by
    rw [← hc, ← hd]; refine (Classes_ok N rel tr h0 v W h).mono ?_; rintro e w' ⟨ad, cp, rfl, ho, hb⟩; rw [← hcl] at ho; exact ⟨ad, cp, rfl, ho.nl2 hlen, hb⟩
  have HSh : Hid (∀ v W, MR W ⟨(N : Int), rel, tr⟩ v → Calls Try.prog 18 #[v] W fun e w' => ∃ u, e = .returned (.tuple #[u, .agg #[.int .i64 c, .int .i64 d]]) ∧ MR w' ⟨((extK [] cl).length : Nat), shRel N (relB rel) cl N, shTr (tr.map nmz) cl N⟩ u ∧ Below W.heap.size W w') := fun v W h => by
    rw [← hc, ← hd]; refine (Shrink_ok N rel tr h0 v W h).mono ?_; rintro e w' ⟨x, rfl, ho, hb⟩; exact ⟨x, rfl, hsm _ _ ho.mr, hb⟩
  have HSt : Hid (∀ v W, MR W ⟨((extK [] cl).length : Nat), shRel N (relB rel) cl N, shTr (tr.map nmz) cl N⟩ v → Calls Try.prog 18 #[v] W fun e w' => ∃ u, e = .returned (.tuple #[u, .agg #[.int .i64 c, .int .i64 d]]) ∧ MR w' ⟨((extK [] cl).length : Nat), shRel N (relB rel) cl N, shTr (tr.map nmz) cl N⟩ u ∧ Below W.heap.size W w') := fun v W h => by
    rw [← hc, ← hd]; refine (Shrink_ok _ _ _ hs0 v W h).mono ?_; rintro e w' ⟨x, rfl, ho, hb⟩; rw [hse1, hse2, hse3] at ho; exact ⟨x, rfl, ho.mr, hb⟩
  have HMf : Hid (∀ v W, MR W ⟨(N : Int), rel, tr⟩ v → Calls Try.prog 19 #[v, .int .i64 40, .int .i64 2000] W fun e w' => e = .returned (.agg #[.int .i64 c, .int .i64 d]) ∧ Below W.heap.size W w') := fun v W h => by
    (have := modelFault_any 40 2000 _ (by omega) (by omega) v W h); rw [h0] at this; rw [← hc, ← hd]; exact this
  (have HSm : Hid (∀ v u W, MR W ⟨(N : Int), rel, tr⟩ v → MR W ⟨(N : Int), rel, tr⟩ u → Calls Try.prog 20 #[v, u] W _) := fun v u W h1 h2 => sameModel_any _ v u W h1 h2)
  have HCo : Hid (∀ W, Below w.heap.size w W → Calls Try.prog 22 #[v] W fun e w' => ∃ go, e = .returned (.slice (some ⟨go, 0, none⟩) N N) ∧ NL w' (.slice (some ⟨go, 0, none⟩) N N) cl ∧ Below W.heap.size W w') := fun W hb => by
    obtain ⟨ra, rc, ta, tc, rfl, hp, ht, -⟩ := hm.up hb; (refine (classesOf_any N hN1 hN40 rel (by omega) hin tr htl hnm ra ta rc tc W hp ht).mono ?_); rintro e w' ⟨go, cur, rfl, -, ho, hb⟩; rw [← hcl] at ho; exact ⟨go, rfl, ho.nl hlen hN40, hb⟩
  have HSr : Hid (∀ W, Below w.heap.size w W → Calls Try.prog 23 #[v] W fun e w' => ∃ u, e = .returned u ∧ MR w' ⟨((extK [] cl).length : Nat), shRel N (relB rel) cl N, shTr (tr.map nmz) cl N⟩ u ∧ Below W.heap.size W w') := fun W hb => by
    obtain ⟨ra, rc, ta, tc, rfl, hp, ht, -⟩ := hm.up hb; (refine (shrunkR_any N hN1 hN40 rel (by omega) hin tr htl hnm ra ta rc tc W hp ht).mono ?_); rintro e w' ⟨x, rfl, ho, hb⟩; exact ⟨x, rfl, hsm _ _ ho.mr, hb⟩
  (have HVf : Hid (∀ v W, Rep W (fun _ => True) f v → Calls Try.prog 8 #[v, .int .i64 0] W _) := fun v W h => vast2_any f v W h); (have HFf : Hid (∀ v W, Rep W (fun _ => True) f v → Calls Try.prog 13 #[v] W _) := fun v W h => rfault_any f v W h); obtain ⟨C, hC⟩ : ∃ C, C = (extK [] cl).length := ⟨_, rfl⟩; obtain ⟨T1, hT1⟩ : ∃ T1, T1 = mtv (seeR N (relB rel)) (pT tr) f := ⟨_, rfl⟩; obtain ⟨T2, hT2⟩ : ∃ T2, T2 = mtv (seeR C (relB (shRel N (relB rel) cl N))) (pT (shTr (tr.map nmz) cl N)) f := ⟨_, rfl⟩
  have HTT : Hid (∀ (u x : Nat), cl[u]? = some x → T1 u = T2 x) := fun u x hx => by
    have hlt := (List.getElem?_eq_some_iff.1 hx).1; (have := HT9.out f u (by omega)); (rw [hT1, hT2, hC, this, show cl.getD u 0 = x by simp [List.getD, hx]])
  have HA1 : Hid (f.code.1 = 0 → ∀ v u W, MR W ⟨(N : Int), rel, tr⟩ v → Rep W (fun _ => True) f u → Calls Try.prog 24 #[v, u] W fun e w' => ∃ x, e = .returned x ∧ kAl N T1 x w' ∧ Below W.heap.size W w') := fun hf v u W h1 h2 => by
    (have hm9 : (mfcode ⟨(N : Int), rel, tr⟩ f).1 = 0 := by unfold mfcode; rw [if_pos (by rw [h0])]; exact hf); (refine (allAt_any N hN1 hN40 rel (by omega) hin tr htl f v u W (mf_ok hm9).2.2.2 h1 h2).mono ?_); rintro e w' ⟨g, rfl, -, hg, hb⟩; rw [← hT1] at hg; exact ⟨_, rfl, ⟨g, rfl, hg⟩, hb⟩
  have HA2 : Hid (f.code.1 = 0 → ∀ v u W, MR W ⟨((extK [] cl).length : Nat), shRel N (relB rel) cl N, shTr (tr.map nmz) cl N⟩ v → Rep W (fun _ => True) f u → Calls Try.prog 24 #[v, u] W fun e w' => ∃ x, e = .returned x ∧ kAl C T2 x w' ∧ Below W.heap.size W w') := fun hf v u W h1 h2 => by
    (have hm9 : (mfcode ⟨(N : Int), rel, tr⟩ f).1 = 0 := by unfold mfcode; rw [if_pos (by rw [h0])]; exact hf); refine (allAt_any _ hC1 hC40 _ hsrl hsin _ hstl f v u W (mf_ok hm9).2.2.2 h1 h2).mono ?_; rintro e w' ⟨g, rfl, -, hg, hb⟩; rw [hT2, hC]; exact ⟨_, rfl, ⟨g, rfl, hg⟩, hb⟩
  (have HSs : Hid (∀ v u W, MR W ⟨((extK [] cl).length : Nat), shRel N (relB rel) cl N, shTr (tr.map nmz) cl N⟩ v → MR W ⟨((extK [] cl).length : Nat), shRel N (relB rel) cl N, shTr (tr.map nmz) cl N⟩ u → Calls Try.prog 20 #[v, u] W _) := fun v u W h1 h2 => sameModel_any _ v u W h1 h2); have HRm : Hid (MR w ⟨(N : Int), rel, tr⟩ v) := hm; (have HRf : Hid (Rep w (fun _ => True) f u) := hv); have HLn : Hid (cl.length = N) := hlen; (have HCx : Hid (∀ (u x : Nat), cl[u]? = some x → x < C) := by rw [hC]; exact hcl9); (have HC4 : Hid (C ≤ 40) := by rw [hC]; exact hC40); (have hcn : (c != 0) = false := by rw [← hc]; rfl); (have hNI : (N : Int) ≤ 40 := by omega); clear hT1 hT2 HT9 hcl9 hsm hs0 hC1 hC40 hsin hsrl hstl hsnm hse1 hse2 hse3 P hcl hlen h0 hN1 hN2 hrl htl hin hnm hN40 hc hd; generalize (⟨((extK [] cl).length : Nat), shRel N (relB rel) cl N, shTr (tr.map nmz) cl N⟩ : Mdl) = sm at *; clear hC; generalize f.code = fc at *; obtain ⟨fc, fd⟩ := fc; obtain ⟨ra, rc, ta, tc, rfl, -⟩ := hm; obtain ⟨k, n, ks⟩ := f; obtain ⟨sl, cap, rfl⟩ := slice_shape hv; clear hv; obtain ⟨W, hW⟩ : ∃ W, W = (w.alloc (.cells #[.int .i64 (N : Nat), .slice ra rel.length rc, .slice ta tr.length tc] 30 (0, 0))).alloc (.cells #[.int .i64 k, .string n, .slice sl ks.length cap] 24 (0, 0)) := ⟨_, rfl⟩; (have HB0 : Hid (Below w.heap.size w W) := by rw [hW]; exact below_more (below_more (Below.refl _ w) _) _); (have HM0 : Hid (W.heap[w.heap.size]? = some (.cells #[.int .i64 (N : Nat), .slice ra rel.length rc, .slice ta tr.length tc] 30 (0, 0))) := by rw [hW]; exact alloc_keep (blk_new _ _) _); (have HF0 : Hid (W.heap[w.heap.size + 1]? = some (.cells #[.int .i64 k, .string n, .slice sl ks.length cap] 24 (0, 0))) := by rw [hW]; exact blk_secE _ _ _)
  go_enter Try.func5, Try.ntmps5
  go_wp2_with fail; rw [← hW]; refine (HBe.out _).mono ?_; rintro _ w1 ⟨rfl, hb1⟩; have HB1 : Hid (Below w.heap.size w w1) := below_join HB0.out hb1; have HM1 : Hid (w1.heap[w.heap.size]? = some (.cells #[.int .i64 (N : Nat), .slice ra rel.length rc, .slice ta tr.length tc] 30 (0, 0))) := below_keep hb1 HM0.out; have HF1 : Hid (w1.heap[w.heap.size + 1]? = some (.cells #[.int .i64 k, .string n, .slice sl ks.length cap] 24 (0, 0))) := below_keep hb1 HF0.out; clear hb1 hW HBe HB0 HM0 HF0; obtain ⟨k0, k1, k2, -⟩ := blk3 HM1.out; go_wp2_with fail; refine (HOw.out _ _ (HRm.out.up HB1.out)).mono ?_; rintro _ w3 ⟨xv, rfl, hmr, hb3⟩; have HX3 : Hid (MR w3 ⟨(N : Int), rel, tr⟩ xv) := hmr; obtain ⟨ra2, rc2, ta2, tc2, rfl, -⟩ := hmr; have HB3 : Hid (Below w.heap.size w w3) := below_join HB1.out hb3; have HM3 : Hid (w3.heap[w.heap.size]? = some (.cells #[.int .i64 (N : Nat), .slice ra rel.length rc, .slice ta tr.length tc] 30 (0, 0))) := below_keep hb3 HM1.out; have HF3 : Hid (w3.heap[w.heap.size + 1]? = some (.cells #[.int .i64 k, .string n, .slice sl ks.length cap] 24 (0, 0))) := below_keep hb3 HF1.out; clear hb3 HOw HB1 HM1 HF1 k0 k1 k2; obtain ⟨X, hX⟩ : ∃ X, X = w3.alloc (.cells #[.int .i64 (N : Nat), .slice ra2 rel.length rc2, .slice ta2 tr.length tc2] 30 (0, 0)) := ⟨_, rfl⟩; (have HXB : Hid (Below w3.heap.size w3 X) := by rw [hX]; exact below_more (Below.refl _ _) _); (have HXN : Hid (X.heap[w3.heap.size]? = some (.cells #[.int .i64 (N : Nat), .slice ra2 rel.length rc2, .slice ta2 tr.length tc2] 30 (0, 0))) := by rw [hX]; exact blk_new _ _); have hXe := hX.symm; clear hX; obtain ⟨k0, k1, k2, -⟩ := blk3 HXN.out; go_wp2_with fail; refine (HCl.out _ _ (HX3.out.up HXB.out)).mono ?_; rintro _ w4 ⟨la, lc, rfl, hl4, hb4⟩; have HB4 : Hid (Below w3.heap.size w3 w4) := below_join HXB.out hb4; have HN4 : Hid (w4.heap[w3.heap.size]? = some (.cells #[.int .i64 (N : Nat), .slice ra2 rel.length rc2, .slice ta2 tr.length tc2] 30 (0, 0))) := below_keep hb4 HXN.out; have HL4 : Hid (NL w4 (.slice la N lc) cl) := hl4; clear hl4; have h34 := lt_of_block HN4.out; clear hb4 HCl hXe k0 k1 k2 HXB HXN; obtain ⟨X, hX⟩ : ∃ X, X = w4.alloc (.cells #[.int .i64 c, .int .i64 d] 32 (0, 0)) := ⟨_, rfl⟩; (have HXB : Hid (Below w4.heap.size w4 X) := by rw [hX]; exact below_more (Below.refl _ _) _); (have HX1 : Hid (X.heap[w4.heap.size]? = some (.cells #[.int .i64 c, .int .i64 d] 32 (0, 0))) := by rw [hX]; exact blk_new _ _); have hXe := hX.symm; clear hX; obtain ⟨k0, k1, k2, -⟩ := blk3 (below_keep HXB.out HN4.out); go_wp2_with fail; refine (HSh.out _ _ (HX3.out.up (below_join HB4.out HXB.out))).mono ?_; rintro _ w5 ⟨su, rfl, hs5, hb5⟩; have HB5 : Hid (Below w3.heap.size w3 w5) := below_join (below_join HB4.out HXB.out) hb5; have HN5 : Hid (w5.heap[w3.heap.size]? = some (.cells #[.int .i64 (N : Nat), .slice ra2 rel.length rc2, .slice ta2 tr.length tc2] 30 (0, 0))) := below_keep hb5 (below_keep HXB.out HN4.out); have HE5 : Hid (w5.heap[w4.heap.size]? = some (.cells #[.int .i64 c, .int .i64 d] 32 (0, 0))) := below_keep hb5 HX1.out; have HL5 : Hid (NL w5 (.slice la N lc) cl) := HL4.out.up (below_join HXB.out hb5); have HS5 : Hid (MR w5 sm su) := hs5; clear HL4; obtain ⟨sa, sc, sb, sd, rfl, -⟩ := hs5; have h45 := lt_of_block HE5.out; clear hb5 HSh hXe k0 k1 k2 HXB HX1 HN4 HB4; obtain ⟨X, hX⟩ : ∃ X, X = (w5.alloc (.cells #[.int .i64 sm.n, .slice sa sm.rel.length sc, .slice sb sm.tr.length sd] 30 (0, 0))).alloc (.cells #[.int .i64 c, .int .i64 d] 32 (0, 0)) := ⟨_, rfl⟩; (have HXB : Hid (Below w5.heap.size w5 X) := by rw [hX]; exact below_more (below_more (Below.refl _ _) _) _); (have HX1 : Hid (X.heap[w5.heap.size]? = some (.cells #[.int .i64 sm.n, .slice sa sm.rel.length sc, .slice sb sm.tr.length sd] 30 (0, 0))) := by rw [hX]; exact alloc_keep (blk_new _ _) _); (have HX2 : Hid (X.heap[w5.heap.size + 1]? = some (.cells #[.int .i64 c, .int .i64 d] 32 (0, 0))) := by rw [hX]; exact blk_secE _ _ _); have hXe := hX.symm; clear hX; obtain ⟨k0, k1, k2, -⟩ := blk3 (below_keep HXB.out (below_keep HB5.out HM3.out)); go_wp2_with fail; refine (HMf.out _ _ (HRm.out.up (below_join HB3.out (below_join HB5.out HXB.out)))).mono ?_
  rintro _ w7 ⟨rfl, hb7⟩; obtain ⟨Y, hY⟩ : ∃ Y, Y = w7.alloc (.cells #[.int .i64 c, .int .i64 d] 32 (0, 0)) := ⟨_, rfl⟩; (have hbY : Below w5.heap.size w5 Y := by rw [hY]; exact below_more (below_join HXB.out hb7) _); have H3Y : Hid (Below w3.heap.size w3 Y) := below_join HB5.out hbY; have HYB : Hid (Below w.heap.size w Y) := below_join HB3.out H3Y.out; have HYm : Hid (Y.heap[w.heap.size]? = some (.cells #[.int .i64 (N : Nat), .slice ra rel.length rc, .slice ta tr.length tc] 30 (0, 0))) := below_keep H3Y.out HM3.out; have HYf : Hid (Y.heap[w.heap.size + 1]? = some (.cells #[.int .i64 k, .string n, .slice sl ks.length cap] 24 (0, 0))) := below_keep H3Y.out HF3.out; have HYn : Hid (Y.heap[w3.heap.size]? = some (.cells #[.int .i64 (N : Nat), .slice ra2 rel.length rc2, .slice ta2 tr.length tc2] 30 (0, 0))) := below_keep hbY HN5.out; have HY1 : Hid (Y.heap[w4.heap.size]? = some (.cells #[.int .i64 c, .int .i64 d] 32 (0, 0))) := below_keep hbY HE5.out; (have HYs : Hid (Y.heap[w5.heap.size]? = some (.cells #[.int .i64 sm.n, .slice sa sm.rel.length sc, .slice sb sm.tr.length sd] 30 (0, 0))) := by rw [hY]; exact alloc_keep (below_keep hb7 HX1.out) _); (have HY2 : Hid (Y.heap[w5.heap.size + 1]? = some (.cells #[.int .i64 c, .int .i64 d] 32 (0, 0))) := by rw [hY]; exact alloc_keep (below_keep hb7 HX2.out) _); (have HYw : Hid (Y.heap[w7.heap.size]? = some (.cells #[.int .i64 c, .int .i64 d] 32 (0, 0))) := by rw [hY]; exact blk_new _ _); have HYx : Hid (MR Y ⟨(N : Int), rel, tr⟩ (.agg #[.int .i64 (N : Nat), .slice ra2 rel.length rc2, .slice ta2 tr.length tc2])) := HX3.out.up H3Y.out; have HYr : Hid (MR Y ⟨(N : Int), rel, tr⟩ (.agg #[.int .i64 (N : Nat), .slice ra rel.length rc, .slice ta tr.length tc])) := HRm.out.up HYB.out; have HYl : Hid (NL Y (.slice la N lc) cl) := HL5.out.up hbY; have HYq : Hid (MR Y sm (.agg #[.int .i64 sm.n, .slice sa sm.rel.length sc, .slice sb sm.tr.length sd])) := HS5.out.up hbY; clear HL5 HS5; have hYe := hY.symm; clear hY hbY hb7 HXB HX1 HX2 k0 k1 k2 HB5 HN5 HE5 HX3 HM3 HF3 HB3 HMf h34 h45; obtain ⟨k0, k1, k2, -⟩ := blk3 HYm.out; obtain ⟨n0, n1, n2, -⟩ := blk3 HYn.out; obtain ⟨e0, e1, -⟩ := blk2 HY1.out; obtain ⟨g0, g1, -⟩ := blk2 HY2.out; obtain ⟨i0, i1, -⟩ := blk2 HYw.out; go_wp2_with fail; refine (HSm.out _ _ _ HYx.out HYr.out).mono ?_; rintro _ w8 ⟨rfl, hb8⟩; have HB8 : Hid (Below w.heap.size w w8) := below_join HYB.out hb8; have H8m : Hid (w8.heap[w.heap.size]? = some (.cells #[.int .i64 (N : Nat), .slice ra rel.length rc, .slice ta tr.length tc] 30 (0, 0))) := below_keep hb8 HYm.out; have H8f : Hid (w8.heap[w.heap.size + 1]? = some (.cells #[.int .i64 k, .string n, .slice sl ks.length cap] 24 (0, 0))) := below_keep hb8 HYf.out; have H8s : Hid (w8.heap[w5.heap.size]? = some (.cells #[.int .i64 sm.n, .slice sa sm.rel.length sc, .slice sb sm.tr.length sd] 30 (0, 0))) := below_keep hb8 HYs.out; have H8w : Hid (w8.heap[w7.heap.size]? = some (.cells #[.int .i64 c, .int .i64 d] 32 (0, 0))) := below_keep hb8 HYw.out; have H8l : Hid (NL w8 (.slice la N lc) cl) := HYl.out.up hb8; have H8q : Hid (MR w8 sm (.agg #[.int .i64 sm.n, .slice sa sm.rel.length sc, .slice sb sm.tr.length sd])) := HYq.out.up hb8; have H8r : Hid (MR w8 ⟨(N : Int), rel, tr⟩ (.agg #[.int .i64 (N : Nat), .slice ra rel.length rc, .slice ta tr.length tc])) := HRm.out.up HB8.out; clear HYl HYq; clear hb8 hXe hYe HYx HYr HYm HYf HYn HY1 HYs HY2 HYw HYB H3Y HSm k0 k1 k2 n0 n1 n2 e0 e1 g0 g1 i0 i1; obtain ⟨s0, s1, s2, -⟩ := blk3 H8s.out; obtain ⟨i0, i1, -⟩ := blk2 H8w.out; obtain ⟨k0, k1, k2, -⟩ := blk3 H8m.out; go_wp2_with fail; refine (HCo.out _ HB8.out).mono ?_; rintro _ w9 ⟨go, rfl, hl9, hb9⟩; have HB9 : Hid (Below w.heap.size w w9) := below_join HB8.out hb9; have H9m : Hid (w9.heap[w.heap.size]? = some (.cells #[.int .i64 (N : Nat), .slice ra rel.length rc, .slice ta tr.length tc] 30 (0, 0))) := below_keep hb9 H8m.out; have H9f : Hid (w9.heap[w.heap.size + 1]? = some (.cells #[.int .i64 k, .string n, .slice sl ks.length cap] 24 (0, 0))) := below_keep hb9 H8f.out; have H9s : Hid (w9.heap[w5.heap.size]? = some (.cells #[.int .i64 sm.n, .slice sa sm.rel.length sc, .slice sb sm.tr.length sd] 30 (0, 0))) := below_keep hb9 H8s.out
  have H9l : Hid (NL w9 (.slice la N lc) cl) := H8l.out.up hb9; have H9o : Hid (NL w9 (.slice (some ⟨go, 0, none⟩) N N) cl) := hl9; have H9q : Hid (MR w9 sm (.agg #[.int .i64 sm.n, .slice sa sm.rel.length sc, .slice sb sm.tr.length sd])) := H8q.out.up hb9; clear hl9 hb9 HB8 H8m H8f H8s H8l H8q H8r H8w s0 s1 s2 i0 i1 k0 k1 k2 HCo; go_wp2_with fail; (refine wp_region_free (by kernel_rfl) [fun v _ => v = (.slice la N lc), fun v _ => v = (.int .i64 (N : Nat)), fun v _ => v = (.pointer (some ⟨w.heap.size, 0, none⟩)), fun v _ => v = (.int .i64 (N : Nat)), fun v _ => v = (.bool false), fun v _ => v = (.bool false), fun v _ => v = (.agg #[.int .i64 sm.n, .slice sa sm.rel.length sc, .slice sb sm.tr.length sd]), fun v _ => v = (.agg #[.int .i64 (N : Nat), .slice ra rel.length rc, .slice ta tr.length tc]), kMd sm, fun v _ => v = (.bool true), fun v _ => v = (.bool false), fun v _ => v = (.bool false)] ?_ (by kernel_rfl) (by kernel_rfl) 133 rfl (by kernel_rfl) ?_ ?_)
  · intro p hp
    simp only [List.mem_cons, List.not_mem_nil, or_false] at hp
    rcases hp with rfl | rfl | rfl | rfl | rfl | rfl | rfl | rfl | rfl | rfl | rfl | rfl
    · exact fun _ _ _ h _ => h
    · exact fun _ _ _ h _ => h
    · exact fun _ _ _ h _ => h
    · exact fun _ _ _ h _ => h
    · exact fun _ _ _ h _ => h
    · exact fun _ _ _ h _ => h
    · exact fun _ _ _ h _ => h
    · exact fun _ _ _ h _ => h
    · exact kMd_stays _
    · exact fun _ _ _ h _ => h
    · exact fun _ _ _ h _ => h
    · exact fun _ _ _ h _ => h
  · refine ⟨?_, ?_, ?_, ?_, ?_, ?_, ?_, ?_, ?_, ?_, ?_, ?_, trivial⟩
    · intro a wx hB hold hdep K hK
      have t6 : a.tmps[6]? = some (.slice la N lc) := hold.2.2 6 rfl; clear hold hdep; go_simp; exact hK.out _ _ rfl (Below.refl _ _)
    · intro a wx hB hold hdep K hK
      obtain ⟨v60, t60, p60⟩ := hdep 0 rfl _ 60 rfl rfl; have e60 : v60 = (.slice la N lc) := p60; subst e60; clear hold hdep; go_simp; exact hK.out _ _ rfl (Below.refl _ _)
    · intro a wx hB hold hdep K hK
      have t2 : a.tmps[2]? = some (.pointer (some ⟨w.heap.size, 0, none⟩)) := hold.2.2 2 rfl; clear hold hdep; go_simp; exact hK.out _ _ rfl (Below.refl _ _)
    · intro a wx hB hold hdep K hK
      obtain ⟨v62, t62, p62⟩ := hdep 2 rfl _ 62 rfl rfl; have e62 : v62 = (.pointer (some ⟨w.heap.size, 0, none⟩)) := p62; subst e62; obtain ⟨q0, q1, q2, -⟩ := blk3 (below_keep hB H9m.out); clear hold hdep; go_simp; exact hK.out _ _ rfl (Below.refl _ _)
    · intro a wx hB hold hdep K hK
      obtain ⟨v61, t61, p61⟩ := hdep 1 rfl _ 61 rfl rfl; have e61 : v61 = (.int .i64 (N : Nat)) := p61; subst e61; obtain ⟨v63, t63, p63⟩ := hdep 3 rfl _ 63 rfl rfl; have e63 : v63 = (.int .i64 (N : Nat)) := p63; subst e63; clear hold hdep; go_simp; exact hK.out _ _ rfl (Below.refl _ _)
    · intro a wx hB hold hdep K hK
      obtain ⟨v64, t64, p64⟩ := hdep 4 rfl _ 64 rfl rfl; have e64 : v64 = (.bool false) := p64; subst e64; clear hold hdep; go_simp; exact hK.out _ _ rfl (Below.refl _ _)
    · intro a wx hB hold hdep K hK
      obtain ⟨v65, t65, p65⟩ := hdep 5 rfl _ 65 rfl rfl; have e65 : v65 = (.bool false) := p65; subst e65; have t8 : a.tmps[8]? = some (.pointer (some ⟨w5.heap.size, 0, none⟩)) := hold.2.2 8 rfl; obtain ⟨q0, q1, q2, -⟩ := blk3 (below_keep hB H9s.out); clear hold hdep; go_simp; exact hK.out _ _ rfl (Below.refl _ _)
    · intro a wx hB hold hdep K hK
      obtain ⟨v65, t65, p65⟩ := hdep 5 rfl _ 65 rfl rfl; have e65 : v65 = (.bool false) := p65; subst e65; have t2 : a.tmps[2]? = some (.pointer (some ⟨w.heap.size, 0, none⟩)) := hold.2.2 2 rfl; obtain ⟨q0, q1, q2, -⟩ := blk3 (below_keep hB H9m.out); clear hold hdep; go_simp; exact hK.out _ _ rfl (Below.refl _ _)
    · intro a wx hB hold hdep K hK
      obtain ⟨v65, t65, p65⟩ := hdep 5 rfl _ 65 rfl rfl; have e65 : v65 = (.bool false) := p65; subst e65; obtain ⟨v67, t67, p67⟩ := hdep 7 rfl _ 67 rfl rfl; have e67 : v67 = (.agg #[.int .i64 (N : Nat), .slice ra rel.length rc, .slice ta tr.length tc]) := p67; subst e67; have HW : Hid (Calls Try.prog 23 #[.agg #[.int .i64 (N : Nat), .slice ra rel.length rc, .slice ta tr.length tc]] wx _) := HSr.out _ (below_join HB9.out hB); clear hold hdep; go_simp; refine HW.out.mono ?_; rintro _ w9 ⟨x9, rfl, hr9, hb9⟩; have H9 : Hid ((kMd sm) x9 w9) := hr9; clear hr9; go_simp; exact hK.out _ _ H9.out hb9
    · intro a wx hB hold hdep K hK
      obtain ⟨v65, t65, p65⟩ := hdep 5 rfl _ 65 rfl rfl; have e65 : v65 = (.bool false) := p65; subst e65; obtain ⟨v66, t66, p66⟩ := hdep 6 rfl _ 66 rfl rfl; have e66 : v66 = (.agg #[.int .i64 sm.n, .slice sa sm.rel.length sc, .slice sb sm.tr.length sd]) := p66; subst e66; obtain ⟨v68, t68, p68⟩ := hdep 8 rfl _ 68 rfl rfl; have P68 : Hid ((kMd sm) v68 wx) := p68; clear p68; have HW : Hid (Calls Try.prog 20 #[.agg #[.int .i64 sm.n, .slice sa sm.rel.length sc, .slice sb sm.tr.length sd], v68] wx _) := HSs.out _ _ _ (H9q.out.up hB) P68.out; clear hold hdep; go_simp; refine HW.out.mono ?_; rintro _ w9 ⟨rfl, hb9⟩; go_simp; exact hK.out _ _ rfl hb9
    · intro a wx hB hold hdep K hK
      obtain ⟨v65, t65, p65⟩ := hdep 5 rfl _ 65 rfl rfl; have e65 : v65 = (.bool false) := p65; subst e65; obtain ⟨v69, t69, p69⟩ := hdep 9 rfl _ 69 rfl rfl; have e69 : v69 = (.bool true) := p69; subst e69; clear hold hdep; go_simp; exact hK.out _ _ rfl (Below.refl _ _)
    · intro a wx hB hold hdep K hK
      obtain ⟨v65, t65, p65⟩ := hdep 5 rfl _ 65 rfl rfl; have e65 : v65 = (.bool false) := p65; subst e65; obtain ⟨v70, t70, p70⟩ := hdep 10 rfl _ 70 rfl rfl; have e70 : v70 = (.bool false) := p70; subst e70; clear hold hdep; go_simp; exact hK.out _ _ rfl (Below.refl _ _)
  · intro a wx hB hold hgot
    obtain ⟨vZ, tvZ, pvZ⟩ := hgot 11 _ 71 rfl rfl; have evZ : vZ = (.bool false) := pvZ; subst evZ; have HBx : Hid (Below w9.heap.size w9 wx) := hB; obtain ⟨tm, df⟩ := a; (obtain ⟨ys, hys, htm, rfl⟩ := frame_mid2 60 12 (by kernel_rfl) (Nat.le_of_ble_eq_true rfl) hold); obtain ⟨x60, x61, x62, x63, x64, x65, x66, x67, x68, x69, x70, x71, rfl⟩ := rowC12 ys hys; simp only [List.take_succ_cons, List.take_zero, List.drop_succ_cons, List.drop_zero, List.cons_append, List.nil_append] at htm; subst htm; obtain rfl : x71 = _ := someInjM tvZ; clear hys hold hgot tvZ hB; obtain ⟨V, hV⟩ : ∃ V, V = wx := ⟨_, rfl⟩; subst hV; have HVB : Hid (Below w.heap.size w V) := below_join HB9.out HBx.out; have HVm : Hid (V.heap[w.heap.size]? = some (.cells #[.int .i64 (N : Nat), .slice ra rel.length rc, .slice ta tr.length tc] 30 (0, 0))) := below_keep HBx.out H9m.out; have HVf : Hid (V.heap[w.heap.size + 1]? = some (.cells #[.int .i64 k, .string n, .slice sl ks.length cap] 24 (0, 0))) := below_keep HBx.out H9f.out; have HVs : Hid (V.heap[w5.heap.size]? = some (.cells #[.int .i64 sm.n, .slice sa sm.rel.length sc, .slice sb sm.tr.length sd] 30 (0, 0))) := below_keep HBx.out H9s.out; have HVl : Hid (NL V (.slice la N lc) cl) := H9l.out.up HBx.out; have HVo : Hid (NL V (.slice (some ⟨go, 0, none⟩) N N) cl) := H9o.out.up HBx.out; have HVq : Hid (MR V sm (.agg #[.int .i64 sm.n, .slice sa sm.rel.length sc, .slice sb sm.tr.length sd])) := H9q.out.up HBx.out; clear HBx HB9 H9m H9f H9s H9l H9o H9q; go_wp2_with fail; obtain ⟨a1, c1, e1, k1, hc1⟩ := HVl.out.at; obtain ⟨a2, c2, e2, k2, hc2⟩ := HVo.out.at; rw [HLn.out] at e1 e2 k1; simp only [Value.slice.injEq, true_and] at e1 e2; obtain ⟨rfl, rfl⟩ := e1; obtain ⟨rfl, rfl⟩ := e2; have H1 : Hid (∀ (j n : Nat), cl[j]? = some n → ∃ b, la = some ⟨b, 0, none⟩ ∧ V.cell? ⟨b, j, none⟩ = some (.int .i64 (n : Nat))) := hc1
    have H2 : Hid (∀ (j n : Nat), cl[j]? = some n → V.cell? ⟨go, j, none⟩ = some (.int .i64 (n : Nat))) := fun j n hj => by
      obtain ⟨b, e, h⟩ := hc2 j n hj
      cases e
      exact h
    (have hk1 : (N : Int) ≤ (lc : Int) := by omega); clear hc1 hc2 k1 k2
    go_loopg [12] N (fun g c wr => ∃ i, i ≤ N ∧ g = N - i ∧ c = .int .i64 (i : Nat) ∧ Hid (Below V.heap.size V wr))
    case atStart => exact ⟨0, by omega, by omega, rfl, Below.refl _ _⟩
    case round =>
      obtain ⟨i, hi, hg, rfl, HB⟩ := hrel; have HGk : Hid (gk = N - i) := hg; clear hg; obtain ⟨q0, q1, q2, -⟩ := blk3 (below_keep HB.out HVm.out); by_cases hlt : i < N
      · obtain ⟨x, hx⟩ : ∃ x, cl[i]? = some x := ⟨_, List.getElem?_eq_getElem (by rw [HLn.out]; exact hlt)⟩
        obtain ⟨b1, rfl, d1⟩ := H1.out i x hx; have d2 := H2.out i x hx; have g1 := (HB.out.cell (lt_of_cell d1)).trans d1; have g2 := (HB.out.cell (lt_of_cell d2)).trans d2; (have hltI : (i : Int) < (N : Int) := by omega); (have hltc : (i : Int) < (lc : Int) := by omega); have HI : Hid (i < N) := hlt; (have hnq : ((x : Int) != (x : Int)) = false := by simp); clear hlt hi hx d1 d2; go_wp2_with fail
        go_quiet (fail)
        go_wp2_with fail
        go_roundg (N - (i + 1))
        case measure => have := HGk.out; have := HI.out; omega
        case rel => exact ⟨i + 1, HI.out, rfl, by go_num, below_drewN HB.out _⟩
      · have hii : N = i := by omega
        subst hii; (have hge : ¬ (N : Int) < (N : Int) := by omega); clear hlt hi; obtain ⟨U, hU⟩ : ∃ U, U = wr := ⟨_, rfl⟩; subst hU; have HUB : Hid (Below w.heap.size w U) := below_join HVB.out HB.out; have HUm : Hid (U.heap[w.heap.size]? = some (.cells #[.int .i64 (N : Nat), .slice ra rel.length rc, .slice ta tr.length tc] 30 (0, 0))) := below_keep HB.out HVm.out; have HUf : Hid (U.heap[w.heap.size + 1]? = some (.cells #[.int .i64 k, .string n, .slice sl ks.length cap] 24 (0, 0))) := below_keep HB.out HVf.out; have HUs : Hid (U.heap[w5.heap.size]? = some (.cells #[.int .i64 sm.n, .slice sa sm.rel.length sc, .slice sb sm.tr.length sd] 30 (0, 0))) := below_keep HB.out HVs.out; have HUl : Hid (NL U (.slice la N lc) cl) := HVl.out.up HB.out; have HUq : Hid (MR U sm (.agg #[.int .i64 sm.n, .slice sa sm.rel.length sc, .slice sb sm.tr.length sd])) := HVq.out.up HB.out; clear HVB HVm HVf HVs HVl HVo HVq H1 H2 HB HGk; obtain ⟨s0, s1, s2, -⟩ := blk3 HUs.out; go_wp2_with fail; refine (HSt.out _ _ HUq.out).mono ?_; rintro _ u1 ⟨tu, rfl, ht1, hbu⟩; have HT1 : Hid (MR u1 sm tu) := ht1; obtain ⟨pa, pc, pb, pd, rfl, -⟩ := ht1; obtain ⟨X, hX⟩ : ∃ X, X = (u1.alloc (.cells #[.int .i64 sm.n, .slice pa sm.rel.length pc, .slice pb sm.tr.length pd] 30 (0, 0))).alloc (.cells #[.int .i64 c, .int .i64 d] 32 (0, 0)) := ⟨_, rfl⟩; (have HXB : Hid (Below u1.heap.size u1 X) := by rw [hX]; exact below_more (below_more (Below.refl _ _) _) _); (have HX1 : Hid (X.heap[u1.heap.size]? = some (.cells #[.int .i64 sm.n, .slice pa sm.rel.length pc, .slice pb sm.tr.length pd] 30 (0, 0))) := by rw [hX]; exact alloc_keep (blk_new _ _) _); (have HX2 : Hid (X.heap[u1.heap.size + 1]? = some (.cells #[.int .i64 c, .int .i64 d] 32 (0, 0))) := by rw [hX]; exact blk_secE _ _ _); have HUX : Hid (Below U.heap.size U X) := below_join hbu HXB.out; have hXe := hX.symm; clear hX hbu s0 s1 s2 HSt q0 q1 q2; obtain ⟨s0, s1, s2, -⟩ := blk3 (below_keep HUX.out HUs.out); obtain ⟨r0, r1, r2, -⟩ := blk3 HX1.out; obtain ⟨e0, e1, -⟩ := blk2 HX2.out; go_wp2_with fail; refine (HSs.out _ _ _ (HUq.out.up HUX.out) (HT1.out.up HXB.out)).mono ?_; rintro _ u2 ⟨rfl, hb2⟩; have HU2 : Hid (Below U.heap.size U u2) := below_join HUX.out hb2; clear hb2 hXe HX1 HX2 HXB HT1 HUX HSs s0 s1 s2 r0 r1 r2 e0 e1; obtain ⟨a0, a1, a2, -⟩ := blk3 (below_keep HU2.out HUf.out); go_wp2_with fail; refine (HVf.out _ _ (HRf.out.up (below_join HUB.out HU2.out))).mono ?_; rintro _ u3 ⟨⟨bb, rfl, -⟩, hb3⟩; have HU3 : Hid (Below U.heap.size U u3) := below_join HU2.out hb3; clear hb3 HU2 a0 a1 a2 HVf; obtain ⟨a0, a1, a2, -⟩ := blk3 (below_keep HU3.out HUf.out)
        cases bb
        case true =>
          go_wp2_with fail; go_ret; exact ⟨rfl, below_join HUB.out HU3.out⟩
        go_wp2_with fail; refine (HFf.out _ _ (HRf.out.up (below_join HUB.out HU3.out))).mono ?_; rintro _ u4 ⟨rfl, hb4⟩; have HU4 : Hid (Below U.heap.size U u4) := below_join HU3.out hb4; have hF0 := fault_code fc fd; clear hb4 HU3 a0 a1 a2 HFf; by_cases hfc : fc = 0
        case neg =>
          (have hfn : (fc != 0) = true := by simpa using hfc); go_wp2_with fail; go_ret; exact ⟨rfl, below_join HUB.out HU4.out⟩
        (have hfn : (fc != 0) = false := by simpa using hfc); (have HA1 : Hid (∀ v u W, MR W ⟨(N : Int), rel, tr⟩ v → Rep W (fun _ => True) (.mk k n ks) u → Calls Try.prog 24 #[v, u] W _) := HA1.out hfc); (have HA2 : Hid (∀ v u W, MR W sm v → Rep W (fun _ => True) (.mk k n ks) u → Calls Try.prog 24 #[v, u] W _) := HA2.out hfc); clear hfc; go_wp2_with fail; have H4B : Hid (Below w.heap.size w u4) := below_join HUB.out HU4.out; have H4m : Hid (u4.heap[w.heap.size]? = some (.cells #[.int .i64 (N : Nat), .slice ra rel.length rc, .slice ta tr.length tc] 30 (0, 0))) := below_keep HU4.out HUm.out; have H4f : Hid (u4.heap[w.heap.size + 1]? = some (.cells #[.int .i64 k, .string n, .slice sl ks.length cap] 24 (0, 0))) := below_keep HU4.out HUf.out; have H4s : Hid (u4.heap[w5.heap.size]? = some (.cells #[.int .i64 sm.n, .slice sa sm.rel.length sc, .slice sb sm.tr.length sd] 30 (0, 0))) := below_keep HU4.out HUs.out; have H4l : Hid (NL u4 (.slice la N lc) cl) := HUl.out.up HU4.out; have H4q : Hid (MR u4 sm (.agg #[.int .i64 sm.n, .slice sa sm.rel.length sc, .slice sb sm.tr.length sd])) := HUq.out.up HU4.out; clear HUB HUm HUf HUs HUl HUq HU4; (refine wp_region_free (by kernel_rfl) [fun v _ => v = (.agg #[.int .i64 (N : Nat), .slice ra rel.length rc, .slice ta tr.length tc]), fun v _ => v = (.agg #[.int .i64 k, .string n, .slice sl ks.length cap]), kAl N T1, fun v _ => v = (.agg #[.int .i64 sm.n, .slice sa sm.rel.length sc, .slice sb sm.tr.length sd]), fun v _ => v = (.agg #[.int .i64 k, .string n, .slice sl ks.length cap]), kAl C T2, kAl N T1, kAl C T2] ?_ (by kernel_rfl) (by kernel_rfl) 133 rfl (by kernel_rfl) ?_ ?_)
        · intro p hp
          simp only [List.mem_cons, List.not_mem_nil, or_false] at hp
          rcases hp with rfl | rfl | rfl | rfl | rfl | rfl | rfl | rfl
          · exact fun _ _ _ h _ => h
          · exact fun _ _ _ h _ => h
          · exact kAl_stays _ _
          · exact fun _ _ _ h _ => h
          · exact fun _ _ _ h _ => h
          · exact kAl_stays _ _
          · exact kAl_stays _ _
          · exact kAl_stays _ _
        · refine ⟨?_, ?_, ?_, ?_, ?_, ?_, ?_, ?_, trivial⟩
          · intro a wx hB hold hdep K hK
            have t2 : a.tmps[2]? = some (.pointer (some ⟨w.heap.size, 0, none⟩)) := hold.2.2 2 rfl; obtain ⟨q0, q1, q2, -⟩ := blk3 (below_keep hB H4m.out); clear hold hdep; go_simp; exact hK.out _ _ rfl (Below.refl _ _)
          · intro a wx hB hold hdep K hK
            have t3 : a.tmps[3]? = some (.pointer (some ⟨w.heap.size + 1, 0, none⟩)) := hold.2.2 3 rfl; obtain ⟨q0, q1, q2, -⟩ := blk3 (below_keep hB H4f.out); clear hold hdep; go_simp; exact hK.out _ _ rfl (Below.refl _ _)
          · intro a wx hB hold hdep K hK
            obtain ⟨v109, t109, p109⟩ := hdep 0 rfl _ 109 rfl rfl; have e109 : v109 = (.agg #[.int .i64 (N : Nat), .slice ra rel.length rc, .slice ta tr.length tc]) := p109; subst e109; obtain ⟨v110, t110, p110⟩ := hdep 1 rfl _ 110 rfl rfl; have e110 : v110 = (.agg #[.int .i64 k, .string n, .slice sl ks.length cap]) := p110; subst e110; have HW : Hid (Calls Try.prog 24 #[.agg #[.int .i64 (N : Nat), .slice ra rel.length rc, .slice ta tr.length tc], .agg #[.int .i64 k, .string n, .slice sl ks.length cap]] wx _) := HA1.out _ _ _ (HRm.out.up (below_join H4B.out hB)) (HRf.out.up (below_join H4B.out hB)); clear hold hdep; go_simp; refine HW.out.mono ?_; rintro _ w9 ⟨x9, rfl, hr9, hb9⟩; have H9 : Hid ((kAl N T1) x9 w9) := hr9; clear hr9; go_simp; exact hK.out _ _ H9.out hb9
          · intro a wx hB hold hdep K hK
            have t8 : a.tmps[8]? = some (.pointer (some ⟨w5.heap.size, 0, none⟩)) := hold.2.2 8 rfl; obtain ⟨q0, q1, q2, -⟩ := blk3 (below_keep hB H4s.out); clear hold hdep; go_simp; exact hK.out _ _ rfl (Below.refl _ _)
          · intro a wx hB hold hdep K hK
            have t3 : a.tmps[3]? = some (.pointer (some ⟨w.heap.size + 1, 0, none⟩)) := hold.2.2 3 rfl; obtain ⟨q0, q1, q2, -⟩ := blk3 (below_keep hB H4f.out); clear hold hdep; go_simp; exact hK.out _ _ rfl (Below.refl _ _)
          · intro a wx hB hold hdep K hK
            obtain ⟨v112, t112, p112⟩ := hdep 3 rfl _ 112 rfl rfl; have e112 : v112 = (.agg #[.int .i64 sm.n, .slice sa sm.rel.length sc, .slice sb sm.tr.length sd]) := p112; subst e112; obtain ⟨v113, t113, p113⟩ := hdep 4 rfl _ 113 rfl rfl; have e113 : v113 = (.agg #[.int .i64 k, .string n, .slice sl ks.length cap]) := p113; subst e113; have HW : Hid (Calls Try.prog 24 #[.agg #[.int .i64 sm.n, .slice sa sm.rel.length sc, .slice sb sm.tr.length sd], .agg #[.int .i64 k, .string n, .slice sl ks.length cap]] wx _) := HA2.out _ _ _ (H4q.out.up hB) (HRf.out.up (below_join H4B.out hB)); clear hold hdep; go_simp; refine HW.out.mono ?_; rintro _ w9 ⟨x9, rfl, hr9, hb9⟩; have H9 : Hid ((kAl C T2) x9 w9) := hr9; clear hr9; go_simp; exact hK.out _ _ H9.out hb9
          · intro a wx hB hold hdep K hK
            obtain ⟨v111, t111, p111⟩ := hdep 2 rfl _ 111 rfl rfl; have P111 : Hid ((kAl N T1) v111 wx) := p111; clear p111; clear hold hdep; go_simp; exact hK.out _ _ P111.out (Below.refl _ _)
          · intro a wx hB hold hdep K hK
            obtain ⟨v114, t114, p114⟩ := hdep 5 rfl _ 114 rfl rfl; have P114 : Hid ((kAl C T2) v114 wx) := p114; clear p114; clear hold hdep; go_simp; exact hK.out _ _ P114.out (Below.refl _ _)
        · intro a wx hB hold hgot
          obtain ⟨vA, tvA, pvA⟩ := hgot 6 _ 15 rfl rfl; obtain ⟨vB, tvB, pvB⟩ := hgot 7 _ 16 rfl rfl; have HBx : Hid (Below u4.heap.size u4 wx) := hB; obtain ⟨tm, df⟩ := a; (obtain ⟨ys, zs, hys, hzs, htm, rfl⟩ := frame_two 15 2 92 6 17 109 115 rfl rfl rfl (by kernel_rfl) (Nat.le_of_ble_eq_true rfl) hold); obtain ⟨y15, y16, rfl⟩ := rowC2 ys hys; obtain ⟨y109, y110, y111, y112, y113, y114, rfl⟩ := rowC6 zs hzs; simp only [List.take_succ_cons, List.take_zero, List.drop_succ_cons, List.drop_zero, List.cons_append, List.nil_append] at htm; subst htm; obtain ⟨gA, eA, hA⟩ := pvA; obtain ⟨gB, eB, hBB⟩ := pvB; obtain rfl : y15 = _ := (someInjM tvA).trans eA; obtain rfl : y16 = _ := (someInjM tvB).trans eB; obtain ⟨V, hV⟩ : ∃ V, V = wx := ⟨_, rfl⟩; subst hV; have HVA : Hid (V.heap[gA]? = some (.cells (outC N N T1) 4 (0, 0))) := hA; have HVC : Hid (V.heap[gB]? = some (.cells (outC C C T2) 4 (0, 0))) := hBB; have HVB : Hid (Below w.heap.size w V) := below_join H4B.out HBx.out; have HVm : Hid (V.heap[w.heap.size]? = some (.cells #[.int .i64 (N : Nat), .slice ra rel.length rc, .slice ta tr.length tc] 30 (0, 0))) := below_keep HBx.out H4m.out; have HVl : Hid (NL V (.slice la N lc) cl) := H4l.out.up HBx.out; clear hys hzs hold hgot tvA tvB eA eB hA hBB hB HBx H4B H4m H4f H4s H4l H4q HA1 HA2; obtain ⟨a1, c1, e1, k1, hc1⟩ := HVl.out.at; rw [HLn.out] at e1 k1; simp only [Value.slice.injEq, true_and] at e1; obtain ⟨rfl, rfl⟩ := e1; have H1 : Hid (∀ (j n : Nat), cl[j]? = some n → ∃ b, la = some ⟨b, 0, none⟩ ∧ V.cell? ⟨b, j, none⟩ = some (.int .i64 (n : Nat))) := hc1; clear hc1 k1; go_wp2_with fail
          go_loopg [17] N (fun g c wr => ∃ i, i ≤ N ∧ g = N - i ∧ c = .int .i64 (i : Nat) ∧ Hid (Below V.heap.size V wr))
          case atStart => exact ⟨0, by omega, by omega, rfl, Below.refl _ _⟩
          case round =>
            obtain ⟨i, hi, hg, rfl, HB⟩ := hrel; have HGk : Hid (gk = N - i) := hg; clear hg; obtain ⟨q0, q1, q2, -⟩ := blk3 (below_keep HB.out HVm.out); by_cases hlt : i < N
            · obtain ⟨x, hx⟩ : ∃ x, cl[i]? = some x := ⟨_, List.getElem?_eq_getElem (by rw [HLn.out]; exact hlt)⟩
              obtain ⟨b1, rfl, d1⟩ := H1.out i x hx; have hxC := HCx.out i x hx; have hTx := HTT.out i x hx; have g1 := (HB.out.cell (lt_of_cell d1)).trans d1; have g2 : wr.cell? ⟨gA, i, none⟩ = some (.bool (T1 i)) := (blk_cell (below_keep HB.out HVA.out) i).trans (outC_full hlt); (have g3 : wr.cell? ⟨gB, x, none⟩ = some (.bool (T1 i)) := by rw [hTx]; exact (blk_cell (below_keep HB.out HVC.out) x).trans (outC_full hxC)); (have hltI : (i : Int) < (N : Int) := by omega); (have hltc : (i : Int) < (lc : Int) := by omega); (have hltx : (x : Int) < (C : Int) := by omega); have HI : Hid (i < N) := hlt; generalize T1 i = tb at *; clear hlt hi hx d1 hxC hTx; go_wp2_with fail
              go_quiet (fail)
              go_wp2_with fail
              go_roundg (N - (i + 1))
              case measure => have := HGk.out; have := HI.out; omega
              case rel => exact ⟨i + 1, HI.out, rfl, by go_num, below_drewN HB.out _⟩
            · have hii : N = i := by omega
              subst hii; (have hge : ¬ (N : Int) < (N : Int) := by omega); clear hlt hi; go_wp2_with fail; go_ret; exact ⟨rfl, below_join HVB.out HB.out⟩
end Go.Proofs.Ytclinobfbdljhah
/- The law BisimClasses of every model and formula. -/
namespace Go.Proofs.Ytclinobfbdljhah
open Go.RowKit

theorem bcl_text (m : Mdl) (f : Fm) (v u : Value) (w : World) (hbd : m.rel.length ≤ 8796093022208 ∧ m.tr.length ≤ 5864062014634 ∧ ∀ l ∈ m.tr, l.length ≤ 8796093022208) (hm : MR w m v) (hv : Rep w (fun _ => True) f u) :
    Calls Try.prog 5 #[v, u] w fun e w' => e = .returned (.bool true) ∧ Below w.heap.size w w' := by
  by_cases h0 : (mdcode 40 2000 m).1 = 0
  · obtain ⟨N, hn, -⟩ := mdcode_in h0
    have h1 := mdcode_two h0; obtain ⟨n, rel, tr⟩ := m; simp only at hn; subst hn; exact bcl_ok N rel tr h1 f v u w hm hv
  · exact bcl_bad m hbd.1 hbd.2.1 hbd.2.2 h0 f v u w hm hv
end Go.Proofs.Ytclinobfbdljhah
