/- Texts of one proof, one behind the other: TM1. -/
import Derived.Test.YtffkoiemnchdgabB33
import Derived.Test.YtffkoiemnchdgabB31
/- Walks: Made and what it asks. -/
namespace Go.Proofs.Ytffkoiemnchdgab
open Go.RowKit Go.Sort

set_option maxHeartbeats 1000000 in
theorem indexS_any (l : List (List UInt8)) (t : List UInt8) (v : Value) (w : World) (h : SL w v l) :
    Calls Try.prog 77 #[v, .string ⟨t.toArray⟩] w fun e w' => (∃ j : Int, e = .returned (.int .i64 j) ∧ (0 ≤ j ↔ t ∈ l)) ∧ w' = w := by
  obtain ⟨ad, cap, rfl, h1, h2, h3⟩ := h; (have hlI : (l.length : Int) ≤ 9223372036854775807 := by unfold maxLen at h2; omega); have H3 : Hid (l ≠ [] → ∃ g off, ad = some ⟨g, off, none⟩ ∧ ∀ (j : Nat) (t : List UInt8), l[j]? = some t → w.cell? ⟨g, off + j, none⟩ = some (.string ⟨t.toArray⟩)) := h3; clear h3
  go_enter Try.func77, Try.ntmps77
  go_wp2_with fail
  go_loopg [8] l.length (fun g c wr => ∃ i, i ≤ l.length ∧ g = l.length - i ∧ c = .int .i64 (i : Nat) ∧ wr = w ∧ Hid (t ∉ l.take i))
  case atStart => exact ⟨0, by omega, by omega, rfl, rfl, by show _ ∉ _; simp⟩
  case round =>
    obtain ⟨i, hi, hg, rfl, rfl, HN⟩ := hrel; have HG : Hid (gk = l.length - i) := hg; clear hg; by_cases hlt : i < l.length
    · obtain ⟨x, hx⟩ : ∃ x, l[i]? = some x := ⟨_, List.getElem?_eq_getElem hlt⟩
      (obtain ⟨g, off, rfl, hc⟩ := H3.out (fun e => by rw [e] at hlt; simp at hlt)); have g0 := hc i x hx; (have hltI : (i : Int) < (l.length : Int) := by omega); (have hlc : (i : Int) < (cap : Int) := by omega); have HX : Hid (l[i]? = some x) := hx; clear hc hx H3; by_cases hxt : t = x
      · subst hxt
        have HD : Hid (t ∈ l) := List.mem_of_getElem? HX.out; go_wp2_with fail; go_ret; (exact ⟨⟨(i : Int), rfl, fun _ => HD.out, fun _ => by omega⟩, rfl⟩)
      · have hne : ((⟨t.toArray⟩ : ByteArray).toList == (⟨x.toArray⟩ : ByteArray).toList) = false := by
          rw [beq_eq_false_iff_ne, Ne, txt_eq]; exact hxt
        have HNN : Hid (t ∉ l.take (i + 1)) := by
          show _ ∉ _; rw [List.take_add_one, HX.out]; intro hm
          rcases List.mem_append.1 hm with h | h
          · exact HN.out h
          · simp at h; exact hxt h
        generalize hb : (⟨x.toArray⟩ : ByteArray) = X at *; generalize hb2 : (⟨t.toArray⟩ : ByteArray) = Y at *; clear hb hb2 HX; go_wp2_with fail
        go_roundg (l.length - (i + 1))
        case measure => have := HG.out; omega
        case rel => exact ⟨i + 1, by omega, rfl, by go_num, rfl, HNN⟩
    · have HD : Hid (t ∉ l) := by
        have := HN.out; (rw [List.take_of_length_le (by omega)] at this); exact this
      (have hge : ¬ (i : Int) < (l.length : Int) := by omega); clear H3 HN; go_wp2_with fail; go_ret; (exact ⟨⟨-1, rfl, fun h => absurd h (by omega), fun h => absurd h HD.out⟩, rfl⟩)

set_option maxHeartbeats 1000000 in
theorem containsS_any (l : List (List UInt8)) (t : List UInt8) (v : Value) (w : World) (h : SL w v l) :
    Calls Try.prog 65 #[v, .string ⟨t.toArray⟩] w fun e w' => e = .returned (.bool (decide (t ∈ l))) ∧ w' = w := by
  have hx := indexS_any l t v w h; have HX : Hid (Calls Try.prog 77 _ w _) := hx; obtain ⟨ad, cap, rfl, -⟩ := h; generalize (⟨t.toArray⟩ : ByteArray) = T at *; clear hx
  go_enter Try.func65, Try.ntmps65
  go_wp2_with (first
    | (go_at_call 77
       refine HX.out.mono ?_; rintro e w1 ⟨⟨j, rfl, hj⟩, rfl⟩; have HJ : Hid (decide (0 ≤ j) = decide (t ∈ l)) := decide_eq_decide.2 hj
       clear hj)
    | fail)
  go_ret; (exact ⟨by rw [← HJ.out]; rfl, rfl⟩)

theorem fIdxP_any (p : List UInt8 → Bool) (l : List (List UInt8)) : decide (0 ≤ fIdxP p l) = l.any p := by
  unfold fIdxP
  cases l.any p
  · rfl
  · simp

set_option maxHeartbeats 1000000 in
theorem containsFuncS_any {fn : Nat} {cp : Array Value} {p : List UInt8 → Bool} {Ok : World → Prop} (A : PredS fn cp p Ok) (l : List (List UInt8)) (hmx : ∀ t ∈ l, t.length ≤ maxLen) (v : Value) (w : World) (hv : SL w v l) (hok : Ok w) :
    Calls Try.prog 68 #[v, .func (.func fn) #[] cp] w fun e w' => e = .returned (.bool (l.any p)) ∧ Below w.heap.size w w' := by
  have hx := idxFunc_str A l hmx v w hv hok; have hj := fIdxP_any p l; generalize fIdxP p l = j at *; have HJ : Hid (decide (0 ≤ j) = l.any p) := hj; have HX : Hid (Calls Try.prog 48 _ w _) := hx; obtain ⟨ad, cap, rfl, -⟩ := hv; clear hx hj hok
  go_enter Try.func68, Try.ntmps68
  go_wp2_with (first
    | (go_at_call 48
       refine HX.out.mono ?_
       rintro e w1 ⟨rfl, hb1⟩)
    | fail)
  go_ret; (exact ⟨by rw [← HJ.out]; rfl, hb1⟩)

theorem only1_in (cap : Array Value) (w : World) : (callFunc 67 cap).run Try.prog w = .ok (.enter 67 cap) w := by
  simp [go_sem]
def OkO (nb : Nat) (l : List (List UInt8)) (w : World) : Prop := ∃ v, w.heap[nb]? = some (.cells #[v] 38 (0, 0)) ∧ SL w v l

set_option maxHeartbeats 1000000 in
theorem only1_any (nb : Nat) (l : List (List UInt8)) (t : List UInt8) (w : World) (hok : OkO nb l w) :
    Calls Try.prog 67 #[.string ⟨t.toArray⟩, .pointer (some ⟨nb, 0, none⟩)] w fun e w' => e = .returned (.bool (!decide (t ∈ l))) ∧ Below w.heap.size w w' := by
  obtain ⟨v, hb, hs⟩ := hok; have hx := containsS_any l t v w hs; generalize decide (t ∈ l) = bb at *; have HX : Hid (Calls Try.prog 65 _ w _) := hx; obtain ⟨ad, cap, rfl, -⟩ := hs; generalize (⟨t.toArray⟩ : ByteArray) = T at *; obtain ⟨a0, a1⟩ := blk1 hb; clear hx
  go_enter Try.func67, Try.ntmps67
  go_wp2_with (first
    | (go_at_call 65
       refine HX.out.mono ?_
       rintro e w1 ⟨rfl, rfl⟩)
    | fail)
  go_ret; exact ⟨rfl, Below.refl _ _⟩

theorem predOnly (nb : Nat) (l : List (List UInt8)) : PredS 67 #[.pointer (some ⟨nb, 0, none⟩)] (fun t => !decide (t ∈ l)) (OkO nb l) where
  up := fun h hb => by
    obtain ⟨v, h1, h2⟩ := h; exact ⟨v, below_keep hb h1, h2.up hb⟩
  ent := fun _ w => only1_in _ w
  call := fun t w h _ => only1_any nb l t w h

/-- Are all names of a formula among these? -/
def Fm.only (f : Fm) (l : List (List UInt8)) : Bool := !(nmsU f).any fun t => !decide (t ∈ l)

set_option maxHeartbeats 1000000 in
theorem hasOnly_any (f : Fm) (l : List (List UInt8)) (hp : f.pcode.1 = 0) (v u : Value) (w : World) (hrep : Rep w (fun _ => True) f v) (hu : SL w u l) :
    Calls Try.prog 42 #[v, u] w fun e w' => e = .returned (.bool (f.only l)) ∧ Below w.heap.size w w' := by
  obtain ⟨⟨s, hs⟩, -, -⟩ := pcode_ok hp; (have hnm := fun v (w : World) h => names_ok f v w h s hs)
  have hsm : ∀ t ∈ nmsU f, t.length ≤ maxLen := fun t ht => by
    have := nmsU_small (fine_of_chk f 0 s hs) t ht; unfold maxLen; omega
  (have hcf := fun nb v w h1 h2 => containsFuncS_any (predOnly nb l) (nmsU f) hsm v w h1 h2); unfold Fm.only; (generalize (nmsU f).any (fun t => !decide (t ∈ l)) = bb at *); generalize nmsU f = U at *; obtain ⟨k, n, ks⟩ := f; obtain ⟨sl, cap, rfl⟩ := slice_shape hrep; have HN : Hid (∀ v w, _ → Calls Try.prog 66 #[v] w _) := hnm; have HC : Hid (∀ nb v w, SL w v U → OkO nb l w → Calls Try.prog 68 _ w _) := hcf; have HU : Hid (SL w u l) := hu; obtain ⟨ad, cp, rfl, -⟩ := hu; (have hmf : ∀ (fn : Fn) (first cap : Array Value) (w : World), (Instr.makeFunc fn first cap).run Try.prog w = .ok (.func fn first cap) w := fun _ _ _ _ => rfl); clear hnm hcf hsm hs hp
  go_enter Try.func42, Try.ntmps42
  go_wp2_with (first
    | (go_at_call 66
       refine (HN.out _ _ ((hrep.more _).more _)).mono ?_; rintro e w1 ⟨x, rfl, htl, hb1⟩; have HTL : Hid (TL w1 x U) := htl; obtain ⟨adU, cpU, rfl, -⟩ := htl; have q1 := below_keep hb1 (blk_new (w.alloc _) _); (rw [show (w.alloc _).heap.size = w.heap.size + 1 by simp] at q1)
       have B1 := below_join (below_more (below_more (Below.refl _ w) _) _) hb1)
    | (go_at_call 68
       refine (HC.out _ _ _ (HTL.out.sl.up (below_more (Below.refl _ w1) _)) ⟨_, alloc_keep q1 _, (HU.out.up B1).up (below_more (Below.refl _ w1) _)⟩).mono ?_; rintro e w2 ⟨rfl, hb2⟩
       have B2 := below_join (below_more B1 _) hb2)
    | fail)
  go_ret; exact ⟨rfl, B2⟩

/-- The number of the first that is no name or is there ahead, or -1. -/
def badAt (l : List (List UInt8)) (j : Nat) : Bool := match l[j]? with
  | some t => !isNm t || decide (t ∈ l.take j)
  | none => false
def unfit (l : List (List UInt8)) : Int := match (List.range l.length).find? (badAt l) with
  | some i => (i : Nat)
  | none => -1

theorem unfit_at {l : List (List UInt8)} {i : Nat} (hi : i < l.length) (h : ∀ j, j < i → badAt l j = false) (hb : badAt l i = true) : unfit l = (i : Nat) := by
  unfold unfit
  have : (List.range l.length).find? (badAt l) = some i := by
    rw [List.find?_range_eq_some]; (exact ⟨hb, List.mem_range.2 hi, fun j hj => by rw [h j hj]; rfl⟩)
  rw [this]
theorem unfit_no {l : List (List UInt8)} (h : ∀ j, j < l.length → badAt l j = false) : unfit l = -1 := by
  unfold unfit
  have : (List.range l.length).find? (badAt l) = none := by
    rw [List.find?_eq_none]; intro j hj; rw [h j (List.mem_range.1 hj)]
    simp
  rw [this]
theorem SL.take {w : World} {ad : Option Addr} {cap : Nat} {l : List (List UInt8)} (h : SL w (.slice ad l.length cap) l) {i : Nat} (hi : i ≤ l.length) : SL w (.slice ad i cap) (l.take i) := by
  obtain ⟨ad', cap', hv, h1, h2, h3⟩ := h; simp only [Value.slice.injEq, true_and] at hv; obtain ⟨rfl, rfl⟩ := hv; (refine ⟨ad, cap, by rw [List.length_take, Nat.min_eq_left hi], by rw [List.length_take]; omega, h2, fun hne => ?_⟩); (obtain ⟨g, off, h5, h6⟩ := h3 (fun e => hne (by rw [e]; simp))); (refine ⟨g, off, h5, fun j t ht => h6 j t ?_⟩); rw [List.getElem?_take] at ht
  split at ht
  · exact ht
  · cases ht
end Go.Proofs.Ytffkoiemnchdgab
