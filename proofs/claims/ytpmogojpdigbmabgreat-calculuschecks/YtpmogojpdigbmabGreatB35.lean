/- Texts of one proof, one behind the other: YP8, YP9, YC0. -/
import Derived.Test.YtpmogojpdigbmabGreatB27
import Derived.Test.YtpmogojpdigbmabGreatB28
import Derived.Test.YtpmogojpdigbmabGreatB29
import Derived.Test.YtpmogojpdigbmabGreatB30
import Derived.Test.YtpmogojpdigbmabGreatB31
import Derived.Test.YtpmogojpdigbmabGreatB32
import Derived.Test.YtpmogojpdigbmabGreatB33
import Derived.Test.YtpmogojpdigbmabGreatB34
import Derived.Test.YtpmogojpdigbmabGreatB24
import Derived.Test.YtpmogojpdigbmabGreatB19
import Derived.Test.YtpmogojpdigbmabGreatB20
import Derived.Test.YtpmogojpdigbmabGreatB21
import Derived.Deep.DeepCutAuto
/- Walks: the yardstick's premises, a rule that is none (made by gen/yp3.py). -/
namespace Go.Proofs.YtpmogojpdigbmabGreat
open Go.RowKit

set_option maxRecDepth 10000 in
set_option maxHeartbeats 8000000 in
theorem premR_none (i : Bool) (t : ByteArray) (h0 : (t.toList == ([97, 120] : List UInt8)) = false) (h1 : (t.toList == ([116, 114, 117, 101] : List UInt8)) = false) (h2 : (t.toList == ([102, 97, 108, 115, 101] : List UInt8)) = false) (h3 : (t.toList == ([97, 110, 100, 45, 108] : List UInt8)) = false) (h4 : (t.toList == ([97, 110, 100, 45, 114] : List UInt8)) = false) (h5 : (t.toList == ([111, 114, 45, 108] : List UInt8)) = false) (h6 : (t.toList == ([116, 104, 101, 110, 45, 114] : List UInt8)) = false) (h7 : (t.toList == ([110, 111, 116, 45, 114] : List UInt8)) = false) (h8 : (t.toList == ([99, 111, 110, 116, 114, 45, 108] : List UInt8)) = false) (h9 : (t.toList == ([99, 117, 116] : List UInt8)) = false) (h10 : (t.toList == ([116, 104, 101, 110, 45, 108] : List UInt8)) = false) (h11 : (t.toList == ([110, 111, 116, 45, 108] : List UInt8)) = false) (h12 : (t.toList == ([111, 114, 45, 114] : List UInt8)) = false) (h13 : (t.toList == ([99, 111, 110, 116, 114, 45, 114] : List UInt8)) = false) (h14 : (t.toList == ([111, 114, 45, 114, 49] : List UInt8)) = false) (h15 : (t.toList == ([111, 114, 45, 114, 50] : List UInt8)) = false) (f : Fm) (l r : List Fm) (hl3 : l.length ≤ 300) (hr3 : r.length ≤ 300) (v VL VR : Value) (w : World) (hf : Rep w (fun _ => True) f v) (hl : FL w VL l) (hr : FL w VR r) :
    Calls Tryz.prog 38 #[.string t, v, .agg #[VL, VR], .bool i] w fun e w' => ∃ x, e = .returned (.tuple #[x, .bool false, .bool false]) ∧ SQs w' x [] ∧ Below w.heap.size w w' := by
  obtain ⟨k, n, ks⟩ := f; obtain ⟨sf, cf, rfl⟩ := slice_shape hf; (have HF : Hid (Rep w (fun _ => True) (.mk k n ks) _) := hf); have HL : Hid (FL w VL l) := hl; have HR : Hid (FL w VR r) := hr; have HKS := (Rep.def.1 hf); obtain ⟨sf', cf', hv, -, hkc, hcm, hkr⟩ := HKS; simp only [Value.agg.injEq, Array.mk.injEq, List.cons.injEq, Value.slice.injEq, and_true, true_and] at hv; obtain ⟨rfl, rfl⟩ := hv; (have HKR : Hid (ks ≠ [] → ∃ b off, sf = some ⟨b, off, none⟩ ∧ True ∧ Reps w (fun _ => True) b off ks) := hkr); (have hksI : (ks.length : Int) ≤ 9223372036854775807 := by unfold maxLen at hcm; omega); (have hkcI : (ks.length : Int) ≤ (cf : Int) := by omega); obtain ⟨adl, cpl, rfl, -⟩ := hl; obtain ⟨adr, cpr, rfl, -⟩ := hr; obtain ⟨O1, hO1⟩ : ∃ O, O = Obj.cells #[.int .i64 k, .string n, .slice sf ks.length cf] 24 (0, 0) := ⟨_, rfl⟩; obtain ⟨O2, hO2⟩ : ∃ O, O = Obj.cells #[.slice adl l.length cpl, .slice adr r.length cpr] 26 (0, 0) := ⟨_, rfl⟩; obtain ⟨W, hW⟩ : ∃ W, W = (w.alloc O1).alloc O2 := ⟨_, rfl⟩; (have B0 : Below w.heap.size w W := by rw [hW]; exact below_more (below_more (Below.refl _ w) _) _); (have p1 : W.heap[w.heap.size]? = some O1 := by rw [hW]; exact alloc_keep (blk_new w O1) _); (have p2 : W.heap[w.heap.size + 1]? = some O2 := by rw [hW]; exact blk_two w O1 O2); rw [hO1] at p1; rw [hO2] at p2; have P1 : Hid (W.heap[w.heap.size]? = some _) := p1; have P2 : Hid (W.heap[w.heap.size + 1]? = some _) := p2; have HWe : Hid ((w.alloc O1).alloc O2 = W) := hW.symm; clear hf hkr p1 p2 hW
  go_enter Tryz.func38, Tryz.ntmps38
  go_wp2_with fail; rw [← hO1, ← hO2, HWe.out]; clear hO1 hO2 HWe; (refine (rest_any l (by omega) (.mk k n ks) _ _ W (HL.out.up B0) (HF.out.up B0)).mono ?_); rintro e w1 ⟨x1, rfl, hg, hb1⟩; have B1 := below_join B0 hb1; have Q1 : Hid (w1.heap[w.heap.size]? = some _) := below_keep hb1 P1.out; have Q2 : Hid (w1.heap[w.heap.size + 1]? = some _) := below_keep hb1 P2.out; obtain ⟨adg, cpg, rfl, -⟩ := id hg; have HG1 : Hid (FL w1 _ (l.erase (.mk k n ks))) := hg; clear hg hb1 P1 P2 B0; obtain ⟨j0, j1, j2, -⟩ := blk3 Q1.out; go_wp2_with fail; (refine (rest_any r (by omega) (.mk k n ks) _ _ w1 (HR.out.up B1) (HF.out.up B1)).mono ?_); rintro e w2 ⟨x2, rfl, hd, hb2⟩; have B2 := below_join B1 hb2; have Q3 : Hid (w2.heap[w.heap.size]? = some _) := below_keep hb2 Q1.out; obtain ⟨add, cpd, rfl, -⟩ := id hd; have HD2 : Hid (FL w2 _ (r.erase (.mk k n ks))) := hd; have HG2 : Hid (FL w2 _ (l.erase (.mk k n ks))) := HG1.out.up hb2; clear hd hb2 Q1 Q2 j0 j1 j2 HG1 B1; obtain ⟨j0, j1, j2, -⟩ := blk3 Q3.out; go_wp2_with fail; refine (has_any l (.mk k n ks) _ _ w2 (HL.out.up B2) (HF.out.up B2)).mono ?_; rintro e w3 ⟨rfl, hb3⟩; have B3 := below_join B2 hb3; have Q4 : Hid (w3.heap[w.heap.size]? = some _) := below_keep hb3 Q3.out; have HD3 : Hid (FL w3 _ (r.erase (.mk k n ks))) := HD2.out.up hb3; have HG3 : Hid (FL w3 _ (l.erase (.mk k n ks))) := HG2.out.up hb3; clear hb3 Q3 j0 j1 j2 HG2 HD2 B2; obtain ⟨j0, j1, j2, -⟩ := blk3 Q4.out; go_wp2_with fail; refine (has_any r (.mk k n ks) _ _ w3 (HR.out.up B3) (HF.out.up B3)).mono ?_; rintro e w4 ⟨rfl, hb4⟩; have B4 := below_join B3 hb4; have Q5 : Hid (w4.heap[w.heap.size]? = some _) := below_keep hb4 Q4.out; have HD4 : Hid (FL w4 _ (r.erase (.mk k n ks))) := HD3.out.up hb4; have HG4 : Hid (FL w4 _ (l.erase (.mk k n ks))) := HG3.out.up hb4; clear hb4 Q4 j0 j1 j2 HG3 HD3 B3; obtain ⟨j0, j1, j2, -⟩ := blk3 Q5.out; have z4 := lt_of_block Q5.out; generalize hasF (.mk k n ks) l = bl at *; generalize hasF (.mk k n ks) r = br at *; by_cases hke : ks = []
  · subst hke
    go_wp2_with fail; (exact bodyPost_ret (v := .tuple #[.slice none 0 0, .bool false, .bool false]) (by simp [results, Tryz.results38, go_sem]) rfl ⟨_, rfl, SQs.nil, below_join B4 (below_more (below_more (below_more (Below.refl _ w4) _) _) _)⟩)
  · obtain ⟨⟨ka, na, ksa⟩, hk0⟩ : ∃ f, ks[0]? = some f := ⟨_, List.getElem?_eq_getElem (List.length_pos_iff.2 hke)⟩
    have hpos : 0 < ks.length := List.length_pos_iff.2 hke; obtain ⟨m, hm⟩ : ∃ m, m = ks.length - 1 := ⟨_, rfl⟩; (obtain ⟨⟨kz, nz, ksz⟩, hkz⟩ : ∃ f, ks[m]? = some f := ⟨_, List.getElem?_eq_getElem (by omega)⟩); obtain ⟨b, off, rfl, -, hrs⟩ := HKR.out hke; obtain ⟨sa, ca, g0, g1, g2, hra⟩ := (hrs.up B4).at 0 ka na ksa hk0; obtain ⟨sz, cz, u0, u1, u2, hrz⟩ := (hrs.up B4).at m kz nz ksz hkz; simp only [Nat.zero_mul, Nat.add_zero] at g0 g1 g2; (have hmI : (ks.length : Int) - 1 = (m : Nat) := by omega); (have hp0 : (0 : Int) < (ks.length : Int) := by omega); (have hp1 : (0 : Int) < (cf : Int) := by omega); (have hp2 : (m : Int) < (ks.length : Int) := by omega); (have hp3 : (m : Int) < (cf : Int) := by omega); have zb := lt_of_cell g0; simp only at zb; (have d1 : ¬ b = w4.heap.size := by omega); (have d2 : ¬ b = w4.heap.size + 1 := by omega); (have HRA : Hid (Rep w4 (fun _ => True) (.mk ka na ksa) _) := hra); (have HRZ : Hid (Rep w4 (fun _ => True) (.mk kz nz ksz) _) := hrz)
    have HKA : Hid (Fm.kA (.mk k n ks) = .mk ka na ksa) := by
      show ks.headD zeroF = _; rw [List.headD_eq_head?_getD, List.head?_eq_getElem?, hk0, Option.getD_some]
    have HKZ : Hid (Fm.kZ (.mk k n ks) = .mk kz nz ksz) := by
      show ks.getLastD zeroF = _; rw [List.getLastD_eq_getLast?, List.getLast?_eq_getElem?, ← hm, hkz, Option.getD_some]
    clear hk0 hkz hrs hra hrz HKR hm hke; go_wp2_with fail; (exact bodyPost_ret (v := .tuple #[.slice none 0 0, .bool false, .bool false]) (by simp [results, Tryz.results38, go_sem]) rfl ⟨_, rfl, SQs.nil, below_join B4 (below_more (below_more (below_more (Below.refl _ w4) _) _) _)⟩)
end Go.Proofs.YtpmogojpdigbmabGreat
/- The yardstick's premises, whatever the rule. -/
namespace Go.Proofs.YtpmogojpdigbmabGreat
open Go.RowKit

def allRules : List Ru := [.ax, .tr, .fa, .andL, .andR, .orL, .thenR, .notR, .contrL, .cut, .thenL, .notL, .orR, .contrR, .orR1, .orR2]
def ruleAll (t : List UInt8) : Option Ru := allRules.find? fun r => decide (r.text = t)
theorem ruleAll_text (q : Ru) : ruleAll q.text = some q := by cases q <;> rfl
theorem ruleOf_text (i : Bool) (q : Ru) : ruleOf i q.text = if hasRule i q then some q else none := by cases i <;> cases q <;> rfl
theorem ruleOf_none {i : Bool} {t : List UInt8} (h : ∀ q : Ru, q.text ≠ t) : ruleOf i t = none := by
  unfold ruleOf; rw [List.find?_eq_none]; intro q _ hq; exact h q (of_decide_eq_true hq)
/-- What the yardstick's premises say. -/
def PremSpec (i : Bool) (t : List UInt8) (f : Fm) (l r : List Fm) (ss : List (List Fm × List Fm)) (is ok : Bool) : Prop :=
  (∃ q : Ru, q.text = t ∧ ss = premL i q f l r ∧ is = hasRule i q ∧ ok = premOk q f l r) ∨ ((∀ q : Ru, q.text ≠ t) ∧ is = false ∧ ss = [] ∧ ok = false)
theorem PremSpec.no {i : Bool} {t : List UInt8} {f : Fm} {l r : List Fm} {ss : List (List Fm × List Fm)} {ok : Bool} (h : PremSpec i t f l r ss false ok) : ruleOf i t = none := by
  rcases h with ⟨q, rfl, -, h, -⟩ | ⟨h, -⟩
  · rw [ruleOf_text, ← h]; rfl
  · exact ruleOf_none h
theorem PremSpec.yes {i : Bool} {t : List UInt8} {f : Fm} {l r : List Fm} {ss : List (List Fm × List Fm)} {ok : Bool} (h : PremSpec i t f l r ss true ok) : ∃ q, ruleOf i t = some q ∧ q.text = t ∧ ss = premL i q f l r ∧ ok = premOk q f l r := by
  rcases h with ⟨q, rfl, hs, h, ho⟩ | ⟨-, h, -⟩
  · exact ⟨q, by rw [ruleOf_text, ← h]; rfl, rfl, hs, ho⟩
  · cases h
theorem premR_any (i : Bool) (t : ByteArray) (f : Fm) (l r : List Fm) (hl3 : l.length ≤ 300) (hr3 : r.length ≤ 300) (v VL VR : Value) (w : World) (hf : Rep w (fun _ => True) f v) (hl : FL w VL l) (hr : FL w VR r) :
    Calls Tryz.prog 38 #[.string t, v, .agg #[VL, VR], .bool i] w fun e w' => ∃ x ss is ok, e = .returned (.tuple #[x, .bool is, .bool ok]) ∧ SQs w' x ss ∧ PremSpec i t.data.toList f l r ss is ok ∧ Below w.heap.size w w' := by
  have fin : ∀ q : Ru, ∀ t' : ByteArray, t'.data.toList = q.text → (Calls Tryz.prog 38 #[.string t', v, .agg #[VL, VR], .bool i] w fun e w' => ∃ x, e = .returned (.tuple #[x, .bool (hasRule i q), .bool (premOk q f l r)]) ∧ SQs w' x (premL i q f l r) ∧ Below w.heap.size w w') → Calls Tryz.prog 38 #[.string t', v, .agg #[VL, VR], .bool i] w fun e w' => ∃ x ss is ok, e = .returned (.tuple #[x, .bool is, .bool ok]) ∧ SQs w' x ss ∧ PremSpec i t'.data.toList f l r ss is ok ∧ Below w.heap.size w w' := fun q t' ht h => by
    refine h.mono ?_; rintro e w' ⟨x, he, hs, hb⟩; exact ⟨x, _, _, _, he, hs, Or.inl ⟨q, ht.symm, rfl, rfl, rfl⟩, hb⟩
  (have un : ∀ (q : Ru) (b : ByteArray), b.data.toList = q.text → t.data.toList = q.text → t = b := fun q b h1 h2 => by apply ByteArray.ext; apply Array.ext'; rw [h1, h2]); (have no : ∀ q : Ru, ¬ t.data.toList = q.text → (t.toList == q.text) = false := fun q h => by rw [ByteArray.toList_eq]; simpa using h); by_cases h0 : t.data.toList = Ru.text .ax
  · rw [un .ax ⟨#[97, 120]⟩ rfl h0]
    exact fin .ax _ rfl (premR_ax i f l r hl3 hr3 v VL VR w hf hl hr)
  by_cases h1 : t.data.toList = Ru.text .tr
  · rw [un .tr ⟨#[116, 114, 117, 101]⟩ rfl h1]
    exact fin .tr _ rfl (premR_tr i f l r hl3 hr3 v VL VR w hf hl hr)
  by_cases h2 : t.data.toList = Ru.text .fa
  · rw [un .fa ⟨#[102, 97, 108, 115, 101]⟩ rfl h2]
    exact fin .fa _ rfl (premR_fa i f l r hl3 hr3 v VL VR w hf hl hr)
  by_cases h3 : t.data.toList = Ru.text .andL
  · rw [un .andL ⟨#[97, 110, 100, 45, 108]⟩ rfl h3]
    exact fin .andL _ rfl (premR_andL i f l r hl3 hr3 v VL VR w hf hl hr)
  by_cases h4 : t.data.toList = Ru.text .andR
  · rw [un .andR ⟨#[97, 110, 100, 45, 114]⟩ rfl h4]
    exact fin .andR _ rfl (premR_andR i f l r hl3 hr3 v VL VR w hf hl hr)
  by_cases h5 : t.data.toList = Ru.text .orL
  · rw [un .orL ⟨#[111, 114, 45, 108]⟩ rfl h5]
    exact fin .orL _ rfl (premR_orL i f l r hl3 hr3 v VL VR w hf hl hr)
  by_cases h6 : t.data.toList = Ru.text .thenR
  · rw [un .thenR ⟨#[116, 104, 101, 110, 45, 114]⟩ rfl h6]
    exact fin .thenR _ rfl (premR_thenR i f l r hl3 hr3 v VL VR w hf hl hr)
  by_cases h7 : t.data.toList = Ru.text .notR
  · rw [un .notR ⟨#[110, 111, 116, 45, 114]⟩ rfl h7]
    exact fin .notR _ rfl (premR_notR i f l r hl3 hr3 v VL VR w hf hl hr)
  by_cases h8 : t.data.toList = Ru.text .contrL
  · rw [un .contrL ⟨#[99, 111, 110, 116, 114, 45, 108]⟩ rfl h8]
    exact fin .contrL _ rfl (premR_contrL i f l r hl3 hr3 v VL VR w hf hl hr)
  by_cases h9 : t.data.toList = Ru.text .cut
  · rw [un .cut ⟨#[99, 117, 116]⟩ rfl h9]
    exact fin .cut _ rfl (premR_cut i f l r hl3 hr3 v VL VR w hf hl hr)
  by_cases h10 : t.data.toList = Ru.text .thenL
  · rw [un .thenL ⟨#[116, 104, 101, 110, 45, 108]⟩ rfl h10]
    exact fin .thenL _ rfl (premR_thenL i f l r hl3 hr3 v VL VR w hf hl hr)
  by_cases h11 : t.data.toList = Ru.text .notL
  · rw [un .notL ⟨#[110, 111, 116, 45, 108]⟩ rfl h11]
    exact fin .notL _ rfl (premR_notL i f l r hl3 hr3 v VL VR w hf hl hr)
  by_cases h12 : t.data.toList = Ru.text .orR
  · rw [un .orR ⟨#[111, 114, 45, 114]⟩ rfl h12]
    exact fin .orR _ rfl (premR_orR i f l r hl3 hr3 v VL VR w hf hl hr)
  by_cases h13 : t.data.toList = Ru.text .contrR
  · rw [un .contrR ⟨#[99, 111, 110, 116, 114, 45, 114]⟩ rfl h13]
    exact fin .contrR _ rfl (premR_contrR i f l r hl3 hr3 v VL VR w hf hl hr)
  by_cases h14 : t.data.toList = Ru.text .orR1
  · rw [un .orR1 ⟨#[111, 114, 45, 114, 49]⟩ rfl h14]
    exact fin .orR1 _ rfl (premR_orR1 i f l r hl3 hr3 v VL VR w hf hl hr)
  by_cases h15 : t.data.toList = Ru.text .orR2
  · rw [un .orR2 ⟨#[111, 114, 45, 114, 50]⟩ rfl h15]
    exact fin .orR2 _ rfl (premR_orR2 i f l r hl3 hr3 v VL VR w hf hl hr)
  refine (premR_none i t (no .ax h0) (no .tr h1) (no .fa h2) (no .andL h3) (no .andR h4) (no .orL h5) (no .thenR h6) (no .notR h7) (no .contrL h8) (no .cut h9) (no .thenL h10) (no .notL h11) (no .orR h12) (no .contrR h13) (no .orR1 h14) (no .orR2 h15) f l r hl3 hr3 v VL VR w hf hl hr).mono ?_; rintro e w' ⟨x, he, hs, hb⟩; (refine ⟨x, _, _, _, he, hs, Or.inr ⟨fun q e => ?_, rfl, rfl, rfl⟩, hb⟩)
  cases q
  all_goals first | exact h0 e.symm | exact h1 e.symm | exact h2 e.symm | exact h3 e.symm | exact h4 e.symm | exact h5 e.symm | exact h6 e.symm | exact h7 e.symm | exact h8 e.symm | exact h9 e.symm | exact h10 e.symm | exact h11 e.symm | exact h12 e.symm | exact h13 e.symm | exact h14 e.symm | exact h15 e.symm
end Go.Proofs.YtpmogojpdigbmabGreat
/- Walks: the yardstick's stepCode, its plain facts (made by gen/yc1.py). -/
namespace Go.Proofs.YtpmogojpdigbmabGreat
open Go.RowKit

def Pf.lawT : Pf → List UInt8
  | .mk a _ _ _ _ => a.data.toList

def kAny : Value → World → Prop := fun _ _ => True
theorem kAny_stays : Stays kAny := fun _ _ _ _ _ => trivial
theorem kidsC_at {ks : List Pf} {ss : List (List Fm × List Fm)} {j : Nat} {k : Pf} {s : List Fm × List Fm} (h1 : ks[j]? = some k) (h2 : ss[j]? = some s) : kidsC (ks.drop j) (ss.drop j) = if isEq k.l s.1 && isEq k.r s.2 then kidsC (ks.drop (j + 1)) (ss.drop (j + 1)) else 7 := by
  have hi := (List.getElem?_eq_some_iff.1 h1).1; have hj := (List.getElem?_eq_some_iff.1 h2).1; rw [List.drop_eq_getElem_cons hi, List.drop_eq_getElem_cons hj, kidsC]; rw [List.getElem?_eq_getElem hi] at h1; rw [List.getElem?_eq_getElem hj] at h2; rw [Option.some.inj h1, Option.some.inj h2]
theorem SQs.len2 {w : World} {v : Value} {ss : List (List Fm × List Fm)} (h : SQs w v ss) : ∃ ad cap, v = .slice ad ss.length cap ∧ ss.length ≤ cap ∧ cap ≤ maxLen := by
  obtain ⟨ad, cap, h1, h2, h3, -⟩ := h; exact ⟨ad, cap, h1, h2, h3⟩
theorem premL_len (i : Bool) (q : Ru) (f : Fm) (l r : List Fm) : (premL i q f l r).length ≤ 2 := by cases q <;> simp [premL]
theorem premL_small (i : Bool) (q : Ru) (f : Fm) (l r : List Fm) (hl : l.length ≤ 300) (hr : r.length ≤ 300) : ∀ s ∈ premL i q f l r, s.1.length ≤ 302 ∧ s.2.length ≤ 302 := by
  have h1 : (l.erase f).length ≤ l.length := List.length_erase_le; have h2 : (r.erase f).length ≤ r.length := List.length_erase_le; intro s hs
  cases i <;> cases q <;> simp [premL] at hs
  all_goals first
    | (rcases hs with rfl | rfl <;> simp <;> omega)
    | (subst hs; simp; omega)

theorem frame150 (a : Array Value) (h : a.size = 150) : ∃ x0 x1 x2 x3 x4 x5 x6 x7 x8 x9 x10 x11 x12 x13 x14 x15 x16 x17 x18 x19 x20 x21 x22 x23 x24 x25 x26 x27 x28 x29 x30 x31 x32 x33 x34 x35 x36 x37 x38 x39 x40 x41 x42 x43 x44 x45 x46 x47 x48 x49 x50 x51 x52 x53 x54 x55 x56 x57 x58 x59 x60 x61 x62 x63 x64 x65 x66 x67 x68 x69 x70 x71 x72 x73 x74 x75 x76 x77 x78 x79 x80 x81 x82 x83 x84 x85 x86 x87 x88 x89 x90 x91 x92 x93 x94 x95 x96 x97 x98 x99 x100 x101 x102 x103 x104 x105 x106 x107 x108 x109 x110 x111 x112 x113 x114 x115 x116 x117 x118 x119 x120 x121 x122 x123 x124 x125 x126 x127 x128 x129 x130 x131 x132 x133 x134 x135 x136 x137 x138 x139 x140 x141 x142 x143 x144 x145 x146 x147 x148 x149, a = #[x0, x1, x2, x3, x4, x5, x6, x7, x8, x9, x10, x11, x12, x13, x14, x15, x16, x17, x18, x19, x20, x21, x22, x23, x24, x25, x26, x27, x28, x29, x30, x31, x32, x33, x34, x35, x36, x37, x38, x39, x40, x41, x42, x43, x44, x45, x46, x47, x48, x49, x50, x51, x52, x53, x54, x55, x56, x57, x58, x59, x60, x61, x62, x63, x64, x65, x66, x67, x68, x69, x70, x71, x72, x73, x74, x75, x76, x77, x78, x79, x80, x81, x82, x83, x84, x85, x86, x87, x88, x89, x90, x91, x92, x93, x94, x95, x96, x97, x98, x99, x100, x101, x102, x103, x104, x105, x106, x107, x108, x109, x110, x111, x112, x113, x114, x115, x116, x117, x118, x119, x120, x121, x122, x123, x124, x125, x126, x127, x128, x129, x130, x131, x132, x133, x134, x135, x136, x137, x138, x139, x140, x141, x142, x143, x144, x145, x146, x147, x148, x149] := by
  obtain ⟨l⟩ := a; have h0 : l.length = 150 := h; obtain ⟨x0, l1, e0, h1⟩ := cons_len h0; obtain ⟨x1, l2, e1, h2⟩ := cons_len h1; obtain ⟨x2, l3, e2, h3⟩ := cons_len h2; obtain ⟨x3, l4, e3, h4⟩ := cons_len h3; obtain ⟨x4, l5, e4, h5⟩ := cons_len h4; obtain ⟨x5, l6, e5, h6⟩ := cons_len h5; obtain ⟨x6, l7, e6, h7⟩ := cons_len h6; obtain ⟨x7, l8, e7, h8⟩ := cons_len h7; obtain ⟨x8, l9, e8, h9⟩ := cons_len h8; obtain ⟨x9, l10, e9, h10⟩ := cons_len h9; obtain ⟨x10, l11, e10, h11⟩ := cons_len h10; obtain ⟨x11, l12, e11, h12⟩ := cons_len h11; obtain ⟨x12, l13, e12, h13⟩ := cons_len h12; obtain ⟨x13, l14, e13, h14⟩ := cons_len h13; obtain ⟨x14, l15, e14, h15⟩ := cons_len h14; obtain ⟨x15, l16, e15, h16⟩ := cons_len h15; obtain ⟨x16, l17, e16, h17⟩ := cons_len h16; obtain ⟨x17, l18, e17, h18⟩ := cons_len h17; obtain ⟨x18, l19, e18, h19⟩ := cons_len h18; obtain ⟨x19, l20, e19, h20⟩ := cons_len h19; obtain ⟨x20, l21, e20, h21⟩ := cons_len h20; obtain ⟨x21, l22, e21, h22⟩ := cons_len h21; obtain ⟨x22, l23, e22, h23⟩ := cons_len h22; obtain ⟨x23, l24, e23, h24⟩ := cons_len h23; obtain ⟨x24, l25, e24, h25⟩ := cons_len h24; obtain ⟨x25, l26, e25, h26⟩ := cons_len h25; obtain ⟨x26, l27, e26, h27⟩ := cons_len h26; obtain ⟨x27, l28, e27, h28⟩ := cons_len h27; obtain ⟨x28, l29, e28, h29⟩ := cons_len h28; obtain ⟨x29, l30, e29, h30⟩ := cons_len h29; obtain ⟨x30, l31, e30, h31⟩ := cons_len h30; obtain ⟨x31, l32, e31, h32⟩ := cons_len h31; obtain ⟨x32, l33, e32, h33⟩ := cons_len h32; obtain ⟨x33, l34, e33, h34⟩ := cons_len h33; obtain ⟨x34, l35, e34, h35⟩ := cons_len h34; obtain ⟨x35, l36, e35, h36⟩ := cons_len h35; obtain ⟨x36, l37, e36, h37⟩ := cons_len h36; obtain ⟨x37, l38, e37, h38⟩ := cons_len h37; obtain ⟨x38, l39, e38, h39⟩ := cons_len h38; obtain ⟨x39, l40, e39, h40⟩ := cons_len h39; obtain ⟨x40, l41, e40, h41⟩ := cons_len h40; obtain ⟨x41, l42, e41, h42⟩ := cons_len h41; obtain ⟨x42, l43, e42, h43⟩ := cons_len h42; obtain ⟨x43, l44, e43, h44⟩ := cons_len h43; obtain ⟨x44, l45, e44, h45⟩ := cons_len h44; obtain ⟨x45, l46, e45, h46⟩ := cons_len h45; obtain ⟨x46, l47, e46, h47⟩ := cons_len h46; obtain ⟨x47, l48, e47, h48⟩ := cons_len h47; obtain ⟨x48, l49, e48, h49⟩ := cons_len h48; obtain ⟨x49, l50, e49, h50⟩ := cons_len h49; obtain ⟨x50, l51, e50, h51⟩ := cons_len h50; obtain ⟨x51, l52, e51, h52⟩ := cons_len h51; obtain ⟨x52, l53, e52, h53⟩ := cons_len h52; obtain ⟨x53, l54, e53, h54⟩ := cons_len h53; obtain ⟨x54, l55, e54, h55⟩ := cons_len h54; obtain ⟨x55, l56, e55, h56⟩ := cons_len h55; obtain ⟨x56, l57, e56, h57⟩ := cons_len h56; obtain ⟨x57, l58, e57, h58⟩ := cons_len h57; obtain ⟨x58, l59, e58, h59⟩ := cons_len h58; obtain ⟨x59, l60, e59, h60⟩ := cons_len h59; obtain ⟨x60, l61, e60, h61⟩ := cons_len h60; obtain ⟨x61, l62, e61, h62⟩ := cons_len h61; obtain ⟨x62, l63, e62, h63⟩ := cons_len h62; obtain ⟨x63, l64, e63, h64⟩ := cons_len h63; obtain ⟨x64, l65, e64, h65⟩ := cons_len h64; obtain ⟨x65, l66, e65, h66⟩ := cons_len h65; obtain ⟨x66, l67, e66, h67⟩ := cons_len h66; obtain ⟨x67, l68, e67, h68⟩ := cons_len h67; obtain ⟨x68, l69, e68, h69⟩ := cons_len h68; obtain ⟨x69, l70, e69, h70⟩ := cons_len h69; obtain ⟨x70, l71, e70, h71⟩ := cons_len h70; obtain ⟨x71, l72, e71, h72⟩ := cons_len h71; obtain ⟨x72, l73, e72, h73⟩ := cons_len h72; obtain ⟨x73, l74, e73, h74⟩ := cons_len h73; obtain ⟨x74, l75, e74, h75⟩ := cons_len h74; obtain ⟨x75, l76, e75, h76⟩ := cons_len h75; obtain ⟨x76, l77, e76, h77⟩ := cons_len h76; obtain ⟨x77, l78, e77, h78⟩ := cons_len h77; obtain ⟨x78, l79, e78, h79⟩ := cons_len h78; obtain ⟨x79, l80, e79, h80⟩ := cons_len h79; obtain ⟨x80, l81, e80, h81⟩ := cons_len h80; obtain ⟨x81, l82, e81, h82⟩ := cons_len h81; obtain ⟨x82, l83, e82, h83⟩ := cons_len h82; obtain ⟨x83, l84, e83, h84⟩ := cons_len h83; obtain ⟨x84, l85, e84, h85⟩ := cons_len h84; obtain ⟨x85, l86, e85, h86⟩ := cons_len h85; obtain ⟨x86, l87, e86, h87⟩ := cons_len h86; obtain ⟨x87, l88, e87, h88⟩ := cons_len h87; obtain ⟨x88, l89, e88, h89⟩ := cons_len h88; obtain ⟨x89, l90, e89, h90⟩ := cons_len h89; obtain ⟨x90, l91, e90, h91⟩ := cons_len h90; obtain ⟨x91, l92, e91, h92⟩ := cons_len h91; obtain ⟨x92, l93, e92, h93⟩ := cons_len h92; obtain ⟨x93, l94, e93, h94⟩ := cons_len h93
  obtain ⟨x94, l95, e94, h95⟩ := cons_len h94; obtain ⟨x95, l96, e95, h96⟩ := cons_len h95; obtain ⟨x96, l97, e96, h97⟩ := cons_len h96; obtain ⟨x97, l98, e97, h98⟩ := cons_len h97; obtain ⟨x98, l99, e98, h99⟩ := cons_len h98; obtain ⟨x99, l100, e99, h100⟩ := cons_len h99; obtain ⟨x100, l101, e100, h101⟩ := cons_len h100; obtain ⟨x101, l102, e101, h102⟩ := cons_len h101; obtain ⟨x102, l103, e102, h103⟩ := cons_len h102; obtain ⟨x103, l104, e103, h104⟩ := cons_len h103; obtain ⟨x104, l105, e104, h105⟩ := cons_len h104; obtain ⟨x105, l106, e105, h106⟩ := cons_len h105; obtain ⟨x106, l107, e106, h107⟩ := cons_len h106; obtain ⟨x107, l108, e107, h108⟩ := cons_len h107; obtain ⟨x108, l109, e108, h109⟩ := cons_len h108; obtain ⟨x109, l110, e109, h110⟩ := cons_len h109; obtain ⟨x110, l111, e110, h111⟩ := cons_len h110; obtain ⟨x111, l112, e111, h112⟩ := cons_len h111; obtain ⟨x112, l113, e112, h113⟩ := cons_len h112; obtain ⟨x113, l114, e113, h114⟩ := cons_len h113; obtain ⟨x114, l115, e114, h115⟩ := cons_len h114; obtain ⟨x115, l116, e115, h116⟩ := cons_len h115; obtain ⟨x116, l117, e116, h117⟩ := cons_len h116; obtain ⟨x117, l118, e117, h118⟩ := cons_len h117; obtain ⟨x118, l119, e118, h119⟩ := cons_len h118; obtain ⟨x119, l120, e119, h120⟩ := cons_len h119; obtain ⟨x120, l121, e120, h121⟩ := cons_len h120; obtain ⟨x121, l122, e121, h122⟩ := cons_len h121; obtain ⟨x122, l123, e122, h123⟩ := cons_len h122; obtain ⟨x123, l124, e123, h124⟩ := cons_len h123; obtain ⟨x124, l125, e124, h125⟩ := cons_len h124; obtain ⟨x125, l126, e125, h126⟩ := cons_len h125; obtain ⟨x126, l127, e126, h127⟩ := cons_len h126; obtain ⟨x127, l128, e127, h128⟩ := cons_len h127; obtain ⟨x128, l129, e128, h129⟩ := cons_len h128; obtain ⟨x129, l130, e129, h130⟩ := cons_len h129; obtain ⟨x130, l131, e130, h131⟩ := cons_len h130; obtain ⟨x131, l132, e131, h132⟩ := cons_len h131; obtain ⟨x132, l133, e132, h133⟩ := cons_len h132; obtain ⟨x133, l134, e133, h134⟩ := cons_len h133; obtain ⟨x134, l135, e134, h135⟩ := cons_len h134; obtain ⟨x135, l136, e135, h136⟩ := cons_len h135; obtain ⟨x136, l137, e136, h137⟩ := cons_len h136; obtain ⟨x137, l138, e137, h138⟩ := cons_len h137; obtain ⟨x138, l139, e138, h139⟩ := cons_len h138; obtain ⟨x139, l140, e139, h140⟩ := cons_len h139; obtain ⟨x140, l141, e140, h141⟩ := cons_len h140; obtain ⟨x141, l142, e141, h142⟩ := cons_len h141; obtain ⟨x142, l143, e142, h143⟩ := cons_len h142; obtain ⟨x143, l144, e143, h144⟩ := cons_len h143; obtain ⟨x144, l145, e144, h145⟩ := cons_len h144; obtain ⟨x145, l146, e145, h146⟩ := cons_len h145; obtain ⟨x146, l147, e146, h147⟩ := cons_len h146; obtain ⟨x147, l148, e147, h148⟩ := cons_len h147; obtain ⟨x148, l149, e148, h149⟩ := cons_len h148; obtain ⟨x149, l150, e149, h150⟩ := cons_len h149; have e150 : l150 = [] := List.length_eq_zero_iff.1 h150; subst e150 e149 e148 e147 e146 e145 e144 e143 e142 e141 e140 e139 e138 e137 e136 e135 e134 e133 e132 e131 e130 e129 e128 e127 e126 e125 e124 e123 e122 e121 e120 e119 e118 e117 e116 e115 e114 e113 e112 e111 e110 e109 e108 e107 e106 e105 e104 e103 e102 e101 e100 e99 e98 e97 e96 e95 e94 e93 e92 e91 e90 e89 e88 e87 e86 e85 e84 e83 e82 e81 e80 e79 e78 e77 e76 e75 e74 e73 e72 e71 e70 e69 e68 e67 e66 e65 e64 e63 e62 e61 e60 e59 e58 e57 e56 e55 e54 e53 e52 e51 e50 e49 e48 e47 e46 e45 e44 e43 e42 e41 e40 e39 e38 e37 e36 e35 e34 e33 e32 e31 e30 e29 e28 e27 e26 e25 e24 e23 e22 e21 e20 e19 e18 e17 e16 e15 e14 e13 e12 e11 e10 e9 e8 e7 e6 e5 e4 e3 e2 e1 e0; exact ⟨x0, x1, x2, x3, x4, x5, x6, x7, x8, x9, x10, x11, x12, x13, x14, x15, x16, x17, x18, x19, x20, x21, x22, x23, x24, x25, x26, x27, x28, x29, x30, x31, x32, x33, x34, x35, x36, x37, x38, x39, x40, x41, x42, x43, x44, x45, x46, x47, x48, x49, x50, x51, x52, x53, x54, x55, x56, x57, x58, x59, x60, x61, x62, x63, x64, x65, x66, x67, x68, x69, x70, x71, x72, x73, x74, x75, x76, x77, x78, x79, x80, x81, x82, x83, x84, x85, x86, x87, x88, x89, x90, x91, x92, x93, x94, x95, x96, x97, x98, x99, x100, x101, x102, x103, x104, x105, x106, x107, x108, x109, x110, x111, x112, x113, x114, x115, x116, x117, x118, x119, x120, x121, x122, x123, x124, x125, x126, x127, x128, x129, x130, x131, x132, x133, x134, x135, x136, x137, x138, x139, x140, x141, x142, x143, x144, x145, x146, x147, x148, x149, rfl⟩
end Go.Proofs.YtpmogojpdigbmabGreat
