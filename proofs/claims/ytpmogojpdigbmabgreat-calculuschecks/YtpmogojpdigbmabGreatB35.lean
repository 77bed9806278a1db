/- Texts of one proof, one behind the other: YP8, YP9, YC0. -/
import Derived.Test.YtpmogojpdigbmabGreatB27
import Derived.Test.YtpmogojpdigbmabGreatB28
import Derived.Test.YtpmogojpdigbmabGreatB29
import Derived.Test.YtpmogojpdigbmabGreatB30
import Derived.Test.YtpmogojpdigbmabGreatB31
import Derived.Test.YtpmogojpdigbmabGreatB32
import Derived.Test.YtpmogojpdigbmabGreatB33
import Derived.Test.YtpmogojpdigbmabGreatB34
import Derived.Test.YtpmogojpdigbmabGreatB24
import Derived.Test.YtpmogojpdigbmabGreatB19
import Derived.Test.YtpmogojpdigbmabGreatB20
import Derived.Test.YtpmogojpdigbmabGreatB21
import Derived.Deep.DeepCutAuto
/- Walks: the yardstick's premises, a rule that is none (made by gen/yp3.py). -/
namespace Go.Proofs.YtpmogojpdigbmabGreat
open Go.RowKit

set_option maxRecDepth 10000 in
set_option maxHeartbeats 8000000 in
theorem premR_none (i : Bool) (t : ByteArray) (h0 : (t.toList == ([97, 120] : List UInt8)) = false) (h1 : (t.toList == ([116, 114, 117, 101] : List UInt8)) = false) (h2 : (t.toList == ([102, 97, 108, 115, 101] : List UInt8)) = false) (h3 : (t.toList == ([97, 110, 100, 45, 108] : List UInt8)) = false) (h4 : (t.toList == ([97, 110, 100, 45, 114] : List UInt8)) = false) (h5 : (t.toList == ([111, 114, 45, 108] : List UInt8)) = false) (h6 : (t.toList == ([116, 104, 101, 110, 45, 114] : List UInt8)) = false) (h7 : (t.toList == ([110, 111, 116, 45, 114] : List UInt8)) = false) (h8 : (t.toList == ([99, 111, 110, 116, 114, 45, 108] : List UInt8)) = false) (h9 : (t.toList == ([99, 117, 116] : List UInt8)) = false) (h10 : (t.toList == ([116, 104, 101, 110, 45, 108] : List UInt8)) = false) (h11 : (t.toList == ([110, 111, 116, 45, 108] : List UInt8)) = false) (h12 : (t.toList == ([111, 114, 45, 114] : List UInt8)) = false) (h13 : (t.toList == ([99, 111, 110, 116, 114, 45, 114] : List UInt8)) = false) (h14 : (t.toList == ([111, 114, 45, 114, 49] : List UInt8)) = false) (h15 : (t.toList == ([111, 114, 45, 114, 50] : List UInt8)) = false) (f : Fm) (l r : List Fm) (hl3 : l.length ≤ 300) (hr3 : r.length ≤ 300) (v VL VR : Value) (w : World) (hf : Rep w (fun _ => True) f v) (hl : FL w VL l) (hr : FL w VR r) :
    Calls Tryz.prog 38 #[.string t, v, .agg #[VL, VR], .bool i] w fun e w' => ∃ x, e = .returned (.tuple #[x, .bool false, .bool false]) ∧ SQs w' x [] ∧ Below w.heap.size w w' := by
  obtain ⟨k, n, ks⟩ := f; obtain ⟨sf, cf, rfl⟩ := slice_shape hf; (have HF : Hid (Rep w (fun _ => True) (.mk k n ks) _) := hf); have HL : Hid (FL w VL l) := hl; have HR : Hid (FL w VR r) := hr; have HKS := (Rep.def.1 hf); obtain ⟨sf', cf', hv, -, hkc, hcm, hkr⟩ := HKS; simp only [Value.agg.injEq, Array.mk.injEq, List.cons.injEq, Value.slice.injEq, and_true, true_and] at hv; obtain ⟨rfl, rfl⟩ := hv; (have HKR : Hid (ks ≠ [] → ∃ b off, sf = some ⟨b, off, none⟩ ∧ True ∧ Reps w (fun _ => True) b off ks) := hkr); (have hksI : (ks.length : Int) ≤ 9223372036854775807 := by unfold maxLen at hcm; omega); (have hkcI : (ks.length : Int) ≤ (cf : Int) := by omega); obtain ⟨adl, cpl, rfl, -⟩ := hl; obtain ⟨adr, cpr, rfl, -⟩ := hr; obtain ⟨O1, hO1⟩ : ∃ O, O = Obj.cells #[.int .i64 k, .string n, .slice sf ks.length cf] 24 (0, 0) := ⟨_, rfl⟩; obtain ⟨O2, hO2⟩ : ∃ O, O = Obj.cells #[.slice adl l.length cpl, .slice adr r.length cpr] 26 (0, 0) := ⟨_, rfl⟩; obtain ⟨W, hW⟩ : ∃ W, W = (w.alloc O1).alloc O2 := ⟨_, rfl⟩; (have B0 : Below w.heap.size w W := by rw [hW]; exact below_more (below_more (Below.refl _ w) _) _); (have p1 : W.heap[w.heap.size]? = some O1 := by rw [hW]; exact alloc_keep (blk_new w O1) _); (have p2 : W.heap[w.heap.size + 1]? = some O2 := by rw [hW]; exact blk_two w O1 O2); rw [hO1] at p1; rw [hO2] at p2; have P1 : Hid (W.heap[w.heap.size]? = some _) := p1; have P2 : Hid (W.heap[w.heap.size + 1]? = some _) := p2; have HWe : Hid ((w.alloc O1).alloc O2 = W) := hW.symm; clear hf hkr p1 p2 hW
  go_enter Tryz.func38, Tryz.ntmps38
  go_wp2_with fail; rw [← hO1, ← hO2, HWe.out]; clear hO1 hO2 HWe; (refine (rest_any l (by omega) (.mk k n ks) _ _ W (HL.out.up B0) (HF.out.up B0)).mono ?_); rintro e w1 ⟨x1, rfl, hg, hb1⟩; have B1 := below_join B0 hb1; have Q1 : Hid (w1.heap[w.heap.size]? = some _) := below_keep hb1 P1.out; have Q2 : Hid (w1.heap[w.heap.size + 1]? = some _) := below_keep hb1 P2.out; obtain ⟨adg, cpg, rfl, -⟩ := id hg; have HG1 : Hid (FL w1 _ (l.erase (.mk k n ks))) := hg; clear hg hb1 P1 P2 B0; obtain ⟨j0, j1, j2, -⟩ := blk3 Q1.out; go_wp2_with fail; (refine (rest_any r (by omega) (.mk k n ks) _ _ w1 (HR.out.up B1) (HF.out.up B1)).mono ?_); rintro e w2 ⟨x2, rfl, hd, hb2⟩; have B2 := below_join B1 hb2; have Q3 : Hid (w2.heap[w.heap.size]? = some _) := below_keep hb2 Q1.out; obtain ⟨add, cpd, rfl, -⟩ := id hd; have HD2 : Hid (FL w2 _ (r.erase (.mk k n ks))) := hd; have HG2 : Hid (FL w2 _ (l.erase (.mk k n ks))) := HG1.out.up hb2; clear hd hb2 Q1 Q2 j0 j1 j2 HG1 B1; obtain ⟨j0, j1, j2, -⟩ := blk3 Q3.out; go_wp2_with fail; refine (has_any l (.mk k n ks) _ _ w2 (HL.out.up B2) (HF.out.up B2)).mono ?_; rintro e w3 ⟨rfl, hb3⟩; have B3 := below_join B2 hb3; have Q4 : Hid (w3.heap[w.heap.size]? = some _) := below_keep hb3 Q3.out; have HD3 : Hid (FL w3 _ (r.erase (.mk k n ks))) := HD2.out.up hb3; have HG3 : Hid (FL w3 _ (l.erase (.mk k n ks))) := HG2.out.up hb3; clear hb3 Q3 j0 j1 j2 HG2 HD2 B2; obtain ⟨j0, j1, j2, -⟩ := blk3 Q4.out; go_wp2_with fail; refine (has_any r (.mk k n ks) _ _ w3 (HR.out.up B3) (HF.out.up B3)).mono ?_; rintro e w4 ⟨rfl, hb4⟩; have B4 := below_join B3 hb4; have Q5 : Hid (w4.heap[w.heap.size]? = some _) := below_keep hb4 Q4.out; have HD4 : Hid (FL w4 _ (r.erase (.mk k n ks))) := HD3.out.up hb4; have HG4 : Hid (FL w4 _ (l.erase (.mk k n ks))) := HG3.out.up hb4; clear hb4 Q4 j0 j1 j2 HG3 HD3 B3; obtain ⟨j0, j1, j2, -⟩ := blk3 Q5.out; have z4 := lt_of_block Q5.out; generalize hasF (.mk k n ks) l = bl at *; generalize hasF (.mk k n ks) r = br at *; by_cases hke : ks = []
  · subst hke
    go_wp2_with fail; (exact bodyPost_ret (v := .tuple #[.slice none 0 0, .bool false, .bool false]) (by simp [results, Tryz.results38, go_sem]) rfl ⟨_, rfl, SQs.nil, below_join B4 (below_more (below_more (below_more (Below.refl _ w4) _) _) _)⟩)
  · obtain ⟨⟨ka, na, ksa⟩, hk0⟩ : ∃ f, ks[0]? = some f := ⟨_, List.getElem?_eq_getElem (List.length_pos_iff.2 hke)⟩
    have hpos : 0 < ks.length := List.length_pos_iff.2 hke; obtain ⟨m, hm⟩ : ∃ m, m = ks.length - 1 := ⟨_, rfl⟩; (obtain ⟨⟨kz, nz, ksz⟩, hkz⟩ : ∃ f, ks[m]? = some f := ⟨_, List.getElem?_eq_getElem (by omega)⟩); obtain ⟨b, off, rfl, -, hrs⟩ := HKR.out hke; obtain ⟨sa, ca, g0, g1, g2, hra⟩ := (hrs.up B4).at 0 ka na ksa hk0; obtain ⟨sz, cz, u0, u1, u2, hrz⟩ := (hrs.up B4).at m kz nz ksz hkz; simp only [Nat.zero_mul, Nat.add_zero] at g0 g1 g2; (have hmI : (ks.length : Int) - 1 = (m : Nat) := by omega); (have hp0 : (0 : Int) < (ks.length : Int) := by omega); (have hp1 : (0 : Int) < (cf : Int) := by omega); (have hp2 : (m : Int) < (ks.length : Int) := by omega); (have hp3 : (m : Int) < (cf : Int) := by omega); have zb := lt_of_cell g0; simp only at zb; (have d1 : ¬ b = w4.heap.size := by omega); (have d2 : ¬ b = w4.heap.size + 1 := by omega); (have HRA : Hid (Rep w4 (fun _ => True) (.mk ka na ksa) _) := hra); (have HRZ : Hid (Rep w4 (fun _ => True) (.mk kz nz ksz) _) := hrz)
    have HKA : Hid (Fm.kA (.mk k n ks) = .mk ka na ksa) := by
      show ks.headD zeroF = _; rw [List.headD_eq_head?_getD, List.head?_eq_getElem?, hk0, Option.getD_some]
    have HKZ : Hid (Fm.kZ (.mk k n ks) = .mk kz nz ksz) := by
      show ks.getLastD zeroF = _; rw [List.getLastD_eq_getLast?, List.getLast?_eq_getElem?, ← hm, hkz, Option.getD_some]
    clear hk0 hkz hrs hra hrz HKR hm hke; go_wp2_with fail; (exact bodyPost_ret (v := .tuple #[.slice none 0 0, .bool false, .bool false]) (by simp [results, Tryz.results38, go_sem]) rfl ⟨_, rfl, SQs.nil, below_join B4 (below_more (below_more (below_more (Below.refl _ w4) _) _) _)⟩)
end Go.Proofs.YtpmogojpdigbmabGreat
/- The yardstick's premises, whatever the rule. -/
namespace Go.Proofs.YtpmogojpdigbmabGreat
open Go.RowKit

def allRules : List Ru := [.ax, .tr, .fa, .andL, .andR, .orL, .thenR, .notR, .contrL, .cut, .thenL, .notL, .orR, .contrR, .orR1, .orR2]
def ruleAll (t : List UInt8) : Option Ru := allRules.find? fun r => decide (r.text = t)
theorem ruleAll_text (q : Ru) : ruleAll q.text = some q := by cases q <;> rfl
theorem ruleOf_text (i : Bool) (q : Ru) : ruleOf i q.text = if hasRule i q then some q else none := by cases i <;> cases q <;> rfl
theorem ruleOf_none {i : Bool} {t : List UInt8} (h : ∀ q : Ru, q.text ≠ t) : ruleOf i t = none := by
  unfold ruleOf; rw [List.find?_eq_none]; intro q _ hq; exact h q (of_decide_eq_true hq)
/-- What the yardstick's premises say. -/
def PremSpec (i : Bool) (t : List UInt8) (f : Fm) (l r : List Fm) (ss : List (List Fm × List Fm)) (is ok : Bool) : Prop :=
  (∃ q : Ru, q.text = t ∧ ss = premL i q f l r ∧ is = hasRule i q ∧ ok = premOk q f l r) ∨ ((∀ q : Ru, q.text ≠ t) ∧ is = false ∧ ss = [] ∧ ok = false)
theorem PremSpec.no {i : Bool} {t : List UInt8} {f : Fm} {l r : List Fm} {ss : List (List Fm × List Fm)} {ok : Bool} (h : PremSpec i t f l r ss false ok) : ruleOf i t = none := by
  rcases h with ⟨q, rfl, -, h, -⟩ | ⟨h, -⟩
  · rw [ruleOf_text, ← h]; rfl
  · exact ruleOf_none h
theorem PremSpec.yes {i : Bool} {t : List UInt8} {f : Fm} {l r : List Fm} {ss : List (List Fm × List Fm)} {ok : Bool} (h : PremSpec i t f l r ss true ok) : ∃ q, ruleOf i t = some q ∧ q.text = t ∧ ss = premL i q f l r ∧ ok = premOk q f l r := by
  rcases h with ⟨q, rfl, hs, h, ho⟩ | ⟨-, h, -⟩
  · exact ⟨q, by rw [ruleOf_text, ← h]; rfl, rfl, hs, ho⟩
  · cases h
theorem premR_any (i : Bool) (t : ByteArray) (f : Fm) (l r : List Fm) (hl3 : l.length ≤ 300) (hr3 : r.length ≤ 300) (v VL VR : Value) (w : World) (hf : Rep w (fun _ => True) f v) (hl : FL w VL l) (hr : FL w VR r) :
    Calls Tryz.prog 38 #[.string t, v, .agg #[VL, VR], .bool i] w fun e w' => ∃ x ss is ok, e = .returned (.tuple #[x, .bool is, .bool ok]) ∧ SQs w' x ss ∧ PremSpec i t.data.toList f l r ss is ok ∧ Below w.heap.size w w' := by
  have fin : ∀ q : Ru, ∀ t' : ByteArray, t'.data.toList = q.text → (Calls Tryz.prog 38 #[.string t', v, .agg #[VL, VR], .bool i] w fun e w' => ∃ x, e = .returned (.tuple #[x, .bool (hasRule i q), .bool (premOk q f l r)]) ∧ SQs w' x (premL i q f l r) ∧ Below w.heap.size w w') → Calls Tryz.prog 38 #[.string t', v, .agg #[VL, VR], .bool i] w fun e w' => ∃ x ss is ok, e = .returned (.tuple #[x, .bool is, .bool ok]) ∧ SQs w' x ss ∧ PremSpec i t'.data.toList f l r ss is ok ∧ Below w.heap.size w w' := fun q t' ht h => by
    refine h.mono ?_; rintro e w' ⟨x, he, hs, hb⟩; exact ⟨x, _, _, _, he, hs, Or.inl ⟨q, ht.symm, rfl, rfl, rfl⟩, hb⟩
  (have un : ∀ (q : Ru) (b : ByteArray), b.data.toList = q.text → t.data.toList = q.text → t = b := fun q b h1 h2 => by apply ByteArray.ext; apply Array.ext'; rw [h1, h2]); (have no : ∀ q : Ru, ¬ t.data.toList = q.text → (t.toList == q.text) = false := fun q h => by rw [ByteArray.toList_eq]; simpa using h); by_cases h0 : t.data.toList = Ru.text .ax
  · rw [un .ax ⟨#[97, 120]⟩ rfl h0]
    exact fin .ax _ rfl (premR_ax i f l r hl3 hr3 v VL VR w hf hl hr)
  by_cases h1 : t.data.toList = Ru.text .tr
  · rw [un .tr ⟨#[116, 114, 117, 101]⟩ rfl h1]
    exact fin .tr _ rfl (premR_tr i f l r hl3 hr3 v VL VR w hf hl hr)
  by_cases h2 : t.data.toList = Ru.text .fa
  · rw [un .fa ⟨#[102, 97, 108, 115, 101]⟩ rfl h2]
    exact fin .fa _ rfl (premR_fa i f l r hl3 hr3 v VL VR w hf hl hr)
  by_cases h3 : t.data.toList = Ru.text .andL
  · rw [un .andL ⟨#[97, 110, 100, 45, 108]⟩ rfl h3]
    exact fin .andL _ rfl (premR_andL i f l r hl3 hr3 v VL VR w hf hl hr)
  by_cases h4 : t.data.toList = Ru.text .andR
  · rw [un .andR ⟨#[97, 110, 100, 45, 114]⟩ rfl h4]
    exact fin .andR _ rfl (premR_andR i f l r hl3 hr3 v VL VR w hf hl hr)
  by_cases h5 : t.data.toList = Ru.text .orL
  · rw [un .orL ⟨#[111, 114, 45, 108]⟩ rfl h5]
    exact fin .orL _ rfl (premR_orL i f l r hl3 hr3 v VL VR w hf hl hr)
  by_cases h6 : t.data.toList = Ru.text .thenR
  · rw [un .thenR ⟨#[116, 104, 101, 110, 45, 114]⟩ rfl h6]
    exact fin .thenR _ rfl (premR_thenR i f l r hl3 hr3 v VL VR w hf hl hr)
  by_cases h7 : t.data.toList = Ru.text .notR
  · rw [un .notR ⟨#[110, 111, 116, 45, 114]⟩ rfl h7]
    exact fin .notR _ rfl (premR_notR i f l r hl3 hr3 v VL VR w hf hl hr)
  by_cases h8 : t.data.toList = Ru.text .contrL
  · rw [un .contrL ⟨#[99, 111, 110, 116, 114, 45, 108]⟩ rfl h8]
    exact fin .contrL _ rfl (premR_contrL i f l r hl3 hr3 v VL VR w hf hl hr)
  by_cases h9 : t.data.toList = Ru.text .cut
  · rw [un .cut ⟨#[99, 117, 116]⟩ rfl h9]
    exact fin .cut _ rfl (premR_cut i f l r hl3 hr3 v VL VR w hf hl hr)
  by_cases h10 : t.data.toList = Ru.text .thenL
  · rw [un .thenL ⟨#[116, 104, 101, 110, 45, 108]⟩ rfl h10]
    exact fin .thenL _ rfl (premR_thenL i f l r hl3 hr3 v VL VR w hf hl hr)
  by_cases h11 : t.data.toList = Ru.text .notL
  · rw [un .notL ⟨#[110, 111, 116, 45, 108]⟩ rfl h11]
    exact fin .notL _ rfl (premR_notL i f l r hl3 hr3 v VL VR w hf hl hr)
  by_cases h12 : t.data.toList = Ru.text .orR
  · rw [un .orR ⟨#[111, 114, 45, 114]⟩ rfl h12]
    exact fin .orR _ rfl (premR_orR i f l r hl3 hr3 v VL VR w hf hl hr)
  by_cases h13 : t.data.toList = Ru.text .contrR
  · rw [un .contrR ⟨#[99, 111, 110, 116, 114, 45, 114]⟩ rfl h13]
    exact fin .contrR _ rfl (premR_contrR i f l r hl3 hr3 v VL VR w hf hl hr)
  by_cases h14 : t.data.toList = Ru.text .orR1
  · rw [un .orR1 ⟨#[111, 114, 45, 114, 49]⟩ rfl h14]
    exact fin .orR1 _ rfl (premR_orR1 i f l r hl3 hr3 v VL VR w hf hl hr)
  by_cases h15 : t.data.toList = Ru.text .orR2
  · rw [un .orR2 ⟨#[111, 114, 45, 114, 50]⟩ rfl h15]
    exact fin .orR2 _ rfl (premR_orR2 i f l r hl3 hr3 v VL VR w hf hl hr)
  refine (premR_none i t (no .ax h0) (no .tr h1) (no .fa h2) (no .andL h3) (no .andR h4) (no .orL h5) (no .thenR h6) (no .notR h7) (no .contrL h8) (no .cut h9) (no .thenL h10) (no .notL h11) (no .orR h12) (no .contrR h13) (no .orR1 h14) (no .orR2 h15) f l r hl3 hr3 v VL VR w hf hl hr).mono ?_; rintro e w' ⟨x, he, hs, hb⟩; (refine ⟨x, _, _, _, he, hs, Or.inr ⟨fun q e => ?_, rfl, rfl, rfl⟩, hb⟩)
  cases q
  all_goals first | exact h0 e.symm | exact h1 e.symm | exact h2 e.symm | exact h3 e.symm | exact h4 e.symm | exact h5 e.symm | exact h6 e.symm | exact h7 e.symm | exact h8 e.symm | exact h9 e.symm | exact h10 e.symm | exact h11 e.symm | exact h12 e.symm | exact h13 e.symm | exact h14 e.symm | exact h15 e.symm
end Go.Proofs.YtpmogojpdigbmabGreat
/- Walks: the yardstick's stepCode, its plain facts (made by gen/yc1.py). -/
namespace Go.Proofs.YtpmogojpdigbmabGreat
open Go.RowKit

def Pf.lawT : Pf → List UInt8
  | .mk a _ _ _ _ => a.data.toList

def kAny : Value → World → Prop := fun _ _ => True
theorem kAny_stays : Stays kAny := fun _ _ _ _ _ => trivial
theorem kidsC_at {ks : List Pf} {ss : List (List Fm × List Fm)} {j : Nat} {k : Pf} {s : List Fm × List Fm} (h1 : ks[j]? = some k) (h2 : ss[j]? = some s) : kidsC (ks.drop j) (ss.drop j) = if isEq k.l s.1 && isEq k.r s.2 then kidsC (ks.drop (j + 1)) (ss.drop (j + 1)) else 7 := by
  have hi := (List.getElem?_eq_some_iff.1 h1).1; have hj := (List.getElem?_eq_some_iff.1 h2).1; rw [List.drop_eq_getElem_cons hi, List.drop_eq_getElem_cons hj, kidsC]; rw [List.getElem?_eq_getElem hi] at h1; rw [List.getElem?_eq_getElem hj] at h2; rw [Option.some.inj h1, Option.some.inj h2]
theorem SQs.len2 {w : World} {v : Value} {ss : List (List Fm × List Fm)} (h : SQs w v ss) : ∃ ad cap, v = .slice ad ss.length cap ∧ ss.length ≤ cap ∧ cap ≤ maxLen := by
  obtain ⟨ad, cap, h1, h2, h3, -⟩ := h; exact ⟨ad, cap, h1, h2, h3⟩
theorem premL_len (i : Bool) (q : Ru) (f : Fm) (l r : List Fm) : (premL i q f l r).length ≤ 2 := by cases q <;> simp [premL]
theorem premL_small (i : Bool) (q : Ru) (f : Fm) (l r : List Fm) (hl : l.length ≤ 300) (hr : r.length ≤ 300) : ∀ s ∈ premL i q f l r, s.1.length ≤ 302 ∧ s.2.length ≤ 302 := by
  have h1 : (l.erase f).length ≤ l.length := List.length_erase_le; have h2 : (r.erase f).length ≤ r.length := List.length_erase_le; intro s hs
  cases i <;> cases q <;> simp [premL] at hs
  all_goals first
    | (rcases hs with rfl | rfl <;> simp <;> omega)
    | (subst hs; simp; omega)

theorem frame_mid {ops : Array Oper} {tm : Array Value} {df : List Deferred} {a0 : Act} (lo n : Nat) (hin : (ops.toList.all fun o => match o.dst with | some d => decide (lo ≤ d ∧ lo + n > d) | none => true) = true) (hlen : lo + n ≤ a0.tmps.size) (h : OldSlots ops a0 ⟨tm, df⟩) : ∃ ys : List Value, ys.length = n ∧ tm = ⟨a0.tmps.toList.take lo ++ (ys ++ a0.tmps.toList.drop (lo + n))⟩ ∧ df = a0.defers := by
  obtain ⟨h1, h2, h3⟩ := h; have h1' : tm.toList.length = a0.tmps.toList.length := h1; have hl : lo + n ≤ a0.tmps.toList.length := hlen
  have old : ∀ t, (t < lo ∨ lo + n ≤ t) → tm.toList[t]? = a0.tmps.toList[t]? := fun t ht => by
    have := h3 t (by
      rw [List.all_eq_true] at hin ⊢; intro o ho; have := hin o ho
      cases hd : o.dst with
      | none => rfl
      | some d =>
        rw [hd] at this; have := of_decide_eq_true this; (refine bne_iff_ne.2 fun e => ?_); have e2 : d = t := Option.some.inj e; subst e2
        omega)
    simpa using this
  (refine ⟨(tm.toList.drop lo).take n, by rw [List.length_take, List.length_drop]; omega, ?_, h2⟩); apply Array.ext'; apply List.ext_getElem?; intro t
  rcases Nat.lt_or_ge t lo with ht | ht
  · rw [List.getElem?_append_left (by rw [List.length_take]; omega), List.getElem?_take_of_lt ht]
    exact old t (Or.inl ht)
  · rw [List.getElem?_append_right (by rw [List.length_take]; omega), List.length_take, Nat.min_eq_left (by omega)]
    rcases Nat.lt_or_ge t (lo + n) with ht2 | ht2
    · rw [List.getElem?_append_left (by rw [List.length_take, List.length_drop]; omega), List.getElem?_take_of_lt (by omega), List.getElem?_drop]
      congr 1
      omega
    · rw [List.getElem?_append_right (by rw [List.length_take, List.length_drop]; omega), List.length_take, List.length_drop, Nat.min_eq_left (by omega), List.getElem?_drop, old t (Or.inr ht2)]
      congr 1
      omega
theorem rowOf24 (l : List Value) (h0 : l.length = 24) : ∃ x0 x1 x2 x3 x4 x5 x6 x7 x8 x9 x10 x11 x12 x13 x14 x15 x16 x17 x18 x19 x20 x21 x22 x23, l = [x0, x1, x2, x3, x4, x5, x6, x7, x8, x9, x10, x11, x12, x13, x14, x15, x16, x17, x18, x19, x20, x21, x22, x23] := by
  obtain ⟨x0, l1, e0, h1⟩ := cons_len h0; obtain ⟨x1, l2, e1, h2⟩ := cons_len h1; obtain ⟨x2, l3, e2, h3⟩ := cons_len h2; obtain ⟨x3, l4, e3, h4⟩ := cons_len h3; obtain ⟨x4, l5, e4, h5⟩ := cons_len h4; obtain ⟨x5, l6, e5, h6⟩ := cons_len h5; obtain ⟨x6, l7, e6, h7⟩ := cons_len h6; obtain ⟨x7, l8, e7, h8⟩ := cons_len h7; obtain ⟨x8, l9, e8, h9⟩ := cons_len h8; obtain ⟨x9, l10, e9, h10⟩ := cons_len h9; obtain ⟨x10, l11, e10, h11⟩ := cons_len h10; obtain ⟨x11, l12, e11, h12⟩ := cons_len h11; obtain ⟨x12, l13, e12, h13⟩ := cons_len h12; obtain ⟨x13, l14, e13, h14⟩ := cons_len h13; obtain ⟨x14, l15, e14, h15⟩ := cons_len h14; obtain ⟨x15, l16, e15, h16⟩ := cons_len h15; obtain ⟨x16, l17, e16, h17⟩ := cons_len h16; obtain ⟨x17, l18, e17, h18⟩ := cons_len h17; obtain ⟨x18, l19, e18, h19⟩ := cons_len h18; obtain ⟨x19, l20, e19, h20⟩ := cons_len h19; obtain ⟨x20, l21, e20, h21⟩ := cons_len h20; obtain ⟨x21, l22, e21, h22⟩ := cons_len h21; obtain ⟨x22, l23, e22, h23⟩ := cons_len h22; obtain ⟨x23, l24, e23, h24⟩ := cons_len h23; have e24 : l24 = [] := List.length_eq_zero_iff.1 h24; subst e24 e23 e22 e21 e20 e19 e18 e17 e16 e15 e14 e13 e12 e11 e10 e9 e8 e7 e6 e5 e4 e3 e2 e1 e0; exact ⟨x0, x1, x2, x3, x4, x5, x6, x7, x8, x9, x10, x11, x12, x13, x14, x15, x16, x17, x18, x19, x20, x21, x22, x23, rfl⟩
theorem rowOf30 (l : List Value) (h0 : l.length = 30) : ∃ x0 x1 x2 x3 x4 x5 x6 x7 x8 x9 x10 x11 x12 x13 x14 x15 x16 x17 x18 x19 x20 x21 x22 x23 x24 x25 x26 x27 x28 x29, l = [x0, x1, x2, x3, x4, x5, x6, x7, x8, x9, x10, x11, x12, x13, x14, x15, x16, x17, x18, x19, x20, x21, x22, x23, x24, x25, x26, x27, x28, x29] := by
  obtain ⟨x0, l1, e0, h1⟩ := cons_len h0; obtain ⟨x1, l2, e1, h2⟩ := cons_len h1; obtain ⟨x2, l3, e2, h3⟩ := cons_len h2; obtain ⟨x3, l4, e3, h4⟩ := cons_len h3; obtain ⟨x4, l5, e4, h5⟩ := cons_len h4; obtain ⟨x5, l6, e5, h6⟩ := cons_len h5; obtain ⟨x6, l7, e6, h7⟩ := cons_len h6; obtain ⟨x7, l8, e7, h8⟩ := cons_len h7; obtain ⟨x8, l9, e8, h9⟩ := cons_len h8; obtain ⟨x9, l10, e9, h10⟩ := cons_len h9; obtain ⟨x10, l11, e10, h11⟩ := cons_len h10; obtain ⟨x11, l12, e11, h12⟩ := cons_len h11; obtain ⟨x12, l13, e12, h13⟩ := cons_len h12; obtain ⟨x13, l14, e13, h14⟩ := cons_len h13; obtain ⟨x14, l15, e14, h15⟩ := cons_len h14; obtain ⟨x15, l16, e15, h16⟩ := cons_len h15; obtain ⟨x16, l17, e16, h17⟩ := cons_len h16; obtain ⟨x17, l18, e17, h18⟩ := cons_len h17; obtain ⟨x18, l19, e18, h19⟩ := cons_len h18; obtain ⟨x19, l20, e19, h20⟩ := cons_len h19; obtain ⟨x20, l21, e20, h21⟩ := cons_len h20; obtain ⟨x21, l22, e21, h22⟩ := cons_len h21; obtain ⟨x22, l23, e22, h23⟩ := cons_len h22; obtain ⟨x23, l24, e23, h24⟩ := cons_len h23; obtain ⟨x24, l25, e24, h25⟩ := cons_len h24; obtain ⟨x25, l26, e25, h26⟩ := cons_len h25; obtain ⟨x26, l27, e26, h27⟩ := cons_len h26; obtain ⟨x27, l28, e27, h28⟩ := cons_len h27; obtain ⟨x28, l29, e28, h29⟩ := cons_len h28; obtain ⟨x29, l30, e29, h30⟩ := cons_len h29; have e30 : l30 = [] := List.length_eq_zero_iff.1 h30; subst e30 e29 e28 e27 e26 e25 e24 e23 e22 e21 e20 e19 e18 e17 e16 e15 e14 e13 e12 e11 e10 e9 e8 e7 e6 e5 e4 e3 e2 e1 e0; exact ⟨x0, x1, x2, x3, x4, x5, x6, x7, x8, x9, x10, x11, x12, x13, x14, x15, x16, x17, x18, x19, x20, x21, x22, x23, x24, x25, x26, x27, x28, x29, rfl⟩
end Go.Proofs.YtpmogojpdigbmabGreat
