/- Texts of one proof, one behind the other: CF3, CF4, CF5. -/
import Derived.Test.YtffkoiemnchdgaeB31
/- Walks: weakCode. -/
namespace Go.Proofs.Ytffkoiemnchdgae
open Go.RowKit

theorem zero_fm {k : Int} {n : ByteArray} {kf : List Fm} : Fm.mk k n kf = .mk 0 ⟨#[]⟩ [] ↔ k = 0 ∧ n.data.toList = [] ∧ kf = [] := by
  constructor
  · intro h
    injection h with h1 h2 h3
    (exact ⟨h1, by rw [h2], h3⟩)
  · rintro ⟨h1, h2, h3⟩
    (have : n = ⟨#[]⟩ := by apply ByteArray.ext; apply Array.ext'; exact h2); rw [h1, this, h3]

theorem weakC_form {f : Fm} {l r : List Fm} {ks : List Pf} (h : ¬ f = .mk 0 ⟨#[]⟩ []) : weakC f l r ks = 5 := by
  unfold weakC; rw [if_neg h]
theorem weakC_one {l r : List Fm} {k : Pf} : weakC (.mk 0 ⟨#[]⟩ []) l r [k] = if within k.l l && within k.r r then 0 else 7 := by
  unfold weakC; rw [if_pos rfl]
theorem weakC_size {l r : List Fm} {ks : List Pf} (h : ¬ ks.length = 1) : weakC (.mk 0 ⟨#[]⟩ []) l r ks = 9 := by
  unfold weakC; rw [if_pos rfl]
  split
  · exact absurd rfl h
  · rfl

set_option maxRecDepth 10000 in
set_option maxHeartbeats 4000000 in
theorem weakCode_any (a : ByteArray) (f : Fm) (l r : List Fm) (ks : List Pf) (hl4 : l.length ≤ 300) (hr4 : r.length ≤ 300) (v : Value) (w : World) (hv : PRep w (.mk a f l r ks) v) :
    Calls Try.prog 136 #[v] w fun e w' => e = .returned (.int .i64 (weakC f l r ks)) ∧ Below w.heap.size w w' := by
  obtain ⟨k, n, kf⟩ := f; obtain ⟨sf, cf, al, cl, ar, cr, sl, cap, rfl, -, -, hl, hr, hkc, hcm, hks⟩ := hv.parts; have HL : Hid (FL w (.slice al l.length cl) l) := hl; have HR : Hid (FL w (.slice ar r.length cr) r) := hr; (have hkI : (ks.length : Int) ≤ 9223372036854775807 := by unfold maxLen at hcm; omega); have HK : Hid (ks ≠ [] → ∃ b off, sl = some ⟨b, off, none⟩ ∧ PReps w b off ks) := hks; clear hv hl hr hks; by_cases hk : k = 0
  · subst hk
    by_cases hn : n.data.toList = []
    · have hn' : n = ⟨#[]⟩ := by apply ByteArray.ext; apply Array.ext'; exact hn
      subst hn'; by_cases hkf : kf = []
      · subst hkf
        by_cases hk1 : ks.length = 1
        · obtain ⟨⟨ka, ⟨kk, kn, kkf⟩, kl, kr, kks⟩, rfl⟩ : ∃ x, ks = [x] := by
            match ks, hk1 with
            | [x], _ => exact ⟨x, rfl⟩
          (obtain ⟨b, off, rfl, hrs⟩ := HK.out (by simp)); obtain ⟨sf2, cf2, al2, cl2, ar2, cr2, sl2, cap2, x0, x1, x2, x3, x4, x5, x6, hrep⟩ := hrs.at 0 ka kk kn kkf kl kr kks rfl; simp only [Nat.zero_mul, Nat.add_zero] at x0 x1 x2 x3 x4 x5 x6; obtain ⟨_, _, _, _, _, _, _, _, hpe, -, -, hkl, hkr, -⟩ := hrep.parts; simp only [Value.agg.injEq, Array.mk.injEq, List.cons.injEq, Value.slice.injEq, and_true, true_and] at hpe; obtain ⟨⟨rfl, rfl⟩, ⟨rfl, rfl⟩, ⟨rfl, rfl⟩, ⟨rfl, rfl⟩⟩ := hpe; (have HW1 : Hid (∀ wx, Below w.heap.size w wx → Calls Try.prog 153 #[.slice al2 kl.length cl2, .slice al l.length cl] wx fun e w' => e = .returned (.bool (within kl l)) ∧ Below wx.heap.size wx w') := fun wx hb => within_any kl l (by omega) _ _ wx (hkl.up hb) (HL.out.up hb)); (have HW2 : Hid (∀ wx, Below w.heap.size w wx → Calls Try.prog 153 #[.slice ar2 kr.length cr2, .slice ar r.length cr] wx fun e w' => e = .returned (.bool (within kr r)) ∧ Below wx.heap.size wx w') := fun wx hb => within_any kr r (by omega) _ _ wx (hkr.up hb) (HR.out.up hb)); rw [weakC_one]; (show Calls Try.prog _ _ _ fun e w' => e = .returned (.int .i64 (if within kl l && within kr r then 0 else 7)) ∧ _); generalize within kl l = e1 at *; generalize within kr r = e2 at *; (have hc1 : (1 : Int) ≤ (cap : Int) := by simp at hkc; omega); have zb : b < w.heap.size := lt_of_cell x0; (have d1 : ¬ b = w.heap.size := by omega); clear hrs HK hrep hkl hkr HL HR hk1 hn hkc hcm
          go_enter Try.func136, Try.ntmps136
          go_wp2_with fail; refine (HW1.out _ (below_more (below_more (Below.refl _ _) _) _)).mono ?_; rintro e w1 ⟨rfl, hb1⟩; have B1 := below_join (below_more (below_more (Below.refl _ w) _) _) hb1; obtain ⟨t0, t1, -⟩ := blk2 (below_keep hb1 (blk_two w _ _)); obtain ⟨j0, j1, j2, j3, j4, j5, j6⟩ := blk7 (below_keep hb1 (alloc_keep (blk_new w _) _))
          cases e1
          · go_wp2_with fail
            go_ret; exact ⟨rfl, B1⟩
          · go_wp2_with fail
            refine (HW2.out _ B1).mono ?_; rintro e w2 ⟨rfl, hb2⟩; have B2 := below_join B1 hb2
            cases e2
            · go_wp2_with fail
              go_ret; exact ⟨rfl, B2⟩
            · go_wp2_with fail
              go_ret; exact ⟨rfl, B2⟩
        · have hkJ : ((ks.length : Int) != 1) = true := by simp; omega
          rw [weakC_size hk1]; clear HK hk1
          go_enter Try.func136, Try.ntmps136
          go_wp2_with fail; go_ret; exact ⟨rfl, below_more (Below.refl _ w) _⟩
      · rw [weakC_form fun h => hkf (zero_fm.1 h).2.2]
        have hkJ : ((kf.length : Int) != 0) = true := by
          have := List.length_pos_iff.2 hkf
          simp
          exact hkf
        clear HK hkf
        go_enter Try.func136, Try.ntmps136
        go_wp2_with fail; go_ret; exact ⟨rfl, below_more (Below.refl _ w) _⟩
    · rw [weakC_form fun h => hn (zero_fm.1 h).2.1]
      (have hnJ : (n.toList == ([] : List UInt8)) = false := by rw [ByteArray.toList_eq]; simpa using hn); (have hnE : (n.toList).isEmpty = false := by rw [ByteArray.toList_eq]; simpa using hn); clear HK hn
      go_enter Try.func136, Try.ntmps136
      go_wp2_with fail; go_ret; exact ⟨rfl, below_more (Below.refl _ w) _⟩
  · rw [weakC_form fun h => hk (zero_fm.1 h).1]
    (have hkJ : (k != 0) = true := by simpa using hk); clear HK
    go_enter Try.func136, Try.ntmps136
    go_wp2_with fail; go_ret; exact ⟨rfl, below_more (Below.refl _ w) _⟩
end Go.Proofs.Ytffkoiemnchdgae
/- Walks: stepCode. -/
namespace Go.Proofs.Ytffkoiemnchdgae
open Go.RowKit Go.Maps Go.WideMaps

theorem stepC_end {i : Bool} {a : ByteArray} {f : Fm} {l r : List Fm} {ks : List Pf} (h : noEnd i l r = true) : stepC i (.mk a f l r ks) = 5 := by
  rw [stepC, if_pos]; unfold noEnd at h; rw [Bool.or_eq_true, Bool.and_eq_true] at h
  rcases h with h | h
  · exact Or.inl (by simpa using h)
  · exact Or.inr ⟨h.1, by simpa using h.2⟩
theorem noEnd_not {i : Bool} {l r : List Fm} (h : noEnd i l r = false) : ¬ ((seqCode l r).1 ≠ 0 ∨ (i = true ∧ 1 < r.length)) := by
  unfold noEnd at h; rw [Bool.or_eq_false_iff] at h; rintro (h' | h')
  · have := h.1
    simp at this; exact h' this
  · have := h.2
    rw [h'.1] at this; simp at this; omega
theorem stepC_weak {i : Bool} {a : ByteArray} {f : Fm} {l r : List Fm} {ks : List Pf} (h : noEnd i l r = false) (hw : a.data.toList = weakT) : stepC i (.mk a f l r ks) = weakC f l r ks := by
  rw [stepC, if_neg (noEnd_not h), if_pos hw]
theorem stepC_kind {i : Bool} {a : ByteArray} {f : Fm} {l r : List Fm} {ks : List Pf} (h : noEnd i l r = false) (hw : ¬ a.data.toList = weakT) (hr : ruleOf i a.data.toList = none) : stepC i (.mk a f l r ks) = 4 := by
  rw [stepC, if_neg (noEnd_not h), if_neg hw, hr]
theorem stepC_form {i : Bool} {a : ByteArray} {f : Fm} {l r : List Fm} {ks : List Pf} {q : Ru} (h : noEnd i l r = false) (hw : ¬ a.data.toList = weakT) (hr : ruleOf i a.data.toList = some q) (hp : f.pcode.1 ≠ 0) : stepC i (.mk a f l r ks) = 5 := by
  rw [stepC, if_neg (noEnd_not h), if_neg hw, hr]; (show (if f.pcode.1 ≠ 0 then (5 : Int) else _) = 5); rw [if_pos hp]
theorem stepC_false {i : Bool} {a : ByteArray} {f : Fm} {l r : List Fm} {ks : List Pf} {q : Ru} (h : noEnd i l r = false) (hw : ¬ a.data.toList = weakT) (hr : ruleOf i a.data.toList = some q) (hp : f.pcode.1 = 0) (hn : prem i q f l r = none) : stepC i (.mk a f l r ks) = 7 := by
  rw [stepC, if_neg (noEnd_not h), if_neg hw, hr]; (show (if f.pcode.1 ≠ 0 then (5 : Int) else _) = 7); (rw [if_neg (fun h => h hp), hn])
theorem stepC_kids {i : Bool} {a : ByteArray} {f : Fm} {l r : List Fm} {ks : List Pf} {q : Ru} {ss : List (List Fm × List Fm)} (h : noEnd i l r = false) (hw : ¬ a.data.toList = weakT) (hr : ruleOf i a.data.toList = some q) (hp : f.pcode.1 = 0) (hn : prem i q f l r = some ss) : stepC i (.mk a f l r ks) = if ks.length ≠ ss.length then 9 else kidsC ks ss := by
  rw [stepC, if_neg (noEnd_not h), if_neg hw, hr]; (show (if f.pcode.1 ≠ 0 then (5 : Int) else _) = _); (rw [if_neg (fun h => h hp), hn])

theorem prem_small {i : Bool} {q : Ru} {f : Fm} {l r : List Fm} {ss : List (List Fm × List Fm)} (hl : l.length ≤ 300) (hr : r.length ≤ 300) (h : prem i q f l r = some ss) : ∀ s ∈ ss, s.1.length ≤ 400 ∧ s.2.length ≤ 400 := by
  have h1 : (l.erase f).length ≤ l.length := List.length_erase_le; have h2 : (r.erase f).length ≤ r.length := List.length_erase_le
  cases q <;> simp only [prem] at h
  all_goals
    first
    | (split at h
       · cases h
         intro s hs
         first
         | (cases hs; done)
         | skip
         all_goals simp only [List.mem_cons, List.not_mem_nil, or_false] at hs
         all_goals cases i
         all_goals
           first
           | (rcases hs with rfl | rfl <;> simp <;> omega)
           | (subst hs; simp; omega)
           | (subst hs; simp)
       · cases h)
    | (cases h
       intro s hs; simp only [List.mem_cons, List.not_mem_nil, or_false] at hs
       cases i
       all_goals (rcases hs with rfl | rfl <;> simp <;> omega))

/-- What the look-up of a rule answers. -/
theorem rules_look {i : Bool} {w : World} {m : Nat} (h : RulesAt i w m) (a : ByteArray) (ha : a.size ≤ maxLen) : (ruleOf i a.data.toList = none → ∀ wx, Below w.heap.size w wx → (Instr.lookup 96 (.map (some m)) (.string a) true).run Try.prog wx = .ok (.tuple #[.nilFunc, .bool false]) wx) ∧
    ∀ q, ruleOf i a.data.toList = some q → ∃ v B, RuleFn i q v B w ∧ ∀ wx, Below w.heap.size w wx → (Instr.lookup 96 (.map (some m)) (.string a) true).run Try.prog wx = .ok (.tuple #[v, .bool true]) wx := by
  obtain ⟨n, D, h1, h2, h3⟩ := h; have hkey : keyOf Try.prog 9 (.string a) = some (.string a.data.toList) := keyOf_string_mk Try.underlying9 ha; (have hz : ∀ w, (zeroValue 117).run Try.prog w = .ok .nilFunc w := fun w => by kernel_rfl); (have hl := fun (wx : World) (hb : Below w.heap.size w wx) => (h1.kept (grown_of_below hb) (by simp)).look_ok strKeyed Try.underlying96 (hz wx) (show heldR .nilFunc = some (.held .nilFunc, []) from rfl) hkey)
  constructor
  · intro hn wx hb
    obtain ⟨v, ps, hrun, hv⟩ := hl wx hb; (have hh : Maps.has D (.string a.data.toList) = false := by rw [h2, hn]; rfl); rw [atKey_of_not_has hh] at hv; rw [hh] at hrun; unfold heldR at hv; simp only [Option.some.injEq, Prod.mk.injEq, DataW.held.injEq] at hv; rw [hv.1] at hrun; exact hrun
  · intro q hq
    obtain ⟨v, B, hat, hr⟩ := h3 _ q hq; (refine ⟨v, B, hr, fun wx hb => ?_⟩); obtain ⟨v', ps, hrun, hv⟩ := hl wx hb; (have hh : Maps.has D (.string a.data.toList) = true := by rw [h2, hq]; rfl); rw [hat] at hv; rw [hh] at hrun; unfold heldR at hv; simp only [Option.some.injEq, Prod.mk.injEq, DataW.held.injEq] at hv; rw [hv.1] at hrun; exact hrun
end Go.Proofs.Ytffkoiemnchdgae
/- Walks: stepCode. -/
namespace Go.Proofs.Ytffkoiemnchdgae
open Go.RowKit Go.Maps Go.WideMaps

set_option maxRecDepth 10000 in
set_option maxHeartbeats 8000000 in
theorem stepCode_any (i : Bool) (bc m s c : Nat) (a : ByteArray) (f : Fm) (l r : List Fm) (ks : List Pf) (hl4 : l.length ≤ 300) (hr4 : r.length ≤ 300) (v : Value) (w : World) (hv : PRep w (.mk a f l r ks) v) (hc : Ck w bc i m s c) (hrules : RulesAt i w m) :
    Calls Try.prog 92 #[.pointer (some ⟨bc, 0, none⟩), v] w fun e w' => e = .returned (.int .i64 (stepC i (.mk a f l r ks))) ∧ Below w.heap.size w w' := by
  obtain ⟨k, n, kf⟩ := f; have HV : Hid (PRep w (.mk a (.mk k n kf) l r ks) v) := hv; obtain ⟨sf, cf, al, cl, ar, cr, sl, cap, rfl, ha, hf, hl, hr, hkc, hcm, hks⟩ := hv.parts; (have HF : Hid (Rep w (fun _ => True) (.mk k n kf) _) := hf); have HL : Hid (FL w (.slice al l.length cl) l) := hl; have HR : Hid (FL w (.slice ar r.length cr) r) := hr; have HKs : Hid (KL w (.slice sl ks.length cap) ks) := ⟨sl, cap, rfl, hkc, hcm, hks⟩; have HC : Hid (w.heap[bc]? = some (.cells #[.bool i, .map (some m), .int .i64 (s : Nat), .int .i64 (c : Nat)] 99 (0, 0))) := hc; obtain ⟨O, hO⟩ : ∃ O, O = Obj.cells #[.string a, .int .i64 k, .string n, .slice sf kf.length cf, .slice al l.length cl, .slice ar r.length cr, .slice sl ks.length cap] 29 (0, 0) := ⟨_, rfl⟩; have B0 := below_more (Below.refl _ w) O; have hp0 := blk_new w O; rw [hO] at hp0; (have P0 : Hid ((w.alloc O).heap[w.heap.size]? = some (.cells #[.string a, .int .i64 k, .string n, .slice sf kf.length cf, .slice al l.length cl, .slice ar r.length cr, .slice sl ks.length cap] 29 (0, 0))) := by rw [hO]; exact hp0); (have hne := isNoEnd_any i m s c bc l r (by omega) (by omega) _ _ (w.alloc O) (hl.up B0) (hr.up B0) (alloc_keep hc O)); have HNE : Hid (Calls Try.prog 135 _ (w.alloc O) _) := hne; have hlook := rules_look hrules a ha; have HLk : Hid ((ruleOf i a.data.toList = none → ∀ wx, Below w.heap.size w wx → (Instr.lookup 96 (.map (some m)) (.string a) true).run Try.prog wx = .ok (.tuple #[.nilFunc, .bool false]) wx) ∧ ∀ q, ruleOf i a.data.toList = some q → ∃ v B, RuleFn i q v B w ∧ ∀ wx, Below w.heap.size w wx → (Instr.lookup 96 (.map (some m)) (.string a) true).run Try.prog wx = .ok (.tuple #[v, .bool true]) wx) := hlook; clear hv hf hl hr hks hc hp0 hne hlook hrules hcm hkc; by_cases h1 : noEnd i l r = true
  · rw [stepC_end h1]
    rw [h1] at HNE; clear h1
    go_enter Try.func92, Try.ntmps92
    go_wp2_with fail; rw [← hO]; refine HNE.out.mono ?_; rintro e w1 ⟨rfl, hb1⟩; have B1 := below_join B0 hb1; go_wp2_with fail; go_ret; exact ⟨rfl, B1⟩
  · simp only [Bool.not_eq_true] at h1
    have HE1 : Hid (noEnd i l r = false) := h1; rw [h1] at HNE; clear h1; by_cases hw : a.data.toList = weakT
    · rw [stepC_weak HE1.out hw]
      have hwk := weakCode_any a (.mk k n kf) l r ks hl4 hr4; have HWK : Hid (∀ v w, PRep w (.mk a (.mk k n kf) l r ks) v → Calls Try.prog 136 #[v] w _) := hwk; (have hae : a = ⟨#[119, 101, 97, 107]⟩ := by apply ByteArray.ext; apply Array.ext'; exact hw); subst hae; generalize weakC (.mk k n kf) l r ks = wc at *; clear hwk hw
      go_enter Try.func92, Try.ntmps92
      go_wp2_with fail; rw [← hO]; refine HNE.out.mono ?_; rintro e w1 ⟨rfl, hb1⟩; have B1 := below_join B0 hb1; obtain ⟨j0, j1, j2, j3, j4, j5, j6⟩ := blk7 (below_keep hb1 P0.out); go_wp2_with fail; refine (HWK.out _ _ (PRep.up B1 _ _ HV.out)).mono ?_; rintro e w2 ⟨rfl, hb2⟩; have B2 := below_join B1 hb2; go_wp2_with fail; go_ret; exact ⟨rfl, B2⟩
    · have HW : Hid (¬ a.data.toList = weakT) := hw
      (have hwj : (a.toList == ([119, 101, 97, 107] : List UInt8)) = false := by rw [ByteArray.toList_eq]; simpa [weakT] using hw); clear hw
      cases hq : ruleOf i a.data.toList with
      | none =>
        rw [stepC_kind HE1.out HW.out hq]; have hlk := HLk.out.1 hq; have HLK : Hid (∀ wx, Below w.heap.size w wx → (Instr.lookup 96 (.map (some m)) (.string a) true).run Try.prog wx = .ok (.tuple #[.nilFunc, .bool false]) wx) := hlk; clear hq hlk HLk
        go_enter Try.func92, Try.ntmps92
        go_wp2_with fail; rw [← hO]; refine HNE.out.mono ?_; rintro e w1 ⟨rfl, hb1⟩; have B1 := below_join B0 hb1; have p1 := below_keep hb1 P0.out; have c1 := below_keep B1 HC.out; obtain ⟨j0, j1, j2, j3, j4, j5, j6⟩ := blk7 p1; obtain ⟨i0, i1, -⟩ := blk4 c1; (have hlk : ∀ n, (Instr.lookup 96 (.map (some m)) (.string a) true).run Try.prog (w1.drewN n) = .ok (.tuple #[.nilFunc, .bool false]) (w1.drewN n) := fun n => HLK.out _ (below_drewN B1 n)); go_wp2_with fail
        go_quiet (fail)
        go_wp2_with fail; go_ret
        exact ⟨rfl, below_drewN B1 _⟩
      | some q =>
        obtain ⟨vq, Bq, hrf, hlk⟩ := HLk.out.2 q hq; obtain ⟨fn, cp, rfl, hen, hcall⟩ := hrf; have HLK : Hid (∀ wx, Below w.heap.size w wx → (Instr.lookup 96 (.map (some m)) (.string a) true).run Try.prog wx = .ok (.tuple #[.func (.func fn) #[] cp, .bool true]) wx) := hlk; (have hpc := fun v (w : World) h => plainCode_any (.mk k n kf) v w h); (have HCL : Hid (∀ (w' : World), Over Bq w w' → ∀ (f : Fm) (l r : List Fm) (s : Value), Fine f → l.length ≤ 300 → r.length ≤ 300 → StV w' s f l r → Calls Try.prog fn (#[s] ++ cp) w' fun e w'' => ∃ x, e = .returned (.tuple #[x, .bool (prem i q f l r).isSome]) ∧ (∀ ss, prem i q f l r = some ss → SQs w'' x ss) ∧ Below w'.heap.size w' w'') := hcall); have HQ : Hid (ruleOf i a.data.toList = some q) := hq; clear hlk HLk hcall hq; by_cases hp : (Fm.mk k n kf).pcode.1 = 0
        · have hfine : Fine (.mk k n kf) := by
            obtain ⟨s, hs⟩ := (pcode_ok hp).1; exact fine_of_chk _ 0 s hs
          (have HST : Hid (∀ wx, Below w.heap.size w wx → Calls Try.prog 138 #[.agg #[.int .i64 k, .string n, .slice sf kf.length cf], .agg #[.slice al l.length cl, .slice ar r.length cr]] wx fun e w' => ∃ x, e = .returned x ∧ StV w' x (.mk k n kf) l r ∧ Below wx.heap.size wx w') := fun wx hb => stepOf_any (.mk k n kf) l r hl4 hr4 _ _ _ wx (HF.out.up hb) (HL.out.up hb) (HR.out.up hb))
          cases hpr : prem i q (.mk k n kf) l r with
          | none =>
            rw [stepC_false HE1.out HW.out HQ.out hp hpr]
            have HCQ : Hid (∀ (w' : World) (s : Value), Over Bq w w' → StV w' s (.mk k n kf) l r → Calls Try.prog fn (#[s] ++ cp) w' fun e w'' => ∃ x, e = .returned (.tuple #[x, .bool false]) ∧ Below w'.heap.size w' w'') := fun w' s ho hs => by
              refine (HCL.out w' ho _ l r s hfine hl4 hr4 hs).mono ?_; rintro e w'' ⟨x, rfl, -, hb⟩; (exact ⟨x, by rw [hpr]; rfl, hb⟩)
            rw [hp] at hpc; (have HPC : Hid (∀ v w, Rep w (fun _ => True) (.mk k n kf) v → Calls Try.prog 137 #[v] w _) := hpc); clear hpc hp hpr hfine HCL
            go_enter Try.func92, Try.ntmps92
            go_wp2_with fail; rw [← hO]; refine HNE.out.mono ?_; rintro e w1 ⟨rfl, hb1⟩; have B1 := below_join B0 hb1; have p1 := below_keep hb1 P0.out; have c1 := below_keep B1 HC.out; have HP1 : Hid (w1.heap[w.heap.size]? = some _) := p1; obtain ⟨j0, j1, j2, j3, j4, j5, j6⟩ := blk7 p1; obtain ⟨i0, i1, -⟩ := blk4 c1; (have hlk : ∀ n, (Instr.lookup 96 (.map (some m)) (.string a) true).run Try.prog (w1.drewN n) = .ok (.tuple #[.func (.func fn) #[] cp, .bool true]) (w1.drewN n) := fun n => HLK.out _ (below_drewN B1 n)); go_wp2_with fail
            go_quiet (fail)
            clear hlk; have B2 := below_drewN B1 nq; go_wp2_with fail; refine (HPC.out _ _ (HF.out.up B2)).mono ?_; rintro e w2 ⟨rfl, hb2⟩; have B3 := below_join B2 hb2; clear j0 j1 j2 j3 j4 j5 j6 i0 i1 p1 c1; obtain ⟨j0, j1, j2, j3, j4, j5, j6⟩ := blk7 (below_keep hb2 (show (w1.drewN nq).heap[w.heap.size]? = some _ from HP1.out)); go_wp2_with fail; refine (HST.out _ B3).mono ?_; rintro e w3 ⟨x, rfl, hst, hb3⟩; have B4 := below_join B3 hb3; have HS : Hid (StV w3 x (.mk k n kf) l r) := hst; clear hst; go_wp2_with fail; refine (HCQ.out _ _ (over_below B4) HS.out).mono ?_; rintro e w4 ⟨y, rfl, hb4⟩; have B5 := below_join B4 hb4; go_wp2_with fail; go_ret
            exact ⟨rfl, B5⟩
          | some ss =>
            rw [stepC_kids HE1.out HW.out HQ.out hp hpr]; have hsm := prem_small hl4 hr4 hpr
            have HCQ : Hid (∀ (w' : World) (s : Value), Over Bq w w' → StV w' s (.mk k n kf) l r → Calls Try.prog fn (#[s] ++ cp) w' fun e w'' => ∃ x, e = .returned (.tuple #[x, .bool true]) ∧ SQs w'' x ss ∧ Below w'.heap.size w' w'') := fun w' s ho hs => by
              refine (HCL.out w' ho _ l r s hfine hl4 hr4 hs).mono ?_; rintro e w'' ⟨x, rfl, hx, hb⟩; (exact ⟨x, by rw [hpr]; rfl, hx ss hpr, hb⟩)
            (have HKC : Hid (∀ v u w, KL w v ks → SQs w u ss → Calls Try.prog 139 #[v, u] w _) := fun v u w h1 h2 => kidsCode_any ks ss hsm v u w h1 h2); rw [hp] at hpc; (have HPC : Hid (∀ v w, Rep w (fun _ => True) (.mk k n kf) v → Calls Try.prog 137 #[v] w _) := hpc); clear hpc hp hpr hfine HCL hsm; (generalize (if ks.length ≠ ss.length then (9 : Int) else kidsC ks ss) = kc at *)
            go_enter Try.func92, Try.ntmps92
            go_wp2_with fail; rw [← hO]; refine HNE.out.mono ?_; rintro e w1 ⟨rfl, hb1⟩; have B1 := below_join B0 hb1; have p1 := below_keep hb1 P0.out; have c1 := below_keep B1 HC.out; have HP1 : Hid (w1.heap[w.heap.size]? = some _) := p1; obtain ⟨j0, j1, j2, j3, j4, j5, j6⟩ := blk7 p1; obtain ⟨i0, i1, -⟩ := blk4 c1; (have hlk : ∀ n, (Instr.lookup 96 (.map (some m)) (.string a) true).run Try.prog (w1.drewN n) = .ok (.tuple #[.func (.func fn) #[] cp, .bool true]) (w1.drewN n) := fun n => HLK.out _ (below_drewN B1 n)); go_wp2_with fail
            go_quiet (fail)
            clear hlk; have B2 := below_drewN B1 nq; go_wp2_with fail; refine (HPC.out _ _ (HF.out.up B2)).mono ?_; rintro e w2 ⟨rfl, hb2⟩; have B3 := below_join B2 hb2; clear j0 j1 j2 j3 j4 j5 j6 i0 i1 p1 c1; obtain ⟨j0, j1, j2, j3, j4, j5, j6⟩ := blk7 (below_keep hb2 (show (w1.drewN nq).heap[w.heap.size]? = some _ from HP1.out)); go_wp2_with fail; refine (HST.out _ B3).mono ?_; rintro e w3 ⟨x, rfl, hst, hb3⟩; have B4 := below_join B3 hb3; have HS : Hid (StV w3 x (.mk k n kf) l r) := hst; have HP3 : Hid (w3.heap[w.heap.size]? = some _) := below_keep hb3 (below_keep hb2 (show (w1.drewN nq).heap[w.heap.size]? = some _ from HP1.out)); clear hst; go_wp2_with fail; refine (HCQ.out _ _ (over_below B4) HS.out).mono ?_; rintro e w4 ⟨y, rfl, hss, hb4⟩; have B5 := below_join B4 hb4; have HSS : Hid (SQs w4 y ss) := hss; clear j0 j1 j2 j3 j4 j5 j6 hss; obtain ⟨j0, j1, j2, j3, j4, j5, j6⟩ := blk7 (below_keep hb4 HP3.out); go_wp2_with fail; refine (HKC.out _ _ _ (HKs.out.up B5) HSS.out).mono ?_; rintro e w5 ⟨rfl, hb5⟩; have B6 := below_join B5 hb5; go_wp2_with fail; go_ret; exact ⟨rfl, B6⟩
        · rw [stepC_form HE1.out HW.out HQ.out hp]
          generalize (Fm.mk k n kf).pcode = pc at *; obtain ⟨pc1, pc2⟩ := pc; (have hpj : (pc1 != 0) = true := by simpa using hp); (have HPC : Hid (∀ v w, Rep w (fun _ => True) (.mk k n kf) v → Calls Try.prog 137 #[v] w _) := hpc); clear hpc
          go_enter Try.func92, Try.ntmps92
          go_wp2_with fail; rw [← hO]; refine HNE.out.mono ?_; rintro e w1 ⟨rfl, hb1⟩; have B1 := below_join B0 hb1; have p1 := below_keep hb1 P0.out; have c1 := below_keep B1 HC.out; have HP1 : Hid (w1.heap[w.heap.size]? = some _) := p1; obtain ⟨j0, j1, j2, j3, j4, j5, j6⟩ := blk7 p1; obtain ⟨i0, i1, -⟩ := blk4 c1; (have hlk : ∀ n, (Instr.lookup 96 (.map (some m)) (.string a) true).run Try.prog (w1.drewN n) = .ok (.tuple #[.func (.func fn) #[] cp, .bool true]) (w1.drewN n) := fun n => HLK.out _ (below_drewN B1 n)); go_wp2_with fail
          go_quiet (fail)
          clear hlk; have B2 := below_drewN B1 nq; go_wp2_with fail; refine (HPC.out _ _ (HF.out.up B2)).mono ?_; rintro e w2 ⟨rfl, hb2⟩; have B3 := below_join B2 hb2; clear j0 j1 j2 j3 j4 j5 j6 i0 i1 p1 c1; obtain ⟨j0, j1, j2, j3, j4, j5, j6⟩ := blk7 (below_keep hb2 (show (w1.drewN nq).heap[w.heap.size]? = some _ from HP1.out)); go_wp2_with fail; go_ret; exact ⟨rfl, B3⟩
end Go.Proofs.Ytffkoiemnchdgae
