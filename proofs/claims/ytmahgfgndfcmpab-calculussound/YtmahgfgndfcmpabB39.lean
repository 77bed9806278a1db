/- Texts of one proof, one behind the other: CF5. -/
import Derived.Test.YtmahgfgndfcmpabB38
/- Walks: stepCode. -/
namespace Go.Proofs.Ytmahgfgndfcmpab
open Go.RowKit Go.Maps Go.WideMaps

set_option maxRecDepth 10000 in
set_option maxHeartbeats 8000000 in
theorem stepCode_any (i : Bool) (bc m s c : Nat) (a : ByteArray) (f : Fm) (l r : List Fm) (ks : List Pf) (hl4 : l.length ≤ 300) (hr4 : r.length ≤ 300) (v : Value) (w : World) (hv : PRep w (.mk a f l r ks) v) (hc : Ck w bc i m s c) (hrules : RulesAt i w m) :
    Calls Try.prog 87 #[.pointer (some ⟨bc, 0, none⟩), v] w fun e w' => e = .returned (.int .i64 (stepC i (.mk a f l r ks))) ∧ Below w.heap.size w w' := by
  obtain ⟨k, n, kf⟩ := f; have HV : Hid (PRep w (.mk a (.mk k n kf) l r ks) v) := hv; obtain ⟨sf, cf, al, cl, ar, cr, sl, cap, rfl, ha, hf, hl, hr, hkc, hcm, hks⟩ := hv.parts; (have HF : Hid (Rep w (fun _ => True) (.mk k n kf) _) := hf); have HL : Hid (FL w (.slice al l.length cl) l) := hl; have HR : Hid (FL w (.slice ar r.length cr) r) := hr; have HKs : Hid (KL w (.slice sl ks.length cap) ks) := ⟨sl, cap, rfl, hkc, hcm, hks⟩; have HC : Hid (w.heap[bc]? = some (.cells #[.bool i, .map (some m), .int .i64 (s : Nat), .int .i64 (c : Nat)] 102 (0, 0))) := hc; obtain ⟨O, hO⟩ : ∃ O, O = Obj.cells #[.string a, .int .i64 k, .string n, .slice sf kf.length cf, .slice al l.length cl, .slice ar r.length cr, .slice sl ks.length cap] 62 (0, 0) := ⟨_, rfl⟩; have B0 := below_more (Below.refl _ w) O; have hp0 := blk_new w O; rw [hO] at hp0; (have P0 : Hid ((w.alloc O).heap[w.heap.size]? = some (.cells #[.string a, .int .i64 k, .string n, .slice sf kf.length cf, .slice al l.length cl, .slice ar r.length cr, .slice sl ks.length cap] 62 (0, 0))) := by rw [hO]; exact hp0); (have hne := isNoEnd_any i m s c bc l r (by omega) (by omega) _ _ (w.alloc O) (hl.up B0) (hr.up B0) (alloc_keep hc O)); have HNE : Hid (Calls Try.prog 119 _ (w.alloc O) _) := hne; have hlook := rules_look hrules a ha; have HLk : Hid ((ruleOf i a.data.toList = none → ∀ wx, Below w.heap.size w wx → (Instr.lookup 99 (.map (some m)) (.string a) true).run Try.prog wx = .ok (.tuple #[.nilFunc, .bool false]) wx) ∧ ∀ q, ruleOf i a.data.toList = some q → ∃ v B, RuleFn i q v B w ∧ ∀ wx, Below w.heap.size w wx → (Instr.lookup 99 (.map (some m)) (.string a) true).run Try.prog wx = .ok (.tuple #[v, .bool true]) wx) := hlook; clear hv hf hl hr hks hc hp0 hne hlook hrules hcm hkc; by_cases h1 : noEnd i l r = true
  · rw [stepC_end h1]
    rw [h1] at HNE; clear h1
    go_enter Try.func87, Try.ntmps87
    go_wp2_with fail; rw [← hO]; refine HNE.out.mono ?_; rintro e w1 ⟨rfl, hb1⟩; have B1 := below_join B0 hb1; go_wp2_with fail; go_ret; exact ⟨rfl, B1⟩
  · simp only [Bool.not_eq_true] at h1
    have HE1 : Hid (noEnd i l r = false) := h1; rw [h1] at HNE; clear h1; by_cases hw : a.data.toList = weakT
    · rw [stepC_weak HE1.out hw]
      have hwk := weakCode_any a (.mk k n kf) l r ks hl4 hr4; have HWK : Hid (∀ v w, PRep w (.mk a (.mk k n kf) l r ks) v → Calls Try.prog 120 #[v] w _) := hwk; (have hae : a = ⟨#[119, 101, 97, 107]⟩ := by apply ByteArray.ext; apply Array.ext'; exact hw); subst hae; generalize weakC (.mk k n kf) l r ks = wc at *; clear hwk hw
      go_enter Try.func87, Try.ntmps87
      go_wp2_with fail; rw [← hO]; refine HNE.out.mono ?_; rintro e w1 ⟨rfl, hb1⟩; have B1 := below_join B0 hb1; obtain ⟨j0, j1, j2, j3, j4, j5, j6⟩ := blk7 (below_keep hb1 P0.out); go_wp2_with fail; refine (HWK.out _ _ (PRep.up B1 _ _ HV.out)).mono ?_; rintro e w2 ⟨rfl, hb2⟩; have B2 := below_join B1 hb2; go_wp2_with fail; go_ret; exact ⟨rfl, B2⟩
    · have HW : Hid (¬ a.data.toList = weakT) := hw
      (have hwj : (a.toList == ([119, 101, 97, 107] : List UInt8)) = false := by rw [ByteArray.toList_eq]; simpa [weakT] using hw); clear hw
      cases hq : ruleOf i a.data.toList with
      | none =>
        rw [stepC_kind HE1.out HW.out hq]; have hlk := HLk.out.1 hq; have HLK : Hid (∀ wx, Below w.heap.size w wx → (Instr.lookup 99 (.map (some m)) (.string a) true).run Try.prog wx = .ok (.tuple #[.nilFunc, .bool false]) wx) := hlk; clear hq hlk HLk
        go_enter Try.func87, Try.ntmps87
        go_wp2_with fail; rw [← hO]; refine HNE.out.mono ?_; rintro e w1 ⟨rfl, hb1⟩; have B1 := below_join B0 hb1; have p1 := below_keep hb1 P0.out; have c1 := below_keep B1 HC.out; obtain ⟨j0, j1, j2, j3, j4, j5, j6⟩ := blk7 p1; obtain ⟨i0, i1, -⟩ := blk4 c1; (have hlk : ∀ n, (Instr.lookup 99 (.map (some m)) (.string a) true).run Try.prog (w1.drewN n) = .ok (.tuple #[.nilFunc, .bool false]) (w1.drewN n) := fun n => HLK.out _ (below_drewN B1 n)); go_wp2_with fail
        go_quiet (fail)
        go_wp2_with fail; go_ret
        exact ⟨rfl, below_drewN B1 _⟩
      | some q =>
        obtain ⟨vq, Bq, hrf, hlk⟩ := HLk.out.2 q hq; obtain ⟨fn, cp, rfl, hen, hcall⟩ := hrf; have HLK : Hid (∀ wx, Below w.heap.size w wx → (Instr.lookup 99 (.map (some m)) (.string a) true).run Try.prog wx = .ok (.tuple #[.func (.func fn) #[] cp, .bool true]) wx) := hlk; (have hpc := fun v (w : World) h => plainCode_any (.mk k n kf) v w h); (have HCL : Hid (∀ (w' : World), Over Bq w w' → ∀ (f : Fm) (l r : List Fm) (s : Value), Fine f → l.length ≤ 300 → r.length ≤ 300 → StV w' s f l r → Calls Try.prog fn (#[s] ++ cp) w' fun e w'' => ∃ x, e = .returned (.tuple #[x, .bool (prem i q f l r).isSome]) ∧ (∀ ss, prem i q f l r = some ss → SQs w'' x ss) ∧ Below w'.heap.size w' w'') := hcall); have HQ : Hid (ruleOf i a.data.toList = some q) := hq; clear hlk HLk hcall hq; by_cases hp : (Fm.mk k n kf).pcode.1 = 0
        · have hfine : Fine (.mk k n kf) := by
            obtain ⟨s, hs⟩ := (pcode_ok hp).1; exact fine_of_chk _ 0 s hs
          (have HST : Hid (∀ wx, Below w.heap.size w wx → Calls Try.prog 122 #[.agg #[.int .i64 k, .string n, .slice sf kf.length cf], .agg #[.slice al l.length cl, .slice ar r.length cr]] wx fun e w' => ∃ x, e = .returned x ∧ StV w' x (.mk k n kf) l r ∧ Below wx.heap.size wx w') := fun wx hb => stepOf_any (.mk k n kf) l r hl4 hr4 _ _ _ wx (HF.out.up hb) (HL.out.up hb) (HR.out.up hb))
          cases hpr : prem i q (.mk k n kf) l r with
          | none =>
            rw [stepC_false HE1.out HW.out HQ.out hp hpr]
            have HCQ : Hid (∀ (w' : World) (s : Value), Over Bq w w' → StV w' s (.mk k n kf) l r → Calls Try.prog fn (#[s] ++ cp) w' fun e w'' => ∃ x, e = .returned (.tuple #[x, .bool false]) ∧ Below w'.heap.size w' w'') := fun w' s ho hs => by
              refine (HCL.out w' ho _ l r s hfine hl4 hr4 hs).mono ?_; rintro e w'' ⟨x, rfl, -, hb⟩; (exact ⟨x, by rw [hpr]; rfl, hb⟩)
            rw [hp] at hpc; (have HPC : Hid (∀ v w, Rep w (fun _ => True) (.mk k n kf) v → Calls Try.prog 121 #[v] w _) := hpc); clear hpc hp hpr hfine HCL
            go_enter Try.func87, Try.ntmps87
            go_wp2_with fail; rw [← hO]; refine HNE.out.mono ?_; rintro e w1 ⟨rfl, hb1⟩; have B1 := below_join B0 hb1; have p1 := below_keep hb1 P0.out; have c1 := below_keep B1 HC.out; have HP1 : Hid (w1.heap[w.heap.size]? = some _) := p1; obtain ⟨j0, j1, j2, j3, j4, j5, j6⟩ := blk7 p1; obtain ⟨i0, i1, -⟩ := blk4 c1; (have hlk : ∀ n, (Instr.lookup 99 (.map (some m)) (.string a) true).run Try.prog (w1.drewN n) = .ok (.tuple #[.func (.func fn) #[] cp, .bool true]) (w1.drewN n) := fun n => HLK.out _ (below_drewN B1 n)); go_wp2_with fail
            go_quiet (fail)
            clear hlk; have B2 := below_drewN B1 nq; go_wp2_with fail; refine (HPC.out _ _ (HF.out.up B2)).mono ?_; rintro e w2 ⟨rfl, hb2⟩; have B3 := below_join B2 hb2; clear j0 j1 j2 j3 j4 j5 j6 i0 i1 p1 c1; obtain ⟨j0, j1, j2, j3, j4, j5, j6⟩ := blk7 (below_keep hb2 (show (w1.drewN nq).heap[w.heap.size]? = some _ from HP1.out)); go_wp2_with fail; refine (HST.out _ B3).mono ?_; rintro e w3 ⟨x, rfl, hst, hb3⟩; have B4 := below_join B3 hb3; have HS : Hid (StV w3 x (.mk k n kf) l r) := hst; clear hst; go_wp2_with fail; refine (HCQ.out _ _ (over_below B4) HS.out).mono ?_; rintro e w4 ⟨y, rfl, hb4⟩; have B5 := below_join B4 hb4; go_wp2_with fail; go_ret
            exact ⟨rfl, B5⟩
          | some ss =>
            rw [stepC_kids HE1.out HW.out HQ.out hp hpr]; have hsm := prem_small hl4 hr4 hpr
            have HCQ : Hid (∀ (w' : World) (s : Value), Over Bq w w' → StV w' s (.mk k n kf) l r → Calls Try.prog fn (#[s] ++ cp) w' fun e w'' => ∃ x, e = .returned (.tuple #[x, .bool true]) ∧ SQs w'' x ss ∧ Below w'.heap.size w' w'') := fun w' s ho hs => by
              refine (HCL.out w' ho _ l r s hfine hl4 hr4 hs).mono ?_; rintro e w'' ⟨x, rfl, hx, hb⟩; (exact ⟨x, by rw [hpr]; rfl, hx ss hpr, hb⟩)
            (have HKC : Hid (∀ v u w, KL w v ks → SQs w u ss → Calls Try.prog 123 #[v, u] w _) := fun v u w h1 h2 => kidsCode_any ks ss hsm v u w h1 h2); rw [hp] at hpc; (have HPC : Hid (∀ v w, Rep w (fun _ => True) (.mk k n kf) v → Calls Try.prog 121 #[v] w _) := hpc); clear hpc hp hpr hfine HCL hsm; (generalize (if ks.length ≠ ss.length then (9 : Int) else kidsC ks ss) = kc at *)
            go_enter Try.func87, Try.ntmps87
            go_wp2_with fail; rw [← hO]; refine HNE.out.mono ?_; rintro e w1 ⟨rfl, hb1⟩; have B1 := below_join B0 hb1; have p1 := below_keep hb1 P0.out; have c1 := below_keep B1 HC.out; have HP1 : Hid (w1.heap[w.heap.size]? = some _) := p1; obtain ⟨j0, j1, j2, j3, j4, j5, j6⟩ := blk7 p1; obtain ⟨i0, i1, -⟩ := blk4 c1; (have hlk : ∀ n, (Instr.lookup 99 (.map (some m)) (.string a) true).run Try.prog (w1.drewN n) = .ok (.tuple #[.func (.func fn) #[] cp, .bool true]) (w1.drewN n) := fun n => HLK.out _ (below_drewN B1 n)); go_wp2_with fail
            go_quiet (fail)
            clear hlk; have B2 := below_drewN B1 nq; go_wp2_with fail; refine (HPC.out _ _ (HF.out.up B2)).mono ?_; rintro e w2 ⟨rfl, hb2⟩; have B3 := below_join B2 hb2; clear j0 j1 j2 j3 j4 j5 j6 i0 i1 p1 c1; obtain ⟨j0, j1, j2, j3, j4, j5, j6⟩ := blk7 (below_keep hb2 (show (w1.drewN nq).heap[w.heap.size]? = some _ from HP1.out)); go_wp2_with fail; refine (HST.out _ B3).mono ?_; rintro e w3 ⟨x, rfl, hst, hb3⟩; have B4 := below_join B3 hb3; have HS : Hid (StV w3 x (.mk k n kf) l r) := hst; have HP3 : Hid (w3.heap[w.heap.size]? = some _) := below_keep hb3 (below_keep hb2 (show (w1.drewN nq).heap[w.heap.size]? = some _ from HP1.out)); clear hst; go_wp2_with fail; refine (HCQ.out _ _ (over_below B4) HS.out).mono ?_; rintro e w4 ⟨y, rfl, hss, hb4⟩; have B5 := below_join B4 hb4; have HSS : Hid (SQs w4 y ss) := hss; clear j0 j1 j2 j3 j4 j5 j6 hss; obtain ⟨j0, j1, j2, j3, j4, j5, j6⟩ := blk7 (below_keep hb4 HP3.out); go_wp2_with fail; refine (HKC.out _ _ _ (HKs.out.up B5) HSS.out).mono ?_; rintro e w5 ⟨rfl, hb5⟩; have B6 := below_join B5 hb5; go_wp2_with fail; go_ret; exact ⟨rfl, B6⟩
        · rw [stepC_form HE1.out HW.out HQ.out hp]
          generalize (Fm.mk k n kf).pcode = pc at *; obtain ⟨pc1, pc2⟩ := pc; (have hpj : (pc1 != 0) = true := by simpa using hp); (have HPC : Hid (∀ v w, Rep w (fun _ => True) (.mk k n kf) v → Calls Try.prog 121 #[v] w _) := hpc); clear hpc
          go_enter Try.func87, Try.ntmps87
          go_wp2_with fail; rw [← hO]; refine HNE.out.mono ?_; rintro e w1 ⟨rfl, hb1⟩; have B1 := below_join B0 hb1; have p1 := below_keep hb1 P0.out; have c1 := below_keep B1 HC.out; have HP1 : Hid (w1.heap[w.heap.size]? = some _) := p1; obtain ⟨j0, j1, j2, j3, j4, j5, j6⟩ := blk7 p1; obtain ⟨i0, i1, -⟩ := blk4 c1; (have hlk : ∀ n, (Instr.lookup 99 (.map (some m)) (.string a) true).run Try.prog (w1.drewN n) = .ok (.tuple #[.func (.func fn) #[] cp, .bool true]) (w1.drewN n) := fun n => HLK.out _ (below_drewN B1 n)); go_wp2_with fail
          go_quiet (fail)
          clear hlk; have B2 := below_drewN B1 nq; go_wp2_with fail; refine (HPC.out _ _ (HF.out.up B2)).mono ?_; rintro e w2 ⟨rfl, hb2⟩; have B3 := below_join B2 hb2; clear j0 j1 j2 j3 j4 j5 j6 i0 i1 p1 c1; obtain ⟨j0, j1, j2, j3, j4, j5, j6⟩ := blk7 (below_keep hb2 (show (w1.drewN nq).heap[w.heap.size]? = some _ from HP1.out)); go_wp2_with fail; go_ret; exact ⟨rfl, B3⟩
end Go.Proofs.Ytmahgfgndfcmpab
