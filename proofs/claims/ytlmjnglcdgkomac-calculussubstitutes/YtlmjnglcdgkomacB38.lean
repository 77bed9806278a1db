/- Texts of one proof, one behind the other: CF5, CG1, CW1, YF1. -/
import Derived.Test.YtlmjnglcdgkomacB36
import Derived.Test.YtlmjnglcdgkomacB37
/- Walks: stepCode. -/
namespace Go.Proofs.Ytlmjnglcdgkomac
open Go.RowKit Go.Maps Go.WideMaps

set_option maxRecDepth 10000 in
set_option maxHeartbeats 8000000 in
theorem stepCode_any (i : Bool) (bc m s c : Nat) (a : ByteArray) (f : Fm) (l r : List Fm) (ks : List Pf) (hl4 : l.length ≤ 300) (hr4 : r.length ≤ 300) (v : Value) (w : World) (hv : PRep w (.mk a f l r ks) v) (hc : Ck w bc i m s c) (hrules : RulesAt i w m) :
    Calls Try.prog 34 #[.pointer (some ⟨bc, 0, none⟩), v] w fun e w' => e = .returned (.int .i64 (stepC i (.mk a f l r ks))) ∧ Below w.heap.size w w' := by
  obtain ⟨k, n, kf⟩ := f; have HV : Hid (PRep w (.mk a (.mk k n kf) l r ks) v) := hv; obtain ⟨sf, cf, al, cl, ar, cr, sl, cap, rfl, ha, hf, hl, hr, hkc, hcm, hks⟩ := hv.parts; (have HF : Hid (Rep w (fun _ => True) (.mk k n kf) _) := hf); have HL : Hid (FL w (.slice al l.length cl) l) := hl; have HR : Hid (FL w (.slice ar r.length cr) r) := hr; have HKs : Hid (KL w (.slice sl ks.length cap) ks) := ⟨sl, cap, rfl, hkc, hcm, hks⟩; have HC : Hid (w.heap[bc]? = some (.cells #[.bool i, .map (some m), .int .i64 (s : Nat), .int .i64 (c : Nat)] 62 (0, 0))) := hc; obtain ⟨O, hO⟩ : ∃ O, O = Obj.cells #[.string a, .int .i64 k, .string n, .slice sf kf.length cf, .slice al l.length cl, .slice ar r.length cr, .slice sl ks.length cap] 29 (0, 0) := ⟨_, rfl⟩; have B0 := below_more (Below.refl _ w) O; have hp0 := blk_new w O; rw [hO] at hp0; (have P0 : Hid ((w.alloc O).heap[w.heap.size]? = some (.cells #[.string a, .int .i64 k, .string n, .slice sf kf.length cf, .slice al l.length cl, .slice ar r.length cr, .slice sl ks.length cap] 29 (0, 0))) := by rw [hO]; exact hp0); (have hne := isNoEnd_any i m s c bc l r (by omega) (by omega) _ _ (w.alloc O) (hl.up B0) (hr.up B0) (alloc_keep hc O)); have HNE : Hid (Calls Try.prog 60 _ (w.alloc O) _) := hne; have hlook := rules_look hrules a ha; have HLk : Hid ((ruleOf i a.data.toList = none → ∀ wx, Below w.heap.size w wx → (Instr.lookup 59 (.map (some m)) (.string a) true).run Try.prog wx = .ok (.tuple #[.nilFunc, .bool false]) wx) ∧ ∀ q, ruleOf i a.data.toList = some q → ∃ v B, RuleFn i q v B w ∧ ∀ wx, Below w.heap.size w wx → (Instr.lookup 59 (.map (some m)) (.string a) true).run Try.prog wx = .ok (.tuple #[v, .bool true]) wx) := hlook; clear hv hf hl hr hks hc hp0 hne hlook hrules hcm hkc; by_cases h1 : noEnd i l r = true
  · rw [stepC_end h1]
    rw [h1] at HNE; clear h1
    go_enter Try.func34, Try.ntmps34
    go_wp2_with fail; rw [← hO]; refine HNE.out.mono ?_; rintro e w1 ⟨rfl, hb1⟩; have B1 := below_join B0 hb1; go_wp2_with fail; go_ret; exact ⟨rfl, B1⟩
  · simp only [Bool.not_eq_true] at h1
    have HE1 : Hid (noEnd i l r = false) := h1; rw [h1] at HNE; clear h1; by_cases hw : a.data.toList = weakT
    · rw [stepC_weak HE1.out hw]
      have hwk := weakCode_any a (.mk k n kf) l r ks hl4 hr4; have HWK : Hid (∀ v w, PRep w (.mk a (.mk k n kf) l r ks) v → Calls Try.prog 61 #[v] w _) := hwk; (have hae : a = ⟨#[119, 101, 97, 107]⟩ := by apply ByteArray.ext; apply Array.ext'; exact hw); subst hae; generalize weakC (.mk k n kf) l r ks = wc at *; clear hwk hw
      go_enter Try.func34, Try.ntmps34
      go_wp2_with fail; rw [← hO]; refine HNE.out.mono ?_; rintro e w1 ⟨rfl, hb1⟩; have B1 := below_join B0 hb1; obtain ⟨j0, j1, j2, j3, j4, j5, j6⟩ := blk7 (below_keep hb1 P0.out); go_wp2_with fail; refine (HWK.out _ _ (PRep.up B1 _ _ HV.out)).mono ?_; rintro e w2 ⟨rfl, hb2⟩; have B2 := below_join B1 hb2; go_wp2_with fail; go_ret; exact ⟨rfl, B2⟩
    · have HW : Hid (¬ a.data.toList = weakT) := hw
      (have hwj : (a.toList == ([119, 101, 97, 107] : List UInt8)) = false := by rw [ByteArray.toList_eq]; simpa [weakT] using hw); clear hw
      cases hq : ruleOf i a.data.toList with
      | none =>
        rw [stepC_kind HE1.out HW.out hq]; have hlk := HLk.out.1 hq; have HLK : Hid (∀ wx, Below w.heap.size w wx → (Instr.lookup 59 (.map (some m)) (.string a) true).run Try.prog wx = .ok (.tuple #[.nilFunc, .bool false]) wx) := hlk; clear hq hlk HLk
        go_enter Try.func34, Try.ntmps34
        go_wp2_with fail; rw [← hO]; refine HNE.out.mono ?_; rintro e w1 ⟨rfl, hb1⟩; have B1 := below_join B0 hb1; have p1 := below_keep hb1 P0.out; have c1 := below_keep B1 HC.out; obtain ⟨j0, j1, j2, j3, j4, j5, j6⟩ := blk7 p1; obtain ⟨i0, i1, -⟩ := blk4 c1; (have hlk : ∀ n, (Instr.lookup 59 (.map (some m)) (.string a) true).run Try.prog (w1.drewN n) = .ok (.tuple #[.nilFunc, .bool false]) (w1.drewN n) := fun n => HLK.out _ (below_drewN B1 n)); go_wp2_with fail
        go_quiet (fail)
        go_wp2_with fail; go_ret
        exact ⟨rfl, below_drewN B1 _⟩
      | some q =>
        obtain ⟨vq, Bq, hrf, hlk⟩ := HLk.out.2 q hq; obtain ⟨fn, cp, rfl, hen, hcall⟩ := hrf; have HLK : Hid (∀ wx, Below w.heap.size w wx → (Instr.lookup 59 (.map (some m)) (.string a) true).run Try.prog wx = .ok (.tuple #[.func (.func fn) #[] cp, .bool true]) wx) := hlk; (have hpc := fun v (w : World) h => plainCode_any (.mk k n kf) v w h); (have HCL : Hid (∀ (w' : World), Over Bq w w' → ∀ (f : Fm) (l r : List Fm) (s : Value), Fine f → l.length ≤ 300 → r.length ≤ 300 → StV w' s f l r → Calls Try.prog fn (#[s] ++ cp) w' fun e w'' => ∃ x, e = .returned (.tuple #[x, .bool (prem i q f l r).isSome]) ∧ (∀ ss, prem i q f l r = some ss → SQs w'' x ss) ∧ Below w'.heap.size w' w'') := hcall); have HQ : Hid (ruleOf i a.data.toList = some q) := hq; clear hlk HLk hcall hq; by_cases hp : (Fm.mk k n kf).pcode.1 = 0
        · have hfine : Fine (.mk k n kf) := by
            obtain ⟨s, hs⟩ := (pcode_ok hp).1; exact fine_of_chk _ 0 s hs
          (have HST : Hid (∀ wx, Below w.heap.size w wx → Calls Try.prog 63 #[.agg #[.int .i64 k, .string n, .slice sf kf.length cf], .agg #[.slice al l.length cl, .slice ar r.length cr]] wx fun e w' => ∃ x, e = .returned x ∧ StV w' x (.mk k n kf) l r ∧ Below wx.heap.size wx w') := fun wx hb => stepOf_any (.mk k n kf) l r hl4 hr4 _ _ _ wx (HF.out.up hb) (HL.out.up hb) (HR.out.up hb))
          cases hpr : prem i q (.mk k n kf) l r with
          | none =>
            rw [stepC_false HE1.out HW.out HQ.out hp hpr]
            have HCQ : Hid (∀ (w' : World) (s : Value), Over Bq w w' → StV w' s (.mk k n kf) l r → Calls Try.prog fn (#[s] ++ cp) w' fun e w'' => ∃ x, e = .returned (.tuple #[x, .bool false]) ∧ Below w'.heap.size w' w'') := fun w' s ho hs => by
              refine (HCL.out w' ho _ l r s hfine hl4 hr4 hs).mono ?_; rintro e w'' ⟨x, rfl, -, hb⟩; (exact ⟨x, by rw [hpr]; rfl, hb⟩)
            rw [hp] at hpc; (have HPC : Hid (∀ v w, Rep w (fun _ => True) (.mk k n kf) v → Calls Try.prog 62 #[v] w _) := hpc); clear hpc hp hpr hfine HCL
            go_enter Try.func34, Try.ntmps34
            go_wp2_with fail; rw [← hO]; refine HNE.out.mono ?_; rintro e w1 ⟨rfl, hb1⟩; have B1 := below_join B0 hb1; have p1 := below_keep hb1 P0.out; have c1 := below_keep B1 HC.out; have HP1 : Hid (w1.heap[w.heap.size]? = some _) := p1; obtain ⟨j0, j1, j2, j3, j4, j5, j6⟩ := blk7 p1; obtain ⟨i0, i1, -⟩ := blk4 c1; (have hlk : ∀ n, (Instr.lookup 59 (.map (some m)) (.string a) true).run Try.prog (w1.drewN n) = .ok (.tuple #[.func (.func fn) #[] cp, .bool true]) (w1.drewN n) := fun n => HLK.out _ (below_drewN B1 n)); go_wp2_with fail
            go_quiet (fail)
            clear hlk; have B2 := below_drewN B1 nq; go_wp2_with fail; refine (HPC.out _ _ (HF.out.up B2)).mono ?_; rintro e w2 ⟨rfl, hb2⟩; have B3 := below_join B2 hb2; clear j0 j1 j2 j3 j4 j5 j6 i0 i1 p1 c1; obtain ⟨j0, j1, j2, j3, j4, j5, j6⟩ := blk7 (below_keep hb2 (show (w1.drewN nq).heap[w.heap.size]? = some _ from HP1.out)); go_wp2_with fail; refine (HST.out _ B3).mono ?_; rintro e w3 ⟨x, rfl, hst, hb3⟩; have B4 := below_join B3 hb3; have HS : Hid (StV w3 x (.mk k n kf) l r) := hst; clear hst; go_wp2_with fail; refine (HCQ.out _ _ (over_below B4) HS.out).mono ?_; rintro e w4 ⟨y, rfl, hb4⟩; have B5 := below_join B4 hb4; go_wp2_with fail; go_ret
            exact ⟨rfl, B5⟩
          | some ss =>
            rw [stepC_kids HE1.out HW.out HQ.out hp hpr]; have hsm := prem_small hl4 hr4 hpr
            have HCQ : Hid (∀ (w' : World) (s : Value), Over Bq w w' → StV w' s (.mk k n kf) l r → Calls Try.prog fn (#[s] ++ cp) w' fun e w'' => ∃ x, e = .returned (.tuple #[x, .bool true]) ∧ SQs w'' x ss ∧ Below w'.heap.size w' w'') := fun w' s ho hs => by
              refine (HCL.out w' ho _ l r s hfine hl4 hr4 hs).mono ?_; rintro e w'' ⟨x, rfl, hx, hb⟩; (exact ⟨x, by rw [hpr]; rfl, hx ss hpr, hb⟩)
            (have HKC : Hid (∀ v u w, KL w v ks → SQs w u ss → Calls Try.prog 64 #[v, u] w _) := fun v u w h1 h2 => kidsCode_any ks ss hsm v u w h1 h2); rw [hp] at hpc; (have HPC : Hid (∀ v w, Rep w (fun _ => True) (.mk k n kf) v → Calls Try.prog 62 #[v] w _) := hpc); clear hpc hp hpr hfine HCL hsm; (generalize (if ks.length ≠ ss.length then (9 : Int) else kidsC ks ss) = kc at *)
            go_enter Try.func34, Try.ntmps34
            go_wp2_with fail; rw [← hO]; refine HNE.out.mono ?_; rintro e w1 ⟨rfl, hb1⟩; have B1 := below_join B0 hb1; have p1 := below_keep hb1 P0.out; have c1 := below_keep B1 HC.out; have HP1 : Hid (w1.heap[w.heap.size]? = some _) := p1; obtain ⟨j0, j1, j2, j3, j4, j5, j6⟩ := blk7 p1; obtain ⟨i0, i1, -⟩ := blk4 c1; (have hlk : ∀ n, (Instr.lookup 59 (.map (some m)) (.string a) true).run Try.prog (w1.drewN n) = .ok (.tuple #[.func (.func fn) #[] cp, .bool true]) (w1.drewN n) := fun n => HLK.out _ (below_drewN B1 n)); go_wp2_with fail
            go_quiet (fail)
            clear hlk; have B2 := below_drewN B1 nq; go_wp2_with fail; refine (HPC.out _ _ (HF.out.up B2)).mono ?_; rintro e w2 ⟨rfl, hb2⟩; have B3 := below_join B2 hb2; clear j0 j1 j2 j3 j4 j5 j6 i0 i1 p1 c1; obtain ⟨j0, j1, j2, j3, j4, j5, j6⟩ := blk7 (below_keep hb2 (show (w1.drewN nq).heap[w.heap.size]? = some _ from HP1.out)); go_wp2_with fail; refine (HST.out _ B3).mono ?_; rintro e w3 ⟨x, rfl, hst, hb3⟩; have B4 := below_join B3 hb3; have HS : Hid (StV w3 x (.mk k n kf) l r) := hst; have HP3 : Hid (w3.heap[w.heap.size]? = some _) := below_keep hb3 (below_keep hb2 (show (w1.drewN nq).heap[w.heap.size]? = some _ from HP1.out)); clear hst; go_wp2_with fail; refine (HCQ.out _ _ (over_below B4) HS.out).mono ?_; rintro e w4 ⟨y, rfl, hss, hb4⟩; have B5 := below_join B4 hb4; have HSS : Hid (SQs w4 y ss) := hss; clear j0 j1 j2 j3 j4 j5 j6 hss; obtain ⟨j0, j1, j2, j3, j4, j5, j6⟩ := blk7 (below_keep hb4 HP3.out); go_wp2_with fail; refine (HKC.out _ _ _ (HKs.out.up B5) HSS.out).mono ?_; rintro e w5 ⟨rfl, hb5⟩; have B6 := below_join B5 hb5; go_wp2_with fail; go_ret; exact ⟨rfl, B6⟩
        · rw [stepC_form HE1.out HW.out HQ.out hp]
          generalize (Fm.mk k n kf).pcode = pc at *; obtain ⟨pc1, pc2⟩ := pc; (have hpj : (pc1 != 0) = true := by simpa using hp); (have HPC : Hid (∀ v w, Rep w (fun _ => True) (.mk k n kf) v → Calls Try.prog 62 #[v] w _) := hpc); clear hpc
          go_enter Try.func34, Try.ntmps34
          go_wp2_with fail; rw [← hO]; refine HNE.out.mono ?_; rintro e w1 ⟨rfl, hb1⟩; have B1 := below_join B0 hb1; have p1 := below_keep hb1 P0.out; have c1 := below_keep B1 HC.out; have HP1 : Hid (w1.heap[w.heap.size]? = some _) := p1; obtain ⟨j0, j1, j2, j3, j4, j5, j6⟩ := blk7 p1; obtain ⟨i0, i1, -⟩ := blk4 c1; (have hlk : ∀ n, (Instr.lookup 59 (.map (some m)) (.string a) true).run Try.prog (w1.drewN n) = .ok (.tuple #[.func (.func fn) #[] cp, .bool true]) (w1.drewN n) := fun n => HLK.out _ (below_drewN B1 n)); go_wp2_with fail
          go_quiet (fail)
          clear hlk; have B2 := below_drewN B1 nq; go_wp2_with fail; refine (HPC.out _ _ (HF.out.up B2)).mono ?_; rintro e w2 ⟨rfl, hb2⟩; have B3 := below_join B2 hb2; clear j0 j1 j2 j3 j4 j5 j6 i0 i1 p1 c1; obtain ⟨j0, j1, j2, j3, j4, j5, j6⟩ := blk7 (below_keep hb2 (show (w1.drewN nq).heap[w.heap.size]? = some _ from HP1.out)); go_wp2_with fail; go_ret; exact ⟨rfl, B3⟩
end Go.Proofs.Ytlmjnglcdgkomac
/- What look says of a proof, plain. -/
namespace Go.Proofs.Ytlmjnglcdgkomac
open Go.RowKit

mutual
def Pf.size : Pf → Nat
  | .mk _ _ _ _ ks => Pf.sizes ks + 1
def Pf.sizes : List Pf → Nat
  | [] => 0
  | k :: ks => k.size + Pf.sizes ks
end
theorem pfsizes_get : ∀ {ks : List Pf} {i : Nat} {k : Pf}, ks[i]? = some k → k.size ≤ Pf.sizes ks
  | [], i, k, h => by simp at h
  | x :: ks, 0, k, h => by simp at h; subst h; rw [Pf.sizes]; omega
  | x :: ks, i + 1, k, h => by
    (have := pfsizes_get (ks := ks) (i := i) (k := k) (by simpa using h)); rw [Pf.sizes]; omega
/-- Sides and kids are not too many. -/
def Small : Nat → Pf → Prop
  | 0, _ => True
  | n + 1, .mk _ _ l r ks => l.length ≤ 300 ∧ r.length ≤ 300 ∧ ks.length ≤ 1200 ∧ ∀ k ∈ ks, Small n k
def SmallP (p : Pf) : Prop := ∀ n, Small n p
theorem SmallP.parts {a : ByteArray} {f : Fm} {l r : List Fm} {ks : List Pf} (h : SmallP (.mk a f l r ks)) : l.length ≤ 300 ∧ r.length ≤ 300 ∧ ks.length ≤ 1200 ∧ ∀ k ∈ ks, SmallP k :=
  ⟨(h 1).1, (h 1).2.1, (h 1).2.2.1, fun k hk n => (h (n + 1)).2.2.2 k hk⟩

theorem look_def (i : Bool) (a : ByteArray) (f : Fm) (l r : List Fm) (ks : List Pf) (deep steps cuts : Nat) : look i (.mk a f l r ks) deep steps cuts =
    if steps = 20000 ∨ 400 < deep then ((2, 0), steps, cuts)
    else if stepC i (.mk a f l r ks) ≠ 0 then ((stepC i (.mk a f l r ks), ((steps : Nat) : Int)), steps + 1, cuts)
    else looks i ks (deep + 1) (steps + 1) (if a.data.toList = Ru.cut.text then cuts + 1 else cuts) := by rw [look]

mutual
theorem look_le (i : Bool) : ∀ (p : Pf) (d s c : Nat), s ≤ 20000 → c ≤ s → (look i p d s c).2.1 ≤ 20000 ∧ (look i p d s c).2.2 ≤ (look i p d s c).2.1
  | .mk a f l r ks, d, s, c, hs, hc => by
    rw [look_def]
    split
    · exact ⟨hs, hc⟩
    · split
      · exact ⟨by show s + 1 ≤ 20000; omega, by show c ≤ s + 1; omega⟩
      · exact looks_le i ks (d + 1) (s + 1) _ (by omega) (by split <;> omega)
theorem looks_le (i : Bool) : ∀ (ks : List Pf) (d s c : Nat), s ≤ 20000 → c ≤ s → (looks i ks d s c).2.1 ≤ 20000 ∧ (looks i ks d s c).2.2 ≤ (looks i ks d s c).2.1
  | [], d, s, c, hs, hc => by rw [looks]; exact ⟨hs, hc⟩
  | k :: ks, d, s, c, hs, hc => by
    have hk := look_le i k d s c hs hc; rw [looks]
    split
    · exact hk
    · exact looks_le i ks d _ _ hk.1 hk.2
end
theorem looks_drop {i : Bool} {ks : List Pf} {j : Nat} {k : Pf} (h : ks[j]? = some k) (d s c : Nat) : looks i (ks.drop j) d s c = if (look i k d s c).1.1 ≠ 0 then look i k d s c else looks i (ks.drop (j + 1)) d (look i k d s c).2.1 (look i k d s c).2.2 := by
  have hj : j < ks.length := (List.getElem?_eq_some_iff.1 h).1; rw [List.drop_eq_getElem_cons hj, looks]; rw [List.getElem?_eq_getElem hj] at h; rw [Option.some.inj h]

theorem ck_set2 {w : World} {bc m s c : Nat} {i : Bool} (h : Ck w bc i m s c) (s' : Nat) : Ck (w.setCell ⟨bc, 2, none⟩ (.int .i64 (s' : Nat))) bc i m s' c := by
  unfold Ck at *; simp [World.setCell, Array.getElem?_modify, h]
theorem ck_set3 {w : World} {bc m s c : Nat} {i : Bool} (h : Ck w bc i m s c) (c' : Nat) : Ck (w.setCell ⟨bc, 3, none⟩ (.int .i64 (c' : Nat))) bc i m s c' := by
  unfold Ck at *; simp [World.setCell, Array.getElem?_modify, h]
theorem ck_below {w w' : World} {bc m s c : Nat} {i : Bool} (h : Ck w bc i m s c) (hb : Below w.heap.size w w') : Ck w' bc i m s c := by
  unfold Ck at *; exact below_keep hb h
theorem ck_alloc {w : World} {bc m s c : Nat} {i : Bool} (h : Ck w bc i m s c) (o : Obj) : Ck (w.alloc o) bc i m s c := by
  unfold Ck at *; exact alloc_keep h o
theorem ck_lt {w : World} {bc m s c : Nat} {i : Bool} (h : Ck w bc i m s c) : bc < w.heap.size := lt_of_block h
theorem ck_other {w : World} {bc m s c : Nat} {i : Bool} (h : Ck w bc i m s c) {p : Addr} (hp : p.block ≠ bc) (v : Value) : Ck (w.setCell p v) bc i m s c := by
  unfold Ck at *; rw [Below.heap_setCell _ _ _ _ (Ne.symm hp)]; exact h
/-- All blocks but bc are as they were. -/
abbrev KB1 (bc : Nat) (w w' : World) : Prop := Kept (fun b => b ≠ bc) w w'
theorem kb_below {bc : Nat} {w w' : World} (h : Below w.heap.size w w') : KB1 bc w w' := kept_of_below h fun _ hk _ => hk
theorem kb_base {bc : Nat} {w0 w w' : World} (h : Below w0.heap.size w0 w) (hb : w0.heap.size ≤ bc) (k : KB1 bc w w') : Below w0.heap.size w0 w' :=
  ⟨k.os.trans h.os, k.tape.trans h.tape, k.output.trans h.output, Nat.le_trans h.size k.size, fun j hj => (k.block j (Nat.lt_of_lt_of_le hj h.size) (by omega)).trans (h.block j hj)⟩
theorem kb_keep {bc b : Nat} {w w' : World} {o : Obj} (k : KB1 bc w w') (hb : b ≠ bc) (h : w.heap[b]? = some o) : w'.heap[b]? = some o := (k.block b (lt_of_block h) hb).trans h
end Go.Proofs.Ytlmjnglcdgkomac
/- A proof with a formula more at the left of each step: plain. -/
namespace Go.Proofs.Ytlmjnglcdgkomac
open Go.RowKit

mutual
/-- All steps, each ahead of those in it. -/
def Pf.nodes : Pf → List Pf
  | .mk a g l r ks => .mk a g l r ks :: Pf.nodesL ks
def Pf.nodesL : List Pf → List Pf
  | [] => []
  | k :: ks => k.nodes ++ Pf.nodesL ks
end
mutual
def Pf.deep : Pf → Nat
  | .mk _ _ _ _ ks => Pf.deeps ks + 1
def Pf.deeps : List Pf → Nat
  | [] => 0
  | k :: ks => max k.deep (Pf.deeps ks)
end
mutual
theorem nodes_size : ∀ p : Pf, p.nodes.length = p.size
  | .mk a g l r ks => by rw [Pf.nodes, Pf.size, List.length_cons, nodesL_size ks]
theorem nodesL_size : ∀ ks : List Pf, (Pf.nodesL ks).length = Pf.sizes ks
  | [] => by rw [Pf.nodesL, Pf.sizes]; rfl
  | k :: ks => by rw [Pf.nodesL, Pf.sizes, List.length_append, nodes_size k, nodesL_size ks]
end

mutual
theorem look_size (i : Bool) : ∀ (p : Pf) (d s c : Nat), (look i p d s c).1.1 = 0 → (look i p d s c).2.1 = s + p.size ∧ d + p.deep ≤ 401
  | .mk a g l r ks, d, s, c, h => by
    rw [look_def] at h ⊢
    split at h
    · cases h
    · rename_i h1
      rw [if_neg h1]
      split at h
      · rename_i h2
        exact absurd h h2
      · rename_i h2
        rw [if_neg h2]; obtain ⟨h3, h4⟩ := looks_size i ks _ _ _ h; rw [h3, Pf.size, Pf.deep]; omega
theorem looks_size (i : Bool) : ∀ (ks : List Pf) (d s c : Nat), (looks i ks d s c).1.1 = 0 → (looks i ks d s c).2.1 = s + Pf.sizes ks ∧ (d ≤ 401 → d + Pf.deeps ks ≤ 401)
  | [], d, s, c, h => by rw [looks, Pf.sizes, Pf.deeps]; exact ⟨by simp, fun h => by omega⟩
  | k :: ks, d, s, c, h => by
    rw [looks] at h ⊢
    split at h
    · rename_i hn
      exact absurd h hn
    · rename_i hn
      (have hn' : (look i k d s c).1.1 = 0 := Classical.byContradiction fun e => hn e); rw [if_neg hn]; obtain ⟨h1, h2⟩ := look_size i k d s c hn'; obtain ⟨h3, h4⟩ := looks_size i ks _ _ _ h; rw [h3, h1, Pf.sizes, Pf.deeps]; (exact ⟨by omega, fun hd => by have := h4 hd; omega⟩)
end
end Go.Proofs.Ytlmjnglcdgkomac
/- Facts on the way through a region: formulas, sequents and proofs with the blocks' makers. -/
namespace Go.Proofs.Ytlmjnglcdgkomac
open Go.RowKit

theorem eval_slot {a : Act} {n : Nat} {v : Value} (h : a.tmps[n]? = some v) : a.eval (.tmp n) = v := by
  simp [Act.eval, h]
def tRp (A S : Nat) (ns : List Nat) (k : Int) (n : ByteArray) (ks : List Fm) : Fact := fun v w t => ∃ sl cap, v = .agg #[.int .i64 k, .string n, .slice sl ks.length cap] ∧ Rep w (tP A S t ns) (.mk k n ks) (.agg #[.int .i64 k, .string n, .slice sl ks.length cap])
def tSq2 (A S : Nat) (ns ns' : List Nat) (l r : List Fm) : Fact := fun v w t => ∃ ad m cp ad' m' cp', v = .agg #[.slice ad m cp, .slice ad' m' cp'] ∧ FLp (tP A S t ns) w (.slice ad m cp) l ∧ FLp (tP A S t ns') w (.slice ad' m' cp') r
def tPf2 (A S : Nat) (nf ns ns' : List Nat) (a : Value) (k : Int) (n : ByteArray) (ks : List Fm) (l r : List Fm) : Fact := fun v w t => ∃ sl cap ad m cp ad' m' cp', v = .agg #[a, .int .i64 k, .string n, .slice sl ks.length cap, .slice ad m cp, .slice ad' m' cp', .slice none 0 0] ∧ Rep w (tP A S t nf) (.mk k n ks) (.agg #[.int .i64 k, .string n, .slice sl ks.length cap]) ∧ FLp (tP A S t ns) w (.slice ad m cp) l ∧ FLp (tP A S t ns') w (.slice ad' m' cp') r
theorem tRp_stays (A S : Nat) (ns : List Nat) (k : Int) (n : ByteArray) (ks : List Fm) : Stays3 (tRp A S ns k n ks) := fun _ w _ _ _ h hb ht => by
  obtain ⟨sl, cap, hv, hr⟩ := h; (exact ⟨sl, cap, hv, hr.move fun b hb1 hp => ⟨hb.block b hb1, hp.up ht hb1⟩⟩)
theorem tSq2_stays (A S : Nat) (ns ns' : List Nat) (l r : List Fm) : Stays3 (tSq2 A S ns ns' l r) := fun _ w _ _ _ h hb ht => by
  obtain ⟨ad, m, cp, ad', m', cp', hv, h1, h2⟩ := h; (exact ⟨ad, m, cp, ad', m', cp', hv, h1.move fun b hb1 hp => ⟨hb.block b hb1, hp.up ht hb1⟩, h2.move fun b hb1 hp => ⟨hb.block b hb1, hp.up ht hb1⟩⟩)
theorem tPf2_stays (A S : Nat) (nf ns ns' : List Nat) (a : Value) (k : Int) (n : ByteArray) (ks : List Fm) (l r : List Fm) : Stays3 (tPf2 A S nf ns ns' a k n ks l r) := fun _ w _ _ _ h hb ht => by
  obtain ⟨sl, cap, ad, m, cp, ad', m', cp', hv, h0, h1, h2⟩ := h; (exact ⟨sl, cap, ad, m, cp, ad', m', cp', hv, h0.move fun b hb1 hp => ⟨hb.block b hb1, hp.up ht hb1⟩, h1.move fun b hb1 hp => ⟨hb.block b hb1, hp.up ht hb1⟩, h2.move fun b hb1 hp => ⟨hb.block b hb1, hp.up ht hb1⟩⟩)
end Go.Proofs.Ytlmjnglcdgkomac
