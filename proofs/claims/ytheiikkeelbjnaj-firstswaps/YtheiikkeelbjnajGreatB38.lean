/- Texts of one proof, one behind the other: FT4. -/
import Derived.Test.YtheiikkeelbjnajGreatB34
import Derived.Test.YtheiikkeelbjnajGreatB23
/- Walks: expressions that are the same but for bound names (made by gen/ft4.py). -/
namespace Go.Proofs.YtheiikkeelbjnajGreat
open Go.RowKit Go.Sort

theorem rowT1 (l : List Value) (h0 : l.length = 1) : ∃ x0, l = [x0] := by
  obtain ⟨x0, l1, e0, h1⟩ := cons_lenM h0; have e1 : l1 = [] := List.length_eq_zero_iff.1 h1; subst e1 e0; exact ⟨x0, rfl⟩
theorem rowT13 (l : List Value) (h0 : l.length = 13) : ∃ x0 x1 x2 x3 x4 x5 x6 x7 x8 x9 x10 x11 x12, l = [x0, x1, x2, x3, x4, x5, x6, x7, x8, x9, x10, x11, x12] := by
  obtain ⟨x0, l1, e0, h1⟩ := cons_lenM h0; obtain ⟨x1, l2, e1, h2⟩ := cons_lenM h1; obtain ⟨x2, l3, e2, h3⟩ := cons_lenM h2; obtain ⟨x3, l4, e3, h4⟩ := cons_lenM h3; obtain ⟨x4, l5, e4, h5⟩ := cons_lenM h4; obtain ⟨x5, l6, e5, h6⟩ := cons_lenM h5; obtain ⟨x6, l7, e6, h7⟩ := cons_lenM h6; obtain ⟨x7, l8, e7, h8⟩ := cons_lenM h7; obtain ⟨x8, l9, e8, h9⟩ := cons_lenM h8; obtain ⟨x9, l10, e9, h10⟩ := cons_lenM h9; obtain ⟨x10, l11, e10, h11⟩ := cons_lenM h10; obtain ⟨x11, l12, e11, h12⟩ := cons_lenM h11; obtain ⟨x12, l13, e12, h13⟩ := cons_lenM h12; have e13 : l13 = [] := List.length_eq_zero_iff.1 h13; subst e13 e12 e11 e10 e9 e8 e7 e6 e5 e4 e3 e2 e1 e0; exact ⟨x0, x1, x2, x3, x4, x5, x6, x7, x8, x9, x10, x11, x12, rfl⟩
mutual
/-- Expressions have as many Kids as their kinds want. -/
def ESh : Ex → Prop
  | .mk k _ _ ks => (ks.length : Int) = ekidsN k ∧ EShs ks
def EShs : List Ex → Prop
  | [] => True
  | x :: l => ESh x ∧ EShs l
end
theorem eshs_at : ∀ {l : List Ex} {i : Nat} {x : Ex}, EShs l → l[i]? = some x → ESh x
  | [], _, _, _, h => by simp at h
  | y :: l, 0, x, h, e => by rw [EShs] at h; simp at e; exact e ▸ h.1
  | y :: l, i + 1, x, h, e => by rw [EShs] at h; simp at e; exact eshs_at h.2 e
mutual
theorem echk_esh : ∀ (x : Ex) (s : Nat) (p f : PlF) (s' : Nat) (p' f' : PlF), echk x s p f = .ok s' p' f' → ESh x
  | .mk k n ws ks, s, p, f, s', p', f', h => by
    rw [echk] at h
    split at h
    · cases h
    · split at h
      · cases h
      · rename_i h0
        split at h
        · cases h
        · split at h
          · cases h
          · rw [ESh]
            exact ⟨(enode_kids h0).2.2.1, echks_esh ks _ _ _ _ _ _ h⟩
theorem echks_esh : ∀ (l : List Ex) (s : Nat) (p f : PlF) (s' : Nat) (p' f' : PlF), echks l s p f = .ok s' p' f' → EShs l
  | [], _, _, _, _, _, _, _ => by rw [EShs]; trivial
  | x :: xs, s, p, f, s', p', f', h => by
    rw [echks] at h
    split at h
    · cases h
    · rename_i h1
      rw [EShs]; exact ⟨echk_esh x _ _ _ _ _ _ h1, echks_esh xs _ _ _ _ _ _ h⟩
end
theorem alEs_drop {la lb : List (List UInt8)} {fs gs : List Ex} {i : Nat} {x y : Ex} (hf : fs[i]? = some x) (hg : gs[i]? = some y) : alEs la lb (fs.drop i) (gs.drop i) = (alE la lb x y && alEs la lb (fs.drop (i + 1)) (gs.drop (i + 1))) := by
  rw [drop_one hf, drop_one hg, alEs]
theorem exsize_get : ∀ {l : List Ex} {i : Nat} {x : Ex}, l[i]? = some x → x.size ≤ Ex.sizes l := fun {l i x} h => by
  have := esizes_take l i x h; omega
theorem quan_oneT {k : Int} {l : List Ex} (hq : quanB k = true) (h : (l.length : Int) = ekidsN k) : ∃ x, l = [x] := by
  have h1 : ekidsN k = 1 := by
    unfold quanB at hq; unfold ekidsN; simp at hq; rw [if_pos (Or.inr hq)]
  rw [h1] at h
  match l, h with
  | [], h => simp at h
  | [x], _ => exact ⟨x, rfl⟩
  | _ :: _ :: _, h => simp at h; omega
theorem alE_one {la lb : List (List UInt8)} {k : Int} {n m : ByteArray} {ws us : List Wd} {p q : Ex} (hq : quanB k = true) : alE la lb (.mk k n ws [p]) (.mk k m us [q]) = alE (la ++ [n.data.toList]) (lb ++ [m.data.toList]) p q := by
  rw [alE, if_pos hq, beq_self_eq_true, Bool.true_and, alEs, alEs, Bool.and_true]
def AEs (m : Nat) : Prop := ∀ (w0 : World) (la lb : List (List UInt8)) (x y : Ex) (ada adb : Option Addr) (cpa cpb : Nat) (v u : Value) (w : World), x.size < m → la.length + x.size ≤ 100000 → lb.length + x.size ≤ 100000 → ESh x → ESh y → ERp w0 x v → ERp w0 y u → Rw2 w0.heap.size w ada cpa la adb cpb lb → Below w0.heap.size w0 w →
  Calls Tryz.prog 60 #[.agg #[.slice ada la.length cpa, .slice adb lb.length cpb], v, u] w fun e w' => e = .returned (.bool (alE la lb x y)) ∧ AEnd w0.heap.size w ada cpa la adb cpb lb w'
/-- The boxes. -/
def Bx3A (w W : World) (o0 o1 o2 : Obj) : Prop := W.heap[w.heap.size]? = some o0 ∧ W.heap[w.heap.size + 1]? = some o1 ∧ W.heap[w.heap.size + 1 + 1]? = some o2
theorem Bx3A.start (w : World) (o0 o1 o2 : Obj) : Bx3A w (((w.alloc o0).alloc o1).alloc o2) o0 o1 o2 := by
  (have e1 : (w.alloc o0).heap.size = w.heap.size + 1 := by simp); (have e2 : ((w.alloc o0).alloc o1).heap.size = w.heap.size + 1 + 1 := by simp); refine ⟨alloc_keep (alloc_keep (blk_new w _) _) _, ?_, ?_⟩
  · have := alloc_keep (blk_new (w.alloc o0) o1) o2
    rwa [e1] at this
  · have := blk_new ((w.alloc o0).alloc o1) o2
    rwa [e2] at this
theorem Bx3A.up {w W W' : World} {o0 o1 o2 : Obj} (h : Bx3A w W o0 o1 o2) (hb : Below W.heap.size W W') : Bx3A w W' o0 o1 o2 := ⟨below_keep hb h.1, below_keep hb h.2.1, below_keep hb h.2.2⟩
theorem Bx3A.walk {w W W' : World} {o0 o1 o2 : Obj} {B : Nat} {ada adb : Option Addr} {cpa cpb : Nat} {la lb : List (List UInt8)} (h : Bx3A w W o0 o1 o2) (hr : Rw2 B w ada cpa la adb cpb lb) (he : AEnd B W ada cpa la adb cpb lb W') : Bx3A w W' o0 o1 o2 := ⟨he.blk hr (Nat.le_refl _) h.1, he.blk hr (by omega) h.2.1, he.blk hr (by omega) h.2.2⟩
set_option maxRecDepth 100000 in
set_option maxHeartbeats 32000000 in
theorem aes_step (mm : Nat) (ih : AEs mm) : AEs (mm + 1) := by
  intro w0 la lb x y ada adb cpa cpb v u w hm hla hlb hsx hsy hx hy hR hB; have HRx : Hid (ERp w0 x v) := hx; have HRy : Hid (ERp w0 y u) := hy; obtain ⟨k, n, ws, ks⟩ := x; obtain ⟨j, m, us, js⟩ := y; obtain ⟨sw, cw, sk, ck, rfl, hx1, hxw, hx2, hx3, hx4⟩ := ERp.def.1 hx; obtain ⟨su, cu, sj, cj, rfl, hy1, hyw, hy2, hy3, hy4⟩ := ERp.def.1 hy; have HX : Hid (ks ≠ [] → ∃ b off, sk = some ⟨b, off, none⟩ ∧ ERps w0 b off ks) := hx4; have HY : Hid (js ≠ [] → ∃ b off, sj = some ⟨b, off, none⟩ ∧ ERps w0 b off js) := hy4; have HWs : Hid (WL w0 (.slice sw ws.length cw) ws ∧ WL w0 (.slice su us.length cu) us) := ⟨hxw, hyw⟩; have HR : Hid (Rw2 w0.heap.size w ada cpa la adb cpb lb) := hR; have HB : Hid (Below w0.heap.size w0 w) := hB; rw [ESh] at hsx hsy; have HS : Hid (((ks.length : Int) = ekidsN k ∧ EShs ks) ∧ ((js.length : Int) = ekidsN j ∧ EShs js)) := ⟨hsx, hsy⟩; rw [Ex.size] at hm hla hlb; (have HL : Hid (la.length + (Wd.sizes ws + Ex.sizes ks + 1) ≤ 100000 ∧ lb.length + (Wd.sizes ws + Ex.sizes ks + 1) ≤ 100000) := by refine ⟨?_, ?_⟩ <;> omega); (have HMz : Hid (Ex.sizes ks < mm) := by show _ < _; omega); have HX0 : Hid (Bx3A w (((w.alloc (.cells #[.slice ada la.length cpa, .slice adb lb.length cpb] 93 (0, 0))).alloc (.cells #[.int .i64 k, .string n, .slice sw ws.length cw, .slice sk ks.length ck] 25 (0, 0))).alloc (.cells #[.int .i64 j, .string m, .slice su us.length cu, .slice sj js.length cj] 25 (0, 0))) (.cells #[.slice ada la.length cpa, .slice adb lb.length cpb] 93 (0, 0)) (.cells #[.int .i64 k, .string n, .slice sw ws.length cw, .slice sk ks.length ck] 25 (0, 0)) (.cells #[.int .i64 j, .string m, .slice su us.length cu, .slice sj js.length cj] 25 (0, 0))) := Bx3A.start w _ _ _; have HE0 : Hid (AEnd w0.heap.size w ada cpa la adb cpb lb (((w.alloc (.cells #[.slice ada la.length cpa, .slice adb lb.length cpb] 93 (0, 0))).alloc (.cells #[.int .i64 k, .string n, .slice sw ws.length cw, .slice sk ks.length ck] 25 (0, 0))).alloc (.cells #[.int .i64 j, .string m, .slice su us.length cu, .slice sj js.length cj] 25 (0, 0)))) := (AEnd.refl hR).up (below_more (below_more (below_more (Below.refl _ _) _) _) _); (have hlk : ((ks.length : Nat) : Int) ≤ 9223372036854775807 := by unfold maxLen at hx3; omega); have HC : Hid (ks.length ≤ ck ∧ js.length ≤ cj) := ⟨hx2, hy2⟩; clear hx hy hx4 hy4 hxw hyw hR hB hsx hsy hx1 hy1 hx2 hx3 hy2 hy3 hm hla hlb; by_cases hk : k = j
  case neg =>
    (have hE : alE la lb (.mk k n ws ks) (.mk j m us js) = false := by rw [alE]; simp [hk]); rw [hE]; (have hk' : (k != j) = true := by simpa using hk); clear hE
    go_enter Tryz.func60, Tryz.ntmps60
    go_wp2_with fail; go_ret; exact ⟨rfl, HE0.out⟩
  subst hk; (have HQu : Hid (∀ W, Calls Tryz.prog 108 #[.int .i64 k] W fun e w' => e = .returned (.bool (quanB k)) ∧ w' = W) := fun W => quan_any k W)
  rcases hq : quanB k with _ | _
  all_goals rw [hq] at HQu
  case true =>
    obtain ⟨p, rfl⟩ := quan_oneT hq HS.out.1.1; obtain ⟨q, rfl⟩ := quan_oneT hq HS.out.2.1; have e1 : ([p] : List Ex).length = 1 := rfl; have e2 : ([q] : List Ex).length = 1 := rfl; simp only [e1, e2] at HX0 HE0 HC hlk ⊢; clear e1 e2; obtain ⟨W4, hW4⟩ : ∃ W4, W4 = (((w.alloc (.cells #[.slice ada la.length cpa, .slice adb lb.length cpb] 93 (0, 0))).alloc (.cells #[.int .i64 k, .string n, .slice sw ws.length cw, .slice sk 1 ck] 25 (0, 0))).alloc (.cells #[.int .i64 k, .string m, .slice su us.length cu, .slice sj 1 cj] 25 (0, 0))) := ⟨_, rfl⟩; (have HX4 : Hid (Bx3A w W4 (.cells #[.slice ada la.length cpa, .slice adb lb.length cpb] 93 (0, 0)) (.cells #[.int .i64 k, .string n, .slice sw ws.length cw, .slice sk 1 ck] 25 (0, 0)) (.cells #[.int .i64 k, .string m, .slice su us.length cu, .slice sj 1 cj] 25 (0, 0))) := by show Bx3A _ _ _ _ _; rw [hW4]; exact HX0.out); (have HE4 : Hid (AEnd w0.heap.size w ada cpa la adb cpb lb W4) := by show AEnd _ _ _ _ _ _ _ _ _; rw [hW4]; exact HE0.out); have HB4 : Hid (Below w0.heap.size w0 W4) := HB.out.trans (HE4.out.below HR.out HB.out.size); clear HWs
    go_enter Tryz.func60, Tryz.ntmps60
    go_wp2_with (first
      | (go_at_call 108
         refine (HQu.out _).mono ?_; rintro e w1 ⟨rfl, hw1⟩
         subst hw1)
      | fail)
    rw [← hW4]; clear hW4 HX0 HE0; (refine wp_region_gh (by kernel_rfl) (by kernel_rfl) (by kernel_rfl) 74 rfl (by kernel_rfl) [fun _ v _ => v = (.pointer (some ⟨w.heap.size, 0, none⟩)), fun _ v _ => v = (.slice ada la.length cpa), fun _ v _ => v = (.pointer (some ⟨w.heap.size + 1, 1, none⟩)), fun _ v _ => v = (.string n), fun y v _ => v = (.slice (some ⟨y.q1, 0, none⟩) 1 1), fun y v _ => v = (.slice (some ⟨y.g1, 0, none⟩) (la.length + 1) y.c1), fun _ v _ => v = (.pointer (some ⟨w.heap.size, 1, none⟩)), fun _ v _ => v = (.slice adb lb.length cpb), fun _ v _ => v = (.pointer (some ⟨w.heap.size + 1 + 1, 1, none⟩)), fun _ v _ => v = (.string m), fun y v _ => v = (.slice (some ⟨y.q2, 0, none⟩) 1 1), fun y v _ => v = (.slice (some ⟨y.g2, 0, none⟩) (lb.length + 1) y.c2), fun y v _ => v = (.agg #[.slice (some ⟨y.g1, 0, none⟩) (la.length + 1) y.c1, .slice (some ⟨y.g2, 0, none⟩) (lb.length + 1) y.c2]), fun y v _ => v = (.pointer (some ⟨y.ob, 0, none⟩)), fun _ _ _ => True] (fun _ _ => true) (fun L => StAp w0.heap.size W4 ada cpa la n.data.toList adb cpb lb m.data.toList (L 4) (L 5) (L 10) (L 11) (L 13) (L 14)) (GAp.zero) ?_ ?_ ?_)
    · exact fun wx h _ => ⟨(AEnd.refl HE4.out.rw2).up h, (fun e => by cases e), (fun e => by cases e), (fun e => by cases e), (fun e => by cases e), (fun e => by cases e), (fun e => by cases e)⟩
    · refine ⟨?_, ?_, ?_, ?_, ?_, ?_, ?_, ?_, ?_, ?_, ?_, ?_, ?_, ?_, ?_, trivial⟩
      · intro L y a9 wx hSt hLi hdl hcl hold hdep K hK
        have HSt : Hid (StAp w0.heap.size W4 ada cpa la n.data.toList adb cpb lb m.data.toList (L 4) (L 5) (L 10) (L 11) (L 13) (L 14) y wx) := hSt; clear hSt; have t3 : a9.tmps[3]? = some (.pointer (some ⟨w.heap.size, 0, none⟩)) := hold 3 rfl; clear hold hdep hdl hcl hLi; go_simp; (exact hK.out _ _ y HSt.out rfl (fun j hj hl => ⟨hl, fun u h => h⟩))
      · intro L y a9 wx hSt hLi hdl hcl hold hdep K hK
        have HSt : Hid (StAp w0.heap.size W4 ada cpa la n.data.toList adb cpb lb m.data.toList (L 4) (L 5) (L 10) (L 11) (L 13) (L 14) y wx) := hSt; clear hSt; obtain ⟨v17, t17, q17⟩ := hdep 0 rfl _ 17 rfl rfl; have e17 : v17 = (.pointer (some ⟨w.heap.size, 0, none⟩)) := q17 rfl; subst e17; obtain ⟨f0, f1, -⟩ := blk2 (HX4.out.walk HR.out HSt.out.e).1; obtain ⟨f2, f3, f4, f5⟩ := blk4L (HX4.out.walk HR.out HSt.out.e).2.1; obtain ⟨f6, f7, f8, f9⟩ := blk4L (HX4.out.walk HR.out HSt.out.e).2.2; clear hold hdep hdl hcl hLi; go_simp; (exact hK.out _ _ y HSt.out rfl (fun j hj hl => ⟨hl, fun u h => h⟩))
      · intro L y a9 wx hSt hLi hdl hcl hold hdep K hK
        have HSt : Hid (StAp w0.heap.size W4 ada cpa la n.data.toList adb cpb lb m.data.toList (L 4) (L 5) (L 10) (L 11) (L 13) (L 14) y wx) := hSt; clear hSt; have t4 : a9.tmps[4]? = some (.pointer (some ⟨w.heap.size + 1, 0, none⟩)) := hold 4 rfl; clear hold hdep hdl hcl hLi; go_simp; (exact hK.out _ _ y HSt.out rfl (fun j hj hl => ⟨hl, fun u h => h⟩))
      · intro L y a9 wx hSt hLi hdl hcl hold hdep K hK
        have HSt : Hid (StAp w0.heap.size W4 ada cpa la n.data.toList adb cpb lb m.data.toList (L 4) (L 5) (L 10) (L 11) (L 13) (L 14) y wx) := hSt; clear hSt; obtain ⟨v19, t19, q19⟩ := hdep 2 rfl _ 19 rfl rfl; have e19 : v19 = (.pointer (some ⟨w.heap.size + 1, 1, none⟩)) := q19 rfl; subst e19; obtain ⟨f0, f1, -⟩ := blk2 (HX4.out.walk HR.out HSt.out.e).1; obtain ⟨f2, f3, f4, f5⟩ := blk4L (HX4.out.walk HR.out HSt.out.e).2.1; obtain ⟨f6, f7, f8, f9⟩ := blk4L (HX4.out.walk HR.out HSt.out.e).2.2; clear hold hdep hdl hcl hLi; go_simp; (exact hK.out _ _ y HSt.out rfl (fun j hj hl => ⟨hl, fun u h => h⟩))
      · intro L y a9 wx hSt hLi hdl hcl hold hdep K hK
        have HSt : Hid (StAp w0.heap.size W4 ada cpa la n.data.toList adb cpb lb m.data.toList (L 4) (L 5) (L 10) (L 11) (L 13) (L 14) y wx) := hSt; clear hSt; obtain ⟨v20, t20, q20⟩ := hdep 3 rfl _ 20 rfl rfl; have e20 : v20 = (.string n) := q20 rfl; subst e20; have hzw := HSt.out.e.kept.size; have hz0 := HB4.out.size; clear hold hdep hdl hcl; go_simp; (refine hK.out _ _ { y with q1 := wx.heap.size } (HSt.out.s4 (below_more (Below.refl _ _) _) (by rw [str_eta]; exact blk_new _ _) hzw) rfl ?_); intro j hj hl
        rcases j with _ | _ | _ | _ | _ | _ | _ | _ | _ | _ | _ | _ | _ | _ | _ | j
        · exact ⟨rfl, fun u h => h⟩
        · exact ⟨rfl, fun u h => h⟩
        · exact ⟨rfl, fun u h => h⟩
        · exact ⟨rfl, fun u h => h⟩
        · exact Bool.noConfusion (hLi.symm.trans hj)
        · exact ⟨rfl, fun u h => h⟩
        · exact ⟨rfl, fun u h => h⟩
        · exact ⟨rfl, fun u h => h⟩
        · exact ⟨rfl, fun u h => h⟩
        · exact ⟨rfl, fun u h => h⟩
        · exact ⟨rfl, fun u h => h⟩
        · exact ⟨rfl, fun u h => h⟩
        · exact ⟨rfl, fun u h => h⟩
        · exact ⟨rfl, fun u h => h⟩
        · exact ⟨rfl, fun u h => h⟩
        · exact ⟨rfl, fun u h => h⟩
      · intro L y a9 wx hSt hLi hdl hcl hold hdep K hK
        have HSt : Hid (StAp w0.heap.size W4 ada cpa la n.data.toList adb cpb lb m.data.toList (L 4) (L 5) (L 10) (L 11) (L 13) (L 14) y wx) := hSt; clear hSt; obtain ⟨v18, t18, q18⟩ := hdep 1 rfl _ 18 rfl rfl; have e18 : v18 = (.slice ada la.length cpa) := q18 rfl; subst e18; obtain ⟨v21, t21, q21⟩ := hdep 4 rfl _ 21 rfl rfl; have e21 : v21 = (.slice (some ⟨y.q1, 0, none⟩) 1 1) := q21 rfl; subst e21; have e4 : L 4 = true := hdl 4 rfl; (have e12 : L 12 = false := not_yet hLi fun h => hcl 12 _ rfl h 5 rfl); (have e14 : L 14 = false := not_yet e12 fun h => hcl 14 _ rfl h 12 rfl); have hzw := HSt.out.e.kept.size; have hz0 := HB4.out.size; clear hold hdep hdl hcl; (refine step_appK rfl _ _ rfl w0.heap.size la n.data.toList _ _ y.q1 9 (eval_tmpM t18) HSt.out.e.rw2.ka (eval_tmpM t21) (HSt.out.m1 e4 hLi).1 (by omega) (by have := HL.out; omega) ?_); intro g3 cp3 w3 h3 k3 hat3 hol3; refine hK.out _ _ { y with g1 := g3, c1 := cp3 } (HSt.out.s5 HE4.out.rw2 e14 k3 h3 hol3 hat3) rfl ?_; intro j hj hl
        rcases j with _ | _ | _ | _ | _ | _ | _ | _ | _ | _ | _ | _ | _ | _ | _ | j
        · exact ⟨rfl, fun u h => h⟩
        · exact ⟨rfl, fun u h => h⟩
        · exact ⟨rfl, fun u h => h⟩
        · exact ⟨rfl, fun u h => h⟩
        · exact ⟨rfl, fun u h => h⟩
        · exact Bool.noConfusion (hLi.symm.trans hj)
        · exact ⟨rfl, fun u h => h⟩
        · exact ⟨rfl, fun u h => h⟩
        · exact ⟨rfl, fun u h => h⟩
        · exact ⟨rfl, fun u h => h⟩
        · exact ⟨rfl, fun u h => h⟩
        · exact ⟨rfl, fun u h => h⟩
        · exact Bool.noConfusion (e12.symm.trans hj)
        · exact ⟨rfl, fun u h => h⟩
        · exact Bool.noConfusion (e14.symm.trans hj)
        · exact ⟨rfl, fun u h => h⟩
      · intro L y a9 wx hSt hLi hdl hcl hold hdep K hK
        have HSt : Hid (StAp w0.heap.size W4 ada cpa la n.data.toList adb cpb lb m.data.toList (L 4) (L 5) (L 10) (L 11) (L 13) (L 14) y wx) := hSt; clear hSt; have t3 : a9.tmps[3]? = some (.pointer (some ⟨w.heap.size, 0, none⟩)) := hold 3 rfl; clear hold hdep hdl hcl hLi; go_simp; (exact hK.out _ _ y HSt.out rfl (fun j hj hl => ⟨hl, fun u h => h⟩))
      · intro L y a9 wx hSt hLi hdl hcl hold hdep K hK
        have HSt : Hid (StAp w0.heap.size W4 ada cpa la n.data.toList adb cpb lb m.data.toList (L 4) (L 5) (L 10) (L 11) (L 13) (L 14) y wx) := hSt; clear hSt; obtain ⟨v23, t23, q23⟩ := hdep 6 rfl _ 23 rfl rfl; have e23 : v23 = (.pointer (some ⟨w.heap.size, 1, none⟩)) := q23 rfl; subst e23; obtain ⟨f0, f1, -⟩ := blk2 (HX4.out.walk HR.out HSt.out.e).1; obtain ⟨f2, f3, f4, f5⟩ := blk4L (HX4.out.walk HR.out HSt.out.e).2.1; obtain ⟨f6, f7, f8, f9⟩ := blk4L (HX4.out.walk HR.out HSt.out.e).2.2; clear hold hdep hdl hcl hLi; go_simp; (exact hK.out _ _ y HSt.out rfl (fun j hj hl => ⟨hl, fun u h => h⟩))
      · intro L y a9 wx hSt hLi hdl hcl hold hdep K hK
        have HSt : Hid (StAp w0.heap.size W4 ada cpa la n.data.toList adb cpb lb m.data.toList (L 4) (L 5) (L 10) (L 11) (L 13) (L 14) y wx) := hSt; clear hSt; have t5 : a9.tmps[5]? = some (.pointer (some ⟨w.heap.size + 1 + 1, 0, none⟩)) := hold 5 rfl; clear hold hdep hdl hcl hLi; go_simp; (exact hK.out _ _ y HSt.out rfl (fun j hj hl => ⟨hl, fun u h => h⟩))
      · intro L y a9 wx hSt hLi hdl hcl hold hdep K hK
        have HSt : Hid (StAp w0.heap.size W4 ada cpa la n.data.toList adb cpb lb m.data.toList (L 4) (L 5) (L 10) (L 11) (L 13) (L 14) y wx) := hSt; clear hSt; obtain ⟨v25, t25, q25⟩ := hdep 8 rfl _ 25 rfl rfl; have e25 : v25 = (.pointer (some ⟨w.heap.size + 1 + 1, 1, none⟩)) := q25 rfl; subst e25; obtain ⟨f0, f1, -⟩ := blk2 (HX4.out.walk HR.out HSt.out.e).1; obtain ⟨f2, f3, f4, f5⟩ := blk4L (HX4.out.walk HR.out HSt.out.e).2.1; obtain ⟨f6, f7, f8, f9⟩ := blk4L (HX4.out.walk HR.out HSt.out.e).2.2; clear hold hdep hdl hcl hLi; go_simp; (exact hK.out _ _ y HSt.out rfl (fun j hj hl => ⟨hl, fun u h => h⟩))
      · intro L y a9 wx hSt hLi hdl hcl hold hdep K hK
        have HSt : Hid (StAp w0.heap.size W4 ada cpa la n.data.toList adb cpb lb m.data.toList (L 4) (L 5) (L 10) (L 11) (L 13) (L 14) y wx) := hSt; clear hSt; obtain ⟨v26, t26, q26⟩ := hdep 9 rfl _ 26 rfl rfl; have e26 : v26 = (.string m) := q26 rfl; subst e26; have hzw := HSt.out.e.kept.size; have hz0 := HB4.out.size; clear hold hdep hdl hcl; go_simp; (refine hK.out _ _ { y with q2 := wx.heap.size } (HSt.out.s10 (below_more (Below.refl _ _) _) (by rw [str_eta]; exact blk_new _ _) hzw) rfl ?_); intro j hj hl
        rcases j with _ | _ | _ | _ | _ | _ | _ | _ | _ | _ | _ | _ | _ | _ | _ | j
        · exact ⟨rfl, fun u h => h⟩
        · exact ⟨rfl, fun u h => h⟩
        · exact ⟨rfl, fun u h => h⟩
        · exact ⟨rfl, fun u h => h⟩
        · exact ⟨rfl, fun u h => h⟩
        · exact ⟨rfl, fun u h => h⟩
        · exact ⟨rfl, fun u h => h⟩
        · exact ⟨rfl, fun u h => h⟩
        · exact ⟨rfl, fun u h => h⟩
        · exact ⟨rfl, fun u h => h⟩
        · exact Bool.noConfusion (hLi.symm.trans hj)
        · exact ⟨rfl, fun u h => h⟩
        · exact ⟨rfl, fun u h => h⟩
        · exact ⟨rfl, fun u h => h⟩
        · exact ⟨rfl, fun u h => h⟩
        · exact ⟨rfl, fun u h => h⟩
      · intro L y a9 wx hSt hLi hdl hcl hold hdep K hK
        have HSt : Hid (StAp w0.heap.size W4 ada cpa la n.data.toList adb cpb lb m.data.toList (L 4) (L 5) (L 10) (L 11) (L 13) (L 14) y wx) := hSt; clear hSt; obtain ⟨v24, t24, q24⟩ := hdep 7 rfl _ 24 rfl rfl; have e24 : v24 = (.slice adb lb.length cpb) := q24 rfl; subst e24; obtain ⟨v27, t27, q27⟩ := hdep 10 rfl _ 27 rfl rfl; have e27 : v27 = (.slice (some ⟨y.q2, 0, none⟩) 1 1) := q27 rfl; subst e27; have e10 : L 10 = true := hdl 10 rfl; (have e12 : L 12 = false := not_yet hLi fun h => hcl 12 _ rfl h 11 rfl); (have e14 : L 14 = false := not_yet e12 fun h => hcl 14 _ rfl h 12 rfl); have hzw := HSt.out.e.kept.size; have hz0 := HB4.out.size; clear hold hdep hdl hcl; (refine step_appK rfl _ _ rfl w0.heap.size lb m.data.toList _ _ y.q2 9 (eval_tmpM t24) HSt.out.e.rw2.kb (eval_tmpM t27) (HSt.out.m2 e10 hLi).1 (by omega) (by have := HL.out; omega) ?_); intro g3 cp3 w3 h3 k3 hat3 hol3; refine hK.out _ _ { y with g2 := g3, c2 := cp3 } (HSt.out.s11 HE4.out.rw2 e14 k3 h3 hol3 hat3) rfl ?_; intro j hj hl
        rcases j with _ | _ | _ | _ | _ | _ | _ | _ | _ | _ | _ | _ | _ | _ | _ | j
        · exact ⟨rfl, fun u h => h⟩
        · exact ⟨rfl, fun u h => h⟩
        · exact ⟨rfl, fun u h => h⟩
        · exact ⟨rfl, fun u h => h⟩
        · exact ⟨rfl, fun u h => h⟩
        · exact ⟨rfl, fun u h => h⟩
        · exact ⟨rfl, fun u h => h⟩
        · exact ⟨rfl, fun u h => h⟩
        · exact ⟨rfl, fun u h => h⟩
        · exact ⟨rfl, fun u h => h⟩
        · exact ⟨rfl, fun u h => h⟩
        · exact Bool.noConfusion (hLi.symm.trans hj)
        · exact Bool.noConfusion (e12.symm.trans hj)
        · exact ⟨rfl, fun u h => h⟩
        · exact Bool.noConfusion (e14.symm.trans hj)
        · exact ⟨rfl, fun u h => h⟩
      · intro L y a9 wx hSt hLi hdl hcl hold hdep K hK
        have HSt : Hid (StAp w0.heap.size W4 ada cpa la n.data.toList adb cpb lb m.data.toList (L 4) (L 5) (L 10) (L 11) (L 13) (L 14) y wx) := hSt; clear hSt; obtain ⟨v22, t22, q22⟩ := hdep 5 rfl _ 22 rfl rfl; have e22 : v22 = (.slice (some ⟨y.g1, 0, none⟩) (la.length + 1) y.c1) := q22 rfl; subst e22; obtain ⟨v28, t28, q28⟩ := hdep 11 rfl _ 28 rfl rfl; have e28 : v28 = (.slice (some ⟨y.g2, 0, none⟩) (lb.length + 1) y.c2) := q28 rfl; subst e28; clear hold hdep hdl hcl hLi; go_simp; (exact hK.out _ _ y HSt.out rfl (fun j hj hl => ⟨hl, fun u h => h⟩))
      · intro L y a9 wx hSt hLi hdl hcl hold hdep K hK
        have HSt : Hid (StAp w0.heap.size W4 ada cpa la n.data.toList adb cpb lb m.data.toList (L 4) (L 5) (L 10) (L 11) (L 13) (L 14) y wx) := hSt; clear hSt; (have e14 : L 14 = false := not_yet hLi fun h => hcl 14 _ rfl h 13 rfl); have hzw := HSt.out.e.kept.size; have hz0 := HB4.out.size; clear hold hdep hdl hcl; go_simp; refine hK.out _ _ { y with ob := wx.heap.size } (HSt.out.s13 e14 (below_more (Below.refl _ _) _) (blk_new _ _) hzw) rfl ?_; intro j hj hl
        rcases j with _ | _ | _ | _ | _ | _ | _ | _ | _ | _ | _ | _ | _ | _ | _ | j
        · exact ⟨rfl, fun u h => h⟩
        · exact ⟨rfl, fun u h => h⟩
        · exact ⟨rfl, fun u h => h⟩
        · exact ⟨rfl, fun u h => h⟩
        · exact ⟨rfl, fun u h => h⟩
        · exact ⟨rfl, fun u h => h⟩
        · exact ⟨rfl, fun u h => h⟩
        · exact ⟨rfl, fun u h => h⟩
        · exact ⟨rfl, fun u h => h⟩
        · exact ⟨rfl, fun u h => h⟩
        · exact ⟨rfl, fun u h => h⟩
        · exact ⟨rfl, fun u h => h⟩
        · exact ⟨rfl, fun u h => h⟩
        · exact Bool.noConfusion (hLi.symm.trans hj)
        · exact ⟨rfl, fun u h => h⟩
        · exact ⟨rfl, fun u h => h⟩
      · intro L y a9 wx hSt hLi hdl hcl hold hdep K hK
        have HSt : Hid (StAp w0.heap.size W4 ada cpa la n.data.toList adb cpb lb m.data.toList (L 4) (L 5) (L 10) (L 11) (L 13) (L 14) y wx) := hSt; clear hSt; obtain ⟨v7, t7, q7⟩ := hdep 13 rfl _ 7 rfl rfl; have e7 : v7 = (.pointer (some ⟨y.ob, 0, none⟩)) := q7 rfl; subst e7; obtain ⟨v29, t29, q29⟩ := hdep 12 rfl _ 29 rfl rfl; have e29 : v29 = (.agg #[.slice (some ⟨y.g1, 0, none⟩) (la.length + 1) y.c1, .slice (some ⟨y.g2, 0, none⟩) (lb.length + 1) y.c2]) := q29 rfl; subst e29; have e13 : L 13 = true := hdl 13 rfl; have e12 : L 12 = true := hdl 12 rfl; have e5 : L 5 = true := hcl 12 _ rfl e12 5 rfl; have e11 : L 11 = true := hcl 12 _ rfl e12 11 rfl; have hob := (HSt.out.ob e13).1; rw [hLi] at hob; obtain ⟨o0, o1, o2, o3⟩ := blk2 hob; have ol := lt_of_block hob; clear hob; clear hold hdep hdl hcl; go_simp; refine hK.out (.bool true) _ y (HSt.out.s14 e5 e11 e13 hLi) trivial ?_; intro j hj hl
        rcases j with _ | _ | _ | _ | _ | _ | _ | _ | _ | _ | _ | _ | _ | _ | _ | j
        · exact ⟨rfl, fun u h => h⟩
        · exact ⟨rfl, fun u h => h⟩
        · exact ⟨rfl, fun u h => h⟩
        · exact ⟨rfl, fun u h => h⟩
        · exact ⟨rfl, fun u h => h⟩
        · exact ⟨rfl, fun u h => h⟩
        · exact ⟨rfl, fun u h => h⟩
        · exact ⟨rfl, fun u h => h⟩
        · exact ⟨rfl, fun u h => h⟩
        · exact ⟨rfl, fun u h => h⟩
        · exact ⟨rfl, fun u h => h⟩
        · exact ⟨rfl, fun u h => h⟩
        · exact ⟨rfl, fun u h => h⟩
        · exact ⟨rfl, fun u h => h⟩
        · exact Bool.noConfusion (hLi.symm.trans hj)
        · exact ⟨rfl, fun u h => h⟩
    · intro L y a9 wx hall hSt hsz hdf hold hgot
      have hS : StAp w0.heap.size W4 ada cpa la n.data.toList adb cpb lb m.data.toList (L 4) (L 5) (L 10) (L 11) (L 13) (L 14) y wx := hSt; rw [show L 5 = true from hall 5 (Nat.le_of_ble_eq_true rfl), show L 11 = true from hall 11 (Nat.le_of_ble_eq_true rfl), show L 13 = true from hall 13 (Nat.le_of_ble_eq_true rfl), show L 14 = true from hall 14 (Nat.le_of_ble_eq_true rfl)] at hS; obtain ⟨v7, t7, q7⟩ := hgot 13 _ 7 rfl rfl; have eA : v7 = (.pointer (some ⟨y.ob, 0, none⟩)) := q7 rfl; subst eA; obtain ⟨tm, df⟩ := a9; (obtain ⟨ys, zs, hys, hzs, htm, rfl⟩ := frame_two 7 1 9 13 8 17 30 rfl rfl rfl (by kernel_rfl) (Nat.le_of_ble_eq_true rfl) ⟨hsz, hdf, hold⟩); obtain ⟨x0, rfl⟩ := rowT1 ys hys; obtain ⟨z0, z1, z2, z3, z4, z5, z6, z7, z8, z9, z10, z11, z12, rfl⟩ := rowT13 zs hzs; simp only [List.take_succ_cons, List.take_zero, List.drop_succ_cons, List.drop_zero, List.cons_append, List.nil_append] at htm; subst htm; obtain rfl : x0 = _ := someInjM t7; have HSy : Hid (StAp w0.heap.size W4 ada cpa la n.data.toList adb cpb lb m.data.toList (L 4) true (L 10) true true true y wx) := hS; clear hys hzs hold hgot hall hSt hsz hdf t7 q7 hS; have hob := (HSy.out.ob rfl).1; rw [if_pos rfl] at hob; have HOb : Hid (wx.heap[y.ob]? = some (.cells #[.slice (some ⟨y.g1, 0, none⟩) (la.length + 1) y.c1, .slice (some ⟨y.g2, 0, none⟩) (lb.length + 1) y.c2] 93 (0, 0))) := hob; have HBy : Hid (Below w0.heap.size w0 wx) := HB4.out.trans (HSy.out.e.below HE4.out.rw2 HB4.out.size); have HXy : Hid (Bx3A w wx (.cells #[.slice ada la.length cpa, .slice adb lb.length cpb] 93 (0, 0)) (.cells #[.int .i64 k, .string n, .slice sw ws.length cw, .slice sk 1 ck] 25 (0, 0)) (.cells #[.int .i64 k, .string m, .slice su us.length cu, .slice sj 1 cj] 25 (0, 0))) := HX4.out.walk HR.out HSy.out.e; obtain ⟨g0, g1, g2, g3⟩ := blk2 hob; have lg := lt_of_block hob; obtain ⟨s0, s1, -⟩ := blk2 HXy.out.1; have ls := lt_of_block HXy.out.1; obtain ⟨x0, x1, x2, x3⟩ := blk4L HXy.out.2.1; have lx := lt_of_block HXy.out.2.1; obtain ⟨y0, y1, y2, y3⟩ := blk4L HXy.out.2.2; have ly := lt_of_block HXy.out.2.2; obtain ⟨kp, np, wp, kkp⟩ := p; obtain ⟨kq, nq, wq, kkq⟩ := q; (obtain ⟨b, off, rfl, hbs⟩ := HX.out (by simp)); (obtain ⟨b2, off2, rfl, hbs2⟩ := HY.out (by simp)); obtain ⟨sw2, cw2, sk2, ck2, c0, c1, c2, c3, hr0⟩ := hbs.at 0 _ _ _ _ rfl; obtain ⟨sw3, cw3, sk3, ck3, d0, d1, d2, d3, hr1⟩ := hbs2.at 0 _ _ _ _ rfl; rw [Nat.zero_mul, Nat.add_zero] at c0 c1 c2 c3 d0 d1 d2 d3; have lc := lt_of_cell c0; have ld := lt_of_cell d0; simp only at lc ld; have HKc : Hid (w0.cell? ⟨b, off, none⟩ = some (.int .i64 kp) ∧ w0.cell? ⟨b, off + 1, none⟩ = some (.string np) ∧ w0.cell? ⟨b, off + 2, none⟩ = some (.slice sw2 wp.length cw2) ∧ w0.cell? ⟨b, off + 3, none⟩ = some (.slice sk2 kkp.length ck2)) := ⟨c0, c1, c2, c3⟩; have HKd : Hid (w0.cell? ⟨b2, off2, none⟩ = some (.int .i64 kq) ∧ w0.cell? ⟨b2, off2 + 1, none⟩ = some (.string nq) ∧ w0.cell? ⟨b2, off2 + 2, none⟩ = some (.slice sw3 wq.length cw3) ∧ w0.cell? ⟨b2, off2 + 3, none⟩ = some (.slice sk3 kkq.length ck3)) := ⟨d0, d1, d2, d3⟩; have c4 := (HBy.out.cell lc).trans c0; have c5 := (HBy.out.cell lc).trans c1; have c6 := (HBy.out.cell lc).trans c2; have c7 := (HBy.out.cell lc).trans c3; have d4 := (HBy.out.cell ld).trans d0; have d5 := (HBy.out.cell ld).trans d1; have d6 := (HBy.out.cell ld).trans d2; have d7 := (HBy.out.cell ld).trans d3
      have HI : Hid (∀ W, Below wx.heap.size wx W → Calls Tryz.prog 60 #[.agg #[.slice (some ⟨y.g1, 0, none⟩) (la.length + 1) y.c1, .slice (some ⟨y.g2, 0, none⟩) (lb.length + 1) y.c2], .agg #[.int .i64 kp, .string np, .slice sw2 wp.length cw2, .slice sk2 kkp.length ck2], .agg #[.int .i64 kq, .string nq, .slice sw3 wq.length cw3, .slice sk3 kkq.length ck3]] W fun e w' => e = .returned (.bool (alE (la ++ [n.data.toList]) (lb ++ [m.data.toList]) (.mk kp np wp kkp) (.mk kq nq wq kkq))) ∧ AEnd w0.heap.size W (some ⟨y.g1, 0, none⟩) y.c1 (la ++ [n.data.toList]) (some ⟨y.g2, 0, none⟩) y.c2 (lb ++ [m.data.toList]) w') := fun W hW => by
        have h9 := HS.out; simp only [EShs] at h9; have h8 := HMz.out; have h7 := HL.out; simp only [Ex.sizes] at h8 h7; (have h6 := ih w0 (la ++ [n.data.toList]) (lb ++ [m.data.toList]) (.mk kp np wp kkp) (.mk kq nq wq kkq) (some ⟨y.g1, 0, none⟩) (some ⟨y.g2, 0, none⟩) y.c1 y.c2 _ _ W (by omega) (by rw [List.length_append, List.length_singleton]; omega) (by rw [List.length_append, List.length_singleton]; omega) h9.1.2.1 h9.2.2.1 hr0 hr1 (HSy.out.new.up hW) (HBy.out.trans (hW.mono HBy.out.size))); rw [List.length_append, List.length_singleton, List.length_append, List.length_singleton] at h6; exact h6
      (have hck : (0 : Int) < (ck : Int) := by have := HC.out.1; omega); (have hcj : (0 : Int) < (cj : Int) := by have := HC.out.2; omega); clear c0 c1 c2 c3 d0 d1 d2 d3 hbs hbs2 hr0 hr1 hob; go_wp2_with fail
      go_region_held3 (fun w' => w'.cell? ⟨y.ob, 0, none⟩ = some (.slice (some ⟨y.g1, 0, none⟩) (la.length + 1) y.c1) ∧ w'.cell? ⟨y.ob, 1, none⟩ = some (.slice (some ⟨y.g2, 0, none⟩) (lb.length + 1) y.c2) ∧ w'.cell? ⟨w.heap.size + 1, 3, none⟩ = some (.slice (some ⟨b, off, none⟩) 1 ck) ∧ w'.cell? ⟨w.heap.size + 1 + 1, 3, none⟩ = some (.slice (some ⟨b2, off2, none⟩) 1 cj) ∧ w'.cell? ⟨b, off, none⟩ = some (.int .i64 kp) ∧ w'.cell? ⟨b, off + 1, none⟩ = some (.string np) ∧ w'.cell? ⟨b, off + 2, none⟩ = some (.slice sw2 wp.length cw2) ∧ w'.cell? ⟨b, off + 3, none⟩ = some (.slice sk2 kkp.length ck2) ∧ w'.cell? ⟨b2, off2, none⟩ = some (.int .i64 kq) ∧ w'.cell? ⟨b2, off2 + 1, none⟩ = some (.string nq) ∧ w'.cell? ⟨b2, off2 + 2, none⟩ = some (.slice sw3 wq.length cw3) ∧ w'.cell? ⟨b2, off2 + 3, none⟩ = some (.slice sk3 kkq.length ck3)) (go_keep)
        (first
         | (go_at_call 60
            refine (HI.out _ (Below.refl _ _).drew).mono ?_; rintro e w6 ⟨rfl, he⟩; have he2 : AEnd w0.heap.size wx (some ⟨y.g1, 0, none⟩) y.c1 (la ++ [n.data.toList]) (some ⟨y.g2, 0, none⟩) y.c2 (lb ++ [m.data.toList]) w6 := ((AEnd.refl HSy.out.new).up (Below.refl _ wx).drew).trans he; have hgr := he2.grown HE4.out.rw2 HSy.out; have HE6 : Hid (AEnd w0.heap.size w ada cpa la adb cpb lb w6) := HE4.out.trans (he2.grown HE4.out.rw2 HSy.out); have hb6 : Below w0.heap.size w0 w6 := HB.out.trans (HE6.out.below HR.out HB.out.size); have hb9 := HX4.out.walk HR.out hgr; obtain ⟨-, -, -, u3⟩ := blk4L hb9.2.1; obtain ⟨-, -, -, u4⟩ := blk4L hb9.2.2; obtain ⟨u5, u6, -⟩ := blk2 ((he2.kept.block _ (lt_of_block HOb.out) HSy.out.offOb).trans HOb.out); have c8 := (hb6.cell lc).trans HKc.out.1; have c9 := (hb6.cell lc).trans HKc.out.2.1; have ca := (hb6.cell lc).trans HKc.out.2.2.1; have cb := (hb6.cell lc).trans HKc.out.2.2.2; have d8 := (hb6.cell ld).trans HKd.out.1; have d9 := (hb6.cell ld).trans HKd.out.2.1; have da := (hb6.cell ld).trans HKd.out.2.2.1; have db := (hb6.cell ld).trans HKd.out.2.2.2
            clear he hgr hb9)
         | fail)
      go_wp2_with fail; go_ret; exact ⟨ret_bool (alE_one hq).symm, HE6.out⟩
  case false =>
    (have HLen : Hid (js.length = ks.length) := by show _ = _; have := HS.out; omega); (have hqf : ¬ quanB k = true := by rw [hq]; exact Bool.noConfusion); by_cases hnm : n.data.toList = m.data.toList
    case neg =>
      (have hE : alE la lb (.mk k n ws ks) (.mk k m us js) = false := by rw [alE, if_neg hqf, show (n.data.toList == m.data.toList) = false from beq_eq_false_iff_ne.2 hnm, Bool.false_and, Bool.false_and, Bool.and_false]); rw [hE]; (have hne : ¬ n.toList = m.toList := by rw [ByteArray.toList_eq, ByteArray.toList_eq]; exact hnm); clear hE hnm
      go_enter Tryz.func60, Tryz.ntmps60
      go_wp2_with (first
      | (go_at_call 108
         refine (HQu.out _).mono ?_; rintro e w1 ⟨rfl, hw1⟩
         subst hw1)
      | fail)
      go_ret; exact ⟨rfl, HE0.out⟩
    (have hn2 : n = m := by rw [← str_eta n, ← str_eta m, hnm]); subst hn2; (have hE : alE la lb (.mk k n ws ks) (.mk k n us js) = (alWs la lb ws us && alEs la lb ks js) := by rw [alE, if_neg hqf, beq_self_eq_true, beq_self_eq_true, Bool.true_and, Bool.true_and]); rw [hE]; clear hE hnm hqf; obtain ⟨W4, hW4⟩ : ∃ W4, W4 = (((w.alloc (.cells #[.slice ada la.length cpa, .slice adb lb.length cpb] 93 (0, 0))).alloc (.cells #[.int .i64 k, .string n, .slice sw ws.length cw, .slice sk ks.length ck] 25 (0, 0))).alloc (.cells #[.int .i64 k, .string n, .slice su us.length cu, .slice sj js.length cj] 25 (0, 0))) := ⟨_, rfl⟩; (have HX4 : Hid (Bx3A w W4 (.cells #[.slice ada la.length cpa, .slice adb lb.length cpb] 93 (0, 0)) (.cells #[.int .i64 k, .string n, .slice sw ws.length cw, .slice sk ks.length ck] 25 (0, 0)) (.cells #[.int .i64 k, .string n, .slice su us.length cu, .slice sj js.length cj] 25 (0, 0))) := by show Bx3A _ _ _ _ _; rw [hW4]; exact HX0.out); (have HE4 : Hid (AEnd w0.heap.size w ada cpa la adb cpb lb W4) := by show AEnd _ _ _ _ _ _ _ _ _; rw [hW4]; exact HE0.out); have HB4 : Hid (Below w0.heap.size w0 W4) := HB.out.trans (HE4.out.below HR.out HB.out.size); (have HWd : Hid (Calls Tryz.prog 109 #[.agg #[.slice ada la.length cpa, .slice adb lb.length cpb], .slice sw ws.length cw, .slice su us.length cu] W4 fun e w' => e = .returned (.bool (alWs la lb ws us)) ∧ Below W4.heap.size W4 w') := alws_any la lb ws us _ _ _ W4 HE4.out.rw2.ds (HWs.out.1.up HB4.out) (HWs.out.2.up HB4.out)); clear HWs
    go_enter Tryz.func60, Tryz.ntmps60
    go_wp2_with (first
      | (go_at_call 108
         refine (HQu.out _).mono ?_; rintro e w1 ⟨rfl, hw1⟩
         subst hw1)
      | fail)
    rw [← hW4]; clear hW4 HX0 HE0 HQu; refine HWd.out.mono ?_; rintro _ w5 ⟨rfl, hb5⟩; have HX5 : Hid (Bx3A w w5 (.cells #[.slice ada la.length cpa, .slice adb lb.length cpb] 93 (0, 0)) (.cells #[.int .i64 k, .string n, .slice sw ws.length cw, .slice sk ks.length ck] 25 (0, 0)) (.cells #[.int .i64 k, .string n, .slice su us.length cu, .slice sj js.length cj] 25 (0, 0))) := HX4.out.up hb5; have HE5 : Hid (AEnd w0.heap.size w ada cpa la adb cpb lb w5) := HE4.out.up hb5; clear hb5 HWd HX4 HE4 HB4
    rcases hww : alWs la lb ws us with _ | _
    · have HWW : Hid (alWs la lb ws us = false) := hww
      clear hww; go_wp2_with fail; go_ret; (exact ⟨ret_bool (by rw [HWW.out, Bool.false_and]), HE5.out⟩)
    have HWW : Hid (alWs la lb ws us = true) := hww; clear hww; obtain ⟨s0, s1, -⟩ := blk2 HX5.out.1; have ls := lt_of_block HX5.out.1; obtain ⟨x0, x1, x2, x3⟩ := blk4L HX5.out.2.1; have lx := lt_of_block HX5.out.2.1; obtain ⟨y0, y1, y2, y3⟩ := blk4L HX5.out.2.2; have ly := lt_of_block HX5.out.2.2; go_wp2_with fail; clear s0 s1 ls x0 x1 x2 x3 lx y0 y1 y2 y3 ly
    go_loopg [57, 8] ks.length (fun g c t wr => ∃ i, i ≤ ks.length ∧ g = ks.length - i ∧ c = .int .i64 (i : Nat) ∧ Hid (AEnd w0.heap.size w ada cpa la adb cpb lb wr) ∧ Hid (Bx3A w wr (.cells #[.slice ada la.length cpa, .slice adb lb.length cpb] 93 (0, 0)) (.cells #[.int .i64 k, .string n, .slice sw ws.length cw, .slice sk ks.length ck] 25 (0, 0)) (.cells #[.int .i64 k, .string n, .slice su us.length cu, .slice sj js.length cj] 25 (0, 0))) ∧ Hid (alEs la lb (ks.drop i) (js.drop i) = alEs la lb ks js))
    case atStart => exact ⟨0, by omega, by omega, rfl, HE5, HX5, by show _ = _; simp⟩
    case round =>
      obtain ⟨i, hi, hg, rfl, HEr, HXr, HSr⟩ := hrel; have HG : Hid (gk = ks.length - i) := hg; clear hg HE5 HX5; have HBr : Hid (Below w0.heap.size w0 wr) := HB.out.trans (HEr.out.below HR.out HB.out.size); obtain ⟨s0, s1, -⟩ := blk2 HXr.out.1; have ls := lt_of_block HXr.out.1; obtain ⟨x0, x1, x2, x3⟩ := blk4L HXr.out.2.1; have lx := lt_of_block HXr.out.2.1; obtain ⟨y0, y1, y2, y3⟩ := blk4L HXr.out.2.2; have ly := lt_of_block HXr.out.2.2; by_cases hlt : i < ks.length
      · obtain ⟨⟨kp, np, wp, kkp⟩, hki⟩ : ∃ f, ks[i]? = some f := ⟨_, List.getElem?_eq_getElem hlt⟩
        (obtain ⟨⟨kq, nq, wq, kkq⟩, hki'⟩ : ∃ f, js[i]? = some f := ⟨_, List.getElem?_eq_getElem (by have := HLen.out; omega)⟩); (obtain ⟨b, off, rfl, hbs⟩ := HX.out (fun e => by rw [e] at hlt; simp at hlt)); (obtain ⟨b2, off2, rfl, hbs2⟩ := HY.out (fun e => by have := HLen.out; rw [e] at this; simp at this; rw [← this] at hlt; simp at hlt)); obtain ⟨sw2, cw2, sk2, ck2, c0, c1, c2, c3, hr0⟩ := hbs.at i _ _ _ _ hki; obtain ⟨sw3, cw3, sk3, ck3, d0, d1, d2, d3, hr1⟩ := hbs2.at i _ _ _ _ hki'; have lc := lt_of_cell c0; have ld := lt_of_cell d0; simp only at lc ld; have HKc : Hid (w0.cell? ⟨b, off + i * 4, none⟩ = some (.int .i64 kp) ∧ w0.cell? ⟨b, off + i * 4 + 1, none⟩ = some (.string np) ∧ w0.cell? ⟨b, off + i * 4 + 2, none⟩ = some (.slice sw2 wp.length cw2) ∧ w0.cell? ⟨b, off + i * 4 + 3, none⟩ = some (.slice sk2 kkp.length ck2)) := ⟨c0, c1, c2, c3⟩; have HKd : Hid (w0.cell? ⟨b2, off2 + i * 4, none⟩ = some (.int .i64 kq) ∧ w0.cell? ⟨b2, off2 + i * 4 + 1, none⟩ = some (.string nq) ∧ w0.cell? ⟨b2, off2 + i * 4 + 2, none⟩ = some (.slice sw3 wq.length cw3) ∧ w0.cell? ⟨b2, off2 + i * 4 + 3, none⟩ = some (.slice sk3 kkq.length ck3)) := ⟨d0, d1, d2, d3⟩; have c4 := (HBr.out.cell lc).trans c0; have c5 := (HBr.out.cell lc).trans c1; have c6 := (HBr.out.cell lc).trans c2; have c7 := (HBr.out.cell lc).trans c3; have d4 := (HBr.out.cell ld).trans d0; have d5 := (HBr.out.cell ld).trans d1; have d6 := (HBr.out.cell ld).trans d2; have d7 := (HBr.out.cell ld).trans d3; have hds := HSr.out; rw [alEs_drop hki hki'] at hds; have HD : Hid (_ = alEs la lb ks js) := hds
        have HI : Hid (∀ W, Below wr.heap.size wr W → Calls Tryz.prog 60 #[.agg #[.slice ada la.length cpa, .slice adb lb.length cpb], .agg #[.int .i64 kp, .string np, .slice sw2 wp.length cw2, .slice sk2 kkp.length ck2], .agg #[.int .i64 kq, .string nq, .slice sw3 wq.length cw3, .slice sk3 kkq.length ck3]] W fun e w' => e = .returned (.bool (alE la lb (.mk kp np wp kkp) (.mk kq nq wq kkq))) ∧ AEnd w0.heap.size W ada cpa la adb cpb lb w') := fun W hW => by
          have h9 := HS.out; have h8 := HMz.out; have h7 := HL.out; have h6 := exsize_get hki; (exact ih w0 la lb (.mk kp np wp kkp) (.mk kq nq wq kkq) ada adb cpa cpb _ _ W (by omega) (by omega) (by omega) (eshs_at h9.1.2 hki) (eshs_at h9.2.2 hki') hr0 hr1 (HEr.out.rw2.up hW) (HBr.out.trans (hW.mono HBr.out.size)))
        (have hltI : (i : Int) < (ks.length : Int) := by omega); (have hltJ : (i : Int) < (js.length : Int) := by have := HLen.out; omega); (have hck : (i : Int) < (ck : Int) := by have := HC.out.1; omega); (have hcj : (i : Int) < (cj : Int) := by have := HC.out.2; have := HLen.out; omega); have HLt : Hid (i < ks.length) := hlt; clear c0 c1 c2 c3 d0 d1 d2 d3 hbs hbs2 hr0 hr1 hds HSr hki hki' hlt; go_wp2_with fail
        go_region_held3 (fun w' => w'.cell? ⟨w.heap.size, 0, none⟩ = some (.slice ada la.length cpa) ∧ w'.cell? ⟨w.heap.size, 1, none⟩ = some (.slice adb lb.length cpb) ∧ w'.cell? ⟨w.heap.size + 1, 3, none⟩ = some (.slice (some ⟨b, off, none⟩) ks.length ck) ∧ w'.cell? ⟨w.heap.size + 1 + 1, 3, none⟩ = some (.slice (some ⟨b2, off2, none⟩) js.length cj) ∧ w'.cell? ⟨b, off + i * 4, none⟩ = some (.int .i64 kp) ∧ w'.cell? ⟨b, off + i * 4 + 1, none⟩ = some (.string np) ∧ w'.cell? ⟨b, off + i * 4 + 2, none⟩ = some (.slice sw2 wp.length cw2) ∧ w'.cell? ⟨b, off + i * 4 + 3, none⟩ = some (.slice sk2 kkp.length ck2) ∧ w'.cell? ⟨b2, off2 + i * 4, none⟩ = some (.int .i64 kq) ∧ w'.cell? ⟨b2, off2 + i * 4 + 1, none⟩ = some (.string nq) ∧ w'.cell? ⟨b2, off2 + i * 4 + 2, none⟩ = some (.slice sw3 wq.length cw3) ∧ w'.cell? ⟨b2, off2 + i * 4 + 3, none⟩ = some (.slice sk3 kkq.length ck3)) (go_keep)
          (first
           | (go_at_call 60
              refine (HI.out _ (Below.refl _ _).drew).mono ?_; rintro e w6 ⟨rfl, he⟩; have he2 : AEnd w0.heap.size wr ada cpa la adb cpb lb w6 := ((AEnd.refl HEr.out.rw2).up (Below.refl _ wr).drew).trans he; have HE6 : Hid (AEnd w0.heap.size w ada cpa la adb cpb lb w6) := HEr.out.trans he2; have HX6 : Hid (Bx3A w w6 _ _ _) := HXr.out.walk HR.out he2; have hb6 : Below w0.heap.size w0 w6 := HB.out.trans (HE6.out.below HR.out HB.out.size); obtain ⟨u1, u2, -⟩ := blk2 HX6.out.1; obtain ⟨-, -, -, u3⟩ := blk4L HX6.out.2.1; obtain ⟨-, -, -, u4⟩ := blk4L HX6.out.2.2; have c8 := (hb6.cell lc).trans HKc.out.1; have c9 := (hb6.cell lc).trans HKc.out.2.1; have ca := (hb6.cell lc).trans HKc.out.2.2.1; have cb := (hb6.cell lc).trans HKc.out.2.2.2; have d8 := (hb6.cell ld).trans HKd.out.1; have d9 := (hb6.cell ld).trans HKd.out.2.1; have da := (hb6.cell ld).trans HKd.out.2.2.1; have db := (hb6.cell ld).trans HKd.out.2.2.2
              clear he he2)
           | fail)
        clear c4 c5 c6 c7 d4 d5 d6 d7 c8 c9 ca cb d8 d9 da db u1 u2 u3 u4; clear s0 s1 ls x0 x1 x2 x3 lx y0 y1 y2 y3 ly
        rcases hal : alE la lb (.mk kp np wp kkp) (.mk kq nq wq kkq) with _ | _
        · rw [hal, Bool.false_and] at HD
          clear hal; go_wp2_with fail; go_ret; (exact ⟨ret_bool (by rw [HWW.out, Bool.true_and]; exact HD.out), HE6.out⟩)
        · rw [hal, Bool.true_and] at HD
          clear hal; go_wp2_with fail
          go_roundg (ks.length - (i + 1))
          case measure => have := HG.out; have := HLt.out; omega
          case rel => exact ⟨i + 1, HLt.out, rfl, by go_num, HE6, HX6, HD.out⟩
      · have hge : ¬ (i : Int) < (ks.length : Int) := by omega
        go_wp2_with fail; go_ret; refine ⟨ret_bool ?_, HEr.out⟩; (rw [HWW.out, Bool.true_and, ← HSr.out, List.drop_of_length_le (by omega), List.drop_of_length_le (by have := HLen.out; omega), alEs])
theorem aes_all : ∀ m, AEs m
  | 0 => fun _ _ _ _ _ _ _ _ _ _ _ _ h => absurd h (Nat.not_lt_zero _)
  | m + 1 => aes_step m (aes_all m)
theorem alikeE_any (w0 : World) (la lb : List (List UInt8)) (x y : Ex) (ada adb : Option Addr) (cpa cpb : Nat) (v u : Value) (w : World) (hla : la.length + x.size ≤ 100000) (hlb : lb.length + x.size ≤ 100000) (hsx : ESh x) (hsy : ESh y) (hx : ERp w0 x v) (hy : ERp w0 y u) (hR : Rw2 w0.heap.size w ada cpa la adb cpb lb) (hB : Below w0.heap.size w0 w) :
    Calls Tryz.prog 60 #[.agg #[.slice ada la.length cpa, .slice adb lb.length cpb], v, u] w fun e w' => e = .returned (.bool (alE la lb x y)) ∧ AEnd w0.heap.size w ada cpa la adb cpb lb w' :=
  aes_all (x.size + 1) w0 la lb x y ada adb cpa cpb v u w (Nat.lt_succ_self _) hla hlb hsx hsy hx hy hR hB
end Go.Proofs.YtheiikkeelbjnajGreat
