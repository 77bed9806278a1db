/- Texts of one proof, one behind the other: CS4. -/
import Derived.Test.YtpmogojpdigbmacB26
/- Walks: instead (made by gen/pfcopy.py). -/
namespace Go.Proofs.Ytpmogojpdigbmac
open Go.RowKit

theorem frame51 (a : Array Value) (h : a.size = 51) : ∃ x0 x1 x2 x3 x4 x5 x6 x7 x8 x9 x10 x11 x12 x13 x14 x15 x16 x17 x18 x19 x20 x21 x22 x23 x24 x25 x26 x27 x28 x29 x30 x31 x32 x33 x34 x35 x36 x37 x38 x39 x40 x41 x42 x43 x44 x45 x46 x47 x48 x49 x50, a = #[x0, x1, x2, x3, x4, x5, x6, x7, x8, x9, x10, x11, x12, x13, x14, x15, x16, x17, x18, x19, x20, x21, x22, x23, x24, x25, x26, x27, x28, x29, x30, x31, x32, x33, x34, x35, x36, x37, x38, x39, x40, x41, x42, x43, x44, x45, x46, x47, x48, x49, x50] := by
  obtain ⟨l⟩ := a
  have h0 : l.length = 51 := h
  obtain ⟨x0, l1, e0, h1⟩ := cons_len h0
  obtain ⟨x1, l2, e1, h2⟩ := cons_len h1
  obtain ⟨x2, l3, e2, h3⟩ := cons_len h2
  obtain ⟨x3, l4, e3, h4⟩ := cons_len h3
  obtain ⟨x4, l5, e4, h5⟩ := cons_len h4
  obtain ⟨x5, l6, e5, h6⟩ := cons_len h5
  obtain ⟨x6, l7, e6, h7⟩ := cons_len h6
  obtain ⟨x7, l8, e7, h8⟩ := cons_len h7
  obtain ⟨x8, l9, e8, h9⟩ := cons_len h8
  obtain ⟨x9, l10, e9, h10⟩ := cons_len h9
  obtain ⟨x10, l11, e10, h11⟩ := cons_len h10
  obtain ⟨x11, l12, e11, h12⟩ := cons_len h11
  obtain ⟨x12, l13, e12, h13⟩ := cons_len h12
  obtain ⟨x13, l14, e13, h14⟩ := cons_len h13
  obtain ⟨x14, l15, e14, h15⟩ := cons_len h14
  obtain ⟨x15, l16, e15, h16⟩ := cons_len h15
  obtain ⟨x16, l17, e16, h17⟩ := cons_len h16
  obtain ⟨x17, l18, e17, h18⟩ := cons_len h17
  obtain ⟨x18, l19, e18, h19⟩ := cons_len h18
  obtain ⟨x19, l20, e19, h20⟩ := cons_len h19
  obtain ⟨x20, l21, e20, h21⟩ := cons_len h20
  obtain ⟨x21, l22, e21, h22⟩ := cons_len h21
  obtain ⟨x22, l23, e22, h23⟩ := cons_len h22
  obtain ⟨x23, l24, e23, h24⟩ := cons_len h23
  obtain ⟨x24, l25, e24, h25⟩ := cons_len h24
  obtain ⟨x25, l26, e25, h26⟩ := cons_len h25
  obtain ⟨x26, l27, e26, h27⟩ := cons_len h26
  obtain ⟨x27, l28, e27, h28⟩ := cons_len h27
  obtain ⟨x28, l29, e28, h29⟩ := cons_len h28
  obtain ⟨x29, l30, e29, h30⟩ := cons_len h29
  obtain ⟨x30, l31, e30, h31⟩ := cons_len h30
  obtain ⟨x31, l32, e31, h32⟩ := cons_len h31
  obtain ⟨x32, l33, e32, h33⟩ := cons_len h32
  obtain ⟨x33, l34, e33, h34⟩ := cons_len h33
  obtain ⟨x34, l35, e34, h35⟩ := cons_len h34
  obtain ⟨x35, l36, e35, h36⟩ := cons_len h35
  obtain ⟨x36, l37, e36, h37⟩ := cons_len h36
  obtain ⟨x37, l38, e37, h38⟩ := cons_len h37
  obtain ⟨x38, l39, e38, h39⟩ := cons_len h38
  obtain ⟨x39, l40, e39, h40⟩ := cons_len h39
  obtain ⟨x40, l41, e40, h41⟩ := cons_len h40
  obtain ⟨x41, l42, e41, h42⟩ := cons_len h41
  obtain ⟨x42, l43, e42, h43⟩ := cons_len h42
  obtain ⟨x43, l44, e43, h44⟩ := cons_len h43
  obtain ⟨x44, l45, e44, h45⟩ := cons_len h44
  obtain ⟨x45, l46, e45, h46⟩ := cons_len h45
  obtain ⟨x46, l47, e46, h47⟩ := cons_len h46
  obtain ⟨x47, l48, e47, h48⟩ := cons_len h47
  obtain ⟨x48, l49, e48, h49⟩ := cons_len h48
  obtain ⟨x49, l50, e49, h50⟩ := cons_len h49
  obtain ⟨x50, l51, e50, h51⟩ := cons_len h50
  have e51 : l51 = [] := List.length_eq_zero_iff.1 h51
  subst e51 e50 e49 e48 e47 e46 e45 e44 e43 e42 e41 e40 e39 e38 e37 e36 e35 e34 e33 e32 e31 e30 e29 e28 e27 e26 e25 e24 e23 e22 e21 e20 e19 e18 e17 e16 e15 e14 e13 e12 e11 e10 e9 e8 e7 e6 e5 e4 e3 e2 e1 e0
  exact ⟨x0, x1, x2, x3, x4, x5, x6, x7, x8, x9, x10, x11, x12, x13, x14, x15, x16, x17, x18, x19, x20, x21, x22, x23, x24, x25, x26, x27, x28, x29, x30, x31, x32, x33, x34, x35, x36, x37, x38, x39, x40, x41, x42, x43, x44, x45, x46, x47, x48, x49, x50, rfl⟩
def InP (nm : ByteArray) (f : Fm) (A : Nat) (m : Nat) : Prop := ∀ (p : Pf) (v u : Value) (w : World), p.size < m → GoodS p → A ≤ w.heap.size → PRp (· < A) w p v → Rep w (· < A) f u →
  Calls Try.prog 13 #[v, .string nm, u] w fun e w' => ∃ x, e = .returned x ∧ PRp (fun b => b < A ∨ w.heap.size ≤ b) w' (p.sub nm f) x ∧ Below w.heap.size w w'

set_option maxRecDepth 10000 in
set_option maxHeartbeats 8000000 in
theorem instead_step (nm : ByteArray) (f : Fm) (A : Nat) (m : Nat) (ih : InP nm f A m) : InP nm f A (m + 1) := by
  intro p v u w hm hgood hAw hv hu
  obtain ⟨kg, ng, ksg⟩ := f
  obtain ⟨a0, ⟨k, n, kf⟩, l, r, ks⟩ := p
  obtain ⟨hsf, hl3, hr3, hsl, hsr, hk3, hgk⟩ := hgood.parts
  have HV : Hid (PRp (· < A) w (.mk a0 (.mk k n kf) l r ks) v) := hv
  obtain ⟨sf, cf, al, cl, ar, cr, sl, cap, rfl, ha, hf, hl, hr, hkc, hcm, hks⟩ := hv.parts
  obtain ⟨sg, cg, rfl⟩ := slice_shape hu
  have HG : Hid (Rep w (· < A) (.mk kg ng ksg) _) := hu
  obtain ⟨k5, n5, kf5, h5⟩ : ∃ k' n' ks', putF nm (.mk kg ng ksg) (.mk k n kf) = .mk k' n' ks' := by
    cases putF nm (.mk kg ng ksg) (.mk k n kf)
    exact ⟨_, _, _, rfl⟩
  obtain ⟨L5, hL5⟩ : ∃ L, L = l.map (putF nm (.mk kg ng ksg)) := ⟨_, rfl⟩
  obtain ⟨R5, hR5⟩ : ∃ L, L = r.map (putF nm (.mk kg ng ksg)) := ⟨_, rfl⟩
  have H5 : Hid (Pf.sub nm (.mk kg ng ksg) (.mk a0 (.mk k n kf) l r ks) = .mk a0 (.mk k5 n5 kf5) L5 R5 (Pf.subs nm (.mk kg ng ksg) ks)) := by
    show _ = _
    rw [Pf.sub, h5, hL5, hR5]
  obtain ⟨O1, hO1⟩ : ∃ O, O = Obj.cells #[.string a0, .int .i64 k, .string n, .slice sf kf.length cf, .slice al l.length cl, .slice ar r.length cr, .slice sl ks.length cap] 29 (0, 0) := ⟨_, rfl⟩
  obtain ⟨O2, hO2⟩ : ∃ O, O = Obj.cells #[.int .i64 kg, .string ng, .slice sg ksg.length cg] 24 (0, 0) := ⟨_, rfl⟩
  obtain ⟨O3, hO3⟩ : ∃ O, O = Obj.cells #[.string ⟨#[]⟩, .int .i64 0, .string ⟨#[]⟩, .slice none 0 0, .slice none 0 0, .slice none 0 0, .slice none 0 0] 29 (0, 0) := ⟨_, rfl⟩
  obtain ⟨W, hW⟩ : ∃ W, W = ((w.alloc O1).alloc O2).alloc O3 := ⟨_, rfl⟩
  have B0 : Below w.heap.size w W := by rw [hW]; exact below_more (below_more (below_more (Below.refl _ w) _) _) _
  have z0 : W.heap.size = w.heap.size + 3 := by rw [hW]; simp
  have p1 : W.heap[w.heap.size]? = some O1 := by rw [hW]; exact alloc_keep (alloc_keep (blk_new w O1) _) _
  have p2 : W.heap[w.heap.size + 1]? = some O2 := by rw [hW]; exact alloc_keep (blk_two w O1 O2) _
  have p3 : W.heap[w.heap.size + 1 + 1]? = some O3 := by rw [hW]; have := blk_new ((w.alloc O1).alloc O2) O3; simpa using this
  rw [hO2] at p2
  have P2 : Hid (W.heap[w.heap.size + 1]? = some _) := p2
  have HA : Hid (A ≤ W.heap.size) := by show _ ≤ _; omega
  rw [hO1] at p1
  rw [hO3] at p3
  have P1 : Hid (W.heap[w.heap.size]? = some _) := p1
  have P3 : Hid (W.heap[w.heap.size + 1 + 1]? = some _) := p3
  have HWI : Hid (∀ wx, Below W.heap.size W wx → Calls Try.prog 21 #[.agg #[.int .i64 k, .string n, .slice sf kf.length cf], .string nm, .agg #[.int .i64 kg, .string ng, .slice sg ksg.length cg]] wx fun e w' => ∃ x, e = .returned x ∧ Rep w' (fun b => b < A ∨ wx.heap.size ≤ b) (.mk k5 n5 kf5) x ∧ Below wx.heap.size wx w') := fun wx hb => by
    have hbx := below_join B0 hb
    have hc := withs_all nm (.mk kg ng ksg) A _ (.mk k n kf) _ _ wx (Nat.lt_succ_self _) hsf (by have := hbx.size; omega) (hf.all.up hbx) (HG.out.low (hbx.mono hAw))
    rw [h5] at hc
    exact hc
  have HWL : Hid (∀ wx, Below W.heap.size W wx → Calls Try.prog 22 #[.slice al l.length cl, .string nm, .agg #[.int .i64 kg, .string ng, .slice sg ksg.length cg]] wx fun e w' => ∃ x, e = .returned x ∧ FLp (fun b => b < A ∨ wx.heap.size ≤ b) w' x L5 ∧ Below wx.heap.size wx w') := fun wx hb => by
    have hbx := below_join B0 hb
    rw [hL5]
    exact withAll_any nm (.mk kg ng ksg) A l hl3 hsl _ _ wx (by have := hbx.size; omega) (hl.list.up hbx) (HG.out.low (hbx.mono hAw))
  have HWR : Hid (∀ wx, Below W.heap.size W wx → Calls Try.prog 22 #[.slice ar r.length cr, .string nm, .agg #[.int .i64 kg, .string ng, .slice sg ksg.length cg]] wx fun e w' => ∃ x, e = .returned x ∧ FLp (fun b => b < A ∨ wx.heap.size ≤ b) w' x R5 ∧ Below wx.heap.size wx w') := fun wx hb => by
    have hbx := below_join B0 hb
    rw [hR5]
    exact withAll_any nm (.mk kg ng ksg) A r hr3 hsr _ _ wx (by have := hbx.size; omega) (hr.list.up hbx) (HG.out.low (hbx.mono hAw))
  clear hf hl hr hu h5 hL5 hR5
  go_enter Try.func13, Try.ntmps13
  go_wp2_with fail
  rw [← hO1, ← hO2, ← hO3, ← hW]
  clear p1 p2 p3
  refine wp_region_one (by kernel_rfl) [tEq (.pointer (some ⟨w.heap.size, 0, none⟩)), tEq (.string a0), tEq (.pointer (some ⟨w.heap.size, 1, none⟩)), tEq (.agg #[.int .i64 k, .string n, .slice sf kf.length cf]), tEq (.string nm), tEq (.agg #[.int .i64 kg, .string ng, .slice sg ksg.length cg]), tRp A W.heap.size [6] k5 n5 kf5, tEq (.pointer (some ⟨w.heap.size, 4, none⟩)), tEq (.pointer (some ⟨w.heap.size, 4, none⟩)), tEq (.slice al l.length cl), tEq (.string nm), tEq (.agg #[.int .i64 kg, .string ng, .slice sg ksg.length cg]), tFL A W.heap.size [12] L5, tEq (.pointer (some ⟨w.heap.size, 4, none⟩)), tEq (.pointer (some ⟨w.heap.size, 5, none⟩)), tEq (.slice ar r.length cr), tEq (.string nm), tEq (.agg #[.int .i64 kg, .string ng, .slice sg ksg.length cg]), tFL A W.heap.size [18] R5, tSq2 A W.heap.size [12] [18] L5 R5, tPf2 A W.heap.size [6] [12] [18] (.string a0) k5 n5 kf5 L5 R5, tPtr W.heap.size 21 #[.string ⟨#[]⟩, .int .i64 0, .string ⟨#[]⟩, .slice none 0 0, .slice none 0 0, .slice none 0 0, .slice none 0 0] 29] ?_ (by kernel_rfl) (by kernel_rfl) 51 rfl (by kernel_rfl) 22 _ rfl rfl (by kernel_rfl) [] 0 (by decide) (fun w1 _ w2 => Below w1.heap.size w1 w2) (fun _ wx => Below W.heap.size W wx) (Below.refl _ W) (fun _ w1 w2 h1 h2 => below_join h1 h2) (fun w1 t w2 h1 h2 => below_join h1 h2) [] (by kernel_rfl) ?_ ?_ ?_
  · intro p hp
    simp only [List.mem_cons, List.not_mem_nil, or_false] at hp
    rcases hp with rfl | rfl | rfl | rfl | rfl | rfl | rfl | rfl | rfl | rfl | rfl | rfl | rfl | rfl | rfl | rfl | rfl | rfl | rfl | rfl | rfl | rfl
    all_goals first | exact tEq_stays _ | exact tRp_stays _ _ _ _ _ _ | exact tFL_stays _ _ _ _ | exact tSq2_stays _ _ _ _ _ _ | exact tPf2_stays _ _ _ _ _ _ _ _ _ _ _ | exact tPtr_stays _ _ _ _
  · refine ⟨fun _ => tEq_stays _, fun _ => tEq_stays _, fun _ => tEq_stays _, fun _ => tEq_stays _, fun _ => tEq_stays _, fun _ => tEq_stays _, fun _ => tRp_stays _ _ _ _ _ _, fun _ => tEq_stays _, fun _ => tEq_stays _, fun _ => tEq_stays _, fun _ => tEq_stays _, fun _ => tEq_stays _, fun _ => tFL_stays _ _ _ _, fun _ => tEq_stays _, fun _ => tEq_stays _, fun _ => tEq_stays _, fun _ => tEq_stays _, fun _ => tEq_stays _, fun _ => tFL_stays _ _ _ _, fun _ => tSq2_stays _ _ _ _ _ _, fun _ => tPf2_stays _ _ _ _ _ _ _ _ _ _ _, fun _ => tPtr_stays _ _ _ _, trivial⟩
  · refine ⟨?_, ?_, ?_, ?_, ?_, ?_, ?_, ?_, ?_, ?_, ?_, ?_, ?_, ?_, ?_, ?_, ?_, ?_, ?_, ?_, ?_, ?_, trivial⟩
    · intro a wx t _ hB _ hold hdep K hK
      have t3 : a.tmps[3]? = some (.pointer (some ⟨w.heap.size, 0, none⟩)) := hold.2.2 3 rfl
      clear hold hdep
      go_simp
      exact hK.out _ _ rfl (Below.refl _ _)
    · intro a wx t _ hB _ hold hdep K hK
      obtain ⟨v9, t9, p9⟩ := hdep 0 rfl _ 9 rfl rfl
      have e9 : v9 = (.pointer (some ⟨w.heap.size, 0, none⟩)) := p9
      subst e9
      obtain ⟨k0, k1, k2, k3, k4, k5', k6⟩ := blk7 (below_keep hB P1.out)
      clear hold hdep
      go_simp
      exact hK.out _ _ rfl (Below.refl _ _)
    · intro a wx t _ hB _ hold hdep K hK
      have t3 : a.tmps[3]? = some (.pointer (some ⟨w.heap.size, 0, none⟩)) := hold.2.2 3 rfl
      clear hold hdep
      go_simp
      exact hK.out _ _ rfl (Below.refl _ _)
    · intro a wx t _ hB _ hold hdep K hK
      obtain ⟨v11, t11, p11⟩ := hdep 2 rfl _ 11 rfl rfl
      have e11 : v11 = (.pointer (some ⟨w.heap.size, 1, none⟩)) := p11
      subst e11
      obtain ⟨k0, k1, k2, k3, k4, k5', k6⟩ := blk7 (below_keep hB P1.out)
      clear hold hdep
      go_simp
      exact hK.out _ _ rfl (Below.refl _ _)
    · intro a wx t _ hB _ hold hdep K hK
      have t1 : a.tmps[1]? = some (.string nm) := hold.2.2 1 rfl
      clear hold hdep
      go_simp
      exact hK.out _ _ rfl (Below.refl _ _)
    · intro a wx t _ hB _ hold hdep K hK
      have t5 : a.tmps[5]? = some (.pointer (some ⟨w.heap.size + 1, 0, none⟩)) := hold.2.2 5 rfl
      obtain ⟨k0, k1, k2, -⟩ := blk3 (below_keep hB P2.out)
      clear hold hdep
      go_simp
      exact hK.out _ _ rfl (Below.refl _ _)
    · intro a wx t _ hB _ hold hdep K hK
      obtain ⟨v12, t12, p12⟩ := hdep 3 rfl _ 12 rfl rfl
      have e12 : v12 = (.agg #[.int .i64 k, .string n, .slice sf kf.length cf]) := p12
      subst e12
      obtain ⟨v13, t13, p13⟩ := hdep 4 rfl _ 13 rfl rfl
      have e13 : v13 = (.string nm) := p13
      subst e13
      obtain ⟨v14, t14, p14⟩ := hdep 5 rfl _ 14 rfl rfl
      have e14 : v14 = (.agg #[.int .i64 kg, .string ng, .slice sg ksg.length cg]) := p14
      subst e14
      clear hold hdep
      go_simp
      refine (HWI.out wx hB).mono ?_
      rintro e w1 ⟨x, rfl, hr, hb⟩
      obtain ⟨s9, c9, rfl⟩ := slice_shape hr
      have hz := hB.size
      exact hK.out _ _ ⟨_, _, rfl, hr.move fun b _ hp => ⟨rfl, hp.imp id fun h => ⟨by omega, by simp [mark, Nat.not_lt.2 h]⟩⟩⟩ hb
    · intro a wx t _ hB _ hold hdep K hK
      have t3 : a.tmps[3]? = some (.pointer (some ⟨w.heap.size, 0, none⟩)) := hold.2.2 3 rfl
      clear hold hdep
      go_simp
      exact hK.out _ _ rfl (Below.refl _ _)
    · intro a wx t _ hB _ hold hdep K hK
      obtain ⟨v16, t16, p16⟩ := hdep 7 rfl _ 16 rfl rfl
      have e16 : v16 = (.pointer (some ⟨w.heap.size, 4, none⟩)) := p16
      subst e16
      clear hold hdep
      go_simp
      exact hK.out _ _ rfl (Below.refl _ _)
    · intro a wx t _ hB _ hold hdep K hK
      obtain ⟨v17, t17, p17⟩ := hdep 8 rfl _ 17 rfl rfl
      have e17 : v17 = (.pointer (some ⟨w.heap.size, 4, none⟩)) := p17
      subst e17
      obtain ⟨k0, k1, k2, k3, k4, k5', k6⟩ := blk7 (below_keep hB P1.out)
      clear hold hdep
      go_simp
      exact hK.out _ _ rfl (Below.refl _ _)
    · intro a wx t _ hB _ hold hdep K hK
      have t1 : a.tmps[1]? = some (.string nm) := hold.2.2 1 rfl
      clear hold hdep
      go_simp
      exact hK.out _ _ rfl (Below.refl _ _)
    · intro a wx t _ hB _ hold hdep K hK
      have t5 : a.tmps[5]? = some (.pointer (some ⟨w.heap.size + 1, 0, none⟩)) := hold.2.2 5 rfl
      obtain ⟨k0, k1, k2, -⟩ := blk3 (below_keep hB P2.out)
      clear hold hdep
      go_simp
      exact hK.out _ _ rfl (Below.refl _ _)
    · intro a wx t _ hB _ hold hdep K hK
      obtain ⟨v18, t18, p18⟩ := hdep 9 rfl _ 18 rfl rfl
      have e18 : v18 = (.slice al l.length cl) := p18
      subst e18
      obtain ⟨v19, t19, p19⟩ := hdep 10 rfl _ 19 rfl rfl
      have e19 : v19 = (.string nm) := p19
      subst e19
      obtain ⟨v20, t20, p20⟩ := hdep 11 rfl _ 20 rfl rfl
      have e20 : v20 = (.agg #[.int .i64 kg, .string ng, .slice sg ksg.length cg]) := p20
      subst e20
      clear hold hdep
      go_simp
      refine (HWL.out wx hB).mono ?_
      rintro e w1 ⟨x, rfl, hr, hb⟩
      have hr' := hr
      obtain ⟨a9, c9, rfl, -⟩ := hr'
      have hz := hB.size
      exact hK.out _ _ ⟨_, _, _, rfl, hr.move fun b _ hp => ⟨rfl, hp.imp id fun h => ⟨by omega, by simp [mark, Nat.not_lt.2 h]⟩⟩⟩ hb
    · intro a wx t _ hB _ hold hdep K hK
      have t3 : a.tmps[3]? = some (.pointer (some ⟨w.heap.size, 0, none⟩)) := hold.2.2 3 rfl
      clear hold hdep
      go_simp
      exact hK.out _ _ rfl (Below.refl _ _)
    · intro a wx t _ hB _ hold hdep K hK
      obtain ⟨v22, t22, p22⟩ := hdep 13 rfl _ 22 rfl rfl
      have e22 : v22 = (.pointer (some ⟨w.heap.size, 4, none⟩)) := p22
      subst e22
      clear hold hdep
      go_simp
      exact hK.out _ _ rfl (Below.refl _ _)
    · intro a wx t _ hB _ hold hdep K hK
      obtain ⟨v23, t23, p23⟩ := hdep 14 rfl _ 23 rfl rfl
      have e23 : v23 = (.pointer (some ⟨w.heap.size, 5, none⟩)) := p23
      subst e23
      obtain ⟨k0, k1, k2, k3, k4, k5', k6⟩ := blk7 (below_keep hB P1.out)
      clear hold hdep
      go_simp
      exact hK.out _ _ rfl (Below.refl _ _)
    · intro a wx t _ hB _ hold hdep K hK
      have t1 : a.tmps[1]? = some (.string nm) := hold.2.2 1 rfl
      clear hold hdep
      go_simp
      exact hK.out _ _ rfl (Below.refl _ _)
    · intro a wx t _ hB _ hold hdep K hK
      have t5 : a.tmps[5]? = some (.pointer (some ⟨w.heap.size + 1, 0, none⟩)) := hold.2.2 5 rfl
      obtain ⟨k0, k1, k2, -⟩ := blk3 (below_keep hB P2.out)
      clear hold hdep
      go_simp
      exact hK.out _ _ rfl (Below.refl _ _)
    · intro a wx t _ hB _ hold hdep K hK
      obtain ⟨v24, t24, p24⟩ := hdep 15 rfl _ 24 rfl rfl
      have e24 : v24 = (.slice ar r.length cr) := p24
      subst e24
      obtain ⟨v25, t25, p25⟩ := hdep 16 rfl _ 25 rfl rfl
      have e25 : v25 = (.string nm) := p25
      subst e25
      obtain ⟨v26, t26, p26⟩ := hdep 17 rfl _ 26 rfl rfl
      have e26 : v26 = (.agg #[.int .i64 kg, .string ng, .slice sg ksg.length cg]) := p26
      subst e26
      clear hold hdep
      go_simp
      refine (HWR.out wx hB).mono ?_
      rintro e w1 ⟨x, rfl, hr, hb⟩
      have hr' := hr
      obtain ⟨a9, c9, rfl, -⟩ := hr'
      have hz := hB.size
      exact hK.out _ _ ⟨_, _, _, rfl, hr.move fun b _ hp => ⟨rfl, hp.imp id fun h => ⟨by omega, by simp [mark, Nat.not_lt.2 h]⟩⟩⟩ hb
    · intro a wx t _ hB _ hold hdep K hK
      obtain ⟨v21, t21, a1, m1, c1, e21, hf1⟩ := hdep 12 rfl _ 21 rfl rfl
      obtain ⟨v27, t27, a2, m2, c2, e27, hf2⟩ := hdep 18 rfl _ 27 rfl rfl
      subst e21 e27
      have H1 : Hid (FLp _ wx _ _) := hf1
      have H2 : Hid (FLp _ wx _ _) := hf2
      clear hold hdep hf1 hf2
      go_simp
      exact hK.out _ _ ⟨_, _, _, _, _, _, rfl, H1.out.move fun b hb hp => ⟨rfl, hp.up (fun b hb => if_pos hb) hb⟩, H2.out.move fun b hb hp => ⟨rfl, hp.up (fun b hb => if_pos hb) hb⟩⟩ (Below.refl _ _)
    · intro a wx t _ hB _ hold hdep K hK
      obtain ⟨vq, tq, a1, m1, c1, a2, m2, c2, eq', hf1, hf2⟩ := hdep 19 rfl _ 28 rfl rfl
      obtain ⟨vf, tf, s3, c3, ef, hf3⟩ := hdep 6 rfl _ 15 rfl rfl
      subst eq' ef
      obtain ⟨v10, t10, p10⟩ := hdep 1 rfl _ 10 rfl rfl
      have e10 : v10 = (.string a0) := p10
      subst e10
      have H1 : Hid (FLp _ wx _ _) := hf1
      have H2 : Hid (FLp _ wx _ _) := hf2
      have H3 : Hid (Rep wx _ _ _) := hf3
      clear hold hdep hf1 hf2 hf3
      go_simp
      exact hK.out _ _ ⟨_, _, _, _, _, _, _, _, rfl, H3.out.move fun b hb hp => ⟨rfl, hp.up (fun b hb => if_pos hb) hb⟩, H1.out.move fun b hb hp => ⟨rfl, hp.up (fun b hb => if_pos hb) hb⟩, H2.out.move fun b hb hp => ⟨rfl, hp.up (fun b hb => if_pos hb) hb⟩⟩ (Below.refl _ _)
    · intro a wx t _ hB _ hold hdep K hK
      have hz := hB.size
      clear hold hdep
      go_simp
      exact hK.out _ _ ⟨_, rfl, blk_new wx _, hz, by simp [mark]⟩ (below_more (Below.refl _ wx) _)
  · intro a wx t hB hold hgot K hK
    obtain ⟨vb, tb, sf5, cf5, ad, mm, cp, ad1, mm1, cp1, eb, hfF, hfL, hfR⟩ := hgot 20 _ 29 (by omega) (by kernel_rfl) rfl rfl
    obtain ⟨vq, tq, g, eq', hgb, hgS, hgt⟩ := hgot 21 _ 7 (by omega) (by kernel_rfl) rfl rfl
    subst eb eq'
    obtain ⟨tm, df⟩ := a
    obtain ⟨x0, x1, x2, x3, x4, x5, x6, x7, x8, x9, x10, x11, x12, x13, x14, x15, x16, x17, x18, x19, x20, x21, x22, x23, x24, x25, x26, x27, x28, x29, x30, x31, x32, x33, x34, x35, x36, x37, x38, x39, x40, x41, x42, x43, x44, x45, x46, x47, x48, x49, x50, htm⟩ := frame51 tm hold.1
    subst htm
    obtain rfl : df = [] := hold.2.1
    obtain rfl : x0 = _ := Option.some.inj (hold.2.2 0 rfl)
    obtain rfl : x1 = _ := Option.some.inj (hold.2.2 1 rfl)
    obtain rfl : x2 = _ := Option.some.inj (hold.2.2 2 rfl)
    obtain rfl : x3 = _ := Option.some.inj (hold.2.2 3 rfl)
    obtain rfl : x4 = _ := Option.some.inj (hold.2.2 4 rfl)
    obtain rfl : x5 = _ := Option.some.inj (hold.2.2 5 rfl)
    obtain rfl : x6 = _ := Option.some.inj (hold.2.2 6 rfl)
    obtain rfl : x8 = _ := Option.some.inj (hold.2.2 8 rfl)
    obtain rfl : x30 = _ := Option.some.inj (hold.2.2 30 rfl)
    obtain rfl : x31 = _ := Option.some.inj (hold.2.2 31 rfl)
    obtain rfl : x32 = _ := Option.some.inj (hold.2.2 32 rfl)
    obtain rfl : x33 = _ := Option.some.inj (hold.2.2 33 rfl)
    obtain rfl : x34 = _ := Option.some.inj (hold.2.2 34 rfl)
    obtain rfl : x35 = _ := Option.some.inj (hold.2.2 35 rfl)
    obtain rfl : x36 = _ := Option.some.inj (hold.2.2 36 rfl)
    obtain rfl : x37 = _ := Option.some.inj (hold.2.2 37 rfl)
    obtain rfl : x38 = _ := Option.some.inj (hold.2.2 38 rfl)
    obtain rfl : x39 = _ := Option.some.inj (hold.2.2 39 rfl)
    obtain rfl : x40 = _ := Option.some.inj (hold.2.2 40 rfl)
    obtain rfl : x41 = _ := Option.some.inj (hold.2.2 41 rfl)
    obtain rfl : x42 = _ := Option.some.inj (hold.2.2 42 rfl)
    obtain rfl : x43 = _ := Option.some.inj (hold.2.2 43 rfl)
    obtain rfl : x44 = _ := Option.some.inj (hold.2.2 44 rfl)
    obtain rfl : x45 = _ := Option.some.inj (hold.2.2 45 rfl)
    obtain rfl : x46 = _ := Option.some.inj (hold.2.2 46 rfl)
    obtain rfl : x47 = _ := Option.some.inj (hold.2.2 47 rfl)
    obtain rfl : x48 = _ := Option.some.inj (hold.2.2 48 rfl)
    obtain rfl : x49 = _ := Option.some.inj (hold.2.2 49 rfl)
    obtain rfl : x50 = _ := Option.some.inj (hold.2.2 50 rfl)
    obtain rfl : x29 = _ := Option.some.inj tb
    obtain rfl : x7 = _ := Option.some.inj tq
    have HQ : Hid (wx.heap[g]? = some _) := hgb
    obtain ⟨j0, j1, j2, j3, j4, j5, j6⟩ := blk7 hgb
    obtain ⟨m0, m1, m2, m3, m4, m5, m6⟩ := blk7f hgb
    have hfree : ∀ ns : List Nat, 21 ∉ ns → ∀ b, tP A W.heap.size t ns b → b < A ∨ (W.heap.size ≤ b ∧ b ≠ g) := fun ns hn b hp => hp.imp id fun h => ⟨h.1, fun e => by
      rw [e, hgt] at h
      exact hn h.2⟩
    have HFF : Hid (Rep wx (fun b => b < A ∨ (W.heap.size ≤ b ∧ b ≠ g)) (.mk k5 n5 kf5) _) := hfF.move fun b _ hp => ⟨rfl, hfree _ (by decide) b hp⟩
    have HFL : Hid (FLp (fun b => b < A ∨ (W.heap.size ≤ b ∧ b ≠ g)) wx (.slice ad mm cp) L5) := hfL.move fun b _ hp => ⟨rfl, hfree _ (by decide) b hp⟩
    have HFR : Hid (FLp (fun b => b < A ∨ (W.heap.size ≤ b ∧ b ≠ g)) wx (.slice ad1 mm1 cp1) R5) := hfR.move fun b _ hp => ⟨rfl, hfree _ (by decide) b hp⟩
    clear hold hgot hfF hfL hfR hfree tb tq hgb hgt
    go_simp
    refine hK.out _ _ ?_
    clear hK K
    have f7 := put7_blk HQ.out (.string a0) (.int .i64 k5) (.string n5) (.slice sf5 kf5.length cf5) (.slice ad mm cp) (.slice ad1 mm1 cp1) (.slice none 0 0)
    have b7 := put7_below (b := g) hB hgS (.string a0) (.int .i64 k5) (.string n5) (.slice sf5 kf5.length cf5) (.slice ad mm cp) (.slice ad1 mm1 cp1) (.slice none 0 0)
    have oth : ∀ b, b < A ∨ (W.heap.size ≤ b ∧ b ≠ g) → (put7 wx g (.string a0) (.int .i64 k5) (.string n5) (.slice sf5 kf5.length cf5) (.slice ad mm cp) (.slice ad1 mm1 cp1) (.slice none 0 0)).heap[b]? = wx.heap[b]? := fun b hp => put7_other (by have := HA.out; omega) _ _ _ _ _ _ _
    have hFF := HFF.out.move (w' := put7 wx g (.string a0) (.int .i64 k5) (.string n5) (.slice sf5 kf5.length cf5) (.slice ad mm cp) (.slice ad1 mm1 cp1) (.slice none 0 0)) (ok' := fun b => b < A ∨ (W.heap.size ≤ b ∧ b ≠ g)) fun b _ hp => ⟨oth b hp, hp⟩
    have hFL := HFL.out.move (w' := put7 wx g (.string a0) (.int .i64 k5) (.string n5) (.slice sf5 kf5.length cf5) (.slice ad mm cp) (.slice ad1 mm1 cp1) (.slice none 0 0)) (P' := fun b => b < A ∨ (W.heap.size ≤ b ∧ b ≠ g)) fun b _ hp => ⟨oth b hp, hp⟩
    have hFR := HFR.out.move (w' := put7 wx g (.string a0) (.int .i64 k5) (.string n5) (.slice sf5 kf5.length cf5) (.slice ad mm cp) (.slice ad1 mm1 cp1) (.slice none 0 0)) (P' := fun b => b < A ∨ (W.heap.size ≤ b ∧ b ≠ g)) fun b _ hp => ⟨oth b hp, hp⟩
    show Exit.then _ _ _ _ (put7 wx g _ _ _ _ _ _ _)
    clear oth
    generalize put7 wx g _ _ _ _ _ _ _ = F at *
    have HF5 : Hid (Rep F _ (.mk k5 n5 kf5) _) := hFF
    have HL5 : Hid (FLp _ F (.slice ad mm cp) L5) := hFL
    have HR5 : Hid (FLp _ F (.slice ad1 mm1 cp1) R5) := hFR
    have HB7 : Hid (Below W.heap.size W F) := b7
    clear j0 j1 j2 j3 j4 j5 j6 m0 m1 m2 m3 m4 m5 m6 hFF hFL hFR HFF HFL HFR HQ hB wx
    have zF := HB7.out.size
    have zg := lt_of_block f7
    have HHK : Hid (∀ (i : Nat) (k : Pf), ks[i]? = some k → GoodS k) := hgk
    have HIH : Hid (InP nm (.mk kg ng ksg) A m) := ih
    have HM : Hid (Pf.sizes ks < m) := by
      show _ < _
      rw [Pf.size] at hm
      omega
    have HKS : Hid (ks ≠ [] → ∃ b off, sl = some ⟨b, off, none⟩ ∧ b < A ∧ PRps (· < A) w b off ks) := hks
    have hkI : (ks.length : Int) ≤ 1200 := by omega
    obtain ⟨i1, hi1, hz10, hz11, hz12⟩ := infoPf
    have HI1 : Hid (Try.prog.info? 29 = some i1 ∧ i1.zero = some (.agg #[.string ⟨#[]⟩, .int .i64 0, .string ⟨#[]⟩, .slice none 0 0, .slice none 0 0, .slice none 0 0, .slice none 0 0]) ∧ i1.size = 7 ∧ i1.bytes = 136) := ⟨hi1, hz10, hz11, hz12⟩
    have HF7' : Hid (F.heap[g]? = some _) := f7
    obtain ⟨-, -, -, -, -, -, c6⟩ := blk7 (below_keep HB7.out P1.out)
    clear hi1 hz10 hz11 hz12 hks ih hm hgk hgood HWL HWR HWI hl3 hr3 hsl hsr hsf hk3 b7
    go_wp2_with fail
    clear c6
    go_loopg [8] ks.length (fun gg c wr => ∃ i ad2 cp2, i ≤ ks.length ∧ gg = ks.length - i ∧ c = .int .i64 (i : Nat) ∧ Hid (Below W.heap.size W wr) ∧ F.heap.size ≤ wr.heap.size ∧ wr.heap[g]? = some (.cells #[.string a0, .int .i64 k5, .string n5, .slice sf5 kf5.length cf5, .slice ad mm cp, .slice ad1 mm1 cp1, .slice ad2 i cp2] 29 (0, 0)) ∧ Hid (∀ b, b < F.heap.size → b ≠ g → wr.heap[b]? = F.heap[b]?) ∧ Hid (KF (fun b => b < A ∨ F.heap.size ≤ b) F.heap.size wr ad2 cp2 (Pf.subs nm (.mk kg ng ksg) (ks.take i))))
    case atStart =>
      refine ⟨0, none, 0, by omega, by omega, rfl, HB7, Nat.le_refl _, f7, fun _ _ _ => rfl, ?_⟩
      show KF _ _ _ _ _ _
      rw [List.take_zero, Pf.subs]
      exact KF.nil
    case round =>
      obtain ⟨i, ad2, cp2, hile, hg, rfl, HBr, hFr, q0, HFr, HK⟩ := hrel
      have HG2 : Hid (gk = ks.length - i) := hg
      have HQ0 : Hid (wr.heap[g]? = some _) := q0
      clear hg f7
      have hBwr : Below w.heap.size w wr := below_join B0 HBr.out
      have HBW : Hid (Below w.heap.size w wr) := hBwr
      have Q1 : Hid (wr.heap[w.heap.size]? = some _) := below_keep HBr.out P1.out
      have Q2 : Hid (wr.heap[w.heap.size + 1]? = some _) := below_keep HBr.out P2.out
      have Q3 : Hid (wr.heap[w.heap.size + 1 + 1]? = some _) := below_keep HBr.out P3.out
      have hzw := hBwr.size
      have hgr := lt_of_block q0
      have hti : (Pf.subs nm (.mk kg ng ksg) (ks.take i)).length = i := by rw [subs_len, List.length_take]; omega
      have HTI : Hid ((Pf.subs nm (.mk kg ng ksg) (ks.take i)).length = i) := hti
      obtain ⟨-, -, -, -, -, -, c6⟩ := blk7 Q1.out
      by_cases hlt : i < ks.length
      · obtain ⟨⟨ka, ⟨kk, kn, kkf⟩, kl, kr, kks⟩, hki⟩ : ∃ f, ks[i]? = some f := ⟨_, List.getElem?_eq_getElem hlt⟩
        have hltI : (i : Int) < (ks.length : Int) := by omega
        obtain ⟨b, off, hsl, hbA, hrs⟩ := HKS.out (fun e => by rw [e] at hlt; simp at hlt)
        subst hsl
        have hrs' : PRps (· < A) wr b off ks := hrs.move hbA fun q hq hp => ⟨hBwr.block q hq, hp⟩
        obtain ⟨sf2, cf2, al2, cl2, ar2, cr2, sl2, cap2, y0, y1, y2, y3, y4, y5, y6, hrep2⟩ := hrs'.at i ka kk kn kkf kl kr kks hki
        have HY : Hid (wr.cell? ⟨b, off + i * 7, none⟩ = some _ ∧ wr.cell? ⟨b, off + i * 7 + 1, none⟩ = some _ ∧ wr.cell? ⟨b, off + i * 7 + 2, none⟩ = some _ ∧ wr.cell? ⟨b, off + i * 7 + 3, none⟩ = some _ ∧ wr.cell? ⟨b, off + i * 7 + 4, none⟩ = some _ ∧ wr.cell? ⟨b, off + i * 7 + 5, none⟩ = some _ ∧ wr.cell? ⟨b, off + i * 7 + 6, none⟩ = some _) := ⟨y0, y1, y2, y3, y4, y5, y6⟩
        have hlc : ((i : Nat) : Int) < ((cap : Nat) : Int) := by omega
        have HSZ : Hid ((Pf.mk ka (.mk kk kn kkf) kl kr kks).size < m) := Nat.lt_of_le_of_lt (pfsizes_get hki) HM.out
        have HGK : Hid (GoodS (.mk ka (.mk kk kn kkf) kl kr kks)) := HHK.out i _ hki
        have HRK : Hid (PRp (· < A) wr (.mk ka (.mk kk kn kkf) kl kr kks) _) := hrep2
        obtain ⟨k6, n6, kf6, L6, R6, K6, h6⟩ : ∃ k' n' ks' L R K, Pf.sub nm (.mk kg ng ksg) (.mk ka (.mk kk kn kkf) kl kr kks) = .mk ka (.mk k' n' ks') L R K := by
          rw [Pf.sub]
          cases putF nm (.mk kg ng ksg) (.mk kk kn kkf)
          exact ⟨_, _, _, _, _, _, rfl⟩
        have HT : Hid (Pf.subs nm (.mk kg ng ksg) (ks.take (i + 1)) = Pf.subs nm (.mk kg ng ksg) (ks.take i) ++ [.mk ka (.mk k6 n6 kf6) L6 R6 K6]) := by
          show _ = _
          rw [subs_map, subs_map, List.take_add_one, hki, List.map_append]
          show _ ++ [Pf.sub _ _ _] = _
          rw [h6]
        have H6 : Hid (Pf.sub nm (.mk kg ng ksg) (.mk ka (.mk kk kn kkf) kl kr kks) = .mk ka (.mk k6 n6 kf6) L6 R6 K6) := h6
        clear h6
        have HOW : Hid (∀ q, (Value.slice ad2 i cp2).ownBlock = some q → F.heap.size ≤ q ∧ q < wr.heap.size) := fun q e => by
          obtain ⟨cs, ho, -⟩ := HK.out
          rw [hti] at ho
          exact ho.lt q e
        have hbF : b < F.heap.size := by have := HA.out; omega
        have HBF : Hid (b < F.heap.size) := hbF
        clear hki hrs hrs' hrep2 y0 y1 y2 y3 y4 y5 y6 HKS hti hbA hbF
        go_wp2_with fail
        clear c6
        refine wp_region_one (by kernel_rfl) [tEq (.pointer (some ⟨g, 6, none⟩)), tKF (fun b => b < A ∨ F.heap.size ≤ b) F.heap.size ad2 cp2 i (Pf.subs nm (.mk kg ng ksg) (ks.take i)), tEq (.pointer (some ⟨w.heap.size, 6, none⟩)), tEq (.slice (some ⟨b, off, none⟩) ks.length cap), tEq (.int .i64 (i : Nat)), tEq (.pointer (some ⟨b, off + i * 7, none⟩)), tEq (.agg #[.string ka, .int .i64 kk, .string kn, .slice sf2 kkf.length cf2, .slice al2 kl.length cl2, .slice ar2 kr.length cr2, .slice sl2 kks.length cap2]), tEq (.string nm), tEq (.agg #[.int .i64 kg, .string ng, .slice sg ksg.length cg]), tKid A wr.heap.size 9 (.mk ka (.mk k6 n6 kf6) L6 R6 K6), tNew A wr.heap.size 9 29 (.mk ka (.mk k6 n6 kf6) L6 R6 K6), tMade (fun b => b < A ∨ F.heap.size ≤ b) F.heap.size (i + 1) (Pf.subs nm (.mk kg ng ksg) (ks.take (i + 1))), tEq (.pointer (some ⟨g, 6, none⟩))] ?_ (by kernel_rfl) (by kernel_rfl) 51 rfl (by kernel_rfl) 13 _ rfl rfl (by kernel_rfl) [1, 10] 11 (by decide) (fun w1 _ w2 => w1.grownBy w2 (Value.slice ad2 i cp2).ownBlock) (fun s wx => wr.grownBy wx (Value.slice ad2 i cp2).ownBlock ∧ (s = false → Below wr.heap.size wr wx)) ⟨⟨rfl, rfl, rfl, Nat.le_refl _, fun _ _ _ => rfl⟩, fun _ => Below.refl _ wr⟩ (fun _ w1 w2 h1 h2 => ⟨⟨h2.os.trans h1.1.os, h2.tape.trans h1.1.tape, h2.output.trans h1.1.output, Nat.le_trans h1.1.size h2.size, fun q hq hn => (h2.block q (Nat.lt_of_lt_of_le hq h1.1.size)).trans (h1.1.block q hq hn)⟩, fun e => below_join (h1.2 e) h2⟩) (fun w1 _ w2 h1 h2 => ⟨⟨h2.os.trans h1.1.os, h2.tape.trans h1.1.tape, h2.output.trans h1.1.output, Nat.le_trans h1.1.size h2.size, fun q hq hn => (h2.block q (Nat.lt_of_lt_of_le hq h1.1.size) hn).trans (h1.1.block q hq hn)⟩, fun e => by cases e⟩) [] (by kernel_rfl) ?_ ?_ ?_
        · intro p hp
          simp only [List.mem_cons, List.not_mem_nil, or_false] at hp
          rcases hp with rfl | rfl | rfl | rfl | rfl | rfl | rfl | rfl | rfl | rfl | rfl | rfl | rfl
          all_goals first | exact tEq_stays _ | exact tKF_stays _ _ _ _ _ _ | exact tKid_stays _ _ _ _ | exact tNew_stays _ _ _ _ _ | exact tMade_stays _ _ _ _
        · refine ⟨fun _ _ _ _ _ _ h _ _ => h, fun h => ?_, fun _ _ _ _ _ _ h _ _ => h, fun _ _ _ _ _ _ h _ _ => h, fun _ _ _ _ _ _ h _ _ => h, fun _ _ _ _ _ _ h _ _ => h, fun _ _ _ _ _ _ h _ _ => h, fun _ _ _ _ _ _ h _ _ => h, fun _ _ _ _ _ _ h _ _ => h, fun _ => tKid_live _ _ _ _ _ fun q e => by have := HOW.out q e; have := HA.out; exact ⟨by omega, by omega⟩, fun h => ?_, fun h => ?_, fun _ _ _ _ _ _ h _ _ => h, trivial⟩
          all_goals exact Bool.noConfusion (((by kernel_rfl : (_ : Bool) = true)).symm.trans h)
        · refine ⟨?_, ?_, ?_, ?_, ?_, ?_, ?_, ?_, ?_, ?_, ?_, ?_, ?_, trivial⟩
          · intro a wx t s hB hs hold hdep K hK
            have t7 : a.tmps[7]? = some (.pointer (some ⟨g, 0, none⟩)) := hold.2.2 7 rfl
            clear hold hdep hs hB
            go_simp
            exact hK.out _ _ rfl (Below.refl _ _)
          · intro a wx t s hB hs hold hdep K hK
            obtain ⟨v37, t37, p37⟩ := hdep 0 rfl _ 37 rfl rfl
            have e37 : v37 = (.pointer (some ⟨g, 6, none⟩)) := p37
            subst e37
            have hb := hB.2 (hs (by kernel_rfl))
            obtain ⟨-, -, -, -, -, -, k6'⟩ := blk7 (below_keep hb HQ0.out)
            have HX : Hid (KF _ _ wx _ _ _) := HK.out.up hb
            clear hold hdep hs hB hb
            go_simp
            exact hK.out _ _ ⟨rfl, HX.out⟩ (Below.refl _ _)
          · intro a wx t s hB hs hold hdep K hK
            have t3 : a.tmps[3]? = some (.pointer (some ⟨w.heap.size, 0, none⟩)) := hold.2.2 3 rfl
            clear hold hdep hs hB
            go_simp
            exact hK.out _ _ rfl (Below.refl _ _)
          · intro a wx t s hB hs hold hdep K hK
            obtain ⟨v39, t39, p39⟩ := hdep 2 rfl _ 39 rfl rfl
            have e39 : v39 = (.pointer (some ⟨w.heap.size, 6, none⟩)) := p39
            subst e39
            have kp : ∀ q, q < F.heap.size → wx.heap[q]? = wr.heap[q]? := fun q hq => hB.1.block q (by omega) fun e => by have := HOW.out q e.symm; omega
            obtain ⟨-, -, -, -, -, -, k6'⟩ := blk7 ((kp _ (by omega)).trans Q1.out)
            clear kp
            clear hold hdep hs hB
            go_simp
            exact hK.out _ _ rfl (Below.refl _ _)
          · intro a wx t s hB hs hold hdep K hK
            have t8 : a.tmps[8]? = some (.int .i64 (i : Nat)) := hold.2.2 8 rfl
            clear hold hdep hs hB
            go_simp
            exact hK.out _ _ rfl (Below.refl _ _)
          · intro a wx t s hB hs hold hdep K hK
            obtain ⟨v40, t40, p40⟩ := hdep 3 rfl _ 40 rfl rfl
            have e40 : v40 = (.slice (some ⟨b, off, none⟩) ks.length cap) := p40
            subst e40
            obtain ⟨v41, t41, p41⟩ := hdep 4 rfl _ 41 rfl rfl
            have e41 : v41 = (.int .i64 (i : Nat)) := p41
            subst e41
            clear hold hdep hs hB
            go_simp
            exact hK.out _ _ rfl (Below.refl _ _)
          · intro a wx t s hB hs hold hdep K hK
            obtain ⟨v42, t42, p42⟩ := hdep 5 rfl _ 42 rfl rfl
            have e42 : v42 = (.pointer (some ⟨b, off + i * 7, none⟩)) := p42
            subst e42
            have kp : ∀ q, q < F.heap.size → wx.heap[q]? = wr.heap[q]? := fun q hq => hB.1.block q (by omega) fun e => by have := HOW.out q e.symm; omega
            obtain ⟨y0, y1, y2, y3, y4, y5, y6⟩ := HY.out
            have c := fun (o : Nat) (u : Value) (h : wr.cell? ⟨b, o, none⟩ = some u) => (cell_of_block (a := ⟨b, o, none⟩) (kp b HBF.out)).trans h
            have k0 := c _ _ y0
            have k1 := c _ _ y1
            have k2 := c _ _ y2
            have k3 := c _ _ y3
            have k4 := c _ _ y4
            have k5' := c _ _ y5
            have k6' := c _ _ y6
            clear kp c y0 y1 y2 y3 y4 y5 y6
            clear hold hdep hs hB
            go_simp
            exact hK.out _ _ rfl (Below.refl _ _)
          · intro a wx t s hB hs hold hdep K hK
            have t1 : a.tmps[1]? = some (.string nm) := hold.2.2 1 rfl
            clear hold hdep hs hB
            go_simp
            exact hK.out _ _ rfl (Below.refl _ _)
          · intro a wx t s hB hs hold hdep K hK
            have t5 : a.tmps[5]? = some (.pointer (some ⟨w.heap.size + 1, 0, none⟩)) := hold.2.2 5 rfl
            have kp : ∀ q, q < F.heap.size → wx.heap[q]? = wr.heap[q]? := fun q hq => hB.1.block q (by omega) fun e => by have := HOW.out q e.symm; omega
            obtain ⟨k0, k1, k2, -⟩ := blk3 ((kp _ (by omega)).trans Q2.out)
            clear kp
            clear hold hdep hs hB
            go_simp
            exact hK.out _ _ rfl (Below.refl _ _)
          · intro a wx t s hB hs hold hdep K hK
            obtain ⟨v43, t43, p43⟩ := hdep 6 rfl _ 43 rfl rfl
            have e43 : v43 = (.agg #[.string ka, .int .i64 kk, .string kn, .slice sf2 kkf.length cf2, .slice al2 kl.length cl2, .slice ar2 kr.length cr2, .slice sl2 kks.length cap2]) := p43
            subst e43
            obtain ⟨v44, t44, p44⟩ := hdep 7 rfl _ 44 rfl rfl
            have e44 : v44 = (.string nm) := p44
            subst e44
            obtain ⟨v45, t45, p45⟩ := hdep 8 rfl _ 45 rfl rfl
            have e45 : v45 = (.agg #[.int .i64 kg, .string ng, .slice sg ksg.length cg]) := p45
            subst e45
            have kp : ∀ q, q < F.heap.size → wx.heap[q]? = wr.heap[q]? := fun q hq => hB.1.block q (by omega) fun e => by have := HOW.out q e.symm; omega
            have hzx := hB.1.size
            have h1 : PRp (· < A) wx (.mk ka (.mk kk kn kkf) kl kr kks) _ := HRK.out.move fun q hq hp => ⟨kp q (by have := HA.out; omega), hp⟩
            have h2 : Rep wx (· < A) (.mk kg ng ksg) _ := (HG.out.low (HBW.out.mono hAw)).move fun q hq hp => ⟨kp q (by have := HA.out; omega), hp⟩
            have hc := HIH.out _ _ _ wx HSZ.out HGK.out (by have := HA.out; omega) h1 h2
            rw [H6.out] at hc
            clear h2
            have HC : Hid (Calls Try.prog 13 _ wx _) := hc
            clear hold hdep hs hB kp h1 hc
            go_simp
            refine HC.out.mono ?_
            rintro e w1 ⟨x, rfl, hx, hb⟩
            exact hK.out _ _ (PRp.move hx fun q _ hp => ⟨rfl, hp.imp id fun h => ⟨by omega, by simp [mark, Nat.not_lt.2 h]⟩⟩) hb
          · intro a wx t s hB hs hold hdep K hK
            obtain ⟨vk, tk, pk⟩ := hdep 9 rfl _ 46 rfl rfl
            have pk' : PRp (tP A wr.heap.size t [9]) wx _ vk := pk
            obtain ⟨sf3, cf3, al3, cl3, ar3, cr3, sl3, cap3, ek, -⟩ := pk'.parts
            subst ek
            have HP : Hid (PRp _ wx _ _) := pk'
            clear hold hdep hs hB pk pk'
            go_simp
            exact hK.out _ _ ⟨_, _, _, _, _, _, _, _, rfl, blk_new wx _, PRp.move (P := tP A wr.heap.size t [9]) HP.out fun q hq hp => ⟨Below.heap_alloc _ _ _ hq, hp.up (fun b hb => if_pos hb) hq⟩⟩ (below_more (Below.refl _ wx) _)
          · intro a wx t s hB hs hold hdep K hK
            obtain ⟨vo, tO, eo, cs, hown, hpq⟩ := hdep 1 rfl _ 38 rfl rfl
            obtain ⟨vn, tn, g9, y0, y1, y2, y3, y4, y5, y6, en, hg9, hp9⟩ := hdep 10 rfl _ 47 rfl rfl
            subst eo en
            rw [HTI.out] at hown hpq
            have hzx := hB.1.size
            have hq : PQ (fun q => (q < A ∨ F.heap.size ≤ q) ∧ (Value.slice ad2 i cp2).ownBlock ≠ some q) wx [y0, y1, y2, y3, y4, y5, y6] [(.mk ka (.mk k6 n6 kf6) L6 R6 K6)] := ⟨hp9.move fun q _ hp => ⟨rfl, hp.imp id fun h => by omega, fun e => by have := HOW.out q e; have := HA.out; rcases hp with hp | hp <;> omega⟩, trivial⟩
            have hone := hq.one
            obtain ⟨hi1, hz10, hz11, hz12⟩ := HI1.out
            clear hold hdep hs
            refine step_append_lies _ rfl _ _ 27 rfl F.heap.size 29 i1 (.agg #[.string ⟨#[]⟩, .int .i64 0, .string ⟨#[]⟩, .slice none 0 0, .slice none 0 0, .slice none 0 0, .slice none 0 0]) 7 136 Try.underlying27 hi1 hz10 hz11 hz12 rfl (by decide) _ _ _ (eval_slot tO) hown ⟨g9, 0, none⟩ 1 1 [y0, y1, y2, y3, y4, y5, y6] (eval_slot tn) rfl (World.news_of_block hg9) hone (by omega) (by unfold maxLen; omega) (by omega) (by omega) _ rfl ?_
            intro g3 cp3 w3 hown3 hgrow hat hlt3
            have hkf := KF.app (P := fun q => q < A ∨ F.heap.size ≤ q) HTI.out (j := 1) rfl hown hpq hq hown3 hgrow hat
            rw [← HT.out] at hkf
            exact hK.out _ _ ⟨_, _, rfl, hkf⟩ hgrow
          · intro a wx t s hB hs hold hdep K hK
            have t7 : a.tmps[7]? = some (.pointer (some ⟨g, 0, none⟩)) := hold.2.2 7 rfl
            clear hold hdep hs hB
            go_simp
            exact hK.out _ _ rfl (Below.refl _ _)
        · intro a wx t hB hold hgot K hK
          obtain ⟨vm, tmm, g3, cp3, em, hkf⟩ := hgot 11 _ 48 (by omega) (by kernel_rfl) rfl rfl
          obtain ⟨vp, tpp, pp⟩ := hgot 12 _ 49 (by omega) (by kernel_rfl) rfl rfl
          have ep : vp = (.pointer (some ⟨g, 6, none⟩)) := pp
          subst em ep
          obtain ⟨tm, df⟩ := a
          obtain ⟨z0, z1, z2, z3, z4, z5, z6, z7, z8, z9, z10, z11, z12, z13, z14, z15, z16, z17, z18, z19, z20, z21, z22, z23, z24, z25, z26, z27, z28, z29, z30, z31, z32, z33, z34, z35, z36, z37, z38, z39, z40, z41, z42, z43, z44, z45, z46, z47, z48, z49, z50, htm⟩ := frame51 tm hold.1
          subst htm
          obtain rfl : df = [] := hold.2.1
          obtain rfl : z0 = _ := Option.some.inj (hold.2.2 0 rfl)
          obtain rfl : z1 = _ := Option.some.inj (hold.2.2 1 rfl)
          obtain rfl : z2 = _ := Option.some.inj (hold.2.2 2 rfl)
          obtain rfl : z3 = _ := Option.some.inj (hold.2.2 3 rfl)
          obtain rfl : z4 = _ := Option.some.inj (hold.2.2 4 rfl)
          obtain rfl : z5 = _ := Option.some.inj (hold.2.2 5 rfl)
          obtain rfl : z6 = _ := Option.some.inj (hold.2.2 6 rfl)
          obtain rfl : z7 = _ := Option.some.inj (hold.2.2 7 rfl)
          obtain rfl : z8 = _ := Option.some.inj (hold.2.2 8 rfl)
          obtain rfl : z9 = _ := Option.some.inj (hold.2.2 9 rfl)
          obtain rfl : z10 = _ := Option.some.inj (hold.2.2 10 rfl)
          obtain rfl : z11 = _ := Option.some.inj (hold.2.2 11 rfl)
          obtain rfl : z12 = _ := Option.some.inj (hold.2.2 12 rfl)
          obtain rfl : z13 = _ := Option.some.inj (hold.2.2 13 rfl)
          obtain rfl : z14 = _ := Option.some.inj (hold.2.2 14 rfl)
          obtain rfl : z15 = _ := Option.some.inj (hold.2.2 15 rfl)
          obtain rfl : z16 = _ := Option.some.inj (hold.2.2 16 rfl)
          obtain rfl : z17 = _ := Option.some.inj (hold.2.2 17 rfl)
          obtain rfl : z18 = _ := Option.some.inj (hold.2.2 18 rfl)
          obtain rfl : z19 = _ := Option.some.inj (hold.2.2 19 rfl)
          obtain rfl : z20 = _ := Option.some.inj (hold.2.2 20 rfl)
          obtain rfl : z21 = _ := Option.some.inj (hold.2.2 21 rfl)
          obtain rfl : z22 = _ := Option.some.inj (hold.2.2 22 rfl)
          obtain rfl : z23 = _ := Option.some.inj (hold.2.2 23 rfl)
          obtain rfl : z24 = _ := Option.some.inj (hold.2.2 24 rfl)
          obtain rfl : z25 = _ := Option.some.inj (hold.2.2 25 rfl)
          obtain rfl : z26 = _ := Option.some.inj (hold.2.2 26 rfl)
          obtain rfl : z27 = _ := Option.some.inj (hold.2.2 27 rfl)
          obtain rfl : z28 = _ := Option.some.inj (hold.2.2 28 rfl)
          obtain rfl : z29 = _ := Option.some.inj (hold.2.2 29 rfl)
          obtain rfl : z30 = _ := Option.some.inj (hold.2.2 30 rfl)
          obtain rfl : z31 = _ := Option.some.inj (hold.2.2 31 rfl)
          obtain rfl : z32 = _ := Option.some.inj (hold.2.2 32 rfl)
          obtain rfl : z33 = _ := Option.some.inj (hold.2.2 33 rfl)
          obtain rfl : z34 = _ := Option.some.inj (hold.2.2 34 rfl)
          obtain rfl : z35 = _ := Option.some.inj (hold.2.2 35 rfl)
          obtain rfl : z36 = _ := Option.some.inj (hold.2.2 36 rfl)
          obtain rfl : z50 = _ := Option.some.inj (hold.2.2 50 rfl)
          obtain rfl : z48 = _ := Option.some.inj tmm
          obtain rfl : z49 = _ := Option.some.inj tpp
          have kp : ∀ q, q < F.heap.size → wx.heap[q]? = wr.heap[q]? := fun q hq => hB.1.block q (by omega) fun e => by have := HOW.out q e.symm; omega
          have hgx := (kp g zg).trans HQ0.out
          have HQX : Hid (wx.heap[g]? = some _) := hgx
          have HKX : Hid (KF _ _ wx _ _ _) := hkf
          have HKP : Hid (∀ q, q < F.heap.size → wx.heap[q]? = wr.heap[q]?) := kp
          have HGW : Hid (wr.grownBy wx _) := hB.1
          obtain ⟨j0, j1, j2, j3, j4, j5, j6⟩ := blk7 hgx
          obtain ⟨m0, m1, m2, m3, m4, m5, m6⟩ := blk7f hgx
          clear hold hgot hkf tmm tpp pp hgx kp hB
          go_simp
          refine hK.out _ _ ?_
          clear hK K j0 j1 j2 j3 j4 j5 j6 m0 m1 m2 m3 m4 m5 m6
          have e1 : (wx.setCell ⟨g, 6, none⟩ (.slice (some ⟨g3, 0, none⟩) (i + 1) cp3)).heap[g]? = some (.cells #[.string a0, .int .i64 k5, .string n5, .slice sf5 kf5.length cf5, .slice ad mm cp, .slice ad1 mm1 cp1, .slice (some ⟨g3, 0, none⟩) (i + 1) cp3] 29 (0, 0)) := by
            simp [World.setCell, Array.getElem?_modify, HQX.out]
          have e2 : ∀ q, q ≠ g → (wx.setCell ⟨g, 6, none⟩ (.slice (some ⟨g3, 0, none⟩) (i + 1) cp3)).heap[q]? = wx.heap[q]? := fun q hq => Below.heap_setCell _ _ _ _ hq
          have e3 : (wx.setCell ⟨g, 6, none⟩ (.slice (some ⟨g3, 0, none⟩) (i + 1) cp3)).heap.size = wx.heap.size := by simp [World.setCell]
          have e4 : Below W.heap.size W (wx.setCell ⟨g, 6, none⟩ (.slice (some ⟨g3, 0, none⟩) (i + 1) cp3)) := by
            have hb : Below W.heap.size W wx := ⟨HGW.out.os.trans HBr.out.os, HGW.out.tape.trans HBr.out.tape, HGW.out.output.trans HBr.out.output, Nat.le_trans HBr.out.size HGW.out.size, fun j hj => (HKP.out j (by omega)).trans (HBr.out.block j hj)⟩
            exact hb.setCell hgS _
          have e5 : KF (fun b => b < A ∨ F.heap.size ≤ b) F.heap.size (wx.setCell ⟨g, 6, none⟩ (.slice (some ⟨g3, 0, none⟩) (i + 1) cp3)) (some ⟨g3, 0, none⟩) cp3 (Pf.subs nm (.mk kg ng ksg) (ks.take (i + 1))) := HKX.out.same fun q hq _ => e2 q (by have := HA.out; rcases hq with (hq | hq) | hq <;> omega)
          generalize wx.setCell ⟨g, 6, none⟩ (.slice (some ⟨g3, 0, none⟩) (i + 1) cp3) = G at *
          have E5 : Hid (KF _ _ G _ _ _) := e5
          have E4 : Hid (Below W.heap.size W G) := e4
          have E2 : Hid (∀ q, q < F.heap.size → q ≠ g → G.heap[q]? = F.heap[q]?) := fun q h1 h2 => (e2 q h2).trans ((HKP.out q h1).trans (HFr.out q h1 h2))
          have hzG : F.heap.size ≤ G.heap.size := by have := HGW.out.size; omega
          have E1 : Hid (G.heap[g]? = some _) := e1
          clear e1 e2 e4 e5
          go_wp2_with fail
          go_roundg (ks.length - (i + 1))
          case measure => have := HG2.out; omega
          case rel => exact ⟨i + 1, some ⟨g3, 0, none⟩, cp3, by omega, rfl, by go_num, E4, hzG, E1.out, E2, E5⟩
      · obtain rfl : i = ks.length := by omega
        have hge : ¬ (ks.length : Int) < (ks.length : Int) := by omega
        have HKE : Hid (KF (fun b => b < A ∨ F.heap.size ≤ b) F.heap.size wr ad2 cp2 (Pf.subs nm (.mk kg ng ksg) (ks))) := by
          have := HK.out
          rw [List.take_length] at this
          exact this
        obtain ⟨o0, o1, o2, o3, o4, o5, o6⟩ := blk7 q0
        obtain ⟨r0, r1, r2, r3, r4, r5, r6⟩ := blk7 Q3.out
        obtain ⟨m0, m1, m2, m3, m4, m5, m6⟩ := blk7f Q3.out
        have hdg : ¬ g = w.heap.size + 1 + 1 := by omega
        have hdg' : ¬ w.heap.size + 1 + 1 = g := by omega
        clear HK HKS q0
        go_wp2_with fail
        have f7 := put7_blk Q3.out (.string a0) (.int .i64 k5) (.string n5) (.slice sf5 kf5.length cf5) (.slice ad mm cp) (.slice ad1 mm1 cp1) (.slice ad2 ks.length cp2)
        have b7 := put7_below (b := w.heap.size + 1 + 1) HBW.out (by omega) (.string a0) (.int .i64 k5) (.string n5) (.slice sf5 kf5.length cf5) (.slice ad mm cp) (.slice ad1 mm1 cp1) (.slice ad2 ks.length cp2)
        have o7 : ∀ q, q ≠ w.heap.size + 1 + 1 → (put7 wr (w.heap.size + 1 + 1) (.string a0) (.int .i64 k5) (.string n5) (.slice sf5 kf5.length cf5) (.slice ad mm cp) (.slice ad1 mm1 cp1) (.slice ad2 ks.length cp2)).heap[q]? = wr.heap[q]? := fun q hq => put7_other hq _ _ _ _ _ _ _
        unfold put7 at f7 b7 o7
        generalize World.setCell _ _ _ = G at f7 b7 o7 ⊢
        clear o0 o1 o2 o3 o4 o5 o6 r0 r1 r2 r3 r4 r5 r6 m0 m1 m2 m3 m4 m5 m6 c6
        obtain ⟨k0, k1, k2, k3, k4, k5', k6'⟩ := blk7 f7
        refine bodyPost_ret (v := .agg #[.string a0, .int .i64 k5, .string n5, .slice sf5 kf5.length cf5, .slice ad mm cp, .slice ad1 mm1 cp1, .slice ad2 ks.length cp2]) (by simp [results, Try.results13, go_sem, k0, k1, k2, k3, k4, k5', k6']) rfl ⟨_, rfl, ?_, b7⟩
        obtain ⟨h1, h2, h3⟩ := HKE.out.rep (fun b hb => Or.inr hb)
        have hAW := HA.out
        rw [subs_len] at h1
        rw [H5.out, PRp.def]
        refine ⟨_, _, _, _, _, ad2, cp2, by rw [subs_len], ha, HF5.out.move fun q hq hp => ⟨(o7 q (by omega)).trans (HFr.out q hq (by omega)), by omega⟩, HL5.out.move fun q hq hp => ⟨(o7 q (by omega)).trans (HFr.out q hq (by omega)), by omega⟩, HR5.out.move fun q hq hp => ⟨(o7 q (by omega)).trans (HFr.out q hq (by omega)), by omega⟩, by rw [subs_len]; exact h1, h2, fun hne => ?_⟩
        obtain ⟨b', off', e, hPb, hps⟩ := h3 hne
        exact ⟨b', off', e, by omega, hps.move hPb fun q _ hp => ⟨o7 q (by omega), by omega⟩⟩
theorem instead_all (nm : ByteArray) (f : Fm) (A : Nat) : ∀ m, InP nm f A m
  | 0 => fun _ _ _ _ h => absurd h (Nat.not_lt_zero _)
  | m + 1 => instead_step nm f A m (instead_all nm f A m)
end Go.Proofs.Ytpmogojpdigbmac
