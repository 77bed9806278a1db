/- Texts of one proof, one behind the other: CW5, CW6. -/
import Derived.Test.YtlmjnglcdgkomacB37
import Derived.Test.YtlmjnglcdgkomacB39
/- Walks: everywhere. -/
namespace Go.Proofs.Ytlmjnglcdgkomac
open Go.RowKit

/-- Not too many at a place, and no formula too broad. -/
inductive GoodP : Pf → Prop
  | mk (a : ByteArray) (f : Fm) (l r : List Fm) (ks : List Pf) (h1 : l.length ≤ 300) (h2 : ∀ g ∈ l, Slim g) (h3 : ks.length ≤ 1200) (h4 : ∀ (i : Nat) (k : Pf), ks[i]? = some k → GoodP k) : GoodP (.mk a f l r ks)
theorem GoodP.parts {a : ByteArray} {f : Fm} {l r : List Fm} {ks : List Pf} (h : GoodP (.mk a f l r ks)) : l.length ≤ 300 ∧ (∀ g ∈ l, Slim g) ∧ ks.length ≤ 1200 ∧ ∀ (i : Nat) (k : Pf), ks[i]? = some k → GoodP k := by
  cases h with | mk _ _ _ _ _ h1 h2 h3 h4 => exact ⟨h1, h2, h3, h4⟩
def EvP (f : Fm) (A : Nat) (m : Nat) : Prop := ∀ (p : Pf) (v u : Value) (w : World), p.size < m → GoodP p → A ≤ w.heap.size → PRp (· < A) w p v → Rep w (· < A) f u →
  Calls Try.prog 10 #[v, u] w fun e w' => ∃ x, e = .returned x ∧ PRp (fun b => b < A ∨ w.heap.size ≤ b) w' (p.ev f) x ∧ Below w.heap.size w w'
theorem tOwn_of {A S n : Nat} {l : List Fm} {wx w1 : World} {t : Nat → Nat} {ad : Option Addr} {cp : Nat} (h : KO wx.heap.size w1 ad cp l) (hS : S ≤ wx.heap.size) : KP (tP A S (mark wx t n) [n]) S w1 ad cp l := by
  obtain ⟨cs, ⟨h1, h2⟩, h3⟩ := h; (refine ⟨cs, ⟨h1, ?_⟩, h3.move fun b hb1 hb2 => ⟨rfl, Or.inr ⟨by omega, by simp [mark, Nat.not_lt.2 hb2.1]⟩, hb2.2⟩⟩)
  rcases h2 with h2 | ⟨g, cap, cur, hv, hg, hh, r⟩
  · exact Or.inl h2
  · exact Or.inr ⟨g, cap, cur, hv, by omega, hh, r⟩
theorem eval_tmp {a : Act} {n : Nat} {v : Value} (h : a.tmps[n]? = some v) : a.eval (.tmp n) = v := by
  simp [Act.eval, h]

set_option maxRecDepth 10000 in
set_option maxHeartbeats 8000000 in
theorem every_step (f : Fm) (A : Nat) (m : Nat) (ih : EvP f A m) : EvP f A (m + 1) := by
  intro p v u w hm hgood hAw hv hu; obtain ⟨a0, ⟨k, n, kf⟩, l, r, ks⟩ := p; obtain ⟨kg, ng, ksg⟩ := f; obtain ⟨hl3, hsl, hk3, hgk⟩ := hgood.parts; have HV : Hid (PRp (· < A) w (.mk a0 (.mk k n kf) l r ks) v) := hv; obtain ⟨sf, cf, al, cl, ar, cr, sl, cap, rfl, ha, hf, hl, hr, hkc, hcm, hks⟩ := hv.parts; obtain ⟨sg, cg, rfl⟩ := slice_shape hu; have HG : Hid (Rep w (· < A) (.mk kg ng ksg) _) := hu; have HL3 : Hid (l.length ≤ 300) := hl3; obtain ⟨i0, hi, hz0, hz1, hz2⟩ := infoFormula; obtain ⟨O1, hO1⟩ : ∃ O, O = Obj.cells #[.string a0, .int .i64 k, .string n, .slice sf kf.length cf, .slice al l.length cl, .slice ar r.length cr, .slice sl ks.length cap] 29 (0, 0) := ⟨_, rfl⟩; obtain ⟨O2, hO2⟩ : ∃ O, O = Obj.cells #[.int .i64 kg, .string ng, .slice sg ksg.length cg] 24 (0, 0) := ⟨_, rfl⟩; obtain ⟨O3, hO3⟩ : ∃ O, O = Obj.cells #[.string ⟨#[]⟩, .int .i64 0, .string ⟨#[]⟩, .slice none 0 0, .slice none 0 0, .slice none 0 0, .slice none 0 0] 29 (0, 0) := ⟨_, rfl⟩; obtain ⟨W, hW⟩ : ∃ W, W = ((w.alloc O1).alloc O2).alloc O3 := ⟨_, rfl⟩; (have B0 : Below w.heap.size w W := by rw [hW]; exact below_more (below_more (below_more (Below.refl _ w) _) _) _); (have z0 : W.heap.size = w.heap.size + 3 := by rw [hW]; simp); (have HA : Hid (A ≤ W.heap.size) := by show _ ≤ _; omega); (have p1 : W.heap[w.heap.size]? = some O1 := by rw [hW]; exact alloc_keep (alloc_keep (blk_new w O1) _) _); (have p2 : W.heap[w.heap.size + 1]? = some O2 := by rw [hW]; exact alloc_keep (blk_two w O1 O2) _); (have p3 : W.heap[w.heap.size + 1 + 1]? = some O3 := by rw [hW]; have := blk_new ((w.alloc O1).alloc O2) O3; simpa using this); rw [hO1] at p1; rw [hO2] at p2; rw [hO3] at p3; have P1 : Hid (W.heap[w.heap.size]? = some _) := p1; have P2 : Hid (W.heap[w.heap.size + 1]? = some _) := p2; have P3 : Hid (W.heap[w.heap.size + 1 + 1]? = some _) := p3; (have HOL : Hid (∀ wx, Below W.heap.size W wx → Calls Try.prog 20 #[.slice al l.length cl] wx fun e w' => ∃ ad cp, e = .returned (.slice ad l.length cp) ∧ KO wx.heap.size w' ad cp l ∧ Below wx.heap.size wx w') := fun wx hb => ownList_any l hl3 hsl _ wx (hl.list.up (below_join B0 hb))); have HF0 : Hid (Rep w (· < A) (.mk k n kf) _) := hf; have HR0 : Hid (FLp (· < A) w (.slice ar r.length cr) r) := hr; clear hf hl hr hu
  go_enter Try.func10, Try.ntmps10
  go_wp2_with fail; rw [← hO1, ← hO2, ← hO3, ← hW]; clear p1 p2 p3; (refine wp_region_one (by kernel_rfl) [tEq (.pointer (some ⟨w.heap.size, 0, none⟩)), tEq (.string a0), tEq (.pointer (some ⟨w.heap.size, 1, none⟩)), tEq (.agg #[.int .i64 k, .string n, .slice sf kf.length cf]), tEq (.pointer (some ⟨w.heap.size, 4, none⟩)), tEq (.pointer (some ⟨w.heap.size, 4, none⟩)), tEq (.slice al l.length cl), tOwn A W.heap.size 7 l, tEq (.agg #[.int .i64 kg, .string ng, .slice sg ksg.length cg]), tBlk W.heap.size 9 #[.int .i64 kg, .string ng, .slice sg ksg.length cg] 24, tFL A W.heap.size [7, 10] (l ++ [.mk kg ng ksg]), tEq (.pointer (some ⟨w.heap.size, 4, none⟩)), tEq (.pointer (some ⟨w.heap.size, 5, none⟩)), tEq (.slice ar r.length cr), tSq A W.heap.size [7, 10] (l ++ [.mk kg ng ksg]) (.slice ar r.length cr), tPf A W.heap.size [7, 10] (l ++ [.mk kg ng ksg]) (.string a0) (.int .i64 k) (.string n) (.slice sf kf.length cf) (.slice ar r.length cr), tPtr W.heap.size 16 #[.string ⟨#[]⟩, .int .i64 0, .string ⟨#[]⟩, .slice none 0 0, .slice none 0 0, .slice none 0 0, .slice none 0 0] 29] ?_ (by kernel_rfl) (by kernel_rfl) 43 rfl (by kernel_rfl) 17 _ rfl rfl (by kernel_rfl) [7, 9] 10 (by decide) (tW W.heap.size 7) (fun _ wx => Below W.heap.size W wx) (Below.refl _ W) (fun _ w1 w2 h1 h2 => below_join h1 h2) (fun w1 t w2 h1 h2 => ⟨h2.1.trans h1.os, h2.2.1.trans h1.tape, h2.2.2.1.trans h1.output, Nat.le_trans h1.size h2.2.2.2.1, fun j hj => (h2.2.2.2.2 j (Nat.lt_of_lt_of_le hj h1.size) (Or.inl hj)).trans (h1.block j hj)⟩) [14, 15] (by kernel_rfl) ?_ ?_ ?_)
  · intro p hp
    simp only [List.mem_cons, List.not_mem_nil, or_false] at hp
    rcases hp with rfl | rfl | rfl | rfl | rfl | rfl | rfl | rfl | rfl | rfl | rfl | rfl | rfl | rfl | rfl | rfl | rfl
    all_goals first | exact tEq_stays _ | exact tOwn_stays _ _ _ _ | exact tBlk_stays _ _ _ _ | exact tFL_stays _ _ _ _ | exact tSq_stays _ _ _ _ _ | exact tPf_stays _ _ _ _ _ _ _ _ _ | exact tPtr_stays _ _ _ _
  · refine ⟨fun _ _ _ _ _ _ h _ _ => h, fun _ _ _ _ _ _ h _ _ => h, fun _ _ _ _ _ _ h _ _ => h, fun _ _ _ _ _ _ h _ _ => h, fun _ _ _ _ _ _ h _ _ => h, fun _ _ _ _ _ _ h _ _ => h, fun _ _ _ _ _ _ h _ _ => h, fun h => ?_, fun _ _ _ _ _ _ h _ _ => h, fun h => ?_, fun h => ?_, fun _ _ _ _ _ _ h _ _ => h, fun _ _ _ _ _ _ h _ _ => h, fun _ _ _ _ _ _ h _ _ => h, fun h => ?_, fun h => ?_, fun _ => tPtr_live _ _ _ _ (by decide) _ _, trivial⟩
    all_goals exact Bool.noConfusion (((by kernel_rfl : (_ : Bool) = true)).symm.trans h)
  · refine ⟨?_, ?_, ?_, ?_, ?_, ?_, ?_, ?_, ?_, ?_, ?_, ?_, ?_, ?_, ?_, ?_, ?_, trivial⟩
    · intro a wx t _ hB _ hold hdep K hK
      have t2 : a.tmps[2]? = some (.pointer (some ⟨w.heap.size, 0, none⟩)) := hold.2.2 2 rfl; clear hold hdep; go_simp; exact hK.out _ _ rfl (Below.refl _ _)
    · intro a wx t _ hB _ hold hdep K hK
      obtain ⟨v7, t7, p7⟩ := hdep 0 rfl _ 7 rfl rfl; have e7 : v7 = (.pointer (some ⟨w.heap.size, 0, none⟩)) := p7; subst e7; obtain ⟨k0, k1, k2, k3, k4, k5, k6⟩ := blk7 (below_keep hB P1.out); clear hold hdep; go_simp; exact hK.out _ _ rfl (Below.refl _ _)
    · intro a wx t _ hB _ hold hdep K hK
      have t2 : a.tmps[2]? = some (.pointer (some ⟨w.heap.size, 0, none⟩)) := hold.2.2 2 rfl; clear hold hdep; go_simp; exact hK.out _ _ rfl (Below.refl _ _)
    · intro a wx t _ hB _ hold hdep K hK
      obtain ⟨v9, t9, p9⟩ := hdep 2 rfl _ 9 rfl rfl; have e9 : v9 = (.pointer (some ⟨w.heap.size, 1, none⟩)) := p9; subst e9; obtain ⟨k0, k1, k2, k3, k4, k5, k6⟩ := blk7 (below_keep hB P1.out); clear hold hdep; go_simp; exact hK.out _ _ rfl (Below.refl _ _)
    · intro a wx t _ hB _ hold hdep K hK
      have t2 : a.tmps[2]? = some (.pointer (some ⟨w.heap.size, 0, none⟩)) := hold.2.2 2 rfl; clear hold hdep; go_simp; exact hK.out _ _ rfl (Below.refl _ _)
    · intro a wx t _ hB _ hold hdep K hK
      obtain ⟨v11, t11, p11⟩ := hdep 4 rfl _ 11 rfl rfl; have e11 : v11 = (.pointer (some ⟨w.heap.size, 4, none⟩)) := p11; subst e11; clear hold hdep; go_simp; exact hK.out _ _ rfl (Below.refl _ _)
    · intro a wx t _ hB _ hold hdep K hK
      obtain ⟨v12, t12, p12⟩ := hdep 5 rfl _ 12 rfl rfl; have e12 : v12 = (.pointer (some ⟨w.heap.size, 4, none⟩)) := p12; subst e12; obtain ⟨k0, k1, k2, k3, k4, k5, k6⟩ := blk7 (below_keep hB P1.out); clear hold hdep; go_simp; exact hK.out _ _ rfl (Below.refl _ _)
    · intro a wx t _ hB _ hold hdep K hK
      obtain ⟨v13, t13, p13⟩ := hdep 6 rfl _ 13 rfl rfl; have e13 : v13 = (.slice al l.length cl) := p13; subst e13; clear hold hdep; go_simp; refine (HOL.out wx hB).mono ?_; rintro e w1 ⟨ad, cp, rfl, hko, hb⟩
      exact hK.out _ _ ⟨ad, cp, rfl, tOwn_of hko hB.size, fun g e => by
        obtain ⟨cs, ho, -⟩ := hko; have := (ho.lt g e).1
        simp [mark, Nat.not_lt.2 this]⟩ hb
    · intro a wx t _ hB _ hold hdep K hK
      have t3 : a.tmps[3]? = some (.pointer (some ⟨w.heap.size + 1, 0, none⟩)) := hold.2.2 3 rfl; obtain ⟨k0, k1, k2, -⟩ := blk3 (below_keep hB P2.out); clear hold hdep; go_simp; exact hK.out _ _ rfl (Below.refl _ _)
    · intro a wx t _ hB _ hold hdep K hK
      obtain ⟨v15, t15, p15⟩ := hdep 8 rfl _ 15 rfl rfl; have e15 : v15 = (.agg #[.int .i64 kg, .string ng, .slice sg ksg.length cg]) := p15; subst e15; have hz := hB.size; clear hold hdep; go_simp; (exact hK.out _ _ ⟨_, rfl, blk_new wx _, hz, by simp [mark]⟩ (below_more (Below.refl _ wx) _))
    · intro a wx t _ hB _ hold hdep K hK
      obtain ⟨v14, t14, ad, cp, e14, hkp, hg⟩ := hdep 7 rfl _ 14 rfl rfl; obtain ⟨v16, t16, g, e16, hgb, hgS, hgt⟩ := hdep 9 rfl _ 16 rfl rfl; subst e14 e16; obtain ⟨cs, hown, hlq⟩ := hkp; have hz := hB.size; have hl3 := HL3.out; clear hold hdep; (refine step_append_lies _ rfl _ _ 22 rfl W.heap.size 24 i0 (.agg #[.int .i64 0, .string ⟨#[]⟩, .slice none 0 0]) 3 48 Try.underlying22 hi hz0 hz1 hz2 rfl (by decide) _ _ _ (eval_tmp t14) hown ⟨g, 0, none⟩ 1 1 [.int .i64 kg, .string ng, .slice sg ksg.length cg] (eval_tmp t16) rfl ?_ ?_ (by omega) (by unfold maxLen; omega) (by omega) hz _ rfl ?_)
      · exact World.news_of_block hgb
      · intro u hu
        simp at hu
        rcases hu with rfl | rfl | rfl <;> rfl
      intro g3 cp3 w3 hown3 hgrow hat hlt3; obtain ⟨q1, q2⟩ := tapp (x := 10) (f := .mk kg ng ksg) HA.out hown hlq hg (HG.out.low ((below_join B0 hB).mono hAw)) hown3 hgrow hat; exact hK.out _ _ q1 q2
    · intro a wx t _ hB _ hold hdep K hK
      have t2 : a.tmps[2]? = some (.pointer (some ⟨w.heap.size, 0, none⟩)) := hold.2.2 2 rfl; clear hold hdep; go_simp; exact hK.out _ _ rfl (Below.refl _ _)
    · intro a wx t _ hB _ hold hdep K hK
      obtain ⟨v18, t18, p18⟩ := hdep 11 rfl _ 18 rfl rfl; have e18 : v18 = (.pointer (some ⟨w.heap.size, 4, none⟩)) := p18; subst e18; clear hold hdep; go_simp; exact hK.out _ _ rfl (Below.refl _ _)
    · intro a wx t _ hB _ hold hdep K hK
      obtain ⟨v19, t19, p19⟩ := hdep 12 rfl _ 19 rfl rfl; have e19 : v19 = (.pointer (some ⟨w.heap.size, 5, none⟩)) := p19; subst e19; obtain ⟨k0, k1, k2, k3, k4, k5, k6⟩ := blk7 (below_keep hB P1.out); clear hold hdep; go_simp; exact hK.out _ _ rfl (Below.refl _ _)
    · intro a wx t _ hB _ hold hdep K hK
      obtain ⟨v17, t17, ad, m, cp, e17, hfl⟩ := hdep 10 rfl _ 17 rfl rfl; subst e17; obtain ⟨v20, t20, p20⟩ := hdep 13 rfl _ 20 rfl rfl; have e20 : v20 = (.slice ar r.length cr) := p20; subst e20; have HF : Hid (FLp _ wx _ _) := hfl; clear hold hdep hfl; go_simp; (exact hK.out _ _ ⟨_, _, _, rfl, HF.out.move fun b hb hp => ⟨rfl, hp.up (fun b hb => if_pos hb) hb⟩⟩ (Below.refl _ _))
    · intro a wx t _ hB _ hold hdep K hK
      obtain ⟨v21, t21, ad, m, cp, e21, hfl⟩ := hdep 14 rfl _ 21 rfl rfl; subst e21; obtain ⟨v8, t8, p8⟩ := hdep 1 rfl _ 8 rfl rfl; have e8 : v8 = (.string a0) := p8; subst e8; obtain ⟨v10, t10, p10⟩ := hdep 3 rfl _ 10 rfl rfl; have e10 : v10 = (.agg #[.int .i64 k, .string n, .slice sf kf.length cf]) := p10; subst e10; have HF : Hid (FLp _ wx _ _) := hfl; clear hold hdep hfl; go_simp; (exact hK.out _ _ ⟨_, _, _, rfl, HF.out.move fun b hb hp => ⟨rfl, hp.up (fun b hb => if_pos hb) hb⟩⟩ (Below.refl _ _))
    · intro a wx t _ hB _ hold hdep K hK
      have hz := hB.size; clear hold hdep; go_simp; (exact hK.out _ _ ⟨_, rfl, blk_new wx _, hz, by simp [mark]⟩ (below_more (Below.refl _ wx) _))
  · intro a wx t hB hold hgot K hK
    (obtain ⟨v22, t22, ad, mm, cp, e22, hfl⟩ := hgot 15 _ 22 (by omega) (by kernel_rfl) rfl rfl); (obtain ⟨v5, t5, g, e5, hgb, hgS, hgt⟩ := hgot 16 _ 5 (by omega) (by kernel_rfl) rfl rfl); subst e22 e5; obtain ⟨tm, df⟩ := a; obtain ⟨x0, x1, x2, x3, x4, x5, x6, x7, x8, x9, x10, x11, x12, x13, x14, x15, x16, x17, x18, x19, x20, x21, x22, x23, x24, x25, x26, x27, x28, x29, x30, x31, x32, x33, x34, x35, x36, x37, x38, x39, x40, x41, x42, htm⟩ := frame43 tm hold.1; have htm' : (⟨tm, df⟩ : Act).tmps = tm := rfl; subst htm; obtain rfl : df = [] := hold.2.1; obtain rfl : x0 = _ := Option.some.inj (hold.2.2 0 rfl); obtain rfl : x1 = _ := Option.some.inj (hold.2.2 1 rfl); obtain rfl : x2 = _ := Option.some.inj (hold.2.2 2 rfl); obtain rfl : x3 = _ := Option.some.inj (hold.2.2 3 rfl); obtain rfl : x4 = _ := Option.some.inj (hold.2.2 4 rfl); obtain rfl : x6 = _ := Option.some.inj (hold.2.2 6 rfl); obtain rfl : x23 = _ := Option.some.inj (hold.2.2 23 rfl); obtain rfl : x24 = _ := Option.some.inj (hold.2.2 24 rfl); obtain rfl : x25 = _ := Option.some.inj (hold.2.2 25 rfl); obtain rfl : x26 = _ := Option.some.inj (hold.2.2 26 rfl); obtain rfl : x27 = _ := Option.some.inj (hold.2.2 27 rfl); obtain rfl : x28 = _ := Option.some.inj (hold.2.2 28 rfl); obtain rfl : x29 = _ := Option.some.inj (hold.2.2 29 rfl); obtain rfl : x30 = _ := Option.some.inj (hold.2.2 30 rfl); obtain rfl : x31 = _ := Option.some.inj (hold.2.2 31 rfl); obtain rfl : x32 = _ := Option.some.inj (hold.2.2 32 rfl); obtain rfl : x33 = _ := Option.some.inj (hold.2.2 33 rfl); obtain rfl : x34 = _ := Option.some.inj (hold.2.2 34 rfl); obtain rfl : x35 = _ := Option.some.inj (hold.2.2 35 rfl); obtain rfl : x36 = _ := Option.some.inj (hold.2.2 36 rfl); obtain rfl : x37 = _ := Option.some.inj (hold.2.2 37 rfl); obtain rfl : x38 = _ := Option.some.inj (hold.2.2 38 rfl); obtain rfl : x39 = _ := Option.some.inj (hold.2.2 39 rfl); obtain rfl : x40 = _ := Option.some.inj (hold.2.2 40 rfl); obtain rfl : x41 = _ := Option.some.inj (hold.2.2 41 rfl); obtain rfl : x42 = _ := Option.some.inj (hold.2.2 42 rfl); obtain rfl : x22 = _ := Option.some.inj t22; obtain rfl : x5 = _ := Option.some.inj t5; have HQ : Hid (wx.heap[g]? = some _) := hgb; obtain ⟨j0, j1, j2, j3, j4, j5, j6⟩ := blk7 hgb; obtain ⟨m0, m1, m2, m3, m4, m5, m6⟩ := blk7f hgb
    have HFx : Hid (FLp (fun b => b < A ∨ (W.heap.size ≤ b ∧ b ≠ g)) wx (.slice ad mm cp) (l ++ [.mk kg ng ksg])) := hfl.move fun b _ hp => ⟨rfl, hp.imp id fun h => ⟨h.1, fun e => by
      rw [e, hgt] at h
      simp at h⟩⟩
    clear hold hgot hfl t22 t5 htm' hgb hgt; go_simp; refine hK.out _ _ ?_; clear hK K; have f7 := put7_blk HQ.out (.string a0) (.int .i64 k) (.string n) (.slice sf kf.length cf) (.slice ad mm cp) (.slice ar r.length cr) (.slice none 0 0); have b7 := put7_below (b := g) hB hgS (.string a0) (.int .i64 k) (.string n) (.slice sf kf.length cf) (.slice ad mm cp) (.slice ar r.length cr) (.slice none 0 0); (have hF7 := HFx.out.move (w' := put7 wx g (.string a0) (.int .i64 k) (.string n) (.slice sf kf.length cf) (.slice ad mm cp) (.slice ar r.length cr) (.slice none 0 0)) (P' := fun b => b < A ∨ (W.heap.size ≤ b ∧ b ≠ g)) fun b _ hp => ⟨put7_other (by have := HA.out; omega) _ _ _ _ _ _ _, hp⟩); show Exit.then _ _ _ _ (put7 wx g _ _ _ _ _ _ _); generalize put7 wx g _ _ _ _ _ _ _ = F at *; have HF7 : Hid (FLp _ F (.slice ad mm cp) (l ++ [.mk kg ng ksg])) := hF7; have HB7 : Hid (Below W.heap.size W F) := b7; clear j0 j1 j2 j3 j4 j5 j6 m0 m1 m2 m3 m4 m5 m6 hF7 HFx HQ hB wx; have zF := HB7.out.size; have zg := lt_of_block f7; have HHK : Hid (∀ (i : Nat) (k : Pf), ks[i]? = some k → GoodP k) := hgk; have HIH : Hid (EvP (.mk kg ng ksg) A m) := ih
    have HM : Hid (Pf.sizes ks < m) := by
      show _ < _; rw [Pf.size] at hm; omega
    have HKS : Hid (ks ≠ [] → ∃ b off, sl = some ⟨b, off, none⟩ ∧ b < A ∧ PRps (· < A) w b off ks) := hks; (have hkI : (ks.length : Int) ≤ 1200 := by omega); obtain ⟨i1, hi1, hz10, hz11, hz12⟩ := infoPf; have HI1 : Hid (Try.prog.info? 29 = some i1 ∧ i1.zero = some (.agg #[.string ⟨#[]⟩, .int .i64 0, .string ⟨#[]⟩, .slice none 0 0, .slice none 0 0, .slice none 0 0, .slice none 0 0]) ∧ i1.size = 7 ∧ i1.bytes = 136) := ⟨hi1, hz10, hz11, hz12⟩; have HF7' : Hid (F.heap[g]? = some _) := f7; obtain ⟨-, -, -, -, -, -, c6⟩ := blk7 (below_keep HB7.out P1.out); clear hi1 hz10 hz11 hz12 hks ih hm hgk hgood HOL hl3 hsl hk3 hi hz0 hz1 hz2 b7; go_wp2_with fail; clear c6
    go_loopg [6] ks.length (fun gg c wr => ∃ i ad2 cp2, i ≤ ks.length ∧ gg = ks.length - i ∧ c = .int .i64 (i : Nat) ∧ Hid (Below W.heap.size W wr) ∧ F.heap.size ≤ wr.heap.size ∧ wr.heap[g]? = some (.cells #[.string a0, .int .i64 k, .string n, .slice sf kf.length cf, .slice ad mm cp, .slice ar r.length cr, .slice ad2 i cp2] 29 (0, 0)) ∧ Hid (∀ b, b < F.heap.size → b ≠ g → wr.heap[b]? = F.heap[b]?) ∧ Hid (KF (fun b => b < A ∨ F.heap.size ≤ b) F.heap.size wr ad2 cp2 (Pf.evs (.mk kg ng ksg) (ks.take i))))
    case atStart =>
      (refine ⟨0, none, 0, by omega, by omega, rfl, HB7, Nat.le_refl _, f7, fun _ _ _ => rfl, ?_⟩); show KF _ _ _ _ _ _; rw [List.take_zero, Pf.evs]; exact KF.nil
    case round =>
      obtain ⟨i, ad2, cp2, hile, hg, rfl, HBr, hFr, q0, HFr, HK⟩ := hrel; have HG2 : Hid (gk = ks.length - i) := hg; have HQ0 : Hid (wr.heap[g]? = some _) := q0; clear hg f7; have hBwr : Below w.heap.size w wr := below_join B0 HBr.out; have HBW : Hid (Below w.heap.size w wr) := hBwr; have Q1 : Hid (wr.heap[w.heap.size]? = some _) := below_keep HBr.out P1.out; have Q2 : Hid (wr.heap[w.heap.size + 1]? = some _) := below_keep HBr.out P2.out; have Q3 : Hid (wr.heap[w.heap.size + 1 + 1]? = some _) := below_keep HBr.out P3.out; have hzw := hBwr.size; have hgr := lt_of_block q0; (have hti : (Pf.evs (.mk kg ng ksg) (ks.take i)).length = i := by rw [evs_len, List.length_take]; omega); have HTI : Hid ((Pf.evs (.mk kg ng ksg) (ks.take i)).length = i) := hti; obtain ⟨-, -, -, -, -, -, c6⟩ := blk7 Q1.out; by_cases hlt : i < ks.length
      · obtain ⟨⟨ka, ⟨kk, kn, kkf⟩, kl, kr, kks⟩, hki⟩ : ∃ f, ks[i]? = some f := ⟨_, List.getElem?_eq_getElem hlt⟩
        (have hltI : (i : Int) < (ks.length : Int) := by omega); (obtain ⟨b, off, hsl, hbA, hrs⟩ := HKS.out (fun e => by rw [e] at hlt; simp at hlt)); subst hsl; (have hrs' : PRps (· < A) wr b off ks := hrs.move hbA fun q hq hp => ⟨hBwr.block q hq, hp⟩); obtain ⟨sf2, cf2, al2, cl2, ar2, cr2, sl2, cap2, y0, y1, y2, y3, y4, y5, y6, hrep2⟩ := hrs'.at i ka kk kn kkf kl kr kks hki; have HY : Hid (wr.cell? ⟨b, off + i * 7, none⟩ = some _ ∧ wr.cell? ⟨b, off + i * 7 + 1, none⟩ = some _ ∧ wr.cell? ⟨b, off + i * 7 + 2, none⟩ = some _ ∧ wr.cell? ⟨b, off + i * 7 + 3, none⟩ = some _ ∧ wr.cell? ⟨b, off + i * 7 + 4, none⟩ = some _ ∧ wr.cell? ⟨b, off + i * 7 + 5, none⟩ = some _ ∧ wr.cell? ⟨b, off + i * 7 + 6, none⟩ = some _) := ⟨y0, y1, y2, y3, y4, y5, y6⟩; (have hlc : ((i : Nat) : Int) < ((cap : Nat) : Int) := by omega); have HSZ : Hid ((Pf.mk ka (.mk kk kn kkf) kl kr kks).size < m) := Nat.lt_of_le_of_lt (pfsizes_get hki) HM.out; have HGK : Hid (GoodP (.mk ka (.mk kk kn kkf) kl kr kks)) := HHK.out i _ hki; have HRK : Hid (PRp (· < A) wr (.mk ka (.mk kk kn kkf) kl kr kks) _) := hrep2
        have HT : Hid (Pf.evs (.mk kg ng ksg) (ks.take (i + 1)) = Pf.evs (.mk kg ng ksg) (ks.take i) ++ [.mk ka (.mk kk kn kkf) (kl ++ [.mk kg ng ksg]) kr (Pf.evs (.mk kg ng ksg) kks)]) := by
          show _ = _; rw [evs_map, evs_map, List.take_add_one, hki, List.map_append]; show _ ++ [Pf.ev _ _] = _; rw [Pf.ev]
        have HOW : Hid (∀ q, (Value.slice ad2 i cp2).ownBlock = some q → F.heap.size ≤ q ∧ q < wr.heap.size) := fun q e => by
          obtain ⟨cs, ho, -⟩ := HK.out; rw [hti] at ho; exact ho.lt q e
        (have hbF : b < F.heap.size := by have := HA.out; omega); have HBF : Hid (b < F.heap.size) := hbF; clear hki hrs hrs' hrep2 y0 y1 y2 y3 y4 y5 y6 HKS hti hbA hbF; go_wp2_with fail; clear c6; (refine wp_region_one (by kernel_rfl) [tEq (.pointer (some ⟨g, 6, none⟩)), tKF (fun b => b < A ∨ F.heap.size ≤ b) F.heap.size ad2 cp2 i (Pf.evs (.mk kg ng ksg) (ks.take i)), tEq (.pointer (some ⟨w.heap.size, 6, none⟩)), tEq (.slice (some ⟨b, off, none⟩) ks.length cap), tEq (.int .i64 (i : Nat)), tEq (.pointer (some ⟨b, off + i * 7, none⟩)), tEq (.agg #[.string ka, .int .i64 kk, .string kn, .slice sf2 kkf.length cf2, .slice al2 kl.length cl2, .slice ar2 kr.length cr2, .slice sl2 kks.length cap2]), tEq (.agg #[.int .i64 kg, .string ng, .slice sg ksg.length cg]), tKid A wr.heap.size 8 (.mk ka (.mk kk kn kkf) (kl ++ [.mk kg ng ksg]) kr (Pf.evs (.mk kg ng ksg) kks)), tNew A wr.heap.size 8 29 (.mk ka (.mk kk kn kkf) (kl ++ [.mk kg ng ksg]) kr (Pf.evs (.mk kg ng ksg) kks)), tMade (fun b => b < A ∨ F.heap.size ≤ b) F.heap.size (i + 1) (Pf.evs (.mk kg ng ksg) (ks.take (i + 1))), tEq (.pointer (some ⟨g, 6, none⟩))] ?_ (by kernel_rfl) (by kernel_rfl) 43 rfl (by kernel_rfl) 12 _ rfl rfl (by kernel_rfl) [1, 9] 10 (by decide) (fun w1 _ w2 => w1.grownBy w2 (Value.slice ad2 i cp2).ownBlock) (fun s wx => wr.grownBy wx (Value.slice ad2 i cp2).ownBlock ∧ (s = false → Below wr.heap.size wr wx)) ⟨⟨rfl, rfl, rfl, Nat.le_refl _, fun _ _ _ => rfl⟩, fun _ => Below.refl _ wr⟩ (fun _ w1 w2 h1 h2 => ⟨⟨h2.os.trans h1.1.os, h2.tape.trans h1.1.tape, h2.output.trans h1.1.output, Nat.le_trans h1.1.size h2.size, fun q hq hn => (h2.block q (Nat.lt_of_lt_of_le hq h1.1.size)).trans (h1.1.block q hq hn)⟩, fun e => below_join (h1.2 e) h2⟩) (fun w1 _ w2 h1 h2 => ⟨⟨h2.os.trans h1.1.os, h2.tape.trans h1.1.tape, h2.output.trans h1.1.output, Nat.le_trans h1.1.size h2.size, fun q hq hn => (h2.block q (Nat.lt_of_lt_of_le hq h1.1.size) hn).trans (h1.1.block q hq hn)⟩, fun e => by cases e⟩) [] (by kernel_rfl) ?_ ?_ ?_)
        · intro p hp
          simp only [List.mem_cons, List.not_mem_nil, or_false] at hp
          rcases hp with rfl | rfl | rfl | rfl | rfl | rfl | rfl | rfl | rfl | rfl | rfl | rfl
          all_goals first | exact tEq_stays _ | exact tKF_stays _ _ _ _ _ _ | exact tKid_stays _ _ _ _ | exact tNew_stays _ _ _ _ _ | exact tMade_stays _ _ _ _
        · refine ⟨fun _ _ _ _ _ _ h _ _ => h, fun h => ?_, fun _ _ _ _ _ _ h _ _ => h, fun _ _ _ _ _ _ h _ _ => h, fun _ _ _ _ _ _ h _ _ => h, fun _ _ _ _ _ _ h _ _ => h, fun _ _ _ _ _ _ h _ _ => h, fun _ _ _ _ _ _ h _ _ => h, fun _ => tKid_live _ _ _ _ _ fun q e => by have := HOW.out q e; have := HA.out; exact ⟨by omega, by omega⟩, fun h => ?_, fun h => ?_, fun _ _ _ _ _ _ h _ _ => h, trivial⟩
          all_goals exact Bool.noConfusion (((by kernel_rfl : (_ : Bool) = true)).symm.trans h)
        · refine ⟨?_, ?_, ?_, ?_, ?_, ?_, ?_, ?_, ?_, ?_, ?_, ?_, trivial⟩
          · intro a wx t s hB hs hold hdep K hK
            have t5 : a.tmps[5]? = some (.pointer (some ⟨g, 0, none⟩)) := hold.2.2 5 rfl; clear hold hdep hs hB; go_simp; exact hK.out _ _ rfl (Below.refl _ _)
          · intro a wx t s hB hs hold hdep K hK
            obtain ⟨v30, t30, p30⟩ := hdep 0 rfl _ 30 rfl rfl; have e30 : v30 = (.pointer (some ⟨g, 6, none⟩)) := p30; subst e30; (have hb := hB.2 (hs (by kernel_rfl))); obtain ⟨-, -, -, -, -, -, k6⟩ := blk7 (below_keep hb HQ0.out); have HX : Hid (KF _ _ wx _ _ _) := HK.out.up hb; clear hold hdep hs hB hb; go_simp; exact hK.out _ _ ⟨rfl, HX.out⟩ (Below.refl _ _)
          · intro a wx t s hB hs hold hdep K hK
            have t2 : a.tmps[2]? = some (.pointer (some ⟨w.heap.size, 0, none⟩)) := hold.2.2 2 rfl; clear hold hdep hs hB; go_simp; exact hK.out _ _ rfl (Below.refl _ _)
          · intro a wx t s hB hs hold hdep K hK
            obtain ⟨v32, t32, p32⟩ := hdep 2 rfl _ 32 rfl rfl; have e32 : v32 = (.pointer (some ⟨w.heap.size, 6, none⟩)) := p32; subst e32; (have kp : ∀ q, q < F.heap.size → wx.heap[q]? = wr.heap[q]? := fun q hq => hB.1.block q (by omega) fun e => by have := HOW.out q e.symm; omega); (obtain ⟨-, -, -, -, -, -, k6⟩ := blk7 ((kp _ (by omega)).trans Q1.out)); clear kp; clear hold hdep hs hB; go_simp; exact hK.out _ _ rfl (Below.refl _ _)
          · intro a wx t s hB hs hold hdep K hK
            have t6 : a.tmps[6]? = some (.int .i64 (i : Nat)) := hold.2.2 6 rfl; clear hold hdep hs hB; go_simp; exact hK.out _ _ rfl (Below.refl _ _)
          · intro a wx t s hB hs hold hdep K hK
            obtain ⟨v33, t33, p33⟩ := hdep 3 rfl _ 33 rfl rfl; have e33 : v33 = (.slice (some ⟨b, off, none⟩) ks.length cap) := p33; subst e33; obtain ⟨v34, t34, p34⟩ := hdep 4 rfl _ 34 rfl rfl; have e34 : v34 = (.int .i64 (i : Nat)) := p34; subst e34; clear hold hdep hs hB; go_simp; exact hK.out _ _ rfl (Below.refl _ _)
          · intro a wx t s hB hs hold hdep K hK
            obtain ⟨v35, t35, p35⟩ := hdep 5 rfl _ 35 rfl rfl; have e35 : v35 = (.pointer (some ⟨b, off + i * 7, none⟩)) := p35; subst e35; (have kp : ∀ q, q < F.heap.size → wx.heap[q]? = wr.heap[q]? := fun q hq => hB.1.block q (by omega) fun e => by have := HOW.out q e.symm; omega); obtain ⟨y0, y1, y2, y3, y4, y5, y6⟩ := HY.out; (have c := fun (o : Nat) (u : Value) (h : wr.cell? ⟨b, o, none⟩ = some u) => (cell_of_block (a := ⟨b, o, none⟩) (kp b HBF.out)).trans h); have k0 := c _ _ y0; have k1 := c _ _ y1; have k2 := c _ _ y2; have k3 := c _ _ y3; have k4 := c _ _ y4; have k5 := c _ _ y5; have k6 := c _ _ y6; clear kp c y0 y1 y2 y3 y4 y5 y6; clear hold hdep hs hB; go_simp; exact hK.out _ _ rfl (Below.refl _ _)
          · intro a wx t s hB hs hold hdep K hK
            have t3 : a.tmps[3]? = some (.pointer (some ⟨w.heap.size + 1, 0, none⟩)) := hold.2.2 3 rfl; (have kp : ∀ q, q < F.heap.size → wx.heap[q]? = wr.heap[q]? := fun q hq => hB.1.block q (by omega) fun e => by have := HOW.out q e.symm; omega); (obtain ⟨k0, k1, k2, -⟩ := blk3 ((kp _ (by omega)).trans Q2.out)); clear kp; clear hold hdep hs hB; go_simp; exact hK.out _ _ rfl (Below.refl _ _)
          · intro a wx t s hB hs hold hdep K hK
            obtain ⟨v36, t36, p36⟩ := hdep 6 rfl _ 36 rfl rfl; have e36 : v36 = (.agg #[.string ka, .int .i64 kk, .string kn, .slice sf2 kkf.length cf2, .slice al2 kl.length cl2, .slice ar2 kr.length cr2, .slice sl2 kks.length cap2]) := p36; subst e36; obtain ⟨v37, t37, p37⟩ := hdep 7 rfl _ 37 rfl rfl; have e37 : v37 = (.agg #[.int .i64 kg, .string ng, .slice sg ksg.length cg]) := p37; subst e37; (have kp : ∀ q, q < F.heap.size → wx.heap[q]? = wr.heap[q]? := fun q hq => hB.1.block q (by omega) fun e => by have := HOW.out q e.symm; omega); have hzx := hB.1.size; (have h1 : PRp (· < A) wx (.mk ka (.mk kk kn kkf) kl kr kks) _ := HRK.out.move fun q hq hp => ⟨kp q (by have := HA.out; omega), hp⟩); (have h2 : Rep wx (· < A) (.mk kg ng ksg) _ := (HG.out.low (HBW.out.mono hAw)).move fun q hq hp => ⟨kp q (by have := HA.out; omega), hp⟩); (have hc := HIH.out _ _ _ wx HSZ.out HGK.out (by have := HA.out; omega) h1 h2); rw [Pf.ev] at hc; have HC : Hid (Calls Try.prog 10 _ wx _) := hc; clear hold hdep hs hB kp h1 h2 hc; go_simp; refine HC.out.mono ?_; rintro e w1 ⟨x, rfl, hx, hb⟩; (exact hK.out _ _ (PRp.move hx fun q _ hp => ⟨rfl, hp.imp id fun h => ⟨by omega, by simp [mark, Nat.not_lt.2 h]⟩⟩) hb)
          · intro a wx t s hB hs hold hdep K hK
            obtain ⟨v38, t38, p38⟩ := hdep 8 rfl _ 38 rfl rfl; have p38' : PRp (tP A wr.heap.size t [8]) wx _ v38 := p38; obtain ⟨sf3, cf3, al3, cl3, ar3, cr3, sl3, cap3, e38, -⟩ := p38'.parts; subst e38; have HP : Hid (PRp _ wx _ _) := p38'; clear hold hdep hs hB p38 p38'; go_simp; (exact hK.out _ _ ⟨_, _, _, _, _, _, _, _, rfl, blk_new wx _, PRp.move (P := tP A wr.heap.size t [8]) (by have := HP.out; rw [List.length_append] at this; exact this) fun q hq hp => ⟨Below.heap_alloc _ _ _ hq, hp.up (fun b hb => if_pos hb) hq⟩⟩ (below_more (Below.refl _ wx) _))
          · intro a wx t s hB hs hold hdep K hK
            obtain ⟨v31, t31, e31, cs, hown, hpq⟩ := hdep 1 rfl _ 31 rfl rfl; obtain ⟨v39, t39, g9, y0, y1, y2, y3, y4, y5, y6, e39, hg9, hp9⟩ := hdep 9 rfl _ 39 rfl rfl; subst e31 e39; rw [HTI.out] at hown hpq; have hzx := hB.1.size; (have hq : PQ (fun q => (q < A ∨ F.heap.size ≤ q) ∧ (Value.slice ad2 i cp2).ownBlock ≠ some q) wx [y0, y1, y2, y3, y4, y5, y6] [.mk ka (.mk kk kn kkf) (kl ++ [.mk kg ng ksg]) kr (Pf.evs (.mk kg ng ksg) kks)] := ⟨hp9.move fun q _ hp => ⟨rfl, hp.imp id fun h => by omega, fun e => by have := HOW.out q e; have := HA.out; rcases hp with hp | hp <;> omega⟩, trivial⟩); have hone := hq.one; obtain ⟨hi1, hz10, hz11, hz12⟩ := HI1.out; clear hold hdep hs; (refine step_append_lies _ rfl _ _ 27 rfl F.heap.size 29 i1 (.agg #[.string ⟨#[]⟩, .int .i64 0, .string ⟨#[]⟩, .slice none 0 0, .slice none 0 0, .slice none 0 0, .slice none 0 0]) 7 136 Try.underlying27 hi1 hz10 hz11 hz12 rfl (by decide) _ _ _ (eval_tmp t31) hown ⟨g9, 0, none⟩ 1 1 [y0, y1, y2, y3, y4, y5, y6] (eval_tmp t39) rfl (World.news_of_block hg9) hone (by omega) (by unfold maxLen; omega) (by omega) (by omega) _ rfl ?_); intro g3 cp3 w3 hown3 hgrow hat hlt3; (have hkf := KF.app (P := fun q => q < A ∨ F.heap.size ≤ q) HTI.out (j := 1) rfl hown hpq hq hown3 hgrow hat); rw [← HT.out] at hkf; exact hK.out _ _ ⟨_, _, rfl, hkf⟩ hgrow
          · intro a wx t s hB hs hold hdep K hK
            have t5 : a.tmps[5]? = some (.pointer (some ⟨g, 0, none⟩)) := hold.2.2 5 rfl; clear hold hdep hs hB; go_simp; exact hK.out _ _ rfl (Below.refl _ _)
        · intro a wx t hB hold hgot K hK
          (obtain ⟨v40, t40, g3, cp3, e40, hkf⟩ := hgot 10 _ 40 (by omega) (by kernel_rfl) rfl rfl); (obtain ⟨v41, t41, p41⟩ := hgot 11 _ 41 (by omega) (by kernel_rfl) rfl rfl); have e41 : v41 = (.pointer (some ⟨g, 6, none⟩)) := p41; subst e40 e41; obtain ⟨tm, df⟩ := a; obtain ⟨z0, z1, z2, z3, z4, z5, z6, z7, z8, z9, z10, z11, z12, z13, z14, z15, z16, z17, z18, z19, z20, z21, z22, z23, z24, z25, z26, z27, z28, z29, z30, z31, z32, z33, z34, z35, z36, z37, z38, z39, z40, z41, z42, htm⟩ := frame43 tm hold.1; subst htm; obtain rfl : df = [] := hold.2.1; obtain rfl : z0 = _ := Option.some.inj (hold.2.2 0 rfl); obtain rfl : z1 = _ := Option.some.inj (hold.2.2 1 rfl); obtain rfl : z2 = _ := Option.some.inj (hold.2.2 2 rfl); obtain rfl : z3 = _ := Option.some.inj (hold.2.2 3 rfl); obtain rfl : z4 = _ := Option.some.inj (hold.2.2 4 rfl); obtain rfl : z5 = _ := Option.some.inj (hold.2.2 5 rfl); obtain rfl : z6 = _ := Option.some.inj (hold.2.2 6 rfl); obtain rfl : z7 = _ := Option.some.inj (hold.2.2 7 rfl); obtain rfl : z8 = _ := Option.some.inj (hold.2.2 8 rfl); obtain rfl : z9 = _ := Option.some.inj (hold.2.2 9 rfl); obtain rfl : z10 = _ := Option.some.inj (hold.2.2 10 rfl); obtain rfl : z11 = _ := Option.some.inj (hold.2.2 11 rfl); obtain rfl : z12 = _ := Option.some.inj (hold.2.2 12 rfl); obtain rfl : z13 = _ := Option.some.inj (hold.2.2 13 rfl); obtain rfl : z14 = _ := Option.some.inj (hold.2.2 14 rfl); obtain rfl : z15 = _ := Option.some.inj (hold.2.2 15 rfl); obtain rfl : z16 = _ := Option.some.inj (hold.2.2 16 rfl); obtain rfl : z17 = _ := Option.some.inj (hold.2.2 17 rfl); obtain rfl : z18 = _ := Option.some.inj (hold.2.2 18 rfl); obtain rfl : z19 = _ := Option.some.inj (hold.2.2 19 rfl); obtain rfl : z20 = _ := Option.some.inj (hold.2.2 20 rfl); obtain rfl : z21 = _ := Option.some.inj (hold.2.2 21 rfl); obtain rfl : z22 = _ := Option.some.inj (hold.2.2 22 rfl); obtain rfl : z23 = _ := Option.some.inj (hold.2.2 23 rfl); obtain rfl : z24 = _ := Option.some.inj (hold.2.2 24 rfl); obtain rfl : z25 = _ := Option.some.inj (hold.2.2 25 rfl); obtain rfl : z26 = _ := Option.some.inj (hold.2.2 26 rfl); obtain rfl : z27 = _ := Option.some.inj (hold.2.2 27 rfl); obtain rfl : z28 = _ := Option.some.inj (hold.2.2 28 rfl); obtain rfl : z29 = _ := Option.some.inj (hold.2.2 29 rfl); obtain rfl : z42 = _ := Option.some.inj (hold.2.2 42 rfl); obtain rfl : z40 = _ := Option.some.inj t40; obtain rfl : z41 = _ := Option.some.inj t41; (have kp : ∀ q, q < F.heap.size → wx.heap[q]? = wr.heap[q]? := fun q hq => hB.1.block q (by omega) fun e => by have := HOW.out q e.symm; omega); have hgx := (kp g zg).trans HQ0.out; have HQX : Hid (wx.heap[g]? = some _) := hgx; have HKX : Hid (KF _ _ wx _ _ _) := hkf; have HKP : Hid (∀ q, q < F.heap.size → wx.heap[q]? = wr.heap[q]?) := kp; have HGW : Hid (wr.grownBy wx _) := hB.1; obtain ⟨j0, j1, j2, j3, j4, j5, j6⟩ := blk7 hgx; obtain ⟨m0, m1, m2, m3, m4, m5, m6⟩ := blk7f hgx; clear hold hgot hkf t40 t41 p41 hgx kp hB; go_simp; refine hK.out _ _ ?_; clear hK K j0 j1 j2 j3 j4 j5 j6 m0 m1 m2 m3 m4 m5 m6
          have e1 : (wx.setCell ⟨g, 6, none⟩ (.slice (some ⟨g3, 0, none⟩) (i + 1) cp3)).heap[g]? = some (.cells #[.string a0, .int .i64 k, .string n, .slice sf kf.length cf, .slice ad mm cp, .slice ar r.length cr, .slice (some ⟨g3, 0, none⟩) (i + 1) cp3] 29 (0, 0)) := by
            simp [World.setCell, Array.getElem?_modify, HQX.out]
          (have e2 : ∀ q, q ≠ g → (wx.setCell ⟨g, 6, none⟩ (.slice (some ⟨g3, 0, none⟩) (i + 1) cp3)).heap[q]? = wx.heap[q]? := fun q hq => Below.heap_setCell _ _ _ _ hq); (have e3 : (wx.setCell ⟨g, 6, none⟩ (.slice (some ⟨g3, 0, none⟩) (i + 1) cp3)).heap.size = wx.heap.size := by simp [World.setCell])
          have e4 : Below W.heap.size W (wx.setCell ⟨g, 6, none⟩ (.slice (some ⟨g3, 0, none⟩) (i + 1) cp3)) := by
            (have hb : Below W.heap.size W wx := ⟨HGW.out.os.trans HBr.out.os, HGW.out.tape.trans HBr.out.tape, HGW.out.output.trans HBr.out.output, Nat.le_trans HBr.out.size HGW.out.size, fun j hj => (HKP.out j (by omega)).trans (HBr.out.block j hj)⟩); exact hb.setCell hgS _
          (have e5 : KF (fun b => b < A ∨ F.heap.size ≤ b) F.heap.size (wx.setCell ⟨g, 6, none⟩ (.slice (some ⟨g3, 0, none⟩) (i + 1) cp3)) (some ⟨g3, 0, none⟩) cp3 (Pf.evs (.mk kg ng ksg) (ks.take (i + 1))) := HKX.out.same fun q hq _ => e2 q (by have := HA.out; rcases hq with (hq | hq) | hq <;> omega)); generalize wx.setCell ⟨g, 6, none⟩ (.slice (some ⟨g3, 0, none⟩) (i + 1) cp3) = G at *; have E5 : Hid (KF _ _ G _ _ _) := e5; have E4 : Hid (Below W.heap.size W G) := e4; (have E2 : Hid (∀ q, q < F.heap.size → q ≠ g → G.heap[q]? = F.heap[q]?) := fun q h1 h2 => (e2 q h2).trans ((HKP.out q h1).trans (HFr.out q h1 h2))); (have hzG : F.heap.size ≤ G.heap.size := by have := HGW.out.size; omega); have E1 : Hid (G.heap[g]? = some _) := e1; clear e1 e2 e4 e5; go_wp2_with fail
          go_roundg (ks.length - (i + 1))
          case measure => have := HG2.out; omega
          case rel => exact ⟨i + 1, some ⟨g3, 0, none⟩, cp3, by omega, rfl, by go_num, E4, hzG, E1.out, E2, E5⟩
      · obtain rfl : i = ks.length := by omega
        (have hge : ¬ (ks.length : Int) < (ks.length : Int) := by omega)
        have HKE : Hid (KF (fun b => b < A ∨ F.heap.size ≤ b) F.heap.size wr ad2 cp2 (Pf.evs (.mk kg ng ksg) ks)) := by
          have := HK.out; rw [List.take_length] at this; exact this
        obtain ⟨o0, o1, o2, o3, o4, o5, o6⟩ := blk7 q0; obtain ⟨r0, r1, r2, r3, r4, r5, r6⟩ := blk7 Q3.out; obtain ⟨m0, m1, m2, m3, m4, m5, m6⟩ := blk7f Q3.out; (have hdg : ¬ g = w.heap.size + 1 + 1 := by omega); (have hdg' : ¬ w.heap.size + 1 + 1 = g := by omega); clear HK HKS q0; go_wp2_with fail; have f7 := put7_blk Q3.out (.string a0) (.int .i64 k) (.string n) (.slice sf kf.length cf) (.slice ad mm cp) (.slice ar r.length cr) (.slice ad2 ks.length cp2); (have b7 := put7_below (b := w.heap.size + 1 + 1) HBW.out (by omega) (.string a0) (.int .i64 k) (.string n) (.slice sf kf.length cf) (.slice ad mm cp) (.slice ar r.length cr) (.slice ad2 ks.length cp2)); (have o7 : ∀ q, q ≠ w.heap.size + 1 + 1 → (put7 wr (w.heap.size + 1 + 1) (.string a0) (.int .i64 k) (.string n) (.slice sf kf.length cf) (.slice ad mm cp) (.slice ar r.length cr) (.slice ad2 ks.length cp2)).heap[q]? = wr.heap[q]? := fun q hq => put7_other hq _ _ _ _ _ _ _); unfold put7 at f7 b7 o7; generalize World.setCell _ _ _ = G at f7 b7 o7 ⊢; clear o0 o1 o2 o3 o4 o5 o6 r0 r1 r2 r3 r4 r5 r6 m0 m1 m2 m3 m4 m5 m6 c6; obtain ⟨k0, k1, k2, k3, k4, k5, k6⟩ := blk7 f7; (refine bodyPost_ret (v := .agg #[.string a0, .int .i64 k, .string n, .slice sf kf.length cf, .slice ad mm cp, .slice ar r.length cr, .slice ad2 ks.length cp2]) (by simp [results, Try.results10, go_sem, k0, k1, k2, k3, k4, k5, k6]) rfl ⟨_, rfl, ?_, b7⟩); (obtain ⟨h1, h2, h3⟩ := HKE.out.rep (fun b hb => Or.inr hb)); have hAW := HA.out; rw [evs_len] at h1; rw [Pf.ev, PRp.def]; (refine ⟨_, _, _, _, _, ad2, cp2, by rw [evs_len], ha, HF0.out.move fun q hq hp => ⟨b7.block q hq, Or.inl hp⟩, HF7.out.move fun q hq hp => ⟨(o7 q (by omega)).trans (HFr.out q hq (by omega)), by omega⟩, HR0.out.move fun q hq hp => ⟨b7.block q hq, Or.inl hp⟩, by rw [evs_len]; exact h1, h2, fun hne => ?_⟩); obtain ⟨b', off', e, hPb, hps⟩ := h3 hne; (exact ⟨b', off', e, by omega, hps.move hPb fun q _ hp => ⟨o7 q (by omega), by omega⟩⟩)
theorem every_all (f : Fm) (A : Nat) : ∀ m, EvP f A m
  | 0 => fun _ _ _ _ h => absurd h (Nat.not_lt_zero _)
  | m + 1 => every_step f A m (every_all f A m)
end Go.Proofs.Ytlmjnglcdgkomac
/- Walks: Steps. -/
namespace Go.Proofs.Ytlmjnglcdgkomac
open Go.RowKit

theorem infoInt : ∃ i, Try.prog.info? 3 = some i ∧ i.zero = some (.int .i64 0) ∧ i.size = 1 ∧ i.bytes = 8 := by
  (obtain ⟨i, hi, h⟩ := Option.map_eq_some_iff.1 (show (Try.prog.info? 3).map (fun i => (i.zero, i.size, i.bytes)) = some (some (.int .i64 0), 1, 8) by kernel_rfl)); simp only [Prod.mk.injEq] at h; exact ⟨i, hi, h.1, h.2.1, h.2.2⟩
/-- A list of n ints being made. -/
def KI (B : Nat) (w : World) (ad : Option Addr) (cap n : Nat) : Prop := ∃ cs, w.ownsRow B 3 1 (.slice ad n cap) n cs ∧ ∀ u ∈ cs, u.oneCell' = true
theorem owns_keep {B : Nat} {w w' : World} {T : TypeId} {sz n : Nat} {v : Value} {cs : List Value} (h : w.ownsRow B T sz v n cs) (hb : ∀ b, v.ownBlock = some b → w'.heap[b]? = w.heap[b]?) : w'.ownsRow B T sz v n cs := by
  obtain ⟨h1, h2⟩ := h; refine ⟨h1, ?_⟩
  rcases h2 with h2 | ⟨g, cap, cur, hv, hg, hh, r⟩
  · exact Or.inl h2
  · exact Or.inr ⟨g, cap, cur, hv, hg, (hb g (by rw [hv]; rfl)).trans hh, r⟩
theorem owns_low {B B' : Nat} {w : World} {T : TypeId} {sz n : Nat} {v : Value} {cs : List Value} (h : w.ownsRow B' T sz v n cs) (hB : B ≤ B') : w.ownsRow B T sz v n cs := by
  obtain ⟨h1, h2⟩ := h; refine ⟨h1, ?_⟩
  rcases h2 with h2 | ⟨g, cap, cur, hv, hg, hh, r⟩
  · exact Or.inl h2
  · exact Or.inr ⟨g, cap, cur, hv, Nat.le_trans hB hg, hh, r⟩
theorem KI.low {B B' : Nat} {w : World} {ad : Option Addr} {cap n : Nat} (h : KI B' w ad cap n) (hB : B ≤ B') : KI B w ad cap n := by
  obtain ⟨cs, ho, h1⟩ := h; exact ⟨cs, owns_low ho hB, h1⟩
theorem KF.low {P : Nat → Prop} {B B' : Nat} {w : World} {ad : Option Addr} {cap : Nat} {ps : List Pf} (h : KF P B' w ad cap ps) (hB : B ≤ B') : KF P B w ad cap ps := by
  obtain ⟨cs, ho, h1⟩ := h; exact ⟨cs, owns_low ho hB, h1⟩
/-- Where the cells of a row lie. -/
theorem row_cells {B : Nat} {w : World} {T : TypeId} {sz n cap : Nat} {ad : Option Addr} {cs : List Value} (h : w.ownsRow B T sz (.slice ad n cap) n cs) (hn : 0 < n) : ∃ g, ad = some ⟨g, 0, none⟩ ∧ ∀ j u, cs[j]? = some u → w.cell? ((⟨g, 0, none⟩ : Addr).add j) = some u := by
  obtain ⟨g, cap', hv, -⟩ := h.form hn; simp only [Value.slice.injEq, true_and] at hv; obtain ⟨rfl, -⟩ := hv; (exact ⟨g, rfl, fun j u hu => h.cells rfl j u hu⟩)
theorem KF.keep {P : Nat → Prop} {B : Nat} {w w' : World} {ad : Option Addr} {cap : Nat} {ps : List Pf} (h : KF P B w ad cap ps) (hb : ∀ b, P b → b < w.heap.size → w'.heap[b]? = w.heap[b]?) (hg : ∀ b, (Value.slice ad ps.length cap).ownBlock = some b → w'.heap[b]? = w.heap[b]?) : KF P B w' ad cap ps := by
  obtain ⟨cs, ho, h3⟩ := h; (exact ⟨cs, owns_keep ho hg, PQ.move (fun b hb1 hb2 => ⟨hb b hb2.1 hb1, hb2⟩) h3⟩)
theorem nodesL_append (ks js : List Pf) : Pf.nodesL (ks ++ js) = Pf.nodesL ks ++ Pf.nodesL js := by
  induction ks with
  | nil => rw [List.nil_append, Pf.nodesL]; rfl
  | cons k ks ih => rw [List.cons_append, Pf.nodesL, Pf.nodesL, ih, List.append_assoc]
theorem nodesL_one (k : Pf) : Pf.nodesL [k] = k.nodes := by rw [Pf.nodesL, Pf.nodesL, List.append_nil]
theorem psizes_take : ∀ (ks : List Pf) (i : Nat) (k : Pf), ks[i]? = some k → Pf.sizes (ks.take i) + k.size ≤ Pf.sizes ks
  | [], i, k, h => by simp at h
  | x :: ks, 0, k, h => by simp at h; subst h; rw [List.take_zero, Pf.sizes, Pf.sizes]; omega
  | x :: ks, i + 1, k, h => by
    (have := psizes_take ks i k (by simpa using h)); rw [List.take_succ_cons, Pf.sizes, Pf.sizes]; omega
theorem deeps_get : ∀ (ks : List Pf) (i : Nat) (k : Pf), ks[i]? = some k → k.deep ≤ Pf.deeps ks
  | [], i, k, h => by simp at h
  | x :: ks, 0, k, h => by simp at h; subst h; rw [Pf.deeps]; omega
  | x :: ks, i + 1, k, h => by
    (have := deeps_get ks i k (by simpa using h)); rw [Pf.deeps]; omega
theorem psize_pos (p : Pf) : 1 ≤ p.size := by cases p; rw [Pf.size]; omega
theorem plen_sizes : ∀ ks : List Pf, ks.length ≤ Pf.sizes ks
  | [] => by simp
  | k :: ks => by
    have := plen_sizes ks; have := psize_pos k; rw [Pf.sizes, List.length_cons]; omega
def StP (A m : Nat) : Prop := ∀ (p : Pf) (v : Value) (w : World) (d : Nat) (mo : Int), p.size < m → d + p.deep ≤ 402 → (p.size : Int) ≤ mo → mo ≤ 20001 → A ≤ w.heap.size → PRp (· < A) w p v →
  Calls Try.prog 11 #[v, .int .i64 (d : Nat), .int .i64 mo] w fun e w' => ∃ ad cp ad' cp', e = .returned (.tuple #[.slice ad p.nodes.length cp, .slice ad' p.nodes.length cp']) ∧ KF (· < A) w.heap.size w' ad cp p.nodes ∧ KI w.heap.size w' ad' cp' p.nodes.length ∧ Below w.heap.size w w'

set_option maxRecDepth 10000 in
set_option maxHeartbeats 8000000 in
theorem steps_step (A m : Nat) (ih : StP A m) : StP A (m + 1) := by
  intro p v w d mo hm hd hmo hmo2 hAw hv; obtain ⟨a, ⟨k, n, kf⟩, l, r, ks⟩ := p; have HV : Hid (PRp (· < A) w (.mk a (.mk k n kf) l r ks) v) := hv; obtain ⟨sf, cf, al, cl, ar, cr, sl, cap, rfl, -, -, -, -, hkc, hcm, hks⟩ := hv.parts; have HKS : Hid (ks ≠ [] → ∃ b off, sl = some ⟨b, off, none⟩ ∧ b < A ∧ PRps (· < A) w b off ks) := hks; have HIH : Hid (StP A m) := ih; rw [Pf.size] at hm hmo; rw [Pf.deep] at hd; (have hsz20 : Pf.sizes ks < 20001 := by omega); have hkl := plen_sizes ks; (have hkI : (ks.length : Int) ≤ 20001 := by omega); (have HM : Hid (Pf.sizes ks < m) := by show _ < _; omega); have HMO : Hid (((Pf.sizes ks + 1 : Nat) : Int) ≤ mo) := hmo; have HD : Hid (d + (Pf.deeps ks + 1) ≤ 402) := hd; (have hmo3 : 0 < mo := by omega); (have hd3 : (d : Int) ≤ 401 := by omega); (have hd4 : (d : Int) < 402 := by omega); obtain ⟨i1, hi1, hz10, hz11, hz12⟩ := infoPf; obtain ⟨i2, hi2, hz20, hz21, hz22⟩ := infoInt; obtain ⟨N0, hN0⟩ : ∃ N0, N0 = Pf.nodes (.mk a (.mk k n kf) l r ks) := ⟨_, rfl⟩; (have hN1 : N0 = .mk a (.mk k n kf) l r ks :: Pf.nodesL ks := by rw [hN0, Pf.nodes]); rw [← hN0]; have HN0 : Hid (N0 = .mk a (.mk k n kf) l r ks :: Pf.nodesL ks) := hN1; obtain ⟨O1, hO1⟩ : ∃ O, O = Obj.cells #[.string a, .int .i64 k, .string n, .slice sf kf.length cf, .slice al l.length cl, .slice ar r.length cr, .slice sl ks.length cap] 29 (0, 0) := ⟨_, rfl⟩; obtain ⟨O3, hO3⟩ : ∃ O, O = Obj.cells #[.int .i64 (d : Nat)] 3 (0, 0) := ⟨_, rfl⟩; obtain ⟨W, hW⟩ : ∃ W, W = ((w.alloc O1).alloc O1).alloc O3 := ⟨_, rfl⟩; (have B0 : Below w.heap.size w W := by rw [hW]; exact below_more (below_more (below_more (Below.refl _ w) _) _) _); (have z0 : W.heap.size = w.heap.size + 3 := by rw [hW]; simp); (have p1 : W.heap[w.heap.size]? = some O1 := by rw [hW]; exact alloc_keep (alloc_keep (blk_new w O1) _) _); (have p2 : W.heap[w.heap.size + 1]? = some O1 := by rw [hW]; exact alloc_keep (blk_two w O1 O1) _); (have p3 : W.heap[w.heap.size + 1 + 1]? = some O3 := by rw [hW]; have := blk_new ((w.alloc O1).alloc O1) O3; simpa using this); rw [hO1] at p1 p2; rw [hO3] at p3; have P1 : Hid (W.heap[w.heap.size]? = some _) := p1
  have HK0 : Hid (KF (· < A) (w.heap.size + 1) W (some ⟨w.heap.size + 1, 0, none⟩) 1 [.mk a (.mk k n kf) l r ks]) := by
    (refine ⟨[.string a, .int .i64 k, .string n, .slice sf kf.length cf, .slice al l.length cl, .slice ar r.length cr, .slice sl ks.length cap], ⟨rfl, Or.inr ⟨w.heap.size + 1, 1, _, rfl, Nat.le_refl _, p2, Nat.le_refl _, by simp [maxLen], rfl, rfl⟩⟩, ?_, trivial⟩)
    exact HV.out.move fun b hb hp => ⟨B0.block b hb, hp, fun e => by
      (have : w.heap.size + 1 = b := by simpa [Value.ownBlock] using e); have : b < A := hp
      omega⟩
  have HI0 : Hid (KI (w.heap.size + 1) W (some ⟨w.heap.size + 1 + 1, 0, none⟩) 1 1) := by
    (refine ⟨[.int .i64 (d : Nat)], ⟨rfl, Or.inr ⟨w.heap.size + 1 + 1, 1, _, rfl, Nat.le_succ _, p3, Nat.le_refl _, by simp [maxLen], rfl, rfl⟩⟩, ?_⟩); intro u hu; simp at hu; rw [hu]; rfl
  have HWe : Hid (((w.alloc O1).alloc O1).alloc O3 = W) := hW.symm; clear hv hks ih hm hmo hd hkl p1 p2 p3 hN0 hN1 hW
  go_enter Try.func11, Try.ntmps11
  go_wp2_with fail; rw [← hO1, ← hO3, HWe.out]; clear hO1 hO3 HWe
  go_loopg [8, 9, 10] ks.length (fun g u y c wr => ∃ i ad cp ad' cp' nl, i ≤ ks.length ∧ g = ks.length - i ∧ c = .int .i64 (i : Nat) ∧ u = .slice ad nl cp ∧ y = .slice ad' nl cp' ∧ Hid (nl = Pf.sizes (ks.take i) + 1) ∧ Hid (Below w.heap.size w wr) ∧ wr.heap[w.heap.size]? = some (.cells #[.string a, .int .i64 k, .string n, .slice sf kf.length cf, .slice al l.length cl, .slice ar r.length cr, .slice sl ks.length cap] 29 (0, 0)) ∧ Hid (KF (· < A) (w.heap.size + 1) wr ad cp (.mk a (.mk k n kf) l r ks :: Pf.nodesL (ks.take i))) ∧ Hid (KI (w.heap.size + 1) wr ad' cp' nl) ∧ Hid (∀ b, (Value.slice ad nl cp).ownBlock = some b → (Value.slice ad' nl cp').ownBlock ≠ some b))
  case atStart =>
    (refine ⟨0, some ⟨w.heap.size + 1, 0, none⟩, 1, some ⟨w.heap.size + 1 + 1, 0, none⟩, 1, 1, by omega, by omega, rfl, rfl, rfl, ?_, B0, P1.out, ?_, HI0, fun b e e' => ?_⟩)
    · show _ = _
      rw [List.take_zero, Pf.sizes]
    · show KF _ _ _ _ _ _
      rw [List.take_zero, Pf.nodesL]; exact HK0.out
    · have e1 : w.heap.size + 1 = b := by simpa [Value.ownBlock] using e
      (have e2 : w.heap.size + 1 + 1 = b := by simpa [Value.ownBlock] using e'); omega
  case round =>
    obtain ⟨i, ad, cp, ad', cp', nl, hile, hg, rfl, rfl, rfl, HNL, HBr, q0, HK, HI, HNE⟩ := hrel; have HG : Hid (gk = ks.length - i) := hg; have HQ0 : Hid (wr.heap[w.heap.size]? = some _) := q0; clear hg
    have hnlI : (nl : Int) ≤ 20001 := by
      have h1 := HNL.out
      have : Pf.sizes (ks.take i) ≤ Pf.sizes ks := by
        have e := congrArg Pf.sizes (List.take_append_drop i ks); rw [← nodesL_size, nodesL_append, List.length_append, nodesL_size, nodesL_size] at e; omega
      omega
    obtain ⟨-, -, -, -, -, -, c6⟩ := blk7 q0; by_cases hlt : i < ks.length
    · obtain ⟨⟨ka, ⟨kk, kn, kkf⟩, kl, kr, kks⟩, hki⟩ : ∃ f, ks[i]? = some f := ⟨_, List.getElem?_eq_getElem hlt⟩
      (have hltI : (i : Int) < (ks.length : Int) := by omega); (obtain ⟨b, off, hsl, hbA, hrs⟩ := HKS.out (fun e => by rw [e] at hlt; simp at hlt)); subst hsl; (have hrs' : PRps (· < A) wr b off ks := hrs.move hbA fun q hq hp => ⟨HBr.out.block q hq, hp⟩); obtain ⟨sf2, cf2, al2, cl2, ar2, cr2, sl2, cap2, y0, y1, y2, y3, y4, y5, y6, hrep2⟩ := hrs'.at i ka kk kn kkf kl kr kks hki; (have hlc : ((i : Nat) : Int) < ((cap : Nat) : Int) := by omega); have hzr := HBr.out.size; have hzr2 := lt_of_block HQ0.out; have ht1 := psizes_take ks i _ hki; have ht2 := deeps_get ks i _ hki; (have hnm : (nl : Int) ≤ mo := by have := HNL.out; have := HMO.out; omega); (have hc := HIH.out _ _ wr (d + 1) (mo - (nl : Nat)) (Nat.lt_of_le_of_lt (pfsizes_get hki) HM.out) (by have := HD.out; omega) (by have := HNL.out; have := HMO.out; omega) (by omega) (by omega) hrep2)
      have hT : Pf.nodesL (ks.take (i + 1)) = Pf.nodesL (ks.take i) ++ Pf.nodes (.mk ka (.mk kk kn kkf) kl kr kks) := by
        rw [List.take_add_one, hki, nodesL_append]; show _ ++ Pf.nodesL [_] = _; rw [nodesL_one]
      have hlen := nodes_size (.mk ka (.mk kk kn kkf) kl kr kks); have hpos := psize_pos (.mk ka (.mk kk kn kkf) kl kr kks)
      have hN2 : nl + (Pf.nodes (.mk ka (.mk kk kn kkf) kl kr kks)).length = Pf.sizes (ks.take (i + 1)) + 1 := by
        rw [← nodesL_size, hT, List.length_append, nodesL_size, HNL.out]; omega
      (have hb2 : nl + (Pf.nodes (.mk ka (.mk kk kn kkf) kl kr kks)).length ≤ 20001 := by have := HNL.out; omega); (have hp2 : 0 < (Pf.nodes (.mk ka (.mk kk kn kkf) kl kr kks)).length := by omega); generalize Pf.nodes (.mk ka (.mk kk kn kkf) kl kr kks) = KN at *; (have HC : Hid (Calls Try.prog 11 _ wr fun e w' => ∃ ad cp ad' cp', e = .returned (.tuple #[.slice ad KN.length cp, .slice ad' KN.length cp']) ∧ KF (· < A) wr.heap.size w' ad cp KN ∧ KI wr.heap.size w' ad' cp' KN.length ∧ Below wr.heap.size wr w') := hc); have HT : Hid (Pf.nodesL (ks.take (i + 1)) = Pf.nodesL (ks.take i) ++ KN) := hT; have HN2 : Hid (nl + KN.length = Pf.sizes (ks.take (i + 1)) + 1) := hN2
      have HLN : Hid ((Pf.mk a (.mk k n kf) l r ks :: Pf.nodesL (ks.take i)).length = nl) := by
        show _ = _; rw [List.length_cons, nodesL_size, HNL.out]
      have HB2 : Hid (nl + KN.length ≤ 20001) := hb2; have HP2 : Hid (0 < KN.length) := hp2; clear hki hrs hrs' hrep2 hc hT hN2 hlen hpos ht1 ht2 HKS hbA hb2 hp2; go_wp2_with fail; refine HC.out.mono ?_; rintro e w1 ⟨ax, cx, ay, cy, rfl, hkx, hky, hb1⟩; have HB1 : Hid (Below wr.heap.size wr w1) := hb1; have zw1 := hb1.size; obtain ⟨cs, hoL, hpL⟩ := HK.out.up hb1; obtain ⟨cs0, hoL0, -⟩ := HK.out; rw [HLN.out] at hoL hpL hoL0; have HOL : Hid (w1.ownsRow (w.heap.size + 1) 29 7 (.slice ad nl cp) nl cs) := hoL; (have HPL : Hid (PQ (fun b => b < A ∧ (Value.slice ad nl cp).ownBlock ≠ some b) w1 cs _) := hpL); (have HLL : Hid (∀ q, (Value.slice ad nl cp).ownBlock = some q → w.heap.size + 1 ≤ q ∧ q < wr.heap.size) := fun q e => hoL0.lt q e); obtain ⟨ds, hoX, hpX⟩ := hkx; (have HPX : Hid (PQ (fun b => b < A ∧ (Value.slice ad nl cp).ownBlock ≠ some b) w1 ds KN) := PQ.move (fun b _ hb => ⟨rfl, hb.1, fun e => by have := HLL.out b e; have : b < A := hb.1; omega⟩) hpX); obtain ⟨gx, rfl, hxc⟩ := row_cells hoX HP2.out; have HXC : Hid (∀ j u, ds[j]? = some u → w1.cell? ((⟨gx, 0, none⟩ : Addr).add j) = some u) := hxc; obtain ⟨es, hoI, h1I⟩ := HI.out; have HOI : Hid (wr.ownsRow (w.heap.size + 1) 3 1 (.slice ad' nl cp') nl es) := hoI; have H1I : Hid (∀ u ∈ es, u.oneCell' = true) := h1I; obtain ⟨fs, hoY, h1Y⟩ := hky; have H1Y : Hid (∀ u ∈ fs, u.oneCell' = true) := h1Y; have HYL : Hid (fs.length = KN.length * 1) := hoY.1; (have hyg := fun q e => (hoY.lt q e).1); obtain ⟨gy, rfl, hyc⟩ := row_cells hoY HP2.out; have HYC : Hid (∀ j u, fs[j]? = some u → w1.cell? ((⟨gy, 0, none⟩ : Addr).add j) = some u) := hyc; have HGY : Hid (wr.heap.size ≤ gy ∧ gy < w1.heap.size) := hoY.lt gy rfl; clear hoL hpL hoL0 hoX hpX hxc hoI h1I hoY h1Y hyc hyg hb1 y0 y1 y2 y3 y4 y5 y6
      go_wp2_with (first
        | (at_builtin
           (refine wpList_append_lies _ rfl _ _ 27 rfl (w.heap.size + 1) 29 i1 (.agg #[.string ⟨#[]⟩, .int .i64 0, .string ⟨#[]⟩, .slice none 0 0, .slice none 0 0, .slice none 0 0, .slice none 0 0]) 7 136 Try.underlying27 hi1 hz10 hz11 hz12 rfl (by decide) _ _ _ rfl HOL.out ⟨gx, 0, none⟩ KN.length cx ds rfl HPX.out.len HXC.out HPX.out.one HP2.out (by have := HB2.out; unfold maxLen; omega) (by have := HB2.out; omega) (by omega) _ rfl ?_); intro g3 cp3 w3 hown3 hgrow hat hlt3; have HK3 : Hid (KF (· < A) (w.heap.size + 1) w3 (some ⟨g3, 0, none⟩) cp3 _) := KF.app (P := (· < A)) HLN.out (j := KN.length) rfl HOL.out HPL.out HPX.out hown3 hgrow hat; have HO3 : Hid (w3.ownsRow (w.heap.size + 1) 29 7 (.slice (some ⟨g3, 0, none⟩) (nl + KN.length) cp3) (nl + KN.length) _) := hown3; have HG3 : Hid (w1.grownBy w3 (Value.slice ad nl cp).ownBlock) := hgrow; have HA3 : Hid ((Value.slice ad nl cp).ownBlock = some g3 ∨ g3 = w1.heap.size) := hat
           have HI3 : Hid (w3.ownsRow (w.heap.size + 1) 3 1 (.slice ad' nl cp') nl es) := owns_keep HOI.out fun q e => by
             have := HOI.out.lt q e; (exact (HG3.out.block q (by omega) fun e' => HNE.out q e'.symm e).trans (HB1.out.block q this.2))
           have HY3 : Hid (∀ j u, fs[j]? = some u → w3.cell? ((⟨gy, 0, none⟩ : Addr).add j) = some u) := fun j u hu => by
             have h := HYC.out j u hu; rw [add_none] at h ⊢; (exact (cell_of_block (a := ⟨gy, 0 + j, none⟩) (HG3.out.block gy HGY.out.2 fun e' => by have := HLL.out gy e'.symm; have := HGY.out.1; omega)).trans h)
           have z3 := hgrow.size; have HL3 : Hid (g3 < w3.heap.size) := hlt3
           clear hown3 hgrow hat hlt3)
        | (at_builtin
           (refine wpList_append_lies _ rfl _ _ 38 rfl (w.heap.size + 1) 3 i2 (.int .i64 0) 1 8 Try.underlying38 hi2 hz20 hz21 hz22 rfl (by decide) _ _ _ rfl HI3.out ⟨gy, 0, none⟩ KN.length cy fs rfl HYL.out HY3.out H1Y.out HP2.out (by have := HB2.out; unfold maxLen; omega) (by have := HB2.out; omega) (by omega) _ rfl ?_); intro g4 cp4 w4 hown4 hgrow4 hat4 hlt4; have HO4 : Hid (w4.ownsRow (w.heap.size + 1) 3 1 (.slice (some ⟨g4, 0, none⟩) (nl + KN.length) cp4) (nl + KN.length) _) := hown4; have HG4 : Hid (w3.grownBy w4 (Value.slice ad' nl cp').ownBlock) := hgrow4; have HA4 : Hid ((Value.slice ad' nl cp').ownBlock = some g4 ∨ g4 = w3.heap.size) := hat4
           clear hown4 hgrow4 hat4 hlt4)
        | fail)
      (have hID : ∀ q, (Value.slice ad' nl cp').ownBlock = some q → w.heap.size + 1 ≤ q ∧ q < wr.heap.size := fun q e => HOI.out.lt q e)
      have hg3 : ∀ q, (Value.slice ad' nl cp').ownBlock = some q → g3 ≠ q := fun q e e' => by
        have h1 := hID q e
        rcases HA3.out with h | h
        · exact HNE.out g3 h (by rw [e, e'])
        · omega
      have hlow : ∀ q, q < w.heap.size + 1 → w4.heap[q]? = wr.heap[q]? := fun q hq => by
        (rw [HG4.out.block q (by omega) fun e => by have := (hID q e.symm).1; omega, HG3.out.block q (by omega) fun e => by have := (HLL.out q e.symm).1; omega]); (exact HB1.out.block q (by omega))
      have z4 := HG4.out.size
      go_roundg (ks.length - (i + 1))
      case measure => have := HG.out; omega
      case rel =>
        (refine ⟨i + 1, some ⟨g3, 0, none⟩, cp3, some ⟨g4, 0, none⟩, cp4, nl + KN.length, by omega, rfl, by go_num, rfl, rfl, HN2, ?_, (hlow _ (by omega)).trans HQ0.out, ?_, ⟨_, HO4.out, fun u hu => ?_⟩, fun q e e' => ?_⟩)
        · show Below _ _ _
          have h1 := HBr.out; have h2 := HB1.out; have h3 := HG3.out; have h4 := HG4.out; (exact ⟨h4.os.trans (h3.os.trans (h2.os.trans h1.os)), h4.tape.trans (h3.tape.trans (h2.tape.trans h1.tape)), h4.output.trans (h3.output.trans (h2.output.trans h1.output)), by omega, fun j hj => (hlow j (by omega)).trans (h1.block j hj)⟩)
        · show KF _ _ _ _ _ _
          rw [HT.out, ← List.cons_append]; (refine HK3.out.keep (fun q hq hq2 => HG4.out.block q hq2 fun e => by have := (hID q e.symm).1; have : q < A := hq; omega) fun q e => ?_); (have e : g3 = q := by simpa [Value.ownBlock] using e); subst e; (exact HG4.out.block g3 HL3.out fun e' => hg3 g3 e'.symm rfl)
        · rcases List.mem_append.1 hu with hu | hu
          · exact H1I.out u hu
          · exact H1Y.out u hu
        · have e : g3 = q := by simpa [Value.ownBlock] using e
          (have e' : g4 = q := by simpa [Value.ownBlock] using e')
          rcases HA4.out with h | h
          · exact hg3 g4 h (by omega)
          · have := HL3.out
            omega
    · obtain rfl : i = ks.length := by omega
      (have hge : ¬ (ks.length : Int) < (ks.length : Int) := by omega)
      have hN : N0.length = nl := by
        have h1 := HNL.out; rw [List.take_length] at h1; rw [h1, HN0.out, List.length_cons, nodesL_size]
      have HKE : Hid (KF (· < A) (w.heap.size + 1) wr ad cp N0) := by
        have := HK.out; rw [List.take_length, ← HN0.out] at this; exact this
      have HNN : Hid (N0.length = nl) := hN; clear HK HKS hN; go_wp2_with fail; go_ret2; (refine ⟨ad, cp, ad', cp', by rw [HNN.out]; rfl, HKE.out.low (by omega), ?_, HBr.out⟩); rw [HNN.out]; (exact HI.out.low (by omega))
theorem steps_all (A : Nat) : ∀ m, StP A m
  | 0 => fun _ _ _ _ _ h => absurd h (Nat.not_lt_zero _)
  | m + 1 => steps_step A m (steps_all A m)
end Go.Proofs.Ytlmjnglcdgkomac
