/- Texts of one proof, one behind the other: BW5. -/
import Derived.Test.YtffkoiemnchdgafB30
/- Walks: can some names be held so that it is so (isSome)? -/
namespace Go.Proofs.Ytffkoiemnchdgaf
open Go.RowKit Go.Sort

theorem cons_lenB {l : List Value} {n : Nat} (h : l.length = n + 1) : ∃ x m, l = x :: m ∧ m.length = n := by
  cases l with
  | nil => simp at h
  | cons x m => exact ⟨x, m, rfl, by simpa using h⟩
theorem frameS29 (a : Array Value) (h : a.size = 29) : ∃ x0 x1 x2 x3 x4 x5 x6 x7 x8 x9 x10 x11 x12 x13 x14 x15 x16 x17 x18 x19 x20 x21 x22 x23 x24 x25 x26 x27 x28, a = #[x0, x1, x2, x3, x4, x5, x6, x7, x8, x9, x10, x11, x12, x13, x14, x15, x16, x17, x18, x19, x20, x21, x22, x23, x24, x25, x26, x27, x28] := by
  obtain ⟨l⟩ := a; have h0 : l.length = 29 := h; obtain ⟨x0, l1, e0, h1⟩ := cons_lenB h0; obtain ⟨x1, l2, e1, h2⟩ := cons_lenB h1; obtain ⟨x2, l3, e2, h3⟩ := cons_lenB h2; obtain ⟨x3, l4, e3, h4⟩ := cons_lenB h3; obtain ⟨x4, l5, e4, h5⟩ := cons_lenB h4; obtain ⟨x5, l6, e5, h6⟩ := cons_lenB h5; obtain ⟨x6, l7, e6, h7⟩ := cons_lenB h6; obtain ⟨x7, l8, e7, h8⟩ := cons_lenB h7; obtain ⟨x8, l9, e8, h9⟩ := cons_lenB h8; obtain ⟨x9, l10, e9, h10⟩ := cons_lenB h9; obtain ⟨x10, l11, e10, h11⟩ := cons_lenB h10; obtain ⟨x11, l12, e11, h12⟩ := cons_lenB h11; obtain ⟨x12, l13, e12, h13⟩ := cons_lenB h12; obtain ⟨x13, l14, e13, h14⟩ := cons_lenB h13; obtain ⟨x14, l15, e14, h15⟩ := cons_lenB h14; obtain ⟨x15, l16, e15, h16⟩ := cons_lenB h15; obtain ⟨x16, l17, e16, h17⟩ := cons_lenB h16; obtain ⟨x17, l18, e17, h18⟩ := cons_lenB h17; obtain ⟨x18, l19, e18, h19⟩ := cons_lenB h18; obtain ⟨x19, l20, e19, h20⟩ := cons_lenB h19; obtain ⟨x20, l21, e20, h21⟩ := cons_lenB h20; obtain ⟨x21, l22, e21, h22⟩ := cons_lenB h21; obtain ⟨x22, l23, e22, h23⟩ := cons_lenB h22; obtain ⟨x23, l24, e23, h24⟩ := cons_lenB h23; obtain ⟨x24, l25, e24, h25⟩ := cons_lenB h24; obtain ⟨x25, l26, e25, h26⟩ := cons_lenB h25; obtain ⟨x26, l27, e26, h27⟩ := cons_lenB h26; obtain ⟨x27, l28, e27, h28⟩ := cons_lenB h27; obtain ⟨x28, l29, e28, h29⟩ := cons_lenB h28; have e29 : l29 = [] := List.length_eq_zero_iff.1 h29; subst e29 e28 e27 e26 e25 e24 e23 e22 e21 e20 e19 e18 e17 e16 e15 e14 e13 e12 e11 e10 e9 e8 e7 e6 e5 e4 e3 e2 e1 e0; exact ⟨x0, x1, x2, x3, x4, x5, x6, x7, x8, x9, x10, x11, x12, x13, x14, x15, x16, x17, x18, x19, x20, x21, x22, x23, x24, x25, x26, x27, x28, rfl⟩

/-- What is asked of rows: it only makes memory. -/
structure AskL (N fn : Nat) (cap : Array Value) (p : List (List UInt8) → Bool) (Ok : World → Prop) : Prop where
  le : N ≤ 1000
  up : ∀ {w w' : World}, Ok w → Below w.heap.size w w' → Ok w'
  ent : ∀ (v : Value) (w : World), (callFunc fn (#[v] ++ cap)).run Try.prog w = .ok (.enter fn (#[v] ++ cap)) w
  call : ∀ (l : List (List UInt8)) (v : Value) (w : World), Ok w → GoodL N l → SL w v l → Calls Try.prog fn (#[v] ++ cap) w fun e w' => e = .returned (.bool (p l)) ∧ Below w.heap.size w w'

/-- The rest of a list. -/
theorem SL.rest {w : World} {g off cap : Nat} {t : List UInt8} {ns : List (List UInt8)} (h : SL w (.slice (some ⟨g, off, none⟩) (ns.length + 1) cap) (t :: ns)) : SL w (.slice (some ⟨g, off + 1, none⟩) ns.length (cap - 1)) ns := by
  obtain ⟨ad, cp, e, h1, h2, h3⟩ := h; simp only [Value.slice.injEq, List.length_cons, true_and] at e; obtain ⟨rfl, rfl⟩ := e; (obtain ⟨g', off', e', h4⟩ := h3 (by simp)); simp only [Option.some.injEq, Addr.mk.injEq, and_true] at e'; obtain ⟨rfl, rfl⟩ := e'; simp only [List.length_cons] at h1; (refine ⟨_, _, rfl, by omega, by omega, fun _ => ⟨g, off + 1, rfl, fun j x hx => ?_⟩⟩); (have := h4 (j + 1) x (by simpa using hx))
  rwa [show off + (j + 1) = off + 1 + j by omega] at this
theorem SL.nil0 {w : World} {ad : Option Addr} {cap : Nat} (h : cap ≤ maxLen) : SL w (.slice ad 0 cap) [] := ⟨ad, cap, rfl, by simp, h, fun h => absurd rfl h⟩
theorem SL.first {w : World} {v : Value} {t : List UInt8} {ns : List (List UInt8)} (h : SL w v (t :: ns)) : ∃ g off cap, v = .slice (some ⟨g, off, none⟩) (ns.length + 1) cap ∧ ns.length + 1 ≤ cap ∧ cap ≤ maxLen ∧ w.cell? ⟨g, off, none⟩ = some (.string ⟨t.toArray⟩) := by
  obtain ⟨ad, cp, rfl, h1, h2, h3⟩ := h; (obtain ⟨g, off, rfl, h4⟩ := h3 (by simp)); exact ⟨g, off, cp, rfl, h1, h2, h4 0 t rfl⟩

def SomeAll (N fn : Nat) (cap : Array Value) (p : List (List UInt8) → Bool) (Ok : World → Prop) (ns : List (List UInt8)) : Prop := ∀ (h : List (List UInt8)) (v u : Value) (w : World), GoodL N (h ++ ns) → SL w v ns → SL w u h → Ok w →
  Calls Try.prog 66 #[v, u, .func (.func fn) #[] cap] w fun e w' => e = .returned (.bool (someL p ns h)) ∧ Below w.heap.size w w'
theorem GoodL.left {N : Nat} {l m : List (List UInt8)} (h : GoodL N (l ++ m)) : GoodL N l := ⟨by have := h.few; simp at this; omega, fun t ht => h.names t (by simp [ht])⟩

set_option maxRecDepth 10000 in
set_option maxHeartbeats 4000000 in
theorem some_nil {N fn : Nat} {cp : Array Value} {p : List (List UInt8) → Bool} {Ok : World → Prop} (A : AskL N fn cp p Ok) : SomeAll N fn cp p Ok [] := by
  intro h v u w hg hv hu hok; have hca := A.call h u w hok hg.left hu; have hcf := A.ent; rw [show someL p [] h = p h from rfl]; have HC : Hid (Calls Try.prog fn _ w _) := hca; obtain ⟨adv, cpv, rfl, -⟩ := hv; obtain ⟨adu, cpu, rfl, -⟩ := hu; generalize p h = bb at *; clear hca hok A hg
  go_enter Try.func66, Try.ntmps66
  go_wp2_with fail; refine HC.out.mono ?_; rintro e w1 ⟨rfl, hb1⟩; go_wp2_with fail; go_ret; exact ⟨rfl, hb1⟩

set_option maxRecDepth 10000 in
set_option maxHeartbeats 8000000 in
theorem some_cons {N fn : Nat} {cp : Array Value} {p : List (List UInt8) → Bool} {Ok : World → Prop} (A : AskL N fn cp p Ok) (t : List UInt8) (ns : List (List UInt8)) (ih : SomeAll N fn cp p Ok ns) : SomeAll N fn cp p Ok (t :: ns) := by
  intro h v u w hg hv hu hok; obtain ⟨g, off, cap, rfl, hc1, hc2, g0⟩ := hv.first; (have hg1 : GoodL N (h ++ ns) := ⟨by have := hg.few; simp at this ⊢; omega, fun x hx => hg.names x (by simp at hx ⊢; rcases hx with h | h; exact Or.inl h; exact Or.inr (Or.inr h))⟩); (have hg2 : GoodL N (h ++ [t] ++ ns) := by rw [List.append_assoc]; exact hg); have hhl : h.length ≤ 1000 := Nat.le_trans hg1.left.few A.le; have HU : Hid (SL w u h) := hu; obtain ⟨adh, cph, rfl, -⟩ := hu; (have HWi : Hid (∀ wx, Below w.heap.size w wx → Calls Try.prog 95 #[.slice adh h.length cph, .string ⟨t.toArray⟩] wx fun e w' => ∃ ad cp, e = .returned (.slice ad (h.length + 1) cp) ∧ SL w' (.slice ad (h.length + 1) cp) (h ++ [t]) ∧ Below wx.heap.size wx w') := fun wx hb => withS_any h t hhl _ wx (HU.out.up hb)); have zb := lt_of_cell g0; simp only at zb; have hsl : someL p (t :: ns) h = (someL p ns h || someL p ns (h ++ [t])) := rfl; rw [hsl]; (have HO : Hid (∀ wx, Below w.heap.size w wx → Ok wx) := fun wx hb => A.up hok hb); by_cases hcap : cap = 1
  · subst hcap
    (have hns : ns = [] := by cases ns with | nil => rfl | cons x xs => simp at hc1); subst hns; (have HI1 : Hid (∀ wx, Below w.heap.size w wx → Calls Try.prog 66 #[.slice (some ⟨g, off, none⟩) 0 0, .slice adh h.length cph, .func (.func fn) #[] cp] wx fun e w' => e = .returned (.bool (someL p [] h)) ∧ Below wx.heap.size wx w') := fun wx hb => ih h _ _ wx hg1 (SL.nil0 (by simp [maxLen])) (HU.out.up hb) (HO.out wx hb)); (have HI2 : Hid (∀ wx ad n cp', Below w.heap.size w wx → SL wx (.slice ad n cp') (h ++ [t]) → Calls Try.prog 66 #[.slice (some ⟨g, off, none⟩) 0 0, .slice ad n cp', .func (.func fn) #[] cp] wx fun e w' => e = .returned (.bool (someL p [] (h ++ [t]))) ∧ Below wx.heap.size wx w') := fun wx ad n cp' hb hs => ih (h ++ [t]) _ _ wx hg2 (SL.nil0 (by simp [maxLen])) hs (HO.out wx hb)); generalize someL p [] h = b1 at *; generalize someL p [] (h ++ [t]) = b2 at *; generalize (⟨t.toArray⟩ : ByteArray) = T at *; clear ih A hg hg1 hg2 hv hsl hok HU HO hc1 hc2 hhl; obtain ⟨ns, hns⟩ : ∃ ns : List (List UInt8), ns = [] := ⟨_, rfl⟩
    cases b1
    · simp only [Bool.false_or]
      go_enter Try.func66, Try.ntmps66
      go_wp2_with fail; (refine wp_region_free (by kernel_rfl) [kE (.slice (some ⟨g, off, none⟩) 1 1), kE (.slice (some ⟨g, off, none⟩) 0 0), kE (.slice adh h.length cph), kE (.func (.func fn) #[] cp), kE (.bool false), kE (.bool false), kE (.slice (some ⟨g, off, none⟩) 1 1), kE (.slice (some ⟨g, off, none⟩) 0 0), kE (.slice adh h.length cph), kE (.slice (some ⟨g, off, none⟩) 1 1), kE (.pointer (some ⟨g, off, none⟩)), kE (.string T), kS (h ++ [t]), kE (.func (.func fn) #[] cp), kE (.bool b2), kE (.bool b2), kE (.bool b2)] ?_ (by kernel_rfl) (by kernel_rfl) 29 rfl (by kernel_rfl) ?_ ?_)
      · intro p hp
        simp only [List.mem_cons, List.not_mem_nil, or_false] at hp
        rcases hp with rfl | rfl | rfl | rfl | rfl | rfl | rfl | rfl | rfl | rfl | rfl | rfl | rfl | rfl | rfl | rfl | rfl
        all_goals first | exact kE_stays _ | exact kN_stays | exact kS_stays _
      · refine ⟨?_, ?_, ?_, ?_, ?_, ?_, ?_, ?_, ?_, ?_, ?_, ?_, ?_, ?_, ?_, ?_, ?_, trivial⟩
        · intro a wx hB hold hdep K hK; have t0 : a.tmps[0]? = some (.slice (some ⟨g, off, none⟩) 1 1) := hold.2.2 0 rfl; clear hold hdep; go_simp; exact hK.out _ _ rfl (Below.refl _ _)
        · intro a wx hB hold hdep K hK; have t13 := dep_e wx (hdep 0 rfl _ 13 rfl rfl); clear hold hdep; go_simp; exact hK.out _ _ rfl (Below.refl _ _)
        · intro a wx hB hold hdep K hK; have t1 : a.tmps[1]? = some (.slice adh h.length cph) := hold.2.2 1 rfl; clear hold hdep; go_simp; exact hK.out _ _ rfl (Below.refl _ _)
        · intro a wx hB hold hdep K hK; have t2 : a.tmps[2]? = some (.func (.func fn) #[] cp) := hold.2.2 2 rfl; clear hold hdep; go_simp; exact hK.out _ _ rfl (Below.refl _ _)
        · intro a wx hB hold hdep K hK; have t14 := dep_e wx (hdep 1 rfl _ 14 rfl rfl); have t15 := dep_e wx (hdep 2 rfl _ 15 rfl rfl); have t16 := dep_e wx (hdep 3 rfl _ 16 rfl rfl); clear hold hdep; go_simp; refine (HI1.out wx hB).mono ?_; rintro e w1 ⟨rfl, hb1⟩; exact hK.out _ _ rfl hb1
        · intro a wx hB hold hdep K hK; have t17 := dep_e wx (hdep 4 rfl _ 17 rfl rfl); clear hold hdep; go_simp; exact hK.out _ _ rfl (Below.refl _ _)
        · intro a wx hB hold hdep K hK; have t18 := dep_e wx (hdep 5 rfl _ 18 rfl rfl); have t0 : a.tmps[0]? = some (.slice (some ⟨g, off, none⟩) 1 1) := hold.2.2 0 rfl; clear hold hdep; go_simp; exact hK.out _ _ rfl (Below.refl _ _)
        · intro a wx hB hold hdep K hK; have t18 := dep_e wx (hdep 5 rfl _ 18 rfl rfl); have t19 := dep_e wx (hdep 6 rfl _ 19 rfl rfl); clear hold hdep; go_simp; exact hK.out _ _ rfl (Below.refl _ _)
        · intro a wx hB hold hdep K hK; have t18 := dep_e wx (hdep 5 rfl _ 18 rfl rfl); have t1 : a.tmps[1]? = some (.slice adh h.length cph) := hold.2.2 1 rfl; clear hold hdep; go_simp; exact hK.out _ _ rfl (Below.refl _ _)
        · intro a wx hB hold hdep K hK; have t18 := dep_e wx (hdep 5 rfl _ 18 rfl rfl); have t0 : a.tmps[0]? = some (.slice (some ⟨g, off, none⟩) 1 1) := hold.2.2 0 rfl; clear hold hdep; go_simp; exact hK.out _ _ rfl (Below.refl _ _)
        · intro a wx hB hold hdep K hK; have t18 := dep_e wx (hdep 5 rfl _ 18 rfl rfl); have t22 := dep_e wx (hdep 9 rfl _ 22 rfl rfl); clear hold hdep; go_simp; exact hK.out _ _ rfl (Below.refl _ _)
        · intro a wx hB hold hdep K hK; have t18 := dep_e wx (hdep 5 rfl _ 18 rfl rfl); have t23 := dep_e wx (hdep 10 rfl _ 23 rfl rfl); have c0 := (hB.cell (p := ⟨g, off, none⟩) zb).trans g0; clear hold hdep; go_simp; exact hK.out _ _ rfl (Below.refl _ _)
        · intro a wx hB hold hdep K hK; have t18 := dep_e wx (hdep 5 rfl _ 18 rfl rfl); have t21 := dep_e wx (hdep 8 rfl _ 21 rfl rfl); have t24 := dep_e wx (hdep 11 rfl _ 24 rfl rfl); clear hold hdep; go_simp; refine (HWi.out wx hB).mono ?_; rintro e w1 ⟨ad9, cp9, rfl, hs9, hb1⟩; exact hK.out _ _ ⟨_, _, _, rfl, hs9⟩ hb1
        · intro a wx hB hold hdep K hK; have t18 := dep_e wx (hdep 5 rfl _ 18 rfl rfl); have t2 : a.tmps[2]? = some (.func (.func fn) #[] cp) := hold.2.2 2 rfl; clear hold hdep; go_simp; exact hK.out _ _ rfl (Below.refl _ _)
        · intro a wx hB hold hdep K hK; have t18 := dep_e wx (hdep 5 rfl _ 18 rfl rfl); have t20 := dep_e wx (hdep 7 rfl _ 20 rfl rfl); have t26 := dep_e wx (hdep 13 rfl _ 26 rfl rfl); obtain ⟨v25, t25, ad25, m25, cp25, e25, p25⟩ := hdep 12 rfl _ 25 rfl rfl; subst e25; have HP : Hid (SL wx (.slice ad25 m25 cp25) (h ++ [t])) := p25; clear hold hdep p25; go_simp; refine (HI2.out wx _ _ _ hB HP.out).mono ?_; rintro e w1 ⟨rfl, hb1⟩; exact hK.out _ _ rfl hb1
        · intro a wx hB hold hdep K hK; have t18 := dep_e wx (hdep 5 rfl _ 18 rfl rfl); have t27 := dep_e wx (hdep 14 rfl _ 27 rfl rfl); clear hold hdep; go_simp; exact hK.out _ _ rfl (Below.refl _ _)
        · intro a wx hB hold hdep K hK; have t28 := dep_e wx (hdep 15 rfl _ 28 rfl rfl); clear hold hdep; go_simp; exact hK.out _ _ rfl (Below.refl _ _)
      · intro a wx hB hold hgot
        obtain ⟨v6, t6, p6⟩ := hgot 16 _ 6 rfl rfl; have e6 : v6 = (.bool b2) := p6; subst e6; obtain ⟨tm, df⟩ := a; obtain ⟨x0, x1, x2, x3, x4, x5, x6, x7, x8, x9, x10, x11, x12, x13, x14, x15, x16, x17, x18, x19, x20, x21, x22, x23, x24, x25, x26, x27, x28, htm⟩ := frameS29 tm hold.1; subst htm; obtain rfl : df = [] := hold.2.1; have hh := hold.2.2; obtain rfl : x0 = _ := Option.some.inj (hh 0 rfl); obtain rfl : x1 = _ := Option.some.inj (hh 1 rfl); obtain rfl : x2 = _ := Option.some.inj (hh 2 rfl); obtain rfl : x3 = _ := Option.some.inj (hh 3 rfl); obtain rfl : x4 = _ := Option.some.inj (hh 4 rfl); obtain rfl : x5 = _ := Option.some.inj (hh 5 rfl); obtain rfl : x7 = _ := Option.some.inj (hh 7 rfl); obtain rfl : x8 = _ := Option.some.inj (hh 8 rfl); obtain rfl : x9 = _ := Option.some.inj (hh 9 rfl); obtain rfl : x10 = _ := Option.some.inj (hh 10 rfl); obtain rfl : x11 = _ := Option.some.inj (hh 11 rfl); obtain rfl : x12 = _ := Option.some.inj (hh 12 rfl); obtain rfl : x6 = _ := Option.some.inj t6; clear hh hold hgot t6 p6; go_wp2_with fail; go_ret; exact ⟨rfl, hB⟩
    · simp only [Bool.true_or]
      go_enter Try.func66, Try.ntmps66
      go_wp2_with fail; (refine wp_region_free (by kernel_rfl) [kE (.slice (some ⟨g, off, none⟩) 1 1), kE (.slice (some ⟨g, off, none⟩) 0 0), kE (.slice adh h.length cph), kE (.func (.func fn) #[] cp), kE (.bool true), kE (.bool true), kN, kN, kN, kN, kN, kN, kN, kN, kN, kE (.bool true), kE (.bool true)] ?_ (by kernel_rfl) (by kernel_rfl) 29 rfl (by kernel_rfl) ?_ ?_)
      · intro p hp
        simp only [List.mem_cons, List.not_mem_nil, or_false] at hp
        rcases hp with rfl | rfl | rfl | rfl | rfl | rfl | rfl | rfl | rfl | rfl | rfl | rfl | rfl | rfl | rfl | rfl | rfl
        all_goals first | exact kE_stays _ | exact kN_stays | exact kS_stays _
      · refine ⟨?_, ?_, ?_, ?_, ?_, ?_, ?_, ?_, ?_, ?_, ?_, ?_, ?_, ?_, ?_, ?_, ?_, trivial⟩
        · intro a wx hB hold hdep K hK; have t0 : a.tmps[0]? = some (.slice (some ⟨g, off, none⟩) 1 1) := hold.2.2 0 rfl; clear hold hdep; go_simp; exact hK.out _ _ rfl (Below.refl _ _)
        · intro a wx hB hold hdep K hK; have t13 := dep_e wx (hdep 0 rfl _ 13 rfl rfl); clear hold hdep; go_simp; exact hK.out _ _ rfl (Below.refl _ _)
        · intro a wx hB hold hdep K hK; have t1 : a.tmps[1]? = some (.slice adh h.length cph) := hold.2.2 1 rfl; clear hold hdep; go_simp; exact hK.out _ _ rfl (Below.refl _ _)
        · intro a wx hB hold hdep K hK; have t2 : a.tmps[2]? = some (.func (.func fn) #[] cp) := hold.2.2 2 rfl; clear hold hdep; go_simp; exact hK.out _ _ rfl (Below.refl _ _)
        · intro a wx hB hold hdep K hK; have t14 := dep_e wx (hdep 1 rfl _ 14 rfl rfl); have t15 := dep_e wx (hdep 2 rfl _ 15 rfl rfl); have t16 := dep_e wx (hdep 3 rfl _ 16 rfl rfl); clear hold hdep; go_simp; refine (HI1.out wx hB).mono ?_; rintro e w1 ⟨rfl, hb1⟩; exact hK.out _ _ rfl hb1
        · intro a wx hB hold hdep K hK; have t17 := dep_e wx (hdep 4 rfl _ 17 rfl rfl); clear hold hdep; go_simp; exact hK.out _ _ rfl (Below.refl _ _)
        iterate 9 (· intro a wx hB hold hdep K hK; have t18 := dep_e wx (hdep 5 rfl _ 18 rfl rfl); clear hold hdep; go_simp; exact hK.out _ _ trivial (Below.refl _ _))
        · intro a wx hB hold hdep K hK; have t18 := dep_e wx (hdep 5 rfl _ 18 rfl rfl); clear hold hdep; go_simp; exact hK.out _ _ rfl (Below.refl _ _)
        · intro a wx hB hold hdep K hK; have t28 := dep_e wx (hdep 15 rfl _ 28 rfl rfl); clear hold hdep; go_simp; exact hK.out _ _ rfl (Below.refl _ _)
      · intro a wx hB hold hgot
        obtain ⟨v6, t6, p6⟩ := hgot 16 _ 6 rfl rfl; have e6 : v6 = (.bool true) := p6; subst e6; obtain ⟨tm, df⟩ := a; obtain ⟨x0, x1, x2, x3, x4, x5, x6, x7, x8, x9, x10, x11, x12, x13, x14, x15, x16, x17, x18, x19, x20, x21, x22, x23, x24, x25, x26, x27, x28, htm⟩ := frameS29 tm hold.1; subst htm; obtain rfl : df = [] := hold.2.1; have hh := hold.2.2; obtain rfl : x0 = _ := Option.some.inj (hh 0 rfl); obtain rfl : x1 = _ := Option.some.inj (hh 1 rfl); obtain rfl : x2 = _ := Option.some.inj (hh 2 rfl); obtain rfl : x3 = _ := Option.some.inj (hh 3 rfl); obtain rfl : x4 = _ := Option.some.inj (hh 4 rfl); obtain rfl : x5 = _ := Option.some.inj (hh 5 rfl); obtain rfl : x7 = _ := Option.some.inj (hh 7 rfl); obtain rfl : x8 = _ := Option.some.inj (hh 8 rfl); obtain rfl : x9 = _ := Option.some.inj (hh 9 rfl); obtain rfl : x10 = _ := Option.some.inj (hh 10 rfl); obtain rfl : x11 = _ := Option.some.inj (hh 11 rfl); obtain rfl : x12 = _ := Option.some.inj (hh 12 rfl); obtain rfl : x6 = _ := Option.some.inj t6; clear hh hold hgot t6 p6; go_wp2_with fail; go_ret; exact ⟨rfl, hB⟩
  · have HI1 : Hid (∀ wx, Below w.heap.size w wx → Calls Try.prog 66 #[.slice (some ⟨g, off + 1, none⟩) ns.length (cap - 1), .slice adh h.length cph, .func (.func fn) #[] cp] wx fun e w' => e = .returned (.bool (someL p ns h)) ∧ Below wx.heap.size wx w') := fun wx hb => ih h _ _ wx hg1 (hv.rest.up hb) (HU.out.up hb) (HO.out wx hb)
    (have HI2 : Hid (∀ wx ad n cp', Below w.heap.size w wx → SL wx (.slice ad n cp') (h ++ [t]) → Calls Try.prog 66 #[.slice (some ⟨g, off + 1, none⟩) ns.length (cap - 1), .slice ad n cp', .func (.func fn) #[] cp] wx fun e w' => e = .returned (.bool (someL p ns (h ++ [t]))) ∧ Below wx.heap.size wx w') := fun wx ad n cp' hb hs => ih (h ++ [t]) _ _ wx hg2 (hv.rest.up hb) hs (HO.out wx hb)); have hcn : ¬ cap = 1 := hcap; (have hc3 : 1 ≤ cap := by omega); (have hc4 : (0 : Int) < (cap : Int) := by omega); generalize someL p ns h = b1 at *; generalize someL p ns (h ++ [t]) = b2 at *; generalize (⟨t.toArray⟩ : ByteArray) = T at *; clear ih A hg hg1 hg2 hv hsl hok HU HO hc2 hhl; (have hc5 : (1 : Int) ≤ (ns.length : Int) + 1 := by omega); (have hc6 : (ns.length : Int) + 1 ≤ (cap : Int) := by omega)
    cases b1
    · simp only [Bool.false_or]
      go_enter Try.func66, Try.ntmps66
      go_wp2_with fail; (refine wp_region_free (by kernel_rfl) [kE (.slice (some ⟨g, off, none⟩) (ns.length + 1) cap), kE (.slice (some ⟨g, off + 1, none⟩) ns.length (cap - 1)), kE (.slice adh h.length cph), kE (.func (.func fn) #[] cp), kE (.bool false), kE (.bool false), kE (.slice (some ⟨g, off, none⟩) (ns.length + 1) cap), kE (.slice (some ⟨g, off + 1, none⟩) ns.length (cap - 1)), kE (.slice adh h.length cph), kE (.slice (some ⟨g, off, none⟩) (ns.length + 1) cap), kE (.pointer (some ⟨g, off, none⟩)), kE (.string T), kS (h ++ [t]), kE (.func (.func fn) #[] cp), kE (.bool b2), kE (.bool b2), kE (.bool b2)] ?_ (by kernel_rfl) (by kernel_rfl) 29 rfl (by kernel_rfl) ?_ ?_)
      · intro p hp
        simp only [List.mem_cons, List.not_mem_nil, or_false] at hp
        rcases hp with rfl | rfl | rfl | rfl | rfl | rfl | rfl | rfl | rfl | rfl | rfl | rfl | rfl | rfl | rfl | rfl | rfl
        all_goals first | exact kE_stays _ | exact kN_stays | exact kS_stays _
      · refine ⟨?_, ?_, ?_, ?_, ?_, ?_, ?_, ?_, ?_, ?_, ?_, ?_, ?_, ?_, ?_, ?_, ?_, trivial⟩
        · intro a wx hB hold hdep K hK; have t0 : a.tmps[0]? = some (.slice (some ⟨g, off, none⟩) (ns.length + 1) cap) := hold.2.2 0 rfl; clear hold hdep; go_simp; exact hK.out _ _ rfl (Below.refl _ _)
        · intro a wx hB hold hdep K hK; have t13 := dep_e wx (hdep 0 rfl _ 13 rfl rfl); clear hold hdep; go_simp; exact hK.out _ _ rfl (Below.refl _ _)
        · intro a wx hB hold hdep K hK; have t1 : a.tmps[1]? = some (.slice adh h.length cph) := hold.2.2 1 rfl; clear hold hdep; go_simp; exact hK.out _ _ rfl (Below.refl _ _)
        · intro a wx hB hold hdep K hK; have t2 : a.tmps[2]? = some (.func (.func fn) #[] cp) := hold.2.2 2 rfl; clear hold hdep; go_simp; exact hK.out _ _ rfl (Below.refl _ _)
        · intro a wx hB hold hdep K hK; have t14 := dep_e wx (hdep 1 rfl _ 14 rfl rfl); have t15 := dep_e wx (hdep 2 rfl _ 15 rfl rfl); have t16 := dep_e wx (hdep 3 rfl _ 16 rfl rfl); clear hold hdep; go_simp; refine (HI1.out wx hB).mono ?_; rintro e w1 ⟨rfl, hb1⟩; exact hK.out _ _ rfl hb1
        · intro a wx hB hold hdep K hK; have t17 := dep_e wx (hdep 4 rfl _ 17 rfl rfl); clear hold hdep; go_simp; exact hK.out _ _ rfl (Below.refl _ _)
        · intro a wx hB hold hdep K hK; have t18 := dep_e wx (hdep 5 rfl _ 18 rfl rfl); have t0 : a.tmps[0]? = some (.slice (some ⟨g, off, none⟩) (ns.length + 1) cap) := hold.2.2 0 rfl; clear hold hdep; go_simp; exact hK.out _ _ rfl (Below.refl _ _)
        · intro a wx hB hold hdep K hK; have t18 := dep_e wx (hdep 5 rfl _ 18 rfl rfl); have t19 := dep_e wx (hdep 6 rfl _ 19 rfl rfl); clear hold hdep; go_simp; exact hK.out _ _ rfl (Below.refl _ _)
        · intro a wx hB hold hdep K hK; have t18 := dep_e wx (hdep 5 rfl _ 18 rfl rfl); have t1 : a.tmps[1]? = some (.slice adh h.length cph) := hold.2.2 1 rfl; clear hold hdep; go_simp; exact hK.out _ _ rfl (Below.refl _ _)
        · intro a wx hB hold hdep K hK; have t18 := dep_e wx (hdep 5 rfl _ 18 rfl rfl); have t0 : a.tmps[0]? = some (.slice (some ⟨g, off, none⟩) (ns.length + 1) cap) := hold.2.2 0 rfl; clear hold hdep; go_simp; exact hK.out _ _ rfl (Below.refl _ _)
        · intro a wx hB hold hdep K hK; have t18 := dep_e wx (hdep 5 rfl _ 18 rfl rfl); have t22 := dep_e wx (hdep 9 rfl _ 22 rfl rfl); clear hold hdep; go_simp; exact hK.out _ _ rfl (Below.refl _ _)
        · intro a wx hB hold hdep K hK; have t18 := dep_e wx (hdep 5 rfl _ 18 rfl rfl); have t23 := dep_e wx (hdep 10 rfl _ 23 rfl rfl); have c0 := (hB.cell (p := ⟨g, off, none⟩) zb).trans g0; clear hold hdep; go_simp; exact hK.out _ _ rfl (Below.refl _ _)
        · intro a wx hB hold hdep K hK; have t18 := dep_e wx (hdep 5 rfl _ 18 rfl rfl); have t21 := dep_e wx (hdep 8 rfl _ 21 rfl rfl); have t24 := dep_e wx (hdep 11 rfl _ 24 rfl rfl); clear hold hdep; go_simp; refine (HWi.out wx hB).mono ?_; rintro e w1 ⟨ad9, cp9, rfl, hs9, hb1⟩; exact hK.out _ _ ⟨_, _, _, rfl, hs9⟩ hb1
        · intro a wx hB hold hdep K hK; have t18 := dep_e wx (hdep 5 rfl _ 18 rfl rfl); have t2 : a.tmps[2]? = some (.func (.func fn) #[] cp) := hold.2.2 2 rfl; clear hold hdep; go_simp; exact hK.out _ _ rfl (Below.refl _ _)
        · intro a wx hB hold hdep K hK; have t18 := dep_e wx (hdep 5 rfl _ 18 rfl rfl); have t20 := dep_e wx (hdep 7 rfl _ 20 rfl rfl); have t26 := dep_e wx (hdep 13 rfl _ 26 rfl rfl); obtain ⟨v25, t25, ad25, m25, cp25, e25, p25⟩ := hdep 12 rfl _ 25 rfl rfl; subst e25; have HP : Hid (SL wx (.slice ad25 m25 cp25) (h ++ [t])) := p25; clear hold hdep p25; go_simp; refine (HI2.out wx _ _ _ hB HP.out).mono ?_; rintro e w1 ⟨rfl, hb1⟩; exact hK.out _ _ rfl hb1
        · intro a wx hB hold hdep K hK; have t18 := dep_e wx (hdep 5 rfl _ 18 rfl rfl); have t27 := dep_e wx (hdep 14 rfl _ 27 rfl rfl); clear hold hdep; go_simp; exact hK.out _ _ rfl (Below.refl _ _)
        · intro a wx hB hold hdep K hK; have t28 := dep_e wx (hdep 15 rfl _ 28 rfl rfl); clear hold hdep; go_simp; exact hK.out _ _ rfl (Below.refl _ _)
      · intro a wx hB hold hgot
        obtain ⟨v6, t6, p6⟩ := hgot 16 _ 6 rfl rfl; have e6 : v6 = (.bool b2) := p6; subst e6; obtain ⟨tm, df⟩ := a; obtain ⟨x0, x1, x2, x3, x4, x5, x6, x7, x8, x9, x10, x11, x12, x13, x14, x15, x16, x17, x18, x19, x20, x21, x22, x23, x24, x25, x26, x27, x28, htm⟩ := frameS29 tm hold.1; subst htm; obtain rfl : df = [] := hold.2.1; have hh := hold.2.2; obtain rfl : x0 = _ := Option.some.inj (hh 0 rfl); obtain rfl : x1 = _ := Option.some.inj (hh 1 rfl); obtain rfl : x2 = _ := Option.some.inj (hh 2 rfl); obtain rfl : x3 = _ := Option.some.inj (hh 3 rfl); obtain rfl : x4 = _ := Option.some.inj (hh 4 rfl); obtain rfl : x5 = _ := Option.some.inj (hh 5 rfl); obtain rfl : x7 = _ := Option.some.inj (hh 7 rfl); obtain rfl : x8 = _ := Option.some.inj (hh 8 rfl); obtain rfl : x9 = _ := Option.some.inj (hh 9 rfl); obtain rfl : x10 = _ := Option.some.inj (hh 10 rfl); obtain rfl : x11 = _ := Option.some.inj (hh 11 rfl); obtain rfl : x12 = _ := Option.some.inj (hh 12 rfl); obtain rfl : x6 = _ := Option.some.inj t6; clear hh hold hgot t6 p6; go_wp2_with fail; go_ret; exact ⟨rfl, hB⟩
    · simp only [Bool.true_or]
      go_enter Try.func66, Try.ntmps66
      go_wp2_with fail; (refine wp_region_free (by kernel_rfl) [kE (.slice (some ⟨g, off, none⟩) (ns.length + 1) cap), kE (.slice (some ⟨g, off + 1, none⟩) ns.length (cap - 1)), kE (.slice adh h.length cph), kE (.func (.func fn) #[] cp), kE (.bool true), kE (.bool true), kN, kN, kN, kN, kN, kN, kN, kN, kN, kE (.bool true), kE (.bool true)] ?_ (by kernel_rfl) (by kernel_rfl) 29 rfl (by kernel_rfl) ?_ ?_)
      · intro p hp
        simp only [List.mem_cons, List.not_mem_nil, or_false] at hp
        rcases hp with rfl | rfl | rfl | rfl | rfl | rfl | rfl | rfl | rfl | rfl | rfl | rfl | rfl | rfl | rfl | rfl | rfl
        all_goals first | exact kE_stays _ | exact kN_stays | exact kS_stays _
      · refine ⟨?_, ?_, ?_, ?_, ?_, ?_, ?_, ?_, ?_, ?_, ?_, ?_, ?_, ?_, ?_, ?_, ?_, trivial⟩
        · intro a wx hB hold hdep K hK; have t0 : a.tmps[0]? = some (.slice (some ⟨g, off, none⟩) (ns.length + 1) cap) := hold.2.2 0 rfl; clear hold hdep; go_simp; exact hK.out _ _ rfl (Below.refl _ _)
        · intro a wx hB hold hdep K hK; have t13 := dep_e wx (hdep 0 rfl _ 13 rfl rfl); clear hold hdep; go_simp; exact hK.out _ _ rfl (Below.refl _ _)
        · intro a wx hB hold hdep K hK; have t1 : a.tmps[1]? = some (.slice adh h.length cph) := hold.2.2 1 rfl; clear hold hdep; go_simp; exact hK.out _ _ rfl (Below.refl _ _)
        · intro a wx hB hold hdep K hK; have t2 : a.tmps[2]? = some (.func (.func fn) #[] cp) := hold.2.2 2 rfl; clear hold hdep; go_simp; exact hK.out _ _ rfl (Below.refl _ _)
        · intro a wx hB hold hdep K hK; have t14 := dep_e wx (hdep 1 rfl _ 14 rfl rfl); have t15 := dep_e wx (hdep 2 rfl _ 15 rfl rfl); have t16 := dep_e wx (hdep 3 rfl _ 16 rfl rfl); clear hold hdep; go_simp; refine (HI1.out wx hB).mono ?_; rintro e w1 ⟨rfl, hb1⟩; exact hK.out _ _ rfl hb1
        · intro a wx hB hold hdep K hK; have t17 := dep_e wx (hdep 4 rfl _ 17 rfl rfl); clear hold hdep; go_simp; exact hK.out _ _ rfl (Below.refl _ _)
        iterate 9 (· intro a wx hB hold hdep K hK; have t18 := dep_e wx (hdep 5 rfl _ 18 rfl rfl); clear hold hdep; go_simp; exact hK.out _ _ trivial (Below.refl _ _))
        · intro a wx hB hold hdep K hK; have t18 := dep_e wx (hdep 5 rfl _ 18 rfl rfl); clear hold hdep; go_simp; exact hK.out _ _ rfl (Below.refl _ _)
        · intro a wx hB hold hdep K hK; have t28 := dep_e wx (hdep 15 rfl _ 28 rfl rfl); clear hold hdep; go_simp; exact hK.out _ _ rfl (Below.refl _ _)
      · intro a wx hB hold hgot
        obtain ⟨v6, t6, p6⟩ := hgot 16 _ 6 rfl rfl; have e6 : v6 = (.bool true) := p6; subst e6; obtain ⟨tm, df⟩ := a; obtain ⟨x0, x1, x2, x3, x4, x5, x6, x7, x8, x9, x10, x11, x12, x13, x14, x15, x16, x17, x18, x19, x20, x21, x22, x23, x24, x25, x26, x27, x28, htm⟩ := frameS29 tm hold.1; subst htm; obtain rfl : df = [] := hold.2.1; have hh := hold.2.2; obtain rfl : x0 = _ := Option.some.inj (hh 0 rfl); obtain rfl : x1 = _ := Option.some.inj (hh 1 rfl); obtain rfl : x2 = _ := Option.some.inj (hh 2 rfl); obtain rfl : x3 = _ := Option.some.inj (hh 3 rfl); obtain rfl : x4 = _ := Option.some.inj (hh 4 rfl); obtain rfl : x5 = _ := Option.some.inj (hh 5 rfl); obtain rfl : x7 = _ := Option.some.inj (hh 7 rfl); obtain rfl : x8 = _ := Option.some.inj (hh 8 rfl); obtain rfl : x9 = _ := Option.some.inj (hh 9 rfl); obtain rfl : x10 = _ := Option.some.inj (hh 10 rfl); obtain rfl : x11 = _ := Option.some.inj (hh 11 rfl); obtain rfl : x12 = _ := Option.some.inj (hh 12 rfl); obtain rfl : x6 = _ := Option.some.inj t6; clear hh hold hgot t6 p6; go_wp2_with fail; go_ret; exact ⟨rfl, hB⟩
theorem some_all {N fn : Nat} {cp : Array Value} {p : List (List UInt8) → Bool} {Ok : World → Prop} (A : AskL N fn cp p Ok) : ∀ ns, SomeAll N fn cp p Ok ns
  | [] => some_nil A
  | t :: ns => some_cons A t ns (some_all A ns)
end Go.Proofs.Ytffkoiemnchdgaf
