/- Texts of one proof, one behind the other: NTU. -/
import Derived.Test.YtealalhgkdlmkaiB33
import Derived.Test.YtealalhgkdlmkaiB32
import Derived.Test.YtealalhgkdlmkaiB20
import Derived.Test.YtealalhgkdlmkaiB08
import Derived.Test.YtealalhgkdlmkaiB34
/- The law NetTensors. -/
namespace Go.Proofs.Ytealalhgkdlmkai
open Go.RowKit Go.Sort

theorem rowNU18 (l : List Value) (h0 : l.length = 18) : ∃ x0 x1 x2 x3 x4 x5 x6 x7 x8 x9 x10 x11 x12 x13 x14 x15 x16 x17, l = [x0, x1, x2, x3, x4, x5, x6, x7, x8, x9, x10, x11, x12, x13, x14, x15, x16, x17] := by
  obtain ⟨x0, l1, e0, h1⟩ := cons_lenM h0; obtain ⟨x1, l2, e1, h2⟩ := cons_lenM h1; obtain ⟨x2, l3, e2, h3⟩ := cons_lenM h2; obtain ⟨x3, l4, e3, h4⟩ := cons_lenM h3; obtain ⟨x4, l5, e4, h5⟩ := cons_lenM h4; obtain ⟨x5, l6, e5, h6⟩ := cons_lenM h5; obtain ⟨x6, l7, e6, h7⟩ := cons_lenM h6; obtain ⟨x7, l8, e7, h8⟩ := cons_lenM h7; obtain ⟨x8, l9, e8, h9⟩ := cons_lenM h8; obtain ⟨x9, l10, e9, h10⟩ := cons_lenM h9; obtain ⟨x10, l11, e10, h11⟩ := cons_lenM h10; obtain ⟨x11, l12, e11, h12⟩ := cons_lenM h11; obtain ⟨x12, l13, e12, h13⟩ := cons_lenM h12; obtain ⟨x13, l14, e13, h14⟩ := cons_lenM h13; obtain ⟨x14, l15, e14, h15⟩ := cons_lenM h14; obtain ⟨x15, l16, e15, h16⟩ := cons_lenM h15; obtain ⟨x16, l17, e16, h17⟩ := cons_lenM h16; obtain ⟨x17, l18, e17, h18⟩ := cons_lenM h17; have e18 : l18 = [] := List.length_eq_zero_iff.1 h18; subst e18 e17 e16 e15 e14 e13 e12 e11 e10 e9 e8 e7 e6 e5 e4 e3 e2 e1 e0; exact ⟨x0, x1, x2, x3, x4, x5, x6, x7, x8, x9, x10, x11, x12, x13, x14, x15, x16, x17, rfl⟩
theorem rowNU15 (l : List Value) (h0 : l.length = 15) : ∃ x0 x1 x2 x3 x4 x5 x6 x7 x8 x9 x10 x11 x12 x13 x14, l = [x0, x1, x2, x3, x4, x5, x6, x7, x8, x9, x10, x11, x12, x13, x14] := by
  obtain ⟨x0, l1, e0, h1⟩ := cons_lenM h0; obtain ⟨x1, l2, e1, h2⟩ := cons_lenM h1; obtain ⟨x2, l3, e2, h3⟩ := cons_lenM h2; obtain ⟨x3, l4, e3, h4⟩ := cons_lenM h3; obtain ⟨x4, l5, e4, h5⟩ := cons_lenM h4; obtain ⟨x5, l6, e5, h6⟩ := cons_lenM h5; obtain ⟨x6, l7, e6, h7⟩ := cons_lenM h6; obtain ⟨x7, l8, e7, h8⟩ := cons_lenM h7; obtain ⟨x8, l9, e8, h9⟩ := cons_lenM h8; obtain ⟨x9, l10, e9, h10⟩ := cons_lenM h9; obtain ⟨x10, l11, e10, h11⟩ := cons_lenM h10; obtain ⟨x11, l12, e11, h12⟩ := cons_lenM h11; obtain ⟨x12, l13, e12, h13⟩ := cons_lenM h12; obtain ⟨x13, l14, e13, h14⟩ := cons_lenM h13; obtain ⟨x14, l15, e14, h15⟩ := cons_lenM h14; have e15 : l15 = [] := List.length_eq_zero_iff.1 h15; subst e15 e14 e13 e12 e11 e10 e9 e8 e7 e6 e5 e4 e3 e2 e1 e0; exact ⟨x0, x1, x2, x3, x4, x5, x6, x7, x8, x9, x10, x11, x12, x13, x14, rfl⟩
set_option maxRecDepth 10000 in
set_option maxHeartbeats 16000000 in
theorem tens_law (l m : List Lm) (a b : List (Int × Int)) (vl va vm vb : Value) (w : World) (hl : LL w vl l) (ha : PL w va a) (hm : LL w vm m) (hb : PL w vb b) :
    Calls Try.prog 7 #[vl, va, vm, vb] w fun e w' => e = .returned (.bool true) ∧ Below w.heap.size w w' := by
  (have HBe : Hid (∀ W, Calls Try.prog 8 #[] W _) := fun W => netBegun_any W); (have HVl : Hid (∀ W, Below w.heap.size w W → Calls Try.prog 9 #[vl, .int .i64 0] W _) := fun W h => vastLinear_any l vl W (hl.up h)); (have HVm : Hid (∀ W, Below w.heap.size w W → Calls Try.prog 9 #[vm, .int .i64 0] W _) := fun W h => vastLinear_any m vm W (hm.up h)); obtain ⟨x, hx⟩ := corrB_ex l a; obtain ⟨y, hy⟩ := corrB_ex m b; obtain ⟨c1, hc1⟩ : ∃ c : Int, (netE (netC l a)).1 = c := ⟨_, rfl⟩; obtain ⟨d1, hd1⟩ : ∃ c : Int, (netE (netC l a)).2 = c := ⟨_, rfl⟩; obtain ⟨c2, hc2⟩ : ∃ c : Int, (netE (netC m b)).1 = c := ⟨_, rfl⟩; obtain ⟨d2, hd2⟩ : ∃ c : Int, (netE (netC m b)).2 = c := ⟨_, rfl⟩; (have HCl : Hid (∀ W, Below w.heap.size w W → Calls Try.prog 12 #[vl, va] W fun e w' => e = .returned (.tuple #[.bool x, .agg #[.int .i64 c1, .int .i64 d1]]) ∧ Below W.heap.size W w') := fun W h => by rw [← hc1, ← hd1]; exact correct_any l a x hx vl va W (hl.up h) (ha.up h)); (have HCm : Hid (∀ W, Below w.heap.size w W → Calls Try.prog 12 #[vm, vb] W fun e w' => e = .returned (.tuple #[.bool y, .agg #[.int .i64 c2, .int .i64 d2]]) ∧ Below W.heap.size W w') := fun W h => by rw [← hc2, ← hd2]; exact correct_any m b y hy vm vb W (hm.up h) (hb.up h)); have HLl : Hid (LL w vl l) := hl; have HLm : Hid (LL w vm m) := hm; have HPa : Hid (PL w va a) := ha; have HPb : Hid (PL w vb b) := hb; have HCC : Hid ((netE (netC l a)).1 = c1 ∧ (netE (netC m b)).1 = c2 ∧ CorrB l a x ∧ CorrB m b y) := ⟨hc1, hc2, hx, hy⟩; obtain ⟨sl, cap, hvl, hsl1, hsl2, -⟩ := id hl; obtain ⟨asl, acap, hva, -⟩ := id ha; obtain ⟨sm, mcap, hvm, hsm1, hsm2, -⟩ := id hm; obtain ⟨bsl, bcap, hvb, hbs1, hbs2, -⟩ := id hb; subst hvl; subst hva; subst hvm; subst hvb; (have hllI : (l.length : Int) ≤ 9223372036854775807 := by unfold maxLen at hsl2; omega); (have hlmI : (m.length : Int) ≤ 9223372036854775807 := by unfold maxLen at hsm2; omega); clear hl ha hm hb hx hy hc1 hd1 hc2 hd2 hsl1 hsl2 hsm1 hsm2 hbs1 hbs2
  go_enter Try.func7, Try.ntmps7
  go_wp2_with fail; refine (HBe.out w).mono ?_; rintro _ w1 ⟨rfl, hb1⟩; have HB1 : Hid (Below w.heap.size w w1) := hb1; clear hb1; go_wp2_with fail; refine (HVl.out w1 HB1.out).mono ?_; rintro _ w2 ⟨⟨bb, rfl⟩, hb2⟩; have HB2 : Hid (Below w.heap.size w w2) := below_join HB1.out hb2; clear hb2
  cases bb
  case true =>
    go_wp2_with fail; go_ret; exact ⟨rfl, HB2.out⟩
  go_wp2_with fail; refine (HVm.out w2 HB2.out).mono ?_; rintro _ w3 ⟨⟨bb, rfl⟩, hb3⟩; have HB3 : Hid (Below w.heap.size w w3) := below_join HB2.out hb3; clear hb3
  cases bb
  case true =>
    go_wp2_with fail; go_ret; exact ⟨rfl, HB3.out⟩
  go_wp2_with fail; refine (HCl.out w3 HB3.out).mono ?_; rintro _ w4 ⟨rfl, hb4⟩; have HB4 : Hid (Below w.heap.size w w4) := below_join HB3.out hb4; obtain ⟨X, hX⟩ : ∃ X, X = w4.alloc (.cells #[.int .i64 c1, .int .i64 d1] 28 (0, 0)) := ⟨_, rfl⟩; (have HBX : Hid (Below w.heap.size w X) := by rw [hX]; exact below_more HB4.out _); (have HX1 : Hid (X.heap[w4.heap.size]? = some (.cells #[.int .i64 c1, .int .i64 d1] 28 (0, 0))) := by rw [hX]; exact blk_new _ _); have hXe := hX.symm; clear hX hb4; go_wp2_with fail; refine (HCm.out X HBX.out).mono ?_; rintro _ w5 ⟨rfl, hb5⟩; obtain ⟨Y, hY⟩ : ∃ Y, Y = w5.alloc (.cells #[.int .i64 c2, .int .i64 d2] 28 (0, 0)) := ⟨_, rfl⟩; (have hbY : Below X.heap.size X Y := by rw [hY]; exact below_more hb5 _); have HBY : Hid (Below w.heap.size w Y) := below_join HBX.out hbY; have HY1 : Hid (Y.heap[w4.heap.size]? = some (.cells #[.int .i64 c1, .int .i64 d1] 28 (0, 0))) := below_keep hbY HX1.out; (have HY2 : Hid (Y.heap[w5.heap.size]? = some (.cells #[.int .i64 c2, .int .i64 d2] 28 (0, 0))) := by rw [hY]; exact blk_new _ _); obtain ⟨q0, q1, -⟩ := blk2 HY1.out; obtain ⟨q2, q3, -⟩ := blk2 HY2.out; have hYe := hY.symm; clear hY hb5 hbY hXe; by_cases hc1 : c1 = 0
  case neg =>
    (have hcn : (c1 != 0) = true := by simpa using hc1); go_wp2_with fail; go_ret; exact ⟨rfl, HBY.out⟩
  by_cases hc2 : c2 = 0
  case neg =>
    (have hcn : (c1 != 0) = false := by simpa using hc1); (have hcm : (c2 != 0) = true := by simpa using hc2); go_wp2_with fail; go_ret; exact ⟨rfl, HBY.out⟩
  obtain ⟨e1, e2, hx, hy⟩ := HCC.out
  obtain ⟨mu1, k1, hn1⟩ : ∃ mu1 k1, netC l a = .ok mu1 k1 := by
    rcases hn : netC l a with ⟨c, p⟩ | ⟨mu, k⟩
    · rw [hn] at e1
      exact absurd (e1.trans hc1) (netC_bad hn)
    · exact ⟨mu, k, rfl⟩
  obtain ⟨mu2, k2, hn2⟩ : ∃ mu2 k2, netC m b = .ok mu2 k2 := by
    rcases hn : netC m b with ⟨c, p⟩ | ⟨mu, k⟩
    · rw [hn] at e2
      exact absurd (e2.trans hc2) (netC_bad hn)
    · exact ⟨mu, k, rfl⟩
  (have hx2 : x = true ↔ CorrN l mu1 a.length := by unfold CorrB at hx; rw [hn1] at hx; exact hx); (have hy2 : y = true ↔ CorrN m mu2 b.length := by unfold CorrB at hy; rw [hn2] at hy; exact hy); obtain ⟨g1, g2, g3, g4, -, -⟩ := netC_ok hn1; obtain ⟨i1, i2, i3, i4, -, -⟩ := netC_ok hn2; have HNn : Hid (netC l a = .ok mu1 k1 ∧ netC m b = .ok mu2 k2 ∧ (x = true ↔ CorrN l mu1 a.length) ∧ (y = true ↔ CorrN m mu2 b.length)) := ⟨hn1, hn2, hx2, hy2⟩; have HSz : Hid (1 ≤ l.length ∧ l.length ≤ 20 ∧ Lm.sizes l ≤ 200 ∧ 1 ≤ m.length ∧ m.length ≤ 20 ∧ Lm.sizes m ≤ 200) := ⟨g1, g2, g4, i1, i2, i4⟩; (have hcn : (c1 != 0) = false := by simpa using hc1); (have hcm : (c2 != 0) = false := by simpa using hc2); (have HJl : Hid (∀ W, Below w.heap.size w W → Calls Try.prog 32 #[.slice sl l.length cap, .int .i64 201] W _) := fun W h => linears_any l _ 201 W (HLl.out.up h) (by omega) (by omega)); (have HJm : Hid (∀ W, Below w.heap.size w W → Calls Try.prog 32 #[.slice sm m.length mcap, .int .i64 201] W _) := fun W h => linears_any m _ 201 W (HLm.out.up h) (by omega) (by omega)); (have hlI : (l.length : Int) ≤ 20 := by omega); (have hmI : (m.length : Int) ≤ 20 := by omega); clear hc1 hc2 e1 e2 hx hy hn1 hn2 hx2 hy2 g1 g2 g3 g4 i1 i2 i3 i4 HCC HCl HCm hllI hlmI; by_cases h20 : 20 < l.length + m.length
  case pos =>
    (have h20I : (20 : Int) < (l.length : Int) + (m.length : Int) := by omega); go_wp2_with fail; go_ret; exact ⟨rfl, HBY.out⟩
  (have h20I : ¬ (20 : Int) < (l.length : Int) + (m.length : Int) := by omega); (have H20 : Hid (l.length + m.length ≤ 20) := by show _ ≤ _; omega); clear h20; obtain ⟨S1, hS1⟩ : ∃ S1, S1 = Lm.sizes l := ⟨_, rfl⟩; obtain ⟨S2, hS2⟩ : ∃ S2, S2 = Lm.sizes m := ⟨_, rfl⟩; rw [← hS1] at HJl; rw [← hS2] at HJm; have HS : Hid (S1 = Lm.sizes l ∧ S2 = Lm.sizes m) := ⟨hS1, hS2⟩; (have hS1I : (S1 : Int) ≤ 200 := by have := HSz.out; omega); (have hS2I : (S2 : Int) ≤ 200 := by have := HSz.out; omega); clear hS1 hS2; go_wp2_with fail; refine (HJl.out Y HBY.out).mono ?_; rintro _ w6 ⟨a6, p6, cs6, rfl, -, -, hb6⟩; have HB6 : Hid (Below w.heap.size w w6) := below_join HBY.out hb6; clear hb6 q0 q1 q2 q3 hYe; go_wp2_with fail; refine (HJm.out w6 HB6.out).mono ?_; rintro _ w7 ⟨a7, p7, cs7, rfl, -, -, hb7⟩; have HB7 : Hid (Below w.heap.size w w7) := below_join HB6.out hb7; clear hb7; by_cases h199 : 199 < S1 + S2
  case pos =>
    (have h199I : (199 : Int) < (S1 : Int) + (S2 : Int) := by omega); go_wp2_with fail; go_ret; exact ⟨rfl, HB7.out⟩
  (have h199I : ¬ (199 : Int) < (S1 : Int) + (S2 : Int) := by omega); (have H199 : Hid (S1 + S2 ≤ 199) := by show _ ≤ _; omega); (have HLv : Hid (∀ W, Below w.heap.size w W → Calls Try.prog 26 #[.slice sl l.length cap] W _) := fun W h => leavesR_any l _ W (HLl.out.up h) HSz.out.2.2.1); have hd := leafL_len l 0; obtain ⟨d, hdd⟩ : ∃ d, d = (lvsL l 0).length := ⟨_, rfl⟩; have HD : Hid (d = (lvsL l 0).length) := hdd; rw [hd, ← hdd] at HLv; clear h199 hd hdd; go_wp2_with fail; refine (HLv.out w7 HB7.out).mono ?_; rintro _ w8 ⟨a8, p8, cs8, rfl, -, -, hb8⟩; have HB8 : Hid (Below w.heap.size w w8) := below_join HB7.out hb8; clear hb8
  have hal : a.length ≤ 200 := by
    obtain ⟨-, -, -, g4, g5, -⟩ := netC_ok HNn.out.1; have := (linkC_ok g5).2.2.2.2; have := lvsL_len l 0; omega
  have hbl : b.length ≤ 200 := by
    obtain ⟨-, -, -, g4, g5, -⟩ := netC_ok HNn.out.2.1; have := (linkC_ok g5).2.2.2.2; have := lvsL_len m 0; omega
  have HAb : Hid (a.length ≤ 200 ∧ b.length ≤ 200) := ⟨hal, hbl⟩; (have hblI : (b.length : Int) ≤ 200 := by omega); obtain ⟨i0, hi0, hz0, hz1, hz2⟩ := infoPr; clear hal hbl
  go_wp2_with (first
    | (at_builtin
       have hbs := HB8.out.size; have hab := HAb.out; obtain ⟨ad9, cap9, e9, -, -, hd3⟩ := HPa.out.up HB8.out; simp only [Value.slice.injEq, true_and] at e9; obtain ⟨rfl, rfl⟩ := e9; have hown : w8.ownsRow w.heap.size 57 2 (.slice none 0 0) 0 [] := ⟨rfl, Or.inl ⟨rfl, rfl⟩⟩; (refine wpList_appG rfl _ _ 23 rfl w.heap.size 57 i0 (.agg #[.int .i64 0, .int .i64 0]) 2 16 Try.underlying23 hi0 hz0 hz1 hz2 rfl (by decide) none 0 0 [] rfl hown asl a.length acap (encP a) rfl (encP_len a) (fun hpos => ?_) (encP_one a) (by unfold maxLen; omega) (by omega) hbs ?_)
       · obtain ⟨b, off, rfl, hc⟩ := hd3 (List.length_pos_iff.1 hpos)
         (refine ⟨b, off, rfl, fun j u hj => ?_⟩); obtain ⟨i, x, y, h1, h2⟩ := encP_of a j u hj; obtain ⟨c1, c2⟩ := hc i x y h1
         rcases h2 with ⟨rfl, rfl⟩ | ⟨rfl, rfl⟩
         · exact c1
         · exact c2
       intro ad3 cp3 w9 hown3 hk3; rw [Nat.zero_add, List.nil_append] at hown3; rw [Nat.zero_add]; have HO9 : Hid (w9.ownsRow w.heap.size 57 2 (.slice ad3 a.length cp3) a.length (encP a)) := hown3; have HB9 : Hid (Below w.heap.size w w9) := kept_row HB8.out hbs hown hk3
       clear hown hown3 hk3 hbs hab hd3)
    | fail)
  go_loopg [15, 14] b.length (fun gg cc x14 wr => ∃ i ad cp, i ≤ b.length ∧ gg = b.length - i ∧ cc = .int .i64 (i : Nat) ∧ x14 = .slice ad (a.length + i) cp ∧ Hid (wr.ownsRow w.heap.size 57 2 (.slice ad (a.length + i) cp) (a.length + i) (encP (a ++ (b.take i).map fun p => ((d : Int) + p.1, (d : Int) + p.2)))) ∧ Hid (Below w.heap.size w wr))
  case atStart => exact ⟨0, ad3, cp3, by omega, by omega, rfl, rfl, by simpa using HO9, HB9⟩
  case round =>
    obtain ⟨i, ad, cp, hi, hg, rfl, rfl, HRr, HBr⟩ := hrel; have HGk : Hid (gk = b.length - i) := hg; clear hg; by_cases hlt : i < b.length
    · obtain ⟨⟨x', y'⟩, hr⟩ : ∃ r, b[i]? = some r := ⟨_, List.getElem?_eq_getElem hlt⟩
      obtain ⟨px, pz, e8, h1, h2⟩ := net_in HNn.out.2.1 _ (List.mem_of_getElem? hr); (obtain ⟨rfl, rfl⟩ : x' = (px : Int) ∧ y' = (pz : Int) := by cases e8; exact ⟨rfl, rfl⟩); obtain ⟨ad9, cap9, e9, hd1, hd2, hd3⟩ := HPb.out; simp only [Value.slice.injEq, true_and] at e9; obtain ⟨rfl, rfl⟩ := e9; (obtain ⟨bq, off, rfl, hc⟩ := hd3 (fun e => by rw [e] at hlt; simp at hlt)); (have hxI : (px : Int) ≤ 200 := by omega); (have hzI : (pz : Int) ≤ 200 := by omega); obtain ⟨c0, c1⟩ := hc i _ _ hr; have HC0 : Hid (wr.cell? ⟨bq, off + i * 2, none⟩ = some (.int .i64 (px : Nat))) := (HBr.out.cell (lt_of_cell c0)).trans c0; have HC1 : Hid (wr.cell? ⟨bq, off + i * 2 + 1, none⟩ = some (.int .i64 (pz : Nat))) := (HBr.out.cell (lt_of_cell c1)).trans c1
      have hdI : (d : Int) ≤ 200 := by
        have := HD.out; have := lvsL_len l 0; have := HSz.out; omega
      have HwX : Hid (IntKind.i64.wrap ((d : Int) + (px : Int)) = (d : Int) + (px : Int)) := by
        (have h9 : ((d + px : Nat) : Int) = (d : Int) + (px : Int) := by omega); show _ = _; rw [← h9]; (exact wrap_small _ (by omega))
      have HwZ : Hid (IntKind.i64.wrap ((d : Int) + (pz : Int)) = (d : Int) + (pz : Int)) := by
        (have h9 : ((d + pz : Nat) : Int) = (d : Int) + (pz : Int) := by omega); show _ = _; rw [← h9]; (exact wrap_small _ (by omega))
      (have hltI : (i : Int) < (b.length : Int) := by omega); (have hltc : (i : Int) < (bcap : Int) := by omega); have HI : Hid (i < b.length) := hlt; have HRi : Hid (b[i]? = some ((px : Int), (pz : Int))) := hr; clear hc hr hlt hi c0 c1 h1 h2 hd1 hd2 hd3 e8; go_wp2_with fail; (refine wp_region_wrb (by kernel_rfl) [fun v _ => v = (.slice ad (a.length + i) cp), fun v _ => v = (.int .i64 (d : Nat)), fun v _ => v = (.slice (some ⟨bq, off, none⟩) b.length bcap), fun v _ => v = (.int .i64 (i : Nat)), fun v _ => v = (.pointer (some ⟨bq, off + i * 2, none⟩)), fun v _ => v = (.pointer (some ⟨bq, off + i * 2, none⟩)), fun v _ => v = (.int .i64 (px : Nat)), fun v _ => v = (.int .i64 ((d : Int) + (px : Int))), fun v _ => v = (.int .i64 (d : Nat)), fun v _ => v = (.slice (some ⟨bq, off, none⟩) b.length bcap), fun v _ => v = (.int .i64 (i : Nat)), fun v _ => v = (.pointer (some ⟨bq, off + i * 2, none⟩)), fun v _ => v = (.pointer (some ⟨bq, off + i * 2 + 1, none⟩)), fun v _ => v = (.int .i64 (pz : Nat)), fun v _ => v = (.int .i64 ((d : Int) + (pz : Int))), fun v _ => v = (.agg #[.int .i64 ((d : Int) + (px : Int)), .int .i64 ((d : Int) + (pz : Int))]), fun v w => ∃ q, v = .slice (some ⟨q, 0, none⟩) 1 1 ∧ w.heap[q]? = some (.cells #[.int .i64 ((d : Int) + (px : Int)), .int .i64 ((d : Int) + (pz : Int))] 57 (0, 0)), fun _ _ => True] ?_ (by kernel_rfl) (by kernel_rfl) 156 rfl (by kernel_rfl) 18 _ rfl rfl (by kernel_rfl) (fun i => none) 17 _ (by decide) rfl rfl 12 (by kernel_rfl) (fun v w9 => ∃ g3 cp3, v = (.slice (some ⟨g3, 0, none⟩) (a.length + i + 1) cp3) ∧ Hid (w9.ownsRow w.heap.size 57 2 (.slice (some ⟨g3, 0, none⟩) (a.length + i + 1) cp3) (a.length + i + 1) (encP (a ++ (b.take (i + 1)).map fun p => ((d : Int) + p.1, (d : Int) + p.2)))) ∧ Hid (Below w.heap.size w w9)) ?_ ?_ ?_ ?_)
      · intro p hp
        simp only [List.mem_cons, List.not_mem_nil, or_false] at hp
        rcases hp with rfl | rfl | rfl | rfl | rfl | rfl | rfl | rfl | rfl | rfl | rfl | rfl | rfl | rfl | rfl | rfl | rfl | rfl
        · exact fun _ _ _ h _ => h
        · exact fun _ _ _ h _ => h
        · exact fun _ _ _ h _ => h
        · exact fun _ _ _ h _ => h
        · exact fun _ _ _ h _ => h
        · exact fun _ _ _ h _ => h
        · exact fun _ _ _ h _ => h
        · exact fun _ _ _ h _ => h
        · exact fun _ _ _ h _ => h
        · exact fun _ _ _ h _ => h
        · exact fun _ _ _ h _ => h
        · exact fun _ _ _ h _ => h
        · exact fun _ _ _ h _ => h
        · exact fun _ _ _ h _ => h
        · exact fun _ _ _ h _ => h
        · exact fun _ _ _ h _ => h
        · rintro v w1 w2 ⟨q, e, h⟩ hb
          exact ⟨q, e, below_keep hb h⟩
        · exact fun _ _ _ h _ => h
      · intro j c wq hj
        cases hj
      · refine ⟨?_, ?_, ?_, ?_, ?_, ?_, ?_, ?_, ?_, ?_, ?_, ?_, ?_, ?_, ?_, ?_, ?_, ?_, trivial⟩
        · show StepOkB _ _ _ _ _ _ _ _ _
          intro aa wx hB hold hdep K hK; have t14 : aa.tmps[14]? = some (.slice ad (a.length + i) cp) := hold.2.2 14 rfl; clear hold hdep; go_simp; exact hK.out _ _ rfl (Below.refl _ _)
        · show StepOkB _ _ _ _ _ _ _ _ _
          intro aa wx hB hold hdep K hK; have t13 : aa.tmps[13]? = some (.int .i64 (d : Nat)) := hold.2.2 13 rfl; clear hold hdep; go_simp; exact hK.out _ _ rfl (Below.refl _ _)
        · show StepOkB _ _ _ _ _ _ _ _ _
          intro aa wx hB hold hdep K hK; have t3 : aa.tmps[3]? = some (.slice (some ⟨bq, off, none⟩) b.length bcap) := hold.2.2 3 rfl; clear hold hdep; go_simp; exact hK.out _ _ rfl (Below.refl _ _)
        · show StepOkB _ _ _ _ _ _ _ _ _
          intro aa wx hB hold hdep K hK; have t15 : aa.tmps[15]? = some (.int .i64 (i : Nat)) := hold.2.2 15 rfl; clear hold hdep; go_simp; exact hK.out _ _ rfl (Below.refl _ _)
        · show StepOkB _ _ _ _ _ _ _ _ _
          intro aa wx hB hold hdep K hK; obtain ⟨v82, t82, p82⟩ := hdep 2 rfl _ 82 rfl rfl; have e82 : v82 = (.slice (some ⟨bq, off, none⟩) b.length bcap) := p82; subst e82; obtain ⟨v83, t83, p83⟩ := hdep 3 rfl _ 83 rfl rfl; have e83 : v83 = (.int .i64 (i : Nat)) := p83; subst e83; clear hold hdep; go_simp; exact hK.out _ _ rfl (Below.refl _ _)
        · show StepOkB _ _ _ _ _ _ _ _ _
          intro aa wx hB hold hdep K hK; obtain ⟨v84, t84, p84⟩ := hdep 4 rfl _ 84 rfl rfl; have e84 : v84 = (.pointer (some ⟨bq, off + i * 2, none⟩)) := p84; subst e84; clear hold hdep; go_simp; exact hK.out _ _ rfl (Below.refl _ _)
        · show StepOkB _ _ _ _ _ _ _ _ _
          intro aa wx hB hold hdep K hK; obtain ⟨v85, t85, p85⟩ := hdep 5 rfl _ 85 rfl rfl; have e85 : v85 = (.pointer (some ⟨bq, off + i * 2, none⟩)) := p85; subst e85; have f0 := (hB.cell (lt_of_cell HC0.out)).trans HC0.out; have f1 := (hB.cell (lt_of_cell HC1.out)).trans HC1.out; clear hold hdep; go_simp; exact hK.out _ _ rfl (Below.refl _ _)
        · show StepOkB _ _ _ _ _ _ _ _ _
          intro aa wx hB hold hdep K hK; obtain ⟨v81, t81, p81⟩ := hdep 1 rfl _ 81 rfl rfl; have e81 : v81 = (.int .i64 (d : Nat)) := p81; subst e81; obtain ⟨v86, t86, p86⟩ := hdep 6 rfl _ 86 rfl rfl; have e86 : v86 = (.int .i64 (px : Nat)) := p86; subst e86; have hwx := HwX.out; clear hold hdep; go_simp; exact hK.out _ _ rfl (Below.refl _ _)
        · show StepOkB _ _ _ _ _ _ _ _ _
          intro aa wx hB hold hdep K hK; have t13 : aa.tmps[13]? = some (.int .i64 (d : Nat)) := hold.2.2 13 rfl; clear hold hdep; go_simp; exact hK.out _ _ rfl (Below.refl _ _)
        · show StepOkB _ _ _ _ _ _ _ _ _
          intro aa wx hB hold hdep K hK; have t3 : aa.tmps[3]? = some (.slice (some ⟨bq, off, none⟩) b.length bcap) := hold.2.2 3 rfl; clear hold hdep; go_simp; exact hK.out _ _ rfl (Below.refl _ _)
        · show StepOkB _ _ _ _ _ _ _ _ _
          intro aa wx hB hold hdep K hK; have t15 : aa.tmps[15]? = some (.int .i64 (i : Nat)) := hold.2.2 15 rfl; clear hold hdep; go_simp; exact hK.out _ _ rfl (Below.refl _ _)
        · show StepOkB _ _ _ _ _ _ _ _ _
          intro aa wx hB hold hdep K hK; obtain ⟨v89, t89, p89⟩ := hdep 9 rfl _ 89 rfl rfl; have e89 : v89 = (.slice (some ⟨bq, off, none⟩) b.length bcap) := p89; subst e89; obtain ⟨v90, t90, p90⟩ := hdep 10 rfl _ 90 rfl rfl; have e90 : v90 = (.int .i64 (i : Nat)) := p90; subst e90; clear hold hdep; go_simp; exact hK.out _ _ rfl (Below.refl _ _)
        · show StepOkB _ _ _ _ _ _ _ _ _
          intro aa wx hB hold hdep K hK; obtain ⟨v91, t91, p91⟩ := hdep 11 rfl _ 91 rfl rfl; have e91 : v91 = (.pointer (some ⟨bq, off + i * 2, none⟩)) := p91; subst e91; clear hold hdep; go_simp; exact hK.out _ _ rfl (Below.refl _ _)
        · show StepOkB _ _ _ _ _ _ _ _ _
          intro aa wx hB hold hdep K hK; obtain ⟨v92, t92, p92⟩ := hdep 12 rfl _ 92 rfl rfl; have e92 : v92 = (.pointer (some ⟨bq, off + i * 2 + 1, none⟩)) := p92; subst e92; have f0 := (hB.cell (lt_of_cell HC0.out)).trans HC0.out; have f1 := (hB.cell (lt_of_cell HC1.out)).trans HC1.out; clear hold hdep; go_simp; exact hK.out _ _ rfl (Below.refl _ _)
        · show StepOkB _ _ _ _ _ _ _ _ _
          intro aa wx hB hold hdep K hK; obtain ⟨v88, t88, p88⟩ := hdep 8 rfl _ 88 rfl rfl; have e88 : v88 = (.int .i64 (d : Nat)) := p88; subst e88; obtain ⟨v93, t93, p93⟩ := hdep 13 rfl _ 93 rfl rfl; have e93 : v93 = (.int .i64 (pz : Nat)) := p93; subst e93; have hwz := HwZ.out; clear hold hdep; go_simp; exact hK.out _ _ rfl (Below.refl _ _)
        · show StepOkB _ _ _ _ _ _ _ _ _
          intro aa wx hB hold hdep K hK; obtain ⟨v87, t87, p87⟩ := hdep 7 rfl _ 87 rfl rfl; have e87 : v87 = (.int .i64 ((d : Int) + (px : Int))) := p87; subst e87; obtain ⟨v94, t94, p94⟩ := hdep 14 rfl _ 94 rfl rfl; have e94 : v94 = (.int .i64 ((d : Int) + (pz : Int))) := p94; subst e94; clear hold hdep; go_simp; exact hK.out _ _ rfl (Below.refl _ _)
        · show StepOkB _ _ _ _ _ _ _ _ _
          intro aa wx hB hold hdep K hK; obtain ⟨v95, t95, p95⟩ := hdep 15 rfl _ 95 rfl rfl; have e95 : v95 = (.agg #[.int .i64 ((d : Int) + (px : Int)), .int .i64 ((d : Int) + (pz : Int))]) := p95; subst e95; clear hold hdep; go_simp; exact hK.out _ _ ⟨_, rfl, blk_new _ _⟩ (below_more (Below.refl _ _) _)
        · exact trivial
      · intro aa wx hB hold hgot K hK
        (obtain ⟨v50, tv50, pv50⟩ := hgot 0 _ 80 (by decide) (by decide) rfl rfl rfl); have ev50 : v50 = (.slice ad (a.length + i) cp) := pv50; subst ev50; (obtain ⟨v70, tv70, pv70⟩ := hgot 16 _ 96 (by decide) (by decide) rfl rfl rfl); obtain ⟨q, rfl, hq⟩ := pv70; have hn1 := HAb.out; have hi9 := HI.out; have hsx := hB.size; have hsw := HBr.out.size; have hlow := HRr.out.lt; clear hold hgot; (refine step_append_lies wx rfl _ _ 23 rfl w.heap.size 57 i0 (.agg #[.int .i64 0, .int .i64 0]) 2 16 Try.underlying23 hi0 hz0 hz1 hz2 rfl (by decide) (.slice ad (a.length + i) cp) (a.length + i) _ (eval_tmpM tv50) (rowM_up HRr.out hB) ⟨q, 0, none⟩ 1 1 [.int .i64 ((d : Int) + (px : Int)), .int .i64 ((d : Int) + (pz : Int))] (eval_tmpM tv70) rfl ?_ ?_ (by omega) (by unfold maxLen; omega) (by omega) (by omega) _ rfl ?_)
        · intro j u hu
          rw [add_none, Nat.zero_add, blk_cell hq]; simpa using hu
        · intro u hu
          simp at hu
          rcases hu with rfl | rfl <;> rfl
        intro g3 cp3 w3 hown3 hgrow hat hlt3; have hgrow' : wx.grownBy w3 (Value.slice ad (a.length + i) cp).ownBlock := hgrow; refine hK.out _ _ ⟨g3, cp3, rfl, ?_, ?_⟩
        · have e1 : (encP (a ++ (b.take (i + 1)).map fun p => ((d : Int) + p.1, (d : Int) + p.2))) = encP (a ++ (b.take i).map fun p => ((d : Int) + p.1, (d : Int) + p.2)) ++ [.int .i64 ((d : Int) + (px : Int)), .int .i64 ((d : Int) + (pz : Int))] := by
            rw [List.take_add_one, HRi.out, Option.toList_some, List.map_append, ← List.append_assoc, encP_cat]; rfl
          show World.ownsRow _ _ _ _ _ _ _; rw [e1]; exact hown3
        · exact (HBr.out.trans (hB.mono HBr.out.size)).grown hgrow' (by omega) fun k hk => (hlow k hk).1
      · intro aa wx hold hpx hpu K hK
        obtain ⟨v97, t97, g3, cp3, rfl, HR3, HB3⟩ := hpx 97 rfl; obtain ⟨tm, df⟩ := aa; (obtain ⟨ys, hys, htm, rfl⟩ := frame_mid2 80 18 (by kernel_rfl) (Nat.le_of_ble_eq_true rfl) hold); obtain ⟨x80, x81, x82, x83, x84, x85, x86, x87, x88, x89, x90, x91, x92, x93, x94, x95, x96, x97, rfl⟩ := rowNU18 ys hys; simp only [List.take_succ_cons, List.take_zero, List.drop_succ_cons, List.drop_zero, List.cons_append, List.nil_append] at htm; subst htm; obtain rfl : x97 = _ := someInjM t97; clear hys hold hpx hpu t97; go_simp; refine hK.out _ _ ?_; clear hK; go_wp2_with fail
        go_roundg (b.length - (i + 1))
        case measure => have := HGk.out; have := HI.out; omega
        case rel => exact ⟨i + 1, some ⟨g3, 0, none⟩, cp3, HI.out, rfl, by go_num, rfl, HR3, HB3⟩
    · have hii : i = b.length := by omega
      subst hii; (have hge : ¬ (b.length : Int) < (b.length : Int) := by omega); clear hlt hi; obtain ⟨csl, hql, hcl⟩ := HLl.out.cells0; obtain ⟨csm, hqm, hcm⟩ := HLm.out.cells0; have HQl : Hid (LQ4 w csl l ∧ (0 < l.length → ∃ b off, sl = some ⟨b, off, none⟩ ∧ ∀ (j : Nat) (u : Value), csl[j]? = some u → w.cell? ⟨b, off + j, none⟩ = some u)) := ⟨hql, hcl⟩; have HQm : Hid (LQ4 w csm m ∧ (0 < m.length → ∃ b off, sm = some ⟨b, off, none⟩ ∧ ∀ (j : Nat) (u : Value), csm[j]? = some u → w.cell? ⟨b, off + j, none⟩ = some u)) := ⟨hqm, hcm⟩; obtain ⟨i1, hi1, hy0, hy1, hy2⟩ := infoLm; (have h1I : (1 : Int) ≤ (l.length : Int) := by have := HSz.out; omega); rw [List.take_length] at HRr; clear hql hcl hqm hcm
      go_wp2_with (first
        | (at_builtin
           have hbs := HBr.out.size; have hsz := HSz.out; have hown : wr.ownsRow w.heap.size 52 4 (.slice none 0 0) 0 [] := ⟨rfl, Or.inl ⟨rfl, rfl⟩⟩; (refine wpList_appG rfl _ _ 22 rfl w.heap.size 52 i1 (.agg #[.int .i64 0, .string ⟨#[]⟩, .bool false, .slice none 0 0]) 4 56 Try.underlying22 hi1 hy0 hy1 hy2 rfl (by decide) none 0 0 [] rfl hown sl l.length cap csl rfl HQl.out.1.len (fun hpos => ?_) HQl.out.1.one (by unfold maxLen; omega) (by omega) hbs ?_)
           · obtain ⟨b, off, rfl, hc⟩ := HQl.out.2 hpos
             (exact ⟨b, off, rfl, fun j u hj => (HBr.out.cell (lt_of_cell (hc j u hj))).trans (hc j u hj)⟩)
           intro ad4 cp4 wa hown4 hk4; rw [Nat.zero_add, List.nil_append] at hown4; rw [Nat.zero_add]; have HOa : Hid (wa.ownsRow w.heap.size 52 4 (.slice ad4 l.length cp4) l.length csl) := hown4; have HBa : Hid (Below w.heap.size w wa) := kept_row HBr.out hbs hown hk4; (have HRa := rowM_move HRr.out fun g cur _ hh => hk4.block g (lt_of_block hh) fun e => by cases e); have HRa : Hid (World.ownsRow wa _ _ _ _ _ _) := HRa
           clear hown hown4 hk4 hbs hsz)
        | (at_builtin
           have hbs := HBa.out.size; have hsz := HSz.out; (refine wpList_appG rfl _ _ 22 rfl w.heap.size 52 i1 (.agg #[.int .i64 0, .string ⟨#[]⟩, .bool false, .slice none 0 0]) 4 56 Try.underlying22 hi1 hy0 hy1 hy2 rfl (by decide) ad4 l.length cp4 csl rfl HOa.out sm m.length mcap csm rfl HQm.out.1.len (fun hpos => ?_) HQm.out.1.one (by unfold maxLen; omega) (by omega) hbs ?_)
           · obtain ⟨b, off, rfl, hc⟩ := HQm.out.2 hpos
             (exact ⟨b, off, rfl, fun j u hj => (HBa.out.cell (lt_of_cell (hc j u hj))).trans (hc j u hj)⟩)
           intro ad5 cp5 wb hown5 hk5; have HOb : Hid (wb.ownsRow w.heap.size 52 4 (.slice ad5 (l.length + m.length) cp5) (l.length + m.length) (csl ++ csm)) := hown5; have HBb : Hid (Below w.heap.size w wb) := kept_row HBa.out hbs HOa.out hk5; (have HRb := rowM_move HRa.out fun g cur _ hh => hk5.block g (lt_of_block hh) fun e => rowM_ne HOa.out hh (by decide) e); have HRb : Hid (World.ownsRow wb _ _ _ _ _ _) := HRb
           clear hown5 hk5 hbs hsz)
        | fail)
      have hsz9 := HSz.out; (obtain ⟨k, hk⟩ : ∃ k, l.length = k + 1 := ⟨l.length - 1, by omega⟩); (obtain ⟨k2, hk2⟩ : ∃ k2, m.length = k2 + 1 := ⟨m.length - 1, by omega⟩); obtain ⟨l', f0, dl, u0, u1, u2, u3, el, hl', ecl, hq1, hf0, ho1⟩ := LQ4.last k HQl.out.1 hk; obtain ⟨h0, m', y0, y1, y2, y3, dm, em, hm', ecm, hq2, hh0, ho2⟩ := LQ4.first k2 HQm.out.1 hk2; (obtain ⟨bl, ol, rfl, hcl⟩ := HQl.out.2 (by omega)); (obtain ⟨bm, om, rfl, hcm⟩ := HQm.out.2 (by omega))
      obtain ⟨hcapl, hcapm⟩ : l.length ≤ cap ∧ m.length ≤ mcap ∧ cap ≤ maxLen ∧ mcap ≤ maxLen := by
        obtain ⟨s1, p1, e1, g1, g2, -⟩ := HLl.out; obtain ⟨s2, p2, e2, g3, g4, -⟩ := HLm.out; simp only [Value.slice.injEq, true_and] at e1 e2; obtain ⟨-, rfl⟩ := e1; obtain ⟨-, rfl⟩ := e2; exact ⟨g1, g3, g2, g4⟩
      (have HU := last_cells ecl (hq1.len.trans (by rw [hl'])) hcl); have HY := first_cells ecm hcm; have HU : Hid (w.cell? ⟨bl, ol + k * 4, none⟩ = some u0 ∧ w.cell? ⟨bl, ol + k * 4 + 1, none⟩ = some u1 ∧ w.cell? ⟨bl, ol + k * 4 + 2, none⟩ = some u2 ∧ w.cell? ⟨bl, ol + k * 4 + 3, none⟩ = some u3) := HU; have HY : Hid (w.cell? ⟨bm, om, none⟩ = some y0 ∧ w.cell? ⟨bm, om + 1, none⟩ = some y1 ∧ w.cell? ⟨bm, om + 2, none⟩ = some y2 ∧ w.cell? ⟨bm, om + 3, none⟩ = some y3) := HY; (have HDl : Hid (∀ (j : Nat) (u : Value), dl[j]? = some u → w.cell? ⟨bl, ol + j, none⟩ = some u) := fun j u hu => hcl j u (by rw [ecl, List.getElem?_append_left (List.getElem?_eq_some_iff.1 hu).1]; exact hu))
      have HDm : Hid (∀ (j : Nat) (u : Value), dm[j]? = some u → w.cell? ⟨bm, om + 4 + j, none⟩ = some u) := fun j u hu => by
        (have := hcm (j + 4) u (by rw [ecm]; exact hu))
        rwa [show om + (j + 4) = om + 4 + j by omega] at this
      have HQ1 : Hid (LQ4 w dl l' ∧ l'.length = k ∧ l = l' ++ [f0] ∧ LRep w f0 (.agg #[u0, u1, u2, u3])) := ⟨hq1, hl', el, hf0⟩; have HQ2 : Hid (LQ4 w dm m' ∧ m'.length = k2 ∧ m = h0 :: m' ∧ LRep w h0 (.agg #[y0, y1, y2, y3])) := ⟨hq2, hm', em, hh0⟩
      have HO1 : Hid (∀ u ∈ [u0, u1, u2, u3] ++ [y0, y1, y2, y3], u.oneCell' = true) := fun u hu => by
        rcases List.mem_append.1 hu with h | h
        · exact ho1 u h
        · exact ho2 u h
      (have hkI : (l.length : Int) - 1 = (k : Int) := by omega); rw [hkI]; have HK : Hid (l.length = k + 1 ∧ m.length = k2 + 1) := ⟨hk, hk2⟩; (have hkl : (k : Int) < (l.length : Int) := by omega); (have hkc : (k : Int) ≤ (cap : Int) := by omega); (have hm0 : (0 : Int) < (m.length : Int) := by omega); (have hm1 : (1 : Int) ≤ (m.length : Int) := by omega); have HCap : Hid (l.length ≤ cap ∧ m.length ≤ mcap ∧ cap ≤ maxLen ∧ mcap ≤ maxLen) := ⟨hcapl, hcapm⟩; clear hsz9 hk hk2 el hl' ecl hq1 hf0 ho1 em hm' ecm hq2 hh0 ho2 hcl hcm hcapl hcapm hkI; clear HLl HLm HPa HPb; (refine wp_region_wrd (by kernel_rfl) [fun v _ _ => v = (.slice (some ⟨bl, ol, none⟩) l.length cap), fun v _ _ => v = (.int .i64 (k : Nat)), fun v _ _ => v = (.slice (some ⟨bl, ol, none⟩) k cap), fun v w9 t => ∃ ad3 cp3, v = .slice ad3 k cp3 ∧ w9.ownsRow wb.heap.size 52 4 (.slice ad3 k cp3) k dl ∧ ∀ g, (Value.slice ad3 k cp3).ownBlock = some g → t g = 3, fun v _ _ => v = (.slice (some ⟨bl, ol, none⟩) l.length cap), fun v _ _ => v = (.int .i64 (k : Nat)), fun v _ _ => v = (.pointer (some ⟨bl, ol + k * 4, none⟩)), fun v _ _ => v = (.agg #[u0, u1, u2, u3]), fun v _ _ => v = (.slice (some ⟨bm, om, none⟩) m.length mcap), fun v _ _ => v = (.pointer (some ⟨bm, om, none⟩)), fun v _ _ => v = (.agg #[y0, y1, y2, y3]), fun v w9 t => ∃ q, v = .slice (some ⟨q, 0, none⟩) 2 2 ∧ w9.heap[q]? = some (.cells #[u0, u1, u2, u3, y0, y1, y2, y3] 52 (0, 0)) ∧ t q = 11, fun v w9 t => ∃ q, v = (.agg #[.int .i64 2, .string ⟨#[]⟩, .bool false, .slice (some ⟨q, 0, none⟩) 2 2]) ∧ w9.heap[q]? = some (.cells #[u0, u1, u2, u3, y0, y1, y2, y3] 52 (0, 0)) ∧ t q = 11, fun v w9 t => ∃ q q2, v = .slice (some ⟨q2, 0, none⟩) 1 1 ∧ w9.heap[q2]? = some (.cells #[.int .i64 2, .string ⟨#[]⟩, .bool false, .slice (some ⟨q, 0, none⟩) 2 2] 52 (0, 0)) ∧ w9.heap[q]? = some (.cells #[u0, u1, u2, u3, y0, y1, y2, y3] 52 (0, 0)) ∧ t q = 11, fun _ _ _ => True] ?_ (by kernel_rfl) (by kernel_rfl) 156 rfl (by kernel_rfl) 15 _ rfl rfl 6 (by kernel_rfl) (fun _ => none) 14 _ (by decide) rfl rfl 12 (by kernel_rfl) (fun v w9 => ∃ g3 cp3 q, v = (.slice (some ⟨g3, 0, none⟩) (k + 1) cp3) ∧ Hid (w9.ownsRow wb.heap.size 52 4 (.slice (some ⟨g3, 0, none⟩) (k + 1) cp3) (k + 1) (dl ++ [.int .i64 2, .string ⟨#[]⟩, .bool false, .slice (some ⟨q, 0, none⟩) 2 2])) ∧ Hid (w9.heap[q]? = some (.cells #[u0, u1, u2, u3, y0, y1, y2, y3] 52 (0, 0)) ∧ q ≠ g3) ∧ Hid (Below wb.heap.size wb w9)) ?_ ?_ ?_ ?_)
      · intro p hp
        simp only [List.mem_cons, List.not_mem_nil, or_false] at hp
        rcases hp with rfl | rfl | rfl | rfl | rfl | rfl | rfl | rfl | rfl | rfl | rfl | rfl | rfl | rfl | rfl
        · exact fun _ _ _ _ _ h _ _ => h
        · exact fun _ _ _ _ _ h _ _ => h
        · exact fun _ _ _ _ _ h _ _ => h
        · rintro v w1 t w2 t' ⟨ad3, cp3, e, h, hm⟩ hb ht
          (exact ⟨ad3, cp3, e, rowM_up h hb, fun g hg => (ht g (h.lt g hg).2).trans (hm g hg)⟩)
        · exact fun _ _ _ _ _ h _ _ => h
        · exact fun _ _ _ _ _ h _ _ => h
        · exact fun _ _ _ _ _ h _ _ => h
        · exact fun _ _ _ _ _ h _ _ => h
        · exact fun _ _ _ _ _ h _ _ => h
        · exact fun _ _ _ _ _ h _ _ => h
        · exact fun _ _ _ _ _ h _ _ => h
        · rintro v w1 t w2 t' ⟨q, e, h, hm⟩ hb ht
          exact ⟨q, e, below_keep hb h, (ht q (lt_of_block h)).trans hm⟩
        · rintro v w1 t w2 t' ⟨q, e, h, hm⟩ hb ht
          exact ⟨q, e, below_keep hb h, (ht q (lt_of_block h)).trans hm⟩
        · rintro v w1 t w2 t' ⟨q, q2, e, h2, h, hm⟩ hb ht
          exact ⟨q, q2, e, below_keep hb h2, below_keep hb h, (ht q (lt_of_block h)).trans hm⟩
        · exact fun _ _ _ _ _ h _ _ => h
      · intro j c wq tq hj
        cases hj
      · refine ⟨?_, ?_, ?_, ?_, ?_, ?_, ?_, ?_, ?_, ?_, ?_, ?_, ?_, ?_, ?_, trivial⟩
        · show StepOkD _ _ _ _ _ _ _ _ _
          intro aa wx tg hB hold hdep K hK; have t0 : aa.tmps[0]? = some (.slice (some ⟨bl, ol, none⟩) l.length cap) := hold.2.2 0 rfl; clear hold hdep; go_simp; exact hK.out _ _ rfl (Below.refl _ _)
        · show StepOkD _ _ _ _ _ _ _ _ _
          intro aa wx tg hB hold hdep K hK; have t16 : aa.tmps[16]? = some (.int .i64 (k : Nat)) := hold.2.2 16 rfl; clear hold hdep; go_simp; exact hK.out _ _ rfl (Below.refl _ _)
        · show StepOkD _ _ _ _ _ _ _ _ _
          intro aa wx tg hB hold hdep K hK; obtain ⟨v105, t105, p105⟩ := hdep 0 rfl _ 105 rfl rfl; have e105 : v105 = (.slice (some ⟨bl, ol, none⟩) l.length cap) := p105; subst e105; obtain ⟨v106, t106, p106⟩ := hdep 1 rfl _ 106 rfl rfl; have e106 : v106 = (.int .i64 (k : Nat)) := p106; subst e106; clear hold hdep; go_simp; exact hK.out _ _ rfl (Below.refl _ _)
        · show StepOkD _ _ _ _ _ _ _ _ _
          intro aa wx tg hB hold hdep K hK; obtain ⟨v107, t107, p107⟩ := hdep 2 rfl _ 107 rfl rfl; have e107 : v107 = (.slice (some ⟨bl, ol, none⟩) k cap) := p107; subst e107; have hBw := below_join HBb.out hB; have hq1 := HQ1.out; have hsz := HSz.out; have hkk := HK.out; clear hold hdep; (refine step_app0 rfl _ _ 22 rfl 52 i1 (.agg #[.int .i64 0, .string ⟨#[]⟩, .bool false, .slice none 0 0]) 4 56 Try.underlying22 hi1 hy0 hy1 hy2 rfl (by decide) (some ⟨bl, ol, none⟩) k cap dl rfl (eval_tmpM t107) (hq1.1.len.trans (by rw [hq1.2.1])) (fun _ => ⟨bl, ol, rfl, fun j u hu => (hBw.cell (lt_of_cell (HDl.out j u hu))).trans (HDl.out j u hu)⟩) hq1.1.one (by unfold maxLen; omega) (by omega) ?_); intro ad3 cp3 w3 h3 b3; (refine hK.out _ _ ⟨ad3, cp3, rfl, rowM_low h3 hB.size, fun g hg => if_neg ?_⟩ b3); have := (h3.lt g hg).1; omega
        · show StepOkD _ _ _ _ _ _ _ _ _
          intro aa wx tg hB hold hdep K hK; have t0 : aa.tmps[0]? = some (.slice (some ⟨bl, ol, none⟩) l.length cap) := hold.2.2 0 rfl; clear hold hdep; go_simp; exact hK.out _ _ rfl (Below.refl _ _)
        · show StepOkD _ _ _ _ _ _ _ _ _
          intro aa wx tg hB hold hdep K hK; have t16 : aa.tmps[16]? = some (.int .i64 (k : Nat)) := hold.2.2 16 rfl; clear hold hdep; go_simp; exact hK.out _ _ rfl (Below.refl _ _)
        · show StepOkD _ _ _ _ _ _ _ _ _
          intro aa wx tg hB hold hdep K hK; obtain ⟨v109, t109, p109⟩ := hdep 4 rfl _ 109 rfl rfl; have e109 : v109 = (.slice (some ⟨bl, ol, none⟩) l.length cap) := p109; subst e109; obtain ⟨v110, t110, p110⟩ := hdep 5 rfl _ 110 rfl rfl; have e110 : v110 = (.int .i64 (k : Nat)) := p110; subst e110; clear hold hdep; go_simp; exact hK.out _ _ rfl (Below.refl _ _)
        · show StepOkD _ _ _ _ _ _ _ _ _
          intro aa wx tg hB hold hdep K hK; obtain ⟨v111, t111, p111⟩ := hdep 6 rfl _ 111 rfl rfl; have e111 : v111 = (.pointer (some ⟨bl, ol + k * 4, none⟩)) := p111; subst e111; have hBw := below_join HBb.out hB; have f0 := (hBw.cell (lt_of_cell HU.out.1)).trans HU.out.1; have f1 := (hBw.cell (lt_of_cell HU.out.2.1)).trans HU.out.2.1; have f2 := (hBw.cell (lt_of_cell HU.out.2.2.1)).trans HU.out.2.2.1; have f3 := (hBw.cell (lt_of_cell HU.out.2.2.2)).trans HU.out.2.2.2; clear hold hdep; go_simp; exact hK.out _ _ rfl (Below.refl _ _)
        · show StepOkD _ _ _ _ _ _ _ _ _
          intro aa wx tg hB hold hdep K hK; have t2 : aa.tmps[2]? = some (.slice (some ⟨bm, om, none⟩) m.length mcap) := hold.2.2 2 rfl; clear hold hdep; go_simp; exact hK.out _ _ rfl (Below.refl _ _)
        · show StepOkD _ _ _ _ _ _ _ _ _
          intro aa wx tg hB hold hdep K hK; obtain ⟨v113, t113, p113⟩ := hdep 8 rfl _ 113 rfl rfl; have e113 : v113 = (.slice (some ⟨bm, om, none⟩) m.length mcap) := p113; subst e113; (have hm0N : 0 < m.length := by have := HK.out; omega); clear hold hdep; go_simp; exact hK.out _ _ rfl (Below.refl _ _)
        · show StepOkD _ _ _ _ _ _ _ _ _
          intro aa wx tg hB hold hdep K hK; obtain ⟨v114, t114, p114⟩ := hdep 9 rfl _ 114 rfl rfl; have e114 : v114 = (.pointer (some ⟨bm, om, none⟩)) := p114; subst e114; have hBw := below_join HBb.out hB; have f0 := (hBw.cell (lt_of_cell HY.out.1)).trans HY.out.1; have f1 := (hBw.cell (lt_of_cell HY.out.2.1)).trans HY.out.2.1; have f2 := (hBw.cell (lt_of_cell HY.out.2.2.1)).trans HY.out.2.2.1; have f3 := (hBw.cell (lt_of_cell HY.out.2.2.2)).trans HY.out.2.2.2; clear hold hdep; go_simp; exact hK.out _ _ rfl (Below.refl _ _)
        · show StepOkD _ _ _ _ _ _ _ _ _
          intro aa wx tg hB hold hdep K hK; obtain ⟨v112, t112, p112⟩ := hdep 7 rfl _ 112 rfl rfl; have e112 : v112 = (.agg #[u0, u1, u2, u3]) := p112; subst e112; obtain ⟨v115, t115, p115⟩ := hdep 10 rfl _ 115 rfl rfl; have e115 : v115 = (.agg #[y0, y1, y2, y3]) := p115; subst e115; clear hold hdep; go_simp; exact hK.out _ _ ⟨_, rfl, blk_new _ _, if_neg (Nat.lt_irrefl _)⟩ (below_more (Below.refl _ _) _)
        · show StepOkD _ _ _ _ _ _ _ _ _
          intro aa wx tg hB hold hdep K hK; obtain ⟨v116, t116, p116⟩ := hdep 11 rfl _ 116 rfl rfl; (have P116 : Hid ((fun v w9 t => ∃ q, v = .slice (some ⟨q, 0, none⟩) 2 2 ∧ w9.heap[q]? = some (.cells #[u0, u1, u2, u3, y0, y1, y2, y3] 52 (0, 0)) ∧ t q = 11) v116 wx tg) := p116); clear p116; obtain ⟨q, rfl, hq, hmq⟩ := P116.out; clear hold hdep; go_simp; exact hK.out _ _ ⟨q, rfl, hq, (if_pos (lt_of_block hq)).trans hmq⟩ (Below.refl _ _)
        · show StepOkD _ _ _ _ _ _ _ _ _
          intro aa wx tg hB hold hdep K hK; obtain ⟨v117, t117, p117⟩ := hdep 12 rfl _ 117 rfl rfl; (have P117 : Hid ((fun v w9 t => ∃ q, v = (.agg #[.int .i64 2, .string ⟨#[]⟩, .bool false, .slice (some ⟨q, 0, none⟩) 2 2]) ∧ w9.heap[q]? = some (.cells #[u0, u1, u2, u3, y0, y1, y2, y3] 52 (0, 0)) ∧ t q = 11) v117 wx tg) := p117); clear p117; obtain ⟨q, rfl, hq, hmq⟩ := P117.out; clear hold hdep; go_simp; exact hK.out _ _ ⟨q, _, rfl, blk_new _ _, alloc_keep hq _, (if_pos (lt_of_block hq)).trans hmq⟩ (below_more (Below.refl _ _) _)
        · exact trivial
      · intro aa wx tg hB hold hgot K hK
        (obtain ⟨v50, tv50, pv50⟩ := hgot 3 _ 108 (by decide) (by decide) rfl rfl rfl); (obtain ⟨v70, tv70, pv70⟩ := hgot 13 _ 118 (by decide) (by decide) rfl rfl rfl); obtain ⟨ad, cp, rfl, hrow, hmk⟩ := pv50; obtain ⟨q, q2, rfl, hq2, hq, hmq⟩ := pv70; have hsz := HSz.out; have hkk := HK.out; have hsx := hB.size; have hlow := hrow.lt; clear hold hgot; (refine step_append_lies wx rfl _ _ 22 rfl wb.heap.size 52 i1 (.agg #[.int .i64 0, .string ⟨#[]⟩, .bool false, .slice none 0 0]) 4 56 Try.underlying22 hi1 hy0 hy1 hy2 rfl (by decide) (.slice ad k cp) k _ (eval_tmpM tv50) hrow ⟨q2, 0, none⟩ 1 1 [.int .i64 2, .string ⟨#[]⟩, .bool false, .slice (some ⟨q, 0, none⟩) 2 2] (eval_tmpM tv70) rfl ?_ ?_ (by omega) (by unfold maxLen; omega) (by omega) (by omega) _ rfl ?_)
        · intro j u hu
          rw [add_none, Nat.zero_add, blk_cell hq2]; simpa using hu
        · intro u hu
          simp at hu
          rcases hu with rfl | rfl | rfl | rfl <;> rfl
        intro g3 cp3 w3 hown3 hgrow hat hlt3; have hgrow' : wx.grownBy w3 (Value.slice ad k cp).ownBlock := hgrow
        have hnq : (Value.slice ad k cp).ownBlock ≠ some q := fun e => by
          have := hmk q e; omega
        (refine hK.out _ _ ⟨g3, cp3, q, rfl, hown3, ⟨(hgrow'.block q (lt_of_block hq) fun e => hnq e.symm).trans hq, ?_⟩, hB.grown hgrow' (by omega) fun k hk => (hlow k hk).1⟩); rintro rfl
        rcases hat with h | h
        · exact hnq h
        · have := lt_of_block hq
          omega
      · intro aa wx hold hpx hpu K hK
        obtain ⟨v119, t119, g3, cp3, q, rfl, HT3, HQ3, HB9⟩ := hpx 119 rfl; obtain ⟨tm, df⟩ := aa; (obtain ⟨ys, hys, htm, rfl⟩ := frame_mid2 105 15 (by kernel_rfl) (Nat.le_of_ble_eq_true rfl) hold); obtain ⟨x105, x106, x107, x108, x109, x110, x111, x112, x113, x114, x115, x116, x117, x118, x119, rfl⟩ := rowNU15 ys hys; simp only [List.take_succ_cons, List.take_zero, List.drop_succ_cons, List.drop_zero, List.cons_append, List.nil_append] at htm; subst htm; obtain rfl : x119 = _ := someInjM t119; clear hys hold hpx hpu t119; go_simp; refine hK.out _ _ ?_; clear hK; (have hs1 : (1 : Int) ≤ (mcap : Int) := by have := HCap.out; omega); by_cases hmc : mcap = 1
        all_goals
          go_wp2_with (first
            | (at_builtin
               have hbs := HB9.out.size; have hsz := HSz.out; have hkk := HK.out; have hq2 := HQ2.out; have hcp := HCap.out; have hBw := below_join HBb.out HB9.out; (refine wpList_appG rfl _ _ 22 rfl wb.heap.size 52 i1 (.agg #[.int .i64 0, .string ⟨#[]⟩, .bool false, .slice none 0 0]) 4 56 Try.underlying22 hi1 hy0 hy1 hy2 rfl (by decide) (some ⟨g3, 0, none⟩) (k + 1) cp3 _ rfl HT3.out _ (m.length - 1) _ dm rfl (hq2.1.len.trans (by rw [hq2.2.1]; omega)) (fun hpos => ?_) hq2.1.one (by unfold maxLen; omega) (by omega) hbs ?_)
               · first
                 | omega
                 | exact ⟨bm, om + 4, rfl, fun j u hj => (hBw.cell (lt_of_cell (HDm.out j u hj))).trans (HDm.out j u hj)⟩
               intro ad6 cp6 wc hown6 hk6; have HTc : Hid (wc.ownsRow wb.heap.size 52 4 (.slice ad6 (k + 1 + (m.length - 1)) cp6) (k + 1 + (m.length - 1)) ((dl ++ [.int .i64 2, .string ⟨#[]⟩, .bool false, .slice (some ⟨q, 0, none⟩) 2 2]) ++ dm)) := hown6; have HBc : Hid (Below wb.heap.size wb wc) := kept_row HB9.out hbs HT3.out hk6; (have HQc : Hid (wc.heap[q]? = some (.cells #[u0, u1, u2, u3, y0, y1, y2, y3] 52 (0, 0))) := (hk6.block q (lt_of_block HQ3.out.1) fun e => HQ3.out.2 (Option.some.inj (show some g3 = some q from e)).symm).trans HQ3.out.1)
               clear hown6 hk6 hbs hsz hkk hq2 hBw hcp)
            | fail)
          (obtain ⟨x3, hx3⟩ := corrB_ex (l ++ m) (a ++ b.map fun p => ((d : Int) + p.1, (d : Int) + p.2))); (obtain ⟨x4, hx4⟩ := corrB_ex (l' ++ tenL f0 h0 :: m') (a ++ b.map fun p => ((d : Int) + p.1, (d : Int) + p.2)))
          have h199 : Lm.sizes l + Lm.sizes m ≤ 199 := by
            have h1 := H199.out; have h2 := HS.out; omega
          obtain ⟨hz3, hn3⟩ := side_b HNn.out.1 HNn.out.2.1 H20.out h199 HD.out hx3; obtain ⟨hz4, hn4⟩ := ten_b HQ1.out.2.2.1 HQ2.out.2.2.1 HNn.out.1 HNn.out.2.1 H20.out h199 HD.out HNn.out.2.2.1 HNn.out.2.2.2 hx4; (obtain ⟨c3, hc3⟩ : ∃ c : Int, (netE (netC (l ++ m) (a ++ b.map fun p => ((d : Int) + p.1, (d : Int) + p.2)))).1 = c := ⟨_, rfl⟩); (obtain ⟨d3, hd3⟩ : ∃ c : Int, (netE (netC (l ++ m) (a ++ b.map fun p => ((d : Int) + p.1, (d : Int) + p.2)))).2 = c := ⟨_, rfl⟩); (obtain ⟨c4, hc4⟩ : ∃ c : Int, (netE (netC (l' ++ tenL f0 h0 :: m') (a ++ b.map fun p => ((d : Int) + p.1, (d : Int) + p.2)))).1 = c := ⟨_, rfl⟩); (obtain ⟨d4, hd4⟩ : ∃ c : Int, (netE (netC (l' ++ tenL f0 h0 :: m') (a ++ b.map fun p => ((d : Int) + p.1, (d : Int) + p.2)))).2 = c := ⟨_, rfl⟩); have hBw := below_join HBb.out HBc.out; (have hpl := links_pl (rs := a ++ b.map fun p => ((d : Int) + p.1, (d : Int) + p.2)) (by rw [List.length_append, List.length_map]) (rowM_up HRb.out HBc.out)); have hll3 := two_ll hBw HQl.out.1 HQm.out.1 rfl (rowM_up HOb.out HBc.out); (have hll4 := ten_ll hBw HQ1.out.1 HQ1.out.2.2.2 HQ2.out.2.2.2 HQ2.out.1 HQc.out (by have h1 := HQ1.out.2.1; have h2 := HQ2.out.2.1; have h3 := HK.out; omega) HTc.out); (have HC3 : Hid (∀ W, Below wc.heap.size wc W → Calls Try.prog 12 #[.slice ad5 (l.length + m.length) cp5, .slice ad (a.length + b.length) cp] W fun e w' => e = .returned (.tuple #[.bool x3, .agg #[.int .i64 c3, .int .i64 d3]]) ∧ Below W.heap.size W w') := fun W h => by rw [← hc3, ← hd3]; exact correct_any _ _ x3 hx3 _ _ W (hll3.up h) (hpl.up h)); (have HC4 : Hid (∀ W, Below wc.heap.size wc W → Calls Try.prog 12 #[.slice ad6 (k + 1 + (m.length - 1)) cp6, .slice ad (a.length + b.length) cp] W fun e w' => e = .returned (.tuple #[.bool x4, .agg #[.int .i64 c4, .int .i64 d4]]) ∧ Below W.heap.size W w') := fun W h => by rw [← hc4, ← hd4]; exact correct_any _ _ x4 hx4 _ _ W (hll4.up h) (hpl.up h)); have HZ : Hid (x3 = false ∧ x4 = (x && y) ∧ c3 = 0 ∧ c4 = 0) := ⟨hz3, hz4, hc3.symm.trans hn3, hc4.symm.trans hn4⟩; have HBw : Hid (Below w.heap.size w wc) := hBw; clear hx3 hx4 h199 hz3 hn3 hz4 hn4 hc3 hd3 hc4 hd4 hBw hpl hll3 hll4 HTc HQc HBc HOb HRb HBb HT3 HQ3 HQ1 HQ2 HQl HQm HNn HDl HDm HU HY HO1 HCap; refine (HC3.out wc (Below.refl _ _)).mono ?_; rintro _ w13 ⟨rfl, hb13⟩; obtain ⟨X3, hX3⟩ : ∃ X, X = w13.alloc (.cells #[.int .i64 c3, .int .i64 d3] 28 (0, 0)) := ⟨_, rfl⟩; (have HB3x : Hid (Below wc.heap.size wc X3) := by rw [hX3]; exact below_more hb13 _); (have HX3 : Hid (X3.heap[w13.heap.size]? = some (.cells #[.int .i64 c3, .int .i64 d3] 28 (0, 0))) := by rw [hX3]; exact blk_new _ _); have hXe3 := hX3.symm; clear hX3 hb13; go_wp2_with fail; refine (HC4.out X3 HB3x.out).mono ?_; rintro _ w14 ⟨rfl, hb14⟩; obtain ⟨Y3, hY3⟩ : ∃ Y, Y = w14.alloc (.cells #[.int .i64 c4, .int .i64 d4] 28 (0, 0)) := ⟨_, rfl⟩; (have hbY3 : Below X3.heap.size X3 Y3 := by rw [hY3]; exact below_more hb14 _); have HBE : Hid (Below w.heap.size w Y3) := below_join HBw.out (below_join HB3x.out hbY3); have HY3 : Hid (Y3.heap[w13.heap.size]? = some (.cells #[.int .i64 c3, .int .i64 d3] 28 (0, 0))) := below_keep hbY3 HX3.out; (have HY4 : Hid (Y3.heap[w14.heap.size]? = some (.cells #[.int .i64 c4, .int .i64 d4] 28 (0, 0))) := by rw [hY3]; exact blk_new _ _); obtain ⟨q0, q1, -⟩ := blk2 HY3.out; obtain ⟨q2, q3, -⟩ := blk2 HY4.out; have hYe3 := hY3.symm; obtain ⟨e1, e2, e3, e4⟩ := HZ.out; subst e1; (have hc3e : (c3 == 0) = true := by rw [e3]; rfl); (have hc4e : (c4 == 0) = true := by rw [e4]; rfl); clear hY3 hb14 hbY3 hXe3 HZ e3 e4 HX3
          cases x <;> cases y <;> subst e2
          all_goals
            go_wp2_with fail; go_ret; exact ⟨rfl, HBE.out⟩
end Go.Proofs.Ytealalhgkdlmkai
