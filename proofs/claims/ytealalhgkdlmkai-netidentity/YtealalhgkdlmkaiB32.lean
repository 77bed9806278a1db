/- Texts of one proof, one behind the other: NI8. -/
import Derived.Test.YtealalhgkdlmkaiB31
import Derived.Test.YtealalhgkdlmkaiB28
import Derived.Test.YtealalhgkdlmkaiB06
import Derived.Test.YtealalhgkdlmkaiB07
/- The law NetIdentity. -/
namespace Go.Proofs.Ytealalhgkdlmkai
open Go.RowKit Go.Sort

theorem rowNI2 (l : List Value) (h0 : l.length = 2) : ∃ x0 x1, l = [x0, x1] := by
  obtain ⟨x0, l1, e0, h1⟩ := cons_lenM h0; obtain ⟨x1, l2, e1, h2⟩ := cons_lenM h1; have e2 : l2 = [] := List.length_eq_zero_iff.1 h2; subst e2 e1 e0; exact ⟨x0, x1, rfl⟩
theorem rowNI9 (l : List Value) (h0 : l.length = 9) : ∃ x0 x1 x2 x3 x4 x5 x6 x7 x8, l = [x0, x1, x2, x3, x4, x5, x6, x7, x8] := by
  obtain ⟨x0, l1, e0, h1⟩ := cons_lenM h0; obtain ⟨x1, l2, e1, h2⟩ := cons_lenM h1; obtain ⟨x2, l3, e2, h3⟩ := cons_lenM h2; obtain ⟨x3, l4, e3, h4⟩ := cons_lenM h3; obtain ⟨x4, l5, e4, h5⟩ := cons_lenM h4; obtain ⟨x5, l6, e5, h6⟩ := cons_lenM h5; obtain ⟨x6, l7, e6, h7⟩ := cons_lenM h6; obtain ⟨x7, l8, e7, h8⟩ := cons_lenM h7; obtain ⟨x8, l9, e8, h9⟩ := cons_lenM h8; have e9 : l9 = [] := List.length_eq_zero_iff.1 h9; subst e9 e8 e7 e6 e5 e4 e3 e2 e1 e0; exact ⟨x0, x1, x2, x3, x4, x5, x6, x7, x8, rfl⟩
theorem rowNI17 (l : List Value) (h0 : l.length = 17) : ∃ x0 x1 x2 x3 x4 x5 x6 x7 x8 x9 x10 x11 x12 x13 x14 x15 x16, l = [x0, x1, x2, x3, x4, x5, x6, x7, x8, x9, x10, x11, x12, x13, x14, x15, x16] := by
  obtain ⟨x0, l1, e0, h1⟩ := cons_lenM h0; obtain ⟨x1, l2, e1, h2⟩ := cons_lenM h1; obtain ⟨x2, l3, e2, h3⟩ := cons_lenM h2; obtain ⟨x3, l4, e3, h4⟩ := cons_lenM h3; obtain ⟨x4, l5, e4, h5⟩ := cons_lenM h4; obtain ⟨x5, l6, e5, h6⟩ := cons_lenM h5; obtain ⟨x6, l7, e6, h7⟩ := cons_lenM h6; obtain ⟨x7, l8, e7, h8⟩ := cons_lenM h7; obtain ⟨x8, l9, e8, h9⟩ := cons_lenM h8; obtain ⟨x9, l10, e9, h10⟩ := cons_lenM h9; obtain ⟨x10, l11, e10, h11⟩ := cons_lenM h10; obtain ⟨x11, l12, e11, h12⟩ := cons_lenM h11; obtain ⟨x12, l13, e12, h13⟩ := cons_lenM h12; obtain ⟨x13, l14, e13, h14⟩ := cons_lenM h13; obtain ⟨x14, l15, e14, h15⟩ := cons_lenM h14; obtain ⟨x15, l16, e15, h16⟩ := cons_lenM h15; obtain ⟨x16, l17, e16, h17⟩ := cons_lenM h16; have e17 : l17 = [] := List.length_eq_zero_iff.1 h17; subst e17 e16 e15 e14 e13 e12 e11 e10 e9 e8 e7 e6 e5 e4 e3 e2 e1 e0; exact ⟨x0, x1, x2, x3, x4, x5, x6, x7, x8, x9, x10, x11, x12, x13, x14, x15, x16, rfl⟩
set_option maxRecDepth 10000 in
set_option maxHeartbeats 32000000 in
theorem ident_law (x : Lm) (l : List Lm) (a : List (Int × Int)) (vx vl va : Value) (w : World) (hx : LRep w x vx) (hl : LL w vl l) (ha : PL w va a) :
    Calls Try.prog 6 #[vx, vl, va] w fun e w' => e = .returned (.bool true) ∧ Below w.heap.size w w' := by
  obtain ⟨k, n, g, ks⟩ := x; obtain ⟨sl, cap, rfl, hx1, hx2, hx3, -⟩ := LRep.def.1 hx; obtain ⟨x, hxe⟩ : ∃ x, x = Lm.mk k n g ks := ⟨_, rfl⟩; rw [← hxe] at hx; have HX : Hid (LRep w x (.agg #[.int .i64 k, .string n, .bool g, .slice sl ks.length cap])) := hx; have HB0 : Hid (Below w.heap.size w (w.alloc (.cells #[.int .i64 k, .string n, .bool g, .slice sl ks.length cap] 52 (0, 0)))) := below_more (Below.refl _ _) _; have HQ0 : Hid ((w.alloc (.cells #[.int .i64 k, .string n, .bool g, .slice sl ks.length cap] 52 (0, 0))).heap[w.heap.size]? = some (.cells #[.int .i64 k, .string n, .bool g, .slice sl ks.length cap] 52 (0, 0))) := blk_new _ _; (have HBe : Hid (∀ W, Calls Try.prog 8 #[] W _) := fun W => netBegun_any W); (have HVx : Hid (∀ W, Below w.heap.size w W → Calls Try.prog 9 #[.slice (some ⟨W.heap.size, 0, none⟩) 1 1, .int .i64 0] (W.alloc (.cells #[.int .i64 k, .string n, .bool g, .slice sl ks.length cap] 52 (0, 0))) _) := fun W h => vastLinear_any [x] _ _ (one_ll h hx)); (have HVl : Hid (∀ W, Below w.heap.size w W → Calls Try.prog 9 #[vl, .int .i64 0] W _) := fun W h => vastLinear_any l vl W (hl.up h)); (have HLF : Hid (∀ W, Below w.heap.size w W → Calls Try.prog 15 #[.slice (some ⟨W.heap.size, 0, none⟩) 1 1] (W.alloc (.cells #[.int .i64 k, .string n, .bool g, .slice sl ks.length cap] 52 (0, 0))) (LFPost [x] (W.alloc (.cells #[.int .i64 k, .string n, .bool g, .slice sl ks.length cap] 52 (0, 0))))) := fun W h => linFault_any [x] _ _ (one_ll h hx)); obtain ⟨B1, hB1⟩ := corrB_ex l a; obtain ⟨c1, hc1⟩ : ∃ c : Int, (netE (netC l a)).1 = c := ⟨_, rfl⟩; obtain ⟨d1, hd1⟩ : ∃ c : Int, (netE (netC l a)).2 = c := ⟨_, rfl⟩; (have HCl : Hid (∀ W, Below w.heap.size w W → Calls Try.prog 12 #[vl, va] W fun e w' => e = .returned (.tuple #[.bool B1, .agg #[.int .i64 c1, .int .i64 d1]]) ∧ Below W.heap.size W w') := fun W h => by rw [← hc1, ← hd1]; exact correct_any l a B1 hB1 vl va W (hl.up h) (ha.up h)); have HLl : Hid (LL w vl l) := hl; have HPa : Hid (PL w va a) := ha; have HCC : Hid ((netE (netC l a)).1 = c1 ∧ CorrB l a B1) := ⟨hc1, hB1⟩; obtain ⟨sl1, cap1, hvl, hsl1, hsl2, -⟩ := id hl; obtain ⟨asl, acap, hva, -⟩ := id ha; subst hvl; subst hva; (have hllI : (l.length : Int) ≤ 9223372036854775807 := by unfold maxLen at hsl2; omega); have HXe : Hid (x = Lm.mk k n g ks) := hxe; (have hfc := fun a b w => fault_code a b w); clear hl ha hB1 hc1 hd1 hsl1 hsl2 hx hxe hx1 hx2 hx3
  go_enter Try.func6, Try.ntmps6
  go_wp2_with fail; refine (HBe.out (w.alloc (.cells #[.int .i64 k, .string n, .bool g, .slice sl ks.length cap] 52 (0, 0)))).mono ?_; rintro _ w1 ⟨rfl, hb1⟩; have HB1 : Hid (Below w.heap.size w w1) := below_join HB0.out hb1; have HQ1 : Hid (w1.heap[w.heap.size]? = some (.cells #[.int .i64 k, .string n, .bool g, .slice sl ks.length cap] 52 (0, 0))) := below_keep hb1 HQ0.out; obtain ⟨q0, q1, q2, q3⟩ := blk4L HQ1.out; clear hb1; go_wp2_with fail; refine (HVx.out w1 HB1.out).mono ?_; rintro _ w2 ⟨⟨bb, rfl⟩, hb2⟩; have hb2' := below_join (below_more (Below.refl w1.heap.size w1) (.cells #[.int .i64 k, .string n, .bool g, .slice sl ks.length cap] 52 (0, 0))) hb2; have HB2 : Hid (Below w.heap.size w w2) := below_join HB1.out hb2'; have HQ2 : Hid (w2.heap[w.heap.size]? = some (.cells #[.int .i64 k, .string n, .bool g, .slice sl ks.length cap] 52 (0, 0))) := below_keep hb2' HQ1.out; clear hb2 hb2' q0 q1 q2 q3
  cases bb
  case true =>
    go_wp2_with fail; go_ret; exact ⟨rfl, HB2.out⟩
  go_wp2_with fail; refine (HVl.out w2 HB2.out).mono ?_; rintro _ w3 ⟨⟨bb, rfl⟩, hb3⟩; have HB3 : Hid (Below w.heap.size w w3) := below_join HB2.out hb3; have HQ3 : Hid (w3.heap[w.heap.size]? = some (.cells #[.int .i64 k, .string n, .bool g, .slice sl ks.length cap] 52 (0, 0))) := below_keep hb3 HQ2.out; clear hb3
  cases bb
  case true =>
    go_wp2_with fail; go_ret; exact ⟨rfl, HB3.out⟩
  obtain ⟨q0, q1, q2, q3⟩ := blk4L HQ3.out; go_wp2_with fail; refine (HLF.out w3 HB3.out).mono ?_; rintro _ w4 ⟨c, d, rfl, hfine, hb4⟩; have hb4' := below_join (below_more (Below.refl w3.heap.size w3) (.cells #[.int .i64 k, .string n, .bool g, .slice sl ks.length cap] 52 (0, 0))) hb4; have HB4 : Hid (Below w.heap.size w w4) := below_join HB3.out hb4'; have HQ4 : Hid (w4.heap[w.heap.size]? = some (.cells #[.int .i64 k, .string n, .bool g, .slice sl ks.length cap] 52 (0, 0))) := below_keep hb4' HQ3.out; clear hb4 hb4' q0 q1 q2 q3; by_cases hc : c = 0
  case neg =>
    (have hcJ : (c == 0) = false := by simpa using hc); clear hfine hc; obtain ⟨wz, hwz⟩ : ∃ wz, wz = w4 := ⟨_, rfl⟩; subst hwz; have HBz : Hid (Below w.heap.size w wz) := HB4; go_wp2_with fail; refine (HCl.out wz HBz.out).mono ?_; rintro _ u1 ⟨rfl, hv1⟩; obtain ⟨X1, hX1⟩ : ∃ X, X = u1.alloc (.cells #[.int .i64 c1, .int .i64 d1] 28 (0, 0)) := ⟨_, rfl⟩; (have HBX : Hid (Below w.heap.size w X1) := by rw [hX1]; exact below_more (below_join HBz.out hv1) _); (have HE1 : Hid (X1.heap[u1.heap.size]? = some (.cells #[.int .i64 c1, .int .i64 d1] 28 (0, 0))) := by rw [hX1]; exact blk_new _ _); have HU1 : Hid (w.heap.size ≤ u1.heap.size) := (below_join HBz.out hv1).size; obtain ⟨q0, q1, -⟩ := blk2 HE1.out; have hXe := hX1.symm; clear hX1 hv1; by_cases hc1 : c1 = 0
    case neg =>
      (have hcn : (c1 != 0) = true := by simpa using hc1); clear hc1; go_wp2_with fail; go_ret; exact ⟨rfl, HBX.out⟩
    (have hcn : (c1 != 0) = false := by simpa using hc1); by_cases hl2 : l.length < 2
    case pos =>
      (have hl2I : (l.length : Int) < 2 := by omega); clear hc1 hl2; go_wp2_with fail; go_ret; exact ⟨rfl, HBX.out⟩
    (have hl2I : ¬ (l.length : Int) < 2 := by omega); obtain ⟨e1, hB1⟩ := HCC.out
    obtain ⟨mu1, k1, hn1⟩ : ∃ mu1 k1, netC l a = .ok mu1 k1 := by
      rcases hn : netC l a with ⟨c, p⟩ | ⟨mu, k⟩
      · rw [hn] at e1
        exact absurd (e1.trans hc1) (netC_bad hn)
      · exact ⟨mu, k, rfl⟩
    (have hB2 : B1 = true ↔ CorrN l mu1 a.length := by unfold CorrB at hB1; rw [hn1] at hB1; exact hB1); obtain ⟨g1, g2, g3, g4, -, -⟩ := netC_ok hn1; have HNn : Hid (netC l a = .ok mu1 k1 ∧ (B1 = true ↔ CorrN l mu1 a.length)) := ⟨hn1, hB2⟩; (have HSz : Hid (2 ≤ l.length ∧ l.length ≤ 20 ∧ Lm.sizes l ≤ 200) := ⟨by omega, g2, g4⟩); (have HJl : Hid (∀ W, Below w.heap.size w W → Calls Try.prog 32 #[.slice sl1 l.length cap1, .int .i64 201] W _) := fun W h => linears_any l _ 201 W (HLl.out.up h) (by omega) (by omega)); obtain ⟨S1, hS1⟩ : ∃ S1, S1 = Lm.sizes l := ⟨_, rfl⟩; rw [← hS1] at HJl; have HSe : Hid (S1 = Lm.sizes l) := hS1; (have hS1I : (S1 : Int) ≤ 200 := by omega); (have hlI : (l.length : Int) ≤ 20 := by omega); clear hc1 hl2 e1 hB1 hn1 hB2 g1 g2 g3 g4 hS1 HCC HCl; go_wp2_with fail; refine (HJl.out X1 HBX.out).mono ?_; rintro _ u2 ⟨a9, p9, cs9, rfl, -, -, hv2⟩; have HBa : Hid (Below w.heap.size w u2) := below_join HBX.out hv2; have HE2 : Hid (u2.heap[u1.heap.size]? = some (.cells #[.int .i64 c1, .int .i64 d1] 28 (0, 0))) := below_keep hv2 HE1.out; clear hv2 q0 q1 hXe; by_cases h199 : 199 < S1
    case pos =>
      (have h199I : (199 : Int) < (S1 : Int) := by omega); clear h199; go_wp2_with fail; go_ret; exact ⟨rfl, HBa.out⟩
    (have h199I : ¬ (199 : Int) < (S1 : Int) := by omega); (have H199 : Hid (Lm.sizes l ≤ 199) := by have := HSe.out; show _ ≤ _; omega); clear h199; obtain ⟨csl, hql, hcl⟩ := HLl.out.cells0; have hsz9 := HSz.out; (obtain ⟨k0, hk0⟩ : ∃ k0, l.length = k0 + 2 := ⟨l.length - 2, by omega⟩); obtain ⟨l', f0, h0, dl, u0, u1', u2', u3, y0, y1, y2, y3, el, hl', ecl, hq1, hf0, hh0⟩ := LQ4.last2 k0 hql hk0; (obtain ⟨bl, ol, rfl, hcl2⟩ := hcl (by omega)); (have hdl : dl.length = k0 * 4 := by rw [hq1.len, hl']); (have HDu2 : Hid (∀ (j : Nat) (u : Value), (dl ++ [u0, u1', u2', u3])[j]? = some u → w.cell? ⟨bl, ol + j, none⟩ = some u) := fun j u hu => hcl2 j u (by rw [ecl, List.getElem?_append_left (List.getElem?_eq_some_iff.1 hu).1]; exact hu)); (have HDl : Hid (∀ (j : Nat) (u : Value), dl[j]? = some u → w.cell? ⟨bl, ol + j, none⟩ = some u) := fun j u hu => HDu2.out j u (by rw [List.getElem?_append_left (List.getElem?_eq_some_iff.1 hu).1]; exact hu)); have HU := last_cells rfl hdl HDu2.out; (have HY := last_cells (n := (k0 + 1) * 4) ecl (by rw [List.length_append, hdl]; simp; omega) hcl2); have HU : Hid (w.cell? ⟨bl, ol + k0 * 4, none⟩ = some u0 ∧ w.cell? ⟨bl, ol + k0 * 4 + 1, none⟩ = some u1' ∧ w.cell? ⟨bl, ol + k0 * 4 + 2, none⟩ = some u2' ∧ w.cell? ⟨bl, ol + k0 * 4 + 3, none⟩ = some u3) := HU; have HY : Hid (w.cell? ⟨bl, ol + (k0 + 1) * 4, none⟩ = some y0 ∧ w.cell? ⟨bl, ol + (k0 + 1) * 4 + 1, none⟩ = some y1 ∧ w.cell? ⟨bl, ol + (k0 + 1) * 4 + 2, none⟩ = some y2 ∧ w.cell? ⟨bl, ol + (k0 + 1) * 4 + 3, none⟩ = some y3) := HY; have HQ1' : Hid (LQ4 w dl l' ∧ l'.length = k0 ∧ l = l' ++ [f0, h0] ∧ LRep w f0 (.agg #[u0, u1', u2', u3]) ∧ LRep w h0 (.agg #[y0, y1, y2, y3])) := ⟨hq1, hl', el, hf0, hh0⟩
    obtain ⟨hcapl, hcapm⟩ : l.length ≤ cap1 ∧ cap1 ≤ maxLen := by
      obtain ⟨s1, p1, e1, g1, g2, -⟩ := HLl.out; simp only [Value.slice.injEq, true_and] at e1; obtain ⟨-, rfl⟩ := e1; exact ⟨g1, g2⟩
    (have hkI : (l.length : Int) - 2 = (k0 : Int) := by omega); have HK : Hid (l.length = k0 + 2 ∧ l.length ≤ cap1) := ⟨hk0, hcapl⟩; (have hkl : (k0 : Int) < (l.length : Int) := by omega); (have hkl1 : (k0 : Int) + 1 < (l.length : Int) := by omega); (have hkc : (k0 : Int) ≤ (cap1 : Int) := by omega); (have hk20 : (k0 : Int) ≤ 20 := by omega); obtain ⟨i1, hi1, hy0, hy1, hy2⟩ := infoLm; clear hql hcl hsz9 hk0 el hl' ecl hq1 hf0 hh0 hcl2 hdl hcapl hcapm; go_wp2_with fail; clear hkI; (refine wp_region_wrd (by kernel_rfl) [fun v _ _ => v = (.slice (some ⟨bl, ol, none⟩) l.length cap1), fun v _ _ => v = (.int .i64 (k0 : Nat)), fun v _ _ => v = (.slice (some ⟨bl, ol, none⟩) k0 cap1), fun v w9 t => ∃ ad3 cp3, v = .slice ad3 k0 cp3 ∧ w9.ownsRow u2.heap.size 52 4 (.slice ad3 k0 cp3) k0 dl ∧ ∀ g, (Value.slice ad3 k0 cp3).ownBlock = some g → t g = 3, fun v _ _ => v = (.slice (some ⟨bl, ol, none⟩) l.length cap1), fun v _ _ => v = (.int .i64 (k0 : Nat)), fun v _ _ => v = (.pointer (some ⟨bl, ol + k0 * 4, none⟩)), fun v _ _ => v = (.agg #[u0, u1', u2', u3]), fun v _ _ => v = (.slice (some ⟨bl, ol, none⟩) l.length cap1), fun v _ _ => v = (.int .i64 (k0 : Nat)), fun v _ _ => v = (.int .i64 ((k0 + 1) : Nat)), fun v _ _ => v = (.pointer (some ⟨bl, ol + (k0 + 1) * 4, none⟩)), fun v _ _ => v = (.agg #[y0, y1, y2, y3]), fun v w9 t => ∃ q, v = .slice (some ⟨q, 0, none⟩) 2 2 ∧ w9.heap[q]? = some (.cells #[u0, u1', u2', u3, y0, y1, y2, y3] 52 (0, 0)) ∧ t q = 13, fun v w9 t => ∃ q, v = (.agg #[.int .i64 3, .string ⟨#[]⟩, .bool false, .slice (some ⟨q, 0, none⟩) 2 2]) ∧ w9.heap[q]? = some (.cells #[u0, u1', u2', u3, y0, y1, y2, y3] 52 (0, 0)) ∧ t q = 13, fun v w9 t => ∃ q q2, v = .slice (some ⟨q2, 0, none⟩) 1 1 ∧ w9.heap[q2]? = some (.cells #[.int .i64 3, .string ⟨#[]⟩, .bool false, .slice (some ⟨q, 0, none⟩) 2 2] 52 (0, 0)) ∧ w9.heap[q]? = some (.cells #[u0, u1', u2', u3, y0, y1, y2, y3] 52 (0, 0)) ∧ t q = 13, fun _ _ _ => True] ?_ (by kernel_rfl) (by kernel_rfl) 125 rfl (by kernel_rfl) 17 _ rfl rfl 6 (by kernel_rfl) (fun _ => none) 16 _ (by decide) rfl rfl 12 (by kernel_rfl) (fun v w9 => ∃ g3 cp3 q, v = (.slice (some ⟨g3, 0, none⟩) (k0 + 1) cp3) ∧ Hid (w9.ownsRow u2.heap.size 52 4 (.slice (some ⟨g3, 0, none⟩) (k0 + 1) cp3) (k0 + 1) (dl ++ [.int .i64 3, .string ⟨#[]⟩, .bool false, .slice (some ⟨q, 0, none⟩) 2 2])) ∧ Hid (w9.heap[q]? = some (.cells #[u0, u1', u2', u3, y0, y1, y2, y3] 52 (0, 0))) ∧ Hid (Below u2.heap.size u2 w9)) ?_ ?_ ?_ ?_)
    · intro p hp
      simp only [List.mem_cons, List.not_mem_nil, or_false] at hp
      rcases hp with rfl | rfl | rfl | rfl | rfl | rfl | rfl | rfl | rfl | rfl | rfl | rfl | rfl | rfl | rfl | rfl | rfl
      · exact fun _ _ _ _ _ h _ _ => h
      · exact fun _ _ _ _ _ h _ _ => h
      · exact fun _ _ _ _ _ h _ _ => h
      · rintro v w1 t w2 t' ⟨ad3, cp3, e, h, hm⟩ hb ht
        (exact ⟨ad3, cp3, e, rowM_up h hb, fun g hg => (ht g (h.lt g hg).2).trans (hm g hg)⟩)
      · exact fun _ _ _ _ _ h _ _ => h
      · exact fun _ _ _ _ _ h _ _ => h
      · exact fun _ _ _ _ _ h _ _ => h
      · exact fun _ _ _ _ _ h _ _ => h
      · exact fun _ _ _ _ _ h _ _ => h
      · exact fun _ _ _ _ _ h _ _ => h
      · exact fun _ _ _ _ _ h _ _ => h
      · exact fun _ _ _ _ _ h _ _ => h
      · exact fun _ _ _ _ _ h _ _ => h
      · rintro v w1 t w2 t' ⟨q, e, h, hm⟩ hb ht
        exact ⟨q, e, below_keep hb h, (ht q (lt_of_block h)).trans hm⟩
      · rintro v w1 t w2 t' ⟨q, e, h, hm⟩ hb ht
        exact ⟨q, e, below_keep hb h, (ht q (lt_of_block h)).trans hm⟩
      · rintro v w1 t w2 t' ⟨q, q2, e, h2, h, hm⟩ hb ht
        exact ⟨q, q2, e, below_keep hb h2, below_keep hb h, (ht q (lt_of_block h)).trans hm⟩
      · exact fun _ _ _ _ _ h _ _ => h
    · intro j c wq tq hj
      cases hj
    · refine ⟨?_, ?_, ?_, ?_, ?_, ?_, ?_, ?_, ?_, ?_, ?_, ?_, ?_, ?_, ?_, ?_, ?_, trivial⟩
      · show StepOkD _ _ _ _ _ _ _ _ _
        intro aa wx tg hB hold hdep K hK; have t1 : aa.tmps[1]? = some (.slice (some ⟨bl, ol, none⟩) l.length cap1) := hold.2.2 1 rfl; clear hold hdep; go_simp; exact hK.out _ _ rfl (Below.refl _ _)
      · show StepOkD _ _ _ _ _ _ _ _ _
        intro aa wx tg hB hold hdep K hK; have t14 : aa.tmps[14]? = some (.int .i64 (k0 : Nat)) := hold.2.2 14 rfl; clear hold hdep; go_simp; exact hK.out _ _ rfl (Below.refl _ _)
      · show StepOkD _ _ _ _ _ _ _ _ _
        intro aa wx tg hB hold hdep K hK; obtain ⟨v94, t94, p94⟩ := hdep 0 rfl _ 94 rfl rfl; have e94 : v94 = (.slice (some ⟨bl, ol, none⟩) l.length cap1) := p94; subst e94; obtain ⟨v95, t95, p95⟩ := hdep 1 rfl _ 95 rfl rfl; have e95 : v95 = (.int .i64 (k0 : Nat)) := p95; subst e95; clear hold hdep; go_simp; exact hK.out _ _ rfl (Below.refl _ _)
      · show StepOkD _ _ _ _ _ _ _ _ _
        intro aa wx tg hB hold hdep K hK; obtain ⟨v96, t96, p96⟩ := hdep 2 rfl _ 96 rfl rfl; have e96 : v96 = (.slice (some ⟨bl, ol, none⟩) k0 cap1) := p96; subst e96; have hBw := below_join HBa.out hB; have hq1 := HQ1'.out; have hsz := HSz.out; have hkk := HK.out; clear hold hdep; (refine step_app0 rfl _ _ 22 rfl 52 i1 (.agg #[.int .i64 0, .string ⟨#[]⟩, .bool false, .slice none 0 0]) 4 56 Try.underlying22 hi1 hy0 hy1 hy2 rfl (by decide) (some ⟨bl, ol, none⟩) k0 cap1 dl rfl (eval_tmpM t96) (hq1.1.len.trans (by rw [hq1.2.1])) (fun _ => ⟨bl, ol, rfl, fun j u hu => (hBw.cell (lt_of_cell (HDl.out j u hu))).trans (HDl.out j u hu)⟩) hq1.1.one (by unfold maxLen; omega) (by omega) ?_); intro ad3 cp3 w3 h3 b3; (refine hK.out _ _ ⟨ad3, cp3, rfl, rowM_low h3 hB.size, fun g hg => if_neg ?_⟩ b3); have := (h3.lt g hg).1; omega
      · show StepOkD _ _ _ _ _ _ _ _ _
        intro aa wx tg hB hold hdep K hK; have t1 : aa.tmps[1]? = some (.slice (some ⟨bl, ol, none⟩) l.length cap1) := hold.2.2 1 rfl; clear hold hdep; go_simp; exact hK.out _ _ rfl (Below.refl _ _)
      · show StepOkD _ _ _ _ _ _ _ _ _
        intro aa wx tg hB hold hdep K hK; have t14 : aa.tmps[14]? = some (.int .i64 (k0 : Nat)) := hold.2.2 14 rfl; clear hold hdep; go_simp; exact hK.out _ _ rfl (Below.refl _ _)
      · show StepOkD _ _ _ _ _ _ _ _ _
        intro aa wx tg hB hold hdep K hK; obtain ⟨v98, t98, p98⟩ := hdep 4 rfl _ 98 rfl rfl; have e98 : v98 = (.slice (some ⟨bl, ol, none⟩) l.length cap1) := p98; subst e98; obtain ⟨v99, t99, p99⟩ := hdep 5 rfl _ 99 rfl rfl; have e99 : v99 = (.int .i64 (k0 : Nat)) := p99; subst e99; clear hold hdep; go_simp; exact hK.out _ _ rfl (Below.refl _ _)
      · show StepOkD _ _ _ _ _ _ _ _ _
        intro aa wx tg hB hold hdep K hK; obtain ⟨v100, t100, p100⟩ := hdep 6 rfl _ 100 rfl rfl; have e100 : v100 = (.pointer (some ⟨bl, ol + k0 * 4, none⟩)) := p100; subst e100; have hBw := below_join HBa.out hB; have f0 := (hBw.cell (lt_of_cell HU.out.1)).trans HU.out.1; have f1 := (hBw.cell (lt_of_cell HU.out.2.1)).trans HU.out.2.1; have f2 := (hBw.cell (lt_of_cell HU.out.2.2.1)).trans HU.out.2.2.1; have f3 := (hBw.cell (lt_of_cell HU.out.2.2.2)).trans HU.out.2.2.2; clear hold hdep; go_simp; exact hK.out _ _ rfl (Below.refl _ _)
      · show StepOkD _ _ _ _ _ _ _ _ _
        intro aa wx tg hB hold hdep K hK; have t1 : aa.tmps[1]? = some (.slice (some ⟨bl, ol, none⟩) l.length cap1) := hold.2.2 1 rfl; clear hold hdep; go_simp; exact hK.out _ _ rfl (Below.refl _ _)
      · show StepOkD _ _ _ _ _ _ _ _ _
        intro aa wx tg hB hold hdep K hK; have t14 : aa.tmps[14]? = some (.int .i64 (k0 : Nat)) := hold.2.2 14 rfl; clear hold hdep; go_simp; exact hK.out _ _ rfl (Below.refl _ _)
      · show StepOkD _ _ _ _ _ _ _ _ _
        intro aa wx tg hB hold hdep K hK; obtain ⟨v103, t103, p103⟩ := hdep 9 rfl _ 103 rfl rfl; have e103 : v103 = (.int .i64 (k0 : Nat)) := p103; subst e103; clear hold hdep; go_simp; (have e9 : (k0 : Int) + 1 = ((k0 + 1 : Nat) : Int) := by omega); (rw [e9, wrap_small (k0 + 1) (by omega)]); exact hK.out _ _ rfl (Below.refl _ _)
      · show StepOkD _ _ _ _ _ _ _ _ _
        intro aa wx tg hB hold hdep K hK; obtain ⟨v102, t102, p102⟩ := hdep 8 rfl _ 102 rfl rfl; have e102 : v102 = (.slice (some ⟨bl, ol, none⟩) l.length cap1) := p102; subst e102; obtain ⟨v104, t104, p104⟩ := hdep 10 rfl _ 104 rfl rfl; have e104 : v104 = (.int .i64 ((k0 + 1) : Nat)) := p104; subst e104; (have hk1N : k0 + 1 < l.length := by have := HK.out; omega); (have hk1I : ((k0 + 1 : Nat) : Int) < (l.length : Int) := by omega); clear hold hdep; go_simp; exact hK.out _ _ rfl (Below.refl _ _)
      · show StepOkD _ _ _ _ _ _ _ _ _
        intro aa wx tg hB hold hdep K hK; obtain ⟨v105, t105, p105⟩ := hdep 11 rfl _ 105 rfl rfl; have e105 : v105 = (.pointer (some ⟨bl, ol + (k0 + 1) * 4, none⟩)) := p105; subst e105; have hBw := below_join HBa.out hB; have f0 := (hBw.cell (lt_of_cell HY.out.1)).trans HY.out.1; have f1 := (hBw.cell (lt_of_cell HY.out.2.1)).trans HY.out.2.1; have f2 := (hBw.cell (lt_of_cell HY.out.2.2.1)).trans HY.out.2.2.1; have f3 := (hBw.cell (lt_of_cell HY.out.2.2.2)).trans HY.out.2.2.2; clear hold hdep; go_simp; exact hK.out _ _ rfl (Below.refl _ _)
      · show StepOkD _ _ _ _ _ _ _ _ _
        intro aa wx tg hB hold hdep K hK; obtain ⟨v101, t101, p101⟩ := hdep 7 rfl _ 101 rfl rfl; have e101 : v101 = (.agg #[u0, u1', u2', u3]) := p101; subst e101; obtain ⟨v106, t106, p106⟩ := hdep 12 rfl _ 106 rfl rfl; have e106 : v106 = (.agg #[y0, y1, y2, y3]) := p106; subst e106; clear hold hdep; go_simp; exact hK.out _ _ ⟨_, rfl, blk_new _ _, if_neg (Nat.lt_irrefl _)⟩ (below_more (Below.refl _ _) _)
      · show StepOkD _ _ _ _ _ _ _ _ _
        intro aa wx tg hB hold hdep K hK; obtain ⟨v107, t107, p107⟩ := hdep 13 rfl _ 107 rfl rfl; (have P107 : Hid ((fun v w9 t => ∃ q, v = .slice (some ⟨q, 0, none⟩) 2 2 ∧ w9.heap[q]? = some (.cells #[u0, u1', u2', u3, y0, y1, y2, y3] 52 (0, 0)) ∧ t q = 13) v107 wx tg) := p107); clear p107; obtain ⟨q, rfl, hq, hmq⟩ := P107.out; clear hold hdep; go_simp; exact hK.out _ _ ⟨q, rfl, hq, (if_pos (lt_of_block hq)).trans hmq⟩ (Below.refl _ _)
      · show StepOkD _ _ _ _ _ _ _ _ _
        intro aa wx tg hB hold hdep K hK; obtain ⟨v108, t108, p108⟩ := hdep 14 rfl _ 108 rfl rfl; (have P108 : Hid ((fun v w9 t => ∃ q, v = (.agg #[.int .i64 3, .string ⟨#[]⟩, .bool false, .slice (some ⟨q, 0, none⟩) 2 2]) ∧ w9.heap[q]? = some (.cells #[u0, u1', u2', u3, y0, y1, y2, y3] 52 (0, 0)) ∧ t q = 13) v108 wx tg) := p108); clear p108; obtain ⟨q, rfl, hq, hmq⟩ := P108.out; clear hold hdep; go_simp; exact hK.out _ _ ⟨q, _, rfl, blk_new _ _, alloc_keep hq _, (if_pos (lt_of_block hq)).trans hmq⟩ (below_more (Below.refl _ _) _)
      · exact trivial
    · intro aa wx tg hB hold hgot K hK
      (obtain ⟨v50, tv50, pv50⟩ := hgot 3 _ 97 (by decide) (by decide) rfl rfl rfl); (obtain ⟨v70, tv70, pv70⟩ := hgot 15 _ 109 (by decide) (by decide) rfl rfl rfl); obtain ⟨ad, cp, rfl, hrow, hmk⟩ := pv50; obtain ⟨q, q2, rfl, hq2, hq, hmq⟩ := pv70; have hsz := HSz.out; have hkk := HK.out; have hsx := hB.size; have hlow := hrow.lt; clear hold hgot; (refine step_append_lies wx rfl _ _ 22 rfl u2.heap.size 52 i1 (.agg #[.int .i64 0, .string ⟨#[]⟩, .bool false, .slice none 0 0]) 4 56 Try.underlying22 hi1 hy0 hy1 hy2 rfl (by decide) (.slice ad k0 cp) k0 _ (eval_tmpM tv50) hrow ⟨q2, 0, none⟩ 1 1 [.int .i64 3, .string ⟨#[]⟩, .bool false, .slice (some ⟨q, 0, none⟩) 2 2] (eval_tmpM tv70) rfl ?_ ?_ (by omega) (by unfold maxLen; omega) (by omega) (by omega) _ rfl ?_)
      · intro j u hu
        rw [add_none, Nat.zero_add, blk_cell hq2]; simpa using hu
      · intro u hu
        simp at hu
        rcases hu with rfl | rfl | rfl | rfl <;> rfl
      intro g3 cp3 w3 hown3 hgrow hat hlt3; have hgrow' : wx.grownBy w3 (Value.slice ad k0 cp).ownBlock := hgrow
      have hnq : (Value.slice ad k0 cp).ownBlock ≠ some q := fun e => by
        have := hmk q e; omega
      (exact hK.out _ _ ⟨g3, cp3, q, rfl, hown3, (hgrow'.block q (lt_of_block hq) fun e => hnq e.symm).trans hq, hB.grown hgrow' (by omega) fun k hk => (hlow k hk).1⟩)
    · intro aa wx hold hpx hpu K hK
      obtain ⟨v110, t110, g3, cp3, q, rfl, HT3, HQ9, HB9⟩ := hpx 110 rfl; obtain ⟨tm, df⟩ := aa; (obtain ⟨ys, hys, htm, rfl⟩ := frame_mid2 94 17 (by kernel_rfl) (Nat.le_of_ble_eq_true rfl) hold); obtain ⟨s94, s95, s96, s97, s98, s99, s100, s101, s102, s103, s104, s105, s106, s107, s108, s109, s110, rfl⟩ := rowNI17 ys hys; simp only [List.take_succ_cons, List.take_zero, List.drop_succ_cons, List.drop_zero, List.cons_append, List.nil_append] at htm; subst htm; obtain rfl : s110 = _ := someInjM t110; clear hys hold hpx hpu t110; go_simp; refine hK.out _ _ ?_; clear hK; obtain ⟨z4, hz4⟩ := corrB_ex (l' ++ [parL f0 h0]) a; obtain ⟨ez4, hn4⟩ := par_b HQ1'.out.2.2.1 HNn.out.1 H199.out HNn.out.2 hz4; obtain ⟨c4, hc4⟩ : ∃ c : Int, (netE (netC (l' ++ [parL f0 h0]) a)).1 = c := ⟨_, rfl⟩; obtain ⟨d4, hd4⟩ : ∃ c : Int, (netE (netC (l' ++ [parL f0 h0]) a)).2 = c := ⟨_, rfl⟩; have hBw := below_join HBa.out HB9.out; (have hll4 := par_ll hBw HQ1'.out.1 HQ1'.out.2.2.2.1 HQ1'.out.2.2.2.2 HQ9.out (by rw [HQ1'.out.2.1]) HT3.out); (have HC4 : Hid (∀ W, Below wx.heap.size wx W → Calls Try.prog 12 #[.slice (some ⟨g3, 0, none⟩) (k0 + 1) cp3, .slice asl a.length acap] W fun e w' => e = .returned (.tuple #[.bool z4, .agg #[.int .i64 c4, .int .i64 d4]]) ∧ Below W.heap.size W w') := fun W h => by rw [← hc4, ← hd4]; exact correct_any _ _ z4 hz4 _ _ W (hll4.up h) (HPa.out.up (below_join hBw h))); have HZ4 : Hid (z4 = B1 ∧ c4 = 0) := ⟨ez4, hc4.symm.trans hn4⟩; have HBw : Hid (Below w.heap.size w wx) := hBw; have HE5 : Hid (wx.heap[u1.heap.size]? = some (.cells #[.int .i64 c1, .int .i64 d1] 28 (0, 0))) := below_keep HB9.out HE2.out; clear hz4 ez4 hn4 hc4 hd4 hBw hll4 HT3 HQ9 HQ1' HU HY HDl HDu2 HNn; go_wp2_with fail; refine (HC4.out wx (Below.refl _ _)).mono ?_; rintro _ w13 ⟨rfl, hb13⟩; have HE6 : Hid (w13.heap[u1.heap.size]? = some (.cells #[.int .i64 c1, .int .i64 d1] 28 (0, 0))) := below_keep hb13 HE5.out; have HBE := below_join HBw.out hb13; have HBE2 := (HBE.setCell (p := ⟨u1.heap.size, 0, none⟩) HU1.out (.int .i64 c4)).setCell (p := ⟨u1.heap.size, 1, none⟩) HU1.out (.int .i64 d4); have HBE : Hid (Below _ w _) := HBE2; obtain ⟨q0, q1, q2, q3⟩ := blk2 HE6.out; obtain ⟨e1, e2⟩ := HZ4.out; (have hc4e : (c4 == 0) = true := by rw [e2]; rfl); clear hb13 HZ4 e2 HBE2
      cases B1 <;> subst e1
      all_goals
        go_wp2_with fail; go_ret; exact ⟨rfl, HBE.out⟩
  (have hcJ : (c == 0) = true := by simpa using hc); obtain ⟨-, -, hf1, hs1⟩ := hfine hc; (have hfx : LFine x := hf1 x (by simp)); (have hsx : Lm.sizes [x] = x.size := by simp [Lm.sizes]); have HF : Hid (LFine x ∧ Lm.sizes [x] = x.size ∧ Lm.sizes [x] ≤ 200) := ⟨hfx, hsx, hs1⟩; clear hfine hc hf1 hs1 hfx hsx; (have HLx : Hid (∀ W, Below w.heap.size w W → Calls Try.prog 32 #[.slice (some ⟨W.heap.size, 0, none⟩) 1 1, .int .i64 201] (W.alloc (.cells #[.int .i64 k, .string n, .bool g, .slice sl ks.length cap] 52 (0, 0))) _) := fun W h => linears_any [x] _ 201 _ (one_ll h HX.out) (by have := HF.out; omega) (by omega)); obtain ⟨S, hS⟩ : ∃ S, S = Lm.sizes [x] := ⟨_, rfl⟩; rw [← hS] at HLx; have HS : Hid (S = Lm.sizes [x]) := hS; (have hSI : (S : Int) ≤ 200 := by have := HF.out; omega); clear hS; obtain ⟨q0, q1, q2, q3⟩ := blk4L HQ4.out; go_wp2_with fail; refine (HLx.out w4 HB4.out).mono ?_; rintro _ w5 ⟨a5, p5, cs5, rfl, -, -, hb5⟩; have hb5' := below_join (below_more (Below.refl w4.heap.size w4) (.cells #[.int .i64 k, .string n, .bool g, .slice sl ks.length cap] 52 (0, 0))) hb5; have HB5 : Hid (Below w.heap.size w w5) := below_join HB4.out hb5'; have HQ5 : Hid (w5.heap[w.heap.size]? = some (.cells #[.int .i64 k, .string n, .bool g, .slice sl ks.length cap] 52 (0, 0))) := below_keep hb5' HQ4.out; clear hb5 hb5' q0 q1 q2 q3; by_cases hS1 : S ≤ 100
  case neg =>
    (have hS1I : ¬ (S : Int) ≤ 100 := by omega); clear hS1; obtain ⟨wz, hwz⟩ : ∃ wz, wz = w5 := ⟨_, rfl⟩; subst hwz; have HBz : Hid (Below w.heap.size w wz) := HB5; go_wp2_with fail; refine (HCl.out wz HBz.out).mono ?_; rintro _ u1 ⟨rfl, hv1⟩; obtain ⟨X1, hX1⟩ : ∃ X, X = u1.alloc (.cells #[.int .i64 c1, .int .i64 d1] 28 (0, 0)) := ⟨_, rfl⟩; (have HBX : Hid (Below w.heap.size w X1) := by rw [hX1]; exact below_more (below_join HBz.out hv1) _); (have HE1 : Hid (X1.heap[u1.heap.size]? = some (.cells #[.int .i64 c1, .int .i64 d1] 28 (0, 0))) := by rw [hX1]; exact blk_new _ _); have HU1 : Hid (w.heap.size ≤ u1.heap.size) := (below_join HBz.out hv1).size; obtain ⟨q0, q1, -⟩ := blk2 HE1.out; have hXe := hX1.symm; clear hX1 hv1; by_cases hc1 : c1 = 0
    case neg =>
      (have hcn : (c1 != 0) = true := by simpa using hc1); clear hc1; go_wp2_with fail; go_ret; exact ⟨rfl, HBX.out⟩
    (have hcn : (c1 != 0) = false := by simpa using hc1); by_cases hl2 : l.length < 2
    case pos =>
      (have hl2I : (l.length : Int) < 2 := by omega); clear hc1 hl2; go_wp2_with fail; go_ret; exact ⟨rfl, HBX.out⟩
    (have hl2I : ¬ (l.length : Int) < 2 := by omega); obtain ⟨e1, hB1⟩ := HCC.out
    obtain ⟨mu1, k1, hn1⟩ : ∃ mu1 k1, netC l a = .ok mu1 k1 := by
      rcases hn : netC l a with ⟨c, p⟩ | ⟨mu, k⟩
      · rw [hn] at e1
        exact absurd (e1.trans hc1) (netC_bad hn)
      · exact ⟨mu, k, rfl⟩
    (have hB2 : B1 = true ↔ CorrN l mu1 a.length := by unfold CorrB at hB1; rw [hn1] at hB1; exact hB1); obtain ⟨g1, g2, g3, g4, -, -⟩ := netC_ok hn1; have HNn : Hid (netC l a = .ok mu1 k1 ∧ (B1 = true ↔ CorrN l mu1 a.length)) := ⟨hn1, hB2⟩; (have HSz : Hid (2 ≤ l.length ∧ l.length ≤ 20 ∧ Lm.sizes l ≤ 200) := ⟨by omega, g2, g4⟩); (have HJl : Hid (∀ W, Below w.heap.size w W → Calls Try.prog 32 #[.slice sl1 l.length cap1, .int .i64 201] W _) := fun W h => linears_any l _ 201 W (HLl.out.up h) (by omega) (by omega)); obtain ⟨S1, hS1⟩ : ∃ S1, S1 = Lm.sizes l := ⟨_, rfl⟩; rw [← hS1] at HJl; have HSe : Hid (S1 = Lm.sizes l) := hS1; (have hS1I : (S1 : Int) ≤ 200 := by omega); (have hlI : (l.length : Int) ≤ 20 := by omega); clear hc1 hl2 e1 hB1 hn1 hB2 g1 g2 g3 g4 hS1 HCC HCl; go_wp2_with fail; refine (HJl.out X1 HBX.out).mono ?_; rintro _ u2 ⟨a9, p9, cs9, rfl, -, -, hv2⟩; have HBa : Hid (Below w.heap.size w u2) := below_join HBX.out hv2; have HE2 : Hid (u2.heap[u1.heap.size]? = some (.cells #[.int .i64 c1, .int .i64 d1] 28 (0, 0))) := below_keep hv2 HE1.out; clear hv2 q0 q1 hXe; by_cases h199 : 199 < S1
    case pos =>
      (have h199I : (199 : Int) < (S1 : Int) := by omega); clear h199; go_wp2_with fail; go_ret; exact ⟨rfl, HBa.out⟩
    (have h199I : ¬ (199 : Int) < (S1 : Int) := by omega); (have H199 : Hid (Lm.sizes l ≤ 199) := by have := HSe.out; show _ ≤ _; omega); clear h199; obtain ⟨csl, hql, hcl⟩ := HLl.out.cells0; have hsz9 := HSz.out; (obtain ⟨k0, hk0⟩ : ∃ k0, l.length = k0 + 2 := ⟨l.length - 2, by omega⟩); obtain ⟨l', f0, h0, dl, u0, u1', u2', u3, y0, y1, y2, y3, el, hl', ecl, hq1, hf0, hh0⟩ := LQ4.last2 k0 hql hk0; (obtain ⟨bl, ol, rfl, hcl2⟩ := hcl (by omega)); (have hdl : dl.length = k0 * 4 := by rw [hq1.len, hl']); (have HDu2 : Hid (∀ (j : Nat) (u : Value), (dl ++ [u0, u1', u2', u3])[j]? = some u → w.cell? ⟨bl, ol + j, none⟩ = some u) := fun j u hu => hcl2 j u (by rw [ecl, List.getElem?_append_left (List.getElem?_eq_some_iff.1 hu).1]; exact hu)); (have HDl : Hid (∀ (j : Nat) (u : Value), dl[j]? = some u → w.cell? ⟨bl, ol + j, none⟩ = some u) := fun j u hu => HDu2.out j u (by rw [List.getElem?_append_left (List.getElem?_eq_some_iff.1 hu).1]; exact hu)); have HU := last_cells rfl hdl HDu2.out; (have HY := last_cells (n := (k0 + 1) * 4) ecl (by rw [List.length_append, hdl]; simp; omega) hcl2); have HU : Hid (w.cell? ⟨bl, ol + k0 * 4, none⟩ = some u0 ∧ w.cell? ⟨bl, ol + k0 * 4 + 1, none⟩ = some u1' ∧ w.cell? ⟨bl, ol + k0 * 4 + 2, none⟩ = some u2' ∧ w.cell? ⟨bl, ol + k0 * 4 + 3, none⟩ = some u3) := HU; have HY : Hid (w.cell? ⟨bl, ol + (k0 + 1) * 4, none⟩ = some y0 ∧ w.cell? ⟨bl, ol + (k0 + 1) * 4 + 1, none⟩ = some y1 ∧ w.cell? ⟨bl, ol + (k0 + 1) * 4 + 2, none⟩ = some y2 ∧ w.cell? ⟨bl, ol + (k0 + 1) * 4 + 3, none⟩ = some y3) := HY; have HQ1' : Hid (LQ4 w dl l' ∧ l'.length = k0 ∧ l = l' ++ [f0, h0] ∧ LRep w f0 (.agg #[u0, u1', u2', u3]) ∧ LRep w h0 (.agg #[y0, y1, y2, y3])) := ⟨hq1, hl', el, hf0, hh0⟩
    obtain ⟨hcapl, hcapm⟩ : l.length ≤ cap1 ∧ cap1 ≤ maxLen := by
      obtain ⟨s1, p1, e1, g1, g2, -⟩ := HLl.out; simp only [Value.slice.injEq, true_and] at e1; obtain ⟨-, rfl⟩ := e1; exact ⟨g1, g2⟩
    (have hkI : (l.length : Int) - 2 = (k0 : Int) := by omega); have HK : Hid (l.length = k0 + 2 ∧ l.length ≤ cap1) := ⟨hk0, hcapl⟩; (have hkl : (k0 : Int) < (l.length : Int) := by omega); (have hkl1 : (k0 : Int) + 1 < (l.length : Int) := by omega); (have hkc : (k0 : Int) ≤ (cap1 : Int) := by omega); (have hk20 : (k0 : Int) ≤ 20 := by omega); obtain ⟨i1, hi1, hy0, hy1, hy2⟩ := infoLm; clear hql hcl hsz9 hk0 el hl' ecl hq1 hf0 hh0 hcl2 hdl hcapl hcapm; go_wp2_with fail; clear hkI; (refine wp_region_wrd (by kernel_rfl) [fun v _ _ => v = (.slice (some ⟨bl, ol, none⟩) l.length cap1), fun v _ _ => v = (.int .i64 (k0 : Nat)), fun v _ _ => v = (.slice (some ⟨bl, ol, none⟩) k0 cap1), fun v w9 t => ∃ ad3 cp3, v = .slice ad3 k0 cp3 ∧ w9.ownsRow u2.heap.size 52 4 (.slice ad3 k0 cp3) k0 dl ∧ ∀ g, (Value.slice ad3 k0 cp3).ownBlock = some g → t g = 3, fun v _ _ => v = (.slice (some ⟨bl, ol, none⟩) l.length cap1), fun v _ _ => v = (.int .i64 (k0 : Nat)), fun v _ _ => v = (.pointer (some ⟨bl, ol + k0 * 4, none⟩)), fun v _ _ => v = (.agg #[u0, u1', u2', u3]), fun v _ _ => v = (.slice (some ⟨bl, ol, none⟩) l.length cap1), fun v _ _ => v = (.int .i64 (k0 : Nat)), fun v _ _ => v = (.int .i64 ((k0 + 1) : Nat)), fun v _ _ => v = (.pointer (some ⟨bl, ol + (k0 + 1) * 4, none⟩)), fun v _ _ => v = (.agg #[y0, y1, y2, y3]), fun v w9 t => ∃ q, v = .slice (some ⟨q, 0, none⟩) 2 2 ∧ w9.heap[q]? = some (.cells #[u0, u1', u2', u3, y0, y1, y2, y3] 52 (0, 0)) ∧ t q = 13, fun v w9 t => ∃ q, v = (.agg #[.int .i64 3, .string ⟨#[]⟩, .bool false, .slice (some ⟨q, 0, none⟩) 2 2]) ∧ w9.heap[q]? = some (.cells #[u0, u1', u2', u3, y0, y1, y2, y3] 52 (0, 0)) ∧ t q = 13, fun v w9 t => ∃ q q2, v = .slice (some ⟨q2, 0, none⟩) 1 1 ∧ w9.heap[q2]? = some (.cells #[.int .i64 3, .string ⟨#[]⟩, .bool false, .slice (some ⟨q, 0, none⟩) 2 2] 52 (0, 0)) ∧ w9.heap[q]? = some (.cells #[u0, u1', u2', u3, y0, y1, y2, y3] 52 (0, 0)) ∧ t q = 13, fun _ _ _ => True] ?_ (by kernel_rfl) (by kernel_rfl) 125 rfl (by kernel_rfl) 17 _ rfl rfl 6 (by kernel_rfl) (fun _ => none) 16 _ (by decide) rfl rfl 12 (by kernel_rfl) (fun v w9 => ∃ g3 cp3 q, v = (.slice (some ⟨g3, 0, none⟩) (k0 + 1) cp3) ∧ Hid (w9.ownsRow u2.heap.size 52 4 (.slice (some ⟨g3, 0, none⟩) (k0 + 1) cp3) (k0 + 1) (dl ++ [.int .i64 3, .string ⟨#[]⟩, .bool false, .slice (some ⟨q, 0, none⟩) 2 2])) ∧ Hid (w9.heap[q]? = some (.cells #[u0, u1', u2', u3, y0, y1, y2, y3] 52 (0, 0))) ∧ Hid (Below u2.heap.size u2 w9)) ?_ ?_ ?_ ?_)
    · intro p hp
      simp only [List.mem_cons, List.not_mem_nil, or_false] at hp
      rcases hp with rfl | rfl | rfl | rfl | rfl | rfl | rfl | rfl | rfl | rfl | rfl | rfl | rfl | rfl | rfl | rfl | rfl
      · exact fun _ _ _ _ _ h _ _ => h
      · exact fun _ _ _ _ _ h _ _ => h
      · exact fun _ _ _ _ _ h _ _ => h
      · rintro v w1 t w2 t' ⟨ad3, cp3, e, h, hm⟩ hb ht
        (exact ⟨ad3, cp3, e, rowM_up h hb, fun g hg => (ht g (h.lt g hg).2).trans (hm g hg)⟩)
      · exact fun _ _ _ _ _ h _ _ => h
      · exact fun _ _ _ _ _ h _ _ => h
      · exact fun _ _ _ _ _ h _ _ => h
      · exact fun _ _ _ _ _ h _ _ => h
      · exact fun _ _ _ _ _ h _ _ => h
      · exact fun _ _ _ _ _ h _ _ => h
      · exact fun _ _ _ _ _ h _ _ => h
      · exact fun _ _ _ _ _ h _ _ => h
      · exact fun _ _ _ _ _ h _ _ => h
      · rintro v w1 t w2 t' ⟨q, e, h, hm⟩ hb ht
        exact ⟨q, e, below_keep hb h, (ht q (lt_of_block h)).trans hm⟩
      · rintro v w1 t w2 t' ⟨q, e, h, hm⟩ hb ht
        exact ⟨q, e, below_keep hb h, (ht q (lt_of_block h)).trans hm⟩
      · rintro v w1 t w2 t' ⟨q, q2, e, h2, h, hm⟩ hb ht
        exact ⟨q, q2, e, below_keep hb h2, below_keep hb h, (ht q (lt_of_block h)).trans hm⟩
      · exact fun _ _ _ _ _ h _ _ => h
    · intro j c wq tq hj
      cases hj
    · refine ⟨?_, ?_, ?_, ?_, ?_, ?_, ?_, ?_, ?_, ?_, ?_, ?_, ?_, ?_, ?_, ?_, ?_, trivial⟩
      · show StepOkD _ _ _ _ _ _ _ _ _
        intro aa wx tg hB hold hdep K hK; have t1 : aa.tmps[1]? = some (.slice (some ⟨bl, ol, none⟩) l.length cap1) := hold.2.2 1 rfl; clear hold hdep; go_simp; exact hK.out _ _ rfl (Below.refl _ _)
      · show StepOkD _ _ _ _ _ _ _ _ _
        intro aa wx tg hB hold hdep K hK; have t14 : aa.tmps[14]? = some (.int .i64 (k0 : Nat)) := hold.2.2 14 rfl; clear hold hdep; go_simp; exact hK.out _ _ rfl (Below.refl _ _)
      · show StepOkD _ _ _ _ _ _ _ _ _
        intro aa wx tg hB hold hdep K hK; obtain ⟨v94, t94, p94⟩ := hdep 0 rfl _ 94 rfl rfl; have e94 : v94 = (.slice (some ⟨bl, ol, none⟩) l.length cap1) := p94; subst e94; obtain ⟨v95, t95, p95⟩ := hdep 1 rfl _ 95 rfl rfl; have e95 : v95 = (.int .i64 (k0 : Nat)) := p95; subst e95; clear hold hdep; go_simp; exact hK.out _ _ rfl (Below.refl _ _)
      · show StepOkD _ _ _ _ _ _ _ _ _
        intro aa wx tg hB hold hdep K hK; obtain ⟨v96, t96, p96⟩ := hdep 2 rfl _ 96 rfl rfl; have e96 : v96 = (.slice (some ⟨bl, ol, none⟩) k0 cap1) := p96; subst e96; have hBw := below_join HBa.out hB; have hq1 := HQ1'.out; have hsz := HSz.out; have hkk := HK.out; clear hold hdep; (refine step_app0 rfl _ _ 22 rfl 52 i1 (.agg #[.int .i64 0, .string ⟨#[]⟩, .bool false, .slice none 0 0]) 4 56 Try.underlying22 hi1 hy0 hy1 hy2 rfl (by decide) (some ⟨bl, ol, none⟩) k0 cap1 dl rfl (eval_tmpM t96) (hq1.1.len.trans (by rw [hq1.2.1])) (fun _ => ⟨bl, ol, rfl, fun j u hu => (hBw.cell (lt_of_cell (HDl.out j u hu))).trans (HDl.out j u hu)⟩) hq1.1.one (by unfold maxLen; omega) (by omega) ?_); intro ad3 cp3 w3 h3 b3; (refine hK.out _ _ ⟨ad3, cp3, rfl, rowM_low h3 hB.size, fun g hg => if_neg ?_⟩ b3); have := (h3.lt g hg).1; omega
      · show StepOkD _ _ _ _ _ _ _ _ _
        intro aa wx tg hB hold hdep K hK; have t1 : aa.tmps[1]? = some (.slice (some ⟨bl, ol, none⟩) l.length cap1) := hold.2.2 1 rfl; clear hold hdep; go_simp; exact hK.out _ _ rfl (Below.refl _ _)
      · show StepOkD _ _ _ _ _ _ _ _ _
        intro aa wx tg hB hold hdep K hK; have t14 : aa.tmps[14]? = some (.int .i64 (k0 : Nat)) := hold.2.2 14 rfl; clear hold hdep; go_simp; exact hK.out _ _ rfl (Below.refl _ _)
      · show StepOkD _ _ _ _ _ _ _ _ _
        intro aa wx tg hB hold hdep K hK; obtain ⟨v98, t98, p98⟩ := hdep 4 rfl _ 98 rfl rfl; have e98 : v98 = (.slice (some ⟨bl, ol, none⟩) l.length cap1) := p98; subst e98; obtain ⟨v99, t99, p99⟩ := hdep 5 rfl _ 99 rfl rfl; have e99 : v99 = (.int .i64 (k0 : Nat)) := p99; subst e99; clear hold hdep; go_simp; exact hK.out _ _ rfl (Below.refl _ _)
      · show StepOkD _ _ _ _ _ _ _ _ _
        intro aa wx tg hB hold hdep K hK; obtain ⟨v100, t100, p100⟩ := hdep 6 rfl _ 100 rfl rfl; have e100 : v100 = (.pointer (some ⟨bl, ol + k0 * 4, none⟩)) := p100; subst e100; have hBw := below_join HBa.out hB; have f0 := (hBw.cell (lt_of_cell HU.out.1)).trans HU.out.1; have f1 := (hBw.cell (lt_of_cell HU.out.2.1)).trans HU.out.2.1; have f2 := (hBw.cell (lt_of_cell HU.out.2.2.1)).trans HU.out.2.2.1; have f3 := (hBw.cell (lt_of_cell HU.out.2.2.2)).trans HU.out.2.2.2; clear hold hdep; go_simp; exact hK.out _ _ rfl (Below.refl _ _)
      · show StepOkD _ _ _ _ _ _ _ _ _
        intro aa wx tg hB hold hdep K hK; have t1 : aa.tmps[1]? = some (.slice (some ⟨bl, ol, none⟩) l.length cap1) := hold.2.2 1 rfl; clear hold hdep; go_simp; exact hK.out _ _ rfl (Below.refl _ _)
      · show StepOkD _ _ _ _ _ _ _ _ _
        intro aa wx tg hB hold hdep K hK; have t14 : aa.tmps[14]? = some (.int .i64 (k0 : Nat)) := hold.2.2 14 rfl; clear hold hdep; go_simp; exact hK.out _ _ rfl (Below.refl _ _)
      · show StepOkD _ _ _ _ _ _ _ _ _
        intro aa wx tg hB hold hdep K hK; obtain ⟨v103, t103, p103⟩ := hdep 9 rfl _ 103 rfl rfl; have e103 : v103 = (.int .i64 (k0 : Nat)) := p103; subst e103; clear hold hdep; go_simp; (have e9 : (k0 : Int) + 1 = ((k0 + 1 : Nat) : Int) := by omega); (rw [e9, wrap_small (k0 + 1) (by omega)]); exact hK.out _ _ rfl (Below.refl _ _)
      · show StepOkD _ _ _ _ _ _ _ _ _
        intro aa wx tg hB hold hdep K hK; obtain ⟨v102, t102, p102⟩ := hdep 8 rfl _ 102 rfl rfl; have e102 : v102 = (.slice (some ⟨bl, ol, none⟩) l.length cap1) := p102; subst e102; obtain ⟨v104, t104, p104⟩ := hdep 10 rfl _ 104 rfl rfl; have e104 : v104 = (.int .i64 ((k0 + 1) : Nat)) := p104; subst e104; (have hk1N : k0 + 1 < l.length := by have := HK.out; omega); (have hk1I : ((k0 + 1 : Nat) : Int) < (l.length : Int) := by omega); clear hold hdep; go_simp; exact hK.out _ _ rfl (Below.refl _ _)
      · show StepOkD _ _ _ _ _ _ _ _ _
        intro aa wx tg hB hold hdep K hK; obtain ⟨v105, t105, p105⟩ := hdep 11 rfl _ 105 rfl rfl; have e105 : v105 = (.pointer (some ⟨bl, ol + (k0 + 1) * 4, none⟩)) := p105; subst e105; have hBw := below_join HBa.out hB; have f0 := (hBw.cell (lt_of_cell HY.out.1)).trans HY.out.1; have f1 := (hBw.cell (lt_of_cell HY.out.2.1)).trans HY.out.2.1; have f2 := (hBw.cell (lt_of_cell HY.out.2.2.1)).trans HY.out.2.2.1; have f3 := (hBw.cell (lt_of_cell HY.out.2.2.2)).trans HY.out.2.2.2; clear hold hdep; go_simp; exact hK.out _ _ rfl (Below.refl _ _)
      · show StepOkD _ _ _ _ _ _ _ _ _
        intro aa wx tg hB hold hdep K hK; obtain ⟨v101, t101, p101⟩ := hdep 7 rfl _ 101 rfl rfl; have e101 : v101 = (.agg #[u0, u1', u2', u3]) := p101; subst e101; obtain ⟨v106, t106, p106⟩ := hdep 12 rfl _ 106 rfl rfl; have e106 : v106 = (.agg #[y0, y1, y2, y3]) := p106; subst e106; clear hold hdep; go_simp; exact hK.out _ _ ⟨_, rfl, blk_new _ _, if_neg (Nat.lt_irrefl _)⟩ (below_more (Below.refl _ _) _)
      · show StepOkD _ _ _ _ _ _ _ _ _
        intro aa wx tg hB hold hdep K hK; obtain ⟨v107, t107, p107⟩ := hdep 13 rfl _ 107 rfl rfl; (have P107 : Hid ((fun v w9 t => ∃ q, v = .slice (some ⟨q, 0, none⟩) 2 2 ∧ w9.heap[q]? = some (.cells #[u0, u1', u2', u3, y0, y1, y2, y3] 52 (0, 0)) ∧ t q = 13) v107 wx tg) := p107); clear p107; obtain ⟨q, rfl, hq, hmq⟩ := P107.out; clear hold hdep; go_simp; exact hK.out _ _ ⟨q, rfl, hq, (if_pos (lt_of_block hq)).trans hmq⟩ (Below.refl _ _)
      · show StepOkD _ _ _ _ _ _ _ _ _
        intro aa wx tg hB hold hdep K hK; obtain ⟨v108, t108, p108⟩ := hdep 14 rfl _ 108 rfl rfl; (have P108 : Hid ((fun v w9 t => ∃ q, v = (.agg #[.int .i64 3, .string ⟨#[]⟩, .bool false, .slice (some ⟨q, 0, none⟩) 2 2]) ∧ w9.heap[q]? = some (.cells #[u0, u1', u2', u3, y0, y1, y2, y3] 52 (0, 0)) ∧ t q = 13) v108 wx tg) := p108); clear p108; obtain ⟨q, rfl, hq, hmq⟩ := P108.out; clear hold hdep; go_simp; exact hK.out _ _ ⟨q, _, rfl, blk_new _ _, alloc_keep hq _, (if_pos (lt_of_block hq)).trans hmq⟩ (below_more (Below.refl _ _) _)
      · exact trivial
    · intro aa wx tg hB hold hgot K hK
      (obtain ⟨v50, tv50, pv50⟩ := hgot 3 _ 97 (by decide) (by decide) rfl rfl rfl); (obtain ⟨v70, tv70, pv70⟩ := hgot 15 _ 109 (by decide) (by decide) rfl rfl rfl); obtain ⟨ad, cp, rfl, hrow, hmk⟩ := pv50; obtain ⟨q, q2, rfl, hq2, hq, hmq⟩ := pv70; have hsz := HSz.out; have hkk := HK.out; have hsx := hB.size; have hlow := hrow.lt; clear hold hgot; (refine step_append_lies wx rfl _ _ 22 rfl u2.heap.size 52 i1 (.agg #[.int .i64 0, .string ⟨#[]⟩, .bool false, .slice none 0 0]) 4 56 Try.underlying22 hi1 hy0 hy1 hy2 rfl (by decide) (.slice ad k0 cp) k0 _ (eval_tmpM tv50) hrow ⟨q2, 0, none⟩ 1 1 [.int .i64 3, .string ⟨#[]⟩, .bool false, .slice (some ⟨q, 0, none⟩) 2 2] (eval_tmpM tv70) rfl ?_ ?_ (by omega) (by unfold maxLen; omega) (by omega) (by omega) _ rfl ?_)
      · intro j u hu
        rw [add_none, Nat.zero_add, blk_cell hq2]; simpa using hu
      · intro u hu
        simp at hu
        rcases hu with rfl | rfl | rfl | rfl <;> rfl
      intro g3 cp3 w3 hown3 hgrow hat hlt3; have hgrow' : wx.grownBy w3 (Value.slice ad k0 cp).ownBlock := hgrow
      have hnq : (Value.slice ad k0 cp).ownBlock ≠ some q := fun e => by
        have := hmk q e; omega
      (exact hK.out _ _ ⟨g3, cp3, q, rfl, hown3, (hgrow'.block q (lt_of_block hq) fun e => hnq e.symm).trans hq, hB.grown hgrow' (by omega) fun k hk => (hlow k hk).1⟩)
    · intro aa wx hold hpx hpu K hK
      obtain ⟨v110, t110, g3, cp3, q, rfl, HT3, HQ9, HB9⟩ := hpx 110 rfl; obtain ⟨tm, df⟩ := aa; (obtain ⟨ys, hys, htm, rfl⟩ := frame_mid2 94 17 (by kernel_rfl) (Nat.le_of_ble_eq_true rfl) hold); obtain ⟨s94, s95, s96, s97, s98, s99, s100, s101, s102, s103, s104, s105, s106, s107, s108, s109, s110, rfl⟩ := rowNI17 ys hys; simp only [List.take_succ_cons, List.take_zero, List.drop_succ_cons, List.drop_zero, List.cons_append, List.nil_append] at htm; subst htm; obtain rfl : s110 = _ := someInjM t110; clear hys hold hpx hpu t110; go_simp; refine hK.out _ _ ?_; clear hK; obtain ⟨z4, hz4⟩ := corrB_ex (l' ++ [parL f0 h0]) a; obtain ⟨ez4, hn4⟩ := par_b HQ1'.out.2.2.1 HNn.out.1 H199.out HNn.out.2 hz4; obtain ⟨c4, hc4⟩ : ∃ c : Int, (netE (netC (l' ++ [parL f0 h0]) a)).1 = c := ⟨_, rfl⟩; obtain ⟨d4, hd4⟩ : ∃ c : Int, (netE (netC (l' ++ [parL f0 h0]) a)).2 = c := ⟨_, rfl⟩; have hBw := below_join HBa.out HB9.out; (have hll4 := par_ll hBw HQ1'.out.1 HQ1'.out.2.2.2.1 HQ1'.out.2.2.2.2 HQ9.out (by rw [HQ1'.out.2.1]) HT3.out); (have HC4 : Hid (∀ W, Below wx.heap.size wx W → Calls Try.prog 12 #[.slice (some ⟨g3, 0, none⟩) (k0 + 1) cp3, .slice asl a.length acap] W fun e w' => e = .returned (.tuple #[.bool z4, .agg #[.int .i64 c4, .int .i64 d4]]) ∧ Below W.heap.size W w') := fun W h => by rw [← hc4, ← hd4]; exact correct_any _ _ z4 hz4 _ _ W (hll4.up h) (HPa.out.up (below_join hBw h))); have HZ4 : Hid (z4 = B1 ∧ c4 = 0) := ⟨ez4, hc4.symm.trans hn4⟩; have HBw : Hid (Below w.heap.size w wx) := hBw; have HE5 : Hid (wx.heap[u1.heap.size]? = some (.cells #[.int .i64 c1, .int .i64 d1] 28 (0, 0))) := below_keep HB9.out HE2.out; clear hz4 ez4 hn4 hc4 hd4 hBw hll4 HT3 HQ9 HQ1' HU HY HDl HDu2 HNn; go_wp2_with fail; refine (HC4.out wx (Below.refl _ _)).mono ?_; rintro _ w13 ⟨rfl, hb13⟩; have HE6 : Hid (w13.heap[u1.heap.size]? = some (.cells #[.int .i64 c1, .int .i64 d1] 28 (0, 0))) := below_keep hb13 HE5.out; have HBE := below_join HBw.out hb13; have HBE2 := (HBE.setCell (p := ⟨u1.heap.size, 0, none⟩) HU1.out (.int .i64 c4)).setCell (p := ⟨u1.heap.size, 1, none⟩) HU1.out (.int .i64 d4); have HBE : Hid (Below _ w _) := HBE2; obtain ⟨q0, q1, q2, q3⟩ := blk2 HE6.out; obtain ⟨e1, e2⟩ := HZ4.out; (have hc4e : (c4 == 0) = true := by rw [e2]; rfl); clear hb13 HZ4 e2 HBE2
      cases B1 <;> subst e1
      all_goals
        go_wp2_with fail; go_ret; exact ⟨rfl, HBE.out⟩
  (have hS1I : (S : Int) ≤ 100 := by omega); (have HS1 : Hid (x.size ≤ 100) := by have := HF.out; have := HS.out; show _ ≤ _; omega); clear hS1; (have HLv : Hid (∀ W, Below w.heap.size w W → Calls Try.prog 26 #[.slice (some ⟨W.heap.size, 0, none⟩) 1 1] (W.alloc (.cells #[.int .i64 k, .string n, .bool g, .slice sl ks.length cap] 52 (0, 0))) _) := fun W h => leavesR_any [x] _ _ (one_ll h HX.out) HF.out.2.2); have hN := leafL_len [x] 0; obtain ⟨N, hNN⟩ : ∃ N, N = (lvsL [x] 0).length := ⟨_, rfl⟩
  have HN : Hid (N = (lvsF x 0).length ∧ N ≤ 100) := by
    (have e1 : lvsL [x] 0 = lvsF x 0 := by simp only [lvsL, List.append_nil]); have e2 := lvsL_len [x] 0; have e3 := HF.out; have e4 := HS1.out; (refine ⟨by rw [hNN, e1], by omega⟩)
  rw [hN, ← hNN] at HLv; (have hNI : (N : Int) ≤ 100 := by have := HN.out; omega); clear hN hNN; obtain ⟨q0, q1, q2, q3⟩ := blk4L HQ5.out; go_wp2_with fail; refine (HLv.out w5 HB5.out).mono ?_; rintro _ w6 ⟨a6, p6, cs6, rfl, -, -, hb6⟩; have hb6' := below_join (below_more (Below.refl w5.heap.size w5) (.cells #[.int .i64 k, .string n, .bool g, .slice sl ks.length cap] 52 (0, 0))) hb6; have HB6 : Hid (Below w.heap.size w w6) := below_join HB5.out hb6'; have HQ6 : Hid (w6.heap[w.heap.size]? = some (.cells #[.int .i64 k, .string n, .bool g, .slice sl ks.length cap] 52 (0, 0))) := below_keep hb6' HQ5.out; clear hb6 hb6' q0 q1 q2 q3; obtain ⟨i0, hi0, hz0, hz1, hz2⟩ := infoPr; go_wp2_with fail
  go_loopg [9, 8] N (fun gg cc x8 wr => ∃ i ad cp, i ≤ N ∧ gg = N - i ∧ cc = .int .i64 (i : Nat) ∧ x8 = .slice ad i cp ∧ Hid (wr.ownsRow w6.heap.size 57 2 (.slice ad i cp) i (encP (idLk N 0 i))) ∧ Hid (Below w6.heap.size w6 wr))
  case atStart => exact ⟨0, none, 0, by omega, by omega, rfl, rfl, ⟨rfl, Or.inl ⟨rfl, rfl⟩⟩, Below.refl _ _⟩
  case round =>
    obtain ⟨i, ad, cp, hi, hg, rfl, rfl, HO, HBr⟩ := hrel; have HGk : Hid (gk = N - i) := hg; clear hg; by_cases hlt : i < N
    · have hltI : (i : Int) < (N : Int) := by omega
      have HI : Hid (i < N) := hlt
      have HwX : Hid (IntKind.i64.wrap ((N : Int) + (i : Int)) = (N : Int) + (i : Int)) := by
        (have h9 : ((N + i : Nat) : Int) = (N : Int) + (i : Int) := by omega); show _ = _; rw [← h9]; (exact wrap_small _ (by omega))
      have hwx := HwX.out; clear hi hlt
      go_wp2_with (first
        | (at_builtin
           have hown := rowM_up HO.out ((Below.refl _ wr).alloc (Nat.le_refl _) (.cells #[.int .i64 (i : Nat), .int .i64 ((N : Int) + (i : Int))] 57 (0, 0))); have hbs := HBr.out.size; (refine wpList_appG rfl _ _ 23 rfl w6.heap.size 57 i0 (.agg #[.int .i64 0, .int .i64 0]) 2 16 Try.underlying23 hi0 hz0 hz1 hz2 rfl (by decide) ad i cp _ rfl hown (some ⟨wr.heap.size, 0, none⟩) 1 1 [.int .i64 (i : Nat), .int .i64 ((N : Int) + (i : Int))] rfl rfl (fun _ => ⟨wr.heap.size, 0, rfl, fun j u hu => ?_⟩) ?_ (by unfold maxLen; omega) (by omega) (by simp; omega) ?_)
           · rw [Nat.zero_add, blk_cell (blk_new wr _)]
             simpa using hu
           · intro u hu
             simp at hu
             rcases hu with rfl | rfl <;> rfl
           intro ad3 cp3 w7 hown3 hk3; have HO3 : Hid (w7.ownsRow w6.heap.size 57 2 (.slice ad3 (i + 1) cp3) (i + 1) (encP (idLk N 0 i) ++ [.int .i64 (i : Nat), .int .i64 ((N : Int) + (i : Int))])) := hown3; (have HB7 : Hid (Below w6.heap.size w6 w7) := kept_row (HBr.out.alloc hbs _) (by simp; omega) hown hk3)
           clear hown hown3 hk3 hbs)
        | fail)
      go_roundg (N - (i + 1))
      case measure => have := HGk.out; have := HI.out; omega
      case rel =>
        (refine ⟨i + 1, ad3, cp3, HI.out, rfl, by go_num, rfl, ?_, HB7⟩); rw [idLk_snoc, encP_cat]; exact HO3
    · have hii : i = N := by omega
      subst hii; (have hge : ¬ (i : Int) < (i : Int) := by omega); clear hlt hi; go_wp2_with fail; obtain ⟨⟨kd, nd, gd, ksd⟩, hdx⟩ : ∃ d, dualF x = d := ⟨_, rfl⟩; obtain ⟨bz, hbz⟩ := corrB_ex [x, dualF x] (idLk i 0 i); obtain ⟨hz3, hn3⟩ := id_b HF.out.1 HS1.out HN.out.1 hbz; obtain ⟨c3, hc3⟩ : ∃ c : Int, (netE (netC [x, dualF x] (idLk i 0 i))).1 = c := ⟨_, rfl⟩; obtain ⟨d3, hd3⟩ : ∃ c : Int, (netE (netC [x, dualF x] (idLk i 0 i))).2 = c := ⟨_, rfl⟩
      have HC3 : Hid (∀ v W, LL W v [x, .mk kd nd gd ksd] → PL W (.slice ad i cp) (idLk i 0 i) → Calls Try.prog 12 #[v, .slice ad i cp] W fun e w' => e = .returned (.tuple #[.bool bz, .agg #[.int .i64 c3, .int .i64 d3]]) ∧ Below W.heap.size W w') := fun v W h1 h2 => by
        rw [← hdx] at h1; rw [← hc3, ← hd3]; exact correct_any _ _ bz hbz _ _ W h1 h2
      have HDu : Hid (∀ W, Below w.heap.size w W → Calls Try.prog 30 #[(.agg #[.int .i64 k, .string n, .bool g, .slice sl ks.length cap])] W fun e w' => ∃ u, e = .returned u ∧ LRep w' (.mk kd nd gd ksd) u ∧ Below W.heap.size W w') := fun W h => by
        rw [← hdx]; exact dual_any x _ W HF.out.1 (HX.out.up h)
      have HZ : Hid (bz = true ∧ c3 = 0) := ⟨hz3, hc3.symm.trans hn3⟩; clear hbz hz3 hn3 hc3 hd3 hdx; (refine wp_region_last (by kernel_rfl) [fun v _ => v = (.agg #[.int .i64 k, .string n, .bool g, .slice sl ks.length cap]), fun v _ => v = (.agg #[.int .i64 k, .string n, .bool g, .slice sl ks.length cap]), fun v w9 => ∃ sd cd, v = (.agg #[.int .i64 kd, .string nd, .bool gd, .slice sd ksd.length cd]) ∧ LRep w9 (.mk kd nd gd ksd) v, fun v w9 => ∃ q, v = .slice (some ⟨q, 0, none⟩) 2 2 ∧ LL w9 v [x, .mk kd nd gd ksd], fun v _ => v = (.slice ad i cp), fun v _ => v = (.tuple #[.bool bz, .agg #[.int .i64 c3, .int .i64 d3]]), fun v _ => v = (.tuple #[.bool bz, .agg #[.int .i64 c3, .int .i64 d3]]), fun v _ => v = (.bool bz), fun v _ => v = (.agg #[.int .i64 c3, .int .i64 d3]), fun v w9 => ∃ b, v = .pointer (some ⟨b, 0, none⟩) ∧ wr.heap.size ≤ b ∧ w9.heap[b]? = some (.cells #[.int .i64 0, .int .i64 0] 28 (0, 0)), fun v _ => v = (.bool bz)] ?_ (by kernel_rfl) (by kernel_rfl) 125 rfl (by kernel_rfl) 11 _ rfl rfl (by kernel_rfl) ?_ ?_)
      · intro p hp
        simp only [List.mem_cons, List.not_mem_nil, or_false] at hp
        rcases hp with rfl | rfl | rfl | rfl | rfl | rfl | rfl | rfl | rfl | rfl | rfl
        · exact fun _ _ _ h _ => h
        · exact fun _ _ _ h _ => h
        · rintro v w1 w2 ⟨sd, cd, e, h⟩ hb
          exact ⟨sd, cd, e, h.up hb⟩
        · rintro v w1 w2 ⟨q, e, h⟩ hb
          exact ⟨q, e, h.up hb⟩
        · exact fun _ _ _ h _ => h
        · exact fun _ _ _ h _ => h
        · exact fun _ _ _ h _ => h
        · exact fun _ _ _ h _ => h
        · exact fun _ _ _ h _ => h
        · rintro v w1 w2 ⟨b, e, h1, h2⟩ hb
          exact ⟨b, e, h1, below_keep hb h2⟩
        · exact fun _ _ _ h _ => h
      · refine ⟨?_, ?_, ?_, ?_, ?_, ?_, ?_, ?_, ?_, ?_, ?_, trivial⟩
        · intro aa wx hB hold hdep K hK
          have t3 : aa.tmps[3]? = some (.pointer (some ⟨w.heap.size, 0, none⟩)) := hold.2.2 3 rfl; have hQ := blk4L (below_keep hB (below_keep HBr.out HQ6.out)); obtain ⟨f0, f1, f2, f3⟩ := hQ; clear hold hdep; go_simp; exact hK.out _ _ rfl (Below.refl _ _)
        · intro aa wx hB hold hdep K hK
          have t3 : aa.tmps[3]? = some (.pointer (some ⟨w.heap.size, 0, none⟩)) := hold.2.2 3 rfl; have hQ := blk4L (below_keep hB (below_keep HBr.out HQ6.out)); obtain ⟨f0, f1, f2, f3⟩ := hQ; clear hold hdep; go_simp; exact hK.out _ _ rfl (Below.refl _ _)
        · intro aa wx hB hold hdep K hK
          obtain ⟨v57, t57, p57⟩ := hdep 1 rfl _ 57 rfl rfl; have e57 : v57 = (.agg #[.int .i64 k, .string n, .bool g, .slice sl ks.length cap]) := p57; subst e57; have HBW := below_join HB6.out (below_join HBr.out hB); clear hold hdep; go_simp; refine (HDu.out wx HBW).mono ?_; rintro _ w9 ⟨u, rfl, hr, hb9⟩; obtain ⟨sd, cd, rfl, -⟩ := LRep.def.1 hr; have HR9 : Hid (LRep w9 (.mk kd nd gd ksd) (.agg #[.int .i64 kd, .string nd, .bool gd, .slice sd ksd.length cd])) := hr; clear hr; go_simp; exact hK.out _ _ ⟨sd, cd, rfl, HR9.out⟩ hb9
        · intro aa wx hB hold hdep K hK
          obtain ⟨v56, t56, p56⟩ := hdep 0 rfl _ 56 rfl rfl; have e56 : v56 = (.agg #[.int .i64 k, .string n, .bool g, .slice sl ks.length cap]) := p56; subst e56; obtain ⟨v58, t58, p58⟩ := hdep 2 rfl _ 58 rfl rfl; (have P58 : Hid ((fun v w9 => ∃ sd cd, v = (.agg #[.int .i64 kd, .string nd, .bool gd, .slice sd ksd.length cd]) ∧ LRep w9 (.mk kd nd gd ksd) v) v58 wx) := p58); clear p58; obtain ⟨sd, cd, rfl, hr⟩ := P58.out; have HR8 : Hid (LRep wx (.mk kd nd gd ksd) (.agg #[.int .i64 kd, .string nd, .bool gd, .slice sd ksd.length cd])) := hr; have HBW : Hid (Below w.heap.size w wx) := below_join HB6.out (below_join HBr.out hB); clear hr P58; clear hold hdep; go_simp; have hbn := below_more (Below.refl wx.heap.size wx) (.cells #[.int .i64 k, .string n, .bool g, .slice sl ks.length cap, .int .i64 kd, .string nd, .bool gd, .slice sd ksd.length cd] 52 (0, 0)); exact hK.out _ _ ⟨_, rfl, pair_ll ((HX.out.up HBW.out).up hbn) (HR8.out.up hbn) (blk_new _ _)⟩ hbn
        · intro aa wx hB hold hdep K hK
          have t8 : aa.tmps[8]? = some (.slice ad i cp) := hold.2.2 8 rfl; clear hold hdep; go_simp; exact hK.out _ _ rfl (Below.refl _ _)
        · intro aa wx hB hold hdep K hK
          obtain ⟨v59, t59, p59⟩ := hdep 3 rfl _ 59 rfl rfl; (have P59 : Hid ((fun v w9 => ∃ q, v = .slice (some ⟨q, 0, none⟩) 2 2 ∧ LL w9 v [x, .mk kd nd gd ksd]) v59 wx) := p59); clear p59; obtain ⟨v60, t60, p60⟩ := hdep 4 rfl _ 60 rfl rfl; have e60 : v60 = (.slice ad i cp) := p60; subst e60; obtain ⟨q, rfl, hll⟩ := P59.out; have HLL : Hid (LL wx (.slice (some ⟨q, 0, none⟩) 2 2) [x, .mk kd nd gd ksd]) := hll; have HPL : Hid (PL wx (.slice ad i cp) (idLk i 0 i)) := links_pl (idLk_len i i).symm (rowM_up HO.out hB); clear P59 hll; clear hold hdep; go_simp; refine (HC3.out _ wx HLL.out HPL.out).mono ?_; rintro _ w9 ⟨rfl, hb9⟩; go_simp; exact hK.out _ _ rfl hb9
        · intro aa wx hB hold hdep K hK
          obtain ⟨v61, t61, p61⟩ := hdep 5 rfl _ 61 rfl rfl; have e61 : v61 = (.tuple #[.bool bz, .agg #[.int .i64 c3, .int .i64 d3]]) := p61; subst e61; clear hold hdep; go_simp; exact hK.out _ _ rfl (Below.refl _ _)
        · intro aa wx hB hold hdep K hK
          obtain ⟨v55, t55, p55⟩ := hdep 6 rfl _ 55 rfl rfl; have e55 : v55 = (.tuple #[.bool bz, .agg #[.int .i64 c3, .int .i64 d3]]) := p55; subst e55; clear hold hdep; go_simp; exact hK.out _ _ rfl (Below.refl _ _)
        · intro aa wx hB hold hdep K hK
          obtain ⟨v55, t55, p55⟩ := hdep 6 rfl _ 55 rfl rfl; have e55 : v55 = (.tuple #[.bool bz, .agg #[.int .i64 c3, .int .i64 d3]]) := p55; subst e55; clear hold hdep; go_simp; exact hK.out _ _ rfl (Below.refl _ _)
        · intro aa wx hB hold hdep K hK
          have HA : Hid (wr.heap.size ≤ wx.heap.size) := hB.size; clear hold hdep; go_simp; exact hK.out _ _ ⟨_, rfl, HA.out, blk_new _ _⟩ (below_more (Below.refl _ _) _)
        · intro aa wx hB hold hdep K hK
          obtain ⟨v62, t62, p62⟩ := hdep 7 rfl _ 62 rfl rfl; have e62 : v62 = (.bool bz) := p62; subst e62; clear hold hdep; go_simp; exact hK.out _ _ rfl (Below.refl _ _)
      · intro aa wx hB hold hgot K hK
        (obtain ⟨X, tX, pX⟩ := hgot 10 _ 10 (by omega) rfl rfl); have eX : X = (.bool bz) := pX; subst eX; (obtain ⟨vP, tP, pP⟩ := hgot 9 _ 11 (by omega) rfl rfl); obtain ⟨bf, rfl, hbA, hbz⟩ := pP; (obtain ⟨E, tE, pE⟩ := hgot 8 _ 63 (by omega) rfl rfl); have eE : E = (.agg #[.int .i64 c3, .int .i64 d3]) := pE; subst eE; have HbA : Hid (wr.heap.size ≤ bf) := hbA; have HbZ : Hid (wx.heap[bf]? = some (.cells #[.int .i64 0, .int .i64 0] 28 (0, 0))) := hbz; have HBx : Hid (Below wr.heap.size wr wx) := hB; obtain ⟨z0, z1, z2, z3⟩ := blk2 HbZ.out; obtain ⟨tm, df⟩ := aa; (obtain ⟨ys, zs, hys, hzs, htm, rfl⟩ := frame_two 10 2 43 9 12 55 64 rfl rfl rfl (by kernel_rfl) (Nat.le_of_ble_eq_true rfl) hold); obtain ⟨y10, y11, rfl⟩ := rowNI2 ys hys; obtain ⟨y55, y56, y57, y58, y59, y60, y61, y62, y63, rfl⟩ := rowNI9 zs hzs; simp only [List.take_succ_cons, List.take_zero, List.drop_succ_cons, List.drop_zero, List.cons_append, List.nil_append] at htm; subst htm; obtain rfl : y10 = _ := someInjM tX; obtain rfl : y11 = _ := someInjM tP; obtain rfl : y63 = _ := someInjM tE; clear hys hzs hold hgot tX tP tE hbA hbz hB; go_simp; refine hK.out _ _ ?_; clear hK z0 z1 z2 z3; obtain ⟨wz, hF⟩ : ∃ F, F = (wx.setCell ⟨bf, 0, none⟩ (.int .i64 c3)).setCell ⟨bf, 1, none⟩ (.int .i64 d3) := ⟨_, rfl⟩; (have HW : Hid (Below wr.heap.size wr wz) := by rw [hF]; exact (HBx.out.setCell (p := ⟨bf, 0, none⟩) HbA.out _).setCell (p := ⟨bf, 1, none⟩) HbA.out _); (have HE : Hid (wz.heap[bf]? = some (.cells #[.int .i64 c3, .int .i64 d3] 28 (0, 0))) := by rw [hF]; exact set2 HbZ.out _ _); rw [← hF]; have HBz : Hid (Below w.heap.size w wz) := below_join HB6.out (below_join HBr.out HW.out); clear hF HBx HbZ HbA; obtain ⟨z0, z1, -⟩ := blk2 HE.out; obtain ⟨g1, g2⟩ := HZ.out; subst g1; (have hc3e : (c3 != 0) = false := by rw [g2]; rfl); clear g2 HZ; go_wp2_with fail; refine (HCl.out wz HBz.out).mono ?_; rintro _ u1 ⟨rfl, hv1⟩; obtain ⟨X1, hX1⟩ : ∃ X, X = u1.alloc (.cells #[.int .i64 c1, .int .i64 d1] 28 (0, 0)) := ⟨_, rfl⟩; (have HBX : Hid (Below w.heap.size w X1) := by rw [hX1]; exact below_more (below_join HBz.out hv1) _); (have HE1 : Hid (X1.heap[u1.heap.size]? = some (.cells #[.int .i64 c1, .int .i64 d1] 28 (0, 0))) := by rw [hX1]; exact blk_new _ _); have HU1 : Hid (w.heap.size ≤ u1.heap.size) := (below_join HBz.out hv1).size; obtain ⟨q0, q1, -⟩ := blk2 HE1.out; have hXe := hX1.symm; clear hX1 hv1; by_cases hc1 : c1 = 0
        case neg =>
          (have hcn : (c1 != 0) = true := by simpa using hc1); clear hc1; go_wp2_with fail; go_ret; exact ⟨rfl, HBX.out⟩
        (have hcn : (c1 != 0) = false := by simpa using hc1); by_cases hl2 : l.length < 2
        case pos =>
          (have hl2I : (l.length : Int) < 2 := by omega); clear hc1 hl2; go_wp2_with fail; go_ret; exact ⟨rfl, HBX.out⟩
        (have hl2I : ¬ (l.length : Int) < 2 := by omega); obtain ⟨e1, hB1⟩ := HCC.out
        obtain ⟨mu1, k1, hn1⟩ : ∃ mu1 k1, netC l a = .ok mu1 k1 := by
          rcases hn : netC l a with ⟨c, p⟩ | ⟨mu, k⟩
          · rw [hn] at e1
            exact absurd (e1.trans hc1) (netC_bad hn)
          · exact ⟨mu, k, rfl⟩
        (have hB2 : B1 = true ↔ CorrN l mu1 a.length := by unfold CorrB at hB1; rw [hn1] at hB1; exact hB1); obtain ⟨g1, g2, g3, g4, -, -⟩ := netC_ok hn1; have HNn : Hid (netC l a = .ok mu1 k1 ∧ (B1 = true ↔ CorrN l mu1 a.length)) := ⟨hn1, hB2⟩; (have HSz : Hid (2 ≤ l.length ∧ l.length ≤ 20 ∧ Lm.sizes l ≤ 200) := ⟨by omega, g2, g4⟩); (have HJl : Hid (∀ W, Below w.heap.size w W → Calls Try.prog 32 #[.slice sl1 l.length cap1, .int .i64 201] W _) := fun W h => linears_any l _ 201 W (HLl.out.up h) (by omega) (by omega)); obtain ⟨S1, hS1⟩ : ∃ S1, S1 = Lm.sizes l := ⟨_, rfl⟩; rw [← hS1] at HJl; have HSe : Hid (S1 = Lm.sizes l) := hS1; (have hS1I : (S1 : Int) ≤ 200 := by omega); (have hlI : (l.length : Int) ≤ 20 := by omega); clear hc1 hl2 e1 hB1 hn1 hB2 g1 g2 g3 g4 hS1 HCC HCl; go_wp2_with fail; refine (HJl.out X1 HBX.out).mono ?_; rintro _ u2 ⟨a9, p9, cs9, rfl, -, -, hv2⟩; have HBa : Hid (Below w.heap.size w u2) := below_join HBX.out hv2; have HE2 : Hid (u2.heap[u1.heap.size]? = some (.cells #[.int .i64 c1, .int .i64 d1] 28 (0, 0))) := below_keep hv2 HE1.out; clear hv2 q0 q1 hXe; by_cases h199 : 199 < S1
        case pos =>
          (have h199I : (199 : Int) < (S1 : Int) := by omega); clear h199; go_wp2_with fail; go_ret; exact ⟨rfl, HBa.out⟩
        (have h199I : ¬ (199 : Int) < (S1 : Int) := by omega); (have H199 : Hid (Lm.sizes l ≤ 199) := by have := HSe.out; show _ ≤ _; omega); clear h199; obtain ⟨csl, hql, hcl⟩ := HLl.out.cells0; have hsz9 := HSz.out; (obtain ⟨k0, hk0⟩ : ∃ k0, l.length = k0 + 2 := ⟨l.length - 2, by omega⟩); obtain ⟨l', f0, h0, dl, u0, u1', u2', u3, y0, y1, y2, y3, el, hl', ecl, hq1, hf0, hh0⟩ := LQ4.last2 k0 hql hk0; (obtain ⟨bl, ol, rfl, hcl2⟩ := hcl (by omega)); (have hdl : dl.length = k0 * 4 := by rw [hq1.len, hl']); (have HDu2 : Hid (∀ (j : Nat) (u : Value), (dl ++ [u0, u1', u2', u3])[j]? = some u → w.cell? ⟨bl, ol + j, none⟩ = some u) := fun j u hu => hcl2 j u (by rw [ecl, List.getElem?_append_left (List.getElem?_eq_some_iff.1 hu).1]; exact hu)); (have HDl : Hid (∀ (j : Nat) (u : Value), dl[j]? = some u → w.cell? ⟨bl, ol + j, none⟩ = some u) := fun j u hu => HDu2.out j u (by rw [List.getElem?_append_left (List.getElem?_eq_some_iff.1 hu).1]; exact hu)); have HU := last_cells rfl hdl HDu2.out; (have HY := last_cells (n := (k0 + 1) * 4) ecl (by rw [List.length_append, hdl]; simp; omega) hcl2); have HU : Hid (w.cell? ⟨bl, ol + k0 * 4, none⟩ = some u0 ∧ w.cell? ⟨bl, ol + k0 * 4 + 1, none⟩ = some u1' ∧ w.cell? ⟨bl, ol + k0 * 4 + 2, none⟩ = some u2' ∧ w.cell? ⟨bl, ol + k0 * 4 + 3, none⟩ = some u3) := HU; have HY : Hid (w.cell? ⟨bl, ol + (k0 + 1) * 4, none⟩ = some y0 ∧ w.cell? ⟨bl, ol + (k0 + 1) * 4 + 1, none⟩ = some y1 ∧ w.cell? ⟨bl, ol + (k0 + 1) * 4 + 2, none⟩ = some y2 ∧ w.cell? ⟨bl, ol + (k0 + 1) * 4 + 3, none⟩ = some y3) := HY; have HQ1' : Hid (LQ4 w dl l' ∧ l'.length = k0 ∧ l = l' ++ [f0, h0] ∧ LRep w f0 (.agg #[u0, u1', u2', u3]) ∧ LRep w h0 (.agg #[y0, y1, y2, y3])) := ⟨hq1, hl', el, hf0, hh0⟩
        obtain ⟨hcapl, hcapm⟩ : l.length ≤ cap1 ∧ cap1 ≤ maxLen := by
          obtain ⟨s1, p1, e1, g1, g2, -⟩ := HLl.out; simp only [Value.slice.injEq, true_and] at e1; obtain ⟨-, rfl⟩ := e1; exact ⟨g1, g2⟩
        (have hkI : (l.length : Int) - 2 = (k0 : Int) := by omega); have HK : Hid (l.length = k0 + 2 ∧ l.length ≤ cap1) := ⟨hk0, hcapl⟩; (have hkl : (k0 : Int) < (l.length : Int) := by omega); (have hkl1 : (k0 : Int) + 1 < (l.length : Int) := by omega); (have hkc : (k0 : Int) ≤ (cap1 : Int) := by omega); (have hk20 : (k0 : Int) ≤ 20 := by omega); obtain ⟨i1, hi1, hy0, hy1, hy2⟩ := infoLm; clear hql hcl hsz9 hk0 el hl' ecl hq1 hf0 hh0 hcl2 hdl hcapl hcapm; go_wp2_with fail; clear hkI; (refine wp_region_wrd (by kernel_rfl) [fun v _ _ => v = (.slice (some ⟨bl, ol, none⟩) l.length cap1), fun v _ _ => v = (.int .i64 (k0 : Nat)), fun v _ _ => v = (.slice (some ⟨bl, ol, none⟩) k0 cap1), fun v w9 t => ∃ ad3 cp3, v = .slice ad3 k0 cp3 ∧ w9.ownsRow u2.heap.size 52 4 (.slice ad3 k0 cp3) k0 dl ∧ ∀ g, (Value.slice ad3 k0 cp3).ownBlock = some g → t g = 3, fun v _ _ => v = (.slice (some ⟨bl, ol, none⟩) l.length cap1), fun v _ _ => v = (.int .i64 (k0 : Nat)), fun v _ _ => v = (.pointer (some ⟨bl, ol + k0 * 4, none⟩)), fun v _ _ => v = (.agg #[u0, u1', u2', u3]), fun v _ _ => v = (.slice (some ⟨bl, ol, none⟩) l.length cap1), fun v _ _ => v = (.int .i64 (k0 : Nat)), fun v _ _ => v = (.int .i64 ((k0 + 1) : Nat)), fun v _ _ => v = (.pointer (some ⟨bl, ol + (k0 + 1) * 4, none⟩)), fun v _ _ => v = (.agg #[y0, y1, y2, y3]), fun v w9 t => ∃ q, v = .slice (some ⟨q, 0, none⟩) 2 2 ∧ w9.heap[q]? = some (.cells #[u0, u1', u2', u3, y0, y1, y2, y3] 52 (0, 0)) ∧ t q = 13, fun v w9 t => ∃ q, v = (.agg #[.int .i64 3, .string ⟨#[]⟩, .bool false, .slice (some ⟨q, 0, none⟩) 2 2]) ∧ w9.heap[q]? = some (.cells #[u0, u1', u2', u3, y0, y1, y2, y3] 52 (0, 0)) ∧ t q = 13, fun v w9 t => ∃ q q2, v = .slice (some ⟨q2, 0, none⟩) 1 1 ∧ w9.heap[q2]? = some (.cells #[.int .i64 3, .string ⟨#[]⟩, .bool false, .slice (some ⟨q, 0, none⟩) 2 2] 52 (0, 0)) ∧ w9.heap[q]? = some (.cells #[u0, u1', u2', u3, y0, y1, y2, y3] 52 (0, 0)) ∧ t q = 13, fun _ _ _ => True] ?_ (by kernel_rfl) (by kernel_rfl) 125 rfl (by kernel_rfl) 17 _ rfl rfl 6 (by kernel_rfl) (fun _ => none) 16 _ (by decide) rfl rfl 12 (by kernel_rfl) (fun v w9 => ∃ g3 cp3 q, v = (.slice (some ⟨g3, 0, none⟩) (k0 + 1) cp3) ∧ Hid (w9.ownsRow u2.heap.size 52 4 (.slice (some ⟨g3, 0, none⟩) (k0 + 1) cp3) (k0 + 1) (dl ++ [.int .i64 3, .string ⟨#[]⟩, .bool false, .slice (some ⟨q, 0, none⟩) 2 2])) ∧ Hid (w9.heap[q]? = some (.cells #[u0, u1', u2', u3, y0, y1, y2, y3] 52 (0, 0))) ∧ Hid (Below u2.heap.size u2 w9)) ?_ ?_ ?_ ?_)
        · intro p hp
          simp only [List.mem_cons, List.not_mem_nil, or_false] at hp
          rcases hp with rfl | rfl | rfl | rfl | rfl | rfl | rfl | rfl | rfl | rfl | rfl | rfl | rfl | rfl | rfl | rfl | rfl
          · exact fun _ _ _ _ _ h _ _ => h
          · exact fun _ _ _ _ _ h _ _ => h
          · exact fun _ _ _ _ _ h _ _ => h
          · rintro v w1 t w2 t' ⟨ad3, cp3, e, h, hm⟩ hb ht
            (exact ⟨ad3, cp3, e, rowM_up h hb, fun g hg => (ht g (h.lt g hg).2).trans (hm g hg)⟩)
          · exact fun _ _ _ _ _ h _ _ => h
          · exact fun _ _ _ _ _ h _ _ => h
          · exact fun _ _ _ _ _ h _ _ => h
          · exact fun _ _ _ _ _ h _ _ => h
          · exact fun _ _ _ _ _ h _ _ => h
          · exact fun _ _ _ _ _ h _ _ => h
          · exact fun _ _ _ _ _ h _ _ => h
          · exact fun _ _ _ _ _ h _ _ => h
          · exact fun _ _ _ _ _ h _ _ => h
          · rintro v w1 t w2 t' ⟨q, e, h, hm⟩ hb ht
            exact ⟨q, e, below_keep hb h, (ht q (lt_of_block h)).trans hm⟩
          · rintro v w1 t w2 t' ⟨q, e, h, hm⟩ hb ht
            exact ⟨q, e, below_keep hb h, (ht q (lt_of_block h)).trans hm⟩
          · rintro v w1 t w2 t' ⟨q, q2, e, h2, h, hm⟩ hb ht
            exact ⟨q, q2, e, below_keep hb h2, below_keep hb h, (ht q (lt_of_block h)).trans hm⟩
          · exact fun _ _ _ _ _ h _ _ => h
        · intro j c wq tq hj
          cases hj
        · refine ⟨?_, ?_, ?_, ?_, ?_, ?_, ?_, ?_, ?_, ?_, ?_, ?_, ?_, ?_, ?_, ?_, ?_, trivial⟩
          · show StepOkD _ _ _ _ _ _ _ _ _
            intro aa wx tg hB hold hdep K hK; have t1 : aa.tmps[1]? = some (.slice (some ⟨bl, ol, none⟩) l.length cap1) := hold.2.2 1 rfl; clear hold hdep; go_simp; exact hK.out _ _ rfl (Below.refl _ _)
          · show StepOkD _ _ _ _ _ _ _ _ _
            intro aa wx tg hB hold hdep K hK; have t14 : aa.tmps[14]? = some (.int .i64 (k0 : Nat)) := hold.2.2 14 rfl; clear hold hdep; go_simp; exact hK.out _ _ rfl (Below.refl _ _)
          · show StepOkD _ _ _ _ _ _ _ _ _
            intro aa wx tg hB hold hdep K hK; obtain ⟨v94, t94, p94⟩ := hdep 0 rfl _ 94 rfl rfl; have e94 : v94 = (.slice (some ⟨bl, ol, none⟩) l.length cap1) := p94; subst e94; obtain ⟨v95, t95, p95⟩ := hdep 1 rfl _ 95 rfl rfl; have e95 : v95 = (.int .i64 (k0 : Nat)) := p95; subst e95; clear hold hdep; go_simp; exact hK.out _ _ rfl (Below.refl _ _)
          · show StepOkD _ _ _ _ _ _ _ _ _
            intro aa wx tg hB hold hdep K hK; obtain ⟨v96, t96, p96⟩ := hdep 2 rfl _ 96 rfl rfl; have e96 : v96 = (.slice (some ⟨bl, ol, none⟩) k0 cap1) := p96; subst e96; have hBw := below_join HBa.out hB; have hq1 := HQ1'.out; have hsz := HSz.out; have hkk := HK.out; clear hold hdep; (refine step_app0 rfl _ _ 22 rfl 52 i1 (.agg #[.int .i64 0, .string ⟨#[]⟩, .bool false, .slice none 0 0]) 4 56 Try.underlying22 hi1 hy0 hy1 hy2 rfl (by decide) (some ⟨bl, ol, none⟩) k0 cap1 dl rfl (eval_tmpM t96) (hq1.1.len.trans (by rw [hq1.2.1])) (fun _ => ⟨bl, ol, rfl, fun j u hu => (hBw.cell (lt_of_cell (HDl.out j u hu))).trans (HDl.out j u hu)⟩) hq1.1.one (by unfold maxLen; omega) (by omega) ?_); intro ad3 cp3 w3 h3 b3; (refine hK.out _ _ ⟨ad3, cp3, rfl, rowM_low h3 hB.size, fun g hg => if_neg ?_⟩ b3); have := (h3.lt g hg).1; omega
          · show StepOkD _ _ _ _ _ _ _ _ _
            intro aa wx tg hB hold hdep K hK; have t1 : aa.tmps[1]? = some (.slice (some ⟨bl, ol, none⟩) l.length cap1) := hold.2.2 1 rfl; clear hold hdep; go_simp; exact hK.out _ _ rfl (Below.refl _ _)
          · show StepOkD _ _ _ _ _ _ _ _ _
            intro aa wx tg hB hold hdep K hK; have t14 : aa.tmps[14]? = some (.int .i64 (k0 : Nat)) := hold.2.2 14 rfl; clear hold hdep; go_simp; exact hK.out _ _ rfl (Below.refl _ _)
          · show StepOkD _ _ _ _ _ _ _ _ _
            intro aa wx tg hB hold hdep K hK; obtain ⟨v98, t98, p98⟩ := hdep 4 rfl _ 98 rfl rfl; have e98 : v98 = (.slice (some ⟨bl, ol, none⟩) l.length cap1) := p98; subst e98; obtain ⟨v99, t99, p99⟩ := hdep 5 rfl _ 99 rfl rfl; have e99 : v99 = (.int .i64 (k0 : Nat)) := p99; subst e99; clear hold hdep; go_simp; exact hK.out _ _ rfl (Below.refl _ _)
          · show StepOkD _ _ _ _ _ _ _ _ _
            intro aa wx tg hB hold hdep K hK; obtain ⟨v100, t100, p100⟩ := hdep 6 rfl _ 100 rfl rfl; have e100 : v100 = (.pointer (some ⟨bl, ol + k0 * 4, none⟩)) := p100; subst e100; have hBw := below_join HBa.out hB; have f0 := (hBw.cell (lt_of_cell HU.out.1)).trans HU.out.1; have f1 := (hBw.cell (lt_of_cell HU.out.2.1)).trans HU.out.2.1; have f2 := (hBw.cell (lt_of_cell HU.out.2.2.1)).trans HU.out.2.2.1; have f3 := (hBw.cell (lt_of_cell HU.out.2.2.2)).trans HU.out.2.2.2; clear hold hdep; go_simp; exact hK.out _ _ rfl (Below.refl _ _)
          · show StepOkD _ _ _ _ _ _ _ _ _
            intro aa wx tg hB hold hdep K hK; have t1 : aa.tmps[1]? = some (.slice (some ⟨bl, ol, none⟩) l.length cap1) := hold.2.2 1 rfl; clear hold hdep; go_simp; exact hK.out _ _ rfl (Below.refl _ _)
          · show StepOkD _ _ _ _ _ _ _ _ _
            intro aa wx tg hB hold hdep K hK; have t14 : aa.tmps[14]? = some (.int .i64 (k0 : Nat)) := hold.2.2 14 rfl; clear hold hdep; go_simp; exact hK.out _ _ rfl (Below.refl _ _)
          · show StepOkD _ _ _ _ _ _ _ _ _
            intro aa wx tg hB hold hdep K hK; obtain ⟨v103, t103, p103⟩ := hdep 9 rfl _ 103 rfl rfl; have e103 : v103 = (.int .i64 (k0 : Nat)) := p103; subst e103; clear hold hdep; go_simp; (have e9 : (k0 : Int) + 1 = ((k0 + 1 : Nat) : Int) := by omega); (rw [e9, wrap_small (k0 + 1) (by omega)]); exact hK.out _ _ rfl (Below.refl _ _)
          · show StepOkD _ _ _ _ _ _ _ _ _
            intro aa wx tg hB hold hdep K hK; obtain ⟨v102, t102, p102⟩ := hdep 8 rfl _ 102 rfl rfl; have e102 : v102 = (.slice (some ⟨bl, ol, none⟩) l.length cap1) := p102; subst e102; obtain ⟨v104, t104, p104⟩ := hdep 10 rfl _ 104 rfl rfl; have e104 : v104 = (.int .i64 ((k0 + 1) : Nat)) := p104; subst e104; (have hk1N : k0 + 1 < l.length := by have := HK.out; omega); (have hk1I : ((k0 + 1 : Nat) : Int) < (l.length : Int) := by omega); clear hold hdep; go_simp; exact hK.out _ _ rfl (Below.refl _ _)
          · show StepOkD _ _ _ _ _ _ _ _ _
            intro aa wx tg hB hold hdep K hK; obtain ⟨v105, t105, p105⟩ := hdep 11 rfl _ 105 rfl rfl; have e105 : v105 = (.pointer (some ⟨bl, ol + (k0 + 1) * 4, none⟩)) := p105; subst e105; have hBw := below_join HBa.out hB; have f0 := (hBw.cell (lt_of_cell HY.out.1)).trans HY.out.1; have f1 := (hBw.cell (lt_of_cell HY.out.2.1)).trans HY.out.2.1; have f2 := (hBw.cell (lt_of_cell HY.out.2.2.1)).trans HY.out.2.2.1; have f3 := (hBw.cell (lt_of_cell HY.out.2.2.2)).trans HY.out.2.2.2; clear hold hdep; go_simp; exact hK.out _ _ rfl (Below.refl _ _)
          · show StepOkD _ _ _ _ _ _ _ _ _
            intro aa wx tg hB hold hdep K hK; obtain ⟨v101, t101, p101⟩ := hdep 7 rfl _ 101 rfl rfl; have e101 : v101 = (.agg #[u0, u1', u2', u3]) := p101; subst e101; obtain ⟨v106, t106, p106⟩ := hdep 12 rfl _ 106 rfl rfl; have e106 : v106 = (.agg #[y0, y1, y2, y3]) := p106; subst e106; clear hold hdep; go_simp; exact hK.out _ _ ⟨_, rfl, blk_new _ _, if_neg (Nat.lt_irrefl _)⟩ (below_more (Below.refl _ _) _)
          · show StepOkD _ _ _ _ _ _ _ _ _
            intro aa wx tg hB hold hdep K hK; obtain ⟨v107, t107, p107⟩ := hdep 13 rfl _ 107 rfl rfl; (have P107 : Hid ((fun v w9 t => ∃ q, v = .slice (some ⟨q, 0, none⟩) 2 2 ∧ w9.heap[q]? = some (.cells #[u0, u1', u2', u3, y0, y1, y2, y3] 52 (0, 0)) ∧ t q = 13) v107 wx tg) := p107); clear p107; obtain ⟨q, rfl, hq, hmq⟩ := P107.out; clear hold hdep; go_simp; exact hK.out _ _ ⟨q, rfl, hq, (if_pos (lt_of_block hq)).trans hmq⟩ (Below.refl _ _)
          · show StepOkD _ _ _ _ _ _ _ _ _
            intro aa wx tg hB hold hdep K hK; obtain ⟨v108, t108, p108⟩ := hdep 14 rfl _ 108 rfl rfl; (have P108 : Hid ((fun v w9 t => ∃ q, v = (.agg #[.int .i64 3, .string ⟨#[]⟩, .bool false, .slice (some ⟨q, 0, none⟩) 2 2]) ∧ w9.heap[q]? = some (.cells #[u0, u1', u2', u3, y0, y1, y2, y3] 52 (0, 0)) ∧ t q = 13) v108 wx tg) := p108); clear p108; obtain ⟨q, rfl, hq, hmq⟩ := P108.out; clear hold hdep; go_simp; exact hK.out _ _ ⟨q, _, rfl, blk_new _ _, alloc_keep hq _, (if_pos (lt_of_block hq)).trans hmq⟩ (below_more (Below.refl _ _) _)
          · exact trivial
        · intro aa wx tg hB hold hgot K hK
          (obtain ⟨v50, tv50, pv50⟩ := hgot 3 _ 97 (by decide) (by decide) rfl rfl rfl); (obtain ⟨v70, tv70, pv70⟩ := hgot 15 _ 109 (by decide) (by decide) rfl rfl rfl); obtain ⟨ad, cp, rfl, hrow, hmk⟩ := pv50; obtain ⟨q, q2, rfl, hq2, hq, hmq⟩ := pv70; have hsz := HSz.out; have hkk := HK.out; have hsx := hB.size; have hlow := hrow.lt; clear hold hgot; (refine step_append_lies wx rfl _ _ 22 rfl u2.heap.size 52 i1 (.agg #[.int .i64 0, .string ⟨#[]⟩, .bool false, .slice none 0 0]) 4 56 Try.underlying22 hi1 hy0 hy1 hy2 rfl (by decide) (.slice ad k0 cp) k0 _ (eval_tmpM tv50) hrow ⟨q2, 0, none⟩ 1 1 [.int .i64 3, .string ⟨#[]⟩, .bool false, .slice (some ⟨q, 0, none⟩) 2 2] (eval_tmpM tv70) rfl ?_ ?_ (by omega) (by unfold maxLen; omega) (by omega) (by omega) _ rfl ?_)
          · intro j u hu
            rw [add_none, Nat.zero_add, blk_cell hq2]; simpa using hu
          · intro u hu
            simp at hu
            rcases hu with rfl | rfl | rfl | rfl <;> rfl
          intro g3 cp3 w3 hown3 hgrow hat hlt3; have hgrow' : wx.grownBy w3 (Value.slice ad k0 cp).ownBlock := hgrow
          have hnq : (Value.slice ad k0 cp).ownBlock ≠ some q := fun e => by
            have := hmk q e; omega
          (exact hK.out _ _ ⟨g3, cp3, q, rfl, hown3, (hgrow'.block q (lt_of_block hq) fun e => hnq e.symm).trans hq, hB.grown hgrow' (by omega) fun k hk => (hlow k hk).1⟩)
        · intro aa wx hold hpx hpu K hK
          obtain ⟨v110, t110, g3, cp3, q, rfl, HT3, HQ9, HB9⟩ := hpx 110 rfl; obtain ⟨tm, df⟩ := aa; (obtain ⟨ys, hys, htm, rfl⟩ := frame_mid2 94 17 (by kernel_rfl) (Nat.le_of_ble_eq_true rfl) hold); obtain ⟨s94, s95, s96, s97, s98, s99, s100, s101, s102, s103, s104, s105, s106, s107, s108, s109, s110, rfl⟩ := rowNI17 ys hys; simp only [List.take_succ_cons, List.take_zero, List.drop_succ_cons, List.drop_zero, List.cons_append, List.nil_append] at htm; subst htm; obtain rfl : s110 = _ := someInjM t110; clear hys hold hpx hpu t110; go_simp; refine hK.out _ _ ?_; clear hK; obtain ⟨z4, hz4⟩ := corrB_ex (l' ++ [parL f0 h0]) a; obtain ⟨ez4, hn4⟩ := par_b HQ1'.out.2.2.1 HNn.out.1 H199.out HNn.out.2 hz4; obtain ⟨c4, hc4⟩ : ∃ c : Int, (netE (netC (l' ++ [parL f0 h0]) a)).1 = c := ⟨_, rfl⟩; obtain ⟨d4, hd4⟩ : ∃ c : Int, (netE (netC (l' ++ [parL f0 h0]) a)).2 = c := ⟨_, rfl⟩; have hBw := below_join HBa.out HB9.out; (have hll4 := par_ll hBw HQ1'.out.1 HQ1'.out.2.2.2.1 HQ1'.out.2.2.2.2 HQ9.out (by rw [HQ1'.out.2.1]) HT3.out); (have HC4 : Hid (∀ W, Below wx.heap.size wx W → Calls Try.prog 12 #[.slice (some ⟨g3, 0, none⟩) (k0 + 1) cp3, .slice asl a.length acap] W fun e w' => e = .returned (.tuple #[.bool z4, .agg #[.int .i64 c4, .int .i64 d4]]) ∧ Below W.heap.size W w') := fun W h => by rw [← hc4, ← hd4]; exact correct_any _ _ z4 hz4 _ _ W (hll4.up h) (HPa.out.up (below_join hBw h))); have HZ4 : Hid (z4 = B1 ∧ c4 = 0) := ⟨ez4, hc4.symm.trans hn4⟩; have HBw : Hid (Below w.heap.size w wx) := hBw; have HE5 : Hid (wx.heap[u1.heap.size]? = some (.cells #[.int .i64 c1, .int .i64 d1] 28 (0, 0))) := below_keep HB9.out HE2.out; clear hz4 ez4 hn4 hc4 hd4 hBw hll4 HT3 HQ9 HQ1' HU HY HDl HDu2 HNn; go_wp2_with fail; refine (HC4.out wx (Below.refl _ _)).mono ?_; rintro _ w13 ⟨rfl, hb13⟩; have HE6 : Hid (w13.heap[u1.heap.size]? = some (.cells #[.int .i64 c1, .int .i64 d1] 28 (0, 0))) := below_keep hb13 HE5.out; have HBE := below_join HBw.out hb13; have HBE2 := (HBE.setCell (p := ⟨u1.heap.size, 0, none⟩) HU1.out (.int .i64 c4)).setCell (p := ⟨u1.heap.size, 1, none⟩) HU1.out (.int .i64 d4); have HBE : Hid (Below _ w _) := HBE2; obtain ⟨q0, q1, q2, q3⟩ := blk2 HE6.out; obtain ⟨e1, e2⟩ := HZ4.out; (have hc4e : (c4 == 0) = true := by rw [e2]; rfl); clear hb13 HZ4 e2 HBE2
          cases B1 <;> subst e1
          all_goals
            go_wp2_with fail; go_ret; exact ⟨rfl, HBE.out⟩
end Go.Proofs.Ytealalhgkdlmkai
