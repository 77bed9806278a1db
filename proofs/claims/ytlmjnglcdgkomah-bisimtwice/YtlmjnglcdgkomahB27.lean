/- Texts of one proof, one behind the other: SBI. -/
import Derived.Test.YtlmjnglcdgkomahB26
import Derived.Test.YtlmjnglcdgkomahB25
import Derived.Test.YtlmjnglcdgkomahB16
import Derived.Test.YtlmjnglcdgkomahB09
/- The law BisimTwice: two copies of a model beside each other have the classes of one. -/
namespace Go.Proofs.Ytlmjnglcdgkomah
open Go.RowKit Go.Sort

theorem rowT1 (l : List Value) (h0 : l.length = 1) : ∃ x0, l = [x0] := by
  obtain ⟨x0, l1, e0, h1⟩ := cons_lenM h0; have e1 : l1 = [] := List.length_eq_zero_iff.1 h1; subst e1 e0; exact ⟨x0, rfl⟩
theorem rowT13 (l : List Value) (h0 : l.length = 13) : ∃ x0 x1 x2 x3 x4 x5 x6 x7 x8 x9 x10 x11 x12, l = [x0, x1, x2, x3, x4, x5, x6, x7, x8, x9, x10, x11, x12] := by
  obtain ⟨x0, l1, e0, h1⟩ := cons_lenM h0; obtain ⟨x1, l2, e1, h2⟩ := cons_lenM h1; obtain ⟨x2, l3, e2, h3⟩ := cons_lenM h2; obtain ⟨x3, l4, e3, h4⟩ := cons_lenM h3; obtain ⟨x4, l5, e4, h5⟩ := cons_lenM h4; obtain ⟨x5, l6, e5, h6⟩ := cons_lenM h5; obtain ⟨x6, l7, e6, h7⟩ := cons_lenM h6; obtain ⟨x7, l8, e7, h8⟩ := cons_lenM h7; obtain ⟨x8, l9, e8, h9⟩ := cons_lenM h8; obtain ⟨x9, l10, e9, h10⟩ := cons_lenM h9; obtain ⟨x10, l11, e10, h11⟩ := cons_lenM h10; obtain ⟨x11, l12, e11, h12⟩ := cons_lenM h11; obtain ⟨x12, l13, e12, h13⟩ := cons_lenM h12; have e13 : l13 = [] := List.length_eq_zero_iff.1 h13; subst e13 e12 e11 e10 e9 e8 e7 e6 e5 e4 e3 e2 e1 e0; exact ⟨x0, x1, x2, x3, x4, x5, x6, x7, x8, x9, x10, x11, x12, rfl⟩
theorem rowT24 (l : List Value) (h0 : l.length = 24) : ∃ x0 x1 x2 x3 x4 x5 x6 x7 x8 x9 x10 x11 x12 x13 x14 x15 x16 x17 x18 x19 x20 x21 x22 x23, l = [x0, x1, x2, x3, x4, x5, x6, x7, x8, x9, x10, x11, x12, x13, x14, x15, x16, x17, x18, x19, x20, x21, x22, x23] := by
  obtain ⟨x0, l1, e0, h1⟩ := cons_lenM h0; obtain ⟨x1, l2, e1, h2⟩ := cons_lenM h1; obtain ⟨x2, l3, e2, h3⟩ := cons_lenM h2; obtain ⟨x3, l4, e3, h4⟩ := cons_lenM h3; obtain ⟨x4, l5, e4, h5⟩ := cons_lenM h4; obtain ⟨x5, l6, e5, h6⟩ := cons_lenM h5; obtain ⟨x6, l7, e6, h7⟩ := cons_lenM h6; obtain ⟨x7, l8, e7, h8⟩ := cons_lenM h7; obtain ⟨x8, l9, e8, h9⟩ := cons_lenM h8; obtain ⟨x9, l10, e9, h10⟩ := cons_lenM h9; obtain ⟨x10, l11, e10, h11⟩ := cons_lenM h10; obtain ⟨x11, l12, e11, h12⟩ := cons_lenM h11; obtain ⟨x12, l13, e12, h13⟩ := cons_lenM h12; obtain ⟨x13, l14, e13, h14⟩ := cons_lenM h13; obtain ⟨x14, l15, e14, h15⟩ := cons_lenM h14; obtain ⟨x15, l16, e15, h16⟩ := cons_lenM h15; obtain ⟨x16, l17, e16, h17⟩ := cons_lenM h16; obtain ⟨x17, l18, e17, h18⟩ := cons_lenM h17; obtain ⟨x18, l19, e18, h19⟩ := cons_lenM h18; obtain ⟨x19, l20, e19, h20⟩ := cons_lenM h19; obtain ⟨x20, l21, e20, h21⟩ := cons_lenM h20; obtain ⟨x21, l22, e21, h22⟩ := cons_lenM h21; obtain ⟨x22, l23, e22, h23⟩ := cons_lenM h22; obtain ⟨x23, l24, e23, h24⟩ := cons_lenM h23; have e24 : l24 = [] := List.length_eq_zero_iff.1 h24; subst e24 e23 e22 e21 e20 e19 e18 e17 e16 e15 e14 e13 e12 e11 e10 e9 e8 e7 e6 e5 e4 e3 e2 e1 e0; exact ⟨x0, x1, x2, x3, x4, x5, x6, x7, x8, x9, x10, x11, x12, x13, x14, x15, x16, x17, x18, x19, x20, x21, x22, x23, rfl⟩
structure GT where
  ad : Option Addr
  cp : Nat
  ad1 : Option Addr
  cp1 : Nat
  ad2 : Option Addr
  cp2 : Nat
  g : Nat
def GT.none0 : GT := ⟨none, 0, none, 0, none, 0, 0⟩
/-- Two copies being made. -/
structure StT (W : World) (rel : List (Int × Int)) (us : List Value) (tn N : Nat) (l5 l8 l11 l13 l14 : Bool) (y : GT) (w : World) : Prop where
  below : Below W.heap.size W w
  rl : l5 = true → w.ownsRow W.heap.size 42 2 (.slice y.ad rel.length y.cp) rel.length (encP rel)
  t1 : l8 = true → l11 = false → w.ownsRow W.heap.size 80 1 (.slice y.ad1 tn y.cp1) tn us
  t2 : l11 = true → w.ownsRow W.heap.size 80 1 (.slice y.ad2 (tn + tn) y.cp2) (tn + tn) (us ++ us)
  md : l13 = true → W.heap.size ≤ y.g ∧ w.heap[y.g]? = some (.cells (cond l14 #[.int .i64 (2 * (N : Int)), .slice y.ad rel.length y.cp, .slice y.ad2 (tn + tn) y.cp2] #[.int .i64 0, .slice none 0 0, .slice none 0 0]) 30 (0, 0))
section
variable {W : World} {rel : List (Int × Int)} {us : List Value} {tn N : Nat} {l5 l8 l11 l13 l14 : Bool} {y : GT} {w w' : World}
theorem StT.rlD (h : StT W rel us tn N l5 l8 l11 l13 l14 y w) {ad : Option Addr} {cp : Nat} (ho : w'.ownsRow w.heap.size 42 2 (.slice ad rel.length cp) rel.length (encP rel)) (hb : Below w.heap.size w w') (e14 : l14 = false) : StT W rel us tn N true l8 l11 l13 l14 { y with ad := ad, cp := cp } w' := by
  subst e14; (exact ⟨below_join h.below hb, fun _ => rowM_low ho h.below.size, fun e e' => rowM_up (h.t1 e e') hb, fun e => rowM_up (h.t2 e) hb, fun e => ⟨(h.md e).1, below_keep hb (h.md e).2⟩⟩)
theorem StT.tr1 (h : StT W rel us tn N l5 l8 l11 l13 l14 y w) (e11 : l11 = false) {ad : Option Addr} {cp : Nat} (ho : w'.ownsRow w.heap.size 80 1 (.slice ad tn cp) tn us) (hb : Below w.heap.size w w') : StT W rel us tn N l5 true l11 l13 l14 { y with ad1 := ad, cp1 := cp } w' :=
  ⟨below_join h.below hb, fun e => rowM_up (h.rl e) hb, fun _ _ => rowM_low ho h.below.size, fun e => (by rw [e11] at e; cases e), fun e => ⟨(h.md e).1, below_keep hb (h.md e).2⟩⟩
theorem StT.tr2 (h : StT W rel us tn N l5 l8 l11 l13 l14 y w) (e8 : l8 = true) (e11 : l11 = false) (e14 : l14 = false) {g3 cp3 : Nat} (ho : w'.ownsRow W.heap.size 80 1 (.slice (some ⟨g3, 0, none⟩) (tn + tn) cp3) (tn + tn) (us ++ us)) (hg : w.grownBy w' (Value.slice y.ad1 tn y.cp1).ownBlock) : StT W rel us tn N l5 l8 true l13 l14 { y with ad2 := some ⟨g3, 0, none⟩, cp2 := cp3 } w' := by
  subst e14; have hown := h.t1 e8 e11; (refine ⟨h.below.grown hg h.below.size fun k hk => (hown.lt k hk).1, fun e => rowM_move (h.rl e) fun g cur _ hh => hg.block g (lt_of_block hh) fun e2 => rowM_ne hown hh (by decide) e2.symm, fun _ e => (by cases e), fun _ => ho, fun e => ⟨(h.md e).1, ?_⟩⟩); have hh := (h.md e).2; (exact (hg.block _ (lt_of_block hh) fun e2 => rowM_ne hown hh (by decide) e2.symm).trans hh)
theorem StT.alloc (h : StT W rel us tn N l5 l8 l11 l13 l14 y w) (e14 : l14 = false) : StT W rel us tn N l5 l8 l11 true l14 { y with g := w.heap.size } (w.alloc (.cells #[.int .i64 0, .slice none 0 0, .slice none 0 0] 30 (0, 0))) := by
  subst e14; (exact ⟨below_more h.below _, fun e => rowM_up (h.rl e) (below_more (Below.refl _ _) _), fun e e' => rowM_up (h.t1 e e') (below_more (Below.refl _ _) _), fun e => rowM_up (h.t2 e) (below_more (Below.refl _ _) _), fun _ => ⟨h.below.size, blk_new w _⟩⟩)
theorem StT.store (h : StT W rel us tn N l5 l8 l11 l13 l14 y w) (e13 : l13 = true) (e14 : l14 = false) : StT W rel us tn N l5 l8 l11 l13 true y (((w.setCell ⟨y.g, 0, none⟩ (.int .i64 (2 * (N : Int)))).setCell ⟨y.g, 1, none⟩ (.slice y.ad rel.length y.cp)).setCell ⟨y.g, 2, none⟩ (.slice y.ad2 (tn + tn) y.cp2)) := by
  subst e14; obtain ⟨h1, h2⟩ := h.md e13
  have hfar : ∀ (b : Nat) (cur : Array Value) (T : TypeId), w.heap[b]? = some (.cells cur T (0, 0)) → T ≠ 30 → (((w.setCell ⟨y.g, 0, none⟩ (.int .i64 (2 * (N : Int)))).setCell ⟨y.g, 1, none⟩ (.slice y.ad rel.length y.cp)).setCell ⟨y.g, 2, none⟩ (.slice y.ad2 (tn + tn) y.cp2)).heap[b]? = w.heap[b]? := fun b cur T hb hT => by
    have hne : b ≠ y.g := fun e => by
      rw [e, h2] at hb; simp only [Option.some.injEq, Obj.cells.injEq] at hb; exact hT hb.2.1.symm
    rw [farM hne, farM hne, farM hne]
  (exact ⟨((h.below.setCell (p := ⟨y.g, 0, none⟩) h1 _).setCell (p := ⟨y.g, 1, none⟩) h1 _).setCell (p := ⟨y.g, 2, none⟩) h1 _, fun e => rowM_move (h.rl e) fun g cur _ hh => hfar g cur _ hh (by decide), fun e e' => rowM_move (h.t1 e e') fun g cur _ hh => hfar g cur _ hh (by decide), fun e => rowM_move (h.t2 e) fun g cur _ hh => hfar g cur _ hh (by decide), fun _ => ⟨h1, set3M h2 _ _ _⟩⟩)
end
/-- The values in a row of lists of texts. -/
theorem rows_vals {w : World} {ta : Option Addr} {tr : List (List (List UInt8))} {tc : Nat} (h : SLs w (.slice ta tr.length tc) tr) (hne : tr ≠ []) : ∃ (bt ot : Nat) (us : List Value), ta = some ⟨bt, ot, none⟩ ∧ us.length = tr.length ∧ (∀ (j : Nat) (u : Value), us[j]? = some u → w.cell? ⟨bt, ot + j, none⟩ = some u) ∧ (∀ u ∈ us, u.oneCell' = true) ∧ ∀ (j : Nat) (u : Value) (r : List (List UInt8)), us[j]? = some u → tr[j]? = some r → SL w u r := by
  obtain ⟨ad, cap, e, -, -, h3⟩ := h; simp only [Value.slice.injEq, true_and] at e; obtain ⟨rfl, rfl⟩ := e; obtain ⟨b, off, rfl, hc⟩ := h3 hne
  have hget : ∀ (j : Nat) (u : Value), ((List.range tr.length).map fun j => (w.cell? ⟨b, off + j, none⟩).getD (.slice none 0 0))[j]? = some u → ∃ r, tr[j]? = some r ∧ w.cell? ⟨b, off + j, none⟩ = some u ∧ SL w u r := fun j u hu => by
    rw [List.getElem?_map] at hu
    rcases Nat.lt_or_ge j tr.length with hj | hj
    · rw [range_get hj] at hu
      obtain ⟨v, c1, c2⟩ := hc j _ (List.getElem?_eq_getElem hj); simp only [Option.map_some, c1, Option.getD_some, Option.some.injEq] at hu; subst hu; exact ⟨_, List.getElem?_eq_getElem hj, c1, c2⟩
    · rw [List.getElem?_eq_none (by simp; omega)] at hu
      cases hu
  (refine ⟨b, off, (List.range tr.length).map fun j => (w.cell? ⟨b, off + j, none⟩).getD (.slice none 0 0), rfl, by simp, fun j u hu => ?_, fun u hu => ?_, fun j u r hu hr => ?_⟩)
  · obtain ⟨r, -, h2, -⟩ := hget j u hu
    exact h2
  · obtain ⟨j, hj⟩ := List.getElem?_of_mem hu
    obtain ⟨r, -, -, ad, cap, rfl, -⟩ := hget j u hj; rfl
  · obtain ⟨r', h1, -, h2⟩ := hget j u hu
    rw [hr] at h1
    cases h1
    exact h2
theorem encP_app : ∀ (a b : List (Int × Int)), encP (a ++ b) = encP a ++ encP b
  | [], _ => rfl
  | (x, y) :: a, b => by
    show .int .i64 x :: .int .i64 y :: encP (a ++ b) = _; rw [encP_app a b]; rfl
theorem wpList_app_guard {w : World} {ops : Array Oper} {rest : List Oper} {o : Oper} {a : Act} {Q : Exit → Act → World → Prop} (hw : Region.wanted o (yielded ops a.tmps) = true) (s x : Operand) (ho : o.op = .call { callee := .builtin .append, args := #[s, x], argTypes := #[45, 45] })
    (base : Nat) (v : Value) (n : Nat) (xs : List Value) (hs : a.eval s = v) (hown : w.ownsRow base 3 1 v n xs) (ad : Addr) (m c : Nat) (news : List Value) (hx : a.eval x = .slice (some ad) m c) (hl : news.length = m * 1) (hnews : ∀ j u, news[j]? = some u → w.cell? (ad.add j) = some u) (h1 : ∀ u ∈ news, u.oneCell' = true)
    (hm : 0 < m) (h63 : n + m ≤ 100000) (hbase : base ≤ w.heap.size)
    (h : ∀ g cap w', w'.ownsRow base 3 1 (.slice (some ⟨g, 0, none⟩) (n + m) cap) (n + m) (xs ++ news) → w.grownBy w' v.ownBlock → wpList Try.prog ops Q rest (a.put o.dst (.slice (some ⟨g, 0, none⟩) (n + m) cap)) w') : wpList Try.prog ops Q (o :: rest) a w := by
  obtain ⟨i0, hi0, hz0, hz1, hz2⟩ := infoI9; (refine wpList_step fun K hK => ?_); rw [if_pos hw]; (exact wp_append_lies w s x 45 ho base 3 i0 (.int .i64 0) 1 8 Try.underlying45 hi0 hz0 hz1 hz2 rfl (by decide) v n xs hs hown ad m c news hx hl hnews h1 hm (by unfold maxLen; omega) (by omega) hbase _ rfl fun g cap w' h2 h3 _ _ => hK _ _ (h g cap w' h2 h3))
set_option maxRecDepth 10000 in
set_option maxHeartbeats 16000000 in
theorem btw_main (N : Nat) (rel : List (Int × Int)) (tr : List (List (List UInt8))) (h0 : mdcode 40 2000 ⟨(N : Int), rel, tr⟩ = (0, 0)) (hN : N ≤ 20) (hr : rel.length ≤ 1000) (v : Value) (w : World) (hv : MR w ⟨(N : Int), rel, tr⟩ v) :
    Calls Try.prog 6 #[v] w fun e w' => e = .returned (.bool true) ∧ Below w.heap.size w w' := by
  (obtain ⟨N9, hN9, hN1, hN2, -, htl, hin⟩ := mdcode_in (show (mdcode 40 2000 ⟨(N : Int), rel, tr⟩).1 = 0 by rw [h0])); (have hnn : N9 = N := by simp only at hN9; omega); rw [hnn] at hN1 hN2 htl hin; clear hN9 hnn N9; simp only at htl hin; have HV : Hid (MR w ⟨(N : Int), rel, tr⟩ v) := hv; (have HCl : Hid (∀ W, Below w.heap.size w W → Calls Try.prog 17 #[v] W fun e w' => ∃ ad cp, e = .returned (.tuple #[.slice ad N cp, .agg #[.int .i64 0, .int .i64 0]]) ∧ OwnN W.heap.size w' ad cp (clsK N (relB rel) (tr.map nmz)) ∧ Below W.heap.size W w') := fun W hb => Classes_ok N rel tr h0 v W (hv.up hb))
  have HC2 : Hid (∀ W u, MR W ⟨((2 * N : Nat) : Int), relTwo N rel, tr ++ tr⟩ u → Calls Try.prog 17 #[u] W fun e w' => ∃ ad cp, e = .returned (.tuple #[.slice ad (2 * N) cp, .agg #[.int .i64 0, .int .i64 0]]) ∧ OwnN W.heap.size w' ad cp (clsK N (relB rel) (tr.map nmz) ++ clsK N (relB rel) (tr.map nmz)) ∧ Below W.heap.size W w') := fun W u hu => by
    have := Classes_ok (2 * N) _ _ (md_two h0 hN hr) u W hu; (rw [List.map_append, cls_two (relTwo_ok hin) (tr.map nmz) (by rw [List.length_map]; exact htl)] at this); exact this
  (have HLn : Hid ((clsK N (relB rel) (tr.map nmz)).length = N) := levK_len (by rw [byN_len, List.length_map]; exact htl) _); generalize clsK N (relB rel) (tr.map nmz) = cl at *; obtain ⟨ra, rc, ta, tc, rfl, hpl, hsl, hmx⟩ := hv; simp only at hpl hsl hmx HV HCl ⊢; (have hNI : (N : Int) ≤ 20 := by omega); (have hrI : (rel.length : Int) ≤ 1000 := by omega)
  have HwN : Hid (IntKind.i64.wrap (2 * (N : Int)) = 2 * (N : Int)) := by
    show _ = _; (have h9 : (((2 * N : Nat)) : Int) = 2 * (N : Int) := by omega); rw [← h9]; (exact wrap_small _ (by omega))
  (have hng : ¬ (20 : Int) < (N : Int) := by omega); (have hrg : ¬ (1000 : Int) < (rel.length : Int) := by omega); (obtain ⟨bt, ot, us, rfl, hus, hcu, hu1, husl⟩ := rows_vals hsl (fun e => by rw [e] at htl; simp at htl; omega)); obtain ⟨tn, htn⟩ : ∃ tn, tn = tr.length := ⟨_, rfl⟩; rw [← htn] at hus htl HV HCl ⊢; (have htnI : (tn : Int) ≤ 20 := by omega); have HTn : Hid (tn = N ∧ tn = tr.length) := ⟨htl, htn⟩; have HN1 : Hid (rel.length ≤ 1000) := hr; (have HN2 : Hid (1 ≤ tn ∧ tn ≤ 20) := ⟨by omega, by omega⟩); have HUs : Hid (us.length = tn) := hus; have HU1 : Hid (∀ u ∈ us, u.oneCell' = true) := hu1; have HIn : Hid (InR N rel) := hin; have HMx : Hid (∀ l ∈ tr, ∀ t ∈ l, t.length ≤ maxLen) := hmx; obtain ⟨X, hX⟩ : ∃ X, X = w.alloc (.cells #[.int .i64 (N : Nat), .slice ra rel.length rc, .slice (some ⟨bt, ot, none⟩) tn tc] 30 (0, 0)) := ⟨_, rfl⟩; (have HB0 : Hid (Below w.heap.size w X) := by rw [hX]; exact below_more (Below.refl _ w) _); (have HM0 : Hid (X.heap[w.heap.size]? = some (.cells #[.int .i64 (N : Nat), .slice ra rel.length rc, .slice (some ⟨bt, ot, none⟩) tn tc] 30 (0, 0))) := by rw [hX]; exact blk_new _ _); have HP0 : Hid (PL w (.slice ra rel.length rc) rel) := hpl; have HTc0 : Hid (∀ (j : Nat) (u : Value), us[j]? = some u → w.cell? ⟨bt, ot + j, none⟩ = some u) := hcu; have HSl0 : Hid (∀ (j : Nat) (u : Value) (r : List (List UInt8)), us[j]? = some u → tr[j]? = some r → SL w u r) := husl; clear hpl hsl hmx hus hcu hu1 husl htl htn hN hr hin hN1 hN2 h0
  go_enter Try.func6, Try.ntmps6
  go_wp2_with fail; rw [← hX]; clear hX; refine (bisimBegun_any X).mono ?_; rintro _ w1 ⟨rfl, hb1⟩; have HB1 : Hid (Below w.heap.size w w1) := below_join HB0.out hb1; have HM1 : Hid (w1.heap[w.heap.size]? = some _) := below_keep hb1 HM0.out; obtain ⟨k0, k1, k2, -⟩ := blk3 HM1.out; clear hb1; go_wp2_with fail; refine (HCl.out w1 HB1.out).mono ?_; rintro _ w2 ⟨ad2, cp2, rfl, ho2, hb2⟩; have HB2 : Hid (Below w.heap.size w w2) := below_join HB1.out hb2; have HM2 : Hid (w2.heap[w.heap.size]? = some (.cells #[.int .i64 (N : Nat), .slice ra rel.length rc, .slice (some ⟨bt, ot, none⟩) tn tc] 30 (0, 0))) := below_keep hb2 HM1.out; have HO2 : Hid (OwnN w.heap.size w2 ad2 cp2 cl) := rowM_low ho2 HB1.out.size; obtain ⟨W, hW⟩ : ∃ W, W = w2.alloc (.cells #[.int .i64 0, .int .i64 0] 32 (0, 0)) := ⟨_, rfl⟩; (have HBW : Hid (Below w.heap.size w W) := by rw [hW]; exact below_more HB2.out _); (have HMo : Hid (W.heap[w.heap.size]? = some (.cells #[.int .i64 (N : Nat), .slice ra rel.length rc, .slice (some ⟨bt, ot, none⟩) tn tc] 30 (0, 0))) := by rw [hW]; exact alloc_keep HM2.out _); (have HEb : Hid (W.heap[w2.heap.size]? = some (.cells #[.int .i64 0, .int .i64 0] 32 (0, 0))) := by rw [hW]; exact blk_new _ _); (have HOl : Hid (OwnN w.heap.size W ad2 cp2 cl) := by rw [hW]; exact rowM_up HO2.out (below_more (Below.refl _ _) _)); obtain ⟨bE, hbE⟩ : ∃ bE, bE = w2.heap.size := ⟨_, rfl⟩; have HPl : Hid (PL W (.slice ra rel.length rc) rel) := HP0.out.up HBW.out; (have HTc : Hid (∀ (j : Nat) (u : Value), us[j]? = some u → W.cell? ⟨bt, ot + j, none⟩ = some u) := fun j u hu => (HBW.out.cell (lt_of_cell (HTc0.out j u hu))).trans (HTc0.out j u hu)); (have HSl : Hid (∀ (j : Nat) (u : Value) (r : List (List UInt8)), us[j]? = some u → tr[j]? = some r → SL W u r) := fun j u r h1 h2 => (HSl0.out j u r h1 h2).up HBW.out); obtain ⟨d0, d1, d2, -⟩ := blk3 HM2.out; have z2 := lt_of_block HM2.out; clear hb2 ho2 k0 k1 k2; go_wp2_with fail; rw [← hW]; obtain ⟨bM, hbM⟩ : ∃ bM, bM = w.heap.size := ⟨_, rfl⟩; rw [← hbM] at HMo ⊢; rw [← hbE] at HEb ⊢; have HbM : Hid (bM = w.heap.size) := hbM; have HzE : Hid (bE < W.heap.size ∧ bM < W.heap.size) := ⟨lt_of_block HEb.out, lt_of_block HMo.out⟩; (have HzL : Hid (w.heap.size ≤ bE) := by rw [hbE]; exact HB2.out.size); clear hbM hbE hW d0 d1 d2 z2 HM0 HM1 HM2 HO2 HB0 HB1 HB2 HCl HV; (refine wp_region_gh (by kernel_rfl) (by kernel_rfl) (by kernel_rfl) 89 rfl (by kernel_rfl) [fun _ v _ => v = (.pointer (some ⟨bM, 0, none⟩)), fun _ v _ => v = (.int .i64 (N : Nat)), fun _ v _ => v = (.int .i64 (2 * (N : Int))), fun _ v _ => v = (.pointer (some ⟨bM, 1, none⟩)), fun _ v _ => v = (.slice ra rel.length rc), fun y v _ => v = (.slice y.ad rel.length y.cp), fun _ v _ => v = (.pointer (some ⟨bM, 2, none⟩)), fun _ v _ => v = (.slice (some ⟨bt, ot, none⟩) tn tc), fun y v _ => v = (.slice y.ad1 tn y.cp1), fun _ v _ => v = (.pointer (some ⟨bM, 2, none⟩)), fun _ v _ => v = (.slice (some ⟨bt, ot, none⟩) tn tc), fun y v _ => v = (.slice y.ad2 (tn + tn) y.cp2), fun y v _ => v = (.agg #[.int .i64 (2 * (N : Int)), .slice y.ad rel.length y.cp, .slice y.ad2 (tn + tn) y.cp2]), fun y v _ => v = (.pointer (some ⟨y.g, 0, none⟩)), fun _ _ _ => True] (fun _ _ => true) (fun L => StT W rel us tn N (L 5) (L 8) (L 11) (L 13) (L 14)) (GT.none0) ?_ ?_ ?_)
  · exact fun wx h _ => ⟨h, fun e => (by cases e), fun e => (by cases e), fun e => (by cases e), fun e => (by cases e)⟩
  · refine ⟨?_, ?_, ?_, ?_, ?_, ?_, ?_, ?_, ?_, ?_, ?_, ?_, ?_, ?_, ?_, trivial⟩
    · intro L y a wx hSt hLi hdl hcl hold hdep K hK
      have HSt : Hid (StT W rel us tn N (L 5) (L 8) (L 11) (L 13) (L 14) y wx) := hSt; clear hSt; have t1 : a.tmps[1]? = some (.pointer (some ⟨bM, 0, none⟩)) := hold 1 rfl; clear hold hdep hdl hcl hLi; go_simp; (exact hK.out _ _ y HSt.out rfl (fun j hj hl => ⟨rfl, fun u h => h⟩))
    · intro L y a wx hSt hLi hdl hcl hold hdep K hK
      have HSt : Hid (StT W rel us tn N (L 5) (L 8) (L 11) (L 13) (L 14) y wx) := hSt; clear hSt; obtain ⟨v29, t29, q29⟩ := hdep 0 rfl _ 29 rfl rfl; have e29 : v29 = (.pointer (some ⟨bM, 0, none⟩)) := q29 rfl; subst e29; obtain ⟨d0, d1, d2, -⟩ := blk3 (below_keep HSt.out.below HMo.out); clear hold hdep hdl hcl hLi; go_simp; (exact hK.out _ _ y HSt.out rfl (fun j hj hl => ⟨rfl, fun u h => h⟩))
    · intro L y a wx hSt hLi hdl hcl hold hdep K hK
      have HSt : Hid (StT W rel us tn N (L 5) (L 8) (L 11) (L 13) (L 14) y wx) := hSt; clear hSt; obtain ⟨v30, t30, q30⟩ := hdep 1 rfl _ 30 rfl rfl; have e30 : v30 = (.int .i64 (N : Nat)) := q30 rfl; subst e30; have hw2 := HwN.out; clear hold hdep hdl hcl hLi; go_simp; (exact hK.out _ _ y HSt.out rfl (fun j hj hl => ⟨rfl, fun u h => h⟩))
    · intro L y a wx hSt hLi hdl hcl hold hdep K hK
      have HSt : Hid (StT W rel us tn N (L 5) (L 8) (L 11) (L 13) (L 14) y wx) := hSt; clear hSt; have t1 : a.tmps[1]? = some (.pointer (some ⟨bM, 0, none⟩)) := hold 1 rfl; clear hold hdep hdl hcl hLi; go_simp; (exact hK.out _ _ y HSt.out rfl (fun j hj hl => ⟨rfl, fun u h => h⟩))
    · intro L y a wx hSt hLi hdl hcl hold hdep K hK
      have HSt : Hid (StT W rel us tn N (L 5) (L 8) (L 11) (L 13) (L 14) y wx) := hSt; clear hSt; obtain ⟨v32, t32, q32⟩ := hdep 3 rfl _ 32 rfl rfl; have e32 : v32 = (.pointer (some ⟨bM, 1, none⟩)) := q32 rfl; subst e32; obtain ⟨d0, d1, d2, -⟩ := blk3 (below_keep HSt.out.below HMo.out); clear hold hdep hdl hcl hLi; go_simp; (exact hK.out _ _ y HSt.out rfl (fun j hj hl => ⟨rfl, fun u h => h⟩))
    · intro L y a wx hSt hLi hdl hcl hold hdep K hK
      have HSt : Hid (StT W rel us tn N (L 5) (L 8) (L 11) (L 13) (L 14) y wx) := hSt; clear hSt; obtain ⟨v33, t33, q33⟩ := hdep 4 rfl _ 33 rfl rfl; have e33 : v33 = (.slice ra rel.length rc) := q33 rfl; subst e33; (have e14 : L 14 = false := not_yet hLi fun h => hcl 12 _ rfl (hcl 14 _ rfl h 12 rfl) 5 rfl); obtain ⟨i0, hi, hz0, hz1, hz2⟩ := infoPr; have hn := HN1.out; have hP := HPl.out.up HSt.out.below; obtain ⟨ad9, cap9, e9, hd1, hd2, hd3⟩ := hP; simp only [Value.slice.injEq, true_and] at e9; obtain ⟨rfl, rfl⟩ := e9; clear hold hdep hdl; (refine step_app0 rfl _ _ 27 rfl 42 i0 (.agg #[.int .i64 0, .int .i64 0]) 2 16 Try.underlying27 hi hz0 hz1 hz2 rfl (by decide) ra rel.length rc (encP rel) rfl (eval_tmpM t33) (encP_len rel) (fun hm => ?_) (encP_one rel) (by unfold maxLen; omega) (by omega) ?_)
      · obtain ⟨b, off, rfl, hc⟩ := hd3 (List.length_pos_iff.1 hm)
        (refine ⟨b, off, rfl, fun j u hj => ?_⟩); obtain ⟨i, x, y, h1, h2⟩ := encP_of rel j u hj; obtain ⟨c1, c2⟩ := hc i x y h1
        rcases h2 with ⟨rfl, rfl⟩ | ⟨rfl, rfl⟩
        · exact c1
        · exact c2
      intro ad3 cp3 w3 h3 b3; refine hK.out _ _ { y with ad := ad3, cp := cp3 } (HSt.out.rlD h3 b3 e14) rfl ?_; intro j hj hl
      rcases j with _ | _ | _ | _ | _ | _ | _ | _ | _ | _ | _ | _ | _ | _ | _ | j
      · exact ⟨rfl, fun u h => h⟩
      · exact ⟨rfl, fun u h => h⟩
      · exact ⟨rfl, fun u h => h⟩
      · exact ⟨rfl, fun u h => h⟩
      · exact ⟨rfl, fun u h => h⟩
      · exact Bool.noConfusion (hLi.symm.trans hj)
      · exact ⟨rfl, fun u h => h⟩
      · exact ⟨rfl, fun u h => h⟩
      · exact ⟨rfl, fun u h => h⟩
      · exact ⟨rfl, fun u h => h⟩
      · exact ⟨rfl, fun u h => h⟩
      · exact ⟨rfl, fun u h => h⟩
      · exact Bool.noConfusion (hLi.symm.trans (hcl 12 _ rfl hj 5 rfl))
      · exact ⟨rfl, fun u h => h⟩
      · exact ⟨rfl, fun u h => h⟩
      · exact ⟨rfl, fun u h => h⟩
    · intro L y a wx hSt hLi hdl hcl hold hdep K hK
      have HSt : Hid (StT W rel us tn N (L 5) (L 8) (L 11) (L 13) (L 14) y wx) := hSt; clear hSt; have t1 : a.tmps[1]? = some (.pointer (some ⟨bM, 0, none⟩)) := hold 1 rfl; clear hold hdep hdl hcl hLi; go_simp; (exact hK.out _ _ y HSt.out rfl (fun j hj hl => ⟨rfl, fun u h => h⟩))
    · intro L y a wx hSt hLi hdl hcl hold hdep K hK
      have HSt : Hid (StT W rel us tn N (L 5) (L 8) (L 11) (L 13) (L 14) y wx) := hSt; clear hSt; obtain ⟨v35, t35, q35⟩ := hdep 6 rfl _ 35 rfl rfl; have e35 : v35 = (.pointer (some ⟨bM, 2, none⟩)) := q35 rfl; subst e35; obtain ⟨d0, d1, d2, -⟩ := blk3 (below_keep HSt.out.below HMo.out); clear hold hdep hdl hcl hLi; go_simp; (exact hK.out _ _ y HSt.out rfl (fun j hj hl => ⟨rfl, fun u h => h⟩))
    · intro L y a wx hSt hLi hdl hcl hold hdep K hK
      have HSt : Hid (StT W rel us tn N (L 5) (L 8) (L 11) (L 13) (L 14) y wx) := hSt; clear hSt; obtain ⟨v36, t36, q36⟩ := hdep 7 rfl _ 36 rfl rfl; have e36 : v36 = (.slice (some ⟨bt, ot, none⟩) tn tc) := q36 rfl; subst e36; obtain ⟨i0, hi, hz0, hz1, hz2⟩ := infoTx; have hn := HN2.out; (have e11 : L 11 = false := not_yet hLi fun h => hcl 11 _ rfl h 8 rfl); clear hold hdep hdl; (refine step_app0 rfl _ _ 28 rfl 80 i0 (.slice none 0 0) 1 24 Try.underlying28 hi hz0 hz1 hz2 rfl (by decide) (some ⟨bt, ot, none⟩) tn tc us rfl (eval_tmpM t36) (by rw [HUs.out]; omega) (fun hm => ?_) HU1.out (by unfold maxLen; omega) (by omega) ?_)
      · skip
        (refine ⟨bt, ot, rfl, fun j u hu => ?_⟩); have := HTc.out j u hu; exact (HSt.out.below.cell (lt_of_cell this)).trans this
      intro ad3 cp3 w3 h3 b3; refine hK.out _ _ { y with ad1 := ad3, cp1 := cp3 } (HSt.out.tr1 e11 h3 b3) rfl ?_; intro j hj hl
      rcases j with _ | _ | _ | _ | _ | _ | _ | _ | _ | _ | _ | _ | _ | _ | _ | j
      · exact ⟨rfl, fun u h => h⟩
      · exact ⟨rfl, fun u h => h⟩
      · exact ⟨rfl, fun u h => h⟩
      · exact ⟨rfl, fun u h => h⟩
      · exact ⟨rfl, fun u h => h⟩
      · exact ⟨rfl, fun u h => h⟩
      · exact ⟨rfl, fun u h => h⟩
      · exact ⟨rfl, fun u h => h⟩
      · exact Bool.noConfusion (hLi.symm.trans hj)
      · exact ⟨rfl, fun u h => h⟩
      · exact ⟨rfl, fun u h => h⟩
      · exact ⟨rfl, fun u h => h⟩
      · exact ⟨rfl, fun u h => h⟩
      · exact ⟨rfl, fun u h => h⟩
      · exact ⟨rfl, fun u h => h⟩
      · exact ⟨rfl, fun u h => h⟩
    · intro L y a wx hSt hLi hdl hcl hold hdep K hK
      have HSt : Hid (StT W rel us tn N (L 5) (L 8) (L 11) (L 13) (L 14) y wx) := hSt; clear hSt; have t1 : a.tmps[1]? = some (.pointer (some ⟨bM, 0, none⟩)) := hold 1 rfl; clear hold hdep hdl hcl hLi; go_simp; (exact hK.out _ _ y HSt.out rfl (fun j hj hl => ⟨rfl, fun u h => h⟩))
    · intro L y a wx hSt hLi hdl hcl hold hdep K hK
      have HSt : Hid (StT W rel us tn N (L 5) (L 8) (L 11) (L 13) (L 14) y wx) := hSt; clear hSt; obtain ⟨v38, t38, q38⟩ := hdep 9 rfl _ 38 rfl rfl; have e38 : v38 = (.pointer (some ⟨bM, 2, none⟩)) := q38 rfl; subst e38; obtain ⟨d0, d1, d2, -⟩ := blk3 (below_keep HSt.out.below HMo.out); clear hold hdep hdl hcl hLi; go_simp; (exact hK.out _ _ y HSt.out rfl (fun j hj hl => ⟨rfl, fun u h => h⟩))
    · intro L y a wx hSt hLi hdl hcl hold hdep K hK
      have HSt : Hid (StT W rel us tn N (L 5) (L 8) (L 11) (L 13) (L 14) y wx) := hSt; clear hSt; obtain ⟨v37, t37, q37⟩ := hdep 8 rfl _ 37 rfl rfl; have e37 : v37 = (.slice y.ad1 tn y.cp1) := q37 rfl; subst e37; obtain ⟨v39, t39, q39⟩ := hdep 10 rfl _ 39 rfl rfl; have e39 : v39 = (.slice (some ⟨bt, ot, none⟩) tn tc) := q39 rfl; subst e39; have e8 : L 8 = true := hdl 8 rfl; (have e14 : L 14 = false := not_yet hLi fun h => hcl 12 _ rfl (hcl 14 _ rfl h 12 rfl) 11 rfl); obtain ⟨i0, hi, hz0, hz1, hz2⟩ := infoTx; have hn := HN2.out; have hsx := HSt.out.below.size; clear hold hdep hdl; (refine step_append_lies wx rfl _ _ 28 rfl W.heap.size 80 i0 (.slice none 0 0) 1 24 Try.underlying28 hi hz0 hz1 hz2 rfl (by decide) (.slice y.ad1 tn y.cp1) tn us (eval_tmpM t37) (HSt.out.t1 e8 hLi) ⟨bt, ot, none⟩ tn tc us (eval_tmpM t39) (by rw [HUs.out]; omega) ?_ HU1.out (by omega) (by unfold maxLen; omega) (by omega) (by omega) _ rfl ?_)
      · intro j u hu
        rw [add_none]; have := HTc.out j u hu; exact (HSt.out.below.cell (lt_of_cell this)).trans this
      intro g3 cp3 w3 hown3 hgrow hat hlt3; refine hK.out _ _ { y with ad2 := some ⟨g3, 0, none⟩, cp2 := cp3 } (HSt.out.tr2 e8 hLi e14 hown3 hgrow) rfl ?_; intro j hj hl
      rcases j with _ | _ | _ | _ | _ | _ | _ | _ | _ | _ | _ | _ | _ | _ | _ | j
      · exact ⟨rfl, fun u h => h⟩
      · exact ⟨rfl, fun u h => h⟩
      · exact ⟨rfl, fun u h => h⟩
      · exact ⟨rfl, fun u h => h⟩
      · exact ⟨rfl, fun u h => h⟩
      · exact ⟨rfl, fun u h => h⟩
      · exact ⟨rfl, fun u h => h⟩
      · exact ⟨rfl, fun u h => h⟩
      · exact ⟨rfl, fun u h => h⟩
      · exact ⟨rfl, fun u h => h⟩
      · exact ⟨rfl, fun u h => h⟩
      · exact Bool.noConfusion (hLi.symm.trans hj)
      · exact Bool.noConfusion (hLi.symm.trans (hcl 12 _ rfl hj 11 rfl))
      · exact ⟨rfl, fun u h => h⟩
      · exact ⟨rfl, fun u h => h⟩
      · exact ⟨rfl, fun u h => h⟩
    · intro L y a wx hSt hLi hdl hcl hold hdep K hK
      have HSt : Hid (StT W rel us tn N (L 5) (L 8) (L 11) (L 13) (L 14) y wx) := hSt; clear hSt; obtain ⟨v31, t31, q31⟩ := hdep 2 rfl _ 31 rfl rfl; have e31 : v31 = (.int .i64 (2 * (N : Int))) := q31 rfl; subst e31; obtain ⟨v34, t34, q34⟩ := hdep 5 rfl _ 34 rfl rfl; have e34 : v34 = (.slice y.ad rel.length y.cp) := q34 rfl; subst e34; obtain ⟨v40, t40, q40⟩ := hdep 11 rfl _ 40 rfl rfl; have e40 : v40 = (.slice y.ad2 (tn + tn) y.cp2) := q40 rfl; subst e40; clear hold hdep hdl hcl hLi; go_simp; (exact hK.out _ _ y HSt.out rfl (fun j hj hl => ⟨rfl, fun u h => h⟩))
    · intro L y a wx hSt hLi hdl hcl hold hdep K hK
      have HSt : Hid (StT W rel us tn N (L 5) (L 8) (L 11) (L 13) (L 14) y wx) := hSt; clear hSt; (have e14 : L 14 = false := not_yet hLi fun h => hcl 14 _ rfl h 13 rfl); clear hold hdep hdl; go_simp; refine hK.out _ _ { y with g := wx.heap.size } (HSt.out.alloc e14) rfl ?_; intro j hj hl
      rcases j with _ | _ | _ | _ | _ | _ | _ | _ | _ | _ | _ | _ | _ | _ | _ | j
      · exact ⟨rfl, fun u h => h⟩
      · exact ⟨rfl, fun u h => h⟩
      · exact ⟨rfl, fun u h => h⟩
      · exact ⟨rfl, fun u h => h⟩
      · exact ⟨rfl, fun u h => h⟩
      · exact ⟨rfl, fun u h => h⟩
      · exact ⟨rfl, fun u h => h⟩
      · exact ⟨rfl, fun u h => h⟩
      · exact ⟨rfl, fun u h => h⟩
      · exact ⟨rfl, fun u h => h⟩
      · exact ⟨rfl, fun u h => h⟩
      · exact ⟨rfl, fun u h => h⟩
      · exact ⟨rfl, fun u h => h⟩
      · exact Bool.noConfusion (hLi.symm.trans hj)
      · exact ⟨rfl, fun u h => h⟩
      · exact ⟨rfl, fun u h => h⟩
    · intro L y a wx hSt hLi hdl hcl hold hdep K hK
      have HSt : Hid (StT W rel us tn N (L 5) (L 8) (L 11) (L 13) (L 14) y wx) := hSt; clear hSt; obtain ⟨v41, t41, q41⟩ := hdep 12 rfl _ 41 rfl rfl; have e41 : v41 = (.agg #[.int .i64 (2 * (N : Int)), .slice y.ad rel.length y.cp, .slice y.ad2 (tn + tn) y.cp2]) := q41 rfl; subst e41; obtain ⟨v5, t5, q5⟩ := hdep 13 rfl _ 5 rfl rfl; have e5 : v5 = (.pointer (some ⟨y.g, 0, none⟩)) := q5 rfl; subst e5; have e13 : L 13 = true := hdl 13 rfl; have hmd := HSt.out.md e13; rw [hLi] at hmd; obtain ⟨y0, y1, y2, z0, z1, z2⟩ := blk3 (show wx.heap[y.g]? = some (.cells #[.int .i64 0, .slice none 0 0, .slice none 0 0] 30 (0, 0)) from hmd.2); have hS9 := HSt.out.store e13 hLi; clear hold hdep hdl hcl; go_simp; refine hK.out (.bool false) _ y hS9 trivial ?_; intro j hj hl
      rcases j with _ | _ | _ | _ | _ | _ | _ | _ | _ | _ | _ | _ | _ | _ | _ | j
      · exact ⟨rfl, fun u h => h⟩
      · exact ⟨rfl, fun u h => h⟩
      · exact ⟨rfl, fun u h => h⟩
      · exact ⟨rfl, fun u h => h⟩
      · exact ⟨rfl, fun u h => h⟩
      · exact ⟨rfl, fun u h => h⟩
      · exact ⟨rfl, fun u h => h⟩
      · exact ⟨rfl, fun u h => h⟩
      · exact ⟨rfl, fun u h => h⟩
      · exact ⟨rfl, fun u h => h⟩
      · exact ⟨rfl, fun u h => h⟩
      · exact ⟨rfl, fun u h => h⟩
      · exact ⟨rfl, fun u h => h⟩
      · exact ⟨rfl, fun u h => h⟩
      · exact Bool.noConfusion (hLi.symm.trans hj)
      · exact ⟨rfl, fun u h => h⟩
  · intro L y a wx hall hSt hsz hdf hold hgot
    have hS : StT W rel us tn N (L 5) (L 8) (L 11) (L 13) (L 14) y wx := hSt; have e5 : L 5 = true := hall 5 (Nat.le_of_ble_eq_true rfl); have e11 : L 11 = true := hall 11 (Nat.le_of_ble_eq_true rfl); have e13 : L 13 = true := hall 13 (Nat.le_of_ble_eq_true rfl); have e14 : L 14 = true := hall 14 (Nat.le_of_ble_eq_true rfl); obtain ⟨v5, t5, q5⟩ := hgot 13 _ 5 rfl rfl; have ev5 : v5 = .pointer (some ⟨y.g, 0, none⟩) := q5 rfl; subst ev5; have hmd := hS.md e13; rw [e14] at hmd; obtain ⟨ad0, cp0, ad1, cp1, adt, cpt, G⟩ := y; have HR0 : Hid (wx.ownsRow W.heap.size 42 2 (.slice ad0 rel.length cp0) rel.length (encP rel)) := hS.rl e5; have HT2 : Hid (wx.ownsRow W.heap.size 80 1 (.slice adt (tn + tn) cpt) (tn + tn) (us ++ us)) := hS.t2 e11; have HG0 : Hid (wx.heap[G]? = some (.cells #[.int .i64 (2 * (N : Int)), .slice ad0 rel.length cp0, .slice adt (tn + tn) cpt] 30 (0, 0))) := hmd.2; have HGs : Hid (W.heap.size ≤ G) := hmd.1; have HBx : Hid (Below W.heap.size W wx) := hS.below; obtain ⟨tm, df⟩ := a; (obtain ⟨ys, zs, hys, hzs, htm, rfl⟩ := frame_two 5 1 23 13 6 29 42 rfl rfl rfl (by kernel_rfl) (Nat.le_of_ble_eq_true rfl) ⟨hsz, hdf, hold⟩); obtain ⟨x5, rfl⟩ := rowT1 ys hys; obtain ⟨x29, x30, x31, x32, x33, x34, x35, x36, x37, x38, x39, x40, x41, rfl⟩ := rowT13 zs hzs; simp only [List.take_succ_cons, List.take_zero, List.drop_succ_cons, List.drop_zero, List.cons_append, List.nil_append] at htm; subst htm; obtain rfl : x5 = _ := someInjM t5; clear hys hzs hold hgot hall hSt hsz hdf hS hmd q5 t5 e5 e11 e13 e14; obtain ⟨k0, k1, k2, -⟩ := blk3 (below_keep HBx.out HMo.out); go_wp2_with fail; clear k0 k1 k2
    go_loopg [6] rel.length (fun gg cc wr => ∃ i adr cpr, i ≤ rel.length ∧ gg = rel.length - i ∧ cc = .int .i64 (i : Nat) ∧ Hid (wr.heap[G]? = some (.cells #[.int .i64 (2 * (N : Int)), .slice adr (rel.length + i) cpr, .slice adt (tn + tn) cpt] 30 (0, 0))) ∧ Hid (wr.ownsRow W.heap.size 42 2 (.slice adr (rel.length + i) cpr) (rel.length + i) (encP (rel ++ (rel.take i).map fun p => (p.1 + (N : Int), p.2 + (N : Int))))) ∧ Hid (wr.ownsRow W.heap.size 80 1 (.slice adt (tn + tn) cpt) (tn + tn) (us ++ us)) ∧ Hid (Below W.heap.size W wr))
    case atStart => exact ⟨0, ad0, cp0, by omega, by omega, rfl, HG0, by simpa using HR0, HT2, HBx⟩
    case round =>
      obtain ⟨i, adr, cpr, hi, hg, rfl, HGr, HRr, HTr, HBr⟩ := hrel; have HGk : Hid (gk = rel.length - i) := hg; clear hg; have HMr : Hid (wr.heap[bM]? = some (.cells #[.int .i64 (N : Nat), .slice ra rel.length rc, .slice (some ⟨bt, ot, none⟩) tn tc] 30 (0, 0))) := below_keep HBr.out HMo.out; obtain ⟨k0, k1, k2, -⟩ := blk3 HMr.out; by_cases hlt : i < rel.length
      · obtain ⟨⟨x', y'⟩, hr⟩ : ∃ r, rel[i]? = some r := ⟨_, List.getElem?_eq_getElem hlt⟩
        obtain ⟨h1, h2, h3, h4⟩ := HIn.out _ (List.mem_of_getElem? hr); obtain ⟨ad9, cap9, e9, hd1, hd2, hd3⟩ := HPl.out; simp only [Value.slice.injEq, true_and] at e9; obtain ⟨rfl, rfl⟩ := e9; (obtain ⟨b, off, rfl, hc⟩ := hd3 (fun e => by rw [e] at hlt; simp at hlt)); (obtain ⟨x, hx⟩ : ∃ x : Nat, x' = (x : Int) := ⟨x'.toNat, by simp only at h1; omega⟩); (obtain ⟨z, hz⟩ : ∃ z : Nat, y' = (z : Int) := ⟨y'.toNat, by simp only at h3; omega⟩); subst hx hz; simp only at h2 h4; (have hxI : (x : Int) ≤ 20 := by omega); (have hzI : (z : Int) ≤ 20 := by omega); obtain ⟨c0, c1⟩ := hc i _ _ hr; have HC0 : Hid (wr.cell? ⟨b, off + i * 2, none⟩ = some (.int .i64 (x : Nat))) := (HBr.out.cell (lt_of_cell c0)).trans c0; have HC1 : Hid (wr.cell? ⟨b, off + i * 2 + 1, none⟩ = some (.int .i64 (z : Nat))) := (HBr.out.cell (lt_of_cell c1)).trans c1
        have HwX : Hid (IntKind.i64.wrap ((x : Int) + (N : Int)) = (x : Int) + (N : Int)) := by
          (have h9 : ((x + N : Nat) : Int) = (x : Int) + (N : Int) := by omega); show _ = _; rw [← h9]; (exact wrap_small _ (by omega))
        have HwZ : Hid (IntKind.i64.wrap ((z : Int) + (N : Int)) = (z : Int) + (N : Int)) := by
          (have h9 : ((z + N : Nat) : Int) = (z : Int) + (N : Int) := by omega); show _ = _; rw [← h9]; (exact wrap_small _ (by omega))
        (have hltI : (i : Int) < (rel.length : Int) := by omega); (have hltc : (i : Int) < (rc : Int) := by omega); have HI : Hid (i < rel.length) := hlt; have HRi : Hid (rel[i]? = some ((x : Int), (z : Int))) := hr; clear hc hr hlt hi c0 c1 h1 h2 h3 h4 hd1 hd2 hd3; go_wp2_with fail; clear k0 k1 k2; (refine wp_region_wr (by kernel_rfl) [fun v _ => v = (.pointer (some ⟨G, 1, none⟩)), fun v _ => v = (.slice adr (rel.length + i) cpr), fun v _ => v = (.pointer (some ⟨bM, 1, none⟩)), fun v _ => v = (.slice (some ⟨b, off, none⟩) rel.length rc), fun v _ => v = (.int .i64 (i : Nat)), fun v _ => v = (.pointer (some ⟨b, off + i * 2, none⟩)), fun v _ => v = (.pointer (some ⟨b, off + i * 2, none⟩)), fun v _ => v = (.int .i64 (x : Nat)), fun v _ => v = (.pointer (some ⟨bM, 0, none⟩)), fun v _ => v = (.int .i64 (N : Nat)), fun v _ => v = (.int .i64 ((x : Int) + (N : Int))), fun v _ => v = (.pointer (some ⟨bM, 1, none⟩)), fun v _ => v = (.slice (some ⟨b, off, none⟩) rel.length rc), fun v _ => v = (.int .i64 (i : Nat)), fun v _ => v = (.pointer (some ⟨b, off + i * 2, none⟩)), fun v _ => v = (.pointer (some ⟨b, off + i * 2 + 1, none⟩)), fun v _ => v = (.int .i64 (z : Nat)), fun v _ => v = (.pointer (some ⟨bM, 0, none⟩)), fun v _ => v = (.int .i64 (N : Nat)), fun v _ => v = (.int .i64 ((z : Int) + (N : Int))), fun v _ => v = (.agg #[.int .i64 ((x : Int) + (N : Int)), .int .i64 ((z : Int) + (N : Int))]), fun v w => ∃ q, v = .slice (some ⟨q, 0, none⟩) 1 1 ∧ w.heap[q]? = some (.cells #[.int .i64 ((x : Int) + (N : Int)), .int .i64 ((z : Int) + (N : Int))] 42 (0, 0)), fun _ _ => True, fun v _ => v = (.pointer (some ⟨G, 1, none⟩))] ?_ (by kernel_rfl) (by kernel_rfl) 89 rfl (by kernel_rfl) 24 _ rfl rfl (by kernel_rfl) (fun i => if i = 23 then some (.pointer (some ⟨G, 1, none⟩)) else none) 22 _ (by decide) rfl rfl 12 (by kernel_rfl) (fun v w => ∃ g3 cp3, v = (.slice (some ⟨g3, 0, none⟩) (rel.length + i + 1) cp3) ∧ Hid (w.heap[G]? = some (.cells #[.int .i64 (2 * (N : Int)), .slice adr (rel.length + i) cpr, .slice adt (tn + tn) cpt] 30 (0, 0))) ∧ Hid (w.ownsRow W.heap.size 42 2 (.slice (some ⟨g3, 0, none⟩) (rel.length + i + 1) cp3) (rel.length + i + 1) (encP (rel ++ (rel.take (i + 1)).map fun p => (p.1 + (N : Int), p.2 + (N : Int))))) ∧ Hid (w.ownsRow W.heap.size 80 1 (.slice adt (tn + tn) cpt) (tn + tn) (us ++ us)) ∧ Hid (Below W.heap.size W w)) ?_ ?_ ?_ ?_)
        · intro p hp
          simp only [List.mem_cons, List.not_mem_nil, or_false] at hp
          rcases hp with rfl | rfl | rfl | rfl | rfl | rfl | rfl | rfl | rfl | rfl | rfl | rfl | rfl | rfl | rfl | rfl | rfl | rfl | rfl | rfl | rfl | rfl | rfl | rfl
          · exact fun _ _ _ h _ => h
          · exact fun _ _ _ h _ => h
          · exact fun _ _ _ h _ => h
          · exact fun _ _ _ h _ => h
          · exact fun _ _ _ h _ => h
          · exact fun _ _ _ h _ => h
          · exact fun _ _ _ h _ => h
          · exact fun _ _ _ h _ => h
          · exact fun _ _ _ h _ => h
          · exact fun _ _ _ h _ => h
          · exact fun _ _ _ h _ => h
          · exact fun _ _ _ h _ => h
          · exact fun _ _ _ h _ => h
          · exact fun _ _ _ h _ => h
          · exact fun _ _ _ h _ => h
          · exact fun _ _ _ h _ => h
          · exact fun _ _ _ h _ => h
          · exact fun _ _ _ h _ => h
          · exact fun _ _ _ h _ => h
          · exact fun _ _ _ h _ => h
          · exact fun _ _ _ h _ => h
          · rintro v w1 w2 ⟨q, e, h⟩ hb
            exact ⟨q, e, below_keep hb h⟩
          · exact fun _ _ _ h _ => h
          · exact fun _ _ _ h _ => h
        · intro j c wq hj
          by_cases h23 : j = 23
          · subst h23
            have e : some (.pointer (some ⟨G, 1, none⟩)) = some c := hj; exact (Option.some.inj e).symm
          simp only [if_neg h23] at hj
          cases hj
        · refine ⟨?_, ?_, ?_, ?_, ?_, ?_, ?_, ?_, ?_, ?_, ?_, ?_, ?_, ?_, ?_, ?_, ?_, ?_, ?_, ?_, ?_, ?_, ?_, ?_, trivial⟩
          · show StepOk _ _ _ _ _ _ _ _
            intro a wx hB hold hdep K hK; have t5 : a.tmps[5]? = some (.pointer (some ⟨G, 0, none⟩)) := hold.2.2 5 rfl; clear hold hdep; go_simp; exact hK.out _ _ rfl (Below.refl _ _)
          · show StepOk _ _ _ _ _ _ _ _
            intro a wx hB hold hdep K hK; obtain ⟨v49, t49, p49⟩ := hdep 0 rfl _ 49 rfl rfl; have e49 : v49 = (.pointer (some ⟨G, 1, none⟩)) := p49; subst e49; obtain ⟨j0, j1, j2, -⟩ := blk3 (below_keep hB HGr.out); clear hold hdep; go_simp; exact hK.out _ _ rfl (Below.refl _ _)
          · show StepOk _ _ _ _ _ _ _ _
            intro a wx hB hold hdep K hK; have t1 : a.tmps[1]? = some (.pointer (some ⟨bM, 0, none⟩)) := hold.2.2 1 rfl; clear hold hdep; go_simp; exact hK.out _ _ rfl (Below.refl _ _)
          · show StepOk _ _ _ _ _ _ _ _
            intro a wx hB hold hdep K hK; obtain ⟨v51, t51, p51⟩ := hdep 2 rfl _ 51 rfl rfl; have e51 : v51 = (.pointer (some ⟨bM, 1, none⟩)) := p51; subst e51; obtain ⟨k0, k1, k2, -⟩ := blk3 (below_keep hB HMr.out); clear hold hdep; go_simp; exact hK.out _ _ rfl (Below.refl _ _)
          · show StepOk _ _ _ _ _ _ _ _
            intro a wx hB hold hdep K hK; have t6 : a.tmps[6]? = some (.int .i64 (i : Nat)) := hold.2.2 6 rfl; clear hold hdep; go_simp; exact hK.out _ _ rfl (Below.refl _ _)
          · show StepOk _ _ _ _ _ _ _ _
            intro a wx hB hold hdep K hK; obtain ⟨v52, t52, p52⟩ := hdep 3 rfl _ 52 rfl rfl; have e52 : v52 = (.slice (some ⟨b, off, none⟩) rel.length rc) := p52; subst e52; obtain ⟨v53, t53, p53⟩ := hdep 4 rfl _ 53 rfl rfl; have e53 : v53 = (.int .i64 (i : Nat)) := p53; subst e53; clear hold hdep; go_simp; exact hK.out _ _ rfl (Below.refl _ _)
          · show StepOk _ _ _ _ _ _ _ _
            intro a wx hB hold hdep K hK; obtain ⟨v54, t54, p54⟩ := hdep 5 rfl _ 54 rfl rfl; have e54 : v54 = (.pointer (some ⟨b, off + i * 2, none⟩)) := p54; subst e54; clear hold hdep; go_simp; exact hK.out _ _ rfl (Below.refl _ _)
          · show StepOk _ _ _ _ _ _ _ _
            intro a wx hB hold hdep K hK; obtain ⟨v55, t55, p55⟩ := hdep 6 rfl _ 55 rfl rfl; have e55 : v55 = (.pointer (some ⟨b, off + i * 2, none⟩)) := p55; subst e55; have f0 := (hB.cell (lt_of_cell HC0.out)).trans HC0.out; have f1 := (hB.cell (lt_of_cell HC1.out)).trans HC1.out; clear hold hdep; go_simp; exact hK.out _ _ rfl (Below.refl _ _)
          · show StepOk _ _ _ _ _ _ _ _
            intro a wx hB hold hdep K hK; have t1 : a.tmps[1]? = some (.pointer (some ⟨bM, 0, none⟩)) := hold.2.2 1 rfl; clear hold hdep; go_simp; exact hK.out _ _ rfl (Below.refl _ _)
          · show StepOk _ _ _ _ _ _ _ _
            intro a wx hB hold hdep K hK; obtain ⟨v57, t57, p57⟩ := hdep 8 rfl _ 57 rfl rfl; have e57 : v57 = (.pointer (some ⟨bM, 0, none⟩)) := p57; subst e57; obtain ⟨k0, k1, k2, -⟩ := blk3 (below_keep hB HMr.out); clear hold hdep; go_simp; exact hK.out _ _ rfl (Below.refl _ _)
          · show StepOk _ _ _ _ _ _ _ _
            intro a wx hB hold hdep K hK; obtain ⟨v56, t56, p56⟩ := hdep 7 rfl _ 56 rfl rfl; have e56 : v56 = (.int .i64 (x : Nat)) := p56; subst e56; obtain ⟨v58, t58, p58⟩ := hdep 9 rfl _ 58 rfl rfl; have e58 : v58 = (.int .i64 (N : Nat)) := p58; subst e58; have hwx := HwX.out; clear hold hdep; go_simp; exact hK.out _ _ rfl (Below.refl _ _)
          · show StepOk _ _ _ _ _ _ _ _
            intro a wx hB hold hdep K hK; have t1 : a.tmps[1]? = some (.pointer (some ⟨bM, 0, none⟩)) := hold.2.2 1 rfl; clear hold hdep; go_simp; exact hK.out _ _ rfl (Below.refl _ _)
          · show StepOk _ _ _ _ _ _ _ _
            intro a wx hB hold hdep K hK; obtain ⟨v60, t60, p60⟩ := hdep 11 rfl _ 60 rfl rfl; have e60 : v60 = (.pointer (some ⟨bM, 1, none⟩)) := p60; subst e60; obtain ⟨k0, k1, k2, -⟩ := blk3 (below_keep hB HMr.out); clear hold hdep; go_simp; exact hK.out _ _ rfl (Below.refl _ _)
          · show StepOk _ _ _ _ _ _ _ _
            intro a wx hB hold hdep K hK; have t6 : a.tmps[6]? = some (.int .i64 (i : Nat)) := hold.2.2 6 rfl; clear hold hdep; go_simp; exact hK.out _ _ rfl (Below.refl _ _)
          · show StepOk _ _ _ _ _ _ _ _
            intro a wx hB hold hdep K hK; obtain ⟨v61, t61, p61⟩ := hdep 12 rfl _ 61 rfl rfl; have e61 : v61 = (.slice (some ⟨b, off, none⟩) rel.length rc) := p61; subst e61; obtain ⟨v62, t62, p62⟩ := hdep 13 rfl _ 62 rfl rfl; have e62 : v62 = (.int .i64 (i : Nat)) := p62; subst e62; clear hold hdep; go_simp; exact hK.out _ _ rfl (Below.refl _ _)
          · show StepOk _ _ _ _ _ _ _ _
            intro a wx hB hold hdep K hK; obtain ⟨v63, t63, p63⟩ := hdep 14 rfl _ 63 rfl rfl; have e63 : v63 = (.pointer (some ⟨b, off + i * 2, none⟩)) := p63; subst e63; clear hold hdep; go_simp; exact hK.out _ _ rfl (Below.refl _ _)
          · show StepOk _ _ _ _ _ _ _ _
            intro a wx hB hold hdep K hK; obtain ⟨v64, t64, p64⟩ := hdep 15 rfl _ 64 rfl rfl; have e64 : v64 = (.pointer (some ⟨b, off + i * 2 + 1, none⟩)) := p64; subst e64; have f0 := (hB.cell (lt_of_cell HC0.out)).trans HC0.out; have f1 := (hB.cell (lt_of_cell HC1.out)).trans HC1.out; clear hold hdep; go_simp; exact hK.out _ _ rfl (Below.refl _ _)
          · show StepOk _ _ _ _ _ _ _ _
            intro a wx hB hold hdep K hK; have t1 : a.tmps[1]? = some (.pointer (some ⟨bM, 0, none⟩)) := hold.2.2 1 rfl; clear hold hdep; go_simp; exact hK.out _ _ rfl (Below.refl _ _)
          · show StepOk _ _ _ _ _ _ _ _
            intro a wx hB hold hdep K hK; obtain ⟨v66, t66, p66⟩ := hdep 17 rfl _ 66 rfl rfl; have e66 : v66 = (.pointer (some ⟨bM, 0, none⟩)) := p66; subst e66; obtain ⟨k0, k1, k2, -⟩ := blk3 (below_keep hB HMr.out); clear hold hdep; go_simp; exact hK.out _ _ rfl (Below.refl _ _)
          · show StepOk _ _ _ _ _ _ _ _
            intro a wx hB hold hdep K hK; obtain ⟨v65, t65, p65⟩ := hdep 16 rfl _ 65 rfl rfl; have e65 : v65 = (.int .i64 (z : Nat)) := p65; subst e65; obtain ⟨v67, t67, p67⟩ := hdep 18 rfl _ 67 rfl rfl; have e67 : v67 = (.int .i64 (N : Nat)) := p67; subst e67; have hwz := HwZ.out; clear hold hdep; go_simp; exact hK.out _ _ rfl (Below.refl _ _)
          · show StepOk _ _ _ _ _ _ _ _
            intro a wx hB hold hdep K hK; obtain ⟨v59, t59, p59⟩ := hdep 10 rfl _ 59 rfl rfl; have e59 : v59 = (.int .i64 ((x : Int) + (N : Int))) := p59; subst e59; obtain ⟨v68, t68, p68⟩ := hdep 19 rfl _ 68 rfl rfl; have e68 : v68 = (.int .i64 ((z : Int) + (N : Int))) := p68; subst e68; clear hold hdep; go_simp; exact hK.out _ _ rfl (Below.refl _ _)
          · show StepOk _ _ _ _ _ _ _ _
            intro a wx hB hold hdep K hK; obtain ⟨v69, t69, p69⟩ := hdep 20 rfl _ 69 rfl rfl; have e69 : v69 = (.agg #[.int .i64 ((x : Int) + (N : Int)), .int .i64 ((z : Int) + (N : Int))]) := p69; subst e69; clear hold hdep; go_simp; exact hK.out _ _ ⟨_, rfl, blk_new _ _⟩ (below_more (Below.refl _ _) _)
          · exact trivial
          · show StepE _ _ _ _ _ _ _
            intro a wx hold hdep K hK; have t5 : a.tmps[5]? = some (.pointer (some ⟨G, 0, none⟩)) := hold.2.2 5 rfl; clear hold hdep; go_simp; exact hK.out
        · intro a wx hB hold hgot K hK
          (obtain ⟨v50, tv50, pv50⟩ := hgot 1 _ 50 (by decide) (by decide) rfl rfl rfl); have ev50 : v50 = (.slice adr (rel.length + i) cpr) := pv50; subst ev50; (obtain ⟨v70, tv70, pv70⟩ := hgot 21 _ 70 (by decide) (by decide) rfl rfl rfl); obtain ⟨q, rfl, hq⟩ := pv70; obtain ⟨i0, hi0, hz0, hz1, hz2⟩ := infoPr; have hn1 := HN1.out; have hi9 := HI.out; have hsx := hB.size; have hsw := HBr.out.size; have hlow := HRr.out.lt; clear hold hgot; (refine step_append_lies wx rfl _ _ 27 rfl W.heap.size 42 i0 (.agg #[.int .i64 0, .int .i64 0]) 2 16 Try.underlying27 hi0 hz0 hz1 hz2 rfl (by decide) (.slice adr (rel.length + i) cpr) (rel.length + i) _ (eval_tmpM tv50) (rowM_up HRr.out hB) ⟨q, 0, none⟩ 1 1 [.int .i64 ((x : Int) + (N : Int)), .int .i64 ((z : Int) + (N : Int))] (eval_tmpM tv70) rfl ?_ ?_ (by omega) (by unfold maxLen; omega) (by omega) (by omega) _ rfl ?_)
          · intro j u hu
            rw [add_none, Nat.zero_add, blk_cell hq]; simpa using hu
          · intro u hu
            simp at hu
            rcases hu with rfl | rfl <;> rfl
          intro g3 cp3 w3 hown3 hgrow hat hlt3; have hgrow' : wx.grownBy w3 (Value.slice adr (rel.length + i) cpr).ownBlock := hgrow; refine hK.out _ _ ⟨g3, cp3, rfl, ?_, ?_, ?_, ?_⟩
          · have hh := below_keep hB HGr.out
            (exact (hgrow'.block _ (lt_of_block hh) fun e2 => rowM_ne (rowM_up HRr.out hB) hh (by decide) e2.symm).trans hh)
          · have e1 : encP (rel ++ (rel.take (i + 1)).map fun p => (p.1 + (N : Int), p.2 + (N : Int))) = encP (rel ++ (rel.take i).map fun p => (p.1 + (N : Int), p.2 + (N : Int))) ++ [.int .i64 ((x : Int) + (N : Int)), .int .i64 ((z : Int) + (N : Int))] := by
              rw [List.take_add_one, HRi.out, Option.toList_some, List.map_append, ← List.append_assoc, encP_app]; rfl
            show World.ownsRow _ _ _ _ _ _ _; rw [e1]; exact hown3
          · exact rowM_move (rowM_up HTr.out hB) fun g cur _ hh => hgrow'.block g (lt_of_block hh) fun e2 => rowM_ne (rowM_up HRr.out hB) hh (by decide) e2.symm
          · exact (HBr.out.trans (hB.mono HBr.out.size)).grown hgrow' (by omega) fun k hk => (hlow k hk).1
        · intro a wx hold hpx hpu K hK
          (have t72 : a.tmps[72]? = some (.pointer (some ⟨G, 1, none⟩)) := hpu 23 _ 72 _ rfl (by decide) rfl rfl); obtain ⟨v71, t71, g3, cp3, rfl, HG3, HR3, HT3, HB3⟩ := hpx 71 rfl; obtain ⟨j0, j1, j2, z0, z1, z2⟩ := blk3 HG3.out; obtain ⟨tm, df⟩ := a; (obtain ⟨ys, hys, htm, rfl⟩ := frame_mid2 49 24 (by kernel_rfl) (Nat.le_of_ble_eq_true rfl) hold); obtain ⟨x49, x50, x51, x52, x53, x54, x55, x56, x57, x58, x59, x60, x61, x62, x63, x64, x65, x66, x67, x68, x69, x70, x71, x72, rfl⟩ := rowT24 ys hys; simp only [List.take_succ_cons, List.take_zero, List.drop_succ_cons, List.drop_zero, List.cons_append, List.nil_append] at htm; subst htm; obtain rfl : x71 = _ := someInjM t71; obtain rfl : x72 = _ := someInjM t72; clear hys hold hpx hpu t71 t72; go_simp; refine hK.out _ _ ?_; clear hK j0 j1 j2 z0 z1 z2; obtain ⟨F, hF⟩ : ∃ F, F = wx.setCell ⟨G, 1, none⟩ (.slice (some ⟨g3, 0, none⟩) (rel.length + i + 1) cp3) := ⟨_, rfl⟩
          have HFG : Hid (F.heap[G]? = some (.cells #[.int .i64 (2 * (N : Int)), .slice (some ⟨g3, 0, none⟩) (rel.length + (i + 1)) cp3, .slice adt (tn + tn) cpt] 30 (0, 0))) := by
            rw [hF, blk_setS HG3.out]; rfl
          have hfar : ∀ (b : Nat) (cur : Array Value) (T : TypeId), wx.heap[b]? = some (.cells cur T (0, 0)) → T ≠ 30 → F.heap[b]? = wx.heap[b]? := fun b cur T hb hT => by
            rw [hF]; (refine blk_otherS _ fun e => ?_); rw [e, HG3.out] at hb; simp only [Option.some.injEq, Obj.cells.injEq] at hb; exact hT hb.2.1.symm
          (have HFR : Hid (F.ownsRow W.heap.size 42 2 (.slice (some ⟨g3, 0, none⟩) (rel.length + (i + 1)) cp3) (rel.length + (i + 1)) (encP (rel ++ (rel.take (i + 1)).map fun p => (p.1 + (N : Int), p.2 + (N : Int))))) := rowM_move HR3.out fun g cur _ hh => hfar g cur _ hh (by decide)); (have HFT : Hid (F.ownsRow W.heap.size 80 1 (.slice adt (tn + tn) cpt) (tn + tn) (us ++ us)) := rowM_move HT3.out fun g cur _ hh => hfar g cur _ hh (by decide))
          have HFB : Hid (Below W.heap.size W F) := by
            rw [hF]; exact HB3.out.setCell (p := ⟨G, 1, none⟩) HGs.out _
          rw [← hF]; clear hF hfar HG3 HR3 HT3 HB3; go_wp2_with fail
          go_roundg (rel.length - (i + 1))
          case measure => have := HGk.out; have := HI.out; omega
          case rel => exact ⟨i + 1, some ⟨g3, 0, none⟩, cp3, HI.out, rfl, by go_num, HFG, HFR, HFT, HFB⟩
      · have hii : i = rel.length := by omega
        subst hii; (have hge : ¬ (rel.length : Int) < (rel.length : Int) := by omega); clear hlt hi; obtain ⟨j0, j1, j2, -⟩ := blk3 HGr.out; obtain ⟨dn, hdn⟩ : ∃ dn : Nat, dn = 2 * N := ⟨_, rfl⟩; have HDn : Hid (dn = 2 * N) := hdn; (have hdI : (dn : Int) ≤ 40 := by omega); (have HLt : Hid ((relTwo N rel).length = rel.length + rel.length) := by show _ = _; rw [relTwo, List.length_append, List.length_map])
        have HRt : Hid (wr.ownsRow W.heap.size 42 2 (.slice adr (relTwo N rel).length cpr) (relTwo N rel).length (encP (relTwo N rel))) := by
          have := HRr.out; rw [List.take_length] at this; show World.ownsRow _ _ _ _ _ _ _; rw [HLt.out]; exact this
        have HMR : Hid (MR wr ⟨((2 * N : Nat) : Int), relTwo N rel, tr ++ tr⟩ (.agg #[.int .i64 (2 * (N : Int)), .slice adr (rel.length + rel.length) cpr, .slice adt (tn + tn) cpt])) := by
          (have htl : (tr ++ tr).length = tn + tn := by rw [List.length_append, HTn.out.2]); (refine ⟨adr, cpr, adt, cpt, ?_, ?_, ?_, fun l hl t ht => HMx.out l (by simpa using hl) t ht⟩)
          · simp only [HLt.out, htl]
            congr 3
          · exact PL.own HRt.out
          · show SLs wr (.slice adt (tr ++ tr).length cpt) (tr ++ tr)
            rw [htl]; obtain ⟨hc1, hc2⟩ := rowM_caps HTr.out; (refine ⟨adt, cpt, by rw [htl], by omega, hc2, fun _ => ?_⟩); (obtain ⟨bb, rfl, hcc⟩ := rowM_cells HTr.out (by have := HN2.out; omega)); (refine ⟨bb, 0, rfl, fun j r hj => ?_⟩)
            have hjl : j < (us ++ us).length := by
              have := (List.getElem?_eq_some_iff.1 hj).1; rw [List.length_append, HUs.out]; omega
            obtain ⟨u, hu⟩ : ∃ u, (us ++ us)[j]? = some u := ⟨_, List.getElem?_eq_getElem hjl⟩; refine ⟨u, hcc j u hu, ?_⟩; have hut := HUs.out; have htt := HTn.out.2
            rcases Nat.lt_or_ge j tn with h1 | h1
            · rw [List.getElem?_append_left (by omega)] at hu hj
              exact (HSl.out j u r hu hj).up HBr.out
            · rw [List.getElem?_append_right (by omega)] at hu hj
              rw [hut] at hu; rw [← htt] at hj; exact (HSl.out (j - tn) u r hu hj).up HBr.out
        have HCk : Hid (Calls Try.prog 17 #[.agg #[.int .i64 (2 * (N : Int)), .slice adr (rel.length + rel.length) cpr, .slice adt (tn + tn) cpt]] wr fun e w' => ∃ ad cp, e = .returned (.tuple #[.slice ad dn cp, .agg #[.int .i64 0, .int .i64 0]]) ∧ OwnN wr.heap.size w' ad cp (cl ++ cl) ∧ Below wr.heap.size wr w') := by
          rw [hdn]; exact HC2.out wr _ HMR.out
        clear hdn HMR HRt HLt; go_wp2_with fail; refine HCk.out.mono ?_; rintro _ w3 ⟨ad3, cp3, rfl, ho3, hb3⟩; have HB3 : Hid (Below W.heap.size W w3) := below_join HBr.out hb3; have HE3 : Hid (w3.heap[bE]? = some (.cells #[.int .i64 0, .int .i64 0] 32 (0, 0))) := below_keep HB3.out HEb.out; obtain ⟨r0, r1, r2, r3⟩ := blk2 HE3.out; have HO3 : Hid (OwnN wr.heap.size w3 ad3 cp3 (cl ++ cl)) := ho3; clear ho3 hb3 j0 j1 j2 k0 k1 k2; obtain ⟨F, hF⟩ : ∃ F, F = (w3.setCell ⟨bE, 0, none⟩ (.int .i64 0)).setCell ⟨bE, 1, none⟩ (.int .i64 0) := ⟨_, rfl⟩; (have hoth : ∀ b, b ≠ bE → F.heap[b]? = w3.heap[b]? := fun b hb => by rw [hF, blk_otherS _ hb, blk_otherS _ hb])
        have hint : ∀ (q : Nat) (cur : Array Value), w3.heap[q]? = some (.cells cur 3 (0, 0)) → F.heap[q]? = w3.heap[q]? := fun q cur hq => hoth q fun e => by
          rw [e, HE3.out] at hq; simp at hq
        have HFo : Hid (OwnN wr.heap.size F ad3 cp3 (cl ++ cl)) := OwnN.move HO3.out hint; have HFl : Hid (OwnN w.heap.size F ad2 cp2 cl) := OwnN.move (rowM_up HOl.out HB3.out) hint; (have HFe : Hid (F.heap[bE]? = some (.cells #[.int .i64 0, .int .i64 0] 32 (0, 0))) := by rw [hF]; exact set2 HE3.out _ _)
        have HBF : Hid (Below w.heap.size w F) := by
          rw [hF]; exact ((HBW.out.trans (HB3.out.mono HBW.out.size)).setCell (p := ⟨bE, 0, none⟩) HzL.out _).setCell (p := ⟨bE, 1, none⟩) HzL.out _
        go_upto_region 12 with fail
        rw [← hF]; clear hF hoth hint r0 r1 r2 r3; obtain ⟨e0, e1, -⟩ := blk2 HFe.out; have hcl := HLn.out; have hn2 := HN2.out; have htn := HTn.out.1; (obtain ⟨bl, hbl, hcb⟩ := rowM_cells HFl.out (by omega)); subst hbl; have HLc : Hid (∀ (j : Nat) (u : Value), (cl.map encI)[j]? = some u → F.cell? ⟨bl, 0 + j, none⟩ = some u) := hcb; (have HLm : Hid ((cl.map encI).length = N) := by show _ = _; rw [List.length_map, hcl])
        have HL1 : Hid (∀ u ∈ cl.map encI, u.oneCell' = true) := fun u hu => by
          obtain ⟨x, -, rfl⟩ := List.mem_map.1 hu; rfl
        (have HNn : Hid (1 ≤ N ∧ N ≤ 20) := ⟨by omega, by omega⟩); have HFz : Hid (OwnN wr.heap.size F ad3 cp3 (cl ++ cl)) := HFo.out; clear hcl hn2 htn hcb
        go_wp2_with (first
          | (at_builtin
             have hnn := HNn.out; (refine wpList_app_guard (by rfl) _ _ rfl F.heap.size (.slice none 0 0) 0 [] rfl ⟨rfl, Or.inl ⟨rfl, rfl⟩⟩ ⟨bl, 0, none⟩ N cp2 (cl.map encI) rfl (by rw [HLm.out]; omega) (fun j u hu => by rw [add_none]; exact HLc.out j u hu) HL1.out (by omega) (by omega) (Nat.le_refl _) ?_); intro g4 cp4 w4 hown4 hgrow4
             have HO4 : Hid (w4.ownsRow F.heap.size 3 1 (.slice (some ⟨g4, 0, none⟩) N cp4) N (cl.map encI)) := by
               have h9 := hown4; rw [Nat.zero_add, List.nil_append] at h9; exact h9
             (have HG4 : Hid (Below F.heap.size F w4) := (Below.refl _ F).grown hgrow4 (Nat.le_refl _) fun k hk => by cases hk)
             clear hown4 hgrow4 hnn)
          | (at_builtin
             have ho4h := HO4; have ho4 := ho4h.out; have hnn := HNn.out
             refine wpList_app_guard (by rfl) _ _ rfl F.heap.size (.slice (some ⟨g4, 0, none⟩) N cp4) N (cl.map encI) rfl ho4 ⟨bl, 0, none⟩ N cp2 (cl.map encI) rfl (by rw [HLm.out]; omega) (fun j u hu => by
               rw [add_none]; have := HLc.out j u hu
               exact (HG4.out.cell (lt_of_cell this)).trans this) HL1.out (by omega) (by omega) HG4.out.size ?_
             intro g5 cp5 w5 hown5 hgrow5; have HO5 : Hid (w5.ownsRow F.heap.size 3 1 (.slice (some ⟨g5, 0, none⟩) (N + N) cp5) (N + N) (cl.map encI ++ cl.map encI)) := hown5; (have HG5 : Hid (Below F.heap.size F w5) := HG4.out.grown hgrow5 HG4.out.size fun k hk => (ho4.lt k hk).1)
             clear hown5 hgrow5 hnn ho4 ho4h)
          | fail)
        (have hll : (cl ++ cl).length = N + N := by rw [List.length_append, HLn.out])
        have hA : NL w5 (.slice ad3 dn cp3) (cl ++ cl) := by
          have h1 := (OwnN.nl HFz.out).up HG5.out; (rw [hll, show N + N = dn by have := HDn.out; omega] at h1); exact h1
        have hBn : NL w5 (.slice (some ⟨g5, 0, none⟩) (N + N) cp5) (cl ++ cl) := by
          have h1 : OwnN F.heap.size w5 (some ⟨g5, 0, none⟩) cp5 (cl ++ cl) := by
            unfold OwnN; rw [hll, List.map_append]; exact HO5.out
          have h2 := OwnN.nl h1; rw [hll] at h2; exact h2
        (have hsm : (cl ++ cl).length ≤ 100000 := by have := HNn.out; omega); refine (sameN_any _ _ hsm hsm _ _ w5 hA hBn).mono ?_; rintro _ w6 ⟨rfl, hb6⟩; have hde : decide (cl ++ cl = cl ++ cl) = true := decide_eq_true rfl; rw [hde]; have HB6 : Hid (Below w.heap.size w w6) := below_join (below_join HBF.out HG5.out) hb6; clear hb6; go_wp2_with fail; go_ret; exact ⟨rfl, HB6.out⟩
end Go.Proofs.Ytlmjnglcdgkomah
