/- Texts of one proof, one behind the other: NTN. -/
import Derived.Test.YtealalhgkdlmkaiB15
import Derived.Deep.Upon
/- Walks: the nodes of linear formulas, walked: Linears, Leaves. -/
namespace Go.Proofs.Ytealalhgkdlmkai
open Go.RowKit

/-- An append of any list, an empty one too, onto a row of one's own. -/
theorem wp_appG {o : Oper} {a : Act} {w : World} {K : Act → World → Prop} {Q : Exit → Act → World → Prop} (s x : Operand) (t : TypeId) (hop : o.op = Op.call { callee := Callee.builtin Builtin.append, args := #[s, x], argTypes := #[t, t] })
    (B : Nat) (e : TypeId) (i0 : TypeInfo) (z : Value) (size bytes : Nat) (ht : Try.prog.underlying t = some (.slice e)) (hi : Try.prog.info? e = some i0) (hz : i0.zero = some z) (hsize : i0.size = size) (hby : i0.bytes = bytes) (hzs : z.cells.size = size) (hsz : 0 < size)
    (ad : Option Addr) (n cp : Nat) (xs : List Value) (hs : a.eval s = .slice ad n cp) (hown : w.ownsRow B e size (.slice ad n cp) n xs)
    (x0 : Option Addr) (m c : Nat) (news : List Value) (hx : a.eval x = .slice x0 m c) (hl : news.length = m * size) (hn : 0 < m → ∃ b off, x0 = some ⟨b, off, none⟩ ∧ ∀ (j : Nat) (u : Value), news[j]? = some u → w.cell? ⟨b, off + j, none⟩ = some u) (h1 : ∀ u ∈ news, u.oneCell' = true) (hmx : n + m ≤ maxLen) (hmb : (n + m) * bytes ≤ 140737488355328) (hB : B ≤ w.heap.size)
    (h : ∀ ad3 cp3 w3, w3.ownsRow B e size (.slice ad3 (n + m) cp3) (n + m) (xs ++ news) → Kept (fun b => (Value.slice ad n cp).ownBlock ≠ some b) w w3 → K (a.put o.dst (.slice ad3 (n + m) cp3)) w3) : Oper.wp Try.prog o a w K Q := by
  rcases Nat.eq_zero_or_pos m with hm | hm
  · subst hm
    (have hnil : news = [] := List.length_eq_zero_iff.1 (by rw [hl]; omega)); subst hnil
    have hsrc : Src Try.prog i0.size t (.slice x0 0 c) 0 [] w := by
      cases x0 with
      | none => exact Src.ofNil w ht c
      | some ad => exact Src.ofSlice w ht ad 0 c [] (by simp) (fun j u h => by simp at h) (fun u h => by cases h)
    have hrun := run_append_nothing (P := Try.prog) w t t o.type e i0 ht hi ad n cp (rowM_caps hown).1 (.slice x0 0 c) hsrc; (have h9 := h ad cp w (by rw [List.append_nil]; exact hown) (Kept.refl _ _)); unfold Oper.wp; simp [execOp, hop, resolve, invoke, builtin, hs, hx, hrun, Result.andThen]; exact h9
  · obtain ⟨b, off, rfl, hc⟩ := hn hm
    (refine wp_append_lies w s x t hop B e i0 z size bytes ht hi hz hsize hby hzs hsz _ _ _ hs hown ⟨b, off, none⟩ m c news hx hl (fun j u hu => by rw [add_none]; exact hc j u hu) h1 hm hmx hmb hB _ rfl ?_); intro g3 cp3 w3 hown3 hgrow hat hlt3; (exact h _ _ w3 hown3 ⟨hgrow.os, hgrow.tape, hgrow.output, hgrow.size, fun b hb hn => hgrow.block b hb fun e => hn e.symm⟩)
theorem wpList_appG {ops : Array Oper} {rest : List Oper} {o : Oper} {a : Act} {w : World} {Q : Exit → Act → World → Prop} (hgd : o.guard = none) (s x : Operand) (t : TypeId) (hop : o.op = Op.call { callee := Callee.builtin Builtin.append, args := #[s, x], argTypes := #[t, t] })
    (B : Nat) (e : TypeId) (i0 : TypeInfo) (z : Value) (size bytes : Nat) (ht : Try.prog.underlying t = some (.slice e)) (hi : Try.prog.info? e = some i0) (hz : i0.zero = some z) (hsize : i0.size = size) (hby : i0.bytes = bytes) (hzs : z.cells.size = size) (hsz : 0 < size)
    (ad : Option Addr) (n cp : Nat) (xs : List Value) (hs : a.eval s = .slice ad n cp) (hown : w.ownsRow B e size (.slice ad n cp) n xs)
    (x0 : Option Addr) (m c : Nat) (news : List Value) (hx : a.eval x = .slice x0 m c) (hl : news.length = m * size) (hn : 0 < m → ∃ b off, x0 = some ⟨b, off, none⟩ ∧ ∀ (j : Nat) (u : Value), news[j]? = some u → w.cell? ⟨b, off + j, none⟩ = some u) (h1 : ∀ u ∈ news, u.oneCell' = true) (hmx : n + m ≤ maxLen) (hmb : (n + m) * bytes ≤ 140737488355328) (hB : B ≤ w.heap.size)
    (h : ∀ ad3 cp3 w3, w3.ownsRow B e size (.slice ad3 (n + m) cp3) (n + m) (xs ++ news) → Kept (fun b => (Value.slice ad n cp).ownBlock ≠ some b) w w3 → wpList Try.prog ops Q rest (a.put o.dst (.slice ad3 (n + m) cp3)) w3) : wpList Try.prog ops Q (o :: rest) a w :=
  wpList_plain hgd fun _ hK => wp_appG s x t hop B e i0 z size bytes ht hi hz hsize hby hzs hsz ad n cp xs hs hown x0 m c news hx hl hn h1 hmx hmb hB fun ad3 cp3 w3 h2 h3 => hK _ _ (h ad3 cp3 w3 h2 h3)
theorem kept_row {B : Nat} {w W V : World} {e : TypeId} {size n cp : Nat} {ad : Option Addr} {xs : List Value} (hb : Below B w W) (hB : B ≤ W.heap.size) (hown : W.ownsRow B e size (.slice ad n cp) n xs) (hk : Kept (fun b => (Value.slice ad n cp).ownBlock ≠ some b) W V) : Below B w V :=
  hb.trans (hk.below hB fun b hb2 e2 => by have := (hown.lt b e2).1; omega)
def LinS (m : Nat) : Prop := ∀ (l : List Lm) (v : Value) (most : Nat) (w0 w : World), Lm.sizes l < m → LL w0 v l → Below w0.heap.size w0 w → Lm.sizes l ≤ most → most ≤ 300 →
  Calls Try.prog 32 #[v, .int .i64 (most : Nat)] w fun e w' => ∃ ad cp cs, e = .returned (.slice ad (Lm.sizes l) cp) ∧ w'.ownsRow w.heap.size 52 4 (.slice ad (Lm.sizes l) cp) (Lm.sizes l) cs ∧ LQ4 w0 cs (nodL l) ∧ Below w.heap.size w w'
theorem len_le_sizes (l : List Lm) : l.length ≤ Lm.sizes l := by
  induction l with
  | nil => simp
  | cons f fs ih => cases f; rw [List.length_cons, Lm.sizes, Lm.size]; omega
set_option maxRecDepth 10000 in
set_option maxHeartbeats 4000000 in
theorem lin_step (m : Nat) (ih : LinS m) : LinS (m + 1) := by
  intro l v most w0 w hm hv hb0 hmo h300; have HX : Hid (LL w0 v l) := hv; have HB0 : Hid (Below w0.heap.size w0 w) := hb0; obtain ⟨sl, cap, rfl, hx2, hx3, -⟩ := hv; have hls := len_le_sizes l; (have hlI : (l.length : Int) ≤ 300 := by omega); (have hcI : (l.length : Int) ≤ (cap : Int) := by omega); (have hmI : (most : Int) ≤ 300 := by omega); have HMo : Hid (Lm.sizes l ≤ most ∧ most ≤ 300 ∧ Lm.sizes l < m + 1) := ⟨hmo, h300, hm⟩; obtain ⟨i0, hi0, hz0, hz1, hz2⟩ := infoLm; clear hb0 hx2 hx3 hm hmo h300
  go_enter Try.func32, Try.ntmps32
  go_wp2_with fail
  go_loopg [6, 5] l.length (fun gg cc x wr => ∃ i ad cp cs, i ≤ l.length ∧ gg = l.length - i ∧ cc = .int .i64 (i : Nat) ∧ x = .slice ad (Lm.sizes (l.take i)) cp ∧ Hid (wr.ownsRow w.heap.size 52 4 (.slice ad (Lm.sizes (l.take i)) cp) (Lm.sizes (l.take i)) cs) ∧ Hid (LQ4 w0 cs (nodL (l.take i))) ∧ Hid (Below w.heap.size w wr))
  case atStart => exact ⟨0, none, 0, [], by omega, by omega, rfl, rfl, ⟨rfl, Or.inl ⟨rfl, rfl⟩⟩, trivial, Below.refl _ _⟩
  case round =>
    obtain ⟨i, ad, cp, cs, hi, hg, rfl, rfl, HO, HQ, HB⟩ := hrel; have HGk : Hid (gk = l.length - i) := hg; clear hg; have hst := sizes_take_le l i; have HSt : Hid (Lm.sizes (l.take i) ≤ Lm.sizes l) := hst; (have hsI : (Lm.sizes (l.take i) : Int) ≤ (most : Int) := by have := HMo.out; omega); by_cases hlt : i < l.length
    · obtain ⟨⟨k2, n2, g2, ks2⟩, hki⟩ : ∃ f, l[i]? = some f := ⟨_, List.getElem?_eq_getElem hlt⟩
      obtain ⟨b, off, sl2, cap2, rfl, y0, y1, y2, y3, hr⟩ := HX.out.at i k2 n2 g2 ks2 hki; have HBw : Hid (Below w0.heap.size w0 wr) := below_join HB0.out HB.out; have x0 := (HBw.out.cell (lt_of_cell y0)).trans y0; have x1 := (HBw.out.cell (lt_of_cell y1)).trans y1; have x2 := (HBw.out.cell (lt_of_cell y2)).trans y2; have x3 := (HBw.out.cell (lt_of_cell y3)).trans y3; have HRp : Hid (LRep w0 (.mk k2 n2 g2 ks2) (.agg #[.int .i64 k2, .string n2, .bool g2, .slice sl2 ks2.length cap2])) := hr; have HCe : Hid (w0.cell? ⟨b, off + i * 4 + 3, none⟩ = some (.slice sl2 ks2.length cap2)) := y3; (have hlt2 : (i : Int) < (l.length : Int) := by omega); have HI : Hid (i < l.length) := hlt
      have hsn : Lm.sizes (l.take (i + 1)) = Lm.sizes (l.take i) + (Lm.sizes ks2 + 1) := by
        rw [take_snocL hki, Lm.sizes_app]; simp [Lm.sizes, Lm.size]
      have hst2 := sizes_take_le l (i + 1); (have HSn : Hid (Lm.sizes (l.take (i + 1)) = Lm.sizes (l.take i) + 1 + Lm.sizes ks2 ∧ Lm.sizes (l.take i) + 1 + Lm.sizes ks2 ≤ Lm.sizes l) := ⟨by omega, by omega⟩); (have HNl : Hid (nodL (l.take (i + 1)) = nodL (l.take i) ++ (.mk k2 n2 g2 ks2 :: nodL ks2)) := by show _ = _; rw [take_snocL hki, nodL_app, nodL_one, nodF]); (have hlt3 : (Lm.sizes (l.take i) : Int) ≤ (most : Int) := by have := HMo.out; omega); generalize Lm.sizes (l.take i) = S at *; (obtain ⟨md, hmd⟩ : ∃ md : Nat, md + (S + 1) = most := ⟨most - (S + 1), by have := HSn.out; have := HMo.out; omega⟩); have HMd : Hid (md + (S + 1) = most) := hmd; (have HRec : Hid (∀ W, Below w0.heap.size w0 W → Calls Try.prog 32 #[.slice sl2 ks2.length cap2, .int .i64 (md : Nat)] W _) := fun W hW => ih ks2 _ md w0 W (by have := HSn.out; have := HMo.out; omega) hr.kidsL hW (by have := HSn.out; have := HMo.out; omega) (by have := HMo.out; omega)); (have hsub : (most : Int) - ((S : Int) + 1) = (md : Int) := by omega); (have hSI : (S : Int) ≤ 300 := by omega); clear hki y0 y1 y2 y3 hr hlt hi hsn hst hst2 hmd hls hsI
      go_wp2_with (first
        | (at_builtin
           have hown := rowM_up HO.out ((Below.refl _ wr).alloc (Nat.le_refl _) (.cells #[.int .i64 k2, .string n2, .bool g2, .slice sl2 ks2.length cap2] 52 (0, 0))); have hbs := HB.out.size; (refine wpList_appG rfl _ _ 22 rfl w.heap.size 52 i0 (.agg #[.int .i64 0, .string ⟨#[]⟩, .bool false, .slice none 0 0]) 4 56 Try.underlying22 hi0 hz0 hz1 hz2 rfl (by decide) ad S cp cs rfl hown (some ⟨wr.heap.size, 0, none⟩) 1 1 [.int .i64 k2, .string n2, .bool g2, .slice sl2 ks2.length cap2] rfl rfl (fun _ => ⟨wr.heap.size, 0, rfl, fun j u hu => ?_⟩) ?_ (by unfold maxLen; omega) (by omega) (by simp; omega) ?_)
           · rw [Nat.zero_add, blk_cell (blk_new wr _)]
             simpa using hu
           · intro u hu
             simp at hu
             rcases hu with rfl | rfl | rfl | rfl <;> rfl
           intro ad3 cp3 w3 hown3 hk3; have HO3 : Hid (w3.ownsRow w.heap.size 52 4 (.slice ad3 (S + 1) cp3) (S + 1) (cs ++ [.int .i64 k2, .string n2, .bool g2, .slice sl2 ks2.length cap2])) := hown3; (have HB3 : Hid (Below w.heap.size w w3) := kept_row (HB.out.alloc hbs _) (by simp; omega) hown hk3); have z3 := ((below_join HB0.out HB3.out).cell (lt_of_cell HCe.out)).trans HCe.out
           clear hown hown3 hk3 hbs x0 x1 x2 x3)
        | fail)
      refine (HRec.out w3 (below_join HB0.out HB3.out)).mono ?_; rintro _ w4 ⟨ad4, cp4, ds, rfl, ho4, hq4, hb4⟩; have HO4 : Hid (w4.ownsRow w3.heap.size 52 4 (.slice ad4 (Lm.sizes ks2) cp4) (Lm.sizes ks2) ds) := ho4; have HQ4 : Hid (LQ4 w0 ds (nodL ks2)) := hq4; have HB4 : Hid (Below w.heap.size w w4) := below_join HB3.out hb4; have HO5 : Hid (w4.ownsRow w.heap.size 52 4 (.slice ad3 (S + 1) cp3) (S + 1) (cs ++ [.int .i64 k2, .string n2, .bool g2, .slice sl2 ks2.length cap2])) := rowM_up HO3.out hb4; obtain ⟨S2, hS2⟩ : ∃ S2, S2 = Lm.sizes ks2 := ⟨_, rfl⟩; rw [← hS2] at HO4 HSn ⊢; have HS2 : Hid (S2 = Lm.sizes ks2) := hS2; clear ho4 hq4 hb4 z3 hS2
      go_wp2_with (first
        | (at_builtin
           have hbs := HB4.out.size; have hso := HSn.out; have hmo := HMo.out; (refine wpList_appG rfl _ _ 22 rfl w.heap.size 52 i0 (.agg #[.int .i64 0, .string ⟨#[]⟩, .bool false, .slice none 0 0]) 4 56 Try.underlying22 hi0 hz0 hz1 hz2 rfl (by decide) ad3 (S + 1) cp3 _ rfl HO5.out ad4 S2 cp4 ds rfl HO4.out.1 (fun hpos => ?_) (LQ4.one HQ4.out) (by unfold maxLen; omega) (by omega) hbs ?_)
           · obtain ⟨g, rfl, hc⟩ := rowM_cells HO4.out hpos
             exact ⟨g, 0, rfl, hc⟩
           intro ad5 cp5 w5 hown5 hk5; have HO6 : Hid (w5.ownsRow w.heap.size 52 4 (.slice ad5 (S + 1 + S2) cp5) (S + 1 + S2) ((cs ++ [.int .i64 k2, .string n2, .bool g2, .slice sl2 ks2.length cap2]) ++ ds)) := hown5; have HB6 : Hid (Below w.heap.size w w5) := kept_row HB4.out hbs HO5.out hk5
           clear hown5 hk5 hbs hso hmo)
        | fail)
      have hl9 : Lm.sizes (l.take (i + 1)) = S + 1 + S2 := HSn.out.1
      go_roundg (l.length - (i + 1))
      case measure => have := HGk.out; have := HI.out; omega
      case rel =>
        (refine ⟨i + 1, ad5, cp5, (cs ++ [.int .i64 k2, .string n2, .bool g2, .slice sl2 ks2.length cap2]) ++ ds, HI.out, rfl, by go_num, by rw [hl9], ?_, ?_, HB6⟩)
        · rw [hl9]
          exact HO6
        · rw [HNl.out, List.append_assoc]
          (exact HQ.out.append ⟨HRp.out, (by intro u hu; simp at hu; rcases hu with rfl | rfl | rfl | rfl <;> rfl), HQ4.out⟩)
    · have hii : l.length = i := by omega
      subst hii; (have hge : ¬ (l.length : Int) < (l.length : Int) := by omega); clear hlt hi; go_wp2_with fail; go_ret; have h1 := HO.out; have h2 := HQ.out; rw [List.take_length] at h1 h2; exact ⟨ad, cp, rfl, cs, h1, h2, HB.out⟩
theorem lins_all : ∀ m, LinS m
  | 0 => fun _ _ _ _ _ h => absurd h (Nat.not_lt_zero _)
  | m + 1 => lin_step m (lins_all m)
/-- Linears, as it is asked: a list of all nodes. -/
theorem linears_any (l : List Lm) (v : Value) (most : Nat) (w : World) (hv : LL w v l) (hs : Lm.sizes l ≤ most) (hm : most ≤ 300) :
    Calls Try.prog 32 #[v, .int .i64 (most : Nat)] w fun e w' => ∃ ad cp cs, e = .returned (.slice ad (Lm.sizes l) cp) ∧ w'.ownsRow w.heap.size 52 4 (.slice ad (Lm.sizes l) cp) (Lm.sizes l) cs ∧ LQ4 w cs (nodL l) ∧ Below w.heap.size w w' :=
  lins_all _ l v most w w (Nat.lt_succ_self _) hv (Below.refl _ _) hs hm
theorem LQ4.get {w : World} : ∀ {cs : List Value} {fs : List Lm} (_ : LQ4 w cs fs) (i : Nat) (k : Int) (n : ByteArray) (g : Bool) (ks : List Lm), fs[i]? = some (.mk k n g ks) → ∃ sl cap, cs[i * 4]? = some (.int .i64 k) ∧ cs[i * 4 + 1]? = some (.string n) ∧ cs[i * 4 + 2]? = some (.bool g) ∧ cs[i * 4 + 3]? = some (.slice sl ks.length cap) ∧ LRep w (.mk k n g ks) (.agg #[.int .i64 k, .string n, .bool g, .slice sl ks.length cap])
  | [], [], _, i, k, n, g, ks, h => by simp at h
  | c0 :: c1 :: c2 :: c3 :: cs, f :: fs, hq, 0, k, n, g, ks, h => by
    simp at h; subst h; obtain ⟨sl, cap, hv, -⟩ := LRep.def.1 hq.1; simp only [Value.agg.injEq, Array.mk.injEq, List.cons.injEq, and_true] at hv; obtain ⟨rfl, rfl, rfl, rfl⟩ := hv
    exact ⟨sl, cap, rfl, rfl, rfl, rfl, hq.1⟩
  | c0 :: c1 :: c2 :: c3 :: cs, f :: fs, hq, i + 1, k, n, g, ks, h => by
    (obtain ⟨sl, cap, h0, h1, h2, h3, hr⟩ := LQ4.get hq.2.2 i k n g ks (by simpa using h)); refine ⟨sl, cap, ?_, ?_, ?_, ?_, hr⟩
    · rw [show (i + 1) * 4 = i * 4 + 1 + 1 + 1 + 1 by omega]; simpa using h0
    · rw [show (i + 1) * 4 + 1 = i * 4 + 1 + 1 + 1 + 1 + 1 by omega]; simpa using h1
    · rw [show (i + 1) * 4 + 2 = i * 4 + 2 + 1 + 1 + 1 + 1 by omega]; simpa using h2
    · rw [show (i + 1) * 4 + 3 = i * 4 + 3 + 1 + 1 + 1 + 1 by omega]; simpa using h3
set_option maxRecDepth 10000 in
set_option maxHeartbeats 4000000 in
theorem leavesR_any (l : List Lm) (v : Value) (w : World) (hv : LL w v l) (hs : Lm.sizes l ≤ 200) :
    Calls Try.prog 26 #[v] w fun e w' => ∃ ad cp cs, e = .returned (.slice ad ((nodL l).filter isLeafL).length cp) ∧ w'.ownsRow w.heap.size 52 4 (.slice ad ((nodL l).filter isLeafL).length cp) ((nodL l).filter isLeafL).length cs ∧ LQ4 w cs ((nodL l).filter isLeafL) ∧ Below w.heap.size w w' := by
  (have HLi : Hid (∀ W, LL W v l → Calls Try.prog 32 #[v, .int .i64 300] W _) := fun W h => linears_any l v 300 W h (by omega) (by omega)); have HX : Hid (LL w v l) := hv; have HS : Hid (Lm.sizes l ≤ 200) := hs; have HNl : Hid ((nodL l).length = Lm.sizes l) := nodL_len l; obtain ⟨nd, hnd⟩ : ∃ nd, nd = nodL l := ⟨_, rfl⟩; rw [← hnd] at HLi HNl ⊢; clear hnd; obtain ⟨sl, cap, rfl, -⟩ := hv; obtain ⟨i0, hi0, hz0, hz1, hz2⟩ := infoLm
  go_enter Try.func26, Try.ntmps26
  go_wp2_with fail; refine (HLi.out w HX.out).mono ?_; rintro _ V ⟨a1, p1, cs1, rfl, ho1, hq1, hb1⟩; obtain ⟨N, hN⟩ : ∃ N, N = Lm.sizes l := ⟨_, rfl⟩; rw [← hN] at ho1 HS HNl ⊢; have HO1 : Hid (V.ownsRow w.heap.size 52 4 (.slice a1 N p1) N cs1) := ho1; have HQ1 : Hid (LQ4 w cs1 nd) := hq1; have HB1 : Hid (Below w.heap.size w V) := hb1; (have hNI : (N : Int) ≤ 200 := by have := HS.out; omega); (have hpI : (N : Int) ≤ (p1 : Int) := by have := (rowM_caps ho1).1; omega); clear ho1 hq1 hb1 hN hs; go_wp2_with fail
  go_loopg [5, 4] N (fun gg cc x wr => ∃ i ad cp cs, i ≤ N ∧ gg = N - i ∧ cc = .int .i64 (i : Nat) ∧ x = .slice ad ((nd.take i).filter isLeafL).length cp ∧ Hid (wr.ownsRow V.heap.size 52 4 (.slice ad ((nd.take i).filter isLeafL).length cp) ((nd.take i).filter isLeafL).length cs) ∧ Hid (LQ4 w cs ((nd.take i).filter isLeafL)) ∧ Hid (Below V.heap.size V wr))
  case atStart => exact ⟨0, none, 0, [], by omega, by omega, rfl, rfl, ⟨rfl, Or.inl ⟨rfl, rfl⟩⟩, trivial, Below.refl _ _⟩
  case round =>
    obtain ⟨i, ad, cp, cs, hi, hg, rfl, rfl, HO, HQ, HB⟩ := hrel; have HGk : Hid (gk = N - i) := hg; clear hg; by_cases hlt : i < N
    · obtain ⟨⟨k2, n2, g2, ks2⟩, hki⟩ : ∃ f, nd[i]? = some f := ⟨_, List.getElem?_eq_getElem (by rw [HNl.out]; exact hlt)⟩
      obtain ⟨sl2, cap2, e0, e1, e2, e3, hr⟩ := HQ1.out.get i k2 n2 g2 ks2 hki; (obtain ⟨b, rfl, hc⟩ := rowM_cells HO1.out (by omega)); have c0 := hc _ _ e0; have c1 := hc _ _ e1; have c2 := hc _ _ e2; have c3 := hc _ _ e3; rw [Nat.zero_add] at c0 c1 c2 c3; have x0 := (HB.out.cell (lt_of_cell c0)).trans c0; have x1 := (HB.out.cell (lt_of_cell c1)).trans c1; have x2 := (HB.out.cell (lt_of_cell c2)).trans c2; have x3 := (HB.out.cell (lt_of_cell c3)).trans c3; have HRp : Hid (LRep w (.mk k2 n2 g2 ks2) (.agg #[.int .i64 k2, .string n2, .bool g2, .slice sl2 ks2.length cap2])) := hr; (have hlt2 : (i : Int) < (N : Int) := by omega); have HI : Hid (i < N) := hlt; (have HT : Hid ((nd.take (i + 1)).filter isLeafL = (nd.take i).filter isLeafL ++ [(Lm.mk k2 n2 g2 ks2)].filter isLeafL) := by show _ = _; rw [take_snocL hki, List.filter_append]); (have hlen : ((nd.take i).filter isLeafL).length ≤ i := Nat.le_trans (List.length_filter_le _ _) (by rw [List.length_take]; omega)); have HLn : Hid (((nd.take i).filter isLeafL).length ≤ i) := hlen; generalize (nd.take i).filter isLeafL = F at *; (have hfI : (F.length : Int) ≤ 200 := by have := HS.out; omega); clear hki e0 e1 e2 e3 hr hc c0 c1 c2 c3 hlt hi hlen
      rcases h1 : (k2 == 1) with _ | _
      · have h9 : (nd.take (i + 1)).filter isLeafL = F := by rw [HT.out, List.filter_cons_of_neg (by simp [isLeafL, h1]), List.filter_nil, List.append_nil]
        go_wp2_with fail
        go_roundg (N - (i + 1))
        case measure => have := HGk.out; have := HI.out; omega
        case rel => exact ⟨i + 1, ad, cp, cs, HI.out, rfl, by go_num, by rw [h9], by rw [h9]; exact HO, by rw [h9]; exact HQ, HB⟩
      · have h9 : (nd.take (i + 1)).filter isLeafL = F ++ [.mk k2 n2 g2 ks2] := by rw [HT.out, List.filter_cons_of_pos (by simp [isLeafL, h1]), List.filter_nil]
        (have h8 : ((nd.take (i + 1)).filter isLeafL).length = F.length + 1 := by rw [h9]; simp); have H98 : Hid ((nd.take (i + 1)).filter isLeafL = F ++ [.mk k2 n2 g2 ks2] ∧ ((nd.take (i + 1)).filter isLeafL).length = F.length + 1) := ⟨h9, h8⟩; clear h9 h8
        go_wp2_with (first
          | (at_builtin
             have hown := rowM_up HO.out ((Below.refl _ wr).alloc (Nat.le_refl _) (.cells #[.int .i64 k2, .string n2, .bool g2, .slice sl2 ks2.length cap2] 52 (0, 0))); have hbs := HB.out.size; have hln := HLn.out; have hss := HS.out; have hii := HI.out; (refine wpList_appG rfl _ _ 22 rfl V.heap.size 52 i0 (.agg #[.int .i64 0, .string ⟨#[]⟩, .bool false, .slice none 0 0]) 4 56 Try.underlying22 hi0 hz0 hz1 hz2 rfl (by decide) ad F.length cp cs rfl hown (some ⟨wr.heap.size, 0, none⟩) 1 1 [.int .i64 k2, .string n2, .bool g2, .slice sl2 ks2.length cap2] rfl rfl (fun _ => ⟨wr.heap.size, 0, rfl, fun j u hu => ?_⟩) ?_ (by unfold maxLen; omega) (by omega) (by simp; omega) ?_)
             · rw [Nat.zero_add, blk_cell (blk_new wr _)]
               simpa using hu
             · intro u hu
               simp at hu
               rcases hu with rfl | rfl | rfl | rfl <;> rfl
             intro ad3 cp3 w3 hown3 hk3; have HO3 : Hid (w3.ownsRow V.heap.size 52 4 (.slice ad3 (F.length + 1) cp3) (F.length + 1) (cs ++ [.int .i64 k2, .string n2, .bool g2, .slice sl2 ks2.length cap2])) := hown3; (have HB3 : Hid (Below V.heap.size V w3) := kept_row (HB.out.alloc hbs _) (by simp; omega) hown hk3)
             clear hown hown3 hk3 hbs hln hss hii x0 x1 x2 x3)
          | fail)
        obtain ⟨h9, h8⟩ := H98.out
        go_roundg (N - (i + 1))
        case measure => have := HGk.out; have := HI.out; omega
        case rel =>
          (refine ⟨i + 1, ad3, cp3, cs ++ [.int .i64 k2, .string n2, .bool g2, .slice sl2 ks2.length cap2], HI.out, rfl, by go_num, by rw [h8], ?_, ?_, HB3⟩)
          · rw [h8]
            exact HO3
          · rw [h9]
            (exact HQ.out.append ⟨HRp.out, (by intro u hu; simp at hu; rcases hu with rfl | rfl | rfl | rfl <;> rfl), trivial⟩)
    · have hii : N = i := by omega
      subst hii; (have hge : ¬ (N : Int) < (N : Int) := by omega); have h1 := HO.out; have h2 := HQ.out; (have hT : nd.take N = nd := by rw [← HNl.out, List.take_length]); rw [hT] at h1 h2 ⊢; clear hlt hi; go_wp2_with fail; go_ret; exact ⟨ad, cp, rfl, cs, rowM_low h1 HB1.out.size, h2, below_join HB1.out HB.out⟩
end Go.Proofs.Ytealalhgkdlmkai
