/- Texts of one proof, one behind the other: MD6. -/
import Derived.Test.YtclinobfbdljhahB19
import Derived.Test.YtclinobfbdljhahB10
import Derived.Test.YtclinobfbdljhahB07
import Derived.Test.YtclinobfbdljhahB20
/- Walks: a model of one's own. -/
namespace Go.Proofs.Ytclinobfbdljhah
open Go.RowKit Go.Sort

theorem cons_lenM {n : Nat} {l : List Value} (h : l.length = n + 1) : ∃ v t, l = v :: t ∧ t.length = n := by
  cases l with
  | nil => cases h
  | cons v t => exact ⟨v, t, rfl, by simpa using h⟩
theorem someInjM {x y : Value} (h : some x = some y) : x = y := Option.some.inj h
theorem eval_tmpM {a : Act} {n : Nat} {v : Value} (h : a.tmps[n]? = some v) : a.eval (.tmp n) = v := by
  simp [Act.eval, h]
theorem rowM1 (l : List Value) (h0 : l.length = 1) : ∃ x0, l = [x0] := by
  obtain ⟨x0, l1, e0, h1⟩ := cons_lenM h0; have e1 : l1 = [] := List.length_eq_zero_iff.1 h1; subst e1 e0; exact ⟨x0, rfl⟩
theorem rowM6 (l : List Value) (h0 : l.length = 6) : ∃ x0 x1 x2 x3 x4 x5, l = [x0, x1, x2, x3, x4, x5] := by
  obtain ⟨x0, l1, e0, h1⟩ := cons_lenM h0; obtain ⟨x1, l2, e1, h2⟩ := cons_lenM h1; obtain ⟨x2, l3, e2, h3⟩ := cons_lenM h2; obtain ⟨x3, l4, e3, h4⟩ := cons_lenM h3; obtain ⟨x4, l5, e4, h5⟩ := cons_lenM h4; obtain ⟨x5, l6, e5, h6⟩ := cons_lenM h5; have e6 : l6 = [] := List.length_eq_zero_iff.1 h6; subst e6 e5 e4 e3 e2 e1 e0; exact ⟨x0, x1, x2, x3, x4, x5, rfl⟩
theorem rowM11 (l : List Value) (h0 : l.length = 11) : ∃ x0 x1 x2 x3 x4 x5 x6 x7 x8 x9 x10, l = [x0, x1, x2, x3, x4, x5, x6, x7, x8, x9, x10] := by
  obtain ⟨x0, l1, e0, h1⟩ := cons_lenM h0; obtain ⟨x1, l2, e1, h2⟩ := cons_lenM h1; obtain ⟨x2, l3, e2, h3⟩ := cons_lenM h2; obtain ⟨x3, l4, e3, h4⟩ := cons_lenM h3; obtain ⟨x4, l5, e4, h5⟩ := cons_lenM h4; obtain ⟨x5, l6, e5, h6⟩ := cons_lenM h5; obtain ⟨x6, l7, e6, h7⟩ := cons_lenM h6; obtain ⟨x7, l8, e7, h8⟩ := cons_lenM h7; obtain ⟨x8, l9, e8, h9⟩ := cons_lenM h8; obtain ⟨x9, l10, e9, h10⟩ := cons_lenM h9; obtain ⟨x10, l11, e10, h11⟩ := cons_lenM h10; have e11 : l11 = [] := List.length_eq_zero_iff.1 h11; subst e11 e10 e9 e8 e7 e6 e5 e4 e3 e2 e1 e0; exact ⟨x0, x1, x2, x3, x4, x5, x6, x7, x8, x9, x10, rfl⟩
theorem setM {w : World} {b : Nat} {x0 x1 x2 : Value} {T : TypeId} (h : w.heap[b]? = some (.cells #[x0, x1, x2] T (0, 0))) (y : Value) : (w.setCell ⟨b, 2, none⟩ y).heap[b]? = some (.cells #[x0, x1, y] T (0, 0)) := by
  simp [World.setCell, Array.getElem?_modify, h]
theorem set3M {w : World} {b : Nat} {x0 x1 x2 : Value} {T : TypeId} (h : w.heap[b]? = some (.cells #[x0, x1, x2] T (0, 0))) (y0 y1 y2 : Value) : (((w.setCell ⟨b, 0, none⟩ y0).setCell ⟨b, 1, none⟩ y1).setCell ⟨b, 2, none⟩ y2).heap[b]? = some (.cells #[y0, y1, y2] T (0, 0)) := by
  simp [World.setCell, Array.getElem?_modify, h]
theorem farM {W : World} {b x i : Nat} (h : x ≠ b) (v : Value) : (W.setCell ⟨b, i, none⟩ v).heap[x]? = W.heap[x]? := Below.heap_setCell _ _ _ _ (by simpa using h)
theorem rowM_ne {B : Nat} {w : World} {T T' : TypeId} {sz n g : Nat} {v : Value} {cs : List Value} {cur : Array Value} (h : w.ownsRow B T sz v n cs) (hg : w.heap[g]? = some (.cells cur T' (0, 0))) (hT : T' ≠ T) : v.ownBlock ≠ some g := fun e => by
  rcases h.2 with ⟨rfl, -⟩ | ⟨g', cap, cur', rfl, -, hh, -⟩
  · cases e
  · have : g' = g := by simpa [Value.ownBlock] using e
    subst this; rw [hh] at hg; simp only [Option.some.injEq, Obj.cells.injEq] at hg; exact hT hg.2.1.symm
structure GO where
  ad : Option Addr
  cp : Nat
  g : Nat
  ad' : Option Addr
  cp' : Nat
def GO.none0 : GO := ⟨none, 0, 0, none, 0⟩
def AppO (R : World) (S i : Nat) (r : List (List UInt8)) (us : List Value) (adT : Option Addr) (cpT : Nat) (y : GO) (w0 : World) : Prop :=
  w0.ownsRow S 80 1 (.slice y.ad' (i + 1) y.cp') (i + 1) (us ++ [.slice y.ad r.length y.cp]) ∧ w0.ownsRow R.heap.size 9 1 (.slice y.ad r.length y.cp) r.length (r.map encStr) ∧ Below S R w0 ∧ ∀ b, b < R.heap.size → (Value.slice adT i cpT).ownBlock ≠ some b → w0.heap[b]? = R.heap[b]?
/-- A list of texts copied and put behind the others. -/
structure StO (R : World) (S G i : Nat) (r : List (List UInt8)) (us : List Value) (adT : Option Addr) (cpT : Nat) (l7 l8 l9 l11 : Bool) (y : GO) (w : World) : Prop where
  below : l9 = false → Below R.heap.size R w
  own : l7 = true → l9 = false → w.ownsRow R.heap.size 9 1 (.slice y.ad r.length y.cp) r.length (r.map encStr)
  one : l8 = true → l9 = false → R.heap.size ≤ y.g ∧ w.heap[y.g]? = some (.cells #[.slice y.ad r.length y.cp] 80 (0, 0))
  app : l9 = true → ∃ w0, AppO R S i r us adT cpT y w0 ∧ w = cond l11 (w0.setCell ⟨G, 2, none⟩ (.slice y.ad' (i + 1) y.cp')) w0
section
variable {R : World} {S G i : Nat} {r : List (List UInt8)} {us : List Value} {adT : Option Addr} {cpT : Nat} {l7 l8 l9 l11 : Bool} {y : GO} {w w' : World}
theorem StO.mine (h : StO R S G i r us adT cpT l7 l8 l9 l11 y w) (e8 : l8 = false) (e9 : l9 = false) {ad : Option Addr} {cp : Nat} (ho : w'.ownsRow w.heap.size 9 1 (.slice ad r.length cp) r.length (r.map encStr)) (hb : Below w.heap.size w w') : StO R S G i r us adT cpT true l8 l9 l11 { y with ad := ad, cp := cp } w' :=
  ⟨fun _ => below_join (h.below e9) hb, fun _ _ => rowM_low ho (h.below e9).size, fun e => (by rw [e8] at e; cases e), fun e => (by rw [e9] at e; cases e)⟩
theorem StO.alloc (h : StO R S G i r us adT cpT l7 l8 l9 l11 y w) (e7 : l7 = true) (e9 : l9 = false) : StO R S G i r us adT cpT l7 true l9 l11 { y with g := w.heap.size } (w.alloc (.cells #[.slice y.ad r.length y.cp] 80 (0, 0))) :=
  ⟨fun _ => below_more (h.below e9) _, fun _ _ => rowM_up (h.own e7 e9) (below_more (Below.refl _ _) _), fun _ _ => ⟨(h.below e9).size, blk_new w _⟩, fun e => (by rw [e9] at e; cases e)⟩
theorem StO.append (h : StO R S G i r us adT cpT l7 l8 l9 l11 y w) (e7 : l7 = true) (e9 : l9 = false) (e11 : l11 = false) (hS : S ≤ R.heap.size) (hown : R.ownsRow S 80 1 (.slice adT i cpT) i us) {g3 cp3 : Nat} (hown3 : w'.ownsRow S 80 1 (.slice (some ⟨g3, 0, none⟩) (i + 1) cp3) (i + 1) (us ++ [.slice y.ad r.length y.cp])) (hgrow : w.grownBy w' (Value.slice adT i cpT).ownBlock) : StO R S G i r us adT cpT l7 l8 true l11 { y with ad' := some ⟨g3, 0, none⟩, cp' := cp3 } w' := by
  subst e11; have hb := h.below e9; have hs := hb.size; (refine ⟨fun e => (by cases e), fun _ e => (by cases e), fun _ e => (by cases e), fun _ => ⟨w', ⟨hown3, ?_, ?_, ?_⟩, rfl⟩⟩)
  · exact rowM_move (h.own e7 e9) fun g cur hg hh => hgrow.block g (lt_of_block hh) fun e => rowM_ne (rowM_up hown hb) hh (by decide) e.symm
  · exact (hb.mono hS).grown hgrow (by omega) fun k hk => (hown.lt k hk).1
  · exact fun b hl hn => (hgrow.block b (by omega) fun e => hn e.symm).trans (hb.block b hl)
theorem StO.store (h : StO R S G i r us adT cpT l7 l8 l9 l11 y w) (e9 : l9 = true) (e11 : l11 = false) : StO R S G i r us adT cpT l7 l8 l9 true y (w.setCell ⟨G, 2, none⟩ (.slice y.ad' (i + 1) y.cp')) := by
  subst e9 e11; obtain ⟨w0, h1, h2⟩ := h.app rfl; (exact ⟨fun e => (by cases e), fun _ e => (by cases e), fun _ e => (by cases e), fun _ => ⟨w0, h1, by rw [h2]; rfl⟩⟩)
end
set_option maxRecDepth 10000 in
set_option maxHeartbeats 8000000 in
theorem ownModel_any (m : Mdl) (hn1 : m.rel.length ≤ 8796093022208) (hn2 : m.tr.length ≤ 5864062014634) (hn3 : ∀ l ∈ m.tr, l.length ≤ 8796093022208) (v : Value) (w : World) (h : MR w m v) :
    Calls Try.prog 16 #[v] w fun e w' => ∃ u, e = .returned u ∧ MR w' m u ∧ Below w.heap.size w w' := by
  obtain ⟨n, rel, tr⟩ := m; obtain ⟨ra, rc, ta, tc, rfl, hpl, hsl, hmx⟩ := h; have HMx : Hid (∀ l ∈ tr, ∀ t ∈ l, t.length ≤ maxLen) := hmx; have HN3 : Hid (∀ l ∈ tr, l.length ≤ 8796093022208) := hn3; have HN1 : Hid (rel.length ≤ 8796093022208) := hn1; have HN2 : Hid (tr.length ≤ 5864062014634) := hn2; (have htrI : (tr.length : Int) ≤ 5864062014634 := by have := hn2; simp only at this; omega); obtain ⟨W, hW⟩ : ∃ W, W = (w.alloc (.cells #[.int .i64 n, .slice ra rel.length rc, .slice ta tr.length tc] 30 (0, 0))).alloc (.cells #[.int .i64 0, .slice none 0 0, .slice none 0 0] 30 (0, 0)) := ⟨_, rfl⟩; (have HB0 : Hid (Below w.heap.size w W) := by rw [hW]; exact below_more (below_more (Below.refl _ w) _) _); (have HX : Hid (W.heap[w.heap.size]? = some (.cells #[.int .i64 n, .slice ra rel.length rc, .slice ta tr.length tc] 30 (0, 0))) := by rw [hW]; exact alloc_keep (blk_new w _) _); (have HY : Hid (W.heap[w.heap.size + 1]? = some (.cells #[.int .i64 0, .slice none 0 0, .slice none 0 0] 30 (0, 0))) := by rw [hW]; exact blk_two w _ _); have HPl : Hid (PL W (.slice ra rel.length rc) rel) := hpl.up HB0.out; have hslW := hsl.upM HB0.out; obtain ⟨ad0, cap0, e0, hc1, hc2, hc3⟩ := hslW; simp only [Value.slice.injEq, true_and] at e0; obtain ⟨rfl, rfl⟩ := e0; have HSl : Hid (tr ≠ [] → ∃ b off, ta = some ⟨b, off, none⟩ ∧ ∀ (j : Nat) (r : List (List UInt8)), tr[j]? = some r → ∃ u, W.cell? ⟨b, off + j, none⟩ = some u ∧ SL W u r) := hc3; (have hcI : (tr.length : Int) ≤ (tc : Int) := by have := hc1; simp only at this; omega); clear hpl hsl hmx hn1 hn2 hn3 hc3
  go_enter Try.func16, Try.ntmps16
  go_wp2_with fail; rw [← hW]; clear hW
  refine wp_region_last (by kernel_rfl) [fun v _ => v = (.pointer (some ⟨w.heap.size, 0, none⟩)), fun v _ => v = .int .i64 n, fun v _ => v = (.pointer (some ⟨w.heap.size, 1, none⟩)), fun v _ => v = .slice ra rel.length rc,
    fun v w' => ∃ ad cp, v = .slice ad rel.length cp ∧ w'.ownsRow W.heap.size 42 2 (.slice ad rel.length cp) rel.length (encP rel),
    fun v w' => ∃ ad cp, v = .agg #[.int .i64 n, .slice ad rel.length cp, .slice none 0 0] ∧ w'.ownsRow W.heap.size 42 2 (.slice ad rel.length cp) rel.length (encP rel),
    fun v w' => ∃ g, v = .pointer (some ⟨g, 0, none⟩) ∧ W.heap.size ≤ g ∧ w'.heap[g]? = some (.cells #[.int .i64 0, .slice none 0 0, .slice none 0 0] 30 (0, 0))] ?_ (by kernel_rfl) (by kernel_rfl) 30 rfl (by kernel_rfl) 7 _ rfl rfl (by kernel_rfl) ?_ ?_
  · intro p hp
    simp only [List.mem_cons, List.not_mem_nil, or_false] at hp
    rcases hp with rfl | rfl | rfl | rfl | rfl | rfl | rfl
    all_goals first | exact fun _ _ _ h _ => h | exact fun _ _ _ ⟨ad, cp, e, h⟩ hb => ⟨ad, cp, e, rowM_up h hb⟩ | exact fun _ _ _ ⟨g, e, hg, h⟩ hb => ⟨g, e, hg, below_keep hb h⟩
  · refine ⟨?_, ?_, ?_, ?_, ?_, ?_, ?_, trivial⟩
    · intro a wx hB hold hdep K hK
      have t1 : a.tmps[1]? = some (.pointer (some ⟨w.heap.size, 0, none⟩)) := hold.2.2 1 rfl; clear hold hdep; go_simp; exact hK.out _ _ rfl (Below.refl _ _)
    · intro a wx hB hold hdep K hK
      obtain ⟨v5, t5, p5⟩ := hdep 0 rfl _ 5 rfl rfl; have e5 : v5 = (.pointer (some ⟨w.heap.size, 0, none⟩)) := p5; subst e5; obtain ⟨k0, k1, k2, -⟩ := blk3 (below_keep hB HX.out); clear hold hdep; go_simp; exact hK.out _ _ rfl (Below.refl _ _)
    · intro a wx hB hold hdep K hK
      have t1 : a.tmps[1]? = some (.pointer (some ⟨w.heap.size, 0, none⟩)) := hold.2.2 1 rfl; clear hold hdep; go_simp; exact hK.out _ _ rfl (Below.refl _ _)
    · intro a wx hB hold hdep K hK
      obtain ⟨v7, t7, p7⟩ := hdep 2 rfl _ 7 rfl rfl; have e7 : v7 = (.pointer (some ⟨w.heap.size, 1, none⟩)) := p7; subst e7; obtain ⟨k0, k1, k2, -⟩ := blk3 (below_keep hB HX.out); clear hold hdep; go_simp; exact hK.out _ _ rfl (Below.refl _ _)
    · intro a wx hB hold hdep K hK
      obtain ⟨v8, t8, p8⟩ := hdep 3 rfl _ 8 rfl rfl; have e8 : v8 = .slice ra rel.length rc := p8; subst e8; obtain ⟨i0, hi, hz0, hz1, hz2⟩ := infoPr; have hP := HPl.out.up hB; obtain ⟨ad9, cap9, e9, hd1, hd2, hd3⟩ := hP; simp only [Value.slice.injEq, true_and] at e9; obtain ⟨rfl, rfl⟩ := e9; have hn := HN1.out; clear hold hdep; (refine step_app0 rfl _ _ 27 rfl 42 i0 (.agg #[.int .i64 0, .int .i64 0]) 2 16 Try.underlying27 hi hz0 hz1 hz2 rfl (by decide) ra rel.length rc (encP rel) rfl (eval_tmpM t8) (encP_len rel) (fun hm => ?_) (encP_one rel) (by omega) (by omega) ?_)
      · obtain ⟨b, off, rfl, hc⟩ := hd3 (List.length_pos_iff.1 hm)
        (refine ⟨b, off, rfl, fun j u hj => ?_⟩); obtain ⟨i, x, y, h1, h2⟩ := encP_of rel j u hj; obtain ⟨c1, c2⟩ := hc i x y h1
        rcases h2 with ⟨rfl, rfl⟩ | ⟨rfl, rfl⟩
        · exact c1
        · exact c2
      · intro ad3 cp3 w3 h3 b3
        exact hK.out _ _ ⟨ad3, cp3, rfl, rowM_low h3 hB.size⟩ b3
    · intro a wx hB hold hdep K hK
      obtain ⟨v6, t6, p6⟩ := hdep 1 rfl _ 6 rfl rfl; have e6 : v6 = .int .i64 n := p6; obtain ⟨v9, t9, ad9, cp9, e9, h9⟩ := hdep 4 rfl _ 9 rfl rfl; subst e6 e9; have H9 : Hid (World.ownsRow _ _ _ _ _ _ _) := h9; clear hold hdep h9; go_simp; exact hK.out _ _ ⟨ad9, cp9, rfl, H9.out⟩ (Below.refl _ _)
    · intro a wx hB hold hdep K hK
      clear hold hdep; go_simp; exact hK.out _ _ ⟨wx.heap.size, rfl, hB.size, blk_new wx _⟩ (below_more (Below.refl _ _) _)
  · intro a wx hB hold hgot K hK
    (obtain ⟨vA, tA, ad9, cp9, eA, h9⟩ := hgot 5 _ 10 (by omega) rfl rfl); (obtain ⟨vB, tB, G, eB, hG, hGb⟩ := hgot 6 _ 3 (by omega) rfl rfl); subst eA eB; have HO9 : Hid (wx.ownsRow W.heap.size 42 2 (.slice ad9 rel.length cp9) rel.length (encP rel)) := h9; have HG9 : Hid (wx.heap[G]? = some (.cells #[.int .i64 0, .slice none 0 0, .slice none 0 0] 30 (0, 0))) := hGb; have HBx : Hid (Below W.heap.size W wx) := hB; have HGs : Hid (W.heap.size ≤ G) := hG; obtain ⟨y0, y1, y2, z0, z1, z2⟩ := blk3 hGb; obtain ⟨tm, df⟩ := a; (obtain ⟨ys, zs, hys, hzs, htm, rfl⟩ := frame_two 3 1 1 6 4 5 11 rfl rfl rfl (by kernel_rfl) (Nat.le_of_ble_eq_true rfl) hold); obtain ⟨x3, rfl⟩ := rowM1 ys hys; obtain ⟨x5, x6, x7, x8, x9, x10, rfl⟩ := rowM6 zs hzs; simp only [List.take_succ_cons, List.take_zero, List.drop_succ_cons, List.drop_zero, List.cons_append, List.nil_append] at htm; subst htm; obtain rfl : x3 = _ := someInjM tB; obtain rfl : x10 = _ := someInjM tA; clear hys hzs hold hgot tA tB h9 hGb hB hG; go_simp; refine hK.out _ _ ?_; clear hK y0 y1 y2 z0 z1 z2; obtain ⟨F, hF⟩ : ∃ F, F = ((wx.setCell ⟨G, 0, none⟩ (.int .i64 n)).setCell ⟨G, 1, none⟩ (.slice ad9 rel.length cp9)).setCell ⟨G, 2, none⟩ (.slice none 0 0) := ⟨_, rfl⟩; (have HFG : Hid (F.heap[G]? = some (.cells #[.int .i64 n, .slice ad9 rel.length cp9, .slice none 0 0] 30 (0, 0))) := by rw [hF]; exact set3M HG9.out _ _ _); (have hfar : ∀ b, b ≠ G → F.heap[b]? = wx.heap[b]? := fun b hb => by rw [hF, farM hb, farM hb, farM hb])
    have HFB : Hid (Below W.heap.size W F) := by
      rw [hF]; exact ((HBx.out.setCell (p := ⟨G, 0, none⟩) HGs.out _).setCell (p := ⟨G, 1, none⟩) HGs.out _).setCell (p := ⟨G, 2, none⟩) HGs.out _
    have HFO : Hid (F.ownsRow W.heap.size 42 2 (.slice ad9 rel.length cp9) rel.length (encP rel)) := rowM_move HO9.out fun g cur _ hh => hfar g fun e => by
      rw [e, HG9.out] at hh; simp only [Option.some.injEq, Obj.cells.injEq] at hh; (exact absurd hh.2.1 (by decide))
    rw [← hF]; clear hfar hF HO9 HG9 HBx; go_wp2_with fail
    go_loopg [4] tr.length (fun gg cc wr => ∃ i adT cpT us, i ≤ tr.length ∧ gg = tr.length - i ∧ cc = .int .i64 (i : Nat) ∧ Hid (wr.heap[G]? = some (.cells #[.int .i64 n, .slice ad9 rel.length cp9, .slice adT i cpT] 30 (0, 0))) ∧ Hid (wr.ownsRow W.heap.size 80 1 (.slice adT i cpT) i us) ∧ Hid (TxsAre W.heap.size wr us (tr.take i)) ∧ Hid (wr.ownsRow W.heap.size 42 2 (.slice ad9 rel.length cp9) rel.length (encP rel)) ∧ Hid (Below W.heap.size W wr))
    case atStart => exact ⟨0, none, 0, [], by omega, by omega, rfl, HFG, ⟨rfl, Or.inl ⟨rfl, rfl⟩⟩, ⟨rfl, fun j r h => by simp at h⟩, HFO, HFB⟩
    case round =>
      obtain ⟨i, adT, cpT, us, hi, hg, rfl, HGr, HOT, HTx, HOP, HBr⟩ := hrel; have HGk : Hid (gk = tr.length - i) := hg; clear hg; obtain ⟨k0, k1, k2, -⟩ := blk3 (below_keep HBr.out HX.out); by_cases hlt : i < tr.length
      · obtain ⟨r, hr⟩ : ∃ r, tr[i]? = some r := ⟨_, List.getElem?_eq_getElem hlt⟩
        (obtain ⟨b, off, rfl, hc⟩ := HSl.out (fun e => by rw [e] at hlt; simp at hlt)); obtain ⟨u, g0, hu⟩ := hc i r hr; have hu2 := hu.up HBr.out; obtain ⟨au, cu, rfl, hu3, hu4, hu5⟩ := hu2; have HU : Hid (r ≠ [] → ∃ g off, au = some ⟨g, off, none⟩ ∧ ∀ (j : Nat) (t : List UInt8), r[j]? = some t → wr.cell? ⟨g, off + j, none⟩ = some (.string ⟨t.toArray⟩)) := hu5; have HG0 : Hid (wr.cell? ⟨b, off + i, none⟩ = some (.slice au r.length cu)) := (HBr.out.cell (lt_of_cell g0)).trans g0; have HRn : Hid (r.length ≤ 8796093022208) := HN3.out r (List.mem_of_getElem? hr); (have hltI : (i : Int) < (tr.length : Int) := by omega); (have hltc : (i : Int) < (tc : Int) := by omega); have HI : Hid (i < tr.length) := hlt; have HRi : Hid (tr[i]? = some r) := hr; have HSR : Hid (W.heap.size ≤ wr.heap.size) := HBr.out.size; clear hc hu hu3 hu4 hu5 hlt hi hr g0; obtain ⟨R, hR⟩ : ∃ R, R = wr := ⟨_, rfl⟩; subst hR; go_wp2_with fail; (refine wp_region_gh (by kernel_rfl) (by kernel_rfl) (by kernel_rfl) 30 rfl (by kernel_rfl) [fun _ v _ => v = (.pointer (some ⟨G, 2, none⟩)), fun _ v _ => v = (.slice adT i cpT), fun _ v _ => v = (.pointer (some ⟨w.heap.size, 2, none⟩)), fun _ v _ => v = (.slice (some ⟨b, off, none⟩) tr.length tc), fun _ v _ => v = (.int .i64 (i : Nat)), fun _ v _ => v = (.pointer (some ⟨b, off + i, none⟩)), fun _ v _ => v = (.slice au r.length cu), fun y v _ => v = (.slice y.ad r.length y.cp), fun y v _ => v = (.slice (some ⟨y.g, 0, none⟩) 1 1), fun y v _ => v = (.slice y.ad' (i + 1) y.cp'), fun _ v _ => v = (.pointer (some ⟨G, 2, none⟩)), fun _ _ _ => True] (fun _ _ => true) (fun L => StO R W.heap.size G i r us adT cpT (L 7) (L 8) (L 9) (L 11)) (GO.none0) ?_ ?_ ?_)
        · exact fun wx h _ => ⟨fun _ => h, fun e => (by cases e), fun e => (by cases e), fun e => (by cases e)⟩
        · refine ⟨?_, ?_, ?_, ?_, ?_, ?_, ?_, ?_, ?_, ?_, ?_, ?_, trivial⟩
          · intro L y a wx hSt hLi hdl hcl hold hdep K hK
            have HSt : Hid (StO R W.heap.size G i r us adT cpT (L 7) (L 8) (L 9) (L 11) y wx) := hSt; clear hSt; have t3 : a.tmps[3]? = some (.pointer (some ⟨G, 0, none⟩)) := hold 3 rfl; clear hold hdep hdl hcl hLi; go_simp; (exact hK.out _ _ y HSt.out rfl (fun j hj hl => ⟨rfl, fun u h => h⟩))
          · intro L y a wx hSt hLi hdl hcl hold hdep K hK
            have HSt : Hid (StO R W.heap.size G i r us adT cpT (L 7) (L 8) (L 9) (L 11) y wx) := hSt; clear hSt; obtain ⟨v18, t18, q18⟩ := hdep 0 rfl _ 18 rfl rfl; have e18 : v18 = (.pointer (some ⟨G, 2, none⟩)) := q18 rfl; subst e18; (have e9 : L 9 = false := not_yet hLi fun h => (hcl 9 _ rfl h 1 rfl)); obtain ⟨d0, d1, d2, -⟩ := blk3 (below_keep (HSt.out.below e9) HGr.out); clear hold hdep hdl hcl hLi; go_simp; (exact hK.out _ _ y HSt.out rfl (fun j hj hl => ⟨rfl, fun u h => h⟩))
          · intro L y a wx hSt hLi hdl hcl hold hdep K hK
            have HSt : Hid (StO R W.heap.size G i r us adT cpT (L 7) (L 8) (L 9) (L 11) y wx) := hSt; clear hSt; have t1 : a.tmps[1]? = some (.pointer (some ⟨w.heap.size, 0, none⟩)) := hold 1 rfl; clear hold hdep hdl hcl hLi; go_simp; (exact hK.out _ _ y HSt.out rfl (fun j hj hl => ⟨rfl, fun u h => h⟩))
          · intro L y a wx hSt hLi hdl hcl hold hdep K hK
            have HSt : Hid (StO R W.heap.size G i r us adT cpT (L 7) (L 8) (L 9) (L 11) y wx) := hSt; clear hSt; obtain ⟨v20, t20, q20⟩ := hdep 2 rfl _ 20 rfl rfl; have e20 : v20 = (.pointer (some ⟨w.heap.size, 2, none⟩)) := q20 rfl; subst e20; (have e9 : L 9 = false := not_yet hLi fun h => (hcl 5 _ rfl (hcl 6 _ rfl (hcl 7 _ rfl (hcl 8 _ rfl (hcl 9 _ rfl h 8 rfl) 7 rfl) 6 rfl) 5 rfl) 3 rfl)); obtain ⟨d0, d1, d2, -⟩ := blk3 (below_keep (below_join HBr.out (HSt.out.below e9)) HX.out); clear hold hdep hdl hcl hLi; go_simp; (exact hK.out _ _ y HSt.out rfl (fun j hj hl => ⟨rfl, fun u h => h⟩))
          · intro L y a wx hSt hLi hdl hcl hold hdep K hK
            have HSt : Hid (StO R W.heap.size G i r us adT cpT (L 7) (L 8) (L 9) (L 11) y wx) := hSt; clear hSt; have t4 : a.tmps[4]? = some (.int .i64 (i : Nat)) := hold 4 rfl; clear hold hdep hdl hcl hLi; go_simp; (exact hK.out _ _ y HSt.out rfl (fun j hj hl => ⟨rfl, fun u h => h⟩))
          · intro L y a wx hSt hLi hdl hcl hold hdep K hK
            have HSt : Hid (StO R W.heap.size G i r us adT cpT (L 7) (L 8) (L 9) (L 11) y wx) := hSt; clear hSt; obtain ⟨v21, t21, q21⟩ := hdep 3 rfl _ 21 rfl rfl; have e21 : v21 = (.slice (some ⟨b, off, none⟩) tr.length tc) := q21 rfl; subst e21; obtain ⟨v22, t22, q22⟩ := hdep 4 rfl _ 22 rfl rfl; have e22 : v22 = (.int .i64 (i : Nat)) := q22 rfl; subst e22; clear hold hdep hdl hcl hLi; go_simp; (exact hK.out _ _ y HSt.out rfl (fun j hj hl => ⟨rfl, fun u h => h⟩))
          · intro L y a wx hSt hLi hdl hcl hold hdep K hK
            have HSt : Hid (StO R W.heap.size G i r us adT cpT (L 7) (L 8) (L 9) (L 11) y wx) := hSt; clear hSt; obtain ⟨v23, t23, q23⟩ := hdep 5 rfl _ 23 rfl rfl; have e23 : v23 = (.pointer (some ⟨b, off + i, none⟩)) := q23 rfl; subst e23; (have e9 : L 9 = false := not_yet hLi fun h => (hcl 7 _ rfl (hcl 8 _ rfl (hcl 9 _ rfl h 8 rfl) 7 rfl) 6 rfl)); have d0 := ((HSt.out.below e9).cell (lt_of_cell HG0.out)).trans HG0.out; clear hold hdep hdl hcl hLi; go_simp; (exact hK.out _ _ y HSt.out rfl (fun j hj hl => ⟨rfl, fun u h => h⟩))
          · intro L y a wx hSt hLi hdl hcl hold hdep K hK
            have HSt : Hid (StO R W.heap.size G i r us adT cpT (L 7) (L 8) (L 9) (L 11) y wx) := hSt; clear hSt; obtain ⟨v24, t24, q24⟩ := hdep 6 rfl _ 24 rfl rfl; have e24 : v24 = (.slice au r.length cu) := q24 rfl; subst e24; (have e9 : L 9 = false := not_yet hLi fun h => (hcl 8 _ rfl (hcl 9 _ rfl h 8 rfl) 7 rfl)); (have e8 : L 8 = false := not_yet hLi fun h => hcl 8 _ rfl h 7 rfl); obtain ⟨i0, hi, hz0, hz1, hz2⟩ := infoText; have hn := HRn.out; clear hold hdep hdl; (refine step_app0 rfl _ _ 80 rfl 9 i0 (.string ⟨#[]⟩) 1 16 Try.underlying80 hi hz0 hz1 hz2 rfl (by decide) au r.length cu (r.map encStr) rfl (eval_tmpM t24) (by simp) (fun hm => ?_) ?_ (by unfold maxLen; omega) (by omega) ?_)
            · obtain ⟨b9, off9, rfl, hc⟩ := HU.out (List.length_pos_iff.1 hm)
              (refine ⟨b9, off9, rfl, fun j u hu => ?_⟩); rw [List.getElem?_map] at hu; obtain ⟨x, hx, rfl⟩ := Option.map_eq_some_iff.1 hu; have := hc j x hx; exact ((HSt.out.below e9).cell (lt_of_cell this)).trans this
            · intro u hu
              obtain ⟨x, -, rfl⟩ := List.mem_map.1 hu; rfl
            intro ad3 cp3 w3 h3 b3; refine hK.out _ _ { y with ad := ad3, cp := cp3 } (HSt.out.mine e8 e9 h3 b3) rfl ?_; intro j hj hl
            rcases j with _ | _ | _ | _ | _ | _ | _ | _ | _ | _ | _ | _ | j
            · exact ⟨rfl, fun u h => h⟩
            · exact ⟨rfl, fun u h => h⟩
            · exact ⟨rfl, fun u h => h⟩
            · exact ⟨rfl, fun u h => h⟩
            · exact ⟨rfl, fun u h => h⟩
            · exact ⟨rfl, fun u h => h⟩
            · exact ⟨rfl, fun u h => h⟩
            · exact Bool.noConfusion (hLi.symm.trans hj)
            · exact ⟨rfl, fun u h => h⟩
            · exact ⟨rfl, fun u h => h⟩
            · exact ⟨rfl, fun u h => h⟩
            · exact ⟨rfl, fun u h => h⟩
            · exact ⟨rfl, fun u h => h⟩
          · intro L y a wx hSt hLi hdl hcl hold hdep K hK
            have HSt : Hid (StO R W.heap.size G i r us adT cpT (L 7) (L 8) (L 9) (L 11) y wx) := hSt; clear hSt; obtain ⟨v25, t25, q25⟩ := hdep 7 rfl _ 25 rfl rfl; have e25 : v25 = (.slice y.ad r.length y.cp) := q25 rfl; subst e25; (have e9 : L 9 = false := not_yet hLi fun h => (hcl 9 _ rfl h 8 rfl)); have e7 : L 7 = true := hdl 7 rfl; clear hold hdep hdl; go_simp; refine hK.out _ _ { y with g := wx.heap.size } (HSt.out.alloc e7 e9) rfl ?_; intro j hj hl
            rcases j with _ | _ | _ | _ | _ | _ | _ | _ | _ | _ | _ | _ | j
            · exact ⟨rfl, fun u h => h⟩
            · exact ⟨rfl, fun u h => h⟩
            · exact ⟨rfl, fun u h => h⟩
            · exact ⟨rfl, fun u h => h⟩
            · exact ⟨rfl, fun u h => h⟩
            · exact ⟨rfl, fun u h => h⟩
            · exact ⟨rfl, fun u h => h⟩
            · exact ⟨rfl, fun u h => h⟩
            · exact Bool.noConfusion (hLi.symm.trans hj)
            · exact ⟨rfl, fun u h => h⟩
            · exact ⟨rfl, fun u h => h⟩
            · exact ⟨rfl, fun u h => h⟩
            · exact ⟨rfl, fun u h => h⟩
          · intro L y a wx hSt hLi hdl hcl hold hdep K hK
            have HSt : Hid (StO R W.heap.size G i r us adT cpT (L 7) (L 8) (L 9) (L 11) y wx) := hSt; clear hSt; obtain ⟨v19, t19, q19⟩ := hdep 1 rfl _ 19 rfl rfl; have e19 : v19 = (.slice adT i cpT) := q19 rfl; subst e19; obtain ⟨v26, t26, q26⟩ := hdep 8 rfl _ 26 rfl rfl; have e26 : v26 = (.slice (some ⟨y.g, 0, none⟩) 1 1) := q26 rfl; subst e26; have e8 : L 8 = true := hdl 8 rfl; have e7 : L 7 = true := hcl 8 _ rfl e8 7 rfl; (have e11 : L 11 = false := not_yet hLi fun h => hcl 11 _ rfl h 9 rfl); obtain ⟨i0, hi, hz0, hz1, hz2⟩ := infoTx; have hn := HN2.out; have hi9 := HI.out; have hg9 := HSt.out.one e8 hLi; have hsr := HSR.out; have hsx := (HSt.out.below hLi).size; clear hold hdep hdl; (refine step_append_lies wx rfl _ _ 28 rfl W.heap.size 80 i0 (.slice none 0 0) 1 24 Try.underlying28 hi hz0 hz1 hz2 rfl (by decide) (.slice adT i cpT) i us (eval_tmpM t19) (rowM_up HOT.out (HSt.out.below hLi)) ⟨y.g, 0, none⟩ 1 1 [.slice y.ad r.length y.cp] (eval_tmpM t26) rfl ?_ ?_ (by omega) (by unfold maxLen; omega) (by omega) (by omega) _ rfl ?_)
            · intro j u hu
              rw [add_none, Nat.zero_add, blk_cell hg9.2]; simpa using hu
            · intro u hu
              simp at hu; subst hu; rfl
            intro g3 cp3 w3 hown3 hgrow hat hlt3; refine hK.out _ _ { y with ad' := some ⟨g3, 0, none⟩, cp' := cp3 } (HSt.out.append e7 hLi e11 hsr HOT.out hown3 hgrow) rfl ?_; intro j hj hl
            rcases j with _ | _ | _ | _ | _ | _ | _ | _ | _ | _ | _ | _ | j
            · exact ⟨rfl, fun u h => h⟩
            · exact ⟨rfl, fun u h => h⟩
            · exact ⟨rfl, fun u h => h⟩
            · exact ⟨rfl, fun u h => h⟩
            · exact ⟨rfl, fun u h => h⟩
            · exact ⟨rfl, fun u h => h⟩
            · exact ⟨rfl, fun u h => h⟩
            · exact ⟨rfl, fun u h => h⟩
            · exact ⟨rfl, fun u h => h⟩
            · exact Bool.noConfusion (hLi.symm.trans hj)
            · exact ⟨rfl, fun u h => h⟩
            · exact ⟨rfl, fun u h => h⟩
            · exact ⟨rfl, fun u h => h⟩
          · intro L y a wx hSt hLi hdl hcl hold hdep K hK
            have HSt : Hid (StO R W.heap.size G i r us adT cpT (L 7) (L 8) (L 9) (L 11) y wx) := hSt; clear hSt; have t3 : a.tmps[3]? = some (.pointer (some ⟨G, 0, none⟩)) := hold 3 rfl; clear hold hdep hdl hcl hLi; go_simp; (exact hK.out _ _ y HSt.out rfl (fun j hj hl => ⟨rfl, fun u h => h⟩))
          · intro L y a wx hSt hLi hdl hcl hold hdep K hK
            have HSt : Hid (StO R W.heap.size G i r us adT cpT (L 7) (L 8) (L 9) (L 11) y wx) := hSt; clear hSt; obtain ⟨v28, t28, q28⟩ := hdep 10 rfl _ 28 rfl rfl; have e28 : v28 = (.pointer (some ⟨G, 2, none⟩)) := q28 rfl; subst e28; obtain ⟨v27, t27, q27⟩ := hdep 9 rfl _ 27 rfl rfl; have e27 : v27 = (.slice y.ad' (i + 1) y.cp') := q27 rfl; subst e27; have e9 : L 9 = true := hdl 9 rfl; have hS9 := HSt.out.store e9 hLi
            have hGx : ∃ c0 c1 c2, wx.heap[G]? = some (.cells #[c0, c1, c2] 30 (0, 0)) := by
              obtain ⟨w0, h0, h1⟩ := HSt.out.app e9; rw [hLi] at h1; have h1' : wx = w0 := h1; subst h1'; (exact ⟨_, _, _, (h0.2.2.2 G (lt_of_block HGr.out) (rowM_ne HOT.out HGr.out (by decide))).trans HGr.out⟩)
            obtain ⟨c0, c1, c2, hGx⟩ := hGx; obtain ⟨d0, d1, d2, d3, d4, d5⟩ := blk3 hGx; clear hold hdep hdl hcl; go_simp; refine hK.out (.bool false) _ y hS9 trivial ?_; intro j hj hl
            rcases j with _ | _ | _ | _ | _ | _ | _ | _ | _ | _ | _ | _ | j
            · exact ⟨rfl, fun u h => h⟩
            · exact ⟨rfl, fun u h => h⟩
            · exact ⟨rfl, fun u h => h⟩
            · exact ⟨rfl, fun u h => h⟩
            · exact ⟨rfl, fun u h => h⟩
            · exact ⟨rfl, fun u h => h⟩
            · exact ⟨rfl, fun u h => h⟩
            · exact ⟨rfl, fun u h => h⟩
            · exact ⟨rfl, fun u h => h⟩
            · exact ⟨rfl, fun u h => h⟩
            · exact ⟨rfl, fun u h => h⟩
            · exact Bool.noConfusion (hLi.symm.trans hj)
            · exact ⟨rfl, fun u h => h⟩
        · intro L y a wx hall hSt hsz hdf hold hgot
          have hS : StO R W.heap.size G i r us adT cpT (L 7) (L 8) (L 9) (L 11) y wx := hSt; have e9 : L 9 = true := hall 9 (Nat.le_of_ble_eq_true rfl); have e11 : L 11 = true := hall 11 (Nat.le_of_ble_eq_true rfl); obtain ⟨w0, hA, hw0⟩ := hS.app e9; rw [e11] at hw0; have hw1 : wx = w0.setCell ⟨G, 2, none⟩ (.slice y.ad' (i + 1) y.cp') := hw0; obtain ⟨a1, a2, a3, a4⟩ := hA; (have hne := rowM_ne HOT.out HGr.out (by decide)); have hG0 := (a4 G (lt_of_block HGr.out) hne).trans HGr.out; (have HG9 : Hid (wx.heap[G]? = some (.cells #[.int .i64 n, .slice ad9 rel.length cp9, .slice y.ad' (i + 1) y.cp'] 30 (0, 0))) := by rw [hw1]; exact setM hG0 _)
          have hfar : ∀ (g : Nat) (cur : Array Value) (T : TypeId), w0.heap[g]? = some (.cells cur T (0, 0)) → T ≠ 30 → wx.heap[g]? = w0.heap[g]? := fun g cur T hg hT => by
            rw [hw1]; (refine farM (fun e => ?_) _); rw [e, hG0] at hg; simp only [Option.some.injEq, Obj.cells.injEq] at hg; exact hT hg.2.1.symm
          (have hkp : ∀ (g : Nat) (cur : Array Value) (T : TypeId), R.heap[g]? = some (.cells cur T (0, 0)) → T ≠ 80 → w0.heap[g]? = R.heap[g]? := fun g cur T hg hT => a4 g (lt_of_block hg) (rowM_ne HOT.out hg hT)); (have HO9 : Hid (wx.ownsRow W.heap.size 80 1 (.slice y.ad' (i + 1) y.cp') (i + 1) (us ++ [.slice y.ad r.length y.cp])) := rowM_move a1 fun g cur _ hh => hfar g cur _ hh (by decide)); (have hT0 : TxsAre W.heap.size w0 us (tr.take i) := HTx.out.move fun g cur _ hh => hkp g cur _ hh (by decide)); have hT1 := hT0.snoc (rowM_low a2 HSR.out); (have htk : tr.take i ++ [r] = tr.take (i + 1) := by rw [List.take_add_one, HRi.out]; rfl); rw [htk] at hT1; (have HT9 : Hid (TxsAre W.heap.size wx (us ++ [.slice y.ad r.length y.cp]) (tr.take (i + 1))) := hT1.move fun g cur _ hh => hfar g cur _ hh (by decide)); (have HP9 : Hid (wx.ownsRow W.heap.size 42 2 (.slice ad9 rel.length cp9) rel.length (encP rel)) := rowM_move (rowM_move HOP.out fun g cur _ hh => hkp g cur _ hh (by decide)) fun g cur _ hh => hfar g cur _ hh (by decide))
          have HB9 : Hid (Below W.heap.size W wx) := by
            rw [hw1]; exact (HBr.out.trans a3).setCell (p := ⟨G, 2, none⟩) HGs.out _
          clear hfar hkp hT0 hT1 htk hw0 hw1 a1 a2 a3 a4 hG0 hS e9 e11 hne; obtain ⟨tm, df⟩ := a; (obtain ⟨ys, hys, htm, rfl⟩ := frame_mid2 18 11 (by kernel_rfl) (Nat.le_of_ble_eq_true rfl) ⟨hsz, hdf, hold⟩); obtain ⟨x18, x19, x20, x21, x22, x23, x24, x25, x26, x27, x28, rfl⟩ := rowM11 ys hys; simp only [List.take_succ_cons, List.take_zero, List.drop_succ_cons, List.drop_zero, List.cons_append, List.nil_append] at htm; subst htm; clear hys hold hgot hall hSt hsz hdf k0 k1 k2; go_wp2_with fail
          go_roundg (tr.length - (i + 1))
          case measure => have := HGk.out; have := HI.out; omega
          case rel => exact ⟨i + 1, y.ad', y.cp', us ++ [.slice y.ad r.length y.cp], HI.out, rfl, by go_num, HG9, HO9, HT9, HP9, HB9⟩
      · have hii : i = tr.length := by omega
        subst hii; (have hge : ¬ (tr.length : Int) < (tr.length : Int) := by omega); obtain ⟨j0, j1, j2, -⟩ := blk3 HGr.out; obtain ⟨q0, q1, q2, s0, s1, s2⟩ := blk3 (below_keep HBr.out HY.out); clear hlt hi; go_wp2_with fail; (have hyG : w.heap.size + 1 ≠ G := by have := lt_of_block HY.out; have := HGs.out; omega); obtain ⟨E, hE⟩ : ∃ E, E = ((wr.setCell ⟨w.heap.size + 1, 0, none⟩ (.int .i64 n)).setCell ⟨w.heap.size + 1, 1, none⟩ (.slice ad9 rel.length cp9)).setCell ⟨w.heap.size + 1, 2, none⟩ (.slice adT tr.length cpT) := ⟨_, rfl⟩; rw [← hE]; (have hEy : E.heap[w.heap.size + 1]? = some (.cells #[.int .i64 n, .slice ad9 rel.length cp9, .slice adT tr.length cpT] 30 (0, 0)) := by rw [hE]; exact set3M (below_keep HBr.out HY.out) _ _ _); have hz := lt_of_block HY.out
        have hEB : Below w.heap.size w E := by
          rw [hE]; (exact (((HB0.out.trans (HBr.out.mono (by omega))).setCell (p := ⟨w.heap.size + 1, 0, none⟩) (by simp) _).setCell (p := ⟨w.heap.size + 1, 1, none⟩) (by simp) _).setCell (p := ⟨w.heap.size + 1, 2, none⟩) (by simp) _)
        (have hfar : ∀ b, W.heap.size ≤ b → E.heap[b]? = wr.heap[b]? := fun b hb => by rw [hE, farM (by omega), farM (by omega), farM (by omega)]); (have hP := PL.own (rowM_move HOP.out fun g cur hg _ => hfar g (HOP.out.lt g hg).1)); have hTx := HTx.out; rw [List.take_length] at hTx; (have hT := (hTx.move (w' := E) fun g _ hg _ => hfar g hg).sls (rowM_move HOT.out fun g cur hg _ => hfar g (HOT.out.lt g hg).1)); have HP9 : Hid (PL _ _ _) := hP; have HT9 : Hid (SLs _ _ _) := hT; clear hP hT hTx hfar j0 j1 j2 q0 q1 q2 s0 s1 s2 k0 k1 k2; obtain ⟨j0, j1, j2, -⟩ := blk3 hEy; (refine bodyPost_ret (v := .agg #[.int .i64 n, .slice ad9 rel.length cp9, .slice adT tr.length cpT]) (by clear hE; simp [results, Try.results16, go_sem, j0, j1, j2]) rfl ⟨_, rfl, ⟨ad9, cp9, adT, cpT, rfl, HP9.out, HT9.out, HMx.out⟩, hEB⟩)
end Go.Proofs.Ytclinobfbdljhah
