/- Texts of one proof, one behind the other: BLB. -/
import Derived.Test.YtffkoiemnchdgaeB33
import Derived.Test.YtffkoiemnchdgaeB08
/- Walks: BetweenBeth. -/
namespace Go.Proofs.Ytffkoiemnchdgae
open Go.RowKit Go.Sort

theorem rowOf18 (l : List Value) (h0 : l.length = 18) : ∃ x0 x1 x2 x3 x4 x5 x6 x7 x8 x9 x10 x11 x12 x13 x14 x15 x16 x17, l = [x0, x1, x2, x3, x4, x5, x6, x7, x8, x9, x10, x11, x12, x13, x14, x15, x16, x17] := by
  obtain ⟨x0, l1, e0, h1⟩ := cons_lenB h0; obtain ⟨x1, l2, e1, h2⟩ := cons_lenB h1; obtain ⟨x2, l3, e2, h3⟩ := cons_lenB h2; obtain ⟨x3, l4, e3, h4⟩ := cons_lenB h3; obtain ⟨x4, l5, e4, h5⟩ := cons_lenB h4; obtain ⟨x5, l6, e5, h6⟩ := cons_lenB h5; obtain ⟨x6, l7, e6, h7⟩ := cons_lenB h6; obtain ⟨x7, l8, e7, h8⟩ := cons_lenB h7; obtain ⟨x8, l9, e8, h9⟩ := cons_lenB h8; obtain ⟨x9, l10, e9, h10⟩ := cons_lenB h9; obtain ⟨x10, l11, e10, h11⟩ := cons_lenB h10; obtain ⟨x11, l12, e11, h12⟩ := cons_lenB h11; obtain ⟨x12, l13, e12, h13⟩ := cons_lenB h12; obtain ⟨x13, l14, e13, h14⟩ := cons_lenB h13; obtain ⟨x14, l15, e14, h15⟩ := cons_lenB h14; obtain ⟨x15, l16, e15, h16⟩ := cons_lenB h15; obtain ⟨x16, l17, e16, h17⟩ := cons_lenB h16; obtain ⟨x17, l18, e17, h18⟩ := cons_lenB h17; have e18 : l18 = [] := List.length_eq_zero_iff.1 h18; subst e18 e17 e16 e15 e14 e13 e12 e11 e10 e9 e8 e7 e6 e5 e4 e3 e2 e1 e0; exact ⟨x0, x1, x2, x3, x4, x5, x6, x7, x8, x9, x10, x11, x12, x13, x14, x15, x16, x17, rfl⟩
structure GT where
  ad : Option Addr
  cp : Nat
  ad' : Option Addr
  cp' : Nat
def GT.none0 : GT := ⟨none, 0, none, 0⟩
/-- A copy of a row to which a text is put: what is known while it is made. -/
structure StT (W : World) (R : List (List UInt8)) (t : List UInt8) (l12 l15 : Bool) (y : GT) (w : World) : Prop where
  below : Below W.heap.size W w
  own : l12 = true → l15 = false → KS W.heap.size w y.ad y.cp R
  app : l15 = true → SL w (.slice y.ad' (R.length + 1) y.cp') (R ++ [t])
theorem StT.up {W w w' : World} {R : List (List UInt8)} {t : List UInt8} {l12 l15 : Bool} {y : GT} (h : StT W R t l12 l15 y w) (hb : Below w.heap.size w w') : StT W R t l12 l15 y w' :=
  ⟨below_join h.below hb, fun e1 e2 => (h.own e1 e2).up hb, fun e => (h.app e).up hb⟩
theorem StT.mine {W w w' : World} {R : List (List UInt8)} {t : List UInt8} {l12 l15 : Bool} {y : GT} (h : StT W R t l12 l15 y w) (e15 : l15 = false) (hb : Below w.heap.size w w') {ad : Option Addr} {cp : Nat} (hk : KS W.heap.size w' ad cp R) : StT W R t true l15 { y with ad := ad, cp := cp } w' :=
  ⟨below_join h.below hb, fun _ _ => hk, fun e => (by rw [e15] at e; cases e)⟩
theorem StT.append {W w w' : World} {R : List (List UInt8)} {t : List UInt8} {l12 l15 : Bool} {y : GT} (h : StT W R t l12 l15 y w) (e12 : l12 = true) (e15 : l15 = false) {ad : Option Addr} {cp : Nat} (hk : KS W.heap.size w' ad cp (R ++ [t])) (hke : Kept (fun b => (Value.slice y.ad R.length y.cp).ownBlock ≠ some b) w w') : StT W R t l12 true { y with ad' := ad, cp' := cp } w' := by
  have hw := h.own e12 e15; (refine ⟨⟨hke.os.trans h.below.os, hke.tape.trans h.below.tape, hke.output.trans h.below.output, Nat.le_trans h.below.size hke.size, fun b hb => (hke.block b (Nat.lt_of_lt_of_le hb h.below.size) fun e => ?_).trans (h.below.block b hb)⟩, fun _ e => (by cases e), fun _ => ?_⟩)
  · have := (World.ownsRow.lt hw b e).1
    omega
  · have := (KS.list hk).sl
    rwa [List.length_append] at this
theorem sl_put2 {w : World} {v : Value} {l : List (List UInt8)} {b : Nat} {c0 c1 : Int} {T : TypeId} (h : SL w v l) (hb : w.heap[b]? = some (.cells #[.int .i64 c0, .int .i64 c1] T (0, 0))) {u u' : Value} : SL ((w.setCell ⟨b, 0, none⟩ u).setCell ⟨b, 1, none⟩ u') v l := by
  obtain ⟨ad, cap, rfl, h1, h2, h3⟩ := h; (refine ⟨ad, cap, rfl, h1, h2, fun hne => ?_⟩); obtain ⟨g, off, rfl, hc⟩ := h3 hne; (refine ⟨g, off, rfl, fun j t ht => ?_⟩); have hcj := hc j t ht
  have hg : g ≠ b := by
    rintro rfl; have := hcj; rw [blk_cell hb] at this
    rcases hjj : off + j with _ | _ | x <;> rw [hjj] at this <;> simp at this
  exact (cell_of_block (a := ⟨g, off + j, none⟩) (far2 hg _ _)).trans hcj
theorem someInjB {α : Type} {a b : α} (h : some a = some b) : a = b := Option.some.inj h
theorem eval_tmpB {a : Act} {n : Nat} {v : Value} (h : a.tmps[n]? = some v) : a.eval (.tmp n) = v := by
  simp [Act.eval, Array.getD_eq_getD_getElem?, h]
/-- The code that the first loop writes. -/
def ocode (b : Bool) : Int := if b = true then 6 else 0

set_option maxRecDepth 10000 in
set_option maxHeartbeats 16000000 in
theorem beth_law (f : Fm) (t : List UInt8) (v : Value) (w : World) (hv : Rep w (fun _ => True) f v) (htm : t.length ≤ maxLen) :
    Calls Try.prog 6 #[v, .string ⟨t.toArray⟩] w fun e w' => e = .returned (.bool true) ∧ Below w.heap.size w w' := by
  (have HBe : Hid (∀ W, Calls Try.prog 12 #[] W _) := fun W => betweenBegun_any W); (have HVf : Hid (∀ v W, Rep W (fun _ => True) f v → Calls Try.prog 13 #[v, .int .i64 0] W _) := fun v W h => vast2_any f v W h); (have HOw : Hid (Slim f → ∀ v W, Rep W (fun _ => True) f v → Calls Try.prog 15 #[v] W _) := fun hs v W h => own_any f v W hs h); (have HBf : Hid (∀ v W, FL W v [f] → Calls Try.prog 16 #[v] W _) := fun v W h => bfault_any [f] (by simp) v W h); (have HPj : Hid (∀ v W, Rep W (fun _ => True) f v → Calls Try.prog 28 #[v, .string ⟨t.toArray⟩] W _) := fun v W h => define_any f t htm v W h); (have HF : Hid (∀ c a W, Calls Try.prog 19 #[.int .i64 c, .int .i64 a] W fun e w' => e = .returned (.agg #[.int .i64 c, .int .i64 a]) ∧ Below W.heap.size W w') := fun c a W => mkF_any c a W); (have HIs : Hid (∀ W, Calls Try.prog 24 #[.string ⟨t.toArray⟩] W fun e w' => e = .returned (.bool (isNm t)) ∧ w' = W) := fun W => refName_any ⟨t.toArray⟩ (by simpa [ByteArray.size] using htm) W); (have HTz : Hid ((tgcode [f]).1 = 0 → tgcode [f] = (0, 0)) := fun h => tg_zero h)
  have HTn : Hid ((tgcode [f]).1 ≠ 0 → dcode f t = tgcode [f] ∧ dF f t = zF) := fun h => by
    (have h1 : dcode f t = tgcode [f] := by unfold dcode; rw [if_neg h]); (exact ⟨h1, by unfold dF; rw [h1, if_neg h]⟩)
  have HTm : Hid ((tgcode [f]).1 = 0 → isNm t = false → dcode f t = (8, 0) ∧ dF f t = zF) := fun h hn => by
    (have h1 : dcode f t = (8, 0) := by unfold dcode; rw [if_pos h, if_neg (by rw [hn]; exact Bool.noConfusion)]); (exact ⟨h1, by unfold dF; rw [h1, if_neg (by decide)]⟩)
  have HOk0 : Hid ((tgcode [f]).1 = 0 → isNm t = true → (∀ v W, FL W v [f] → Calls Try.prog 17 #[v] W fun e w' => ∃ x, e = .returned x ∧ TL w' x (nmsU f) ∧ Below W.heap.size W w') ∧ (nmsU f).length ≤ 6 ∧
      (∀ l v u W, Rep W (fun _ => True) f v → SL W u l → Calls Try.prog 26 #[v, u] W fun e w' => e = .returned (.bool (tvL f l)) ∧ Below W.heap.size W w') ∧
      ((openTo f t (nmsU f) (2 ^ (nmsU f).length) = true → dcode f t = (6, 0) ∧ dF f t = zF) ∧ (openTo f t (nmsU f) (2 ^ (nmsU f).length) = false → dcode f t = (0, 0) ∧
        (∀ v u W, Rep W (fun _ => True) (dF f t) v → SL W u ((nmsU f).filter fun x => !decide (x = t)) → Calls Try.prog 21 #[v, u] W fun e w' => e = .returned (.bool true) ∧ Below W.heap.size W w') ∧
        (∀ l v u W, Rep W (fun _ => True) (dF f t) v → SL W u l → Calls Try.prog 26 #[v, u] W fun e w' => e = .returned (.bool (tvL (dF f t) l)) ∧ Below W.heap.size W w') ∧
        (∀ m, tvL f (rowN m (nmsU f) 0) = true → tvL (dF f t) (rowN m (nmsU f) 0) = decide (t ∈ rowN m (nmsU f) 0))))) := fun ht hn => by
    (have hp := tg_plain ht (f := f) (by simp)); (have h6 := nmsU_six ht (f := f) (by simp)); have hm := defF_made hp h6 t; rw [open_rows]; (refine ⟨fun v W h => namesIn_any f (pc_fine hp).2 v W h, h6, fun l v u W h h' => trueR_any l f v u W (pc_fine hp).1 h h', fun ho => ?_, fun ho => ?_⟩)
    · have h1 : dcode f t = (6, 0) := by unfold dcode; rw [if_pos ht, if_pos hn, if_pos ho]
      (exact ⟨h1, by unfold dF; rw [h1, if_neg (by decide)]⟩)
    · have h1 : dcode f t = (0, 0) := by unfold dcode; rw [if_pos ht, if_pos hn, if_neg (by rw [ho]; exact Bool.noConfusion)]
      (have e : dF f t = defF f t := by unfold dF; rw [h1, if_pos rfl]); rw [e]; (exact ⟨h1, fun v u W h h' => plainAns_any _ _ _ 379 hm (by omega) (fun _ h => h) v u W h h', fun l v u W h h' => trueR_any l _ v u W hm.fine h h', fun m h => beth_rows hp t ho m h⟩)
  generalize tgcode [f] = tgc at *; generalize hqc : dcode f t = qc at *; clear hqc; generalize dF f t = D at *; generalize nmsU f = UF at *; obtain ⟨k, n, ks⟩ := f; obtain ⟨sl, cap, rfl⟩ := slice_shape hv; (have HRf : Hid (Rep w (fun _ => True) (.mk k n ks) (.agg #[.int .i64 k, .string n, .slice sl ks.length cap])) := hv); have hB0 := below_more (Below.refl _ w) (.cells #[.int .i64 k, .string n, .slice sl ks.length cap] 24 (0, 0)); clear hv htm
  go_enter Try.func6, Try.ntmps6
  go_wp2_with fail; refine (HBe.out _).mono ?_; rintro e w1 ⟨rfl, hb1⟩; have HB1 : Hid (Below w.heap.size w w1) := below_join hB0 hb1; have Q0 : Hid (w1.heap[w.heap.size]? = some (.cells #[.int .i64 k, .string n, .slice sl ks.length cap] 24 (0, 0))) := below_keep hb1 (blk_new w _); clear hb1 hB0 HBe; obtain ⟨a0, a1, a2, -⟩ := blk3 Q0.out; go_wp2_with fail; refine (HVf.out _ _ (HRf.out.up HB1.out)).mono ?_; rintro e w2 ⟨⟨bb, rfl, hbb⟩, hb2⟩; have HB2 : Hid (Below w.heap.size w w2) := below_join HB1.out hb2; have R0 : Hid (w2.heap[w.heap.size]? = some (.cells #[.int .i64 k, .string n, .slice sl ks.length cap] 24 (0, 0))) := below_keep hb2 Q0.out; clear hb2 a0 a1 a2 Q0 HB1 HVf
  cases bb
  case true =>
    clear hbb; go_wp2_with fail; go_ret; exact ⟨rfl, HB2.out⟩
  case false =>
    (have HOf : Hid (∀ v W, Rep W (fun _ => True) (.mk k n ks) v → Calls Try.prog 15 #[v] W fun e w' => ∃ u, e = .returned u ∧ Rep w' (W.heap.size ≤ ·) (.mk k n ks) u ∧ Below W.heap.size W w') := HOw.out (hbb rfl)); clear hbb HOw; obtain ⟨a0, a1, a2, -⟩ := blk3 R0.out; go_wp2_with fail; refine (HOf.out _ _ (HRf.out.up HB2.out)).mono ?_; rintro e w3 ⟨uo, rfl, huo, hb3⟩; obtain ⟨so, co, rfl⟩ := slice_shape huo; (have HRo : Hid (Rep w3 (fun _ => True) (.mk k n ks) (.agg #[.int .i64 k, .string n, .slice so ks.length co])) := huo.weak fun _ _ _ => trivial); have HB3 : Hid (Below w.heap.size w w3) := below_join HB2.out hb3; have S0 : Hid (w3.heap[w.heap.size]? = some (.cells #[.int .i64 k, .string n, .slice sl ks.length cap] 24 (0, 0))) := below_keep hb3 R0.out; clear hb3 huo a0 a1 a2 R0 HB2 HOf; go_wp2_with fail; refine (HPj.out _ _ HRo.out).mono ?_; rintro e w5 ⟨x, rfl, hx, hb5⟩
    rcases hED : D with ⟨kh, nh, ksh⟩
    have hx2 := hx; rw [hED] at hx2; obtain ⟨sh, ch, rfl⟩ := slice_shape hx2; (have HRh : Hid (Rep w5 (fun _ => True) D (.agg #[.int .i64 kh, .string nh, .slice sh ksh.length ch])) := hx); have HDe : Hid (D = .mk kh nh ksh) := hED; have HB5 : Hid (Below w.heap.size w w5) := below_join HB3.out hb5; have V0 : Hid (w5.heap[w.heap.size]? = some (.cells #[.int .i64 k, .string n, .slice sl ks.length cap] 24 (0, 0))) := below_keep hb5 S0.out; clear hb5 hx hx2 hED S0 HB3 HRo HPj; obtain ⟨ic, jc⟩ := qc; simp only
    go_upto_region 6 with fail
    obtain ⟨Y, hY⟩ : ∃ Y, Y = (w5.alloc (.cells #[.int .i64 kh, .string nh, .slice sh ksh.length ch] 24 (0, 0))).alloc (.cells #[.int .i64 ic, .int .i64 jc] 33 (0, 0)) := ⟨_, rfl⟩; rw [← hY]; (have hbY : Below w5.heap.size w5 Y := by rw [hY]; exact below_more (below_more (Below.refl _ _) _) _); (have Y5 : Hid (Y.heap[w5.heap.size]? = some (.cells #[.int .i64 kh, .string nh, .slice sh ksh.length ch] 24 (0, 0))) := by rw [hY]; exact alloc_keep (blk_new w5 _) _); (have Y6 : Hid (Y.heap[w5.heap.size + 1]? = some (.cells #[.int .i64 ic, .int .i64 jc] 33 (0, 0))) := by rw [hY]; exact blk_2nd w5 _ _); have Y0 : Hid (Y.heap[w.heap.size]? = some (.cells #[.int .i64 k, .string n, .slice sl ks.length cap] 24 (0, 0))) := below_keep hbY V0.out; have HBY : Hid (Below w.heap.size w Y) := below_join HB5.out hbY; (have HRhY : Hid (Rep Y (fun _ => True) D (.agg #[.int .i64 kh, .string nh, .slice sh ksh.length ch])) := HRh.out.up hbY); obtain ⟨b5, hb5e⟩ : ∃ b5, b5 = w5.heap.size := ⟨_, rfl⟩; obtain ⟨b6, hb6e⟩ : ∃ b6, b6 = w5.heap.size + 1 := ⟨_, rfl⟩; rw [← hb5e] at Y5; rw [← hb6e] at Y6; rw [← hb6e, ← hb5e]; clear hY hbY V0 HB5 hb5e hb6e; obtain ⟨a0, a1, a2, -⟩ := blk3 Y0.out; go_wp2_with fail; have hbm : Below Y.heap.size Y (Y.alloc (.cells #[.int .i64 k, .string n, .slice sl ks.length cap] 24 (0, 0))) := (Below.refl _ _).alloc (Nat.le_refl _) _; refine (HBf.out _ _ (FL.alone (blk_new Y _) ((HRf.out.up HBY.out).up hbm))).mono ?_; rintro e w6 ⟨rfl, hb6⟩; have HB6 : Hid (Below Y.heap.size Y w6) := below_join hbm hb6; have HYs : Hid (Y.heap.size ≤ w6.heap.size) := HB6.out.size; have y5 : b5 < w6.heap.size := lt_of_block (below_keep HB6.out Y5.out); have y6 : b6 < w6.heap.size := lt_of_block (below_keep HB6.out Y6.out); have y0 : w.heap.size < w6.heap.size := lt_of_block (below_keep HB6.out Y0.out); clear hb6 hbm a0 a1 a2; obtain ⟨b7, hb7e⟩ : ∃ b7, b7 = w6.heap.size := ⟨_, rfl⟩; rw [← hb7e] at HYs y5 y6 y0; have HB7e : Hid (b7 = w6.heap.size) := hb7e; clear hb7e; by_cases htg : tgc.1 = 0
    · have htz : tgc = (0, 0) := HTz.out htg
      subst htz; have hok := HOk0.out rfl; have htn := HTm.out rfl; clear HTz HTn HTm HOk0 htg; simp only; obtain ⟨G, hG⟩ : ∃ G, G = w6.alloc (.cells #[.int .i64 0, .int .i64 0] 33 (0, 0)) := ⟨_, rfl⟩; (have hbG : Below w6.heap.size w6 G := by rw [hG]; exact (Below.refl _ _).alloc (Nat.le_refl _) _); (have G7 : Hid (G.heap[b7]? = some (.cells #[.int .i64 0, .int .i64 0] 33 (0, 0))) := by rw [hG, HB7e.out]; exact blk_new w6 _); have HBG : Hid (Below Y.heap.size Y G) := below_join HB6.out hbG; obtain ⟨o0, o1, o2, o3⟩ := blk2 G7.out
      go_upto_region 7 with fail
      rw [← hG, ← HB7e.out]; clear hG hbG; go_wp2_with fail; refine (HIs.out _).mono ?_; rintro e w7 ⟨rfl, hw7⟩; have hw7' := hw7.symm; subst hw7'
      cases hnm : isNm t
      · obtain ⟨h1, h2⟩ := htn hnm
        have hic : ic = 8 ∧ jc = 0 := ⟨congrArg Prod.fst h1, congrArg Prod.snd h1⟩; obtain ⟨rfl, rfl⟩ := hic; have HDz : Hid (D = zF) := h2; clear hok htn h1 h2 hnm; go_wp2_with fail; refine (HF.out _ _ _).mono ?_; rintro e w8 ⟨rfl, hb8⟩; have q8 := below_keep hb8 G7.out; have HB8 : Hid (Below Y.heap.size Y w8) := below_join HBG.out hb8; (have n5 := (far2 (W := w8) (r := b7) (x := b5) (by omega) (.int .i64 8) (.int .i64 0)).trans (below_keep HB8.out Y5.out)); (have n6 := (far2 (W := w8) (r := b7) (x := b6) (by omega) (.int .i64 8) (.int .i64 0)).trans (below_keep HB8.out Y6.out)); have s7 := set2 q8 (.int .i64 8) (.int .i64 0); (have bN := below_put2 (w := w) (r := b7) (by omega) (below_join HBY.out HB8.out) (.int .i64 8) (.int .i64 0)); clear o0 o1 o2 o3 hb8; obtain ⟨o0, o1, o2, o3⟩ := blk2 q8; have y8 := lt_of_block q8
        go_upto_region 9 with fail
        obtain ⟨F, hF⟩ : ∃ F, F = (w8.setCell ⟨b7, 0, none⟩ (.int .i64 8)).setCell ⟨b7, 1, none⟩ (.int .i64 0) := ⟨_, rfl⟩; rw [← hF] at s7 n5 n6 bN ⊢; clear hF o0 o1 o2 o3; have bE := below_more (Below.refl F.heap.size F) (.cells #[] 9 (0, 0)); have e5 := below_keep bE n5; have e6 := below_keep bE n6; have e7 := below_keep bE s7; have eN := below_join bN bE; obtain ⟨o0, o1, o2, o3⟩ := blk2 s7
        go_upto_region 10 with fail
        obtain ⟨F9, hF9⟩ : ∃ F9, F9 = F.alloc (.cells #[] 9 (0, 0)) := ⟨_, rfl⟩; rw [← hF9] at e5 e6 e7 eN ⊢; clear hF9 bE o0 o1 o2 o3 n5 n6 s7 bN; obtain ⟨F1, hF1⟩ : ∃ F1, F1 = F := ⟨_, rfl⟩; subst hF1; obtain ⟨F, hF⟩ : ∃ F, F = F9 := ⟨_, rfl⟩; subst hF; have N5 : Hid (F.heap[b5]? = some _) := e5; have N6 : Hid (F.heap[b6]? = some _) := e6; have N7 : Hid (F.heap[b7]? = some _) := e7; have HBN : Hid (Below w.heap.size w F) := eN; clear e7 e5 e6 eN; obtain ⟨c0, c1, c2, -⟩ := blk3 N5.out; obtain ⟨m0, m1, -⟩ := blk2 N6.out; obtain ⟨o0, o1, -⟩ := blk2 N7.out; have hDz := HDe.out; rw [HDz.out] at hDz; unfold zF at hDz
        injection hDz with e1 e2 e3
        subst e1 e2 e3; (have hrF : Rep F (fun _ => True) (.mk 0 ⟨#[]⟩ []) (.agg #[.int .i64 0, .string ⟨#[]⟩, .slice sh 0 ch]) := rep_leafW (w := w5) (by have := HRh.out; rw [HDz.out] at this; exact this)); (have HRF : Hid (Rep F (fun _ => True) (.mk 0 ⟨#[]⟩ []) (.agg #[.int .i64 0, .string ⟨#[]⟩, .slice sh 0 ch])) := hrF); clear hrF; go_wp2_with fail; refine (none_any 0 ⟨#[]⟩ [] _ _ HRF.out).mono ?_; rintro e w9 ⟨rfl, hb9⟩; have B9 := below_join HBN.out hb9; clear hb9 c0 c1 c2 m0 m1 o0 o1; go_wp2_with fail; go_ret; exact ⟨rfl, B9⟩
      · obtain ⟨g1, g2, g3, g4⟩ := hok hnm
        (have HNf : Hid (∀ v W, FL W v [.mk k n ks] → Calls Try.prog 17 #[v] W fun e w' => ∃ x, e = .returned x ∧ TL w' x UF ∧ Below W.heap.size W w') := g1); have HU6 : Hid (UF.length ≤ 6) := g2; (have HTf : Hid (∀ l v u W, Rep W (fun _ => True) (.mk k n ks) v → SL W u l → Calls Try.prog 26 #[v, u] W fun e w' => e = .returned (.bool (tvL (.mk k n ks) l)) ∧ Below W.heap.size W w') := g3); (have HEnd : Hid ((openTo (.mk k n ks) t UF (2 ^ UF.length) = true → (ic, jc) = (6, 0) ∧ D = zF) ∧ (openTo (.mk k n ks) t UF (2 ^ UF.length) = false → (ic, jc) = (0, 0) ∧ (∀ v u W, Rep W (fun _ => True) D v → SL W u (UF.filter fun x => !decide (x = t)) → Calls Try.prog 21 #[v, u] W fun e w' => e = .returned (.bool true) ∧ Below W.heap.size W w') ∧ (∀ l v u W, Rep W (fun _ => True) D v → SL W u l → Calls Try.prog 26 #[v, u] W fun e w' => e = .returned (.bool (tvL D l)) ∧ Below W.heap.size W w') ∧ (∀ m, tvL (.mk k n ks) (rowN m UF 0) = true → tvL D (rowN m UF 0) = decide (t ∈ rowN m UF 0)))) := g4); clear hok htn hnm g1 g2 g3 g4; obtain ⟨a0, a1, a2, -⟩ := blk3 (below_keep HBG.out Y0.out); have y9 : w.heap.size < G.heap.size := lt_of_block (below_keep HBG.out Y0.out); have y10 : b7 < G.heap.size := lt_of_block G7.out; go_wp2_with fail; have hbm : Below G.heap.size G ((G.alloc (.cells #[] 9 (0, 0))).alloc (.cells #[.int .i64 k, .string n, .slice sl ks.length cap] 24 (0, 0))) := below_more (below_more (Below.refl _ G) _) _; refine (HNf.out _ _ (FL.alone (blk_2nd G (.cells #[] 9 (0, 0)) (.cells #[.int .i64 k, .string n, .slice sl ks.length cap] 24 (0, 0))) ((HRf.out.up (below_join HBY.out HBG.out)).up hbm))).mono ?_; rintro e wa ⟨xa, rfl, hxa, hba⟩; have HSa : Hid (SL wa xa UF) := hxa.sl; obtain ⟨ada, cpa, rfl, -⟩ := hxa; have HBa : Hid (Below Y.heap.size Y wa) := below_join HBG.out (below_join hbm hba); have A7 : Hid (wa.heap[b7]? = some (.cells #[.int .i64 0, .int .i64 0] 33 (0, 0))) := below_keep hba (below_keep hbm G7.out); clear hba hbm a0 a1 a2 o0 o1 o2 o3 HNf; (have HEq : Hid (openTo (.mk k n ks) t UF 0 = false) := by show _ = _; rfl); obtain ⟨MF, hMF⟩ : ∃ M, M = 2 ^ UF.length := ⟨_, rfl⟩; obtain ⟨hwF, hF1, hF2⟩ := shl_row UF.length HU6.out; rw [← hMF] at hwF hF1 hF2 HEnd; have HWF : Hid (wrap64 ((2 : Int) ^ UF.length) = ((MF : Nat) : Int)) := hwF; have HMM : Hid (1 ≤ MF ∧ MF ≤ 64) := ⟨hF1, hF2⟩; have hFI : (UF.length : Int) ≤ 6 := Int.ofNat_le.mpr HU6.out; have hMFI : (MF : Int) ≤ 64 := Int.ofNat_le.mpr hF2; clear hwF hMF hF1 hF2; go_wp2_with fail
        go_loopg [9] MF (fun g c wr => ∃ j, j ≤ MF ∧ g = MF - j ∧ c = .int .i64 (j : Nat) ∧ Hid (Below Y.heap.size Y wr) ∧ Hid (SL wr (.slice ada UF.length cpa) UF) ∧ Hid (wr.heap[b7]? = some (.cells #[.int .i64 (ocode (openTo (.mk k n ks) t UF j)), .int .i64 0] 33 (0, 0))))
        case atStart => exact ⟨0, by have := HMM.out; omega, by omega, rfl, HBa, HSa, by show _ = _; rw [HEq.out]; exact A7.out⟩
        case round =>
          obtain ⟨j, hj, hg, rfl, HBr, HSr, HQr⟩ := hrel; have HG : Hid (gk = MF - j) := hg; clear hg; by_cases hlt : j < MF
          · have hltI : (j : Int) < (MF : Int) := Int.ofNat_lt.mpr hlt
            (have HJ : Hid (j < MF ∧ j ≤ 100000) := ⟨hlt, Nat.le_trans (Nat.le_of_lt hlt) (Nat.le_trans HMM.out.2 (by decide))⟩); clear hlt hj; have hwF := HWF.out; go_wp2_with fail; clear hwF; (refine (row_any j HJ.out.2 UF (by have := HU6.out; omega) _ _ HSr.out).mono ?_); rintro e w7 ⟨y7, rfl, hy7, hb7⟩; have HYd : Hid (SL w7 y7 (rowN j UF 0)) := hy7.sl; obtain ⟨ady, cpy, rfl, -⟩ := hy7; have HA1 : Hid (openTo (.mk k n ks) t UF (j + 1) = (openTo (.mk k n ks) t UF j || (!decide (t ∈ rowN j UF 0) && (tvL (.mk k n ks) (rowN j UF 0) && tvL (.mk k n ks) (rowN j UF 0 ++ [t]))))) := openTo_succ _ _ _ _; (have HRl : Hid ((rowN j UF 0).length ≤ 6) := by have := rowN_len j UF 0; have := HU6.out; show _ ≤ _; omega); (have HHt : Hid (∀ v W, SL W v (rowN j UF 0) → Calls Try.prog 29 #[v, .string ⟨t.toArray⟩] W fun e w' => e = .returned (.bool (decide (t ∈ rowN j UF 0))) ∧ w' = W) := fun v W h => hasText_sl _ t v W h); (have HT1 : Hid (∀ v u W, Rep W (fun _ => True) (.mk k n ks) v → SL W u (rowN j UF 0) → Calls Try.prog 26 #[v, u] W fun e w' => e = .returned (.bool (tvL (.mk k n ks) (rowN j UF 0))) ∧ Below W.heap.size W w') := HTf.out _); (have HT2 : Hid (∀ v u W, Rep W (fun _ => True) (.mk k n ks) v → SL W u (rowN j UF 0 ++ [t]) → Calls Try.prog 26 #[v, u] W fun e w' => e = .returned (.bool (tvL (.mk k n ks) (rowN j UF 0 ++ [t]))) ∧ Below W.heap.size W w') := HTf.out _); have HB7 : Hid (Below Y.heap.size Y w7) := below_join HBr.out hb7; have HSr7 : Hid (SL w7 (.slice ada UF.length cpa) UF) := HSr.out.up hb7; have HQ7 : Hid (w7.heap[b7]? = some (.cells #[.int .i64 (ocode (openTo (.mk k n ks) t UF j)), .int .i64 0] 33 (0, 0))) := below_keep hb7 HQr.out; have S0 : Hid (w7.heap[w.heap.size]? = some (.cells #[.int .i64 k, .string n, .slice sl ks.length cap] 24 (0, 0))) := below_keep HB7.out Y0.out; (have RFw : Hid (Rep w7 (fun _ => True) (.mk k n ks) (.agg #[.int .i64 k, .string n, .slice sl ks.length cap])) := (HRf.out.up HBY.out).up HB7.out); generalize rowN j UF 0 = R at *; generalize tvL (.mk k n ks) (R ++ [t]) = tg at *; generalize tvL (.mk k n ks) R = tf at *; generalize decide (t ∈ R) = ht at *; clear hb7 HBr HSr HQr; have HYw : Hid (SL w7 (.slice ady R.length cpy) R) := HYd.out
            cases ht
            case true =>
              (have HAv : Hid (openTo (.mk k n ks) t UF (j + 1) = openTo (.mk k n ks) t UF j) := by have := HA1.out; rwa [Bool.not_true, Bool.false_and, Bool.or_false] at this); obtain ⟨W, hW⟩ : ∃ W, W = w7 := ⟨_, rfl⟩; subst hW; go_wp2_with fail; (refine wp_region_gh (by kernel_rfl) (by kernel_rfl) (by kernel_rfl) 127 rfl (by kernel_rfl) [fun _ v _ => v = (.slice ady R.length cpy), fun _ v _ => v = (.string ⟨t.toArray⟩), fun _ v _ => v = (.bool true), fun _ v _ => v = (.bool false), fun _ v _ => v = (.bool false), fun _ _ _ => True, fun _ _ _ => True, fun _ _ _ => True, fun _ v _ => v = (.bool false), fun _ v _ => v = (.bool false), fun _ _ _ => True, fun _ _ _ => True, fun _ _ _ => True, fun _ _ _ => True, fun _ _ _ => True, fun _ _ _ => True, fun _ _ _ => True, fun _ v _ => v = .bool false] (fun _ _ => true) (fun _ => StT W R t false false) (GT.none0) ?_ ?_ ?_)
              · exact fun wx h _ => ⟨h, fun e => (by cases e), fun e => (by cases e)⟩
              · refine ⟨?_, ?_, ?_, ?_, ?_, ?_, ?_, ?_, ?_, ?_, ?_, ?_, ?_, ?_, ?_, ?_, ?_, ?_, trivial⟩
                · intro L y a wx hSt hLi hdl hcl hold hdep K hK
                  have HSt : Hid (StT W R t false false y wx) := hSt; clear hSt; have t10 : a.tmps[10]? = some (.slice ady R.length cpy) := hold 10 rfl; clear hold hdep hdl hcl hLi; go_simp; (exact hK.out _ _ y HSt.out rfl (fun j hj hl => ⟨hl, fun u h => h⟩))
                · intro L y a wx hSt hLi hdl hcl hold hdep K hK
                  have HSt : Hid (StT W R t false false y wx) := hSt; clear hSt; have t1 : a.tmps[1]? = some (.string ⟨t.toArray⟩) := hold 1 rfl; clear hold hdep hdl hcl hLi; go_simp; (exact hK.out _ _ y HSt.out rfl (fun j hj hl => ⟨hl, fun u h => h⟩))
                · intro L y a wx hSt hLi hdl hcl hold hdep K hK
                  have HSt : Hid (StT W R t false false y wx) := hSt; clear hSt; obtain ⟨v55, t55, q55⟩ := hdep 0 rfl _ 55 rfl rfl; have e55 : v55 = (.slice ady R.length cpy) := q55 rfl; subst e55; obtain ⟨v56, t56, q56⟩ := hdep 1 rfl _ 56 rfl rfl; have e56 : v56 = (.string ⟨t.toArray⟩) := q56 rfl; subst e56; clear hold hdep hdl hcl hLi; go_simp; refine (HHt.out _ wx (HYw.out.up HSt.out.below)).mono ?_; rintro e w3 ⟨rfl, hw3⟩; subst hw3; (exact hK.out _ _ y HSt.out rfl (fun j hj hl => ⟨hl, fun u h => h⟩))
                · intro L y a wx hSt hLi hdl hcl hold hdep K hK
                  have HSt : Hid (StT W R t false false y wx) := hSt; clear hSt; obtain ⟨v57, t57, q57⟩ := hdep 2 rfl _ 57 rfl rfl; have e57 : v57 = (.bool true) := q57 rfl; subst e57; clear hold hdep hdl hcl hLi; go_simp; (exact hK.out _ _ y HSt.out rfl (fun j hj hl => ⟨hl, fun u h => h⟩))
                · intro L y a wx hSt hLi hdl hcl hold hdep K hK
                  have HSt : Hid (StT W R t false false y wx) := hSt; clear hSt; obtain ⟨v58, t58, q58⟩ := hdep 3 rfl _ 58 rfl rfl; have e58 : v58 = (.bool false) := q58 rfl; subst e58; clear hold hdep hdl hcl hLi; go_simp; (exact hK.out _ _ y HSt.out rfl (fun j hj hl => ⟨hl, fun u h => h⟩))
                · intro L y a wx hSt hLi hdl hcl hold hdep K hK
                  have HSt : Hid (StT W R t false false y wx) := hSt; clear hSt; obtain ⟨v59, t59, q59⟩ := hdep 4 rfl _ 59 rfl rfl; have e59 : v59 = (.bool false) := q59 rfl; subst e59; clear hold hdep hdl hcl hLi; go_simp; (exact hK.out _ _ y HSt.out trivial (fun j hj hl => ⟨hl, fun u h => h⟩))
                · intro L y a wx hSt hLi hdl hcl hold hdep K hK
                  have HSt : Hid (StT W R t false false y wx) := hSt; clear hSt; obtain ⟨v59, t59, q59⟩ := hdep 4 rfl _ 59 rfl rfl; have e59 : v59 = (.bool false) := q59 rfl; subst e59; clear hold hdep hdl hcl hLi; go_simp; (exact hK.out _ _ y HSt.out trivial (fun j hj hl => ⟨hl, fun u h => h⟩))
                · intro L y a wx hSt hLi hdl hcl hold hdep K hK
                  have HSt : Hid (StT W R t false false y wx) := hSt; clear hSt; obtain ⟨v59, t59, q59⟩ := hdep 4 rfl _ 59 rfl rfl; have e59 : v59 = (.bool false) := q59 rfl; subst e59; clear hold hdep hdl hcl hLi; go_simp; (exact hK.out _ _ y HSt.out trivial (fun j hj hl => ⟨hl, fun u h => h⟩))
                · intro L y a wx hSt hLi hdl hcl hold hdep K hK
                  have HSt : Hid (StT W R t false false y wx) := hSt; clear hSt; obtain ⟨v59, t59, q59⟩ := hdep 4 rfl _ 59 rfl rfl; have e59 : v59 = (.bool false) := q59 rfl; subst e59; clear hold hdep hdl hcl hLi; go_simp; (exact hK.out _ _ y HSt.out rfl (fun j hj hl => ⟨hl, fun u h => h⟩))
                · intro L y a wx hSt hLi hdl hcl hold hdep K hK
                  have HSt : Hid (StT W R t false false y wx) := hSt; clear hSt; obtain ⟨v63, t63, q63⟩ := hdep 8 rfl _ 63 rfl rfl; have e63 : v63 = (.bool false) := q63 rfl; subst e63; clear hold hdep hdl hcl hLi; go_simp; (exact hK.out _ _ y HSt.out rfl (fun j hj hl => ⟨hl, fun u h => h⟩))
                · intro L y a wx hSt hLi hdl hcl hold hdep K hK
                  have HSt : Hid (StT W R t false false y wx) := hSt; clear hSt; obtain ⟨v64, t64, q64⟩ := hdep 9 rfl _ 64 rfl rfl; have e64 : v64 = (.bool false) := q64 rfl; subst e64; clear hold hdep hdl hcl hLi; go_simp; (exact hK.out _ _ y HSt.out trivial (fun j hj hl => ⟨hl, fun u h => h⟩))
                · intro L y a wx hSt hLi hdl hcl hold hdep K hK
                  have HSt : Hid (StT W R t false false y wx) := hSt; clear hSt; obtain ⟨v64, t64, q64⟩ := hdep 9 rfl _ 64 rfl rfl; have e64 : v64 = (.bool false) := q64 rfl; subst e64; clear hold hdep hdl hcl hLi; go_simp; (exact hK.out _ _ y HSt.out trivial (fun j hj hl => ⟨hl, fun u h => h⟩))
                · intro L y a wx hSt hLi hdl hcl hold hdep K hK
                  have HSt : Hid (StT W R t false false y wx) := hSt; clear hSt; obtain ⟨v64, t64, q64⟩ := hdep 9 rfl _ 64 rfl rfl; have e64 : v64 = (.bool false) := q64 rfl; subst e64; clear hold hdep hdl hcl hLi; go_simp; (exact hK.out _ _ y HSt.out trivial (fun j hj hl => ⟨hl, fun u h => h⟩))
                · intro L y a wx hSt hLi hdl hcl hold hdep K hK
                  have HSt : Hid (StT W R t false false y wx) := hSt; clear hSt; obtain ⟨v64, t64, q64⟩ := hdep 9 rfl _ 64 rfl rfl; have e64 : v64 = (.bool false) := q64 rfl; subst e64; clear hold hdep hdl hcl hLi; go_simp; (exact hK.out _ _ y HSt.out trivial (fun j hj hl => ⟨hl, fun u h => h⟩))
                · intro L y a wx hSt hLi hdl hcl hold hdep K hK
                  have HSt : Hid (StT W R t false false y wx) := hSt; clear hSt; obtain ⟨v64, t64, q64⟩ := hdep 9 rfl _ 64 rfl rfl; have e64 : v64 = (.bool false) := q64 rfl; subst e64; clear hold hdep hdl hcl hLi; go_simp; (exact hK.out _ _ y HSt.out trivial (fun j hj hl => ⟨hl, fun u h => h⟩))
                · intro L y a wx hSt hLi hdl hcl hold hdep K hK
                  have HSt : Hid (StT W R t false false y wx) := hSt; clear hSt; obtain ⟨v64, t64, q64⟩ := hdep 9 rfl _ 64 rfl rfl; have e64 : v64 = (.bool false) := q64 rfl; subst e64; clear hold hdep hdl hcl hLi; go_simp; (exact hK.out _ _ y HSt.out trivial (fun j hj hl => ⟨hl, fun u h => h⟩))
                · intro L y a wx hSt hLi hdl hcl hold hdep K hK
                  have HSt : Hid (StT W R t false false y wx) := hSt; clear hSt; obtain ⟨v64, t64, q64⟩ := hdep 9 rfl _ 64 rfl rfl; have e64 : v64 = (.bool false) := q64 rfl; subst e64; clear hold hdep hdl hcl hLi; go_simp; (exact hK.out _ _ y HSt.out trivial (fun j hj hl => ⟨hl, fun u h => h⟩))
                · intro L y a wx hSt hLi hdl hcl hold hdep K hK
                  have HSt : Hid (StT W R t false false y wx) := hSt; clear hSt; obtain ⟨v64, t64, q64⟩ := hdep 9 rfl _ 64 rfl rfl; have e64 : v64 = (.bool false) := q64 rfl; subst e64; clear hold hdep hdl hcl hLi; go_simp; (exact hK.out _ _ y HSt.out rfl (fun j hj hl => ⟨hl, fun u h => h⟩))
              · intro L y a wx hall hSt hsz hdf hold hgot
                have hS : StT W R t false false y wx := hSt; have hbX := hS.below; obtain ⟨v72, t72, q72⟩ := hgot 17 _ 72 rfl rfl; have e72 : v72 = .bool false := q72 rfl; subst e72; obtain ⟨tm, df⟩ := a; (obtain ⟨ys, hys, htm, rfl⟩ := frame_midB 55 18 (by kernel_rfl) (Nat.le_of_ble_eq_true rfl) ⟨hsz, hdf, hold⟩); obtain ⟨x55, x56, x57, x58, x59, x60, x61, x62, x63, x64, x65, x66, x67, x68, x69, x70, x71, x72, rfl⟩ := rowOf18 ys hys; simp only [List.take_succ_cons, List.take_zero, List.drop_succ_cons, List.drop_zero, List.cons_append, List.nil_append] at htm; subst htm; obtain rfl : x72 = _ := someInjB t72; clear hys hold hgot hall hSt hsz hdf t72 q72 hS; have HBX : Hid (Below W.heap.size W wx) := hbX; clear hbX; go_wp2_with fail
                go_roundg (MF - (j + 1))
                case measure => have := HG.out; have := HJ.out; omega
                case rel => exact ⟨j + 1, HJ.out.1, rfl, by go_num, below_join HB7.out HBX.out, HSr7.out.up HBX.out, by show _ = _; rw [HAv.out]; exact below_keep HBX.out HQ7.out⟩
            case false =>
              cases tf
              case false =>
                (have HAv : Hid (openTo (.mk k n ks) t UF (j + 1) = openTo (.mk k n ks) t UF j) := by have := HA1.out; rwa [Bool.false_and, Bool.and_false, Bool.or_false] at this); obtain ⟨W, hW⟩ : ∃ W, W = w7 := ⟨_, rfl⟩; subst hW; go_wp2_with fail; (refine wp_region_gh (by kernel_rfl) (by kernel_rfl) (by kernel_rfl) 127 rfl (by kernel_rfl) [fun _ v _ => v = (.slice ady R.length cpy), fun _ v _ => v = (.string ⟨t.toArray⟩), fun _ v _ => v = (.bool false), fun _ v _ => v = (.bool true), fun _ v _ => v = (.bool true), fun _ v _ => v = (.agg #[.int .i64 k, .string n, .slice sl ks.length cap]), fun _ v _ => v = (.slice ady R.length cpy), fun _ v _ => v = (.bool false), fun _ v _ => v = (.bool false), fun _ v _ => v = (.bool false), fun _ _ _ => True, fun _ _ _ => True, fun _ _ _ => True, fun _ _ _ => True, fun _ _ _ => True, fun _ _ _ => True, fun _ _ _ => True, fun _ v _ => v = .bool false] (fun _ _ => true) (fun _ => StT W R t false false) (GT.none0) ?_ ?_ ?_)
                · exact fun wx h _ => ⟨h, fun e => (by cases e), fun e => (by cases e)⟩
                · refine ⟨?_, ?_, ?_, ?_, ?_, ?_, ?_, ?_, ?_, ?_, ?_, ?_, ?_, ?_, ?_, ?_, ?_, ?_, trivial⟩
                  · intro L y a wx hSt hLi hdl hcl hold hdep K hK
                    have HSt : Hid (StT W R t false false y wx) := hSt; clear hSt; have t10 : a.tmps[10]? = some (.slice ady R.length cpy) := hold 10 rfl; clear hold hdep hdl hcl hLi; go_simp; (exact hK.out _ _ y HSt.out rfl (fun j hj hl => ⟨hl, fun u h => h⟩))
                  · intro L y a wx hSt hLi hdl hcl hold hdep K hK
                    have HSt : Hid (StT W R t false false y wx) := hSt; clear hSt; have t1 : a.tmps[1]? = some (.string ⟨t.toArray⟩) := hold 1 rfl; clear hold hdep hdl hcl hLi; go_simp; (exact hK.out _ _ y HSt.out rfl (fun j hj hl => ⟨hl, fun u h => h⟩))
                  · intro L y a wx hSt hLi hdl hcl hold hdep K hK
                    have HSt : Hid (StT W R t false false y wx) := hSt; clear hSt; obtain ⟨v55, t55, q55⟩ := hdep 0 rfl _ 55 rfl rfl; have e55 : v55 = (.slice ady R.length cpy) := q55 rfl; subst e55; obtain ⟨v56, t56, q56⟩ := hdep 1 rfl _ 56 rfl rfl; have e56 : v56 = (.string ⟨t.toArray⟩) := q56 rfl; subst e56; clear hold hdep hdl hcl hLi; go_simp; refine (HHt.out _ wx (HYw.out.up HSt.out.below)).mono ?_; rintro e w3 ⟨rfl, hw3⟩; subst hw3; (exact hK.out _ _ y HSt.out rfl (fun j hj hl => ⟨hl, fun u h => h⟩))
                  · intro L y a wx hSt hLi hdl hcl hold hdep K hK
                    have HSt : Hid (StT W R t false false y wx) := hSt; clear hSt; obtain ⟨v57, t57, q57⟩ := hdep 2 rfl _ 57 rfl rfl; have e57 : v57 = (.bool false) := q57 rfl; subst e57; clear hold hdep hdl hcl hLi; go_simp; (exact hK.out _ _ y HSt.out rfl (fun j hj hl => ⟨hl, fun u h => h⟩))
                  · intro L y a wx hSt hLi hdl hcl hold hdep K hK
                    have HSt : Hid (StT W R t false false y wx) := hSt; clear hSt; obtain ⟨v58, t58, q58⟩ := hdep 3 rfl _ 58 rfl rfl; have e58 : v58 = (.bool true) := q58 rfl; subst e58; clear hold hdep hdl hcl hLi; go_simp; (exact hK.out _ _ y HSt.out rfl (fun j hj hl => ⟨hl, fun u h => h⟩))
                  · intro L y a wx hSt hLi hdl hcl hold hdep K hK
                    have HSt : Hid (StT W R t false false y wx) := hSt; clear hSt; obtain ⟨v59, t59, q59⟩ := hdep 4 rfl _ 59 rfl rfl; have e59 : v59 = (.bool true) := q59 rfl; subst e59; have t2 : a.tmps[2]? = some (.pointer (some ⟨w.heap.size, 0, none⟩)) := hold 2 rfl; obtain ⟨d0, d1, d2, -⟩ := blk3 (below_keep HSt.out.below S0.out); clear hold hdep hdl hcl hLi; go_simp; (exact hK.out _ _ y HSt.out rfl (fun j hj hl => ⟨hl, fun u h => h⟩))
                  · intro L y a wx hSt hLi hdl hcl hold hdep K hK
                    have HSt : Hid (StT W R t false false y wx) := hSt; clear hSt; obtain ⟨v59, t59, q59⟩ := hdep 4 rfl _ 59 rfl rfl; have e59 : v59 = (.bool true) := q59 rfl; subst e59; have t10 : a.tmps[10]? = some (.slice ady R.length cpy) := hold 10 rfl; clear hold hdep hdl hcl hLi; go_simp; (exact hK.out _ _ y HSt.out rfl (fun j hj hl => ⟨hl, fun u h => h⟩))
                  · intro L y a wx hSt hLi hdl hcl hold hdep K hK
                    have HSt : Hid (StT W R t false false y wx) := hSt; clear hSt; obtain ⟨v59, t59, q59⟩ := hdep 4 rfl _ 59 rfl rfl; have e59 : v59 = (.bool true) := q59 rfl; subst e59; obtain ⟨v60, t60, q60⟩ := hdep 5 rfl _ 60 rfl rfl; have e60 : v60 = (.agg #[.int .i64 k, .string n, .slice sl ks.length cap]) := q60 rfl; subst e60; obtain ⟨v61, t61, q61⟩ := hdep 6 rfl _ 61 rfl rfl; have e61 : v61 = (.slice ady R.length cpy) := q61 rfl; subst e61; clear hold hdep hdl hcl; go_simp; refine (HT1.out _ _ wx ((RFw.out).up HSt.out.below) (HYw.out.up HSt.out.below)).mono ?_; rintro e w3 ⟨rfl, hb3⟩; refine hK.out _ _ y (HSt.out.up hb3) rfl ?_; intro j hj hl
                    rcases j with _ | _ | _ | _ | _ | _ | _ | _ | _ | _ | _ | _ | _ | _ | _ | _ | _ | _ | j
                    · exact ⟨hl, fun u h => h⟩
                    · exact ⟨hl, fun u h => h⟩
                    · exact ⟨hl, fun u h => h⟩
                    · exact ⟨hl, fun u h => h⟩
                    · exact ⟨hl, fun u h => h⟩
                    · exact ⟨hl, fun u h => h⟩
                    · exact ⟨hl, fun u h => h⟩
                    · exact Bool.noConfusion (hLi.symm.trans hj)
                    · exact ⟨hl, fun u h => h⟩
                    · exact ⟨hl, fun u h => h⟩
                    · exact ⟨hl, fun u h => h⟩
                    · exact ⟨hl, fun u h => h⟩
                    · exact ⟨hl, fun u h => h⟩
                    · exact ⟨hl, fun u h => h⟩
                    · exact ⟨hl, fun u h => h⟩
                    · exact ⟨hl, fun u h => h⟩
                    · exact ⟨hl, fun u h => h⟩
                    · exact ⟨hl, fun u h => h⟩
                    · exact ⟨hl, fun u h => h⟩
                  · intro L y a wx hSt hLi hdl hcl hold hdep K hK
                    have HSt : Hid (StT W R t false false y wx) := hSt; clear hSt; obtain ⟨v59, t59, q59⟩ := hdep 4 rfl _ 59 rfl rfl; have e59 : v59 = (.bool true) := q59 rfl; subst e59; obtain ⟨v62, t62, q62⟩ := hdep 7 rfl _ 62 rfl rfl; have e62 : v62 = (.bool false) := q62 rfl; subst e62; clear hold hdep hdl hcl hLi; go_simp; (exact hK.out _ _ y HSt.out rfl (fun j hj hl => ⟨hl, fun u h => h⟩))
                  · intro L y a wx hSt hLi hdl hcl hold hdep K hK
                    have HSt : Hid (StT W R t false false y wx) := hSt; clear hSt; obtain ⟨v63, t63, q63⟩ := hdep 8 rfl _ 63 rfl rfl; have e63 : v63 = (.bool false) := q63 rfl; subst e63; clear hold hdep hdl hcl hLi; go_simp; (exact hK.out _ _ y HSt.out rfl (fun j hj hl => ⟨hl, fun u h => h⟩))
                  · intro L y a wx hSt hLi hdl hcl hold hdep K hK
                    have HSt : Hid (StT W R t false false y wx) := hSt; clear hSt; obtain ⟨v64, t64, q64⟩ := hdep 9 rfl _ 64 rfl rfl; have e64 : v64 = (.bool false) := q64 rfl; subst e64; clear hold hdep hdl hcl hLi; go_simp; (exact hK.out _ _ y HSt.out trivial (fun j hj hl => ⟨hl, fun u h => h⟩))
                  · intro L y a wx hSt hLi hdl hcl hold hdep K hK
                    have HSt : Hid (StT W R t false false y wx) := hSt; clear hSt; obtain ⟨v64, t64, q64⟩ := hdep 9 rfl _ 64 rfl rfl; have e64 : v64 = (.bool false) := q64 rfl; subst e64; clear hold hdep hdl hcl hLi; go_simp; (exact hK.out _ _ y HSt.out trivial (fun j hj hl => ⟨hl, fun u h => h⟩))
                  · intro L y a wx hSt hLi hdl hcl hold hdep K hK
                    have HSt : Hid (StT W R t false false y wx) := hSt; clear hSt; obtain ⟨v64, t64, q64⟩ := hdep 9 rfl _ 64 rfl rfl; have e64 : v64 = (.bool false) := q64 rfl; subst e64; clear hold hdep hdl hcl hLi; go_simp; (exact hK.out _ _ y HSt.out trivial (fun j hj hl => ⟨hl, fun u h => h⟩))
                  · intro L y a wx hSt hLi hdl hcl hold hdep K hK
                    have HSt : Hid (StT W R t false false y wx) := hSt; clear hSt; obtain ⟨v64, t64, q64⟩ := hdep 9 rfl _ 64 rfl rfl; have e64 : v64 = (.bool false) := q64 rfl; subst e64; clear hold hdep hdl hcl hLi; go_simp; (exact hK.out _ _ y HSt.out trivial (fun j hj hl => ⟨hl, fun u h => h⟩))
                  · intro L y a wx hSt hLi hdl hcl hold hdep K hK
                    have HSt : Hid (StT W R t false false y wx) := hSt; clear hSt; obtain ⟨v64, t64, q64⟩ := hdep 9 rfl _ 64 rfl rfl; have e64 : v64 = (.bool false) := q64 rfl; subst e64; clear hold hdep hdl hcl hLi; go_simp; (exact hK.out _ _ y HSt.out trivial (fun j hj hl => ⟨hl, fun u h => h⟩))
                  · intro L y a wx hSt hLi hdl hcl hold hdep K hK
                    have HSt : Hid (StT W R t false false y wx) := hSt; clear hSt; obtain ⟨v64, t64, q64⟩ := hdep 9 rfl _ 64 rfl rfl; have e64 : v64 = (.bool false) := q64 rfl; subst e64; clear hold hdep hdl hcl hLi; go_simp; (exact hK.out _ _ y HSt.out trivial (fun j hj hl => ⟨hl, fun u h => h⟩))
                  · intro L y a wx hSt hLi hdl hcl hold hdep K hK
                    have HSt : Hid (StT W R t false false y wx) := hSt; clear hSt; obtain ⟨v64, t64, q64⟩ := hdep 9 rfl _ 64 rfl rfl; have e64 : v64 = (.bool false) := q64 rfl; subst e64; clear hold hdep hdl hcl hLi; go_simp; (exact hK.out _ _ y HSt.out trivial (fun j hj hl => ⟨hl, fun u h => h⟩))
                  · intro L y a wx hSt hLi hdl hcl hold hdep K hK
                    have HSt : Hid (StT W R t false false y wx) := hSt; clear hSt; obtain ⟨v64, t64, q64⟩ := hdep 9 rfl _ 64 rfl rfl; have e64 : v64 = (.bool false) := q64 rfl; subst e64; clear hold hdep hdl hcl hLi; go_simp; (exact hK.out _ _ y HSt.out rfl (fun j hj hl => ⟨hl, fun u h => h⟩))
                · intro L y a wx hall hSt hsz hdf hold hgot
                  have hS : StT W R t false false y wx := hSt; have hbX := hS.below; obtain ⟨v72, t72, q72⟩ := hgot 17 _ 72 rfl rfl; have e72 : v72 = .bool false := q72 rfl; subst e72; obtain ⟨tm, df⟩ := a; (obtain ⟨ys, hys, htm, rfl⟩ := frame_midB 55 18 (by kernel_rfl) (Nat.le_of_ble_eq_true rfl) ⟨hsz, hdf, hold⟩); obtain ⟨x55, x56, x57, x58, x59, x60, x61, x62, x63, x64, x65, x66, x67, x68, x69, x70, x71, x72, rfl⟩ := rowOf18 ys hys; simp only [List.take_succ_cons, List.take_zero, List.drop_succ_cons, List.drop_zero, List.cons_append, List.nil_append] at htm; subst htm; obtain rfl : x72 = _ := someInjB t72; clear hys hold hgot hall hSt hsz hdf t72 q72 hS; have HBX : Hid (Below W.heap.size W wx) := hbX; clear hbX; go_wp2_with fail
                  go_roundg (MF - (j + 1))
                  case measure => have := HG.out; have := HJ.out; omega
                  case rel => exact ⟨j + 1, HJ.out.1, rfl, by go_num, below_join HB7.out HBX.out, HSr7.out.up HBX.out, by show _ = _; rw [HAv.out]; exact below_keep HBX.out HQ7.out⟩
              case true =>
                (have HAv : Hid (openTo (.mk k n ks) t UF (j + 1) = (openTo (.mk k n ks) t UF j || tg)) := by have := HA1.out; rwa [Bool.not_false, Bool.true_and, Bool.true_and] at this); obtain ⟨W, hW⟩ : ∃ W, W = w7 := ⟨_, rfl⟩; subst hW; go_wp2_with fail; (refine wp_region_gh (by kernel_rfl) (by kernel_rfl) (by kernel_rfl) 127 rfl (by kernel_rfl) [fun _ v _ => v = (.slice ady R.length cpy), fun _ v _ => v = (.string ⟨t.toArray⟩), fun _ v _ => v = (.bool false), fun _ v _ => v = (.bool true), fun _ v _ => v = (.bool true), fun _ v _ => v = (.agg #[.int .i64 k, .string n, .slice sl ks.length cap]), fun _ v _ => v = (.slice ady R.length cpy), fun _ v _ => v = (.bool true), fun _ v _ => v = (.bool true), fun _ v _ => v = (.bool true), fun _ v _ => v = (.agg #[.int .i64 k, .string n, .slice sl ks.length cap]), fun _ v _ => v = (.slice ady R.length cpy), fun y v _ => v = .slice y.ad R.length y.cp, fun _ v _ => v = (.string ⟨t.toArray⟩), fun _ v w => ∃ q, v = .slice (some ⟨q, 0, none⟩) 1 1 ∧ w.heap[q]? = some (.cells #[.string ⟨t.toArray⟩] 9 (0, 0)), fun y v _ => v = .slice y.ad' (R.length + 1) y.cp', fun _ v _ => v = .bool tg, fun _ v _ => v = .bool tg] (fun L j => !(j == 14 && L 15)) (fun L => StT W R t (L 12) (L 15)) (GT.none0) ?_ ?_ ?_)
                · exact fun wx h _ => ⟨h, fun e => (by cases e), fun e => (by cases e)⟩
                · refine ⟨?_, ?_, ?_, ?_, ?_, ?_, ?_, ?_, ?_, ?_, ?_, ?_, ?_, ?_, ?_, ?_, ?_, ?_, trivial⟩
                  · intro L y a wx hSt hLi hdl hcl hold hdep K hK
                    have HSt : Hid (StT W R t (L 12) (L 15) y wx) := hSt; clear hSt; have t10 : a.tmps[10]? = some (.slice ady R.length cpy) := hold 10 rfl; clear hold hdep hdl hcl hLi; go_simp; (exact hK.out _ _ y HSt.out rfl (fun j hj hl => ⟨hl, fun u h => h⟩))
                  · intro L y a wx hSt hLi hdl hcl hold hdep K hK
                    have HSt : Hid (StT W R t (L 12) (L 15) y wx) := hSt; clear hSt; have t1 : a.tmps[1]? = some (.string ⟨t.toArray⟩) := hold 1 rfl; clear hold hdep hdl hcl hLi; go_simp; (exact hK.out _ _ y HSt.out rfl (fun j hj hl => ⟨hl, fun u h => h⟩))
                  · intro L y a wx hSt hLi hdl hcl hold hdep K hK
                    have HSt : Hid (StT W R t (L 12) (L 15) y wx) := hSt; clear hSt; obtain ⟨v55, t55, q55⟩ := hdep 0 rfl _ 55 rfl rfl; have e55 : v55 = (.slice ady R.length cpy) := q55 rfl; subst e55; obtain ⟨v56, t56, q56⟩ := hdep 1 rfl _ 56 rfl rfl; have e56 : v56 = (.string ⟨t.toArray⟩) := q56 rfl; subst e56; clear hold hdep hdl hcl hLi; go_simp; refine (HHt.out _ wx (HYw.out.up HSt.out.below)).mono ?_; rintro e w3 ⟨rfl, hw3⟩; subst hw3; (exact hK.out _ _ y HSt.out rfl (fun j hj hl => ⟨hl, fun u h => h⟩))
                  · intro L y a wx hSt hLi hdl hcl hold hdep K hK
                    have HSt : Hid (StT W R t (L 12) (L 15) y wx) := hSt; clear hSt; obtain ⟨v57, t57, q57⟩ := hdep 2 rfl _ 57 rfl rfl; have e57 : v57 = (.bool false) := q57 rfl; subst e57; clear hold hdep hdl hcl hLi; go_simp; (exact hK.out _ _ y HSt.out rfl (fun j hj hl => ⟨hl, fun u h => h⟩))
                  · intro L y a wx hSt hLi hdl hcl hold hdep K hK
                    have HSt : Hid (StT W R t (L 12) (L 15) y wx) := hSt; clear hSt; obtain ⟨v58, t58, q58⟩ := hdep 3 rfl _ 58 rfl rfl; have e58 : v58 = (.bool true) := q58 rfl; subst e58; clear hold hdep hdl hcl hLi; go_simp; (exact hK.out _ _ y HSt.out rfl (fun j hj hl => ⟨hl, fun u h => h⟩))
                  · intro L y a wx hSt hLi hdl hcl hold hdep K hK
                    have HSt : Hid (StT W R t (L 12) (L 15) y wx) := hSt; clear hSt; obtain ⟨v59, t59, q59⟩ := hdep 4 rfl _ 59 rfl rfl; have e59 : v59 = (.bool true) := q59 rfl; subst e59; have t2 : a.tmps[2]? = some (.pointer (some ⟨w.heap.size, 0, none⟩)) := hold 2 rfl; obtain ⟨d0, d1, d2, -⟩ := blk3 (below_keep HSt.out.below S0.out); clear hold hdep hdl hcl hLi; go_simp; (exact hK.out _ _ y HSt.out rfl (fun j hj hl => ⟨hl, fun u h => h⟩))
                  · intro L y a wx hSt hLi hdl hcl hold hdep K hK
                    have HSt : Hid (StT W R t (L 12) (L 15) y wx) := hSt; clear hSt; obtain ⟨v59, t59, q59⟩ := hdep 4 rfl _ 59 rfl rfl; have e59 : v59 = (.bool true) := q59 rfl; subst e59; have t10 : a.tmps[10]? = some (.slice ady R.length cpy) := hold 10 rfl; clear hold hdep hdl hcl hLi; go_simp; (exact hK.out _ _ y HSt.out rfl (fun j hj hl => ⟨hl, fun u h => h⟩))
                  · intro L y a wx hSt hLi hdl hcl hold hdep K hK
                    have HSt : Hid (StT W R t (L 12) (L 15) y wx) := hSt; clear hSt; obtain ⟨v59, t59, q59⟩ := hdep 4 rfl _ 59 rfl rfl; have e59 : v59 = (.bool true) := q59 rfl; subst e59; obtain ⟨v60, t60, q60⟩ := hdep 5 rfl _ 60 rfl rfl; have e60 : v60 = (.agg #[.int .i64 k, .string n, .slice sl ks.length cap]) := q60 rfl; subst e60; obtain ⟨v61, t61, q61⟩ := hdep 6 rfl _ 61 rfl rfl; have e61 : v61 = (.slice ady R.length cpy) := q61 rfl; subst e61; clear hold hdep hdl hcl; go_simp; refine (HT1.out _ _ wx ((RFw.out).up HSt.out.below) (HYw.out.up HSt.out.below)).mono ?_; rintro e w3 ⟨rfl, hb3⟩; refine hK.out _ _ y (HSt.out.up hb3) rfl ?_; intro j hj hl
                    rcases j with _ | _ | _ | _ | _ | _ | _ | _ | _ | _ | _ | _ | _ | _ | _ | _ | _ | _ | j
                    · exact ⟨hl, fun u h => h⟩
                    · exact ⟨hl, fun u h => h⟩
                    · exact ⟨hl, fun u h => h⟩
                    · exact ⟨hl, fun u h => h⟩
                    · exact ⟨hl, fun u h => h⟩
                    · exact ⟨hl, fun u h => h⟩
                    · exact ⟨hl, fun u h => h⟩
                    · exact Bool.noConfusion (hLi.symm.trans hj)
                    · exact ⟨hl, fun u h => h⟩
                    · exact ⟨hl, fun u h => h⟩
                    · exact ⟨hl, fun u h => h⟩
                    · exact ⟨hl, fun u h => h⟩
                    · exact ⟨hl, fun u h => h⟩
                    · exact ⟨hl, fun u h => h⟩
                    · exact ⟨hl, fun u ⟨q, e, h⟩ => ⟨q, e, below_keep hb3 h⟩⟩
                    · exact ⟨hl, fun u h => h⟩
                    · exact ⟨hl, fun u h => h⟩
                    · exact ⟨hl, fun u h => h⟩
                    · exact ⟨hl, fun u h => h⟩
                  · intro L y a wx hSt hLi hdl hcl hold hdep K hK
                    have HSt : Hid (StT W R t (L 12) (L 15) y wx) := hSt; clear hSt; obtain ⟨v59, t59, q59⟩ := hdep 4 rfl _ 59 rfl rfl; have e59 : v59 = (.bool true) := q59 rfl; subst e59; obtain ⟨v62, t62, q62⟩ := hdep 7 rfl _ 62 rfl rfl; have e62 : v62 = (.bool true) := q62 rfl; subst e62; clear hold hdep hdl hcl hLi; go_simp; (exact hK.out _ _ y HSt.out rfl (fun j hj hl => ⟨hl, fun u h => h⟩))
                  · intro L y a wx hSt hLi hdl hcl hold hdep K hK
                    have HSt : Hid (StT W R t (L 12) (L 15) y wx) := hSt; clear hSt; obtain ⟨v63, t63, q63⟩ := hdep 8 rfl _ 63 rfl rfl; have e63 : v63 = (.bool true) := q63 rfl; subst e63; clear hold hdep hdl hcl hLi; go_simp; (exact hK.out _ _ y HSt.out rfl (fun j hj hl => ⟨hl, fun u h => h⟩))
                  · intro L y a wx hSt hLi hdl hcl hold hdep K hK
                    have HSt : Hid (StT W R t (L 12) (L 15) y wx) := hSt; clear hSt; obtain ⟨v64, t64, q64⟩ := hdep 9 rfl _ 64 rfl rfl; have e64 : v64 = (.bool true) := q64 rfl; subst e64; have t2 : a.tmps[2]? = some (.pointer (some ⟨w.heap.size, 0, none⟩)) := hold 2 rfl; obtain ⟨d0, d1, d2, -⟩ := blk3 (below_keep HSt.out.below S0.out); clear hold hdep hdl hcl hLi; go_simp; (exact hK.out _ _ y HSt.out rfl (fun j hj hl => ⟨hl, fun u h => h⟩))
                  · intro L y a wx hSt hLi hdl hcl hold hdep K hK
                    have HSt : Hid (StT W R t (L 12) (L 15) y wx) := hSt; clear hSt; obtain ⟨v64, t64, q64⟩ := hdep 9 rfl _ 64 rfl rfl; have e64 : v64 = (.bool true) := q64 rfl; subst e64; have t10 : a.tmps[10]? = some (.slice ady R.length cpy) := hold 10 rfl; clear hold hdep hdl hcl hLi; go_simp; (exact hK.out _ _ y HSt.out rfl (fun j hj hl => ⟨hl, fun u h => h⟩))
                  · intro L y a wx hSt hLi hdl hcl hold hdep K hK
                    have HSt : Hid (StT W R t (L 12) (L 15) y wx) := hSt; clear hSt; obtain ⟨v64, t64, q64⟩ := hdep 9 rfl _ 64 rfl rfl; have e64 : v64 = (.bool true) := q64 rfl; subst e64; obtain ⟨v66, t66, q66⟩ := hdep 11 rfl _ 66 rfl rfl; have e66 : v66 = (.slice ady R.length cpy) := q66 rfl; subst e66; (have e15 : L 15 = false := not_yet hLi fun h => hcl 15 _ rfl h 12 rfl); have hzw := HSt.out.below.size; clear hold hdep hdl; rw [if_pos]
                    case hc => go_simp
                    (refine wp_appS _ _ rfl W.heap.size [] R none 0 _ rfl KS.nil (eval_tmpB t66) (HYw.out.up HSt.out.below) hzw (by have := HRl.out; simp; omega) ?_); intro ad3 cp3 w3 hown3 hk3 hat3; (have hb3 : Below wx.heap.size wx w3 := ⟨hk3.os, hk3.tape, hk3.output, hk3.size, fun b hb => hk3.block b hb (fun e => by cases e)⟩); refine hK.out _ _ { y with ad := ad3, cp := cp3 } (HSt.out.mine e15 hb3 hown3) rfl ?_; intro j hj hl
                    rcases j with _ | _ | _ | _ | _ | _ | _ | _ | _ | _ | _ | _ | _ | _ | _ | _ | _ | _ | j
                    · exact ⟨hl, fun u h => h⟩
                    · exact ⟨hl, fun u h => h⟩
                    · exact ⟨hl, fun u h => h⟩
                    · exact ⟨hl, fun u h => h⟩
                    · exact ⟨hl, fun u h => h⟩
                    · exact ⟨hl, fun u h => h⟩
                    · exact ⟨hl, fun u h => h⟩
                    · exact ⟨hl, fun u h => h⟩
                    · exact ⟨hl, fun u h => h⟩
                    · exact ⟨hl, fun u h => h⟩
                    · exact ⟨hl, fun u h => h⟩
                    · exact ⟨hl, fun u h => h⟩
                    · exact Bool.noConfusion (hLi.symm.trans hj)
                    · exact ⟨hl, fun u h => h⟩
                    · exact ⟨hl, fun u ⟨q, e, h⟩ => ⟨q, e, below_keep hb3 h⟩⟩
                    · exact Bool.noConfusion (hLi.symm.trans (hcl 15 _ rfl hj 12 rfl))
                    · exact ⟨hl, fun u h => h⟩
                    · exact ⟨hl, fun u h => h⟩
                    · exact ⟨hl, fun u h => h⟩
                  · intro L y a wx hSt hLi hdl hcl hold hdep K hK
                    have HSt : Hid (StT W R t (L 12) (L 15) y wx) := hSt; clear hSt; obtain ⟨v64, t64, q64⟩ := hdep 9 rfl _ 64 rfl rfl; have e64 : v64 = (.bool true) := q64 rfl; subst e64; have t1 : a.tmps[1]? = some (.string ⟨t.toArray⟩) := hold 1 rfl; clear hold hdep hdl hcl hLi; go_simp; (exact hK.out _ _ y HSt.out rfl (fun j hj hl => ⟨hl, fun u h => h⟩))
                  · intro L y a wx hSt hLi hdl hcl hold hdep K hK
                    have HSt : Hid (StT W R t (L 12) (L 15) y wx) := hSt; clear hSt; obtain ⟨v64, t64, q64⟩ := hdep 9 rfl _ 64 rfl rfl; have e64 : v64 = (.bool true) := q64 rfl; subst e64; obtain ⟨v68, t68, q68⟩ := hdep 13 rfl _ 68 rfl rfl; have e68 : v68 = (.string ⟨t.toArray⟩) := q68 rfl; subst e68; clear hold hdep hdl hcl; go_simp; have hb3 := below_more (Below.refl wx.heap.size wx) (.cells #[.string ⟨t.toArray⟩] 9 (0, 0)); refine hK.out _ _ y (HSt.out.up hb3) ⟨wx.heap.size, rfl, blk_new wx _⟩ ?_; intro j hj hl
                    rcases j with _ | _ | _ | _ | _ | _ | _ | _ | _ | _ | _ | _ | _ | _ | _ | _ | _ | _ | j
                    · exact ⟨hl, fun u h => h⟩
                    · exact ⟨hl, fun u h => h⟩
                    · exact ⟨hl, fun u h => h⟩
                    · exact ⟨hl, fun u h => h⟩
                    · exact ⟨hl, fun u h => h⟩
                    · exact ⟨hl, fun u h => h⟩
                    · exact ⟨hl, fun u h => h⟩
                    · exact ⟨hl, fun u h => h⟩
                    · exact ⟨hl, fun u h => h⟩
                    · exact ⟨hl, fun u h => h⟩
                    · exact ⟨hl, fun u h => h⟩
                    · exact ⟨hl, fun u h => h⟩
                    · exact ⟨hl, fun u h => h⟩
                    · exact ⟨hl, fun u h => h⟩
                    · exact Bool.noConfusion (hLi.symm.trans hj)
                    · exact ⟨hl, fun u h => h⟩
                    · exact ⟨hl, fun u h => h⟩
                    · exact ⟨hl, fun u h => h⟩
                    · exact ⟨hl, fun u h => h⟩
                  · intro L y a wx hSt hLi hdl hcl hold hdep K hK
                    have HSt : Hid (StT W R t (L 12) (L 15) y wx) := hSt; clear hSt; obtain ⟨v64, t64, q64⟩ := hdep 9 rfl _ 64 rfl rfl; have e64 : v64 = (.bool true) := q64 rfl; subst e64; obtain ⟨v67, t67, q67⟩ := hdep 12 rfl _ 67 rfl rfl; have eo : v67 = .slice y.ad R.length y.cp := q67 rfl; subst eo; obtain ⟨v69, t69, q69⟩ := hdep 14 rfl _ 69 rfl rfl; (obtain ⟨gq, eq9, hgq⟩ := q69 (by show (!(L 15)) = true; rw [hLi]; rfl)); subst eq9; have e12 : L 12 = true := hdl 12 rfl; have hzw := HSt.out.below.size; clear hold hdep hdl; rw [if_pos]
                    case hc => go_simp
                    (refine wp_appS _ _ rfl W.heap.size R [t] y.ad y.cp _ (eval_tmpB t67) (HSt.out.own e12 hLi) (eval_tmpB t69) (SL.one hgq) hzw (by have := HRl.out; simp; omega) ?_); intro ad3 cp3 w3 hown3 hk3 hat3; (have e9 : (R ++ [t]).length = R.length + 1 := by simp); rw [e9]; refine hK.out _ _ { y with ad' := ad3, cp' := cp3 } (HSt.out.append e12 hLi hown3 hk3) rfl ?_; intro j hj hl
                    rcases j with _ | _ | _ | _ | _ | _ | _ | _ | _ | _ | _ | _ | _ | _ | _ | _ | _ | _ | j
                    · exact ⟨hl, fun u h => h⟩
                    · exact ⟨hl, fun u h => h⟩
                    · exact ⟨hl, fun u h => h⟩
                    · exact ⟨hl, fun u h => h⟩
                    · exact ⟨hl, fun u h => h⟩
                    · exact ⟨hl, fun u h => h⟩
                    · exact ⟨hl, fun u h => h⟩
                    · exact ⟨hl, fun u h => h⟩
                    · exact ⟨hl, fun u h => h⟩
                    · exact ⟨hl, fun u h => h⟩
                    · exact ⟨hl, fun u h => h⟩
                    · exact ⟨hl, fun u h => h⟩
                    · exact ⟨hl, fun u h => h⟩
                    · exact ⟨hl, fun u h => h⟩
                    · exact Bool.noConfusion (show (false : Bool) = true from hl)
                    · exact Bool.noConfusion (hLi.symm.trans hj)
                    · exact ⟨hl, fun u h => h⟩
                    · exact ⟨hl, fun u h => h⟩
                    · exact ⟨hl, fun u h => h⟩
                  · intro L y a wx hSt hLi hdl hcl hold hdep K hK
                    have HSt : Hid (StT W R t (L 12) (L 15) y wx) := hSt; clear hSt; obtain ⟨v64, t64, q64⟩ := hdep 9 rfl _ 64 rfl rfl; have e64 : v64 = (.bool true) := q64 rfl; subst e64; obtain ⟨v65, t65, q65⟩ := hdep 10 rfl _ 65 rfl rfl; have e65 : v65 = (.agg #[.int .i64 k, .string n, .slice sl ks.length cap]) := q65 rfl; subst e65; obtain ⟨v70, t70, q70⟩ := hdep 15 rfl _ 70 rfl rfl; have e70 : v70 = (.slice y.ad' (R.length + 1) y.cp') := q70 rfl; subst e70; have e15 : L 15 = true := hdl 15 rfl; clear hold hdep hdl hcl; go_simp; refine (HT2.out _ _ wx ((RFw.out).up HSt.out.below) (HSt.out.app e15)).mono ?_; rintro e w3 ⟨rfl, hb3⟩; refine hK.out _ _ y (HSt.out.up hb3) rfl ?_; intro j hj hl
                    rcases j with _ | _ | _ | _ | _ | _ | _ | _ | _ | _ | _ | _ | _ | _ | _ | _ | _ | _ | j
                    · exact ⟨hl, fun u h => h⟩
                    · exact ⟨hl, fun u h => h⟩
                    · exact ⟨hl, fun u h => h⟩
                    · exact ⟨hl, fun u h => h⟩
                    · exact ⟨hl, fun u h => h⟩
                    · exact ⟨hl, fun u h => h⟩
                    · exact ⟨hl, fun u h => h⟩
                    · exact ⟨hl, fun u h => h⟩
                    · exact ⟨hl, fun u h => h⟩
                    · exact ⟨hl, fun u h => h⟩
                    · exact ⟨hl, fun u h => h⟩
                    · exact ⟨hl, fun u h => h⟩
                    · exact ⟨hl, fun u h => h⟩
                    · exact ⟨hl, fun u h => h⟩
                    · exact ⟨hl, fun u ⟨q, e, h⟩ => ⟨q, e, below_keep hb3 h⟩⟩
                    · exact ⟨hl, fun u h => h⟩
                    · exact Bool.noConfusion (hLi.symm.trans hj)
                    · exact ⟨hl, fun u h => h⟩
                    · exact ⟨hl, fun u h => h⟩
                  · intro L y a wx hSt hLi hdl hcl hold hdep K hK
                    have HSt : Hid (StT W R t (L 12) (L 15) y wx) := hSt; clear hSt; obtain ⟨v64, t64, q64⟩ := hdep 9 rfl _ 64 rfl rfl; have e64 : v64 = (.bool true) := q64 rfl; subst e64; obtain ⟨v71, t71, q71⟩ := hdep 16 rfl _ 71 rfl rfl; have e71 : v71 = (.bool tg) := q71 rfl; subst e71; clear hold hdep hdl hcl hLi; go_simp; (exact hK.out _ _ y HSt.out rfl (fun j hj hl => ⟨hl, fun u h => h⟩))
                · intro L y a wx hall hSt hsz hdf hold hgot
                  have hS : StT W R t (L 12) (L 15) y wx := hSt; have hbX := hS.below; obtain ⟨v72, t72, q72⟩ := hgot 17 _ 72 rfl rfl; have e72 : v72 = .bool tg := q72 rfl; subst e72; obtain ⟨tm, df⟩ := a; (obtain ⟨ys, hys, htm, rfl⟩ := frame_midB 55 18 (by kernel_rfl) (Nat.le_of_ble_eq_true rfl) ⟨hsz, hdf, hold⟩); obtain ⟨x55, x56, x57, x58, x59, x60, x61, x62, x63, x64, x65, x66, x67, x68, x69, x70, x71, x72, rfl⟩ := rowOf18 ys hys; simp only [List.take_succ_cons, List.take_zero, List.drop_succ_cons, List.drop_zero, List.cons_append, List.nil_append] at htm; subst htm; obtain rfl : x72 = _ := someInjB t72; clear hys hold hgot hall hSt hsz hdf t72 q72 hS; have HBX : Hid (Below W.heap.size W wx) := hbX; clear hbX
                  cases tg
                  case false =>
                    (have HAw : Hid (openTo (.mk k n ks) t UF (j + 1) = openTo (.mk k n ks) t UF j) := by have := HAv.out; rwa [Bool.or_false] at this); go_wp2_with fail
                    go_roundg (MF - (j + 1))
                    case measure => have := HG.out; have := HJ.out; omega
                    case rel => exact ⟨j + 1, HJ.out.1, rfl, by go_num, below_join HB7.out HBX.out, HSr7.out.up HBX.out, by show _ = _; rw [HAw.out]; exact below_keep HBX.out HQ7.out⟩
                  case true =>
                    (have HAw : Hid (openTo (.mk k n ks) t UF (j + 1) = true) := by have := HAv.out; rwa [Bool.or_true] at this); go_wp2_with fail; refine (HF.out _ _ _).mono ?_; rintro e w8 ⟨rfl, hb8⟩; have HB8 : Hid (Below W.heap.size W w8) := below_join HBX.out hb8; have q8 := below_keep HB8.out HQ7.out; have hy7 := HYs.out; have HQ8 : Hid (((w8.setCell ⟨b7, 0, none⟩ (.int .i64 6)).setCell ⟨b7, 1, none⟩ (.int .i64 0)).heap[b7]? = some (.cells #[.int .i64 6, .int .i64 0] 33 (0, 0))) := set2 q8 _ _; have HB9 : Hid (Below Y.heap.size Y ((w8.setCell ⟨b7, 0, none⟩ (.int .i64 6)).setCell ⟨b7, 1, none⟩ (.int .i64 0))) := below_put2 hy7 (below_join HB7.out HB8.out) _ _; have HS9 : Hid (SL ((w8.setCell ⟨b7, 0, none⟩ (.int .i64 6)).setCell ⟨b7, 1, none⟩ (.int .i64 0)) (.slice ada UF.length cpa) UF) := sl_put2 (HSr7.out.up HB8.out) q8; clear hb8; obtain ⟨o0, o1, o2, o3⟩ := blk2 q8; have y8 := lt_of_block q8; go_wp2_with fail
                    go_roundg (MF - (j + 1))
                    case measure => have := HG.out; have := HJ.out; omega
                    case rel => exact ⟨j + 1, HJ.out.1, rfl, by go_num, HB9, HS9, by show _ = _; rw [HAw.out]; exact HQ8.out⟩
          · have hjj : j = MF := by omega
            subst hjj; (have hge : ¬ (j : Int) < (j : Int) := by omega); have hEnd := HEnd.out; clear hlt hj HEnd; generalize openTo (.mk k n ks) t UF j = oo at *; obtain ⟨F, hF⟩ : ∃ F, F = wr := ⟨_, rfl⟩; subst hF; have N5 : Hid (F.heap[b5]? = some (.cells #[.int .i64 kh, .string nh, .slice sh ksh.length ch] 24 (0, 0))) := below_keep HBr.out Y5.out; have N6 : Hid (F.heap[b6]? = some (.cells #[.int .i64 ic, .int .i64 jc] 33 (0, 0))) := below_keep HBr.out Y6.out; have HBN : Hid (Below w.heap.size w F) := below_join HBY.out HBr.out
            cases oo
            case true =>
              obtain ⟨h1, h2⟩ := hEnd.1 rfl; have hic : ic = 6 ∧ jc = 0 := ⟨congrArg Prod.fst h1, congrArg Prod.snd h1⟩; obtain ⟨rfl, rfl⟩ := hic; have HDz : Hid (D = zF) := h2; have N7 : Hid (F.heap[b7]? = some (.cells #[.int .i64 6, .int .i64 0] 33 (0, 0))) := HQr; have hwF := HWF.out; clear hEnd h1 h2; obtain ⟨c0, c1, c2, -⟩ := blk3 N5.out; obtain ⟨m0, m1, -⟩ := blk2 N6.out; obtain ⟨o0, o1, -⟩ := blk2 N7.out; have hDz := HDe.out; rw [HDz.out] at hDz; unfold zF at hDz
              injection hDz with e1 e2 e3
              subst e1 e2 e3; (have hrF : Rep F (fun _ => True) (.mk 0 ⟨#[]⟩ []) (.agg #[.int .i64 0, .string ⟨#[]⟩, .slice sh 0 ch]) := rep_leafW (w := w5) (by have := HRh.out; rw [HDz.out] at this; exact this)); (have HRF : Hid (Rep F (fun _ => True) (.mk 0 ⟨#[]⟩ []) (.agg #[.int .i64 0, .string ⟨#[]⟩, .slice sh 0 ch])) := hrF); clear hrF; go_wp2_with fail; refine (none_any 0 ⟨#[]⟩ [] _ _ HRF.out).mono ?_; rintro e w9 ⟨rfl, hb9⟩; have B9 := below_join HBN.out hb9; clear hb9 c0 c1 c2 m0 m1 o0 o1; go_wp2_with fail; go_ret; exact ⟨rfl, B9⟩
            case false =>
              obtain ⟨h1, h2, h3, h4⟩ := hEnd.2 rfl; have hic : ic = 0 ∧ jc = 0 := ⟨congrArg Prod.fst h1, congrArg Prod.snd h1⟩; obtain ⟨rfl, rfl⟩ := hic; have N7 : Hid (F.heap[b7]? = some (.cells #[.int .i64 0, .int .i64 0] 33 (0, 0))) := HQr; (have HPl : Hid (∀ v u W, Rep W (fun _ => True) D v → SL W u (UF.filter fun x => !decide (x = t)) → Calls Try.prog 21 #[v, u] W fun e w' => e = .returned (.bool true) ∧ Below W.heap.size W w') := h2); (have HTh : Hid (∀ l v u W, Rep W (fun _ => True) D v → SL W u l → Calls Try.prog 26 #[v, u] W fun e w' => e = .returned (.bool (tvL D l)) ∧ Below W.heap.size W w') := h3); have HRw : Hid (∀ m, tvL (.mk k n ks) (rowN m UF 0) = true → tvL D (rowN m UF 0) = decide (t ∈ rowN m UF 0)) := h4; (have HRhF : Hid (Rep F (fun _ => True) D (.agg #[.int .i64 kh, .string nh, .slice sh ksh.length ch])) := HRhY.out.up HBr.out); have N0 : Hid (F.heap[w.heap.size]? = some (.cells #[.int .i64 k, .string n, .slice sl ks.length cap] 24 (0, 0))) := below_keep HBr.out Y0.out; have hwF := HWF.out; clear hEnd h1 h2 h3 h4; obtain ⟨m0, m1, -⟩ := blk2 N6.out; obtain ⟨o0, o1, -⟩ := blk2 N7.out; go_wp2_with fail; clear hwF m0 m1 o0 o1; obtain ⟨adU, cpU, hU0, hU1, hU2, hU3⟩ := HSr.out; simp only [Value.slice.injEq] at hU0; obtain ⟨e1, -, e2⟩ := hU0; subst e1 e2; have HU3 : Hid (UF ≠ [] → ∃ g off, ada = some ⟨g, off, none⟩ ∧ ∀ (j : Nat) (x : List UInt8), UF[j]? = some x → F.cell? ⟨g, off + j, none⟩ = some (.string ⟨x.toArray⟩)) := hU3; (have hUc : (UF.length : Int) ≤ (cpa : Int) := by omega); clear hU1 hU2 hU3
              go_loopg [12, 11] UF.length (fun g c o wr => ∃ i ad cy L, i ≤ UF.length ∧ g = UF.length - i ∧ c = .int .i64 (i : Nat) ∧ o = .slice ad L.length cy ∧ Hid (Below F.heap.size F wr) ∧ Hid (KS F.heap.size wr ad cy L) ∧ Hid (L = (UF.take i).filter fun x => !decide (x = t)))
              case atStart => exact ⟨0, none, 0, [], by omega, by omega, rfl, rfl, Below.refl _ _, KS.nil, by show _ = _; rfl⟩
              case round =>
                obtain ⟨i, ad, cy, L, hi, hg, rfl, rfl, HBs, HK, HL⟩ := hrel; have HG2 : Hid (gk = UF.length - i) := hg; clear hg; by_cases hlt : i < UF.length
                · obtain ⟨x, hx⟩ : ∃ x, UF[i]? = some x := ⟨_, List.getElem?_eq_getElem hlt⟩
                  (obtain ⟨gn, offn, rfl, hcn⟩ := HU3.out (fun e => by rw [e] at hlt; simp at hlt)); have g0 : wr.cell? ⟨gn, offn + i, none⟩ = some (.string ⟨x.toArray⟩) := (HBs.out.cell (p := ⟨gn, offn + i, none⟩) (lt_of_cell (hcn i x hx))).trans (hcn i x hx); (have hltI : (i : Int) < (UF.length : Int) := by omega); (have hltc : (i : Int) < (cpa : Int) := by omega); have HI : Hid (i < UF.length) := hlt
                  have HTk : Hid ((UF.take (i + 1)).filter (fun x => !decide (x = t)) = L ++ if x = t then [] else [x]) := by
                    show _ = _; rw [List.take_add_one, hx, List.filter_append, HL.out]; by_cases e : x = t
                    · rw [if_pos e]; simp [e]
                    · rw [if_neg e]; simp [e]
                  have HLl : Hid (L.length ≤ 6) := by
                    have h1 := congrArg List.length HL.out; (have h2 := List.length_filter_le (fun x => !decide (x = t)) (UF.take i)); have h3 := List.length_take_le i UF; have h4 := HU6.out; show _ ≤ _; rw [List.length_take] at h2; omega
                  have HSz : Hid (F.heap.size ≤ wr.heap.size) := HBs.out.size; clear hcn hx hlt hi; by_cases hxt : x = t
                  · have HTk2 : Hid ((UF.take (i + 1)).filter (fun x => !decide (x = t)) = L) := by have := HTk.out; rwa [if_pos hxt, List.append_nil] at this
                    (have hne : (x.toArray.toList != t.toArray.toList) = false := by rw [hxt]; simp); (have hne2 : (x != t) = false := by rw [hxt]; simp); clear HTk; subst hxt; go_wp2_with fail
                    go_roundg (UF.length - (i + 1))
                    case measure => have := HG2.out; have := HI.out; omega
                    case rel => exact ⟨i + 1, ad, cy, L, HI.out, rfl, by go_num, rfl, HBs, HK, HTk2.out.symm⟩
                  · have HTk2 : Hid ((UF.take (i + 1)).filter (fun x => !decide (x = t)) = L ++ [x]) := by have := HTk.out; rwa [if_neg hxt] at this
                    (have hne : (x == t) = false := by simpa using hxt); have HXt : Hid (¬ x = t) := hxt; clear HTk
                    go_wp2_with (first
                      | (at_builtin
                         (refine wpList_appS rfl _ _ rfl F.heap.size L [x] ad cy _ rfl (HK.out.up (below_more (Below.refl _ wr) _)) rfl (SL.one (blk_new wr _)) (by have := HSz.out; simp; omega) (by have := HLl.out; simp; omega) ?_); intro ad3 cp3 w3 hown3 hk3 hat3; have HO3 : Hid (KS F.heap.size w3 ad3 cp3 (L ++ [x])) := hown3
                         have HB5 : Hid (Below F.heap.size F w3) := by
                           have h1 := below_join HBs.out (below_more (Below.refl _ wr) (.cells #[.string ⟨x.toArray⟩] 9 (0, 0))); (exact ⟨hk3.os.trans h1.os, hk3.tape.trans h1.tape, hk3.output.trans h1.output, Nat.le_trans h1.size hk3.size, fun b hb => (hk3.block b (Nat.lt_of_lt_of_le hb h1.size) fun e => by have := (World.ownsRow.lt HK.out b e).1; omega).trans (h1.block b hb)⟩)
                         clear hown3 hk3 hat3)
                      | fail)
                    go_roundg (UF.length - (i + 1))
                    case measure => have := HG2.out; have := HI.out; omega
                    case rel => exact ⟨i + 1, ad3, cp3, L ++ [x], HI.out, rfl, by go_num, by simp, HB5, HO3, HTk2.out.symm⟩
                · have hii : i = UF.length := by omega
                  subst hii; (have hge2 : ¬ (UF.length : Int) < (UF.length : Int) := by omega); have hLe := HL.out; rw [List.take_length] at hLe; (have HSl : Hid (SL wr (.slice ad L.length cy) (UF.filter fun x => !decide (x = t))) := by rw [← hLe]; exact (KS.list HK.out).sl); clear hlt hi hLe; obtain ⟨c0, c1, c2, -⟩ := blk3 (below_keep HBs.out N5.out); go_wp2_with fail; refine (HPl.out _ _ _ (HRhF.out.up HBs.out) HSl.out).mono ?_; rintro e wc ⟨rfl, hbc⟩; have HBc : Hid (Below F.heap.size F wc) := below_join HBs.out hbc; have SA : Hid (SL wc (.slice ada UF.length cpa) UF) := HSr.out.up HBc.out; have C0 : Hid (wc.heap[w.heap.size]? = some (.cells #[.int .i64 k, .string n, .slice sl ks.length cap] 24 (0, 0))) := below_keep HBc.out N0.out; have C5 : Hid (wc.heap[b5]? = some (.cells #[.int .i64 kh, .string nh, .slice sh ksh.length ch] 24 (0, 0))) := below_keep HBc.out N5.out; (have RHc : Hid (Rep wc (fun _ => True) D (.agg #[.int .i64 kh, .string nh, .slice sh ksh.length ch])) := HRhF.out.up HBc.out); (have RFc : Hid (Rep wc (fun _ => True) (.mk k n ks) (.agg #[.int .i64 k, .string n, .slice sl ks.length cap])) := (HRf.out.up HBN.out).up HBc.out); clear hbc c0 c1 c2 HPl HSl HK HBs HL; go_wp2_with fail
                  go_loopg [13] j (fun g cc wr => ∃ m, m ≤ j ∧ g = j - m ∧ cc = .int .i64 (m : Nat) ∧ Hid (Below wc.heap.size wc wr))
                  case atStart => exact ⟨0, by omega, by omega, rfl, Below.refl _ _⟩
                  case round =>
                    obtain ⟨m, hm, hg, rfl, HBm⟩ := hrel; have HG3 : Hid (gk = j - m) := hg; clear hg; by_cases hlt : m < j
                    · have hltI : (m : Int) < (j : Int) := Int.ofNat_lt.mpr hlt
                      (have HJ3 : Hid (m < j ∧ m ≤ 100000) := ⟨hlt, Nat.le_trans (Nat.le_of_lt hlt) (Nat.le_trans HMM.out.2 (by decide))⟩); clear hlt hm; have hwF := HWF.out; go_wp2_with fail; clear hwF; (refine (row_any m HJ3.out.2 UF (by have := HU6.out; omega) _ _ (SA.out.up HBm.out)).mono ?_); rintro e wd ⟨yd, rfl, hyd, hbd⟩; have HYd : Hid (SL wd yd (rowN m UF 0)) := hyd.sl; obtain ⟨ady, cpy, rfl, -⟩ := hyd; have HBd : Hid (Below wc.heap.size wc wd) := below_join HBm.out hbd; have HRm : Hid (tvL (.mk k n ks) (rowN m UF 0) = true → tvL D (rowN m UF 0) = decide (t ∈ rowN m UF 0)) := HRw.out m; (have HHt : Hid (∀ v W, SL W v (rowN m UF 0) → Calls Try.prog 29 #[v, .string ⟨t.toArray⟩] W fun e w' => e = .returned (.bool (decide (t ∈ rowN m UF 0))) ∧ w' = W) := fun v W h => hasText_sl _ t v W h); (have HT1 : Hid (∀ v u W, Rep W (fun _ => True) (.mk k n ks) v → SL W u (rowN m UF 0) → Calls Try.prog 26 #[v, u] W fun e w' => e = .returned (.bool (tvL (.mk k n ks) (rowN m UF 0))) ∧ Below W.heap.size W w') := HTf.out _); (have HT2 : Hid (∀ v u W, Rep W (fun _ => True) D v → SL W u (rowN m UF 0) → Calls Try.prog 26 #[v, u] W fun e w' => e = .returned (.bool (tvL D (rowN m UF 0))) ∧ Below W.heap.size W w') := HTh.out _); generalize rowN m UF 0 = R at *; generalize tvL (.mk k n ks) R = tf at *; generalize tvL D R = td at *; generalize decide (t ∈ R) = ht at *; clear hbd; obtain ⟨d0, d1, d2, -⟩ := blk3 (below_keep HBd.out C0.out); go_wp2_with fail; refine (HT1.out _ _ _ (RFc.out.up HBd.out) HYd.out).mono ?_; rintro e we ⟨rfl, hbe⟩; have HBe2 : Hid (Below wc.heap.size wc we) := below_join HBd.out hbe; have HYe : Hid (SL we (.slice ady R.length cpy) R) := HYd.out.up hbe; clear hbe d0 d1 d2
                      cases tf
                      case false =>
                        go_wp2_with fail
                        go_roundg (j - (m + 1))
                        case measure => have := HG3.out; have := HJ3.out; omega
                        case rel => exact ⟨m + 1, HJ3.out.1, rfl, by go_num, HBe2⟩
                      case true =>
                        have hed : td = ht := HRm.out rfl; subst hed; obtain ⟨d0, d1, d2, -⟩ := blk3 (below_keep HBe2.out C5.out); go_wp2_with fail; refine (HT2.out _ _ _ (RHc.out.up HBe2.out) HYe.out).mono ?_; rintro e wf ⟨rfl, hbf⟩; have HBf2 : Hid (Below wc.heap.size wc wf) := below_join HBe2.out hbf; have HYf : Hid (SL wf (.slice ady R.length cpy) R) := HYe.out.up hbf; clear hbf d0 d1 d2; go_wp2_with fail; refine (HHt.out _ _ HYf.out).mono ?_; rintro e wg ⟨rfl, hwg⟩; subst hwg; (have hne : (td != td) = false := by cases td <;> rfl); go_wp2_with fail
                        go_roundg (j - (m + 1))
                        case measure => have := HG3.out; have := HJ3.out; omega
                        case rel => exact ⟨m + 1, HJ3.out.1, rfl, by go_num, HBf2⟩
                    · have hge3 : ¬ (m : Int) < (j : Int) := by omega
                      clear hlt; have hwF := HWF.out; go_wp2_with fail; go_ret; exact ⟨rfl, below_join HBN.out (below_join HBc.out HBm.out)⟩
    · obtain ⟨hm1, hm2⟩ := HTn.out htg
      obtain ⟨tc, td⟩ := tgc; simp only at htg; have hic : ic = tc ∧ jc = td := ⟨congrArg Prod.fst hm1, congrArg Prod.snd hm1⟩; obtain ⟨rfl, rfl⟩ := hic; have HDz : Hid (D = zF) := hm2; (have hcn : (ic == 0) = false := by simpa using htg); (have hcm : (ic != 0) = true := by simpa using htg); clear hm1 hm2 HTz HTn HTm HOk0; simp only; obtain ⟨F, hF⟩ : ∃ F, F = w6.alloc (.cells #[.int .i64 ic, .int .i64 jc] 33 (0, 0)) := ⟨_, rfl⟩; (have hbF : Below w6.heap.size w6 F := by rw [hF]; exact (Below.refl _ _).alloc (Nat.le_refl _) _); (have s7 : F.heap[b7]? = some (.cells #[.int .i64 ic, .int .i64 jc] 33 (0, 0)) := by rw [hF, HB7e.out]; exact blk_new w6 _); have hbG := below_join HB6.out hbF; have n5 := below_keep hbG Y5.out; have n6 := below_keep hbG Y6.out; have bN := below_join HBY.out hbG
      go_upto_region 7 with fail
      rw [← hF, ← HB7e.out]; clear hF hbF hbG; have bE := below_more (Below.refl F.heap.size F) (.cells #[] 9 (0, 0)); have e5 := below_keep bE n5; have e6 := below_keep bE n6; have e7 := below_keep bE s7; have eN := below_join bN bE; obtain ⟨o0, o1, o2, o3⟩ := blk2 s7
      go_upto_region 10 with fail
      obtain ⟨F9, hF9⟩ : ∃ F9, F9 = F.alloc (.cells #[] 9 (0, 0)) := ⟨_, rfl⟩; rw [← hF9] at e5 e6 e7 eN ⊢; clear hF9 bE o0 o1 o2 o3 n5 n6 s7 bN; obtain ⟨F1, hF1⟩ : ∃ F1, F1 = F := ⟨_, rfl⟩; subst hF1; obtain ⟨F, hF⟩ : ∃ F, F = F9 := ⟨_, rfl⟩; subst hF; have N5 : Hid (F.heap[b5]? = some _) := e5; have N6 : Hid (F.heap[b6]? = some _) := e6; have N7 : Hid (F.heap[b7]? = some _) := e7; have HBN : Hid (Below w.heap.size w F) := eN; clear e7 e5 e6 eN; obtain ⟨c0, c1, c2, -⟩ := blk3 N5.out; obtain ⟨m0, m1, -⟩ := blk2 N6.out; obtain ⟨o0, o1, -⟩ := blk2 N7.out; have hDz := HDe.out; rw [HDz.out] at hDz; unfold zF at hDz
      injection hDz with e1 e2 e3
      subst e1 e2 e3; (have hrF : Rep F (fun _ => True) (.mk 0 ⟨#[]⟩ []) (.agg #[.int .i64 0, .string ⟨#[]⟩, .slice sh 0 ch]) := rep_leafW (w := w5) (by have := HRh.out; rw [HDz.out] at this; exact this)); (have HRF : Hid (Rep F (fun _ => True) (.mk 0 ⟨#[]⟩ []) (.agg #[.int .i64 0, .string ⟨#[]⟩, .slice sh 0 ch])) := hrF); clear hrF; go_wp2_with fail; refine (none_any 0 ⟨#[]⟩ [] _ _ HRF.out).mono ?_; rintro e w9 ⟨rfl, hb9⟩; have B9 := below_join HBN.out hb9; clear hb9 c0 c1 c2 m0 m1 o0 o1; go_wp2_with fail; go_ret; exact ⟨rfl, B9⟩
theorem beth_text (f : Fm) (t : ByteArray) (v : Value) (w : World) (hv : Rep w (fun _ => True) f v) (ht : t.size ≤ maxLen) :
    Calls Try.prog 6 #[v, .string t] w fun e w' => e = .returned (.bool true) ∧ Below w.heap.size w w' :=
  beth_law f t.data.toList v w hv (by have e : t.data.toList.length = t.size := Array.length_toList; omega)
end Go.Proofs.Ytffkoiemnchdgae
