/- Texts of one proof, one behind the other: YB0, YB1, YB2. -/
import Derived.Test.YtpmogojpdigbmabGreatB10
import Derived.Deep.Upon
import Derived.Test.YtpmogojpdigbmabGreatB23
import Derived.Test.YtpmogojpdigbmabGreatB06
import Derived.Deep.RegionLaw
import Derived.Test.YtpmogojpdigbmabGreatB12
/- A list of formulas appended to one that is one's own, whatever it holds. -/
namespace Go.Proofs.YtpmogojpdigbmabGreat
open Go.RowKit

theorem AppL.nil {A B : Nat} {w : World} : AppL A B [] none 0 w := ⟨[], ⟨rfl, Or.inl ⟨rfl, rfl⟩⟩, trivial⟩
theorem AppL.cap {A B : Nat} {fs : List Fm} {ad : Option Addr} {cp : Nat} {w : World} (h : AppL A B fs ad cp w) : fs.length ≤ cp := by
  rcases h.shape with ⟨-, rfl, rfl⟩ | ⟨g, -, h⟩
  · exact Nat.le_refl _
  · exact h
theorem AppL.up {A B : Nat} {fs : List Fm} {ad : Option Addr} {cp : Nat} {w w' : World} (h : AppL A B fs ad cp w) (hb : Below w.heap.size w w') : AppL A B fs ad cp w' := by
  obtain ⟨cs, ⟨h1, h2⟩, h3⟩ := h; (refine ⟨cs, ⟨h1, ?_⟩, h3.move fun b hb1 hp => ⟨hb.block b hb1, hp⟩⟩)
  rcases h2 with h2 | ⟨g, cap, cur, hv, hg, hh, r⟩
  · exact Or.inl h2
  · exact Or.inr ⟨g, cap, cur, hv, hg, (hb.block g (lt_of_block hh)).trans hh, r⟩
theorem wp_appF {o : Oper} {a : Act} {w : World} {K : Act → World → Prop} {Q : Exit → Act → World → Prop} (s x : Operand) (hop : o.op = Op.call { callee := Callee.builtin Builtin.append, args := #[s, x], argTypes := #[22, 22] })
    (A B : Nat) (fs gs : List Fm) (ad : Option Addr) (cp : Nat) (vx : Value) (hs : a.eval s = .slice ad fs.length cp) (hA : AppL A B fs ad cp w) (hx : a.eval x = vx) (hg : FLp (· < A) w vx gs) (hAB : A ≤ B) (hB : B ≤ w.heap.size) (hl : fs.length + gs.length ≤ 2000)
    (h : ∀ ad3 cp3 w3, AppL A B (fs ++ gs) ad3 cp3 w3 → Below B w w3 → (∀ b, (Value.slice ad fs.length cp).ownBlock ≠ some b → b < w.heap.size → w3.heap[b]? = w.heap[b]?) → K (a.put o.dst (.slice ad3 (fs ++ gs).length cp3)) w3) : Oper.wp Tryz.prog o a w K Q := by
  obtain ⟨i0, hi, hz0, hz1, hz2⟩ := infoFormula; by_cases hne : gs = []
  · subst hne
    obtain ⟨x0, c, rfl, -⟩ := hg
    have hsrc : Src Tryz.prog i0.size 22 (.slice x0 0 c) 0 [] w := by
      cases x0 with
      | none => exact Src.ofNil w Tryz.underlying22 c
      | some ad => exact Src.ofSlice w Tryz.underlying22 ad 0 c [] (by simp) (fun j u h => by simp at h) (fun u h => by cases h)
    have hrun := run_append_nothing (P := Tryz.prog) w 22 22 o.type 24 i0 Tryz.underlying22 hi ad fs.length cp hA.cap (.slice x0 0 c) hsrc; have hx' : a.eval x = .slice x0 0 c := hx; (have h9 := h ad cp w (by rw [List.append_nil]; exact hA) (Below.refl _ _) (fun _ _ _ => rfl)); rw [List.append_nil] at h9; unfold Oper.wp; simp [execOp, hop, resolve, invoke, builtin, hs, hx', hrun, Result.andThen]; exact h9
  · have hg' := hg
    obtain ⟨x0, c, rfl, -⟩ := hg'; obtain ⟨bs, offs, ds, rfl, hds, hcs⟩ := hg.cells hne; have hpos : 0 < gs.length := List.length_pos_iff.2 hne; obtain ⟨cs, hown, hlq⟩ := hA
    refine wp_append_lies w s x 22 hop B 24 i0 (.agg #[.int .i64 0, .string ⟨#[]⟩, .slice none 0 0]) 3 48 Tryz.underlying22 hi hz0 hz1 hz2 rfl (by decide) _ _ _ hs hown ⟨bs, offs, none⟩ gs.length c ds hx hds.len (fun j u hu => by
      rw [add_none]
      exact hcs j u hu) hds.one hpos (by unfold maxLen; omega) (by omega) hB _ rfl ?_
    intro g3 cp3 w3 hown3 hgrow hat hlt3; (have hk : ∀ j, j < B → w3.heap[j]? = w.heap[j]? := fun j hj => hgrow.block j (by omega) (fun e => by have := (hown.lt j e.symm).1; omega)); have e : fs.length + gs.length = (fs ++ gs).length := List.length_append.symm; rw [e] at hown3 ⊢; (exact h _ _ w3 ⟨cs ++ ds, hown3, (hlq.append hds).move fun b _ hb => ⟨hk b (by have : b < A := hb; omega), hb⟩⟩ ⟨hgrow.os, hgrow.tape, hgrow.output, hgrow.size, hk⟩ (fun b hb hlt => hgrow.block b hlt fun e => hb e.symm))
theorem step_appF {ops : Array Oper} {o : Oper} {a : Act} {w : World} {K : Act → World → Prop} {Q : Exit → Act → World → Prop} {E : Prop} (hgd : o.guard = none) (s x : Operand) (hop : o.op = Op.call { callee := Callee.builtin Builtin.append, args := #[s, x], argTypes := #[22, 22] })
    (A B : Nat) (fs gs : List Fm) (ad : Option Addr) (cp : Nat) (vx : Value) (hs : a.eval s = .slice ad fs.length cp) (hA : AppL A B fs ad cp w) (hx : a.eval x = vx) (hg : FLp (· < A) w vx gs) (hAB : A ≤ B) (hB : B ≤ w.heap.size) (hl : fs.length + gs.length ≤ 2000)
    (h : ∀ ad3 cp3 w3, AppL A B (fs ++ gs) ad3 cp3 w3 → Below B w w3 → (∀ b, (Value.slice ad fs.length cp).ownBlock ≠ some b → b < w.heap.size → w3.heap[b]? = w.heap[b]?) → K (a.put o.dst (.slice ad3 (fs ++ gs).length cp3)) w3) : if Region.wanted o (yielded ops a.tmps) = true then Oper.wp Tryz.prog o a w K Q else E := by
  (have hw : Region.wanted o (yielded ops a.tmps) = true := by simp [Region.wanted, hgd]); rw [if_pos hw]; exact wp_appF s x hop A B fs gs ad cp vx hs hA hx hg hAB hB hl h
theorem wpList_appF {ops : Array Oper} {rest : List Oper} {o : Oper} {a : Act} {w : World} {Q : Exit → Act → World → Prop} (hgd : o.guard = none) (s x : Operand) (hop : o.op = Op.call { callee := Callee.builtin Builtin.append, args := #[s, x], argTypes := #[22, 22] })
    (A B : Nat) (fs gs : List Fm) (ad : Option Addr) (cp : Nat) (vx : Value) (hs : a.eval s = .slice ad fs.length cp) (hA : AppL A B fs ad cp w) (hx : a.eval x = vx) (hg : FLp (· < A) w vx gs) (hAB : A ≤ B) (hB : B ≤ w.heap.size) (hl : fs.length + gs.length ≤ 2000)
    (h : ∀ ad3 cp3 w3, AppL A B (fs ++ gs) ad3 cp3 w3 → Below B w w3 → (∀ b, (Value.slice ad fs.length cp).ownBlock ≠ some b → b < w.heap.size → w3.heap[b]? = w.heap[b]?) → wpList Tryz.prog ops Q rest (a.put o.dst (.slice ad3 (fs ++ gs).length cp3)) w3) : wpList Tryz.prog ops Q (o :: rest) a w :=
  wpList_plain hgd fun _ hK => wp_appF s x hop A B fs gs ad cp vx hs hA hx hg hAB hB hl fun ad3 cp3 w3 h1 h2 h3 => hK _ _ (h ad3 cp3 w3 h1 h2 h3)
end Go.Proofs.YtpmogojpdigbmabGreat
/- Walks: the yardstick's bags of formulas. -/
namespace Go.Proofs.YtpmogojpdigbmabGreat
open Go.RowKit

set_option maxHeartbeats 2000000 in
theorem plus_any (l m : List Fm) (hl : l.length ≤ 400) (hm : m.length ≤ 400) (v u : Value) (w : World) (hv : FL w v l) (hu : FL w u m) :
    Calls Tryz.prog 77 #[v, u] w fun e w' => ∃ x, e = .returned x ∧ FL w' x (l ++ m) ∧ Below w.heap.size w w' := by
  have HV : Hid (FLp (· < w.heap.size) w v l) := hv.low; have HU : Hid (FLp (· < w.heap.size) w u m) := hu.low; clear hv hu
  go_enter Tryz.func77, Tryz.ntmps77
  go_wp2_with (first
    | (at_builtin
       (refine wpList_appF rfl _ _ rfl w.heap.size w.heap.size [] l none 0 _ rfl AppL.nil rfl HV.out (Nat.le_refl _) (Nat.le_refl _) (by simp; omega) ?_); intro ad1 cp1 w1 h1 b1 k1; have H1 : Hid (AppL w.heap.size w.heap.size l ad1 cp1 w1) := h1
       clear h1 k1)
    | (at_builtin
       (refine wpList_appF rfl _ _ rfl w.heap.size w.heap.size l m ad1 cp1 _ rfl H1.out rfl (HU.out.up b1) (Nat.le_refl _) b1.size (by omega) ?_); intro ad2 cp2 w2 h2 b2 k2; have H2 : Hid (AppL w.heap.size w.heap.size (l ++ m) ad2 cp2 w2) := h2
       clear h2 k2)
    | fail)
  go_ret; have hf := (H2.out.flp (Nat.le_refl _)).list; rw [List.length_append] at hf; exact ⟨_, rfl, hf, b1.trans b2⟩

theorem count_take {fs : List Fm} {i : Nat} {f g : Fm} (h : fs[i]? = some g) : (fs.take (i + 1)).count f = (fs.take i).count f + if sameB g f then 1 else 0 := by
  rw [List.take_add_one, h, List.count_append]; show _ + [g].count f = _; rw [List.count_singleton]; rfl

set_option maxHeartbeats 2000000 in
theorem often_any (fs : List Fm) (hl : fs.length ≤ 1000) (f : Fm) (v u : Value) (w : World) (h : FL w v fs) (hu : Rep w (fun _ => True) f u) :
    Calls Tryz.prog 73 #[v, u] w fun e w' => e = .returned (.int .i64 ((fs.count f : Nat) : Int)) ∧ Below w.heap.size w w' := by
  obtain ⟨ad, cap, rfl, h1, h2, h3⟩ := h; obtain ⟨kf, nf, ksf⟩ := f; obtain ⟨slf, capf, rfl⟩ := slice_shape hu; (have hlI : (fs.length : Int) ≤ 1000 := by omega); (have H3 : Hid (fs ≠ [] → ∃ b off, ad = some ⟨b, off, none⟩ ∧ Reps w (fun _ => True) b off fs) := h3); clear h3
  go_enter Tryz.func73, Tryz.ntmps73
  go_wp2_with fail
  go_loopg [5, 6] fs.length (fun g o c wr => ∃ i n, i ≤ fs.length ∧ n ≤ i ∧ g = fs.length - i ∧ c = .int .i64 (i : Nat) ∧ o = .int .i64 (n : Nat) ∧ Below w.heap.size w wr ∧ wr.heap[w.heap.size]? = some (.cells #[.int .i64 kf, .string nf, .slice slf ksf.length capf] 24 (0, 0)) ∧ Hid (n = (fs.take i).count (.mk kf nf ksf)))
  case atStart => exact ⟨0, 0, by omega, by omega, by omega, rfl, rfl, (Below.refl _ _).alloc (Nat.le_refl _) _, blk_new _ _, by show _ = _; simp⟩
  case round =>
    obtain ⟨i, n, hi, hni, hg, rfl, rfl, hbr, q0, HN⟩ := hrel; have HG : Hid (gk = fs.length - i) := hg; clear hg; obtain ⟨e0, e1, e2, -⟩ := blk3 q0; have z0 := lt_of_block q0; (have hnI : (n : Int) ≤ 1000 := by omega); by_cases hlt : i < fs.length
    · obtain ⟨⟨k2, n2, ks2⟩, hki⟩ : ∃ f, fs[i]? = some f := ⟨_, List.getElem?_eq_getElem hlt⟩
      (obtain ⟨b, off, rfl, hrs⟩ := H3.out (fun e => by rw [e] at hlt; simp at hlt)); obtain ⟨sl2, cap2, g0, g1, g2, hrep2⟩ := (hrs.up hbr).at i k2 n2 ks2 hki; (have hltI : (i : Int) < (fs.length : Int) := by omega); (have hlc : (i : Int) < (cap : Int) := by omega); have zb := lt_of_cell g0; have zz := hbr.size; have hrepf := hu.up hbr; (have hsm := fun v u w h1 h2 => same_any (.mk k2 n2 ks2) (.mk kf nf ksf) v u w h1 h2); have hnx := count_take (f := .mk kf nf ksf) hki; simp only at zb; generalize sameB (.mk k2 n2 ks2) (.mk kf nf ksf) = bb at hsm hnx; have HS : Hid (∀ v u w, _ → _ → Calls Tryz.prog 26 #[v, u] w _) := hsm
      have HX : Hid ((fs.take (i + 1)).count (.mk kf nf ksf) = n + if bb then 1 else 0) := by
        show _ = _; rw [hnx, HN.out]
      clear hki hrs H3 hsm hnx HN; go_wp2_with fail
      go_region_held3 (fun w' => w'.cell? ⟨b, off + i * 3, none⟩ = some (.int .i64 k2) ∧ w'.cell? ⟨b, off + i * 3 + 1, none⟩ = some (.string n2) ∧ w'.cell? ⟨b, off + i * 3 + 2, none⟩ = some (.slice sl2 ks2.length cap2) ∧ w'.cell? ⟨w.heap.size, 0, none⟩ = some (.int .i64 kf) ∧ w'.cell? ⟨w.heap.size, 1, none⟩ = some (.string nf) ∧ w'.cell? ⟨w.heap.size, 2, none⟩ = some (.slice slf ksf.length capf)) (go_keep)
        (first
         | (go_at_call 26
            refine (HS.out _ _ _ (hrep2.up (Below.refl _ _).drew) (hrepf.up (Below.refl _ _).drew)).mono ?_; rintro e w1 ⟨rfl, hb1⟩; have c3 := (hb1.cell (p := ⟨b, off + i * 3, none⟩) zb).trans g0; have c4 := (hb1.cell (p := ⟨b, off + i * 3 + 1, none⟩) zb).trans g1; have c5 := (hb1.cell (p := ⟨b, off + i * 3 + 2, none⟩) zb).trans g2; have c6 := (hb1.cell (p := ⟨w.heap.size, 0, none⟩) z0).trans e0; have c7 := (hb1.cell (p := ⟨w.heap.size, 1, none⟩) z0).trans e1
            have c8 := (hb1.cell (p := ⟨w.heap.size, 2, none⟩) z0).trans e2)
         | fail)
      have hb2 : Below w.heap.size w w1 := hbr.drew.trans (hb1.mono zz); have q1 := (hb1.block _ z0).trans q0; clear c3 c4 c5 c6 c7 c8
      cases bb
      · go_wp2_with fail
        go_roundg (fs.length - (i + 1))
        case measure => have := HG.out; omega
        case rel => exact ⟨i + 1, n, by omega, by omega, rfl, by go_num, by go_num, hb2, q1, HX.out.symm⟩
      · go_wp2_with fail
        go_roundg (fs.length - (i + 1))
        case measure => have := HG.out; omega
        case rel => exact ⟨i + 1, n + 1, by omega, by omega, rfl, by go_num, by go_num, hb2, q1, HX.out.symm⟩
    · have HT : Hid ((n : Int) = ((fs.count (.mk kf nf ksf) : Nat) : Int)) := by
        have := HN.out; (rw [List.take_of_length_le (by omega)] at this); show _ = _; rw [this]
      (have hge : ¬ (i : Int) < (fs.length : Int) := by omega); clear H3 HN; go_wp2_with fail; go_ret; (exact ⟨by show Ending.returned (.int .i64 (n : Int)) = _; rw [HT.out], hbr⟩)
end Go.Proofs.YtpmogojpdigbmabGreat
/- Walks: the yardstick's bags of formulas: NoMore, Bag (made by gen/yb2.py). -/
namespace Go.Proofs.YtpmogojpdigbmabGreat
open Go.RowKit

theorem frame25 (a : Array Value) (h : a.size = 25) : ∃ x0 x1 x2 x3 x4 x5 x6 x7 x8 x9 x10 x11 x12 x13 x14 x15 x16 x17 x18 x19 x20 x21 x22 x23 x24, a = #[x0, x1, x2, x3, x4, x5, x6, x7, x8, x9, x10, x11, x12, x13, x14, x15, x16, x17, x18, x19, x20, x21, x22, x23, x24] := by
  obtain ⟨l⟩ := a; have h0 : l.length = 25 := h; obtain ⟨x0, l1, e0, h1⟩ := cons_len h0; obtain ⟨x1, l2, e1, h2⟩ := cons_len h1; obtain ⟨x2, l3, e2, h3⟩ := cons_len h2; obtain ⟨x3, l4, e3, h4⟩ := cons_len h3; obtain ⟨x4, l5, e4, h5⟩ := cons_len h4; obtain ⟨x5, l6, e5, h6⟩ := cons_len h5; obtain ⟨x6, l7, e6, h7⟩ := cons_len h6; obtain ⟨x7, l8, e7, h8⟩ := cons_len h7; obtain ⟨x8, l9, e8, h9⟩ := cons_len h8; obtain ⟨x9, l10, e9, h10⟩ := cons_len h9; obtain ⟨x10, l11, e10, h11⟩ := cons_len h10; obtain ⟨x11, l12, e11, h12⟩ := cons_len h11; obtain ⟨x12, l13, e12, h13⟩ := cons_len h12; obtain ⟨x13, l14, e13, h14⟩ := cons_len h13; obtain ⟨x14, l15, e14, h15⟩ := cons_len h14; obtain ⟨x15, l16, e15, h16⟩ := cons_len h15; obtain ⟨x16, l17, e16, h17⟩ := cons_len h16; obtain ⟨x17, l18, e17, h18⟩ := cons_len h17; obtain ⟨x18, l19, e18, h19⟩ := cons_len h18; obtain ⟨x19, l20, e19, h20⟩ := cons_len h19; obtain ⟨x20, l21, e20, h21⟩ := cons_len h20; obtain ⟨x21, l22, e21, h22⟩ := cons_len h21; obtain ⟨x22, l23, e22, h23⟩ := cons_len h22; obtain ⟨x23, l24, e23, h24⟩ := cons_len h23; obtain ⟨x24, l25, e24, h25⟩ := cons_len h24; have e25 : l25 = [] := List.length_eq_zero_iff.1 h25; subst e25 e24 e23 e22 e21 e20 e19 e18 e17 e16 e15 e14 e13 e12 e11 e10 e9 e8 e7 e6 e5 e4 e3 e2 e1 e0; exact ⟨x0, x1, x2, x3, x4, x5, x6, x7, x8, x9, x10, x11, x12, x13, x14, x15, x16, x17, x18, x19, x20, x21, x22, x23, x24, rfl⟩

set_option maxRecDepth 10000 in
set_option maxHeartbeats 4000000 in
theorem noMore_any (fs gs : List Fm) (hl : fs.length ≤ 1000) (hl2 : gs.length ≤ 1000) (v VB : Value) (w : World) (h : FL w v fs) (hu : FL w VB gs) :
    Calls Tryz.prog 37 #[v, VB] w fun e w' => e = .returned (.bool (within fs gs)) ∧ Below w.heap.size w w' := by
  have HV : Hid (FL w v fs) := h; have HU : Hid (FL w VB gs) := hu; obtain ⟨ad, cap, rfl, h1, h2, h3⟩ := h; (have H3 : Hid (fs ≠ [] → ∃ b off, ad = some ⟨b, off, none⟩ ∧ Reps w (fun _ => True) b off fs) := h3); (have hlI : (fs.length : Int) ≤ 1000 := by omega); (have HW : Hid (within fs gs = fs.all fun x => decide (fs.count x ≤ gs.count x)) := within_all fs gs); clear h3 hu
  go_enter Tryz.func37, Tryz.ntmps37
  go_wp2_with fail
  go_loopg [5] fs.length (fun g c wr => ∃ i, i ≤ fs.length ∧ g = fs.length - i ∧ c = .int .i64 (i : Nat) ∧ Hid (Below w.heap.size w wr) ∧ Hid (∀ x ∈ fs.take i, fs.count x ≤ gs.count x))
  case atStart => exact ⟨0, by omega, by omega, rfl, Below.refl _ _, fun x hx => by simp at hx⟩
  case round =>
    obtain ⟨i, hi, hg, rfl, HBr, HN⟩ := hrel; have HG : Hid (gk = fs.length - i) := hg; clear hg; by_cases hlt : i < fs.length
    · obtain ⟨⟨k2, n2, ks2⟩, hki⟩ : ∃ f, fs[i]? = some f := ⟨_, List.getElem?_eq_getElem hlt⟩
      (obtain ⟨b, off, rfl, hrs⟩ := H3.out (fun e => by rw [e] at hlt; simp at hlt)); obtain ⟨sl2, cap2, g0, g1, g2, hrep2⟩ := (hrs.up HBr.out).at i k2 n2 ks2 hki; (have hltI : (i : Int) < (fs.length : Int) := by omega); (have hlc : (i : Int) < (cap : Int) := by omega); have HZ : Hid (b < wr.heap.size) := lt_of_cell g0; have HC : Hid (wr.cell? ⟨b, off + i * 3, none⟩ = some (.int .i64 k2) ∧ wr.cell? ⟨b, off + i * 3 + 1, none⟩ = some (.string n2) ∧ wr.cell? ⟨b, off + i * 3 + 2, none⟩ = some (.slice sl2 ks2.length cap2)) := ⟨g0, g1, g2⟩; (have hoa := fun wx (hb : Below wr.heap.size wr wx) => often_any fs hl (.mk k2 n2 ks2) (.slice (some ⟨b, off, none⟩) fs.length cap) (.agg #[.int .i64 k2, .string n2, .slice sl2 ks2.length cap2]) wx (HV.out.up (below_join HBr.out hb)) (hrep2.up hb)); (have hob := fun wx (hb : Below wr.heap.size wr wx) => often_any gs hl2 (.mk k2 n2 ks2) VB (.agg #[.int .i64 k2, .string n2, .slice sl2 ks2.length cap2]) wx (HU.out.up (below_join HBr.out hb)) (hrep2.up hb))
      have hno : gs.count (.mk k2 n2 ks2) < fs.count (.mk k2 n2 ks2) → within fs gs = false := fun hc => by
        rw [HW.out, Bool.eq_false_iff]; intro h; have := of_decide_eq_true (List.all_eq_true.1 h _ (List.mem_of_getElem? hki)); omega
      have hyes : ¬ gs.count (.mk k2 n2 ks2) < fs.count (.mk k2 n2 ks2) → ∀ x ∈ fs.take (i + 1), fs.count x ≤ gs.count x := fun hc x hx => by
        rw [List.take_add_one, hki] at hx
        rcases List.mem_append.1 hx with hx | hx
        · exact HN.out x hx
        · simp at hx
          rw [hx]; omega
      generalize hca : fs.count (.mk k2 n2 ks2) = ca at *; generalize hcb : gs.count (.mk k2 n2 ks2) = cb at *; (have HOA : Hid (∀ wx, Below wr.heap.size wr wx → Calls Tryz.prog 73 _ wx fun e w' => e = .returned (.int .i64 ((ca : Nat) : Int)) ∧ Below wx.heap.size wx w') := hoa); (have HOB : Hid (∀ wx, Below wr.heap.size wr wx → Calls Tryz.prog 73 _ wx fun e w' => e = .returned (.int .i64 ((cb : Nat) : Int)) ∧ Below wx.heap.size wx w') := hob); have HNO : Hid (cb < ca → within fs gs = false) := hno; have HYES : Hid (¬ cb < ca → ∀ x ∈ fs.take (i + 1), fs.count x ≤ gs.count x) := hyes; (have hc63 : (ca : Int) ≤ 1000 := by have := List.count_le_length (a := Fm.mk k2 n2 ks2) (l := fs); omega); (have hd63 : (cb : Int) ≤ 1000 := by have := List.count_le_length (a := Fm.mk k2 n2 ks2) (l := gs); omega); clear hki hrs H3 hrep2 g0 g1 g2 hoa hob hno hyes hca hcb HW HN; go_wp2_with fail; (refine wp_region_free (by kernel_rfl) [kEq (.slice (some ⟨b, off, none⟩) fs.length cap), kEq (.slice (some ⟨b, off, none⟩) fs.length cap), kEq (.int .i64 (i : Nat)), kEq (.pointer (some ⟨b, off + i * 3, none⟩)), kEq (.agg #[.int .i64 k2, .string n2, .slice sl2 ks2.length cap2]), kEq (.int .i64 ((ca : Nat) : Int)), kEq VB, kEq (.slice (some ⟨b, off, none⟩) fs.length cap), kEq (.int .i64 (i : Nat)), kEq (.pointer (some ⟨b, off + i * 3, none⟩)), kEq (.agg #[.int .i64 k2, .string n2, .slice sl2 ks2.length cap2]), kEq (.int .i64 ((cb : Nat) : Int)), kEq (.bool (decide (cb < ca)))] ?_ (by kernel_rfl) (by kernel_rfl) 25 rfl (by kernel_rfl) ?_ ?_)
      · intro p hp
        simp only [List.mem_cons, List.not_mem_nil, or_false] at hp
        rcases hp with rfl | rfl | rfl | rfl | rfl | rfl | rfl | rfl | rfl | rfl | rfl | rfl | rfl
        all_goals first | exact kEq_stays _
      · refine ⟨?_, ?_, ?_, ?_, ?_, ?_, ?_, ?_, ?_, ?_, ?_, ?_, ?_, trivial⟩
        · intro a wx hB hold hdep K hK
          have t0 : a.tmps[0]? = some (.slice (some ⟨b, off, none⟩) fs.length cap) := hold.2.2 0 rfl; clear hold hdep; go_simp; exact hK.out _ _ rfl (Below.refl _ _)
        · intro a wx hB hold hdep K hK
          have t0 : a.tmps[0]? = some (.slice (some ⟨b, off, none⟩) fs.length cap) := hold.2.2 0 rfl; clear hold hdep; go_simp; exact hK.out _ _ rfl (Below.refl _ _)
        · intro a wx hB hold hdep K hK
          have t5 : a.tmps[5]? = some (.int .i64 (i : Nat)) := hold.2.2 5 rfl; clear hold hdep; go_simp; exact hK.out _ _ rfl (Below.refl _ _)
        · intro a wx hB hold hdep K hK
          obtain ⟨v13, t13, p13⟩ := hdep 1 rfl _ 13 rfl rfl; have e13 : v13 = (.slice (some ⟨b, off, none⟩) fs.length cap) := p13; subst e13; obtain ⟨v14, t14, p14⟩ := hdep 2 rfl _ 14 rfl rfl; have e14 : v14 = (.int .i64 (i : Nat)) := p14; subst e14; clear hold hdep; go_simp; exact hK.out _ _ rfl (Below.refl _ _)
        · intro a wx hB hold hdep K hK
          obtain ⟨v15, t15, p15⟩ := hdep 3 rfl _ 15 rfl rfl; have e15 : v15 = (.pointer (some ⟨b, off + i * 3, none⟩)) := p15; subst e15; obtain ⟨g0, g1, g2⟩ := HC.out; have k0 := (hB.cell (p := ⟨b, off + i * 3, none⟩) HZ.out).trans g0; have k1 := (hB.cell (p := ⟨b, off + i * 3 + 1, none⟩) HZ.out).trans g1; have k2' := (hB.cell (p := ⟨b, off + i * 3 + 2, none⟩) HZ.out).trans g2; clear g0 g1 g2; clear hold hdep; go_simp; exact hK.out _ _ rfl (Below.refl _ _)
        · intro a wx hB hold hdep K hK
          obtain ⟨v12, t12, p12⟩ := hdep 0 rfl _ 12 rfl rfl; have e12 : v12 = (.slice (some ⟨b, off, none⟩) fs.length cap) := p12; subst e12; obtain ⟨v16, t16, p16⟩ := hdep 4 rfl _ 16 rfl rfl; have e16 : v16 = (.agg #[.int .i64 k2, .string n2, .slice sl2 ks2.length cap2]) := p16; subst e16; clear hold hdep; go_simp; refine (HOA.out wx hB).mono ?_; rintro e w1 ⟨rfl, hb⟩; exact hK.out _ _ rfl hb
        · intro a wx hB hold hdep K hK
          have t1 : a.tmps[1]? = some VB := hold.2.2 1 rfl; clear hold hdep; go_simp; exact hK.out _ _ rfl (Below.refl _ _)
        · intro a wx hB hold hdep K hK
          have t0 : a.tmps[0]? = some (.slice (some ⟨b, off, none⟩) fs.length cap) := hold.2.2 0 rfl; clear hold hdep; go_simp; exact hK.out _ _ rfl (Below.refl _ _)
        · intro a wx hB hold hdep K hK
          have t5 : a.tmps[5]? = some (.int .i64 (i : Nat)) := hold.2.2 5 rfl; clear hold hdep; go_simp; exact hK.out _ _ rfl (Below.refl _ _)
        · intro a wx hB hold hdep K hK
          obtain ⟨v19, t19, p19⟩ := hdep 7 rfl _ 19 rfl rfl; have e19 : v19 = (.slice (some ⟨b, off, none⟩) fs.length cap) := p19; subst e19; obtain ⟨v20, t20, p20⟩ := hdep 8 rfl _ 20 rfl rfl; have e20 : v20 = (.int .i64 (i : Nat)) := p20; subst e20; clear hold hdep; go_simp; exact hK.out _ _ rfl (Below.refl _ _)
        · intro a wx hB hold hdep K hK
          obtain ⟨v21, t21, p21⟩ := hdep 9 rfl _ 21 rfl rfl; have e21 : v21 = (.pointer (some ⟨b, off + i * 3, none⟩)) := p21; subst e21; obtain ⟨g0, g1, g2⟩ := HC.out; have k0 := (hB.cell (p := ⟨b, off + i * 3, none⟩) HZ.out).trans g0; have k1 := (hB.cell (p := ⟨b, off + i * 3 + 1, none⟩) HZ.out).trans g1; have k2' := (hB.cell (p := ⟨b, off + i * 3 + 2, none⟩) HZ.out).trans g2; clear g0 g1 g2; clear hold hdep; go_simp; exact hK.out _ _ rfl (Below.refl _ _)
        · intro a wx hB hold hdep K hK
          obtain ⟨v18, t18, p18⟩ := hdep 6 rfl _ 18 rfl rfl; have e18 : v18 = VB := p18; subst e18; obtain ⟨v22, t22, p22⟩ := hdep 10 rfl _ 22 rfl rfl; have e22 : v22 = (.agg #[.int .i64 k2, .string n2, .slice sl2 ks2.length cap2]) := p22; subst e22; clear hold hdep; go_simp; refine (HOB.out wx hB).mono ?_; rintro e w1 ⟨rfl, hb⟩; exact hK.out _ _ rfl hb
        · intro a wx hB hold hdep K hK
          obtain ⟨v17, t17, p17⟩ := hdep 5 rfl _ 17 rfl rfl; have e17 : v17 = (.int .i64 ((ca : Nat) : Int)) := p17; subst e17; obtain ⟨v23, t23, p23⟩ := hdep 11 rfl _ 23 rfl rfl; have e23 : v23 = (.int .i64 ((cb : Nat) : Int)) := p23; subst e23; clear hold hdep; go_simp; exact hK.out _ _ rfl (Below.refl _ _)
      · intro a wx hB hold hgot
        obtain ⟨v24, t24, p24⟩ := hgot 12 _ 24 rfl rfl; have e24 : v24 = (.bool (decide (cb < ca))) := p24; subst e24; obtain ⟨tm, df⟩ := a; obtain ⟨x0, x1, x2, x3, x4, x5, x6, x7, x8, x9, x10, x11, x12, x13, x14, x15, x16, x17, x18, x19, x20, x21, x22, x23, x24, htm⟩ := frame25 tm hold.1; subst htm; obtain rfl : df = [] := hold.2.1; obtain rfl : x0 = _ := Option.some.inj (hold.2.2 0 rfl); obtain rfl : x1 = _ := Option.some.inj (hold.2.2 1 rfl); obtain rfl : x2 = _ := Option.some.inj (hold.2.2 2 rfl); obtain rfl : x3 = _ := Option.some.inj (hold.2.2 3 rfl); obtain rfl : x4 = _ := Option.some.inj (hold.2.2 4 rfl); obtain rfl : x5 = _ := Option.some.inj (hold.2.2 5 rfl); obtain rfl : x6 = _ := Option.some.inj (hold.2.2 6 rfl); obtain rfl : x7 = _ := Option.some.inj (hold.2.2 7 rfl); obtain rfl : x8 = _ := Option.some.inj (hold.2.2 8 rfl); obtain rfl : x9 = _ := Option.some.inj (hold.2.2 9 rfl); obtain rfl : x10 = _ := Option.some.inj (hold.2.2 10 rfl); obtain rfl : x11 = _ := Option.some.inj (hold.2.2 11 rfl); obtain rfl : x24 = _ := Option.some.inj t24; clear hold hgot t24 p24; have B2 := below_join HBr.out hB; by_cases hc : cb < ca
        · have hd : decide (cb < ca) = true := decide_eq_true hc
          have HF : Hid (within fs gs = false) := HNO.out hc; go_wp2_with fail; go_ret; (exact ⟨by rw [HF.out]; rfl, B2⟩)
        · have hd : decide (cb < ca) = false := decide_eq_false hc
          have HF : Hid (∀ x ∈ fs.take (i + 1), fs.count x ≤ gs.count x) := HYES.out hc; go_wp2_with fail
          go_roundg (fs.length - (i + 1))
          case measure => have := HG.out; omega
          case rel => exact ⟨i + 1, by omega, rfl, by go_num, B2, HF⟩
    · have HT : Hid (within fs gs = true) := by
        show _ = _; rw [HW.out, List.all_eq_true]; intro x hx; have := HN.out; (rw [List.take_of_length_le (by omega)] at this); exact decide_eq_true (this x hx)
      (have hge : ¬ (i : Int) < (fs.length : Int) := by omega); clear H3 HN HW; go_wp2_with fail; go_ret; (exact ⟨by rw [HT.out]; rfl, HBr.out⟩)

set_option maxHeartbeats 2000000 in
theorem bag_any (fs gs : List Fm) (hl : fs.length ≤ 1000) (hl2 : gs.length ≤ 1000) (v u : Value) (w : World) (h : FL w v fs) (hu : FL w u gs) :
    Calls Tryz.prog 39 #[v, u] w fun e w' => e = .returned (.bool (isEq fs gs)) ∧ Below w.heap.size w w' := by
  have hc := noMore_any fs gs hl hl2 v u w h hu; obtain ⟨ad, cap, rfl, -⟩ := h; obtain ⟨ad2, cap2, rfl, -⟩ := hu; (have hlI : (fs.length : Int) ≤ 1000 := by omega); (have hl2I : (gs.length : Int) ≤ 1000 := by omega); have he : isEq fs gs = (decide (fs.length = gs.length) && within fs gs) := rfl; rw [he]; generalize within fs gs = bb at *; have HC : Hid (Calls Tryz.prog 37 _ w _) := hc; clear hc he; by_cases heq : fs.length = gs.length
  · have hd : decide (fs.length = gs.length) = true := decide_eq_true heq
    (have hq : ((fs.length : Int) == (gs.length : Int)) = true := by rw [heq]; simp); have HD : Hid (decide (fs.length = gs.length) = true) := hd; clear hd heq
    go_enter Tryz.func39, Tryz.ntmps39
    go_wp2_with fail; refine HC.out.mono ?_; rintro e w1 ⟨rfl, hb1⟩; go_wp2_with fail; go_ret; (exact ⟨by rw [HD.out, Bool.true_and]; rfl, hb1⟩)
  · have hd : decide (fs.length = gs.length) = false := decide_eq_false heq
    have hq : ((fs.length : Int) == (gs.length : Int)) = false := by
      rw [beq_eq_false_iff_ne]; omega
    have HD : Hid (decide (fs.length = gs.length) = false) := hd; clear hd heq
    go_enter Tryz.func39, Tryz.ntmps39
    go_wp2_with fail; go_ret; (exact ⟨by rw [HD.out, Bool.false_and]; rfl, Below.refl _ _⟩)
end Go.Proofs.YtpmogojpdigbmabGreat
