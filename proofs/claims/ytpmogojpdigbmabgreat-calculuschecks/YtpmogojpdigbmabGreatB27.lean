/- Texts of one proof, one behind the other: YB3, YP0. -/
import Derived.Test.YtpmogojpdigbmabGreatB26
import Derived.Test.YtpmogojpdigbmabGreatB23
import Derived.Test.YtpmogojpdigbmabGreatB12
/- Walks: the yardstick's Rest. -/
namespace Go.Proofs.YtpmogojpdigbmabGreat
open Go.RowKit

theorem erase_first {f g : Fm} : ∀ (i : Nat) (fs : List Fm), hasF f (fs.take i) = false → fs[i]? = some g → sameB g f = true → fs.erase f = fs.take i ++ fs.drop (i + 1)
  | _, [], _, h, _ => by simp at h
  | 0, x :: fs, _, h, hs => by
    simp at h; subst h; rw [List.erase_cons, if_pos (show (x == f) = true from hs)]
    simp
  | i + 1, x :: fs, hn, h, hs => by
    rw [List.take_succ_cons] at hn; unfold hasF at hn; rw [List.any_cons, Bool.or_eq_false_iff] at hn; (rw [List.erase_cons, if_neg (by rw [show (x == f) = sameB x f from rfl, hn.1]; decide), erase_first i fs hn.2 (by simpa using h) hs])
    simp
def tSl (n c : Nat) (P : Option Addr → Prop) : Fact := fun v _ _ => ∃ ad, v = .slice ad n c ∧ P ad
theorem tSl_stays (n c : Nat) (P : Option Addr → Prop) : Stays3 (tSl n c P) := fun _ _ _ _ _ h _ _ => h
theorem frame29 (a : Array Value) (h : a.size = 29) : ∃ x0 x1 x2 x3 x4 x5 x6 x7 x8 x9 x10 x11 x12 x13 x14 x15 x16 x17 x18 x19 x20 x21 x22 x23 x24 x25 x26 x27 x28, a = #[x0, x1, x2, x3, x4, x5, x6, x7, x8, x9, x10, x11, x12, x13, x14, x15, x16, x17, x18, x19, x20, x21, x22, x23, x24, x25, x26, x27, x28] := by
  obtain ⟨l⟩ := a; have h0 : l.length = 29 := h; obtain ⟨x0, l1, e0, h1⟩ := cons_len h0; obtain ⟨x1, l2, e1, h2⟩ := cons_len h1; obtain ⟨x2, l3, e2, h3⟩ := cons_len h2; obtain ⟨x3, l4, e3, h4⟩ := cons_len h3; obtain ⟨x4, l5, e4, h5⟩ := cons_len h4; obtain ⟨x5, l6, e5, h6⟩ := cons_len h5; obtain ⟨x6, l7, e6, h7⟩ := cons_len h6; obtain ⟨x7, l8, e7, h8⟩ := cons_len h7; obtain ⟨x8, l9, e8, h9⟩ := cons_len h8; obtain ⟨x9, l10, e9, h10⟩ := cons_len h9; obtain ⟨x10, l11, e10, h11⟩ := cons_len h10; obtain ⟨x11, l12, e11, h12⟩ := cons_len h11; obtain ⟨x12, l13, e12, h13⟩ := cons_len h12; obtain ⟨x13, l14, e13, h14⟩ := cons_len h13; obtain ⟨x14, l15, e14, h15⟩ := cons_len h14; obtain ⟨x15, l16, e15, h16⟩ := cons_len h15; obtain ⟨x16, l17, e16, h17⟩ := cons_len h16; obtain ⟨x17, l18, e17, h18⟩ := cons_len h17; obtain ⟨x18, l19, e18, h19⟩ := cons_len h18; obtain ⟨x19, l20, e19, h20⟩ := cons_len h19; obtain ⟨x20, l21, e20, h21⟩ := cons_len h20; obtain ⟨x21, l22, e21, h22⟩ := cons_len h21; obtain ⟨x22, l23, e22, h23⟩ := cons_len h22; obtain ⟨x23, l24, e23, h24⟩ := cons_len h23; obtain ⟨x24, l25, e24, h25⟩ := cons_len h24; obtain ⟨x25, l26, e25, h26⟩ := cons_len h25; obtain ⟨x26, l27, e26, h27⟩ := cons_len h26; obtain ⟨x27, l28, e27, h28⟩ := cons_len h27; obtain ⟨x28, l29, e28, h29⟩ := cons_len h28; have e29 : l29 = [] := List.length_eq_zero_iff.1 h29; subst e29 e28 e27 e26 e25 e24 e23 e22 e21 e20 e19 e18 e17 e16 e15 e14 e13 e12 e11 e10 e9 e8 e7 e6 e5 e4 e3 e2 e1 e0; exact ⟨x0, x1, x2, x3, x4, x5, x6, x7, x8, x9, x10, x11, x12, x13, x14, x15, x16, x17, x18, x19, x20, x21, x22, x23, x24, x25, x26, x27, x28, rfl⟩
def tAp (A S : Nat) (l : List Fm) : Fact := fun v w _ => ∃ ad cp, v = .slice ad l.length cp ∧ AppL A S l ad cp w
theorem tAp_stays (A S : Nat) (l : List Fm) : Stays3 (tAp A S l) := fun _ w _ _ _ h hb _ => by
  obtain ⟨ad, cp, hv, ha⟩ := h; exact ⟨ad, cp, hv, ha.up hb⟩

set_option maxRecDepth 10000 in
set_option maxHeartbeats 4000000 in
theorem rest_any (fs : List Fm) (hl : fs.length ≤ 1000) (f : Fm) (v u : Value) (w : World) (h : FL w v fs) (hu : Rep w (fun _ => True) f u) :
    Calls Tryz.prog 74 #[v, u] w fun e w' => ∃ x, e = .returned x ∧ FL w' x (fs.erase f) ∧ Below w.heap.size w w' := by
  have HV : Hid (FLp (· < w.heap.size) w v fs) := h.low; obtain ⟨ad, cap, rfl, h1, h2, h3⟩ := h; obtain ⟨kf, nf, ksf⟩ := f; obtain ⟨slf, capf, rfl⟩ := slice_shape hu; (have hlI : (fs.length : Int) ≤ 1000 := by omega); (have H3 : Hid (fs ≠ [] → ∃ b off, ad = some ⟨b, off, none⟩ ∧ Reps w (fun _ => True) b off fs) := h3); clear h3
  go_enter Tryz.func74, Tryz.ntmps74
  go_wp2_with fail
  go_loopg [5] fs.length (fun g c wr => ∃ i, i ≤ fs.length ∧ g = fs.length - i ∧ c = .int .i64 (i : Nat) ∧ Below w.heap.size w wr ∧ wr.heap[w.heap.size]? = some (.cells #[.int .i64 kf, .string nf, .slice slf ksf.length capf] 24 (0, 0)) ∧ Hid (hasF (.mk kf nf ksf) (fs.take i) = false))
  case atStart => exact ⟨0, by omega, by omega, rfl, (Below.refl _ _).alloc (Nat.le_refl _) _, blk_new _ _, by show _ = _; rfl⟩
  case round =>
    obtain ⟨i, hi, hg, rfl, hbr, q0, HN⟩ := hrel; have HG : Hid (gk = fs.length - i) := hg; clear hg; obtain ⟨e0, e1, e2, -⟩ := blk3 q0; have z0 := lt_of_block q0; by_cases hlt : i < fs.length
    · obtain ⟨⟨k2, n2, ks2⟩, hki⟩ : ∃ f, fs[i]? = some f := ⟨_, List.getElem?_eq_getElem hlt⟩
      (obtain ⟨b, off, rfl, hrs⟩ := H3.out (fun e => by rw [e] at hlt; simp at hlt)); obtain ⟨sl2, cap2, g0, g1, g2, hrep2⟩ := (hrs.up hbr).at i k2 n2 ks2 hki; (have hltI : (i : Int) < (fs.length : Int) := by omega); (have hlc : (i : Int) < (cap : Int) := by omega); have zb := lt_of_cell g0; have zz := hbr.size; have hrepf := hu.up hbr; (have hsm := fun v u w h1 h2 => same_any (.mk k2 n2 ks2) (.mk kf nf ksf) v u w h1 h2)
      have hnx : hasF (.mk kf nf ksf) (fs.take (i + 1)) = (hasF (.mk kf nf ksf) (fs.take i) || sameB (.mk k2 n2 ks2) (.mk kf nf ksf)) := by
        unfold hasF; rw [List.take_add_one, hki, List.any_append]
        simp
      (have hin : sameB (.mk k2 n2 ks2) (.mk kf nf ksf) = true → fs.erase (.mk kf nf ksf) = fs.take i ++ fs.drop (i + 1) := fun h => erase_first i fs HN.out hki h); simp only at zb; generalize hbb : sameB (.mk k2 n2 ks2) (.mk kf nf ksf) = bb at hsm hnx hin; have HS : Hid (∀ v u w, _ → _ → Calls Tryz.prog 26 #[v, u] w _) := hsm
      have HX : Hid (hasF (.mk kf nf ksf) (fs.take (i + 1)) = bb) := by
        show _ = _; rw [hnx, HN.out, Bool.false_or]
      have HI : Hid (bb = true → fs.erase (.mk kf nf ksf) = fs.take i ++ fs.drop (i + 1)) := hin; clear hki hrs H3 hsm hnx hin hbb; go_wp2_with fail
      go_region_held3 (fun w' => w'.cell? ⟨b, off + i * 3, none⟩ = some (.int .i64 k2) ∧ w'.cell? ⟨b, off + i * 3 + 1, none⟩ = some (.string n2) ∧ w'.cell? ⟨b, off + i * 3 + 2, none⟩ = some (.slice sl2 ks2.length cap2) ∧ w'.cell? ⟨w.heap.size, 0, none⟩ = some (.int .i64 kf) ∧ w'.cell? ⟨w.heap.size, 1, none⟩ = some (.string nf) ∧ w'.cell? ⟨w.heap.size, 2, none⟩ = some (.slice slf ksf.length capf)) (go_keep)
        (first
         | (go_at_call 26
            refine (HS.out _ _ _ (hrep2.up (Below.refl _ _).drew) (hrepf.up (Below.refl _ _).drew)).mono ?_; rintro e w1 ⟨rfl, hb1⟩; have c3 := (hb1.cell (p := ⟨b, off + i * 3, none⟩) zb).trans g0; have c4 := (hb1.cell (p := ⟨b, off + i * 3 + 1, none⟩) zb).trans g1; have c5 := (hb1.cell (p := ⟨b, off + i * 3 + 2, none⟩) zb).trans g2; have c6 := (hb1.cell (p := ⟨w.heap.size, 0, none⟩) z0).trans e0; have c7 := (hb1.cell (p := ⟨w.heap.size, 1, none⟩) z0).trans e1
            have c8 := (hb1.cell (p := ⟨w.heap.size, 2, none⟩) z0).trans e2)
         | fail)
      have hb2 : Below w.heap.size w w1 := hbr.drew.trans (hb1.mono zz); have q1 := (hb1.block _ z0).trans q0; clear c3 c4 c5 c6 c7 c8
      cases bb
      · go_wp2_with fail
        go_roundg (fs.length - (i + 1))
        case measure => have := HG.out; omega
        case rel => exact ⟨i + 1, by omega, rfl, by go_num, hb2, q1, HX⟩
      · have HE : Hid (fs.erase (.mk kf nf ksf) = fs.take i ++ fs.drop (i + 1)) := HI.out rfl
        clear HI HX g0 g1 g2 e0 e1 e2; have HB2 : Hid (Below w.heap.size w w1) := hb2; have hs1 := hb2.size; (have htk : (fs.take i).length = i := by rw [List.length_take]; omega); (have hdr : (fs.drop (i + 1)).length = fs.length - (i + 1) := by rw [List.length_drop]); have HTK : Hid ((fs.take i).length = i ∧ (fs.drop (i + 1)).length = fs.length - (i + 1)) := ⟨htk, hdr⟩; (have hi1 : ((i : Int) + 1) ≤ (fs.length : Int) := by omega); (have hi2 : ((i : Int) + 1) ≤ (cap : Int) := by omega); (have hcap : (fs.length : Int) ≤ (cap : Int) := by omega); (have hN1 : i ≤ cap := by omega); have hN2 : i + 1 ≤ fs.length := hlt; (have hN3 : i + 1 ≤ cap := by omega); (have hw1 : IntKind.i64.wrap ((i : Int) + 1) = (i : Int) + 1 := wrap_small (i + 1) (by omega)); clear htk hdr; go_wp2_with fail; (refine wp_region_one (by kernel_rfl) [tEq (.slice (some ⟨b, off, none⟩) fs.length cap), tEq (.int .i64 (i : Nat)), tEq (.slice (some ⟨b, off, none⟩) i cap), tAp w.heap.size w1.heap.size (fs.take i), tEq (.slice (some ⟨b, off, none⟩) fs.length cap), tEq (.int .i64 (i : Nat)), tEq (.int .i64 ((i : Int) + 1)), tSl (fs.length - (i + 1)) (cap - (i + 1)) (fun ad => i + 1 < fs.length → ad = some ⟨b, off + (i + 1) * 3, none⟩), tAp w.heap.size w1.heap.size (fs.take i ++ fs.drop (i + 1))] ?_ (by kernel_rfl) (by kernel_rfl) 29 rfl (by kernel_rfl) 9 _ rfl rfl (by kernel_rfl) [3] 8 (by decide) (fun wa _ wb => Below w1.heap.size wa wb) (fun _ wx => Below w1.heap.size w1 wx) (Below.refl _ _) (fun _ wa wb h1 h2 => below_join h1 h2) (fun wa _ wb h1 h2 => h1.trans h2) [] (by kernel_rfl) ?_ ?_ ?_)
        · intro p hp
          simp only [List.mem_cons, List.not_mem_nil, or_false] at hp
          rcases hp with rfl | rfl | rfl | rfl | rfl | rfl | rfl | rfl | rfl
          all_goals first | exact tEq_stays _ | exact tAp_stays _ _ _ | exact tSl_stays _ _ _
        · refine ⟨fun _ _ _ _ _ _ h _ _ => h, fun _ _ _ _ _ _ h _ _ => h, fun _ _ _ _ _ _ h _ _ => h, fun h => ?_, fun _ _ _ _ _ _ h _ _ => h, fun _ _ _ _ _ _ h _ _ => h, fun _ _ _ _ _ _ h _ _ => h, fun _ _ _ _ _ _ h _ _ => h, fun h => ?_, trivial⟩
          all_goals exact Bool.noConfusion (((by kernel_rfl : (_ : Bool) = true)).symm.trans h)
        · refine ⟨?_, ?_, ?_, ?_, ?_, ?_, ?_, ?_, ?_, trivial⟩
          · intro a wx t s hB hs hold hdep K hK
            have t0 : a.tmps[0]? = some (.slice (some ⟨b, off, none⟩) fs.length cap) := hold.2.2 0 rfl; clear hold hdep hs; go_simp; exact hK.out _ _ rfl (Below.refl _ _)
          · intro a wx t s hB hs hold hdep K hK
            have t5 : a.tmps[5]? = some (.int .i64 (i : Nat)) := hold.2.2 5 rfl; clear hold hdep hs; go_simp; exact hK.out _ _ rfl (Below.refl _ _)
          · intro a wx t s hB hs hold hdep K hK
            obtain ⟨v18, t18, p18⟩ := hdep 0 rfl _ 18 rfl rfl; have e18 : v18 = (.slice (some ⟨b, off, none⟩) fs.length cap) := p18; subst e18; obtain ⟨v19, t19, p19⟩ := hdep 1 rfl _ 19 rfl rfl; have e19 : v19 = (.int .i64 (i : Nat)) := p19; subst e19; clear hold hdep hs; go_simp; exact hK.out _ _ rfl (Below.refl _ _)
          · intro a wx t s hB hs hold hdep K hK
            obtain ⟨v20, t20, p20⟩ := hdep 2 rfl _ 20 rfl rfl; have e20 : v20 = (.slice (some ⟨b, off, none⟩) i cap) := p20; subst e20; have hzx := hB.size; (refine step_appF rfl _ _ rfl w.heap.size w1.heap.size [] (fs.take i) none 0 _ rfl AppL.nil (eval_slot t20) ((HV.out.take hi).move fun q hq hp => ⟨(below_join HB2.out hB).block q hq, hp⟩) hs1 hzx (by have := HTK.out.1; simp; omega) ?_); intro ad3 cp3 w3 ha hb hkk; (exact hK.out _ _ ⟨ad3, cp3, rfl, ha⟩ ⟨hb.os, hb.tape, hb.output, hb.size, fun j hj => hkk j (by simp [Value.ownBlock]) hj⟩)
          · intro a wx t s hB hs hold hdep K hK
            have t0 : a.tmps[0]? = some (.slice (some ⟨b, off, none⟩) fs.length cap) := hold.2.2 0 rfl; clear hold hdep hs; go_simp; exact hK.out _ _ rfl (Below.refl _ _)
          · intro a wx t s hB hs hold hdep K hK
            have t5 : a.tmps[5]? = some (.int .i64 (i : Nat)) := hold.2.2 5 rfl; clear hold hdep hs; go_simp; exact hK.out _ _ rfl (Below.refl _ _)
          · intro a wx t s hB hs hold hdep K hK
            obtain ⟨v23, t23, p23⟩ := hdep 5 rfl _ 23 rfl rfl; have e23 : v23 = (.int .i64 (i : Nat)) := p23; subst e23; clear hold hdep hs; go_simp; exact hK.out _ _ rfl (Below.refl _ _)
          · intro a wx t s hB hs hold hdep K hK
            obtain ⟨v22, t22, p22⟩ := hdep 4 rfl _ 22 rfl rfl; have e22 : v22 = (.slice (some ⟨b, off, none⟩) fs.length cap) := p22; subst e22; obtain ⟨v24, t24, p24⟩ := hdep 6 rfl _ 24 rfl rfl; have e24 : v24 = (.int .i64 ((i : Int) + 1)) := p24; subst e24; clear hold hdep hs; by_cases hcc : cap = i + 1
            · have hcn : ¬ i + 1 < fs.length := by omega
              (have hc0 : cap - (i + 1) = 0 := by omega); have HC0 : Hid (cap - (i + 1) = 0) := hc0; clear hc0; go_simp; (exact hK.out _ _ ⟨_, by rw [HC0.out], fun h => absurd h hcn⟩ (Below.refl _ _))
            · go_simp
              (exact hK.out _ _ ⟨_, rfl, fun _ => rfl⟩ (Below.refl _ _))
          · intro a wx t s hB hs hold hdep K hK
            obtain ⟨v21, t21, ad1, cp1, e21, ha1⟩ := hdep 3 rfl _ 21 rfl rfl; obtain ⟨v25, t25, ad5, e25, h25⟩ := hdep 7 rfl _ 25 rfl rfl; subst e21 e25; have hzx := hB.size; (refine step_appF rfl _ _ rfl w.heap.size w1.heap.size (fs.take i) (fs.drop (i + 1)) ad1 cp1 _ (eval_slot t21) ha1 (eval_slot t25) ((HV.out.drop hN2 h25).move fun q hq hp => ⟨(HB2.out.trans (hB.mono hs1)).block q hp, hp⟩) hs1 hzx (by have := HTK.out; omega) ?_); intro ad3 cp3 w3 ha hb hkk; exact hK.out _ _ ⟨ad3, cp3, rfl, ha⟩ hb
        · intro a wx t hB hold hgot K hK
          (obtain ⟨v26, t26, ad3, cp3, e26, ha⟩ := hgot 8 _ 26 (by omega) (by kernel_rfl) rfl rfl); subst e26; have HA3 : Hid (AppL w.heap.size w1.heap.size (fs.take i ++ fs.drop (i + 1)) ad3 cp3 wx) := ha; obtain ⟨tm, df⟩ := a; obtain ⟨x0, x1, x2, x3, x4, x5, x6, x7, x8, x9, x10, x11, x12, x13, x14, x15, x16, x17, x18, x19, x20, x21, x22, x23, x24, x25, x26, x27, x28, htm⟩ := frame29 tm hold.1; subst htm; obtain rfl : df = [] := hold.2.1; obtain rfl : x26 = _ := Option.some.inj t26; clear hold hgot ha t26; go_simp; refine hK.out _ _ ?_; go_wp2_with fail; go_ret; have hf := (HA3.out.flp hs1).list; rw [List.length_append, HTK.out.1, HTK.out.2, ← HE.out] at hf; exact ⟨_, rfl, hf, HB2.out.trans (hB.mono hs1)⟩
    · have HT : Hid (fs.erase (.mk kf nf ksf) = fs) := by
        have := HN.out; (rw [List.take_of_length_le (by omega)] at this); show _ = _; rw [List.erase_of_not_mem]; intro hm; rw [(hasF_mem _ _).2 hm] at this
        cases this
      (have hge : ¬ (i : Int) < (fs.length : Int) := by omega); have HB2 : Hid (Below w.heap.size w wr) := hbr; have hsz := hbr.size; clear H3 HN e0 e1 e2
      go_wp2_with (first
        | (at_builtin
           (refine wpList_appF rfl _ _ rfl w.heap.size w.heap.size [] fs none 0 _ rfl AppL.nil rfl (HV.out.move fun q hq hp => ⟨HB2.out.block q hp, hp⟩) (Nat.le_refl _) hsz (by simp; omega) ?_); intro ad1 cp1 w1 h1 b1 k1; have H1 : Hid (AppL w.heap.size w.heap.size fs ad1 cp1 w1) := h1
           clear h1 k1)
        | fail)
      go_ret; have hf := (H1.out.flp (Nat.le_refl _)).list; (exact ⟨_, rfl, by rw [HT.out]; exact hf, HB2.out.trans b1⟩)
end Go.Proofs.YtpmogojpdigbmabGreat
/- The yardstick's premises: what the rules' walks share. -/
namespace Go.Proofs.YtpmogojpdigbmabGreat
open Go.RowKit

theorem dep_eq {o : Option Value} {c : Value} (w : World) (h : ∃ v, o = some v ∧ kEq c v w) : o = some c := by
  obtain ⟨v, h1, h2⟩ := h; have h3 : v = c := h2; rw [h1, h3]
theorem three_new {w X : World} {A Z : Obj} (h : X = ((w.alloc A).alloc Z).alloc A) : Hid (Below w.heap.size w X) ∧ Hid (X.heap[w.heap.size]? = some A) ∧ Hid (X.heap[w.heap.size + 1]? = some Z) ∧ Hid (X.heap[w.heap.size + 1 + 1]? = some A) := by
  subst h; exact ⟨below_more (below_more (below_more (Below.refl _ w) _) _) _, alloc_keep (alloc_keep (blk_new w _) _) _, alloc_keep (blk_two w _ _) _, blk_three w _ _ _⟩
theorem someInj {x y : Value} (h : some x = some y) : x = y := Option.some.inj h
def hasRule (i : Bool) (q : Ru) : Bool :=
  match q with
  | .orR => !i
  | .contrR => !i
  | .orR1 => i
  | .orR2 => i
  | _ => true
/-- Does a rule apply, by what the yardstick asks? -/
def premOb (q : Ru) (k : Int) (bl br : Bool) : Bool :=
  match q with
  | .ax => bl && br
  | .tr => (k == 2) && br
  | .fa => (k == 3) && bl
  | .andL => (k == 5) && bl
  | .andR => (k == 5) && br
  | .orL => (k == 6) && bl
  | .thenR => (k == 7) && br
  | .notR => (k == 4) && br
  | .contrL => bl
  | .orR => (k == 6) && br
  | .thenL => (k == 7) && bl
  | .notL => (k == 4) && bl
  | .contrR => br
  | .cut => true
  | .orR1 => (k == 6) && br
  | .orR2 => (k == 6) && br
theorem hasF_dec (f : Fm) (l : List Fm) : hasF f l = decide (f ∈ l) := by
  rw [Bool.eq_iff_iff, hasF_mem, decide_eq_true_iff]
theorem premOb_eq (q : Ru) (k : Int) (n : ByteArray) (ks : List Fm) (l r : List Fm) : premOk q (.mk k n ks) l r = premOb q k (hasF (.mk k n ks) l) (hasF (.mk k n ks) r) := by
  rw [hasF_dec, hasF_dec]
  cases q <;> rfl
def kGd (b : Bool) (x : Value) : Value → World → Prop := fun v _ => b = true → v = x
theorem kGd_stays (b : Bool) (x : Value) : Stays (kGd b x) := fun _ _ _ h _ => h
set_option maxHeartbeats 1000000 in
theorem mkSeq_any (ad : Option Addr) (m cp : Nat) (ad' : Option Addr) (m' cp' : Nat) (w : World) :
    Calls Tryz.prog 76 #[.slice ad m cp, .slice ad' m' cp'] w fun e w' => e = .returned (.agg #[.slice ad m cp, .slice ad' m' cp']) ∧ Below w.heap.size w w' := by
  have B := below_more (Below.refl _ w) (.cells #[.slice ad m cp, .slice ad' m' cp'] 26 (0, 0))
  go_enter Tryz.func76, Tryz.ntmps76
  go_wp2_with fail; (exact bodyPost_ret (v := .agg #[.slice ad m cp, .slice ad' m' cp']) (by simp [results, Tryz.results76, go_sem]) rfl ⟨rfl, B⟩)
end Go.Proofs.YtpmogojpdigbmabGreat
