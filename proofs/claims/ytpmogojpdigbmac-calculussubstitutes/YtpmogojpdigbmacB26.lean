/- Texts of one proof, one behind the other: CS3, YF1, YS1. -/
import Derived.Test.YtpmogojpdigbmacB25
/- Walks: a formula for a name in all of a list. -/
namespace Go.Proofs.Ytpmogojpdigbmac
open Go.RowKit

set_option maxHeartbeats 8000000 in
theorem withAll_any (nm : ByteArray) (g : Fm) (A : Nat) (fs : List Fm) (hl : fs.length ≤ 300) (hslim : ∀ f ∈ fs, Slim f) (v u : Value) (w : World) (hA : A ≤ w.heap.size) (hv : FL w v fs) (hu : Rep w (· < A) g u) :
    Calls Try.prog 22 #[v, .string nm, u] w fun e w' => ∃ x, e = .returned x ∧ FLp (fun b => b < A ∨ w.heap.size ≤ b) w' x (fs.map (putF nm g)) ∧ Below w.heap.size w w' := by
  obtain ⟨adv, cap, rfl, hx1, hx2, hx3⟩ := hv
  obtain ⟨kg, ng, ksg⟩ := g
  obtain ⟨slg, capg, rfl⟩ := slice_shape hu
  have HX : Hid (fs ≠ [] → ∃ b off, adv = some ⟨b, off, none⟩ ∧ Reps w (fun _ => True) b off fs) := hx3
  have HSl : Hid (∀ f ∈ fs, Slim f) := hslim
  have HU : Hid (Rep w (· < A) (.mk kg ng ksg) (.agg #[.int .i64 kg, .string ng, .slice slg ksg.length capg])) := hu
  obtain ⟨i0, hi, hz0, hz1, hz2⟩ := infoFormula
  have HIo : Hid (Try.prog.info? 24 = some i0 ∧ i0.zero = some (.agg #[.int .i64 0, .string ⟨#[]⟩, .slice none 0 0]) ∧ i0.size = 3 ∧ i0.bytes = 48) := ⟨hi, hz0, hz1, hz2⟩
  have hlI : (fs.length : Int) ≤ 300 := by omega
  have HB0 : Hid (Below w.heap.size w (w.alloc (.cells #[.int .i64 kg, .string ng, .slice slg ksg.length capg] 24 (0, 0)))) := below_more (Below.refl _ w) _
  have HN0 : Hid ((w.alloc (.cells #[.int .i64 kg, .string ng, .slice slg ksg.length capg] 24 (0, 0))).heap[w.heap.size]? = some (.cells #[.int .i64 kg, .string ng, .slice slg ksg.length capg] 24 (0, 0))) := blk_new w _
  clear hx3 hslim hu hi hz0 hz1 hz2
  go_enter Try.func22, Try.ntmps22
  go_wp2_with fail
  go_loopg [7, 8] fs.length (fun gg o c wr => ∃ i ad cp, i ≤ fs.length ∧ gg = fs.length - i ∧ c = .int .i64 (i : Nat) ∧ o = .slice ad i cp ∧ Below w.heap.size w wr ∧ wr.heap[w.heap.size]? = some (.cells #[.int .i64 kg, .string ng, .slice slg ksg.length capg] 24 (0, 0)) ∧ Hid (KP (fun b => b < A ∨ w.heap.size + 1 ≤ b) (w.heap.size + 1) wr ad cp ((fs.take i).map (putF nm (.mk kg ng ksg)))))
  case atStart => exact ⟨0, none, 0, by omega, by omega, rfl, rfl, HB0.out, HN0.out, KP.nil⟩
  case round =>
    obtain ⟨i, ad, cp, hile, hg, rfl, rfl, hbr, q0, HK⟩ := hrel
    have HG : Hid (gk = fs.length - i) := hg
    clear hg
    obtain ⟨e0, e1, e2, -⟩ := blk3 q0
    have z0 := lt_of_block q0
    have zz := hbr.size
    by_cases hlt : i < fs.length
    · obtain ⟨⟨k2, n2, ks2⟩, hki⟩ : ∃ f, fs[i]? = some f := ⟨_, List.getElem?_eq_getElem hlt⟩
      have hltI : (i : Int) < (fs.length : Int) := by omega
      obtain ⟨b, off, hsl, hrs⟩ := HX.out (fun e => by rw [e] at hlt; simp at hlt)
      subst hsl
      obtain ⟨sl2, cap2, g0, g1, g2, hrep2⟩ := (hrs.up hbr).at i k2 n2 ks2 hki
      have hlc : ((i : Nat) : Int) < ((cap : Nat) : Int) := by omega
      have hfk := HSl.out _ (List.mem_of_getElem? hki)
      have HIH : Hid (∀ wx, Below w.heap.size w wx → Rep wx (fun _ => True) (.mk k2 n2 ks2) (.agg #[.int .i64 k2, .string n2, .slice sl2 ks2.length cap2]) → Calls Try.prog 21 #[.agg #[.int .i64 k2, .string n2, .slice sl2 ks2.length cap2], .string nm, .agg #[.int .i64 kg, .string ng, .slice slg ksg.length capg]] wx fun e w' => ∃ x, e = .returned x ∧ Rep w' (fun b => b < A ∨ wx.heap.size ≤ b) (putF nm (.mk kg ng ksg) (.mk k2 n2 ks2)) x ∧ Below wx.heap.size wx w') := fun wx hbx h => withs_all nm _ A _ _ _ _ wx (Nat.lt_succ_self _) hfk (by have := hbx.size; omega) h (HU.out.low (hbx.mono hA))
      have zb := lt_of_cell g0
      simp only at zb
      have HT : Hid ((fs.take (i + 1)).map (putF nm (.mk kg ng ksg)) = (fs.take i).map (putF nm (.mk kg ng ksg)) ++ [putF nm (.mk kg ng ksg) (.mk k2 n2 ks2)]) := by
        show _ = _
        rw [List.take_add_one, hki]; simp
      have hti : ((fs.take i).map (putF nm (.mk kg ng ksg))).length = i := by rw [List.length_map, List.length_take]; omega
      have HOB : Hid (∀ b, b < A ∨ wr.heap.size ≤ b → (b < A ∨ w.heap.size + 1 ≤ b) ∧ (Value.slice ad i cp).ownBlock ≠ some b) := fun b hb => by
        obtain ⟨cs, ho, -⟩ := HK.out
        rw [hti] at ho
        refine ⟨by omega, fun e => ?_⟩
        have := ho.lt b e
        omega
      have HR2 : Hid (Rep wr (fun _ => True) (.mk k2 n2 ks2) (.agg #[.int .i64 k2, .string n2, .slice sl2 ks2.length cap2])) := hrep2
      clear hki hrs HX hrep2 hfk
      obtain ⟨hi, hz0, hz1, hz2⟩ := HIo.out
      generalize (fs.take i).map (putF nm (.mk kg ng ksg)) = done at *
      generalize putF nm (.mk kg ng ksg) (.mk k2 n2 ks2) = kid3 at HIH HT
      obtain ⟨k3, n3, ks3⟩ := kid3
      have HTI : Hid (done.length = i) := hti
      clear hti
      go_wp2_with fail
      go_region_law
        (first
         | (have hown := (HK.out.up hb1').up ((Below.refl _ w1).alloc (Nat.le_refl _) (.cells #[.int .i64 k3, .string n3, .slice sl3 ks3.length cap3] 24 (0, 0)))
            obtain ⟨cs, hown, hlq⟩ := hown
            rw [HTI.out] at hown hlq
            refine step_append_lies _ rfl _ _ 22 rfl (w.heap.size + 1) 24 i0 (.agg #[.int .i64 0, .string ⟨#[]⟩, .slice none 0 0]) 3 48 Try.underlying22 hi hz0 hz1 hz2 rfl (by decide) _ _ _ rfl hown ⟨w1.heap.size, 0, none⟩ 1 1 [.int .i64 k3, .string n3, .slice sl3 ks3.length cap3] rfl rfl ?_ ?_ (by omega) (by unfold maxLen; omega) (by omega) (by simp; omega) _ rfl ?_
            · intro j u hu
              rw [add_none, Nat.zero_add, blk_cell (blk_new w1 _)]
              simpa using hu
            · intro u hu
              simp at hu
              rcases hu with rfl | rfl | rfl <;> rfl
            intro g3 cp3 w3 hown3 hgrow hat hlt3
            have hgrow' : (w1.alloc (.cells #[.int .i64 k3, .string n3, .slice sl3 ks3.length cap3] 24 (0, 0))).grownBy w3 (Value.slice ad i cp).ownBlock := hgrow
            have hat' : (Value.slice ad i cp).ownBlock = some g3 ∨ g3 = (w1.alloc (.cells #[.int .i64 k3, .string n3, .slice sl3 ks3.length cap3] 24 (0, 0))).heap.size := hat
            clear hgrow hat
            obtain ⟨hbB, hko⟩ := KP.app HTI.out (by omega) hown hlq (hrep3.move fun b hb1 hb2 => ⟨rfl, (HOB.out b hb2).1, (HOB.out b hb2).2⟩) hown3 hgrow' hat'
            have HKO : Hid (KP (fun b => b < A ∨ w.heap.size + 1 ≤ b) (w.heap.size + 1) w3 (some ⟨g3, 0, none⟩) cp3 (done ++ [.mk k3 n3 ks3])) := hko
            clear hgrow' hat' hown3 hown hlq hko
            have t0 := (hbB.block w.heap.size (by omega)).trans r0
            have y5 := hbB.size)
         | (go_simp
            refine (HIH.out _ (hbr.drew) (HR2.out.up (Below.refl _ _).drew)).mono ?_
            rintro e w1 ⟨x, rfl, hrep3, hb1⟩
            obtain ⟨sl3, cap3, rfl⟩ := slice_shape hrep3
            have hb1' : Below wr.heap.size wr w1 := (Below.refl _ wr).drew.trans hb1
            clear hb1
            have r0 := below_keep hb1' q0
            have y6 := hb1'.size
            dsimp only)
         | fail)
      all_goals
        go_wp2_with fail
        have BB : Below w.heap.size w w3 := (hbr.trans (hb1'.mono zz)).trans (hbB.mono (by omega))
        have HKN : Hid (KP (fun b => b < A ∨ w.heap.size + 1 ≤ b) (w.heap.size + 1) w3 (some ⟨g3, 0, none⟩) cp3 ((fs.take (i + 1)).map (putF nm (.mk kg ng ksg)))) := by
          show KP _ _ _ _ _ _
          rw [HT.out]
          exact HKO.out
        go_roundg (fs.length - (i + 1))
        case measure => have := HG.out; omega
        case rel => exact ⟨i + 1, some ⟨g3, 0, none⟩, cp3, by omega, rfl, by go_num, rfl, BB, t0, HKN⟩
    · obtain rfl : i = fs.length := by omega
      have HKE : Hid (KP (fun b => b < A ∨ w.heap.size + 1 ≤ b) (w.heap.size + 1) wr ad cp (fs.map (putF nm (.mk kg ng ksg)))) := by
        have := HK.out
        rw [List.take_length] at this
        exact this
      have hge : ¬ (fs.length : Int) < (fs.length : Int) := by omega
      clear HK HX
      go_wp2_with fail
      go_ret
      have hf := kp_list HKE.out fun b hb => Or.inr hb
      rw [List.length_map] at hf
      exact ⟨_, rfl, hf.move fun b _ hp => ⟨rfl, by omega⟩, hbr⟩
end Go.Proofs.Ytpmogojpdigbmac
/- Facts on the way through a region: formulas, sequents and proofs with the blocks' makers. -/
namespace Go.Proofs.Ytpmogojpdigbmac
open Go.RowKit

theorem eval_slot {a : Act} {n : Nat} {v : Value} (h : a.tmps[n]? = some v) : a.eval (.tmp n) = v := by
  simp [Act.eval, h]
def tRp (A S : Nat) (ns : List Nat) (k : Int) (n : ByteArray) (ks : List Fm) : Fact := fun v w t => ∃ sl cap, v = .agg #[.int .i64 k, .string n, .slice sl ks.length cap] ∧ Rep w (tP A S t ns) (.mk k n ks) (.agg #[.int .i64 k, .string n, .slice sl ks.length cap])
def tSq2 (A S : Nat) (ns ns' : List Nat) (l r : List Fm) : Fact := fun v w t => ∃ ad m cp ad' m' cp', v = .agg #[.slice ad m cp, .slice ad' m' cp'] ∧ FLp (tP A S t ns) w (.slice ad m cp) l ∧ FLp (tP A S t ns') w (.slice ad' m' cp') r
def tPf2 (A S : Nat) (nf ns ns' : List Nat) (a : Value) (k : Int) (n : ByteArray) (ks : List Fm) (l r : List Fm) : Fact := fun v w t => ∃ sl cap ad m cp ad' m' cp', v = .agg #[a, .int .i64 k, .string n, .slice sl ks.length cap, .slice ad m cp, .slice ad' m' cp', .slice none 0 0] ∧ Rep w (tP A S t nf) (.mk k n ks) (.agg #[.int .i64 k, .string n, .slice sl ks.length cap]) ∧ FLp (tP A S t ns) w (.slice ad m cp) l ∧ FLp (tP A S t ns') w (.slice ad' m' cp') r
theorem tRp_stays (A S : Nat) (ns : List Nat) (k : Int) (n : ByteArray) (ks : List Fm) : Stays3 (tRp A S ns k n ks) := fun _ w _ _ _ h hb ht => by
  obtain ⟨sl, cap, hv, hr⟩ := h
  exact ⟨sl, cap, hv, hr.move fun b hb1 hp => ⟨hb.block b hb1, hp.up ht hb1⟩⟩
theorem tSq2_stays (A S : Nat) (ns ns' : List Nat) (l r : List Fm) : Stays3 (tSq2 A S ns ns' l r) := fun _ w _ _ _ h hb ht => by
  obtain ⟨ad, m, cp, ad', m', cp', hv, h1, h2⟩ := h
  exact ⟨ad, m, cp, ad', m', cp', hv, h1.move fun b hb1 hp => ⟨hb.block b hb1, hp.up ht hb1⟩, h2.move fun b hb1 hp => ⟨hb.block b hb1, hp.up ht hb1⟩⟩
theorem tPf2_stays (A S : Nat) (nf ns ns' : List Nat) (a : Value) (k : Int) (n : ByteArray) (ks : List Fm) (l r : List Fm) : Stays3 (tPf2 A S nf ns ns' a k n ks l r) := fun _ w _ _ _ h hb ht => by
  obtain ⟨sl, cap, ad, m, cp, ad', m', cp', hv, h0, h1, h2⟩ := h
  exact ⟨sl, cap, ad, m, cp, ad', m', cp', hv, h0.move fun b hb1 hp => ⟨hb.block b hb1, hp.up ht hb1⟩, h1.move fun b hb1 hp => ⟨hb.block b hb1, hp.up ht hb1⟩, h2.move fun b hb1 hp => ⟨hb.block b hb1, hp.up ht hb1⟩⟩
end Go.Proofs.Ytpmogojpdigbmac
/- Walks: the yardstick's SequentFault. -/
namespace Go.Proofs.Ytpmogojpdigbmac
open Go.RowKit

theorem pfirst_one (f : Fm) : pfirst [f] = if f.pcode.1 = 0 then (0, 0) else f.pcode := by rw [pfirst]; rfl

set_option maxRecDepth 10000 in
set_option maxHeartbeats 8000000 in
theorem seqFault_any (l r : List Fm) (hl4 : l.length ≤ 400) (hr4 : r.length ≤ 400) (v u : Value) (w : World) (hv : FL w v l) (hu : FL w u r) :
    Calls Try.prog 14 #[.agg #[v, u]] w fun e w' => e = .returned (.agg #[.int .i64 (seqCode l r).1, .int .i64 (seqCode l r).2]) ∧ Below w.heap.size w w' := by
  obtain ⟨adV, cpV, rfl, hv1, hv2, hv3⟩ := hv
  obtain ⟨adU, cpU, rfl, hu1, hu2, hu3⟩ := hu
  have HV : Hid (l ≠ [] → ∃ b off, adV = some ⟨b, off, none⟩ ∧ Reps w (fun _ => True) b off l) := hv3
  have HU : Hid (r ≠ [] → ∃ b off, adU = some ⟨b, off, none⟩ ∧ Reps w (fun _ => True) b off r) := hu3
  have hlI : (l.length : Int) ≤ 400 := by omega
  have hrI : (r.length : Int) ≤ 400 := by omega
  have B0 := below_more (below_more (Below.refl _ w) (.cells #[.slice adV l.length cpV, .slice adU r.length cpU] 26 (0, 0))) (.cells #[.int .i64 0, .int .i64 0] 34 (0, 0))
  have N1 := blk_two w (.cells #[.slice adV l.length cpV, .slice adU r.length cpU] 26 (0, 0)) (.cells #[.int .i64 0, .int .i64 0] 34 (0, 0))
  have N0 := alloc_keep (blk_new w (.cells #[.slice adV l.length cpV, .slice adU r.length cpU] 26 (0, 0))) (.cells #[.int .i64 0, .int .i64 0] 34 (0, 0))
  have HN : Hid (_ ∧ _) := ⟨N0, N1⟩
  have HB0 : Hid (Below _ _ _) := B0
  unfold seqCode
  clear hv3 hu3 N0 N1 B0
  by_cases hmany : 60 < l.length + r.length
  · rw [if_pos hmany]
    have hmI : (60 : Int) < (l.length : Int) + (r.length : Int) := by omega
    clear hmany HV HU
    go_enter Try.func14, Try.ntmps14
    go_wp2_with fail
    refine (mkF_any 2 0 _).mono ?_
    rintro e w1 ⟨rfl, hb1⟩
    have q1 := below_keep hb1 HN.out.2
    obtain ⟨y1, y2, y3, y4⟩ := blk2 q1
    go_wp2_with fail
    have f2 := set2 q1 (.int .i64 2) (.int .i64 0)
    have b2 := ((below_join HB0.out hb1).setCell (p := ⟨w.heap.size + 1, 0, none⟩) (by simp) (.int .i64 2)).setCell (p := ⟨w.heap.size + 1, 1, none⟩) (by simp) (.int .i64 0)
    generalize World.setCell _ _ _ = F at f2 b2 ⊢
    clear y1 y2 y3 y4
    obtain ⟨k1, k2, -⟩ := blk2 f2
    exact bodyPost_ret (v := .agg #[.int .i64 2, .int .i64 0]) (by simp [results, Try.results14, go_sem, k1, k2]) rfl ⟨rfl, b2⟩
  · rw [if_neg hmany]
    have hmI : ¬ (60 : Int) < (l.length : Int) + (r.length : Int) := by omega
    obtain ⟨T, hT⟩ : ∃ T, T = firstBad (l ++ r) 0 := ⟨_, rfl⟩
    have HT : Hid (T = firstBad ((l ++ r).drop 0) 0) := hT
    rw [← hT]
    have hlr : (l ++ r).length = l.length + r.length := List.length_append
    have HLR : Hid ((l ++ r).length = l.length + r.length) := hlr
    have HM : Hid (l.length + r.length ≤ 60) := by show _ ≤ _; omega
    clear hT hmany hlr
    go_enter Try.func14, Try.ntmps14
    go_wp2_with fail
    go_loopg [3] (l.length + r.length) (fun g cc wr => ∃ i, i ≤ l.length + r.length ∧ g = l.length + r.length - i ∧ cc = .int .i64 (i : Nat) ∧ Hid (Below w.heap.size w wr) ∧ Hid (wr.heap[w.heap.size]? = some (.cells #[.slice adV l.length cpV, .slice adU r.length cpU] 26 (0, 0)) ∧ wr.heap[w.heap.size + 1]? = some (.cells #[.int .i64 0, .int .i64 0] 34 (0, 0))) ∧ Hid (T = firstBad ((l ++ r).drop i) i))
    case atStart => exact ⟨0, by omega, by omega, rfl, HB0, HN, HT⟩
    case round =>
      obtain ⟨i, hi, hg, rfl, HBr, HQ, HW⟩ := hrel
      have HG : Hid (gk = l.length + r.length - i) := hg
      clear hg HT HN HB0
      obtain ⟨c0, c1, -⟩ := blk2 HQ.out.1
      have z0 := lt_of_block HQ.out.1
      have z1 := lt_of_block HQ.out.2
      by_cases hlt : i < l.length + r.length
      · have hltI : (i : Int) < (l.length : Int) + (r.length : Int) := by omega
        obtain ⟨⟨k2, n2, ks2⟩, hki⟩ : ∃ f, (l ++ r)[i]? = some f := ⟨_, List.getElem?_eq_getElem (by rw [HLR.out]; exact hlt)⟩
        have hds := HW.out
        rw [firstBad_drop hki] at hds
        have hpl := fun v (w : World) h => plainR_any [.mk k2 n2 ks2] (by simp) v w h
        rw [pfirst_one] at hpl
        generalize (Fm.mk k2 n2 ks2).pcode = pc at hpl hds
        obtain ⟨pc1, pc2⟩ := pc
        have HP : Hid (∀ v w, FL w v [.mk k2 n2 ks2] → Calls Try.prog 8 #[v] w _) := hpl
        have HD : Hid (T = if (pc1, pc2).1 = 0 then firstBad ((l ++ r).drop (i + 1)) (i + 1) else ((pc1, pc2).1, ((i : Nat) : Int))) := hds
        have HFm : Hid (∀ w, Calls Try.prog 16 #[.int .i64 pc1, .int .i64 (i : Nat)] w _) := fun w => mkF_any pc1 (i : Nat) w
        clear hds HW hpl
        by_cases hp : pc1 = 0
        · subst hp
          have HD0 : Hid (T = firstBad ((l ++ r).drop (i + 1)) (i + 1)) := HD.out
          have HP0 : Hid (∀ v w, FL w v [.mk k2 n2 ks2] → Calls Try.prog 8 #[v] w fun e w' => e = .returned (.agg #[.int .i64 0, .int .i64 0]) ∧ Below w.heap.size w w') := fun v w h => HP.out v w h
          clear HD HP
          by_cases hil : i < l.length
          · have hilI : (i : Int) < (l.length : Int) := by omega
            rw [List.getElem?_append_left hil] at hki
            obtain ⟨b, off, rfl, hrs⟩ := HV.out (fun e => by rw [e] at hil; simp at hil)
            obtain ⟨sl2, cap2, g0, g1, g2, hrep2⟩ := (hrs.up HBr.out).at i k2 n2 ks2 hki
            have hlc : (i : Int) < (cpV : Int) := by omega
            have HR2 : Hid (Rep wr (fun _ => True) (.mk k2 n2 ks2) (.agg #[.int .i64 k2, .string n2, .slice sl2 ks2.length cap2])) := hrep2
            have zb := lt_of_cell g0
            simp only at zb
            have d0 : ¬ b = wr.heap.size := by omega
            clear hki hrs HV HU hrep2
            go_wp2_with fail
            refine (HP0.out _ _ (FL.sing (blk_two wr _ _) ((HR2.out.more _).more _))).mono ?_
            rintro e w2 ⟨rfl, hb2⟩
            have B2 := below_join (below_more (below_more HBr.out _) _) hb2
            have Q2 := below_keep hb2 (alloc_keep (alloc_keep HQ.out.1 _) _)
            have Q3 := below_keep hb2 (alloc_keep (alloc_keep HQ.out.2 _) _)
            clear g0 g1 g2 c0 c1 hb2
            go_wp2_with fail
            go_roundg (l.length + r.length - (i + 1))
            case measure => have := HG.out; omega
            case rel => exact ⟨i + 1, by omega, rfl, by go_num, below_more B2 _, ⟨alloc_keep Q2 _, alloc_keep Q3 _⟩, HD0⟩
          · have hilI : ¬ (i : Int) < (l.length : Int) := by omega
            rw [List.getElem?_append_right (by omega)] at hki
            obtain ⟨j, hj⟩ : ∃ j, j = i - l.length := ⟨_, rfl⟩
            rw [← hj] at hki
            have hij : (i : Int) - (l.length : Int) = (j : Nat) := by omega
            have hjr : (j : Int) < (r.length : Int) := by omega
            have hjc : (j : Int) < (cpU : Int) := by omega
            obtain ⟨b, off, rfl, hrs⟩ := HU.out (fun e => by rw [e] at hjr; simp at hjr; omega)
            obtain ⟨sl2, cap2, g0, g1, g2, hrep2⟩ := (hrs.up HBr.out).at j k2 n2 ks2 hki
            have HR2 : Hid (Rep wr (fun _ => True) (.mk k2 n2 ks2) (.agg #[.int .i64 k2, .string n2, .slice sl2 ks2.length cap2])) := hrep2
            have zb := lt_of_cell g0
            simp only at zb
            have d0 : ¬ b = wr.heap.size := by omega
            clear hki hrs HV HU hrep2 hj
            go_wp2_with fail
            refine (HP0.out _ _ (FL.sing (blk_two wr _ _) ((HR2.out.more _).more _))).mono ?_
            rintro e w2 ⟨rfl, hb2⟩
            have B2 := below_join (below_more (below_more HBr.out _) _) hb2
            have Q2 := below_keep hb2 (alloc_keep (alloc_keep HQ.out.1 _) _)
            have Q3 := below_keep hb2 (alloc_keep (alloc_keep HQ.out.2 _) _)
            clear g0 g1 g2 c0 c1 hb2
            go_wp2_with fail
            go_roundg (l.length + r.length - (i + 1))
            case measure => have := HG.out; omega
            case rel => exact ⟨i + 1, by omega, rfl, by go_num, below_more B2 _, ⟨alloc_keep Q2 _, alloc_keep Q3 _⟩, HD0⟩
        · have HD0 : Hid (T = (pc1, ((i : Nat) : Int))) := by
            have := HD.out
            rw [if_neg hp] at this
            exact this
          have HP0 : Hid (∀ v w, FL w v [.mk k2 n2 ks2] → Calls Try.prog 8 #[v] w fun e w' => e = .returned (.agg #[.int .i64 pc1, .int .i64 pc2]) ∧ Below w.heap.size w w') := fun v w h => by
            have := HP.out v w h
            rw [if_neg hp] at this
            exact this
          have hne' : (pc1 != 0) = true := by simpa using hp
          clear HD HP
          by_cases hil : i < l.length
          · have hilI : (i : Int) < (l.length : Int) := by omega
            rw [List.getElem?_append_left hil] at hki
            obtain ⟨b, off, rfl, hrs⟩ := HV.out (fun e => by rw [e] at hil; simp at hil)
            obtain ⟨sl2, cap2, g0, g1, g2, hrep2⟩ := (hrs.up HBr.out).at i k2 n2 ks2 hki
            have hlc : (i : Int) < (cpV : Int) := by omega
            have HR2 : Hid (Rep wr (fun _ => True) (.mk k2 n2 ks2) (.agg #[.int .i64 k2, .string n2, .slice sl2 ks2.length cap2])) := hrep2
            have zb := lt_of_cell g0
            simp only at zb
            have d0 : ¬ b = wr.heap.size := by omega
            clear hki hrs HV HU hrep2
            go_wp2_with fail
            refine (HP0.out _ _ (FL.sing (blk_two wr _ _) ((HR2.out.more _).more _))).mono ?_
            rintro e w2 ⟨rfl, hb2⟩
            have B2 := below_join (below_more (below_more HBr.out _) _) hb2
            have Q2 := below_keep hb2 (alloc_keep (alloc_keep HQ.out.1 _) _)
            have Q3 := below_keep hb2 (alloc_keep (alloc_keep HQ.out.2 _) _)
            clear g0 g1 g2 c0 c1 hb2
            go_wp2_with fail
            refine (HFm.out _).mono ?_
            rintro e w3 ⟨rfl, hb3⟩
            have B3 := below_join (below_more B2 _) hb3
            have q3 := below_keep hb3 (alloc_keep Q3 _)
            obtain ⟨y1, y2, y3, y4⟩ := blk2 q3
            go_wp2_with fail
            have f2 := set2 q3 (.int .i64 pc1) (.int .i64 (i : Nat))
            have b2 := (B3.setCell (p := ⟨w.heap.size + 1, 0, none⟩) (by simp) (.int .i64 pc1)).setCell (p := ⟨w.heap.size + 1, 1, none⟩) (by simp) (.int .i64 (i : Nat))
            generalize World.setCell _ _ _ = F at f2 b2 ⊢
            clear y1 y2 y3 y4
            obtain ⟨k1, k2', -⟩ := blk2 f2
            exact bodyPost_ret (v := .agg #[.int .i64 pc1, .int .i64 (i : Nat)]) (by simp [results, Try.results14, go_sem, k1, k2']) rfl ⟨by rw [HD0.out], b2⟩
          · have hilI : ¬ (i : Int) < (l.length : Int) := by omega
            rw [List.getElem?_append_right (by omega)] at hki
            obtain ⟨j, hj⟩ : ∃ j, j = i - l.length := ⟨_, rfl⟩
            rw [← hj] at hki
            have hij : (i : Int) - (l.length : Int) = (j : Nat) := by omega
            have hjr : (j : Int) < (r.length : Int) := by omega
            have hjc : (j : Int) < (cpU : Int) := by omega
            obtain ⟨b, off, rfl, hrs⟩ := HU.out (fun e => by rw [e] at hjr; simp at hjr; omega)
            obtain ⟨sl2, cap2, g0, g1, g2, hrep2⟩ := (hrs.up HBr.out).at j k2 n2 ks2 hki
            have HR2 : Hid (Rep wr (fun _ => True) (.mk k2 n2 ks2) (.agg #[.int .i64 k2, .string n2, .slice sl2 ks2.length cap2])) := hrep2
            have zb := lt_of_cell g0
            simp only at zb
            have d0 : ¬ b = wr.heap.size := by omega
            clear hki hrs HV HU hrep2 hj
            go_wp2_with fail
            refine (HP0.out _ _ (FL.sing (blk_two wr _ _) ((HR2.out.more _).more _))).mono ?_
            rintro e w2 ⟨rfl, hb2⟩
            have B2 := below_join (below_more (below_more HBr.out _) _) hb2
            have Q2 := below_keep hb2 (alloc_keep (alloc_keep HQ.out.1 _) _)
            have Q3 := below_keep hb2 (alloc_keep (alloc_keep HQ.out.2 _) _)
            clear g0 g1 g2 c0 c1 hb2
            go_wp2_with fail
            refine (HFm.out _).mono ?_
            rintro e w3 ⟨rfl, hb3⟩
            have B3 := below_join (below_more B2 _) hb3
            have q3 := below_keep hb3 (alloc_keep Q3 _)
            obtain ⟨y1, y2, y3, y4⟩ := blk2 q3
            go_wp2_with fail
            have f2 := set2 q3 (.int .i64 pc1) (.int .i64 (i : Nat))
            have b2 := (B3.setCell (p := ⟨w.heap.size + 1, 0, none⟩) (by simp) (.int .i64 pc1)).setCell (p := ⟨w.heap.size + 1, 1, none⟩) (by simp) (.int .i64 (i : Nat))
            generalize World.setCell _ _ _ = F at f2 b2 ⊢
            clear y1 y2 y3 y4
            obtain ⟨k1, k2', -⟩ := blk2 f2
            exact bodyPost_ret (v := .agg #[.int .i64 pc1, .int .i64 (i : Nat)]) (by simp [results, Try.results14, go_sem, k1, k2']) rfl ⟨by rw [HD0.out], b2⟩
      · have HF : Hid (T = (0, 0)) := by
          have := HW.out
          rw [List.drop_of_length_le (by rw [HLR.out]; omega), firstBad] at this
          exact this
        have hge : ¬ (i : Int) < (l.length : Int) + (r.length : Int) := by omega
        obtain ⟨y1, y2, y3, y4⟩ := blk2 HQ.out.2
        clear HV HU HW
        go_wp2_with fail
        have f2 := set2 HQ.out.2 (.int .i64 0) (.int .i64 0)
        have b2 := ((HBr.out).setCell (p := ⟨w.heap.size + 1, 0, none⟩) (by simp) (.int .i64 0)).setCell (p := ⟨w.heap.size + 1, 1, none⟩) (by simp) (.int .i64 0)
        generalize World.setCell _ _ _ = F at f2 b2 ⊢
        clear y1 y2 y3 y4
        obtain ⟨k1, k2, -⟩ := blk2 f2
        exact bodyPost_ret (v := .agg #[.int .i64 0, .int .i64 0]) (by simp [results, Try.results14, go_sem, k1, k2]) rfl ⟨by rw [HF.out], b2⟩
end Go.Proofs.Ytpmogojpdigbmac
