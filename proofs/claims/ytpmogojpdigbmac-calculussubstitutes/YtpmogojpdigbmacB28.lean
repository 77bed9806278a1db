/- Texts of one proof, one behind the other: CS5. -/
import Derived.Test.YtpmogojpdigbmacB27
/- Walks: CalculusSubstitutes. -/
namespace Go.Proofs.Ytpmogojpdigbmac
open Go.RowKit

theorem prp_parts {P : Nat → Prop} {w : World} {a n : ByteArray} {k : Int} {kf l r : List Fm} {ks : List Pf} {sf al ar sl : Option Addr} {cf cl cr cap : Nat} (h : PRp P w (.mk a (.mk k n kf) l r ks) (.agg #[.string a, .int .i64 k, .string n, .slice sf kf.length cf, .slice al l.length cl, .slice ar r.length cr, .slice sl ks.length cap])) : Rep w (fun _ => True) (.mk k n kf) (.agg #[.int .i64 k, .string n, .slice sf kf.length cf]) ∧ FLp P w (.slice al l.length cl) l ∧ FLp P w (.slice ar r.length cr) r := by
  obtain ⟨sf', cf', al', cl', ar', cr', sl', cap', hv, -, hf, hl, hr, -⟩ := h.parts
  simp only [Value.agg.injEq, Array.mk.injEq, List.cons.injEq, Value.slice.injEq, and_true, true_and] at hv
  obtain ⟨⟨rfl, rfl⟩, ⟨rfl, rfl⟩, ⟨rfl, rfl⟩, rfl, rfl⟩ := hv
  exact ⟨hf.all, hl, hr⟩

set_option maxRecDepth 10000 in
set_option maxHeartbeats 8000000 in
theorem psubst_any (i : Bool) (nm : ByteArray) (hnm : nm.size ≤ maxLen) (p : Pf) (f : Fm) (v u : Value) (w : World) (hv : PRep w p v) (hu : Rep w (fun _ => True) f u) :
    Calls Try.prog 4 #[v, .bool i, .string nm, u] w fun e w' => e = .returned (.bool true) ∧ Below w.heap.size w w' := by
  obtain ⟨a, ⟨k, n, kf⟩, l, r, ks⟩ := p
  obtain ⟨kg, ng, ksg⟩ := f
  obtain ⟨P, hP⟩ : ∃ P, P = Pf.mk a (.mk k n kf) l r ks := ⟨_, rfl⟩
  have HV : Hid (PRep w P v) := by rw [hP]; exact hv
  have HP : Hid (P = Pf.mk a (.mk k n kf) l r ks) := hP
  clear hP
  obtain ⟨sf, cf, al, cl, ar, cr, sl, cap, rfl, -⟩ := hv.parts
  obtain ⟨sg, cg, rfl⟩ := slice_shape hu
  have HU : Hid (Rep w (fun _ => True) (.mk kg ng ksg) _) := hu
  have hfc := fun a b w => fault_code a b w
  have hpf := fun v (w : World) h => plainR_any [.mk kg ng ksg] (by simp) v w h
  have hpz : (pfirst [Fm.mk kg ng ksg]).1 = 0 → (Fm.mk kg ng ksg).pcode.1 = 0 := by
    rw [pfirst]
    split
    · rename_i h; exact fun _ => h
    · exact id
  have HPZ : Hid ((pfirst [Fm.mk kg ng ksg]).1 = 0 → (Fm.mk kg ng ksg).pcode.1 = 0) := hpz
  have HPF : Hid (∀ v w, FL w v [.mk kg ng ksg] → Calls Try.prog 8 #[v] w fun e w' => e = .returned (.agg #[.int .i64 (pfirst [Fm.mk kg ng ksg]).1, .int .i64 (pfirst [Fm.mk kg ng ksg]).2]) ∧ Below w.heap.size w w') := hpf
  have HCh : Hid (∀ v w, SmallP P → PRep w P v → Calls Try.prog 9 #[v, .bool i] w fun e w' => e = .returned (.agg #[.int .i64 (look i P 1 0 0).1.1, .int .i64 (if (look i P 1 0 0).1.1 ≠ 0 then (look i P 1 0 0).1.2 else 0)]) ∧ Below w.heap.size w w') := fun v w hs h => pcheck_any i _ hs v w h
  have HVa : Hid (∀ v w, PRep w P v → Calls Try.prog 6 #[v, .int .i64 0] w fun e w' => IsVP P e ∧ Below w.heap.size w w') := fun v w h => pvast_any _ v w h
  have HVf : Hid (∀ v w, Rep w (fun _ => True) (.mk kg ng ksg) v → Calls Try.prog 7 #[v, .int .i64 0] w fun e w' => IsV (.mk kg ng ksg) e ∧ Below w.heap.size w w') := fun v w h => vast2_any _ v w h
  have HSo : Hid ((look i P 1 0 0).1.1 = 0 → SmallP P → (GoodS P ∧ SmallP (P.sub nm (.mk kg ng ksg))) ∧ (P.size ≤ 20000 ∧ 1 + P.deep ≤ 401) ∧ ((∀ x ∈ (P.sub nm (.mk kg ng ksg)).nodes, StepOkS x) → (look i (P.sub nm (.mk kg ng ksg)) 1 0 0).1.1 = 0)) := fun h1 h3 => by
    have h4 := look_goodS i P 1 0 0 h1 h3
    have h5 := look_size i P 1 0 0 h1
    have h6 := look_le i P 1 0 0 (by omega) (by omega)
    refine ⟨⟨h4.1, h4.2 _ _⟩, ⟨by omega, h5.2⟩, fun h => ?_⟩
    rw [look_sub i nm _ P 1 0 0 h1 (sub_fits nm _ P h)]
    exact h1
  have HNm : Hid (∀ w, Calls Try.prog 12 #[.string nm] w fun e w' => e = .returned (.bool (isNm nm.data.toList)) ∧ w' = w) := fun w => refName_any nm hnm w
  generalize isNm nm.data.toList = bnm at HNm
  generalize (if (look i P 1 0 0).1.1 ≠ 0 then (look i P 1 0 0).1.2 else 0) = la at *
  generalize (look i P 1 0 0).1.1 = lc at *
  generalize (pfirst [Fm.mk kg ng ksg]).1 = pc at *
  generalize (pfirst [Fm.mk kg ng ksg]).2 = pd at *
  obtain ⟨O, hO⟩ : ∃ O, O = Obj.cells #[.string a, .int .i64 k, .string n, .slice sf kf.length cf, .slice al l.length cl, .slice ar r.length cr, .slice sl ks.length cap] 29 (0, 0) := ⟨_, rfl⟩
  obtain ⟨O2, hO2⟩ : ∃ O, O = Obj.cells #[.int .i64 kg, .string ng, .slice sg ksg.length cg] 24 (0, 0) := ⟨_, rfl⟩
  have B0 := below_more (below_more (Below.refl _ w) O) O2
  have P0 : Hid (((w.alloc O).alloc O2).heap[w.heap.size]? = some (.cells #[.string a, .int .i64 k, .string n, .slice sf kf.length cf, .slice al l.length cl, .slice ar r.length cr, .slice sl ks.length cap] 29 (0, 0))) := by rw [← hO]; exact alloc_keep (blk_new w O) _
  have R0 : Hid (((w.alloc O).alloc O2).heap[w.heap.size + 1]? = some (.cells #[.int .i64 kg, .string ng, .slice sg ksg.length cg] 24 (0, 0))) := by rw [← hO2]; exact blk_two w O O2
  clear hv hu hpf hpz
  go_enter Try.func4, Try.ntmps4
  go_wp2_with fail
  rw [← hO, ← hO2]
  refine (calculusBegun_any _).mono ?_
  rintro e w1 ⟨rfl, hb1⟩
  have B1 := below_join B0 hb1
  have P1 : Hid (w1.heap[w.heap.size]? = some _) := below_keep hb1 P0.out
  have R1 : Hid (w1.heap[w.heap.size + 1]? = some _) := below_keep hb1 R0.out
  obtain ⟨j0, j1, j2, j3, j4, j5, j6⟩ := blk7 P1.out
  clear hO hO2 hb1 P0 R0 B0
  go_wp2_with fail
  refine (HVa.out _ _ (PRep.up B1 _ _ HV.out)).mono ?_
  rintro e w2 ⟨⟨b1, rfl, hsm⟩, hb2⟩
  have B2 := below_join B1 hb2
  have P2 : Hid (w2.heap[w.heap.size]? = some _) := below_keep hb2 P1.out
  have R2 : Hid (w2.heap[w.heap.size + 1]? = some _) := below_keep hb2 R1.out
  have HSm : Hid (b1 = false → SmallP P) := hsm
  clear j0 j1 j2 j3 j4 j5 j6 hb2 hsm P1 R1 B1
  cases b1
  case true =>
    go_wp2_with fail
    go_ret
    exact ⟨rfl, B2⟩
  case false =>
    have HSM : Hid (SmallP P) := HSm.out rfl
    clear HSm
    obtain ⟨m0, m1, m2, -⟩ := blk3 R2.out
    go_wp2_with fail
    refine (HVf.out _ _ (HU.out.up B2)).mono ?_
    rintro e w3 ⟨⟨b2, rfl, hsl⟩, hb3⟩
    have B3 := below_join B2 hb3
    have P3 : Hid (w3.heap[w.heap.size]? = some _) := below_keep hb3 P2.out
    have R3 : Hid (w3.heap[w.heap.size + 1]? = some _) := below_keep hb3 R2.out
    clear m0 m1 m2 hb3 hsl P2 R2 B2
    cases b2
    case true =>
      go_wp2_with fail
      go_ret
      exact ⟨rfl, B3⟩
    case false =>
      obtain ⟨m0, m1, m2, -⟩ := blk3 R3.out
      go_wp2_with fail
      refine (HPF.out _ _ (FL.sing (blk_new w3 _) ((HU.out.up B3).more _))).mono ?_
      rintro e w4 ⟨rfl, hb4⟩
      have B4 := below_join (below_more B3 _) hb4
      have P4 : Hid (w4.heap[w.heap.size]? = some _) := below_keep hb4 (alloc_keep P3.out _)
      have R4 : Hid (w4.heap[w.heap.size + 1]? = some _) := below_keep hb4 (alloc_keep R3.out _)
      clear m0 m1 m2 hb4 P3 R3 B3
      by_cases hpc : pc = 0
      · subst hpc
        go_wp2_with fail
        refine (HNm.out _).mono ?_
        rintro e w4' ⟨rfl, hw4⟩
        subst hw4
        cases bnm
        case false =>
          go_wp2_with fail
          go_ret
          exact ⟨rfl, B4⟩
        obtain ⟨j0, j1, j2, j3, j4, j5, j6⟩ := blk7 P4.out
        go_wp2_with fail
        refine (HCh.out _ _ HSM.out (PRep.up B4 _ _ HV.out)).mono ?_
        rintro e w5 ⟨rfl, hb5⟩
        have B5 := below_join B4 hb5
        have P5 : Hid (w5.heap[w.heap.size]? = some _) := below_keep hb5 P4.out
        have R5 : Hid (w5.heap[w.heap.size + 1]? = some _) := below_keep hb5 R4.out
        clear j0 j1 j2 j3 j4 j5 j6 hb5 P4 R4 B4 HCh
        by_cases hlc : lc = 0
        · subst hlc
          obtain ⟨⟨hgood, hsmq⟩, ⟨hsize, hdeep⟩, hlook⟩ := HSo.out rfl HSM.out
          have HGO : Hid (GoodS P) := hgood
          have HSQ : Hid (SmallP (P.sub nm (.mk kg ng ksg))) := hsmq
          have HSZ : Hid (P.size ≤ 20000) := hsize
          have HDP : Hid (1 + P.deep ≤ 401) := hdeep
          have HLK : Hid ((∀ x ∈ (P.sub nm (.mk kg ng ksg)).nodes, StepOkS x) → (look i (P.sub nm (.mk kg ng ksg)) 1 0 0).1.1 = 0) := hlook
          clear HSo hgood hsmq hsize hdeep hlook HSM
          obtain ⟨j0, j1, j2, j3, j4, j5, j6⟩ := blk7 P5.out
          obtain ⟨m0, m1, m2, -⟩ := blk3 R5.out
          go_wp2_with fail
          have HEV : Hid (∀ wx, Below w.heap.size w wx → Calls Try.prog 13 #[.agg #[.string a, .int .i64 k, .string n, .slice sf kf.length cf, .slice al l.length cl, .slice ar r.length cr, .slice sl ks.length cap], .string nm, .agg #[.int .i64 kg, .string ng, .slice sg ksg.length cg]] wx fun e w' => ∃ x, e = .returned x ∧ PRp (fun b => b < w.heap.size ∨ wx.heap.size ≤ b) w' (P.sub nm (.mk kg ng ksg)) x ∧ Below wx.heap.size wx w') := fun wx hb => instead_all nm (.mk kg ng ksg) w.heap.size (P.size + 1) P _ _ wx (Nat.lt_succ_self _) HGO.out hb.size (PRp.move (PRep.low _ _ HV.out) fun b hb1 hp => ⟨hb.block b hb1, hp⟩) (HU.out.move fun b hb1 _ => ⟨hb.block b hb1, hb1⟩)
          refine (HEV.out _ B5).mono ?_
          rintro e w6 ⟨x, rfl, hx, hb6⟩
          obtain ⟨k5, n5, kf5, h5⟩ : ∃ k' n' ks', putF nm (.mk kg ng ksg) (.mk k n kf) = .mk k' n' ks' := by
            cases putF nm (.mk kg ng ksg) (.mk k n kf)
            exact ⟨_, _, _, rfl⟩
          have hevq : P.sub nm (.mk kg ng ksg) = Pf.mk a (.mk k5 n5 kf5) (l.map (putF nm (.mk kg ng ksg))) (r.map (putF nm (.mk kg ng ksg))) (Pf.subs nm (.mk kg ng ksg) ks) := by rw [HP.out, Pf.sub, h5]
          have HX : Hid (PRep w6 (P.sub nm (.mk kg ng ksg)) x) := PRp.rep _ _ hx
          rw [hevq] at hx
          obtain ⟨sf6, cf6, al6, cl6, ar6, cr6, sl6, cap6, rfl, -⟩ := hx.parts
          have HX6 : Hid (PRep w6 (P.sub nm (.mk kg ng ksg)) (.agg #[.string a, .int .i64 k5, .string n5, .slice sf6 kf5.length cf6, .slice al6 l.length cl6, .slice ar6 r.length cr6, .slice sl6 (Pf.subs nm (.mk kg ng ksg) ks).length cap6])) := by
            have h9 := HX.out
            rw [List.length_map, List.length_map] at h9
            exact h9
          clear HX
          have B6 := below_join B5 hb6
          have HST : Hid (∀ v wx, PRep wx (P.sub nm (.mk kg ng ksg)) v → Calls Try.prog 11 #[v, .int .i64 1, .int .i64 20001] wx fun e w' => ∃ ad cp ad' cp', e = .returned (.tuple #[.slice ad (P.sub nm (.mk kg ng ksg)).nodes.length cp, .slice ad' (P.sub nm (.mk kg ng ksg)).nodes.length cp']) ∧ ((P.sub nm (.mk kg ng ksg)).nodes.length ≤ cp ∧ cp ≤ maxLen ∧ ((P.sub nm (.mk kg ng ksg)).nodes ≠ [] → ∃ b off, ad = some ⟨b, off, none⟩ ∧ True ∧ PRps (fun _ => True) w' b off (P.sub nm (.mk kg ng ksg)).nodes)) ∧ Below wx.heap.size wx w') := fun v wx h => by
            have hc := steps_all wx.heap.size ((P.sub nm (.mk kg ng ksg)).size + 1) _ v wx 1 20001 (Nat.lt_succ_self _) (by rw [sub_deep]; have := HDP.out; omega) (by rw [sub_size]; have := HSZ.out; omega) (by omega) (Nat.le_refl _) (PRep.low _ _ h)
            refine Calls.mono hc ?_
            rintro e w' ⟨ad, cp, ad', cp', rfl, hkf, -, hb⟩
            have hkf' : KF (fun _ => True) wx.heap.size w' ad cp (P.sub nm (.mk kg ng ksg)).nodes := by
              obtain ⟨cs, ho, hp⟩ := hkf
              exact ⟨cs, ho, PQ.move (fun b _ h => ⟨rfl, trivial, h.2⟩) hp⟩
            exact ⟨ad, cp, ad', cp', rfl, hkf'.rep fun _ _ => trivial, hb⟩
          have hns := nodes_small _ HSQ.out
          have hn20 : (P.sub nm (.mk kg ng ksg)).nodes.length ≤ 20000 := by rw [nodes_size, sub_size]; exact HSZ.out
          have HCQ : Hid ((∀ x ∈ (P.sub nm (.mk kg ng ksg)).nodes, StepOkS x) → ∀ v wx, PRep wx (P.sub nm (.mk kg ng ksg)) v → Calls Try.prog 9 #[v, .bool i] wx fun e w' => e = .returned (.agg #[.int .i64 0, .int .i64 0]) ∧ Below wx.heap.size wx w') := fun hall v wx h => by
            have h0 := HLK.out hall
            refine (pcheck_any i _ HSQ.out v wx h).mono ?_
            rintro e w' ⟨rfl, hb⟩
            refine ⟨?_, hb⟩
            rw [h0]
            rfl
          have HNS : Hid (∀ x ∈ (P.sub nm (.mk kg ng ksg)).nodes, x.l.length ≤ 300 ∧ x.r.length ≤ 300) := hns
          generalize (P.sub nm (.mk kg ng ksg)).nodes = NS at *
          have hnI : (NS.length : Int) ≤ 20000 := by omega
          clear hx hb6 hevq h5 hns j0 j1 j2 j3 j4 j5 j6 m0 m1 m2 HLK HSQ HSZ HDP HGO HEV
          go_wp2_with fail
          refine (HST.out _ _ (PRep.up (below_more (Below.refl _ w6) _) _ _ HX6.out)).mono ?_
          rintro e w7 ⟨ad, cp, ad', cp', rfl, ⟨hc1, hc2, hc3⟩, hb7⟩
          have B7 := below_join (below_more B6 _) hb7
          have Q7 : Hid (w7.heap[w6.heap.size]? = some _) := below_keep hb7 (blk_new w6 _)
          have HX7 : Hid (PRep w7 (P.sub nm (.mk kg ng ksg)) _) := PRep.up (below_join (below_more (Below.refl _ w6) _) hb7) _ _ HX6.out
          have HC3 : Hid (NS ≠ [] → ∃ b off, ad = some ⟨b, off, none⟩ ∧ True ∧ PRps (fun _ => True) w7 b off NS) := hc3
          clear hc3 hb7 HST HX6 B6
          go_wp2_with fail
          go_loopg [12] NS.length (fun gg c wr => ∃ j, j ≤ NS.length ∧ gg = NS.length - j ∧ c = .int .i64 (j : Nat) ∧ Hid (Below w7.heap.size w7 wr) ∧ Hid (∀ x ∈ NS.take j, StepOkS x))
          case atStart => exact ⟨0, by omega, by omega, rfl, Below.refl _ _, fun x hx => by simp at hx⟩
          case round =>
            obtain ⟨j, hj, hg, rfl, HBr, HAL⟩ := hrel
            have HG : Hid (gk = NS.length - j) := hg
            clear hg
            by_cases hlt : j < NS.length
            · obtain ⟨⟨ka, ⟨kk, kn, kkf⟩, kl, kr, kks⟩, hki⟩ : ∃ f, NS[j]? = some f := ⟨_, List.getElem?_eq_getElem hlt⟩
              have hltI : (j : Int) < (NS.length : Int) := by omega
              obtain ⟨b, off, hsl, -, hrs⟩ := HC3.out (fun e => by rw [e] at hlt; simp at hlt)
              subst hsl
              have hrs' : PRps (fun _ => True) wr b off NS := hrs.move trivial fun q hq hp => ⟨HBr.out.block q hq, hp⟩
              obtain ⟨sf2, cf2, al2, cl2, ar2, cr2, sl2, cap2, y0, y1, y2, y3, y4, y5, y6, hrep2⟩ := hrs'.at j ka kk kn kkf kl kr kks hki
              have hlc : ((j : Nat) : Int) < ((cp : Nat) : Int) := by omega
              obtain ⟨hl3, hr3⟩ := HNS.out _ (List.mem_of_getElem? hki)
              have hl3I : (kl.length : Int) ≤ 300 := by have : kl.length ≤ 300 := hl3; omega
              have hr3I : (kr.length : Int) ≤ 300 := by have : kr.length ≤ 300 := hr3; omega
              have HT : Hid (NS.take (j + 1) = NS.take j ++ [.mk ka (.mk kk kn kkf) kl kr kks]) := by
                show _ = _
                rw [List.take_add_one, hki]; rfl
              have BR := below_join B7 HBr.out
              obtain ⟨hrF, hrL, hrR⟩ := prp_parts hrep2
              have HRF : Hid (Rep wr (fun _ => True) (.mk kk kn kkf) (.agg #[.int .i64 kk, .string kn, .slice sf2 kkf.length cf2])) := hrF
              have HSQ2 : Hid (Calls Try.prog 14 #[.agg #[.slice al2 kl.length cl2, .slice ar2 kr.length cr2]] wr _) := seqFault_any kl kr (by omega) (by omega) _ _ wr hrL.list hrR.list
              have HPL : Hid (∀ v w, FL w v [.mk kk kn kkf] → Calls Try.prog 8 #[v] w _) := fun v (w : World) h => plainR_any [.mk kk kn kkf] (by simp) v w h
              have HOKS : Hid ((seqCode kl kr).1 = 0 → (ka.data.toList ≠ weakT → (pfirst [Fm.mk kk kn kkf]).1 = 0) → StepOkS (.mk ka (.mk kk kn kkf) kl kr kks)) := fun h1 h2 => ⟨h1, fun h3 => by
                have h4 := h2 h3
                rw [pfirst_one] at h4
                split at h4
                · rename_i h; exact h
                · exact h4⟩
              have zb := lt_of_cell y0
              simp only at zb
              generalize seqCode kl kr = sq at HSQ2 HOKS
              generalize pfirst [Fm.mk kk kn kkf] = pz at HPL HOKS
              obtain ⟨s1, s2⟩ := sq
              obtain ⟨p1, p2⟩ := pz
              have hne : (NS.length : Int) ≤ 20000 := by omega
              clear hki hrs hrs' hrep2 HC3 hl3 hr3 hrF hrL hrR hl3I hr3I
              by_cases hs1 : s1 = 0
              · subst hs1
                have step : StepOkS (.mk ka (.mk kk kn kkf) kl kr kks) → ∀ wz, Below w7.heap.size w7 wz → ∃ j', j' ≤ NS.length ∧ NS.length - (j + 1) = NS.length - j' ∧ Value.int .i64 ((j : Int) + 1) = .int .i64 (j' : Nat) ∧ Hid (Below w7.heap.size w7 wz) ∧ Hid (∀ x ∈ NS.take j', StepOkS x) := fun h wz hz => ⟨j + 1, by omega, rfl, by go_num, hz, fun x hx => by
                  rw [HT.out] at hx
                  rcases List.mem_append.1 hx with hx | hx
                  · exact HAL.out x hx
                  · simp at hx
                    rw [hx]
                    exact h⟩
                have HSTEP : Hid (StepOkS (.mk ka (.mk kk kn kkf) kl kr kks) → ∀ wz, Below w7.heap.size w7 wz → _) := step
                clear step
                by_cases hwk : ka.data.toList = weakT
                · have hae : ka = ⟨#[119, 101, 97, 107]⟩ := by apply ByteArray.ext; apply Array.ext'; exact hwk
                  have HOK2 : Hid (StepOkS (.mk ka (.mk kk kn kkf) kl kr kks)) := HOKS.out rfl fun h => absurd hwk h
                  clear HOKS hwk
                  subst hae
                  go_wp2_with fail
                  refine HSQ2.out.mono ?_
                  rintro e w9 ⟨rfl, hb9⟩
                  have B9 := below_join HBr.out hb9
                  have x0 := (hb9.cell (p := ⟨b, off + j * 7, none⟩) zb).trans y0
                  clear y0 y1 y2 y3 y4 y5 y6
                  go_wp2_with fail
                  go_roundg (NS.length - (j + 1))
                  case measure => have := HG.out; omega
                  case rel => exact HSTEP.out HOK2.out _ B9
                · have hwj : (ka.toList == ([119, 101, 97, 107] : List UInt8)) = false := by rw [ByteArray.toList_eq]; simpa [weakT] using hwk
                  by_cases hp1 : p1 = 0
                  · subst hp1
                    have HOK2 : Hid (StepOkS (.mk ka (.mk kk kn kkf) kl kr kks)) := HOKS.out rfl fun _ => rfl
                    clear HOKS hwk
                    go_wp2_with fail
                    refine HSQ2.out.mono ?_
                    rintro e w9 ⟨rfl, hb9⟩
                    have x0 := (hb9.cell (p := ⟨b, off + j * 7, none⟩) zb).trans y0
                    have x1 := (hb9.cell (p := ⟨b, off + j * 7 + 1, none⟩) zb).trans y1
                    have x2 := (hb9.cell (p := ⟨b, off + j * 7 + 2, none⟩) zb).trans y2
                    have x3 := (hb9.cell (p := ⟨b, off + j * 7 + 3, none⟩) zb).trans y3
                    have R9 : Hid (Rep w9 (fun _ => True) (.mk kk kn kkf) _) := HRF.out.up hb9
                    have B9 := below_join HBr.out hb9
                    clear y0 y1 y2 y3 y4 y5 y6
                    go_wp2_with fail
                    refine (HPL.out _ _ (FL.sing (blk_new w9 _) (R9.out.more _))).mono ?_
                    rintro e w10 ⟨rfl, hb10⟩
                    have B10 := below_join (below_more B9 _) hb10
                    clear x0 x1 x2 x3
                    go_wp2_with fail
                    go_roundg (NS.length - (j + 1))
                    case measure => have := HG.out; omega
                    case rel => exact HSTEP.out HOK2.out _ B10
                  · have hpJ : (p1 != 0) = true := by simpa using hp1
                    clear HOKS hwk HSTEP
                    go_wp2_with fail
                    refine HSQ2.out.mono ?_
                    rintro e w9 ⟨rfl, hb9⟩
                    have x0 := (hb9.cell (p := ⟨b, off + j * 7, none⟩) zb).trans y0
                    have x1 := (hb9.cell (p := ⟨b, off + j * 7 + 1, none⟩) zb).trans y1
                    have x2 := (hb9.cell (p := ⟨b, off + j * 7 + 2, none⟩) zb).trans y2
                    have x3 := (hb9.cell (p := ⟨b, off + j * 7 + 3, none⟩) zb).trans y3
                    have R9 : Hid (Rep w9 (fun _ => True) (.mk kk kn kkf) _) := HRF.out.up hb9
                    have B9 := below_join BR hb9
                    clear y0 y1 y2 y3 y4 y5 y6
                    go_wp2_with fail
                    refine (HPL.out _ _ (FL.sing (blk_new w9 _) (R9.out.more _))).mono ?_
                    rintro e w10 ⟨rfl, hb10⟩
                    have B10 := below_join (below_more B9 _) hb10
                    clear x0 x1 x2 x3
                    go_wp2_with fail
                    go_ret
                    exact ⟨rfl, B10⟩
              · have hsJ : (s1 != 0) = true := by simpa using hs1
                clear HOKS
                go_wp2_with fail
                refine HSQ2.out.mono ?_
                rintro e w9 ⟨rfl, hb9⟩
                have B9 := below_join BR hb9
                clear y0 y1 y2 y3 y4 y5 y6
                go_wp2_with fail
                go_ret
                exact ⟨rfl, B9⟩
            · have hge : ¬ (j : Int) < (NS.length : Int) := by omega
              have HC9 : Hid (∀ v wx, PRep wx (P.sub nm (.mk kg ng ksg)) v → Calls Try.prog 9 #[v, .bool i] wx fun e w' => e = .returned (.agg #[.int .i64 0, .int .i64 0]) ∧ Below wx.heap.size wx w') := HCQ.out fun x hx => by
                have := HAL.out
                rw [List.take_of_length_le (by omega)] at this
                exact this x hx
              obtain ⟨k0, k1, k2, k3, k4, k5, k6⟩ := blk7 (below_keep HBr.out Q7.out)
              have BR := below_join B7 HBr.out
              clear HAL HC3 HCQ
              go_wp2_with fail
              refine (HC9.out _ _ (PRep.up HBr.out _ _ HX7.out)).mono ?_
              rintro e w8 ⟨rfl, hb8⟩
              go_wp2_with fail
              go_ret
              exact ⟨rfl, below_join BR hb8⟩
        · have hlJ : (lc != 0) = true := by simpa using hlc
          clear HSo
          go_wp2_with fail
          go_ret
          exact ⟨rfl, B5⟩
      · have hpJ : (pc != 0) = true := by simpa using hpc
        clear HSo
        go_wp2_with fail
        go_ret
        exact ⟨rfl, B4⟩
end Go.Proofs.Ytpmogojpdigbmac
