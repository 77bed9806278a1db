/- Texts of one proof, one behind the other: CW7. -/
import Derived.Test.YtlmjnglcdgkomacB41
import Derived.Test.YtlmjnglcdgkomacB42
import Derived.Test.YtlmjnglcdgkomacB19
/- Walks: CalculusWeakens. -/
namespace Go.Proofs.Ytlmjnglcdgkomac
open Go.RowKit

mutual
theorem look_good (i : Bool) : ∀ (p : Pf) (d s c : Nat), (look i p d s c).1.1 = 0 → SmallP p → GoodP p ∧ ∀ f, SmallP (p.ev f)
  | .mk a g l r ks, d, s, c, h, hsm => by
    obtain ⟨h1, h2, h3, h4⟩ := hsm.parts; rw [look_def] at h
    split at h
    · cases h
    · split at h
      · rename_i h2
        exact absurd h h2
      · rename_i hn
        (have hs : stepC i (.mk a g l r ks) = 0 := Classical.byContradiction fun e => hn e)
        have hq : (seqCode l r).1 = 0 := by
          rw [stepC] at hs
          split at hs
          · cases hs
          · rename_i hn
            (exact Classical.byContradiction fun e => hn (Or.inl e))
        obtain ⟨h60, hfl, -⟩ := seqCode_fine hq; have hk := looks_good i ks _ _ _ h h4; (refine ⟨GoodP.mk a g l r ks h1 (fun x hx => slim_of x (by have := (pcode_fine (hfl x hx)).2; omega)) h3 fun j k hj => (hk k (List.mem_of_getElem? hj)).1, fun f => ?_⟩); rw [Pf.ev, evs_map]; (refine SmallP.mk (by simp; omega) h2 (by rw [List.length_map]; exact h3) fun k hk' => ?_); obtain ⟨x, hx, rfl⟩ := List.mem_map.1 hk'; exact (hk x hx).2 f
theorem looks_good (i : Bool) : ∀ (ks : List Pf) (d s c : Nat), (looks i ks d s c).1.1 = 0 → (∀ k ∈ ks, SmallP k) → ∀ k ∈ ks, GoodP k ∧ ∀ f, SmallP (k.ev f)
  | [], _, _, _, _, _, k, hk => by cases hk
  | k :: ks, d, s, c, h, hsm, u, hu => by
    rw [looks] at h
    split at h
    · rename_i hn
      exact absurd h hn
    · rename_i hn
      (have hn' : (look i k d s c).1.1 = 0 := Classical.byContradiction fun e => hn e)
      rcases List.mem_cons.1 hu with e | hu
      · rw [e]
        exact look_good i k d s c hn' (hsm k List.mem_cons_self)
      · exact looks_good i ks _ _ _ h (fun x hx => hsm x (List.mem_cons_of_mem _ hx)) u hu
end

mutual
theorem nodes_small : ∀ (p : Pf), SmallP p → ∀ x ∈ p.nodes, x.l.length ≤ 300 ∧ x.r.length ≤ 300
  | .mk a g l r ks, h, x, hx => by
    obtain ⟨h1, h2, h3, h4⟩ := h.parts; rw [Pf.nodes] at hx
    rcases List.mem_cons.1 hx with e | hx
    · rw [e]; exact ⟨h1, h2⟩
    · exact nodesL_small ks h4 x hx
theorem nodesL_small : ∀ (ks : List Pf), (∀ k ∈ ks, SmallP k) → ∀ x ∈ Pf.nodesL ks, x.l.length ≤ 300 ∧ x.r.length ≤ 300
  | [], _, x, hx => by rw [Pf.nodesL] at hx; cases hx
  | k :: ks, h, x, hx => by
    rw [Pf.nodesL] at hx
    rcases List.mem_append.1 hx with hx | hx
    · exact nodes_small k (h k List.mem_cons_self) x hx
    · exact nodesL_small ks (fun y hy => h y (List.mem_cons_of_mem _ hy)) x hx
end

set_option maxRecDepth 10000 in
set_option maxHeartbeats 8000000 in
theorem pweak_any (i : Bool) (p : Pf) (f : Fm) (v u : Value) (w : World) (hv : PRep w p v) (hu : Rep w (fun _ => True) f u) :
    Calls Try.prog 3 #[v, .bool i, u] w fun e w' => e = .returned (.bool true) ∧ Below w.heap.size w w' := by
  obtain ⟨a, ⟨k, n, kf⟩, l, r, ks⟩ := p; obtain ⟨kg, ng, ksg⟩ := f; obtain ⟨P, hP⟩ : ∃ P, P = Pf.mk a (.mk k n kf) l r ks := ⟨_, rfl⟩; (have HV : Hid (PRep w P v) := by rw [hP]; exact hv); have HP : Hid (P = Pf.mk a (.mk k n kf) l r ks) := hP; clear hP; obtain ⟨sf, cf, al, cl, ar, cr, sl, cap, rfl, -⟩ := hv.parts; obtain ⟨sg, cg, rfl⟩ := slice_shape hu; (have HU : Hid (Rep w (fun _ => True) (.mk kg ng ksg) _) := hu); (have hfc := fun a b w => fault_code a b w); (have hpf := fun v (w : World) h => plainR_any [.mk kg ng ksg] (by simp) v w h)
  have hpz : (pfirst [Fm.mk kg ng ksg]).1 = 0 → (Fm.mk kg ng ksg).pcode.1 = 0 := by
    rw [pfirst]
    split
    · rename_i h; exact fun _ => h
    · exact id
  have HPZ : Hid ((pfirst [Fm.mk kg ng ksg]).1 = 0 → (Fm.mk kg ng ksg).pcode.1 = 0) := hpz; (have HPF : Hid (∀ v w, FL w v [.mk kg ng ksg] → Calls Try.prog 8 #[v] w fun e w' => e = .returned (.agg #[.int .i64 (pfirst [Fm.mk kg ng ksg]).1, .int .i64 (pfirst [Fm.mk kg ng ksg]).2]) ∧ Below w.heap.size w w') := hpf); (have HCh : Hid (∀ v w, SmallP P → PRep w P v → Calls Try.prog 9 #[v, .bool i] w fun e w' => e = .returned (.agg #[.int .i64 (look i P 1 0 0).1.1, .int .i64 (if (look i P 1 0 0).1.1 ≠ 0 then (look i P 1 0 0).1.2 else 0)]) ∧ Below w.heap.size w w') := fun v w hs h => pcheck_any i _ hs v w h); (have HVa : Hid (∀ v w, PRep w P v → Calls Try.prog 6 #[v, .int .i64 0] w fun e w' => IsVP P e ∧ Below w.heap.size w w') := fun v w h => pvast_any _ v w h); (have HVf : Hid (∀ v w, Rep w (fun _ => True) (.mk kg ng ksg) v → Calls Try.prog 7 #[v, .int .i64 0] w fun e w' => IsV (.mk kg ng ksg) e ∧ Below w.heap.size w w') := fun v w h => vast2_any _ v w h)
  have HSo : Hid ((look i P 1 0 0).1.1 = 0 → (Fm.mk kg ng ksg).pcode.1 = 0 → SmallP P → (GoodP P ∧ SmallP (P.ev (.mk kg ng ksg))) ∧ (P.size ≤ 20000 ∧ 1 + P.deep ≤ 401) ∧ ((∀ x ∈ (P.ev (.mk kg ng ksg)).nodes, x.l.length + x.r.length ≤ 60) → (look i (P.ev (.mk kg ng ksg)) 1 0 0).1.1 = 0)) := fun h1 h2 h3 => by
    have h4 := look_good i P 1 0 0 h1 h3; have h5 := look_size i P 1 0 0 h1; (have h6 := look_le i P 1 0 0 (by omega) (by omega)); (refine ⟨⟨h4.1, h4.2 _⟩, ⟨by omega, h5.2⟩, fun h => ?_⟩); rw [look_ev i _ h2 P 1 0 0 h1 (ev_short _ P h)]; exact h1
  (generalize (if (look i P 1 0 0).1.1 ≠ 0 then (look i P 1 0 0).1.2 else 0) = la at *); generalize (look i P 1 0 0).1.1 = lc at *; generalize (pfirst [Fm.mk kg ng ksg]).1 = pc at *; generalize (pfirst [Fm.mk kg ng ksg]).2 = pd at *; obtain ⟨O, hO⟩ : ∃ O, O = Obj.cells #[.string a, .int .i64 k, .string n, .slice sf kf.length cf, .slice al l.length cl, .slice ar r.length cr, .slice sl ks.length cap] 29 (0, 0) := ⟨_, rfl⟩; obtain ⟨O2, hO2⟩ : ∃ O, O = Obj.cells #[.int .i64 kg, .string ng, .slice sg ksg.length cg] 24 (0, 0) := ⟨_, rfl⟩; have B0 := below_more (below_more (Below.refl _ w) O) O2; (have P0 : Hid (((w.alloc O).alloc O2).heap[w.heap.size]? = some (.cells #[.string a, .int .i64 k, .string n, .slice sf kf.length cf, .slice al l.length cl, .slice ar r.length cr, .slice sl ks.length cap] 29 (0, 0))) := by rw [← hO]; exact alloc_keep (blk_new w O) _); (have R0 : Hid (((w.alloc O).alloc O2).heap[w.heap.size + 1]? = some (.cells #[.int .i64 kg, .string ng, .slice sg ksg.length cg] 24 (0, 0))) := by rw [← hO2]; exact blk_two w O O2); clear hv hu hpf hpz
  go_enter Try.func3, Try.ntmps3
  go_wp2_with fail; rw [← hO, ← hO2]; refine (calculusBegun_any _).mono ?_; rintro e w1 ⟨rfl, hb1⟩; have B1 := below_join B0 hb1; have P1 : Hid (w1.heap[w.heap.size]? = some _) := below_keep hb1 P0.out; have R1 : Hid (w1.heap[w.heap.size + 1]? = some _) := below_keep hb1 R0.out; obtain ⟨j0, j1, j2, j3, j4, j5, j6⟩ := blk7 P1.out; clear hO hO2 hb1 P0 R0 B0; go_wp2_with fail; refine (HVa.out _ _ (PRep.up B1 _ _ HV.out)).mono ?_; rintro e w2 ⟨⟨b1, rfl, hsm⟩, hb2⟩; have B2 := below_join B1 hb2; have P2 : Hid (w2.heap[w.heap.size]? = some _) := below_keep hb2 P1.out; have R2 : Hid (w2.heap[w.heap.size + 1]? = some _) := below_keep hb2 R1.out; have HSm : Hid (b1 = false → SmallP P) := hsm; clear j0 j1 j2 j3 j4 j5 j6 hb2 hsm P1 R1 B1
  cases b1
  case true =>
    go_wp2_with fail; go_ret; exact ⟨rfl, B2⟩
  case false =>
    have HSM : Hid (SmallP P) := HSm.out rfl; clear HSm; obtain ⟨m0, m1, m2, -⟩ := blk3 R2.out; go_wp2_with fail; refine (HVf.out _ _ (HU.out.up B2)).mono ?_; rintro e w3 ⟨⟨b2, rfl, hsl⟩, hb3⟩; have B3 := below_join B2 hb3; have P3 : Hid (w3.heap[w.heap.size]? = some _) := below_keep hb3 P2.out; have R3 : Hid (w3.heap[w.heap.size + 1]? = some _) := below_keep hb3 R2.out; clear m0 m1 m2 hb3 hsl P2 R2 B2
    cases b2
    case true =>
      go_wp2_with fail; go_ret; exact ⟨rfl, B3⟩
    case false =>
      obtain ⟨m0, m1, m2, -⟩ := blk3 R3.out; go_wp2_with fail; refine (HPF.out _ _ (FL.sing (blk_new w3 _) ((HU.out.up B3).more _))).mono ?_; rintro e w4 ⟨rfl, hb4⟩; have B4 := below_join (below_more B3 _) hb4; have P4 : Hid (w4.heap[w.heap.size]? = some _) := below_keep hb4 (alloc_keep P3.out _); have R4 : Hid (w4.heap[w.heap.size + 1]? = some _) := below_keep hb4 (alloc_keep R3.out _); clear m0 m1 m2 hb4 P3 R3 B3; by_cases hpc : pc = 0
      · subst hpc
        have HPC : Hid ((Fm.mk kg ng ksg).pcode.1 = 0) := HPZ.out rfl; obtain ⟨j0, j1, j2, j3, j4, j5, j6⟩ := blk7 P4.out; go_wp2_with fail; refine (HCh.out _ _ HSM.out (PRep.up B4 _ _ HV.out)).mono ?_; rintro e w5 ⟨rfl, hb5⟩; have B5 := below_join B4 hb5; have P5 : Hid (w5.heap[w.heap.size]? = some _) := below_keep hb5 P4.out; have R5 : Hid (w5.heap[w.heap.size + 1]? = some _) := below_keep hb5 R4.out; clear j0 j1 j2 j3 j4 j5 j6 hb5 P4 R4 B4 HCh; by_cases hlc : lc = 0
        · subst hlc
          obtain ⟨⟨hgood, hsmq⟩, ⟨hsize, hdeep⟩, hlook⟩ := HSo.out rfl HPC.out HSM.out; have HGO : Hid (GoodP P) := hgood; have HSQ : Hid (SmallP (P.ev (.mk kg ng ksg))) := hsmq; have HSZ : Hid (P.size ≤ 20000) := hsize; have HDP : Hid (1 + P.deep ≤ 401) := hdeep; have HLK : Hid ((∀ x ∈ (P.ev (.mk kg ng ksg)).nodes, x.l.length + x.r.length ≤ 60) → (look i (P.ev (.mk kg ng ksg)) 1 0 0).1.1 = 0) := hlook; clear HSo hgood hsmq hsize hdeep hlook HSM HPC; obtain ⟨j0, j1, j2, j3, j4, j5, j6⟩ := blk7 P5.out; obtain ⟨m0, m1, m2, -⟩ := blk3 R5.out; go_wp2_with fail; (have HEV : Hid (∀ wx, Below w.heap.size w wx → Calls Try.prog 10 #[.agg #[.string a, .int .i64 k, .string n, .slice sf kf.length cf, .slice al l.length cl, .slice ar r.length cr, .slice sl ks.length cap], .agg #[.int .i64 kg, .string ng, .slice sg ksg.length cg]] wx fun e w' => ∃ x, e = .returned x ∧ PRp (fun b => b < w.heap.size ∨ wx.heap.size ≤ b) w' (P.ev (.mk kg ng ksg)) x ∧ Below wx.heap.size wx w') := fun wx hb => every_all (.mk kg ng ksg) w.heap.size (P.size + 1) P _ _ wx (Nat.lt_succ_self _) HGO.out hb.size (PRp.move (PRep.low _ _ HV.out) fun b hb1 hp => ⟨hb.block b hb1, hp⟩) (HU.out.move fun b hb1 _ => ⟨hb.block b hb1, hb1⟩)); refine (HEV.out _ B5).mono ?_; rintro e w6 ⟨x, rfl, hx, hb6⟩; (have hevq : P.ev (.mk kg ng ksg) = Pf.mk a (.mk k n kf) (l ++ [.mk kg ng ksg]) r (Pf.evs (.mk kg ng ksg) ks) := by rw [HP.out, Pf.ev]); have HX : Hid (PRep w6 (P.ev (.mk kg ng ksg)) x) := PRp.rep _ _ hx; rw [hevq] at hx; obtain ⟨sf6, cf6, al6, cl6, ar6, cr6, sl6, cap6, rfl, -⟩ := hx.parts
          have HX6 : Hid (PRep w6 (P.ev (.mk kg ng ksg)) (.agg #[.string a, .int .i64 k, .string n, .slice sf6 kf.length cf6, .slice al6 (l.length + 1) cl6, .slice ar6 r.length cr6, .slice sl6 (Pf.evs (.mk kg ng ksg) ks).length cap6])) := by
            have h9 := HX.out; rw [List.length_append] at h9; exact h9
          clear HX; have B6 := below_join B5 hb6
          have HST : Hid (∀ v wx, PRep wx (P.ev (.mk kg ng ksg)) v → Calls Try.prog 11 #[v, .int .i64 1, .int .i64 20001] wx fun e w' => ∃ ad cp ad' cp', e = .returned (.tuple #[.slice ad (P.ev (.mk kg ng ksg)).nodes.length cp, .slice ad' (P.ev (.mk kg ng ksg)).nodes.length cp']) ∧ ((P.ev (.mk kg ng ksg)).nodes.length ≤ cp ∧ cp ≤ maxLen ∧ ((P.ev (.mk kg ng ksg)).nodes ≠ [] → ∃ b off, ad = some ⟨b, off, none⟩ ∧ True ∧ PRps (fun _ => True) w' b off (P.ev (.mk kg ng ksg)).nodes)) ∧ Below wx.heap.size wx w') := fun v wx h => by
            (have hc := steps_all wx.heap.size ((P.ev (.mk kg ng ksg)).size + 1) _ v wx 1 20001 (Nat.lt_succ_self _) (by rw [ev_deep]; have := HDP.out; omega) (by rw [ev_size]; have := HSZ.out; omega) (by omega) (Nat.le_refl _) (PRep.low _ _ h)); refine Calls.mono hc ?_; rintro e w' ⟨ad, cp, ad', cp', rfl, hkf, -, hb⟩
            have hkf' : KF (fun _ => True) wx.heap.size w' ad cp (P.ev (.mk kg ng ksg)).nodes := by
              obtain ⟨cs, ho, hp⟩ := hkf; (exact ⟨cs, ho, PQ.move (fun b _ h => ⟨rfl, trivial, h.2⟩) hp⟩)
            (exact ⟨ad, cp, ad', cp', rfl, hkf'.rep fun _ _ => trivial, hb⟩)
          have hns := nodes_small _ HSQ.out; (have hn20 : (P.ev (.mk kg ng ksg)).nodes.length ≤ 20000 := by rw [nodes_size, ev_size]; exact HSZ.out)
          have HCQ : Hid ((∀ x ∈ (P.ev (.mk kg ng ksg)).nodes, x.l.length + x.r.length ≤ 60) → ∀ v wx, PRep wx (P.ev (.mk kg ng ksg)) v → Calls Try.prog 9 #[v, .bool i] wx fun e w' => e = .returned (.agg #[.int .i64 0, .int .i64 0]) ∧ Below wx.heap.size wx w') := fun hall v wx h => by
            have h0 := HLK.out hall; refine (pcheck_any i _ HSQ.out v wx h).mono ?_; rintro e w' ⟨rfl, hb⟩; refine ⟨?_, hb⟩; rw [h0]; rfl
          have HNS : Hid (∀ x ∈ (P.ev (.mk kg ng ksg)).nodes, x.l.length ≤ 300 ∧ x.r.length ≤ 300) := hns; generalize (P.ev (.mk kg ng ksg)).nodes = NS at *; (have hnI : (NS.length : Int) ≤ 20000 := by omega); clear hx hb6 hevq hns j0 j1 j2 j3 j4 j5 j6 m0 m1 m2 HLK HSQ HSZ HDP HGO HEV; go_wp2_with fail; refine (HST.out _ _ (PRep.up (below_more (Below.refl _ w6) _) _ _ HX6.out)).mono ?_; rintro e w7 ⟨ad, cp, ad', cp', rfl, ⟨hc1, hc2, hc3⟩, hb7⟩; have B7 := below_join (below_more B6 _) hb7; have Q7 : Hid (w7.heap[w6.heap.size]? = some _) := below_keep hb7 (blk_new w6 _); have HX7 : Hid (PRep w7 (P.ev (.mk kg ng ksg)) _) := PRep.up (below_join (below_more (Below.refl _ w6) _) hb7) _ _ HX6.out; (have HC3 : Hid (NS ≠ [] → ∃ b off, ad = some ⟨b, off, none⟩ ∧ True ∧ PRps (fun _ => True) w7 b off NS) := hc3); clear hc3 hb7 HST HX6 B6; go_wp2_with fail
          go_loopg [10] NS.length (fun gg c wr => ∃ j, j ≤ NS.length ∧ gg = NS.length - j ∧ c = .int .i64 (j : Nat) ∧ Hid (Below w7.heap.size w7 wr) ∧ Hid (∀ x ∈ NS.take j, x.l.length + x.r.length ≤ 60))
          case atStart => exact ⟨0, by omega, by omega, rfl, Below.refl _ _, fun x hx => by simp at hx⟩
          case round =>
            obtain ⟨j, hj, hg, rfl, HBr, HAL⟩ := hrel; have HG : Hid (gk = NS.length - j) := hg; clear hg; by_cases hlt : j < NS.length
            · obtain ⟨⟨ka, ⟨kk, kn, kkf⟩, kl, kr, kks⟩, hki⟩ : ∃ f, NS[j]? = some f := ⟨_, List.getElem?_eq_getElem hlt⟩
              (have hltI : (j : Int) < (NS.length : Int) := by omega); (obtain ⟨b, off, hsl, -, hrs⟩ := HC3.out (fun e => by rw [e] at hlt; simp at hlt)); subst hsl; (have hrs' : PRps (fun _ => True) wr b off NS := hrs.move trivial fun q hq hp => ⟨HBr.out.block q hq, hp⟩); obtain ⟨sf2, cf2, al2, cl2, ar2, cr2, sl2, cap2, y0, y1, y2, y3, y4, y5, y6, hrep2⟩ := hrs'.at j ka kk kn kkf kl kr kks hki; (have hlc : ((j : Nat) : Int) < ((cp : Nat) : Int) := by omega); obtain ⟨hl3, hr3⟩ := HNS.out _ (List.mem_of_getElem? hki); (have hl3I : (kl.length : Int) ≤ 300 := by have : kl.length ≤ 300 := hl3; omega); (have hr3I : (kr.length : Int) ≤ 300 := by have : kr.length ≤ 300 := hr3; omega)
              have HT : Hid (NS.take (j + 1) = NS.take j ++ [.mk ka (.mk kk kn kkf) kl kr kks]) := by
                show _ = _; rw [List.take_add_one, hki]; rfl
              have BR := below_join B7 HBr.out; clear hki hrs hrs' hrep2 HC3 hl3 hr3 y0 y1 y2 y3 y6; by_cases h60 : 60 < kl.length + kr.length
              · have h60I : (60 : Int) < (kl.length : Int) + (kr.length : Int) := by omega
                clear h60; go_wp2_with fail
                go_quiet (fail)
                go_wp2_with fail; go_ret; exact ⟨rfl, BR.os, BR.tape, BR.output, BR.size, BR.block⟩
              · have h60I : ¬ (60 : Int) < (kl.length : Int) + (kr.length : Int) := by omega
                (have H60 : Hid (kl.length + kr.length ≤ 60) := by show _ ≤ _; omega); clear h60; go_wp2_with fail
                go_quiet (fail)
                go_wp2_with fail
                go_roundg (NS.length - (j + 1))
                case measure => have := HG.out; omega
                case rel =>
                  (refine ⟨j + 1, by omega, rfl, by go_num, ⟨HBr.out.os, HBr.out.tape, HBr.out.output, HBr.out.size, HBr.out.block⟩, fun x hx => ?_⟩); rw [HT.out] at hx
                  rcases List.mem_append.1 hx with hx | hx
                  · exact HAL.out x hx
                  · simp at hx
                    rw [hx]; exact H60.out
            · have hge : ¬ (j : Int) < (NS.length : Int) := by omega
              have HC9 : Hid (∀ v wx, PRep wx (P.ev (.mk kg ng ksg)) v → Calls Try.prog 9 #[v, .bool i] wx fun e w' => e = .returned (.agg #[.int .i64 0, .int .i64 0]) ∧ Below wx.heap.size wx w') := HCQ.out fun x hx => by
                have := HAL.out; (rw [List.take_of_length_le (by omega)] at this); exact this x hx
              obtain ⟨k0, k1, k2, k3, k4, k5, k6⟩ := blk7 (below_keep HBr.out Q7.out); have BR := below_join B7 HBr.out; clear HAL HC3 HCQ; go_wp2_with fail; refine (HC9.out _ _ (PRep.up HBr.out _ _ HX7.out)).mono ?_; rintro e w8 ⟨rfl, hb8⟩; go_wp2_with fail; go_ret; exact ⟨rfl, below_join BR hb8⟩
        · have hlJ : (lc != 0) = true := by simpa using hlc
          clear HSo; go_wp2_with fail; go_ret; exact ⟨rfl, B5⟩
      · have hpJ : (pc != 0) = true := by simpa using hpc
        clear HSo; go_wp2_with fail; go_ret; exact ⟨rfl, B4⟩
end Go.Proofs.Ytlmjnglcdgkomac
