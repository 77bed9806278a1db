/- Texts of one proof, one behind the other: MLG. -/
import Derived.Test.YtmahgfgndfcmpagB24
import Derived.Test.YtmahgfgndfcmpagB04
/- Walks: the names that are true at a world (modlog.finder.namesAt). -/
namespace Go.Proofs.Ytmahgfgndfcmpag
open Go.RowKit Go.Sort

def isNmP (ps : List PartM) (n : Nat) : Bool := decide (pk ps n = 1)
/-- The names among these parts. -/
def nmsP (ps : List PartM) (l : List Nat) : List (List UInt8) := (l.filter (isNmP ps)).map (pnm ps)
theorem nmsP_yes {ps : List PartM} {l : List Nat} {i n : Nat} (h : l[i]? = some n) (hq : pk ps n = 1) : nmsP ps (l.take (i + 1)) = nmsP ps (l.take i) ++ [pnm ps n] := by
  unfold nmsP; (rw [filter_take_yes h (by simp [isNmP, hq]), List.map_append]; rfl)
theorem nmsP_no {ps : List PartM} {l : List Nat} {i n : Nat} (h : l[i]? = some n) (hq : ¬ pk ps n = 1) : nmsP ps (l.take (i + 1)) = nmsP ps (l.take i) := by
  unfold nmsP; (rw [filter_take_no h (by simp [isNmP, hq])])
theorem nmsP_len {ps : List PartM} {l : List Nat} : (nmsP ps l).length ≤ l.length := by
  unfold nmsP; rw [List.length_map]; exact List.length_filter_le _ _
theorem infoSt9 : ∃ i, Try.prog.info? 9 = some i ∧ i.zero = some (.string ⟨#[]⟩) ∧ i.size = 1 ∧ i.bytes = 16 := by
  (obtain ⟨i, hi, h⟩ := Option.map_eq_some_iff.1 (show (Try.prog.info? 9).map (fun i => (i.zero, i.size, i.bytes)) = some (some (.string ⟨#[]⟩), 1, 16) by kernel_rfl)); simp only [Prod.mk.injEq] at h; exact ⟨i, hi, h.1, h.2.1, h.2.2⟩
def kNl (l : List Nat) : Value → World → Prop := fun v w => NL w v l
theorem kNl_stays (l : List Nat) : Stays (kNl l) := fun _ _ _ h hb => NL.up h hb
theorem part_valN {ps : List PartM} {n : Nat} : ∃ (nm : ByteArray) (kn : Nat), nm.data.toList = pnm ps n ∧ (Value.agg ⟨partCells (ps.getD n noPart)⟩ : Value) = .agg #[.int .i64 (pk ps n), .string nm, .int .i64 (kn : Nat), .int .i64 (pa ps n : Nat), .int .i64 (pb ps n : Nat)] := ⟨_, _, rfl, rfl⟩
theorem rowG10n (l : List Value) (h0 : l.length = 10) : ∃ x0 x1 x2 x3 x4 x5 x6 x7 x8 x9, l = [x0, x1, x2, x3, x4, x5, x6, x7, x8, x9] := by
  obtain ⟨x0, l1, e0, h1⟩ := cons_lenM h0; obtain ⟨x1, l2, e1, h2⟩ := cons_lenM h1; obtain ⟨x2, l3, e2, h3⟩ := cons_lenM h2; obtain ⟨x3, l4, e3, h4⟩ := cons_lenM h3; obtain ⟨x4, l5, e4, h5⟩ := cons_lenM h4; obtain ⟨x5, l6, e5, h6⟩ := cons_lenM h5; obtain ⟨x6, l7, e6, h7⟩ := cons_lenM h6; obtain ⟨x7, l8, e7, h8⟩ := cons_lenM h7; obtain ⟨x8, l9, e8, h9⟩ := cons_lenM h8; obtain ⟨x9, l10, e9, h10⟩ := cons_lenM h9; have e10 : l10 = [] := List.length_eq_zero_iff.1 h10; subst e10 e9 e8 e7 e6 e5 e4 e3 e2 e1 e0; exact ⟨x0, x1, x2, x3, x4, x5, x6, x7, x8, x9, rfl⟩
set_option maxRecDepth 10000 in
set_option maxHeartbeats 8000000 in
theorem namesAt_any {ps : List PartM} (hL : ps.length ≤ 40) {fn : Nat} {cap : Array Value} (T : Nat → Prop) (bF bt : Nat) (ns : List Nat) (its sm : Bool) (ad9 : Option Addr) (n9 cp9 : Nat) (h : Nat) (hh : h < 2 ^ ps.length) (w : World) (hF : FdAt w bF bt fn cap its sm ad9 n9 cp9) (htab : TabAt w T bt ps ns) :
    Calls Try.prog 115 #[.pointer (some ⟨bF, 0, none⟩), WV ps h] w fun e w' => ∃ ad cp, e = .returned (.slice ad (srt (nmsP ps (memTo h.testBit ps.length))).length cp) ∧ w'.ownsRow w.heap.size 9 1 (.slice ad (srt (nmsP ps (memTo h.testBit ps.length))).length cp) (srt (nmsP ps (memTo h.testBit ps.length))).length ((srt (nmsP ps (memTo h.testBit ps.length))).map encStr) ∧ Below w.heap.size w w' := by
  have HF : Hid (w.heap[bF]? = some (.cells #[.pointer (some ⟨bt, 0, none⟩), .func (.func fn) #[] cap, .bool its, .bool sm, .slice ad9 n9 cp9] 140 (0, 0))) := hF; (have HLe : Hid (∀ w', Below w.heap.size w w' → Calls Try.prog 52 #[.pointer (some ⟨bt, 0, none⟩)] w' _) := fun w' hb => plen_any w' T bt ps ns (htab.below hb))
  have HMe : Hid (∀ w', Calls Try.prog 102 #[.int .u64 (h : Nat), .int .i64 (ps.length : Nat)] w' fun e w'' => ∃ x, e = .returned x ∧ NL w'' x (memTo h.testBit ps.length) ∧ Below w'.heap.size w' w'') := fun w' => by
    have := set_members hL h.testBit w'
    rwa [bm_self hh] at this
  have HP : Hid (∀ n, n < ps.length → ∃ (nm : ByteArray) (kn : Nat), nm.data.toList = pnm ps n ∧ ∀ w', Below w.heap.size w w' → Calls Try.prog 130 #[.pointer (some ⟨bt, 0, none⟩), .int .i64 (n : Nat)] w' fun e w'' => e = .returned (.agg #[.int .i64 (pk ps n), .string nm, .int .i64 (kn : Nat), .int .i64 (pa ps n : Nat), .int .i64 (pb ps n : Nat)]) ∧ Below w'.heap.size w' w'') := fun n hn => by
    obtain ⟨nm, kn, he, hv⟩ := part_valN (ps := ps) (n := n); (exact ⟨nm, kn, he, fun w' hb => partW w' T bt ps ns (htab.below hb) n hn nm kn hv⟩)
  (have HML : Hid (∀ n ∈ memTo h.testBit ps.length, n < ps.length) := fun n hn => List.mem_range.1 (List.mem_filter.1 hn).1); have HMl : Hid ((memTo h.testBit ps.length).length ≤ 40) := Nat.le_trans (memTo_len _ _) hL; obtain ⟨L, hLe⟩ : ∃ L, L = ps.length := ⟨_, rfl⟩; rw [← hLe] at HLe HMe HP HML HMl ⊢; (have hLI : (L : Int) ≤ 40 := by omega); generalize memTo h.testBit L = ML at *; unfold WV; generalize bm ps.length (wnB ps h) = hw at *; generalize bm ps.length (swB ps h) = hs at *; clear hLe hL hh hF htab; obtain ⟨X, hX⟩ : ∃ W, W = w.alloc (.cells #[.int .u64 (h : Nat), .int .u64 (hw : Nat), .int .u64 (hs : Nat)] 104 (0, 0)) := ⟨_, rfl⟩; (have HBX : Hid (Below w.heap.size w X) := by rw [hX]; exact below_more (Below.refl _ _) _); (have HXh : Hid (X.heap[w.heap.size]? = some (.cells #[.int .u64 (h : Nat), .int .u64 (hw : Nat), .int .u64 (hs : Nat)] 104 (0, 0))) := by rw [hX]; exact blk_new _ _)
  go_enter Try.func115, Try.ntmps115
  go_wp2_with fail; rw [← hX]; clear hX; (refine wp_region_free (by kernel_rfl) [fun v _ => v = (.pointer (some ⟨w.heap.size, 0, none⟩)), fun v _ => v = (.int .u64 (h : Nat)), fun v _ => v = (.pointer (some ⟨bF, 0, none⟩)), fun v _ => v = (.pointer (some ⟨bF, 0, none⟩)), fun v _ => v = (.pointer (some ⟨bF, 0, none⟩)), fun v _ => v = (.pointer (some ⟨bt, 0, none⟩)), fun v _ => v = (.int .i64 (L : Nat)), kNl ML, fun v _ => v = (.int .i64 (ML.length : Nat)), fun v _ => v = (.int .i64 0)] ?_ (by kernel_rfl) (by kernel_rfl) 40 rfl (by kernel_rfl) ?_ ?_)
  · intro p hp
    simp only [List.mem_cons, List.not_mem_nil, or_false] at hp
    rcases hp with rfl | rfl | rfl | rfl | rfl | rfl | rfl | rfl | rfl | rfl
    · exact fun _ _ _ h _ => h
    · exact fun _ _ _ h _ => h
    · exact fun _ _ _ h _ => h
    · exact fun _ _ _ h _ => h
    · exact fun _ _ _ h _ => h
    · exact fun _ _ _ h _ => h
    · exact fun _ _ _ h _ => h
    · exact kNl_stays _
    · exact fun _ _ _ h _ => h
    · exact fun _ _ _ h _ => h
  · refine ⟨?_, ?_, ?_, ?_, ?_, ?_, ?_, ?_, ?_, ?_, trivial⟩
    · intro a wx hB hold hdep K hK
      have t3 : a.tmps[3]? = some (.pointer (some ⟨w.heap.size, 0, none⟩)) := hold.2.2 3 rfl; clear hold hdep; go_simp; exact hK.out _ _ rfl (Below.refl _ _)
    · intro a wx hB hold hdep K hK
      obtain ⟨v9, t9, p9⟩ := hdep 0 rfl _ 9 rfl rfl; have e9 : v9 = (.pointer (some ⟨w.heap.size, 0, none⟩)) := p9; subst e9; obtain ⟨q0, q1, q2, -⟩ := blk3 (below_keep hB HXh.out); clear hold hdep; go_simp; exact hK.out _ _ rfl (Below.refl _ _)
    · intro a wx hB hold hdep K hK
      have t0 : a.tmps[0]? = some (.pointer (some ⟨bF, 0, none⟩)) := hold.2.2 0 rfl; clear hold hdep; go_simp; exact hK.out _ _ rfl (Below.refl _ _)
    · intro a wx hB hold hdep K hK
      obtain ⟨v11, t11, p11⟩ := hdep 2 rfl _ 11 rfl rfl; have e11 : v11 = (.pointer (some ⟨bF, 0, none⟩)) := p11; subst e11; clear hold hdep; go_simp; exact hK.out _ _ rfl (Below.refl _ _)
    · intro a wx hB hold hdep K hK
      obtain ⟨v12, t12, p12⟩ := hdep 3 rfl _ 12 rfl rfl; have e12 : v12 = (.pointer (some ⟨bF, 0, none⟩)) := p12; subst e12; clear hold hdep; go_simp; exact hK.out _ _ rfl (Below.refl _ _)
    · intro a wx hB hold hdep K hK
      obtain ⟨v13, t13, p13⟩ := hdep 4 rfl _ 13 rfl rfl; have e13 : v13 = (.pointer (some ⟨bF, 0, none⟩)) := p13; subst e13; obtain ⟨q0, q1, q2, q3, q4, -⟩ := blkF (below_keep hB (below_keep HBX.out HF.out)); clear hold hdep; go_simp; exact hK.out _ _ rfl (Below.refl _ _)
    · intro a wx hB hold hdep K hK
      obtain ⟨v14, t14, p14⟩ := hdep 5 rfl _ 14 rfl rfl; have e14 : v14 = (.pointer (some ⟨bt, 0, none⟩)) := p14; subst e14; have HW : Hid (Calls Try.prog 52 #[.pointer (some ⟨bt, 0, none⟩)] wx _) := HLe.out wx (below_join HBX.out hB); clear hold hdep; go_simp; refine HW.out.mono ?_; rintro _ w9 ⟨rfl, rfl⟩; go_simp; exact hK.out _ _ rfl (Below.refl _ _)
    · intro a wx hB hold hdep K hK
      obtain ⟨v10, t10, p10⟩ := hdep 1 rfl _ 10 rfl rfl; have e10 : v10 = (.int .u64 (h : Nat)) := p10; subst e10; obtain ⟨v15, t15, p15⟩ := hdep 6 rfl _ 15 rfl rfl; have e15 : v15 = (.int .i64 (L : Nat)) := p15; subst e15; have HW : Hid (Calls Try.prog 102 #[.int .u64 (h : Nat), .int .i64 (L : Nat)] wx _) := HMe.out wx; clear hold hdep; go_simp; refine HW.out.mono ?_; rintro _ w9 ⟨x9, rfl, h9, hb9⟩; have H9 : Hid (NL w9 x9 ML) := h9; clear h9; go_simp; exact hK.out _ _ H9.out hb9
    · intro a wx hB hold hdep K hK
      obtain ⟨v16, t16, p16⟩ := hdep 7 rfl _ 16 rfl rfl; have P16 : Hid ((kNl ML) v16 wx) := p16; clear p16; obtain ⟨ad8, cp8, rfl, -⟩ := P16.out; clear P16; clear hold hdep; go_simp; exact hK.out _ _ rfl (Below.refl _ _)
    · intro a wx hB hold hdep K hK
      clear hold hdep; go_simp; exact hK.out _ _ rfl (Below.refl _ _)
  · intro a wx hB hold hgot
    obtain ⟨vM, tvM, pvM⟩ := hgot 7 _ 16 rfl rfl; obtain ⟨vN, tvN, pvN⟩ := hgot 8 _ 17 rfl rfl; have evN : vN = (.int .i64 (ML.length : Nat)) := pvN; subst evN; obtain ⟨vI, tvI, pvI⟩ := hgot 9 _ 18 rfl rfl; have evI : vI = (.int .i64 0) := pvI; subst evI; have HBx : Hid (Below w.heap.size w wx) := below_join HBX.out hB; obtain ⟨am, cm, rfl, hm1, hm2, hm3⟩ := pvM; have HM3 : Hid (ML ≠ [] → ∃ b, am = some ⟨b, 0, none⟩ ∧ ∀ (j n : Nat), ML[j]? = some n → wx.cell? ⟨b, j, none⟩ = some (.int .i64 (n : Nat))) := hm3; (have hmI : (ML.length : Int) ≤ 40 := by have := HMl.out; omega); (have hmc : (ML.length : Int) ≤ (cm : Int) := by omega); obtain ⟨tm, df⟩ := a; (obtain ⟨ys, hys, htm, rfl⟩ := frame_mid2 9 10 (by kernel_rfl) (Nat.le_of_ble_eq_true rfl) hold); obtain ⟨x9, x10, x11, x12, x13, x14, x15, x16, x17, x18, rfl⟩ := rowG10n ys hys; simp only [List.take_succ_cons, List.take_zero, List.drop_succ_cons, List.drop_zero, List.cons_append, List.nil_append] at htm; subst htm; obtain rfl : x16 = _ := someInjM tvM; obtain rfl : x17 = _ := someInjM tvN; obtain rfl : x18 = _ := someInjM tvI; clear hys hold hgot tvM tvN tvI hB hm1 hm2 hm3; go_wp2_with fail; show Code.wp _ _ _ ⟨#[_, _, _, _, _, _, _, _, _, _, _, _, _, _, _, _, _, _, _, _, _, _, _, _, _, _, _, _, _, _, _, _, _, _, _, _, _, _, _, _], _⟩ _
    dsimp only
    go_loopg [18, 5, 7, 8] ML.length (fun gg cc x p9 p8 wr => ∃ i ad cp, i ≤ ML.length ∧ gg = ML.length - i ∧ cc = .int .i64 (i : Nat) ∧ x = .slice ad (nmsP ps (ML.take i)).length cp ∧ Hid (wr.ownsRow wx.heap.size 9 1 (.slice ad (nmsP ps (ML.take i)).length cp) (nmsP ps (ML.take i)).length ((nmsP ps (ML.take i)).map encStr)) ∧ Hid (Below wx.heap.size wx wr))
    case atStart => exact ⟨0, none, 0, by omega, by omega, rfl, by rw [List.take_zero]; rfl, by rw [List.take_zero]; exact ⟨rfl, Or.inl ⟨rfl, rfl⟩⟩, Below.refl _ _⟩
    case round =>
      obtain ⟨i, ad, cp, hi, hg, rfl, rfl, HOw, HBw⟩ := hrel; have HB : Hid (Below w.heap.size w wr) := below_join HBx.out HBw.out; have HGk : Hid (gk = ML.length - i) := hg; clear hg; by_cases hlt : i < ML.length
      case neg =>
        (have hii : i = ML.length := by omega); have hge : decide (i < ML.length) = false := decide_eq_false hlt; (have htk : ML.take i = ML := by rw [hii, List.take_length]); rw [htk] at HOw ⊢; have HL2 : Hid ((nmsP ps ML).length ≤ 40) := Nat.le_trans nmsP_len HMl.out; have HSl : Hid ((srt (nmsP ps ML)).length = (nmsP ps ML).length) := List.length_mergeSort ..; clear hlt hi hii htk; generalize hLL : nmsP ps ML = LL at *
        rcases HOw.out.2 with ⟨h1, h2⟩ | ⟨g, c1, cur, hv, -⟩
        · simp only [Value.slice.injEq] at h1
          obtain ⟨rfl, h3, rfl⟩ := h1; obtain rfl : LL = [] := List.length_eq_zero_iff.1 h3; (have HSn : Hid (∀ ad cap W, Calls Try.prog 66 #[.slice ad 0 cap] W fun e w' => e = .returned (.tuple #[]) ∧ w' = W) := fun ad cap W => Try.slices_Sort_string_none ad cap W); go_wp2_with fail; refine (HSn.out _ _ _).mono ?_; rintro _ w9 ⟨rfl, e9⟩
          replace e9 := e9.symm
          subst e9; go_wp2_with fail; go_ret; (have e9 : srt (nmsP ps ML) = [] := by rw [hLL]; simp [srt]); refine ⟨none, 0, ?_, ?_, HB.out⟩
          · rw [e9]; rfl
          · rw [e9]; exact ⟨rfl, Or.inl ⟨rfl, rfl⟩⟩
        · simp only [Value.slice.injEq, true_and] at hv
          obtain ⟨rfl, rfl⟩ := hv; (have HSs : Hid (Calls Try.prog 66 #[.slice (some ⟨g, 0, none⟩) LL.length cp] wr _) := sort_any wx.heap.size g cp LL (by have := HL2.out; omega) wr HOw.out); go_wp2_with fail; refine HSs.out.mono ?_; rintro _ w9 ⟨rfl, q1, q2⟩; have HQ1 : Hid (w9.ownsRow wx.heap.size 9 1 (.slice (some ⟨g, 0, none⟩) LL.length cp) LL.length ((srt LL).map encStr)) := q1; (have HQ2 : Hid (Below w.heap.size w w9) := below_join HBx.out (HBw.out.grown q2 HBw.out.size fun k hk => by cases hk; exact (HOw.out.lt _ rfl).1)); clear q1 q2; go_wp2_with fail; go_ret; (exact ⟨some ⟨g, 0, none⟩, cp, by rw [hLL, HSl.out]; rfl, by rw [hLL, HSl.out]; exact rowM_low HQ1.out HBx.out.size, HQ2.out⟩)
      (have hltI : (i : Int) < (ML.length : Int) := by omega); (have hltc : (i : Int) < (cm : Int) := by omega); have HI : Hid (i < ML.length) := hlt; obtain ⟨n, hn⟩ : ∃ n, ML[i]? = some n := ⟨_, List.getElem?_eq_getElem hlt⟩; (obtain ⟨bm9, rfl, hbc⟩ := HM3.out (fun e => by rw [e] at hlt; simp at hlt)); have c0 := (HBw.out.cell (lt_of_cell (hbc i n hn))).trans (hbc i n hn); have hnL := HML.out n (List.mem_of_getElem? hn); (have hnI : (n : Int) < (L : Int) := by omega); obtain ⟨nm, kn, hnm, hp⟩ := HP.out n hnL; have HPn : Hid (∀ w', Below w.heap.size w w' → Calls Try.prog 130 #[.pointer (some ⟨bt, 0, none⟩), .int .i64 (n : Nat)] w' _) := hp; (have HTy : Hid (pk ps n = 1 → nmsP ps (ML.take (i + 1)) = nmsP ps (ML.take i) ++ [pnm ps n]) := fun h => nmsP_yes hn h); (have HTn : Hid (¬ pk ps n = 1 → nmsP ps (ML.take (i + 1)) = nmsP ps (ML.take i)) := fun h => nmsP_no hn h); (have HLn : Hid ((nmsP ps (ML.take i)).length ≤ i) := Nat.le_trans nmsP_len (by rw [List.length_take]; omega)); have HNm : Hid (nm.data.toList = pnm ps n) := hnm
      have HEs : Hid (encStr (pnm ps n) = .string nm) := by
        show _ = _; rw [← hnm]
      generalize nmsP ps (ML.take i) = LL at *; generalize pk ps n = kd at *; generalize pa ps n = ka at *; generalize pb ps n = kb at *; (have hlnI : (LL.length : Int) ≤ 40 := by have := HLn.out; have := HMl.out; omega); obtain ⟨f0, f1, f2, f3, f4, -⟩ := blkF (below_keep HB.out HF.out); clear hlt hi hn hbc hnL hp hnm; go_wp2_with fail; refine (HPn.out wr HB.out).mono ?_; rintro _ w1 ⟨rfl, hb1⟩; obtain ⟨Y, hY⟩ : ∃ X, X = w1.alloc (.cells #[.int .i64 kd, .string nm, .int .i64 (kn : Nat), .int .i64 (ka : Nat), .int .i64 (kb : Nat)] 135 (0, 0)) := ⟨_, rfl⟩; (have hbY : Below wr.heap.size wr Y := by rw [hY]; exact below_more hb1 _); have HBY : Hid (Below w.heap.size w Y) := below_join HB.out hbY; have HBYw : Hid (Below wx.heap.size wx Y) := below_join HBw.out hbY; have HYo : Hid (Y.ownsRow wx.heap.size 9 1 (.slice ad LL.length cp) LL.length (LL.map encStr)) := rowM_up HOw.out hbY; (have HYp : Hid (Y.heap[w1.heap.size]? = some (.cells #[.int .i64 kd, .string nm, .int .i64 (kn : Nat), .int .i64 (ka : Nat), .int .i64 (kb : Nat)] 135 (0, 0))) := by rw [hY]; exact blk_new _ _); have hYe := hY.symm; obtain ⟨p0, p1, p2, p3, p4⟩ := blkP HYp.out; clear hb1 hbY hY f0 f1 f2 f3 f4 c0; by_cases hk1 : kd = 1
      case neg =>
        (have hkf : (kd == 1) = false := by simpa using hk1); have HT9 : Hid (nmsP ps (ML.take (i + 1)) = LL) := HTn.out hk1; clear HTy HTn hk1; go_wp2_with fail
        try rw [hYe]
        go_roundg (ML.length - (i + 1))
        case measure => have := HGk.out; have := HI.out; omega
        case rel => exact ⟨i + 1, ad, cp, HI.out, rfl, by go_num, by rw [HT9.out], by rw [HT9.out]; exact HYo, HBYw⟩
      subst hk1; have HT9 : Hid (nmsP ps (ML.take (i + 1)) = LL ++ [pnm ps n]) := HTy.out rfl; obtain ⟨i0, hi0, hz0, hz1, hz2⟩ := infoSt9; clear HTy HTn
      go_wp2_with (first
        | (at_builtin
           have hsz := HBY.out.size; have hszw := HBYw.out.size; have hlm := HLn.out; have hnm := HMl.out; have hil := HI.out; have hown := rowM_up HYo.out ((Below.refl _ Y).alloc (Nat.le_refl _) (.cells #[.string nm] 9 (0, 0))); (refine wpList_append_lies _ rfl _ _ 48 rfl wx.heap.size 9 i0 (.string ⟨#[]⟩) 1 16 Try.underlying48 hi0 hz0 hz1 hz2 rfl (by decide) (.slice ad LL.length cp) LL.length (LL.map encStr) rfl hown ⟨Y.heap.size, 0, none⟩ 1 1 [.string nm] rfl rfl ?_ ?_ (by omega) (by unfold maxLen; omega) (by omega) (by simp; omega) _ rfl ?_)
           · intro j u hu
             rw [add_none, Nat.zero_add, blk_cell (blk_new Y _)]; simpa using hu
           · intro u hu
             simp at hu; subst hu; rfl
           intro g3 cp3 w3 hown3 hgrow hat hlt3; have hgrow' : (Y.alloc (.cells #[.string nm] 9 (0, 0))).grownBy w3 (Value.slice ad LL.length cp).ownBlock := hgrow; have hlt' := HYo.out.lt; (have HB3w : Hid (Below wx.heap.size wx w3) := ((HBYw.out.alloc hszw _).grown hgrow' (by simp; omega) fun k hk => by have := (hlt' k hk).1; omega)); have HOw3 : Hid (w3.ownsRow wx.heap.size 9 1 (.slice (some ⟨g3, 0, none⟩) (LL.length + 1) cp3) (LL.length + 1) (LL.map encStr ++ [.string nm])) := hown3
           clear hgrow hgrow' hat hown3 hown hlt' hsz hszw hlt3 hi0 hz0 hz1 hz2 hlm hnm hil)
        | fail)
      (have hl9 : (nmsP ps (ML.take (i + 1))).length = LL.length + 1 := by rw [HT9.out]; simp)
      go_roundg (ML.length - (i + 1))
      case measure => have := HGk.out; have := HI.out; omega
      case rel =>
        (refine ⟨i + 1, some ⟨g3, 0, none⟩, cp3, HI.out, rfl, by go_num, by rw [hl9], ?_, HB3w⟩); rw [hl9, HT9.out, List.map_append, List.map_cons, HEs.out]; exact HOw3
end Go.Proofs.Ytmahgfgndfcmpag
