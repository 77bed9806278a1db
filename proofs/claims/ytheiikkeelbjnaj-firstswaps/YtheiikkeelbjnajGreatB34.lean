/- Texts of one proof, one behind the other: FT2, FT2B, FT3. -/
import Derived.Test.YtheiikkeelbjnajGreatB30
import Derived.Test.YtheiikkeelbjnajGreatB14
import Derived.Test.YtheiikkeelbjnajGreatB11
import Derived.Test.YtheiikkeelbjnajGreatB05
import Derived.Test.YtheiikkeelbjnajGreatB19
import Derived.Test.YtheiikkeelbjnajGreatB31
/- Walks: names, and words, that are the same but for what is bound (first.Alike's parts). -/
namespace Go.Proofs.YtheiikkeelbjnajGreat
open Go.RowKit

/-- Two rows of bound names. -/
def DS (w : World) (v : Value) (la lb : List (List UInt8)) : Prop := ∃ ada cpa adb cpb, v = .agg #[.slice ada la.length cpa, .slice adb lb.length cpb] ∧ TL w (.slice ada la.length cpa) la ∧ TL w (.slice adb lb.length cpb) lb
theorem DS.up {w w' : World} {v : Value} {la lb : List (List UInt8)} (h : DS w v la lb) (hb : Below w.heap.size w w') : DS w' v la lb := by
  obtain ⟨ada, cpa, adb, cpb, e, h1, h2⟩ := h; exact ⟨ada, cpa, adb, cpb, e, h1.up hb, h2.up hb⟩
theorem boundBy_any (l : List (List UInt8)) (t : ByteArray) (v : Value) (w : World) (h : TL w v l) :
    Calls Tryz.prog 189 #[v, .string t] w fun e w' => e = .returned (.int .i64 ((bdN l t.data.toList : Nat) - 1 : Int)) ∧ w' = w := by
  obtain ⟨ad, cap, rfl, h1, h2, h3⟩ := h; have HC : Hid (l ≠ [] → ∃ g, ad = some ⟨g, 0, none⟩ ∧ ∀ (j : Nat) (t : List UInt8), l[j]? = some t → w.cell? ⟨g, j, none⟩ = some (.string ⟨t.toArray⟩)) := h3; (have hlen : ((l.length : Nat) : Int) ≤ 9223372036854775807 := by unfold maxLen at h2; omega); clear h3
  go_enter Tryz.func189, Tryz.ntmps189
  go_wp2_with fail
  go_loopg [5] l.length (fun g c wr => ∃ k, k ≤ l.length ∧ g = k ∧ c = .int .i64 ((k : Int) - 1) ∧ wr = w ∧ Hid (bdK l t.data.toList k = bdN l t.data.toList))
  case atStart => exact ⟨l.length, Nat.le_refl _, rfl, by go_num, rfl, by show _ = _; rfl⟩
  case round =>
    obtain ⟨k, hk, hg, rfl, rfl, HS⟩ := hrel; have HG : Hid (gk = k) := hg; clear hg
    rcases k with _ | k
    · have h0 : bdN l t.data.toList = 0 := HS.out.symm
      rw [show (((0 : Nat) : Int) - 1) = -1 from rfl]; go_wp2_with fail; go_ret; rw [h0]; exact ⟨rfl, rfl⟩
    · rw [show (((k + 1 : Nat) : Int) - 1) = (k : Int) by omega]
      (obtain ⟨g, rfl, hc⟩ := HC.out (fun e => by rw [e] at hk; simp at hk)); (obtain ⟨u, hu⟩ : ∃ u, l[k]? = some u := ⟨_, List.getElem?_eq_getElem (by omega)⟩); have g0 := hc k u hu; (have hltI : (k : Int) < (l.length : Int) := by omega); (have hlc : (k : Int) < (cap : Int) := by omega); have hs := HS.out; rw [bdK, hu] at hs; by_cases e : u = t.data.toList
      · subst e
        rw [if_pos rfl] at hs; have HR : Hid (k + 1 = bdN l t.data.toList) := hs; rw [str_eta] at g0; clear hs hu hc HS; go_wp2_with fail; go_ret; refine ⟨?_, rfl⟩; (rw [← HR.out, show (((k + 1 : Nat) : Int) - 1) = (k : Int) by omega]); rfl
      · rw [if_neg (by simpa using e)] at hs
        have HR : Hid (bdK l t.data.toList k = bdN l t.data.toList) := hs; (have hne : ¬ (⟨u.toArray⟩ : ByteArray).toList = t.toList := by rw [ByteArray.toList_eq, ByteArray.toList_eq]; simpa using e); generalize (⟨u.toArray⟩ : ByteArray) = T at *; clear hs hu hc HS e; go_wp2_with fail
        go_roundg k
        case measure => have := HG.out; omega
        case rel => exact ⟨k, by omega, rfl, by go_num, rfl, HR.out⟩
        all_goals exact absurd (by assumption : (!T.toList == t.toList) = false) (by simp [hne])
set_option maxRecDepth 10000 in
set_option maxHeartbeats 2000000 in
theorem sameName_any (la lb : List (List UInt8)) (n m : ByteArray) (sv : Value) (w : World) (h : DS w sv la lb) :
    Calls Tryz.prog 156 #[sv, .string n, .string m] w fun e w' => e = .returned (.bool (alN la lb n.data.toList m.data.toList)) ∧ Below w.heap.size w w' := by
  obtain ⟨ada, cpa, adb, cpb, rfl, ha, hb⟩ := h; obtain ⟨i, hi⟩ : ∃ i : Int, ((bdN la n.data.toList : Nat) - 1 : Int) = i := ⟨_, rfl⟩; obtain ⟨j, hj⟩ : ∃ j : Int, ((bdN lb m.data.toList : Nat) - 1 : Int) = j := ⟨_, rfl⟩; (have HA : Hid (∀ W, Below w.heap.size w W → Calls Tryz.prog 189 #[.slice ada la.length cpa, .string n] W fun e w' => e = .returned (.int .i64 i) ∧ w' = W) := fun W h => by rw [← hi]; exact boundBy_any la n _ W (ha.up h)); (have HB : Hid (∀ W, Below w.heap.size w W → Calls Tryz.prog 189 #[.slice adb lb.length cpb, .string m] W fun e w' => e = .returned (.int .i64 j) ∧ w' = W) := fun W h => by rw [← hj]; exact boundBy_any lb m _ W (hb.up h)); have q0 := blk_new w (.cells #[.slice ada la.length cpa, .slice adb lb.length cpb] 93 (0, 0)); have HW : Hid (Below w.heap.size w (w.alloc (.cells #[.slice ada la.length cpa, .slice adb lb.length cpb] 93 (0, 0)))) := below_more (Below.refl _ _) _; have HI : Hid (((bdN la n.data.toList : Nat) - 1 : Int) = i ∧ ((bdN lb m.data.toList : Nat) - 1 : Int) = j) := ⟨hi, hj⟩; clear ha hb hi hj
  go_enter Tryz.func156, Tryz.ntmps156
  go_wp2_with fail; generalize w.alloc _ = W at *; obtain ⟨c0, c1, -⟩ := blk2 q0; have z0 := lt_of_block q0
  go_quiet (first
    | (go_at_call_of 189 (Value.slice ada la.length cpa)
       exact Calls.quiet_of_same (HA.out _ (below_drewN HW.out _)))
    | (go_at_call_of 189 (Value.slice adb lb.length cpb)
       exact Calls.quiet_of_same (HB.out _ (below_drewN HW.out _)))
    | fail)
  all_goals
    by_cases h1 : i = j
    · subst h1
      by_cases h2 : 0 ≤ i
      · go_wp2_with fail
        go_ret; refine ⟨ret_bool ?_, below_drewN HW.out _⟩; (refine (alN_iff.2 ⟨?_, Or.inl ?_⟩).symm <;> · have := HI.out; omega)
      · by_cases h3 : n = m
        · subst h3
          go_wp2_with fail; go_ret; refine ⟨ret_bool ?_, below_drewN HW.out _⟩; refine (alN_iff.2 ⟨?_, Or.inr rfl⟩).symm; have := HI.out; omega
        · have h4 : ¬ n.toList = m.toList := fun h => h3 (by rw [ByteArray.toList_eq, ByteArray.toList_eq] at h; rw [← str_eta n, ← str_eta m, h])
          have HN : Hid (¬ n = m) := h3; go_wp2_with fail; go_ret; refine ⟨ret_bool ?_, below_drewN HW.out _⟩; rw [beq_eq_false_iff_ne.2 h4]; (refine Eq.symm (Bool.eq_false_iff.2 fun h => ?_))
          rcases (alN_iff.1 h).2 with h | h
          · have := HI.out; omega
          · exact HN.out (by rw [← str_eta n, ← str_eta m, h])
    · have HN : Hid (¬ i = j) := h1
      go_wp2_with fail; go_ret; (refine ⟨ret_bool (Eq.symm (Bool.eq_false_iff.2 fun h => HN.out ?_)), below_drewN HW.out _⟩); have h5 := (alN_iff.1 h).1; have := HI.out; rw [← this.1, ← this.2, h5]
end Go.Proofs.YtheiikkeelbjnajGreat
/- Walks: words that are the same but for what is bound. -/
namespace Go.Proofs.YtheiikkeelbjnajGreat
open Go.RowKit

theorem frame47 (a : Array Value) (h : a.size = 47) : ∃ x0 x1 x2 x3 x4 x5 x6 x7 x8 x9 x10 x11 x12 x13 x14 x15 x16 x17 x18 x19 x20 x21 x22 x23 x24 x25 x26 x27 x28 x29 x30 x31 x32 x33 x34 x35 x36 x37 x38 x39 x40 x41 x42 x43 x44 x45 x46, a = #[x0, x1, x2, x3, x4, x5, x6, x7, x8, x9, x10, x11, x12, x13, x14, x15, x16, x17, x18, x19, x20, x21, x22, x23, x24, x25, x26, x27, x28, x29, x30, x31, x32, x33, x34, x35, x36, x37, x38, x39, x40, x41, x42, x43, x44, x45, x46] := by
  obtain ⟨l⟩ := a; have h0 : l.length = 47 := h; obtain ⟨x0, l1, e0, h1⟩ := cons_lenM h0; obtain ⟨x1, l2, e1, h2⟩ := cons_lenM h1; obtain ⟨x2, l3, e2, h3⟩ := cons_lenM h2; obtain ⟨x3, l4, e3, h4⟩ := cons_lenM h3; obtain ⟨x4, l5, e4, h5⟩ := cons_lenM h4; obtain ⟨x5, l6, e5, h6⟩ := cons_lenM h5; obtain ⟨x6, l7, e6, h7⟩ := cons_lenM h6; obtain ⟨x7, l8, e7, h8⟩ := cons_lenM h7; obtain ⟨x8, l9, e8, h9⟩ := cons_lenM h8; obtain ⟨x9, l10, e9, h10⟩ := cons_lenM h9; obtain ⟨x10, l11, e10, h11⟩ := cons_lenM h10; obtain ⟨x11, l12, e11, h12⟩ := cons_lenM h11; obtain ⟨x12, l13, e12, h13⟩ := cons_lenM h12; obtain ⟨x13, l14, e13, h14⟩ := cons_lenM h13; obtain ⟨x14, l15, e14, h15⟩ := cons_lenM h14; obtain ⟨x15, l16, e15, h16⟩ := cons_lenM h15; obtain ⟨x16, l17, e16, h17⟩ := cons_lenM h16; obtain ⟨x17, l18, e17, h18⟩ := cons_lenM h17; obtain ⟨x18, l19, e18, h19⟩ := cons_lenM h18; obtain ⟨x19, l20, e19, h20⟩ := cons_lenM h19; obtain ⟨x20, l21, e20, h21⟩ := cons_lenM h20; obtain ⟨x21, l22, e21, h22⟩ := cons_lenM h21; obtain ⟨x22, l23, e22, h23⟩ := cons_lenM h22; obtain ⟨x23, l24, e23, h24⟩ := cons_lenM h23; obtain ⟨x24, l25, e24, h25⟩ := cons_lenM h24; obtain ⟨x25, l26, e25, h26⟩ := cons_lenM h25; obtain ⟨x26, l27, e26, h27⟩ := cons_lenM h26; obtain ⟨x27, l28, e27, h28⟩ := cons_lenM h27; obtain ⟨x28, l29, e28, h29⟩ := cons_lenM h28; obtain ⟨x29, l30, e29, h30⟩ := cons_lenM h29; obtain ⟨x30, l31, e30, h31⟩ := cons_lenM h30; obtain ⟨x31, l32, e31, h32⟩ := cons_lenM h31; obtain ⟨x32, l33, e32, h33⟩ := cons_lenM h32; obtain ⟨x33, l34, e33, h34⟩ := cons_lenM h33; obtain ⟨x34, l35, e34, h35⟩ := cons_lenM h34; obtain ⟨x35, l36, e35, h36⟩ := cons_lenM h35; obtain ⟨x36, l37, e36, h37⟩ := cons_lenM h36; obtain ⟨x37, l38, e37, h38⟩ := cons_lenM h37; obtain ⟨x38, l39, e38, h39⟩ := cons_lenM h38; obtain ⟨x39, l40, e39, h40⟩ := cons_lenM h39; obtain ⟨x40, l41, e40, h41⟩ := cons_lenM h40; obtain ⟨x41, l42, e41, h42⟩ := cons_lenM h41; obtain ⟨x42, l43, e42, h43⟩ := cons_lenM h42; obtain ⟨x43, l44, e43, h44⟩ := cons_lenM h43; obtain ⟨x44, l45, e44, h45⟩ := cons_lenM h44; obtain ⟨x45, l46, e45, h46⟩ := cons_lenM h45; obtain ⟨x46, l47, e46, h47⟩ := cons_lenM h46; have e47 : l47 = [] := List.length_eq_zero_iff.1 h47; subst e47 e46 e45 e44 e43 e42 e41 e40 e39 e38 e37 e36 e35 e34 e33 e32 e31 e30 e29 e28 e27 e26 e25 e24 e23 e22 e21 e20 e19 e18 e17 e16 e15 e14 e13 e12 e11 e10 e9 e8 e7 e6 e5 e4 e3 e2 e1 e0; exact ⟨x0, x1, x2, x3, x4, x5, x6, x7, x8, x9, x10, x11, x12, x13, x14, x15, x16, x17, x18, x19, x20, x21, x22, x23, x24, x25, x26, x27, x28, x29, x30, x31, x32, x33, x34, x35, x36, x37, x38, x39, x40, x41, x42, x43, x44, x45, x46, rfl⟩
def kAnyT : Value → World → Prop := fun _ _ => True
theorem kAnyT_stays : Stays kAnyT := fun _ _ _ _ _ => trivial
theorem dep_eqT {o : Option Value} {c : Value} (w : World) (h : ∃ v, o = some v ∧ kEq c v w) : o = some c := by
  obtain ⟨v, h1, h2⟩ := h; rw [h1, show v = c from h2]
theorem alWs_len {la lb : List (List UInt8)} : ∀ {l m : List Wd}, l.length ≠ m.length → alWs la lb l m = false
  | [], [], h => absurd rfl h
  | [], _ :: _, _ => by rw [alWs]
  | _ :: _, [], _ => by rw [alWs]
  | x :: l, y :: m, h => by rw [alWs, alWs_len (l := l) (m := m) (fun e => h (by simp [e])), Bool.and_false]
theorem drop_one {α : Type} {l : List α} {i : Nat} {x : α} (h : l[i]? = some x) : l.drop i = x :: l.drop (i + 1) := by
  have hi := (List.getElem?_eq_some_iff.1 h).1; rw [List.drop_eq_getElem_cons hi]; rw [List.getElem?_eq_getElem hi] at h; rw [Option.some.inj h]
theorem alWs_drop {la lb : List (List UInt8)} {fs gs : List Wd} {i : Nat} {n m : ByteArray} {ar br : List Wd} (hf : fs[i]? = some (.mk n ar)) (hg : gs[i]? = some (.mk m br)) : alWs la lb (fs.drop i) (gs.drop i) = (alN la lb n.data.toList m.data.toList && alWs la lb ar br && alWs la lb (fs.drop (i + 1)) (gs.drop (i + 1))) := by
  rw [drop_one hf, drop_one hg, alWs, alW]
def ALs (k : Nat) : Prop := ∀ (la lb : List (List UInt8)) (ws us : List Wd) (sv v u : Value) (w : World), Wd.sizes ws < k → DS w sv la lb → WL w v ws → WL w u us →
  Calls Tryz.prog 109 #[sv, v, u] w fun e w' => e = .returned (.bool (alWs la lb ws us)) ∧ Below w.heap.size w w'
set_option maxRecDepth 10000 in
set_option maxHeartbeats 4000000 in
theorem alws_step (m : Nat) (ih : ALs m) : ALs (m + 1) := by
  intro la lb ws us sv v u w hm hds hv hu; have HD0 : Hid (DS w sv la lb) := hds; obtain ⟨ada, cpa, adb, cpb, rfl, -, -⟩ := hds; have HX : Hid (WL w v ws) := hv; have HY : Hid (WL w u us) := hu; obtain ⟨sw, cw, rfl, hx2, hx3, -⟩ := hv; obtain ⟨su, cu, rfl, hy2, hy3, -⟩ := hu; (have hlen : ((ws.length : Nat) : Int) ≤ 9223372036854775807 := by unfold maxLen at hx3; omega); (have hlen2 : ((us.length : Nat) : Int) ≤ 9223372036854775807 := by unfold maxLen at hy3; omega); have q0 := blk_new w (.cells #[.slice ada la.length cpa, .slice adb lb.length cpb] 93 (0, 0)); have HW : Hid (Below w.heap.size w (w.alloc (.cells #[.slice ada la.length cpa, .slice adb lb.length cpb] 93 (0, 0)))) := below_more (Below.refl _ _) _; by_cases h3 : ws.length = us.length
  · rw [← h3] at HY hy2 ⊢
    have HQ : Hid (_) := q0; have HE : Hid (ws.length = us.length) := h3; clear h3 q0 hlen2
    go_enter Tryz.func109, Tryz.ntmps109
    go_wp2_with fail; generalize w.alloc _ = W at *
    go_loopg [15, 7] ws.length (fun g c t wr => ∃ i, i ≤ ws.length ∧ g = ws.length - i ∧ c = .int .i64 (i : Nat) ∧ Below w.heap.size w wr ∧ wr.heap[w.heap.size]? = some (.cells #[.slice ada la.length cpa, .slice adb lb.length cpb] 93 (0, 0)) ∧ Hid (alWs la lb (ws.drop i) (us.drop i) = alWs la lb ws us))
    case atStart => exact ⟨0, by omega, by omega, rfl, HW.out, HQ.out, by show _ = _; simp⟩
    case round =>
      obtain ⟨i, hi, hg, rfl, hbr, q0, HS⟩ := hrel; have HG : Hid (gk = ws.length - i) := hg; clear hg HW HQ; obtain ⟨e0, e1, -⟩ := blk2 q0; by_cases hlt : i < ws.length
      · obtain ⟨⟨n2, ar2⟩, hki⟩ : ∃ f, ws[i]? = some f := ⟨_, List.getElem?_eq_getElem hlt⟩
        (obtain ⟨⟨n3, ar3⟩, hki'⟩ : ∃ f, us[i]? = some f := ⟨_, List.getElem?_eq_getElem (by have := HE.out; omega)⟩); obtain ⟨b, off, sl2, cap2, rfl, g0, g1, hrep2⟩ := (HX.out.up hbr).at i n2 ar2 hki; obtain ⟨b', off', sl3, cap3, rfl, p0, p1, hrep3⟩ := (HY.out.up hbr).at i n3 ar3 hki'; (have hlt2 : (i : Int) < (ws.length : Int) := by omega); (have hlc : ((i : Nat) : Int) < ((cw : Nat) : Int) := by omega); (have hsz : Wd.sizes ar2 < m := by have := wsize_get hki; rw [Wd.size] at this; omega); have z0 := lt_of_block q0; have HZ : Hid (Below w.heap.size w wr) := hbr; have hds := HS.out; rw [alWs_drop hki hki'] at hds; have HD : Hid (_ = alWs la lb ws us) := hds; (have HNm : Hid (∀ W, Below wr.heap.size wr W → Calls Tryz.prog 156 #[.agg #[.slice ada la.length cpa, .slice adb lb.length cpb], .string n2, .string n3] W fun e w' => e = .returned (.bool (alN la lb n2.data.toList n3.data.toList)) ∧ Below W.heap.size W w') := fun W h => sameName_any la lb n2 n3 _ W (HD0.out.up (hbr.trans (h.mono hbr.size)))); (have HI : Hid (∀ W, Below wr.heap.size wr W → Calls Tryz.prog 109 #[.agg #[.slice ada la.length cpa, .slice adb lb.length cpb], .slice sl2 ar2.length cap2, .slice sl3 ar3.length cap3] W fun e w' => e = .returned (.bool (alWs la lb ar2 ar3)) ∧ Below W.heap.size W w') := fun W h => ih la lb ar2 ar3 _ _ _ W hsz (HD0.out.up (hbr.trans (h.mono hbr.size))) (hrep2.args.2.2.2.up h) (hrep3.args.2.2.2.up h)); have zb := lt_of_cell g0; have zb' := lt_of_cell p0; simp only at zb zb'; have HC : Hid (wr.cell? ⟨w.heap.size, 0, none⟩ = some (.slice ada la.length cpa) ∧ wr.cell? ⟨w.heap.size, 1, none⟩ = some (.slice adb lb.length cpb) ∧ wr.cell? ⟨b, off + i * 2, none⟩ = some (.string n2) ∧ wr.cell? ⟨b, off + i * 2 + 1, none⟩ = some (.slice sl2 ar2.length cap2) ∧ wr.cell? ⟨b', off' + i * 2, none⟩ = some (.string n3) ∧ wr.cell? ⟨b', off' + i * 2 + 1, none⟩ = some (.slice sl3 ar3.length cap3)) := ⟨e0, e1, g0, g1, p0, p1⟩; have HQr : Hid (wr.heap[w.heap.size]? = some (.cells #[.slice ada la.length cpa, .slice adb lb.length cpb] 93 (0, 0))) := q0; clear hki hki' HX HY hds HS hrep2 hrep3 HD0 q0 hbr
        rcases hnm : alN la lb n2.data.toList n3.data.toList with _ | _
        · rw [hnm] at HNm HD
          rw [Bool.false_and, Bool.false_and] at HD; clear hnm HI; go_wp2_with fail; (refine wp_region_free (by kernel_rfl) [kEq (.agg #[.slice ada la.length cpa, .slice adb lb.length cpb]), kEq (.slice (some ⟨b, off, none⟩) ws.length cw), kEq (.int .i64 (i : Nat)), kEq (.pointer (some ⟨b, off + i * 2, none⟩)), kEq (.pointer (some ⟨b, off + i * 2, none⟩)), kEq (.string n2), kEq (.slice (some ⟨b', off', none⟩) ws.length cu), kEq (.int .i64 (i : Nat)), kEq (.pointer (some ⟨b', off' + i * 2, none⟩)), kEq (.pointer (some ⟨b', off' + i * 2, none⟩)), kEq (.string n3), kEq (.bool false), kEq (.bool true), kEq (.bool true), kAnyT, kAnyT, kAnyT, kAnyT, kAnyT, kAnyT, kAnyT, kAnyT, kAnyT, kAnyT, kAnyT, kAnyT, kAnyT, kEq (.bool true)] ?_ (by kernel_rfl) (by kernel_rfl) 47 rfl (by kernel_rfl) ?_ ?_)
          · intro p hp
            simp only [List.mem_cons, List.not_mem_nil, or_false] at hp
            rcases hp with rfl | rfl | rfl | rfl | rfl | rfl | rfl | rfl | rfl | rfl | rfl | rfl | rfl | rfl | rfl | rfl | rfl | rfl | rfl | rfl | rfl | rfl | rfl | rfl | rfl | rfl | rfl | rfl
            all_goals first | exact kEq_stays _ | exact kAnyT_stays
          · refine ⟨?_, ?_, ?_, ?_, ?_, ?_, ?_, ?_, ?_, ?_, ?_, ?_, ?_, ?_, ?_, ?_, ?_, ?_, ?_, ?_, ?_, ?_, ?_, ?_, ?_, ?_, ?_, ?_, trivial⟩
            · intro a wx hB hold hdep K hK; have t3 : a.tmps[3]? = some (.pointer (some ⟨w.heap.size, 0, none⟩)) := hold.2.2 3 rfl; have z1 := (hB.cell (lt_of_cell HC.out.1)).trans HC.out.1; have z2 := (hB.cell (lt_of_cell HC.out.2.1)).trans HC.out.2.1; clear hold hdep; go_simp; exact hK.out _ _ rfl (Below.refl _ _)
            · intro a wx hB hold hdep K hK; have t1 : a.tmps[1]? = some (.slice (some ⟨b, off, none⟩) ws.length cw) := hold.2.2 1 rfl; clear hold hdep; go_simp; exact hK.out _ _ rfl (Below.refl _ _)
            · intro a wx hB hold hdep K hK; have t7 : a.tmps[7]? = some (.int .i64 (i : Nat)) := hold.2.2 7 rfl; clear hold hdep; go_simp; exact hK.out _ _ rfl (Below.refl _ _)
            · intro a wx hB hold hdep K hK; have t19 := dep_eqT wx (hdep 1 rfl _ 19 rfl rfl); have t20 := dep_eqT wx (hdep 2 rfl _ 20 rfl rfl); clear hold hdep; go_simp; exact hK.out _ _ rfl (Below.refl _ _)
            · intro a wx hB hold hdep K hK; have t21 := dep_eqT wx (hdep 3 rfl _ 21 rfl rfl); clear hold hdep; go_simp; exact hK.out _ _ rfl (Below.refl _ _)
            · intro a wx hB hold hdep K hK; have t22 := dep_eqT wx (hdep 4 rfl _ 22 rfl rfl); have z3 := (hB.cell (lt_of_cell HC.out.2.2.1)).trans HC.out.2.2.1; clear hold hdep; go_simp; exact hK.out _ _ rfl (Below.refl _ _)
            · intro a wx hB hold hdep K hK; have t2 : a.tmps[2]? = some (.slice (some ⟨b', off', none⟩) ws.length cu) := hold.2.2 2 rfl; clear hold hdep; go_simp; exact hK.out _ _ rfl (Below.refl _ _)
            · intro a wx hB hold hdep K hK; have t7 : a.tmps[7]? = some (.int .i64 (i : Nat)) := hold.2.2 7 rfl; clear hold hdep; go_simp; exact hK.out _ _ rfl (Below.refl _ _)
            · intro a wx hB hold hdep K hK; have t24 := dep_eqT wx (hdep 6 rfl _ 24 rfl rfl); have t25 := dep_eqT wx (hdep 7 rfl _ 25 rfl rfl); clear hold hdep; go_simp; exact hK.out _ _ rfl (Below.refl _ _)
            · intro a wx hB hold hdep K hK; have t26 := dep_eqT wx (hdep 8 rfl _ 26 rfl rfl); clear hold hdep; go_simp; exact hK.out _ _ rfl (Below.refl _ _)
            · intro a wx hB hold hdep K hK; have t27 := dep_eqT wx (hdep 9 rfl _ 27 rfl rfl); have z5 := (hB.cell (lt_of_cell HC.out.2.2.2.2.1)).trans HC.out.2.2.2.2.1; clear hold hdep; go_simp; exact hK.out _ _ rfl (Below.refl _ _)
            · intro a wx hB hold hdep K hK; have t18 := dep_eqT wx (hdep 0 rfl _ 18 rfl rfl); have t23 := dep_eqT wx (hdep 5 rfl _ 23 rfl rfl); have t28 := dep_eqT wx (hdep 10 rfl _ 28 rfl rfl); clear hold hdep; go_simp; refine (HNm.out wx hB).mono ?_; rintro e w2 ⟨rfl, hb2⟩; exact hK.out _ _ rfl hb2
            · intro a wx hB hold hdep K hK; have t29 := dep_eqT wx (hdep 11 rfl _ 29 rfl rfl); clear hold hdep; go_simp; exact hK.out _ _ rfl (Below.refl _ _)
            · intro a wx hB hold hdep K hK; have t30 := dep_eqT wx (hdep 12 rfl _ 30 rfl rfl); clear hold hdep; go_simp; exact hK.out _ _ rfl (Below.refl _ _)
            iterate 13 (· intro a wx hB hold hdep K hK; have t31 := dep_eqT wx (hdep 13 rfl _ 31 rfl rfl); clear hold hdep; go_simp; exact hK.out _ _ trivial (Below.refl _ _))
            · intro a wx hB hold hdep K hK; have t31 := dep_eqT wx (hdep 13 rfl _ 31 rfl rfl); clear hold hdep; go_simp; exact hK.out _ _ rfl (Below.refl _ _)
          · intro a wx hB hold hgot
            obtain ⟨v45, t45, p45⟩ := hgot 27 _ 45 rfl rfl; have e45 : v45 = (.bool true) := p45; subst e45; obtain ⟨tm, df⟩ := a; obtain ⟨x0, x1, x2, x3, x4, x5, x6, x7, x8, x9, x10, x11, x12, x13, x14, x15, x16, x17, x18, x19, x20, x21, x22, x23, x24, x25, x26, x27, x28, x29, x30, x31, x32, x33, x34, x35, x36, x37, x38, x39, x40, x41, x42, x43, x44, x45, x46, htm⟩ := frame47 tm hold.1; subst htm; obtain rfl : df = [] := hold.2.1; have hh := hold.2.2; obtain rfl : x0 = _ := someInjM (hh 0 rfl); obtain rfl : x1 = _ := someInjM (hh 1 rfl); obtain rfl : x2 = _ := someInjM (hh 2 rfl); obtain rfl : x3 = _ := someInjM (hh 3 rfl); obtain rfl : x4 = _ := someInjM (hh 4 rfl); obtain rfl : x5 = _ := someInjM (hh 5 rfl); obtain rfl : x6 = _ := someInjM (hh 6 rfl); obtain rfl : x7 = _ := someInjM (hh 7 rfl); obtain rfl : x8 = _ := someInjM (hh 8 rfl); obtain rfl : x9 = _ := someInjM (hh 9 rfl); obtain rfl : x10 = _ := someInjM (hh 10 rfl); obtain rfl : x11 = _ := someInjM (hh 11 rfl); obtain rfl : x12 = _ := someInjM (hh 12 rfl); obtain rfl : x13 = _ := someInjM (hh 13 rfl); obtain rfl : x14 = _ := someInjM (hh 14 rfl); obtain rfl : x15 = _ := someInjM (hh 15 rfl); obtain rfl : x16 = _ := someInjM (hh 16 rfl); obtain rfl : x17 = _ := someInjM (hh 17 rfl); obtain rfl : x46 = _ := someInjM (hh 46 rfl); obtain rfl : x45 = _ := Option.some.inj t45; clear hh hold hgot t45 p45; have HB1 : Hid (Below wr.heap.size wr wx) := hB; clear hB; go_wp2_with fail; go_ret; exact ⟨ret_bool HD.out, HZ.out.trans (HB1.out.mono HZ.out.size)⟩
        · rw [hnm] at HNm HD
          rw [Bool.true_and] at HD; clear hnm
          rcases har : alWs la lb ar2 ar3 with _ | _
          all_goals
            rw [har] at HI HD; clear har; go_wp2_with fail
            go_region_held3 (fun w' => w'.cell? ⟨w.heap.size, 0, none⟩ = some (.slice ada la.length cpa) ∧ w'.cell? ⟨w.heap.size, 1, none⟩ = some (.slice adb lb.length cpb) ∧ w'.cell? ⟨b, off + i * 2, none⟩ = some (.string n2) ∧ w'.cell? ⟨b, off + i * 2 + 1, none⟩ = some (.slice sl2 ar2.length cap2) ∧ w'.cell? ⟨b', off' + i * 2, none⟩ = some (.string n3) ∧ w'.cell? ⟨b', off' + i * 2 + 1, none⟩ = some (.slice sl3 ar3.length cap3)) (go_keep)
              (first
               | (go_at_call 156
                  refine (HNm.out _ (Below.refl _ _).drew).mono ?_; rintro e w1 ⟨rfl, hb1⟩; have HB1 : Hid (Below wr.heap.size wr w1) := below_join (Below.refl _ wr).drew hb1; have c0 := (HB1.out.cell (lt_of_cell HC.out.1)).trans HC.out.1; have c1 := (HB1.out.cell (lt_of_cell HC.out.2.1)).trans HC.out.2.1; have c2 := (HB1.out.cell (lt_of_cell HC.out.2.2.1)).trans HC.out.2.2.1; have c3 := (HB1.out.cell (lt_of_cell HC.out.2.2.2.1)).trans HC.out.2.2.2.1; have c4 := (HB1.out.cell (lt_of_cell HC.out.2.2.2.2.1)).trans HC.out.2.2.2.2.1; have c5 := (HB1.out.cell (lt_of_cell HC.out.2.2.2.2.2)).trans HC.out.2.2.2.2.2
                  clear hb1)
               | (go_at_call 109
                  refine (HI.out _ HB1.out).mono ?_; rintro e w2 ⟨rfl, hb2⟩; have HB2 : Hid (Below wr.heap.size wr w2) := below_join HB1.out hb2; have d0 := (HB2.out.cell (lt_of_cell HC.out.1)).trans HC.out.1; have d1 := (HB2.out.cell (lt_of_cell HC.out.2.1)).trans HC.out.2.1; have d2 := (HB2.out.cell (lt_of_cell HC.out.2.2.1)).trans HC.out.2.2.1; have d3 := (HB2.out.cell (lt_of_cell HC.out.2.2.2.1)).trans HC.out.2.2.2.1; have d4 := (HB2.out.cell (lt_of_cell HC.out.2.2.2.2.1)).trans HC.out.2.2.2.2.1; have d5 := (HB2.out.cell (lt_of_cell HC.out.2.2.2.2.2)).trans HC.out.2.2.2.2.2
                  clear hb2)
               | fail)
          · go_wp2_with fail
            go_ret; exact ⟨ret_bool HD.out, HZ.out.trans (HB2.out.mono HZ.out.size)⟩
          · rw [Bool.true_and] at HD
            have hz := HZ.out.trans (HB2.out.mono HZ.out.size); have hq := below_keep HB2.out HQr.out; have HT : Hid (Below w.heap.size w w2 ∧ w2.heap[w.heap.size]? = some (.cells #[.slice ada la.length cpa, .slice adb lb.length cpb] 93 (0, 0))) := ⟨hz, hq⟩; clear hz hq c0 c1 c2 c3 c4 c5 d0 d1 d2 d3 d4 d5; go_wp2_with fail
            go_roundg (ws.length - (i + 1))
            case measure => have := HG.out; omega
            case rel => exact ⟨i + 1, by omega, rfl, by go_num, HT.out.1, HT.out.2, HD.out⟩
      · go_wp2_with fail
        go_ret; refine ⟨ret_bool ?_, hbr⟩; (rw [← HS.out, List.drop_of_length_le (by omega), List.drop_of_length_le (by have := HE.out; omega), alWs])
  · have hE : alWs la lb ws us = false := alWs_len h3
    rw [hE]; (have h3' : ((ws.length : Int) != (us.length : Int)) = true := by simp; omega); clear hE HX HY HD0
    go_enter Tryz.func109, Tryz.ntmps109
    go_wp2_with fail; go_ret; exact ⟨rfl, HW.out⟩
theorem alws_all : ∀ m, ALs m
  | 0 => fun _ _ _ _ _ _ _ _ h => absurd h (Nat.not_lt_zero _)
  | m + 1 => alws_step m (alws_all m)
theorem alws_any (la lb : List (List UInt8)) (ws us : List Wd) (sv v u : Value) (w : World) (h : DS w sv la lb) (hv : WL w v ws) (hu : WL w u us) :
    Calls Tryz.prog 109 #[sv, v, u] w fun e w' => e = .returned (.bool (alWs la lb ws us)) ∧ Below w.heap.size w w' :=
  alws_all (Wd.sizes ws + 1) la lb ws us sv v u w (Nat.lt_succ_self _) h hv hu
end Go.Proofs.YtheiikkeelbjnajGreat
/- Two rows of names, each with a name put behind, in a region that draws its order; what an expression's walk keeps of them. -/
namespace Go.Proofs.YtheiikkeelbjnajGreat
open Go.RowKit Go.Sort

abbrev ob1 (ad : Option Addr) (cp : Nat) (l : List (List UInt8)) : Option Nat := (Value.slice ad l.length cp).ownBlock
theorem appK_any {o : Oper} {a : Act} {w : World} {K : Act → World → Prop} {Q : Exit → Act → World → Prop} (s x : Operand) (hop : o.op = Op.call { callee := Callee.builtin Builtin.append, args := #[s, x], argTypes := #[49, 49] })
    (B : Nat) (is : List (List UInt8)) (t : List UInt8) (ad : Option Addr) (cp q : Nat) (Tq : TypeId) (hs : a.eval s = .slice ad is.length cp) (hown : KS B w ad cp is) (hx : a.eval x = .slice (some ⟨q, 0, none⟩) 1 1) (hq : w.heap[q]? = some (.cells #[.string ⟨t.toArray⟩] Tq (0, 0))) (hB : B ≤ w.heap.size) (hl : is.length ≤ 100000)
    (h : ∀ g3 cp3 w3, KS B w3 (some ⟨g3, 0, none⟩) cp3 (is ++ [t]) → Kept (fun b => ob1 ad cp is ≠ some b) w w3 → (ob1 ad cp is = some g3 ∨ (w.heap.size ≤ g3 ∧ g3 < w3.heap.size)) → KS B w3 ad cp is → K (a.put o.dst (.slice (some ⟨g3, 0, none⟩) (is.length + 1) cp3)) w3) : Oper.wp Tryz.prog o a w K Q := by
  obtain ⟨i0, hi, hz0, hz1, hz2⟩ := infoText
  have hnw : ∀ (j : Nat) (u : Value), [Value.string ⟨t.toArray⟩][j]? = some u → w.cell? ((⟨q, 0, none⟩ : Addr).add j) = some u := fun j u hu => by
    rw [add_none, Nat.zero_add, blk_cell hq]; simpa using hu
  have h1c : ∀ u ∈ [Value.string ⟨t.toArray⟩], u.oneCell' = true := fun u hu => by
    simp at hu; subst hu; rfl
  (obtain ⟨g3, cp3, w3, hr, h2, h3, h4, h5⟩ := run_append_lies (P := Tryz.prog) w 49 o.type B 9 i0 (.string ⟨#[]⟩) 1 16 Tryz.underlying49 hi hz0 hz1 hz2 rfl (by decide) _ _ _ hown ⟨q, 0, none⟩ 1 1 [.string ⟨t.toArray⟩] rfl hnw h1c (by omega) (by unfold maxLen; omega) (by omega) hB _ rfl)
  have hks : KS B w3 ad cp is := by
    rcases hown.2 with ⟨hv, h0⟩ | ⟨g, cap, cur, hv, hbg, hg, hnc, hcm, hcs, htake⟩
    · simp only [Value.slice.injEq] at hv
      obtain ⟨rfl, -, rfl⟩ := hv; obtain rfl : is = [] := List.length_eq_zero_iff.1 h0; exact KS.nil
    · simp only [Value.slice.injEq, true_and] at hv
      obtain ⟨rfl, rfl⟩ := hv; by_cases hroom : is.length + 1 ≤ cp
      · have hr2 := run_append_room (P := Tryz.prog) w 49 o.type 9 i0 Tryz.underlying49 hi g is.length cp cur hg ⟨q, 0, none⟩ 1 1 [.string ⟨t.toArray⟩] (by rw [hz1]; rfl) hnw h1c hroom (by rw [hz1]; simp; omega)
        have e := hr.symm.trans hr2; simp only [Result.ok.injEq, Value.slice.injEq, Option.some.injEq, Addr.mk.injEq] at e; obtain ⟨⟨⟨rfl, -⟩, -⟩, -⟩ := e
        have e5 : cp3 = cp := by
          have e := hr.symm.trans hr2; simp only [Result.ok.injEq, Value.slice.injEq] at e; exact e.1.2.2
        subst e5
        have h6 : KS B w3 (some ⟨g3, 0, none⟩) cp3 (is ++ [t]) := by
          unfold KS; rw [List.length_append, List.map_append]; exact h2
        exact h6.pre
      · have hr2 := run_append_grow (P := Tryz.prog) w 49 o.type 9 i0 (.string ⟨#[]⟩) Tryz.underlying49 hi hz0 ⟨g, 0, none⟩ is.length cp (is.map encStr) (by rw [hz1]; simp) (hown.cells (g := g) rfl) ⟨q, 0, none⟩ 1 1 [.string ⟨t.toArray⟩] (by rw [hz1]; rfl) hnw (by omega) (by omega) (by rw [hz2]; exact growslice_fits (by omega) (by omega))
        have e := hr.symm.trans hr2; simp only [Result.ok.injEq] at e; rw [e.2]; exact hown.up (((Below.refl w.heap.size w).drew).alloc (Nat.le_refl _) _)
  have hfin := h g3 cp3 w3 (by
    unfold KS; rw [List.length_append, List.map_append]
    exact h2) ⟨h3.os, h3.tape, h3.output, h3.size, fun b hb hn => h3.block b hb fun e => hn e.symm⟩ (by
    rcases h4 with h | h
    · exact Or.inl h
    · exact Or.inr ⟨by omega, h5⟩) hks
  unfold Oper.wp execOp; simp only [hop, resolve, invoke, builtin, Sem.run_bind, Sem.run_pure, Result.andThen_ok, List.map_toArray, List.map_cons, List.map_nil, hs, hx, hr]; exact hfin
theorem step_appK {ops : Array Oper} {o : Oper} {a : Act} {w : World} {K : Act → World → Prop} {Q : Exit → Act → World → Prop} {E : Prop} (hgd : o.guard = none) (s x : Operand) (hop : o.op = Op.call { callee := Callee.builtin Builtin.append, args := #[s, x], argTypes := #[49, 49] })
    (B : Nat) (is : List (List UInt8)) (t : List UInt8) (ad : Option Addr) (cp q : Nat) (Tq : TypeId) (hs : a.eval s = .slice ad is.length cp) (hown : KS B w ad cp is) (hx : a.eval x = .slice (some ⟨q, 0, none⟩) 1 1) (hq : w.heap[q]? = some (.cells #[.string ⟨t.toArray⟩] Tq (0, 0))) (hB : B ≤ w.heap.size) (hl : is.length ≤ 100000)
    (h : ∀ g3 cp3 w3, KS B w3 (some ⟨g3, 0, none⟩) cp3 (is ++ [t]) → Kept (fun b => ob1 ad cp is ≠ some b) w w3 → (ob1 ad cp is = some g3 ∨ (w.heap.size ≤ g3 ∧ g3 < w3.heap.size)) → KS B w3 ad cp is → K (a.put o.dst (.slice (some ⟨g3, 0, none⟩) (is.length + 1) cp3)) w3) : if Region.wanted o (yielded ops a.tmps) = true then Oper.wp Tryz.prog o a w K Q else E := by
  (have hw : Region.wanted o (yielded ops a.tmps) = true := by simp [Region.wanted, hgd]); rw [if_pos hw]; exact appK_any s x hop B is t ad cp q Tq hs hown hx hq hB hl h
/-- Two rows, apart. -/
structure Rw2 (B : Nat) (w : World) (ada : Option Addr) (cpa : Nat) (la : List (List UInt8)) (adb : Option Addr) (cpb : Nat) (lb : List (List UInt8)) : Prop where
  ka : KS B w ada cpa la
  kb : KS B w adb cpb lb
  ne : ∀ b, ob1 ada cpa la = some b → ob1 adb cpb lb ≠ some b
theorem Rw2.nil {B : Nat} {w : World} : Rw2 B w none 0 [] none 0 [] := ⟨KS.nil, KS.nil, fun b h => by cases h⟩
/-- Blocks of neither. -/
abbrev Off2 (ada : Option Addr) (cpa : Nat) (la : List (List UInt8)) (adb : Option Addr) (cpb : Nat) (lb : List (List UInt8)) : Nat → Prop := fun b => ob1 ada cpa la ≠ some b ∧ ob1 adb cpb lb ≠ some b
theorem Rw2.up {B : Nat} {w w' : World} {ada adb : Option Addr} {cpa cpb : Nat} {la lb : List (List UInt8)} (h : Rw2 B w ada cpa la adb cpb lb) (hb : Below w.heap.size w w') : Rw2 B w' ada cpa la adb cpb lb := ⟨h.ka.up hb, h.kb.up hb, h.ne⟩
theorem Rw2.ds {B : Nat} {w : World} {ada adb : Option Addr} {cpa cpb : Nat} {la lb : List (List UInt8)} (h : Rw2 B w ada cpa la adb cpb lb) : DS w (.agg #[.slice ada la.length cpa, .slice adb lb.length cpb]) la lb := ⟨_, _, _, _, rfl, h.ka.list, h.kb.list⟩
/-- What an expression's walk leaves. -/
structure AEnd (B : Nat) (w : World) (ada : Option Addr) (cpa : Nat) (la : List (List UInt8)) (adb : Option Addr) (cpb : Nat) (lb : List (List UInt8)) (w' : World) : Prop where
  kept : Kept (Off2 ada cpa la adb cpb lb) w w'
  rw2 : Rw2 B w' ada cpa la adb cpb lb
theorem AEnd.refl {B : Nat} {w : World} {ada adb : Option Addr} {cpa cpb : Nat} {la lb : List (List UInt8)} (h : Rw2 B w ada cpa la adb cpb lb) : AEnd B w ada cpa la adb cpb lb w := ⟨Kept.refl _ _, h⟩
theorem AEnd.up {B : Nat} {w w' w2 : World} {ada adb : Option Addr} {cpa cpb : Nat} {la lb : List (List UInt8)} (h : AEnd B w ada cpa la adb cpb lb w') (hb : Below w'.heap.size w' w2) : AEnd B w ada cpa la adb cpb lb w2 := ⟨h.kept.trans (kept_of_below hb fun _ h _ => h), h.rw2.up hb⟩
theorem AEnd.trans {B : Nat} {w w' w2 : World} {ada adb : Option Addr} {cpa cpb : Nat} {la lb : List (List UInt8)} (h : AEnd B w ada cpa la adb cpb lb w') (h2 : AEnd B w' ada cpa la adb cpb lb w2) : AEnd B w ada cpa la adb cpb lb w2 := ⟨h.kept.trans h2.kept, h2.rw2⟩
theorem AEnd.below {B : Nat} {w w' : World} {ada adb : Option Addr} {cpa cpb : Nat} {la lb : List (List UInt8)} (hr : Rw2 B w ada cpa la adb cpb lb) (h : AEnd B w ada cpa la adb cpb lb w') (hB : B ≤ w.heap.size) : Below B w w' :=
  h.kept.below hB fun b hb => ⟨fun e => by have := (World.ownsRow.lt hr.ka b e).1; omega, fun e => by have := (World.ownsRow.lt hr.kb b e).1; omega⟩
/-- A block made since is kept. -/
theorem AEnd.blk {B : Nat} {w wa w' : World} {ada adb : Option Addr} {cpa cpb : Nat} {la lb : List (List UInt8)} {b : Nat} {o : Obj} (h : AEnd B wa ada cpa la adb cpb lb w') (hr : Rw2 B w ada cpa la adb cpb lb) (hb : w.heap.size ≤ b) (hq : wa.heap[b]? = some o) : w'.heap[b]? = some o :=
  (h.kept.block b (lt_of_block hq) ⟨fun e => by have := (World.ownsRow.lt hr.ka b e).2; omega, fun e => by have := (World.ownsRow.lt hr.kb b e).2; omega⟩).trans hq
structure GAp where
  q1 : Nat
  g1 : Nat
  c1 : Nat
  q2 : Nat
  g2 : Nat
  c2 : Nat
  ob : Nat
def GAp.zero : GAp := ⟨0, 0, 0, 0, 0, 0, 0⟩
/-- What is known while both rows grow. -/
structure StAp (B : Nat) (W : World) (ada : Option Addr) (cpa : Nat) (la : List (List UInt8)) (na : List UInt8) (adb : Option Addr) (cpb : Nat) (lb : List (List UInt8)) (nb : List UInt8) (z4 z5 z10 z11 z13 z14 : Bool) (y : GAp) (w : World) : Prop where
  e : AEnd B W ada cpa la adb cpb lb w
  m1 : z4 = true → z5 = false → w.heap[y.q1]? = some (.cells #[.string ⟨na.toArray⟩] 9 (0, 0)) ∧ W.heap.size ≤ y.q1
  n1 : z5 = true → KS B w (some ⟨y.g1, 0, none⟩) y.c1 (la ++ [na]) ∧ (ob1 ada cpa la = some y.g1 ∨ W.heap.size ≤ y.g1)
  m2 : z10 = true → z11 = false → w.heap[y.q2]? = some (.cells #[.string ⟨nb.toArray⟩] 9 (0, 0)) ∧ W.heap.size ≤ y.q2
  n2 : z11 = true → KS B w (some ⟨y.g2, 0, none⟩) y.c2 (lb ++ [nb]) ∧ (ob1 adb cpb lb = some y.g2 ∨ W.heap.size ≤ y.g2)
  ne : z5 = true → z11 = true → y.g1 ≠ y.g2
  ob : z13 = true → w.heap[y.ob]? = some (.cells (if z14 then #[.slice (some ⟨y.g1, 0, none⟩) (la.length + 1) y.c1, .slice (some ⟨y.g2, 0, none⟩) (lb.length + 1) y.c2] else #[.slice none 0 0, .slice none 0 0]) 93 (0, 0)) ∧ W.heap.size ≤ y.ob
section
variable {B : Nat} {W w w' : World} {ada adb : Option Addr} {cpa cpb : Nat} {la lb : List (List UInt8)} {na nb : List UInt8} {z4 z5 z10 z11 z13 z14 : Bool} {y : GAp}
theorem StAp.up (h : StAp B W ada cpa la na adb cpb lb nb z4 z5 z10 z11 z13 z14 y w) (hb : Below w.heap.size w w') : StAp B W ada cpa la na adb cpb lb nb z4 z5 z10 z11 z13 z14 y w' :=
  ⟨h.e.up hb, fun a b => ⟨below_keep hb (h.m1 a b).1, (h.m1 a b).2⟩, fun a => ⟨(h.n1 a).1.up hb, (h.n1 a).2⟩, fun a b => ⟨below_keep hb (h.m2 a b).1, (h.m2 a b).2⟩, fun a => ⟨(h.n2 a).1.up hb, (h.n2 a).2⟩, h.ne, fun a => ⟨below_keep hb (h.ob a).1, (h.ob a).2⟩⟩
theorem StAp.s4 (h : StAp B W ada cpa la na adb cpb lb nb z4 z5 z10 z11 z13 z14 y w) (hb : Below w.heap.size w w') {q : Nat} (hk : w'.heap[q]? = some (.cells #[.string ⟨na.toArray⟩] 9 (0, 0))) (hq : W.heap.size ≤ q) : StAp B W ada cpa la na adb cpb lb nb true z5 z10 z11 z13 z14 { y with q1 := q } w' :=
  have g := h.up hb
  ⟨g.e, fun _ _ => ⟨hk, hq⟩, g.n1, g.m2, g.n2, g.ne, g.ob⟩
theorem StAp.s10 (h : StAp B W ada cpa la na adb cpb lb nb z4 z5 z10 z11 z13 z14 y w) (hb : Below w.heap.size w w') {q : Nat} (hk : w'.heap[q]? = some (.cells #[.string ⟨nb.toArray⟩] 9 (0, 0))) (hq : W.heap.size ≤ q) : StAp B W ada cpa la na adb cpb lb nb z4 z5 true z11 z13 z14 { y with q2 := q } w' :=
  have g := h.up hb
  ⟨g.e, g.m1, g.n1, fun _ _ => ⟨hk, hq⟩, g.n2, g.ne, g.ob⟩
theorem StAp.s13 (h : StAp B W ada cpa la na adb cpb lb nb z4 z5 z10 z11 z13 z14 y w) (e14 : z14 = false) (hb : Below w.heap.size w w') {q : Nat} (hk : w'.heap[q]? = some (.cells #[.slice none 0 0, .slice none 0 0] 93 (0, 0))) (hq : W.heap.size ≤ q) : StAp B W ada cpa la na adb cpb lb nb z4 z5 z10 z11 true z14 { y with ob := q } w' :=
  have g := h.up hb
  ⟨g.e, g.m1, g.n1, g.m2, g.n2, g.ne, fun _ => ⟨by rw [e14]; exact hk, hq⟩⟩
theorem StAp.s5 (hR : Rw2 B W ada cpa la adb cpb lb) (h : StAp B W ada cpa la na adb cpb lb nb z4 z5 z10 z11 z13 z14 y w) (e14 : z14 = false) (hk : Kept (fun b => ob1 ada cpa la ≠ some b) w w') {g c : Nat} (hn : KS B w' (some ⟨g, 0, none⟩) c (la ++ [na])) (ho : KS B w' ada cpa la) (hg : ob1 ada cpa la = some g ∨ (w.heap.size ≤ g ∧ g < w'.heap.size)) : StAp B W ada cpa la na adb cpb lb nb z4 true z10 z11 z13 z14 { y with g1 := g, c1 := c } w' := by
  have hw := h.e.kept.size; (have far : ∀ b, W.heap.size ≤ b → ob1 ada cpa la ≠ some b := fun b hb e => by have := (World.ownsRow.lt hR.ka b e).2; omega); (have fb : ∀ b, ob1 adb cpb lb = some b → ob1 ada cpa la ≠ some b := fun b e e2 => hR.ne b e2 e); (have mv : ∀ {b : Nat} {o : Obj}, W.heap.size ≤ b → w.heap[b]? = some o → w'.heap[b]? = some o := fun hb hq => (hk.block _ (lt_of_block hq) (far _ hb)).trans hq); (have hn2 : ∀ a : z11 = true, ob1 ada cpa la ≠ some y.g2 := fun a => (h.n2 a).2.elim (fb _) (far _)); (refine ⟨⟨h.e.kept.trans (hk.mono fun b _ hb => hb.1), ho, h.e.rw2.kb.move fun b e => hk.block b (World.ownsRow.lt h.e.rw2.kb b e).2 (fb b e), hR.ne⟩, (fun _ e => by cases e), fun _ => ⟨hn, hg.imp id fun x => Nat.le_trans hw x.1⟩, fun a b => ⟨mv (h.m2 a b).2 (h.m2 a b).1, (h.m2 a b).2⟩, fun a => ⟨(h.n2 a).1.move fun b e => ?_, (h.n2 a).2⟩, fun _ a e => ?_, fun a => ⟨?_, (h.ob a).2⟩⟩)
  · have e2 : y.g2 = b := Option.some.inj e
    subst e2; exact hk.block _ (World.ownsRow.lt (h.n2 a).1 _ e).2 (hn2 a)
  · have e2 : g = y.g2 := e
    rcases hg with hg | hg
    · exact hn2 a (e2 ▸ hg)
    · have := (World.ownsRow.lt (h.n2 a).1 y.g2 rfl).2
      omega
  · have := mv (h.ob a).2 (h.ob a).1
    rw [e14] at this ⊢; exact this
theorem StAp.s11 (hR : Rw2 B W ada cpa la adb cpb lb) (h : StAp B W ada cpa la na adb cpb lb nb z4 z5 z10 z11 z13 z14 y w) (e14 : z14 = false) (hk : Kept (fun b => ob1 adb cpb lb ≠ some b) w w') {g c : Nat} (hn : KS B w' (some ⟨g, 0, none⟩) c (lb ++ [nb])) (ho : KS B w' adb cpb lb) (hg : ob1 adb cpb lb = some g ∨ (w.heap.size ≤ g ∧ g < w'.heap.size)) : StAp B W ada cpa la na adb cpb lb nb z4 z5 z10 true z13 z14 { y with g2 := g, c2 := c } w' := by
  have hw := h.e.kept.size; (have far : ∀ b, W.heap.size ≤ b → ob1 adb cpb lb ≠ some b := fun b hb e => by have := (World.ownsRow.lt hR.kb b e).2; omega); have fb : ∀ b, ob1 ada cpa la = some b → ob1 adb cpb lb ≠ some b := hR.ne; (have mv : ∀ {b : Nat} {o : Obj}, W.heap.size ≤ b → w.heap[b]? = some o → w'.heap[b]? = some o := fun hb hq => (hk.block _ (lt_of_block hq) (far _ hb)).trans hq); (have hn2 : ∀ a : z5 = true, ob1 adb cpb lb ≠ some y.g1 := fun a => (h.n1 a).2.elim (fb _) (far _)); (refine ⟨⟨h.e.kept.trans (hk.mono fun b _ hb => hb.2), h.e.rw2.ka.move fun b e => hk.block b (World.ownsRow.lt h.e.rw2.ka b e).2 (fb b e), ho, hR.ne⟩, fun a b => ⟨mv (h.m1 a b).2 (h.m1 a b).1, (h.m1 a b).2⟩, fun a => ⟨(h.n1 a).1.move fun b e => ?_, (h.n1 a).2⟩, (fun _ e => by cases e), fun _ => ⟨hn, hg.imp id fun x => Nat.le_trans hw x.1⟩, fun a _ e => ?_, fun a => ⟨?_, (h.ob a).2⟩⟩)
  · have e2 : y.g1 = b := Option.some.inj e
    subst e2; exact hk.block _ (World.ownsRow.lt (h.n1 a).1 _ e).2 (hn2 a)
  · have e2 : y.g1 = g := e
    rcases hg with hg | hg
    · exact hn2 a (e2 ▸ hg)
    · have := (World.ownsRow.lt (h.n1 a).1 y.g1 rfl).2
      omega
  · have := mv (h.ob a).2 (h.ob a).1
    rw [e14] at this ⊢; exact this
theorem StAp.s14 (h : StAp B W ada cpa la na adb cpb lb nb z4 z5 z10 z11 z13 z14 y w) (e4 : z5 = true) (e11 : z11 = true) (e13 : z13 = true) (e14 : z14 = false) : StAp B W ada cpa la na adb cpb lb nb z4 z5 z10 z11 z13 true y ((w.setCell ⟨y.ob, 0, none⟩ (.slice (some ⟨y.g1, 0, none⟩) (la.length + 1) y.c1)).setCell ⟨y.ob, 1, none⟩ (.slice (some ⟨y.g2, 0, none⟩) (lb.length + 1) y.c2)) := by
  obtain ⟨ho, hq⟩ := h.ob e13; rw [e14] at ho; (have far : ∀ b, b ≠ y.ob → ((w.setCell ⟨y.ob, 0, none⟩ (.slice (some ⟨y.g1, 0, none⟩) (la.length + 1) y.c1)).setCell ⟨y.ob, 1, none⟩ (.slice (some ⟨y.g2, 0, none⟩) (lb.length + 1) y.c2)).heap[b]? = w.heap[b]? := fun b hb => by rw [blk_otherS _ hb, blk_otherS _ hb])
  have ns : ∀ {l : List (List UInt8)} {ad : Option Addr} {c b : Nat}, KS B w ad c l → ob1 ad c l = some b → b ≠ y.ob := fun {l ad c b} hk e e2 => by
    obtain ⟨cs, e3⟩ := hk.typ e; rw [e2, ho] at e3; simp at e3
  (have mvs : ∀ {l : List (List UInt8)} {ad : Option Addr} {c : Nat}, KS B w ad c l → KS B ((w.setCell ⟨y.ob, 0, none⟩ (.slice (some ⟨y.g1, 0, none⟩) (la.length + 1) y.c1)).setCell ⟨y.ob, 1, none⟩ (.slice (some ⟨y.g2, 0, none⟩) (lb.length + 1) y.c2)) ad c l := fun hk => hk.move fun b e => far b (ns hk e)); (have hsz : ((w.setCell ⟨y.ob, 0, none⟩ (.slice (some ⟨y.g1, 0, none⟩) (la.length + 1) y.c1)).setCell ⟨y.ob, 1, none⟩ (.slice (some ⟨y.g2, 0, none⟩) (lb.length + 1) y.c2)).heap.size = w.heap.size := by simp [World.setCell]); (refine ⟨⟨⟨h.e.kept.os, h.e.kept.tape, h.e.kept.output, by rw [hsz]; exact h.e.kept.size, fun b hb hk => (far b (by omega)).trans (h.e.kept.block b hb hk)⟩, mvs h.e.rw2.ka, mvs h.e.rw2.kb, h.e.rw2.ne⟩, (fun _ e => by rw [e4] at e; cases e), fun a => ⟨mvs (h.n1 a).1, (h.n1 a).2⟩, (fun _ e => by rw [e11] at e; cases e), fun a => ⟨mvs (h.n2 a).1, (h.n2 a).2⟩, h.ne, fun _ => ⟨?_, hq⟩⟩); rw [blk_setS (blk_setS ho _) _]; rfl
/-- Both rows, grown. -/
theorem StAp.new (h : StAp B W ada cpa la na adb cpb lb nb z4 true z10 true z13 z14 y w) : Rw2 B w (some ⟨y.g1, 0, none⟩) y.c1 (la ++ [na]) (some ⟨y.g2, 0, none⟩) y.c2 (lb ++ [nb]) := ⟨(h.n1 rfl).1, (h.n2 rfl).1, fun b e e2 => h.ne rfl rfl (by
  have e3 : y.g1 = b := Option.some.inj e; have e4 : y.g2 = b := Option.some.inj e2
  rw [e3, e4])⟩
theorem StAp.offOb (h : StAp B W ada cpa la na adb cpb lb nb z4 true z10 true true z14 y w) : Off2 (some ⟨y.g1, 0, none⟩) y.c1 (la ++ [na]) (some ⟨y.g2, 0, none⟩) y.c2 (lb ++ [nb]) y.ob := by
  obtain ⟨ho, -⟩ := h.ob rfl; (refine ⟨fun e => ?_, fun e => ?_⟩)
  · obtain ⟨cs, e3⟩ := (h.n1 rfl).1.typ e
    rw [ho] at e3; simp at e3
  · obtain ⟨cs, e3⟩ := (h.n2 rfl).1.typ e
    rw [ho] at e3; simp at e3
end
/-- A row behind a walk with that row grown. -/
theorem ks_back {B : Nat} {w w' : World} {ad : Option Addr} {cp g c : Nat} {l : List (List UInt8)} {t : List UInt8} (h : KS B w ad cp l) (hn : KS B w (some ⟨g, 0, none⟩) c (l ++ [t])) (hn' : KS B w' (some ⟨g, 0, none⟩) c (l ++ [t])) (hk : ∀ b, ob1 ad cp l = some b → b ≠ g → w'.heap[b]? = w.heap[b]?) : KS B w' ad cp l := by
  rcases h.ne with ⟨rfl, rfl, rfl⟩ | ⟨g', rfl, -⟩
  · exact KS.nil
  · by_cases e : g' = g
    · subst e
      obtain rfl := ks_same h hn.pre; exact hn'.pre
    · exact h.move fun b e2 => by
        have e3 : g' = b := Option.some.inj e2; subst e3; exact hk _ rfl e
/-- Behind the walk with both rows grown. -/
theorem AEnd.grown {B : Nat} {W w w' : World} {ada adb : Option Addr} {cpa cpb : Nat} {la lb : List (List UInt8)} {na nb : List UInt8} {z4 z10 z13 z14 : Bool} {y : GAp} (hR : Rw2 B W ada cpa la adb cpb lb) (h : StAp B W ada cpa la na adb cpb lb nb z4 true z10 true z13 z14 y w)
    (h2 : AEnd B w (some ⟨y.g1, 0, none⟩) y.c1 (la ++ [na]) (some ⟨y.g2, 0, none⟩) y.c2 (lb ++ [nb]) w') : AEnd B W ada cpa la adb cpb lb w' := by
  have hw := h.e.kept.size; (have off : ∀ b, b ≠ y.g1 → b ≠ y.g2 → Off2 (some ⟨y.g1, 0, none⟩) y.c1 (la ++ [na]) (some ⟨y.g2, 0, none⟩) y.c2 (lb ++ [nb]) b := fun b h1 h2 => ⟨fun e => h1 (Option.some.inj e).symm, fun e => h2 (Option.some.inj e).symm⟩); (refine ⟨⟨h2.kept.os.trans h.e.kept.os, h2.kept.tape.trans h.e.kept.tape, h2.kept.output.trans h.e.kept.output, Nat.le_trans h.e.kept.size h2.kept.size, fun b hb hk => ?_⟩, ?_, ?_, hR.ne⟩)
  · rw [h2.kept.block b (by omega) (off b (fun e => ?_) (fun e => ?_)), h.e.kept.block b hb hk]
    · rcases (h.n1 rfl).2 with h3 | h3
      · exact hk.1 (e ▸ h3)
      · omega
    · rcases (h.n2 rfl).2 with h3 | h3
      · exact hk.2 (e ▸ h3)
      · omega
  · refine ks_back h.e.rw2.ka (h.n1 rfl).1 h2.rw2.ka fun b e hne => h2.kept.block b (World.ownsRow.lt h.e.rw2.ka b e).2 (off b hne fun e2 => ?_)
    rcases (h.n2 rfl).2 with h3 | h3
    · exact hR.ne b e (e2 ▸ h3)
    · have := (World.ownsRow.lt hR.ka b e).2
      omega
  · refine ks_back h.e.rw2.kb (h.n2 rfl).1 h2.rw2.kb fun b e hne => h2.kept.block b (World.ownsRow.lt h.e.rw2.kb b e).2 (off b (fun e2 => ?_) hne)
    rcases (h.n1 rfl).2 with h3 | h3
    · exact hR.ne b (e2 ▸ h3) e
    · have := (World.ownsRow.lt hR.kb b e).2
      omega
end Go.Proofs.YtheiikkeelbjnajGreat
