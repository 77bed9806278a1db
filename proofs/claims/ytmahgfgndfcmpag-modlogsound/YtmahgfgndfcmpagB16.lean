/- Texts of one proof, one behind the other: ML5. -/
import Derived.Test.YtmahgfgndfcmpagB12
import Derived.Test.YtmahgfgndfcmpagB08
import Derived.Test.YtmahgfgndfcmpagB10
/- Walks: what can be true at one world (modlog.isTrue, isWhole, worldOf). -/
namespace Go.Proofs.Ytmahgfgndfcmpag
open Go.RowKit Go.Sort

theorem bm_self {L h : Nat} (hh : h < 2 ^ L) : bm L h.testBit = h := (bm_eq (s := h) fun i => by
  by_cases hi : i < L
  · simp [hi]
  · have : h < 2 ^ i := Nat.lt_of_lt_of_le hh (Nat.pow_le_pow_right (by omega) (by omega))
    simp [hi, Nat.testBit_lt_two_pow this]).symm
theorem hasW {L h : Nat} (hL : L ≤ 40) (hh : h < 2 ^ L) (n : Nat) (hn : n < L) (w : World) : Calls Try.prog 62 #[.int .u64 (h : Nat), .int .i64 (n : Nat)] w fun e w' => e = .returned (.bool (h.testBit n)) ∧ w' = w := by
  have := set_has hL h.testBit n hn w
  rwa [bm_self hh] at this
theorem kids_lt {ps : List PartM} {fs : List Fm} (ht : TabOk ps fs) {n : Nat} (hn : n < ps.length) : pa ps n < ps.length ∧ pb ps n < ps.length := by
  obtain ⟨h1, -⟩ := ht.at' n _ (getD_part hn); unfold pa pb; generalize (ps.getD n noPart).kids = ks at *
  match ks, h1 with
  | [], _ => exact ⟨by simp; omega, by simp; omega⟩
  | [i], h1 => exact ⟨by have := h1 i (by simp); simp; omega, by simp; omega⟩
  | i :: j :: _, h1 => exact ⟨by have := h1 i (by simp); simp; omega, by have := h1 j (by simp); simp; omega⟩
theorem blkP {w : World} {b : Nat} {c0 c1 c2 c3 c4 : Value} {T : TypeId} (h : w.heap[b]? = some (.cells #[c0, c1, c2, c3, c4] T (0, 0))) : w.cell? ⟨b, 0, none⟩ = some c0 ∧ w.cell? ⟨b, 1, none⟩ = some c1 ∧ w.cell? ⟨b, 2, none⟩ = some c2 ∧ w.cell? ⟨b, 3, none⟩ = some c3 ∧ w.cell? ⟨b, 4, none⟩ = some c4 :=
  ⟨blk_cell h 0, blk_cell h 1, blk_cell h 2, blk_cell h 3, blk_cell h 4⟩
/-- A part as a value. -/
theorem part_val {ps : List PartM} {n : Nat} : ∃ (nm : ByteArray) (kn : Nat), (Value.agg ⟨partCells (ps.getD n noPart)⟩ : Value) = .agg #[.int .i64 (pk ps n), .string nm, .int .i64 (kn : Nat), .int .i64 (pa ps n : Nat), .int .i64 (pb ps n : Nat)] := ⟨_, _, rfl⟩
theorem partW (w : World) (T : Nat → Prop) (bt : Nat) (ps : List PartM) (ns : List Nat) (h : TabAt w T bt ps ns) (n : Nat) (hn : n < ps.length) (nm : ByteArray) (kn : Nat) (hv : (Value.agg ⟨partCells (ps.getD n noPart)⟩ : Value) = .agg #[.int .i64 (pk ps n), .string nm, .int .i64 (kn : Nat), .int .i64 (pa ps n : Nat), .int .i64 (pb ps n : Nat)]) : Calls Try.prog 130 #[.pointer (some ⟨bt, 0, none⟩), .int .i64 (n : Nat)] w fun e w' => e = .returned (.agg #[.int .i64 (pk ps n), .string nm, .int .i64 (kn : Nat), .int .i64 (pa ps n : Nat), .int .i64 (pb ps n : Nat)]) ∧ Below w.heap.size w w' := by
  have := ppart_any w T bt ps ns h n _ (getD_part hn); rw [hv] at this; exact this
theorem TabAt.below {w w' : World} {T : Nat → Prop} {bt : Nat} {ps : List PartM} {ns : List Nat} (h : TabAt w T bt ps ns) (hb : Below w.heap.size w w') : TabAt w' T bt ps ns := h.same fun b _ hl => hb.block b hl
theorem rowL10 (l : List Value) (h0 : l.length = 10) : ∃ x0 x1 x2 x3 x4 x5 x6 x7 x8 x9, l = [x0, x1, x2, x3, x4, x5, x6, x7, x8, x9] := by
  obtain ⟨x0, l1, e0, h1⟩ := cons_lenM h0; obtain ⟨x1, l2, e1, h2⟩ := cons_lenM h1; obtain ⟨x2, l3, e2, h3⟩ := cons_lenM h2; obtain ⟨x3, l4, e3, h4⟩ := cons_lenM h3; obtain ⟨x4, l5, e4, h5⟩ := cons_lenM h4; obtain ⟨x5, l6, e5, h6⟩ := cons_lenM h5; obtain ⟨x6, l7, e6, h7⟩ := cons_lenM h6; obtain ⟨x7, l8, e7, h8⟩ := cons_lenM h7; obtain ⟨x8, l9, e8, h9⟩ := cons_lenM h8; obtain ⟨x9, l10, e9, h10⟩ := cons_lenM h9; have e10 : l10 = [] := List.length_eq_zero_iff.1 h10; subst e10 e9 e8 e7 e6 e5 e4 e3 e2 e1 e0; exact ⟨x0, x1, x2, x3, x4, x5, x6, x7, x8, x9, rfl⟩
theorem rowL2 (l : List Value) (h0 : l.length = 2) : ∃ x0 x1, l = [x0, x1] := by
  obtain ⟨x0, l1, e0, h1⟩ := cons_lenM h0; obtain ⟨x1, l2, e1, h2⟩ := cons_lenM h1; have e2 : l2 = [] := List.length_eq_zero_iff.1 h2; subst e2 e1 e0; exact ⟨x0, x1, rfl⟩

set_option maxRecDepth 10000 in
set_option maxHeartbeats 4000000 in
theorem wTrue_any {ps : List PartM} {fs : List Fm} (ht : TabOk ps fs) (hL : ps.length ≤ 40) (T : Nat → Prop) (bt : Nat) (ns : List Nat) (h n : Nat) (hh : h < 2 ^ ps.length) (hn : n < ps.length) (w : World) (htab : TabAt w T bt ps ns) :
    Calls Try.prog 129 #[.int .i64 (n : Nat), .int .u64 (h : Nat), .pointer (some ⟨bt, 0, none⟩)] w fun e w' => e = .returned (.bool (trN ps h n)) ∧ Below w.heap.size w w' := by
  (have HH : Hid (∀ n, n < ps.length → ∀ w, Calls Try.prog 62 #[.int .u64 (h : Nat), .int .i64 (n : Nat)] w fun e w' => e = .returned (.bool (h.testBit n)) ∧ w' = w) := fun n hn w => hasW hL hh n hn w); obtain ⟨nm, kn, hv⟩ := part_val (ps := ps) (n := n); have HP : Hid (Calls Try.prog 130 #[.pointer (some ⟨bt, 0, none⟩), .int .i64 (n : Nat)] w _) := partW w T bt ps ns htab n hn nm kn hv; obtain ⟨hka, hkb⟩ := kids_lt ht hn; have HA : Hid (pa ps n < ps.length) := hka; have HB : Hid (pb ps n < ps.length) := hkb; have HN : Hid (n < ps.length) := hn; (have HT : Hid (trN ps h n = if pk ps n = 2 then true else if pk ps n = 3 then false else if pk ps n = 4 then !h.testBit (pa ps n) else if pk ps n = 5 then h.testBit (pa ps n) && h.testBit (pb ps n) else if pk ps n = 6 then h.testBit (pa ps n) || h.testBit (pb ps n) else if pk ps n = 7 then !h.testBit (pa ps n) || h.testBit (pb ps n) else h.testBit n) := rfl); clear hv htab hka hkb hn hh hL ht; generalize trN ps h n = res at *; generalize pk ps n = k at *; generalize pa ps n = ka at *; generalize pb ps n = kb at *; (have HFa : Hid (∀ w, Calls Try.prog 62 #[.int .u64 (h : Nat), .int .i64 (ka : Nat)] w _) := fun w => HH.out ka HA.out w); (have HFb : Hid (∀ w, Calls Try.prog 62 #[.int .u64 (h : Nat), .int .i64 (kb : Nat)] w _) := fun w => HH.out kb HB.out w); (have HFn : Hid (∀ w, Calls Try.prog 62 #[.int .u64 (h : Nat), .int .i64 (n : Nat)] w _) := fun w => HH.out n HN.out w); clear HH HA HB HN; generalize h.testBit ka = ba at *; generalize h.testBit kb = bb at *; generalize h.testBit n = bn at *
  go_enter Try.func129, Try.ntmps129
  go_wp2_with fail; refine HP.out.mono ?_; rintro _ w1 ⟨rfl, hb1⟩; obtain ⟨X, hX⟩ : ∃ X, X = w1.alloc (.cells #[.int .i64 k, .string nm, .int .i64 (kn : Nat), .int .i64 (ka : Nat), .int .i64 (kb : Nat)] 135 (0, 0)) := ⟨_, rfl⟩; (have HBX : Hid (Below w.heap.size w X) := by rw [hX]; exact below_more hb1 _); (have HXp : Hid (X.heap[w1.heap.size]? = some (.cells #[.int .i64 k, .string nm, .int .i64 (kn : Nat), .int .i64 (ka : Nat), .int .i64 (kb : Nat)] 135 (0, 0))) := by rw [hX]; exact blk_new _ _); clear hb1 HP; go_wp2_with fail; rw [← hX]; clear hX; (refine wp_region_free (by kernel_rfl) [fun v _ => v = (.int .u64 (h : Nat)), fun v _ => v = (.pointer (some ⟨w1.heap.size, 3, none⟩)), fun v _ => v = (.pointer (some ⟨w1.heap.size, 3, none⟩)), fun v _ => v = (.int .i64 (ka : Nat)), fun v _ => v = (.bool ba), fun v _ => v = (.int .u64 (h : Nat)), fun v _ => v = (.pointer (some ⟨w1.heap.size, 3, none⟩)), fun v _ => v = (.pointer (some ⟨w1.heap.size, 4, none⟩)), fun v _ => v = (.int .i64 (kb : Nat)), fun v _ => v = (.bool bb), fun v _ => v = (.bool ba), fun v _ => v = (.bool bb)] ?_ (by kernel_rfl) (by kernel_rfl) 55 rfl (by kernel_rfl) ?_ ?_)
  · intro p hp
    simp only [List.mem_cons, List.not_mem_nil, or_false] at hp
    rcases hp with rfl | rfl | rfl | rfl | rfl | rfl | rfl | rfl | rfl | rfl | rfl | rfl
    · exact fun _ _ _ h _ => h
    · exact fun _ _ _ h _ => h
    · exact fun _ _ _ h _ => h
    · exact fun _ _ _ h _ => h
    · exact fun _ _ _ h _ => h
    · exact fun _ _ _ h _ => h
    · exact fun _ _ _ h _ => h
    · exact fun _ _ _ h _ => h
    · exact fun _ _ _ h _ => h
    · exact fun _ _ _ h _ => h
    · exact fun _ _ _ h _ => h
    · exact fun _ _ _ h _ => h
  · refine ⟨?_, ?_, ?_, ?_, ?_, ?_, ?_, ?_, ?_, ?_, ?_, ?_, trivial⟩
    · intro a wx hB hold hdep K hK
      have t1 : a.tmps[1]? = some (.int .u64 (h : Nat)) := hold.2.2 1 rfl; clear hold hdep; go_simp; exact hK.out _ _ rfl (Below.refl _ _)
    · intro a wx hB hold hdep K hK
      have t7 : a.tmps[7]? = some (.pointer (some ⟨w1.heap.size, 0, none⟩)) := hold.2.2 7 rfl; clear hold hdep; go_simp; exact hK.out _ _ rfl (Below.refl _ _)
    · intro a wx hB hold hdep K hK
      obtain ⟨v14, t14, p14⟩ := hdep 1 rfl _ 14 rfl rfl; have e14 : v14 = (.pointer (some ⟨w1.heap.size, 3, none⟩)) := p14; subst e14; clear hold hdep; go_simp; exact hK.out _ _ rfl (Below.refl _ _)
    · intro a wx hB hold hdep K hK
      obtain ⟨v15, t15, p15⟩ := hdep 2 rfl _ 15 rfl rfl; have e15 : v15 = (.pointer (some ⟨w1.heap.size, 3, none⟩)) := p15; subst e15; obtain ⟨q0, q1, q2, q3, q4⟩ := blkP (below_keep hB HXp.out); clear hold hdep; go_simp; exact hK.out _ _ rfl (Below.refl _ _)
    · intro a wx hB hold hdep K hK
      obtain ⟨v13, t13, p13⟩ := hdep 0 rfl _ 13 rfl rfl; have e13 : v13 = (.int .u64 (h : Nat)) := p13; subst e13; obtain ⟨v16, t16, p16⟩ := hdep 3 rfl _ 16 rfl rfl; have e16 : v16 = (.int .i64 (ka : Nat)) := p16; subst e16; have HW : Hid (Calls Try.prog 62 #[.int .u64 (h : Nat), .int .i64 (ka : Nat)] wx _) := HFa.out _; clear hold hdep; go_simp; refine HW.out.mono ?_; rintro _ w9 ⟨rfl, rfl⟩; go_simp; exact hK.out _ _ rfl (Below.refl _ _)
    · intro a wx hB hold hdep K hK
      have t1 : a.tmps[1]? = some (.int .u64 (h : Nat)) := hold.2.2 1 rfl; clear hold hdep; go_simp; exact hK.out _ _ rfl (Below.refl _ _)
    · intro a wx hB hold hdep K hK
      have t7 : a.tmps[7]? = some (.pointer (some ⟨w1.heap.size, 0, none⟩)) := hold.2.2 7 rfl; clear hold hdep; go_simp; exact hK.out _ _ rfl (Below.refl _ _)
    · intro a wx hB hold hdep K hK
      obtain ⟨v19, t19, p19⟩ := hdep 6 rfl _ 19 rfl rfl; have e19 : v19 = (.pointer (some ⟨w1.heap.size, 3, none⟩)) := p19; subst e19; clear hold hdep; go_simp; exact hK.out _ _ rfl (Below.refl _ _)
    · intro a wx hB hold hdep K hK
      obtain ⟨v20, t20, p20⟩ := hdep 7 rfl _ 20 rfl rfl; have e20 : v20 = (.pointer (some ⟨w1.heap.size, 4, none⟩)) := p20; subst e20; obtain ⟨q0, q1, q2, q3, q4⟩ := blkP (below_keep hB HXp.out); clear hold hdep; go_simp; exact hK.out _ _ rfl (Below.refl _ _)
    · intro a wx hB hold hdep K hK
      obtain ⟨v18, t18, p18⟩ := hdep 5 rfl _ 18 rfl rfl; have e18 : v18 = (.int .u64 (h : Nat)) := p18; subst e18; obtain ⟨v21, t21, p21⟩ := hdep 8 rfl _ 21 rfl rfl; have e21 : v21 = (.int .i64 (kb : Nat)) := p21; subst e21; have HW : Hid (Calls Try.prog 62 #[.int .u64 (h : Nat), .int .i64 (kb : Nat)] wx _) := HFb.out _; clear hold hdep; go_simp; refine HW.out.mono ?_; rintro _ w9 ⟨rfl, rfl⟩; go_simp; exact hK.out _ _ rfl (Below.refl _ _)
    · intro a wx hB hold hdep K hK
      obtain ⟨v17, t17, p17⟩ := hdep 4 rfl _ 17 rfl rfl; have e17 : v17 = (.bool ba) := p17; subst e17; clear hold hdep; go_simp; exact hK.out _ _ rfl (Below.refl _ _)
    · intro a wx hB hold hdep K hK
      obtain ⟨v22, t22, p22⟩ := hdep 9 rfl _ 22 rfl rfl; have e22 : v22 = (.bool bb) := p22; subst e22; clear hold hdep; go_simp; exact hK.out _ _ rfl (Below.refl _ _)
  · intro a wx hB hold hgot
    obtain ⟨vA, tvA, pvA⟩ := hgot 10 _ 8 rfl rfl; have evA : vA = (.bool ba) := pvA; subst evA; obtain ⟨vB, tvB, pvB⟩ := hgot 11 _ 9 rfl rfl; have evB : vB = (.bool bb) := pvB; subst evB; have HBx : Hid (Below X.heap.size X wx) := hB; obtain ⟨tm, df⟩ := a; (obtain ⟨ys, zs, hys, hzs, htm, rfl⟩ := frame_two 8 2 3 10 10 13 23 rfl rfl rfl (by kernel_rfl) (Nat.le_of_ble_eq_true rfl) hold); obtain ⟨y8, y9, rfl⟩ := rowL2 ys hys; obtain ⟨y13, y14, y15, y16, y17, y18, y19, y20, y21, y22, rfl⟩ := rowL10 zs hzs; simp only [List.take_succ_cons, List.take_zero, List.drop_succ_cons, List.drop_zero, List.cons_append, List.nil_append] at htm; subst htm; obtain rfl : y8 = _ := someInjM tvA; obtain rfl : y9 = _ := someInjM tvB; clear hys hzs hold hgot tvA tvB hB; obtain ⟨q0, q1, q2, q3, q4⟩ := blkP (below_keep HBx.out HXp.out); have HE : Hid (Below w.heap.size w wx) := below_join HBX.out HBx.out; clear HFa HFb; by_cases k2 : k = 2
    · subst k2
      go_wp2_with fail; go_ret; (exact ⟨by rw [HT.out]; rfl, HE.out⟩)
    by_cases k3 : k = 3
    · subst k3
      go_wp2_with fail; go_ret; (exact ⟨by rw [HT.out]; rfl, HE.out⟩)
    by_cases k4 : k = 4
    · subst k4
      go_wp2_with fail; go_ret; (exact ⟨by rw [HT.out]; rfl, HE.out⟩)
    by_cases k5 : k = 5
    · subst k5
      cases ba
      · go_wp2_with fail
        go_ret; (exact ⟨by rw [HT.out]; rfl, HE.out⟩)
      · go_wp2_with fail
        go_ret; (exact ⟨by rw [HT.out]; rfl, HE.out⟩)
    by_cases k6 : k = 6
    · subst k6
      cases ba
      · go_wp2_with fail
        go_ret; (exact ⟨by rw [HT.out]; rfl, HE.out⟩)
      · go_wp2_with fail
        go_ret; (exact ⟨by rw [HT.out]; rfl, HE.out⟩)
    by_cases k7 : k = 7
    · subst k7
      cases ba
      · go_wp2_with fail
        go_ret; (exact ⟨by rw [HT.out]; rfl, HE.out⟩)
      · go_wp2_with fail
        go_ret; (exact ⟨by rw [HT.out]; rfl, HE.out⟩)
    (have n2 : (k == 2) = false := by simpa using k2); (have n3 : (k == 3) = false := by simpa using k3); (have n4 : (k == 4) = false := by simpa using k4); (have n5 : (k == 5) = false := by simpa using k5); (have n6 : (k == 6) = false := by simpa using k6); (have n7 : (k == 7) = false := by simpa using k7); (have hres : res = bn := by rw [HT.out, if_neg k2, if_neg k3, if_neg k4, if_neg k5, if_neg k6, if_neg k7]); subst hres; clear k2 k3 k4 k5 k6 k7 HT; go_wp2_with fail; refine (HFn.out _).mono ?_; rintro _ _ ⟨rfl, rfl⟩; go_wp2_with fail; go_ret; exact ⟨rfl, HE.out⟩
set_option maxRecDepth 10000 in
set_option maxHeartbeats 4000000 in
theorem wWhole_any {ps : List PartM} {fs : List Fm} (ht : TabOk ps fs) (hL : ps.length ≤ 40) (T : Nat → Prop) (bt : Nat) (ns : List Nat) (h : Nat) (hh : h < 2 ^ ps.length) (w : World) (htab : TabAt w T bt ps ns) :
    Calls Try.prog 108 #[.int .u64 (h : Nat), .pointer (some ⟨bt, 0, none⟩)] w fun e w' => e = .returned (.bool (wholeB ps h)) ∧ Below w.heap.size w w' := by
  (have HH : Hid (∀ n, n < ps.length → ∀ w, Calls Try.prog 62 #[.int .u64 (h : Nat), .int .i64 (n : Nat)] w fun e w' => e = .returned (.bool (h.testBit n)) ∧ w' = w) := fun n hn w => hasW hL hh n hn w); (have HI : Hid (∀ n, n < ps.length → ∀ w', Below w.heap.size w w' → Calls Try.prog 129 #[.int .i64 (n : Nat), .int .u64 (h : Nat), .pointer (some ⟨bt, 0, none⟩)] w' _) := fun n hn w' hb => wTrue_any ht hL T bt ns h n hh hn w' (htab.below hb)); have HLe : Hid (Calls Try.prog 52 #[.pointer (some ⟨bt, 0, none⟩)] w _) := plen_any w T bt ps ns htab; have HR : Hid (wholeB ps h = true ↔ ∀ n, n < ps.length → h.testBit n = trN ps h n) := whole_iff; obtain ⟨L, hLe⟩ : ∃ L, L = ps.length := ⟨_, rfl⟩; (have hLI : (L : Int) ≤ 40 := by omega); rw [← hLe] at HH HI HLe HR; clear hLe hL hh htab ht; generalize wholeB ps h = res at *
  go_enter Try.func108, Try.ntmps108
  go_wp2_with fail; refine HLe.out.mono ?_; rintro _ w9 ⟨rfl, e9⟩
  replace e9 := e9.symm
  subst e9; go_wp2_with fail
  go_loopg [8] L (fun gg c wr => ∃ i, i ≤ L ∧ gg = L - i ∧ c = .int .i64 (i : Nat) ∧ Hid (∀ n, n < i → h.testBit n = trN ps h n) ∧ Hid (Below w.heap.size w wr))
  case atStart => exact ⟨0, by omega, by omega, rfl, fun n hn => absurd hn (Nat.not_lt_zero _), Below.refl _ _⟩
  case round =>
    obtain ⟨i, hi, hg, rfl, HQ, HB⟩ := hrel; have HGk : Hid (gk = L - i) := hg; clear hg; by_cases hlt : i < L
    · have hltI : (i : Int) < (L : Int) := by omega
      have HIl : Hid (i < L) := hlt; (have H1 : Hid (∀ w, Calls Try.prog 62 #[.int .u64 (h : Nat), .int .i64 (i : Nat)] w _) := fun w => HH.out i hlt w); (have H2 : Hid (∀ w', Below w.heap.size w w' → Calls Try.prog 129 #[.int .i64 (i : Nat), .int .u64 (h : Nat), .pointer (some ⟨bt, 0, none⟩)] w' _) := fun w' hb => HI.out i hlt w' hb); obtain ⟨x, hx⟩ : ∃ x, x = h.testBit i := ⟨_, rfl⟩; obtain ⟨y, hy⟩ : ∃ y, y = trN ps h i := ⟨_, rfl⟩; rw [← hx] at H1; rw [← hy] at H2; have HX : Hid (x = h.testBit i ∧ y = trN ps h i) := ⟨hx, hy⟩; clear hlt hi hx hy; go_wp2_with fail; refine (H1.out _).mono ?_; rintro _ w9 ⟨rfl, e9⟩
      replace e9 := e9.symm
      subst e9; go_wp2_with fail; refine (H2.out _ HB.out).mono ?_; rintro _ w2 ⟨rfl, hb2⟩; have HB2 : Hid (Below w.heap.size w w2) := below_join HB.out hb2; clear hb2; by_cases hxy : x = y
      · subst hxy
        go_wp2_with fail
        go_roundg (L - (i + 1))
        case measure => have := HGk.out; have := HIl.out; omega
        case rel =>
          (refine ⟨i + 1, HIl.out, rfl, by go_num, fun n hn => ?_, HB2⟩); by_cases e : n = i
          · rw [e, ← HX.out.1, ← HX.out.2]
          · exact HQ.out n (by omega)
      · have hne : (x == y) = false := by simpa using hxy
        go_wp2_with fail; go_ret; refine ⟨?_, HB2.out⟩
        have : res = false := by
          cases hr : res with
          | false => rfl
          | true => exact absurd (by rw [HX.out.1, HX.out.2]; exact HR.out.1 hr i HIl.out) hxy
        rw [this]; rfl
    · have hii : i = L := by omega
      subst hii; (have hge : ¬ (i : Int) < (i : Int) := by omega); clear hlt hi; go_wp2_with fail; go_ret; refine ⟨?_, HB.out⟩; rw [HR.out.2 HQ.out]; rfl
end Go.Proofs.Ytmahgfgndfcmpag
