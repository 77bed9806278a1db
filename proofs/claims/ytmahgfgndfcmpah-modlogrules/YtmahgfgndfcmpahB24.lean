/- Texts of one proof, one behind the other: ML5, ML6. -/
import Derived.Test.YtmahgfgndfcmpahB21
import Derived.Test.YtmahgfgndfcmpahB18
import Derived.Test.YtmahgfgndfcmpahB17
import Derived.RegionTactic
import Derived.Test.YtmahgfgndfcmpahB06
import Derived.Test.YtmahgfgndfcmpahB10
import Derived.Laws.BitsLemmas
import Derived.Deep.RegionHeld3
import Derived.Test.YtmahgfgndfcmpahB15
import Derived.Test.YtmahgfgndfcmpahB08
import Derived.Test.YtmahgfgndfcmpahB13
import Derived.Test.YtmahgfgndfcmpahB14
import Derived.Sort.Walk0
import Derived.Deep.AppendSrc
import Derived.Test.YtmahgfgndfcmpahB12
/- Walks: what can be true at one world (modlog.isTrue, isWhole, worldOf). -/
namespace Go.Proofs.Ytmahgfgndfcmpah
open Go.RowKit Go.Sort

theorem bm_self {L h : Nat} (hh : h < 2 ^ L) : bm L h.testBit = h := (bm_eq (s := h) fun i => by
  by_cases hi : i < L
  · simp [hi]
  · have : h < 2 ^ i := Nat.lt_of_lt_of_le hh (Nat.pow_le_pow_right (by omega) (by omega))
    simp [hi, Nat.testBit_lt_two_pow this]).symm
theorem hasW {L h : Nat} (hL : L ≤ 40) (hh : h < 2 ^ L) (n : Nat) (hn : n < L) (w : World) : Calls Try.prog 40 #[.int .u64 (h : Nat), .int .i64 (n : Nat)] w fun e w' => e = .returned (.bool (h.testBit n)) ∧ w' = w := by
  have := set_has hL h.testBit n hn w
  rwa [bm_self hh] at this
theorem kids_lt {ps : List PartM} {fs : List Fm} (ht : TabOk ps fs) {n : Nat} (hn : n < ps.length) : pa ps n < ps.length ∧ pb ps n < ps.length := by
  obtain ⟨h1, -⟩ := ht.at' n _ (getD_part hn); unfold pa pb; generalize (ps.getD n noPart).kids = ks at *
  match ks, h1 with
  | [], _ => exact ⟨by simp; omega, by simp; omega⟩
  | [i], h1 => exact ⟨by have := h1 i (by simp); simp; omega, by simp; omega⟩
  | i :: j :: _, h1 => exact ⟨by have := h1 i (by simp); simp; omega, by have := h1 j (by simp); simp; omega⟩
theorem blkP {w : World} {b : Nat} {c0 c1 c2 c3 c4 : Value} {T : TypeId} (h : w.heap[b]? = some (.cells #[c0, c1, c2, c3, c4] T (0, 0))) : w.cell? ⟨b, 0, none⟩ = some c0 ∧ w.cell? ⟨b, 1, none⟩ = some c1 ∧ w.cell? ⟨b, 2, none⟩ = some c2 ∧ w.cell? ⟨b, 3, none⟩ = some c3 ∧ w.cell? ⟨b, 4, none⟩ = some c4 :=
  ⟨blk_cell h 0, blk_cell h 1, blk_cell h 2, blk_cell h 3, blk_cell h 4⟩
/-- A part as a value. -/
theorem part_val {ps : List PartM} {n : Nat} : ∃ (nm : ByteArray) (kn : Nat), (Value.agg ⟨partCells (ps.getD n noPart)⟩ : Value) = .agg #[.int .i64 (pk ps n), .string nm, .int .i64 (kn : Nat), .int .i64 (pa ps n : Nat), .int .i64 (pb ps n : Nat)] := ⟨_, _, rfl⟩
theorem partW (w : World) (T : Nat → Prop) (bt : Nat) (ps : List PartM) (ns : List Nat) (h : TabAt w T bt ps ns) (n : Nat) (hn : n < ps.length) (nm : ByteArray) (kn : Nat) (hv : (Value.agg ⟨partCells (ps.getD n noPart)⟩ : Value) = .agg #[.int .i64 (pk ps n), .string nm, .int .i64 (kn : Nat), .int .i64 (pa ps n : Nat), .int .i64 (pb ps n : Nat)]) : Calls Try.prog 61 #[.pointer (some ⟨bt, 0, none⟩), .int .i64 (n : Nat)] w fun e w' => e = .returned (.agg #[.int .i64 (pk ps n), .string nm, .int .i64 (kn : Nat), .int .i64 (pa ps n : Nat), .int .i64 (pb ps n : Nat)]) ∧ Below w.heap.size w w' := by
  have := ppart_any w T bt ps ns h n _ (getD_part hn); rw [hv] at this; exact this
theorem TabAt.below {w w' : World} {T : Nat → Prop} {bt : Nat} {ps : List PartM} {ns : List Nat} (h : TabAt w T bt ps ns) (hb : Below w.heap.size w w') : TabAt w' T bt ps ns := h.same fun b _ hl => hb.block b hl
theorem rowL10 (l : List Value) (h0 : l.length = 10) : ∃ x0 x1 x2 x3 x4 x5 x6 x7 x8 x9, l = [x0, x1, x2, x3, x4, x5, x6, x7, x8, x9] := by
  obtain ⟨x0, l1, e0, h1⟩ := cons_lenM h0; obtain ⟨x1, l2, e1, h2⟩ := cons_lenM h1; obtain ⟨x2, l3, e2, h3⟩ := cons_lenM h2; obtain ⟨x3, l4, e3, h4⟩ := cons_lenM h3; obtain ⟨x4, l5, e4, h5⟩ := cons_lenM h4; obtain ⟨x5, l6, e5, h6⟩ := cons_lenM h5; obtain ⟨x6, l7, e6, h7⟩ := cons_lenM h6; obtain ⟨x7, l8, e7, h8⟩ := cons_lenM h7; obtain ⟨x8, l9, e8, h9⟩ := cons_lenM h8; obtain ⟨x9, l10, e9, h10⟩ := cons_lenM h9; have e10 : l10 = [] := List.length_eq_zero_iff.1 h10; subst e10 e9 e8 e7 e6 e5 e4 e3 e2 e1 e0; exact ⟨x0, x1, x2, x3, x4, x5, x6, x7, x8, x9, rfl⟩
theorem rowL2 (l : List Value) (h0 : l.length = 2) : ∃ x0 x1, l = [x0, x1] := by
  obtain ⟨x0, l1, e0, h1⟩ := cons_lenM h0; obtain ⟨x1, l2, e1, h2⟩ := cons_lenM h1; have e2 : l2 = [] := List.length_eq_zero_iff.1 h2; subst e2 e1 e0; exact ⟨x0, x1, rfl⟩

set_option maxRecDepth 10000 in
set_option maxHeartbeats 4000000 in
theorem wTrue_any {ps : List PartM} {fs : List Fm} (ht : TabOk ps fs) (hL : ps.length ≤ 40) (T : Nat → Prop) (bt : Nat) (ns : List Nat) (h n : Nat) (hh : h < 2 ^ ps.length) (hn : n < ps.length) (w : World) (htab : TabAt w T bt ps ns) :
    Calls Try.prog 60 #[.int .i64 (n : Nat), .int .u64 (h : Nat), .pointer (some ⟨bt, 0, none⟩)] w fun e w' => e = .returned (.bool (trN ps h n)) ∧ Below w.heap.size w w' := by
  (have HH : Hid (∀ n, n < ps.length → ∀ w, Calls Try.prog 40 #[.int .u64 (h : Nat), .int .i64 (n : Nat)] w fun e w' => e = .returned (.bool (h.testBit n)) ∧ w' = w) := fun n hn w => hasW hL hh n hn w); obtain ⟨nm, kn, hv⟩ := part_val (ps := ps) (n := n); have HP : Hid (Calls Try.prog 61 #[.pointer (some ⟨bt, 0, none⟩), .int .i64 (n : Nat)] w _) := partW w T bt ps ns htab n hn nm kn hv; obtain ⟨hka, hkb⟩ := kids_lt ht hn; have HA : Hid (pa ps n < ps.length) := hka; have HB : Hid (pb ps n < ps.length) := hkb; have HN : Hid (n < ps.length) := hn; (have HT : Hid (trN ps h n = if pk ps n = 2 then true else if pk ps n = 3 then false else if pk ps n = 4 then !h.testBit (pa ps n) else if pk ps n = 5 then h.testBit (pa ps n) && h.testBit (pb ps n) else if pk ps n = 6 then h.testBit (pa ps n) || h.testBit (pb ps n) else if pk ps n = 7 then !h.testBit (pa ps n) || h.testBit (pb ps n) else h.testBit n) := rfl); clear hv htab hka hkb hn hh hL ht; generalize trN ps h n = res at *; generalize pk ps n = k at *; generalize pa ps n = ka at *; generalize pb ps n = kb at *; (have HFa : Hid (∀ w, Calls Try.prog 40 #[.int .u64 (h : Nat), .int .i64 (ka : Nat)] w _) := fun w => HH.out ka HA.out w); (have HFb : Hid (∀ w, Calls Try.prog 40 #[.int .u64 (h : Nat), .int .i64 (kb : Nat)] w _) := fun w => HH.out kb HB.out w); (have HFn : Hid (∀ w, Calls Try.prog 40 #[.int .u64 (h : Nat), .int .i64 (n : Nat)] w _) := fun w => HH.out n HN.out w); clear HH HA HB HN; generalize h.testBit ka = ba at *; generalize h.testBit kb = bb at *; generalize h.testBit n = bn at *
  go_enter Try.func60, Try.ntmps60
  go_wp2_with fail; refine HP.out.mono ?_; rintro _ w1 ⟨rfl, hb1⟩; obtain ⟨X, hX⟩ : ∃ X, X = w1.alloc (.cells #[.int .i64 k, .string nm, .int .i64 (kn : Nat), .int .i64 (ka : Nat), .int .i64 (kb : Nat)] 78 (0, 0)) := ⟨_, rfl⟩; (have HBX : Hid (Below w.heap.size w X) := by rw [hX]; exact below_more hb1 _); (have HXp : Hid (X.heap[w1.heap.size]? = some (.cells #[.int .i64 k, .string nm, .int .i64 (kn : Nat), .int .i64 (ka : Nat), .int .i64 (kb : Nat)] 78 (0, 0))) := by rw [hX]; exact blk_new _ _); clear hb1 HP; go_wp2_with fail; rw [← hX]; clear hX; (refine wp_region_free (by kernel_rfl) [fun v _ => v = (.int .u64 (h : Nat)), fun v _ => v = (.pointer (some ⟨w1.heap.size, 3, none⟩)), fun v _ => v = (.pointer (some ⟨w1.heap.size, 3, none⟩)), fun v _ => v = (.int .i64 (ka : Nat)), fun v _ => v = (.bool ba), fun v _ => v = (.int .u64 (h : Nat)), fun v _ => v = (.pointer (some ⟨w1.heap.size, 3, none⟩)), fun v _ => v = (.pointer (some ⟨w1.heap.size, 4, none⟩)), fun v _ => v = (.int .i64 (kb : Nat)), fun v _ => v = (.bool bb), fun v _ => v = (.bool ba), fun v _ => v = (.bool bb)] ?_ (by kernel_rfl) (by kernel_rfl) 55 rfl (by kernel_rfl) ?_ ?_)
  · intro p hp
    simp only [List.mem_cons, List.not_mem_nil, or_false] at hp
    rcases hp with rfl | rfl | rfl | rfl | rfl | rfl | rfl | rfl | rfl | rfl | rfl | rfl
    · exact fun _ _ _ h _ => h
    · exact fun _ _ _ h _ => h
    · exact fun _ _ _ h _ => h
    · exact fun _ _ _ h _ => h
    · exact fun _ _ _ h _ => h
    · exact fun _ _ _ h _ => h
    · exact fun _ _ _ h _ => h
    · exact fun _ _ _ h _ => h
    · exact fun _ _ _ h _ => h
    · exact fun _ _ _ h _ => h
    · exact fun _ _ _ h _ => h
    · exact fun _ _ _ h _ => h
  · refine ⟨?_, ?_, ?_, ?_, ?_, ?_, ?_, ?_, ?_, ?_, ?_, ?_, trivial⟩
    · intro a wx hB hold hdep K hK
      have t1 : a.tmps[1]? = some (.int .u64 (h : Nat)) := hold.2.2 1 rfl; clear hold hdep; go_simp; exact hK.out _ _ rfl (Below.refl _ _)
    · intro a wx hB hold hdep K hK
      have t7 : a.tmps[7]? = some (.pointer (some ⟨w1.heap.size, 0, none⟩)) := hold.2.2 7 rfl; clear hold hdep; go_simp; exact hK.out _ _ rfl (Below.refl _ _)
    · intro a wx hB hold hdep K hK
      obtain ⟨v14, t14, p14⟩ := hdep 1 rfl _ 14 rfl rfl; have e14 : v14 = (.pointer (some ⟨w1.heap.size, 3, none⟩)) := p14; subst e14; clear hold hdep; go_simp; exact hK.out _ _ rfl (Below.refl _ _)
    · intro a wx hB hold hdep K hK
      obtain ⟨v15, t15, p15⟩ := hdep 2 rfl _ 15 rfl rfl; have e15 : v15 = (.pointer (some ⟨w1.heap.size, 3, none⟩)) := p15; subst e15; obtain ⟨q0, q1, q2, q3, q4⟩ := blkP (below_keep hB HXp.out); clear hold hdep; go_simp; exact hK.out _ _ rfl (Below.refl _ _)
    · intro a wx hB hold hdep K hK
      obtain ⟨v13, t13, p13⟩ := hdep 0 rfl _ 13 rfl rfl; have e13 : v13 = (.int .u64 (h : Nat)) := p13; subst e13; obtain ⟨v16, t16, p16⟩ := hdep 3 rfl _ 16 rfl rfl; have e16 : v16 = (.int .i64 (ka : Nat)) := p16; subst e16; have HW : Hid (Calls Try.prog 40 #[.int .u64 (h : Nat), .int .i64 (ka : Nat)] wx _) := HFa.out _; clear hold hdep; go_simp; refine HW.out.mono ?_; rintro _ w9 ⟨rfl, rfl⟩; go_simp; exact hK.out _ _ rfl (Below.refl _ _)
    · intro a wx hB hold hdep K hK
      have t1 : a.tmps[1]? = some (.int .u64 (h : Nat)) := hold.2.2 1 rfl; clear hold hdep; go_simp; exact hK.out _ _ rfl (Below.refl _ _)
    · intro a wx hB hold hdep K hK
      have t7 : a.tmps[7]? = some (.pointer (some ⟨w1.heap.size, 0, none⟩)) := hold.2.2 7 rfl; clear hold hdep; go_simp; exact hK.out _ _ rfl (Below.refl _ _)
    · intro a wx hB hold hdep K hK
      obtain ⟨v19, t19, p19⟩ := hdep 6 rfl _ 19 rfl rfl; have e19 : v19 = (.pointer (some ⟨w1.heap.size, 3, none⟩)) := p19; subst e19; clear hold hdep; go_simp; exact hK.out _ _ rfl (Below.refl _ _)
    · intro a wx hB hold hdep K hK
      obtain ⟨v20, t20, p20⟩ := hdep 7 rfl _ 20 rfl rfl; have e20 : v20 = (.pointer (some ⟨w1.heap.size, 4, none⟩)) := p20; subst e20; obtain ⟨q0, q1, q2, q3, q4⟩ := blkP (below_keep hB HXp.out); clear hold hdep; go_simp; exact hK.out _ _ rfl (Below.refl _ _)
    · intro a wx hB hold hdep K hK
      obtain ⟨v18, t18, p18⟩ := hdep 5 rfl _ 18 rfl rfl; have e18 : v18 = (.int .u64 (h : Nat)) := p18; subst e18; obtain ⟨v21, t21, p21⟩ := hdep 8 rfl _ 21 rfl rfl; have e21 : v21 = (.int .i64 (kb : Nat)) := p21; subst e21; have HW : Hid (Calls Try.prog 40 #[.int .u64 (h : Nat), .int .i64 (kb : Nat)] wx _) := HFb.out _; clear hold hdep; go_simp; refine HW.out.mono ?_; rintro _ w9 ⟨rfl, rfl⟩; go_simp; exact hK.out _ _ rfl (Below.refl _ _)
    · intro a wx hB hold hdep K hK
      obtain ⟨v17, t17, p17⟩ := hdep 4 rfl _ 17 rfl rfl; have e17 : v17 = (.bool ba) := p17; subst e17; clear hold hdep; go_simp; exact hK.out _ _ rfl (Below.refl _ _)
    · intro a wx hB hold hdep K hK
      obtain ⟨v22, t22, p22⟩ := hdep 9 rfl _ 22 rfl rfl; have e22 : v22 = (.bool bb) := p22; subst e22; clear hold hdep; go_simp; exact hK.out _ _ rfl (Below.refl _ _)
  · intro a wx hB hold hgot
    obtain ⟨vA, tvA, pvA⟩ := hgot 10 _ 8 rfl rfl; have evA : vA = (.bool ba) := pvA; subst evA; obtain ⟨vB, tvB, pvB⟩ := hgot 11 _ 9 rfl rfl; have evB : vB = (.bool bb) := pvB; subst evB; have HBx : Hid (Below X.heap.size X wx) := hB; obtain ⟨tm, df⟩ := a; (obtain ⟨ys, zs, hys, hzs, htm, rfl⟩ := frame_two 8 2 3 10 10 13 23 rfl rfl rfl (by kernel_rfl) (Nat.le_of_ble_eq_true rfl) hold); obtain ⟨y8, y9, rfl⟩ := rowL2 ys hys; obtain ⟨y13, y14, y15, y16, y17, y18, y19, y20, y21, y22, rfl⟩ := rowL10 zs hzs; simp only [List.take_succ_cons, List.take_zero, List.drop_succ_cons, List.drop_zero, List.cons_append, List.nil_append] at htm; subst htm; obtain rfl : y8 = _ := someInjM tvA; obtain rfl : y9 = _ := someInjM tvB; clear hys hzs hold hgot tvA tvB hB; obtain ⟨q0, q1, q2, q3, q4⟩ := blkP (below_keep HBx.out HXp.out); have HE : Hid (Below w.heap.size w wx) := below_join HBX.out HBx.out; clear HFa HFb; by_cases k2 : k = 2
    · subst k2
      go_wp2_with fail; go_ret; (exact ⟨by rw [HT.out]; rfl, HE.out⟩)
    by_cases k3 : k = 3
    · subst k3
      go_wp2_with fail; go_ret; (exact ⟨by rw [HT.out]; rfl, HE.out⟩)
    by_cases k4 : k = 4
    · subst k4
      go_wp2_with fail; go_ret; (exact ⟨by rw [HT.out]; rfl, HE.out⟩)
    by_cases k5 : k = 5
    · subst k5
      cases ba
      · go_wp2_with fail
        go_ret; (exact ⟨by rw [HT.out]; rfl, HE.out⟩)
      · go_wp2_with fail
        go_ret; (exact ⟨by rw [HT.out]; rfl, HE.out⟩)
    by_cases k6 : k = 6
    · subst k6
      cases ba
      · go_wp2_with fail
        go_ret; (exact ⟨by rw [HT.out]; rfl, HE.out⟩)
      · go_wp2_with fail
        go_ret; (exact ⟨by rw [HT.out]; rfl, HE.out⟩)
    by_cases k7 : k = 7
    · subst k7
      cases ba
      · go_wp2_with fail
        go_ret; (exact ⟨by rw [HT.out]; rfl, HE.out⟩)
      · go_wp2_with fail
        go_ret; (exact ⟨by rw [HT.out]; rfl, HE.out⟩)
    (have n2 : (k == 2) = false := by simpa using k2); (have n3 : (k == 3) = false := by simpa using k3); (have n4 : (k == 4) = false := by simpa using k4); (have n5 : (k == 5) = false := by simpa using k5); (have n6 : (k == 6) = false := by simpa using k6); (have n7 : (k == 7) = false := by simpa using k7); (have hres : res = bn := by rw [HT.out, if_neg k2, if_neg k3, if_neg k4, if_neg k5, if_neg k6, if_neg k7]); subst hres; clear k2 k3 k4 k5 k6 k7 HT; go_wp2_with fail; refine (HFn.out _).mono ?_; rintro _ _ ⟨rfl, rfl⟩; go_wp2_with fail; go_ret; exact ⟨rfl, HE.out⟩
set_option maxRecDepth 10000 in
set_option maxHeartbeats 4000000 in
theorem wWhole_any {ps : List PartM} {fs : List Fm} (ht : TabOk ps fs) (hL : ps.length ≤ 40) (T : Nat → Prop) (bt : Nat) (ns : List Nat) (h : Nat) (hh : h < 2 ^ ps.length) (w : World) (htab : TabAt w T bt ps ns) :
    Calls Try.prog 49 #[.int .u64 (h : Nat), .pointer (some ⟨bt, 0, none⟩)] w fun e w' => e = .returned (.bool (wholeB ps h)) ∧ Below w.heap.size w w' := by
  (have HH : Hid (∀ n, n < ps.length → ∀ w, Calls Try.prog 40 #[.int .u64 (h : Nat), .int .i64 (n : Nat)] w fun e w' => e = .returned (.bool (h.testBit n)) ∧ w' = w) := fun n hn w => hasW hL hh n hn w); (have HI : Hid (∀ n, n < ps.length → ∀ w', Below w.heap.size w w' → Calls Try.prog 60 #[.int .i64 (n : Nat), .int .u64 (h : Nat), .pointer (some ⟨bt, 0, none⟩)] w' _) := fun n hn w' hb => wTrue_any ht hL T bt ns h n hh hn w' (htab.below hb)); have HLe : Hid (Calls Try.prog 18 #[.pointer (some ⟨bt, 0, none⟩)] w _) := plen_any w T bt ps ns htab; have HR : Hid (wholeB ps h = true ↔ ∀ n, n < ps.length → h.testBit n = trN ps h n) := whole_iff; obtain ⟨L, hLe⟩ : ∃ L, L = ps.length := ⟨_, rfl⟩; (have hLI : (L : Int) ≤ 40 := by omega); rw [← hLe] at HH HI HLe HR; clear hLe hL hh htab ht; generalize wholeB ps h = res at *
  go_enter Try.func49, Try.ntmps49
  go_wp2_with fail; refine HLe.out.mono ?_; rintro _ w9 ⟨rfl, e9⟩
  replace e9 := e9.symm
  subst e9; go_wp2_with fail
  go_loopg [8] L (fun gg c wr => ∃ i, i ≤ L ∧ gg = L - i ∧ c = .int .i64 (i : Nat) ∧ Hid (∀ n, n < i → h.testBit n = trN ps h n) ∧ Hid (Below w.heap.size w wr))
  case atStart => exact ⟨0, by omega, by omega, rfl, fun n hn => absurd hn (Nat.not_lt_zero _), Below.refl _ _⟩
  case round =>
    obtain ⟨i, hi, hg, rfl, HQ, HB⟩ := hrel; have HGk : Hid (gk = L - i) := hg; clear hg; by_cases hlt : i < L
    · have hltI : (i : Int) < (L : Int) := by omega
      have HIl : Hid (i < L) := hlt; (have H1 : Hid (∀ w, Calls Try.prog 40 #[.int .u64 (h : Nat), .int .i64 (i : Nat)] w _) := fun w => HH.out i hlt w); (have H2 : Hid (∀ w', Below w.heap.size w w' → Calls Try.prog 60 #[.int .i64 (i : Nat), .int .u64 (h : Nat), .pointer (some ⟨bt, 0, none⟩)] w' _) := fun w' hb => HI.out i hlt w' hb); obtain ⟨x, hx⟩ : ∃ x, x = h.testBit i := ⟨_, rfl⟩; obtain ⟨y, hy⟩ : ∃ y, y = trN ps h i := ⟨_, rfl⟩; rw [← hx] at H1; rw [← hy] at H2; have HX : Hid (x = h.testBit i ∧ y = trN ps h i) := ⟨hx, hy⟩; clear hlt hi hx hy; go_wp2_with fail; refine (H1.out _).mono ?_; rintro _ w9 ⟨rfl, e9⟩
      replace e9 := e9.symm
      subst e9; go_wp2_with fail; refine (H2.out _ HB.out).mono ?_; rintro _ w2 ⟨rfl, hb2⟩; have HB2 : Hid (Below w.heap.size w w2) := below_join HB.out hb2; clear hb2; by_cases hxy : x = y
      · subst hxy
        go_wp2_with fail
        go_roundg (L - (i + 1))
        case measure => have := HGk.out; have := HIl.out; omega
        case rel =>
          (refine ⟨i + 1, HIl.out, rfl, by go_num, fun n hn => ?_, HB2⟩); by_cases e : n = i
          · rw [e, ← HX.out.1, ← HX.out.2]
          · exact HQ.out n (by omega)
      · have hne : (x == y) = false := by simpa using hxy
        go_wp2_with fail; go_ret; refine ⟨?_, HB2.out⟩
        have : res = false := by
          cases hr : res with
          | false => rfl
          | true => exact absurd (by rw [HX.out.1, HX.out.2]; exact HR.out.1 hr i HIl.out) hxy
        rw [this]; rfl
    · have hii : i = L := by omega
      subst hii; (have hge : ¬ (i : Int) < (i : Int) := by omega); clear hlt hi; go_wp2_with fail; go_ret; refine ⟨?_, HB.out⟩; rw [HR.out.2 HQ.out]; rfl
end Go.Proofs.Ytmahgfgndfcmpah
/- Walks: a world by what is true at it (modlog.worldOf). -/
namespace Go.Proofs.Ytmahgfgndfcmpah
open Go.RowKit Go.Sort

def upTo (i : Nat) (Q : Nat → Bool) (n : Nat) : Bool := decide (n < i) && Q n
theorem bm_upTo_no {L i : Nat} {Q : Nat → Bool} (h : Q i = false) : bm L (upTo (i + 1) Q) = bm L (upTo i Q) := bm_ext fun n _ => by
  unfold upTo; by_cases e : n = i
  · subst e; simp [h]
  · have : (n < i + 1) ↔ n < i := by omega
    simp [this]
theorem bm_upTo_yes {L i : Nat} {Q : Nat → Bool} (h : Q i = true) : bm L (upTo (i + 1) Q) = bm L (fun n => upTo i Q n || n == i) := bm_ext fun n _ => by
  unfold upTo; by_cases e : n = i
  · subst e; simp [h]
  · have : (n < i + 1) ↔ n < i := by omega
    simp [this, e]
theorem bm_upTo_all {L : Nat} {Q : Nat → Bool} : bm L (upTo L Q) = bm L Q := bm_ext fun n hn => by simp [upTo, hn]
theorem bm_upTo_zero {L : Nat} {Q : Nat → Bool} : bm L (upTo 0 Q) = 0 := (bm_ext fun n _ => by simp [upTo]).trans (bm_none L)
theorem set3_1 {w : World} {b : Nat} {x0 x1 x2 : Value} {T : TypeId} (h : w.heap[b]? = some (.cells #[x0, x1, x2] T (0, 0))) (v : Value) : (w.setCell ⟨b, 1, none⟩ v).heap[b]? = some (.cells #[x0, v, x2] T (0, 0)) := by
  simp [World.setCell, Array.getElem?_modify, h]
theorem set3_2 {w : World} {b : Nat} {x0 x1 x2 : Value} {T : TypeId} (h : w.heap[b]? = some (.cells #[x0, x1, x2] T (0, 0))) (v : Value) : (w.setCell ⟨b, 2, none⟩ v).heap[b]? = some (.cells #[x0, x1, v] T (0, 0)) := by
  simp [World.setCell, Array.getElem?_modify, h]
theorem rowL7 (l : List Value) (h0 : l.length = 7) : ∃ x0 x1 x2 x3 x4 x5 x6, l = [x0, x1, x2, x3, x4, x5, x6] := by
  obtain ⟨x0, l1, e0, h1⟩ := cons_lenM h0; obtain ⟨x1, l2, e1, h2⟩ := cons_lenM h1; obtain ⟨x2, l3, e2, h3⟩ := cons_lenM h2; obtain ⟨x3, l4, e3, h4⟩ := cons_lenM h3; obtain ⟨x4, l5, e4, h5⟩ := cons_lenM h4; obtain ⟨x5, l6, e5, h6⟩ := cons_lenM h5; obtain ⟨x6, l7, e6, h7⟩ := cons_lenM h6; have e7 : l7 = [] := List.length_eq_zero_iff.1 h7; subst e7 e6 e5 e4 e3 e2 e1 e0; exact ⟨x0, x1, x2, x3, x4, x5, x6, rfl⟩
theorem rowL9 (l : List Value) (h0 : l.length = 9) : ∃ x0 x1 x2 x3 x4 x5 x6 x7 x8, l = [x0, x1, x2, x3, x4, x5, x6, x7, x8] := by
  obtain ⟨x0, l1, e0, h1⟩ := cons_lenM h0; obtain ⟨x1, l2, e1, h2⟩ := cons_lenM h1; obtain ⟨x2, l3, e2, h3⟩ := cons_lenM h2; obtain ⟨x3, l4, e3, h4⟩ := cons_lenM h3; obtain ⟨x4, l5, e4, h5⟩ := cons_lenM h4; obtain ⟨x5, l6, e5, h6⟩ := cons_lenM h5; obtain ⟨x6, l7, e6, h7⟩ := cons_lenM h6; obtain ⟨x7, l8, e7, h8⟩ := cons_lenM h7; obtain ⟨x8, l9, e8, h9⟩ := cons_lenM h8; have e9 : l9 = [] := List.length_eq_zero_iff.1 h9; subst e9 e8 e7 e6 e5 e4 e3 e2 e1 e0; exact ⟨x0, x1, x2, x3, x4, x5, x6, x7, x8, rfl⟩
set_option maxRecDepth 10000 in
set_option maxHeartbeats 8000000 in
theorem worldOf_any {ps : List PartM} {fs : List Fm} (ht : TabOk ps fs) (hL : ps.length ≤ 40) (T : Nat → Prop) (bt : Nat) (ns : List Nat) (h : Nat) (hh : h < 2 ^ ps.length) (w : World) (htab : TabAt w T bt ps ns) :
    Calls Try.prog 50 #[.int .u64 (h : Nat), .pointer (some ⟨bt, 0, none⟩)] w fun e w' => e = .returned (WV ps h) ∧ Below w.heap.size w w' := by
  (have HH : Hid (∀ n, n < ps.length → ∀ w, Calls Try.prog 40 #[.int .u64 (h : Nat), .int .i64 (n : Nat)] w fun e w' => e = .returned (.bool (h.testBit n)) ∧ w' = w) := fun n hn w => hasW hL hh n hn w)
  have HP : Hid (∀ n, n < ps.length → ∃ (nm : ByteArray) (kn : Nat), ∀ w', Below w.heap.size w w' → Calls Try.prog 61 #[.pointer (some ⟨bt, 0, none⟩), .int .i64 (n : Nat)] w' fun e w'' => e = .returned (.agg #[.int .i64 (pk ps n), .string nm, .int .i64 (kn : Nat), .int .i64 (pa ps n : Nat), .int .i64 (pb ps n : Nat)]) ∧ Below w'.heap.size w' w'') := fun n hn => by
    obtain ⟨nm, kn, hv⟩ := part_val (ps := ps) (n := n); (exact ⟨nm, kn, fun w' hb => partW w' T bt ps ns (htab.below hb) n hn nm kn hv⟩)
  (have HLe : Hid (∀ w', Below w.heap.size w w' → Calls Try.prog 18 #[.pointer (some ⟨bt, 0, none⟩)] w' _) := fun w' hb => plen_any w' T bt ps ns (htab.below hb)); (have HKa : Hid (∀ n, n < ps.length → pa ps n < ps.length) := fun n hn => (kids_lt ht hn).1); (have HWi : Hid (∀ (P : Nat → Bool) (x n b : Nat) (w : World), x = bm ps.length P → n < ps.length → w.cell? ⟨b, 0, none⟩ = some (.int .i64 (n : Nat)) → Calls Try.prog 62 #[.int .u64 (x : Nat), .slice (some ⟨b, 0, none⟩) 1 1] w fun e w' => e = .returned (.int .u64 (bm ps.length (fun i => P i || i == n) : Nat)) ∧ w' = w) := fun P x n b w hx hn hc => set_with1x hL P hx n b hn w hc); unfold WV; (have HWn : Hid (∀ n, wnB ps h n = (isMd ps n && (h.testBit n == decide (pk ps n = 9)))) := fun n => rfl); (have HSw : Hid (∀ n, swB ps h n = (isMd ps n && (h.testBit (pa ps n) == decide (pk ps n = 9)))) := fun n => rfl); (have HMd : Hid (∀ n, isMd ps n = (decide (pk ps n = 8) || decide (pk ps n = 9))) := fun n => rfl); generalize wnB ps h = QA at *; generalize swB ps h = QB at *; obtain ⟨L, hLe⟩ : ∃ L, L = ps.length := ⟨_, rfl⟩; (have hLI : (L : Int) ≤ 40 := by omega); rw [← hLe] at HH HP HLe HKa HWi ⊢; clear hLe hL hh htab ht; obtain ⟨W, hW⟩ : ∃ W, W = (w.alloc (.cells #[.int .u64 0, .int .u64 0, .int .u64 0] 59 (0, 0))).alloc (.cells #[.int .u64 (h : Nat), .int .u64 0, .int .u64 0] 59 (0, 0)) := ⟨_, rfl⟩; (have HB0 : Hid (Below w.heap.size w W) := by rw [hW]; exact below_more (below_more (Below.refl _ w) _) _); (have HZ0 : Hid (W.heap[w.heap.size]? = some (.cells #[.int .u64 0, .int .u64 0, .int .u64 0] 59 (0, 0))) := by rw [hW]; exact alloc_keep (blk_new _ _) _); (have H50 : Hid (W.heap[w.heap.size + 1]? = some (.cells #[.int .u64 (h : Nat), .int .u64 0, .int .u64 0] 59 (0, 0))) := by rw [hW]; exact blk_secE _ _ _)
  go_enter Try.func50, Try.ntmps50
  go_wp2_with fail; rw [← hW]; clear hW; refine (HLe.out W HB0.out).mono ?_; rintro _ w9 ⟨rfl, e9⟩
  replace e9 := e9.symm
  subst e9; go_wp2_with fail
  go_loopg [12] L (fun gg c wr => ∃ i A B, i ≤ L ∧ gg = L - i ∧ c = .int .i64 (i : Nat) ∧ Hid (A = bm L (upTo i QA) ∧ B = bm L (upTo i QB)) ∧ Hid (wr.heap[w.heap.size]? = some (.cells #[.int .u64 0, .int .u64 0, .int .u64 0] 59 (0, 0))) ∧ Hid (wr.heap[w.heap.size + 1]? = some (.cells #[.int .u64 (h : Nat), .int .u64 (A : Nat), .int .u64 (B : Nat)] 59 (0, 0))) ∧ Hid (Below w.heap.size w wr))
  case atStart => exact ⟨0, 0, 0, by omega, by omega, rfl, ⟨bm_upTo_zero.symm, bm_upTo_zero.symm⟩, HZ0, H50, HB0⟩
  case round =>
    obtain ⟨i, A, B, hi, hg, rfl, HAB, HZ, H5, HB⟩ := hrel; have HGk : Hid (gk = L - i) := hg; clear hg; by_cases hlt : i < L
    · have hltI : (i : Int) < (L : Int) := by omega
      have HIl : Hid (i < L) := hlt; obtain ⟨nm, kn, hp⟩ := HP.out i hlt; have HPi : Hid (∀ w', Below w.heap.size w w' → Calls Try.prog 61 #[.pointer (some ⟨bt, 0, none⟩), .int .i64 (i : Nat)] w' _) := hp; (have HFi : Hid (∀ w, Calls Try.prog 40 #[.int .u64 (h : Nat), .int .i64 (i : Nat)] w _) := fun w => HH.out i hlt w); (have HFa : Hid (∀ w, Calls Try.prog 40 #[.int .u64 (h : Nat), .int .i64 (pa ps i : Nat)] w _) := fun w => HH.out _ (HKa.out i hlt) w); (have HQA : Hid (QA i = ((decide (pk ps i = 8) || decide (pk ps i = 9)) && (h.testBit i == decide (pk ps i = 9)))) := by show _ = _; rw [HWn.out, HMd.out]); (have HQB : Hid (QB i = ((decide (pk ps i = 8) || decide (pk ps i = 9)) && (h.testBit (pa ps i) == decide (pk ps i = 9)))) := by show _ = _; rw [HSw.out, HMd.out]); generalize pk ps i = k at *; generalize pa ps i = ka at *; generalize pb ps i = kb at *; generalize h.testBit i = bi at *; generalize h.testBit ka = ba at *; clear hp hlt hi; go_wp2_with fail; refine (HPi.out wr HB.out).mono ?_; rintro _ w1 ⟨rfl, hb1⟩; obtain ⟨X, hX⟩ : ∃ X, X = w1.alloc (.cells #[.int .i64 k, .string nm, .int .i64 (kn : Nat), .int .i64 (ka : Nat), .int .i64 (kb : Nat)] 78 (0, 0)) := ⟨_, rfl⟩; (have hbX : Below wr.heap.size wr X := by rw [hX]; exact below_more hb1 _); have HBX : Hid (Below w.heap.size w X) := below_join HB.out hbX; (have HXp : Hid (X.heap[w1.heap.size]? = some (.cells #[.int .i64 k, .string nm, .int .i64 (kn : Nat), .int .i64 (ka : Nat), .int .i64 (kb : Nat)] 78 (0, 0))) := by rw [hX]; exact blk_new _ _); have HXz : Hid (X.heap[w.heap.size]? = some (.cells #[.int .u64 0, .int .u64 0, .int .u64 0] 59 (0, 0))) := below_keep hbX HZ.out; have HX5 : Hid (X.heap[w.heap.size + 1]? = some (.cells #[.int .u64 (h : Nat), .int .u64 (A : Nat), .int .u64 (B : Nat)] 59 (0, 0))) := below_keep hbX H5.out; (have HX1 : Hid (w.heap.size + 1 < w1.heap.size) := by have := lt_of_block H5.out; have := hb1.size; show _ < _; omega); have hXe := hX.symm; clear hb1 hbX hX HPi HZ H5 HB; obtain ⟨q0, q1, q2, q3, q4⟩ := blkP HXp.out; by_cases hm : k = 8 ∨ k = 9
      case neg =>
        (have n8 : (k != 8) = true := by simp; omega); (have n9 : (k != 9) = true := by simp; omega); (have hA : QA i = false := by rw [HQA.out]; simp; omega); (have hB : QB i = false := by rw [HQB.out]; simp; omega); have HA : Hid (QA i = false ∧ QB i = false) := ⟨hA, hB⟩; clear hm hA hB; go_wp2_with fail
        go_roundg (L - (i + 1))
        case measure => have := HGk.out; have := HIl.out; omega
        case rel => exact ⟨i + 1, A, B, HIl.out, rfl, by go_num, ⟨by rw [bm_upTo_no HA.out.1]; exact HAB.out.1, by rw [bm_upTo_no HA.out.2]; exact HAB.out.2⟩, HXz, HX5, HBX⟩
      obtain ⟨d, hd⟩ : ∃ d, d = decide (k = 9) := ⟨_, rfl⟩; (have hk9 : (k == 9) = d := by rw [hd]; rfl)
      have hor : (decide (k = 8) || d) = true := by
        rw [hd]
        rcases hm with e | e <;> simp [e]
      (have hQA : QA i = (bi == d) := by rw [HQA.out, ← hd, hor, Bool.true_and]); (have hQB : QB i = (ba == d) := by rw [HQB.out, ← hd, hor, Bool.true_and]); obtain ⟨sa, hsa⟩ : ∃ s, s = (bi == d) := ⟨_, rfl⟩; obtain ⟨sb, hsb⟩ : ∃ s, s = (ba == d) := ⟨_, rfl⟩; have HQ : Hid (QA i = sa ∧ QB i = sb) := ⟨hQA.trans hsa.symm, hQB.trans hsb.symm⟩; have HEa : Hid ((bi == d) = sa) := hsa.symm; have HEb : Hid ((ba == d) = sb) := hsb.symm; have HK9 : Hid ((k == 9) = d) := hk9
      have hcond : (k != 8) = false ∨ ((k != 8) = true ∧ (k != 9) = false) := by
        rcases hm with e | e
        · left; simp [e]
        · right; simp [e]
      clear HQA HQB hd hQA hQB hsa hsb hm hk9 hor
      rcases hcond with k8 | ⟨k8, k9⟩
      case' inl => skip
      case' inr => skip
      all_goals
        go_wp2_with fail
        try rw [hXe]
        clear hXe
        first | clear k8 k9 | clear k8
        clear q0 q1 q2 q3 q4; (refine wp_region_free (by kernel_rfl) [fun v _ => v = (.int .u64 (h : Nat)), fun v _ => v = (.int .i64 (i : Nat)), fun v _ => v = (.bool bi), fun v _ => v = (.pointer (some ⟨w1.heap.size, 0, none⟩)), fun v _ => v = (.int .i64 k), fun v _ => v = (.bool d), fun v _ => v = (.bool sa)] ?_ (by kernel_rfl) (by kernel_rfl) 56 rfl (by kernel_rfl) ?_ ?_)
        · intro p hp
          simp only [List.mem_cons, List.not_mem_nil, or_false] at hp
          rcases hp with rfl | rfl | rfl | rfl | rfl | rfl | rfl
          · exact fun _ _ _ h _ => h
          · exact fun _ _ _ h _ => h
          · exact fun _ _ _ h _ => h
          · exact fun _ _ _ h _ => h
          · exact fun _ _ _ h _ => h
          · exact fun _ _ _ h _ => h
          · exact fun _ _ _ h _ => h
        · refine ⟨?_, ?_, ?_, ?_, ?_, ?_, ?_, trivial⟩
          · intro a wx hB hold hdep K hK
            have t0 : a.tmps[0]? = some (.int .u64 (h : Nat)) := hold.2.2 0 rfl; clear hold hdep; go_simp; exact hK.out _ _ rfl (Below.refl _ _)
          · intro a wx hB hold hdep K hK
            have t6 : a.tmps[6]? = some (.int .i64 (i : Nat)) := hold.2.2 6 rfl; clear hold hdep; go_simp; exact hK.out _ _ rfl (Below.refl _ _)
          · intro a wx hB hold hdep K hK
            obtain ⟨v26, t26, p26⟩ := hdep 0 rfl _ 26 rfl rfl; have e26 : v26 = (.int .u64 (h : Nat)) := p26; subst e26; obtain ⟨v27, t27, p27⟩ := hdep 1 rfl _ 27 rfl rfl; have e27 : v27 = (.int .i64 (i : Nat)) := p27; subst e27; have HW : Hid (Calls Try.prog 40 #[.int .u64 (h : Nat), .int .i64 (i : Nat)] wx _) := HFi.out _; clear hold hdep; go_simp; refine HW.out.mono ?_; rintro _ w9 ⟨rfl, rfl⟩; go_simp; exact hK.out _ _ rfl (Below.refl _ _)
          · intro a wx hB hold hdep K hK
            have t7 : a.tmps[7]? = some (.pointer (some ⟨w1.heap.size, 0, none⟩)) := hold.2.2 7 rfl; clear hold hdep; go_simp; exact hK.out _ _ rfl (Below.refl _ _)
          · intro a wx hB hold hdep K hK
            obtain ⟨v29, t29, p29⟩ := hdep 3 rfl _ 29 rfl rfl; have e29 : v29 = (.pointer (some ⟨w1.heap.size, 0, none⟩)) := p29; subst e29; obtain ⟨q0, q1, q2, q3, q4⟩ := blkP (below_keep hB HXp.out); clear hold hdep; go_simp; exact hK.out _ _ rfl (Below.refl _ _)
          · intro a wx hB hold hdep K hK
            obtain ⟨v30, t30, p30⟩ := hdep 4 rfl _ 30 rfl rfl; have e30 : v30 = (.int .i64 k) := p30; subst e30; have h9 := HK9.out; clear hold hdep; go_simp; exact hK.out _ _ rfl (Below.refl _ _)
          · intro a wx hB hold hdep K hK
            obtain ⟨v28, t28, p28⟩ := hdep 2 rfl _ 28 rfl rfl; have e28 : v28 = (.bool bi) := p28; subst e28; obtain ⟨v31, t31, p31⟩ := hdep 5 rfl _ 31 rfl rfl; have e31 : v31 = (.bool d) := p31; subst e31; have h9 := HEa.out; clear hold hdep; go_simp; exact hK.out _ _ rfl (Below.refl _ _)
        · intro a wx hB hold hgot
          obtain ⟨vZ, tvZ, pvZ⟩ := hgot 6 _ 32 rfl rfl; have evZ : vZ = (.bool sa) := pvZ; subst evZ; have HBx : Hid (Below X.heap.size X wx) := hB; obtain ⟨tm, df⟩ := a; (obtain ⟨ys, hys, htm, rfl⟩ := frame_mid2 26 7 (by kernel_rfl) (Nat.le_of_ble_eq_true rfl) hold); obtain ⟨x26, x27, x28, x29, x30, x31, x32, rfl⟩ := rowL7 ys hys; simp only [List.take_succ_cons, List.take_zero, List.drop_succ_cons, List.drop_zero, List.cons_append, List.nil_append] at htm; subst htm; obtain rfl : x32 = _ := someInjM tvZ; clear hys hold hgot tvZ hB; obtain ⟨V7, hV7⟩ : ∃ V, V = wx := ⟨_, rfl⟩; subst hV7; have HV7p : Hid (V7.heap[w1.heap.size]? = some (.cells #[.int .i64 k, .string nm, .int .i64 (kn : Nat), .int .i64 (ka : Nat), .int .i64 (kb : Nat)] 78 (0, 0))) := below_keep HBx.out HXp.out; have HV7z : Hid (V7.heap[w.heap.size]? = some (.cells #[.int .u64 0, .int .u64 0, .int .u64 0] 59 (0, 0))) := below_keep HBx.out HXz.out; have HV75 : Hid (V7.heap[w.heap.size + 1]? = some (.cells #[.int .u64 (h : Nat), .int .u64 (A : Nat), .int .u64 (B : Nat)] 59 (0, 0))) := below_keep HBx.out HX5.out; have HV7B : Hid (Below w.heap.size w V7) := below_join HBX.out HBx.out; clear HBx
          cases sa
          · go_wp2_with fail
            (refine wp_region_free (by kernel_rfl) [fun v _ => v = (.int .u64 (h : Nat)), fun v _ => v = (.pointer (some ⟨w1.heap.size, 3, none⟩)), fun v _ => v = (.pointer (some ⟨w1.heap.size, 3, none⟩)), fun v _ => v = (.int .i64 (ka : Nat)), fun v _ => v = (.bool ba), fun v _ => v = (.pointer (some ⟨w1.heap.size, 0, none⟩)), fun v _ => v = (.int .i64 k), fun v _ => v = (.bool d), fun v _ => v = (.bool sb)] ?_ (by kernel_rfl) (by kernel_rfl) 56 rfl (by kernel_rfl) ?_ ?_)
            · intro p hp
              simp only [List.mem_cons, List.not_mem_nil, or_false] at hp
              rcases hp with rfl | rfl | rfl | rfl | rfl | rfl | rfl | rfl | rfl
              · exact fun _ _ _ h _ => h
              · exact fun _ _ _ h _ => h
              · exact fun _ _ _ h _ => h
              · exact fun _ _ _ h _ => h
              · exact fun _ _ _ h _ => h
              · exact fun _ _ _ h _ => h
              · exact fun _ _ _ h _ => h
              · exact fun _ _ _ h _ => h
              · exact fun _ _ _ h _ => h
            · refine ⟨?_, ?_, ?_, ?_, ?_, ?_, ?_, ?_, ?_, trivial⟩
              · intro a wx hB hold hdep K hK
                have t0 : a.tmps[0]? = some (.int .u64 (h : Nat)) := hold.2.2 0 rfl; clear hold hdep; go_simp; exact hK.out _ _ rfl (Below.refl _ _)
              · intro a wx hB hold hdep K hK
                have t7 : a.tmps[7]? = some (.pointer (some ⟨w1.heap.size, 0, none⟩)) := hold.2.2 7 rfl; clear hold hdep; go_simp; exact hK.out _ _ rfl (Below.refl _ _)
              · intro a wx hB hold hdep K hK
                obtain ⟨v40, t40, p40⟩ := hdep 1 rfl _ 40 rfl rfl; have e40 : v40 = (.pointer (some ⟨w1.heap.size, 3, none⟩)) := p40; subst e40; clear hold hdep; go_simp; exact hK.out _ _ rfl (Below.refl _ _)
              · intro a wx hB hold hdep K hK
                obtain ⟨v41, t41, p41⟩ := hdep 2 rfl _ 41 rfl rfl; have e41 : v41 = (.pointer (some ⟨w1.heap.size, 3, none⟩)) := p41; subst e41; obtain ⟨q0, q1, q2, q3, q4⟩ := blkP (below_keep hB HV7p.out); clear hold hdep; go_simp; exact hK.out _ _ rfl (Below.refl _ _)
              · intro a wx hB hold hdep K hK
                obtain ⟨v39, t39, p39⟩ := hdep 0 rfl _ 39 rfl rfl; have e39 : v39 = (.int .u64 (h : Nat)) := p39; subst e39; obtain ⟨v42, t42, p42⟩ := hdep 3 rfl _ 42 rfl rfl; have e42 : v42 = (.int .i64 (ka : Nat)) := p42; subst e42; have HW : Hid (Calls Try.prog 40 #[.int .u64 (h : Nat), .int .i64 (ka : Nat)] wx _) := HFa.out _; clear hold hdep; go_simp; refine HW.out.mono ?_; rintro _ w9 ⟨rfl, rfl⟩; go_simp; exact hK.out _ _ rfl (Below.refl _ _)
              · intro a wx hB hold hdep K hK
                have t7 : a.tmps[7]? = some (.pointer (some ⟨w1.heap.size, 0, none⟩)) := hold.2.2 7 rfl; clear hold hdep; go_simp; exact hK.out _ _ rfl (Below.refl _ _)
              · intro a wx hB hold hdep K hK
                obtain ⟨v44, t44, p44⟩ := hdep 5 rfl _ 44 rfl rfl; have e44 : v44 = (.pointer (some ⟨w1.heap.size, 0, none⟩)) := p44; subst e44; obtain ⟨q0, q1, q2, q3, q4⟩ := blkP (below_keep hB HV7p.out); clear hold hdep; go_simp; exact hK.out _ _ rfl (Below.refl _ _)
              · intro a wx hB hold hdep K hK
                obtain ⟨v45, t45, p45⟩ := hdep 6 rfl _ 45 rfl rfl; have e45 : v45 = (.int .i64 k) := p45; subst e45; have h9 := HK9.out; clear hold hdep; go_simp; exact hK.out _ _ rfl (Below.refl _ _)
              · intro a wx hB hold hdep K hK
                obtain ⟨v43, t43, p43⟩ := hdep 4 rfl _ 43 rfl rfl; have e43 : v43 = (.bool ba) := p43; subst e43; obtain ⟨v46, t46, p46⟩ := hdep 7 rfl _ 46 rfl rfl; have e46 : v46 = (.bool d) := p46; subst e46; have h9 := HEb.out; clear hold hdep; go_simp; exact hK.out _ _ rfl (Below.refl _ _)
            · intro a wx hB hold hgot
              obtain ⟨vZ, tvZ, pvZ⟩ := hgot 8 _ 47 rfl rfl; have evZ : vZ = (.bool sb) := pvZ; subst evZ; have HBx : Hid (Below V7.heap.size V7 wx) := hB; obtain ⟨tm, df⟩ := a; (obtain ⟨ys, hys, htm, rfl⟩ := frame_mid2 39 9 (by kernel_rfl) (Nat.le_of_ble_eq_true rfl) hold); obtain ⟨x39, x40, x41, x42, x43, x44, x45, x46, x47, rfl⟩ := rowL9 ys hys; simp only [List.take_succ_cons, List.take_zero, List.drop_succ_cons, List.drop_zero, List.cons_append, List.nil_append] at htm; subst htm; obtain rfl : x47 = _ := someInjM tvZ; clear hys hold hgot tvZ hB; obtain ⟨V9, hV9⟩ : ∃ V, V = wx := ⟨_, rfl⟩; subst hV9; have HV9p : Hid (V9.heap[w1.heap.size]? = some (.cells #[.int .i64 k, .string nm, .int .i64 (kn : Nat), .int .i64 (ka : Nat), .int .i64 (kb : Nat)] 78 (0, 0))) := below_keep HBx.out HV7p.out; have HV9z : Hid (V9.heap[w.heap.size]? = some (.cells #[.int .u64 0, .int .u64 0, .int .u64 0] 59 (0, 0))) := below_keep HBx.out HV7z.out; have HV95 : Hid (V9.heap[w.heap.size + 1]? = some (.cells #[.int .u64 (h : Nat), .int .u64 (A : Nat), .int .u64 (B : Nat)] 59 (0, 0))) := below_keep HBx.out HV75.out; have HV9B : Hid (Below w.heap.size w V9) := below_join HV7B.out HBx.out; clear HBx
              cases sb
              · go_wp2_with fail
                go_roundg (L - (i + 1))
                case measure => have := HGk.out; have := HIl.out; omega
                case rel =>
                  (refine ⟨i + 1, A, B, HIl.out, rfl, by go_num, ⟨?_, ?_⟩, HV9z, HV95, HV9B⟩)
                  · show _ = _
                    rw [bm_upTo_no HQ.out.1]; exact HAB.out.1
                  · show _ = _
                    rw [bm_upTo_no HQ.out.2]; exact HAB.out.2
              · obtain ⟨u0, u1, u2, u3, u4, u5⟩ := blk3 HV95.out
                go_wp2_with fail; refine (HWi.out (upTo i QB) B i V9.heap.size _ HAB.out.2 HIl.out ?_).mono ?_
                · exact blk_cell (blk_new _ _) 0
                rintro _ w9 ⟨rfl, e9⟩; obtain ⟨G, hG⟩ : ∃ G, G = V9.alloc (.cells #[.int .i64 (i : Nat)] 3 (0, 0)) := ⟨_, rfl⟩; rw [← hG] at e9; (have hbG : Below V9.heap.size V9 G := by rw [hG]; exact below_more (Below.refl _ _) _)
                replace e9 := e9.symm
                subst e9; have HG5 : Hid (G.heap[w.heap.size + 1]? = some (.cells #[.int .u64 (h : Nat), .int .u64 (A : Nat), .int .u64 (B : Nat)] 59 (0, 0))) := below_keep hbG HV95.out; have HGz : Hid (G.heap[w.heap.size]? = some (.cells #[.int .u64 0, .int .u64 0, .int .u64 0] 59 (0, 0))) := below_keep hbG HV9z.out; have HGp : Hid (G.heap[w1.heap.size]? = some (.cells #[.int .i64 k, .string nm, .int .i64 (kn : Nat), .int .i64 (ka : Nat), .int .i64 (kb : Nat)] 78 (0, 0))) := below_keep hbG HV9p.out; have HGB : Hid (Below w.heap.size w G) := below_join HV9B.out hbG; clear hG hbG u0 u1 u2 u3 u4 u5; obtain ⟨u0, u1, u2, u3, u4, u5⟩ := blk3 HG5.out; (obtain ⟨U2, hU⟩ : ∃ U, U = G.setCell ⟨w.heap.size + 1, 2, none⟩ (.int .u64 (bm L (fun n => upTo i QB n || n == i) : Nat)) := ⟨_, rfl⟩); (have HU25 : Hid (U2.heap[w.heap.size + 1]? = some (.cells #[.int .u64 (h : Nat), .int .u64 (A : Nat), .int .u64 (bm L (fun n => upTo i QB n || n == i) : Nat)] 59 (0, 0))) := by rw [hU]; exact set3_2 HG5.out _); (have HU2z : Hid (U2.heap[w.heap.size]? = some (.cells #[.int .u64 0, .int .u64 0, .int .u64 0] 59 (0, 0))) := by show _ = _; rw [hU, farM (by omega)]; exact HGz.out); (have HU2p : Hid (U2.heap[w1.heap.size]? = some (.cells #[.int .i64 k, .string nm, .int .i64 (kn : Nat), .int .i64 (ka : Nat), .int .i64 (kb : Nat)] 78 (0, 0))) := by show _ = _; rw [hU, farM (by have := HX1.out; omega)]; exact HGp.out); (have HU2B : Hid (Below w.heap.size w U2) := by rw [hU]; exact HGB.out.setCell (p := ⟨w.heap.size + 1, 2, none⟩) (by show w.heap.size ≤ w.heap.size + 1; omega) _); have hUe := hU.symm; clear hU HG5 HGz HGp HGB; go_wp2_with fail; clear u0 u1 u2 u3 u4 u5 hUe
                go_roundg (L - (i + 1))
                case measure => have := HGk.out; have := HIl.out; omega
                case rel =>
                  (refine ⟨i + 1, A, bm L (fun n => upTo i QB n || n == i), HIl.out, rfl, by go_num, ⟨?_, ?_⟩, HU2z, HU25, HU2B⟩)
                  · show _ = _
                    rw [bm_upTo_no HQ.out.1]; exact HAB.out.1
                  · show _ = _
                    rw [bm_upTo_yes HQ.out.2]
          · obtain ⟨u0, u1, u2, u3, u4, u5⟩ := blk3 HV75.out
            go_wp2_with fail; refine (HWi.out (upTo i QA) A i V7.heap.size _ HAB.out.1 HIl.out ?_).mono ?_
            · exact blk_cell (blk_new _ _) 0
            rintro _ w9 ⟨rfl, e9⟩; obtain ⟨G, hG⟩ : ∃ G, G = V7.alloc (.cells #[.int .i64 (i : Nat)] 3 (0, 0)) := ⟨_, rfl⟩; rw [← hG] at e9; (have hbG : Below V7.heap.size V7 G := by rw [hG]; exact below_more (Below.refl _ _) _)
            replace e9 := e9.symm
            subst e9; have HG5 : Hid (G.heap[w.heap.size + 1]? = some (.cells #[.int .u64 (h : Nat), .int .u64 (A : Nat), .int .u64 (B : Nat)] 59 (0, 0))) := below_keep hbG HV75.out; have HGz : Hid (G.heap[w.heap.size]? = some (.cells #[.int .u64 0, .int .u64 0, .int .u64 0] 59 (0, 0))) := below_keep hbG HV7z.out; have HGp : Hid (G.heap[w1.heap.size]? = some (.cells #[.int .i64 k, .string nm, .int .i64 (kn : Nat), .int .i64 (ka : Nat), .int .i64 (kb : Nat)] 78 (0, 0))) := below_keep hbG HV7p.out; have HGB : Hid (Below w.heap.size w G) := below_join HV7B.out hbG; clear hG hbG u0 u1 u2 u3 u4 u5; obtain ⟨u0, u1, u2, u3, u4, u5⟩ := blk3 HG5.out; (obtain ⟨U1, hU⟩ : ∃ U, U = G.setCell ⟨w.heap.size + 1, 1, none⟩ (.int .u64 (bm L (fun n => upTo i QA n || n == i) : Nat)) := ⟨_, rfl⟩); (have HU15 : Hid (U1.heap[w.heap.size + 1]? = some (.cells #[.int .u64 (h : Nat), .int .u64 (bm L (fun n => upTo i QA n || n == i) : Nat), .int .u64 (B : Nat)] 59 (0, 0))) := by rw [hU]; exact set3_1 HG5.out _); (have HU1z : Hid (U1.heap[w.heap.size]? = some (.cells #[.int .u64 0, .int .u64 0, .int .u64 0] 59 (0, 0))) := by show _ = _; rw [hU, farM (by omega)]; exact HGz.out); (have HU1p : Hid (U1.heap[w1.heap.size]? = some (.cells #[.int .i64 k, .string nm, .int .i64 (kn : Nat), .int .i64 (ka : Nat), .int .i64 (kb : Nat)] 78 (0, 0))) := by show _ = _; rw [hU, farM (by have := HX1.out; omega)]; exact HGp.out); (have HU1B : Hid (Below w.heap.size w U1) := by rw [hU]; exact HGB.out.setCell (p := ⟨w.heap.size + 1, 1, none⟩) (by show w.heap.size ≤ w.heap.size + 1; omega) _); have hUe := hU.symm; clear hU HG5 HGz HGp HGB; go_wp2_with fail; clear u0 u1 u2 u3 u4 u5 hUe; (refine wp_region_free (by kernel_rfl) [fun v _ => v = (.int .u64 (h : Nat)), fun v _ => v = (.pointer (some ⟨w1.heap.size, 3, none⟩)), fun v _ => v = (.pointer (some ⟨w1.heap.size, 3, none⟩)), fun v _ => v = (.int .i64 (ka : Nat)), fun v _ => v = (.bool ba), fun v _ => v = (.pointer (some ⟨w1.heap.size, 0, none⟩)), fun v _ => v = (.int .i64 k), fun v _ => v = (.bool d), fun v _ => v = (.bool sb)] ?_ (by kernel_rfl) (by kernel_rfl) 56 rfl (by kernel_rfl) ?_ ?_)
            · intro p hp
              simp only [List.mem_cons, List.not_mem_nil, or_false] at hp
              rcases hp with rfl | rfl | rfl | rfl | rfl | rfl | rfl | rfl | rfl
              · exact fun _ _ _ h _ => h
              · exact fun _ _ _ h _ => h
              · exact fun _ _ _ h _ => h
              · exact fun _ _ _ h _ => h
              · exact fun _ _ _ h _ => h
              · exact fun _ _ _ h _ => h
              · exact fun _ _ _ h _ => h
              · exact fun _ _ _ h _ => h
              · exact fun _ _ _ h _ => h
            · refine ⟨?_, ?_, ?_, ?_, ?_, ?_, ?_, ?_, ?_, trivial⟩
              · intro a wx hB hold hdep K hK
                have t0 : a.tmps[0]? = some (.int .u64 (h : Nat)) := hold.2.2 0 rfl; clear hold hdep; go_simp; exact hK.out _ _ rfl (Below.refl _ _)
              · intro a wx hB hold hdep K hK
                have t7 : a.tmps[7]? = some (.pointer (some ⟨w1.heap.size, 0, none⟩)) := hold.2.2 7 rfl; clear hold hdep; go_simp; exact hK.out _ _ rfl (Below.refl _ _)
              · intro a wx hB hold hdep K hK
                obtain ⟨v40, t40, p40⟩ := hdep 1 rfl _ 40 rfl rfl; have e40 : v40 = (.pointer (some ⟨w1.heap.size, 3, none⟩)) := p40; subst e40; clear hold hdep; go_simp; exact hK.out _ _ rfl (Below.refl _ _)
              · intro a wx hB hold hdep K hK
                obtain ⟨v41, t41, p41⟩ := hdep 2 rfl _ 41 rfl rfl; have e41 : v41 = (.pointer (some ⟨w1.heap.size, 3, none⟩)) := p41; subst e41; obtain ⟨q0, q1, q2, q3, q4⟩ := blkP (below_keep hB HU1p.out); clear hold hdep; go_simp; exact hK.out _ _ rfl (Below.refl _ _)
              · intro a wx hB hold hdep K hK
                obtain ⟨v39, t39, p39⟩ := hdep 0 rfl _ 39 rfl rfl; have e39 : v39 = (.int .u64 (h : Nat)) := p39; subst e39; obtain ⟨v42, t42, p42⟩ := hdep 3 rfl _ 42 rfl rfl; have e42 : v42 = (.int .i64 (ka : Nat)) := p42; subst e42; have HW : Hid (Calls Try.prog 40 #[.int .u64 (h : Nat), .int .i64 (ka : Nat)] wx _) := HFa.out _; clear hold hdep; go_simp; refine HW.out.mono ?_; rintro _ w9 ⟨rfl, rfl⟩; go_simp; exact hK.out _ _ rfl (Below.refl _ _)
              · intro a wx hB hold hdep K hK
                have t7 : a.tmps[7]? = some (.pointer (some ⟨w1.heap.size, 0, none⟩)) := hold.2.2 7 rfl; clear hold hdep; go_simp; exact hK.out _ _ rfl (Below.refl _ _)
              · intro a wx hB hold hdep K hK
                obtain ⟨v44, t44, p44⟩ := hdep 5 rfl _ 44 rfl rfl; have e44 : v44 = (.pointer (some ⟨w1.heap.size, 0, none⟩)) := p44; subst e44; obtain ⟨q0, q1, q2, q3, q4⟩ := blkP (below_keep hB HU1p.out); clear hold hdep; go_simp; exact hK.out _ _ rfl (Below.refl _ _)
              · intro a wx hB hold hdep K hK
                obtain ⟨v45, t45, p45⟩ := hdep 6 rfl _ 45 rfl rfl; have e45 : v45 = (.int .i64 k) := p45; subst e45; have h9 := HK9.out; clear hold hdep; go_simp; exact hK.out _ _ rfl (Below.refl _ _)
              · intro a wx hB hold hdep K hK
                obtain ⟨v43, t43, p43⟩ := hdep 4 rfl _ 43 rfl rfl; have e43 : v43 = (.bool ba) := p43; subst e43; obtain ⟨v46, t46, p46⟩ := hdep 7 rfl _ 46 rfl rfl; have e46 : v46 = (.bool d) := p46; subst e46; have h9 := HEb.out; clear hold hdep; go_simp; exact hK.out _ _ rfl (Below.refl _ _)
            · intro a wx hB hold hgot
              obtain ⟨vZ, tvZ, pvZ⟩ := hgot 8 _ 47 rfl rfl; have evZ : vZ = (.bool sb) := pvZ; subst evZ; have HBx : Hid (Below U1.heap.size U1 wx) := hB; obtain ⟨tm, df⟩ := a; (obtain ⟨ys, hys, htm, rfl⟩ := frame_mid2 39 9 (by kernel_rfl) (Nat.le_of_ble_eq_true rfl) hold); obtain ⟨x39, x40, x41, x42, x43, x44, x45, x46, x47, rfl⟩ := rowL9 ys hys; simp only [List.take_succ_cons, List.take_zero, List.drop_succ_cons, List.drop_zero, List.cons_append, List.nil_append] at htm; subst htm; obtain rfl : x47 = _ := someInjM tvZ; clear hys hold hgot tvZ hB; obtain ⟨V9, hV9⟩ : ∃ V, V = wx := ⟨_, rfl⟩; subst hV9; have HV9p : Hid (V9.heap[w1.heap.size]? = some (.cells #[.int .i64 k, .string nm, .int .i64 (kn : Nat), .int .i64 (ka : Nat), .int .i64 (kb : Nat)] 78 (0, 0))) := below_keep HBx.out HU1p.out; have HV9z : Hid (V9.heap[w.heap.size]? = some (.cells #[.int .u64 0, .int .u64 0, .int .u64 0] 59 (0, 0))) := below_keep HBx.out HU1z.out; (have HV95 : Hid (V9.heap[w.heap.size + 1]? = some (.cells #[.int .u64 (h : Nat), .int .u64 (bm L (fun n => upTo i QA n || n == i) : Nat), .int .u64 (B : Nat)] 59 (0, 0))) := below_keep HBx.out HU15.out); have HV9B : Hid (Below w.heap.size w V9) := below_join HU1B.out HBx.out; clear HBx
              cases sb
              · go_wp2_with fail
                go_roundg (L - (i + 1))
                case measure => have := HGk.out; have := HIl.out; omega
                case rel =>
                  (refine ⟨i + 1, bm L (fun n => upTo i QA n || n == i), B, HIl.out, rfl, by go_num, ⟨?_, ?_⟩, HV9z, HV95, HV9B⟩)
                  · show _ = _
                    rw [bm_upTo_yes HQ.out.1]
                  · show _ = _
                    rw [bm_upTo_no HQ.out.2]; exact HAB.out.2
              · obtain ⟨u0, u1, u2, u3, u4, u5⟩ := blk3 HV95.out
                go_wp2_with fail; refine (HWi.out (upTo i QB) B i V9.heap.size _ HAB.out.2 HIl.out ?_).mono ?_
                · exact blk_cell (blk_new _ _) 0
                rintro _ w9 ⟨rfl, e9⟩; obtain ⟨G, hG⟩ : ∃ G, G = V9.alloc (.cells #[.int .i64 (i : Nat)] 3 (0, 0)) := ⟨_, rfl⟩; rw [← hG] at e9; (have hbG : Below V9.heap.size V9 G := by rw [hG]; exact below_more (Below.refl _ _) _)
                replace e9 := e9.symm
                subst e9; (have HG5 : Hid (G.heap[w.heap.size + 1]? = some (.cells #[.int .u64 (h : Nat), .int .u64 (bm L (fun n => upTo i QA n || n == i) : Nat), .int .u64 (B : Nat)] 59 (0, 0))) := below_keep hbG HV95.out); have HGz : Hid (G.heap[w.heap.size]? = some (.cells #[.int .u64 0, .int .u64 0, .int .u64 0] 59 (0, 0))) := below_keep hbG HV9z.out; have HGp : Hid (G.heap[w1.heap.size]? = some (.cells #[.int .i64 k, .string nm, .int .i64 (kn : Nat), .int .i64 (ka : Nat), .int .i64 (kb : Nat)] 78 (0, 0))) := below_keep hbG HV9p.out; have HGB : Hid (Below w.heap.size w G) := below_join HV9B.out hbG; clear hG hbG u0 u1 u2 u3 u4 u5; obtain ⟨u0, u1, u2, u3, u4, u5⟩ := blk3 HG5.out; (obtain ⟨U2, hU⟩ : ∃ U, U = G.setCell ⟨w.heap.size + 1, 2, none⟩ (.int .u64 (bm L (fun n => upTo i QB n || n == i) : Nat)) := ⟨_, rfl⟩); (have HU25 : Hid (U2.heap[w.heap.size + 1]? = some (.cells #[.int .u64 (h : Nat), .int .u64 (bm L (fun n => upTo i QA n || n == i) : Nat), .int .u64 (bm L (fun n => upTo i QB n || n == i) : Nat)] 59 (0, 0))) := by rw [hU]; exact set3_2 HG5.out _); (have HU2z : Hid (U2.heap[w.heap.size]? = some (.cells #[.int .u64 0, .int .u64 0, .int .u64 0] 59 (0, 0))) := by show _ = _; rw [hU, farM (by omega)]; exact HGz.out); (have HU2p : Hid (U2.heap[w1.heap.size]? = some (.cells #[.int .i64 k, .string nm, .int .i64 (kn : Nat), .int .i64 (ka : Nat), .int .i64 (kb : Nat)] 78 (0, 0))) := by show _ = _; rw [hU, farM (by have := HX1.out; omega)]; exact HGp.out); (have HU2B : Hid (Below w.heap.size w U2) := by rw [hU]; exact HGB.out.setCell (p := ⟨w.heap.size + 1, 2, none⟩) (by show w.heap.size ≤ w.heap.size + 1; omega) _); have hUe := hU.symm; clear hU HG5 HGz HGp HGB; go_wp2_with fail; clear u0 u1 u2 u3 u4 u5 hUe
                go_roundg (L - (i + 1))
                case measure => have := HGk.out; have := HIl.out; omega
                case rel =>
                  (refine ⟨i + 1, bm L (fun n => upTo i QA n || n == i), bm L (fun n => upTo i QB n || n == i), HIl.out, rfl, by go_num, ⟨?_, ?_⟩, HU2z, HU25, HU2B⟩)
                  · show _ = _
                    rw [bm_upTo_yes HQ.out.1]
                  · show _ = _
                    rw [bm_upTo_yes HQ.out.2]
    · have hii : i = L := by omega
      subst hii; (have hge : ¬ (i : Int) < (i : Int) := by omega); clear hlt hi; obtain ⟨z0, z1, z2, z3, z4, z5⟩ := blk3 HZ.out; obtain ⟨y0, y1, y2, -⟩ := blk3 H5.out; obtain ⟨F, hF⟩ : ∃ F, F = ((wr.setCell ⟨w.heap.size, 0, none⟩ (.int .u64 (h : Nat))).setCell ⟨w.heap.size, 1, none⟩ (.int .u64 (A : Nat))).setCell ⟨w.heap.size, 2, none⟩ (.int .u64 (B : Nat)) := ⟨_, rfl⟩; (have HF : Hid (F.heap[w.heap.size]? = some (.cells #[.int .u64 (h : Nat), .int .u64 (A : Nat), .int .u64 (B : Nat)] 59 (0, 0))) := by rw [hF]; exact set3M HZ.out _ _ _); (have HFB : Hid (Below w.heap.size w F) := by rw [hF]; exact ((HB.out.setCell (p := ⟨w.heap.size, 0, none⟩) (Nat.le_refl _) _).setCell (p := ⟨w.heap.size, 1, none⟩) (Nat.le_refl _) _).setCell (p := ⟨w.heap.size, 2, none⟩) (Nat.le_refl _) _); have hFe := hF.symm; clear hF; go_wp2_with fail; clear z0 z1 z2 z3 z4 z5 y0 y1 y2; obtain ⟨c0, c1, c2, -⟩ := blk3 HF.out; (refine bodyPost_ret (v := .agg #[.int .u64 (h : Nat), .int .u64 (A : Nat), .int .u64 (B : Nat)]) (by simp [results, Try.results50, go_sem, c0, c1, c2]) rfl ⟨?_, HFB.out⟩); rw [HAB.out.1, HAB.out.2, bm_upTo_all, bm_upTo_all]
end Go.Proofs.Ytmahgfgndfcmpah
