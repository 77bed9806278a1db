/- Texts of one proof, one behind the other: TY2, TY3, TV0, TS1, CM1, CB1. -/
import Derived.Test.YtalnljnincnbdacGreatB08
import Derived.Test.YtalnljnincnbdacGreatB05
import Derived.Test.YtalnljnincnbdacGreatB06
/- Walks: the yardstick's HasText, True, Row. -/
namespace Go.Proofs.YtalnljnincnbdacGreat
open Go.RowKit Go.Sort

set_option maxHeartbeats 1000000 in
theorem hasText_sl (l : List (List UInt8)) (t : List UInt8) (v : Value) (w : World) (h : SL w v l) :
    Calls Tryz.prog 62 #[v, .string ⟨t.toArray⟩] w fun e w' => e = .returned (.bool (decide (t ∈ l))) ∧ w' = w := by
  obtain ⟨ad, cap, rfl, h1, h2, h3⟩ := h; (have hlI : (l.length : Int) ≤ 9223372036854775807 := by unfold maxLen at h2; omega); have H3 : Hid (l ≠ [] → ∃ g off, ad = some ⟨g, off, none⟩ ∧ ∀ (j : Nat) (t : List UInt8), l[j]? = some t → w.cell? ⟨g, off + j, none⟩ = some (.string ⟨t.toArray⟩)) := h3; clear h3
  go_enter Tryz.func62, Tryz.ntmps62
  go_wp2_with fail
  go_loopg [5] l.length (fun g c wr => ∃ i, i ≤ l.length ∧ g = l.length - i ∧ c = .int .i64 (i : Nat) ∧ wr = w ∧ Hid (t ∉ l.take i))
  case atStart => exact ⟨0, by omega, by omega, rfl, rfl, by show _ ∉ _; simp⟩
  case round =>
    obtain ⟨i, hi, hg, rfl, rfl, HN⟩ := hrel; have HG : Hid (gk = l.length - i) := hg; clear hg; by_cases hlt : i < l.length
    · obtain ⟨x, hx⟩ : ∃ x, l[i]? = some x := ⟨_, List.getElem?_eq_getElem hlt⟩
      (obtain ⟨g, off, rfl, hc⟩ := H3.out (fun e => by rw [e] at hlt; simp at hlt)); have g0 := hc i x hx; (have hltI : (i : Int) < (l.length : Int) := by omega); (have hlc : (i : Int) < (cap : Int) := by omega); have HX : Hid (l[i]? = some x) := hx; clear hc hx H3; by_cases hxt : x = t
      · subst hxt
        have HD : Hid (decide (x ∈ l) = true) := by
          show _ = _; exact decide_eq_true (List.mem_of_getElem? HX.out)
        go_wp2_with fail; go_ret; (exact ⟨by rw [HD.out]; rfl, rfl⟩)
      · have hne : ((⟨x.toArray⟩ : ByteArray).toList == (⟨t.toArray⟩ : ByteArray).toList) = false := by
          rw [beq_eq_false_iff_ne, Ne, txt_eq]; exact hxt
        have HNN : Hid (t ∉ l.take (i + 1)) := by
          show _ ∉ _; rw [List.take_add_one, HX.out]; intro hm
          rcases List.mem_append.1 hm with h | h
          · exact HN.out h
          · simp at h; exact hxt h.symm
        generalize hb : (⟨x.toArray⟩ : ByteArray) = X at *; generalize hb2 : (⟨t.toArray⟩ : ByteArray) = Y at *; clear hb hb2 HX; go_wp2_with fail
        go_roundg (l.length - (i + 1))
        case measure => have := HG.out; omega
        case rel => exact ⟨i + 1, by omega, rfl, by go_num, rfl, HNN⟩
    · have HD : Hid (decide (t ∈ l) = false) := by
        show _ = _; have := HN.out; (rw [List.take_of_length_le (by omega)] at this); exact decide_eq_false this
      (have hge : ¬ (i : Int) < (l.length : Int) := by omega); clear H3 HN; go_wp2_with fail; go_ret; (exact ⟨by rw [HD.out]; rfl, rfl⟩)

/-! The yardstick's row. -/
theorem half_bit (r i : Nat) : (r / 2 ^ i % 2 = 1) ↔ r.testBit i = true := by
  rw [Nat.testBit_eq_decide_div_mod_eq]; simp

set_option maxHeartbeats 2000000 in
theorem row_any (r : Nat) (hr : r ≤ 100000) (l : List (List UInt8)) (hl : l.length ≤ 1000) (u : Value) (w : World) (hu : SL w u l) :
    Calls Tryz.prog 106 #[u, .int .i64 (r : Nat)] w fun e w' => ∃ x, e = .returned x ∧ TL w' x (rowN r l 0) ∧ Below w.heap.size w w' := by
  obtain ⟨ad, cap, rfl, h1, h2, h3⟩ := hu; (have hlI : (l.length : Int) ≤ 1000 := by omega); have H3 : Hid (l ≠ [] → ∃ g off, ad = some ⟨g, off, none⟩ ∧ ∀ (j : Nat) (t : List UInt8), l[j]? = some t → w.cell? ⟨g, off + j, none⟩ = some (.string ⟨t.toArray⟩)) := h3; obtain ⟨i0, hi, hz0, hz1, hz2⟩ := infoText; clear h3
  go_enter Tryz.func106, Tryz.ntmps106
  go_wp2_with fail
  go_loopg [6, 5, 1] l.length (fun g c o k wr => ∃ i ad cy, i ≤ l.length ∧ g = l.length - i ∧ c = .int .i64 (i : Nat) ∧ k = .int .i64 ((r / 2 ^ i : Nat) : Int) ∧ o = .slice ad (rowN r (l.take i) 0).length cy ∧ Below w.heap.size w wr ∧ Hid (KS w.heap.size wr ad cy (rowN r (l.take i) 0)))
  case atStart => exact ⟨0, none, 0, by omega, by omega, rfl, by simp, rfl, Below.refl _ _, KS.nil⟩
  case round =>
    obtain ⟨i, ad', cy, hile, hg, rfl, rfl, rfl, hbr, HK⟩ := hrel; have HG : Hid (gk = l.length - i) := hg; clear hg; by_cases hlt : i < l.length
    · obtain ⟨t, ht⟩ : ∃ x, l[i]? = some x := ⟨_, List.getElem?_eq_getElem hlt⟩
      (obtain ⟨g, off, rfl, hc⟩ := H3.out (fun e => by rw [e] at hlt; simp at hlt)); have g0 := (hbr.cell (p := ⟨g, off + i, none⟩) (lt_of_cell (hc i t ht))).trans (hc i t ht); (have hltI : (i : Int) < (l.length : Int) := by omega); (have hlc : (i : Int) < (cap : Int) := by omega); (have hti : (l.take i).length = i := by rw [List.length_take]; omega)
      have hT : rowN r (l.take (i + 1)) 0 = rowN r (l.take i) 0 ++ if r.testBit i then [t] else [] := by
        rw [List.take_add_one, ht]; show rowN r (_ ++ [t]) 0 = _; rw [rowN_snoc, hti, Nat.zero_add]
      have hRl := rowN_len r (l.take i) 0; (have hdv : r / 2 ^ (i + 1) = r / 2 ^ i / 2 := by rw [Nat.pow_succ, Nat.div_div_eq_div_mul]); have hkb : r / 2 ^ i ≤ 100000 := Nat.le_trans (Nat.div_le_self _ _) hr; have hbit := half_bit r i; generalize hR : rowN r (l.take i) 0 = R at *; rw [hti] at hRl; have HDv : Hid (r / 2 ^ (i + 1) = r / 2 ^ i / 2) := hdv; generalize hk : r / 2 ^ i = k at *; (have hkI : (k : Int) ≤ 100000 := by omega); clear hc ht H3 hR hdv hk hr
      rcases hb : r.testBit i with _ | _
      · rw [hb] at hT hbit
        have HT : Hid (rowN r (l.take (i + 1)) 0 = R) := by
          show _ = _; rw [hT]; simp
        have hkm : ((k : Int) % 2 == 1) = false := by
          (have : ¬ k % 2 = 1 := fun h => by simpa using hbit.1 h)
          simp; omega
        have hkm2 : ¬ (k : Int) % 2 = 1 := by
          (have : ¬ k % 2 = 1 := fun h => by simpa using hbit.1 h); omega
        clear hT hb hbit; go_wp2_with fail
        go_roundg (l.length - (i + 1))
        case measure => have := HG.out; omega
        case rel => exact ⟨i + 1, ad', cy, by omega, rfl, by go_num, by rw [HDv.out]; go_num, by rw [HT.out], hbr, by show KS _ _ _ _ _; rw [HT.out]; exact HK.out⟩
      · rw [hb] at hT hbit
        have HT : Hid (rowN r (l.take (i + 1)) 0 = R ++ [t]) := by
          show _ = _; rw [hT]; simp
        have hkm : ((k : Int) % 2 == 1) = true := by
          have : k % 2 = 1 := hbit.2 rfl
          simp; omega
        have hkm2 : (k : Int) % 2 = 1 := by
          have : k % 2 = 1 := hbit.2 rfl; omega
        clear hT hb hbit
        go_wp2_with (first
          | (at_builtin
             (refine wpList_append_lies _ rfl _ _ 33 rfl w.heap.size 9 i0 (.string ⟨#[]⟩) 1 16 Tryz.underlying33 hi hz0 hz1 hz2 rfl (by decide) _ _ _ rfl (owns_up HK.out ((Below.refl _ wr).alloc (Nat.le_refl _) (.cells #[.string ⟨t.toArray⟩] 9 (0, 0)))) ⟨wr.heap.size, 0, none⟩ 1 1 [.string ⟨t.toArray⟩] rfl rfl ?_ ?_ (by omega) (by unfold maxLen; omega) (by omega) (by have := hbr.size; simp; omega) _ rfl ?_)
             · intro j u hu
               rw [add_none, Nat.zero_add, blk_cell (blk_new wr _)]; simpa using hu
             · intro u hu
               simp at hu
               rcases hu with rfl; rfl
             intro g5 cp5 w5 hown5 hgrow5 hat5 hlt5; have BF := below_grown hbr hbr.size HK.out hgrow5
             have HKN : Hid (KS w.heap.size w5 (some ⟨g5, 0, none⟩) cp5 (R ++ [t])) := by
               show KS _ _ _ _ _; unfold KS; rw [List.map_append, List.length_append]; exact hown5
             clear hown5 hgrow5 hat5)
          | fail)
        go_roundg (l.length - (i + 1))
        case measure => have := HG.out; omega
        case rel => exact ⟨i + 1, some ⟨g5, 0, none⟩, cp5, by omega, rfl, by go_num, by rw [HDv.out]; go_num, by rw [HT.out, List.length_append]; rfl, BF, by show KS _ _ _ _ _; rw [HT.out]; exact HKN.out⟩
    · have HKE : Hid (KS w.heap.size wr ad' cy (rowN r l 0)) := by
        have := HK.out; (rw [List.take_of_length_le (by omega)] at this); exact this
      (have hTE : rowN r (l.take i) 0 = rowN r l 0 := by rw [List.take_of_length_le (by omega)]); (have hge : ¬ (i : Int) < (l.length : Int) := by omega); clear HK H3; rw [hTE]; clear hTE; go_wp2_with fail; go_ret; exact ⟨_, rfl, HKE.out.list, hbr⟩
end Go.Proofs.YtalnljnincnbdacGreat
/- Walks: the yardstick's True. -/
namespace Go.Proofs.YtalnljnincnbdacGreat
open Go.RowKit Go.Sort

/-- A list of bools that is being made. -/
def KB (B : Nat) (w : World) (ad : Option Addr) (cap : Nat) (l : List Bool) : Prop := w.ownsRow B 4 1 (.slice ad l.length cap) l.length (l.map Value.bool)
theorem KB.nil {B : Nat} {w : World} : KB B w none 0 [] := ⟨rfl, Or.inl ⟨rfl, rfl⟩⟩
theorem KB.up {B : Nat} {w w' : World} {ad : Option Addr} {cap : Nat} {l : List Bool} (h : KB B w ad cap l) (hb : Below w.heap.size w w') : KB B w' ad cap l := owns_up h hb
theorem KB.ne {B : Nat} {w : World} {ad : Option Addr} {cap : Nat} {l : List Bool} (h : KB B w ad cap l) (hl : l ≠ []) : ∃ g, ad = some ⟨g, 0, none⟩ ∧ l.length ≤ cap ∧ cap ≤ maxLen ∧ ∀ (j : Nat) (b : Bool), l[j]? = some b → w.cell? ⟨g, j, none⟩ = some (.bool b) := by
  have h' := h
  rcases h'.2 with ⟨hv, h0⟩ | ⟨g, cap', cur, hv, hg, hh, h1, h2, -⟩
  · exact absurd (List.length_eq_zero_iff.1 h0) hl
  · simp only [Value.slice.injEq, true_and] at hv
    obtain ⟨rfl, rfl⟩ := hv; (refine ⟨g, rfl, h1, h2, fun j b hb => ?_⟩); (have := h.cells (g := g) rfl j (.bool b) (by rw [List.getElem?_map, hb]; rfl)); rw [add_none, Nat.zero_add] at this; exact this
theorem KB.list {B : Nat} {w : World} {ad : Option Addr} {cap : Nat} {l : List Bool} (h : KB B w ad cap l) : BL w (.slice ad l.length cap) l := by
  by_cases hl : l = []
  · subst hl
    rcases h.2 with ⟨hv, h0⟩ | ⟨g, cap', cur, hv, hg, hh, h1, h2, -⟩
    · simp only [Value.slice.injEq] at hv
      (exact ⟨ad, cap, rfl, by simp, by rw [hv.2.2]; simp, fun h => absurd rfl h⟩)
    · simp only [Value.slice.injEq, true_and] at hv
      (exact ⟨ad, cap, rfl, by simp, by rw [hv.2]; exact h2, fun h => absurd rfl h⟩)
  · obtain ⟨g, rfl, h1, h2, h3⟩ := h.ne hl
    (exact ⟨_, cap, rfl, h1, h2, fun _ => ⟨g, 0, rfl, fun j b hb => by rw [Nat.zero_add]; exact h3 j b hb⟩⟩)

def TrueR (l : List (List UInt8)) (m : Nat) : Prop := ∀ (f : Fm) (v u : Value) (w : World), f.size < m → Fine f → Rep w (fun _ => True) f v → SL w u l →
  Calls Tryz.prog 57 #[v, u] w fun e w' => e = .returned (.bool (tv (fun t => decide (t ∈ l)) f)) ∧ Below w.heap.size w w'

theorem tvs_take (p : List UInt8 → Bool) : ∀ (ks : List Fm) (i : Nat) (f : Fm), ks[i]? = some f → (tvs p ks).take (i + 1) = (tvs p ks).take i ++ [tv p f]
  | [], i, f, h => by simp at h
  | k :: ks, 0, f, h => by simp at h; subst h; rw [tvs]; simp
  | k :: ks, i + 1, f, h => by
    (have := tvs_take p ks i f (by simpa using h)); rw [tvs, List.take_succ_cons, List.take_succ_cons, this, List.cons_append]
theorem tvs_len (p : List UInt8 → Bool) : ∀ ks : List Fm, (tvs p ks).length = ks.length
  | [] => by rw [tvs]; rfl
  | k :: ks => by rw [tvs, List.length_cons, List.length_cons, tvs_len p ks]

set_option maxHeartbeats 8000000 in
theorem trueR_step (l : List (List UInt8)) (m : Nat) (ih : TrueR l m) : TrueR l (m + 1) := by
  intro f v u w hm hfi hrep hu; obtain ⟨k, n, ks⟩ := f; obtain ⟨sl, cap, rfl, hx1, hx2, hx3, hx4⟩ := Rep.def.1 hrep; (have HX : Hid (ks ≠ [] → ∃ b off, sl = some ⟨b, off, none⟩ ∧ True ∧ Reps w (fun _ => True) b off ks) := hx4); have HU : Hid (SL w u l) := hu; obtain ⟨adU, cpU, rfl, -⟩ := hu; have hk2 := hfi.small.2; (have hkI : (ks.length : Int) ≤ 2 := by omega); obtain ⟨i0, hi, hz0, hz1, hz2⟩ := infoBool; have q0 := blk_new w (.cells #[.int .i64 k, .string n, .slice sl ks.length cap] 29 (0, 0)); have B0 := below_more (Below.refl _ w) (.cells #[.int .i64 k, .string n, .slice sl ks.length cap] 29 (0, 0)); have HF : Hid (Fine (.mk k n ks)) := hfi; (have HV : Hid (∀ bs, bs = tvs (fun t => decide (t ∈ l)) ks → tv (fun t => decide (t ∈ l)) (.mk k n ks) = val k (decide (n.data.toList ∈ l)) bs) := fun bs hb => by rw [hb, tv]); (have htl := tvs_len (fun t => decide (t ∈ l)) ks); (generalize tv (fun t => decide (t ∈ l)) (.mk k n ks) = res at *); (obtain ⟨bs, hbs⟩ : ∃ bs, bs = tvs (fun t => decide (t ∈ l)) ks := ⟨_, rfl⟩); (have HBs : Hid (bs = tvs (fun t => decide (t ∈ l)) ks) := hbs); rw [← hbs] at htl; clear hx4 hfi hbs hrep
  go_enter Tryz.func57, Tryz.ntmps57
  go_wp2_with fail
  go_loopg [6, 5] ks.length (fun g c o wr => ∃ i ad cy, i ≤ ks.length ∧ g = ks.length - i ∧ c = .int .i64 (i : Nat) ∧ o = .slice ad (bs.take i).length cy ∧ Below w.heap.size w wr ∧ wr.heap[w.heap.size]? = some (.cells #[.int .i64 k, .string n, .slice sl ks.length cap] 29 (0, 0)) ∧ Hid (KB (w.heap.size + 1) wr ad cy (bs.take i)))
  case atStart => exact ⟨0, none, 0, by omega, by omega, rfl, rfl, B0, q0, KB.nil⟩
  case round =>
    obtain ⟨i, ad, cy, hile, hg, rfl, rfl, hbr, q1, HK⟩ := hrel; have HG : Hid (gk = ks.length - i) := hg; clear hg; obtain ⟨a0, a1, a2, -⟩ := blk3 q1; have z1 := lt_of_block q1; by_cases hlt : i < ks.length
    · obtain ⟨⟨k2, n2, ks2⟩, hki⟩ : ∃ f, ks[i]? = some f := ⟨_, List.getElem?_eq_getElem hlt⟩
      (have hltI : (i : Int) < (ks.length : Int) := by omega); (have hlc : (i : Int) < (cap : Int) := by omega); (obtain ⟨b, off, rfl, -, hrs⟩ := HX.out (fun e => by rw [e] at hlt; simp at hlt)); obtain ⟨sl2, cap2, g0, g1, g2, hrep2⟩ := (hrs.up hbr).at i k2 n2 ks2 hki; (have hsz : (Fm.mk k2 n2 ks2).size < m := by have := sizes_get hki; rw [Fm.size] at hm; omega); (have hca := fun v u wx h hu => ih (.mk k2 n2 ks2) v u wx hsz (HF.out.kid i _ hki) h hu); (have hT : bs.take (i + 1) = bs.take i ++ [tv (fun t => decide (t ∈ l)) (.mk k2 n2 ks2)] := by rw [HBs.out]; exact tvs_take _ _ _ _ hki); (have hRl : (bs.take i).length ≤ 2 := by rw [List.length_take]; omega); (generalize tv (fun t => decide (t ∈ l)) (.mk k2 n2 ks2) = y at *); have HT : Hid (bs.take (i + 1) = bs.take i ++ [y]) := hT; clear hT; generalize bs.take i = R at *; have HC : Hid (∀ v u wx, _ → SL wx u l → Calls Tryz.prog 57 _ wx _) := hca; clear hki hrs HX hca
      go_wp2_with (first
        | (go_at_call 57
           refine (HC.out _ _ _ hrep2 (HU.out.up hbr)).mono ?_; rintro e w2 ⟨rfl, hb2⟩; have q2 := below_keep hb2 q1; have B2 := below_join hbr hb2; have HK2 : Hid (KB (w.heap.size + 1) w2 ad cy R) := HK.out.up hb2
           have z2 := lt_of_block q2)
        | (at_builtin
           (refine wpList_append_lies _ rfl _ _ 59 rfl (w.heap.size + 1) 4 i0 (.bool false) 1 1 Tryz.underlying59 hi hz0 hz1 hz2 rfl (by decide) _ _ _ rfl (owns_up HK2.out ((Below.refl _ w2).alloc (Nat.le_refl _) (.cells #[.bool y] 4 (0, 0)))) ⟨w2.heap.size, 0, none⟩ 1 1 [.bool y] rfl rfl ?_ ?_ (by omega) (by unfold maxLen; omega) (by omega) (by simp; omega) _ rfl ?_)
           · intro j u hu
             rw [add_none, Nat.zero_add, blk_cell (blk_new w2 _)]; simpa using hu
           · intro u hu
             simp at hu
             rcases hu with rfl; rfl
           intro g5 cp5 w5 hown5 hgrow5 hat5 hlt5; (have BB := below_grown (show Below (w.heap.size + 1) w2 w2 from Below.refl _ _) (by omega) HK2.out hgrow5); (have q5 := (BB.block w.heap.size (by omega)).trans q2); have BF := B2.trans (BB.mono (Nat.le_succ _))
           have HKN : Hid (KB (w.heap.size + 1) w5 (some ⟨g5, 0, none⟩) cp5 (R ++ [y])) := by
             show KB _ _ _ _ _; unfold KB; rw [List.map_append, List.length_append]; exact hown5
           clear hown5 hgrow5 hat5)
        | fail)
      go_roundg (ks.length - (i + 1))
      case measure => have := HG.out; omega
      case rel => exact ⟨i + 1, some ⟨g5, 0, none⟩, cp5, by omega, rfl, by go_num, by rw [HT.out, List.length_append]; rfl, BF, q5, by show KB _ _ _ _ _; rw [HT.out]; exact HKN.out⟩
    · obtain rfl : i = ks.length := by omega
      (have hTE : bs.take ks.length = bs := List.take_of_length_le (by omega)); rw [hTE] at HK ⊢; have HR : Hid (res = val k (decide (n.data.toList ∈ l)) bs) := HV.out bs HBs.out; have HTl : Hid (bs.length = ks.length) := htl; clear hTE HX HBs HV htl hile hlt hkI hk2 hx1 hx2 hx3 hm
      rcases HF.out.forms with ⟨n', e, hn⟩ | e | e | ⟨k', g, hk, e, hg⟩ | ⟨k', g, g', hk, e, hg, hg'⟩
      · cases e
        have hht := hasText_sl l n.data.toList _ wr (HU.out.up hbr); have HHt : Hid (Calls Tryz.prog 62 #[.slice adU l.length cpU, .string n] wr _) := hht; have HR2 : Hid (res = decide (n.data.toList ∈ l)) := HR.out; clear hht hn HR HK; generalize decide (n.data.toList ∈ l) = bb at *
        go_wp2_with (first
          | (go_at_call 62
             refine HHt.out.mono ?_
             rintro e w2 ⟨rfl, rfl⟩)
          | fail)
        go_ret; (exact ⟨by rw [HR2.out]; rfl, hbr⟩)
      · cases e
        have HR2 : Hid (res = true) := HR.out; clear HR HK; go_wp2_with fail; go_ret; (exact ⟨by rw [HR2.out]; rfl, hbr⟩)
      · cases e
        have HR2 : Hid (res = false) := HR.out; clear HR HK; go_wp2_with fail; go_ret; (exact ⟨by rw [HR2.out]; rfl, hbr⟩)
      · cases e
        obtain ⟨x, rfl⟩ : ∃ x, bs = [x] := by
          match bs, HTl.out with
          | [x], _ => exact ⟨x, rfl⟩
        clear HTl; (obtain ⟨gB, rfl, hc1, hc2, hcs⟩ := HK.out.ne (by simp)); have c0 := hcs 0 x rfl; (have hcI : (1 : Int) ≤ (cy : Int) := by simp at hc1; omega); clear hcs HK
        rcases hk with rfl | rfl | rfl
        · have HR2 : Hid (res = !x) := HR.out
          clear HR; go_wp2_with fail; go_ret; (exact ⟨by rw [HR2.out]; rfl, hbr⟩)
        · have HR2 : Hid (res = false) := HR.out
          clear HR; go_wp2_with fail; go_ret; (exact ⟨by rw [HR2.out]; rfl, hbr⟩)
        · have HR2 : Hid (res = false) := HR.out
          clear HR; go_wp2_with fail; go_ret; (exact ⟨by rw [HR2.out]; rfl, hbr⟩)
      · cases e
        obtain ⟨x, y, rfl⟩ : ∃ x y, bs = [x, y] := by
          match bs, HTl.out with
          | [x, y], _ => exact ⟨x, y, rfl⟩
        clear HTl; (obtain ⟨gB, rfl, hc1, hc2, hcs⟩ := HK.out.ne (by simp)); have c0 := hcs 0 x rfl; have c1 := hcs 1 y rfl; (have hcI : (2 : Int) ≤ (cy : Int) := by simp at hc1; omega); clear hcs HK
        rcases hk with rfl | rfl | rfl
        · have HR2 : Hid (res = (x && y)) := HR.out
          clear HR
          cases x
          all_goals
            go_wp2_with fail; go_ret; (exact ⟨by rw [HR2.out]; simp, hbr⟩)
        · have HR2 : Hid (res = (x || y)) := HR.out
          clear HR
          cases x
          all_goals
            go_wp2_with fail; go_ret; (exact ⟨by rw [HR2.out]; simp, hbr⟩)
        · have HR2 : Hid (res = (!x || y)) := HR.out
          clear HR
          cases y
          all_goals
            go_wp2_with fail; go_ret; (exact ⟨by rw [HR2.out]; simp, hbr⟩)

theorem trueRs_all (l : List (List UInt8)) : ∀ m, TrueR l m
  | 0 => fun _ _ _ _ h => absurd h (Nat.not_lt_zero _)
  | m + 1 => trueR_step l m (trueRs_all l m)

theorem trueR_any (l : List (List UInt8)) (f : Fm) (v u : Value) (w : World) (hf : Fine f) (hrep : Rep w (fun _ => True) f v) (hu : SL w u l) :
    Calls Tryz.prog 57 #[v, u] w fun e w' => e = .returned (.bool (tv (fun t => decide (t ∈ l)) f)) ∧ Below w.heap.size w w' :=
  trueRs_all l (f.size + 1) f v u w (Nat.lt_succ_self _) hf hrep hu
end Go.Proofs.YtalnljnincnbdacGreat
/- The plain mathematics of TruthValues: a row as a list of names, and as digits. -/
namespace Go.Proofs.YtalnljnincnbdacGreat
open Go.Sort

theorem tv_congr (p q : List UInt8 → Bool) : ∀ (m : Nat) (f : Fm), f.size ≤ m → Fine f → (∀ t ∈ nmsT f, p t = q t) → tv p f = tv q f
  | 0, .mk k n ks, h, _, _ => by rw [Fm.size] at h; omega
  | m + 1, f, h, hf, hpq => by
    rcases hf.forms with ⟨n, rfl, hn⟩ | rfl | rfl | ⟨k, g, hk, rfl, hg⟩ | ⟨k, g, g', hk, rfl, hg, hg'⟩
    · rw [tv_name, tv_name]
      (exact hpq _ (by unfold nmsT; rw [allN_leaf]; simp [nmsOf]))
    · rw [tv_true, tv_true]
    · rw [tv_false, tv_false]
    · rw [size_one] at h
      have hsub : ∀ t ∈ nmsT g, t ∈ nmsT (.mk k ⟨#[]⟩ [g]) := fun t ht => by
        unfold nmsT at *; rw [allN_one, nmsOf]
        split
        · rw [List.map_cons]; exact List.mem_cons_of_mem _ ht
        · exact ht
      (have ih := tv_congr p q m g (by omega) hg fun t ht => hpq t (hsub t ht)); rw [tv, tvs, tvs, tv, tvs, tvs, ih]
      rcases hk with rfl | rfl | rfl <;> rfl
    · rw [size_two] at h
      have hsub : ∀ t, t ∈ nmsT g ∨ t ∈ nmsT g' → t ∈ nmsT (.mk k ⟨#[]⟩ [g, g']) := fun t ht => by
        unfold nmsT at *; rw [allN_two, nmsOf]
        have : t ∈ (nmsOf (allN g ++ allN g')).map (·.data.toList) := by
          rw [nmsOf_append, List.map_append, List.mem_append]; exact ht
        split
        · rw [List.map_cons]; exact List.mem_cons_of_mem _ this
        · exact this
      (have ih := tv_congr p q m g (by omega) hg fun t ht => hpq t (hsub t (Or.inl ht))); (have ih' := tv_congr p q m g' (by omega) hg' fun t ht => hpq t (hsub t (Or.inr ht))); rw [tv, tvs, tvs, tvs, tv, tvs, tvs, tvs, ih, ih']
      rcases hk with rfl | rfl | rfl <;> rfl

theorem rowN_mem (r : Nat) : ∀ (l : List (List UInt8)) (i : Nat) (t : List UInt8), t ∈ rowN r l i ↔ ∃ j, l[j]? = some t ∧ r.testBit (i + j) = true
  | [], i, t => by simp [rowN]
  | s :: l, i, t => by
    rw [rowN]; have ih := rowN_mem r l (i + 1) t
    have hsp : (∃ j, (s :: l)[j]? = some t ∧ r.testBit (i + j) = true) ↔ (s = t ∧ r.testBit i = true) ∨ ∃ j, l[j]? = some t ∧ r.testBit (i + 1 + j) = true := by
      constructor
      · rintro ⟨j, h1, h2⟩
        cases j with
        | zero => simp at h1; exact Or.inl ⟨h1, by simpa using h2⟩
        | succ j => exact Or.inr ⟨j, by simpa using h1, by rw [show i + 1 + j = i + (j + 1) by omega]; exact h2⟩
      · rintro (⟨h1, h2⟩ | ⟨j, h1, h2⟩)
        · exact ⟨0, by simp [h1], by simpa using h2⟩
        · exact ⟨j + 1, by simpa using h1, by rw [show i + (j + 1) = i + 1 + j by omega]; exact h2⟩
    rw [hsp]
    split
    · rename_i hb
      rw [List.mem_cons, ih]
      constructor
      · rintro (h | h)
        · exact Or.inl ⟨h.symm, hb⟩
        · exact Or.inr h
      · rintro (⟨h, -⟩ | h)
        · exact Or.inl h.symm
        · exact Or.inr h
    · rename_i hb
      rw [ih]
      constructor
      · exact Or.inr
      · rintro (⟨-, h⟩ | h)
        · exact absurd h hb
        · exact h

/-- A name of the list is true in a row just where its digit is 1. -/
theorem row_digit {l : List (List UInt8)} (hn : l.Nodup) (r : Nat) {t : List UInt8} (ht : t ∈ l) : decide (t ∈ rowN r l 0) = colP r l t := by
  obtain ⟨i, hi, hit⟩ := List.getElem_of_mem ht; (have hg : l[i]? = some t := by rw [List.getElem?_eq_getElem hi, hit]); have hix := idxOf_of_get hn hg; unfold colP; rw [if_pos ht, hix]
  rcases hb : r.testBit i with _ | _
  · refine decide_eq_false fun h => ?_
    obtain ⟨j, h1, h2⟩ := (rowN_mem r l 0 t).1 h; have := idxOf_of_get hn h1; rw [Nat.zero_add] at h2; (have hji : j = i := by omega); rw [hji, hb] at h2
    cases h2
  · exact decide_eq_true ((rowN_mem r l 0 t).2 ⟨i, hg, by rw [Nat.zero_add]; exact hb⟩)

theorem tv_row {f : Fm} (hf : Fine f) (l : List (List UInt8)) (hn : l.Nodup) (hl : ∀ t ∈ nmsT f, t ∈ l) (r : Nat) : tv (fun t => decide (t ∈ rowN r l 0)) f = tv (colP r l) f :=
  tv_congr _ _ f.size f (Nat.le_refl _) hf fun t ht => row_digit hn r (hl t ht)

end Go.Proofs.YtalnljnincnbdacGreat
/- The plain mathematics of TruthSubstitutes: what is put for a name, and rows. -/
namespace Go.Proofs.YtalnljnincnbdacGreat
open Go.Sort

/-- Each way for the names of a list to be true is a row. -/
theorem row_of : ∀ (n : Nat) (q : Nat → Bool), ∃ r, r < 2 ^ n ∧ ∀ i, i < n → r.testBit i = q i
  | 0, q => ⟨0, by simp, fun i h => absurd h (Nat.not_lt_zero _)⟩
  | n + 1, q => by
    obtain ⟨r, hr, hb⟩ := row_of n q
    cases hq : q n with
    | false =>
      (refine ⟨r, by rw [Nat.pow_succ]; omega, fun i hi => ?_⟩); by_cases h : i = n
      · subst h; rw [hq, Nat.testBit_lt_two_pow hr]
      · exact hb i (by omega)
    | true =>
      (refine ⟨2 ^ n + r, by rw [Nat.pow_succ]; omega, fun i hi => ?_⟩); by_cases h : i = n
      · subst h; rw [hq, Nat.testBit_two_pow_add_eq, Nat.testBit_lt_two_pow hr]; rfl
      · rw [Nat.testBit_two_pow_add_gt (by omega)]
        (exact hb i (by omega))

theorem row_with {l : List (List UInt8)} (hn : l.Nodup) (q : List UInt8 → Bool) : ∃ r, r < 2 ^ l.length ∧ ∀ t ∈ l, colP r l t = q t := by
  (obtain ⟨r, hr, hb⟩ := row_of l.length (fun i => q ((l[i]?).getD []))); (refine ⟨r, hr, fun t ht => ?_⟩); obtain ⟨i, hi, hit⟩ := List.getElem_of_mem ht; (have hg : l[i]? = some t := by rw [List.getElem?_eq_getElem hi, hit]); unfold colP; rw [if_pos ht, idxOf_of_get hn hg, hb i hi, hg]; rfl

end Go.Proofs.YtalnljnincnbdacGreat
/- Proofs as data, and what the checker says of them. -/
namespace Go.Proofs.YtalnljnincnbdacGreat

instance : BEq Fm := ⟨sameB⟩
instance : LawfulBEq Fm where
  eq_of_beq := fun {a b} h => sameB_eq a b h
  rfl := fun {a} => sameB_refl a
instance : DecidableEq Fm := fun a b => if h : (a == b) = true then isTrue (eq_of_beq h) else isFalse fun e => h (by rw [e]; exact sameB_refl b)

/-- A proof: rule, formula, its end's two sides, and the proofs in it. -/
inductive Pf where
  | mk (rule : ByteArray) (f : Fm) (l r : List Fm) (ks : List Pf) : Pf
def Pf.rule : Pf → ByteArray
  | .mk a _ _ _ _ => a
def Pf.f : Pf → Fm
  | .mk _ f _ _ _ => f
def Pf.l : Pf → List Fm
  | .mk _ _ l _ _ => l
def Pf.r : Pf → List Fm
  | .mk _ _ _ r _ => r
def Pf.ks : Pf → List Pf
  | .mk _ _ _ _ ks => ks

/-- The code of the first formula that is not plain, and its number. -/
def firstBad : List Fm → Nat → Int × Int
  | [], _ => (0, 0)
  | f :: fs, i => if f.pcode.1 = 0 then firstBad fs (i + 1) else (f.pcode.1, (i : Nat))
def seqCode (l r : List Fm) : Int × Int := if 60 < l.length + r.length then (2, 0) else firstBad (l ++ r) 0

inductive Ru
  | ax | tr | fa | andL | andR | orL | thenR | notR | contrL | orR | thenL | notL | contrR | cut | orR1 | orR2
  deriving DecidableEq

/-- The rules' names: ax, true, false, and-l, and-r, or-l, then-r, not-r, contr-l, or-r, then-l, not-l, contr-r, cut, or-r1, or-r2; weak. -/
def Ru.text : Ru → List UInt8
  | ax => [97, 120]
  | tr => [116, 114, 117, 101]
  | fa => [102, 97, 108, 115, 101]
  | andL => [97, 110, 100, 45, 108]
  | andR => [97, 110, 100, 45, 114]
  | orL => [111, 114, 45, 108]
  | thenR => [116, 104, 101, 110, 45, 114]
  | notR => [110, 111, 116, 45, 114]
  | contrL => [99, 111, 110, 116, 114, 45, 108]
  | orR => [111, 114, 45, 114]
  | thenL => [116, 104, 101, 110, 45, 108]
  | notL => [110, 111, 116, 45, 108]
  | contrR => [99, 111, 110, 116, 114, 45, 114]
  | cut => [99, 117, 116]
  | orR1 => [111, 114, 45, 114, 49]
  | orR2 => [111, 114, 45, 114, 50]
def weakT : List UInt8 := [119, 101, 97, 107]
/-- The rules of a calculus. -/
def rulesL (i : Bool) : List Ru := [.ax, .tr, .fa, .andL, .andR, .orL, .thenR, .notR, .contrL] ++ if i then [.orR1, .orR2, .thenL, .notL, .cut] else [.orR, .thenL, .notL, .contrR, .cut]
def ruleOf (i : Bool) (t : List UInt8) : Option Ru := (rulesL i).find? fun r => decide (r.text = t)

def Fm.kidA : Fm → Fm
  | .mk _ _ (a :: _) => a
  | f => f
def Fm.kidB : Fm → Fm
  | .mk _ _ (_ :: b :: _) => b
  | f => f
/-- The premises, if the rule applies. -/
def prem (i : Bool) (q : Ru) (f : Fm) (l r : List Fm) : Option (List (List Fm × List Fm)) :=
  let g := l.erase f
  let d := r.erase f
  let a := f.kidA
  let b := f.kidB
  match q with
  | .ax => if f ∈ l ∧ f ∈ r then some [] else none
  | .tr => if f.kind = 2 ∧ f ∈ r then some [] else none
  | .fa => if f.kind = 3 ∧ f ∈ l then some [] else none
  | .andL => if f.kind = 5 ∧ f ∈ l then some [(g ++ [a, b], r)] else none
  | .andR => if f.kind = 5 ∧ f ∈ r then some [(l, d ++ [a]), (l, d ++ [b])] else none
  | .orL => if f.kind = 6 ∧ f ∈ l then some [(g ++ [a], r), (g ++ [b], r)] else none
  | .thenR => if f.kind = 7 ∧ f ∈ r then some [(l ++ [a], d ++ [b])] else none
  | .notR => if f.kind = 4 ∧ f ∈ r then some [(l ++ [a], d)] else none
  | .contrL => if f ∈ l then some [(l ++ [f], r)] else none
  | .orR => if f.kind = 6 ∧ f ∈ r then some [(l, d ++ [a, b])] else none
  | .thenL => if f.kind = 7 ∧ f ∈ l then some [(g, if i then [a] else r ++ [a]), (g ++ [b], r)] else none
  | .notL => if f.kind = 4 ∧ f ∈ l then some [(g, if i then [a] else r ++ [a])] else none
  | .contrR => if f ∈ r then some [(l, r ++ [f])] else none
  | .cut => some [(l, if i then [f] else r ++ [f]), (l ++ [f], r)]
  | .orR1 => if f.kind = 6 ∧ f ∈ r then some [(l, [a])] else none
  | .orR2 => if f.kind = 6 ∧ f ∈ r then some [(l, [b])] else none

/-- Has no formula more often than. -/
def within : List Fm → List Fm → Bool
  | [], _ => true
  | f :: l, m => decide (f ∈ m) && within l (m.erase f)
def isEq (l m : List Fm) : Bool := decide (l.length = m.length) && within l m
def kidsC : List Pf → List (List Fm × List Fm) → Int
  | k :: ks, s :: ss => if isEq k.l s.1 && isEq k.r s.2 then kidsC ks ss else 7
  | _, _ => 0
def weakC (f : Fm) (l r : List Fm) (ks : List Pf) : Int :=
  if f = .mk 0 ⟨#[]⟩ [] then (match ks with
    | [k] => if within k.l l && within k.r r then 0 else 7
    | _ => 9) else 5
def stepC (i : Bool) : Pf → Int
  | .mk a f l r ks =>
    if (seqCode l r).1 ≠ 0 ∨ (i = true ∧ 1 < r.length) then 5
    else if a.data.toList = weakT then weakC f l r ks
    else match ruleOf i a.data.toList with
      | none => 4
      | some q => if f.pcode.1 ≠ 0 then 5 else match prem i q f l r with
        | none => 7
        | some ss => if ks.length ≠ ss.length then 9 else kidsC ks ss

mutual
def look (i : Bool) : Pf → Nat → Nat → Nat → (Int × Int) × Nat × Nat
  | .mk a f l r ks, deep, steps, cuts =>
    if steps = 20000 ∨ 400 < deep then ((2, 0), steps, cuts)
    else if stepC i (.mk a f l r ks) ≠ 0 then ((stepC i (.mk a f l r ks), (steps : Nat)), steps + 1, cuts)
    else looks i ks (deep + 1) (steps + 1) (if a.data.toList = Ru.cut.text then cuts + 1 else cuts)
def looks (i : Bool) : List Pf → Nat → Nat → Nat → (Int × Int) × Nat × Nat
  | [], _, s, c => ((0, 0), s, c)
  | k :: ks, d, s, c => if (look i k d s c).1.1 ≠ 0 then look i k d s c else looks i ks d (look i k d s c).2.1 (look i k d s c).2.2
end

/-! What is proved is true. -/
def Valid (l r : List Fm) : Prop := ∀ p, (∀ f ∈ l, tv p f = true) → ∃ g ∈ r, tv p g = true

theorem within_count : ∀ (l m : List Fm), within l m = true ↔ ∀ f, l.count f ≤ m.count f
  | [], m => by simp [within]
  | f :: l, m => by
    rw [within, Bool.and_eq_true, decide_eq_true_eq, within_count l (m.erase f)]
    constructor
    · rintro ⟨hm, h⟩ g
      have := h g; rw [List.count_erase] at this; rw [List.count_cons]; have hp := List.count_pos_iff.2 hm; by_cases e : f == g
      · have e' : f = g := eq_of_beq e
        subst e'; simp only [beq_self_eq_true, if_true] at this ⊢; omega
      · rw [if_neg e] at *
        omega
    · intro h
      have hf := h f; rw [List.count_cons_self] at hf; (refine ⟨List.count_pos_iff.1 (by omega), fun g => ?_⟩); have := h g; rw [List.count_cons] at this; rw [List.count_erase]; by_cases e : f == g
      · rw [if_pos e] at *
        omega
      · rw [if_neg e] at *
        omega
theorem count_sum_perm {l m : List Fm} (hl : l.length = m.length) (h : within l m = true) : l.Perm m := by
  induction l generalizing m with
  | nil =>
    (have : m = [] := List.length_eq_zero_iff.1 (by simpa using hl.symm))
    rw [this]
  | cons f l ih =>
    rw [within, Bool.and_eq_true, decide_eq_true_eq] at h; have hm := h.1
    have := ih (m := m.erase f) (by
      have := List.length_erase_of_mem hm; simp only [List.length_cons] at hl
      omega) h.2
    exact (List.Perm.cons f this).trans (List.perm_cons_erase hm).symm
theorem isEq_perm (l m : List Fm) : isEq l m = true ↔ l.Perm m := by
  unfold isEq; rw [Bool.and_eq_true, decide_eq_true_eq]
  constructor
  · exact fun h => count_sum_perm h.1 h.2
  · exact fun h => ⟨h.length_eq, (within_count l m).2 fun f => Nat.le_of_eq (h.count_eq f)⟩
end Go.Proofs.YtalnljnincnbdacGreat
/- Walks: lists of formulas copied (slices.Clone). -/
namespace Go.Proofs.YtalnljnincnbdacGreat
open Go.RowKit

theorem reps_lq {ok : Nat → Prop} {w : World} {b : Nat} : ∀ {fs : List Fm} {off : Nat}, Reps w ok b off fs → ∃ cs, LQ ok w cs fs ∧ ∀ (j : Nat) (u : Value), cs[j]? = some u → w.cell? ⟨b, off + j, none⟩ = some u
  | [], off, _ => ⟨[], trivial, fun j u h => by simp at h⟩
  | f :: fs, off, h => by
    obtain ⟨⟨c0, c1, c2, h0, h1, h2, hr⟩, hs⟩ := Reps.cons.1 h; obtain ⟨cs, hl, hc⟩ := reps_lq hs; (refine ⟨c0 :: c1 :: c2 :: cs, ⟨hr, hl⟩, fun j u hu => ?_⟩)
    rcases j with _ | _ | _ | j
    · simp at hu; subst hu; exact h0
    · simp at hu; subst hu; exact h1
    · simp at hu; subst hu; exact h2
    · have := hc j u (by simpa using hu)
      (rw [show off + (j + 1 + 1 + 1) = off + 3 + j by omega]); exact this
theorem LQ.one {ok : Nat → Prop} {w : World} : ∀ {cs : List Value} {fs : List Fm}, LQ ok w cs fs → ∀ u ∈ cs, u.oneCell' = true
  | [], [], _, u, hu => by cases hu
  | c0 :: c1 :: c2 :: cs, ⟨k, n, ks⟩ :: fs, h, u, hu => by
    obtain ⟨sl, cap, hv, -⟩ := Rep.def.1 h.1; simp only [Value.agg.injEq, Array.mk.injEq, List.cons.injEq, and_true] at hv; obtain ⟨rfl, rfl, rfl⟩ := hv; simp only [List.mem_cons] at hu
    rcases hu with rfl | rfl | rfl | hu
    · rfl
    · rfl
    · rfl
    · exact LQ.one h.2 u hu

/-- A list of formulas, in blocks for which P holds. -/
def FLp (P : Nat → Prop) (w : World) (v : Value) (fs : List Fm) : Prop := ∃ ad cap, v = .slice ad fs.length cap ∧ fs.length ≤ cap ∧ cap ≤ maxLen ∧ (fs ≠ [] → ∃ b off, ad = some ⟨b, off, none⟩ ∧ P b ∧ Reps w P b off fs)
theorem reps_move {w w' : World} {P P' : Nat → Prop} {b : Nat} (h : ∀ k, k < w.heap.size → P k → w'.heap[k]? = w.heap[k]? ∧ P' k) {off : Nat} {fs : List Fm} (hb : P b) (hr : Reps w P b off fs) : Reps w' P' b off fs := by
  cases fs with
  | nil => exact Reps.nil
  | cons f fs =>
    obtain ⟨⟨c0, _, _, h0, _⟩, _⟩ := Reps.cons.1 hr; (exact Reps.keep (fun a ha hlt => cell_of_block (h a.block hlt ha).1) (fun k hk hp => (h k hk hp).2) hb (lt_of_cell h0) off _ hr)
theorem FLp.move {w w' : World} {P P' : Nat → Prop} {v : Value} {fs : List Fm} (hf : FLp P w v fs) (h : ∀ k, k < w.heap.size → P k → w'.heap[k]? = w.heap[k]? ∧ P' k) : FLp P' w' v fs := by
  obtain ⟨ad, cap, h1, h2, h3, h4⟩ := hf; (refine ⟨ad, cap, h1, h2, h3, fun hne => ?_⟩); obtain ⟨b, off, h5, h6, h7⟩ := h4 hne
  have hlt : b < w.heap.size := by
    cases fs with
    | nil => exact absurd rfl hne
    | cons f fs =>
      obtain ⟨⟨c0, _, _, h0, _⟩, _⟩ := Reps.cons.1 h7; exact lt_of_cell h0
  exact ⟨b, off, h5, (h b hlt h6).2, reps_move h h6 h7⟩
theorem FL.low {w : World} {v : Value} {fs : List Fm} (hf : FL w v fs) : FLp (· < w.heap.size) w v fs := by
  obtain ⟨ad, cap, h1, h2, h3, h4⟩ := hf; (exact FLp.move (P := fun _ => True) ⟨ad, cap, h1, h2, h3, fun hne => by obtain ⟨b, off, h5, h6⟩ := h4 hne; exact ⟨b, off, h5, trivial, h6⟩⟩ fun k hk _ => ⟨rfl, hk⟩)
theorem FLp.list {w : World} {P : Nat → Prop} {v : Value} {fs : List Fm} (hf : FLp P w v fs) : FL w v fs := by
  obtain ⟨ad, cap, h1, h2, h3, h4⟩ := hf; (refine ⟨ad, cap, h1, h2, h3, fun hne => ?_⟩); obtain ⟨b, off, h5, h6, h7⟩ := h4 hne; (exact ⟨b, off, h5, reps_move (fun _ _ _ => ⟨rfl, trivial⟩) h6 h7⟩)
theorem FLp.up {w w' : World} {P : Nat → Prop} {v : Value} {fs : List Fm} (hf : FLp P w v fs) (hb : Below w.heap.size w w') : FLp P w' v fs := hf.move fun k hk hp => ⟨hb.block k hk, hp⟩
theorem FLp.cells {P : Nat → Prop} {w : World} {ad : Option Addr} {cap : Nat} {fs : List Fm} (h : FLp P w (.slice ad fs.length cap) fs) (hne : fs ≠ []) : ∃ b off cs, ad = some ⟨b, off, none⟩ ∧ LQ P w cs fs ∧ ∀ (j : Nat) (u : Value), cs[j]? = some u → w.cell? ⟨b, off + j, none⟩ = some u := by
  obtain ⟨ad', cap', hv, -, -, h4⟩ := h; simp only [Value.slice.injEq, true_and] at hv; obtain ⟨rfl, rfl⟩ := hv; obtain ⟨b, off, h5, -, h6⟩ := h4 hne; obtain ⟨cs, h7, h8⟩ := reps_lq h6; exact ⟨b, off, cs, h5, h7, h8⟩
theorem kp_list {P : Nat → Prop} {B : Nat} {w : World} {ad : Option Addr} {cap : Nat} {fs : List Fm} (h : KP P B w ad cap fs) (hPB : ∀ b, B ≤ b → P b) : FLp P w (.slice ad fs.length cap) fs := by
  (obtain ⟨sl', cap', hv, -, h1, h2, h3⟩ := Rep.def.1 (h.rep hPB 0 ⟨#[]⟩ (by simp [maxLen, ByteArray.size]))); simp only [Value.agg.injEq, Array.mk.injEq, List.cons.injEq, Value.slice.injEq, true_and, and_true] at hv; obtain ⟨rfl, rfl⟩ := hv; exact ⟨ad, cap, rfl, h1, h2, h3⟩
theorem FL.flp {w : World} {v : Value} {fs : List Fm} (h : FL w v fs) : FLp (fun _ => True) w v fs := by
  obtain ⟨ad, cap, h1, h2, h3, h4⟩ := h; (exact ⟨ad, cap, h1, h2, h3, fun hne => by obtain ⟨b, off, h5, h6⟩ := h4 hne; exact ⟨b, off, h5, trivial, h6⟩⟩)

end Go.Proofs.YtalnljnincnbdacGreat
