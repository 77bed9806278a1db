/- Texts of one proof, one behind the other: TY2, TY3. -/
import Derived.Test.YtlmjnglcdgkomaaB22
/- Walks: the yardstick's HasText, True, Row. -/
namespace Go.Proofs.Ytlmjnglcdgkomaa
open Go.RowKit Go.Sort

set_option maxHeartbeats 1000000 in
theorem hasText_sl (l : List (List UInt8)) (t : List UInt8) (v : Value) (w : World) (h : SL w v l) :
    Calls Try.prog 32 #[v, .string ⟨t.toArray⟩] w fun e w' => e = .returned (.bool (decide (t ∈ l))) ∧ w' = w := by
  obtain ⟨ad, cap, rfl, h1, h2, h3⟩ := h; (have hlI : (l.length : Int) ≤ 9223372036854775807 := by unfold maxLen at h2; omega); have H3 : Hid (l ≠ [] → ∃ g off, ad = some ⟨g, off, none⟩ ∧ ∀ (j : Nat) (t : List UInt8), l[j]? = some t → w.cell? ⟨g, off + j, none⟩ = some (.string ⟨t.toArray⟩)) := h3; clear h3
  go_enter Try.func32, Try.ntmps32
  go_wp2_with fail
  go_loopg [5] l.length (fun g c wr => ∃ i, i ≤ l.length ∧ g = l.length - i ∧ c = .int .i64 (i : Nat) ∧ wr = w ∧ Hid (t ∉ l.take i))
  case atStart => exact ⟨0, by omega, by omega, rfl, rfl, by show _ ∉ _; simp⟩
  case round =>
    obtain ⟨i, hi, hg, rfl, rfl, HN⟩ := hrel; have HG : Hid (gk = l.length - i) := hg; clear hg; by_cases hlt : i < l.length
    · obtain ⟨x, hx⟩ : ∃ x, l[i]? = some x := ⟨_, List.getElem?_eq_getElem hlt⟩
      (obtain ⟨g, off, rfl, hc⟩ := H3.out (fun e => by rw [e] at hlt; simp at hlt)); have g0 := hc i x hx; (have hltI : (i : Int) < (l.length : Int) := by omega); (have hlc : (i : Int) < (cap : Int) := by omega); have HX : Hid (l[i]? = some x) := hx; clear hc hx H3; by_cases hxt : x = t
      · subst hxt
        have HD : Hid (decide (x ∈ l) = true) := by
          show _ = _; exact decide_eq_true (List.mem_of_getElem? HX.out)
        go_wp2_with fail; go_ret; (exact ⟨by rw [HD.out]; rfl, rfl⟩)
      · have hne : ((⟨x.toArray⟩ : ByteArray).toList == (⟨t.toArray⟩ : ByteArray).toList) = false := by
          rw [beq_eq_false_iff_ne, Ne, txt_eq]; exact hxt
        have HNN : Hid (t ∉ l.take (i + 1)) := by
          show _ ∉ _; rw [List.take_add_one, HX.out]; intro hm
          rcases List.mem_append.1 hm with h | h
          · exact HN.out h
          · simp at h; exact hxt h.symm
        generalize hb : (⟨x.toArray⟩ : ByteArray) = X at *; generalize hb2 : (⟨t.toArray⟩ : ByteArray) = Y at *; clear hb hb2 HX; go_wp2_with fail
        go_roundg (l.length - (i + 1))
        case measure => have := HG.out; omega
        case rel => exact ⟨i + 1, by omega, rfl, by go_num, rfl, HNN⟩
    · have HD : Hid (decide (t ∈ l) = false) := by
        show _ = _; have := HN.out; (rw [List.take_of_length_le (by omega)] at this); exact decide_eq_false this
      (have hge : ¬ (i : Int) < (l.length : Int) := by omega); clear H3 HN; go_wp2_with fail; go_ret; (exact ⟨by rw [HD.out]; rfl, rfl⟩)

/-! The yardstick's row. -/
theorem half_bit (r i : Nat) : (r / 2 ^ i % 2 = 1) ↔ r.testBit i = true := by
  rw [Nat.testBit_eq_decide_div_mod_eq]; simp

set_option maxHeartbeats 2000000 in
theorem row_any (r : Nat) (hr : r ≤ 100000) (l : List (List UInt8)) (hl : l.length ≤ 1000) (u : Value) (w : World) (hu : SL w u l) :
    Calls Try.prog 39 #[u, .int .i64 (r : Nat)] w fun e w' => ∃ x, e = .returned x ∧ TL w' x (rowN r l 0) ∧ Below w.heap.size w w' := by
  obtain ⟨ad, cap, rfl, h1, h2, h3⟩ := hu; (have hlI : (l.length : Int) ≤ 1000 := by omega); have H3 : Hid (l ≠ [] → ∃ g off, ad = some ⟨g, off, none⟩ ∧ ∀ (j : Nat) (t : List UInt8), l[j]? = some t → w.cell? ⟨g, off + j, none⟩ = some (.string ⟨t.toArray⟩)) := h3; obtain ⟨i0, hi, hz0, hz1, hz2⟩ := infoText; clear h3
  go_enter Try.func39, Try.ntmps39
  go_wp2_with fail
  go_loopg [6, 5, 1] l.length (fun g c o k wr => ∃ i ad cy, i ≤ l.length ∧ g = l.length - i ∧ c = .int .i64 (i : Nat) ∧ k = .int .i64 ((r / 2 ^ i : Nat) : Int) ∧ o = .slice ad (rowN r (l.take i) 0).length cy ∧ Below w.heap.size w wr ∧ Hid (KS w.heap.size wr ad cy (rowN r (l.take i) 0)))
  case atStart => exact ⟨0, none, 0, by omega, by omega, rfl, by simp, rfl, Below.refl _ _, KS.nil⟩
  case round =>
    obtain ⟨i, ad', cy, hile, hg, rfl, rfl, rfl, hbr, HK⟩ := hrel; have HG : Hid (gk = l.length - i) := hg; clear hg; by_cases hlt : i < l.length
    · obtain ⟨t, ht⟩ : ∃ x, l[i]? = some x := ⟨_, List.getElem?_eq_getElem hlt⟩
      (obtain ⟨g, off, rfl, hc⟩ := H3.out (fun e => by rw [e] at hlt; simp at hlt)); have g0 := (hbr.cell (p := ⟨g, off + i, none⟩) (lt_of_cell (hc i t ht))).trans (hc i t ht); (have hltI : (i : Int) < (l.length : Int) := by omega); (have hlc : (i : Int) < (cap : Int) := by omega); (have hti : (l.take i).length = i := by rw [List.length_take]; omega)
      have hT : rowN r (l.take (i + 1)) 0 = rowN r (l.take i) 0 ++ if r.testBit i then [t] else [] := by
        rw [List.take_add_one, ht]; show rowN r (_ ++ [t]) 0 = _; rw [rowN_snoc, hti, Nat.zero_add]
      have hRl := rowN_len r (l.take i) 0; (have hdv : r / 2 ^ (i + 1) = r / 2 ^ i / 2 := by rw [Nat.pow_succ, Nat.div_div_eq_div_mul]); have hkb : r / 2 ^ i ≤ 100000 := Nat.le_trans (Nat.div_le_self _ _) hr; have hbit := half_bit r i; generalize hR : rowN r (l.take i) 0 = R at *; rw [hti] at hRl; have HDv : Hid (r / 2 ^ (i + 1) = r / 2 ^ i / 2) := hdv; generalize hk : r / 2 ^ i = k at *; (have hkI : (k : Int) ≤ 100000 := by omega); clear hc ht H3 hR hdv hk hr
      rcases hb : r.testBit i with _ | _
      · rw [hb] at hT hbit
        have HT : Hid (rowN r (l.take (i + 1)) 0 = R) := by
          show _ = _; rw [hT]; simp
        have hkm : ((k : Int) % 2 == 1) = false := by
          (have : ¬ k % 2 = 1 := fun h => by simpa using hbit.1 h)
          simp; omega
        have hkm2 : ¬ (k : Int) % 2 = 1 := by
          (have : ¬ k % 2 = 1 := fun h => by simpa using hbit.1 h); omega
        clear hT hb hbit; go_wp2_with fail
        go_roundg (l.length - (i + 1))
        case measure => have := HG.out; omega
        case rel => exact ⟨i + 1, ad', cy, by omega, rfl, by go_num, by rw [HDv.out]; go_num, by rw [HT.out], hbr, by show KS _ _ _ _ _; rw [HT.out]; exact HK.out⟩
      · rw [hb] at hT hbit
        have HT : Hid (rowN r (l.take (i + 1)) 0 = R ++ [t]) := by
          show _ = _; rw [hT]; simp
        have hkm : ((k : Int) % 2 == 1) = true := by
          have : k % 2 = 1 := hbit.2 rfl
          simp; omega
        have hkm2 : (k : Int) % 2 = 1 := by
          have : k % 2 = 1 := hbit.2 rfl; omega
        clear hT hb hbit
        go_wp2_with (first
          | (at_builtin
             (refine wpList_append_lies _ rfl _ _ 39 rfl w.heap.size 9 i0 (.string ⟨#[]⟩) 1 16 Try.underlying39 hi hz0 hz1 hz2 rfl (by decide) _ _ _ rfl (owns_up HK.out ((Below.refl _ wr).alloc (Nat.le_refl _) (.cells #[.string ⟨t.toArray⟩] 9 (0, 0)))) ⟨wr.heap.size, 0, none⟩ 1 1 [.string ⟨t.toArray⟩] rfl rfl ?_ ?_ (by omega) (by unfold maxLen; omega) (by omega) (by have := hbr.size; simp; omega) _ rfl ?_)
             · intro j u hu
               rw [add_none, Nat.zero_add, blk_cell (blk_new wr _)]; simpa using hu
             · intro u hu
               simp at hu
               rcases hu with rfl; rfl
             intro g5 cp5 w5 hown5 hgrow5 hat5 hlt5; have BF := below_grown hbr hbr.size HK.out hgrow5
             have HKN : Hid (KS w.heap.size w5 (some ⟨g5, 0, none⟩) cp5 (R ++ [t])) := by
               show KS _ _ _ _ _; unfold KS; rw [List.map_append, List.length_append]; exact hown5
             clear hown5 hgrow5 hat5)
          | fail)
        go_roundg (l.length - (i + 1))
        case measure => have := HG.out; omega
        case rel => exact ⟨i + 1, some ⟨g5, 0, none⟩, cp5, by omega, rfl, by go_num, by rw [HDv.out]; go_num, by rw [HT.out, List.length_append]; rfl, BF, by show KS _ _ _ _ _; rw [HT.out]; exact HKN.out⟩
    · have HKE : Hid (KS w.heap.size wr ad' cy (rowN r l 0)) := by
        have := HK.out; (rw [List.take_of_length_le (by omega)] at this); exact this
      (have hTE : rowN r (l.take i) 0 = rowN r l 0 := by rw [List.take_of_length_le (by omega)]); (have hge : ¬ (i : Int) < (l.length : Int) := by omega); clear HK H3; rw [hTE]; clear hTE; go_wp2_with fail; go_ret; exact ⟨_, rfl, HKE.out.list, hbr⟩
end Go.Proofs.Ytlmjnglcdgkomaa
/- Walks: the yardstick's True. -/
namespace Go.Proofs.Ytlmjnglcdgkomaa
open Go.RowKit Go.Sort

/-- A list of bools that is being made. -/
def KB (B : Nat) (w : World) (ad : Option Addr) (cap : Nat) (l : List Bool) : Prop := w.ownsRow B 4 1 (.slice ad l.length cap) l.length (l.map Value.bool)
theorem KB.nil {B : Nat} {w : World} : KB B w none 0 [] := ⟨rfl, Or.inl ⟨rfl, rfl⟩⟩
theorem KB.up {B : Nat} {w w' : World} {ad : Option Addr} {cap : Nat} {l : List Bool} (h : KB B w ad cap l) (hb : Below w.heap.size w w') : KB B w' ad cap l := owns_up h hb
theorem KB.ne {B : Nat} {w : World} {ad : Option Addr} {cap : Nat} {l : List Bool} (h : KB B w ad cap l) (hl : l ≠ []) : ∃ g, ad = some ⟨g, 0, none⟩ ∧ l.length ≤ cap ∧ cap ≤ maxLen ∧ ∀ (j : Nat) (b : Bool), l[j]? = some b → w.cell? ⟨g, j, none⟩ = some (.bool b) := by
  have h' := h
  rcases h'.2 with ⟨hv, h0⟩ | ⟨g, cap', cur, hv, hg, hh, h1, h2, -⟩
  · exact absurd (List.length_eq_zero_iff.1 h0) hl
  · simp only [Value.slice.injEq, true_and] at hv
    obtain ⟨rfl, rfl⟩ := hv; (refine ⟨g, rfl, h1, h2, fun j b hb => ?_⟩); (have := h.cells (g := g) rfl j (.bool b) (by rw [List.getElem?_map, hb]; rfl)); rw [add_none, Nat.zero_add] at this; exact this
theorem KB.list {B : Nat} {w : World} {ad : Option Addr} {cap : Nat} {l : List Bool} (h : KB B w ad cap l) : BL w (.slice ad l.length cap) l := by
  by_cases hl : l = []
  · subst hl
    rcases h.2 with ⟨hv, h0⟩ | ⟨g, cap', cur, hv, hg, hh, h1, h2, -⟩
    · simp only [Value.slice.injEq] at hv
      (exact ⟨ad, cap, rfl, by simp, by rw [hv.2.2]; simp, fun h => absurd rfl h⟩)
    · simp only [Value.slice.injEq, true_and] at hv
      (exact ⟨ad, cap, rfl, by simp, by rw [hv.2]; exact h2, fun h => absurd rfl h⟩)
  · obtain ⟨g, rfl, h1, h2, h3⟩ := h.ne hl
    (exact ⟨_, cap, rfl, h1, h2, fun _ => ⟨g, 0, rfl, fun j b hb => by rw [Nat.zero_add]; exact h3 j b hb⟩⟩)

def TrueR (l : List (List UInt8)) (m : Nat) : Prop := ∀ (f : Fm) (v u : Value) (w : World), f.size < m → Fine f → Rep w (fun _ => True) f v → SL w u l →
  Calls Try.prog 38 #[v, u] w fun e w' => e = .returned (.bool (tv (fun t => decide (t ∈ l)) f)) ∧ Below w.heap.size w w'

theorem tvs_take (p : List UInt8 → Bool) : ∀ (ks : List Fm) (i : Nat) (f : Fm), ks[i]? = some f → (tvs p ks).take (i + 1) = (tvs p ks).take i ++ [tv p f]
  | [], i, f, h => by simp at h
  | k :: ks, 0, f, h => by simp at h; subst h; rw [tvs]; simp
  | k :: ks, i + 1, f, h => by
    (have := tvs_take p ks i f (by simpa using h)); rw [tvs, List.take_succ_cons, List.take_succ_cons, this, List.cons_append]
theorem tvs_len (p : List UInt8 → Bool) : ∀ ks : List Fm, (tvs p ks).length = ks.length
  | [] => by rw [tvs]; rfl
  | k :: ks => by rw [tvs, List.length_cons, List.length_cons, tvs_len p ks]

set_option maxHeartbeats 8000000 in
theorem trueR_step (l : List (List UInt8)) (m : Nat) (ih : TrueR l m) : TrueR l (m + 1) := by
  intro f v u w hm hfi hrep hu; obtain ⟨k, n, ks⟩ := f; obtain ⟨sl, cap, rfl, hx1, hx2, hx3, hx4⟩ := Rep.def.1 hrep; (have HX : Hid (ks ≠ [] → ∃ b off, sl = some ⟨b, off, none⟩ ∧ True ∧ Reps w (fun _ => True) b off ks) := hx4); have HU : Hid (SL w u l) := hu; obtain ⟨adU, cpU, rfl, -⟩ := hu; have hk2 := hfi.small.2; (have hkI : (ks.length : Int) ≤ 2 := by omega); obtain ⟨i0, hi, hz0, hz1, hz2⟩ := infoBool; have q0 := blk_new w (.cells #[.int .i64 k, .string n, .slice sl ks.length cap] 24 (0, 0)); have B0 := below_more (Below.refl _ w) (.cells #[.int .i64 k, .string n, .slice sl ks.length cap] 24 (0, 0)); have HF : Hid (Fine (.mk k n ks)) := hfi; (have HV : Hid (∀ bs, bs = tvs (fun t => decide (t ∈ l)) ks → tv (fun t => decide (t ∈ l)) (.mk k n ks) = val k (decide (n.data.toList ∈ l)) bs) := fun bs hb => by rw [hb, tv]); (have htl := tvs_len (fun t => decide (t ∈ l)) ks); (generalize tv (fun t => decide (t ∈ l)) (.mk k n ks) = res at *); (obtain ⟨bs, hbs⟩ : ∃ bs, bs = tvs (fun t => decide (t ∈ l)) ks := ⟨_, rfl⟩); (have HBs : Hid (bs = tvs (fun t => decide (t ∈ l)) ks) := hbs); rw [← hbs] at htl; clear hx4 hfi hbs hrep
  go_enter Try.func38, Try.ntmps38
  go_wp2_with fail
  go_loopg [6, 5] ks.length (fun g c o wr => ∃ i ad cy, i ≤ ks.length ∧ g = ks.length - i ∧ c = .int .i64 (i : Nat) ∧ o = .slice ad (bs.take i).length cy ∧ Below w.heap.size w wr ∧ wr.heap[w.heap.size]? = some (.cells #[.int .i64 k, .string n, .slice sl ks.length cap] 24 (0, 0)) ∧ Hid (KB (w.heap.size + 1) wr ad cy (bs.take i)))
  case atStart => exact ⟨0, none, 0, by omega, by omega, rfl, rfl, B0, q0, KB.nil⟩
  case round =>
    obtain ⟨i, ad, cy, hile, hg, rfl, rfl, hbr, q1, HK⟩ := hrel; have HG : Hid (gk = ks.length - i) := hg; clear hg; obtain ⟨a0, a1, a2, -⟩ := blk3 q1; have z1 := lt_of_block q1; by_cases hlt : i < ks.length
    · obtain ⟨⟨k2, n2, ks2⟩, hki⟩ : ∃ f, ks[i]? = some f := ⟨_, List.getElem?_eq_getElem hlt⟩
      (have hltI : (i : Int) < (ks.length : Int) := by omega); (have hlc : (i : Int) < (cap : Int) := by omega); (obtain ⟨b, off, rfl, -, hrs⟩ := HX.out (fun e => by rw [e] at hlt; simp at hlt)); obtain ⟨sl2, cap2, g0, g1, g2, hrep2⟩ := (hrs.up hbr).at i k2 n2 ks2 hki; (have hsz : (Fm.mk k2 n2 ks2).size < m := by have := sizes_get hki; rw [Fm.size] at hm; omega); (have hca := fun v u wx h hu => ih (.mk k2 n2 ks2) v u wx hsz (HF.out.kid i _ hki) h hu); (have hT : bs.take (i + 1) = bs.take i ++ [tv (fun t => decide (t ∈ l)) (.mk k2 n2 ks2)] := by rw [HBs.out]; exact tvs_take _ _ _ _ hki); (have hRl : (bs.take i).length ≤ 2 := by rw [List.length_take]; omega); (generalize tv (fun t => decide (t ∈ l)) (.mk k2 n2 ks2) = y at *); have HT : Hid (bs.take (i + 1) = bs.take i ++ [y]) := hT; clear hT; generalize bs.take i = R at *; have HC : Hid (∀ v u wx, _ → SL wx u l → Calls Try.prog 38 _ wx _) := hca; clear hki hrs HX hca
      go_wp2_with (first
        | (go_at_call 38
           refine (HC.out _ _ _ hrep2 (HU.out.up hbr)).mono ?_; rintro e w2 ⟨rfl, hb2⟩; have q2 := below_keep hb2 q1; have B2 := below_join hbr hb2; have HK2 : Hid (KB (w.heap.size + 1) w2 ad cy R) := HK.out.up hb2
           have z2 := lt_of_block q2)
        | (at_builtin
           (refine wpList_append_lies _ rfl _ _ 58 rfl (w.heap.size + 1) 4 i0 (.bool false) 1 1 Try.underlying58 hi hz0 hz1 hz2 rfl (by decide) _ _ _ rfl (owns_up HK2.out ((Below.refl _ w2).alloc (Nat.le_refl _) (.cells #[.bool y] 4 (0, 0)))) ⟨w2.heap.size, 0, none⟩ 1 1 [.bool y] rfl rfl ?_ ?_ (by omega) (by unfold maxLen; omega) (by omega) (by simp; omega) _ rfl ?_)
           · intro j u hu
             rw [add_none, Nat.zero_add, blk_cell (blk_new w2 _)]; simpa using hu
           · intro u hu
             simp at hu
             rcases hu with rfl; rfl
           intro g5 cp5 w5 hown5 hgrow5 hat5 hlt5; (have BB := below_grown (show Below (w.heap.size + 1) w2 w2 from Below.refl _ _) (by omega) HK2.out hgrow5); (have q5 := (BB.block w.heap.size (by omega)).trans q2); have BF := B2.trans (BB.mono (Nat.le_succ _))
           have HKN : Hid (KB (w.heap.size + 1) w5 (some ⟨g5, 0, none⟩) cp5 (R ++ [y])) := by
             show KB _ _ _ _ _; unfold KB; rw [List.map_append, List.length_append]; exact hown5
           clear hown5 hgrow5 hat5)
        | fail)
      go_roundg (ks.length - (i + 1))
      case measure => have := HG.out; omega
      case rel => exact ⟨i + 1, some ⟨g5, 0, none⟩, cp5, by omega, rfl, by go_num, by rw [HT.out, List.length_append]; rfl, BF, q5, by show KB _ _ _ _ _; rw [HT.out]; exact HKN.out⟩
    · obtain rfl : i = ks.length := by omega
      (have hTE : bs.take ks.length = bs := List.take_of_length_le (by omega)); rw [hTE] at HK ⊢; have HR : Hid (res = val k (decide (n.data.toList ∈ l)) bs) := HV.out bs HBs.out; have HTl : Hid (bs.length = ks.length) := htl; clear hTE HX HBs HV htl hile hlt hkI hk2 hx1 hx2 hx3 hm
      rcases HF.out.forms with ⟨n', e, hn⟩ | e | e | ⟨k', g, hk, e, hg⟩ | ⟨k', g, g', hk, e, hg, hg'⟩
      · cases e
        have hht := hasText_sl l n.data.toList _ wr (HU.out.up hbr); have HHt : Hid (Calls Try.prog 32 #[.slice adU l.length cpU, .string n] wr _) := hht; have HR2 : Hid (res = decide (n.data.toList ∈ l)) := HR.out; clear hht hn HR HK; generalize decide (n.data.toList ∈ l) = bb at *
        go_wp2_with (first
          | (go_at_call 32
             refine HHt.out.mono ?_
             rintro e w2 ⟨rfl, rfl⟩)
          | fail)
        go_ret; (exact ⟨by rw [HR2.out]; rfl, hbr⟩)
      · cases e
        have HR2 : Hid (res = true) := HR.out; clear HR HK; go_wp2_with fail; go_ret; (exact ⟨by rw [HR2.out]; rfl, hbr⟩)
      · cases e
        have HR2 : Hid (res = false) := HR.out; clear HR HK; go_wp2_with fail; go_ret; (exact ⟨by rw [HR2.out]; rfl, hbr⟩)
      · cases e
        obtain ⟨x, rfl⟩ : ∃ x, bs = [x] := by
          match bs, HTl.out with
          | [x], _ => exact ⟨x, rfl⟩
        clear HTl; (obtain ⟨gB, rfl, hc1, hc2, hcs⟩ := HK.out.ne (by simp)); have c0 := hcs 0 x rfl; (have hcI : (1 : Int) ≤ (cy : Int) := by simp at hc1; omega); clear hcs HK
        rcases hk with rfl | rfl | rfl
        · have HR2 : Hid (res = !x) := HR.out
          clear HR; go_wp2_with fail; go_ret; (exact ⟨by rw [HR2.out]; rfl, hbr⟩)
        · have HR2 : Hid (res = false) := HR.out
          clear HR; go_wp2_with fail; go_ret; (exact ⟨by rw [HR2.out]; rfl, hbr⟩)
        · have HR2 : Hid (res = false) := HR.out
          clear HR; go_wp2_with fail; go_ret; (exact ⟨by rw [HR2.out]; rfl, hbr⟩)
      · cases e
        obtain ⟨x, y, rfl⟩ : ∃ x y, bs = [x, y] := by
          match bs, HTl.out with
          | [x, y], _ => exact ⟨x, y, rfl⟩
        clear HTl; (obtain ⟨gB, rfl, hc1, hc2, hcs⟩ := HK.out.ne (by simp)); have c0 := hcs 0 x rfl; have c1 := hcs 1 y rfl; (have hcI : (2 : Int) ≤ (cy : Int) := by simp at hc1; omega); clear hcs HK
        rcases hk with rfl | rfl | rfl
        · have HR2 : Hid (res = (x && y)) := HR.out
          clear HR
          cases x
          all_goals
            go_wp2_with fail; go_ret; (exact ⟨by rw [HR2.out]; simp, hbr⟩)
        · have HR2 : Hid (res = (x || y)) := HR.out
          clear HR
          cases x
          all_goals
            go_wp2_with fail; go_ret; (exact ⟨by rw [HR2.out]; simp, hbr⟩)
        · have HR2 : Hid (res = (!x || y)) := HR.out
          clear HR
          cases y
          all_goals
            go_wp2_with fail; go_ret; (exact ⟨by rw [HR2.out]; simp, hbr⟩)

theorem trueRs_all (l : List (List UInt8)) : ∀ m, TrueR l m
  | 0 => fun _ _ _ _ h => absurd h (Nat.not_lt_zero _)
  | m + 1 => trueR_step l m (trueRs_all l m)

theorem trueR_any (l : List (List UInt8)) (f : Fm) (v u : Value) (w : World) (hf : Fine f) (hrep : Rep w (fun _ => True) f v) (hu : SL w u l) :
    Calls Try.prog 38 #[v, u] w fun e w' => e = .returned (.bool (tv (fun t => decide (t ∈ l)) f)) ∧ Below w.heap.size w w' :=
  trueRs_all l (f.size + 1) f v u w (Nat.lt_succ_self _) hf hrep hu
end Go.Proofs.Ytlmjnglcdgkomaa
