/- Texts of one proof, one behind the other: Tr3, Tr4. -/
import Derived.Test.YtlmjnglcdgkomacB11
import Derived.Maps.OwnSet
import Derived.Maps.OwnOps
import Derived.Laws.BitsLemmas
/- Walks: plainFault; names' places in a map; what is asked of them. -/
namespace Go.Proofs.Ytlmjnglcdgkomac
open Go.RowKit Go.Maps Go.WideMaps

/-- What is said of a formula that should be plain. -/
def Fm.pcode (f : Fm) : Int × Int := if f.code.1 = 0 then (if (modal f 0).2 then ((4 : Int), (((modal f 0).1 : Nat) : Int)) else (0, 0)) else f.code

set_option maxHeartbeats 2000000 in
theorem plainFault_any (f : Fm) (v : Value) (w : World) (hrep : Rep w (fun _ => True) f v) :
    Calls Try.prog 77 #[v] w fun e w' => e = .returned (.agg #[.int .i64 f.pcode.1, .int .i64 f.pcode.2]) ∧ Below w.heap.size w w' := by
  (have hck := fun v (w : World) h => check_any f v w h)
  have hmo : f.code.1 = 0 → ∀ v (w : World), Rep w (fun _ => True) f v → Calls Try.prog 87 #[v, .int .i64 0] w fun e w' => e = .returned (.tuple #[.int .i64 ((modal f 0).1 : Nat), .bool (modal f 0).2]) ∧ Below w.heap.size w w' := fun h0 v w h => by
    rcases hx : chk f 0 with s | ⟨c, a⟩
    · exact modal_any f v w (fine_of_chk f 0 s hx) (chk_size hx) h
    · have := chk_code f 0 c a hx
      simp only [Fm.code, hx] at h0; exact absurd h0 this
  have hcz : f.code.1 = 0 → f.code = (0, 0) := fun h0 => by
    rcases hx : chk f 0 with s | ⟨c, a⟩
    · simp only [Fm.code, hx]
    · have := chk_code f 0 c a hx
      simp only [Fm.code, hx] at h0; exact absurd h0 this
  (have hpc : f.pcode = if f.code.1 = 0 then (if (modal f 0).2 then ((4 : Int), (((modal f 0).1 : Nat) : Int)) else (0, 0)) else f.code := rfl); have hml := modal_le f 0; generalize f.pcode = pc at *; generalize f.code = fc at *; generalize modal f 0 = mo at *; obtain ⟨c, a⟩ := fc; obtain ⟨r, bb⟩ := mo; obtain ⟨k, n, ks⟩ := f; obtain ⟨sl, cap, rfl⟩ := slice_shape hrep; have HC : Hid (∀ v w, _ → Calls Try.prog 86 #[v] w _) := hck; have HM : Hid (c = 0 → ∀ v w, _ → Calls Try.prog 87 _ w _) := hmo; have HP : Hid (pc = _) := hpc; (have hcz' : c = 0 → a = 0 := fun h => by have := hcz h; exact (Prod.mk.inj this).2); clear hck hmo hpc hcz; by_cases hc : c = 0
  · subst hc
    obtain rfl := hcz' rfl; have HM2 := HM.out rfl; have HM3 : Hid (∀ v w, _ → Calls Try.prog 87 _ w _) := HM2; clear HM2 HM hcz'
    cases bb
    · have HE : Hid (pc = (0, 0)) := HP.out
      clear HP
      go_enter Try.func77, Try.ntmps77
      go_wp2_with (first
        | (go_at_call 86
           refine (HC.out _ _ ((hrep.more _).more _)).mono ?_; rintro e w1 ⟨rfl, hb1⟩; have z1 := hb1.size; simp at z1; have q0 := below_keep hb1 (alloc_keep (blk_new w _) _); have q1 := below_keep hb1 (blk_new (w.alloc _) _); (rw [show (w.alloc _).heap.size = w.heap.size + 1 by simp] at q1); have B1 := below_join (below_more (below_more (Below.refl _ w) _) _) hb1; obtain ⟨a0, a1, a2, -⟩ := blk3 q0; obtain ⟨k1, k2, k3, k4⟩ := blk2 q1; have y0 : w.heap.size < w1.heap.size := lt_of_block q0; have y1 : w.heap.size + 1 < w1.heap.size := lt_of_block q1; (have d1 : ¬ w.heap.size = w1.heap.size := by omega); (have d2 : ¬ w.heap.size + 1 = w1.heap.size := by omega)
           have d3 : ¬ w1.heap.size = w.heap.size + 1 := by omega)
        | (go_at_call 87
           refine (HM3.out _ _ ((hrep.up B1).more _)).mono ?_; rintro e w2 ⟨rfl, hb2⟩; have r1 := below_keep hb2 (alloc_keep q1 _); have B2 := below_join (below_more B1 _) hb2; clear k1 k2 k3 k4
           obtain ⟨k1, k2, k3, k4⟩ := blk2 r1)
        | fail)
      have f2 := set2 r1 (.int .i64 0) (.int .i64 0); (have b2 := (B2.setCell (p := ⟨w.heap.size + 1, 0, none⟩) (by simp) (.int .i64 0)).setCell (p := ⟨w.heap.size + 1, 1, none⟩) (by simp) (.int .i64 0)); generalize World.setCell _ _ _ = F at f2 b2 ⊢; clear k1 k2 k3 k4; obtain ⟨k1, k2, -⟩ := blk2 f2; (exact bodyPost_ret (v := .agg #[.int .i64 0, .int .i64 0]) (by simp [results, Try.results77, go_sem, k1, k2]) rfl ⟨by rw [HE.out], b2⟩)
    · have HE : Hid (pc = (4, (r : Int))) := HP.out
      clear HP
      go_enter Try.func77, Try.ntmps77
      go_wp2_with (first
        | (go_at_call 86
           refine (HC.out _ _ ((hrep.more _).more _)).mono ?_; rintro e w1 ⟨rfl, hb1⟩; have z1 := hb1.size; simp at z1; have q0 := below_keep hb1 (alloc_keep (blk_new w _) _); have q1 := below_keep hb1 (blk_new (w.alloc _) _); (rw [show (w.alloc _).heap.size = w.heap.size + 1 by simp] at q1); have B1 := below_join (below_more (below_more (Below.refl _ w) _) _) hb1; obtain ⟨a0, a1, a2, -⟩ := blk3 q0; obtain ⟨k1, k2, k3, k4⟩ := blk2 q1; have y0 : w.heap.size < w1.heap.size := lt_of_block q0; have y1 : w.heap.size + 1 < w1.heap.size := lt_of_block q1; (have d1 : ¬ w.heap.size = w1.heap.size := by omega); (have d2 : ¬ w.heap.size + 1 = w1.heap.size := by omega)
           have d3 : ¬ w1.heap.size = w.heap.size + 1 := by omega)
        | (go_at_call 87
           refine (HM3.out _ _ ((hrep.up B1).more _)).mono ?_; rintro e w2 ⟨rfl, hb2⟩; have r1 := below_keep hb2 (alloc_keep q1 _); have B2 := below_join (below_more B1 _) hb2; clear k1 k2 k3 k4
           obtain ⟨k1, k2, k3, k4⟩ := blk2 r1)
        | fail)
      have f2 := set2 r1 (.int .i64 4) (.int .i64 r); (have b2 := (B2.setCell (p := ⟨w.heap.size + 1, 0, none⟩) (by simp) (.int .i64 4)).setCell (p := ⟨w.heap.size + 1, 1, none⟩) (by simp) (.int .i64 r)); generalize World.setCell _ _ _ = F at f2 b2 ⊢; clear k1 k2 k3 k4; obtain ⟨k1, k2, -⟩ := blk2 f2; (exact bodyPost_ret (v := .agg #[.int .i64 4, .int .i64 r]) (by simp [results, Try.results77, go_sem, k1, k2]) rfl ⟨by rw [HE.out], b2⟩)
  · have HE : Hid (pc = (c, a)) := by
      have := HP.out
      rwa [if_neg hc] at this
    (have hne' : (c != 0) = true := by simpa using hc); clear HP HM hcz'
    go_enter Try.func77, Try.ntmps77
    go_wp2_with (first
      | (go_at_call 86
         refine (HC.out _ _ ((hrep.more _).more _)).mono ?_; rintro e w1 ⟨rfl, hb1⟩; have z1 := hb1.size; simp at z1; have q0 := below_keep hb1 (alloc_keep (blk_new w _) _); have q1 := below_keep hb1 (blk_new (w.alloc _) _); (rw [show (w.alloc _).heap.size = w.heap.size + 1 by simp] at q1); have B1 := below_join (below_more (below_more (Below.refl _ w) _) _) hb1; obtain ⟨a0, a1, a2, -⟩ := blk3 q0; obtain ⟨k1, k2, k3, k4⟩ := blk2 q1; have y0 : w.heap.size < w1.heap.size := lt_of_block q0; have y1 : w.heap.size + 1 < w1.heap.size := lt_of_block q1; (have d1 : ¬ w.heap.size = w1.heap.size := by omega); (have d2 : ¬ w.heap.size + 1 = w1.heap.size := by omega)
         have d3 : ¬ w1.heap.size = w.heap.size + 1 := by omega)
      | (go_at_call 87
         refine (HM3.out _ _ ((hrep.up B1).more _)).mono ?_; rintro e w2 ⟨rfl, hb2⟩; have r1 := below_keep hb2 (alloc_keep q1 _); have B2 := below_join (below_more B1 _) hb2; clear k1 k2 k3 k4
         obtain ⟨k1, k2, k3, k4⟩ := blk2 r1)
      | fail)
    have f2 := set2 q1 (.int .i64 c) (.int .i64 a); (have b2 := (B1.setCell (p := ⟨w.heap.size + 1, 0, none⟩) (by simp) (.int .i64 c)).setCell (p := ⟨w.heap.size + 1, 1, none⟩) (by simp) (.int .i64 a)); (have hsz : ((w1.setCell ⟨w.heap.size + 1, 0, none⟩ (.int .i64 c)).setCell ⟨w.heap.size + 1, 1, none⟩ (.int .i64 a)).heap.size = w1.heap.size := by simp [World.setCell]); generalize World.setCell _ _ _ = F at f2 b2 hsz ⊢; clear k1 k2 k3 k4; obtain ⟨k1, k2, -⟩ := blk2 f2; (have d4 : w.heap.size + 1 < F.heap.size := by omega); (exact bodyPost_ret (v := .agg #[.int .i64 c, .int .i64 a]) (by simp [results, Try.results77, go_sem, k1, k2, d4]) rfl ⟨by rw [HE.out], b2.alloc (by omega) _⟩)

/-! A list of texts in memory, wherever it begins. -/
def SL (w : World) (v : Value) (l : List (List UInt8)) : Prop := ∃ ad cap, v = .slice ad l.length cap ∧ l.length ≤ cap ∧ cap ≤ maxLen ∧ (l ≠ [] → ∃ g off, ad = some ⟨g, off, none⟩ ∧ ∀ (j : Nat) (t : List UInt8), l[j]? = some t → w.cell? ⟨g, off + j, none⟩ = some (.string ⟨t.toArray⟩))
theorem SL.up {w w' : World} {v : Value} {l : List (List UInt8)} (h : SL w v l) (hb : Below w.heap.size w w') : SL w' v l := by
  obtain ⟨ad, cap, h1, h2, h3, h4⟩ := h; (refine ⟨ad, cap, h1, h2, h3, fun hne => ?_⟩); obtain ⟨g, off, h5, h6⟩ := h4 hne
  exact ⟨g, off, h5, fun j t ht => by
    have := h6 j t ht; rw [hb.cell (p := ⟨g, off + j, none⟩) (lt_of_cell this)]
    exact this⟩

theorem strKeyed : Keyed Try.prog 9 := string_keyed Try.underlying9
theorem zeroInt (w : World) : (zeroValue 3).run Try.prog w = .ok (.int .i64 0) w := by kernel_rfl
theorem keyStr (t : List UInt8) (h : t.length ≤ maxLen) : keyOf Try.prog 9 (.string ⟨t.toArray⟩) = some (.string t) :=
  keyOf_string_mk Try.underlying9 (s := ⟨t.toArray⟩) (by simpa [ByteArray.size] using h)

/-- Names' places, in a map. -/
def PM (w : World) (b : Nat) (l : List (List UInt8)) : Prop := ∃ (n : Nat) (D : DataW Unit), w.ownsMap Try.prog 9 (plainElem Try.prog 3) b n D ∧ n ≤ l.length ∧ (∀ s, s.length ≤ maxLen → Maps.has D (.string s) = decide (s ∈ l)) ∧ ∀ s, s ∈ l → ∃ i, l[i]? = some s ∧ ∀ z, D.atKey (.string s) z = .lit (.int .i64 (i : Nat))

theorem PM.nil {w : World} : PM (w.alloc (.map #[] 0)) w.heap.size [] :=
  ⟨0, .map [], World.ownsMap_made _ _ _ _, Nat.le_refl _, fun s _ => by simp [has_eq], fun s h => by cases h⟩

theorem PM.snoc {w' : World} {b : Nat} {l : List (List UInt8)} {t : List UInt8} {n : Nat} {D : DataW Unit} (hn : n ≤ l.length) (hD : IsMap D) (h1 : ∀ s, s.length ≤ maxLen → Maps.has D (.string s) = decide (s ∈ l)) (h2 : ∀ s, s ∈ l → ∃ i, l[i]? = some s ∧ ∀ z, D.atKey (.string s) z = .lit (.int .i64 (i : Nat)))
    (h : w'.ownsMap Try.prog 9 (plainElem Try.prog 3) b (n + 1) (D.put (.string t) (.lit (.int .i64 (l.length : Nat))))) : PM w' b (l ++ [t]) := by
  (have hk : WideAt.IsKeyLit (.string t) := by first | trivial | exact True.intro | simp [WideAt.IsKeyLit]); (refine ⟨n + 1, _, h, by simp; omega, fun s hs => ?_, fun s hs => ?_⟩)
  · by_cases e : s = t
    · subst e; rw [has_put_same hD hk]; simp
    · rw [has_put_other (fun h => e (by injection h)), h1 s hs]; simp [e]
  · by_cases e : s = t
    · subst e
      (exact ⟨l.length, by simp, fun z => atKey_put_same hD hk _ z⟩)
    · have hs' : s ∈ l := by simpa [e] using hs
      obtain ⟨i, hi, hz⟩ := h2 s hs'; (refine ⟨i, ?_, fun z => ?_⟩)
      · have hlt : i < l.length := by
          rcases Nat.lt_or_ge i l.length with h | h
          · exact h
          · rw [List.getElem?_eq_none h] at hi; cases hi
        rw [List.getElem?_append_left hlt]; exact hi
      · rw [atKey_put_other (fun h => e (by injection h))]; exact hz z

set_option maxHeartbeats 2000000 in
theorem placesOf_any (l : List (List UInt8)) (hl : l.length ≤ 1000) (hsm : ∀ t ∈ l, t.length ≤ 8) (v : Value) (w : World) (hv : SL w v l) :
    Calls Try.prog 80 #[v] w fun e w' => e = .returned (.map (some w.heap.size)) ∧ PM w' w.heap.size l ∧ Below w.heap.size w w' := by
  obtain ⟨ad, cap, rfl, h1, h2, h3⟩ := hv; (have hlI : (l.length : Int) ≤ 1000 := by omega); have H3 : Hid (l ≠ [] → ∃ g off, ad = some ⟨g, off, none⟩ ∧ ∀ (j : Nat) (t : List UInt8), l[j]? = some t → w.cell? ⟨g, off + j, none⟩ = some (.string ⟨t.toArray⟩)) := h3; have HSm : Hid (∀ t ∈ l, t.length ≤ 8) := hsm; have hmm := @run_makeMap Try.prog; clear h3 hsm
  go_enter Try.func80, Try.ntmps80
  go_wp2_with fail
  go_loopg [9] l.length (fun g c wr => ∃ i, i ≤ l.length ∧ g = l.length - i ∧ c = .int .i64 (i : Nat) ∧ Below w.heap.size w wr ∧ Hid (PM wr w.heap.size (l.take i)))
  case atStart => exact ⟨0, by omega, by omega, rfl, below_more (Below.refl _ w) _, PM.nil⟩
  case round =>
    obtain ⟨i, hi, hg, rfl, hbr, HP⟩ := hrel; have HG : Hid (gk = l.length - i) := hg; clear hg; by_cases hlt : i < l.length
    · obtain ⟨t, ht⟩ : ∃ x, l[i]? = some x := ⟨_, List.getElem?_eq_getElem hlt⟩
      (obtain ⟨g, off, rfl, hc⟩ := H3.out (fun e => by rw [e] at hlt; simp at hlt)); have g0 := (hbr.cell (p := ⟨g, off + i, none⟩) (lt_of_cell (hc i t ht))).trans (hc i t ht); (have hltI : (i : Int) < (l.length : Int) := by omega); (have hlc : (i : Int) < (cap : Int) := by omega); obtain ⟨n, D, hown, hn, hh1, hh2⟩ := HP.out; (have hkey := keyStr t (by have := HSm.out t (List.mem_of_getElem? ht); unfold maxLen; omega)); (have hti : (l.take i).length = i := by rw [List.length_take]; omega)
      have HT : Hid (l.take (i + 1) = l.take i ++ [t]) := by
        show _ = _; rw [List.take_add_one, ht]; rfl
      have HN : Hid (∀ w', w'.ownsMap Try.prog 9 (plainElem Try.prog 3) w.heap.size (n + 1) (D.put (.string t) (.lit (.int .i64 (i : Nat)))) → PM w' w.heap.size (l.take (i + 1))) := fun w' h => by
        rw [HT.out]; refine PM.snoc hn hown.isMap hh1 hh2 ?_; rw [hti]; exact h
      generalize (⟨t.toArray⟩ : ByteArray) = T at *; clear hc ht H3 hh1 hh2 HP
      go_wp2_with (first
        | (at_mapUpdate
           (refine wpList_mapUpdate_own _ rfl _ _ _ 95 rfl 9 3 strKeyed Try.underlying95 _ w.heap.size n _ rfl hown (by unfold maxLen; omega) _ _ _ rfl rfl hkey _ [] (plainElem_int Try.underlying3 (WalkArith.wf_i64 (by omega))) ?_); intro w1 hown1 hgrow1; have R1 := HN.out _ hown1; (have R2 := hbr.grown hgrow1 hbr.size (fun j hj => by cases hj; exact Nat.le_refl _)); have HR1 : Hid (PM w1 w.heap.size (l.take (i + 1))) := R1
           clear hown1 hgrow1 hown R1)
        | fail)
      go_roundg (l.length - (i + 1))
      case measure => have := HG.out; omega
      case rel => exact ⟨i + 1, by omega, rfl, by go_num, R2, HR1⟩
    · have HE : Hid (PM wr w.heap.size l) := by
        have := HP.out; (rw [List.take_of_length_le (by omega)] at this); exact this
      (have hge : ¬ (i : Int) < (l.length : Int) := by omega); clear H3 HP; go_wp2_with fail; go_ret; exact ⟨rfl, HE.out, hbr⟩
end Go.Proofs.Ytlmjnglcdgkomac
/- Walks: digits of a row; what Value and column ask of names. -/
namespace Go.Proofs.Ytlmjnglcdgkomac
open Go.RowKit Go.Maps Go.WideMaps

/-- What Value asks. -/
def OkV (cb : Nat) (l : List (List UInt8)) (w : World) : Prop := ∃ b, w.heap[cb]? = some (.cells #[.map (some b)] 95 (0, 0)) ∧ PM w b l

theorem PM.up {w w' : World} {b : Nat} {l : List (List UInt8)} (h : PM w b l) (hb : Below w.heap.size w w') : PM w' b l := by
  obtain ⟨n, D, hown, h1, h2, h3⟩ := h; refine ⟨n, D, ?_, h1, h2, h3⟩; obtain ⟨es, clock, he, r⟩ := hown; exact ⟨es, clock, below_keep hb he, r⟩

set_option maxHeartbeats 1000000 in
theorem value1_any (cb : Nat) (l : List (List UInt8)) (n : ByteArray) (w : World) (hok : OkV cb l w) (hn : n.size ≤ 8) :
    Calls Try.prog 81 (#[.string n] ++ #[.pointer (some ⟨cb, 0, none⟩)]) w fun e w' => e = .returned (.bool (decide (n.data.toList ∈ l))) ∧ Below w.heap.size w w' := by
  obtain ⟨b, hcb, m, D, hown, hm, h1, h2⟩ := hok; obtain ⟨t, rfl⟩ : ∃ t : List UInt8, n = ⟨t.toArray⟩ := ⟨n.data.toList, rfl⟩; (have hl8 : t.length ≤ 8 := by simpa [ByteArray.size] using hn); (have hkey := keyStr t (by unfold maxLen; omega)); (have HD : Hid (Maps.has D (.string t) = decide (t ∈ l)) := h1 t (by unfold maxLen; omega)); obtain ⟨c1, -⟩ := blk1 hcb; have he : ((⟨t.toArray⟩ : ByteArray).data.toList) = t := rfl; rw [he]; generalize (⟨t.toArray⟩ : ByteArray) = T at *; clear h1 h2 hcb; show Calls Try.prog 81 #[.string T, .pointer (some ⟨cb, 0, none⟩)] w _
  go_enter Try.func81, Try.ntmps81
  go_wp2_with (first
    | (at_lookup
       refine wpList_lookup_own_ok_int _ rfl _ _ 95 rfl 9 3 .i64 strKeyed Try.underlying95 Try.underlying3 (zeroInt _) b m _ rfl hown _ _ rfl hkey ?_; intro c hat hwc
       rw [HD.out])
    | fail)
  go_ret; exact ⟨rfl, Below.refl _ _⟩

theorem value1_in (cap : Array Value) (w : World) : (callFunc 81 cap).run Try.prog w = .ok (.enter 81 cap) w := by
  simp [go_sem]

theorem asksV (cb : Nat) (l : List (List UInt8)) : Asks 81 #[.pointer (some ⟨cb, 0, none⟩)] (fun t => decide (t ∈ l)) (OkV cb l) where
  up := fun ⟨b, h1, h2⟩ hb => ⟨b, below_keep hb h1, h2.up hb⟩
  ent := fun _ w => value1_in _ w
  call := fun n w hok hn => value1_any cb l n w hok hn

end Go.Proofs.Ytlmjnglcdgkomac
