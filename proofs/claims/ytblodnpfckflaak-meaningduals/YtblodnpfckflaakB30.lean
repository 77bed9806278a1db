/- Texts of one proof, one behind the other: SN4. -/
import Derived.Test.YtblodnpfckflaakB29
/- Walks: valuesFault (made by gen/sn4.py). -/
namespace Go.Proofs.Ytblodnpfckflaak
open Go.RowKit Go.Sort Go.Maps Go.WideMaps

/-- What valuesFault says, one by one. -/
def vfAt (n : Nat) : Nat → List (List UInt8 × Int) → Int × Int
  | _, [] => (0, 0)
  | i, p :: r => if isNm p.1 = false then (8, (i : Int)) else if thingB n p.2 = false then (3, (i : Int)) else vfAt n (i + 1) r
def vfcode (n : Nat) (names : List (List UInt8)) (vals : List Int) : Int × Int := if names.length = vals.length ∧ names.length ≤ 20 then vfAt n 0 (names.zip vals) else (9, 0)
theorem vfAt_drop {n i : Nat} {l : List (List UInt8 × Int)} {p : List UInt8 × Int} (h : l[i]? = some p) : vfAt n i (l.drop i) = if isNm p.1 = false then (8, (i : Int)) else if thingB n p.2 = false then (3, (i : Int)) else vfAt n (i + 1) (l.drop (i + 1)) := by
  have hi := (List.getElem?_eq_some_iff.1 h).1; rw [List.drop_eq_getElem_cons hi, vfAt]; rw [List.getElem?_eq_getElem hi] at h; rw [Option.some.inj h]
set_option maxRecDepth 10000 in
set_option maxHeartbeats 8000000 in
theorem valuesFault_any (n : Nat) (u x : Value) (names : List (List UInt8)) (vals : List Int) (w : World) (hn : SL w u names) (hv : IL w x vals) (hlen : ∀ t ∈ names, t.length ≤ maxLen) :
    Calls Try.prog 19 #[.int .i64 (n : Nat), u, x] w fun e w' => e = .returned (.agg #[.int .i64 (vfcode n names vals).1, .int .i64 (vfcode n names vals).2]) ∧ Below w.heap.size w w' := by
  obtain ⟨an, cn, rfl, n1, n2, n3⟩ := hn; obtain ⟨av, cv, rfl, v1, v2, v3⟩ := hv; have HN : Hid (names ≠ [] → ∃ g off, an = some ⟨g, off, none⟩ ∧ ∀ (j : Nat) (t : List UInt8), names[j]? = some t → w.cell? ⟨g, off + j, none⟩ = some (.string ⟨t.toArray⟩)) := n3; have HVl : Hid (vals ≠ [] → ∃ g off, av = some ⟨g, off, none⟩ ∧ ∀ (j : Nat) (x : Int), vals[j]? = some x → w.cell? ⟨g, off + j, none⟩ = some (.int .i64 x)) := v3; have HLn : Hid (∀ t ∈ names, t.length ≤ maxLen) := hlen; (have hnI : ((names.length : Nat) : Int) ≤ 9223372036854775807 := by unfold maxLen at n2; omega); (have hvI : ((vals.length : Nat) : Int) ≤ 9223372036854775807 := by unfold maxLen at v2; omega); obtain ⟨W, hWe⟩ : ∃ W, w.alloc (.cells #[.int .i64 0, .int .i64 0] 39 (0, 0)) = W := ⟨_, rfl⟩; (have hBW : Below w.heap.size w W := by rw [← hWe]; exact below_more (Below.refl _ _) _); (have hq : W.heap[w.heap.size]? = some (.cells #[.int .i64 0, .int .i64 0] 39 (0, 0)) := by rw [← hWe]; exact blk_new _ _); have HBW : Hid (Below w.heap.size w W) := hBW; have HQ : Hid (W.heap[w.heap.size]? = some (.cells #[.int .i64 0, .int .i64 0] 39 (0, 0))) := hq; obtain ⟨p0, p1, p2, p3⟩ := blk2 hq; have hs1 := lt_of_block hq; clear hlen n1 n2 n3 v1 v2 v3 hBW hq; by_cases hl : names.length = vals.length
  case neg =>
    (have hE : vfcode n names vals = (9, 0) := by unfold vfcode; rw [if_neg (fun h => hl h.1)]); (have hJ : ((names.length : Int) != (vals.length : Int)) = true := by rw [bne_iff_ne]; omega); rw [hE]; clear hl hE HN HVl HLn
    go_enter Try.func19, Try.ntmps19
    go_wp2_with fail; have f2 := set2 HQ.out (.int .i64 (9)) (.int .i64 (0)); have b2 := (HBW.out.setCell (p := ⟨w.heap.size, 0, none⟩) (Nat.le_refl _) (.int .i64 (9))).setCell (p := ⟨w.heap.size, 1, none⟩) (Nat.le_refl _) (.int .i64 (0)); generalize World.setCell _ _ _ = F at f2 b2 ⊢; clear p0 p1 p2 p3; obtain ⟨p0, p1, -⟩ := blk2 f2; (exact bodyPost_ret (v := .agg #[.int .i64 (9), .int .i64 (0)]) (by simp [results, Try.results19, go_sem, p0, p1]) rfl ⟨rfl, b2⟩)
  (have hJ : ((names.length : Int) != (vals.length : Int)) = false := by rw [bne_eq_false_iff_eq]; omega); by_cases h20 : names.length ≤ 20
  case neg =>
    (have hE : vfcode n names vals = (9, 0) := by unfold vfcode; rw [if_neg (fun h => h20 h.2)]); (have h20I : (20 : Int) < (names.length : Int) := by omega); rw [hE]; clear hl hE HN HVl HLn h20
    go_enter Try.func19, Try.ntmps19
    go_wp2_with fail; have f2 := set2 HQ.out (.int .i64 (9)) (.int .i64 (0)); have b2 := (HBW.out.setCell (p := ⟨w.heap.size, 0, none⟩) (Nat.le_refl _) (.int .i64 (9))).setCell (p := ⟨w.heap.size, 1, none⟩) (Nat.le_refl _) (.int .i64 (0)); generalize World.setCell _ _ _ = F at f2 b2 ⊢; clear p0 p1 p2 p3; obtain ⟨p0, p1, -⟩ := blk2 f2; (exact bodyPost_ret (v := .agg #[.int .i64 (9), .int .i64 (0)]) (by simp [results, Try.results19, go_sem, p0, p1]) rfl ⟨rfl, b2⟩)
  (have h20I : (names.length : Int) ≤ 20 := by omega); (have h20J : ¬ (20 : Int) < (names.length : Int) := by omega); have HO : Hid (names.length = vals.length) := hl; (have hE : vfcode n names vals = vfAt n 0 ((names.zip vals).drop 0) := by unfold vfcode; rw [if_pos ⟨hl, h20⟩, List.drop_zero]); generalize vfcode n names vals = E at *; have HE0 : Hid (E = vfAt n 0 ((names.zip vals).drop 0)) := hE; clear hl hE h20
  go_enter Try.func19, Try.ntmps19
  go_wp2_with fail; clear p0 p1 p2 p3 hWe hs1
  go_loopg [22, 7, 8] names.length (fun g c a b wr => ∃ i, i ≤ names.length ∧ g = names.length - i ∧ c = .int .i64 (i : Nat) ∧ Hid (E = vfAt n i ((names.zip vals).drop i)) ∧ Hid (Below w.heap.size w wr) ∧ Hid (wr.heap[w.heap.size]? = some (.cells #[.int .i64 0, .int .i64 0] 39 (0, 0))))
  case atStart => exact ⟨0, by omega, by omega, rfl, HE0, HBW, HQ⟩
  case round =>
    obtain ⟨i, hile, hg, rfl, HEr, HBr, HQr⟩ := hrel; have HG : Hid (gk = names.length - i) := hg; obtain ⟨p0, p1, p2, p3⟩ := blk2 HQr.out; have hs1 := lt_of_block HQr.out; clear hg; by_cases hlt : i < names.length
    · obtain ⟨t, ht⟩ : ∃ x, names[i]? = some x := ⟨_, List.getElem?_eq_getElem hlt⟩
      (have hqv : i < vals.length := by have := HO.out; omega); obtain ⟨y, hy⟩ : ∃ x, vals[i]? = some x := ⟨_, List.getElem?_eq_getElem hqv⟩; (obtain ⟨g, off, rfl, hc⟩ := HN.out (fun e => by rw [e] at hlt; simp at hlt)); (obtain ⟨gq, offq, rfl, hd⟩ := HVl.out (fun e => by rw [e] at hqv; simp at hqv)); have z0 := hc i t ht; have z1 := hd i y hy; have y0 := (HBr.out.cell (lt_of_cell z0)).trans z0; have y1 := (HBr.out.cell (lt_of_cell z1)).trans z1; have HY1 : Hid (wr.cell? ⟨gq, offq + i, none⟩ = some (.int .i64 y)) := y1; (have hltI : (i : Int) < (names.length : Int) := by omega); (have hltJ : (i : Int) < (vals.length : Int) := by omega); (have hzip : (names.zip vals)[i]? = some (t, y) := by rw [List.getElem?_zip_eq_some]; exact ⟨ht, hy⟩); have hd := HEr.out; rw [vfAt_drop hzip] at hd; (have HVr : Hid (∀ w, Calls Try.prog 37 #[.string ⟨t.toArray⟩] w fun e w' => e = .returned (.bool (isNm t)) ∧ Below w.heap.size w w') := fun w => var_any ⟨t.toArray⟩ (by have := HLn.out t (List.mem_of_getElem? ht); show t.toArray.size ≤ _; simpa using this) w); (have HTh : Hid (∀ w, Calls Try.prog 38 #[.int .i64 (n : Nat), .int .i64 y] w fun e w' => e = .returned (.bool (thingB n y)) ∧ w' = w) := fun w => isThing_any n y w); have HLt : Hid (i < names.length) := hlt; clear ht hy hc z0 z1 hlt hile hqv hzip HN HVl
      rcases hnm : isNm t with _ | _
      · rw [hnm] at HVr hd
        simp only [if_true] at hd; have HD : Hid (E = (8, (i : Int))) := hd; clear hnm hd
        go_wp2_with (first
          | (go_at_call 37
             refine (HVr.out _).mono ?_; rintro e w4 ⟨rfl, hb4⟩; have HB4 : Hid (Below w.heap.size w w4) := below_join HBr.out hb4; have HQ4 : Hid (w4.heap[w.heap.size]? = some (.cells #[.int .i64 0, .int .i64 0] 39 (0, 0))) := below_keep hb4 HQr.out; clear p0 p1 p2 p3 hb4; obtain ⟨p0, p1, p2, p3⟩ := blk2 HQ4.out
             have hs4 := lt_of_block HQ4.out)
          | fail)
        have f2 := set2 HQ4.out (.int .i64 (8)) (.int .i64 ((i : Nat))); have b2 := (HB4.out.setCell (p := ⟨w.heap.size, 0, none⟩) (Nat.le_refl _) (.int .i64 (8))).setCell (p := ⟨w.heap.size, 1, none⟩) (Nat.le_refl _) (.int .i64 ((i : Nat))); generalize World.setCell _ _ _ = F at f2 b2 ⊢; clear p0 p1 p2 p3; obtain ⟨p0, p1, -⟩ := blk2 f2; (exact bodyPost_ret (v := .agg #[.int .i64 (8), .int .i64 ((i : Nat))]) (by simp [results, Try.results19, go_sem, p0, p1]) rfl ⟨by rw [HD.out], b2⟩)
      · rw [hnm] at HVr hd
        simp only [Bool.true_eq_false, if_false] at hd; clear hnm
        rcases hth : thingB n y with _ | _
        · rw [hth] at HTh hd
          simp only [if_true] at hd; have HD : Hid (E = (3, (i : Int))) := hd; clear hth hd
          go_wp2_with (first
            | (go_at_call 37
               refine (HVr.out _).mono ?_; rintro e w4 ⟨rfl, hb4⟩; have HB4 : Hid (Below w.heap.size w w4) := below_join HBr.out hb4; have HQ4 : Hid (w4.heap[w.heap.size]? = some (.cells #[.int .i64 0, .int .i64 0] 39 (0, 0))) := below_keep hb4 HQr.out; have y4 := (hb4.cell (lt_of_cell HY1.out)).trans HY1.out; clear p0 p1 p2 p3 hb4; obtain ⟨p0, p1, p2, p3⟩ := blk2 HQ4.out
               have hs4 := lt_of_block HQ4.out)
            | (go_at_call 38; refine (HTh.out _).mono ?_; rintro e w5 ⟨rfl, h5⟩; obtain rfl : w4 = w5 := h5.symm)
            | fail)
          have f2 := set2 HQ4.out (.int .i64 (3)) (.int .i64 ((i : Nat))); have b2 := (HB4.out.setCell (p := ⟨w.heap.size, 0, none⟩) (Nat.le_refl _) (.int .i64 (3))).setCell (p := ⟨w.heap.size, 1, none⟩) (Nat.le_refl _) (.int .i64 ((i : Nat))); generalize World.setCell _ _ _ = F at f2 b2 ⊢; clear p0 p1 p2 p3; obtain ⟨p0, p1, -⟩ := blk2 f2; (exact bodyPost_ret (v := .agg #[.int .i64 (3), .int .i64 ((i : Nat))]) (by simp [results, Try.results19, go_sem, p0, p1]) rfl ⟨by rw [HD.out], b2⟩)
        · rw [hth] at HTh hd
          simp only [Bool.true_eq_false, if_false] at hd; have HD : Hid (E = vfAt n (i + 1) ((names.zip vals).drop (i + 1))) := hd; clear hth hd
          go_wp2_with (first
            | (go_at_call 37
               refine (HVr.out _).mono ?_; rintro e w4 ⟨rfl, hb4⟩; have HB4 : Hid (Below w.heap.size w w4) := below_join HBr.out hb4; have HQ4 : Hid (w4.heap[w.heap.size]? = some (.cells #[.int .i64 0, .int .i64 0] 39 (0, 0))) := below_keep hb4 HQr.out; have y4 := (hb4.cell (lt_of_cell HY1.out)).trans HY1.out; clear p0 p1 p2 p3 hb4; obtain ⟨p0, p1, p2, p3⟩ := blk2 HQ4.out
               have hs4 := lt_of_block HQ4.out)
            | (go_at_call 38; refine (HTh.out _).mono ?_; rintro e w5 ⟨rfl, h5⟩; obtain rfl : w4 = w5 := h5.symm)
            | fail)
          go_roundg (names.length - (i + 1))
          case measure => have := HG.out; have := HLt.out; omega
          case rel => exact ⟨i + 1, HLt.out, rfl, by go_num, HD, HB4, HQ4⟩
    · have hge : ¬ (i : Int) < (names.length : Int) := by omega
      have HD : Hid (E = (0, 0)) := by
        have := HEr.out; (rw [List.drop_of_length_le (by rw [List.length_zip, ← HO.out, Nat.min_self]; omega), vfAt] at this); exact this
      clear hlt hile HN HVl; go_wp2_with fail; have f2 := set2 HQr.out (.int .i64 (0)) (.int .i64 (0)); have b2 := (HBr.out.setCell (p := ⟨w.heap.size, 0, none⟩) (Nat.le_refl _) (.int .i64 (0))).setCell (p := ⟨w.heap.size, 1, none⟩) (Nat.le_refl _) (.int .i64 (0)); generalize World.setCell _ _ _ = F at f2 b2 ⊢; clear p0 p1 p2 p3; obtain ⟨p0, p1, -⟩ := blk2 f2; (exact bodyPost_ret (v := .agg #[.int .i64 (0), .int .i64 (0)]) (by simp [results, Try.results19, go_sem, p0, p1]) rfl ⟨by rw [HD.out], b2⟩)
end Go.Proofs.Ytblodnpfckflaak
