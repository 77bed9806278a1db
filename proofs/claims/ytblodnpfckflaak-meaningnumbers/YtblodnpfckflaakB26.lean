/- Texts of one proof, one behind the other: SN4, SN5, SN6. -/
import Derived.Test.YtblodnpfckflaakB25
/- Walks: valuesFault (made by gen/sn4.py). -/
namespace Go.Proofs.Ytblodnpfckflaak
open Go.RowKit Go.Sort Go.Maps Go.WideMaps

/-- What valuesFault says, one by one. -/
def vfAt (n : Nat) : Nat → List (List UInt8 × Int) → Int × Int
  | _, [] => (0, 0)
  | i, p :: r => if isNm p.1 = false then (8, (i : Int)) else if thingB n p.2 = false then (3, (i : Int)) else vfAt n (i + 1) r
def vfcode (n : Nat) (names : List (List UInt8)) (vals : List Int) : Int × Int := if names.length = vals.length ∧ names.length ≤ 20 then vfAt n 0 (names.zip vals) else (9, 0)
theorem vfAt_drop {n i : Nat} {l : List (List UInt8 × Int)} {p : List UInt8 × Int} (h : l[i]? = some p) : vfAt n i (l.drop i) = if isNm p.1 = false then (8, (i : Int)) else if thingB n p.2 = false then (3, (i : Int)) else vfAt n (i + 1) (l.drop (i + 1)) := by
  have hi := (List.getElem?_eq_some_iff.1 h).1; rw [List.drop_eq_getElem_cons hi, vfAt]; rw [List.getElem?_eq_getElem hi] at h; rw [Option.some.inj h]
set_option maxRecDepth 10000 in
set_option maxHeartbeats 8000000 in
theorem valuesFault_any (n : Nat) (u x : Value) (names : List (List UInt8)) (vals : List Int) (w : World) (hn : SL w u names) (hv : IL w x vals) (hlen : ∀ t ∈ names, t.length ≤ maxLen) :
    Calls Try.prog 19 #[.int .i64 (n : Nat), u, x] w fun e w' => e = .returned (.agg #[.int .i64 (vfcode n names vals).1, .int .i64 (vfcode n names vals).2]) ∧ Below w.heap.size w w' := by
  obtain ⟨an, cn, rfl, n1, n2, n3⟩ := hn; obtain ⟨av, cv, rfl, v1, v2, v3⟩ := hv; have HN : Hid (names ≠ [] → ∃ g off, an = some ⟨g, off, none⟩ ∧ ∀ (j : Nat) (t : List UInt8), names[j]? = some t → w.cell? ⟨g, off + j, none⟩ = some (.string ⟨t.toArray⟩)) := n3; have HVl : Hid (vals ≠ [] → ∃ g off, av = some ⟨g, off, none⟩ ∧ ∀ (j : Nat) (x : Int), vals[j]? = some x → w.cell? ⟨g, off + j, none⟩ = some (.int .i64 x)) := v3; have HLn : Hid (∀ t ∈ names, t.length ≤ maxLen) := hlen; (have hnI : ((names.length : Nat) : Int) ≤ 9223372036854775807 := by unfold maxLen at n2; omega); (have hvI : ((vals.length : Nat) : Int) ≤ 9223372036854775807 := by unfold maxLen at v2; omega); obtain ⟨W, hWe⟩ : ∃ W, w.alloc (.cells #[.int .i64 0, .int .i64 0] 39 (0, 0)) = W := ⟨_, rfl⟩; (have hBW : Below w.heap.size w W := by rw [← hWe]; exact below_more (Below.refl _ _) _); (have hq : W.heap[w.heap.size]? = some (.cells #[.int .i64 0, .int .i64 0] 39 (0, 0)) := by rw [← hWe]; exact blk_new _ _); have HBW : Hid (Below w.heap.size w W) := hBW; have HQ : Hid (W.heap[w.heap.size]? = some (.cells #[.int .i64 0, .int .i64 0] 39 (0, 0))) := hq; obtain ⟨p0, p1, p2, p3⟩ := blk2 hq; have hs1 := lt_of_block hq; clear hlen n1 n2 n3 v1 v2 v3 hBW hq; by_cases hl : names.length = vals.length
  case neg =>
    (have hE : vfcode n names vals = (9, 0) := by unfold vfcode; rw [if_neg (fun h => hl h.1)]); (have hJ : ((names.length : Int) != (vals.length : Int)) = true := by rw [bne_iff_ne]; omega); rw [hE]; clear hl hE HN HVl HLn
    go_enter Try.func19, Try.ntmps19
    go_wp2_with fail; have f2 := set2 HQ.out (.int .i64 (9)) (.int .i64 (0)); have b2 := (HBW.out.setCell (p := ⟨w.heap.size, 0, none⟩) (Nat.le_refl _) (.int .i64 (9))).setCell (p := ⟨w.heap.size, 1, none⟩) (Nat.le_refl _) (.int .i64 (0)); generalize World.setCell _ _ _ = F at f2 b2 ⊢; clear p0 p1 p2 p3; obtain ⟨p0, p1, -⟩ := blk2 f2; (exact bodyPost_ret (v := .agg #[.int .i64 (9), .int .i64 (0)]) (by simp [results, Try.results19, go_sem, p0, p1]) rfl ⟨rfl, b2⟩)
  (have hJ : ((names.length : Int) != (vals.length : Int)) = false := by rw [bne_eq_false_iff_eq]; omega); by_cases h20 : names.length ≤ 20
  case neg =>
    (have hE : vfcode n names vals = (9, 0) := by unfold vfcode; rw [if_neg (fun h => h20 h.2)]); (have h20I : (20 : Int) < (names.length : Int) := by omega); rw [hE]; clear hl hE HN HVl HLn h20
    go_enter Try.func19, Try.ntmps19
    go_wp2_with fail; have f2 := set2 HQ.out (.int .i64 (9)) (.int .i64 (0)); have b2 := (HBW.out.setCell (p := ⟨w.heap.size, 0, none⟩) (Nat.le_refl _) (.int .i64 (9))).setCell (p := ⟨w.heap.size, 1, none⟩) (Nat.le_refl _) (.int .i64 (0)); generalize World.setCell _ _ _ = F at f2 b2 ⊢; clear p0 p1 p2 p3; obtain ⟨p0, p1, -⟩ := blk2 f2; (exact bodyPost_ret (v := .agg #[.int .i64 (9), .int .i64 (0)]) (by simp [results, Try.results19, go_sem, p0, p1]) rfl ⟨rfl, b2⟩)
  (have h20I : (names.length : Int) ≤ 20 := by omega); (have h20J : ¬ (20 : Int) < (names.length : Int) := by omega); have HO : Hid (names.length = vals.length) := hl; (have hE : vfcode n names vals = vfAt n 0 ((names.zip vals).drop 0) := by unfold vfcode; rw [if_pos ⟨hl, h20⟩, List.drop_zero]); generalize vfcode n names vals = E at *; have HE0 : Hid (E = vfAt n 0 ((names.zip vals).drop 0)) := hE; clear hl hE h20
  go_enter Try.func19, Try.ntmps19
  go_wp2_with fail; clear p0 p1 p2 p3 hWe hs1
  go_loopg [22, 7, 8] names.length (fun g c a b wr => ∃ i, i ≤ names.length ∧ g = names.length - i ∧ c = .int .i64 (i : Nat) ∧ Hid (E = vfAt n i ((names.zip vals).drop i)) ∧ Hid (Below w.heap.size w wr) ∧ Hid (wr.heap[w.heap.size]? = some (.cells #[.int .i64 0, .int .i64 0] 39 (0, 0))))
  case atStart => exact ⟨0, by omega, by omega, rfl, HE0, HBW, HQ⟩
  case round =>
    obtain ⟨i, hile, hg, rfl, HEr, HBr, HQr⟩ := hrel; have HG : Hid (gk = names.length - i) := hg; obtain ⟨p0, p1, p2, p3⟩ := blk2 HQr.out; have hs1 := lt_of_block HQr.out; clear hg; by_cases hlt : i < names.length
    · obtain ⟨t, ht⟩ : ∃ x, names[i]? = some x := ⟨_, List.getElem?_eq_getElem hlt⟩
      (have hqv : i < vals.length := by have := HO.out; omega); obtain ⟨y, hy⟩ : ∃ x, vals[i]? = some x := ⟨_, List.getElem?_eq_getElem hqv⟩; (obtain ⟨g, off, rfl, hc⟩ := HN.out (fun e => by rw [e] at hlt; simp at hlt)); (obtain ⟨gq, offq, rfl, hd⟩ := HVl.out (fun e => by rw [e] at hqv; simp at hqv)); have z0 := hc i t ht; have z1 := hd i y hy; have y0 := (HBr.out.cell (lt_of_cell z0)).trans z0; have y1 := (HBr.out.cell (lt_of_cell z1)).trans z1; have HY1 : Hid (wr.cell? ⟨gq, offq + i, none⟩ = some (.int .i64 y)) := y1; (have hltI : (i : Int) < (names.length : Int) := by omega); (have hltJ : (i : Int) < (vals.length : Int) := by omega); (have hzip : (names.zip vals)[i]? = some (t, y) := by rw [List.getElem?_zip_eq_some]; exact ⟨ht, hy⟩); have hd := HEr.out; rw [vfAt_drop hzip] at hd; (have HVr : Hid (∀ w, Calls Try.prog 37 #[.string ⟨t.toArray⟩] w fun e w' => e = .returned (.bool (isNm t)) ∧ Below w.heap.size w w') := fun w => var_any ⟨t.toArray⟩ (by have := HLn.out t (List.mem_of_getElem? ht); show t.toArray.size ≤ _; simpa using this) w); (have HTh : Hid (∀ w, Calls Try.prog 38 #[.int .i64 (n : Nat), .int .i64 y] w fun e w' => e = .returned (.bool (thingB n y)) ∧ w' = w) := fun w => isThing_any n y w); have HLt : Hid (i < names.length) := hlt; clear ht hy hc z0 z1 hlt hile hqv hzip HN HVl
      rcases hnm : isNm t with _ | _
      · rw [hnm] at HVr hd
        simp only [if_true] at hd; have HD : Hid (E = (8, (i : Int))) := hd; clear hnm hd
        go_wp2_with (first
          | (go_at_call 37
             refine (HVr.out _).mono ?_; rintro e w4 ⟨rfl, hb4⟩; have HB4 : Hid (Below w.heap.size w w4) := below_join HBr.out hb4; have HQ4 : Hid (w4.heap[w.heap.size]? = some (.cells #[.int .i64 0, .int .i64 0] 39 (0, 0))) := below_keep hb4 HQr.out; clear p0 p1 p2 p3 hb4; obtain ⟨p0, p1, p2, p3⟩ := blk2 HQ4.out
             have hs4 := lt_of_block HQ4.out)
          | fail)
        have f2 := set2 HQ4.out (.int .i64 (8)) (.int .i64 ((i : Nat))); have b2 := (HB4.out.setCell (p := ⟨w.heap.size, 0, none⟩) (Nat.le_refl _) (.int .i64 (8))).setCell (p := ⟨w.heap.size, 1, none⟩) (Nat.le_refl _) (.int .i64 ((i : Nat))); generalize World.setCell _ _ _ = F at f2 b2 ⊢; clear p0 p1 p2 p3; obtain ⟨p0, p1, -⟩ := blk2 f2; (exact bodyPost_ret (v := .agg #[.int .i64 (8), .int .i64 ((i : Nat))]) (by simp [results, Try.results19, go_sem, p0, p1]) rfl ⟨by rw [HD.out], b2⟩)
      · rw [hnm] at HVr hd
        simp only [Bool.true_eq_false, if_false] at hd; clear hnm
        rcases hth : thingB n y with _ | _
        · rw [hth] at HTh hd
          simp only [if_true] at hd; have HD : Hid (E = (3, (i : Int))) := hd; clear hth hd
          go_wp2_with (first
            | (go_at_call 37
               refine (HVr.out _).mono ?_; rintro e w4 ⟨rfl, hb4⟩; have HB4 : Hid (Below w.heap.size w w4) := below_join HBr.out hb4; have HQ4 : Hid (w4.heap[w.heap.size]? = some (.cells #[.int .i64 0, .int .i64 0] 39 (0, 0))) := below_keep hb4 HQr.out; have y4 := (hb4.cell (lt_of_cell HY1.out)).trans HY1.out; clear p0 p1 p2 p3 hb4; obtain ⟨p0, p1, p2, p3⟩ := blk2 HQ4.out
               have hs4 := lt_of_block HQ4.out)
            | (go_at_call 38; refine (HTh.out _).mono ?_; rintro e w5 ⟨rfl, h5⟩; obtain rfl : w4 = w5 := h5.symm)
            | fail)
          have f2 := set2 HQ4.out (.int .i64 (3)) (.int .i64 ((i : Nat))); have b2 := (HB4.out.setCell (p := ⟨w.heap.size, 0, none⟩) (Nat.le_refl _) (.int .i64 (3))).setCell (p := ⟨w.heap.size, 1, none⟩) (Nat.le_refl _) (.int .i64 ((i : Nat))); generalize World.setCell _ _ _ = F at f2 b2 ⊢; clear p0 p1 p2 p3; obtain ⟨p0, p1, -⟩ := blk2 f2; (exact bodyPost_ret (v := .agg #[.int .i64 (3), .int .i64 ((i : Nat))]) (by simp [results, Try.results19, go_sem, p0, p1]) rfl ⟨by rw [HD.out], b2⟩)
        · rw [hth] at HTh hd
          simp only [Bool.true_eq_false, if_false] at hd; have HD : Hid (E = vfAt n (i + 1) ((names.zip vals).drop (i + 1))) := hd; clear hth hd
          go_wp2_with (first
            | (go_at_call 37
               refine (HVr.out _).mono ?_; rintro e w4 ⟨rfl, hb4⟩; have HB4 : Hid (Below w.heap.size w w4) := below_join HBr.out hb4; have HQ4 : Hid (w4.heap[w.heap.size]? = some (.cells #[.int .i64 0, .int .i64 0] 39 (0, 0))) := below_keep hb4 HQr.out; have y4 := (hb4.cell (lt_of_cell HY1.out)).trans HY1.out; clear p0 p1 p2 p3 hb4; obtain ⟨p0, p1, p2, p3⟩ := blk2 HQ4.out
               have hs4 := lt_of_block HQ4.out)
            | (go_at_call 38; refine (HTh.out _).mono ?_; rintro e w5 ⟨rfl, h5⟩; obtain rfl : w4 = w5 := h5.symm)
            | fail)
          go_roundg (names.length - (i + 1))
          case measure => have := HG.out; have := HLt.out; omega
          case rel => exact ⟨i + 1, HLt.out, rfl, by go_num, HD, HB4, HQ4⟩
    · have hge : ¬ (i : Int) < (names.length : Int) := by omega
      have HD : Hid (E = (0, 0)) := by
        have := HEr.out; (rw [List.drop_of_length_le (by rw [List.length_zip, ← HO.out, Nat.min_self]; omega), vfAt] at this); exact this
      clear hlt hile HN HVl; go_wp2_with fail; have f2 := set2 HQr.out (.int .i64 (0)) (.int .i64 (0)); have b2 := (HBr.out.setCell (p := ⟨w.heap.size, 0, none⟩) (Nat.le_refl _) (.int .i64 (0))).setCell (p := ⟨w.heap.size, 1, none⟩) (Nat.le_refl _) (.int .i64 (0)); generalize World.setCell _ _ _ = F at f2 b2 ⊢; clear p0 p1 p2 p3; obtain ⟨p0, p1, -⟩ := blk2 f2; (exact bodyPost_ret (v := .agg #[.int .i64 (0), .int .i64 (0)]) (by simp [results, Try.results19, go_sem, p0, p1]) rfl ⟨by rw [HD.out], b2⟩)
end Go.Proofs.Ytblodnpfckflaak
/- Walks: look (what Check says of one function or predicate). -/
namespace Go.Proofs.Ytblodnpfckflaak
open Go.RowKit Go.Sort Go.Maps Go.WideMaps

/-- What look says. -/
def lkF (N : Nat) (seen : Bool) (nm : List UInt8) (ar : Int) (filled : Nat) : Option Int := if seen = true ∨ isBg nm = false then some 8 else if ar < 0 ∨ 3 < ar then some 3 else if filled ≠ N ^ ar.toNat then some 9 else none
def LkPost (o : Option Int) (bm c : Nat) (mu : List UInt8 → Option Value) (nm : List UInt8) (at_ : Nat) (w : World) (e : Ending) (w' : World) : Prop := match o with
  | some code => e = .panicked (stopC code (at_ : Nat)) ∧ Below w.heap.size w w'
  | none => e = .returned (.tuple #[]) ∧ GMap w' bm (gPut mu nm (.int .i64 (at_ : Nat))) (c + 1) ∧ Kept (· ≠ bm) w w'
set_option maxRecDepth 10000 in
set_option maxHeartbeats 8000000 in
theorem look_nm (N : Nat) (hN : N ≤ 8) (bm c : Nat) (hc : c ≤ 1000) (mu : List UInt8 → Option Value) (nm : ByteArray) (hn : nm.size ≤ maxLen) (ar : Int) (filled at_ : Nat) (w : World) (hg : GMap w bm mu c) (hmu : ∀ s v, mu s = some v → ∃ x : Int, v = .int .i64 x) :
    Calls Try.prog 52 #[.agg #[.int .i64 (N : Nat), .map (some bm)], .string nm, .int .i64 ar, .int .i64 (filled : Nat), .int .i64 (at_ : Nat)] w (LkPost (lkF N (mu nm.data.toList).isSome nm.data.toList ar filled) bm c mu nm.data.toList at_ w) := by
  obtain ⟨W, hWe⟩ : ∃ W, w.alloc (.cells #[.int .i64 (N : Nat), .map (some bm)] 90 (0, 0)) = W := ⟨_, rfl⟩; (have hBW : Below w.heap.size w W := by rw [← hWe]; exact below_more (Below.refl _ _) _); (have hq : W.heap[w.heap.size]? = some (.cells #[.int .i64 (N : Nat), .map (some bm)] 90 (0, 0)) := by rw [← hWe]; exact blk_new _ _); have hgW := hg.up hBW; have HG : Hid (GMap W bm mu c) := hgW; have HBW : Hid (Below w.heap.size w W) := hBW; have hlk := hgW.lookOk (okT_of hn) Try.underlying55 zeroInt 0; rw [str_eta] at hlk
  obtain ⟨x, hx⟩ : ∃ x : Int, (mu nm.data.toList).getD (.int .i64 0) = .int .i64 x := by
    rcases hm : mu nm.data.toList with _ | v
    · exact ⟨0, rfl⟩
    · obtain ⟨x, rfl⟩ := hmu _ v hm
      exact ⟨x, rfl⟩
  rw [hx] at hlk; (have HBg : Hid (∀ w, Calls Try.prog 68 #[.string nm] w fun e w' => e = .returned (.bool (isBg nm.data.toList)) ∧ w' = w) := fun w => big_any nm w); have HO : Hid (OkT nm.data.toList ∧ c ≤ 1000) := ⟨okT_of hn, hc⟩; obtain ⟨a0, a1, a2, a3⟩ := blk2 hq; have hs1 := lt_of_block hq; have hlk0 : (Instr.lookup 55 (.map (some bm)) (.string nm) true).run Try.prog W = .ok (.tuple #[.int .i64 x, .bool (mu nm.data.toList).isSome]) W := hlk; clear hg hmu hn hc hBW hq hgW hlk hx; unfold lkF
  rcases hsn : (mu nm.data.toList).isSome with _ | _
  case true =>
    rw [hsn] at hlk0; rw [if_pos (Or.inl rfl)]; clear hsn
    go_enter Try.func52, Try.ntmps52
    go_wp2_with (first
      | (go_at_call 54; refine (stop_any _ _ _).mono ?_; rintro e w4 ⟨rfl, rfl⟩)
      | fail)
    exact ⟨rfl, rfl, HBW.out⟩
  rw [hsn] at hlk0; clear hsn
  rcases hbg : isBg nm.data.toList with _ | _
  · rw [hbg] at HBg
    rw [if_pos (Or.inr rfl)]; clear hbg
    go_enter Try.func52, Try.ntmps52
    go_wp2_with (first
      | (go_at_call 68; refine (HBg.out _).mono ?_; rintro e w3 ⟨rfl, h3⟩; obtain rfl : W = w3 := h3.symm)
      | (go_at_call 54; refine (stop_any _ _ _).mono ?_; rintro e w4 ⟨rfl, rfl⟩)
      | fail)
    exact ⟨rfl, rfl, HBW.out⟩
  rw [hbg] at HBg; (rw [if_neg (by simp)]); clear hbg; by_cases hlo : ar < 0
  · rw [if_pos (Or.inl hlo)]
    go_enter Try.func52, Try.ntmps52
    go_wp2_with (first
      | (go_at_call 68; refine (HBg.out _).mono ?_; rintro e w3 ⟨rfl, h3⟩; obtain rfl : W = w3 := h3.symm)
      | (go_at_call 54; refine (stop_any _ _ _).mono ?_; rintro e w4 ⟨rfl, rfl⟩)
      | fail)
    exact ⟨rfl, rfl, HBW.out⟩
  by_cases hhi : 3 < ar
  · rw [if_pos (Or.inr hhi)]
    go_enter Try.func52, Try.ntmps52
    go_wp2_with (first
      | (go_at_call 68; refine (HBg.out _).mono ?_; rintro e w3 ⟨rfl, h3⟩; obtain rfl : W = w3 := h3.symm)
      | (go_at_call 54; refine (stop_any _ _ _).mono ?_; rintro e w4 ⟨rfl, rfl⟩)
      | fail)
    exact ⟨rfl, rfl, HBW.out⟩
  (rw [if_neg (fun h => h.elim hlo hhi)]); (obtain ⟨r, rfl⟩ : ∃ r : Nat, ar = (r : Int) := ⟨ar.toNat, by omega⟩); (have HPw : Hid (∀ w, Calls Try.prog 24 #[.int .i64 (N : Nat), .int .i64 (r : Nat)] w fun e w' => e = .returned (.int .i64 ((N ^ r : Nat) : Int)) ∧ w' = w) := fun w => power_any N r hN (by omega) w); have er : (r : Int).toNat = r := Int.toNat_natCast r; rw [er]; generalize N ^ r = P at *; clear er hN; by_cases hfl : filled = P
  · have hJ : ((filled : Int) != (P : Int)) = false := by rw [bne_eq_false_iff_eq]; omega
    (rw [if_neg (fun h => h hfl)]); clear hfl
    go_enter Try.func52, Try.ntmps52
    go_wp2_with (first
      | (go_at_call 68; refine (HBg.out _).mono ?_; rintro e w3 ⟨rfl, h3⟩; obtain rfl : W = w3 := h3.symm)
      | (go_at_call 24; refine (HPw.out _).mono ?_; rintro e w3 ⟨rfl, h3⟩; obtain rfl : W = w3 := h3.symm)
      | (at_mapUpdate
         (refine wpList_gput rfl _ _ _ 55 3 rfl Try.underlying55 bm c nm.data.toList mu HO.out.1 (by have := HO.out.2; unfold maxLen; omega) HG.out rfl (by show _ = Value.string ⟨nm.data.toList.toArray⟩; rw [str_eta]; rfl) (.int .i64 (at_ : Nat)) rfl ?_); intro w5 hg5 hk5; (have HX5 : Hid (GMap w5 bm (gPut mu nm.data.toList (.int .i64 (at_ : Nat))) (c + 1) ∧ Kept (· ≠ bm) w w5) := ⟨hg5, (kept_of_below HBW.out fun _ h _ => h).trans hk5⟩)
         clear hg5 hk5)
      | fail)
    go_end0
    exact ⟨rfl, HX5.out.1, HX5.out.2⟩
  · have hJ : ((filled : Int) != (P : Int)) = true := by rw [bne_iff_ne]; omega
    rw [if_pos hfl]; clear hfl
    go_enter Try.func52, Try.ntmps52
    go_wp2_with (first
      | (go_at_call 68; refine (HBg.out _).mono ?_; rintro e w3 ⟨rfl, h3⟩; obtain rfl : W = w3 := h3.symm)
      | (go_at_call 24; refine (HPw.out _).mono ?_; rintro e w3 ⟨rfl, h3⟩; obtain rfl : W = w3 := h3.symm)
      | (go_at_call 54; refine (stop_any _ _ _).mono ?_; rintro e w4 ⟨rfl, rfl⟩)
      | fail)
    exact ⟨rfl, rfl, HBW.out⟩
end Go.Proofs.Ytblodnpfckflaak
/- Walks: ContainsFunc at numbers, for what is no thing. -/
namespace Go.Proofs.Ytblodnpfckflaak
open Go.RowKit Go.Sort Go.Maps Go.WideMaps

set_option maxHeartbeats 2000000 in
theorem noThing_any (N : Nat) (y : Int) (sb : Nat) (c1 c2 : Value) (w : World) (hq : w.heap[sb]? = some (.cells #[.int .i64 (N : Nat), c1, c2] 25 (0, 0))) :
    Calls Try.prog 49 #[.int .i64 y, .pointer (some ⟨sb, 0, none⟩)] w fun e w' => e = .returned (.bool (!thingB N y)) ∧ w' = w := by
  obtain ⟨a0, a1, a2, -⟩ := blk3 hq; (have HTh : Hid (∀ w, Calls Try.prog 38 #[.int .i64 (N : Nat), .int .i64 y] w fun e w' => e = .returned (.bool (thingB N y)) ∧ w' = w) := fun w => isThing_any N y w); have HW : Hid (w = w) := rfl; clear hq
  go_enter Try.func49, Try.ntmps49
  go_wp2_with (first
    | (go_at_call 38; refine (HTh.out _).mono ?_; rintro e w5 ⟨rfl, h5⟩; obtain rfl : w = w5 := h5.symm)
    | fail)
  go_ret; exact ⟨rfl, rfl⟩
theorem noThing_in (cap : Array Value) (w : World) : (callFunc 49 cap).run Try.prog w = .ok (.enter 49 cap) w := by
  simp [go_sem]
set_option maxRecDepth 10000 in
set_option maxHeartbeats 4000000 in
theorem indexNo_any (N : Nat) (l : List Int) (v : Value) (sb : Nat) (c1 c2 : Value) (w : World) (hl : IL w v l) (hq : w.heap[sb]? = some (.cells #[.int .i64 (N : Nat), c1, c2] 25 (0, 0))) :
    Calls Try.prog 71 #[v, .func (.func 49) #[] #[.pointer (some ⟨sb, 0, none⟩)]] w fun e w' => (∃ j : Int, e = .returned (.int .i64 j) ∧ (0 ≤ j ↔ (l.any fun y => !thingB N y) = true)) ∧ w' = w := by
  obtain ⟨ad, cp, rfl, h1, h2, h3⟩ := hl; have HX : Hid (l ≠ [] → ∃ g off, ad = some ⟨g, off, none⟩ ∧ ∀ (j : Nat) (x : Int), l[j]? = some x → w.cell? ⟨g, off + j, none⟩ = some (.int .i64 x)) := h3; have HQ : Hid (w.heap[sb]? = some (.cells #[.int .i64 (N : Nat), c1, c2] 25 (0, 0))) := hq; (have hlI : ((l.length : Nat) : Int) ≤ 9223372036854775807 := by unfold maxLen at h2; omega); have hcf := noThing_in #[]; clear h1 h2 h3 hq
  go_enter Try.func71, Try.ntmps71
  go_wp2_with fail
  go_loopg [8, 5] l.length (fun g c b wr => ∃ i, i ≤ l.length ∧ g = l.length - i ∧ c = .int .i64 (i : Nat) ∧ Hid (((l.take i).any fun y => !thingB N y) = false) ∧ Hid (wr = w))
  case atStart => exact ⟨0, by omega, by omega, rfl, rfl, rfl⟩
  case round =>
    obtain ⟨i, hile, hg, rfl, HE, HW⟩ := hrel; have hw := HW.out; subst hw; have HG : Hid (gk = l.length - i) := hg; clear hg; by_cases hlt : i < l.length
    · obtain ⟨t, ht⟩ : ∃ x, l[i]? = some x := ⟨_, List.getElem?_eq_getElem hlt⟩
      (obtain ⟨g, off, rfl, hc⟩ := HX.out (fun e => by rw [e] at hlt; simp at hlt)); have g0 := hc i t ht; (have hltI : (i : Int) < (l.length : Int) := by omega); (have HC : Hid (Calls Try.prog 49 #[.int .i64 t, .pointer (some ⟨sb, 0, none⟩)] wr fun e w' => e = .returned (.bool (!thingB N t)) ∧ w' = wr) := noThing_any N t sb c1 c2 wr HQ.out)
      have HTk : Hid (((l.take (i + 1)).any fun y => !thingB N y) = !thingB N t) := by
        show _ = _; rw [List.take_add_one, ht, List.any_append, HE.out]
        simp
      have HMx : Hid (t ∈ l ∧ i < l.length) := ⟨List.mem_of_getElem? ht, hlt⟩; clear hc ht hlt hile
      rcases hs : thingB N t with _ | _
      · rw [hs] at HC
        have HF : Hid ((l.any fun y => !thingB N y) = true) := by
          show _ = _; rw [List.any_eq_true]; (exact ⟨t, HMx.out.1, by rw [hs]; rfl⟩)
        clear hs
        go_wp2_with (first
          | (go_at_call 49; refine HC.out.mono ?_; rintro e w5 ⟨rfl, h5⟩; obtain rfl : wr = w5 := h5.symm)
          | fail)
        go_ret; (exact ⟨⟨_, rfl, fun _ => HF.out, fun _ => by omega⟩, rfl⟩)
      · rw [hs] at HC HTk
        clear hs
        go_wp2_with (first
          | (go_at_call 49; refine HC.out.mono ?_; rintro e w5 ⟨rfl, h5⟩; obtain rfl : wr = w5 := h5.symm)
          | fail)
        go_roundg (l.length - (i + 1))
        case measure => have := HG.out; have := HMx.out.2; omega
        case rel => exact ⟨i + 1, HMx.out.2, rfl, by go_num, HTk, rfl⟩
    · have hge : ¬ (i : Int) < (l.length : Int) := by omega
      have HF : Hid ((l.any fun y => !thingB N y) = false) := by
        have := HE.out; (rw [List.take_of_length_le (by omega)] at this); exact this
      clear hlt hile HX; go_wp2_with fail; go_ret
      exact ⟨⟨_, rfl, fun h => absurd h (by omega), fun h => by
        obtain ⟨x, hx, h3⟩ := h; have h2 := HF.out; rw [List.any_eq_false] at h2; have h4 := h2 x hx; rw [h3] at h4
        exact absurd rfl h4⟩, rfl⟩
set_option maxHeartbeats 2000000 in
theorem containsNo_any (N : Nat) (l : List Int) (v : Value) (sb : Nat) (c1 c2 : Value) (w : World) (hl : IL w v l) (hq : w.heap[sb]? = some (.cells #[.int .i64 (N : Nat), c1, c2] 25 (0, 0))) :
    Calls Try.prog 53 #[v, .func (.func 49) #[] #[.pointer (some ⟨sb, 0, none⟩)]] w fun e w' => e = .returned (.bool (l.any fun y => !thingB N y)) ∧ w' = w := by
  have HX : Hid (Calls Try.prog 71 _ w _) := indexNo_any N l v sb c1 c2 w hl hq; obtain ⟨ad, cp, rfl, -⟩ := hl; clear hq; (generalize (l.any fun y => !thingB N y) = r at *)
  go_enter Try.func53, Try.ntmps53
  go_wp2_with (first
    | (go_at_call 71
       refine HX.out.mono ?_; rintro e w5 ⟨⟨j, rfl, hj⟩, h5⟩; obtain rfl : w = w5 := h5.symm; have HJ : Hid (0 ≤ j ↔ r = true) := hj
       clear hj)
    | fail)
  go_ret; refine ⟨ret_bool ?_, rfl⟩; have := HJ.out; rw [Bool.eq_iff_iff]; simpa using this
end Go.Proofs.Ytblodnpfckflaak
