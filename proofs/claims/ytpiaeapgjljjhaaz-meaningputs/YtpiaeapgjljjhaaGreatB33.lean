/- Texts of one proof, one behind the other: SN4, SN5, SN6, SN7. -/
import Derived.Test.YtpiaeapgjljjhaaGreatB31
/- Walks: valuesFault (made by gen/sn4.py). -/
namespace Go.Proofs.YtpiaeapgjljjhaaGreat
open Go.RowKit Go.Sort Go.Maps Go.WideMaps

/-- What valuesFault says, one by one. -/
def vfAt (n : Nat) : Nat → List (List UInt8 × Int) → Int × Int
  | _, [] => (0, 0)
  | i, p :: r => if isNm p.1 = false then (8, (i : Int)) else if thingB n p.2 = false then (3, (i : Int)) else vfAt n (i + 1) r
def vfcode (n : Nat) (names : List (List UInt8)) (vals : List Int) : Int × Int := if names.length = vals.length ∧ names.length ≤ 20 then vfAt n 0 (names.zip vals) else (9, 0)
theorem vfAt_drop {n i : Nat} {l : List (List UInt8 × Int)} {p : List UInt8 × Int} (h : l[i]? = some p) : vfAt n i (l.drop i) = if isNm p.1 = false then (8, (i : Int)) else if thingB n p.2 = false then (3, (i : Int)) else vfAt n (i + 1) (l.drop (i + 1)) := by
  have hi := (List.getElem?_eq_some_iff.1 h).1; rw [List.drop_eq_getElem_cons hi, vfAt]; rw [List.getElem?_eq_getElem hi] at h; rw [Option.some.inj h]
set_option maxRecDepth 10000 in
set_option maxHeartbeats 8000000 in
theorem valuesFault_any (n : Nat) (u x : Value) (names : List (List UInt8)) (vals : List Int) (w : World) (hn : SL w u names) (hv : IL w x vals) (hlen : ∀ t ∈ names, t.length ≤ maxLen) :
    Calls Tryz.prog 75 #[.int .i64 (n : Nat), u, x] w fun e w' => e = .returned (.agg #[.int .i64 (vfcode n names vals).1, .int .i64 (vfcode n names vals).2]) ∧ Below w.heap.size w w' := by
  obtain ⟨an, cn, rfl, n1, n2, n3⟩ := hn; obtain ⟨av, cv, rfl, v1, v2, v3⟩ := hv; have HN : Hid (names ≠ [] → ∃ g off, an = some ⟨g, off, none⟩ ∧ ∀ (j : Nat) (t : List UInt8), names[j]? = some t → w.cell? ⟨g, off + j, none⟩ = some (.string ⟨t.toArray⟩)) := n3; have HVl : Hid (vals ≠ [] → ∃ g off, av = some ⟨g, off, none⟩ ∧ ∀ (j : Nat) (x : Int), vals[j]? = some x → w.cell? ⟨g, off + j, none⟩ = some (.int .i64 x)) := v3; have HLn : Hid (∀ t ∈ names, t.length ≤ maxLen) := hlen; (have hnI : ((names.length : Nat) : Int) ≤ 9223372036854775807 := by unfold maxLen at n2; omega); (have hvI : ((vals.length : Nat) : Int) ≤ 9223372036854775807 := by unfold maxLen at v2; omega); obtain ⟨W, hWe⟩ : ∃ W, w.alloc (.cells #[.int .i64 0, .int .i64 0] 30 (0, 0)) = W := ⟨_, rfl⟩; (have hBW : Below w.heap.size w W := by rw [← hWe]; exact below_more (Below.refl _ _) _); (have hq : W.heap[w.heap.size]? = some (.cells #[.int .i64 0, .int .i64 0] 30 (0, 0)) := by rw [← hWe]; exact blk_new _ _); have HBW : Hid (Below w.heap.size w W) := hBW; have HQ : Hid (W.heap[w.heap.size]? = some (.cells #[.int .i64 0, .int .i64 0] 30 (0, 0))) := hq; obtain ⟨p0, p1, p2, p3⟩ := blk2 hq; have hs1 := lt_of_block hq; clear hlen n1 n2 n3 v1 v2 v3 hBW hq; by_cases hl : names.length = vals.length
  case neg =>
    (have hE : vfcode n names vals = (9, 0) := by unfold vfcode; rw [if_neg (fun h => hl h.1)]); (have hJ : ((names.length : Int) != (vals.length : Int)) = true := by rw [bne_iff_ne]; omega); rw [hE]; clear hl hE HN HVl HLn
    go_enter Tryz.func75, Tryz.ntmps75
    go_wp2_with fail; have f2 := set2 HQ.out (.int .i64 (9)) (.int .i64 (0)); have b2 := (HBW.out.setCell (p := ⟨w.heap.size, 0, none⟩) (Nat.le_refl _) (.int .i64 (9))).setCell (p := ⟨w.heap.size, 1, none⟩) (Nat.le_refl _) (.int .i64 (0)); generalize World.setCell _ _ _ = F at f2 b2 ⊢; clear p0 p1 p2 p3; obtain ⟨p0, p1, -⟩ := blk2 f2; (exact bodyPost_ret (v := .agg #[.int .i64 (9), .int .i64 (0)]) (by simp [results, Tryz.results75, go_sem, p0, p1]) rfl ⟨rfl, b2⟩)
  (have hJ : ((names.length : Int) != (vals.length : Int)) = false := by rw [bne_eq_false_iff_eq]; omega); by_cases h20 : names.length ≤ 20
  case neg =>
    (have hE : vfcode n names vals = (9, 0) := by unfold vfcode; rw [if_neg (fun h => h20 h.2)]); (have h20I : (20 : Int) < (names.length : Int) := by omega); rw [hE]; clear hl hE HN HVl HLn h20
    go_enter Tryz.func75, Tryz.ntmps75
    go_wp2_with fail; have f2 := set2 HQ.out (.int .i64 (9)) (.int .i64 (0)); have b2 := (HBW.out.setCell (p := ⟨w.heap.size, 0, none⟩) (Nat.le_refl _) (.int .i64 (9))).setCell (p := ⟨w.heap.size, 1, none⟩) (Nat.le_refl _) (.int .i64 (0)); generalize World.setCell _ _ _ = F at f2 b2 ⊢; clear p0 p1 p2 p3; obtain ⟨p0, p1, -⟩ := blk2 f2; (exact bodyPost_ret (v := .agg #[.int .i64 (9), .int .i64 (0)]) (by simp [results, Tryz.results75, go_sem, p0, p1]) rfl ⟨rfl, b2⟩)
  (have h20I : (names.length : Int) ≤ 20 := by omega); (have h20J : ¬ (20 : Int) < (names.length : Int) := by omega); have HO : Hid (names.length = vals.length) := hl; (have hE : vfcode n names vals = vfAt n 0 ((names.zip vals).drop 0) := by unfold vfcode; rw [if_pos ⟨hl, h20⟩, List.drop_zero]); generalize vfcode n names vals = E at *; have HE0 : Hid (E = vfAt n 0 ((names.zip vals).drop 0)) := hE; clear hl hE h20
  go_enter Tryz.func75, Tryz.ntmps75
  go_wp2_with fail; clear p0 p1 p2 p3 hWe hs1
  go_loopg [22, 7, 8] names.length (fun g c a b wr => ∃ i, i ≤ names.length ∧ g = names.length - i ∧ c = .int .i64 (i : Nat) ∧ Hid (E = vfAt n i ((names.zip vals).drop i)) ∧ Hid (Below w.heap.size w wr) ∧ Hid (wr.heap[w.heap.size]? = some (.cells #[.int .i64 0, .int .i64 0] 30 (0, 0))))
  case atStart => exact ⟨0, by omega, by omega, rfl, HE0, HBW, HQ⟩
  case round =>
    obtain ⟨i, hile, hg, rfl, HEr, HBr, HQr⟩ := hrel; have HG : Hid (gk = names.length - i) := hg; obtain ⟨p0, p1, p2, p3⟩ := blk2 HQr.out; have hs1 := lt_of_block HQr.out; clear hg; by_cases hlt : i < names.length
    · obtain ⟨t, ht⟩ : ∃ x, names[i]? = some x := ⟨_, List.getElem?_eq_getElem hlt⟩
      (have hqv : i < vals.length := by have := HO.out; omega); obtain ⟨y, hy⟩ : ∃ x, vals[i]? = some x := ⟨_, List.getElem?_eq_getElem hqv⟩; (obtain ⟨g, off, rfl, hc⟩ := HN.out (fun e => by rw [e] at hlt; simp at hlt)); (obtain ⟨gq, offq, rfl, hd⟩ := HVl.out (fun e => by rw [e] at hqv; simp at hqv)); have z0 := hc i t ht; have z1 := hd i y hy; have y0 := (HBr.out.cell (lt_of_cell z0)).trans z0; have y1 := (HBr.out.cell (lt_of_cell z1)).trans z1; have HY1 : Hid (wr.cell? ⟨gq, offq + i, none⟩ = some (.int .i64 y)) := y1; (have hltI : (i : Int) < (names.length : Int) := by omega); (have hltJ : (i : Int) < (vals.length : Int) := by omega); (have hzip : (names.zip vals)[i]? = some (t, y) := by rw [List.getElem?_zip_eq_some]; exact ⟨ht, hy⟩); have hd := HEr.out; rw [vfAt_drop hzip] at hd; (have HVr : Hid (∀ w, Calls Tryz.prog 62 #[.string ⟨t.toArray⟩] w fun e w' => e = .returned (.bool (isNm t)) ∧ Below w.heap.size w w') := fun w => var_any ⟨t.toArray⟩ (by have := HLn.out t (List.mem_of_getElem? ht); show t.toArray.size ≤ _; simpa using this) w); (have HTh : Hid (∀ w, Calls Tryz.prog 118 #[.int .i64 (n : Nat), .int .i64 y] w fun e w' => e = .returned (.bool (thingB n y)) ∧ w' = w) := fun w => isThing_any n y w); have HLt : Hid (i < names.length) := hlt; clear ht hy hc z0 z1 hlt hile hqv hzip HN HVl
      rcases hnm : isNm t with _ | _
      · rw [hnm] at HVr hd
        simp only [if_true] at hd; have HD : Hid (E = (8, (i : Int))) := hd; clear hnm hd
        go_wp2_with (first
          | (go_at_call 62
             refine (HVr.out _).mono ?_; rintro e w4 ⟨rfl, hb4⟩; have HB4 : Hid (Below w.heap.size w w4) := below_join HBr.out hb4; have HQ4 : Hid (w4.heap[w.heap.size]? = some (.cells #[.int .i64 0, .int .i64 0] 30 (0, 0))) := below_keep hb4 HQr.out; clear p0 p1 p2 p3 hb4; obtain ⟨p0, p1, p2, p3⟩ := blk2 HQ4.out
             have hs4 := lt_of_block HQ4.out)
          | fail)
        have f2 := set2 HQ4.out (.int .i64 (8)) (.int .i64 ((i : Nat))); have b2 := (HB4.out.setCell (p := ⟨w.heap.size, 0, none⟩) (Nat.le_refl _) (.int .i64 (8))).setCell (p := ⟨w.heap.size, 1, none⟩) (Nat.le_refl _) (.int .i64 ((i : Nat))); generalize World.setCell _ _ _ = F at f2 b2 ⊢; clear p0 p1 p2 p3; obtain ⟨p0, p1, -⟩ := blk2 f2; (exact bodyPost_ret (v := .agg #[.int .i64 (8), .int .i64 ((i : Nat))]) (by simp [results, Tryz.results75, go_sem, p0, p1]) rfl ⟨by rw [HD.out], b2⟩)
      · rw [hnm] at HVr hd
        simp only [Bool.true_eq_false, if_false] at hd; clear hnm
        rcases hth : thingB n y with _ | _
        · rw [hth] at HTh hd
          simp only [if_true] at hd; have HD : Hid (E = (3, (i : Int))) := hd; clear hth hd
          go_wp2_with (first
            | (go_at_call 62
               refine (HVr.out _).mono ?_; rintro e w4 ⟨rfl, hb4⟩; have HB4 : Hid (Below w.heap.size w w4) := below_join HBr.out hb4; have HQ4 : Hid (w4.heap[w.heap.size]? = some (.cells #[.int .i64 0, .int .i64 0] 30 (0, 0))) := below_keep hb4 HQr.out; have y4 := (hb4.cell (lt_of_cell HY1.out)).trans HY1.out; clear p0 p1 p2 p3 hb4; obtain ⟨p0, p1, p2, p3⟩ := blk2 HQ4.out
               have hs4 := lt_of_block HQ4.out)
            | (go_at_call 118; refine (HTh.out _).mono ?_; rintro e w5 ⟨rfl, h5⟩; obtain rfl : w4 = w5 := h5.symm)
            | fail)
          have f2 := set2 HQ4.out (.int .i64 (3)) (.int .i64 ((i : Nat))); have b2 := (HB4.out.setCell (p := ⟨w.heap.size, 0, none⟩) (Nat.le_refl _) (.int .i64 (3))).setCell (p := ⟨w.heap.size, 1, none⟩) (Nat.le_refl _) (.int .i64 ((i : Nat))); generalize World.setCell _ _ _ = F at f2 b2 ⊢; clear p0 p1 p2 p3; obtain ⟨p0, p1, -⟩ := blk2 f2; (exact bodyPost_ret (v := .agg #[.int .i64 (3), .int .i64 ((i : Nat))]) (by simp [results, Tryz.results75, go_sem, p0, p1]) rfl ⟨by rw [HD.out], b2⟩)
        · rw [hth] at HTh hd
          simp only [Bool.true_eq_false, if_false] at hd; have HD : Hid (E = vfAt n (i + 1) ((names.zip vals).drop (i + 1))) := hd; clear hth hd
          go_wp2_with (first
            | (go_at_call 62
               refine (HVr.out _).mono ?_; rintro e w4 ⟨rfl, hb4⟩; have HB4 : Hid (Below w.heap.size w w4) := below_join HBr.out hb4; have HQ4 : Hid (w4.heap[w.heap.size]? = some (.cells #[.int .i64 0, .int .i64 0] 30 (0, 0))) := below_keep hb4 HQr.out; have y4 := (hb4.cell (lt_of_cell HY1.out)).trans HY1.out; clear p0 p1 p2 p3 hb4; obtain ⟨p0, p1, p2, p3⟩ := blk2 HQ4.out
               have hs4 := lt_of_block HQ4.out)
            | (go_at_call 118; refine (HTh.out _).mono ?_; rintro e w5 ⟨rfl, h5⟩; obtain rfl : w4 = w5 := h5.symm)
            | fail)
          go_roundg (names.length - (i + 1))
          case measure => have := HG.out; have := HLt.out; omega
          case rel => exact ⟨i + 1, HLt.out, rfl, by go_num, HD, HB4, HQ4⟩
    · have hge : ¬ (i : Int) < (names.length : Int) := by omega
      have HD : Hid (E = (0, 0)) := by
        have := HEr.out; (rw [List.drop_of_length_le (by rw [List.length_zip, ← HO.out, Nat.min_self]; omega), vfAt] at this); exact this
      clear hlt hile HN HVl; go_wp2_with fail; have f2 := set2 HQr.out (.int .i64 (0)) (.int .i64 (0)); have b2 := (HBr.out.setCell (p := ⟨w.heap.size, 0, none⟩) (Nat.le_refl _) (.int .i64 (0))).setCell (p := ⟨w.heap.size, 1, none⟩) (Nat.le_refl _) (.int .i64 (0)); generalize World.setCell _ _ _ = F at f2 b2 ⊢; clear p0 p1 p2 p3; obtain ⟨p0, p1, -⟩ := blk2 f2; (exact bodyPost_ret (v := .agg #[.int .i64 (0), .int .i64 (0)]) (by simp [results, Tryz.results75, go_sem, p0, p1]) rfl ⟨by rw [HD.out], b2⟩)
end Go.Proofs.YtpiaeapgjljjhaaGreat
/- Walks: look (what Check says of one function or predicate). -/
namespace Go.Proofs.YtpiaeapgjljjhaaGreat
open Go.RowKit Go.Sort Go.Maps Go.WideMaps

/-- What look says. -/
def lkF (N : Nat) (seen : Bool) (nm : List UInt8) (ar : Int) (filled : Nat) : Option Int := if seen = true ∨ isBg nm = false then some 8 else if ar < 0 ∨ 3 < ar then some 3 else if filled ≠ N ^ ar.toNat then some 9 else none
def LkPost (o : Option Int) (bm c : Nat) (mu : List UInt8 → Option Value) (nm : List UInt8) (at_ : Nat) (w : World) (e : Ending) (w' : World) : Prop := match o with
  | some code => e = .panicked (stopC code (at_ : Nat)) ∧ Below w.heap.size w w'
  | none => e = .returned (.tuple #[]) ∧ GMap w' bm (gPut mu nm (.int .i64 (at_ : Nat))) (c + 1) ∧ Kept (· ≠ bm) w w'
set_option maxRecDepth 10000 in
set_option maxHeartbeats 8000000 in
theorem look_nm (N : Nat) (hN : N ≤ 8) (bm c : Nat) (hc : c ≤ 1000) (mu : List UInt8 → Option Value) (nm : ByteArray) (hn : nm.size ≤ maxLen) (ar : Int) (filled at_ : Nat) (w : World) (hg : GMap w bm mu c) (hmu : ∀ s v, mu s = some v → ∃ x : Int, v = .int .i64 x) :
    Calls Tryz.prog 173 #[.agg #[.int .i64 (N : Nat), .map (some bm)], .string nm, .int .i64 ar, .int .i64 (filled : Nat), .int .i64 (at_ : Nat)] w (LkPost (lkF N (mu nm.data.toList).isSome nm.data.toList ar filled) bm c mu nm.data.toList at_ w) := by
  obtain ⟨W, hWe⟩ : ∃ W, w.alloc (.cells #[.int .i64 (N : Nat), .map (some bm)] 230 (0, 0)) = W := ⟨_, rfl⟩; (have hBW : Below w.heap.size w W := by rw [← hWe]; exact below_more (Below.refl _ _) _); (have hq : W.heap[w.heap.size]? = some (.cells #[.int .i64 (N : Nat), .map (some bm)] 230 (0, 0)) := by rw [← hWe]; exact blk_new _ _); have hgW := hg.up hBW; have HG : Hid (GMap W bm mu c) := hgW; have HBW : Hid (Below w.heap.size w W) := hBW; have hlk := hgW.lookOk (okT_of hn) Tryz.underlying120 zeroInt 0; rw [str_eta] at hlk
  obtain ⟨x, hx⟩ : ∃ x : Int, (mu nm.data.toList).getD (.int .i64 0) = .int .i64 x := by
    rcases hm : mu nm.data.toList with _ | v
    · exact ⟨0, rfl⟩
    · obtain ⟨x, rfl⟩ := hmu _ v hm
      exact ⟨x, rfl⟩
  rw [hx] at hlk; (have HBg : Hid (∀ w, Calls Tryz.prog 109 #[.string nm] w fun e w' => e = .returned (.bool (isBg nm.data.toList)) ∧ w' = w) := fun w => big_any nm w); have HO : Hid (OkT nm.data.toList ∧ c ≤ 1000) := ⟨okT_of hn, hc⟩; obtain ⟨a0, a1, a2, a3⟩ := blk2 hq; have hs1 := lt_of_block hq; have hlk0 : (Instr.lookup 120 (.map (some bm)) (.string nm) true).run Tryz.prog W = .ok (.tuple #[.int .i64 x, .bool (mu nm.data.toList).isSome]) W := hlk; clear hg hmu hn hc hBW hq hgW hlk hx; unfold lkF
  rcases hsn : (mu nm.data.toList).isSome with _ | _
  case true =>
    rw [hsn] at hlk0; rw [if_pos (Or.inl rfl)]; clear hsn
    go_enter Tryz.func173, Tryz.ntmps173
    go_wp2_with (first
      | (go_at_call 134; refine (stop_any _ _ _).mono ?_; rintro e w4 ⟨rfl, rfl⟩)
      | fail)
    exact ⟨rfl, rfl, HBW.out⟩
  rw [hsn] at hlk0; clear hsn
  rcases hbg : isBg nm.data.toList with _ | _
  · rw [hbg] at HBg
    rw [if_pos (Or.inr rfl)]; clear hbg
    go_enter Tryz.func173, Tryz.ntmps173
    go_wp2_with (first
      | (go_at_call 109; refine (HBg.out _).mono ?_; rintro e w3 ⟨rfl, h3⟩; obtain rfl : W = w3 := h3.symm)
      | (go_at_call 134; refine (stop_any _ _ _).mono ?_; rintro e w4 ⟨rfl, rfl⟩)
      | fail)
    exact ⟨rfl, rfl, HBW.out⟩
  rw [hbg] at HBg; (rw [if_neg (by simp)]); clear hbg; by_cases hlo : ar < 0
  · rw [if_pos (Or.inl hlo)]
    go_enter Tryz.func173, Tryz.ntmps173
    go_wp2_with (first
      | (go_at_call 109; refine (HBg.out _).mono ?_; rintro e w3 ⟨rfl, h3⟩; obtain rfl : W = w3 := h3.symm)
      | (go_at_call 134; refine (stop_any _ _ _).mono ?_; rintro e w4 ⟨rfl, rfl⟩)
      | fail)
    exact ⟨rfl, rfl, HBW.out⟩
  by_cases hhi : 3 < ar
  · rw [if_pos (Or.inr hhi)]
    go_enter Tryz.func173, Tryz.ntmps173
    go_wp2_with (first
      | (go_at_call 109; refine (HBg.out _).mono ?_; rintro e w3 ⟨rfl, h3⟩; obtain rfl : W = w3 := h3.symm)
      | (go_at_call 134; refine (stop_any _ _ _).mono ?_; rintro e w4 ⟨rfl, rfl⟩)
      | fail)
    exact ⟨rfl, rfl, HBW.out⟩
  (rw [if_neg (fun h => h.elim hlo hhi)]); (obtain ⟨r, rfl⟩ : ∃ r : Nat, ar = (r : Int) := ⟨ar.toNat, by omega⟩); (have HPw : Hid (∀ w, Calls Tryz.prog 80 #[.int .i64 (N : Nat), .int .i64 (r : Nat)] w fun e w' => e = .returned (.int .i64 ((N ^ r : Nat) : Int)) ∧ w' = w) := fun w => power_any N r hN (by omega) w); have er : (r : Int).toNat = r := Int.toNat_natCast r; rw [er]; generalize N ^ r = P at *; clear er hN; by_cases hfl : filled = P
  · have hJ : ((filled : Int) != (P : Int)) = false := by rw [bne_eq_false_iff_eq]; omega
    (rw [if_neg (fun h => h hfl)]); clear hfl
    go_enter Tryz.func173, Tryz.ntmps173
    go_wp2_with (first
      | (go_at_call 109; refine (HBg.out _).mono ?_; rintro e w3 ⟨rfl, h3⟩; obtain rfl : W = w3 := h3.symm)
      | (go_at_call 80; refine (HPw.out _).mono ?_; rintro e w3 ⟨rfl, h3⟩; obtain rfl : W = w3 := h3.symm)
      | (at_mapUpdate
         (refine wpList_gput rfl _ _ _ 120 3 rfl Tryz.underlying120 bm c nm.data.toList mu HO.out.1 (by have := HO.out.2; unfold maxLen; omega) HG.out rfl (by show _ = Value.string ⟨nm.data.toList.toArray⟩; rw [str_eta]; rfl) (.int .i64 (at_ : Nat)) rfl ?_); intro w5 hg5 hk5; (have HX5 : Hid (GMap w5 bm (gPut mu nm.data.toList (.int .i64 (at_ : Nat))) (c + 1) ∧ Kept (· ≠ bm) w w5) := ⟨hg5, (kept_of_below HBW.out fun _ h _ => h).trans hk5⟩)
         clear hg5 hk5)
      | fail)
    go_end0
    exact ⟨rfl, HX5.out.1, HX5.out.2⟩
  · have hJ : ((filled : Int) != (P : Int)) = true := by rw [bne_iff_ne]; omega
    rw [if_pos hfl]; clear hfl
    go_enter Tryz.func173, Tryz.ntmps173
    go_wp2_with (first
      | (go_at_call 109; refine (HBg.out _).mono ?_; rintro e w3 ⟨rfl, h3⟩; obtain rfl : W = w3 := h3.symm)
      | (go_at_call 80; refine (HPw.out _).mono ?_; rintro e w3 ⟨rfl, h3⟩; obtain rfl : W = w3 := h3.symm)
      | (go_at_call 134; refine (stop_any _ _ _).mono ?_; rintro e w4 ⟨rfl, rfl⟩)
      | fail)
    exact ⟨rfl, rfl, HBW.out⟩
end Go.Proofs.YtpiaeapgjljjhaaGreat
/- Walks: ContainsFunc at numbers, for what is no thing. -/
namespace Go.Proofs.YtpiaeapgjljjhaaGreat
open Go.RowKit Go.Sort Go.Maps Go.WideMaps

set_option maxHeartbeats 2000000 in
theorem noThing_any (N : Nat) (y : Int) (sb : Nat) (c1 c2 : Value) (w : World) (hq : w.heap[sb]? = some (.cells #[.int .i64 (N : Nat), c1, c2] 62 (0, 0))) :
    Calls Tryz.prog 171 #[.int .i64 y, .pointer (some ⟨sb, 0, none⟩)] w fun e w' => e = .returned (.bool (!thingB N y)) ∧ w' = w := by
  obtain ⟨a0, a1, a2, -⟩ := blk3 hq; (have HTh : Hid (∀ w, Calls Tryz.prog 118 #[.int .i64 (N : Nat), .int .i64 y] w fun e w' => e = .returned (.bool (thingB N y)) ∧ w' = w) := fun w => isThing_any N y w); have HW : Hid (w = w) := rfl; clear hq
  go_enter Tryz.func171, Tryz.ntmps171
  go_wp2_with (first
    | (go_at_call 118; refine (HTh.out _).mono ?_; rintro e w5 ⟨rfl, h5⟩; obtain rfl : w = w5 := h5.symm)
    | fail)
  go_ret; exact ⟨rfl, rfl⟩
theorem noThing_in (cap : Array Value) (w : World) : (callFunc 171 cap).run Tryz.prog w = .ok (.enter 171 cap) w := by
  simp [go_sem]
set_option maxRecDepth 10000 in
set_option maxHeartbeats 4000000 in
theorem indexNo_any (N : Nat) (l : List Int) (v : Value) (sb : Nat) (c1 c2 : Value) (w : World) (hl : IL w v l) (hq : w.heap[sb]? = some (.cells #[.int .i64 (N : Nat), c1, c2] 62 (0, 0))) :
    Calls Tryz.prog 204 #[v, .func (.func 171) #[] #[.pointer (some ⟨sb, 0, none⟩)]] w fun e w' => (∃ j : Int, e = .returned (.int .i64 j) ∧ (0 ≤ j ↔ (l.any fun y => !thingB N y) = true)) ∧ w' = w := by
  obtain ⟨ad, cp, rfl, h1, h2, h3⟩ := hl; have HX : Hid (l ≠ [] → ∃ g off, ad = some ⟨g, off, none⟩ ∧ ∀ (j : Nat) (x : Int), l[j]? = some x → w.cell? ⟨g, off + j, none⟩ = some (.int .i64 x)) := h3; have HQ : Hid (w.heap[sb]? = some (.cells #[.int .i64 (N : Nat), c1, c2] 62 (0, 0))) := hq; (have hlI : ((l.length : Nat) : Int) ≤ 9223372036854775807 := by unfold maxLen at h2; omega); have hcf := noThing_in #[]; clear h1 h2 h3 hq
  go_enter Tryz.func204, Tryz.ntmps204
  go_wp2_with fail
  go_loopg [8, 5] l.length (fun g c b wr => ∃ i, i ≤ l.length ∧ g = l.length - i ∧ c = .int .i64 (i : Nat) ∧ Hid (((l.take i).any fun y => !thingB N y) = false) ∧ Hid (wr = w))
  case atStart => exact ⟨0, by omega, by omega, rfl, rfl, rfl⟩
  case round =>
    obtain ⟨i, hile, hg, rfl, HE, HW⟩ := hrel; have hw := HW.out; subst hw; have HG : Hid (gk = l.length - i) := hg; clear hg; by_cases hlt : i < l.length
    · obtain ⟨t, ht⟩ : ∃ x, l[i]? = some x := ⟨_, List.getElem?_eq_getElem hlt⟩
      (obtain ⟨g, off, rfl, hc⟩ := HX.out (fun e => by rw [e] at hlt; simp at hlt)); have g0 := hc i t ht; (have hltI : (i : Int) < (l.length : Int) := by omega); (have HC : Hid (Calls Tryz.prog 171 #[.int .i64 t, .pointer (some ⟨sb, 0, none⟩)] wr fun e w' => e = .returned (.bool (!thingB N t)) ∧ w' = wr) := noThing_any N t sb c1 c2 wr HQ.out)
      have HTk : Hid (((l.take (i + 1)).any fun y => !thingB N y) = !thingB N t) := by
        show _ = _; rw [List.take_add_one, ht, List.any_append, HE.out]
        simp
      have HMx : Hid (t ∈ l ∧ i < l.length) := ⟨List.mem_of_getElem? ht, hlt⟩; clear hc ht hlt hile
      rcases hs : thingB N t with _ | _
      · rw [hs] at HC
        have HF : Hid ((l.any fun y => !thingB N y) = true) := by
          show _ = _; rw [List.any_eq_true]; (exact ⟨t, HMx.out.1, by rw [hs]; rfl⟩)
        clear hs
        go_wp2_with (first
          | (go_at_call 171; refine HC.out.mono ?_; rintro e w5 ⟨rfl, h5⟩; obtain rfl : wr = w5 := h5.symm)
          | fail)
        go_ret; (exact ⟨⟨_, rfl, fun _ => HF.out, fun _ => by omega⟩, rfl⟩)
      · rw [hs] at HC HTk
        clear hs
        go_wp2_with (first
          | (go_at_call 171; refine HC.out.mono ?_; rintro e w5 ⟨rfl, h5⟩; obtain rfl : wr = w5 := h5.symm)
          | fail)
        go_roundg (l.length - (i + 1))
        case measure => have := HG.out; have := HMx.out.2; omega
        case rel => exact ⟨i + 1, HMx.out.2, rfl, by go_num, HTk, rfl⟩
    · have hge : ¬ (i : Int) < (l.length : Int) := by omega
      have HF : Hid ((l.any fun y => !thingB N y) = false) := by
        have := HE.out; (rw [List.take_of_length_le (by omega)] at this); exact this
      clear hlt hile HX; go_wp2_with fail; go_ret
      exact ⟨⟨_, rfl, fun h => absurd h (by omega), fun h => by
        obtain ⟨x, hx, h3⟩ := h; have h2 := HF.out; rw [List.any_eq_false] at h2; have h4 := h2 x hx; rw [h3] at h4
        exact absurd rfl h4⟩, rfl⟩
set_option maxHeartbeats 2000000 in
theorem containsNo_any (N : Nat) (l : List Int) (v : Value) (sb : Nat) (c1 c2 : Value) (w : World) (hl : IL w v l) (hq : w.heap[sb]? = some (.cells #[.int .i64 (N : Nat), c1, c2] 62 (0, 0))) :
    Calls Tryz.prog 174 #[v, .func (.func 171) #[] #[.pointer (some ⟨sb, 0, none⟩)]] w fun e w' => e = .returned (.bool (l.any fun y => !thingB N y)) ∧ w' = w := by
  have HX : Hid (Calls Tryz.prog 204 _ w _) := indexNo_any N l v sb c1 c2 w hl hq; obtain ⟨ad, cp, rfl, -⟩ := hl; clear hq; (generalize (l.any fun y => !thingB N y) = r at *)
  go_enter Tryz.func174, Tryz.ntmps174
  go_wp2_with (first
    | (go_at_call 204
       refine HX.out.mono ?_; rintro e w5 ⟨⟨j, rfl, hj⟩, h5⟩; obtain rfl : w = w5 := h5.symm; have HJ : Hid (0 ≤ j ↔ r = true) := hj
       clear hj)
    | fail)
  go_ret; refine ⟨ret_bool ?_, rfl⟩; have := HJ.out; rw [Bool.eq_iff_iff]; simpa using this
end Go.Proofs.YtpiaeapgjljjhaaGreat
/- Walks: the lists of a structure, looked at. -/
namespace Go.Proofs.YtpiaeapgjljjhaaGreat
open Go.RowKit Go.Sort Go.Maps Go.WideMaps

/-- Names that came so far, in a map. -/
def GSeen (w : World) (b : Nat) (seen : List (List UInt8)) (c : Nat) : Prop := ∃ mu, GMap w b mu c ∧ (∀ s v, mu s = some v → ∃ x : Int, v = .int .i64 x) ∧ ∀ s, (mu s).isSome = decide (s ∈ seen)
theorem GSeen.same {w w' : World} {b c : Nat} {seen : List (List UInt8)} (h : GSeen w b seen c) (e : w'.heap[b]? = w.heap[b]?) : GSeen w' b seen c := by
  obtain ⟨mu, h1, h2⟩ := h; exact ⟨mu, h1.same e, h2⟩
theorem GSeen.lt {w : World} {b c : Nat} {seen : List (List UInt8)} (h : GSeen w b seen c) : b < w.heap.size := by
  obtain ⟨mu, h1, h2⟩ := h; exact h1.lt
theorem GSeen.noCells {w : World} {b c : Nat} {seen : List (List UInt8)} (h : GSeen w b seen c) (cs : Array Value) (T : TypeId) (f : Nat × Nat) : w.heap[b]? ≠ some (.cells cs T f) := by
  obtain ⟨mu, h1, h2⟩ := h; exact h1.noCells cs T f
theorem GSeen.up {w w' : World} {b c : Nat} {seen : List (List UInt8)} (h : GSeen w b seen c) (hb : Below w.heap.size w w') : GSeen w' b seen c := h.same (hb.block _ h.lt)
def LsPost (o : Option Int) (bm c : Nat) (seen : List (List UInt8)) (nm : List UInt8) (at_ : Nat) (w : World) (e : Ending) (w' : World) : Prop := match o with
  | some code => e = .panicked (stopC code (at_ : Nat)) ∧ Below w.heap.size w w'
  | none => e = .returned (.tuple #[]) ∧ GSeen w' bm (nm :: seen) (c + 1) ∧ Kept (· ≠ bm) w w'
theorem lookS_any (N : Nat) (hN : N ≤ 8) (bm c : Nat) (hc : c ≤ 1000) (seen : List (List UInt8)) (nm : ByteArray) (hn : nm.size ≤ maxLen) (ar : Int) (filled at_ : Nat) (w : World) (hg : GSeen w bm seen c) :
    Calls Tryz.prog 173 #[.agg #[.int .i64 (N : Nat), .map (some bm)], .string nm, .int .i64 ar, .int .i64 (filled : Nat), .int .i64 (at_ : Nat)] w (LsPost (lkF N (decide (nm.data.toList ∈ seen)) nm.data.toList ar filled) bm c seen nm.data.toList at_ w) := by
  obtain ⟨mu, h1, h2, h3⟩ := hg; refine (look_nm N hN bm c hc mu nm hn ar filled at_ w h1 h2).mono ?_; rw [h3]; intro e w' h; unfold LkPost at h; unfold LsPost
  revert h
  rcases lkF N (decide (nm.data.toList ∈ seen)) nm.data.toList ar filled with _ | code
  · intro h
    obtain ⟨g1, g2, g3⟩ := h; (refine ⟨g1, ⟨_, g2, fun s v hv => ?_, fun s => ?_⟩, g3⟩)
    · unfold gPut at hv
      split at hv
      · cases hv; exact ⟨_, rfl⟩
      · exact h2 s v hv
    · unfold gPut
      by_cases e : s = nm.data.toList
      · simp [e]
      · rw [if_neg e, h3]; simp [e]
  · exact fun h => h
def cfF (N : Nat) : Nat → List (List UInt8) → List FnD → Option (Int × Nat)
  | _, _, [] => none
  | i, seen, f :: fs => match lkF N (decide (f.nm.data.toList ∈ seen)) f.nm.data.toList f.ar f.tab.length with
    | some c => some (c, i)
    | none => if (f.tab.any fun y => !thingB N y) = true then some (5, i) else cfF N (i + 1) (f.nm.data.toList :: seen) fs
def pfF (N : Nat) : Nat → List (List UInt8) → List PdD → Option (Int × Nat)
  | _, _, [] => none
  | i, seen, f :: fs => match lkF N (decide (f.nm.data.toList ∈ seen)) f.nm.data.toList f.ar f.bits.length with
    | some c => some (c, i)
    | none => pfF N (i + 1) (f.nm.data.toList :: seen) fs
theorem cfF_drop {N i a : Nat} {seen : List (List UInt8)} {l : List FnD} {f : FnD} (h : l[i]? = some f) : cfF N a seen (l.drop i) = match lkF N (decide (f.nm.data.toList ∈ seen)) f.nm.data.toList f.ar f.tab.length with | some c => some (c, a) | none => if (f.tab.any fun y => !thingB N y) = true then some (5, a) else cfF N (a + 1) (f.nm.data.toList :: seen) (l.drop (i + 1)) := by
  have hi := (List.getElem?_eq_some_iff.1 h).1; rw [List.drop_eq_getElem_cons hi, cfF]; rw [List.getElem?_eq_getElem hi] at h; rw [Option.some.inj h]
theorem pfF_drop {N i a : Nat} {seen : List (List UInt8)} {l : List PdD} {f : PdD} (h : l[i]? = some f) : pfF N a seen (l.drop i) = match lkF N (decide (f.nm.data.toList ∈ seen)) f.nm.data.toList f.ar f.bits.length with | some c => some (c, a) | none => pfF N (a + 1) (f.nm.data.toList :: seen) (l.drop (i + 1)) := by
  have hi := (List.getElem?_eq_some_iff.1 h).1; rw [List.drop_eq_getElem_cons hi, pfF]; rw [List.getElem?_eq_getElem hi] at h; rw [Option.some.inj h]
/-- What is said of the lists. -/
def lsF (N : Nat) (s : StD) : Option (Int × Nat) := match cfF N 0 [] s.funs with
  | some c => some c
  | none => pfF N s.funs.length [] s.preds
def LsEnd (o : Option (Int × Nat)) (e : Ending) : Prop := match o with
  | none => e = .returned (.tuple #[])
  | some p => e = .panicked (stopC p.1 (p.2 : Nat))
theorem two_below {w0 w w' : World} {m1 m2 : Nat} (hb : Below w0.heap.size w0 w) (h1 : w0.heap.size ≤ m1) (h2 : w0.heap.size ≤ m2) (hk : Kept (fun b => b ≠ m1 ∧ b ≠ m2) w w') : Below w0.heap.size w0 w' :=
  hb.trans (hk.below hb.size fun b hb2 => ⟨by omega, by omega⟩)
set_option maxRecDepth 10000 in
set_option maxHeartbeats 16000000 in
theorem lists2_any (N : Nat) (hN : N ≤ 8) (s : StD) (w0 w : World) (af ap : Option Addr) (cf cp : Nat) (sb cb1 cb2 nb m1 m2 : Nat) (hF : FnL w0 (.slice af s.funs.length cf) s.funs) (hP : PdL w0 (.slice ap s.preds.length cp) s.preds) (hf10 : s.funs.length ≤ 10) (hp10 : s.preds.length ≤ 10) (hb : Below w0.heap.size w0 w) (hm1 : w0.heap.size ≤ m1) (hm2 : w0.heap.size ≤ m2) (hne : m1 ≠ m2)
    (hsb : w.heap[sb]? = some (.cells #[.int .i64 (N : Nat), .slice af s.funs.length cf, .slice ap s.preds.length cp] 62 (0, 0))) (hc1 : w.heap[cb1]? = some (.cells #[.int .i64 (N : Nat), .map (some m1)] 230 (0, 0))) (hc2 : w.heap[cb2]? = some (.cells #[.int .i64 (N : Nat), .map (some m2)] 230 (0, 0))) (hnb : w.heap[nb]? = some (.cells #[.func (.func 171) #[] #[.pointer (some ⟨sb, 0, none⟩)]] 160 (0, 0))) (hg1 : GSeen w m1 [] 0) (hg2 : GSeen w m2 [] 0) :
    Calls Tryz.prog 172 #[.pointer (some ⟨sb, 0, none⟩), .pointer (some ⟨cb1, 0, none⟩), .pointer (some ⟨nb, 0, none⟩), .pointer (some ⟨cb2, 0, none⟩)] w fun e w' => LsEnd (lsF N s) e ∧ Kept (fun b => b ≠ m1 ∧ b ≠ m2) w w' := by
  obtain ⟨af', cf', e, f1, f2, f3⟩ := hF; simp only [Value.slice.injEq, true_and] at e; obtain ⟨rfl, rfl⟩ := e; obtain ⟨ap', cp', e, p1, p2, p3⟩ := hP; simp only [Value.slice.injEq, true_and] at e; obtain ⟨rfl, rfl⟩ := e; have HF : Hid (s.funs ≠ [] → ∃ g off, af = some ⟨g, off, none⟩ ∧ ∀ (i : Nat) (f : FnD), s.funs[i]? = some f → ∃ sl cp, w0.cell? ⟨g, off + i * 3, none⟩ = some (.string f.nm) ∧ w0.cell? ⟨g, off + i * 3 + 1, none⟩ = some (.int .i64 f.ar) ∧ w0.cell? ⟨g, off + i * 3 + 2, none⟩ = some (.slice sl f.tab.length cp) ∧ FnR w0 f (.agg #[.string f.nm, .int .i64 f.ar, .slice sl f.tab.length cp])) := f3; have HP : Hid (s.preds ≠ [] → ∃ g off, ap = some ⟨g, off, none⟩ ∧ ∀ (i : Nat) (f : PdD), s.preds[i]? = some f → ∃ sl cp, w0.cell? ⟨g, off + i * 3, none⟩ = some (.string f.nm) ∧ w0.cell? ⟨g, off + i * 3 + 1, none⟩ = some (.int .i64 f.ar) ∧ w0.cell? ⟨g, off + i * 3 + 2, none⟩ = some (.slice sl f.bits.length cp) ∧ PdR w0 f (.agg #[.string f.nm, .int .i64 f.ar, .slice sl f.bits.length cp])) := p3; (have nc : ∀ b cs T f, w.heap[b]? = some (.cells cs T f) → b ≠ m1 ∧ b ≠ m2 := fun b cs T f h => ⟨fun e => hg1.noCells cs T f (by rw [← e]; exact h), fun e => hg2.noCells cs T f (by rw [← e]; exact h)⟩); have HSb : Hid (w.heap[sb]? = some (.cells #[.int .i64 (N : Nat), .slice af s.funs.length cf, .slice ap s.preds.length cp] 62 (0, 0)) ∧ sb ≠ m1 ∧ sb ≠ m2) := ⟨hsb, nc _ _ _ _ hsb⟩; have HC1 : Hid (w.heap[cb1]? = some (.cells #[.int .i64 (N : Nat), .map (some m1)] 230 (0, 0)) ∧ cb1 ≠ m1 ∧ cb1 ≠ m2) := ⟨hc1, nc _ _ _ _ hc1⟩; have HC2 : Hid (w.heap[cb2]? = some (.cells #[.int .i64 (N : Nat), .map (some m2)] 230 (0, 0)) ∧ cb2 ≠ m1 ∧ cb2 ≠ m2) := ⟨hc2, nc _ _ _ _ hc2⟩; have HNb : Hid (w.heap[nb]? = some (.cells #[.func (.func 171) #[] #[.pointer (some ⟨sb, 0, none⟩)]] 160 (0, 0)) ∧ nb ≠ m1 ∧ nb ≠ m2) := ⟨hnb, nc _ _ _ _ hnb⟩; have HO : Hid (s.funs.length ≤ 10 ∧ s.preds.length ≤ 10 ∧ w0.heap.size ≤ m1 ∧ w0.heap.size ≤ m2 ∧ m1 ≠ m2 ∧ N ≤ 8) := ⟨hf10, hp10, hm1, hm2, hne, hN⟩; have HB : Hid (Below w0.heap.size w0 w) := hb; have HG1 : Hid (GSeen w m1 [] 0 ∧ GSeen w m2 [] 0) := ⟨hg1, hg2⟩; (have HL : Hid (lsF N s = match cfF N 0 [] s.funs with | some c => some c | none => pfF N s.funs.length [] s.preds) := rfl); (have hfI : ((s.funs.length : Nat) : Int) ≤ 10 := by omega); (have hpI : ((s.preds.length : Nat) : Int) ≤ 10 := by omega); (have hNI : ((N : Nat) : Int) ≤ 8 := by omega); have HE0 : Hid (cfF N 0 [] (s.funs.drop 0) = cfF N 0 [] s.funs) := rfl; obtain ⟨a0, a1, a2, -⟩ := blk3 hsb; clear f1 f2 f3 p1 p2 p3 nc hsb hc1 hc2 hnb hf10 hp10 hm1 hm2 hne hb hg1 hg2 hN
  go_enter Tryz.func172, Tryz.ntmps172
  go_wp2_with fail; clear a0 a1 a2
  go_loopg [11, 4] s.funs.length (fun g c b wr => ∃ i seen, i ≤ s.funs.length ∧ g = s.funs.length - i ∧ c = .int .i64 (i : Nat) ∧ Hid (cfF N i seen (s.funs.drop i) = cfF N 0 [] s.funs) ∧ Hid (GSeen wr m1 seen i) ∧ Hid (Kept (fun b => b ≠ m1 ∧ b ≠ m2) w wr) ∧ Hid (GSeen wr m2 [] 0))
  case atStart => exact ⟨0, [], by omega, by omega, rfl, HE0, HG1.out.1, Kept.refl _ _, HG1.out.2⟩
  case round =>
    obtain ⟨i, seen, hile, hg, rfl, HE, HS, HK, HS2⟩ := hrel; have HG : Hid (gk = s.funs.length - i) := hg; have HBr : Hid (Below w0.heap.size w0 wr) := two_below HB.out HO.out.2.2.1 HO.out.2.2.2.1 HK.out; clear hg; have qsb := (HK.out.block _ (lt_of_block HSb.out.1) HSb.out.2).trans HSb.out.1; have hs1 := lt_of_block qsb; by_cases hlt : i < s.funs.length
    · obtain ⟨f, hfi⟩ : ∃ x, s.funs[i]? = some x := ⟨_, List.getElem?_eq_getElem hlt⟩
      (obtain ⟨g, off, rfl, hc⟩ := HF.out (fun e => by rw [e] at hlt; simp at hlt)); obtain ⟨sl, cq, z0, z1, z2, hfr⟩ := hc i f hfi; have y0 := (HBr.out.cell (lt_of_cell z0)).trans z0; have y1 := (HBr.out.cell (lt_of_cell z1)).trans z1; have y2 := (HBr.out.cell (lt_of_cell z2)).trans z2; (have hltI : (i : Int) < (s.funs.length : Int) := by omega); have hd := HE.out; rw [cfF_drop hfi] at hd; obtain ⟨sl', cq', e, hnm, hil⟩ := hfr; simp only [Value.agg.injEq, Array.mk.injEq, List.cons.injEq, Value.slice.injEq, and_true, true_and] at e; obtain ⟨rfl, rfl⟩ := e
      have htl : ((f.tab.length : Nat) : Int) ≤ 9223372036854775807 := by
        obtain ⟨_, _, _, h1, h2, _⟩ := hil; unfold maxLen at h2; omega
      (have HLk : Hid (∀ W, GSeen W m1 seen i → Calls Tryz.prog 173 #[.agg #[.int .i64 (N : Nat), .map (some m1)], .string f.nm, .int .i64 f.ar, .int .i64 (f.tab.length : Nat), .int .i64 (i : Nat)] W (LsPost (lkF N (decide (f.nm.data.toList ∈ seen)) f.nm.data.toList f.ar f.tab.length) m1 i seen f.nm.data.toList i W)) := fun W h => lookS_any N HO.out.2.2.2.2.2 m1 i (by have := HO.out.1; omega) seen f.nm hnm f.ar f.tab.length i W h); have HIl : Hid (IL w0 (.slice sl f.tab.length cq) f.tab) := hil; have HLt : Hid (i < s.funs.length) := hlt; have qc1 := (HK.out.block _ (lt_of_block HC1.out.1) HC1.out.2).trans HC1.out.1; have HQn : Hid (wr.heap[nb]? = some (.cells #[.func (.func 171) #[] #[.pointer (some ⟨sb, 0, none⟩)]] 160 (0, 0))) := (HK.out.block _ (lt_of_block HNb.out.1) HNb.out.2).trans HNb.out.1; have HQs : Hid (wr.heap[sb]? = some (.cells #[.int .i64 (N : Nat), .slice (some ⟨g, off, none⟩) s.funs.length cf, .slice ap s.preds.length cp] 62 (0, 0))) := qsb; obtain ⟨b0, b1, -⟩ := blk2 qc1; have hs2 := lt_of_block qc1; clear hfi hc z0 z1 z2 hlt hile HF hnm hil qsb qc1
      rcases hlk : lkF N (decide (f.nm.data.toList ∈ seen)) f.nm.data.toList f.ar f.tab.length with _ | code
      · rw [hlk] at HLk hd
        simp only at hd; clear hlk
        rcases htb : (f.tab.any fun y => !thingB N y) with _ | _
        · rw [htb] at hd
          simp only [Bool.false_eq_true, if_false] at hd; have HD : Hid (cfF N (i + 1) (f.nm.data.toList :: seen) (s.funs.drop (i + 1)) = cfF N 0 [] s.funs) := hd; (have HCn : Hid (∀ W, Below w0.heap.size w0 W → W.heap[sb]? = some (.cells #[.int .i64 (N : Nat), .slice (some ⟨g, off, none⟩) s.funs.length cf, .slice ap s.preds.length cp] 62 (0, 0)) → Calls Tryz.prog 174 #[.slice sl f.tab.length cq, .func (.func 171) #[] #[.pointer (some ⟨sb, 0, none⟩)]] W fun e w' => e = .returned (.bool false) ∧ w' = W) := fun W h1 h2 => by rw [← htb]; exact containsNo_any N f.tab _ sb _ _ W (HIl.out.up h1) h2); clear htb hd
          go_wp2_with (first
            | (go_at_call 173
               refine (HLk.out _ (HS.out.up (below_more (Below.refl _ _) _))).mono ?_; rintro e w4 ⟨rfl, hg4, hk4⟩; (have hk5 : Kept (fun b => b ≠ m1 ∧ b ≠ m2) wr w4 := ((Kept.refl _ _).alloc _).trans (hk4.mono fun _ _ h => h.1)); (have HK4 : Hid (GSeen w4 m1 (f.nm.data.toList :: seen) (i + 1) ∧ Kept (fun b => b ≠ m1 ∧ b ≠ m2) w w4 ∧ GSeen w4 m2 [] 0) := ⟨hg4, HK.out.trans hk5, HS2.out.same ((hk4.block m2 (by have := HS2.out.lt; simp; omega) HO.out.2.2.2.2.1.symm).trans (Below.heap_alloc _ _ _ HS2.out.lt))⟩); (have q4 := (hk4.block wr.heap.size (by simp) (by have := HS.out.lt; omega)).trans (blk_new wr _)); have n4 := (hk5.block _ (lt_of_block HQn.out) HNb.out.2).trans HQn.out; have HS4 : Hid (w4.heap[sb]? = some (.cells #[.int .i64 (N : Nat), .slice (some ⟨g, off, none⟩) s.funs.length cf, .slice ap s.preds.length cp] 62 (0, 0))) := (hk5.block _ (lt_of_block HQs.out) HSb.out.2).trans HQs.out; obtain ⟨d0, d1, d2, -⟩ := blk3 q4; obtain ⟨l0, l1⟩ := blk1 n4
               clear hg4 hk4 hk5 q4 n4)
            | (go_at_call 174
               refine (HCn.out _ (two_below HB.out HO.out.2.2.1 HO.out.2.2.2.1 HK4.out.2.1) HS4.out).mono ?_; rintro e w5 ⟨rfl, h5⟩
               obtain rfl : w4 = w5 := h5.symm)
            | fail)
          go_roundg (s.funs.length - (i + 1))
          case measure => have := HG.out; have := HLt.out; omega
          case rel => exact ⟨i + 1, _, HLt.out, rfl, by go_num, HD, HK4.out.1, HK4.out.2.1, HK4.out.2.2⟩
        · rw [htb] at hd
          simp only [if_true] at hd; have HD : Hid (some ((5 : Int), i) = cfF N 0 [] s.funs) := hd; (have HCn : Hid (∀ W, Below w0.heap.size w0 W → W.heap[sb]? = some (.cells #[.int .i64 (N : Nat), .slice (some ⟨g, off, none⟩) s.funs.length cf, .slice ap s.preds.length cp] 62 (0, 0)) → Calls Tryz.prog 174 #[.slice sl f.tab.length cq, .func (.func 171) #[] #[.pointer (some ⟨sb, 0, none⟩)]] W fun e w' => e = .returned (.bool true) ∧ w' = W) := fun W h1 h2 => by rw [← htb]; exact containsNo_any N f.tab _ sb _ _ W (HIl.out.up h1) h2); clear htb hd
          go_wp2_with (first
            | (go_at_call 173
               refine (HLk.out _ (HS.out.up (below_more (Below.refl _ _) _))).mono ?_; rintro e w4 ⟨rfl, hg4, hk4⟩; (have hk5 : Kept (fun b => b ≠ m1 ∧ b ≠ m2) wr w4 := ((Kept.refl _ _).alloc _).trans (hk4.mono fun _ _ h => h.1)); (have HK4 : Hid (Kept (fun b => b ≠ m1 ∧ b ≠ m2) w w4) := HK.out.trans hk5); (have q4 := (hk4.block wr.heap.size (by simp) (by have := HS.out.lt; omega)).trans (blk_new wr _)); have n4 := (hk5.block _ (lt_of_block HQn.out) HNb.out.2).trans HQn.out; have HS4 : Hid (w4.heap[sb]? = some (.cells #[.int .i64 (N : Nat), .slice (some ⟨g, off, none⟩) s.funs.length cf, .slice ap s.preds.length cp] 62 (0, 0))) := (hk5.block _ (lt_of_block HQs.out) HSb.out.2).trans HQs.out; obtain ⟨d0, d1, d2, -⟩ := blk3 q4; obtain ⟨l0, l1⟩ := blk1 n4
               clear hg4 hk4 hk5 q4 n4)
            | (go_at_call 174
               refine (HCn.out _ (two_below HB.out HO.out.2.2.1 HO.out.2.2.2.1 HK4.out) HS4.out).mono ?_; rintro e w5 ⟨rfl, h5⟩
               obtain rfl : w4 = w5 := h5.symm)
            | (go_at_call 134; refine (stop_any _ _ _).mono ?_; rintro e w6 ⟨rfl, rfl⟩)
            | fail)
          (exact ⟨rfl, by rw [HL.out, ← HD.out]; rfl, HK4.out⟩)
      · rw [hlk] at HLk hd
        simp only at hd; have HD : Hid (some (code, i) = cfF N 0 [] s.funs) := hd; clear hlk hd
        go_wp2_with (first
          | (go_at_call 173
             refine (HLk.out _ (HS.out.up (below_more (Below.refl _ _) _))).mono ?_; rintro e w4 ⟨he4, hb4⟩
             obtain rfl : e = _ := he4)
          | fail)
        (exact ⟨rfl, by rw [HL.out, ← HD.out]; rfl, (HK.out.alloc _).trans (kept_of_below hb4 fun _ h _ => h)⟩)
    · have hge : ¬ (i : Int) < (s.funs.length : Int) := by omega
      have hd := HE.out; (rw [List.drop_of_length_le (by omega), cfF] at hd); (have HL2 : Hid (lsF N s = pfF N s.funs.length [] s.preds) := by show _ = _; rw [HL.out, ← hd]); have HE2 : Hid (pfF N s.funs.length [] (s.preds.drop 0) = pfF N s.funs.length [] s.preds) := rfl; obtain ⟨a0, a1, a2, -⟩ := blk3 qsb; clear hlt hile HF HE HE0 hd qsb HL; go_wp2_with fail; clear a0 a1 a2
      go_loopg [36, 6] s.preds.length (fun g c b wq => ∃ j seen2, j ≤ s.preds.length ∧ g = s.preds.length - j ∧ c = .int .i64 (j : Nat) ∧ Hid (pfF N (s.funs.length + j) seen2 (s.preds.drop j) = pfF N s.funs.length [] s.preds) ∧ Hid (GSeen wq m2 seen2 j) ∧ Hid (Kept (fun b => b ≠ m1 ∧ b ≠ m2) w wq))
      case atStart => exact ⟨0, [], by omega, by omega, rfl, HE2, HS2, HK⟩
      case round =>
        obtain ⟨j, seen2, hjle, hg, rfl, HE3, HS3, HK3⟩ := hrel; have HG3 : Hid (gk = s.preds.length - j) := hg; have HBq : Hid (Below w0.heap.size w0 wr) := two_below HB.out HO.out.2.2.1 HO.out.2.2.2.1 HK3.out; clear hg; by_cases hlt : j < s.preds.length
        · obtain ⟨f, hfi⟩ : ∃ x, s.preds[j]? = some x := ⟨_, List.getElem?_eq_getElem hlt⟩
          (obtain ⟨g, off, rfl, hc⟩ := HP.out (fun e => by rw [e] at hlt; simp at hlt)); obtain ⟨sl, cq, z0, z1, z2, hfr⟩ := hc j f hfi; have y0 := (HBq.out.cell (lt_of_cell z0)).trans z0; have y1 := (HBq.out.cell (lt_of_cell z1)).trans z1; have y2 := (HBq.out.cell (lt_of_cell z2)).trans z2; (have hltI : (j : Int) < (s.preds.length : Int) := by omega); have hd := HE3.out; rw [pfF_drop hfi] at hd; obtain ⟨sl', cq', e, hnm, hil⟩ := hfr; simp only [Value.agg.injEq, Array.mk.injEq, List.cons.injEq, Value.slice.injEq, and_true, true_and] at e; obtain ⟨rfl, rfl⟩ := e
          have htl : ((f.bits.length : Nat) : Int) ≤ 9223372036854775807 := by
            obtain ⟨_, _, _, h1, h2, _⟩ := hil; unfold maxLen at h2; omega
          have HLk : Hid (∀ W, GSeen W m2 seen2 j → Calls Tryz.prog 173 #[.agg #[.int .i64 (N : Nat), .map (some m2)], .string f.nm, .int .i64 f.ar, .int .i64 (f.bits.length : Nat), .int .i64 ((s.funs.length : Int) + (j : Int))] W (LsPost (lkF N (decide (f.nm.data.toList ∈ seen2)) f.nm.data.toList f.ar f.bits.length) m2 j seen2 f.nm.data.toList (s.funs.length + j) W)) := fun W h => by
            (have h9 := lookS_any N HO.out.2.2.2.2.2 m2 j (by have := HO.out.2.1; omega) seen2 f.nm hnm f.ar f.bits.length (s.funs.length + j) W h); rw [Int.natCast_add] at h9; exact h9
          have r1 : IntKind.i64.wrap ((s.funs.length : Int) + (j : Int)) = (s.funs.length : Int) + (j : Int) := by
            (have h9 := wrap_small (s.funs.length + j) (by have := HO.out.1; have := HO.out.2.1; omega))
            rwa [Int.natCast_add] at h9
          have HLt : Hid (j < s.preds.length) := hlt; have qsb := (HK3.out.block _ (lt_of_block HSb.out.1) HSb.out.2).trans HSb.out.1; have qc2 := (HK3.out.block _ (lt_of_block HC2.out.1) HC2.out.2).trans HC2.out.1; obtain ⟨a0, a1, a2, -⟩ := blk3 qsb; obtain ⟨b0, b1, -⟩ := blk2 qc2; have hs2 := lt_of_block qc2; have hs3 := lt_of_block qsb; clear hfi hc z0 z1 z2 hlt hjle HP hnm hil qsb qc2
          rcases hlk : lkF N (decide (f.nm.data.toList ∈ seen2)) f.nm.data.toList f.ar f.bits.length with _ | code
          · rw [hlk] at HLk hd
            simp only at hd; have HD : Hid (pfF N (s.funs.length + (j + 1)) (f.nm.data.toList :: seen2) (s.preds.drop (j + 1)) = pfF N s.funs.length [] s.preds) := hd; clear hlk hd
            go_wp2_with (first
              | (go_at_call 173
                 refine (HLk.out _ (HS3.out.up (below_more (Below.refl _ _) _))).mono ?_; rintro e w4 ⟨rfl, hg4, hk4⟩; (have HK4 : Hid (GSeen w4 m2 (f.nm.data.toList :: seen2) (j + 1) ∧ Kept (fun b => b ≠ m1 ∧ b ≠ m2) w w4) := ⟨hg4, HK3.out.trans (((Kept.refl _ _).alloc _).trans (hk4.mono fun _ _ h => h.2))⟩)
                 clear hg4 hk4)
              | fail)
            go_roundg (s.preds.length - (j + 1))
            case measure => have := HG3.out; have := HLt.out; omega
            case rel => exact ⟨j + 1, _, HLt.out, rfl, by go_num, HD, HK4.out.1, HK4.out.2⟩
          · rw [hlk] at HLk hd
            simp only at hd; have HD : Hid (some (code, s.funs.length + j) = pfF N s.funs.length [] s.preds) := hd; clear hlk hd
            go_wp2_with (first
              | (go_at_call 173
                 refine (HLk.out _ (HS3.out.up (below_more (Below.refl _ _) _))).mono ?_; rintro e w4 ⟨he4, hb4⟩
                 obtain rfl : e = _ := he4)
              | fail)
            (exact ⟨rfl, by rw [HL2.out, ← HD.out]; rfl, (HK3.out.alloc _).trans (kept_of_below hb4 fun _ h _ => h)⟩)
        · have hge2 : ¬ (j : Int) < (s.preds.length : Int) := by omega
          have hd := HE3.out; (rw [List.drop_of_length_le (by omega), pfF] at hd); have HD : Hid (none = pfF N s.funs.length [] s.preds) := hd; clear hlt hjle hd HP; go_wp2_with fail
          go_end0
          (exact ⟨by rw [HL2.out, ← HD.out]; rfl, HK3.out⟩)
end Go.Proofs.YtpiaeapgjljjhaaGreat
