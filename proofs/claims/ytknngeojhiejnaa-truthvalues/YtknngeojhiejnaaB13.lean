/- Texts of one proof, one behind the other: TY4, Open2, TY5, TV0, TV1, TV2. -/
import Derived.Test.YtknngeojhiejnaaB12
/- Walks: the yardstick's PlainFault. -/
namespace Go.Proofs.Ytknngeojhiejnaa
open Go.RowKit Go.Sort

def pfirst : List Fm → Int × Int
  | [] => (0, 0)
  | f :: fs => if f.pcode.1 = 0 then pfirst fs else f.pcode

theorem pfirst_drop {fs : List Fm} {i : Nat} {f : Fm} (h : fs[i]? = some f) : pfirst (fs.drop i) = if f.pcode.1 = 0 then pfirst (fs.drop (i + 1)) else f.pcode := by
  have hi : i < fs.length := by
    rcases Nat.lt_or_ge i fs.length with h' | h'
    · exact h'
    · rw [List.getElem?_eq_none h'] at h; cases h
  rw [List.drop_eq_getElem_cons hi, pfirst]
  rw [List.getElem?_eq_getElem hi] at h
  rw [Option.some.inj h]

theorem mIdx_drop {l : List Fm} {i : Nat} {f : Fm} (h : l[i]? = some f) (a : Nat) : mIdx (l.drop i) a = if isM f.kind then (a, true) else mIdx (l.drop (i + 1)) (a + 1) := by
  have hi : i < l.length := by
    rcases Nat.lt_or_ge i l.length with h' | h'
    · exact h'
    · rw [List.getElem?_eq_none h'] at h; cases h
  rw [List.drop_eq_getElem_cons hi, mIdx]
  rw [List.getElem?_eq_getElem hi] at h
  rw [Option.some.inj h]

set_option maxHeartbeats 1000000 in
theorem mkF_any (c a : Int) (w : World) : Calls Try.prog 28 #[.int .i64 c, .int .i64 a] w fun e w' => e = .returned (.agg #[.int .i64 c, .int .i64 a]) ∧ Below w.heap.size w w' := by
  have B := below_more (Below.refl _ w) (.cells #[.int .i64 c, .int .i64 a] 29 (0, 0))
  go_enter Try.func28, Try.ntmps28
  go_wp2_with fail
  exact bodyPost_ret (v := .agg #[.int .i64 c, .int .i64 a]) (by simp [results, Try.results28, go_sem]) rfl ⟨rfl, B⟩

theorem walk300 (f : Fm) (h : f.size ≤ 200) : walkL f 300 = allN f := by
  rw [walkL_take, List.take_of_length_le (by rw [allN_len]; omega)]

set_option maxHeartbeats 4000000 in
theorem plainR_any (fs : List Fm) (hl : fs.length ≤ 1000) (v : Value) (w : World) (hv : FL w v fs) :
    Calls Try.prog 37 #[v] w fun e w' => e = .returned (.agg #[.int .i64 (pfirst fs).1, .int .i64 (pfirst fs).2]) ∧ Below w.heap.size w w' := by
  obtain ⟨ad, cap, rfl, h1, h2, h3⟩ := hv
  have H3 : Hid (fs ≠ [] → ∃ b off, ad = some ⟨b, off, none⟩ ∧ Reps w (fun _ => True) b off fs) := h3
  have hlI : (fs.length : Int) ≤ 1000 := by omega
  have HT : Hid (pfirst fs = pfirst (fs.drop 0)) := rfl
  generalize pfirst fs = tc at *
  have q0 := blk_new w (.cells #[.int .i64 0, .int .i64 0] 29 (0, 0))
  have B0 := below_more (Below.refl _ w) (.cells #[.int .i64 0, .int .i64 0] 29 (0, 0))
  clear h3
  go_enter Try.func37, Try.ntmps37
  go_wp2_with fail
  go_loopg [3] fs.length (fun gk c wr => ∃ i, i ≤ fs.length ∧ gk = fs.length - i ∧ c = .int .i64 (i : Nat) ∧ Below w.heap.size w wr ∧ wr.heap[w.heap.size]? = some (.cells #[.int .i64 0, .int .i64 0] 29 (0, 0)) ∧ Hid (tc = pfirst (fs.drop i)))
  case atStart => exact ⟨0, by omega, by omega, rfl, B0, q0, HT⟩
  case round =>
    obtain ⟨i, hi, hg, rfl, hbr, q1, HW⟩ := hrel
    have HG : Hid (gk = fs.length - i) := hg
    clear hg HT
    have z1 := lt_of_block q1
    by_cases hlt : i < fs.length
    · obtain ⟨⟨k2, n2, ks2⟩, hki⟩ : ∃ f, fs[i]? = some f := ⟨_, List.getElem?_eq_getElem hlt⟩
      obtain ⟨b, off, rfl, hrs⟩ := H3.out (fun e => by rw [e] at hlt; simp at hlt)
      obtain ⟨sl2, cap2, g0, g1, g2, hrep2⟩ := (hrs.up hbr).at i k2 n2 ks2 hki
      have hltI : (i : Int) < (fs.length : Int) := by omega
      have hlc : (i : Int) < (cap : Int) := by omega
      have HDr := HW.out
      rw [pfirst_drop hki] at HDr
      have hrf := fun v (w : World) h => rfault_any (.mk k2 n2 ks2) v w h
      have zb := lt_of_cell g0
      clear hki hrs H3 HW
      by_cases hc : (Fm.mk k2 n2 ks2).code.1 = 0
      · obtain ⟨s, hs⟩ := code_split _ hc
        have hcz := code_zero hc
        rw [hcz] at hrf
        have hsz := chk_size hs
        have hwk := fun v (w : World) h => walk_any (.mk k2 n2 ks2) v 300 w (by omega) h
        rw [walk300 _ hsz] at hwk
        have hpc : (Fm.mk k2 n2 ks2).pcode = if (mIdx (allN (.mk k2 n2 ks2)) 0).2 then ((4 : Int), (((mIdx (allN (.mk k2 n2 ks2)) 0).1 : Nat) : Int)) else (0, 0) := by
          unfold Fm.pcode
          rw [if_pos hc, modal_idx]
        have hnl : (allN (.mk k2 n2 ks2)).length ≤ 200 := by rw [allN_len]; exact hsz
        rw [hpc] at HDr
        have HD : Hid (tc = _) := HDr
        have HR : Hid (∀ v w, _ → Calls Try.prog 14 #[v] w _) := hrf
        have HWk : Hid (∀ v w, _ → Calls Try.prog 30 _ w _) := hwk
        clear hrf hwk HDr hpc hs hsz hcz hc
        generalize allN (.mk k2 n2 ks2) = nodes at *
        go_wp2_with (first
          | (go_at_call 14
             refine (HR.out _ _ hrep2).mono ?_
             rintro e w2 ⟨rfl, hb2⟩
             have q2 := below_keep hb2 q1
             have z2 := lt_of_block q2
             have e0 := (hb2.cell (p := ⟨b, off + i * 3, none⟩) zb).trans g0
             have e1 := (hb2.cell (p := ⟨b, off + i * 3 + 1, none⟩) zb).trans g1
             have e2 := (hb2.cell (p := ⟨b, off + i * 3 + 2, none⟩) zb).trans g2
             have zb2 := lt_of_cell e0
             simp only at zb2
             have B2 := below_join hbr hb2)
          | (go_at_call 30
             refine (HWk.out _ _ ((hrep2.up hb2).more _)).mono ?_
             rintro e w3 ⟨x, rfl, hlo, hb3⟩
             obtain ⟨g, cp, rfl, hc1, hc2, hrs⟩ := hlo.reps
             have HS : Hid (Reps w3 (fun _ => True) g 0 nodes) := hrs
             have q3 := below_keep hb3 (alloc_keep q2 _)
             have z3 := lt_of_block q3
             have B3 := below_join (below_more B2 _) hb3
             clear hlo hrs)
          | fail)
        have hNI : (nodes.length : Int) ≤ 200 := by omega
        go_loopg [6] nodes.length (fun gk c wz => ∃ j, j ≤ nodes.length ∧ gk = nodes.length - j ∧ c = .int .i64 (j : Nat) ∧ Below w3.heap.size w3 wz ∧ Hid (mIdx nodes 0 = mIdx (nodes.drop j) j))
        case atStart => exact ⟨0, by omega, by omega, rfl, Below.refl _ _, by show _ = _; rfl⟩
        case round =>
          obtain ⟨j, hj, hg2, rfl, hbz, HY⟩ := hrel
          have HG2 : Hid (gk = nodes.length - j) := hg2
          clear hg2 e0 e1 e2 g0 g1 g2
          have q4 := below_keep hbz q3
          have z4 := lt_of_block q4
          have B4 := below_join B3 hbz
          by_cases hjl : j < nodes.length
          · obtain ⟨⟨k3, n3, ks3⟩, hkj⟩ : ∃ f, nodes[j]? = some f := ⟨_, List.getElem?_eq_getElem hjl⟩
            obtain ⟨sl3, cap3, p0, p1, p2, -⟩ := (HS.out.up hbz).at j k3 n3 ks3 hkj
            rw [Nat.zero_add] at p0 p1 p2
            have hjI : (j : Int) < (nodes.length : Int) := by omega
            have hjc : (j : Int) < (cp : Int) := by omega
            have hY := HY.out
            rw [mIdx_drop hkj] at hY
            have hisM : isM (Fm.mk k3 n3 ks3).kind = (decide (k3 = 8) || decide (k3 = 9)) := rfl
            rw [hisM] at hY
            clear hkj HY hisM p1 p2
            by_cases h8 : k3 = 8 ∨ k3 = 9
            · have hb : (decide (k3 = 8) || decide (k3 = 9)) = true := by simpa using h8
              rw [hb] at hY
              have HF : Hid (tc = (4, ((j : Nat) : Int))) := by
                show _ = _
                rw [HD.out, hY]; rfl
              have f2 := fun (w5 : World) (h : w5.heap[w.heap.size]? = some (.cells #[.int .i64 0, .int .i64 0] 29 (0, 0))) => set2 h (.int .i64 4) (.int .i64 (j : Nat))
              have HFm : Hid (∀ w, Calls Try.prog 28 #[.int .i64 4, .int .i64 (j : Nat)] w _) := fun w => mkF_any 4 (j : Nat) w
              clear hY hb HD
              have h9 : k3 = 8 ∨ (¬ k3 = 8 ∧ k3 = 9) := by omega
              rcases h9 with rfl | ⟨h8', rfl⟩
              all_goals
                go_wp2_with (first
                  | (go_at_call 28
                     refine (HFm.out _).mono ?_
                     rintro e w5 ⟨rfl, hb5⟩
                     have q5 := below_keep hb5 q4
                     have B5 := below_join B4 hb5
                     obtain ⟨k1, k2', k3', k4⟩ := blk2 q5)
                  | fail)
                have f3 := f2 _ q5
                have b2 := (B5.setCell (p := ⟨w.heap.size, 0, none⟩) (by simp) (.int .i64 4)).setCell (p := ⟨w.heap.size, 1, none⟩) (by simp) (.int .i64 (j : Nat))
                generalize World.setCell _ _ _ = F at f3 b2 ⊢
                clear k1 k2' k3' k4
                obtain ⟨k1, k2', -⟩ := blk2 f3
                exact bodyPost_ret (v := .agg #[.int .i64 4, .int .i64 (j : Nat)]) (by simp [results, Try.results37, go_sem, k1, k2']) rfl ⟨by rw [HF.out], b2⟩
            · have hb : (decide (k3 = 8) || decide (k3 = 9)) = false := by simpa using h8
              rw [hb] at hY
              have HN : Hid (mIdx nodes 0 = mIdx (nodes.drop (j + 1)) (j + 1)) := hY
              have h8' : (k3 == 8) = false := by simp; omega
              have h9' : (k3 == 9) = false := by simp; omega
              clear hY hb h8
              go_wp2_with fail
              go_roundg (nodes.length - (j + 1))
              case measure => have := HG2.out; omega
              case rel => exact ⟨j + 1, by omega, rfl, by go_num, hbz, HN⟩
          · have HN : Hid (tc = pfirst (fs.drop (i + 1))) := by
              show _ = _
              rw [HD.out, HY.out, List.drop_of_length_le (by omega), mIdx]
              rfl
            have hge : ¬ (j : Int) < (nodes.length : Int) := by omega
            clear HY HD
            go_wp2_with fail
            go_roundg (fs.length - (i + 1))
            case measure => have := HG.out; omega
            case rel => exact ⟨i + 1, by omega, rfl, by go_num, B4, q4, HN⟩
      · have hpc : (Fm.mk k2 n2 ks2).pcode = (Fm.mk k2 n2 ks2).code := by unfold Fm.pcode; rw [if_neg hc]
        rw [hpc] at HDr
        rw [if_neg hc] at HDr
        have HD : Hid (tc = _) := HDr
        generalize (Fm.mk k2 n2 ks2).code = cd at *
        obtain ⟨c, a⟩ := cd
        have hne' : (c != 0) = true := by simpa using hc
        have HR : Hid (∀ v w, _ → Calls Try.prog 14 #[v] w _) := hrf
        clear hrf HDr hpc hc
        go_wp2_with (first
          | (go_at_call 14
             refine (HR.out _ _ hrep2).mono ?_
             rintro e w2 ⟨rfl, hb2⟩
             have q2 := below_keep hb2 q1
             have z2 := lt_of_block q2
             have d1 : ¬ w.heap.size = w2.heap.size := by omega
             have d2 : ¬ w2.heap.size = w.heap.size := by omega
             obtain ⟨k1, k2', k3', k4⟩ := blk2 q2
             have B2 := below_join hbr hb2)
          | fail)
        have f3 := set2 q2 (.int .i64 c) (.int .i64 a)
        have b2 := (B2.setCell (p := ⟨w.heap.size, 0, none⟩) (by simp) (.int .i64 c)).setCell (p := ⟨w.heap.size, 1, none⟩) (by simp) (.int .i64 a)
        have hsz : ((w2.setCell ⟨w.heap.size, 0, none⟩ (.int .i64 c)).setCell ⟨w.heap.size, 1, none⟩ (.int .i64 a)).heap.size = w2.heap.size := by simp [World.setCell]
        generalize World.setCell _ _ _ = F at f3 b2 hsz ⊢
        clear k1 k2' k3' k4
        obtain ⟨k1, k2', -⟩ := blk2 f3
        have d4 : w.heap.size < F.heap.size := by omega
        exact bodyPost_ret (v := .agg #[.int .i64 c, .int .i64 a]) (by simp [results, Try.results37, go_sem, k1, k2', d4]) rfl ⟨by rw [HD.out], b2.alloc (by omega) _⟩
    · have HF : Hid (tc = (0, 0)) := by
        show _ = _
        rw [HW.out, List.drop_of_length_le (by omega), pfirst]
      have hge : ¬ (i : Int) < (fs.length : Int) := by omega
      have f2 := set2 q1 (.int .i64 0) (.int .i64 0)
      have b2 := (hbr.setCell (p := ⟨w.heap.size, 0, none⟩) (by simp) (.int .i64 0)).setCell (p := ⟨w.heap.size, 1, none⟩) (by simp) (.int .i64 0)
      obtain ⟨k1, k2, k3, k4⟩ := blk2 q1
      clear HW H3
      go_wp2_with fail
      generalize World.setCell _ _ _ = F at f2 b2 ⊢
      clear k1 k2 k3 k4
      obtain ⟨k1, k2, -⟩ := blk2 f2
      exact bodyPost_ret (v := .agg #[.int .i64 0, .int .i64 0]) (by simp [results, Try.results37, go_sem, k1, k2]) rfl ⟨by rw [HF.out], b2⟩
end Go.Proofs.Ytknngeojhiejnaa
/- A list of texts that came in, as data. -/
namespace Go.Proofs.Ytknngeojhiejnaa
open Go.RowKit Go.Deep

section
variable {H : Type} {enc : TypeId × Value → H} {W : World} {spare : Nat → Bool} {held : Bool}

theorem sl_of_trod (fuel : Nat) (cs : List Value) (x : DataW H × List MemPlace) (h : DataW.trod enc Try.prog W 0 spare held fuel 39 cs = some x) :
    ∃ v l, cs = [v] ∧ SL W v l ∧ ∀ t ∈ l, t.length ≤ maxLen := by
  rcases open_strs Try.underlying39 Try.underlying9 cells9 h with ⟨rfl, -⟩ | ⟨a, len, cap, m, Sx, rfl, -, hl, hm, hmm, -, hc⟩
  · exact ⟨_, [], rfl, ⟨none, 0, rfl, by simp, by simp, fun h => absurd rfl h⟩, fun t h => by cases h⟩
  · have hlm : len ≤ m := by rw [hmm]; split <;> omega
    obtain ⟨b, off, spot⟩ := a
    refine ⟨_, (List.range len).map fun i => (Sx i).data.toList, rfl, ⟨some ⟨b, off, spot⟩, cap, by simp, by simpa using hl, hm, fun hne => ?_⟩, fun t ht => ?_⟩
    · have h0 : 0 < len := by
        rcases Nat.eq_zero_or_pos len with h | h
        · subst h; simp at hne
        · exact h
      have hsp : spot = none := by
        have := (hc 0 (by omega)).1
        simp [Addr.add] at this
        simpa using World.cell?_spot this
      subst hsp
      refine ⟨b, off, rfl, fun j t ht => ?_⟩
      have hj : j < len := by
        rcases Nat.lt_or_ge j len with h | h
        · exact h
        · rw [List.getElem?_eq_none (by simpa using h)] at ht; cases ht
      rw [List.getElem?_map, List.getElem?_range hj] at ht
      have := (hc j (by omega)).1
      rw [add_none] at this
      rw [this]
      simp at ht
      subst ht
      rfl
    · obtain ⟨i, hi, rfl⟩ := List.mem_map.1 ht
      have := (hc i (by have := List.mem_range.1 hi; omega)).2
      have e : (Sx i).data.toList.length = (Sx i).size := Array.length_toList
      omega
end
end Go.Proofs.Ytknngeojhiejnaa
/- Walks: bits; Rows and Valid in one. -/
namespace Go.Proofs.Ytknngeojhiejnaa
open Go.RowKit Go.Sort

set_option maxHeartbeats 1000000 in
theorem bits_same (l : List Bool) (v u : Value) (w : World) (h : BL w v l) (h' : BL w u l) :
    Calls Try.prog 40 #[v, u] w fun e w' => e = .returned (.bool true) ∧ Below w.heap.size w w' := by
  obtain ⟨ad, cap, rfl, h1, h2, h3⟩ := h
  obtain ⟨ad', cap', rfl, h1', h2', h3'⟩ := h'
  have hlI : (l.length : Int) ≤ 9223372036854775807 := by unfold maxLen at h2; omega
  have H3 : Hid (l ≠ [] → ∃ g off, ad = some ⟨g, off, none⟩ ∧ ∀ (j : Nat) (b : Bool), l[j]? = some b → w.cell? ⟨g, off + j, none⟩ = some (.bool b)) := h3
  have H3' : Hid (l ≠ [] → ∃ g off, ad' = some ⟨g, off, none⟩ ∧ ∀ (j : Nat) (b : Bool), l[j]? = some b → w.cell? ⟨g, off + j, none⟩ = some (.bool b)) := h3'
  clear h3 h3'
  go_enter Try.func40, Try.ntmps40
  go_wp2_with fail
  go_loopg [5] l.length (fun g c wr => ∃ i, i ≤ l.length ∧ g = l.length - i ∧ c = .int .i64 (i : Nat) ∧ Below w.heap.size w wr)
  case atStart => exact ⟨0, by omega, by omega, rfl, Below.refl _ _⟩
  case round =>
    obtain ⟨i, hi, hg, rfl, hbr⟩ := hrel
    have HG : Hid (gk = l.length - i) := hg
    clear hg
    by_cases hlt : i < l.length
    · obtain ⟨x, hx⟩ : ∃ x, l[i]? = some x := ⟨_, List.getElem?_eq_getElem hlt⟩
      obtain ⟨g, off, rfl, hc⟩ := H3.out (fun e => by rw [e] at hlt; simp at hlt)
      obtain ⟨g', off', rfl, hc'⟩ := H3'.out (fun e => by rw [e] at hlt; simp at hlt)
      have g0 := (hbr.cell (p := ⟨g, off + i, none⟩) (lt_of_cell (hc i x hx))).trans (hc i x hx)
      have g1 := (hbr.cell (p := ⟨g', off' + i, none⟩) (lt_of_cell (hc' i x hx))).trans (hc' i x hx)
      have hltI : (i : Int) < (l.length : Int) := by omega
      have hlc : (i : Int) < (cap : Int) := by omega
      have hlc' : (i : Int) < (cap' : Int) := by omega
      clear hc hc' hx H3 H3'
      go_wp2_with fail
      go_quiet (fail)
      go_wp2_with fail
      go_roundg (l.length - (i + 1))
      case measure => have := HG.out; omega
      case rel => exact ⟨i + 1, by omega, rfl, by go_num, ⟨hbr.os, hbr.tape, hbr.output, hbr.size, hbr.block⟩⟩
    · have hge : ¬ (i : Int) < (l.length : Int) := by omega
      clear H3 H3'
      go_wp2_with fail
      go_ret
      exact ⟨rfl, hbr⟩

/-- What Rows and Valid list. -/
def Fm.col (f : Fm) : List Bool := if f.ncode.1 = 0 then colL f (nmsU f) else []
def Fm.wit (f : Fm) : List (List UInt8) := if f.ncode.1 = 0 then (if false ∈ colL f (nmsU f) then rowN ((colL f (nmsU f)).idxOf false) (nmsU f) 0 else []) else []
def Fm.isV (f : Fm) : Bool := decide (f.ncode.1 = 0) && decide (false ∉ colL f (nmsU f))

theorem rows_any (f : Fm) (v : Value) (w : World) (hrep : Rep w (fun _ => True) f v) :
    Calls Try.prog 35 #[v] w fun e w' => ∃ x, e = .returned (.tuple #[x, .agg #[.int .i64 f.ncode.1, .int .i64 f.ncode.2]]) ∧ BL w' x f.col ∧ Below w.heap.size w w' := by
  by_cases h : f.ncode.1 = 0
  · have h' := (ncode_ok h).1
    unfold Fm.col
    rw [if_pos h]
    rw [h']
    exact rows_yes f h v w hrep
  · unfold Fm.col
    rw [if_neg h]
    refine (rows_no f f.ncode.1 f.ncode.2 h rfl v w hrep).mono ?_
    rintro e w' ⟨rfl, hb⟩
    exact ⟨_, rfl, BL.nil, hb⟩

theorem valid_any (f : Fm) (v : Value) (w : World) (hrep : Rep w (fun _ => True) f v) :
    Calls Try.prog 36 #[v] w fun e w' => ∃ x, e = .returned (.tuple #[.bool f.isV, x, .agg #[.int .i64 f.ncode.1, .int .i64 f.ncode.2]]) ∧ TL w' x f.wit ∧ Below w.heap.size w w' := by
  by_cases h : f.ncode.1 = 0
  · have h' := (ncode_ok h).1
    unfold Fm.isV Fm.wit
    rw [if_pos h, decide_eq_true h, Bool.true_and, h']
    exact valid_yes f h v w hrep
  · unfold Fm.isV Fm.wit
    rw [if_neg h, decide_eq_false h, Bool.false_and]
    refine (valid_no f f.ncode.1 f.ncode.2 h rfl v w hrep).mono ?_
    rintro e w' ⟨rfl, hb⟩
    exact ⟨_, rfl, TL.nil, hb⟩
end Go.Proofs.Ytknngeojhiejnaa
/- The plain mathematics of TruthValues: a row as a list of names, and as digits. -/
namespace Go.Proofs.Ytknngeojhiejnaa
open Go.Sort

theorem tv_congr (p q : List UInt8 → Bool) : ∀ (m : Nat) (f : Fm), f.size ≤ m → Fine f → (∀ t ∈ nmsT f, p t = q t) → tv p f = tv q f
  | 0, .mk k n ks, h, _, _ => by rw [Fm.size] at h; omega
  | m + 1, f, h, hf, hpq => by
    rcases hf.forms with ⟨n, rfl, hn⟩ | rfl | rfl | ⟨k, g, hk, rfl, hg⟩ | ⟨k, g, g', hk, rfl, hg, hg'⟩
    · rw [tv_name, tv_name]
      exact hpq _ (by unfold nmsT; rw [allN_leaf]; simp [nmsOf])
    · rw [tv_true, tv_true]
    · rw [tv_false, tv_false]
    · rw [size_one] at h
      have hsub : ∀ t ∈ nmsT g, t ∈ nmsT (.mk k ⟨#[]⟩ [g]) := fun t ht => by
        unfold nmsT at *
        rw [allN_one, nmsOf]
        split
        · rw [List.map_cons]; exact List.mem_cons_of_mem _ ht
        · exact ht
      have ih := tv_congr p q m g (by omega) hg fun t ht => hpq t (hsub t ht)
      rw [tv, tvs, tvs, tv, tvs, tvs, ih]
      rcases hk with rfl | rfl | rfl <;> rfl
    · rw [size_two] at h
      have hsub : ∀ t, t ∈ nmsT g ∨ t ∈ nmsT g' → t ∈ nmsT (.mk k ⟨#[]⟩ [g, g']) := fun t ht => by
        unfold nmsT at *
        rw [allN_two, nmsOf]
        have : t ∈ (nmsOf (allN g ++ allN g')).map (·.data.toList) := by
          rw [nmsOf_append, List.map_append, List.mem_append]; exact ht
        split
        · rw [List.map_cons]; exact List.mem_cons_of_mem _ this
        · exact this
      have ih := tv_congr p q m g (by omega) hg fun t ht => hpq t (hsub t (Or.inl ht))
      have ih' := tv_congr p q m g' (by omega) hg' fun t ht => hpq t (hsub t (Or.inr ht))
      rw [tv, tvs, tvs, tvs, tv, tvs, tvs, tvs, ih, ih']
      rcases hk with rfl | rfl | rfl <;> rfl

theorem rowN_mem (r : Nat) : ∀ (l : List (List UInt8)) (i : Nat) (t : List UInt8), t ∈ rowN r l i ↔ ∃ j, l[j]? = some t ∧ r.testBit (i + j) = true
  | [], i, t => by simp [rowN]
  | s :: l, i, t => by
    rw [rowN]
    have ih := rowN_mem r l (i + 1) t
    have hsp : (∃ j, (s :: l)[j]? = some t ∧ r.testBit (i + j) = true) ↔ (s = t ∧ r.testBit i = true) ∨ ∃ j, l[j]? = some t ∧ r.testBit (i + 1 + j) = true := by
      constructor
      · rintro ⟨j, h1, h2⟩
        cases j with
        | zero => simp at h1; exact Or.inl ⟨h1, by simpa using h2⟩
        | succ j => exact Or.inr ⟨j, by simpa using h1, by rw [show i + 1 + j = i + (j + 1) by omega]; exact h2⟩
      · rintro (⟨h1, h2⟩ | ⟨j, h1, h2⟩)
        · exact ⟨0, by simp [h1], by simpa using h2⟩
        · exact ⟨j + 1, by simpa using h1, by rw [show i + (j + 1) = i + 1 + j by omega]; exact h2⟩
    rw [hsp]
    split
    · rename_i hb
      rw [List.mem_cons, ih]
      constructor
      · rintro (h | h)
        · exact Or.inl ⟨h.symm, hb⟩
        · exact Or.inr h
      · rintro (⟨h, -⟩ | h)
        · exact Or.inl h.symm
        · exact Or.inr h
    · rename_i hb
      rw [ih]
      constructor
      · exact Or.inr
      · rintro (⟨-, h⟩ | h)
        · exact absurd h hb
        · exact h

/-- A name of the list is true in a row just where its digit is 1. -/
theorem row_digit {l : List (List UInt8)} (hn : l.Nodup) (r : Nat) {t : List UInt8} (ht : t ∈ l) : decide (t ∈ rowN r l 0) = colP r l t := by
  obtain ⟨i, hi, hit⟩ := List.getElem_of_mem ht
  have hg : l[i]? = some t := by rw [List.getElem?_eq_getElem hi, hit]
  have hix := idxOf_of_get hn hg
  unfold colP
  rw [if_pos ht, hix]
  rcases hb : r.testBit i with _ | _
  · refine decide_eq_false fun h => ?_
    obtain ⟨j, h1, h2⟩ := (rowN_mem r l 0 t).1 h
    have := idxOf_of_get hn h1
    rw [Nat.zero_add] at h2
    have hji : j = i := by omega
    rw [hji, hb] at h2
    cases h2
  · exact decide_eq_true ((rowN_mem r l 0 t).2 ⟨i, hg, by rw [Nat.zero_add]; exact hb⟩)

theorem tv_row {f : Fm} (hf : Fine f) (l : List (List UInt8)) (hn : l.Nodup) (hl : ∀ t ∈ nmsT f, t ∈ l) (r : Nat) : tv (fun t => decide (t ∈ rowN r l 0)) f = tv (colP r l) f :=
  tv_congr _ _ f.size f (Nat.le_refl _) hf fun t ht => row_digit hn r (hl t ht)

theorem colL_get (f : Fm) (l : List (List UInt8)) (r : Nat) (hr : r < 2 ^ l.length) : (colL f l)[r]? = some (tv (colP r l) f) := by
  unfold colL
  rw [List.getElem?_map, List.getElem?_range hr]
  rfl

theorem fIdx_snoc (l : List Bool) (x : Bool) : fIdx (l ++ [x]) false = if fIdx l false < 0 ∧ x = false then (l.length : Int) else fIdx l false := by
  unfold fIdx
  by_cases hm : false ∈ l
  · rw [if_pos hm, if_pos (List.mem_append_left _ hm), List.idxOf_append, if_pos hm, if_neg (by omega)]
  · rw [if_neg hm]
    cases x
    · rw [if_pos (by simp), List.idxOf_append, if_neg hm]
      simp
    · rw [if_neg (by simp [hm])]
      simp
end Go.Proofs.Ytknngeojhiejnaa
/- Walks: TruthValues, of a formula that is not plain. -/
namespace Go.Proofs.Ytknngeojhiejnaa
open Go.RowKit Go.Sort

/-- A formula alone in a list. -/
theorem FL.alone {w : World} {b : Nat} {f : Fm} {c0 c1 c2 : Value} {T : TypeId} (hb : w.heap[b]? = some (.cells #[c0, c1, c2] T (0, 0))) (hr : Rep w (fun _ => True) f (.agg #[c0, c1, c2])) : FL w (.slice (some ⟨b, 0, none⟩) 1 1) [f] := by
  obtain ⟨g0, g1, g2, -⟩ := blk3 hb
  exact ⟨some ⟨b, 0, none⟩, 1, rfl, by simp, by simp [maxLen], fun _ => ⟨b, 0, rfl, Reps.cons.2 ⟨⟨c0, c1, c2, g0, g1, g2, hr⟩, Reps.nil⟩⟩⟩
theorem pfirst_one (f : Fm) : pfirst [f] = f.pcode := by
  rw [pfirst, pfirst]
  by_cases h : f.pcode.1 = 0
  · rw [if_pos h, (pcode_ok h).2.2]
  · rw [if_neg h]

set_option maxRecDepth 10000 in
set_option maxHeartbeats 8000000 in
theorem values_bad (f : Fm) (l : List (List UInt8)) (hmx : ∀ t ∈ l, t.length ≤ maxLen) (v u : Value) (w : World) (hrep : Rep w (fun _ => True) f v) (hu : SL w u l) (c a : Int) (hc : c ≠ 0) (hpc : f.pcode = (c, a)) :
    Calls Try.prog 8 #[v, u] w fun e w' => e = .returned (.bool true) ∧ Below w.heap.size w w' := by
  have hva := fun v w h => vast2_any f v w h
  have hpf := fun v (w : World) h => plainR_any [f] (by simp) v w h
  rw [pfirst_one, hpc] at hpf
  have hval := fun v u (w : World) h h' => value_any f l hmx v u w h h'
  have hvc : vcode f l = (c, a) := by unfold vcode; rw [hpc, if_neg hc]
  rw [hvc, decide_eq_false hc] at hval
  have hnc : f.ncode = (c, a) := by unfold Fm.ncode; rw [hpc, if_neg hc]
  have hro := fun v (w : World) h => rows_no f c a hc hnc v w h
  have hvd := fun v (w : World) h => valid_no f c a hc hnc v w h
  obtain ⟨k, n, ks⟩ := f
  obtain ⟨sl, cap, rfl⟩ := slice_shape hrep
  have HU : Hid (SL w u l) := hu
  obtain ⟨adU, cpU, rfl, hl1, hl2, -⟩ := hu
  have hlI : (l.length : Int) ≤ 9223372036854775807 := by unfold maxLen at hl2; omega
  have H1 : Hid (∀ v w, Rep w (fun _ => True) (.mk k n ks) v → Calls Try.prog 10 _ w _) := hva
  have H2 : Hid (∀ v w, FL w v [.mk k n ks] → Calls Try.prog 37 _ w _) := hpf
  have HV : Hid (∀ v u w, Rep w (fun _ => True) (.mk k n ks) v → SL w u l → Calls Try.prog 34 #[v, u] w _) := hval
  have HRo : Hid (∀ v w, Rep w (fun _ => True) (.mk k n ks) v → Calls Try.prog 35 #[v] w _) := hro
  have HVd : Hid (∀ v w, Rep w (fun _ => True) (.mk k n ks) v → Calls Try.prog 36 #[v] w _) := hvd
  have HB : Hid (∀ w, Calls Try.prog 33 #[] w _) := fun w => truthBegun_any w
  have HRep : Hid (Rep w (fun _ => True) (.mk k n ks) (.agg #[.int .i64 k, .string n, .slice sl ks.length cap])) := hrep
  have hcJ : (c == 0) = false := by simpa using hc
  have hcN : (c != 0) = true := by simpa using hc
  clear hva hpf hval hvc hnc hro hvd hmx hpc hc hrep
  go_enter Try.func8, Try.ntmps8
  go_wp2_with fail
  refine (HB.out _).mono ?_
  rintro e w1 ⟨rfl, hb1⟩
  have q1 : Hid _ := below_keep hb1 (blk_new w _)
  have B1 := below_join (below_more (Below.refl _ w) _) hb1
  obtain ⟨a0, a1, a2, -⟩ := blk3 q1.out
  go_wp2_with fail
  refine (H1.out _ _ (HRep.out.up B1)).mono ?_
  rintro e w2 ⟨⟨b1, rfl, hs1⟩, hb2⟩
  clear hs1
  have q2 : Hid _ := below_keep hb2 q1.out
  have B2 := below_join B1 hb2
  clear a0 a1 a2
  cases b1
  · obtain ⟨a0, a1, a2, -⟩ := blk3 q2.out
    go_wp2_with fail
    refine (HV.out _ _ _ (HRep.out.up B2) (HU.out.up B2)).mono ?_
    rintro e w3 ⟨rfl, hb3⟩
    have q3 : Hid _ := below_keep hb3 q2.out
    have B3 := below_join B2 hb3
    clear a0 a1 a2
    obtain ⟨a0, a1, a2, -⟩ := blk3 q3.out
    have l3 := lt_of_block q3.out
    go_wp2_with fail
    refine (HRo.out _ _ (HRep.out.up (below_more B3 _))).mono ?_
    rintro e w4 ⟨rfl, hb4⟩
    have q4 : Hid _ := below_keep hb4 (alloc_keep q3.out _)
    have r4 : Hid _ := below_keep hb4 (blk_new w3 _)
    have B4 := below_join (below_more B3 _) hb4
    clear a0 a1 a2
    obtain ⟨a0, a1, a2, -⟩ := blk3 q4.out
    have l4 := lt_of_block q4.out
    go_wp2_with fail
    refine (HVd.out _ _ (HRep.out.up (below_more B4 _))).mono ?_
    rintro e w5 ⟨rfl, hb5⟩
    have q5 : Hid _ := below_keep hb5 (alloc_keep q4.out _)
    have r5 : Hid _ := below_keep hb5 (alloc_keep r4.out _)
    have s5 : Hid _ := below_keep hb5 (blk_new w4 _)
    have B5 := below_join (below_more B4 _) hb5
    clear a0 a1 a2
    obtain ⟨a0, a1, a2, -⟩ := blk3 q5.out
    have l5 := lt_of_block q5.out
    go_wp2_with fail
    have nb := blk_sec w5 (.cells #[.int .i64 c, .int .i64 a] 29 (0, 0)) (.cells #[.int .i64 k, .string n, .slice sl ks.length cap] 24 (0, 0))
    refine (H2.out _ _ (FL.alone nb (HRep.out.up (below_more (below_more B5 _) _)))).mono ?_
    rintro e w6 ⟨rfl, hb6⟩
    have q6 : Hid _ := below_keep hb6 (alloc_keep (alloc_keep q5.out _) _)
    have r6 : Hid _ := below_keep hb6 (alloc_keep (alloc_keep r5.out _) _)
    have s6 : Hid _ := below_keep hb6 (alloc_keep (alloc_keep s5.out _) _)
    have t6 : Hid _ := below_keep hb6 (alloc_keep (blk_new w5 _) _)
    have B6 := below_join (below_more (below_more B5 _) _) hb6
    clear a0 a1 a2 nb
    obtain ⟨k1, k2, -⟩ := blk2 r6.out
    obtain ⟨k3, k4, -⟩ := blk2 s6.out
    obtain ⟨k5, k6, -⟩ := blk2 t6.out
    have o1 := lt_of_block r6.out
    have o2 := lt_of_block s6.out
    have o3 := lt_of_block t6.out
    have BF := below_more (below_more B6 (.cells #[.int .i64 c, .int .i64 a] 29 (0, 0))) (.cells #[.int .i64 c, .int .i64 a] 29 (0, 0))
    have p12 := alloc_keep (blk_new w6 (.cells #[.int .i64 c, .int .i64 a] 29 (0, 0))) (.cells #[.int .i64 c, .int .i64 a] 29 (0, 0))
    have p13 := blk_sec w6 (.cells #[.int .i64 c, .int .i64 a] 29 (0, 0)) (.cells #[.int .i64 c, .int .i64 a] 29 (0, 0))
    have r7 := alloc_keep (alloc_keep r6.out (.cells #[.int .i64 c, .int .i64 a] 29 (0, 0))) (.cells #[.int .i64 c, .int .i64 a] 29 (0, 0))
    have s7 := alloc_keep (alloc_keep s6.out (.cells #[.int .i64 c, .int .i64 a] 29 (0, 0))) (.cells #[.int .i64 c, .int .i64 a] 29 (0, 0))
    have t7 := alloc_keep (alloc_keep t6.out (.cells #[.int .i64 c, .int .i64 a] 29 (0, 0))) (.cells #[.int .i64 c, .int .i64 a] 29 (0, 0))
    have P12 : Hid _ := p12
    have P13 : Hid _ := p13
    have R7 : Hid _ := r7
    have S7 : Hid _ := s7
    have T7 : Hid _ := t7
    clear p12 p13 r7 s7 t7
    go_wp2_with fail
    generalize (w6.alloc (.cells #[.int .i64 c, .int .i64 a] 29 (0, 0))).alloc (.cells #[.int .i64 c, .int .i64 a] 29 (0, 0)) = W at *
    clear k1 k2 k3 k4 k5 k6
    obtain ⟨k1, k2, -⟩ := blk2 R7.out
    obtain ⟨k3, k4, -⟩ := blk2 S7.out
    obtain ⟨k5, k6, -⟩ := blk2 T7.out
    obtain ⟨m1, m2, -⟩ := blk2 P12.out
    obtain ⟨m3, m4, -⟩ := blk2 P13.out
    go_loopg [14] 1 (fun g c wr => g = 1 ∧ c = .int .i64 0 ∧ wr = W)
    case atStart => exact ⟨rfl, rfl, rfl⟩
    case round =>
      obtain ⟨hg, rfl, hw⟩ := hrel
      have hw' := hw.symm
      subst hw'
      clear hg
      by_cases h0 : 0 < l.length
      · have h0I : (0 : Int) < (l.length : Int) := by omega
        go_wp2_with fail
        go_ret
        exact ⟨rfl, BF⟩
      · have h0I : decide ((0 : Int) < (l.length : Int)) = false := decide_eq_false (by omega)
        have h0J : ¬ (0 : Int) < (l.length : Int) := by omega
        go_wp2_with fail
        go_ret
        exact ⟨rfl, BF⟩
  · go_wp2_with fail
    go_ret
    exact ⟨rfl, B2⟩
end Go.Proofs.Ytknngeojhiejnaa
/- Walks: TruthValues: what lies in memory; its first loop. -/
namespace Go.Proofs.Ytknngeojhiejnaa
open Go.RowKit Go.Sort

def flt (u : Int × Int) : Obj := .cells #[.int .i64 u.1, .int .i64 u.2] 29 (0, 0)

/-- What lies in memory while TruthValues goes on. -/
structure VS (w : World) (O : Obj) (b6 b8 b11 b12 b13 : Nat) (vc nc u1 u2 : Int × Int) (xl xc : Value) (C : List Bool) (R : List (List UInt8)) (wr : World) : Prop where
  below : Below w.heap.size w wr
  box : wr.heap[w.heap.size]? = some O
  e1 : wr.heap[b6]? = some (flt vc)
  e2 : wr.heap[b8]? = some (flt nc)
  e3 : wr.heap[b11]? = some (flt nc)
  w12 : wr.heap[b12]? = some (flt u1)
  w13 : wr.heap[b13]? = some (flt u2)
  rows : BL wr xl C
  wit : TL wr xc R

section
variable {w : World} {O : Obj} {b6 b8 b11 b12 b13 : Nat} {vc nc u1 u2 : Int × Int} {xl xc : Value} {C : List Bool} {R : List (List UInt8)} {wr : World}

theorem VS.up {wr' : World} (h : VS w O b6 b8 b11 b12 b13 vc nc u1 u2 xl xc C R wr) (hb : Below wr.heap.size wr wr') : VS w O b6 b8 b11 b12 b13 vc nc u1 u2 xl xc C R wr' :=
  ⟨below_join h.below hb, below_keep hb h.box, below_keep hb h.e1, below_keep hb h.e2, below_keep hb h.e3, below_keep hb h.w12, below_keep hb h.w13, h.rows.up hb, h.wit.up hb⟩

theorem VS.set13 (h : VS w O b6 b8 b11 b12 b13 vc nc u1 u2 xl xc C R wr) (h0 : w.heap.size < b13) (h6 : b6 < b13) (h8 : b8 < b13) (h11 : b11 < b13) (h12 : b12 < b13) (u : Int × Int) :
    VS w O b6 b8 b11 b12 b13 vc nc u1 u xl xc C R ((wr.setCell ⟨b13, 0, none⟩ (.int .i64 u.1)).setCell ⟨b13, 1, none⟩ (.int .i64 u.2)) := by
  have far : ∀ b, b < b13 → ((wr.setCell ⟨b13, 0, none⟩ (.int .i64 u.1)).setCell ⟨b13, 1, none⟩ (.int .i64 u.2)).heap[b]? = wr.heap[b]? := fun b hb => by
    rw [Below.heap_setCell _ _ _ _ (by simp; omega), Below.heap_setCell _ _ _ _ (by simp; omega)]
  exact ⟨(h.below.setCell (by simp; omega) _).setCell (by simp; omega) _, (far _ h0).trans h.box, (far _ h6).trans h.e1, (far _ h8).trans h.e2, (far _ h11).trans h.e3, (far _ h12).trans h.w12, set2 h.w13 _ _, h.rows.set2 h.w13 _ _, h.wit.set2 h.w13 _ _⟩

theorem VS.set12 (h : VS w O b6 b8 b11 b12 b13 vc nc u1 u2 xl xc C R wr) (h0 : w.heap.size < b12) (h6 : b6 < b12) (h8 : b8 < b12) (h11 : b11 < b12) (h13 : b12 ≠ b13) (u : Int × Int) :
    VS w O b6 b8 b11 b12 b13 vc nc u u2 xl xc C R ((wr.setCell ⟨b12, 0, none⟩ (.int .i64 u.1)).setCell ⟨b12, 1, none⟩ (.int .i64 u.2)) := by
  have far : ∀ b, b ≠ b12 → ((wr.setCell ⟨b12, 0, none⟩ (.int .i64 u.1)).setCell ⟨b12, 1, none⟩ (.int .i64 u.2)).heap[b]? = wr.heap[b]? := fun b hb => by
    rw [Below.heap_setCell _ _ _ _ (by simpa using hb), Below.heap_setCell _ _ _ _ (by simpa using hb)]
  exact ⟨(h.below.setCell (by simp; omega) _).setCell (by simp; omega) _, (far _ (by omega)).trans h.box, (far _ (by omega)).trans h.e1, (far _ (by omega)).trans h.e2, (far _ (by omega)).trans h.e3, set2 h.w12 _ _, (far _ (Ne.symm h13)).trans h.w13, h.rows.set2 h.w12 _ _, h.wit.set2 h.w12 _ _⟩
end

/-- The first that is no name, as far as it has been looked. -/
def badTo (l : List (List UInt8)) (i : Nat) : Int × Int := if (l.take i).any (fun t => !isNm t) then (8, ((l.findIdx (fun t => !isNm t) : Nat) : Int)) else (0, 0)

theorem vcode_plain {f : Fm} (h : f.pcode = (0, 0)) (l : List (List UInt8)) (hl : l.length ≤ 1000) : vcode f l = badTo l l.length := by
  unfold vcode badTo
  rw [h, if_pos rfl, if_neg (by omega), List.take_length]
theorem badTo_next {l : List (List UInt8)} {i : Nat} {t : List UInt8} (ht : l[i]? = some t) (h : (l.take i).any (fun t => !isNm t) = false) : badTo l (i + 1) = if isNm t then (0, 0) else (8, ((i : Nat) : Int)) := by
  unfold badTo
  rw [List.take_add_one, ht, List.any_append, h]
  rcases hn : isNm t with _ | _
  · have hf := findIdx_at (p := fun t => !isNm t) h ht (by simp [hn])
    simp [hn, hf]
  · simp [hn]
theorem badTo_stay {l : List (List UInt8)} {i : Nat} (h : (l.take i).any (fun t => !isNm t) = true) (_ : i ≤ l.length) : badTo l l.length = badTo l i := by
  unfold badTo
  rw [h, List.take_length]
  have : l.any (fun t => !isNm t) = true := by
    rw [List.any_eq_true] at h ⊢
    obtain ⟨x, hx, hp⟩ := h
    exact ⟨x, List.mem_of_mem_take hx, hp⟩
  rw [this]
end Go.Proofs.Ytknngeojhiejnaa
