/- Texts of one proof, one behind the other: FX1, FX2, FX3, FX4. -/
import Derived.Test.YtheiikkeelbjnajGreatB07
import Derived.Test.YtheiikkeelbjnajGreatB16
/- Walks: the builder inside first's writer. -/
namespace Go.Proofs.YtheiikkeelbjnajGreat
open Go.RowKit

/-- A writer in block b (from B on) that has written bs. -/
def WRF (B b : Nat) (bs : List Value) (w : World) : Prop := Lib.IsBuilder 133 5 B b bs w
theorem liesInF : liesAt Tryz.prog Tryz.prog.depth 133 (2 / Tryz.prog.cellsOf 133) 0 131 1 = true := by kernel_rfl
set_option maxHeartbeats 1000000 in
set_option maxRecDepth 100000 in
theorem copy_freshF (b : Nat) (w : World) (h0 : w.cell? ⟨b, 0, none⟩ = some (.pointer none)) (hsh : w.shape? b = some (133, 2)) (hfz : w.frozen? ⟨b, 0, none⟩ = false) :
    Calls Tryz.prog 187 #[.pointer (some ⟨b, 0, none⟩)] w fun e w' => e = .returned (.tuple #[]) ∧ w' = w.setCell ⟨b, 0, none⟩ (.pointer (some ⟨b, 0, none⟩)) := by
  obtain ⟨j, hj, hs⟩ := infoBuilder
  go_enter Tryz.func187, Tryz.ntmps187
  go_wp2; (rw [Lib.run_to_unsafe w ⟨b, 0, none⟩ Tryz.underlying128 Tryz.underlying239 hj (by rw [hs]; decide) hsh (Nat.zero_lt_succ 1)]); simp only [Result.andThen]; rw [Oper.upon_value]; go_wp2; (rw [run_callFunc_extern Tryz.func200 (by kernel_rfl) (by kernel_rfl) (by kernel_rfl) (e := Extern.AbiNoEscape.same) (by kernel_rfl), Lib.run_noEscape]); simp only [Result.andThen]; rw [Oper.upon_value]; go_wp2; rw [Lib.run_from_unsafe w ⟨b, 0, none⟩ Tryz.underlying239 Tryz.underlying128 hj hsh liesInF]; simp only [Result.andThen]; rw [Oper.upon_value]; go_wp2
  go_end0
  exact ⟨rfl, rfl⟩
theorem copy_anyF (B b : Nat) (bs : List Value) (w : World) (h : WRF B b bs w) :
    Calls Tryz.prog 187 #[.pointer (some ⟨b, 0, none⟩)] w fun e w' => e = .returned (.tuple #[]) ∧ Lib.BuilderAt 133 5 B b (.pointer (some ⟨b, 0, none⟩)) bs w' ∧ Below B w w' ∧ WK b w w' := by
  rcases h with h | h
  · refine (copy_freshF b w h.cell0 h.shape h.frozen0).mono ?_
    rintro e w' ⟨rfl, rfl⟩; exact ⟨rfl, h.used _, (Below.refl B w).setCell (p := ⟨b, 0, none⟩) h.1 _, (WK.refl b w).set 0 _⟩
  · refine (copy_used b w h.cell0).mono ?_
    rintro e w' ⟨rfl, rfl⟩; exact ⟨rfl, h, Below.refl B _, WK.refl b _⟩
set_option maxHeartbeats 2000000 in
set_option maxRecDepth 100000 in
theorem write_stringF (B b : Nat) (bs : List Value) (s : ByteArray) (w : World) (h : WRF B b bs w) (hlen : bs.length + s.size ≤ 140737488355328) (hBw : B ≤ w.heap.size) :
    Calls Tryz.prog 144 #[.pointer (some ⟨b, 0, none⟩), .string s] w fun e w' => e = .returned (.tuple #[.int .i64 s.size, .nilIface]) ∧ WRF B b (bs ++ Lib.strCells s) w' ∧ Below B w w' ∧ WK b w w' := by
  obtain ⟨i0, hi, hz0, hz1, hz2⟩ := infoByte
  go_enter Tryz.func144, Tryz.ntmps144
  go_wp2_with (go_at_call 187; refine (copy_anyF B b bs _ h).mono ?_); rintro e w1 ⟨rfl, ⟨hB, v, hbk, hown, hne⟩, hb1, hk1⟩; have c0 : w1.cell? ⟨b, 0, none⟩ = some (.pointer (some ⟨b, 0, none⟩)) := blk_cell hbk 0; have c1 : w1.cell? ⟨b, 1, none⟩ = some v := blk_cell hbk 1; have hz := hb1.size; go_wp2_with (at_builtin; refine Lib.wpList_append_own_string _ rfl _ _ 129 9 rfl B 5 i0 Tryz.underlying129 Tryz.underlying9 hi hz0 hz1 hz2 _ _ _ rfl hown s rfl ?c3 ?c4 ?c5 ?_)
  case c3 => unfold maxLen; omega
  case c4 => omega
  case c5 => omega
  intro v' w2 hown' hgrow _
  have hb2 : w2.heap[b]? = some (.cells #[.pointer (some ⟨b, 0, none⟩), v] 133 (0, 0)) := by
    (rw [hgrow.block b (lt_of_block hbk) (fun e => hne e.symm)]); exact hbk
  have d0 : w2.cell? ⟨b, 0, none⟩ = some (.pointer (some ⟨b, 0, none⟩)) := blk_cell hb2 0; have d1 : w2.cell? ⟨b, 1, none⟩ = some v := blk_cell hb2 1; have f1 : w2.frozen? ⟨b, 1, none⟩ = false := blk_fz hb2 1
  obtain ⟨ao, n', cap, rfl⟩ : ∃ ao n' cap, v' = .slice ao n' cap := by
    rcases hown'.2 with ⟨hv, _⟩ | ⟨g, cap, cur, hv, _⟩
    · exact ⟨_, _, _, hv⟩
    · exact ⟨_, _, _, hv⟩
  go_wp2; go_ret2
  have hg2 : WK b w1 w2 := ⟨hgrow.size, fun k o hk _ ho => (hgrow.block k (lt_of_block hk) (fun e => by
    rcases hown.2 with ⟨hv, _⟩ | ⟨g, cap, cur, hv, -, hcur, -⟩
    · rw [hv] at e; cases e
    · rw [hv] at e
      (have e : k = g := by simpa [Value.ownBlock] using e); rw [e, hcur] at hk
      exact ho _ _ (Option.some.inj hk).symm)).trans hk⟩
  refine ⟨rfl, Or.inr ?_, ?_, (hk1.trans hg2).set 1 _⟩
  · exact Lib.BuilderAt.put (T := 133) (e := 5) hB hb2 (bs' := bs ++ Lib.strCells s) (by simpa [Lib.strCells_length] using hown') (by decide)
  · exact (hb1.grown hgrow (by omega) (fun k hk => (hown.lt k hk).1)).setCell (p := ⟨b, 1, none⟩) hB _
set_option maxHeartbeats 1000000 in
set_option maxRecDepth 100000 in
/-- What has been written, as a string; something has been. -/
theorem string_anyF (B b : Nat) (l : List UInt8) (w : World) (h : WRF B b (Lib.byteCells l) w) (h0 : l ≠ []) :
    Calls Tryz.prog 94 #[.pointer (some ⟨b, 0, none⟩)] w fun e w' => e = .returned (.string ⟨l.toArray⟩) ∧ Below B w w' := by
  obtain ⟨p, hB, v, hbk, hown, hne⟩ : ∃ p, Lib.BuilderAt 133 5 B b p (Lib.byteCells l) w := by
    rcases h with h | h
    · exact ⟨_, h⟩
    · exact ⟨_, h⟩
  (have hl0 : l.length ≠ 0 := by simpa using h0); rw [Lib.byteCells_length] at hown
  rcases hown.2 with ⟨-, hz⟩ | ⟨g, cap, cur, rfl, hbg, hg, hnc, hcm, hcs, htake⟩
  · exact absurd hz hl0
  have c1 : w.cell? ⟨b, 1, none⟩ = some (.slice (some ⟨g, 0, none⟩) l.length cap) := blk_cell hbk 1
  have hSD : (Builtin.unsafeSliceData_ #[129] 195 #[.slice (some ⟨g, 0, none⟩) l.length cap]).run Tryz.prog w.drew = .ok (.pointer (some ⟨g, 0, none⟩)) w.drew :=
    Lib.run_unsafeSliceData_row _ _ _ _ _ _ (by omega)
  have hUS : (Builtin.unsafeString_ #[195, 3] 9 #[.pointer (some ⟨g, 0, none⟩), .int .i64 l.length]).run Tryz.prog w.drew = .ok (.string ⟨l.toArray⟩) (w.drew.freeze ⟨g, 0, none⟩ l.length) := by
    have hg' : w.drew.heap[g]? = some (.cells cur 5 (0, 0)) := hg; (refine Lib.run_unsafeString_row w.drew 195 3 9 5 Tryz.underlying195 (by kernel_rfl) g cur.size (by simp [World.shape?, hg']) l h0 (by omega) (by unfold maxLen at hcm; omega) ?_); intro j x hx; (exact hown.cells (g := g) rfl j (.int .u8 x.toNat) (by simp [Lib.byteCells, hx]))
  go_enter Tryz.func94, Tryz.ntmps94
  go_wp2
  go_region
  all_goals (go_wp2; go_ret; exact ⟨rfl, Lib.below_freeze (Below.drew (Below.refl B w)) (p := ⟨g, 0, none⟩) hbg _⟩)
theorem WRF.alloc {B b : Nat} {bs : List Value} {w : World} (h : WRF B b bs w) (o : Obj) : WRF B b bs (w.alloc o) := by
  have aux : ∀ p, Lib.BuilderAt 133 5 B b p bs w → Lib.BuilderAt 133 5 B b p bs (w.alloc o) := fun p h => by
    obtain ⟨h1, v, h2, h3, h4⟩ := h; (exact ⟨h1, v, by rw [Below.heap_alloc _ _ _ (lt_of_block h2)]; exact h2, h3.alloc _, h4⟩)
  rcases h with h | h
  · exact Or.inl (aux _ h)
  · exact Or.inr (aux _ h)
theorem WRF.lt {B b : Nat} {bs : List Value} {w : World} (h : WRF B b bs w) : b < w.heap.size := by
  rcases h with h | h
  · exact h.lt
  · exact h.lt
end Go.Proofs.YtheiikkeelbjnajGreat
/- Walks: words written: called and words. -/
namespace Go.Proofs.YtheiikkeelbjnajGreat
open Go.RowKit

mutual
/-- A word as it is written. -/
def wdS : Wd → List UInt8
  | .mk n [] => n.data.toList
  | .mk n (x :: xs) => n.data.toList ++ ([40] ++ (wdS x ++ wdsR [44, 32] xs) ++ [41])
def wdsR : List UInt8 → List Wd → List UInt8
  | _, [] => []
  | sep, x :: xs => sep ++ wdS x ++ wdsR sep xs
end
def wdsS (sep : List UInt8) : List Wd → List UInt8
  | [] => []
  | x :: xs => wdS x ++ wdsR sep xs
theorem wdS_eq (n : ByteArray) (ar : List Wd) : wdS (.mk n ar) = n.data.toList ++ (if ar = [] then [] else [40] ++ wdsS [44, 32] ar ++ [41]) := by
  cases ar with
  | nil => rw [wdS, if_pos rfl, List.append_nil]
  | cons x xs => rw [wdS, if_neg (by simp), wdsS]
theorem wdsR_snoc (sep : List UInt8) : ∀ (l : List Wd) (x : Wd), wdsR sep (l ++ [x]) = wdsR sep l ++ (sep ++ wdS x)
  | [], x => by rw [List.nil_append, wdsR, wdsR, wdsR]; simp
  | y :: l, x => by rw [List.cons_append, wdsR, wdsR, wdsR_snoc sep l x]; simp
theorem wdsS_snoc (sep : List UInt8) (l : List Wd) (x : Wd) : wdsS sep (l ++ [x]) = wdsS sep l ++ ((if l = [] then [] else sep) ++ wdS x) := by
  cases l with
  | nil => rw [List.nil_append, wdsS, wdsS, wdsR, if_pos rfl]; simp
  | cons y l => rw [List.cons_append, wdsS, wdsS, wdsR_snoc, if_neg (by simp), List.append_assoc]
theorem wdsR_app (sep : List UInt8) : ∀ (l m : List Wd), wdsR sep (l ++ m) = wdsR sep l ++ wdsR sep m
  | [], m => by rw [List.nil_append, wdsR, List.nil_append]
  | y :: l, m => by rw [List.cons_append, wdsR, wdsR, wdsR_app sep l m]; simp
theorem wdsS_pre (sep : List UInt8) (l : List Wd) (i : Nat) : (wdsS sep (l.take i)).length ≤ (wdsS sep l).length := by
  cases l with
  | nil => simp [wdsS]
  | cons y l =>
    cases i with
    | zero => simp [wdsS]
    | succ i =>
      rw [List.take_succ_cons, wdsS, wdsS]; (have e : wdsR sep l = wdsR sep (l.take i) ++ wdsR sep (l.drop i) := by rw [← wdsR_app, List.take_append_drop]); rw [List.length_append, List.length_append, e, List.length_append]; omega
/-- What a writing of s leaves. -/
def WPoF (B b : Nat) (bs : List Value) (s : List UInt8) (w : World) (e : Ending) (w' : World) : Prop :=
  e = .returned (.tuple #[]) ∧ WRF B b (bs ++ Lib.byteCells s) w' ∧ Below B w w' ∧ WK b w w'
def CallS (m : Nat) : Prop := ∀ (w0 : World) (b : Nat) (bs : List Value) (n : ByteArray) (ar : List Wd) (v : Value) (w : World), Wd.sizes ar < m → WL w0 v ar → Below w0.heap.size w0 w → WRF w0.heap.size b bs w → bs.length + (wdS (.mk n ar)).length ≤ 100000 →
  Calls Tryz.prog 183 #[.pointer (some ⟨b, 0, none⟩), .string n, v] w (WPoF w0.heap.size b bs (wdS (.mk n ar)) w)
set_option maxRecDepth 10000 in
set_option maxHeartbeats 4000000 in
theorem words_of (m : Nat) (hc : CallS m) (w0 : World) (b : Nat) (bs : List Value) (sep : ByteArray) (l : List Wd) (v : Value) (w : World) (hm : Wd.sizes l ≤ m) (hv : WL w0 v l) (hb0 : Below w0.heap.size w0 w) (hw : WRF w0.heap.size b bs w) (hlen : bs.length + (wdsS sep.data.toList l).length ≤ 100000) :
    Calls Tryz.prog 184 #[.pointer (some ⟨b, 0, none⟩), v, .string sep] w (WPoF w0.heap.size b bs (wdsS sep.data.toList l) w) := by
  have HX : Hid (WL w0 v l) := hv; obtain ⟨sl, cap, rfl, hx1, hx2, -⟩ := hv; (have hlI : (l.length : Int) ≤ 9223372036854775807 := by unfold maxLen at hx2; omega); have HB0 : Hid (Below w0.heap.size w0 w) := hb0; have HL : Hid (bs.length + (wdsS sep.data.toList l).length ≤ 100000) := hlen; have HM9 : Hid (Wd.sizes l ≤ m) := hm; have hsp : sep.data.toList.length = sep.size := Array.length_toList; have HSp : Hid (sep.data.toList.length = sep.size) := hsp; have HBs : Hid (w0.heap.size ≤ w.heap.size) := hb0.size; have hbl := hw.lt; have HBl : Hid (b < w.heap.size) := hbl; have HW : Hid (WRF w0.heap.size b bs w) := hw; clear hx1 hx2 hb0 hlen hm hsp hw hbl
  go_enter Tryz.func184, Tryz.ntmps184
  go_wp2_with fail
  go_loopg [10] l.length (fun gz v wr => ∃ i, i ≤ l.length ∧ gz = l.length - i ∧ v = .int .i64 (i : Nat) ∧ Hid (WRF w0.heap.size b (bs ++ Lib.byteCells (wdsS sep.data.toList (l.take i))) wr) ∧ Hid (Below w0.heap.size w wr) ∧ Hid (WK b w wr))
  case atStart => exact ⟨0, by omega, by omega, rfl, by simpa [wdsS, Lib.byteCells] using HW, Below.refl _ _, WK.refl _ _⟩
  case round =>
    obtain ⟨i, hi, hg, rfl, HWr, HBr, HKr⟩ := hrel; have HG : Hid (gk = l.length - i) := hg; clear hg; by_cases hlt : i < l.length
    · obtain ⟨⟨n2, ar2⟩, hki⟩ : ∃ x, l[i]? = some x := ⟨_, List.getElem?_eq_getElem hlt⟩
      have HB2 : Hid (Below w0.heap.size w0 wr) := HB0.out.trans HBr.out; obtain ⟨b2, off, sl2, cap2, rfl, z0, z1, hrep2⟩ := HX.out.at i n2 ar2 hki; have y0 := (HB2.out.cell (lt_of_cell z0)).trans z0; have y1 := (HB2.out.cell (lt_of_cell z1)).trans z1; (have hltI : (i : Int) < (l.length : Int) := by omega); (have hsn : wdsS sep.data.toList (l.take (i + 1)) = wdsS sep.data.toList (l.take i) ++ ((if l.take i = [] then [] else sep.data.toList) ++ wdS (.mk n2 ar2)) := by rw [List.take_add_one, hki, Option.toList_some, wdsS_snoc]); have hpre := wdsS_pre sep.data.toList l (i + 1); obtain ⟨-, -, -, hwl⟩ := hrep2.args; (have hsz : Wd.sizes ar2 < m := by have h9 := wsizes_get hki; have := HM9.out; rw [Wd.size] at h9; omega); (have HSn : Hid (wdsS sep.data.toList (l.take (i + 1)) = wdsS sep.data.toList (l.take i) ++ ((if l.take i = [] then [] else sep.data.toList) ++ wdS (.mk n2 ar2)) ∧ (wdsS sep.data.toList (l.take (i + 1))).length ≤ (wdsS sep.data.toList l).length) := ⟨hsn, hpre⟩); (have HI : Hid (∀ W cs, Below w0.heap.size w0 W → WRF w0.heap.size b cs W → cs.length + (wdS (.mk n2 ar2)).length ≤ 100000 → Calls Tryz.prog 183 #[.pointer (some ⟨b, 0, none⟩), .string n2, .slice sl2 ar2.length cap2] W (WPoF w0.heap.size b cs (wdS (.mk n2 ar2)) W)) := fun W cs h1 h2 h3 => hc w0 b cs n2 ar2 _ W hsz hwl h1 h2 h3); have HLt : Hid (i < l.length) := hlt; clear hki hrep2 z0 z1 hlt hsz hsn hpre hwl hi; by_cases h0 : i = 0
      · have h0I : ¬ (0 : Int) < (i : Int) := by omega
        (have HE : Hid ((if l.take i = [] then [] else sep.data.toList) = []) := by show _ = _; rw [h0, List.take_zero, if_pos rfl]); clear h0; have HQ : Hid ((wr.alloc (.cells #[.string n2, .slice sl2 ar2.length cap2] 27 (0, 0))).heap[wr.heap.size]? = some (.cells #[.string n2, .slice sl2 ar2.length cap2] 27 (0, 0))) := blk_new _ _
        go_wp2_with (first
          | (go_at_call 183
             refine (HI.out _ _ (below_more HB2.out _) (HWr.out.alloc _) (by
               have h1 := HSn.out; have h2 := HL.out; rw [h1.1, HE.out] at h1; simp only [List.length_append, Lib.byteCells_length, List.length_nil] at h1 ⊢
               omega)).mono ?_
             rintro e w5 ⟨rfl, hw5, hb5, hk5⟩
             have HW5 : Hid (WRF w0.heap.size b (bs ++ Lib.byteCells (wdsS sep.data.toList (l.take (i + 1)))) w5) := by
               show WRF _ _ _ _; rw [HSn.out.1, HE.out, List.nil_append, byteCells_append, ← List.append_assoc]; exact hw5
             (have HB5 : Hid (Below w0.heap.size w w5) := (HBr.out.alloc (by have := HBr.out.size; have := HBs.out; omega) _).trans hb5); have HK5 : Hid (WK b w w5) := (HKr.out.alloc _).trans hk5
             clear hw5 hb5 hk5)
          | fail)
        go_roundg (l.length - (i + 1))
        case measure => have := HG.out; have := HLt.out; omega
        case rel => exact ⟨i + 1, HLt.out, rfl, by go_num, HW5, HB5, HK5⟩
      · have h0I : (0 : Int) < (i : Int) := by omega
        have HE : Hid ((if l.take i = [] then [] else sep.data.toList) = sep.data.toList) := by
          show _ = _; rw [if_neg]; intro e; have h9 := congrArg List.length e; rw [List.length_take, List.length_nil] at h9; have := HLt.out; omega
        clear h0
        go_wp2_with (first
          | (go_at_call 144
             refine (write_stringF w0.heap.size b _ sep _ (HWr.out.alloc _) (by
               have h1 := HSn.out; have h2 := HL.out; have h3 := HSp.out; rw [h1.1, HE.out] at h1; simp only [List.length_append, Lib.byteCells_length] at h1 ⊢
               omega) (by have := HBr.out.size; have := HBs.out; simp; omega)).mono ?_
             rintro e w4 ⟨rfl, hw4, hb4, hk4⟩; have HW4 : Hid (WRF w0.heap.size b ((bs ++ Lib.byteCells (wdsS sep.data.toList (l.take i))) ++ Lib.strCells sep) w4) := hw4; (have HB4 : Hid (Below w0.heap.size w w4) := (HBr.out.alloc (by have := HBr.out.size; have := HBs.out; omega) _).trans hb4); have HK4 : Hid (WK b w w4) := (HKr.out.alloc _).trans hk4; (have q4 := hk4.block _ _ (blk_new wr (.cells #[.string n2, .slice sl2 ar2.length cap2] 27 (0, 0))) (by have := HKr.out.size; have := HBl.out; omega) (fun c fr h => by cases h)); obtain ⟨u0, u1, -⟩ := blk2 q4
             clear hw4 hb4 hk4 q4)
          | (go_at_call 183
             refine (HI.out _ _ (HB0.out.trans HB4.out) HW4.out (by
               have h1 := HSn.out; have h2 := HL.out; rw [h1.1, HE.out] at h1; simp only [List.length_append, Lib.byteCells_length, strCells_eq] at h1 ⊢
               omega)).mono ?_
             rintro e w5 ⟨rfl, hw5, hb5, hk5⟩
             have HW5 : Hid (WRF w0.heap.size b (bs ++ Lib.byteCells (wdsS sep.data.toList (l.take (i + 1)))) w5) := by
               show WRF _ _ _ _; rw [HSn.out.1, HE.out, byteCells_append, byteCells_append, ← List.append_assoc, ← List.append_assoc, ← strCells_eq]; exact hw5
             have HB5 : Hid (Below w0.heap.size w w5) := HB4.out.trans hb5; have HK5 : Hid (WK b w w5) := HK4.out.trans hk5
             clear hw5 hb5 hk5)
          | fail)
        go_roundg (l.length - (i + 1))
        case measure => have := HG.out; have := HLt.out; omega
        case rel => exact ⟨i + 1, HLt.out, rfl, by go_num, HW5, HB5, HK5⟩
    · have hge : ¬ (i : Int) < (l.length : Int) := by omega
      (have HE : Hid (l.take i = l) := by show _ = _; rw [List.take_of_length_le (by omega)]); clear hlt hi; go_wp2_with fail
      go_end0
      have h1 := HWr.out; rw [HE.out] at h1; exact ⟨rfl, h1, HBr.out, HKr.out⟩
end Go.Proofs.YtheiikkeelbjnajGreat
/- Walks: called, whole. -/
namespace Go.Proofs.YtheiikkeelbjnajGreat
open Go.RowKit

set_option maxRecDepth 10000 in
set_option maxHeartbeats 4000000 in
theorem call_step (m : Nat) (ih : CallS m) : CallS (m + 1) := by
  intro w0 b bs n ar v w hm hv hb0 hw hlen; have HX : Hid (WL w0 v ar) := hv; obtain ⟨sl, cap, rfl, hx1, hx2, -⟩ := hv; have HB0 : Hid (Below w0.heap.size w0 w) := hb0; have hn9 : n.data.toList.length = n.size := Array.length_toList; have HBs : Hid (w0.heap.size ≤ w.heap.size) := hb0.size; rw [wdS_eq] at hlen; (have hnb : bs.length + n.size ≤ 140737488355328 := by rw [List.length_append] at hlen; omega); by_cases h0 : ar = []
  · subst h0
    (have HR : Hid (wdS (.mk n []) = n.data.toList) := by show _ = _; rw [wdS]); clear hx1 hx2 hm hlen hn9
    go_enter Tryz.func183, Tryz.ntmps183
    go_wp2_with (first
      | (go_at_call 144
         refine (write_stringF w0.heap.size b bs n _ hw hnb HBs.out).mono ?_
         rintro e w1 ⟨rfl, hw1, hb1, hk1⟩)
      | fail)
    go_end0
    refine ⟨rfl, ?_, hb1, hk1⟩; rw [HR.out, ← strCells_eq]; exact hw1
  · have hR : wdS (.mk n ar) = n.data.toList ++ ([40] ++ wdsS [44, 32] ar ++ [41]) := by rw [wdS_eq, if_neg h0]
    rw [if_neg h0, List.length_append, List.length_append, List.length_append] at hlen; have hpos : 0 < ar.length := List.length_pos_iff.2 h0
    have h0J : ((ar.length : Int) == 0) = false := by
      rw [beq_eq_false_iff_ne]; omega
    have HR : Hid (wdS (.mk n ar) = n.data.toList ++ ([40] ++ wdsS [44, 32] ar ++ [41])) := hR; (have HL : Hid (bs.length + (n.size + (([40] : List UInt8).length + (wdsS [44, 32] ar).length + ([41] : List UInt8).length)) ≤ 100000) := by show _ ≤ _; omega); (have HWo : Hid (∀ W cs, Below w0.heap.size w0 W → WRF w0.heap.size b cs W → cs.length + (wdsS [44, 32] ar).length ≤ 100000 → Calls Tryz.prog 184 #[.pointer (some ⟨b, 0, none⟩), .slice sl ar.length cap, .string ⟨#[44, 32]⟩] W (WPoF w0.heap.size b cs (wdsS [44, 32] ar) W)) := fun W cs h1 h2 h3 => words_of m ih w0 b cs ⟨#[44, 32]⟩ ar _ W (by omega) HX.out h1 h2 h3); (have hlI : (ar.length : Int) ≤ 9223372036854775807 := by unfold maxLen at hx2; omega); clear hx1 hx2 hm hlen hR hpos h0 hn9
    go_enter Tryz.func183, Tryz.ntmps183
    go_wp2_with (first
      | (go_at_call_of 144 (Value.string n)
         refine (write_stringF w0.heap.size b bs n _ hw hnb HBs.out).mono ?_; rintro e w1 ⟨rfl, hw1, hb1, hk1⟩
         have z1 := hb1.size)
      | (go_at_call_of 144 (Value.string (ByteArray.mk #[40]))
         (refine (write_stringF w0.heap.size b _ ⟨#[40]⟩ _ hw1 (by have := HL.out; rw [List.length_append, Lib.strCells_length]; simp only [List.length_cons, List.length_nil] at this; have e : (⟨#[40]⟩ : ByteArray).size = 1 := rfl; omega) (by have := HBs.out; omega)).mono ?_); rintro e w2 ⟨rfl, hw2, hb2, hk2⟩
         have z2 := hb2.size)
      | (go_at_call 184
         (refine (HWo.out _ _ ((HB0.out.trans hb1).trans hb2) hw2 (by have := HL.out; simp only [List.length_append, Lib.strCells_length, List.length_cons, List.length_nil] at this ⊢; have e : (⟨#[40]⟩ : ByteArray).size = 1 := rfl; omega)).mono ?_); rintro e w3 ⟨rfl, hw3, hb3, hk3⟩
         have z3 := hb3.size)
      | (go_at_call_of 144 (Value.string (ByteArray.mk #[41]))
         (refine (write_stringF w0.heap.size b _ ⟨#[41]⟩ _ hw3 (by have := HL.out; simp only [List.length_append, Lib.strCells_length, Lib.byteCells_length, List.length_cons, List.length_nil] at this ⊢; have e : (⟨#[40]⟩ : ByteArray).size = 1 := rfl; have e2 : (⟨#[41]⟩ : ByteArray).size = 1 := rfl; omega) (by have := HBs.out; omega)).mono ?_)
         rintro e w4 ⟨rfl, hw4, hb4, hk4⟩)
      | fail)
    go_end0
    refine ⟨rfl, ?_, ((hb1.trans hb2).trans hb3).trans hb4, hk1.trans (hk2.trans (hk3.trans hk4))⟩; have e40 : Lib.strCells ⟨#[40]⟩ = Lib.byteCells [40] := rfl; have e41 : Lib.strCells ⟨#[41]⟩ = Lib.byteCells [41] := rfl; rw [HR.out, byteCells_append, byteCells_append, byteCells_append, ← strCells_eq n, ← e40, ← e41]; simpa only [List.append_assoc] using hw4
theorem calls_all : ∀ m, CallS m
  | 0 => fun _ _ _ _ _ _ _ h => absurd h (Nat.not_lt_zero _)
  | m + 1 => call_step m (calls_all m)
end Go.Proofs.YtheiikkeelbjnajGreat
/- Walks: expressions written: bindOf, prefix, infix. -/
namespace Go.Proofs.YtheiikkeelbjnajGreat
open Go.RowKit

def bindE (k : Int) : Int := if k = 8 then 0 else if k = 7 then 1 else if k = 6 then 2 else 3
def signE (k : Int) (n : ByteArray) : List UInt8 := if k = 5 then [126] else if k = 9 then [33] ++ n.data.toList ++ [32] else [63] ++ n.data.toList ++ [32]
def sign2E (k : Int) : List UInt8 := if k = 6 then [32, 38, 32] else if k = 7 then [32, 124, 32] else [32, 45, 62, 32]
def leftE (k : Int) : Int := if k = 6 then 2 else 1
def rightE (k : Int) : Int := if k = 6 then 3 else if k = 7 then 2 else 0
def leafE (k : Int) (n : ByteArray) (ws : List Wd) : List UInt8 := if k = 1 then wdS (.mk n ws) else if k = 2 then wdsS [32, 61, 32] ws else if k = 3 then [49] else [48]
/-- What is written of an expression where signs must bind so closely. -/
def exP : Int → Ex → List UInt8
  | least, .mk k n ws [] => brk (decide (least ≤ bindE k)) (leafE k n ws)
  | least, .mk k n _ [f] => brk (decide (least ≤ bindE k)) (signE k n ++ exP 3 f)
  | least, .mk k _ _ (f :: g :: _) => brk (decide (least ≤ bindE k)) (exP (leftE k) f ++ sign2E k ++ exP (rightE k) g)
def exB : Ex → List UInt8
  | .mk k n ws [] => leafE k n ws
  | .mk k n _ [f] => signE k n ++ exP 3 f
  | .mk k _ _ (f :: g :: _) => exP (leftE k) f ++ sign2E k ++ exP (rightE k) g
def Ex.kindX : Ex → Int
  | .mk k _ _ _ => k
theorem exP_bare (least : Int) (f : Ex) : exP least f = brk (decide (least ≤ bindE f.kindX)) (exB f) := by
  obtain ⟨k, n, ws, ks⟩ := f
  match ks with
  | [] => rw [exP, exB]; rfl
  | [f] => rw [exP, exB]; rfl
  | f :: g :: _ => rw [exP, exB]; rfl
/-- Expressions whose nodes are as they should be. -/
inductive EFine : Ex → Prop
  | pred (n : ByteArray) (ws : List Wd) (h : isBg n.data.toList = true) : EFine (.mk 1 n ws [])
  | same (ws : List Wd) (h : ws.length = 2) : EFine (.mk 2 ⟨#[]⟩ ws [])
  | leaf (k : Int) (h : k = 3 ∨ k = 4) : EFine (.mk k ⟨#[]⟩ [] [])
  | not (f : Ex) (hf : EFine f) : EFine (.mk 5 ⟨#[]⟩ [] [f])
  | quan (k : Int) (n : ByteArray) (f : Ex) (h : k = 9 ∨ k = 10) (hn : isNm n.data.toList = true) (hf : EFine f) : EFine (.mk k n [] [f])
  | two (k : Int) (f g : Ex) (h : k = 6 ∨ k = 7 ∨ k = 8) (hf : EFine f) (hg : EFine g) : EFine (.mk k ⟨#[]⟩ [] [f, g])
set_option maxHeartbeats 1000000 in
theorem bindE_any (k : Int) (w : World) :
    Calls Tryz.prog 142 #[.int .i64 k] w fun e w' => e = .returned (.int .i64 (bindE k)) ∧ w' = w := by
  go_enter Tryz.func142, Tryz.ntmps142
  go_wp2
  all_goals
    go_ret; refine ⟨ret_int ?_, rfl⟩; simp only [beq_iff_eq, beq_eq_false_iff_ne, ne_eq] at *
    first
      | (subst_vars; decide)
      | (unfold bindE; rw [if_neg (by omega), if_neg (by omega), if_neg (by omega)])
def WriS (m : Nat) : Prop := ∀ (w0 : World) (b : Nat) (bs : List Value) (least : Int) (f : Ex) (v : Value) (w : World), f.size < m → EFine f → ERp w0 f v → Below w0.heap.size w0 w → WRF w0.heap.size b bs w → bs.length + (exP least f).length ≤ 100000 →
  Calls Tryz.prog 93 #[.pointer (some ⟨b, 0, none⟩), v, .int .i64 least] w (WPoF w0.heap.size b bs (exP least f) w)
/-- The kids of an expression, one by one. -/
theorem ERp.kid {w0 : World} {k : Int} {n : ByteArray} {ws : List Wd} {ks : List Ex} {c0 c1 c2 : Value} {sk : Option Addr} {len ck : Nat} (h : ERp w0 (.mk k n ws ks) (.agg #[c0, c1, c2, .slice sk len ck])) (i : Nat) (k2 : Int) (n2 : ByteArray) (ws2 : List Wd) (ks2 : List Ex) (hi : ks[i]? = some (.mk k2 n2 ws2 ks2)) : ∃ b off sw2 cw2 sk2 ck2, sk = some ⟨b, off, none⟩ ∧ ERp w0 (.mk k2 n2 ws2 ks2) (.agg #[.int .i64 k2, .string n2, .slice sw2 ws2.length cw2, .slice sk2 ks2.length ck2]) ∧ ∀ W, Below w0.heap.size w0 W → W.cell? ⟨b, off + i * 4, none⟩ = some (.int .i64 k2) ∧ W.cell? ⟨b, off + i * 4 + 1, none⟩ = some (.string n2) ∧ W.cell? ⟨b, off + i * 4 + 2, none⟩ = some (.slice sw2 ws2.length cw2) ∧ W.cell? ⟨b, off + i * 4 + 3, none⟩ = some (.slice sk2 ks2.length ck2) := by
  obtain ⟨sw', cw', sk', ck', e, -, -, -, -, h4⟩ := ERp.def.1 h; simp only [Value.agg.injEq, Array.mk.injEq, List.cons.injEq, Value.slice.injEq, and_true] at e; obtain ⟨-, -, -, rfl, -, -⟩ := e; (obtain ⟨b, off, rfl, hrs⟩ := h4 (fun e => by rw [e] at hi; simp at hi)); obtain ⟨sw2, cw2, sk2, ck2, z0, z1, z2, z3, hr⟩ := hrs.at i k2 n2 ws2 ks2 hi; (exact ⟨b, off, sw2, cw2, sk2, ck2, rfl, hr, fun W hb => ⟨(hb.cell (lt_of_cell z0)).trans z0, (hb.cell (lt_of_cell z1)).trans z1, (hb.cell (lt_of_cell z2)).trans z2, (hb.cell (lt_of_cell z3)).trans z3⟩⟩)
set_option maxRecDepth 10000 in
set_option maxHeartbeats 4000000 in
theorem prefE_step (m : Nat) (ih : WriS m) (w0 : World) (b : Nat) (bs : List Value) (k : Int) (n s : ByteArray) (ws : List Wd) (f : Ex) (sw sk : Option Addr) (cw ck : Nat) (w : World) (hf : f.size < m) (hfine : EFine f) (hrep : ERp w0 (.mk k n ws [f]) (.agg #[.int .i64 k, .string n, .slice sw ws.length cw, .slice sk 1 ck])) (hb0 : Below w0.heap.size w0 w) (hw : WRF w0.heap.size b bs w) (hlen : bs.length + (s.data.toList ++ exP 3 f).length ≤ 100000) :
    Calls Tryz.prog 185 #[.pointer (some ⟨b, 0, none⟩), .string s, .agg #[.int .i64 k, .string n, .slice sw ws.length cw, .slice sk 1 ck]] w (WPoF w0.heap.size b bs (s.data.toList ++ exP 3 f) w) := by
  obtain ⟨k2, n2, ws2, ks2⟩ := f; rw [List.length_append] at hlen; have hsl : s.data.toList.length = s.size := Array.length_toList; (have hsz : bs.length + s.size ≤ 140737488355328 := by omega); (have HL : Hid (bs.length + (s.size + (exP 3 (.mk k2 n2 ws2 ks2)).length) ≤ 100000) := by show _ ≤ _; omega); have HB0 : Hid (Below w0.heap.size w0 w) := hb0; have HBs : Hid (w0.heap.size ≤ w.heap.size) := hb0.size; have hbl := hw.lt; have HBl : Hid (b < w.heap.size) := hbl; obtain ⟨kb, off, sw2, cw2, sk2, ck2, rfl, hrep2, hce⟩ := hrep.kid 0 k2 n2 ws2 ks2 rfl; (have HIh : Hid (∀ W cs, Below w0.heap.size w0 W → WRF w0.heap.size b cs W → cs.length + (exP 3 (.mk k2 n2 ws2 ks2)).length ≤ 100000 → Calls Tryz.prog 93 #[.pointer (some ⟨b, 0, none⟩), .agg #[.int .i64 k2, .string n2, .slice sw2 ws2.length cw2, .slice sk2 ks2.length ck2], .int .i64 3] W (WPoF w0.heap.size b cs (exP 3 (.mk k2 n2 ws2 ks2)) W)) := fun W cs h1 h2 h3 => ih w0 b cs 3 _ _ W hf hfine hrep2 h1 h2 h3); simp only [Nat.zero_mul, Nat.add_zero] at hce; have HCe : Hid (∀ W, Below w0.heap.size w0 W → _) := hce; have HW : Hid (WRF w0.heap.size b bs w) := hw; clear hlen hsl hrep hrep2 hb0 hce hw hbl
  go_enter Tryz.func185, Tryz.ntmps185
  go_wp2_with (first
    | (go_at_call 144
       (refine (write_stringF w0.heap.size b bs s _ (HW.out.alloc _) hsz (by have := HBs.out; simp; omega)).mono ?_); rintro e w1 ⟨rfl, hw1, hb1, hk1⟩; (have q1 := hk1.block _ _ (blk_new _ _) (by have := HBl.out; omega) (fun c fr h => by cases h)); obtain ⟨e0, e1, e2, e3⟩ := blk4L q1; have hb2 : Below w0.heap.size w w1 := ((Below.refl _ w).alloc HBs.out _).trans hb1
       obtain ⟨g0, g1, g2, g3⟩ := HCe.out w1 (HB0.out.trans hb2))
    | (go_at_call 93
       (refine (HIh.out _ _ (HB0.out.trans hb2) hw1 (by have := HL.out; rw [List.length_append, Lib.strCells_length]; omega)).mono ?_)
       rintro e w2 ⟨rfl, hw2, hb3, hk2⟩)
    | fail)
  go_end0
  refine ⟨rfl, ?_, hb2.trans hb3, ((WK.refl b w).alloc _).trans (hk1.trans hk2)⟩; rw [strCells_eq, List.append_assoc, ← byteCells_append] at hw2; exact hw2
set_option maxRecDepth 10000 in
set_option maxHeartbeats 4000000 in
theorem infE_step (m : Nat) (ih : WriS m) (w0 : World) (b : Nat) (bs : List Value) (k lf rt : Int) (n s : ByteArray) (ws : List Wd) (f g : Ex) (sw sk : Option Addr) (cw ck : Nat) (w : World) (hf : f.size < m) (hg : g.size < m) (hfine : EFine f) (gfine : EFine g) (hrep : ERp w0 (.mk k n ws [f, g]) (.agg #[.int .i64 k, .string n, .slice sw ws.length cw, .slice sk 2 ck])) (hb0 : Below w0.heap.size w0 w) (hw : WRF w0.heap.size b bs w) (hlen : bs.length + (exP lf f ++ s.data.toList ++ exP rt g).length ≤ 100000) :
    Calls Tryz.prog 186 #[.pointer (some ⟨b, 0, none⟩), .agg #[.int .i64 k, .string n, .slice sw ws.length cw, .slice sk 2 ck], .int .i64 lf, .string s, .int .i64 rt] w (WPoF w0.heap.size b bs (exP lf f ++ s.data.toList ++ exP rt g) w) := by
  obtain ⟨k2, n2, ws2, ks2⟩ := f; obtain ⟨k3, n3, ws3, ks3⟩ := g; rw [List.length_append, List.length_append] at hlen; have hsl : s.data.toList.length = s.size := Array.length_toList; (have HL : Hid (bs.length + ((exP lf (.mk k2 n2 ws2 ks2)).length + s.size + (exP rt (.mk k3 n3 ws3 ks3)).length) ≤ 100000) := by show _ ≤ _; omega); have HB0 : Hid (Below w0.heap.size w0 w) := hb0; have HBs : Hid (w0.heap.size ≤ w.heap.size) := hb0.size; have hbl := hw.lt; have HBl : Hid (b < w.heap.size) := hbl; have hrep' := hrep; obtain ⟨kb, off, sw2, cw2, sk2, ck2, rfl, hrep2, hce⟩ := hrep.kid 0 k2 n2 ws2 ks2 rfl; obtain ⟨kb', off', sw3, cw3, sk3, ck3, e9, hrep3, hce3⟩ := hrep'.kid 1 k3 n3 ws3 ks3 rfl
  cases e9
  (have HIf : Hid (∀ W cs, Below w0.heap.size w0 W → WRF w0.heap.size b cs W → cs.length + (exP lf (.mk k2 n2 ws2 ks2)).length ≤ 100000 → Calls Tryz.prog 93 #[.pointer (some ⟨b, 0, none⟩), .agg #[.int .i64 k2, .string n2, .slice sw2 ws2.length cw2, .slice sk2 ks2.length ck2], .int .i64 lf] W (WPoF w0.heap.size b cs (exP lf (.mk k2 n2 ws2 ks2)) W)) := fun W cs h1 h2 h3 => ih w0 b cs lf _ _ W hf hfine hrep2 h1 h2 h3); (have HIg : Hid (∀ W cs, Below w0.heap.size w0 W → WRF w0.heap.size b cs W → cs.length + (exP rt (.mk k3 n3 ws3 ks3)).length ≤ 100000 → Calls Tryz.prog 93 #[.pointer (some ⟨b, 0, none⟩), .agg #[.int .i64 k3, .string n3, .slice sw3 ws3.length cw3, .slice sk3 ks3.length ck3], .int .i64 rt] W (WPoF w0.heap.size b cs (exP rt (.mk k3 n3 ws3 ks3)) W)) := fun W cs h1 h2 h3 => ih w0 b cs rt _ _ W hg gfine hrep3 h1 h2 h3); simp only [Nat.zero_mul, Nat.add_zero] at hce; simp only [Nat.one_mul] at hce3; have HC3 : Hid (∀ W, Below w0.heap.size w0 W → _) := hce3; have HW : Hid (WRF w0.heap.size b bs w) := hw; obtain ⟨g0, g1, g2, g3⟩ := hce (w.alloc (.cells #[.int .i64 k, .string n, .slice sw ws.length cw, .slice (some ⟨kb, off, none⟩) 2 ck] 25 (0, 0))) (hb0.trans ((Below.refl _ w).alloc HBs.out _)); clear hlen hsl hrep hrep' hrep2 hrep3 hb0 hce hce3 hw hbl
  go_enter Tryz.func186, Tryz.ntmps186
  go_wp2_with (first
    | (go_at_call_of 93 (Value.agg #[Value.int .i64 k2, Value.string n2, Value.slice sw2 ws2.length cw2, Value.slice sk2 ks2.length ck2])
       (refine (HIf.out _ bs (HB0.out.trans ((Below.refl _ w).alloc HBs.out _)) (HW.out.alloc _) (by have := HL.out; omega)).mono ?_); rintro e w1 ⟨rfl, hw1, hb1, hk1⟩; have z1 := hb1.size; simp at z1
       have q1 := hk1.block _ _ (blk_new _ _) (by have := HBl.out; omega) (fun c fr h => by cases h))
    | (go_at_call 144
       (refine (write_stringF w0.heap.size b _ s _ hw1 (by have := HL.out; rw [List.length_append, Lib.byteCells_length]; omega) (by have := HBs.out; omega)).mono ?_); rintro e w2 ⟨rfl, hw2, hb2, hk2⟩; have z2 := hb2.size; (have q2 := hk2.block _ _ q1 (by have := HBl.out; omega) (fun c fr h => by cases h)); obtain ⟨e0, e1, e2, e3⟩ := blk4L q2
       obtain ⟨r0, r1, r2, r3⟩ := HC3.out w2 (HB0.out.trans ((((Below.refl _ w).alloc HBs.out _).trans hb1).trans hb2)))
    | (go_at_call 93
       (refine (HIg.out _ _ (HB0.out.trans ((((Below.refl _ w).alloc HBs.out _).trans hb1).trans hb2)) hw2 (by have := HL.out; rw [List.length_append, List.length_append, Lib.strCells_length, Lib.byteCells_length]; omega)).mono ?_)
       rintro e w3 ⟨rfl, hw3, hb3, hk3⟩)
    | fail)
  go_end0
  refine ⟨rfl, ?_, (((Below.refl _ w).alloc HBs.out _).trans hb1).trans (hb2.trans hb3), ((WK.refl b w).alloc _).trans (hk1.trans (hk2.trans hk3))⟩; rw [strCells_eq, List.append_assoc, List.append_assoc, ← byteCells_append, ← byteCells_append, ← List.append_assoc (exP lf _)] at hw3; exact hw3
end Go.Proofs.YtheiikkeelbjnajGreat
