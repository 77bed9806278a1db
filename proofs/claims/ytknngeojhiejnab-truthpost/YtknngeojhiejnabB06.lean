/- Texts of one proof, one behind the other: Tr5, Tr6, Tr7, Tr9. -/
import Derived.Test.YtknngeojhiejnabB05
import Derived.Deep.RegionHeld3
/- Walks: column. -/
namespace Go.Proofs.Ytknngeojhiejnab
open Go.RowKit Go.Maps Go.WideMaps

/-- A list of bools in memory. -/
def BL (w : World) (v : Value) (l : List Bool) : Prop := ∃ ad cap, v = .slice ad l.length cap ∧ l.length ≤ cap ∧ cap ≤ maxLen ∧ (l ≠ [] → ∃ g off, ad = some ⟨g, off, none⟩ ∧ ∀ (j : Nat) (b : Bool), l[j]? = some b → w.cell? ⟨g, off + j, none⟩ = some (.bool b))
theorem BL.up {w w' : World} {v : Value} {l : List Bool} (h : BL w v l) (hb : Below w.heap.size w w') : BL w' v l := by
  obtain ⟨ad, cap, h1, h2, h3, h4⟩ := h
  refine ⟨ad, cap, h1, h2, h3, fun hne => ?_⟩
  obtain ⟨g, off, h5, h6⟩ := h4 hne
  exact ⟨g, off, h5, fun j t ht => by
    have := h6 j t ht
    rw [hb.cell (p := ⟨g, off + j, none⟩) (lt_of_cell this)]
    exact this⟩
theorem BL.nil {w : World} : BL w (.slice none 0 0) [] := ⟨none, 0, rfl, by simp, by simp, fun h => absurd rfl h⟩

/-- A formula's column: row by row of names. -/
def colL (f : Fm) (l : List (List UInt8)) : List Bool := (List.range (2 ^ l.length)).map fun r => tv (colP r l) f

theorem infoBool : ∃ i, Try.prog.info? 4 = some i ∧ i.zero = some (.bool false) ∧ i.size = 1 ∧ i.bytes = 1 := by
  obtain ⟨i, hi, h⟩ := Option.map_eq_some_iff.1 (show (Try.prog.info? 4).map (fun i => (i.zero, i.size, i.bytes)) = some (some (.bool false), 1, 1) by kernel_rfl)
  simp only [Prod.mk.injEq] at h
  exact ⟨i, hi, h.1, h.2.1, h.2.2⟩

theorem make_bools (M : Nat) (hM : M ≤ 1000) : ∃ C : Array Value, C.size = M ∧ ∀ w : World, (Instr.makeSlice 31 (.int .i64 (M : Nat)) (.int .i64 (M : Nat))).run Try.prog w = .ok (.slice (some ⟨w.heap.size, 0, none⟩) M M) (w.alloc (.cells C 4 (0, 0))) := by
  obtain ⟨i, hi, hz, hs, hb⟩ := infoBool
  refine ⟨madeCells (Value.bool false).cells (M * 1), by rw [size_madeCells]; omega, fun w => ?_⟩
  have := run_makeSlice (P := Try.prog) w 31 4 i _ Try.underlying31 hi hz .i64 .i64 (M : Int) (M : Int) (by omega) (Int.le_refl _) (by rw [hs]; simp; omega) (by rw [hb]; omega) (by omega)
  rw [hs] at this
  simpa using this

theorem shl_row (N : Nat) (h : N ≤ 6) : wrap64 ((2 : Int) ^ N) = ((2 ^ N : Nat) : Int) ∧ 1 ≤ 2 ^ N ∧ 2 ^ N ≤ 64 := by
  have : N = 0 ∨ N = 1 ∨ N = 2 ∨ N = 3 ∨ N = 4 ∨ N = 5 ∨ N = 6 := by omega
  rcases this with rfl | rfl | rfl | rfl | rfl | rfl | rfl <;> exact ⟨by unfold wrap64; decide, by decide, by decide⟩

theorem blk_sec (w : World) (o o' : Obj) : ((w.alloc o).alloc o').heap[w.heap.size + 1]? = some o' := by
  have := blk_new (w.alloc o) o'
  rwa [show (w.alloc o).heap.size = w.heap.size + 1 by simp] at this

/-- One cell more. -/
theorem set_cell {w : World} {g j : Nat} {C : Array Value} {T : TypeId} (h : w.heap[g]? = some (.cells C T (0, 0))) (u : Value) : (w.setCell ⟨g, j, none⟩ u).heap[g]? = some (.cells (C.setIfInBounds j u) T (0, 0)) := by
  simp [World.setCell, Array.getElem?_modify, h]

set_option maxHeartbeats 4000000 in
set_option maxRecDepth 20000 in
theorem column_any (f : Fm) (hf : Fine f) (hp : Plain f) (l : List (List UInt8)) (hl : l.length ≤ 6) (hnd : l.Nodup) (hsm : ∀ t ∈ l, t.length ≤ 8) (v u : Value) (w : World) (hv : Rep w (fun _ => True) f v) (hu : SL w u l) :
    Calls Try.prog 43 #[v, u] w fun e w' => ∃ x, e = .returned x ∧ BL w' x (colL f l) ∧ Below w.heap.size w w' := by
  have hpl := fun v w h => placesOf_any l (by omega) hsm v w h
  have htr := fun rb pb r (hr : r ≤ 100000) v w h o => isTrue_any (asksC rb pb r l hnd (by omega) hr) f v w hf hp h o
  obtain ⟨k, n, ks⟩ := f
  obtain ⟨sl, cap, rfl⟩ := slice_shape hv
  have HPl : Hid (∀ v w, SL w v l → Calls Try.prog 50 _ w _) := hpl
  have HTr : Hid (∀ rb pb r, r ≤ 100000 → ∀ v w, Rep w (fun _ => True) (.mk k n ks) v → OkC rb pb r l w → Calls Try.prog 52 _ w _) := htr
  have HU : Hid (SL w u l) := hu
  obtain ⟨ad, cp, rfl, -⟩ := hu
  have hlI : (l.length : Int) ≤ 6 := by omega
  obtain ⟨hw, hM1, hM2⟩ := shl_row l.length hl
  have HC : Hid (colL (.mk k n ks) l = (List.range (2 ^ l.length)).map fun r => tv (colP r l) (.mk k n ks)) := rfl
  generalize colL (.mk k n ks) l = CL at *
  generalize 2 ^ l.length = M at *
  obtain ⟨C, hC, hmk⟩ := make_bools M (by omega)
  have hMI : (M : Int) ≤ 64 := by omega
  clear hpl htr hsm hl
  go_enter Try.func43, Try.ntmps43
  go_wp2_with (first
    | (go_at_call 50
       refine (HPl.out _ _ (HU.out.up (below_more (Below.refl _ w) _))).mono ?_
       rintro e w1 ⟨rfl, hpm, hb1⟩
       have HPM : Hid (PM w1 _ l) := hpm
       have q0 := below_keep hb1 (blk_new w _)
       have B1 := below_join (below_more (Below.refl _ w) _) hb1
       clear hpm)
    | fail)
  have HPM' : Hid (PM w1 (w.heap.size + 1) l) := by
    have := HPM.out
    rwa [show (w.alloc (.cells #[.int .i64 k, .string n, .slice sl ks.length cap] 37 (0, 0))).heap.size = w.heap.size + 1 by simp] at this
  clear HPM HPl HU hw hmk
  have z0 := lt_of_block q0
  have hmf : ∀ (fn : Fn) (first cap : Array Value) (w : World), (Instr.makeFunc fn first cap).run Try.prog w = .ok (.func fn first cap) w := fun _ _ _ _ => rfl
  go_loopg [16] M (fun g c wr => ∃ r D, r ≤ M ∧ g = M - r ∧ c = .int .i64 (r : Nat) ∧ Below w1.heap.size w1 wr ∧ wr.heap[w1.heap.size]? = some (.cells #[.map (some (w.heap.size + 1))] 85 (0, 0)) ∧ wr.heap[w1.heap.size + 1]? = some (.cells D 4 (0, 0)) ∧ D.size = M ∧ Hid (∀ j, j < r → D[j]? = some (.bool (tv (colP j l) (.mk k n ks)))))
  case atStart =>
    exact ⟨0, C, by omega, by omega, rfl, below_more (below_more (Below.refl _ w1) _) _, alloc_keep (blk_new _ _) _, blk_sec _ _ _, hC, fun j h => absurd h (Nat.not_lt_zero _)⟩
  case round =>
    obtain ⟨r, D, hr, hg, rfl, hbr, q1, q2, hD, HD⟩ := hrel
    have HG : Hid (gk = M - r) := hg
    clear hg
    have q0' := below_keep hbr q0
    obtain ⟨a0, a1, a2, -⟩ := blk3 q0'
    have zr := lt_of_block q2
    have zr1 := lt_of_block q1
    have zr0 := lt_of_block q0'
    by_cases hlt : r < M
    · have hltI : (r : Int) < (M : Int) := by omega
      have e0 := blk_cell q2 r
      have e1 := blk_fz q2 r
      rw [Array.getElem?_eq_getElem (by omega)] at e0
      generalize D[r] = old at e0
      have q3 := blk_new wr (.cells #[.int .i64 (r : Nat)] 3 (0, 0))
      have HCa := HTr.out wr.heap.size w1.heap.size r (by omega) (.agg #[.int .i64 k, .string n, .slice sl ks.length cap]) ((wr.alloc (.cells #[.int .i64 (r : Nat)] 3 (0, 0))).drew) (hv.up ((below_more (below_join B1 hbr) _).drew)) ⟨w.heap.size + 1, q3, alloc_keep q1 _, (HPM'.out.up hbr).up ((Below.refl _ wr).alloc (Nat.le_refl _) _).drew⟩
      have HX : Hid (Calls Try.prog 52 _ _ _) := HCa
      clear HCa
      have HNx : Hid (∀ x : Bool, x = tv (colP r l) (.mk k n ks) → ∀ j, j < r + 1 → (D.setIfInBounds r (.bool x))[j]? = some (.bool (tv (colP j l) (.mk k n ks)))) := fun x hx j hj => by
        by_cases e : j = r
        · subst e; rw [hx, Array.getElem?_setIfInBounds_self_of_lt (by omega)]
        · rw [Array.getElem?_setIfInBounds_ne (by omega)]
          exact HD.out j (by omega)
      generalize tv (colP r l) (.mk k n ks) = bb at HX HNx
      obtain ⟨b0, b1⟩ := blk1 q3
      have n1 : ¬ w1.heap.size + 1 = w.heap.size := by omega
      have n2 : ¬ w.heap.size = w1.heap.size + 1 := by omega
      have n3 : ¬ w1.heap.size + 1 = wr.heap.size := by omega
      have n4 : ¬ wr.heap.size = w1.heap.size + 1 := by omega
      go_wp2_with fail
      go_region_held3 (fun w' => w'.cell? ⟨w.heap.size, 0, none⟩ = some (.int .i64 k) ∧ w'.cell? ⟨w.heap.size, 1, none⟩ = some (.string n) ∧ w'.cell? ⟨w.heap.size, 2, none⟩ = some (.slice sl ks.length cap) ∧ w'.cell? ⟨wr.heap.size, 0, none⟩ = some (.int .i64 (r : Nat))) (go_keep)
        (first
         | (go_at_call 52
            refine HX.out.mono ?_
            rintro e w2 ⟨rfl, hb2⟩
            have hb2' : Below (wr.alloc (.cells #[.int .i64 (r : Nat)] 3 (0, 0))).heap.size (wr.alloc (.cells #[.int .i64 (r : Nat)] 3 (0, 0))) w2 := (Below.refl _ _).drew.trans hb2
            have r2 := below_keep hb2' (alloc_keep q2 _)
            have r1 := below_keep hb2' (alloc_keep q1 _)
            have r0 := below_keep hb2' (alloc_keep q0' _)
            have r3 := below_keep hb2' q3
            have BW := below_join (below_more hbr _) hb2'
            clear e0 e1
            have e0 := blk_cell r2 r
            have e1 := blk_fz r2 r
            rw [Array.getElem?_eq_getElem (by omega)] at e0
            generalize D[r] = old at e0
            obtain ⟨f0, f1, f2, -⟩ := blk3 r0
            obtain ⟨f3, -⟩ := blk1 r3
            clear hb2)
         | fail)
      all_goals
        go_wp2_with fail
        have t1 : (w2.setCell ⟨w1.heap.size + 1, r, none⟩ (.bool bb)).heap[w1.heap.size]? = _ := (Below.heap_setCell _ _ _ _ (by simp)).trans r1
        have t2 := set_cell (j := r) r2 (.bool bb)
        have BF : Below w1.heap.size w1 (w2.setCell ⟨w1.heap.size + 1, r, none⟩ (.bool bb)) := BW.setCell (by simp) _
        go_roundg (M - (r + 1))
        case measure => have := HG.out; omega
        case rel => exact ⟨r + 1, D.setIfInBounds r (.bool bb), by omega, rfl, by go_num, BF, t1, t2, by simp [hD], HNx.out bb rfl⟩
    · have HE : Hid (∀ j, j < M → D[j]? = some (.bool (tv (colP j l) (.mk k n ks)))) := fun j hj => HD.out j (by omega)
      have hge : ¬ (r : Int) < (M : Int) := by omega
      clear HD
      go_wp2_with fail
      go_ret
      refine ⟨_, rfl, ?_, below_join B1 hbr⟩
      have hlen : CL.length = M := by rw [HC.out]; simp
      refine ⟨some ⟨w1.heap.size + 1, 0, none⟩, M, by rw [hlen]; rfl, by omega, by unfold maxLen; omega, fun _ => ⟨w1.heap.size + 1, 0, rfl, fun j b hb => ?_⟩⟩
      have hj : j < M := by
        rcases Nat.lt_or_ge j M with h | h
        · exact h
        · rw [List.getElem?_eq_none (by omega)] at hb; cases hb
      rw [HC.out, List.getElem?_map, List.getElem?_range hj] at hb
      rw [Nat.zero_add, blk_cell q2, HE.out j hj]
      simpa using hb
end Go.Proofs.Ytknngeojhiejnab
/- Walks: the first place of a bool; the names that are true in a row. -/
namespace Go.Proofs.Ytknngeojhiejnab
open Go.RowKit Go.Sort

/-- Where a bool stands first, or -1. -/
def fIdx (l : List Bool) (b : Bool) : Int := if b ∈ l then (l.idxOf b : Nat) else -1

set_option maxHeartbeats 1000000 in
theorem index_bool (l : List Bool) (hl : l.length ≤ 1000) (b : Bool) (v : Value) (w : World) (h : BL w v l) :
    Calls Try.prog 46 #[v, .bool b] w fun e w' => e = .returned (.int .i64 (fIdx l b)) ∧ w' = w := by
  obtain ⟨ad, cap, rfl, h1, h2, h3⟩ := h
  have hlI : (l.length : Int) ≤ 1000 := by omega
  have H3 : Hid (l ≠ [] → ∃ g off, ad = some ⟨g, off, none⟩ ∧ ∀ (j : Nat) (b : Bool), l[j]? = some b → w.cell? ⟨g, off + j, none⟩ = some (.bool b)) := h3
  clear h3
  go_enter Try.func46, Try.ntmps46
  go_wp2_with fail
  go_loopg [8] l.length (fun g c wr => ∃ i, i ≤ l.length ∧ g = l.length - i ∧ c = .int .i64 (i : Nat) ∧ wr = w ∧ Hid (b ∉ l.take i))
  case atStart => exact ⟨0, by omega, by omega, rfl, rfl, by show _ ∉ _; simp⟩
  case round =>
    obtain ⟨i, hi, hg, rfl, rfl, HN⟩ := hrel
    have HG : Hid (gk = l.length - i) := hg
    clear hg
    by_cases hlt : i < l.length
    · obtain ⟨x, hx⟩ : ∃ x, l[i]? = some x := ⟨_, List.getElem?_eq_getElem hlt⟩
      obtain ⟨g, off, rfl, hc⟩ := H3.out (fun e => by rw [e] at hlt; simp at hlt)
      have g0 := hc i x hx
      have hltI : (i : Int) < (l.length : Int) := by omega
      have hlc : (i : Int) < (cap : Int) := by omega
      have HX : Hid (l[i]? = some x) := hx
      clear hc hx H3
      by_cases hxt : b = x
      · subst hxt
        have HD : Hid (fIdx l b = ((i : Nat) : Int)) := by
          show _ = _
          have hm : b ∈ l := List.mem_of_getElem? HX.out
          have hdec : l = l.take i ++ b :: l.drop (i + 1) := by
            have := HX.out
            rw [List.getElem?_eq_getElem hlt] at this
            have e := Option.some.inj this
            rw [← e, ← List.drop_eq_getElem_cons hlt, List.take_append_drop]
          have hix : l.idxOf b = i := by
            rw [hdec, List.idxOf_append, if_neg HN.out, List.idxOf_cons_self, List.length_take]
            omega
          unfold fIdx
          rw [if_pos hm, hix]
        go_wp2_with fail
        go_ret
        exact ⟨by rw [HD.out]; rfl, rfl⟩
      · have hne : (b == x) = false := by simpa using hxt
        have HNN : Hid (b ∉ l.take (i + 1)) := by
          show _ ∉ _
          rw [List.take_add_one, HX.out]
          intro hm
          rcases List.mem_append.1 hm with h | h
          · exact HN.out h
          · simp at h; exact hxt h
        clear HX
        go_wp2_with fail
        go_roundg (l.length - (i + 1))
        case measure => have := HG.out; omega
        case rel => exact ⟨i + 1, by omega, rfl, by go_num, rfl, HNN⟩
    · have HD : Hid (fIdx l b = -1) := by
        show _ = _
        have := HN.out
        rw [List.take_of_length_le (by omega)] at this
        exact if_neg this
      have hge : ¬ (i : Int) < (l.length : Int) := by omega
      clear H3 HN
      go_wp2_with fail
      go_ret
      exact ⟨by rw [HD.out]; rfl, rfl⟩

/-- The names that are true in a row. -/
def rowN (r : Nat) : List (List UInt8) → Nat → List (List UInt8)
  | [], _ => []
  | t :: l, i => if r.testBit i then t :: rowN r l (i + 1) else rowN r l (i + 1)
theorem rowN_snoc (r : Nat) : ∀ (l : List (List UInt8)) (i : Nat) (t : List UInt8), rowN r (l ++ [t]) i = rowN r l i ++ if r.testBit (i + l.length) then [t] else []
  | [], i, t => by simp [rowN]
  | s :: l, i, t => by
    rw [List.cons_append, rowN, rowN, rowN_snoc r l (i + 1) t, List.length_cons, show i + 1 + l.length = i + (l.length + 1) by omega]
    split <;> simp
theorem rowN_len (r : Nat) : ∀ (l : List (List UInt8)) (i : Nat), (rowN r l i).length ≤ l.length
  | [], i => by simp [rowN]
  | s :: l, i => by
    rw [rowN]
    have := rowN_len r l (i + 1)
    split <;> simp <;> omega

theorem below_grown {B : Nat} {W w w5 : World} {ad : Option Addr} {cy n : Nat} {o : Obj} {xs : List Value} {T : TypeId} (hB : Below B W w) (hBs : B ≤ w.heap.size) (hk : w.ownsRow B T 1 (.slice ad n cy) n xs) (hg5 : (w.alloc o).grownBy w5 (Value.slice ad n cy).ownBlock) : Below B W w5 := by
  have h1 : Below B W (w.alloc o) := hB.alloc hBs o
  exact h1.trans ⟨hg5.os, hg5.tape, hg5.output, hg5.size, fun j hj => hg5.block j (by simp; omega) (fun e => by have := (World.ownsRow.lt hk j e.symm).1; omega)⟩

set_option maxHeartbeats 2000000 in
theorem trueIn_any (r : Nat) (hr : r ≤ 100000) (l : List (List UInt8)) (hl : l.length ≤ 1000) (u : Value) (w : World) (hu : SL w u l) :
    Calls Try.prog 47 #[.int .i64 (r : Nat), u] w fun e w' => ∃ x, e = .returned x ∧ TL w' x (rowN r l 0) ∧ Below w.heap.size w w' := by
  obtain ⟨ad, cap, rfl, h1, h2, h3⟩ := hu
  have hlI : (l.length : Int) ≤ 1000 := by omega
  have H3 : Hid (l ≠ [] → ∃ g off, ad = some ⟨g, off, none⟩ ∧ ∀ (j : Nat) (t : List UInt8), l[j]? = some t → w.cell? ⟨g, off + j, none⟩ = some (.string ⟨t.toArray⟩)) := h3
  obtain ⟨i0, hi, hz0, hz1, hz2⟩ := infoText
  clear h3
  go_enter Try.func47, Try.ntmps47
  go_wp2_with fail
  go_loopg [10, 5] l.length (fun g c o wr => ∃ i ad cy, i ≤ l.length ∧ g = l.length - i ∧ c = .int .i64 (i : Nat) ∧ o = .slice ad (rowN r (l.take i) 0).length cy ∧ Below w.heap.size w wr ∧ Hid (KS w.heap.size wr ad cy (rowN r (l.take i) 0)))
  case atStart => exact ⟨0, none, 0, by omega, by omega, rfl, rfl, Below.refl _ _, KS.nil⟩
  case round =>
    obtain ⟨i, ad', cy, hile, hg, rfl, rfl, hbr, HK⟩ := hrel
    have HG : Hid (gk = l.length - i) := hg
    clear hg
    by_cases hlt : i < l.length
    · obtain ⟨t, ht⟩ : ∃ x, l[i]? = some x := ⟨_, List.getElem?_eq_getElem hlt⟩
      obtain ⟨g, off, rfl, hc⟩ := H3.out (fun e => by rw [e] at hlt; simp at hlt)
      have g0 := (hbr.cell (p := ⟨g, off + i, none⟩) (lt_of_cell (hc i t ht))).trans (hc i t ht)
      have hltI : (i : Int) < (l.length : Int) := by omega
      have hlc : (i : Int) < (cap : Int) := by omega
      have hti : (l.take i).length = i := by rw [List.length_take]; omega
      have hT : rowN r (l.take (i + 1)) 0 = rowN r (l.take i) 0 ++ if r.testBit i then [t] else [] := by
        rw [List.take_add_one, ht]
        show rowN r (_ ++ [t]) 0 = _
        rw [rowN_snoc, hti, Nat.zero_add]
      have hRl := rowN_len r (l.take i) 0
      have hdi := digit_any r i hr (by omega)
      generalize hR : rowN r (l.take i) 0 = R at *
      rw [hti] at hRl
      have HDi : Hid (∀ w, Calls Try.prog 70 _ w _) := hdi
      clear hc ht H3 hdi hR
      rcases hb : r.testBit i with _ | _
      · rw [hb] at hT HDi
        have HT : Hid (rowN r (l.take (i + 1)) 0 = R) := by
          show _ = _
          rw [hT]; simp
        clear hT hb
        go_wp2_with (first
          | (go_at_call 70
             refine (HDi.out _).mono ?_
             rintro e w1 ⟨rfl, rfl⟩)
          | fail)
        go_roundg (l.length - (i + 1))
        case measure => have := HG.out; omega
        case rel => exact ⟨i + 1, ad', cy, by omega, rfl, by go_num, by rw [HT.out], hbr, by show KS _ _ _ _ _; rw [HT.out]; exact HK.out⟩
      · rw [hb] at hT HDi
        have HT : Hid (rowN r (l.take (i + 1)) 0 = R ++ [t]) := by
          show _ = _
          rw [hT]; simp
        clear hT hb
        go_wp2_with (first
          | (go_at_call 70
             refine (HDi.out _).mono ?_
             rintro e w1 ⟨rfl, hw1⟩
             have hw2 := hw1.symm
             subst hw2)
          | (at_builtin
             refine wpList_append_lies _ rfl _ _ 38 rfl w.heap.size 9 i0 (.string ⟨#[]⟩) 1 16 Try.underlying38 hi hz0 hz1 hz2 rfl (by decide) _ _ _ rfl (owns_up HK.out ((Below.refl _ wr).alloc (Nat.le_refl _) (.cells #[.string ⟨t.toArray⟩] 9 (0, 0)))) ⟨wr.heap.size, 0, none⟩ 1 1 [.string ⟨t.toArray⟩] rfl rfl ?_ ?_ (by omega) (by unfold maxLen; omega) (by omega) (by have := hbr.size; simp; omega) _ rfl ?_
             · intro j u hu
               rw [add_none, Nat.zero_add, blk_cell (blk_new wr _)]
               simpa using hu
             · intro u hu
               simp at hu
               rcases hu with rfl; rfl
             intro g5 cp5 w5 hown5 hgrow5 hat5 hlt5
             have BF := below_grown hbr hbr.size HK.out hgrow5
             have HKN : Hid (KS w.heap.size w5 (some ⟨g5, 0, none⟩) cp5 (R ++ [t])) := by
               show KS _ _ _ _ _
               unfold KS
               rw [List.map_append, List.length_append]
               exact hown5
             clear hown5 hgrow5 hat5)
          | fail)
        go_roundg (l.length - (i + 1))
        case measure => have := HG.out; omega
        case rel => exact ⟨i + 1, some ⟨g5, 0, none⟩, cp5, by omega, rfl, by go_num, by rw [HT.out, List.length_append]; rfl, BF, by show KS _ _ _ _ _; rw [HT.out]; exact HKN.out⟩
    · have HKE : Hid (KS w.heap.size wr ad' cy (rowN r l 0)) := by
        have := HK.out
        rw [List.take_of_length_le (by omega)] at this
        exact this
      have hTE : rowN r (l.take i) 0 = rowN r l 0 := by rw [List.take_of_length_le (by omega)]
      have hge : ¬ (i : Int) < (l.length : Int) := by omega
      clear HK H3
      rw [hTE]
      clear hTE
      go_wp2_with fail
      go_ret
      exact ⟨_, rfl, HKE.out.list, hbr⟩
end Go.Proofs.Ytknngeojhiejnab
/- Walks: namesOfPlain, Rows. -/
namespace Go.Proofs.Ytknngeojhiejnab
open Go.RowKit Go.Sort

theorem code_split (f : Fm) : f.code.1 = 0 → ∃ s, chk f 0 = .ok s := fun h => code_chk (code_zero h)
theorem pcode_ok {f : Fm} (h : f.pcode.1 = 0) : (∃ s, chk f 0 = .ok s) ∧ Plain f ∧ f.pcode = (0, 0) := by
  unfold Fm.pcode at *
  by_cases hc : f.code.1 = 0
  · rw [if_pos hc] at h ⊢
    rcases hm : (modal f 0).2 with _ | _
    · refine ⟨code_split f hc, ?_, by simp⟩
      rw [modal_idx] at hm
      exact hm
    · rw [hm] at h; simp at h
  · rw [if_neg hc] at h
    exact absurd h hc
theorem pcode_of {f : Fm} {s : Nat} (h : chk f 0 = .ok s) (hp : Plain f) : f.pcode = (0, 0) := by
  have hc : f.code = (0, 0) := by simp only [Fm.code, h]
  unfold Fm.pcode
  rw [hc, if_pos rfl, modal_idx]
  have : (mIdx (allN f) 0).2 = false := hp
  rw [this]
  rfl

mutual
theorem fine_nodes : ∀ (f : Fm), Fine f → ∀ g ∈ allN f, Fine g
  | .mk k n ks, h, g, hg => by
    rw [allN] at hg
    rcases List.mem_cons.1 hg with rfl | hg
    · exact h
    · exact fine_nodess ks (fun x hx => by
        obtain ⟨i, hi, rfl⟩ := List.getElem_of_mem hx
        exact h.kid i _ (List.getElem?_eq_getElem hi)) g hg
theorem fine_nodess : ∀ (fs : List Fm), (∀ x ∈ fs, Fine x) → ∀ g ∈ allNs fs, Fine g
  | [], _, g, hg => by rw [allNs] at hg; cases hg
  | f :: fs, h, g, hg => by
    rw [allNs] at hg
    rcases List.mem_append.1 hg with hg | hg
    · exact fine_nodes f (h f (List.mem_cons_self ..)) g hg
    · exact fine_nodess fs (fun x hx => h x (List.mem_cons_of_mem _ hx)) g hg
end
theorem nmsOf_mem : ∀ (l : List Fm) (t : ByteArray), t ∈ nmsOf l ↔ ∃ ks, Fm.mk 1 t ks ∈ l
  | [], t => by simp [nmsOf]
  | .mk k n ks :: l, t => by
    rw [nmsOf]
    split
    · rename_i hk
      subst hk
      rw [List.mem_cons, nmsOf_mem l t]
      constructor
      · rintro (rfl | ⟨x, hx⟩)
        · exact ⟨ks, List.mem_cons_self ..⟩
        · exact ⟨x, List.mem_cons_of_mem _ hx⟩
      · rintro ⟨x, hx⟩
        rcases List.mem_cons.1 hx with h | h
        · injection h with _ h _; exact Or.inl h
        · exact Or.inr ⟨x, h⟩
    · rename_i hk
      rw [nmsOf_mem l t]
      constructor
      · rintro ⟨x, hx⟩; exact ⟨x, List.mem_cons_of_mem _ hx⟩
      · rintro ⟨x, hx⟩
        rcases List.mem_cons.1 hx with h | h
        · injection h with h _ _; exact absurd h.symm hk
        · exact ⟨x, h⟩
theorem nmsU_nm {f : Fm} (hf : Fine f) (t : List UInt8) (ht : t ∈ nmsU f) : isNm t = true := by
  rw [nmsU_mem] at ht
  unfold nmsT at ht
  obtain ⟨b, hb, rfl⟩ := List.mem_map.1 ht
  obtain ⟨ks, hk⟩ := (nmsOf_mem _ _).1 hb
  have := fine_nodes f hf _ hk
  rcases this.forms with ⟨m, e, hn⟩ | e | e | ⟨c, g, hk, e, hg⟩ | ⟨c, g, g', hk, e, hg, hg'⟩
  · cases e; exact hn
  · cases e
  · cases e
  · injection e with e _ _; subst e; rcases hk with h | h | h <;> cases h
  · injection e with e _ _; subst e; rcases hk with h | h | h <;> cases h
theorem nmsU_small {f : Fm} (hf : Fine f) (t : List UInt8) (ht : t ∈ nmsU f) : t.length ≤ 8 := by
  have := isNm_bd (nmsU_nm hf t ht)
  omega
theorem nmsU_nodup (f : Fm) : (nmsU f).Nodup := (nmsU_rising f).imp fun h e => by subst e; exact lt_irr _ h
theorem TL.sl {w : World} {v : Value} {l : List (List UInt8)} (h : TL w v l) : SL w v l := by
  obtain ⟨ad, cap, h1, h2, h3, h4⟩ := h
  refine ⟨ad, cap, h1, h2, h3, fun hne => ?_⟩
  obtain ⟨g, h5, h6⟩ := h4 hne
  exact ⟨g, 0, h5, fun j t ht => by rw [Nat.zero_add]; exact h6 j t ht⟩

theorem int2_no {w : World} {b : Nat} {c0 c1 : Int} {T : TypeId} (hb : w.heap[b]? = some (.cells #[.int .i64 c0, .int .i64 c1] T (0, 0))) {g j : Nat} {u : Value} (h : w.cell? ⟨g, j, none⟩ = some u) (hu : ∀ c, u ≠ .int .i64 c) : g ≠ b := by
  rintro rfl
  rw [blk_cell hb] at h
  rcases j with _ | _ | j
  · simp at h; exact hu _ h.symm
  · simp at h; exact hu _ h.symm
  · simp at h
theorem TL.set2 {w : World} {v : Value} {l : List (List UInt8)} {b : Nat} {c0 c1 : Int} {T : TypeId} (h : TL w v l) (hb : w.heap[b]? = some (.cells #[.int .i64 c0, .int .i64 c1] T (0, 0))) (u u' : Value) : TL ((w.setCell ⟨b, 0, none⟩ u).setCell ⟨b, 1, none⟩ u') v l := by
  obtain ⟨ad, cap, h1, h2, h3, h4⟩ := h
  refine ⟨ad, cap, h1, h2, h3, fun hne => ?_⟩
  obtain ⟨g, h5, h6⟩ := h4 hne
  refine ⟨g, h5, fun j t ht => ?_⟩
  have hg := int2_no hb (h6 j t ht) (fun c => by simp)
  rw [World.cell?_setCell_far _ _ _ _ (by simpa using hg.symm), World.cell?_setCell_far _ _ _ _ (by simpa using hg.symm)]
  exact h6 j t ht
theorem BL.set2 {w : World} {v : Value} {l : List Bool} {b : Nat} {c0 c1 : Int} {T : TypeId} (h : BL w v l) (hb : w.heap[b]? = some (.cells #[.int .i64 c0, .int .i64 c1] T (0, 0))) (u u' : Value) : BL ((w.setCell ⟨b, 0, none⟩ u).setCell ⟨b, 1, none⟩ u') v l := by
  obtain ⟨ad, cap, h1, h2, h3, h4⟩ := h
  refine ⟨ad, cap, h1, h2, h3, fun hne => ?_⟩
  obtain ⟨g, off, h5, h6⟩ := h4 hne
  refine ⟨g, off, h5, fun j t ht => ?_⟩
  have hg := int2_no hb (h6 j t ht) (fun c => by simp)
  rw [World.cell?_setCell_far _ _ _ _ (by simpa using hg.symm), World.cell?_setCell_far _ _ _ _ (by simpa using hg.symm)]
  exact h6 j t ht

set_option maxHeartbeats 2000000 in
theorem np_good (f : Fm) (v : Value) (w : World) (hrep : Rep w (fun _ => True) f v) (hcf : f.pcode = (0, 0)) :
    Calls Try.prog 45 #[v] w fun e w' => ((6 < (nmsU f).length ∧ e = .returned (.tuple #[.slice none 0 0, .agg #[.int .i64 2, .int .i64 0]])) ∨ ((nmsU f).length ≤ 6 ∧ ∃ x, e = .returned (.tuple #[x, .agg #[.int .i64 0, .int .i64 0]]) ∧ TL w' x (nmsU f))) ∧ Below w.heap.size w w' := by
  have hck := fun v (w : World) h => plainFault_any f v w h
  obtain ⟨⟨s, hs⟩, -, -⟩ := pcode_ok (f := f) (by rw [hcf])
  rw [hcf] at hck
  have hnm := fun v (w : World) h => names_ok f v w h s hs
  have hnl : (nmsU f).length ≤ 200 := by
    have h1 : (nmsU f).length ≤ (nmsT f).length := by
      unfold nmsU
      have := compact_len (srt (nmsT f))
      rwa [List.length_mergeSort] at this
    unfold nmsT at h1
    have := nmsOf_len (allN f)
    have h2 := chk_size hs
    rw [allN_len] at this
    rw [List.length_map] at h1; omega
  generalize nmsU f = U at *
  obtain ⟨k, n, ks⟩ := f
  obtain ⟨sl, cap, rfl⟩ := slice_shape hrep
  have HC : Hid (∀ v w, _ → Calls Try.prog 40 #[v] w _) := hck
  have HN : Hid (∀ v w, _ → Calls Try.prog 66 #[v] w _) := hnm
  have hlI : (U.length : Int) ≤ 200 := by omega
  clear hck hcf hnm hs
  go_enter Try.func45, Try.ntmps45
  by_cases h6 : 6 < U.length
  · have h6I : (6 : Int) < (U.length : Int) := by omega
    go_wp2_with (first
      | (go_at_call 40
         refine (HC.out _ _ ((hrep.more _).more _)).mono ?_
         rintro e w1 ⟨rfl, hb1⟩
         have z1 := hb1.size
         simp at z1
         have q0 := below_keep hb1 (alloc_keep (blk_new w _) _)
         have q1 := below_keep hb1 (blk_new (w.alloc _) _)
         rw [show (w.alloc _).heap.size = w.heap.size + 1 by simp] at q1
         have B1 := below_join (below_more (below_more (Below.refl _ w) _) _) hb1
         obtain ⟨a0, a1, a2, -⟩ := blk3 q0
         have y0 : w.heap.size < w1.heap.size := lt_of_block q0
         have y1 : w.heap.size + 1 < w1.heap.size := lt_of_block q1)
      | (go_at_call 66
         refine (HN.out _ _ ((hrep.up B1).more _)).mono ?_
         rintro e w2 ⟨x, rfl, htl, hb2⟩
         have HTL : Hid (TL w2 x U) := htl
         obtain ⟨adU, cpU, rfl, -⟩ := htl
         have r1 := below_keep hb2 (alloc_keep q1 _)
         have B2 := below_join (below_more B1 _) hb2
         have l1 := lt_of_block r1
         have d2 : ¬ w2.heap.size = w.heap.size + 1 := by omega
         have d1 : ¬ w.heap.size + 1 = w2.heap.size := by omega
         obtain ⟨k1, k2, k3, k4⟩ := blk2 r1)
      | fail)
    have f2 := set2 r1 (.int .i64 2) (.int .i64 0)
    have b2 := (B2.setCell (p := ⟨w.heap.size + 1, 0, none⟩) (by simp) (.int .i64 2)).setCell (p := ⟨w.heap.size + 1, 1, none⟩) (by simp) (.int .i64 0)
    have hsz : ((w2.setCell ⟨w.heap.size + 1, 0, none⟩ (.int .i64 2)).setCell ⟨w.heap.size + 1, 1, none⟩ (.int .i64 0)).heap.size = w2.heap.size := by simp [World.setCell]
    generalize World.setCell _ _ _ = F at f2 b2 hsz ⊢
    clear k1 k2 k3 k4
    obtain ⟨k1, k2, -⟩ := blk2 f2
    have d4 : w.heap.size + 1 < F.heap.size := by omega
    exact bodyPost_ret (v := .tuple #[.slice none 0 0, .agg #[.int .i64 2, .int .i64 0]]) (by simp [results, Try.results45, go_sem, k1, k2, d4]) rfl ⟨Or.inl ⟨h6, rfl⟩, b2.alloc (by omega) _⟩
  · have h6I : ¬ (6 : Int) < (U.length : Int) := by omega
    go_wp2_with (first
      | (go_at_call 40
         refine (HC.out _ _ ((hrep.more _).more _)).mono ?_
         rintro e w1 ⟨rfl, hb1⟩
         have z1 := hb1.size
         simp at z1
         have q0 := below_keep hb1 (alloc_keep (blk_new w _) _)
         have q1 := below_keep hb1 (blk_new (w.alloc _) _)
         rw [show (w.alloc _).heap.size = w.heap.size + 1 by simp] at q1
         have B1 := below_join (below_more (below_more (Below.refl _ w) _) _) hb1
         obtain ⟨a0, a1, a2, -⟩ := blk3 q0
         have y0 : w.heap.size < w1.heap.size := lt_of_block q0
         have y1 : w.heap.size + 1 < w1.heap.size := lt_of_block q1)
      | (go_at_call 66
         refine (HN.out _ _ ((hrep.up B1).more _)).mono ?_
         rintro e w2 ⟨x, rfl, htl, hb2⟩
         have HTL : Hid (TL w2 x U) := htl
         obtain ⟨adU, cpU, rfl, -⟩ := htl
         have r1 := below_keep hb2 (alloc_keep q1 _)
         have B2 := below_join (below_more B1 _) hb2
         have l1 := lt_of_block r1
         have d2 : ¬ w2.heap.size = w.heap.size + 1 := by omega
         have d1 : ¬ w.heap.size + 1 = w2.heap.size := by omega
         obtain ⟨k1, k2, k3, k4⟩ := blk2 r1)
      | fail)
    have f2 := set2 r1 (.int .i64 0) (.int .i64 0)
    have b2 := (B2.setCell (p := ⟨w.heap.size + 1, 0, none⟩) (by simp) (.int .i64 0)).setCell (p := ⟨w.heap.size + 1, 1, none⟩) (by simp) (.int .i64 0)
    have hsz : ((w2.setCell ⟨w.heap.size + 1, 0, none⟩ (.int .i64 0)).setCell ⟨w.heap.size + 1, 1, none⟩ (.int .i64 0)).heap.size = w2.heap.size := by simp [World.setCell]
    have TF : TL ((w2.setCell ⟨w.heap.size + 1, 0, none⟩ (.int .i64 0)).setCell ⟨w.heap.size + 1, 1, none⟩ (.int .i64 0)) (.slice adU U.length cpU) U := HTL.out.set2 r1 _ _
    generalize World.setCell _ _ _ = F at f2 b2 hsz TF ⊢
    clear k1 k2 k3 k4
    obtain ⟨k1, k2, -⟩ := blk2 f2
    have d4 : w.heap.size + 1 < F.heap.size := by omega
    exact bodyPost_ret (v := .tuple #[.slice adU U.length cpU, .agg #[.int .i64 0, .int .i64 0]]) (by simp [results, Try.results45, go_sem, k1, k2, d4]) rfl ⟨Or.inr ⟨by omega, _, rfl, TF.up ((Below.refl _ _).alloc (Nat.le_refl _) _)⟩, b2.alloc (by omega) _⟩

/-- What Rows and Valid say of a formula. -/
def Fm.ncode (f : Fm) : Int × Int := if f.pcode.1 = 0 then (if 6 < (nmsU f).length then (2, 0) else (0, 0)) else f.pcode

theorem ncode_ok {f : Fm} (h : f.ncode.1 = 0) : f.ncode = (0, 0) ∧ (nmsU f).length ≤ 6 ∧ f.pcode = (0, 0) := by
  unfold Fm.ncode at *
  by_cases hp : f.pcode.1 = 0
  · rw [if_pos hp] at h ⊢
    by_cases h6 : 6 < (nmsU f).length
    · rw [if_pos h6] at h; simp at h
    · rw [if_neg h6]
      exact ⟨rfl, by omega, (pcode_ok hp).2.2⟩
  · rw [if_neg hp] at h
    exact absurd h hp

theorem np_yes (f : Fm) (h : f.ncode.1 = 0) (v : Value) (w : World) (hrep : Rep w (fun _ => True) f v) :
    Calls Try.prog 45 #[v] w fun e w' => ∃ x, e = .returned (.tuple #[x, .agg #[.int .i64 0, .int .i64 0]]) ∧ TL w' x (nmsU f) ∧ Below w.heap.size w w' := by
  obtain ⟨-, h6, hp⟩ := ncode_ok h
  refine (np_good f v w hrep hp).mono ?_
  rintro e w' ⟨⟨h, -⟩ | ⟨-, x, rfl, ht⟩, hb⟩
  · omega
  · exact ⟨x, rfl, ht, hb⟩

theorem column_own (f : Fm) (h : f.ncode.1 = 0) (v u : Value) (w : World) (hv : Rep w (fun _ => True) f v) (hu : TL w u (nmsU f)) :
    Calls Try.prog 43 #[v, u] w fun e w' => ∃ x, e = .returned x ∧ BL w' x (colL f (nmsU f)) ∧ Below w.heap.size w w' := by
  obtain ⟨-, h6, hp⟩ := ncode_ok h
  obtain ⟨⟨s, hs⟩, hpl, -⟩ := pcode_ok (f := f) (by rw [hp])
  have hf := fine_of_chk f 0 s hs
  exact column_any f hf hpl (nmsU f) h6 (nmsU_nodup f) (nmsU_small hf) v u w hv hu.sl
end Go.Proofs.Ytknngeojhiejnab
/- Walks: Valid, of what can be gone through. -/
namespace Go.Proofs.Ytknngeojhiejnab
open Go.RowKit Go.Sort

theorem colL_len (f : Fm) (l : List (List UInt8)) : (colL f l).length = 2 ^ l.length := by simp [colL]

set_option maxHeartbeats 2000000 in
theorem valid_yes (f : Fm) (h : f.ncode.1 = 0) (v : Value) (w : World) (hrep : Rep w (fun _ => True) f v) :
    Calls Try.prog 24 #[v] w fun e w' => ∃ x, e = .returned (.tuple #[.bool (decide (false ∉ colL f (nmsU f))), x, .agg #[.int .i64 0, .int .i64 0]]) ∧ TL w' x (if false ∈ colL f (nmsU f) then rowN ((colL f (nmsU f)).idxOf false) (nmsU f) 0 else []) ∧ Below w.heap.size w w' := by
  have hck := fun v (w : World) h' => np_yes f h v w h'
  have hco := fun v u (w : World) h1 h2 => column_own f h v u w h1 h2
  obtain ⟨-, h6, -⟩ := ncode_ok h
  have hcl := colL_len f (nmsU f)
  have hc64 : (colL f (nmsU f)).length ≤ 64 := by
    rw [hcl]
    exact (shl_row _ h6).2.2
  generalize nmsU f = U at *
  generalize colL f U = C at *
  have hix := fun v (w : World) h => index_bool C (by omega) false v w h
  have htr := fun (r : Nat) (hr : r ≤ 64) u (w : World) hu => trueIn_any r (by omega) U (by omega) u w hu
  obtain ⟨k, n, ks⟩ := f
  obtain ⟨sl, cap, rfl⟩ := slice_shape hrep
  have HC : Hid (∀ v w, _ → Calls Try.prog 45 #[v] w _) := hck
  have HD : Hid (∀ v u w, Rep w (fun _ => True) (.mk k n ks) v → TL w u U → Calls Try.prog 43 #[v, u] w _) := hco
  clear hck hco h hcl
  by_cases hm : false ∈ C
  · have hj : fIdx C false = ((C.idxOf false : Nat) : Int) := if_pos hm
    have hjl : C.idxOf false ≤ 64 := by have := List.idxOf_le_length (a := false) (l := C); omega
    rw [hj] at hix
    have HT : Hid (∀ u w, SL w u U → Calls Try.prog 47 #[.int .i64 ((C.idxOf false : Nat)), u] w _) := fun u w hu => htr (C.idxOf false) hjl u w hu
    rw [if_pos hm, decide_eq_false (fun h => h hm)]
    generalize C.idxOf false = r at *
    generalize rowN r U 0 = R at *
    have HI : Hid (∀ v w, BL w v C → Calls Try.prog 46 #[v, .bool false] w _) := hix
    have hrI : (r : Int) ≤ 64 := by omega
    clear hix htr hm hj
    go_enter Try.func24, Try.ntmps24
    go_wp2_with (first
      | (go_at_call 45
         refine (HC.out _ _ ((hrep.more _).more _)).mono ?_
         rintro e w1 ⟨x, rfl, htl, hb1⟩
         have HTL : Hid (TL w1 x U) := htl
         obtain ⟨adU, cpU, rfl, -⟩ := htl
         have z1 := hb1.size
         simp at z1
         have q0 := below_keep hb1 (alloc_keep (blk_new w _) _)
         have q1 := below_keep hb1 (blk_new (w.alloc _) _)
         rw [show (w.alloc _).heap.size = w.heap.size + 1 by simp] at q1
         have B1 := below_join (below_more (below_more (Below.refl _ w) _) _) hb1
         obtain ⟨a0, a1, a2, -⟩ := blk3 q0
         have y0 : w.heap.size < w1.heap.size := lt_of_block q0
         have y1 : w.heap.size + 1 < w1.heap.size := lt_of_block q1)
      | (go_at_call 43
         refine (HD.out _ _ _ ((hrep.up B1).more _) (HTL.out.up ((Below.refl _ _).alloc (Nat.le_refl _) _))).mono ?_
         rintro e w2 ⟨x, rfl, hbl, hb2⟩
         have HBL : Hid (BL w2 x C) := hbl
         obtain ⟨adC, cpC, rfl, -⟩ := hbl
         have r1 := below_keep hb2 (alloc_keep q1 _)
         have B2 := below_join (below_more B1 _) hb2
         have HT2 : Hid (TL w2 (.slice adU U.length cpU) U) := (HTL.out.up ((Below.refl _ _).alloc (Nat.le_refl _) _)).up hb2
         have l1 := lt_of_block r1)
      | (go_at_call 46
         refine (HI.out _ _ HBL.out).mono ?_
         rintro e w3 ⟨rfl, hw3⟩
         have hw4 := hw3.symm
         subst hw4)
      | (go_at_call 47
         refine (HT.out _ _ HT2.out.sl).mono ?_
         rintro e w3 ⟨x, rfl, htl, hb3⟩
         have HTR : Hid (TL w3 x R) := htl
         obtain ⟨adR, cpR, rfl, -⟩ := htl
         have s1 := below_keep hb3 r1
         have B3 := below_join B2 hb3
         obtain ⟨k1, k2, k3, k4⟩ := blk2 s1)
      | fail)
    have f2 := set2 s1 (.int .i64 0) (.int .i64 0)
    have b2 := (B3.setCell (p := ⟨w.heap.size + 1, 0, none⟩) (by simp) (.int .i64 0)).setCell (p := ⟨w.heap.size + 1, 1, none⟩) (by simp) (.int .i64 0)
    have TF := HTR.out.set2 s1 (.int .i64 0) (.int .i64 0)
    generalize World.setCell _ _ _ = F at f2 b2 TF ⊢
    clear k1 k2 k3 k4
    obtain ⟨k1, k2, -⟩ := blk2 f2
    exact bodyPost_ret (v := .tuple #[.bool false, .slice adR R.length cpR, .agg #[.int .i64 0, .int .i64 0]]) (by simp [results, Try.results24, go_sem, k1, k2]) rfl ⟨_, rfl, TF, b2⟩
  · have hj : fIdx C false = -1 := if_neg hm
    rw [hj] at hix
    rw [if_neg hm, decide_eq_true hm]
    have HI : Hid (∀ v w, BL w v C → Calls Try.prog 46 #[v, .bool false] w _) := hix
    clear hix htr hm hj
    go_enter Try.func24, Try.ntmps24
    go_wp2_with (first
      | (go_at_call 45
         refine (HC.out _ _ ((hrep.more _).more _)).mono ?_
         rintro e w1 ⟨x, rfl, htl, hb1⟩
         have HTL : Hid (TL w1 x U) := htl
         obtain ⟨adU, cpU, rfl, -⟩ := htl
         have z1 := hb1.size
         simp at z1
         have q0 := below_keep hb1 (alloc_keep (blk_new w _) _)
         have q1 := below_keep hb1 (blk_new (w.alloc _) _)
         rw [show (w.alloc _).heap.size = w.heap.size + 1 by simp] at q1
         have B1 := below_join (below_more (below_more (Below.refl _ w) _) _) hb1
         obtain ⟨a0, a1, a2, -⟩ := blk3 q0
         have y0 : w.heap.size < w1.heap.size := lt_of_block q0
         have y1 : w.heap.size + 1 < w1.heap.size := lt_of_block q1)
      | (go_at_call 43
         refine (HD.out _ _ _ ((hrep.up B1).more _) (HTL.out.up ((Below.refl _ _).alloc (Nat.le_refl _) _))).mono ?_
         rintro e w2 ⟨x, rfl, hbl, hb2⟩
         have HBL : Hid (BL w2 x C) := hbl
         obtain ⟨adC, cpC, rfl, -⟩ := hbl
         have r1 := below_keep hb2 (alloc_keep q1 _)
         have B2 := below_join (below_more B1 _) hb2
         have l1 := lt_of_block r1)
      | (go_at_call 46
         refine (HI.out _ _ HBL.out).mono ?_
         rintro e w3 ⟨rfl, hw3⟩
         have hw4 := hw3.symm
         subst hw4
         obtain ⟨k1, k2, k3, k4⟩ := blk2 r1)
      | fail)
    have f2 := set2 r1 (.int .i64 0) (.int .i64 0)
    have b2 := (B2.setCell (p := ⟨w.heap.size + 1, 0, none⟩) (by simp) (.int .i64 0)).setCell (p := ⟨w.heap.size + 1, 1, none⟩) (by simp) (.int .i64 0)
    generalize World.setCell _ _ _ = F at f2 b2 ⊢
    clear k1 k2 k3 k4
    obtain ⟨k1, k2, -⟩ := blk2 f2
    exact bodyPost_ret (v := .tuple #[.bool true, .slice none 0 0, .agg #[.int .i64 0, .int .i64 0]]) (by simp [results, Try.results24, go_sem, k1, k2]) rfl ⟨_, rfl, TL.nil, b2⟩
end Go.Proofs.Ytknngeojhiejnab
