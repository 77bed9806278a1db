/- Texts of one proof, one behind the other: TY2, TM1, BW1, BW9, MD5, SB4. -/
import Derived.Test.YtheiikkeelbjnajGreatB07
import Derived.Deep.RegionLaw
import Derived.Deep.DeepCutAuto
import Derived.Laws.BitsLemmas
import Derived.Deep.RegionHeld3
import Derived.Laws.EntriesVeiled
import Derived.Deep.Upon
import Derived.Lib.AppendZerosOnto
import Derived.Test.YtheiikkeelbjnajGreatB01
import Derived.Deep.AppendLies
import Derived.RangeFuncBox
import Derived.RangeFuncLeaves
import Derived.Shelf.Abstract
import Derived.WalkKit
import Derived.OwnWalkIn
import Derived.TacticsInMore
import Derived.LoopNIn
import Derived.LoopIn
/- Walks: the yardstick's HasText, True, Row. -/
namespace Go.Proofs.YtheiikkeelbjnajGreat
open Go.RowKit Go.Sort

set_option maxHeartbeats 1000000 in
theorem hasText_sl (l : List (List UInt8)) (t : List UInt8) (v : Value) (w : World) (h : SL w v l) :
    Calls Tryz.prog 26 #[v, .string ⟨t.toArray⟩] w fun e w' => e = .returned (.bool (decide (t ∈ l))) ∧ w' = w := by
  obtain ⟨ad, cap, rfl, h1, h2, h3⟩ := h; (have hlI : (l.length : Int) ≤ 9223372036854775807 := by unfold maxLen at h2; omega); have H3 : Hid (l ≠ [] → ∃ g off, ad = some ⟨g, off, none⟩ ∧ ∀ (j : Nat) (t : List UInt8), l[j]? = some t → w.cell? ⟨g, off + j, none⟩ = some (.string ⟨t.toArray⟩)) := h3; clear h3
  go_enter Tryz.func26, Tryz.ntmps26
  go_wp2_with fail
  go_loopg [5] l.length (fun g c wr => ∃ i, i ≤ l.length ∧ g = l.length - i ∧ c = .int .i64 (i : Nat) ∧ wr = w ∧ Hid (t ∉ l.take i))
  case atStart => exact ⟨0, by omega, by omega, rfl, rfl, by show _ ∉ _; simp⟩
  case round =>
    obtain ⟨i, hi, hg, rfl, rfl, HN⟩ := hrel; have HG : Hid (gk = l.length - i) := hg; clear hg; by_cases hlt : i < l.length
    · obtain ⟨x, hx⟩ : ∃ x, l[i]? = some x := ⟨_, List.getElem?_eq_getElem hlt⟩
      (obtain ⟨g, off, rfl, hc⟩ := H3.out (fun e => by rw [e] at hlt; simp at hlt)); have g0 := hc i x hx; (have hltI : (i : Int) < (l.length : Int) := by omega); (have hlc : (i : Int) < (cap : Int) := by omega); have HX : Hid (l[i]? = some x) := hx; clear hc hx H3; by_cases hxt : x = t
      · subst hxt
        have HD : Hid (decide (x ∈ l) = true) := by
          show _ = _; exact decide_eq_true (List.mem_of_getElem? HX.out)
        go_wp2_with fail; go_ret; (exact ⟨by rw [HD.out]; rfl, rfl⟩)
      · have hne : ((⟨x.toArray⟩ : ByteArray).toList == (⟨t.toArray⟩ : ByteArray).toList) = false := by
          rw [beq_eq_false_iff_ne, Ne, txt_eq]; exact hxt
        have HNN : Hid (t ∉ l.take (i + 1)) := by
          show _ ∉ _; rw [List.take_add_one, HX.out]; intro hm
          rcases List.mem_append.1 hm with h | h
          · exact HN.out h
          · simp at h; exact hxt h.symm
        generalize hb : (⟨x.toArray⟩ : ByteArray) = X at *; generalize hb2 : (⟨t.toArray⟩ : ByteArray) = Y at *; clear hb hb2 HX; go_wp2_with fail
        go_roundg (l.length - (i + 1))
        case measure => have := HG.out; omega
        case rel => exact ⟨i + 1, by omega, rfl, by go_num, rfl, HNN⟩
    · have HD : Hid (decide (t ∈ l) = false) := by
        show _ = _; have := HN.out; (rw [List.take_of_length_le (by omega)] at this); exact decide_eq_false this
      (have hge : ¬ (i : Int) < (l.length : Int) := by omega); clear H3 HN; go_wp2_with fail; go_ret; (exact ⟨by rw [HD.out]; rfl, rfl⟩)

/-! The yardstick's row. -/
end Go.Proofs.YtheiikkeelbjnajGreat
/- Walks: Made and what it asks. -/
namespace Go.Proofs.YtheiikkeelbjnajGreat
open Go.RowKit Go.Sort

set_option maxHeartbeats 1000000 in
theorem indexS_any (l : List (List UInt8)) (t : List UInt8) (v : Value) (w : World) (h : SL w v l) :
    Calls Tryz.prog 158 #[v, .string ⟨t.toArray⟩] w fun e w' => (∃ j : Int, e = .returned (.int .i64 j) ∧ (0 ≤ j ↔ t ∈ l)) ∧ w' = w := by
  obtain ⟨ad, cap, rfl, h1, h2, h3⟩ := h; (have hlI : (l.length : Int) ≤ 9223372036854775807 := by unfold maxLen at h2; omega); have H3 : Hid (l ≠ [] → ∃ g off, ad = some ⟨g, off, none⟩ ∧ ∀ (j : Nat) (t : List UInt8), l[j]? = some t → w.cell? ⟨g, off + j, none⟩ = some (.string ⟨t.toArray⟩)) := h3; clear h3
  go_enter Tryz.func158, Tryz.ntmps158
  go_wp2_with fail
  go_loopg [8] l.length (fun g c wr => ∃ i, i ≤ l.length ∧ g = l.length - i ∧ c = .int .i64 (i : Nat) ∧ wr = w ∧ Hid (t ∉ l.take i))
  case atStart => exact ⟨0, by omega, by omega, rfl, rfl, by show _ ∉ _; simp⟩
  case round =>
    obtain ⟨i, hi, hg, rfl, rfl, HN⟩ := hrel; have HG : Hid (gk = l.length - i) := hg; clear hg; by_cases hlt : i < l.length
    · obtain ⟨x, hx⟩ : ∃ x, l[i]? = some x := ⟨_, List.getElem?_eq_getElem hlt⟩
      (obtain ⟨g, off, rfl, hc⟩ := H3.out (fun e => by rw [e] at hlt; simp at hlt)); have g0 := hc i x hx; (have hltI : (i : Int) < (l.length : Int) := by omega); (have hlc : (i : Int) < (cap : Int) := by omega); have HX : Hid (l[i]? = some x) := hx; clear hc hx H3; by_cases hxt : t = x
      · subst hxt
        have HD : Hid (t ∈ l) := List.mem_of_getElem? HX.out; go_wp2_with fail; go_ret; (exact ⟨⟨(i : Int), rfl, fun _ => HD.out, fun _ => by omega⟩, rfl⟩)
      · have hne : ((⟨t.toArray⟩ : ByteArray).toList == (⟨x.toArray⟩ : ByteArray).toList) = false := by
          rw [beq_eq_false_iff_ne, Ne, txt_eq]; exact hxt
        have HNN : Hid (t ∉ l.take (i + 1)) := by
          show _ ∉ _; rw [List.take_add_one, HX.out]; intro hm
          rcases List.mem_append.1 hm with h | h
          · exact HN.out h
          · simp at h; exact hxt h
        generalize hb : (⟨x.toArray⟩ : ByteArray) = X at *; generalize hb2 : (⟨t.toArray⟩ : ByteArray) = Y at *; clear hb hb2 HX; go_wp2_with fail
        go_roundg (l.length - (i + 1))
        case measure => have := HG.out; omega
        case rel => exact ⟨i + 1, by omega, rfl, by go_num, rfl, HNN⟩
    · have HD : Hid (t ∉ l) := by
        have := HN.out; (rw [List.take_of_length_le (by omega)] at this); exact this
      (have hge : ¬ (i : Int) < (l.length : Int) := by omega); clear H3 HN; go_wp2_with fail; go_ret; (exact ⟨⟨-1, rfl, fun h => absurd h (by omega), fun h => absurd h HD.out⟩, rfl⟩)

set_option maxHeartbeats 1000000 in
theorem containsS_any (l : List (List UInt8)) (t : List UInt8) (v : Value) (w : World) (h : SL w v l) :
    Calls Tryz.prog 112 #[v, .string ⟨t.toArray⟩] w fun e w' => e = .returned (.bool (decide (t ∈ l))) ∧ w' = w := by
  have hx := indexS_any l t v w h; have HX : Hid (Calls Tryz.prog 158 _ w _) := hx; obtain ⟨ad, cap, rfl, -⟩ := h; generalize (⟨t.toArray⟩ : ByteArray) = T at *; clear hx
  go_enter Tryz.func112, Tryz.ntmps112
  go_wp2_with (first
    | (go_at_call 158
       refine HX.out.mono ?_; rintro e w1 ⟨⟨j, rfl, hj⟩, rfl⟩; have HJ : Hid (decide (0 ≤ j) = decide (t ∈ l)) := decide_eq_decide.2 hj
       clear hj)
    | fail)
  go_ret; (exact ⟨by rw [← HJ.out]; rfl, rfl⟩)

end Go.Proofs.YtheiikkeelbjnajGreat
/- Walks: lists of texts behind each other (slices.Grow, slices.Concat), and an append of texts. -/
namespace Go.Proofs.YtheiikkeelbjnajGreat
open Go.RowKit Go.Sort

theorem rowS_caps {B : Nat} {w : World} {T : TypeId} {sz n cap : Nat} {ad : Option Addr} {cs : List Value} (h : w.ownsRow B T sz (.slice ad n cap) n cs) : n ≤ cap ∧ cap ≤ maxLen := by
  rcases h.2 with ⟨hv, h0⟩ | ⟨g, cap', cur, hv, -, -, h1, h2, -⟩
  · simp only [Value.slice.injEq] at hv
    (exact ⟨by omega, by rw [hv.2.2]; simp⟩)
  · simp only [Value.slice.injEq, true_and] at hv
    rw [hv.2]; exact ⟨h1, h2⟩
theorem wp_appS {o : Oper} {a : Act} {w : World} {K : Act → World → Prop} {Q : Exit → Act → World → Prop} (s x : Operand) (hop : o.op = Op.call { callee := Callee.builtin Builtin.append, args := #[s, x], argTypes := #[49, 49] })
    (B : Nat) (is js : List (List UInt8)) (ad : Option Addr) (cp : Nat) (vx : Value) (hs : a.eval s = .slice ad is.length cp) (hown : w.ownsRow B 9 1 (.slice ad is.length cp) is.length (is.map encStr)) (hx : a.eval x = vx) (hg : SL w vx js) (hB : B ≤ w.heap.size) (hl : is.length + js.length ≤ 10000000)
    (h : ∀ ad3 cp3 w3, w3.ownsRow B 9 1 (.slice ad3 (is ++ js).length cp3) (is ++ js).length ((is ++ js).map encStr) → Kept (fun b => (Value.slice ad is.length cp).ownBlock ≠ some b) w w3 → (∀ b, (Value.slice ad3 (is ++ js).length cp3).ownBlock = some b → (Value.slice ad is.length cp).ownBlock = some b ∨ (w.heap.size ≤ b ∧ b < w3.heap.size)) → K (a.put o.dst (.slice ad3 (is ++ js).length cp3)) w3) : Oper.wp Tryz.prog o a w K Q := by
  obtain ⟨i0, hi, hz0, hz1, hz2⟩ := infoText; by_cases hne : js = []
  · subst hne
    obtain ⟨x0, c, rfl, -⟩ := hg
    have hsrc : Src Tryz.prog i0.size 49 (.slice x0 0 c) 0 [] w := by
      cases x0 with
      | none => exact Src.ofNil w Tryz.underlying49 c
      | some ad => exact Src.ofSlice w Tryz.underlying49 ad 0 c [] (by simp) (fun j u h => by simp at h) (fun u h => by cases h)
    have hrun := run_append_nothing (P := Tryz.prog) w 49 49 o.type 9 i0 Tryz.underlying49 hi ad is.length cp (rowS_caps hown).1 (.slice x0 0 c) hsrc; have hx' : a.eval x = .slice x0 0 c := hx; (have h9 := h ad cp w (by rw [List.append_nil]; exact hown) (Kept.refl _ _) (fun b hb => Or.inl (by rw [List.append_nil] at hb; exact hb))); rw [List.append_nil] at h9; unfold Oper.wp; simp [execOp, hop, resolve, invoke, builtin, hs, hx', hrun, Result.andThen]; exact h9
  · obtain ⟨x0, c, rfl, -, -, hcs⟩ := hg
    obtain ⟨bs, offs, rfl, hc⟩ := hcs hne; have hpos : 0 < js.length := List.length_pos_iff.2 hne
    refine wp_append_lies w s x 49 hop B 9 i0 (.string ⟨#[]⟩) 1 16 Tryz.underlying49 hi hz0 hz1 hz2 rfl (by decide) _ _ _ hs hown ⟨bs, offs, none⟩ js.length c (js.map encStr) hx (by simp) (fun j u hu => by
      rw [add_none]; rw [List.getElem?_map] at hu; obtain ⟨y, hy, rfl⟩ := Option.map_eq_some_iff.1 hu
      exact hc j y hy) (fun u hu => by
        obtain ⟨y, -, rfl⟩ := List.mem_map.1 hu
        rfl) hpos (by unfold maxLen; omega) (by omega) hB _ rfl ?_
    intro g3 cp3 w3 hown3 hgrow hat hlt3; have e : is.length + js.length = (is ++ js).length := List.length_append.symm; rw [e, ← List.map_append] at hown3; rw [e]
    exact h _ _ w3 hown3 ⟨hgrow.os, hgrow.tape, hgrow.output, hgrow.size, fun b hb hn => hgrow.block b hb fun e => hn e.symm⟩ fun b hb => by
      (have eb : g3 = b := by simpa [Value.ownBlock] using hb); subst eb
      rcases hat with h1 | h1
      · exact Or.inl h1
      · exact Or.inr ⟨by omega, hlt3⟩
theorem wpList_appS {ops : Array Oper} {rest : List Oper} {o : Oper} {a : Act} {w : World} {Q : Exit → Act → World → Prop} (hgd : o.guard = none) (s x : Operand) (hop : o.op = Op.call { callee := Callee.builtin Builtin.append, args := #[s, x], argTypes := #[49, 49] })
    (B : Nat) (is js : List (List UInt8)) (ad : Option Addr) (cp : Nat) (vx : Value) (hs : a.eval s = .slice ad is.length cp) (hown : w.ownsRow B 9 1 (.slice ad is.length cp) is.length (is.map encStr)) (hx : a.eval x = vx) (hg : SL w vx js) (hB : B ≤ w.heap.size) (hl : is.length + js.length ≤ 10000000)
    (h : ∀ ad3 cp3 w3, w3.ownsRow B 9 1 (.slice ad3 (is ++ js).length cp3) (is ++ js).length ((is ++ js).map encStr) → Kept (fun b => (Value.slice ad is.length cp).ownBlock ≠ some b) w w3 → (∀ b, (Value.slice ad3 (is ++ js).length cp3).ownBlock = some b → (Value.slice ad is.length cp).ownBlock = some b ∨ (w.heap.size ≤ b ∧ b < w3.heap.size)) → wpList Tryz.prog ops Q rest (a.put o.dst (.slice ad3 (is ++ js).length cp3)) w3) : wpList Tryz.prog ops Q (o :: rest) a w :=
  wpList_plain hgd fun _ hK => wp_appS s x hop B is js ad cp vx hs hown hx hg hB hl fun ad3 cp3 w3 h1 h2 h3 => hK _ _ (h ad3 cp3 w3 h1 h2 h3)
/-- Lists of texts in a list. -/
def SLs (w : World) (v : Value) (rs : List (List (List UInt8))) : Prop := ∃ ad cap, v = .slice ad rs.length cap ∧ rs.length ≤ cap ∧ cap ≤ maxLen ∧ (rs ≠ [] → ∃ b off, ad = some ⟨b, off, none⟩ ∧ ∀ (j : Nat) (r : List (List UInt8)), rs[j]? = some r → ∃ u, w.cell? ⟨b, off + j, none⟩ = some u ∧ SL w u r)
theorem SL.one {w : World} {b : Nat} {t : List UInt8} {T : TypeId} (h : w.heap[b]? = some (.cells #[.string ⟨t.toArray⟩] T (0, 0))) : SL w (.slice (some ⟨b, 0, none⟩) 1 1) [t] := by
  (refine ⟨_, 1, rfl, Nat.le_refl _, by simp [maxLen], fun _ => ⟨b, 0, rfl, fun j y hj => ?_⟩⟩); rw [Nat.zero_add, blk_cell h]
  match j, hj with
  | 0, hj => simp at hj; rw [← hj]; rfl
  | j + 1, hj => simp at hj

set_option maxRecDepth 10000 in
set_option maxHeartbeats 2000000 in
theorem growS_zero (w : World) :
    Calls Tryz.prog 153 #[.slice none 0 0, .int .i64 0] w fun e w' => e = .returned (.slice none 0 0) ∧ w' = w := by
  go_enter Tryz.func153, Tryz.ntmps153
  go_wp2_with fail; go_ret; exact ⟨rfl, rfl⟩

set_option maxRecDepth 10000 in
set_option maxHeartbeats 2000000 in
theorem growS_some (n : Nat) (hn : 0 < n) (hn2 : n ≤ 100000) (w : World) :
    Calls Tryz.prog 153 #[.slice none 0 0, .int .i64 (n : Nat)] w fun e w' => ∃ g cp, e = .returned (.slice (some ⟨g, 0, none⟩) 0 cp) ∧ w'.ownsRow w.heap.size 9 1 (.slice (some ⟨g, 0, none⟩) 0 cp) 0 [] ∧ Below w.heap.size w w' := by
  obtain ⟨i0, hi, hz0, hz1, hz2⟩ := infoText; (have hnI : (0 : Int) < (n : Int) := by omega); (have hnJ : (n : Int) ≤ 100000 := by omega)
  have hrz : ∀ ty, (Builtin.append_ #[49, 3] ty #[.slice none 0 0, .int .i64 (n : Nat)]).run Tryz.prog w = .ok (.slice (some ⟨w.heap.size, 0, none⟩) n (grownCap w n 0 9)) (w.drew.alloc (.cells (#[] ++ Builtin.zeroCells (Value.string ⟨#[]⟩).cells n ++ Builtin.zeroCells (Value.string ⟨#[]⟩).cells (grownCap w n 0 9 - n)) 9)) := fun ty => by
    (have h := Lib.run_append_grow_zeros w 49 3 ty 9 i0 (.string ⟨#[]⟩) .i64 .i64 Tryz.underlying49 Tryz.underlying3 hi hz0 none 0 0 [] (run_firstCells_none w.drew i0.size 0 0 0) n hn (by omega) (by omega) (by omega) (by rw [hz2]; omega) (by rw [hz2]; exact growslice_fits (by omega) (by omega))); simpa using h
  have hGn : n ≤ grownCap w n 0 9 := grownCap_ge w _ _ _; (have hGm : grownCap w n 0 9 ≤ maxLen := grownCap_le_maxLen w n 0 9 (by unfold maxLen; omega)); generalize grownCap w n 0 9 = G at *; (have hG63 : (G : Int) ≤ 9223372036854775807 := by unfold maxLen at hGm; omega)
  have hOw : (w.drew.alloc (.cells (#[] ++ Builtin.zeroCells (Value.string ⟨#[]⟩).cells n ++ Builtin.zeroCells (Value.string ⟨#[]⟩).cells (G - n)) 9)).ownsRow w.heap.size 9 1 (.slice (some ⟨w.heap.size, 0, none⟩) 0 G) 0 [] := by
    refine ⟨rfl, Or.inr ⟨w.heap.size, G, _, rfl, Nat.le_refl _, blk_new _ _, Nat.zero_le _, hGm, ?_, rfl⟩⟩; have h3 : (Value.string ⟨#[]⟩).cells.size = 1 := rfl; rw [Array.size_append, Array.size_append, size_zeroCells, size_zeroCells, h3]; simp only [Array.size_empty]; omega
  have HOw : Hid (World.ownsRow _ _ _ _ _ _ _) := hOw; have hBw : Below w.heap.size w (w.drew.alloc (.cells (#[] ++ Builtin.zeroCells (Value.string ⟨#[]⟩).cells n ++ Builtin.zeroCells (Value.string ⟨#[]⟩).cells (G - n)) 9)) := below_more (Below.refl _ w).drew _; generalize w.drew.alloc _ = W at *; clear hOw hz0 hz1 hz2 hi
  go_enter Tryz.func153, Tryz.ntmps153
  go_wp2_with (first
    | (at_builtin
       refine Lib.wpList_append_run _ rfl _ _ _ _ rfl _ _ rfl rfl _ _ (hrz _) ?_)
    | fail)
  all_goals
    go_ret; exact ⟨_, _, rfl, HOw.out, hBw⟩

/-- A row of items of one's own. -/
def OwnS (B : Nat) (is : List (List UInt8)) (ad : Option Addr) (cp : Nat) (w : World) : Prop := w.ownsRow B 9 1 (.slice ad is.length cp) is.length (is.map encStr)
theorem growS_any (n : Nat) (hn : n ≤ 100000) (w : World) :
    Calls Tryz.prog 153 #[.slice none 0 0, .int .i64 (n : Nat)] w fun e w' => ∃ ad cp, e = .returned (.slice ad 0 cp) ∧ OwnS w.heap.size [] ad cp w' ∧ Below w.heap.size w w' := by
  rcases Nat.eq_zero_or_pos n with rfl | h0
  · refine (growS_zero w).mono ?_
    rintro e w' ⟨rfl, rfl⟩; exact ⟨none, 0, rfl, ⟨rfl, Or.inl ⟨rfl, rfl⟩⟩, Below.refl _ _⟩
  · refine (growS_some n h0 hn w).mono ?_
    rintro e w' ⟨g, cp, rfl, ho, hb⟩; exact ⟨_, _, rfl, ho, hb⟩
theorem OwnS.app {W w2 w3 : World} {is : List (List UInt8)} {ad : Option Addr} {cp : Nat} (B : Below W.heap.size W w2) (h : OwnS W.heap.size is ad cp w2) (hk : Kept (fun b => (Value.slice ad is.length cp).ownBlock ≠ some b) w2 w3) : Below W.heap.size W w3 := by
  (have hb : ∀ j, j < W.heap.size → w3.heap[j]? = w2.heap[j]? := fun j hj => hk.block j (by have := B.size; omega) (fun e => by have := (World.ownsRow.lt h j e).1; omega)); (exact ⟨hk.os.trans B.os, hk.tape.trans B.tape, hk.output.trans B.output, by have := hk.size; have := B.size; omega, fun j hj => (hb j hj).trans (B.block j hj)⟩)

set_option maxRecDepth 10000 in
set_option maxHeartbeats 8000000 in
theorem concat_s (rs : List (List (List UInt8))) (hl : rs.flatten.length ≤ 100000) (hr : rs.length ≤ 1000) (v : Value) (w : World) (hv : SLs w v rs) :
    Calls Tryz.prog 104 #[v] w fun e w' => ∃ ad cp, e = .returned (.slice ad rs.flatten.length cp) ∧ OwnS w.heap.size rs.flatten ad cp w' ∧ Below w.heap.size w w' := by
  have HV : Hid (SLs w v rs) := hv; obtain ⟨adV, cpV, rfl, hv1, hv2, -⟩ := hv; have HLn : Hid (rs.flatten.length ≤ 100000) := hl; (have hrI : (rs.length : Int) ≤ 1000 := by omega); (have hcI : (rs.length : Int) ≤ (cpV : Int) := by omega)
  have row : ∀ k, k < rs.length → ∃ r b off u ad cp, rs[k]? = some r ∧ adV = some ⟨b, off, none⟩ ∧ u = .slice ad r.length cp ∧ w.cell? ⟨b, off + k, none⟩ = some u ∧ SL w u r := fun k hk => by
    obtain ⟨ad', cap', e, -, -, h4⟩ := HV.out; simp only [Value.slice.injEq, true_and] at e; obtain ⟨rfl, rfl⟩ := e; (obtain ⟨b, off, h5, h7⟩ := h4 (fun e => by rw [e] at hk; simp at hk)); obtain ⟨u, h8, h9⟩ := h7 k _ (List.getElem?_eq_getElem hk); obtain ⟨a1, c1, rfl, h10⟩ := h9; exact ⟨_, b, off, _, a1, c1, List.getElem?_eq_getElem hk, h5, rfl, h8, a1, c1, rfl, h10⟩
  have HR : Hid (∀ k, k < rs.length → ∃ r b off u ad cp, rs[k]? = some r ∧ adV = some ⟨b, off, none⟩ ∧ u = .slice ad r.length cp ∧ w.cell? ⟨b, off + k, none⟩ = some u ∧ SL w u r) := row
  have HT : Hid (∀ k r, rs[k]? = some r → (rs.take (k + 1)).flatten = (rs.take k).flatten ++ r ∧ (rs.take k).flatten.length + r.length ≤ 100000) := fun k r h => by
    (have h1 : (rs.take (k + 1)).flatten = (rs.take k).flatten ++ r := by rw [List.take_add_one, h, List.flatten_append]; simp); refine ⟨h1, ?_⟩; (have h2 : ((rs.take (k + 1)).flatten ++ (rs.drop (k + 1)).flatten).length ≤ 100000 := by rw [← List.flatten_append, List.take_append_drop]; exact hl); rw [h1] at h2; simp only [List.length_append] at h2; omega
  clear row hv1 hv2 hl hr
  go_enter Tryz.func104, Tryz.ntmps104
  go_wp2_with fail
  go_loopg [11, 3] rs.length (fun g c o wr => ∃ k n, k ≤ rs.length ∧ g = rs.length - k ∧ c = .int .i64 (k : Nat) ∧ o = .int .i64 (n : Nat) ∧ Hid (n = (rs.take k).flatten.length) ∧ wr = w)
  case atStart => exact ⟨0, 0, by omega, by omega, rfl, rfl, by show _ = _; simp, rfl⟩
  case round =>
    obtain ⟨k, n, hk, hg, rfl, rfl, HN, hw⟩ := hrel; have hw' := hw.symm; subst hw'; have HG : Hid (gk = rs.length - k) := hg; clear hg; by_cases hlt : k < rs.length
    · obtain ⟨r, b, off, u, ad, cp, h1, rfl, rfl, h2, -⟩ := HR.out k hlt
      obtain ⟨h3, h4⟩ := HT.out k r h1
      have HN2 : Hid (n + r.length = (rs.take (k + 1)).flatten.length) := by
        have := HN.out; show _ = _; rw [h3, List.length_append]; omega
      (have hltI : (k : Int) < (rs.length : Int) := by omega); (have hltc : (k : Int) < (cpV : Int) := by omega); (have hnI : (n : Int) + (r.length : Int) ≤ 100000 := by have := HN.out; omega); (have hwr : IntKind.i64.wrap ((n : Int) + (r.length : Int)) = (n : Int) + (r.length : Int) := by rw [IntKind.wrap_i64]; omega); (have hng : ¬ (n : Int) + (r.length : Int) < 0 := by omega); clear h1 h3 h4; go_wp2_with fail
      go_roundg (rs.length - (k + 1))
      case measure => have := HG.out; omega
      case rel => exact ⟨k + 1, n + r.length, by omega, rfl, by go_num, by go_num, HN2, rfl⟩
    · have hkk : k = rs.length := by omega
      subst hkk; (have hn : n ≤ 100000 := by have h1 := HN.out; have h2 := HLn.out; rw [List.take_length] at h1; omega); have HNn : Hid (n ≤ 100000) := hn; clear hlt hk hn; go_wp2_with fail; refine (growS_any n HNn.out w).mono ?_; rintro e w2 ⟨ad0, cp0, rfl, hA, B2⟩; have HA : Hid (OwnS w.heap.size [] ad0 cp0 w2) := hA; have HB2 : Hid (Below w.heap.size w w2) := B2; clear hA B2; go_wp2_with fail
      go_loopg [27, 6] rs.length (fun g c o wr => ∃ k is ad cp, k ≤ rs.length ∧ g = rs.length - k ∧ c = .int .i64 (k : Nat) ∧ o = .slice ad is.length cp ∧ Hid (is = (rs.take k).flatten) ∧ Hid (OwnS w.heap.size is ad cp wr) ∧ Hid (Below w.heap.size w wr))
      case atStart => exact ⟨0, [], ad0, cp0, by omega, by omega, rfl, rfl, by show _ = _; simp, HA, HB2⟩
      case round =>
        obtain ⟨k, is, ad, cp, hk, hg, rfl, rfl, HI, HO, HW⟩ := hrel; have HG2 : Hid (gk = rs.length - k) := hg; clear hg; by_cases hlt : k < rs.length
        · obtain ⟨r, b, off, u, ad2, cp2, h1, rfl, rfl, h2, h5⟩ := HR.out k hlt
          obtain ⟨h3, h4⟩ := HT.out k r h1; have g2 := (HW.out.cell (p := ⟨b, off + k, none⟩) (lt_of_cell h2)).trans h2
          have HI2 : Hid (is ++ r = (rs.take (k + 1)).flatten) := by
            have := HI.out; show _ = _; rw [h3, this]
          have HRw : Hid (SL wr (.slice ad2 r.length cp2) r) := h5.up HW.out; (have HLi : Hid (is.length + r.length ≤ 10000000) := by have := HI.out; show _ ≤ _; rw [this]; omega); have HLs : Hid (w.heap.size ≤ wr.heap.size) := HW.out.size; (have hltI : (k : Int) < (rs.length : Int) := by omega); (have hltc : (k : Int) < (cpV : Int) := by omega); clear h1 h3 h4 h2 h5
          go_wp2_with (first
            | (at_builtin
               go_loud (refine wpList_appS rfl _ _ rfl w.heap.size is r ad cp _ rfl HO.out rfl HRw.out HLs.out HLi.out ?_)
               intro ad3 cp3 w3 hown3 hk3 hat3; have HO3 : Hid (OwnS w.heap.size (is ++ r) ad3 cp3 w3) := hown3; have HB3 : Hid (Below w.heap.size w w3) := OwnS.app HW.out HO.out hk3
               clear hown3 hk3 hat3)
            | fail)
          go_roundg (rs.length - (k + 1))
          case measure => have := HG2.out; omega
          case rel => exact ⟨k + 1, is ++ r, ad3, cp3, by omega, rfl, by go_num, by simp, HI2, HO3, HB3⟩
        · have hkk : k = rs.length := by omega
          subst hkk; have hI := HI.out; rw [List.take_length] at hI; clear hlt hk; go_wp2_with fail; go_ret; (exact ⟨ad, cp, by rw [hI]; rfl, by rw [← hI]; exact HO.out, HW.out⟩)
end Go.Proofs.YtheiikkeelbjnajGreat
/- Walks: what a formula says of names (projected). -/
namespace Go.Proofs.YtheiikkeelbjnajGreat
open Go.RowKit Go.Sort

theorem KS.move {B : Nat} {w w' : World} {ad : Option Addr} {cy : Nat} {L : List (List UInt8)} (h : KS B w ad cy L) (hb : ∀ b, (Value.slice ad L.length cy).ownBlock = some b → w'.heap[b]? = w.heap[b]?) : KS B w' ad cy L := by
  rcases h.2 with ⟨h1, h2⟩ | ⟨g, cap, cur, h1, h2, h3, h4⟩
  · exact ⟨h.1, Or.inl ⟨h1, h2⟩⟩
  · refine ⟨h.1, Or.inr ⟨g, cap, cur, h1, h2, ?_, h4⟩⟩
    (rw [hb g (by rw [h1]; rfl)]; exact h3)

end Go.Proofs.YtheiikkeelbjnajGreat
/- Lists copied: an append behind nothing, whatever the elements; pairs and lists of texts of one's own. -/
namespace Go.Proofs.YtheiikkeelbjnajGreat
open Go.RowKit Go.Sort

theorem rowM_caps {B : Nat} {w : World} {T : TypeId} {sz n cap : Nat} {ad : Option Addr} {cs : List Value} (h : w.ownsRow B T sz (.slice ad n cap) n cs) : n ≤ cap ∧ cap ≤ maxLen := by
  rcases h.2 with ⟨hv, h0⟩ | ⟨g, cap', cur, hv, -, -, h1, h2, -⟩
  · simp only [Value.slice.injEq] at hv
    (exact ⟨by omega, by rw [hv.2.2]; simp⟩)
  · simp only [Value.slice.injEq, true_and] at hv
    rw [hv.2]; exact ⟨h1, h2⟩
theorem rowM_cells {B : Nat} {w : World} {T : TypeId} {sz n cap : Nat} {ad : Option Addr} {cs : List Value} (h : w.ownsRow B T sz (.slice ad n cap) n cs) (hn : 0 < n) : ∃ g, ad = some ⟨g, 0, none⟩ ∧ ∀ j u, cs[j]? = some u → w.cell? ⟨g, 0 + j, none⟩ = some u := by
  rcases h.2 with ⟨hv, h0⟩ | ⟨g, cap', cur, hv, -, hh, h1, h2, h3, h4⟩
  · omega
  · simp only [Value.slice.injEq, true_and] at hv
    (refine ⟨g, hv.1, fun j u hj => ?_⟩); rw [Nat.zero_add, blk_cell hh]; rw [← h4, List.getElem?_take] at hj
    split at hj
    · simpa using hj
    · cases hj
/-- Texts of one's own. -/
theorem SL.own {B : Nat} {w : World} {ad : Option Addr} {cp : Nat} {l : List (List UInt8)} (h : w.ownsRow B 9 1 (.slice ad l.length cp) l.length (l.map encStr)) : SL w (.slice ad l.length cp) l := by
  obtain ⟨h1, h2⟩ := rowM_caps h; (refine ⟨ad, cp, rfl, h1, h2, fun hne => ?_⟩); obtain ⟨g, rfl, hc⟩ := rowM_cells h (List.length_pos_iff.2 hne); (exact ⟨g, 0, rfl, fun j t hj => hc _ _ (by rw [List.getElem?_map, hj]; rfl)⟩)
end Go.Proofs.YtheiikkeelbjnajGreat
/- Walks: slices.AppendSeq, Collect and Sorted at texts that a list holds. -/
namespace Go.Proofs.YtheiikkeelbjnajGreat
open Go.RowKit Go.Shelf Go.Sort

theorem blk_setS {w : World} {b i : Nat} {cs : Array Value} {T : TypeId} (h : w.heap[b]? = some (.cells cs T (0, 0))) (v : Value) : (w.setCell ⟨b, i, none⟩ v).heap[b]? = some (.cells (cs.setIfInBounds i v) T (0, 0)) := by
  simp [World.setCell, Array.getElem?_modify, h]
theorem blk_otherS {w : World} {b b' i : Nat} (v : Value) (h : b' ≠ b) : (w.setCell ⟨b, i, none⟩ v).heap[b']? = w.heap[b']? := by
  simp [World.setCell, Array.getElem?_modify, Ne.symm h]
end Go.Proofs.YtheiikkeelbjnajGreat
