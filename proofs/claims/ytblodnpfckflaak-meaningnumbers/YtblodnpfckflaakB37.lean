/- Texts of one proof, one behind the other: RM2. -/
import Derived.Test.YtblodnpfckflaakB35
import Derived.Test.YtblodnpfckflaakB14
import Derived.Test.YtblodnpfckflaakB16
import Derived.Test.YtblodnpfckflaakB18
/- Structures that are made: functions and predicates in rows of one's own. -/
namespace Go.Proofs.Ytblodnpfckflaak
open Go.RowKit Go.Sort

def encN (x : Int) : Value := .int .i64 x
def encO (x : Bool) : Value := .bool x
theorem IL.own {B : Nat} {w : World} {ad : Option Addr} {cp : Nat} {l : List Int} (h : w.ownsRow B 3 1 (.slice ad l.length cp) l.length (l.map encN)) : IL w (.slice ad l.length cp) l := by
  obtain ⟨h1, h2⟩ := rowM_caps h; (refine ⟨ad, cp, rfl, h1, h2, fun hne => ?_⟩); obtain ⟨g, rfl, hc⟩ := rowM_cells h (List.length_pos_iff.2 hne); (exact ⟨g, 0, rfl, fun j x hx => hc j _ (by rw [List.getElem?_map, hx]; rfl)⟩)
theorem BL.own {B : Nat} {w : World} {ad : Option Addr} {cp : Nat} {l : List Bool} (h : w.ownsRow B 4 1 (.slice ad l.length cp) l.length (l.map encO)) : BL w (.slice ad l.length cp) l := by
  obtain ⟨h1, h2⟩ := rowM_caps h; (refine ⟨ad, cp, rfl, h1, h2, fun hne => ?_⟩); obtain ⟨g, rfl, hc⟩ := rowM_cells h (List.length_pos_iff.2 hne); (exact ⟨g, 0, rfl, fun j x hx => hc j _ (by rw [List.getElem?_map, hx]; rfl)⟩)
def FnsAre (B : Nat) (w : World) (us : List Value) (l : List FnD) : Prop := us.length = l.length * 3 ∧ ∀ (i : Nat) (f : FnD), l[i]? = some f → f.nm.size ≤ maxLen ∧ ∃ ad cp, us[i * 3]? = some (.string f.nm) ∧ us[i * 3 + 1]? = some (.int .i64 f.ar) ∧ us[i * 3 + 2]? = some (.slice ad f.tab.length cp) ∧ w.ownsRow B 3 1 (.slice ad f.tab.length cp) f.tab.length (f.tab.map encN)
def PdsAre (B : Nat) (w : World) (us : List Value) (l : List PdD) : Prop := us.length = l.length * 3 ∧ ∀ (i : Nat) (f : PdD), l[i]? = some f → f.nm.size ≤ maxLen ∧ ∃ ad cp, us[i * 3]? = some (.string f.nm) ∧ us[i * 3 + 1]? = some (.int .i64 f.ar) ∧ us[i * 3 + 2]? = some (.slice ad f.bits.length cp) ∧ w.ownsRow B 4 1 (.slice ad f.bits.length cp) f.bits.length (f.bits.map encO)
theorem FnsAre.nil (B : Nat) (w : World) : FnsAre B w [] [] := ⟨rfl, fun i f h => by simp at h⟩
theorem PdsAre.nil (B : Nat) (w : World) : PdsAre B w [] [] := ⟨rfl, fun i f h => by simp at h⟩
theorem FnsAre.move {B : Nat} {w w' : World} {us : List Value} {l : List FnD} (h : FnsAre B w us l) (hk : ∀ g cur, B ≤ g → w.heap[g]? = some (.cells cur 3 (0, 0)) → w'.heap[g]? = w.heap[g]?) : FnsAre B w' us l := by
  (refine ⟨h.1, fun i f hf => ?_⟩); obtain ⟨hn, ad, cp, h1, h2, h3, h4⟩ := h.2 i f hf; (exact ⟨hn, ad, cp, h1, h2, h3, rowM_move h4 fun g cur hg hh => hk g cur (h4.lt g hg).1 hh⟩)
theorem PdsAre.move {B : Nat} {w w' : World} {us : List Value} {l : List PdD} (h : PdsAre B w us l) (hk : ∀ g cur, B ≤ g → w.heap[g]? = some (.cells cur 4 (0, 0)) → w'.heap[g]? = w.heap[g]?) : PdsAre B w' us l := by
  (refine ⟨h.1, fun i f hf => ?_⟩); obtain ⟨hn, ad, cp, h1, h2, h3, h4⟩ := h.2 i f hf; (exact ⟨hn, ad, cp, h1, h2, h3, rowM_move h4 fun g cur hg hh => hk g cur (h4.lt g hg).1 hh⟩)
theorem get_at {us : List Value} {n i j : Nat} {a b c : Value} (hl : us.length = n * 3) (hj : j < 3) : (us ++ [a, b, c])[i * 3 + j]? = if i < n then us[i * 3 + j]? else if i = n then [a, b, c][j]? else none := by
  split
  · rw [List.getElem?_append_left (by omega)]
  · rename_i h1
    split
    · rename_i h2
      (rw [List.getElem?_append_right (by omega), h2])
      congr 1
      omega
    · rw [List.getElem?_eq_none (by simp; omega)]
theorem FnsAre.snoc {B : Nat} {w : World} {us : List Value} {l : List FnD} (h : FnsAre B w us l) {f : FnD} (hn : f.nm.size ≤ maxLen) {ad : Option Addr} {cp : Nat} (hr : w.ownsRow B 3 1 (.slice ad f.tab.length cp) f.tab.length (f.tab.map encN)) : FnsAre B w (us ++ [.string f.nm, .int .i64 f.ar, .slice ad f.tab.length cp]) (l ++ [f]) := by
  (refine ⟨by simp [h.1, Nat.add_mul], fun i q hq => ?_⟩); (have g0 := get_at (a := .string f.nm) (b := .int .i64 f.ar) (c := .slice ad f.tab.length cp) (i := i) (j := 0) h.1 (by omega)); rw [Nat.add_zero] at g0; by_cases e : i < l.length
  · rw [List.getElem?_append_left e] at hq
    obtain ⟨h0, ad', cp', h1, h2, h3, h4⟩ := h.2 i q hq; refine ⟨h0, ad', cp', ?_, ?_, ?_, h4⟩
    · rw [g0, if_pos e]; exact h1
    · rw [get_at h.1 (by omega), if_pos e]; exact h2
    · rw [get_at h.1 (by omega), if_pos e]; exact h3
  · have hi : i < (l ++ [f]).length := (List.getElem?_eq_some_iff.1 hq).1
    (have e2 : i = l.length := by simp at hi; omega); (rw [List.getElem?_append_right (by omega), e2, Nat.sub_self] at hq); (have e3 : f = q := by simpa using hq); subst e3; refine ⟨hn, ad, cp, ?_, ?_, ?_, hr⟩
    · rw [g0, if_neg e, if_pos e2]; rfl
    · rw [get_at h.1 (by omega), if_neg e, if_pos e2]; rfl
    · rw [get_at h.1 (by omega), if_neg e, if_pos e2]; rfl
theorem PdsAre.snoc {B : Nat} {w : World} {us : List Value} {l : List PdD} (h : PdsAre B w us l) {f : PdD} (hn : f.nm.size ≤ maxLen) {ad : Option Addr} {cp : Nat} (hr : w.ownsRow B 4 1 (.slice ad f.bits.length cp) f.bits.length (f.bits.map encO)) : PdsAre B w (us ++ [.string f.nm, .int .i64 f.ar, .slice ad f.bits.length cp]) (l ++ [f]) := by
  (refine ⟨by simp [h.1, Nat.add_mul], fun i q hq => ?_⟩); (have g0 := get_at (a := .string f.nm) (b := .int .i64 f.ar) (c := .slice ad f.bits.length cp) (i := i) (j := 0) h.1 (by omega)); rw [Nat.add_zero] at g0; by_cases e : i < l.length
  · rw [List.getElem?_append_left e] at hq
    obtain ⟨h0, ad', cp', h1, h2, h3, h4⟩ := h.2 i q hq; refine ⟨h0, ad', cp', ?_, ?_, ?_, h4⟩
    · rw [g0, if_pos e]; exact h1
    · rw [get_at h.1 (by omega), if_pos e]; exact h2
    · rw [get_at h.1 (by omega), if_pos e]; exact h3
  · have hi : i < (l ++ [f]).length := (List.getElem?_eq_some_iff.1 hq).1
    (have e2 : i = l.length := by simp at hi; omega); (rw [List.getElem?_append_right (by omega), e2, Nat.sub_self] at hq); (have e3 : f = q := by simpa using hq); subst e3; refine ⟨hn, ad, cp, ?_, ?_, ?_, hr⟩
    · rw [g0, if_neg e, if_pos e2]; rfl
    · rw [get_at h.1 (by omega), if_neg e, if_pos e2]; rfl
    · rw [get_at h.1 (by omega), if_neg e, if_pos e2]; rfl
theorem FnsAre.fnl {B B' : Nat} {w : World} {us : List Value} {l : List FnD} (h : FnsAre B w us l) {ad : Option Addr} {cp : Nat} (ho : w.ownsRow B' 64 3 (.slice ad l.length cp) l.length us) : FnL w (.slice ad l.length cp) l := by
  obtain ⟨h1, h2⟩ := rowM_caps ho; (refine ⟨ad, cp, rfl, h1, h2, fun hne => ?_⟩); obtain ⟨g, rfl, hc⟩ := rowM_cells ho (List.length_pos_iff.2 hne); (refine ⟨g, 0, rfl, fun i f hf => ?_⟩); obtain ⟨hn, a2, c2, z0, z1, z2, z3⟩ := h.2 i f hf; (exact ⟨a2, c2, hc _ _ z0, by rw [Nat.add_assoc]; exact hc _ _ z1, by rw [Nat.add_assoc]; exact hc _ _ z2, a2, c2, rfl, hn, IL.own z3⟩)
theorem PdsAre.pdl {B B' : Nat} {w : World} {us : List Value} {l : List PdD} (h : PdsAre B w us l) {ad : Option Addr} {cp : Nat} (ho : w.ownsRow B' 67 3 (.slice ad l.length cp) l.length us) : PdL w (.slice ad l.length cp) l := by
  obtain ⟨h1, h2⟩ := rowM_caps ho; (refine ⟨ad, cp, rfl, h1, h2, fun hne => ?_⟩); obtain ⟨g, rfl, hc⟩ := rowM_cells ho (List.length_pos_iff.2 hne); (refine ⟨g, 0, rfl, fun i f hf => ?_⟩); obtain ⟨hn, a2, c2, z0, z1, z2, z3⟩ := h.2 i f hf; (exact ⟨a2, c2, hc _ _ z0, by rw [Nat.add_assoc]; exact hc _ _ z1, by rw [Nat.add_assoc]; exact hc _ _ z2, a2, c2, rfl, hn, BL.own z3⟩)
theorem mk_ints0 (M : Nat) (hM : M ≤ 1000) : ∃ C : Array Value, C.size = M ∧ C.toList = (List.replicate M (0 : Int)).map encN ∧ ∀ w : World, (Instr.makeSlice 31 (.int .i64 (M : Nat)) (.int .i64 (M : Nat))).run Try.prog w = .ok (.slice (some ⟨w.heap.size, 0, none⟩) M M) (w.alloc (.cells C 3 (0, 0))) := by
  (obtain ⟨i, hi, h⟩ := Option.map_eq_some_iff.1 (show (Try.prog.info? 3).map (fun i => (i.zero, i.size, i.bytes)) = some (some (.int .i64 0), 1, 8) by kernel_rfl)); simp only [Prod.mk.injEq] at h; obtain ⟨hz, hs, hb⟩ := h; (refine ⟨madeCells (Value.int .i64 0).cells (M * 1), by rw [size_madeCells]; omega, ?_, fun w => ?_⟩)
  · show (madeCells #[Value.int .i64 0] (M * 1)).toList = _
    rw [toList_madeCells_one, Nat.mul_one, List.map_replicate]; rfl
  (have := run_makeSlice (P := Try.prog) w 31 3 i _ Try.underlying31 hi hz .i64 .i64 (M : Int) (M : Int) (by omega) (Int.le_refl _) (by rw [hs]; simp; omega) (by rw [hb]; omega) (by omega)); rw [hs] at this; simpa using this
theorem mk_bools0 (M : Nat) (hM : M ≤ 1000) : ∃ C : Array Value, C.size = M ∧ C.toList = (List.replicate M false).map encO ∧ ∀ w : World, (Instr.makeSlice 65 (.int .i64 (M : Nat)) (.int .i64 (M : Nat))).run Try.prog w = .ok (.slice (some ⟨w.heap.size, 0, none⟩) M M) (w.alloc (.cells C 4 (0, 0))) := by
  (obtain ⟨i, hi, h⟩ := Option.map_eq_some_iff.1 (show (Try.prog.info? 4).map (fun i => (i.zero, i.size, i.bytes)) = some (some (.bool false), 1, 1) by kernel_rfl)); simp only [Prod.mk.injEq] at h; obtain ⟨hz, hs, hb⟩ := h; (refine ⟨madeCells (Value.bool false).cells (M * 1), by rw [size_madeCells]; omega, ?_, fun w => ?_⟩)
  · show (madeCells #[Value.bool false] (M * 1)).toList = _
    rw [toList_madeCells_one, Nat.mul_one, List.map_replicate]; rfl
  (have := run_makeSlice (P := Try.prog) w 65 4 i _ Try.underlying65 hi hz .i64 .i64 (M : Int) (M : Int) (by omega) (Int.le_refl _) (by rw [hs]; simp; omega) (by rw [hb]; omega) (by omega)); rw [hs] at this; simpa using this
/-- A row that was made just now. -/
theorem row_made {w : World} {T : TypeId} {M : Nat} {C : Array Value} {cs : List Value} (hM : M ≤ 1000) (hC : C.size = M) (hl : C.toList = cs) {B g : Nat} (hB : B ≤ g) (hg : w.heap[g]? = some (.cells C T (0, 0))) : w.ownsRow B T 1 (.slice (some ⟨g, 0, none⟩) M M) M cs := by
  (refine ⟨by rw [← hl, Array.length_toList, hC, Nat.mul_one], Or.inr ⟨g, M, C, rfl, hB, hg, Nat.le_refl _, by unfold maxLen; omega, by rw [hC, Nat.mul_one], ?_⟩⟩); (rw [← hl, List.take_of_length_le (by rw [Array.length_toList, hC]; omega)])
theorem infoFn : ∃ i, Try.prog.info? 64 = some i ∧ i.zero = some (.agg #[.string ⟨#[]⟩, .int .i64 0, .slice none 0 0]) ∧ i.size = 3 ∧ i.bytes = 48 := by
  (obtain ⟨i, hi, h⟩ := Option.map_eq_some_iff.1 (show (Try.prog.info? 64).map (fun i => (i.zero, i.size, i.bytes)) = some (some (.agg #[.string ⟨#[]⟩, .int .i64 0, .slice none 0 0]), 3, 48) by kernel_rfl)); simp only [Prod.mk.injEq] at h; exact ⟨i, hi, h.1, h.2.1, h.2.2⟩
theorem infoPd : ∃ i, Try.prog.info? 67 = some i ∧ i.zero = some (.agg #[.string ⟨#[]⟩, .int .i64 0, .slice none 0 0]) ∧ i.size = 3 ∧ i.bytes = 48 := by
  (obtain ⟨i, hi, h⟩ := Option.map_eq_some_iff.1 (show (Try.prog.info? 67).map (fun i => (i.zero, i.size, i.bytes)) = some (some (.agg #[.string ⟨#[]⟩, .int .i64 0, .slice none 0 0]), 3, 48) by kernel_rfl)); simp only [Prod.mk.injEq] at h; exact ⟨i, hi, h.1, h.2.1, h.2.2⟩
end Go.Proofs.Ytblodnpfckflaak
