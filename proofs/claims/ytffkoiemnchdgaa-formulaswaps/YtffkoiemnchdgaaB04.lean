/- Texts of one proof, one behind the other: Base, Walk1. -/
import Derived.Test.YtffkoiemnchdgaaB01
import Derived.Test.YtffkoiemnchdgaaChecked
import Derived.WalkKit
import Derived.WalkSpells
import Derived.WalkLawsBesides
import Derived.Deep.QuietTactic
import Derived.BigQuiet
import Derived.Test.YtffkoiemnchdgaaB02
import Derived.Deep.LoopGhost
/- What the walks over layer 1 share: formulas in memory, what a call leaves as it was, the reader's own block. -/
namespace Go.Proofs.Ytffkoiemnchdgaa
open Go.RowKit

/-- The blocks of w for which 'ok' holds are as they were. -/
structure Kept (ok : Nat → Prop) (w w' : World) : Prop where
  os : w'.os = w.os
  tape : w'.tape = w.tape
  output : w'.output = w.output
  size : w.heap.size ≤ w'.heap.size
  block : ∀ k, k < w.heap.size → ok k → w'.heap[k]? = w.heap[k]?

theorem Kept.refl (ok : Nat → Prop) (w : World) : Kept ok w w := ⟨rfl, rfl, rfl, Nat.le_refl _, fun _ _ _ => rfl⟩
theorem Kept.trans {ok : Nat → Prop} {a b c : World} (h : Kept ok a b) (k : Kept ok b c) : Kept ok a c :=
  ⟨k.os.trans h.os, k.tape.trans h.tape, k.output.trans h.output, Nat.le_trans h.size k.size, fun i hi ho => (k.block i (Nat.lt_of_lt_of_le hi h.size) ho).trans (h.block i hi ho)⟩
theorem Kept.drew {ok : Nat → Prop} {a w : World} (h : Kept ok a w) : Kept ok a w.drew := ⟨h.os, h.tape, h.output, h.size, h.block⟩
theorem Kept.drewN {ok : Nat → Prop} {a w : World} (n : Nat) (h : Kept ok a w) : Kept ok a (w.drewN n) := ⟨h.os, h.tape, h.output, h.size, h.block⟩
theorem Kept.alloc {ok : Nat → Prop} {a w : World} (h : Kept ok a w) (o : Obj) : Kept ok a (w.alloc o) :=
  h.trans ⟨rfl, rfl, rfl, by simp, fun k hk _ => Below.heap_alloc _ _ _ hk⟩
theorem Kept.setCell {ok : Nat → Prop} {a w : World} (h : Kept ok a w) {p : Addr} (hp : p.block < a.heap.size → ¬ ok p.block) (u : Value) : Kept ok a (w.setCell p u) := by
  (refine ⟨h.os, h.tape, h.output, by simpa [World.setCell] using h.size, fun k hk ho => ?_⟩); (rw [Below.heap_setCell _ _ _ _ (fun e => by subst e; exact hp hk ho)]); exact h.block k hk ho
theorem Kept.mono {ok ok' : Nat → Prop} {a b : World} (h : Kept ok a b) (hi : ∀ k, k < a.heap.size → ok' k → ok k) : Kept ok' a b :=
  ⟨h.os, h.tape, h.output, h.size, fun k hk ho => h.block k hk (hi k hk ho)⟩
theorem Kept.below {ok : Nat → Prop} {a b : World} {B : Nat} (h : Kept ok a b) (hB : B ≤ a.heap.size) (hi : ∀ k, k < B → ok k) : Below B a b :=
  ⟨h.os, h.tape, h.output, h.size, fun k hk => h.block k (Nat.lt_of_lt_of_le hk hB) (hi k hk)⟩
theorem kept_of_below {ok : Nat → Prop} {a b : World} {B : Nat} (h : Below B a b) (hi : ∀ k, k < a.heap.size → ok k → k < B) : Kept ok a b :=
  ⟨h.os, h.tape, h.output, h.size, fun k hk ho => h.block k (hi k hk ho)⟩

theorem lt_of_block {w : World} {b : Nat} {o : Obj} (h : w.heap[b]? = some o) : b < w.heap.size := by
  rcases Nat.lt_or_ge b w.heap.size with h' | h'
  · exact h'
  · rw [Array.getElem?_eq_none h'] at h; cases h

theorem lt_of_cell {w : World} {a : Addr} {v : Value} (h : w.cell? a = some v) : a.block < w.heap.size := by
  rcases Nat.lt_or_ge a.block w.heap.size with h' | h'
  · exact h'
  · simp [World.cell?, Array.getElem?_eq_none h'] at h

theorem cell_of_block {w w' : World} {a : Addr} (h : w'.heap[a.block]? = w.heap[a.block]?) : w'.cell? a = w.cell? a := by
  simp only [World.cell?, h]

theorem blk_cell {w : World} {b : Nat} {cs : Array Value} {T : TypeId} (h : w.heap[b]? = some (.cells cs T (0, 0))) (o : Nat) : w.cell? ⟨b, o, none⟩ = cs[o]? := by simp [World.cell?, h]
theorem blk_fz {w : World} {b : Nat} {cs : Array Value} {T : TypeId} (h : w.heap[b]? = some (.cells cs T (0, 0))) (o : Nat) : w.frozen? ⟨b, o, none⟩ = false := by simp [World.frozen?, h]
/-- A block of three cells, as the walk wants it. -/
theorem blk3 {w : World} {b : Nat} {c0 c1 c2 : Value} {T : TypeId} (h : w.heap[b]? = some (.cells #[c0, c1, c2] T (0, 0))) : w.cell? ⟨b, 0, none⟩ = some c0 ∧ w.cell? ⟨b, 1, none⟩ = some c1 ∧ w.cell? ⟨b, 2, none⟩ = some c2 ∧ w.frozen? ⟨b, 0, none⟩ = false ∧ w.frozen? ⟨b, 1, none⟩ = false ∧ w.frozen? ⟨b, 2, none⟩ = false :=
  ⟨blk_cell h 0, blk_cell h 1, blk_cell h 2, blk_fz h 0, blk_fz h 1, blk_fz h 2⟩
theorem blk2 {w : World} {b : Nat} {c0 c1 : Value} {T : TypeId} (h : w.heap[b]? = some (.cells #[c0, c1] T (0, 0))) : w.cell? ⟨b, 0, none⟩ = some c0 ∧ w.cell? ⟨b, 1, none⟩ = some c1 ∧ w.frozen? ⟨b, 0, none⟩ = false ∧ w.frozen? ⟨b, 1, none⟩ = false :=
  ⟨blk_cell h 0, blk_cell h 1, blk_fz h 0, blk_fz h 1⟩
theorem blk_new (w : World) (o : Obj) : (w.alloc o).heap[w.heap.size]? = some o := by
  show (w.heap.push o)[w.heap.size]? = _
  simp

/-! ### Formulas in memory -/
mutual
def Rep (w : World) (ok : Nat → Prop) : Fm → Value → Prop
  | .mk k n ks, v => ∃ sl cap, v = .agg #[.int .i64 k, .string n, .slice sl ks.length cap] ∧ n.size ≤ maxLen ∧ ks.length ≤ cap ∧ cap ≤ maxLen ∧ (ks ≠ [] → ∃ b off, sl = some ⟨b, off, none⟩ ∧ ok b ∧ Reps w ok b off ks)
def Reps (w : World) (ok : Nat → Prop) (b : Nat) : Nat → List Fm → Prop
  | _, [] => True
  | off, f :: fs => (∃ c0 c1 c2, w.cell? ⟨b, off, none⟩ = some c0 ∧ w.cell? ⟨b, off + 1, none⟩ = some c1 ∧ w.cell? ⟨b, off + 2, none⟩ = some c2 ∧ Rep w ok f (.agg #[c0, c1, c2])) ∧ Reps w ok b (off + 3) fs
end

theorem Rep.def {w : World} {ok : Nat → Prop} {k : Int} {n : ByteArray} {ks : List Fm} {v : Value} : Rep w ok (.mk k n ks) v ↔ ∃ sl cap, v = .agg #[.int .i64 k, .string n, .slice sl ks.length cap] ∧ n.size ≤ maxLen ∧ ks.length ≤ cap ∧ cap ≤ maxLen ∧ (ks ≠ [] → ∃ b off, sl = some ⟨b, off, none⟩ ∧ ok b ∧ Reps w ok b off ks) := by
  rw [Rep]

theorem Reps.nil {w : World} {ok : Nat → Prop} {b off : Nat} : Reps w ok b off [] := by rw [Reps]; trivial

theorem Reps.cons {w : World} {ok : Nat → Prop} {b off : Nat} {f : Fm} {fs : List Fm} : Reps w ok b off (f :: fs) ↔ (∃ c0 c1 c2, w.cell? ⟨b, off, none⟩ = some c0 ∧ w.cell? ⟨b, off + 1, none⟩ = some c1 ∧ w.cell? ⟨b, off + 2, none⟩ = some c2 ∧ Rep w ok f (.agg #[c0, c1, c2])) ∧ Reps w ok b (off + 3) fs := by
  rw [Reps]

mutual
theorem Rep.keep {w w' : World} {ok ok' : Nat → Prop} (hc : ∀ a : Addr, ok a.block → a.block < w.heap.size → w'.cell? a = w.cell? a) (hi : ∀ k, k < w.heap.size → ok k → ok' k) :
    ∀ (f : Fm) (v : Value), Rep w ok f v → Rep w' ok' f v
  | .mk k n ks, v, h => by
    rw [Rep.def] at h ⊢; obtain ⟨sl, cap, hv, hn, hl, hc', hk⟩ := h; (refine ⟨sl, cap, hv, hn, hl, hc', fun hne => ?_⟩); obtain ⟨b, off, hsl, hb, hr⟩ := hk hne
    have hlt : b < w.heap.size := by
      cases ks with
      | nil => exact absurd rfl hne
      | cons g gs =>
        obtain ⟨⟨c0, _, _, h0, _⟩, _⟩ := Reps.cons.1 hr; exact lt_of_cell h0
    exact ⟨b, off, hsl, hi b hlt hb, Reps.keep hc hi hb hlt off ks hr⟩
theorem Reps.keep {w w' : World} {ok ok' : Nat → Prop} (hc : ∀ a : Addr, ok a.block → a.block < w.heap.size → w'.cell? a = w.cell? a) (hi : ∀ k, k < w.heap.size → ok k → ok' k) {b : Nat} (hb : ok b) (hlt : b < w.heap.size) :
    ∀ (off : Nat) (fs : List Fm), Reps w ok b off fs → Reps w' ok' b off fs
  | _, [], _ => Reps.nil
  | off, f :: fs, h => by
    rw [Reps.cons] at h ⊢; obtain ⟨⟨c0, c1, c2, h0, h1, h2, hr⟩, hrs⟩ := h; (exact ⟨⟨c0, c1, c2, by rw [hc _ hb hlt]; exact h0, by rw [hc _ hb hlt]; exact h1, by rw [hc _ hb hlt]; exact h2, Rep.keep hc hi f _ hr⟩, Reps.keep hc hi hb hlt (off + 3) fs hrs⟩)
end

theorem Rep.kept {w w' : World} {ok : Nat → Prop} {f : Fm} {v : Value} (h : Rep w ok f v) (hk : Kept ok w w') : Rep w' ok f v :=
  Rep.keep (fun _ ha hlt => cell_of_block (hk.block _ hlt ha)) (fun _ _ h => h) f v h
theorem Reps.kept {w w' : World} {ok : Nat → Prop} {b off : Nat} {fs : List Fm} (h : Reps w ok b off fs) (hb : ok b) (hk : Kept ok w w') : Reps w' ok b off fs := by
  cases fs with
  | nil => exact Reps.nil
  | cons f fs =>
    have hlt : b < w.heap.size := by
      obtain ⟨⟨c0, _, _, h0, _⟩, _⟩ := Reps.cons.1 h; exact lt_of_cell h0
    (exact Reps.keep (fun _ ha hlt => cell_of_block (hk.block _ hlt ha)) (fun _ _ h => h) hb hlt off _ h)

/-- The i-th of the kids. -/
theorem Reps.get {w : World} {ok : Nat → Prop} {b : Nat} : ∀ {off : Nat} {fs : List Fm} (_ : Reps w ok b off fs) (i : Nat) (f : Fm) (_ : fs[i]? = some f),
    ∃ c0 c1 c2, w.cell? ⟨b, off + i * 3, none⟩ = some c0 ∧ w.cell? ⟨b, off + i * 3 + 1, none⟩ = some c1 ∧ w.cell? ⟨b, off + i * 3 + 2, none⟩ = some c2 ∧ Rep w ok f (.agg #[c0, c1, c2])
  | off, [], _, i, f, hf => by simp at hf
  | off, g :: gs, h, i, f, hf => by
    obtain ⟨h1, h2⟩ := Reps.cons.1 h
    cases i with
    | zero => simp at hf; subst hf; simpa using h1
    | succ i =>
      (have := Reps.get h2 i f (by simpa using hf)); (have e : off + 3 + i * 3 = off + (i + 1) * 3 := by omega)
      rwa [e] at this

/-- .. with its parts shown. -/
theorem Reps.at {w : World} {ok : Nat → Prop} {b off : Nat} {fs : List Fm} (h : Reps w ok b off fs) (i : Nat) (k : Int) (n : ByteArray) (ks : List Fm) (hf : fs[i]? = some (.mk k n ks)) :
    ∃ sl cap, w.cell? ⟨b, off + i * 3, none⟩ = some (.int .i64 k) ∧ w.cell? ⟨b, off + i * 3 + 1, none⟩ = some (.string n) ∧ w.cell? ⟨b, off + i * 3 + 2, none⟩ = some (.slice sl ks.length cap) ∧ Rep w ok (.mk k n ks) (.agg #[.int .i64 k, .string n, .slice sl ks.length cap]) := by
  obtain ⟨c0, c1, c2, h0, h1, h2, hr⟩ := h.get i _ hf; obtain ⟨sl, cap, hv, hr'⟩ := Rep.def.1 hr; simp only [Value.agg.injEq, Array.mk.injEq, List.cons.injEq, and_true] at hv; obtain ⟨rfl, rfl, rfl⟩ := hv; exact ⟨sl, cap, h0, h1, h2, hr⟩

theorem Rep.leaf {w : World} {ok : Nat → Prop} {k : Int} {n : ByteArray} (h : n.size ≤ maxLen) : Rep w ok (.mk k n []) (.agg #[.int .i64 k, .string n, .slice none 0 0]) :=
  Rep.def.2 ⟨none, 0, rfl, h, by simp, by simp, fun h => absurd rfl h⟩

/-! ### The reader's block -/
def RS (br : Nat) (w : World) (t : ByteArray) (a n : Nat) : Prop := w.heap[br]? = some (.cells #[.string t, .int .i64 a, .int .i64 n] 82 (0, 0))

theorem RS.lt {br : Nat} {w : World} {t : ByteArray} {a n : Nat} (h : RS br w t a n) : br < w.heap.size := lt_of_block h
theorem RS.c0 {br : Nat} {w : World} {t : ByteArray} {a n : Nat} (h : RS br w t a n) : w.cell? ⟨br, 0, none⟩ = some (.string t) := by unfold RS at h; simp [World.cell?, h]
theorem RS.c1 {br : Nat} {w : World} {t : ByteArray} {a n : Nat} (h : RS br w t a n) : w.cell? ⟨br, 1, none⟩ = some (.int .i64 a) := by unfold RS at h; simp [World.cell?, h]
theorem RS.c2 {br : Nat} {w : World} {t : ByteArray} {a n : Nat} (h : RS br w t a n) : w.cell? ⟨br, 2, none⟩ = some (.int .i64 n) := by unfold RS at h; simp [World.cell?, h]
theorem RS.fz {br : Nat} {w : World} {t : ByteArray} {a n : Nat} (h : RS br w t a n) (o : Nat) : w.frozen? ⟨br, o, none⟩ = false := by unfold RS at h; simp [World.frozen?, h]
theorem RS.drew {br : Nat} {w : World} {t : ByteArray} {a n : Nat} (h : RS br w t a n) : RS br w.drew t a n := h
theorem RS.drewN {br : Nat} {w : World} {t : ByteArray} {a n : Nat} (h : RS br w t a n) (k : Nat) : RS br (w.drewN k) t a n := h
theorem RS.alloc {br : Nat} {w : World} {t : ByteArray} {a n : Nat} (h : RS br w t a n) (o : Obj) : RS br (w.alloc o) t a n := by
  unfold RS; rw [Below.heap_alloc _ _ _ h.lt]; exact h
theorem RS.set1 {br : Nat} {w : World} {t : ByteArray} {a n : Nat} (h : RS br w t a n) (a' : Nat) : RS br (w.setCell ⟨br, 1, none⟩ (.int .i64 a')) t a' n := by
  unfold RS at *; simp [World.setCell, Array.getElem?_modify, h]
theorem RS.set2 {br : Nat} {w : World} {t : ByteArray} {a n : Nat} (h : RS br w t a n) (n' : Nat) : RS br (w.setCell ⟨br, 2, none⟩ (.int .i64 n')) t a n' := by
  unfold RS at *; simp [World.setCell, Array.getElem?_modify, h]

theorem RS.other {br : Nat} {w : World} {t : ByteArray} {a n : Nat} (h : RS br w t a n) {p : Addr} (hp : p.block ≠ br) (v : Value) : RS br (w.setCell p v) t a n := by
  unfold RS; rw [Below.heap_setCell _ _ _ _ (Ne.symm hp)]; exact h
theorem RS.below {br : Nat} {w w' : World} {t : ByteArray} {a n : Nat} (h : RS br w t a n) (hb : Below w.heap.size w w') : RS br w' t a n := by
  unfold RS; rw [hb.block _ h.lt]; exact h

/-- From place a on the text reads l. -/
def At (t : ByteArray) (a : Nat) (l : List UInt8) : Prop := a ≤ t.size ∧ t.data.toList.drop a = l

theorem At.len {t : ByteArray} {a : Nat} {l : List UInt8} (h : At t a l) : a + l.length = t.size := by
  obtain ⟨h1, h2⟩ := h; have e : t.data.toList.length = t.size := Array.length_toList; rw [← h2, List.length_drop, e]; omega
theorem At.cons {t : ByteArray} {a : Nat} {c : UInt8} {l : List UInt8} (h : At t a (c :: l)) : At t (a + 1) l := by
  have := h.len; (refine ⟨by simp at this; omega, ?_⟩); rw [← List.drop_drop, h.2]; rfl
theorem At.drop {t : ByteArray} {a : Nat} {l : List UInt8} (h : At t a l) (k : Nat) (hk : k ≤ l.length) : At t (a + k) (l.drop k) := by
  have := h.len; (refine ⟨by omega, ?_⟩); rw [← List.drop_drop, h.2]
theorem At.head {t : ByteArray} {a : Nat} {c : UInt8} {l : List UInt8} (h : At t a (c :: l)) (hlt : a < t.size) : t[a] = c := by
  have h2 := h.2; have e : t.data.toList.length = t.size := Array.length_toList; (rw [List.drop_eq_getElem_cons (by omega)] at h2); have := (List.cons.inj h2).1; rw [← this]; rfl
end Go.Proofs.Ytffkoiemnchdgaa
/- Walks: the reader's small steps. -/
namespace Go.Proofs.Ytffkoiemnchdgaa
open Go.RowKit

theorem At.slice {t : ByteArray} {a : Nat} {l : List UInt8} (h : At t a l) : (t.extract a t.size).data.toList = l := by
  (rw [← h.2, ByteArray.data_extract, Array.toList_extract, ← ByteArray.size_data, ← Array.length_toList, List.extract_eq_take_drop, List.take_of_length_le (by simp)])

set_option maxHeartbeats 1000000 in
theorem skip_any (br : Nat) (t : ByteArray) (ht : t.size ≤ 20000) (n : Nat) (w : World) (a : Nat) (l : List UInt8) (ha : At t a l) (h : RS br w t a n) :
    Calls Try.prog 84 #[.pointer (some ⟨br, 0, none⟩)] w fun e w' => e = .returned (.tuple #[]) ∧ (∃ a', At t a' (skipB l) ∧ RS br w' t a' n) ∧ Kept (· ≠ br) w w' := by
  go_enter Try.func84, Try.ntmps84
  go_wp2
  go_loopg [] l.length (fun k wr => ∃ a' l', At t a' l' ∧ l'.length = k ∧ skipB l' = skipB l ∧ RS br wr t a' n ∧ Kept (· ≠ br) w wr)
  case atStart => exact ⟨a, l, ha, rfl, rfl, h, Kept.refl _ _⟩
  case round =>
    obtain ⟨a', l', ha', hl', hsk, hrs, hkept⟩ := hrel; have hlen := ha'.len; have f0 := hrs.c0; have f1 := hrs.c1; have f2 := hrs.fz 1; have HS : Hid (skipB l' = skipB l) := hsk; clear hsk; have HA : Hid (At t a' l') := ha'; clear ha'; have HR : Hid (RS br wr t a' n) := hrs; clear hrs; have HL : Hid (l'.length = gk) := hl'; clear hl'
    cases l' with
    | nil =>
      simp at hlen; (have hd : decide ((a' : Int) < (t.size : Int)) = false := by simp; omega); go_wp2
      go_quiet (fail)
      go_wp2
      go_end0
      exact ⟨rfl, ⟨a', by rw [← HS.out]; exact HA.out, HR.out⟩, hkept.drewN _⟩
    | cons c l' =>
      simp at hlen; (have hlt : (a' : Int) < (t.size : Int) := by omega); (have hlt' : a' < t.size := by omega); have hhd : t[a'] = c := HA.out.head hlt'; (have hl1 : (t.size : Int) ≤ 20000 := by omega); by_cases h1 : blank c
      · have hx : ((t[a'].toNat : Int) = 32) ∨ ((t[a'].toNat : Int) = 10) := by
          rw [hhd]; simp only [blank, Bool.or_eq_true, beq_iff_eq] at h1
          rcases h1 with h | h <;> subst h
          · left; rfl
          · right; rfl
        (have HN : Hid (At t (a' + 1) l' ∧ skipB l' = skipB l) := ⟨HA.out.cons, by rw [← HS.out, skipB, if_pos h1]⟩); clear hhd h1
        rcases hx with hx | hx
        all_goals
          go_wp2
          go_quiet (fail)
          go_wp2
          go_roundg l'.length
          case measure => have := HL.out; simp at this; omega
          case rel => exact ⟨a' + 1, l', HN.out.1, rfl, HN.out.2, (HR.out.set1 (a' + 1)).drewN _, (hkept.drewN _).setCell (by simp) _⟩
      · have hx : ¬ ((t[a'].toNat : Int) = 32) := by
          (rw [hhd]; intro h; apply h1; have : c = 32 := UInt8.toNat_inj.1 (by simpa using (Int.ofNat.inj h)); simp [blank, this])
        have hy : ¬ ((t[a'].toNat : Int) = 10) := by
          (rw [hhd]; intro h; apply h1; have : c = 10 := UInt8.toNat_inj.1 (by simpa using (Int.ofNat.inj h)); simp [blank, this])
        (have hx' : ((t[a'].toNat : Int) == 32) = false := by simpa using hx); (have hy' : ((t[a'].toNat : Int) == 10) = false := by simpa using hy); (have HN : Hid (At t a' (c :: l') ∧ c :: l' = skipB l) := ⟨HA.out, by rw [← HS.out, skipB, if_neg h1]⟩); clear hhd h1; go_wp2
        go_quiet (fail)
        go_wp2
        go_end0
        (exact ⟨rfl, ⟨a', by rw [← HN.out.2]; exact HN.out.1, HR.out⟩, hkept.drewN _⟩)
end Go.Proofs.Ytffkoiemnchdgaa
