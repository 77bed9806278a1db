/- Texts of one proof, one behind the other: Check3, Print1, Print3, Print4, Ref1, Back1, Open1, Each1. -/
import Derived.Test.YtlmjnglcdgkomaaB04
import Derived.Test.YtlmjnglcdgkomaaB01
import Derived.Lib.Builder
import Derived.Lib.AppendStr
import Derived.Lib.UnsafeStr
import Derived.Laws.Externs
import Derived.ProofKit
import Derived.Deep.Strs
import Derived.Deep.Slices
import Derived.Lib.SmallJoins
/- Walks: Check. -/
namespace Go.Proofs.Ytlmjnglcdgkomaa
open Go.RowKit

theorem looks_all : ∀ m, Looks m
  | 0 => fun _ _ _ _ _ h => absurd h (Nat.not_lt_zero _)
  | m + 1 => look_step m (looks_all m)

theorem check1_in (cap : Array Value) (w : World) : (callFunc 42 cap).run Try.prog w = .ok (.enter 42 cap) w := by
  simp [go_sem]

set_option maxHeartbeats 1000000 in
theorem check1_any (bf : Nat) (k : Int) (n : ByteArray) (ks : List Fm) (sl : Option Addr) (cap : Nat) (w : World) (q0 : w.heap[bf]? = some (.cells #[.int .i64 k, .string n, .slice sl ks.length cap] 24 (0, 0)))
    (hrep : Rep w (fun _ => True) (.mk k n ks) (.agg #[.int .i64 k, .string n, .slice sl ks.length cap])) (x : Chk) (hx : chk (.mk k n ks) 0 = x) :
    Calls Try.prog 42 #[.pointer (some ⟨bf, 0, none⟩)] w fun e w' => Kept (fun _ => True) w w' ∧ match x with
      | .ok _ => e = .returned (.tuple #[])
      | .bad c a => e = .panicked (stopC c a) := by
  obtain ⟨g1, g2, g3, g4, g5, g6⟩ := blk3 q0; have z0 := lt_of_block q0
  have hl := looks_all ((Fm.mk k n ks).size + 1) w.heap.size 0 (.mk k n ks) (.agg #[.int .i64 k, .string n, .slice sl ks.length cap]) (w.alloc (.cells #[.int .i64 0] 69 (0, 0))) (Nat.lt_succ_self _) (blk_new _ _) (by omega)
    (hrep.move fun b hb _ => ⟨Below.heap_alloc _ _ _ hb, by omega⟩)
  rw [hx] at hl; have HL : Hid (Calls Try.prog 43 _ _ _) := hl; clear hl hrep
  cases x with
  | ok s =>
    go_enter Try.func42, Try.ntmps42
    go_wp2_with (first
      | (go_at_call 43
         refine HL.out.mono ?_
         rintro e w1 ⟨hk1, rfl, -⟩)
      | fail)
    go_end0
    exact ⟨hk1.past, rfl⟩
  | bad c a =>
    go_enter Try.func42, Try.ntmps42
    go_wp2_with (first
      | (go_at_call 43
         refine HL.out.mono ?_; rintro e w1 ⟨hk1, he⟩
         obtain rfl : e = _ := he)
      | fail)
    exact ⟨rfl, hk1.past, rfl⟩

theorem two_new {w : World} {o0 o1 o2 : Obj} : (((w.alloc o0).alloc o1).alloc o2).heap[w.heap.size]? = some o0 ∧ (((w.alloc o0).alloc o1).alloc o2).heap[w.heap.size + 1]? = some o1 := by
  (have e1 : (w.alloc o0).heap.size = w.heap.size + 1 := by simp); (have e2 : ((w.alloc o0).alloc o1).heap.size = w.heap.size + 2 := by simp); refine ⟨?_, ?_⟩
  · rw [Below.heap_alloc _ _ _ (by omega), Below.heap_alloc _ _ _ (by omega)]; exact blk_new _ _
  · rw [Below.heap_alloc _ _ _ (by omega), ← e1]; exact blk_new _ _

set_option maxHeartbeats 1000000 in
theorem check_any (f : Fm) (v : Value) (w : World) (hrep : Rep w (fun _ => True) f v) :
    Calls Try.prog 12 #[v] w fun e w' => e = .returned (.agg #[.int .i64 f.code.1, .int .i64 f.code.2]) ∧ Below w.heap.size w w' := by
  obtain ⟨k, n, ks⟩ := f; obtain ⟨sl, cap, rfl, hx1, hx2, hx3, hx4⟩ := Rep.def.1 hrep; clear hx4; (have hmf : ∀ (fn : Fn) (first cap : Array Value) (w : World), (Instr.makeFunc fn first cap).run Try.prog w = .ok (.func fn first cap) w := fun _ _ _ _ => rfl)
  rcases hx : chk (.mk k n ks) 0 with s | ⟨c, a⟩
  · have hcode : (Fm.mk k n ks).code = (0, 0) := by simp only [Fm.code, hx]
    rw [hcode]
    go_enter Try.func12, Try.ntmps12
    go_wp2_with (first
      | (go_at_call 41
         (refine (caught_ok 42 _ _ (fun w1 => w1.heap[w.heap.size + 1]? = some (.cells #[.int .i64 0, .int .i64 0] 29 (0, 0)) ∧ Below w.heap.size w w1) (check1_in _) ?_).mono ?_)
         · refine (check1_any w.heap.size k n ks sl cap _ two_new.1 (hrep.move fun b hb _ => ⟨by rw [Below.heap_alloc _ _ _ (by simp; omega), Below.heap_alloc _ _ _ (by simp; omega), Below.heap_alloc _ _ _ hb], trivial⟩) _ hx).mono ?_
           rintro e w1 ⟨hk, rfl⟩; (exact ⟨rfl, (hk.block _ (by simp) trivial).trans (blk_new _ _), (hk.block _ (by simp) trivial).trans two_new.2, ((((Kept.refl _ w).alloc _).alloc _).alloc _ |>.trans hk).below (Nat.le_refl _) (fun _ _ => trivial)⟩)
         rintro e w2 ⟨rfl, w1, ⟨q1, hb1⟩, hk2⟩; have z1 := lt_of_block q1; (have q3 := (hk2.block _ z1 (by simp)).trans q1)
         obtain ⟨k1, k2, k3, k4⟩ := blk2 q3)
      | fail)
    have hz := hb1.size; have hz2 := hk2.size; (have b1 : Below w.heap.size w w2 := ((kept_of_below (ok := fun k => k < w.heap.size) hb1 (fun _ _ h => h)).trans (hk2.mono (fun k _ h => by simp; omega))).below (Nat.le_refl _) (fun _ h => h)); have f2 := set2 q3 (.int .i64 0) (.int .i64 0); (have b2 := (b1.setCell (p := ⟨w.heap.size + 1, 0, none⟩) (by simp) (.int .i64 0)).setCell (p := ⟨w.heap.size + 1, 1, none⟩) (by simp) (.int .i64 0)); generalize World.setCell _ _ _ = F at f2 b2 ⊢; clear k1 k2 k3 k4; obtain ⟨k1, k2, -⟩ := blk2 f2; (exact bodyPost_ret (v := .agg #[.int .i64 0, .int .i64 0]) (by simp [results, Try.results12, go_sem, k1, k2]) rfl ⟨rfl, b2⟩)
  · have hcode : (Fm.mk k n ks).code = (c, (a : Int)) := by simp only [Fm.code, hx]
    rw [hcode]
    go_enter Try.func12, Try.ntmps12
    go_wp2_with (first
      | (go_at_call 41
         (refine (caught_bad 42 _ _ (fun w1 => w1.heap[w.heap.size + 1]? = some (.cells #[.int .i64 0, .int .i64 0] 29 (0, 0)) ∧ Below w.heap.size w w1) c a (check1_in _) ?_).mono ?_)
         · refine (check1_any w.heap.size k n ks sl cap _ two_new.1 (hrep.move fun b hb _ => ⟨by rw [Below.heap_alloc _ _ _ (by simp; omega), Below.heap_alloc _ _ _ (by simp; omega), Below.heap_alloc _ _ _ hb], trivial⟩) _ hx).mono ?_
           rintro e w1 ⟨hk, rfl⟩; (exact ⟨rfl, (hk.block _ (by simp) trivial).trans (blk_new _ _), (hk.block _ (by simp) trivial).trans two_new.2, ((((Kept.refl _ w).alloc _).alloc _).alloc _ |>.trans hk).below (Nat.le_refl _) (fun _ _ => trivial)⟩)
         rintro e w2 ⟨rfl, w1, ⟨q1, hb1⟩, hk2⟩; have z1 := lt_of_block q1; (have q3 := (hk2.block _ z1 (by simp)).trans q1)
         obtain ⟨k1, k2, k3, k4⟩ := blk2 q3)
      | fail)
    have hz := hb1.size; have hz2 := hk2.size; (have b1 : Below w.heap.size w w2 := ((kept_of_below (ok := fun k => k < w.heap.size) hb1 (fun _ _ h => h)).trans (hk2.mono (fun k _ h => by simp; omega))).below (Nat.le_refl _) (fun _ h => h)); have f2 := set2 q3 (.int .i64 c) (.int .i64 a); (have b2 := (b1.setCell (p := ⟨w.heap.size + 1, 0, none⟩) (by simp) (.int .i64 c)).setCell (p := ⟨w.heap.size + 1, 1, none⟩) (by simp) (.int .i64 a)); generalize World.setCell _ _ _ = F at f2 b2 ⊢; clear k1 k2 k3 k4; obtain ⟨k1, k2, -⟩ := blk2 f2; (exact bodyPost_ret (v := .agg #[.int .i64 c, .int .i64 a]) (by simp [results, Try.results12, go_sem, k1, k2]) rfl ⟨rfl, b2⟩)
end Go.Proofs.Ytlmjnglcdgkomaa
/- Walks: the writer. -/
namespace Go.Proofs.Ytlmjnglcdgkomaa
open Go.RowKit

theorem Rep.low {w w' : World} {B : Nat} {f : Fm} {v : Value} (h : Rep w (· < B) f v) (hb : Below B w w') : Rep w' (· < B) f v :=
  h.move fun b _ hb2 => ⟨hb.block b hb2, hb2⟩

theorem Reps.low {w w' : World} {B b off : Nat} {fs : List Fm} (h : Reps w (· < B) b off fs) (hb : b < B) (hk : Below B w w') : Reps w' (· < B) b off fs :=
  h.kept hb (kept_of_below hk (fun _ _ h => h))

end Go.Proofs.Ytlmjnglcdgkomaa
/- Walks: the writer, three. -/
namespace Go.Proofs.Ytlmjnglcdgkomaa
open Go.RowKit

theorem slice_shape {w : World} {ok : Nat → Prop} {k : Int} {n : ByteArray} {ks : List Fm} {v : Value} (h : Rep w ok (.mk k n ks) v) : ∃ sl cap, v = .agg #[.int .i64 k, .string n, .slice sl ks.length cap] := by
  obtain ⟨sl, cap, hv, _⟩ := Rep.def.1 h; exact ⟨sl, cap, hv⟩

end Go.Proofs.Ytlmjnglcdgkomaa
/- Walks: Print. -/
namespace Go.Proofs.Ytlmjnglcdgkomaa
open Go.RowKit

theorem chk_size {f : Fm} {s : Nat} (h : chk f 0 = .ok s) : f.size ≤ 200 := by have := chk_le f 0 s h (by omega); omega

end Go.Proofs.Ytlmjnglcdgkomaa
/- Walks: what the laws' own yardstick does with formulas. -/
namespace Go.Proofs.Ytlmjnglcdgkomaa
open Go.RowKit

theorem Rep.up {w w' : World} {f : Fm} {v : Value} (h : Rep w (fun _ => True) f v) (hb : Below w.heap.size w w') : Rep w' (fun _ => True) f v :=
  h.move fun b hb1 _ => ⟨hb.block b hb1, trivial⟩
theorem Reps.up {w w' : World} {b off : Nat} {fs : List Fm} (h : Reps w (fun _ => True) b off fs) (hb : Below w.heap.size w w') : Reps w' (fun _ => True) b off fs :=
  h.kept trivial (kept_of_below hb (fun _ h _ => h))

end Go.Proofs.Ytlmjnglcdgkomaa
/- Walks: FormulaBack. -/
namespace Go.Proofs.Ytlmjnglcdgkomaa
open Go.RowKit

theorem below_keep {w w' : World} {k : Nat} {o : Obj} (hb : Below w.heap.size w w') (h : w.heap[k]? = some o) : w'.heap[k]? = some o := (hb.block k (lt_of_block h)).trans h
theorem alloc_keep {w : World} {k : Nat} {o : Obj} (h : w.heap[k]? = some o) (o' : Obj) : (w.alloc o').heap[k]? = some o := (Below.heap_alloc _ _ _ (lt_of_block h)).trans h
theorem below_join {W w w' : World} (h : Below W.heap.size W w) (hb : Below w.heap.size w w') : Below W.heap.size W w' := h.trans (hb.mono h.size)
theorem below_more {W w : World} (h : Below W.heap.size W w) (o : Obj) : Below W.heap.size W (w.alloc o) := h.alloc h.size o

theorem Rep.all {w : World} {ok : Nat → Prop} {f : Fm} {v : Value} (h : Rep w ok f v) : Rep w (fun _ => True) f v := h.move fun _ _ _ => ⟨rfl, trivial⟩
theorem Rep.more {w : World} {f : Fm} {v : Value} (h : Rep w (fun _ => True) f v) (o : Obj) : Rep (w.alloc o) (fun _ => True) f v := h.up ((Below.refl _ _).alloc (Nat.le_refl _) _)

end Go.Proofs.Ytlmjnglcdgkomaa
/- A formula that came in, as data. -/
namespace Go.Proofs.Ytlmjnglcdgkomaa
open Go.RowKit

theorem cells24 : Try.prog.cellsOf 24 = 3 := by kernel_rfl
theorem cells3 : Try.prog.cellsOf 3 = 1 := by kernel_rfl
theorem cells9 : Try.prog.cellsOf 9 = 1 := by kernel_rfl
theorem cells22 : Try.prog.cellsOf 22 = 1 := by kernel_rfl

theorem add_none (b off n : Nat) : (⟨b, off, none⟩ : Addr).add n = ⟨b, off + n, none⟩ := by
  (by_cases h : n = 0 <;> simp [Addr.add, h])

section
variable {H : Type} {enc : TypeId × Value → H} {W : World} {spare : Nat → Bool} {held : Bool}

/-- Cells that read as formulas, one behind the other. -/
theorem reps_of {b off len : Nat} (rd : ∀ i, i < len → ∃ c0 c1 c2 f, W.cell? ⟨b, off + i * 3, none⟩ = some c0 ∧ W.cell? ⟨b, off + i * 3 + 1, none⟩ = some c1 ∧ W.cell? ⟨b, off + i * 3 + 2, none⟩ = some c2 ∧ Rep W (fun _ => True) f (.agg #[c0, c1, c2])) :
    ∃ fs : List Fm, fs.length = len ∧ Reps W (fun _ => True) b off fs := by
  induction len generalizing off with
  | zero => exact ⟨[], rfl, Reps.nil⟩
  | succ len ih =>
    (obtain ⟨c0, c1, c2, f, h0, h1, h2, hr⟩ := rd 0 (by omega))
    obtain ⟨fs, hl, hrs⟩ := ih (off := off + 3) (fun i hi => by
      (obtain ⟨d0, d1, d2, g, k0, k1, k2, kr⟩ := rd (i + 1) (by omega)); (have e : off + (i + 1) * 3 = off + 3 + i * 3 := by omega); rw [e] at k0 k1 k2
      exact ⟨d0, d1, d2, g, k0, k1, k2, kr⟩)
    (exact ⟨f :: fs, by simp [hl], Reps.cons.2 ⟨⟨c0, c1, c2, by simpa using h0, by simpa using h1, by simpa using h2, hr⟩, hrs⟩⟩)

set_option maxRecDepth 100000 in
theorem rep_of_trod : ∀ (fuel : Nat) (cs : List Value) (x : DataW H × List MemPlace), DataW.trod enc Try.prog W 0 spare held fuel 24 cs = some x →
    ∃ c0 c1 c2 f, cs = [c0, c1, c2] ∧ Rep W (fun _ => True) f (.agg #[c0, c1, c2]) := by
  intro fuel
  induction fuel using Nat.strongRecOn with
  | _ fuel ih =>
    intro cs x h; obtain ⟨xs, n, hfu, -, hl, hlen, hf⟩ := DataW.trod_struct Try.underlying24 h; rw [cells24] at hl
    match cs, hl with
    | [c0, c1, c2], _ =>
      have h0 := hf 0 _ rfl; have h1 := hf 1 _ rfl; have h2 := hf 2 _ rfl; simp at hlen
      match xs, hlen with
      | [y0, y1, y2], _ =>
        simp [cells3, cells9, cells22] at h0 h1 h2; obtain ⟨k, e0, -, -⟩ := DataW.trod_int Try.underlying3 h0; obtain ⟨s, e1, -, hs⟩ := DataW.trod_string Try.underlying9 h1; simp at e0 e1; subst e0 e1
        rcases DataW.trod_slice Try.underlying22 h2 with ⟨e2, -⟩ | ⟨a, len, cap, elems, rest, m, hm, e2, -, -, hlc, hcm, hel, hall, -⟩
        · simp at e2
          subst e2; exact ⟨_, _, _, .mk k s [], rfl, Rep.leaf hs⟩
        · simp at e2
          subst e2; obtain ⟨b, off, spot⟩ := a; by_cases hz : len = 0
          · subst hz
            (exact ⟨_, _, _, .mk k s [], rfl, Rep.def.2 ⟨_, cap, rfl, hs, Nat.zero_le _, hcm, fun h => absurd rfl h⟩⟩)
          · have hsp : spot = none := by
              (have hh := hall 0 (by omega)); (rw [cells24, List.getElem?_eq_getElem (by omega)] at hh); obtain ⟨cs', hcs, htr⟩ := Option.bind_eq_some_iff.1 hh; obtain ⟨-, hl3, hcell⟩ := World.cells?_some hcs; (obtain ⟨d0, d1, d2, f, rfl, -⟩ := ih m (by omega) cs' _ htr); (have g0 := hcell 0 (by omega)); simp [Addr.add] at g0; simpa using World.cell?_spot g0
            subst hsp
            obtain ⟨fs, hfl, hrs⟩ := reps_of (W := W) (b := b) (off := off) (len := len) (fun i hi => by
              have hh := hall i hi; (rw [cells24, List.getElem?_eq_getElem (by omega), add_none] at hh); obtain ⟨cs', hcs, htr⟩ := Option.bind_eq_some_iff.1 hh; obtain ⟨-, hl3, hcell⟩ := World.cells?_some hcs; (obtain ⟨d0, d1, d2, f, rfl, hr⟩ := ih m (by omega) cs' _ htr); (have g0 := hcell 0 (by omega)); (have g1 := hcell 1 (by omega)); (have g2 := hcell 2 (by omega)); rw [add_none] at g0 g1 g2
              exact ⟨d0, d1, d2, f, g0, g1, g2, hr⟩)
            subst hfl; (exact ⟨_, _, _, .mk k s fs, rfl, Rep.def.2 ⟨_, cap, rfl, hs, hlc, hcm, fun _ => ⟨b, off, rfl, trivial, hrs⟩⟩⟩)
end
end Go.Proofs.Ytlmjnglcdgkomaa
/- Walks: eachNode, whatever visits. -/
namespace Go.Proofs.Ytlmjnglcdgkomaa
open Go.RowKit

theorem Fine.small {k : Int} {n : ByteArray} {ks : List Fm} (h : Fine (.mk k n ks)) : n.size ≤ 8 ∧ ks.length ≤ 2 := by
  rcases h.forms with ⟨m, e, hn⟩ | e | e | ⟨c, g, hk, e, hg⟩ | ⟨c, g, g', hk, e, hg, hg'⟩ <;> cases e
  · have := isNm_bd hn
    have e2 : n.data.toList.length = n.size := Array.length_toList; (exact ⟨by omega, by simp⟩)
  · exact ⟨by decide, by simp⟩
  · exact ⟨by decide, by simp⟩
  · exact ⟨by decide, by simp⟩
  · exact ⟨by decide, by simp⟩

/-- What visits a formula's nodes: it writes one variable of its own (block cb), and a list of its own (block ob). -/
structure Visit (fn : Nat) (cap : Array Value) (B cb : Nat) (Inv : List Fm → Option Nat → World → Prop) : Prop where
  hB : B ≤ cb
  lt : ∀ {done ob w}, Inv done ob w → cb < w.heap.size ∧ (∀ g, ob = some g → B ≤ g ∧ g < w.heap.size)
  alloc : ∀ {done ob w} (o : Obj), Inv done ob w → Inv done ob (w.alloc o)
  ent : ∀ (v : Value) (w : World), (callFunc fn (#[v] ++ cap)).run Try.prog w = .ok (.enter fn (#[v] ++ cap)) w
  call : ∀ done ob f v w, done.length < 200 → Fine f → Rep w (· < B) f v → Inv done ob w →
    Calls Try.prog fn (#[v] ++ cap) w fun e w' => e = .returned (.tuple #[]) ∧ ∃ ob', Inv (done ++ [f]) ob' w' ∧ Kept (fun b => b ≠ cb ∧ ob ≠ some b) w w' ∧ (ob' = ob ∨ ∃ g, ob' = some g ∧ w.heap.size ≤ g)

def Eachs (fn : Nat) (cap : Array Value) (B cb : Nat) (Inv : List Fm → Option Nat → World → Prop) (m : Nat) : Prop := ∀ done ob (f : Fm) v w, f.size < m → done.length + f.size ≤ 200 → Fine f → Rep w (· < B) f v → Inv done ob w →
  Calls Try.prog 52 #[v, .func (.func fn) #[] cap] w fun e w' => e = .returned (.tuple #[]) ∧ ∃ ob', Inv (done ++ allN f) ob' w' ∧ Kept (fun b => b ≠ cb ∧ ob ≠ some b) w w' ∧ (ob' = ob ∨ ∃ g, ob' = some g ∧ w.heap.size ≤ g)

theorem kept_on {cb : Nat} {ob ob' : Option Nat} {w w1 w2 : World} (h : Kept (fun b => b ≠ cb ∧ ob ≠ some b) w w1) (ho : ob' = ob ∨ ∃ g, ob' = some g ∧ w.heap.size ≤ g) (k : Kept (fun b => b ≠ cb ∧ ob' ≠ some b) w1 w2) : Kept (fun b => b ≠ cb ∧ ob ≠ some b) w w2 := by
  (refine ⟨k.os.trans h.os, k.tape.trans h.tape, k.output.trans h.output, Nat.le_trans h.size k.size, fun b hb hok => ?_⟩); (rw [k.block b (Nat.lt_of_lt_of_le hb h.size) ⟨hok.1, fun e => ?_⟩, h.block b hb hok])
  rcases ho with rfl | ⟨g, rfl, hg⟩
  · exact hok.2 e
  · have : g = b := Option.some.inj e
    omega
theorem own_on {ob ob' ob'' : Option Nat} {w w1 : World} (ho : ob' = ob ∨ ∃ g, ob' = some g ∧ w.heap.size ≤ g) (hs : w.heap.size ≤ w1.heap.size) (k : ob'' = ob' ∨ ∃ g, ob'' = some g ∧ w1.heap.size ≤ g) : ob'' = ob ∨ ∃ g, ob'' = some g ∧ w.heap.size ≤ g := by
  rcases k with rfl | ⟨g, rfl, hg⟩
  · exact ho
  · exact Or.inr ⟨g, rfl, by omega⟩

theorem allNs_drop {ks : List Fm} {i : Nat} {f : Fm} (h : ks[i]? = some f) : allNs (ks.take (i + 1)) = allNs (ks.take i) ++ allN f := by
  have hap : ∀ a b : List Fm, allNs (a ++ b) = allNs a ++ allNs b := by
    intro a b
    induction a with
    | nil => rw [List.nil_append, allNs, List.nil_append]
    | cons x a ih => rw [List.cons_append, allNs, allNs, ih, List.append_assoc]
  rw [List.take_add_one, h, hap]
  congr 1
  show allNs [f] = _; rw [allNs, allNs, List.append_nil]

theorem sizes_take : ∀ (ks : List Fm) (i : Nat) (f : Fm), ks[i]? = some f → Fm.sizes (ks.take i) + f.size ≤ Fm.sizes ks
  | [], i, f, h => by simp at h
  | k :: ks, 0, f, h => by simp at h; subst h; simp [Fm.sizes]
  | k :: ks, i + 1, f, h => by
    (have := sizes_take ks i f (by simpa using h)); simp only [List.take_succ_cons, Fm.sizes]; omega

set_option maxHeartbeats 4000000 in
theorem each_step {fn : Nat} {cap : Array Value} {B cb : Nat} {Inv : List Fm → Option Nat → World → Prop} (V : Visit fn cap B cb Inv) (m : Nat) (ih : Eachs fn cap B cb Inv m) : Eachs fn cap B cb Inv (m + 1) := by
  intro done ob f v w hm hN hfine hrep hinv; obtain ⟨k, n, ks⟩ := f; obtain ⟨sl, cp, rfl, hx1, hx2, hx3, hx4⟩ := Rep.def.1 hrep; have HX : Hid (ks ≠ [] → ∃ b off, sl = some ⟨b, off, none⟩ ∧ b < B ∧ Reps w (· < B) b off ks) := hx4; have HV : Hid (Visit fn cap B cb Inv) := V; obtain ⟨hcb, hob⟩ := V.lt hinv; have HO : Hid (∀ g, ob = some g → B ≤ g ∧ g < w.heap.size) := hob; have hBcb := V.hB; (have hlenI : ((ks.length : Nat) : Int) ≤ 9223372036854775807 := by unfold maxLen at hx3; omega); have hcf := V.ent; (have HC : Hid (∀ wx, Rep wx (· < B) (.mk k n ks) (.agg #[.int .i64 k, .string n, .slice sl ks.length cp]) → Inv done ob wx → Calls Try.prog fn (#[.agg #[.int .i64 k, .string n, .slice sl ks.length cp]] ++ cap) wx _) := fun wx h1 h2 => V.call done ob _ _ wx (by rw [Fm.size] at hN; omega) hfine h1 h2); have HI : Hid (Inv done ob w) := hinv; have HF : Hid (∀ (i : Nat) (kid : Fm), ks[i]? = some kid → Fine kid) := hfine.kid; clear hx4 V hinv hob hfine
  go_enter Try.func52, Try.ntmps52
  go_wp2_with fail; (refine (HC.out _ (hrep.move fun b hb hok => ⟨Below.heap_alloc _ _ _ hb, hok⟩) (HV.out.alloc _ HI.out)).mono ?_); rintro e w1 ⟨rfl, ob1, hinv1, hk1, ho1⟩; (have hk0 : Kept (fun b => b ≠ cb ∧ ob ≠ some b) w w1 := ((Kept.refl _ w).alloc _).trans hk1)
  have ho0 : ob1 = ob ∨ ∃ g, ob1 = some g ∧ w.heap.size ≤ g := by
    rcases ho1 with h | ⟨g, h, hg⟩
    · exact Or.inl h
    · exact Or.inr ⟨g, h, by simp at hg; omega⟩
  (have q0 : w1.heap[w.heap.size]? = some (.cells #[.int .i64 k, .string n, .slice sl ks.length cp] 24 (0, 0)) := (hk1.block _ (by simp) ⟨by omega, fun e => by have := (HO.out _ e).2; omega⟩).trans (blk_new _ _)); have HI1 : Hid (Inv (done ++ [Fm.mk k n ks]) ob1 w1) := hinv1; (have HK0 : Hid (Kept (fun b => b ≠ cb ∧ ob ≠ some b) w w1) := hk0); have HO0 : Hid (ob1 = ob ∨ ∃ g, ob1 = some g ∧ w.heap.size ≤ g) := ho0; clear hinv1 hk1 hk0 ho0 ho1 HC hcf; obtain ⟨e0, e1, e2, -⟩ := blk3 q0; (have hmf : ∀ (fn : Fn) (first cap : Array Value) (w : World), (Instr.makeFunc fn first cap).run Try.prog w = .ok (.func fn first cap) w := fun _ _ _ _ => rfl); go_wp2_with fail
  go_loopg [12] ks.length (fun g c wr => ∃ i obr, i ≤ ks.length ∧ g = ks.length - i ∧ c = .int .i64 (i : Nat) ∧ Hid (Inv (done ++ [Fm.mk k n ks] ++ allNs (ks.take i)) obr wr) ∧ Hid (Kept (fun b => b ≠ cb ∧ ob ≠ some b) w wr) ∧ Hid (obr = ob ∨ ∃ g, obr = some g ∧ w.heap.size ≤ g))
  case atStart =>
    (refine ⟨0, ob1, by omega, by omega, rfl, ?_, HK0, HO0⟩); show Inv _ _ _; rw [List.take_zero, allNs, List.append_nil]; exact HI1.out
  case round =>
    obtain ⟨i, obr, hile, hg, rfl, HIr, HKr, HOr⟩ := hrel; have HG : Hid (gk = ks.length - i) := hg; clear hg; by_cases hlt : i < ks.length
    · obtain ⟨⟨k2, n2, ks2⟩, hki⟩ : ∃ f, ks[i]? = some f := ⟨_, List.getElem?_eq_getElem hlt⟩
      (have hltI : (i : Int) < (ks.length : Int) := by omega); (have hlc : ((i : Nat) : Int) < ((cp : Nat) : Int) := by omega); (obtain ⟨b, off, hsl, hbB, hrs⟩ := HX.out (fun e => by rw [e] at hlt; simp at hlt)); subst hsl; (have hbB' : Below B w wr := HKr.out.below (by omega) fun b hb => ⟨by omega, fun e => by have := (HO.out b e).1; omega⟩); obtain ⟨sl2, cap2, g0, g1, g2, hrep2⟩ := (hrs.low hbB hbB').at i k2 n2 ks2 hki; have hfk : Fine (.mk k2 n2 ks2) := HF.out i _ hki; (have hszm : (Fm.mk k2 n2 ks2).size < m := by have := sizes_get hki; rw [Fm.size] at hm; omega)
      have hNN : (done ++ [Fm.mk k n ks] ++ allNs (ks.take i)).length + (Fm.mk k2 n2 ks2).size ≤ 200 := by
        have h1 := sizes_take ks i _ hki; rw [Fm.size] at hN; simp only [List.length_append, List.length_singleton, allNs_len]; omega
      (have HIH : Hid (∀ wx, Rep wx (· < B) (.mk k2 n2 ks2) (.agg #[.int .i64 k2, .string n2, .slice sl2 ks2.length cap2]) → Inv (done ++ [Fm.mk k n ks] ++ allNs (ks.take i)) obr wx → Calls Try.prog 52 #[.agg #[.int .i64 k2, .string n2, .slice sl2 ks2.length cap2], .func (.func fn) #[] cap] wx _) := fun wx h1 h2 => ih _ obr _ _ wx hszm hNN hfk h1 h2); have HD : Hid (allNs (ks.take (i + 1)) = allNs (ks.take i) ++ allN (.mk k2 n2 ks2)) := allNs_drop hki; have HR2 : Hid (Rep wr (· < B) (.mk k2 n2 ks2) (.agg #[.int .i64 k2, .string n2, .slice sl2 ks2.length cap2])) := hrep2; clear hki hrs hrep HX hNN hrep2
      go_wp2_with (first
        | (go_at_call 52
           (refine (HIH.out _ (HR2.out.move fun b hb hok => ⟨Below.heap_alloc _ _ _ hb, hok⟩) (HV.out.alloc _ HIr.out)).mono ?_); rintro e w2 ⟨rfl, ob2, hinv2, hk2, ho2⟩; have HI2 : Hid (Inv (done ++ [Fm.mk k n ks] ++ allNs (ks.take i) ++ allN (.mk k2 n2 ks2)) ob2 w2) := hinv2; (have hk3 : Kept (fun b => b ≠ cb ∧ obr ≠ some b) wr w2 := ((Kept.refl _ wr).alloc _).trans hk2)
           have ho3 : ob2 = obr ∨ ∃ g, ob2 = some g ∧ wr.heap.size ≤ g := by
             rcases ho2 with h | ⟨g, h, hg⟩
             · exact Or.inl h
             · exact Or.inr ⟨g, h, by simp at hg; omega⟩
           (have HK2 : Hid (Kept (fun b => b ≠ cb ∧ ob ≠ some b) w w2) := kept_on HKr.out HOr.out hk3); have HO2 : Hid (ob2 = ob ∨ ∃ g, ob2 = some g ∧ w.heap.size ≤ g) := own_on HOr.out HKr.out.size ho3
           clear hinv2 hk2 ho2 hk3 ho3)
        | fail)
      go_roundg (ks.length - (i + 1))
      case measure => have := HG.out; omega
      case rel =>
        (refine ⟨i + 1, ob2, by omega, rfl, by go_num, ?_, HK2, HO2⟩); show Inv _ _ _; rw [HD.out, ← List.append_assoc]; exact HI2.out
    · have HE : Hid (Inv (done ++ allN (.mk k n ks)) obr wr) := by
        show Inv _ _ _; have := HIr.out; (rw [List.take_of_length_le (by omega), List.append_assoc] at this); rw [allN]; exact this
      (have hge : ¬ (i : Int) < (ks.length : Int) := by omega); clear HX hrep HIr; go_wp2_with fail
      go_end0
      exact ⟨rfl, obr, HE.out, HKr.out, HOr.out⟩

theorem eachs_all {fn : Nat} {cap : Array Value} {B cb : Nat} {Inv : List Fm → Option Nat → World → Prop} (V : Visit fn cap B cb Inv) : ∀ m, Eachs fn cap B cb Inv m
  | 0 => fun _ _ _ _ _ h => absurd h (Nat.not_lt_zero _)
  | m + 1 => each_step V m (eachs_all V m)

theorem each_any {fn : Nat} {cap : Array Value} {B cb : Nat} {Inv : List Fm → Option Nat → World → Prop} (V : Visit fn cap B cb Inv) (ob : Option Nat) (f : Fm) (v : Value) (w : World) (hs : f.size ≤ 200) (hf : Fine f) (hrep : Rep w (· < B) f v) (hi : Inv [] ob w) :
    Calls Try.prog 52 #[v, .func (.func fn) #[] cap] w fun e w' => e = .returned (.tuple #[]) ∧ ∃ ob', Inv (allN f) ob' w' ∧ Kept (fun b => b ≠ cb ∧ ob ≠ some b) w w' ∧ (ob' = ob ∨ ∃ g, ob' = some g ∧ w.heap.size ≤ g) :=
  eachs_all V (f.size + 1) [] ob f v w (Nat.lt_succ_self _) (by simpa using hs) hf hrep hi
end Go.Proofs.Ytlmjnglcdgkomaa
