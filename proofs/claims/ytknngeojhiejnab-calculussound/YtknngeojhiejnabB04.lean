/- Texts of one proof, one behind the other: Vast2, Math11, Own1, Fault1, Each1, Count1, Put1, Names1, Names2, Swaps1, Parts1. -/
import Derived.Test.YtknngeojhiejnabB03
import Derived.Deep.RegionLaw
import Derived.Deep.DeepCutAuto
import Derived.Shelf.Sort.Plain
import Derived.Shelf.Slices.CompactS
import Derived.Shelf.Slices.In.SortNone
import Derived.Test.YtknngeojhiejnabProg
import Derived.Sort.OwnSorted
/- Walks: a formula that is not vast; cells that are formulas. -/
namespace Go.Proofs.Ytknngeojhiejnab
open Go.RowKit

/-- No node has more than 25000 kids. -/
inductive Slim : Fm → Prop
  | mk (k : Int) (n : ByteArray) (ks : List Fm) (h : ks.length ≤ 25000) (hk : ∀ (i : Nat) (f : Fm), ks[i]? = some f → Slim f) : Slim (.mk k n ks)
theorem Slim.len {k : Int} {n : ByteArray} {ks : List Fm} (h : Slim (.mk k n ks)) : ks.length ≤ 25000 := by cases h; assumption
theorem Slim.kid {k : Int} {n : ByteArray} {ks : List Fm} (h : Slim (.mk k n ks)) (i : Nat) (f : Fm) (hi : ks[i]? = some f) : Slim f := by
  cases h with
  | mk _ _ _ _ hk => exact hk i f hi

/-- A bool is answered; where it is false, the formula is no vast one. -/
def IsV (f : Fm) (e : Ending) : Prop := ∃ b, e = .returned (.bool b) ∧ (b = false → Slim f)

def Vasts2 (m : Nat) : Prop := ∀ (f : Fm) (v : Value) (deep : Int) (w : World), f.size < m → 0 ≤ deep → deep ≤ 25001 → Rep w (fun _ => True) f v →
  Calls Try.prog 13 #[v, .int .i64 deep] w fun e w' => IsV f e ∧ Below w.heap.size w w'

set_option maxHeartbeats 1000000 in
theorem vast2_step (m : Nat) (ih : Vasts2 m) : Vasts2 (m + 1) := by
  intro f v deep w hm hd0 hd hrep
  obtain ⟨k, n, ks⟩ := f
  obtain ⟨sl, cap, rfl, hx1, hx2, hx3, hx4⟩ := Rep.def.1 hrep
  have HX : Hid (ks ≠ [] → ∃ b off, sl = some ⟨b, off, none⟩ ∧ True ∧ Reps w (fun _ => True) b off ks) := hx4
  clear hx4
  have hb0 : Below w.heap.size w (w.alloc (.cells #[.int .i64 k, .string n, .slice sl ks.length cap] 37 (0, 0))) := (Below.refl _ _).alloc (Nat.le_refl _) _
  have hlen : ((ks.length : Nat) : Int) ≤ 9223372036854775807 := by unfold maxLen at hx3; omega
  by_cases h1 : 25000 < deep
  · go_enter Try.func13, Try.ntmps13
    go_wp2_with fail
    go_ret
    exact ⟨⟨_, rfl, fun h => by cases h⟩, hb0⟩
  · by_cases h2 : 25000 < ks.length
    · have h2' : (25000 : Int) < (ks.length : Int) := by omega
      go_enter Try.func13, Try.ntmps13
      go_wp2_with fail
      go_ret
      exact ⟨⟨_, rfl, fun h => by cases h⟩, hb0⟩
    · have h2' : (ks.length : Int) ≤ 25000 := by omega
      have h1' : deep ≤ 25000 := by omega
      clear h1 h2
      go_enter Try.func13, Try.ntmps13
      go_wp2_with fail
      go_loopg [5] ks.length (fun g c wr => ∃ i, i ≤ ks.length ∧ g = ks.length - i ∧ c = .int .i64 (i : Nat) ∧ Below w.heap.size w wr ∧ wr.heap[w.heap.size]? = some (.cells #[.int .i64 k, .string n, .slice sl ks.length cap] 37 (0, 0)) ∧ Hid (∀ (j : Nat) (f : Fm), j < i → ks[j]? = some f → Slim f))
      case atStart => exact ⟨0, by omega, by omega, rfl, hb0, blk_new _ _, fun j f hj => absurd hj (Nat.not_lt_zero _)⟩
      case round =>
        obtain ⟨i, hi, hg, rfl, hbr, q0, HS⟩ := hrel
        have HG : Hid (gk = ks.length - i) := hg
        clear hg
        have f2 := blk_cell q0 2
        simp at f2
        by_cases hlt : i < ks.length
        · obtain ⟨b, off, hsl, -, hrs⟩ := HX.out (fun e => by rw [e] at hlt; simp at hlt)
          subst hsl
          obtain ⟨⟨k2, n2, ks2⟩, hki⟩ : ∃ f, ks[i]? = some f := ⟨_, List.getElem?_eq_getElem hlt⟩
          obtain ⟨sl2, cap2, g0, g1, g2, hrep2⟩ := (hrs.up hbr).at i k2 n2 ks2 hki
          have hlt2 : (i : Int) < (ks.length : Int) := by omega
          have hsz : (Fm.mk k2 n2 ks2).size < m := by have := sizes_get hki; rw [Fm.size] at hm; omega
          have z0 := lt_of_block q0
          have zz := hbr.size
          have HK : Hid (ks[i]? = some (.mk k2 n2 ks2)) := hki
          clear hki hrs hrep HX hb0
          go_wp2_with (first
            | (go_at_call 13
               refine (ih _ _ _ _ hsz (by omega) (by omega) hrep2).mono ?_
               rintro e w1 ⟨⟨bb, rfl, hbb⟩, hb1⟩
               have HB : Hid (bb = false → Slim (.mk k2 n2 ks2)) := hbb
               clear hbb
               cases bb)
            | fail)
          · have z1 := hb1.size
            go_roundg (ks.length - (i + 1))
            case measure => have := HG.out; omega
            case rel =>
              refine ⟨i + 1, by omega, rfl, by go_num, hbr.trans (hb1.mono zz), (hb1.block _ z0).trans q0, fun j f hj hf => ?_⟩
              rcases Nat.lt_or_ge j i with h | h
              · exact HS.out j f h hf
              · obtain rfl : j = i := by omega
                have := HK.out.symm.trans hf
                obtain rfl := Option.some.inj this
                exact HB.out trivial
          · go_ret
            exact ⟨⟨_, rfl, fun h => by cases h⟩, hbr.trans (hb1.mono zz)⟩
        · go_wp2_with fail
          go_ret
          refine ⟨⟨_, rfl, fun _ => Slim.mk k n ks (by omega) fun j f hf => HS.out j f ?_ hf⟩, hbr⟩
          rcases Nat.lt_or_ge j ks.length with h | h
          · omega
          · rw [List.getElem?_eq_none h] at hf; cases hf

theorem vasts2_all : ∀ m, Vasts2 m
  | 0 => fun _ _ _ _ h => absurd h (Nat.not_lt_zero _)
  | m + 1 => vast2_step m (vasts2_all m)

theorem vast2_any (f : Fm) (v : Value) (w : World) (hrep : Rep w (fun _ => True) f v) :
    Calls Try.prog 13 #[v, .int .i64 0] w fun e w' => IsV f e ∧ Below w.heap.size w w' :=
  vasts2_all (f.size + 1) f v 0 w (Nat.lt_succ_self _) (by omega) (by omega) hrep

/-- Cells, three by three, that are formulas over blocks for which ok holds. -/
def LQ (ok : Nat → Prop) (w : World) : List Value → List Fm → Prop
  | [], [] => True
  | c0 :: c1 :: c2 :: cs, f :: fs => Rep w ok f (.agg #[c0, c1, c2]) ∧ LQ ok w cs fs
  | _, _ => False

theorem LQ.len {ok : Nat → Prop} {w : World} : ∀ {cs : List Value} {fs : List Fm}, LQ ok w cs fs → cs.length = fs.length * 3
  | [], [], _ => rfl
  | _ :: _ :: _ :: _, _ :: _, h => by have := LQ.len h.2; simp; omega
theorem LQ.append {ok : Nat → Prop} {w : World} : ∀ {cs : List Value} {fs : List Fm} {ds : List Value} {gs : List Fm}, LQ ok w cs fs → LQ ok w ds gs → LQ ok w (cs ++ ds) (fs ++ gs)
  | [], [], _, _, _, k => k
  | _ :: _ :: _ :: _, _ :: _, _, _, h, k => ⟨h.1, LQ.append h.2 k⟩
theorem LQ.move {ok ok' : Nat → Prop} {w w' : World} (hm : ∀ b, b < w.heap.size → ok b → w'.heap[b]? = w.heap[b]? ∧ ok' b) : ∀ {cs : List Value} {fs : List Fm}, LQ ok w cs fs → LQ ok' w' cs fs
  | [], [], _ => trivial
  | _ :: _ :: _ :: _, _ :: _, h => ⟨h.1.move hm, LQ.move hm h.2⟩
theorem LQ.reps {ok : Nat → Prop} {w : World} {b : Nat} : ∀ {cs : List Value} {fs : List Fm} (off : Nat), LQ ok w cs fs → (∀ (j : Nat) (u : Value), cs[j]? = some u → w.cell? ⟨b, off + j, none⟩ = some u) → Reps w ok b off fs
  | [], [], _, _, _ => Reps.nil
  | c0 :: c1 :: c2 :: cs, f :: fs, off, h, hc => Reps.cons.2 ⟨⟨c0, c1, c2, hc 0 c0 rfl, hc 1 c1 rfl, hc 2 c2 rfl, h.1⟩, LQ.reps (off + 3) h.2 fun j u hu => by
      have := hc (j + 3) u (by simpa using hu)
      rwa [show off + (j + 3) = off + 3 + j by omega] at this⟩
end Go.Proofs.Ytknngeojhiejnab
/- The plain mathematics of layer 1, eleven: Check, node by node in a list. -/
namespace Go.Proofs.Ytknngeojhiejnab

/-- The first fault of a list of nodes, from number s on. -/
def run : List Fm → Nat → Chk
  | [], s => .ok s
  | .mk k n ks :: fs, s => if s = 200 then .bad 2 0 else match nodeF k n ks.length with
    | some c => .bad c s
    | none => run fs (s + 1)

end Go.Proofs.Ytknngeojhiejnab
/- Walks: a copy of a formula. -/
namespace Go.Proofs.Ytknngeojhiejnab
open Go.RowKit

/-- What a copy has made so far: the list of its kids. -/
def KO (B : Nat) (w : World) (ad : Option Addr) (cap : Nat) (fs : List Fm) : Prop := ∃ cs, w.ownsRow B 37 3 (.slice ad fs.length cap) fs.length cs ∧ LQ (fun b => B ≤ b ∧ (Value.slice ad fs.length cap).ownBlock ≠ some b) w cs fs

theorem KO.nil {B : Nat} {w : World} : KO B w none 0 [] := ⟨[], ⟨rfl, Or.inl ⟨rfl, rfl⟩⟩, trivial⟩
theorem KO.same {B : Nat} {w w' : World} {ad : Option Addr} {cap : Nat} {fs : List Fm} (h : KO B w ad cap fs) (hb : ∀ b, B ≤ b → b < w.heap.size → w'.heap[b]? = w.heap[b]?) : KO B w' ad cap fs := by
  obtain ⟨cs, ⟨h1, h2⟩, h3⟩ := h
  refine ⟨cs, ⟨h1, ?_⟩, h3.move fun b hb1 hb2 => ⟨hb b hb2.1 hb1, hb2⟩⟩
  rcases h2 with h2 | ⟨g, cap, cur, hv, hg, hh, r⟩
  · exact Or.inl h2
  · exact Or.inr ⟨g, cap, cur, hv, hg, (hb g hg (lt_of_block hh)).trans hh, r⟩
theorem KO.up {B : Nat} {w w' : World} {ad : Option Addr} {cap : Nat} {fs : List Fm} (h : KO B w ad cap fs) (hb : Below w.heap.size w w') : KO B w' ad cap fs := h.same fun b _ hb1 => hb.block b hb1

/-- One kid more. -/
theorem KO.app {B : Nat} {w1 w3 : World} {o : Obj} {ad : Option Addr} {cp : Nat} {fs : List Fm} {kid : Fm} {c0 c1 c2 : Value} {cs : List Value} {g3 cp3 i : Nat} (hi : fs.length = i) (hB : B ≤ w1.heap.size)
    (hown : (w1.alloc o).ownsRow B 37 3 (.slice ad i cp) i cs) (hlq : LQ (fun b => B ≤ b ∧ (Value.slice ad i cp).ownBlock ≠ some b) (w1.alloc o) cs fs)
    (hrep : Rep w1 (fun b => B ≤ b ∧ (Value.slice ad i cp).ownBlock ≠ some b) kid (.agg #[c0, c1, c2]))
    (hown3 : w3.ownsRow B 37 3 (.slice (some ⟨g3, 0, none⟩) (i + 1) cp3) (i + 1) (cs ++ [c0, c1, c2]))
    (hgrow : (w1.alloc o).grownBy w3 (Value.slice ad i cp).ownBlock) (hat : (Value.slice ad i cp).ownBlock = some g3 ∨ g3 = (w1.alloc o).heap.size) :
    Below B w1 w3 ∧ KO B w3 (some ⟨g3, 0, none⟩) cp3 (fs ++ [kid]) := by
  subst hi
  have hs : (w1.alloc o).heap.size = w1.heap.size + 1 := by simp
  have hs2 := hgrow.size
  refine ⟨⟨hgrow.os, hgrow.tape, hgrow.output, by omega, fun j hj => ?_⟩, cs ++ [c0, c1, c2], ?_, ?_⟩
  · rw [hgrow.block j (by omega) (fun e => by have := (hown.lt j e.symm).1; omega), Below.heap_alloc _ _ _ (by omega)]
  · rw [List.length_append]; exact hown3
  · refine (hlq.append (ds := [c0, c1, c2]) (gs := [kid]) ⟨hrep.move fun b hb hok => ⟨Below.heap_alloc _ _ _ hb, hok⟩, trivial⟩).move fun b hb hok => ⟨hgrow.block b hb (fun e => hok.2 e.symm), hok.1, fun e => ?_⟩
    have e : g3 = b := by simpa [Value.ownBlock] using e
    rcases hat with h | h
    · exact hok.2 (by rw [h, e])
    · omega

/-- The list is a formula's kids. -/
theorem KO.rep {B : Nat} {w : World} {ad : Option Addr} {cap : Nat} {ks : List Fm} (h : KO B w ad cap ks) (k : Int) (n : ByteArray) (hn : n.size ≤ maxLen) : Rep w (B ≤ ·) (.mk k n ks) (.agg #[.int .i64 k, .string n, .slice ad ks.length cap]) := by
  obtain ⟨cs, hown, hlq⟩ := h
  rcases hown.2 with ⟨hv, h0⟩ | ⟨g, cp, cur, hv, hg, hh, h1, h2, -⟩
  · simp only [Value.slice.injEq] at hv
    obtain ⟨rfl, -, rfl⟩ := hv
    exact Rep.def.2 ⟨none, 0, rfl, hn, by omega, by simp, fun hne => absurd (List.length_eq_zero_iff.1 h0) hne⟩
  · simp only [Value.slice.injEq, true_and] at hv
    obtain ⟨rfl, rfl⟩ := hv
    refine Rep.def.2 ⟨_, cap, rfl, hn, h1, h2, fun _ => ⟨g, 0, rfl, hg, ?_⟩⟩
    have := (hlq.move (ok' := (B ≤ ·)) fun b _ hb => ⟨rfl, hb.1⟩).reps (b := g) 0 fun j u hu => by
      have := hown.cells (g := g) rfl j u hu
      rw [add_none] at this
      exact this
    exact this

end Go.Proofs.Ytknngeojhiejnab
/- Walks: FormulaFault of the yardstick. -/
namespace Go.Proofs.Ytknngeojhiejnab
open Go.RowKit

theorem LR.reps {A : Nat} {w : World} {b : Nat} : ∀ {cs : List Value} {fs : List Fm} (off : Nat), LR A w cs fs → (∀ (j : Nat) (u : Value), cs[j]? = some u → w.cell? ⟨b, off + j, none⟩ = some u) → Reps w (fun _ => True) b off fs
  | [], [], _, _, _ => Reps.nil
  | c0 :: c1 :: c2 :: cs, f :: fs, off, h, hc => Reps.cons.2 ⟨⟨c0, c1, c2, hc 0 c0 rfl, hc 1 c1 rfl, hc 2 c2 rfl, h.1.all⟩, LR.reps (off + 3) h.2 fun j u hu => by
      have := hc (j + 3) u (by simpa using hu)
      rwa [show off + (j + 3) = off + 3 + j by omega] at this⟩

/-- A list that a call has made, as kids are. -/
theorem LO.reps {A B : Nat} {w : World} {v : Value} {fs : List Fm} (h : LO A B w v fs) : ∃ g cap, v = .slice (some ⟨g, 0, none⟩) fs.length cap ∧ fs.length ≤ cap ∧ cap ≤ maxLen ∧ Reps w (fun _ => True) g 0 fs := by
  obtain ⟨g, cap, cs, rfl, hown, hlr⟩ := h
  rcases hown.2 with ⟨hv, h0⟩ | ⟨g', cp, cur, hv, hg, hh, h1, h2, -⟩
  · cases hv
  · simp only [Value.slice.injEq, true_and] at hv
    obtain ⟨-, rfl⟩ := hv
    refine ⟨g, cap, rfl, h1, h2, hlr.reps 0 fun j u hu => ?_⟩
    have := hown.cells (g := g) rfl j u hu
    rw [add_none] at this
    exact this

theorem Rep.name {w : World} {ok : Nat → Prop} {k : Int} {n : ByteArray} {ks : List Fm} {v : Value} (h : Rep w ok (.mk k n ks) v) : n.size ≤ maxLen ∧ ks.length ≤ maxLen := by
  obtain ⟨sl, cap, -, h1, h2, h3, -⟩ := Rep.def.1 h
  exact ⟨h1, by omega⟩

def Chk.code : Chk → Int × Int
  | .ok _ => (0, 0)
  | .bad c a => (c, a)
end Go.Proofs.Ytknngeojhiejnab
/- Walks: eachNode, whatever visits. -/
namespace Go.Proofs.Ytknngeojhiejnab
open Go.RowKit

theorem Fine.small {k : Int} {n : ByteArray} {ks : List Fm} (h : Fine (.mk k n ks)) : n.size ≤ 8 ∧ ks.length ≤ 2 := by
  rcases h.forms with ⟨m, e, hn⟩ | e | e | ⟨c, g, hk, e, hg⟩ | ⟨c, g, g', hk, e, hg, hg'⟩ <;> cases e
  · have := isNm_bd hn
    have e2 : n.data.toList.length = n.size := Array.length_toList
    exact ⟨by omega, by simp⟩
  · exact ⟨by decide, by simp⟩
  · exact ⟨by decide, by simp⟩
  · exact ⟨by decide, by simp⟩
  · exact ⟨by decide, by simp⟩

theorem sizes_take : ∀ (ks : List Fm) (i : Nat) (f : Fm), ks[i]? = some f → Fm.sizes (ks.take i) + f.size ≤ Fm.sizes ks
  | [], i, f, h => by simp at h
  | k :: ks, 0, f, h => by simp at h; subst h; simp [Fm.sizes]
  | k :: ks, i + 1, f, h => by
    have := sizes_take ks i f (by simpa using h)
    simp only [List.take_succ_cons, Fm.sizes]; omega

end Go.Proofs.Ytknngeojhiejnab
/- Walks: how many nodes there are. -/
namespace Go.Proofs.Ytknngeojhiejnab
open Go.RowKit

def hasN (nm : ByteArray) : Fm → Bool
  | .mk k n _ => decide (k = 1) && decide (n.data.toList = nm.data.toList)

theorem blk1 {w : World} {b : Nat} {c0 : Value} {T : TypeId} (h : w.heap[b]? = some (.cells #[c0] T (0, 0))) : w.cell? ⟨b, 0, none⟩ = some c0 ∧ w.frozen? ⟨b, 0, none⟩ = false := ⟨blk_cell h 0, blk_fz h 0⟩
/-! With a formula of s nodes for a name. -/
def cntW (nm : ByteArray) (s : Nat) : List Fm → Nat
  | [] => 0
  | f :: fs => (if hasN nm f = true then s else 1) + cntW nm s fs
end Go.Proofs.Ytknngeojhiejnab
/- Walks: copies, and a formula for a name. -/
namespace Go.Proofs.Ytknngeojhiejnab
open Go.RowKit

mutual
def putF (nm : ByteArray) (g : Fm) : Fm → Fm
  | .mk k n ks => if hasN nm (.mk k n []) = true then g else .mk k n (putFs nm g ks)
def putFs (nm : ByteArray) (g : Fm) : List Fm → List Fm
  | [] => []
  | f :: fs => putF nm g f :: putFs nm g fs
end
end Go.Proofs.Ytknngeojhiejnab
/- Walks: the names in a formula, as they come. -/
namespace Go.Proofs.Ytknngeojhiejnab
open Go.RowKit

theorem infoText : ∃ i, Try.prog.info? 9 = some i ∧ i.zero = some (.string ⟨#[]⟩) ∧ i.size = 1 ∧ i.bytes = 16 := by
  obtain ⟨i, hi, h⟩ := Option.map_eq_some_iff.1 (show (Try.prog.info? 9).map (fun i => (i.zero, i.size, i.bytes)) = some (some (.string ⟨#[]⟩), 1, 16) by kernel_rfl)
  simp only [Prod.mk.injEq] at h
  exact ⟨i, hi, h.1, h.2.1, h.2.2⟩

def nmsOf : List Fm → List ByteArray
  | [] => []
  | .mk k n _ :: fs => if k = 1 then n :: nmsOf fs else nmsOf fs
theorem nmsOf_append : ∀ a b : List Fm, nmsOf (a ++ b) = nmsOf a ++ nmsOf b
  | [], b => rfl
  | .mk k n ks :: a, b => by
    rw [List.cons_append, nmsOf, nmsOf, nmsOf_append a b]
    split <;> rfl
end Go.Proofs.Ytknngeojhiejnab
/- Walks: Names. -/
namespace Go.Proofs.Ytknngeojhiejnab
open Go.RowKit Go.Sort

abbrev srt (ss : List (List UInt8)) : List (List UInt8) := ss.mergeSort fun x y => decide (x ≤ y)

theorem compact_mem (zs : List (List UInt8)) (t : List UInt8) : t ∈ Lib.compact zs ↔ t ∈ zs := by
  unfold Lib.compact Lib.compactUpTo
  constructor
  · intro h
    obtain ⟨j, hj, rfl⟩ := List.mem_map.1 h
    have hj := List.mem_range.1 (List.mem_filter.1 hj).1
    rw [getElem!_pos _ j (by simpa using hj)]
    simp
  · intro h
    obtain ⟨j, hj, rfl⟩ := List.getElem_of_mem h
    have key : ∀ j, j < zs.length → zs.toArray[j]! ∈ ((List.range zs.length).filter (Lib.keeps zs.toArray)).map (zs.toArray[·]!) := by
      intro j
      induction j with
      | zero => intro hj; exact List.mem_map.2 ⟨0, List.mem_filter.2 ⟨List.mem_range.2 hj, by simp [Lib.keeps]⟩, rfl⟩
      | succ j ih =>
        intro hj
        by_cases hk : Lib.keeps zs.toArray (j + 1) = true
        · exact List.mem_map.2 ⟨j + 1, List.mem_filter.2 ⟨List.mem_range.2 hj, hk⟩, rfl⟩
        · have e : zs.toArray[j + 1]! = zs.toArray[j]! := by
            simpa [Lib.keeps] using hk
          rw [e]
          exact ih (by omega)
    have := key j hj
    rw [getElem!_pos _ j (by simpa using hj)] at this
    simpa using this

/-- A list of texts in memory. -/
def TL (w : World) (v : Value) (l : List (List UInt8)) : Prop := ∃ ad cap, v = .slice ad l.length cap ∧ l.length ≤ cap ∧ cap ≤ maxLen ∧ (l ≠ [] → ∃ g, ad = some ⟨g, 0, none⟩ ∧ ∀ (j : Nat) (t : List UInt8), l[j]? = some t → w.cell? ⟨g, j, none⟩ = some (.string ⟨t.toArray⟩))
theorem TL.up {w w' : World} {v : Value} {l : List (List UInt8)} (h : TL w v l) (hb : Below w.heap.size w w') : TL w' v l := by
  obtain ⟨ad, cap, h1, h2, h3, h4⟩ := h
  refine ⟨ad, cap, h1, h2, h3, fun hne => ?_⟩
  obtain ⟨g, h5, h6⟩ := h4 hne
  exact ⟨g, h5, fun j t ht => by
    have := h6 j t ht
    rw [hb.cell (p := ⟨g, j, none⟩) (lt_of_cell this)]
    exact this⟩
theorem TL.nil {w : World} : TL w (.slice none 0 0) [] := ⟨none, 0, rfl, by simp, by simp, fun h => absurd rfl h⟩

/-- The names in a formula, each once, rising. -/
def nmsT (f : Fm) : List (List UInt8) := (nmsOf (allN f)).map (·.data.toList)
def nmsU (f : Fm) : List (List UInt8) := Lib.compact (srt (nmsT f))
theorem nmsU_mem (f : Fm) (t : List UInt8) : t ∈ nmsU f ↔ t ∈ nmsT f := by
  unfold nmsU
  rw [compact_mem]
  exact List.mem_mergeSort

end Go.Proofs.Ytknngeojhiejnab
/- Walks: what FormulaSwaps calls. -/
namespace Go.Proofs.Ytknngeojhiejnab
open Go.RowKit

theorem txt_eq (a b : List UInt8) : ((⟨a.toArray⟩ : ByteArray).toList = (⟨b.toArray⟩ : ByteArray).toList) ↔ a = b := by
  rw [ByteArray.toList_eq, ByteArray.toList_eq]

set_option maxHeartbeats 1000000 in
theorem hasText_any (l : List (List UInt8)) (t : List UInt8) (v : Value) (w : World) (h : TL w v l) :
    Calls Try.prog 18 #[v, .string ⟨t.toArray⟩] w fun e w' => e = .returned (.bool (decide (t ∈ l))) ∧ w' = w := by
  obtain ⟨ad, cap, rfl, h1, h2, h3⟩ := h
  have hlI : (l.length : Int) ≤ 9223372036854775807 := by unfold maxLen at h2; omega
  have H3 : Hid (l ≠ [] → ∃ g, ad = some ⟨g, 0, none⟩ ∧ ∀ (j : Nat) (t : List UInt8), l[j]? = some t → w.cell? ⟨g, j, none⟩ = some (.string ⟨t.toArray⟩)) := h3
  clear h3
  go_enter Try.func18, Try.ntmps18
  go_wp2_with fail
  go_loopg [5] l.length (fun g c wr => ∃ i, i ≤ l.length ∧ g = l.length - i ∧ c = .int .i64 (i : Nat) ∧ wr = w ∧ Hid (t ∉ l.take i))
  case atStart => exact ⟨0, by omega, by omega, rfl, rfl, by show _ ∉ _; simp⟩
  case round =>
    obtain ⟨i, hi, hg, rfl, rfl, HN⟩ := hrel
    have HG : Hid (gk = l.length - i) := hg
    clear hg
    by_cases hlt : i < l.length
    · obtain ⟨x, hx⟩ : ∃ x, l[i]? = some x := ⟨_, List.getElem?_eq_getElem hlt⟩
      obtain ⟨g, rfl, hc⟩ := H3.out (fun e => by rw [e] at hlt; simp at hlt)
      have g0 := hc i x hx
      have hltI : (i : Int) < (l.length : Int) := by omega
      have hlc : (i : Int) < (cap : Int) := by omega
      have HX : Hid (l[i]? = some x) := hx
      clear hc hx H3
      by_cases hxt : x = t
      · subst hxt
        have HD : Hid (decide (x ∈ l) = true) := by
          show _ = _
          exact decide_eq_true (List.mem_of_getElem? HX.out)
        go_wp2_with fail
        go_ret
        exact ⟨by rw [HD.out]; rfl, rfl⟩
      · have hne : ((⟨x.toArray⟩ : ByteArray).toList == (⟨t.toArray⟩ : ByteArray).toList) = false := by
          rw [beq_eq_false_iff_ne, Ne, txt_eq]; exact hxt
        have HNN : Hid (t ∉ l.take (i + 1)) := by
          show _ ∉ _
          rw [List.take_add_one, HX.out]
          intro hm
          rcases List.mem_append.1 hm with h | h
          · exact HN.out h
          · simp at h; exact hxt h.symm
        generalize hb : (⟨x.toArray⟩ : ByteArray) = X at *
        generalize hb2 : (⟨t.toArray⟩ : ByteArray) = Y at *
        clear hb hb2 HX
        go_wp2_with fail
        go_roundg (l.length - (i + 1))
        case measure => have := HG.out; omega
        case rel => exact ⟨i + 1, by omega, rfl, by go_num, rfl, HNN⟩
    · have HD : Hid (decide (t ∈ l) = false) := by
        show _ = _
        have := HN.out
        rw [List.take_of_length_le (by omega)] at this
        exact decide_eq_false this
      have hge : ¬ (i : Int) < (l.length : Int) := by omega
      clear H3 HN
      go_wp2_with fail
      go_ret
      exact ⟨by rw [HD.out]; rfl, rfl⟩

set_option maxHeartbeats 1000000 in
theorem named_any (n : ByteArray) (w : World) :
    Calls Try.prog 37 #[.string n] w fun e w' => e = .returned (.agg #[.int .i64 1, .string n, .slice none 0 0]) ∧ Below w.heap.size w w' := by
  have B := (Below.refl w.heap.size w).alloc (Nat.le_refl _)
  go_enter Try.func37, Try.ntmps37
  go_wp2_with fail
  exact bodyPost_ret (v := .agg #[.int .i64 1, .string n, .slice none 0 0]) (by simp [results, Try.results37, go_sem]) rfl ⟨rfl, B _⟩

theorem code_zero {f : Fm} (h : f.code.1 = 0) : f.code = (0, 0) := by
  rcases hx : chk f 0 with s | ⟨c, a⟩
  · simp only [Fm.code, hx]
  · have := chk_code f 0 c a hx
    simp only [Fm.code, hx] at h
    exact absurd h this
theorem code_chk {f : Fm} (h : f.code = (0, 0)) : ∃ s, chk f 0 = .ok s := by
  rcases hx : chk f 0 with s | ⟨c, a⟩
  · exact ⟨s, rfl⟩
  · have := chk_code f 0 c a hx
    simp only [Fm.code, hx] at h
    exact absurd (Prod.mk.inj h).1 this

/-- What Put answers. -/
inductive PutR (f : Fm) (nm : ByteArray) (g : Fm) : Fm → Int → Int → Prop
  | ok (h1 : f.code = (0, 0)) (h2 : g.code = (0, 0)) (h3 : isNm nm.data.toList = true) (h4 : cntW nm g.size (allN f) ≤ 200) : PutR f nm g (putF nm g f) 0 0
  | bad1 (c a : Int) (hc : c ≠ 0) (h1 : f.code = (c, a)) : PutR f nm g (.mk 0 e0 []) c a
  | bad2 (c a : Int) (hc : c ≠ 0) (h1 : f.code = (0, 0)) (h2 : g.code = (c, a)) : PutR f nm g (.mk 0 e0 []) c a
  | bad3 (h1 : f.code = (0, 0)) (h2 : g.code = (0, 0)) (h3 : isNm nm.data.toList = false) : PutR f nm g (.mk 0 e0 []) 8 0
  | bad4 (h1 : f.code = (0, 0)) (h2 : g.code = (0, 0)) (h3 : isNm nm.data.toList = true) (h4 : 200 < cntW nm g.size (allN f)) : PutR f nm g (.mk 0 e0 []) 10 0

theorem PutR.zero {f : Fm} {nm : ByteArray} {g r : Fm} {a : Int} (h : PutR f nm g r 0 a) : a = 0 ∧ r = putF nm g f ∧ f.code = (0, 0) ∧ g.code = (0, 0) ∧ isNm nm.data.toList = true ∧ cntW nm g.size (allN f) ≤ 200 := by
  cases h with
  | ok h1 h2 h3 h4 => exact ⟨rfl, rfl, h1, h2, h3, h4⟩
  | bad1 _ _ hc _ => exact absurd rfl hc
  | bad2 _ _ hc _ _ => exact absurd rfl hc

end Go.Proofs.Ytknngeojhiejnab
/- Walks: lists of texts and of formulas, as the yardstick compares them. -/
namespace Go.Proofs.Ytknngeojhiejnab
open Go.RowKit

/-- A list of formulas in memory. -/
def FL (w : World) (v : Value) (fs : List Fm) : Prop := ∃ ad cap, v = .slice ad fs.length cap ∧ fs.length ≤ cap ∧ cap ≤ maxLen ∧ (fs ≠ [] → ∃ b off, ad = some ⟨b, off, none⟩ ∧ Reps w (fun _ => True) b off fs)
theorem FL.up {w w' : World} {v : Value} {fs : List Fm} (h : FL w v fs) (hb : Below w.heap.size w w') : FL w' v fs := by
  obtain ⟨ad, cap, h1, h2, h3, h4⟩ := h
  refine ⟨ad, cap, h1, h2, h3, fun hne => ?_⟩
  obtain ⟨b, off, h5, h6⟩ := h4 hne
  exact ⟨b, off, h5, h6.up hb⟩

/-- Is a formula in a list? -/
def hasF (f : Fm) (fs : List Fm) : Bool := fs.any fun g => sameB g f

end Go.Proofs.Ytknngeojhiejnab
