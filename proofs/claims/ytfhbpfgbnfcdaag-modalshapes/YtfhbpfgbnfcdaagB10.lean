/- Texts of one proof, one behind the other: Back1, Open1, Walk0, Each1, Count1, Names1. -/
import Derived.Test.YtfhbpfgbnfcdaagB08
import Derived.Test.YtfhbpfgbnfcdaagB05
import Derived.ProofKit
import Derived.Deep.Strs
import Derived.Deep.Slices
import Derived.Lib.SmallJoins
import Derived.Deep.DeepCutAuto
import Derived.Deep.CutBlock
import Derived.Deep.AppendLies
import Derived.Deep.RegionLaw
/- Walks: FormulaBack. -/
namespace Go.Proofs.Ytfhbpfgbnfcdaag
open Go.RowKit

theorem below_keep {w w' : World} {k : Nat} {o : Obj} (hb : Below w.heap.size w w') (h : w.heap[k]? = some o) : w'.heap[k]? = some o := (hb.block k (lt_of_block h)).trans h
theorem alloc_keep {w : World} {k : Nat} {o : Obj} (h : w.heap[k]? = some o) (o' : Obj) : (w.alloc o').heap[k]? = some o := (Below.heap_alloc _ _ _ (lt_of_block h)).trans h
theorem below_join {W w w' : World} (h : Below W.heap.size W w) (hb : Below w.heap.size w w') : Below W.heap.size W w' := h.trans (hb.mono h.size)
theorem below_more {W w : World} (h : Below W.heap.size W w) (o : Obj) : Below W.heap.size W (w.alloc o) := h.alloc h.size o

theorem Rep.all {w : World} {ok : Nat → Prop} {f : Fm} {v : Value} (h : Rep w ok f v) : Rep w (fun _ => True) f v := h.move fun _ _ _ => ⟨rfl, trivial⟩
theorem Rep.more {w : World} {f : Fm} {v : Value} (h : Rep w (fun _ => True) f v) (o : Obj) : Rep (w.alloc o) (fun _ => True) f v := h.up ((Below.refl _ _).alloc (Nat.le_refl _) _)

end Go.Proofs.Ytfhbpfgbnfcdaag
/- A formula that came in, as data. -/
namespace Go.Proofs.Ytfhbpfgbnfcdaag
open Go.RowKit

theorem cells9 : Try.prog.cellsOf 9 = 1 := by kernel_rfl
theorem add_none (b off n : Nat) : (⟨b, off, none⟩ : Addr).add n = ⟨b, off + n, none⟩ := by
  (by_cases h : n = 0 <;> simp [Addr.add, h])

end Go.Proofs.Ytfhbpfgbnfcdaag
/- Walks: a formula's nodes in a list. -/
namespace Go.Proofs.Ytfhbpfgbnfcdaag
open Go.RowKit

theorem owns_up {w w' : World} {B size n : Nat} {e : TypeId} {v : Value} {xs : List Value} (h : w.ownsRow B e size v n xs) (hb : Below w.heap.size w w') : w'.ownsRow B e size v n xs := by
  obtain ⟨h1, h2⟩ := h; refine ⟨h1, ?_⟩
  rcases h2 with h2 | ⟨g, cap, cur, hv, hg, hh, r⟩
  · exact Or.inl h2
  · exact Or.inr ⟨g, cap, cur, hv, hg, below_keep hb hh, r⟩

end Go.Proofs.Ytfhbpfgbnfcdaag
/- Walks: eachNode, whatever visits. -/
namespace Go.Proofs.Ytfhbpfgbnfcdaag
open Go.RowKit

theorem Fine.small {k : Int} {n : ByteArray} {ks : List Fm} (h : Fine (.mk k n ks)) : n.size ≤ 8 ∧ ks.length ≤ 2 := by
  rcases h.forms with ⟨m, e, hn⟩ | e | e | ⟨c, g, hk, e, hg⟩ | ⟨c, g, g', hk, e, hg, hg'⟩ <;> cases e
  · have := isNm_bd hn
    have e2 : n.data.toList.length = n.size := Array.length_toList; (exact ⟨by omega, by simp⟩)
  · exact ⟨by decide, by simp⟩
  · exact ⟨by decide, by simp⟩
  · exact ⟨by decide, by simp⟩
  · exact ⟨by decide, by simp⟩

/-- What visits a formula's nodes: it writes one variable of its own (block cb), and a list of its own (block ob). -/
structure Visit (fn : Nat) (cap : Array Value) (B cb : Nat) (Inv : List Fm → Option Nat → World → Prop) : Prop where
  hB : B ≤ cb
  lt : ∀ {done ob w}, Inv done ob w → cb < w.heap.size ∧ (∀ g, ob = some g → B ≤ g ∧ g < w.heap.size)
  alloc : ∀ {done ob w} (o : Obj), Inv done ob w → Inv done ob (w.alloc o)
  ent : ∀ (v : Value) (w : World), (callFunc fn (#[v] ++ cap)).run Try.prog w = .ok (.enter fn (#[v] ++ cap)) w
  call : ∀ done ob f v w, done.length < 200 → Fine f → Rep w (· < B) f v → Inv done ob w →
    Calls Try.prog fn (#[v] ++ cap) w fun e w' => e = .returned (.tuple #[]) ∧ ∃ ob', Inv (done ++ [f]) ob' w' ∧ Kept (fun b => b ≠ cb ∧ ob ≠ some b) w w' ∧ (ob' = ob ∨ ∃ g, ob' = some g ∧ w.heap.size ≤ g)

def Eachs (fn : Nat) (cap : Array Value) (B cb : Nat) (Inv : List Fm → Option Nat → World → Prop) (m : Nat) : Prop := ∀ done ob (f : Fm) v w, f.size < m → done.length + f.size ≤ 200 → Fine f → Rep w (· < B) f v → Inv done ob w →
  Calls Try.prog 52 #[v, .func (.func fn) #[] cap] w fun e w' => e = .returned (.tuple #[]) ∧ ∃ ob', Inv (done ++ allN f) ob' w' ∧ Kept (fun b => b ≠ cb ∧ ob ≠ some b) w w' ∧ (ob' = ob ∨ ∃ g, ob' = some g ∧ w.heap.size ≤ g)

theorem kept_on {cb : Nat} {ob ob' : Option Nat} {w w1 w2 : World} (h : Kept (fun b => b ≠ cb ∧ ob ≠ some b) w w1) (ho : ob' = ob ∨ ∃ g, ob' = some g ∧ w.heap.size ≤ g) (k : Kept (fun b => b ≠ cb ∧ ob' ≠ some b) w1 w2) : Kept (fun b => b ≠ cb ∧ ob ≠ some b) w w2 := by
  (refine ⟨k.os.trans h.os, k.tape.trans h.tape, k.output.trans h.output, Nat.le_trans h.size k.size, fun b hb hok => ?_⟩); (rw [k.block b (Nat.lt_of_lt_of_le hb h.size) ⟨hok.1, fun e => ?_⟩, h.block b hb hok])
  rcases ho with rfl | ⟨g, rfl, hg⟩
  · exact hok.2 e
  · have : g = b := Option.some.inj e
    omega
theorem own_on {ob ob' ob'' : Option Nat} {w w1 : World} (ho : ob' = ob ∨ ∃ g, ob' = some g ∧ w.heap.size ≤ g) (hs : w.heap.size ≤ w1.heap.size) (k : ob'' = ob' ∨ ∃ g, ob'' = some g ∧ w1.heap.size ≤ g) : ob'' = ob ∨ ∃ g, ob'' = some g ∧ w.heap.size ≤ g := by
  rcases k with rfl | ⟨g, rfl, hg⟩
  · exact ho
  · exact Or.inr ⟨g, rfl, by omega⟩

theorem allNs_drop {ks : List Fm} {i : Nat} {f : Fm} (h : ks[i]? = some f) : allNs (ks.take (i + 1)) = allNs (ks.take i) ++ allN f := by
  have hap : ∀ a b : List Fm, allNs (a ++ b) = allNs a ++ allNs b := by
    intro a b
    induction a with
    | nil => rw [List.nil_append, allNs, List.nil_append]
    | cons x a ih => rw [List.cons_append, allNs, allNs, ih, List.append_assoc]
  rw [List.take_add_one, h, hap]
  congr 1
  show allNs [f] = _; rw [allNs, allNs, List.append_nil]

theorem sizes_take : ∀ (ks : List Fm) (i : Nat) (f : Fm), ks[i]? = some f → Fm.sizes (ks.take i) + f.size ≤ Fm.sizes ks
  | [], i, f, h => by simp at h
  | k :: ks, 0, f, h => by simp at h; subst h; simp [Fm.sizes]
  | k :: ks, i + 1, f, h => by
    (have := sizes_take ks i f (by simpa using h)); simp only [List.take_succ_cons, Fm.sizes]; omega

set_option maxHeartbeats 4000000 in
theorem each_step {fn : Nat} {cap : Array Value} {B cb : Nat} {Inv : List Fm → Option Nat → World → Prop} (V : Visit fn cap B cb Inv) (m : Nat) (ih : Eachs fn cap B cb Inv m) : Eachs fn cap B cb Inv (m + 1) := by
  intro done ob f v w hm hN hfine hrep hinv; obtain ⟨k, n, ks⟩ := f; obtain ⟨sl, cp, rfl, hx1, hx2, hx3, hx4⟩ := Rep.def.1 hrep; have HX : Hid (ks ≠ [] → ∃ b off, sl = some ⟨b, off, none⟩ ∧ b < B ∧ Reps w (· < B) b off ks) := hx4; have HV : Hid (Visit fn cap B cb Inv) := V; obtain ⟨hcb, hob⟩ := V.lt hinv; have HO : Hid (∀ g, ob = some g → B ≤ g ∧ g < w.heap.size) := hob; have hBcb := V.hB; (have hlenI : ((ks.length : Nat) : Int) ≤ 9223372036854775807 := by unfold maxLen at hx3; omega); have hcf := V.ent; (have HC : Hid (∀ wx, Rep wx (· < B) (.mk k n ks) (.agg #[.int .i64 k, .string n, .slice sl ks.length cp]) → Inv done ob wx → Calls Try.prog fn (#[.agg #[.int .i64 k, .string n, .slice sl ks.length cp]] ++ cap) wx _) := fun wx h1 h2 => V.call done ob _ _ wx (by rw [Fm.size] at hN; omega) hfine h1 h2); have HI : Hid (Inv done ob w) := hinv; have HF : Hid (∀ (i : Nat) (kid : Fm), ks[i]? = some kid → Fine kid) := hfine.kid; clear hx4 V hinv hob hfine
  go_enter Try.func52, Try.ntmps52
  go_wp2_with fail; (refine (HC.out _ (hrep.move fun b hb hok => ⟨Below.heap_alloc _ _ _ hb, hok⟩) (HV.out.alloc _ HI.out)).mono ?_); rintro e w1 ⟨rfl, ob1, hinv1, hk1, ho1⟩; (have hk0 : Kept (fun b => b ≠ cb ∧ ob ≠ some b) w w1 := ((Kept.refl _ w).alloc _).trans hk1)
  have ho0 : ob1 = ob ∨ ∃ g, ob1 = some g ∧ w.heap.size ≤ g := by
    rcases ho1 with h | ⟨g, h, hg⟩
    · exact Or.inl h
    · exact Or.inr ⟨g, h, by simp at hg; omega⟩
  (have q0 : w1.heap[w.heap.size]? = some (.cells #[.int .i64 k, .string n, .slice sl ks.length cp] 28 (0, 0)) := (hk1.block _ (by simp) ⟨by omega, fun e => by have := (HO.out _ e).2; omega⟩).trans (blk_new _ _)); have HI1 : Hid (Inv (done ++ [Fm.mk k n ks]) ob1 w1) := hinv1; (have HK0 : Hid (Kept (fun b => b ≠ cb ∧ ob ≠ some b) w w1) := hk0); have HO0 : Hid (ob1 = ob ∨ ∃ g, ob1 = some g ∧ w.heap.size ≤ g) := ho0; clear hinv1 hk1 hk0 ho0 ho1 HC hcf; obtain ⟨e0, e1, e2, -⟩ := blk3 q0; (have hmf : ∀ (fn : Fn) (first cap : Array Value) (w : World), (Instr.makeFunc fn first cap).run Try.prog w = .ok (.func fn first cap) w := fun _ _ _ _ => rfl); go_wp2_with fail
  go_loopg [12] ks.length (fun g c wr => ∃ i obr, i ≤ ks.length ∧ g = ks.length - i ∧ c = .int .i64 (i : Nat) ∧ Hid (Inv (done ++ [Fm.mk k n ks] ++ allNs (ks.take i)) obr wr) ∧ Hid (Kept (fun b => b ≠ cb ∧ ob ≠ some b) w wr) ∧ Hid (obr = ob ∨ ∃ g, obr = some g ∧ w.heap.size ≤ g))
  case atStart =>
    (refine ⟨0, ob1, by omega, by omega, rfl, ?_, HK0, HO0⟩); show Inv _ _ _; rw [List.take_zero, allNs, List.append_nil]; exact HI1.out
  case round =>
    obtain ⟨i, obr, hile, hg, rfl, HIr, HKr, HOr⟩ := hrel; have HG : Hid (gk = ks.length - i) := hg; clear hg; by_cases hlt : i < ks.length
    · obtain ⟨⟨k2, n2, ks2⟩, hki⟩ : ∃ f, ks[i]? = some f := ⟨_, List.getElem?_eq_getElem hlt⟩
      (have hltI : (i : Int) < (ks.length : Int) := by omega); (have hlc : ((i : Nat) : Int) < ((cp : Nat) : Int) := by omega); (obtain ⟨b, off, hsl, hbB, hrs⟩ := HX.out (fun e => by rw [e] at hlt; simp at hlt)); subst hsl; (have hbB' : Below B w wr := HKr.out.below (by omega) fun b hb => ⟨by omega, fun e => by have := (HO.out b e).1; omega⟩); obtain ⟨sl2, cap2, g0, g1, g2, hrep2⟩ := (hrs.low hbB hbB').at i k2 n2 ks2 hki; have hfk : Fine (.mk k2 n2 ks2) := HF.out i _ hki; (have hszm : (Fm.mk k2 n2 ks2).size < m := by have := sizes_get hki; rw [Fm.size] at hm; omega)
      have hNN : (done ++ [Fm.mk k n ks] ++ allNs (ks.take i)).length + (Fm.mk k2 n2 ks2).size ≤ 200 := by
        have h1 := sizes_take ks i _ hki; rw [Fm.size] at hN; simp only [List.length_append, List.length_singleton, allNs_len]; omega
      (have HIH : Hid (∀ wx, Rep wx (· < B) (.mk k2 n2 ks2) (.agg #[.int .i64 k2, .string n2, .slice sl2 ks2.length cap2]) → Inv (done ++ [Fm.mk k n ks] ++ allNs (ks.take i)) obr wx → Calls Try.prog 52 #[.agg #[.int .i64 k2, .string n2, .slice sl2 ks2.length cap2], .func (.func fn) #[] cap] wx _) := fun wx h1 h2 => ih _ obr _ _ wx hszm hNN hfk h1 h2); have HD : Hid (allNs (ks.take (i + 1)) = allNs (ks.take i) ++ allN (.mk k2 n2 ks2)) := allNs_drop hki; have HR2 : Hid (Rep wr (· < B) (.mk k2 n2 ks2) (.agg #[.int .i64 k2, .string n2, .slice sl2 ks2.length cap2])) := hrep2; clear hki hrs hrep HX hNN hrep2
      go_wp2_with (first
        | (go_at_call 52
           (refine (HIH.out _ (HR2.out.move fun b hb hok => ⟨Below.heap_alloc _ _ _ hb, hok⟩) (HV.out.alloc _ HIr.out)).mono ?_); rintro e w2 ⟨rfl, ob2, hinv2, hk2, ho2⟩; have HI2 : Hid (Inv (done ++ [Fm.mk k n ks] ++ allNs (ks.take i) ++ allN (.mk k2 n2 ks2)) ob2 w2) := hinv2; (have hk3 : Kept (fun b => b ≠ cb ∧ obr ≠ some b) wr w2 := ((Kept.refl _ wr).alloc _).trans hk2)
           have ho3 : ob2 = obr ∨ ∃ g, ob2 = some g ∧ wr.heap.size ≤ g := by
             rcases ho2 with h | ⟨g, h, hg⟩
             · exact Or.inl h
             · exact Or.inr ⟨g, h, by simp at hg; omega⟩
           (have HK2 : Hid (Kept (fun b => b ≠ cb ∧ ob ≠ some b) w w2) := kept_on HKr.out HOr.out hk3); have HO2 : Hid (ob2 = ob ∨ ∃ g, ob2 = some g ∧ w.heap.size ≤ g) := own_on HOr.out HKr.out.size ho3
           clear hinv2 hk2 ho2 hk3 ho3)
        | fail)
      go_roundg (ks.length - (i + 1))
      case measure => have := HG.out; omega
      case rel =>
        (refine ⟨i + 1, ob2, by omega, rfl, by go_num, ?_, HK2, HO2⟩); show Inv _ _ _; rw [HD.out, ← List.append_assoc]; exact HI2.out
    · have HE : Hid (Inv (done ++ allN (.mk k n ks)) obr wr) := by
        show Inv _ _ _; have := HIr.out; (rw [List.take_of_length_le (by omega), List.append_assoc] at this); rw [allN]; exact this
      (have hge : ¬ (i : Int) < (ks.length : Int) := by omega); clear HX hrep HIr; go_wp2_with fail
      go_end0
      exact ⟨rfl, obr, HE.out, HKr.out, HOr.out⟩

theorem eachs_all {fn : Nat} {cap : Array Value} {B cb : Nat} {Inv : List Fm → Option Nat → World → Prop} (V : Visit fn cap B cb Inv) : ∀ m, Eachs fn cap B cb Inv m
  | 0 => fun _ _ _ _ _ h => absurd h (Nat.not_lt_zero _)
  | m + 1 => each_step V m (eachs_all V m)

theorem each_any {fn : Nat} {cap : Array Value} {B cb : Nat} {Inv : List Fm → Option Nat → World → Prop} (V : Visit fn cap B cb Inv) (ob : Option Nat) (f : Fm) (v : Value) (w : World) (hs : f.size ≤ 200) (hf : Fine f) (hrep : Rep w (· < B) f v) (hi : Inv [] ob w) :
    Calls Try.prog 52 #[v, .func (.func fn) #[] cap] w fun e w' => e = .returned (.tuple #[]) ∧ ∃ ob', Inv (allN f) ob' w' ∧ Kept (fun b => b ≠ cb ∧ ob ≠ some b) w w' ∧ (ob' = ob ∨ ∃ g, ob' = some g ∧ w.heap.size ≤ g) :=
  eachs_all V (f.size + 1) [] ob f v w (Nat.lt_succ_self _) (by simpa using hs) hf hrep hi
end Go.Proofs.Ytfhbpfgbnfcdaag
/- Walks: how many nodes there are. -/
namespace Go.Proofs.Ytfhbpfgbnfcdaag
open Go.RowKit

theorem blk1 {w : World} {b : Nat} {c0 : Value} {T : TypeId} (h : w.heap[b]? = some (.cells #[c0] T (0, 0))) : w.cell? ⟨b, 0, none⟩ = some c0 ∧ w.frozen? ⟨b, 0, none⟩ = false := ⟨blk_cell h 0, blk_fz h 0⟩
theorem set1 {w : World} {b : Nat} {c0 : Value} {T : TypeId} (h : w.heap[b]? = some (.cells #[c0] T (0, 0))) (v : Value) : (w.setCell ⟨b, 0, none⟩ v).heap[b]? = some (.cells #[v] T (0, 0)) := by
  simp [World.setCell, Array.getElem?_modify, h]

/-! With a formula of s nodes for a name. -/
end Go.Proofs.Ytfhbpfgbnfcdaag
/- Walks: the names in a formula, as they come. -/
namespace Go.Proofs.Ytfhbpfgbnfcdaag
open Go.RowKit

theorem infoText : ∃ i, Try.prog.info? 9 = some i ∧ i.zero = some (.string ⟨#[]⟩) ∧ i.size = 1 ∧ i.bytes = 16 := by
  (obtain ⟨i, hi, h⟩ := Option.map_eq_some_iff.1 (show (Try.prog.info? 9).map (fun i => (i.zero, i.size, i.bytes)) = some (some (.string ⟨#[]⟩), 1, 16) by kernel_rfl)); simp only [Prod.mk.injEq] at h; exact ⟨i, hi, h.1, h.2.1, h.2.2⟩

def nmsOf : List Fm → List ByteArray
  | [] => []
  | .mk k n _ :: fs => if k = 1 then n :: nmsOf fs else nmsOf fs
theorem nmsOf_append : ∀ a b : List Fm, nmsOf (a ++ b) = nmsOf a ++ nmsOf b
  | [], b => rfl
  | .mk k n ks :: a, b => by
    rw [List.cons_append, nmsOf, nmsOf, nmsOf_append a b]
    split <;> rfl
theorem nmsOf_len : ∀ a : List Fm, (nmsOf a).length ≤ a.length
  | [] => Nat.le_refl _
  | .mk k n ks :: a => by
    have := nmsOf_len a; rw [nmsOf]
    split <;> simp <;> omega

/-- The list of names that have come so far. -/
def InvN (cb : Nat) (done : List Fm) (ob : Option Nat) (w : World) : Prop := ∃ ad cp, w.heap[cb]? = some (.cells #[.slice ad (nmsOf done).length cp] 48 (0, 0)) ∧ ob = (Value.slice ad (nmsOf done).length cp).ownBlock ∧ w.ownsRow (cb + 1) 9 1 (.slice ad (nmsOf done).length cp) (nmsOf done).length ((nmsOf done).map Value.string)

set_option maxHeartbeats 2000000 in
theorem names1_no (cb : Nat) (k : Int) (hk : k ≠ 1) (n : ByteArray) (ks : List Fm) (v : Value) (w : World) (hrep : Rep w (fun _ => True) (.mk k n ks) v) :
    Calls Try.prog 53 #[v, .pointer (some ⟨cb, 0, none⟩)] w fun e w' => e = .returned (.tuple #[]) ∧ Below w.heap.size w w' := by
  obtain ⟨sl, cap, rfl⟩ := slice_shape hrep; (have hkJ : (k == 1) = false := by simpa using hk); have B := (Below.refl w.heap.size w).alloc (Nat.le_refl _); clear hrep
  go_enter Try.func53, Try.ntmps53
  go_wp2_with fail
  go_end0
  exact ⟨rfl, B _⟩

theorem owns_set {w : World} {cb : Nat} {T : TypeId} {sz : Nat} {v : Value} {n : Nat} {xs : List Value} (h : w.ownsRow (cb + 1) T sz v n xs) (u : Value) : (w.setCell ⟨cb, 0, none⟩ u).ownsRow (cb + 1) T sz v n xs := by
  obtain ⟨h1, h2⟩ := h; refine ⟨h1, ?_⟩
  rcases h2 with h2 | ⟨g, cap, cur, hv, hg, hh, r⟩
  · exact Or.inl h2
  · exact Or.inr ⟨g, cap, cur, hv, hg, (Below.heap_setCell _ _ _ _ (by simp; omega)).trans hh, r⟩
theorem kept_grown {ok : Nat → Prop} {w w' : World} {ob : Option Nat} (h : w.grownBy w' ob) (hi : ∀ k, ok k → ob ≠ some k) : Kept ok w w' :=
  ⟨h.os, h.tape, h.output, h.size, fun k hk ho => h.block k hk (fun e => hi k ho e.symm)⟩

set_option maxHeartbeats 4000000 in
theorem names1_yes (cb : Nat) (n : ByteArray) (hn : n.size ≤ 8) (ks : List Fm) (v : Value) (w : World) (hrep : Rep w (fun _ => True) (.mk 1 n ks) v) (L : Nat) (hL : L ≤ 200) (ad : Option Addr) (cp : Nat) (xs : List Value) (h1 : w.heap[cb]? = some (.cells #[.slice ad L cp] 48 (0, 0))) (h2 : w.ownsRow (cb + 1) 9 1 (.slice ad L cp) L xs) :
    Calls Try.prog 53 #[v, .pointer (some ⟨cb, 0, none⟩)] w fun e w' => e = .returned (.tuple #[]) ∧ ∃ g cp', w'.heap[cb]? = some (.cells #[.slice (some ⟨g, 0, none⟩) (L + 1) cp'] 48 (0, 0)) ∧ w'.ownsRow (cb + 1) 9 1 (.slice (some ⟨g, 0, none⟩) (L + 1) cp') (L + 1) (xs ++ [.string n]) ∧ Kept (fun b => b ≠ cb ∧ (Value.slice ad L cp).ownBlock ≠ some b) w w' ∧ ((Value.slice ad L cp).ownBlock = some g ∨ w.heap.size ≤ g) := by
  obtain ⟨sl, cap, rfl⟩ := slice_shape hrep; clear hrep; obtain ⟨i0, hi, hz0, hz1, hz2⟩ := infoText; (have hcl : ∀ w, Calls Try.prog 54 #[.string n] w fun e w' => e = .returned (.string n) ∧ Below w.heap.size w w' := fun w => clone_any n w (by omega)); have HCl : Hid (∀ w, Calls Try.prog 54 #[.string n] w _) := hcl; have HO : Hid (w.ownsRow (cb + 1) 9 1 (.slice ad L cp) L xs) := h2; have zc := lt_of_block h1; clear hcl h2
  go_enter Try.func53, Try.ntmps53
  go_wp2_with fail; have p0 := blk_new w (.cells #[.int .i64 1, .string n, .slice sl ks.length cap] 28 (0, 0)); have p1 := alloc_keep h1 (.cells #[.int .i64 1, .string n, .slice sl ks.length cap] 28 (0, 0)); have HO0 : Hid ((w.alloc (.cells #[.int .i64 1, .string n, .slice sl ks.length cap] 28 (0, 0))).ownsRow (cb + 1) 9 1 (.slice ad L cp) L xs) := owns_up HO.out ((Below.refl _ w).alloc (Nat.le_refl _) _); (have HK0 : Hid (Kept (fun b => b ≠ cb ∧ (Value.slice ad L cp).ownBlock ≠ some b) w (w.alloc (.cells #[.int .i64 1, .string n, .slice sl ks.length cap] 28 (0, 0)))) := (Kept.refl _ w).alloc _); (have hs0 : w.heap.size ≤ (w.alloc (.cells #[.int .i64 1, .string n, .slice sl ks.length cap] 28 (0, 0))).heap.size := by simp); generalize w.alloc (.cells #[.int .i64 1, .string n, .slice sl ks.length cap] 28 (0, 0)) = w0 at *; obtain ⟨a0, a1, a2, -⟩ := blk3 p0; obtain ⟨c0, c1⟩ := blk1 p1; have z0 := lt_of_block p0; have z1 := lt_of_block p1
  go_region_law
    (first
     | (have hown := owns_up (owns_up HO0.out hb1') ((Below.refl _ w1).alloc (Nat.le_refl _) (.cells #[.string n] 9 (0, 0)))
        (refine step_append_lies _ rfl _ _ 48 rfl (cb + 1) 9 i0 (.string ⟨#[]⟩) 1 16 Try.underlying48 hi hz0 hz1 hz2 rfl (by decide) _ _ _ rfl hown ⟨w1.heap.size, 0, none⟩ 1 1 [.string n] rfl rfl ?_ ?_ (by omega) (by unfold maxLen; omega) (by omega) (by simp; omega) _ rfl ?_)
        · intro j u hu
          rw [add_none, Nat.zero_add, blk_cell (blk_new w1 _)]; simpa using hu
        · intro u hu
          simp at hu
          rcases hu with rfl; rfl
        intro g3 cp3 w3 hown3 hgrow hat hlt3; have hgrow' : (w1.alloc (.cells #[.string n] 9 (0, 0))).grownBy w3 (Value.slice ad L cp).ownBlock := hgrow; have hat' : (Value.slice ad L cp).ownBlock = some g3 ∨ g3 = (w1.alloc (.cells #[.string n] 9 (0, 0))).heap.size := hat; clear hgrow hat; have HG3 : Hid ((w1.alloc (.cells #[.string n] 9 (0, 0))).grownBy w3 (Value.slice ad L cp).ownBlock) := hgrow'; have HA3 : Hid ((Value.slice ad L cp).ownBlock = some g3 ∨ g3 = (w1.alloc (.cells #[.string n] 9 (0, 0))).heap.size) := hat'; have HW3 : Hid (w3.ownsRow (cb + 1) 9 1 (.slice (some ⟨g3, 0, none⟩) (L + 1) cp3) (L + 1) (xs ++ [.string n])) := hown3; (have r3 := (hgrow'.block cb (by simp; omega) (fun e => by have := (hown.lt cb e.symm).1; omega)).trans (alloc_keep r2 _)); clear hgrow' hat' hown3 hown; clear c0 c1; obtain ⟨c0, c1⟩ := blk1 r3
        have y5 := HG3.out.size)
     | (go_simp
        refine (HCl.out _).mono ?_; rintro e w1 ⟨rfl, hb1⟩; have hb1' : Below w0.heap.size w0 w1 := (Below.refl _ w0).drew.trans hb1; clear hb1; have r2 := below_keep hb1' p1; clear c0 c1; obtain ⟨c0, c1⟩ := blk1 r2; have y4 : cb < w1.heap.size := lt_of_block r2; have y6 := hb1'.size
        dsimp only)
     | fail)
  all_goals
    go_end0
    refine ⟨rfl, g3, cp3, set1 r3 _, owns_set HW3.out _, ?_, ?_⟩
    · exact ((((HK0.out.trans (kept_of_below hb1' fun _ h _ => h)).alloc _).trans (kept_grown HG3.out fun k h => h.2))).setCell (fun _ h => h.1 rfl) _
    · rcases HA3.out with h | h
      · exact Or.inl h
      · refine Or.inr ?_
        simp at h; omega

theorem names1_in (cap : Array Value) (w : World) : (callFunc 53 cap).run Try.prog w = .ok (.enter 53 cap) w := by
  simp [go_sem]

theorem names_visit (B cb : Nat) (h : B ≤ cb) : Visit 53 #[.pointer (some ⟨cb, 0, none⟩)] B cb (InvN cb) where
  hB := h
  lt := fun hi => by
    obtain ⟨ad, cp, h1, h2, h3⟩ := hi; (refine ⟨lt_of_block h1, fun g e => ?_⟩); rw [h2] at e; have := h3.lt g e; omega
  alloc := fun o hi => by
    obtain ⟨ad, cp, h1, h2, h3⟩ := hi; exact ⟨ad, cp, alloc_keep h1 o, h2, owns_up h3 ((Below.refl _ _).alloc (Nat.le_refl _) _)⟩
  ent := fun v w => names1_in _ w
  call := fun done ob f v w hl hf hrep hi => by
    obtain ⟨ad, cp, h1, h2, h3⟩ := hi; have hL := nmsOf_len done; obtain ⟨k, n, ks⟩ := f; by_cases hk : k = 1
    · subst hk
      (refine (names1_yes cb n hf.small.1 ks v w hrep.all (nmsOf done).length (by omega) ad cp _ h1 h3).mono ?_); rintro e w' ⟨rfl, g, cp', q1, q2, q3, q4⟩; (have e1 : nmsOf (done ++ [Fm.mk 1 n ks]) = nmsOf done ++ [n] := by rw [nmsOf_append]; rfl); (refine ⟨rfl, some g, ⟨some ⟨g, 0, none⟩, cp', ?_⟩, by rw [h2]; exact q3, ?_⟩)
      · rw [e1, List.length_append, List.map_append]
        exact ⟨q1, rfl, q2⟩
      · rcases q4 with h | h
        · exact Or.inl (by rw [h2, h])
        · exact Or.inr ⟨g, rfl, h⟩
    · refine (names1_no cb k hk n ks v w hrep.all).mono ?_
      rintro e w' ⟨rfl, hb⟩
      have e1 : nmsOf (done ++ [Fm.mk k n ks]) = nmsOf done := by
        rw [nmsOf_append, nmsOf, if_neg hk, nmsOf, List.append_nil]
      (refine ⟨rfl, ob, ⟨ad, cp, ?_⟩, kept_of_below hb (fun _ h _ => h), Or.inl rfl⟩); rw [e1]; exact ⟨below_keep hb h1, h2, owns_up h3 hb⟩
end Go.Proofs.Ytfhbpfgbnfcdaag
