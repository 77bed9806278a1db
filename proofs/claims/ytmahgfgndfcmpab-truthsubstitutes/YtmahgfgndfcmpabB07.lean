/- Texts of one proof, one behind the other: Print4, Ref1, Back1, Each1, Count1, Tr1. -/
import Derived.Test.YtmahgfgndfcmpabB06
import Derived.Test.YtmahgfgndfcmpabB05
/- Walks: Print. -/
namespace Go.Proofs.Ytmahgfgndfcmpab
open Go.RowKit

theorem chk_size {f : Fm} {s : Nat} (h : chk f 0 = .ok s) : f.size ≤ 200 := by have := chk_le f 0 s h (by omega); omega

end Go.Proofs.Ytmahgfgndfcmpab
/- Walks: what the laws' own yardstick does with formulas. -/
namespace Go.Proofs.Ytmahgfgndfcmpab
open Go.RowKit

theorem Rep.up {w w' : World} {f : Fm} {v : Value} (h : Rep w (fun _ => True) f v) (hb : Below w.heap.size w w') : Rep w' (fun _ => True) f v :=
  h.move fun b hb1 _ => ⟨hb.block b hb1, trivial⟩
theorem Reps.up {w w' : World} {b off : Nat} {fs : List Fm} (h : Reps w (fun _ => True) b off fs) (hb : Below w.heap.size w w') : Reps w' (fun _ => True) b off fs :=
  h.kept trivial (kept_of_below hb (fun _ h _ => h))

end Go.Proofs.Ytmahgfgndfcmpab
/- Walks: FormulaBack. -/
namespace Go.Proofs.Ytmahgfgndfcmpab
open Go.RowKit

theorem below_keep {w w' : World} {k : Nat} {o : Obj} (hb : Below w.heap.size w w') (h : w.heap[k]? = some o) : w'.heap[k]? = some o := (hb.block k (lt_of_block h)).trans h
theorem alloc_keep {w : World} {k : Nat} {o : Obj} (h : w.heap[k]? = some o) (o' : Obj) : (w.alloc o').heap[k]? = some o := (Below.heap_alloc _ _ _ (lt_of_block h)).trans h
theorem below_join {W w w' : World} (h : Below W.heap.size W w) (hb : Below w.heap.size w w') : Below W.heap.size W w' := h.trans (hb.mono h.size)
theorem below_more {W w : World} (h : Below W.heap.size W w) (o : Obj) : Below W.heap.size W (w.alloc o) := h.alloc h.size o

theorem Rep.all {w : World} {ok : Nat → Prop} {f : Fm} {v : Value} (h : Rep w ok f v) : Rep w (fun _ => True) f v := h.move fun _ _ _ => ⟨rfl, trivial⟩
theorem Rep.more {w : World} {f : Fm} {v : Value} (h : Rep w (fun _ => True) f v) (o : Obj) : Rep (w.alloc o) (fun _ => True) f v := h.up ((Below.refl _ _).alloc (Nat.le_refl _) _)

end Go.Proofs.Ytmahgfgndfcmpab
/- Walks: eachNode, whatever visits. -/
namespace Go.Proofs.Ytmahgfgndfcmpab
open Go.RowKit

theorem Fine.small {k : Int} {n : ByteArray} {ks : List Fm} (h : Fine (.mk k n ks)) : n.size ≤ 8 ∧ ks.length ≤ 2 := by
  rcases h.forms with ⟨m, e, hn⟩ | e | e | ⟨c, g, hk, e, hg⟩ | ⟨c, g, g', hk, e, hg, hg'⟩ <;> cases e
  · have := isNm_bd hn
    have e2 : n.data.toList.length = n.size := Array.length_toList; (exact ⟨by omega, by simp⟩)
  · exact ⟨by decide, by simp⟩
  · exact ⟨by decide, by simp⟩
  · exact ⟨by decide, by simp⟩
  · exact ⟨by decide, by simp⟩

/-- What visits a formula's nodes: it writes one variable of its own (block cb), and a list of its own (block ob). -/
structure Visit (fn : Nat) (cap : Array Value) (B cb : Nat) (Inv : List Fm → Option Nat → World → Prop) : Prop where
  hB : B ≤ cb
  lt : ∀ {done ob w}, Inv done ob w → cb < w.heap.size ∧ (∀ g, ob = some g → B ≤ g ∧ g < w.heap.size)
  alloc : ∀ {done ob w} (o : Obj), Inv done ob w → Inv done ob (w.alloc o)
  ent : ∀ (v : Value) (w : World), (callFunc fn (#[v] ++ cap)).run Try.prog w = .ok (.enter fn (#[v] ++ cap)) w
  call : ∀ done ob f v w, done.length < 200 → Fine f → Rep w (· < B) f v → Inv done ob w →
    Calls Try.prog fn (#[v] ++ cap) w fun e w' => e = .returned (.tuple #[]) ∧ ∃ ob', Inv (done ++ [f]) ob' w' ∧ Kept (fun b => b ≠ cb ∧ ob ≠ some b) w w' ∧ (ob' = ob ∨ ∃ g, ob' = some g ∧ w.heap.size ≤ g)

def Eachs (fn : Nat) (cap : Array Value) (B cb : Nat) (Inv : List Fm → Option Nat → World → Prop) (m : Nat) : Prop := ∀ done ob (f : Fm) v w, f.size < m → done.length + f.size ≤ 200 → Fine f → Rep w (· < B) f v → Inv done ob w →
  Calls Try.prog 78 #[v, .func (.func fn) #[] cap] w fun e w' => e = .returned (.tuple #[]) ∧ ∃ ob', Inv (done ++ allN f) ob' w' ∧ Kept (fun b => b ≠ cb ∧ ob ≠ some b) w w' ∧ (ob' = ob ∨ ∃ g, ob' = some g ∧ w.heap.size ≤ g)

theorem kept_on {cb : Nat} {ob ob' : Option Nat} {w w1 w2 : World} (h : Kept (fun b => b ≠ cb ∧ ob ≠ some b) w w1) (ho : ob' = ob ∨ ∃ g, ob' = some g ∧ w.heap.size ≤ g) (k : Kept (fun b => b ≠ cb ∧ ob' ≠ some b) w1 w2) : Kept (fun b => b ≠ cb ∧ ob ≠ some b) w w2 := by
  (refine ⟨k.os.trans h.os, k.tape.trans h.tape, k.output.trans h.output, Nat.le_trans h.size k.size, fun b hb hok => ?_⟩); (rw [k.block b (Nat.lt_of_lt_of_le hb h.size) ⟨hok.1, fun e => ?_⟩, h.block b hb hok])
  rcases ho with rfl | ⟨g, rfl, hg⟩
  · exact hok.2 e
  · have : g = b := Option.some.inj e
    omega
theorem own_on {ob ob' ob'' : Option Nat} {w w1 : World} (ho : ob' = ob ∨ ∃ g, ob' = some g ∧ w.heap.size ≤ g) (hs : w.heap.size ≤ w1.heap.size) (k : ob'' = ob' ∨ ∃ g, ob'' = some g ∧ w1.heap.size ≤ g) : ob'' = ob ∨ ∃ g, ob'' = some g ∧ w.heap.size ≤ g := by
  rcases k with rfl | ⟨g, rfl, hg⟩
  · exact ho
  · exact Or.inr ⟨g, rfl, by omega⟩

theorem allNs_drop {ks : List Fm} {i : Nat} {f : Fm} (h : ks[i]? = some f) : allNs (ks.take (i + 1)) = allNs (ks.take i) ++ allN f := by
  have hap : ∀ a b : List Fm, allNs (a ++ b) = allNs a ++ allNs b := by
    intro a b
    induction a with
    | nil => rw [List.nil_append, allNs, List.nil_append]
    | cons x a ih => rw [List.cons_append, allNs, allNs, ih, List.append_assoc]
  rw [List.take_add_one, h, hap]
  congr 1
  show allNs [f] = _; rw [allNs, allNs, List.append_nil]

theorem sizes_take : ∀ (ks : List Fm) (i : Nat) (f : Fm), ks[i]? = some f → Fm.sizes (ks.take i) + f.size ≤ Fm.sizes ks
  | [], i, f, h => by simp at h
  | k :: ks, 0, f, h => by simp at h; subst h; simp [Fm.sizes]
  | k :: ks, i + 1, f, h => by
    (have := sizes_take ks i f (by simpa using h)); simp only [List.take_succ_cons, Fm.sizes]; omega

set_option maxHeartbeats 4000000 in
theorem each_step {fn : Nat} {cap : Array Value} {B cb : Nat} {Inv : List Fm → Option Nat → World → Prop} (V : Visit fn cap B cb Inv) (m : Nat) (ih : Eachs fn cap B cb Inv m) : Eachs fn cap B cb Inv (m + 1) := by
  intro done ob f v w hm hN hfine hrep hinv; obtain ⟨k, n, ks⟩ := f; obtain ⟨sl, cp, rfl, hx1, hx2, hx3, hx4⟩ := Rep.def.1 hrep; have HX : Hid (ks ≠ [] → ∃ b off, sl = some ⟨b, off, none⟩ ∧ b < B ∧ Reps w (· < B) b off ks) := hx4; have HV : Hid (Visit fn cap B cb Inv) := V; obtain ⟨hcb, hob⟩ := V.lt hinv; have HO : Hid (∀ g, ob = some g → B ≤ g ∧ g < w.heap.size) := hob; have hBcb := V.hB; (have hlenI : ((ks.length : Nat) : Int) ≤ 9223372036854775807 := by unfold maxLen at hx3; omega); have hcf := V.ent; (have HC : Hid (∀ wx, Rep wx (· < B) (.mk k n ks) (.agg #[.int .i64 k, .string n, .slice sl ks.length cp]) → Inv done ob wx → Calls Try.prog fn (#[.agg #[.int .i64 k, .string n, .slice sl ks.length cp]] ++ cap) wx _) := fun wx h1 h2 => V.call done ob _ _ wx (by rw [Fm.size] at hN; omega) hfine h1 h2); have HI : Hid (Inv done ob w) := hinv; have HF : Hid (∀ (i : Nat) (kid : Fm), ks[i]? = some kid → Fine kid) := hfine.kid; clear hx4 V hinv hob hfine
  go_enter Try.func78, Try.ntmps78
  go_wp2_with fail; (refine (HC.out _ (hrep.move fun b hb hok => ⟨Below.heap_alloc _ _ _ hb, hok⟩) (HV.out.alloc _ HI.out)).mono ?_); rintro e w1 ⟨rfl, ob1, hinv1, hk1, ho1⟩; (have hk0 : Kept (fun b => b ≠ cb ∧ ob ≠ some b) w w1 := ((Kept.refl _ w).alloc _).trans hk1)
  have ho0 : ob1 = ob ∨ ∃ g, ob1 = some g ∧ w.heap.size ≤ g := by
    rcases ho1 with h | ⟨g, h, hg⟩
    · exact Or.inl h
    · exact Or.inr ⟨g, h, by simp at hg; omega⟩
  (have q0 : w1.heap[w.heap.size]? = some (.cells #[.int .i64 k, .string n, .slice sl ks.length cp] 37 (0, 0)) := (hk1.block _ (by simp) ⟨by omega, fun e => by have := (HO.out _ e).2; omega⟩).trans (blk_new _ _)); have HI1 : Hid (Inv (done ++ [Fm.mk k n ks]) ob1 w1) := hinv1; (have HK0 : Hid (Kept (fun b => b ≠ cb ∧ ob ≠ some b) w w1) := hk0); have HO0 : Hid (ob1 = ob ∨ ∃ g, ob1 = some g ∧ w.heap.size ≤ g) := ho0; clear hinv1 hk1 hk0 ho0 ho1 HC hcf; obtain ⟨e0, e1, e2, -⟩ := blk3 q0; (have hmf : ∀ (fn : Fn) (first cap : Array Value) (w : World), (Instr.makeFunc fn first cap).run Try.prog w = .ok (.func fn first cap) w := fun _ _ _ _ => rfl); go_wp2_with fail
  go_loopg [12] ks.length (fun g c wr => ∃ i obr, i ≤ ks.length ∧ g = ks.length - i ∧ c = .int .i64 (i : Nat) ∧ Hid (Inv (done ++ [Fm.mk k n ks] ++ allNs (ks.take i)) obr wr) ∧ Hid (Kept (fun b => b ≠ cb ∧ ob ≠ some b) w wr) ∧ Hid (obr = ob ∨ ∃ g, obr = some g ∧ w.heap.size ≤ g))
  case atStart =>
    (refine ⟨0, ob1, by omega, by omega, rfl, ?_, HK0, HO0⟩); show Inv _ _ _; rw [List.take_zero, allNs, List.append_nil]; exact HI1.out
  case round =>
    obtain ⟨i, obr, hile, hg, rfl, HIr, HKr, HOr⟩ := hrel; have HG : Hid (gk = ks.length - i) := hg; clear hg; by_cases hlt : i < ks.length
    · obtain ⟨⟨k2, n2, ks2⟩, hki⟩ : ∃ f, ks[i]? = some f := ⟨_, List.getElem?_eq_getElem hlt⟩
      (have hltI : (i : Int) < (ks.length : Int) := by omega); (have hlc : ((i : Nat) : Int) < ((cp : Nat) : Int) := by omega); (obtain ⟨b, off, hsl, hbB, hrs⟩ := HX.out (fun e => by rw [e] at hlt; simp at hlt)); subst hsl; (have hbB' : Below B w wr := HKr.out.below (by omega) fun b hb => ⟨by omega, fun e => by have := (HO.out b e).1; omega⟩); obtain ⟨sl2, cap2, g0, g1, g2, hrep2⟩ := (hrs.low hbB hbB').at i k2 n2 ks2 hki; have hfk : Fine (.mk k2 n2 ks2) := HF.out i _ hki; (have hszm : (Fm.mk k2 n2 ks2).size < m := by have := sizes_get hki; rw [Fm.size] at hm; omega)
      have hNN : (done ++ [Fm.mk k n ks] ++ allNs (ks.take i)).length + (Fm.mk k2 n2 ks2).size ≤ 200 := by
        have h1 := sizes_take ks i _ hki; rw [Fm.size] at hN; simp only [List.length_append, List.length_singleton, allNs_len]; omega
      (have HIH : Hid (∀ wx, Rep wx (· < B) (.mk k2 n2 ks2) (.agg #[.int .i64 k2, .string n2, .slice sl2 ks2.length cap2]) → Inv (done ++ [Fm.mk k n ks] ++ allNs (ks.take i)) obr wx → Calls Try.prog 78 #[.agg #[.int .i64 k2, .string n2, .slice sl2 ks2.length cap2], .func (.func fn) #[] cap] wx _) := fun wx h1 h2 => ih _ obr _ _ wx hszm hNN hfk h1 h2); have HD : Hid (allNs (ks.take (i + 1)) = allNs (ks.take i) ++ allN (.mk k2 n2 ks2)) := allNs_drop hki; have HR2 : Hid (Rep wr (· < B) (.mk k2 n2 ks2) (.agg #[.int .i64 k2, .string n2, .slice sl2 ks2.length cap2])) := hrep2; clear hki hrs hrep HX hNN hrep2
      go_wp2_with (first
        | (go_at_call 78
           (refine (HIH.out _ (HR2.out.move fun b hb hok => ⟨Below.heap_alloc _ _ _ hb, hok⟩) (HV.out.alloc _ HIr.out)).mono ?_); rintro e w2 ⟨rfl, ob2, hinv2, hk2, ho2⟩; have HI2 : Hid (Inv (done ++ [Fm.mk k n ks] ++ allNs (ks.take i) ++ allN (.mk k2 n2 ks2)) ob2 w2) := hinv2; (have hk3 : Kept (fun b => b ≠ cb ∧ obr ≠ some b) wr w2 := ((Kept.refl _ wr).alloc _).trans hk2)
           have ho3 : ob2 = obr ∨ ∃ g, ob2 = some g ∧ wr.heap.size ≤ g := by
             rcases ho2 with h | ⟨g, h, hg⟩
             · exact Or.inl h
             · exact Or.inr ⟨g, h, by simp at hg; omega⟩
           (have HK2 : Hid (Kept (fun b => b ≠ cb ∧ ob ≠ some b) w w2) := kept_on HKr.out HOr.out hk3); have HO2 : Hid (ob2 = ob ∨ ∃ g, ob2 = some g ∧ w.heap.size ≤ g) := own_on HOr.out HKr.out.size ho3
           clear hinv2 hk2 ho2 hk3 ho3)
        | fail)
      go_roundg (ks.length - (i + 1))
      case measure => have := HG.out; omega
      case rel =>
        (refine ⟨i + 1, ob2, by omega, rfl, by go_num, ?_, HK2, HO2⟩); show Inv _ _ _; rw [HD.out, ← List.append_assoc]; exact HI2.out
    · have HE : Hid (Inv (done ++ allN (.mk k n ks)) obr wr) := by
        show Inv _ _ _; have := HIr.out; (rw [List.take_of_length_le (by omega), List.append_assoc] at this); rw [allN]; exact this
      (have hge : ¬ (i : Int) < (ks.length : Int) := by omega); clear HX hrep HIr; go_wp2_with fail
      go_end0
      exact ⟨rfl, obr, HE.out, HKr.out, HOr.out⟩

theorem eachs_all {fn : Nat} {cap : Array Value} {B cb : Nat} {Inv : List Fm → Option Nat → World → Prop} (V : Visit fn cap B cb Inv) : ∀ m, Eachs fn cap B cb Inv m
  | 0 => fun _ _ _ _ _ h => absurd h (Nat.not_lt_zero _)
  | m + 1 => each_step V m (eachs_all V m)

theorem each_any {fn : Nat} {cap : Array Value} {B cb : Nat} {Inv : List Fm → Option Nat → World → Prop} (V : Visit fn cap B cb Inv) (ob : Option Nat) (f : Fm) (v : Value) (w : World) (hs : f.size ≤ 200) (hf : Fine f) (hrep : Rep w (· < B) f v) (hi : Inv [] ob w) :
    Calls Try.prog 78 #[v, .func (.func fn) #[] cap] w fun e w' => e = .returned (.tuple #[]) ∧ ∃ ob', Inv (allN f) ob' w' ∧ Kept (fun b => b ≠ cb ∧ ob ≠ some b) w w' ∧ (ob' = ob ∨ ∃ g, ob' = some g ∧ w.heap.size ≤ g) :=
  eachs_all V (f.size + 1) [] ob f v w (Nat.lt_succ_self _) (by simpa using hs) hf hrep hi
end Go.Proofs.Ytmahgfgndfcmpab
/- Walks: how many nodes there are. -/
namespace Go.Proofs.Ytmahgfgndfcmpab
open Go.RowKit

def hasN (nm : ByteArray) : Fm → Bool
  | .mk k n _ => decide (k = 1) && decide (n.data.toList = nm.data.toList)

theorem blk1 {w : World} {b : Nat} {c0 : Value} {T : TypeId} (h : w.heap[b]? = some (.cells #[c0] T (0, 0))) : w.cell? ⟨b, 0, none⟩ = some c0 ∧ w.frozen? ⟨b, 0, none⟩ = false := ⟨blk_cell h 0, blk_fz h 0⟩
theorem set1 {w : World} {b : Nat} {c0 : Value} {T : TypeId} (h : w.heap[b]? = some (.cells #[c0] T (0, 0))) (v : Value) : (w.setCell ⟨b, 0, none⟩ v).heap[b]? = some (.cells #[v] T (0, 0)) := by
  simp [World.setCell, Array.getElem?_modify, h]

/-! With a formula of s nodes for a name. -/
end Go.Proofs.Ytmahgfgndfcmpab
/- Walks: firstModal, isTrue. -/
namespace Go.Proofs.Ytmahgfgndfcmpab
open Go.RowKit

/-! The first box or diamond. -/
def Modals (m : Nat) : Prop := ∀ (f : Fm) (a : Nat) (v : Value) (w : World), f.size < m → Fine f → a + f.size ≤ 1000 → Rep w (fun _ => True) f v →
  Calls Try.prog 64 #[v, .int .i64 a] w fun e w' => e = .returned (.tuple #[.int .i64 ((modal f a).1 : Nat), .bool (modal f a).2]) ∧ Below w.heap.size w w'

theorem modals_drop {ks : List Fm} {i : Nat} {f : Fm} (h : ks[i]? = some f) (a : Nat) : modals (ks.drop i) a = if (modal f a).2 then ((modal f a).1, true) else modals (ks.drop (i + 1)) (modal f a).1 := by
  have hi : i < ks.length := by
    rcases Nat.lt_or_ge i ks.length with h' | h'
    · exact h'
    · rw [List.getElem?_eq_none h'] at h; cases h
  rw [List.drop_eq_getElem_cons hi, modals]; rw [List.getElem?_eq_getElem hi] at h; rw [Option.some.inj h]

set_option maxHeartbeats 2000000 in
theorem modal_step (m : Nat) (ih : Modals m) : Modals (m + 1) := by
  intro f a v w hm hfi ha hrep; obtain ⟨k, n, ks⟩ := f; obtain ⟨sl, cap, rfl, hx1, hx2, hx3, hx4⟩ := Rep.def.1 hrep; (have HX : Hid (ks ≠ [] → ∃ b off, sl = some ⟨b, off, none⟩ ∧ True ∧ Reps w (fun _ => True) b off ks) := hx4); have hk2 := hfi.small.2; (have haI : (a : Int) ≤ 1000 := by omega); (have hkI : (ks.length : Int) ≤ 2 := by omega); have q0 := blk_new w (.cells #[.int .i64 k, .string n, .slice sl ks.length cap] 37 (0, 0)); have B0 := below_more (Below.refl _ w) (.cells #[.int .i64 k, .string n, .slice sl ks.length cap] 37 (0, 0)); clear hx4; by_cases h8 : k = 8
  · subst h8
    (have HM : Hid (modal (.mk 8 n ks) a = (a, true)) := by show _ = _; rw [modal]; rfl)
    go_enter Try.func64, Try.ntmps64
    go_wp2_with fail; go_ret2; (exact ⟨by rw [HM.out]; rfl, B0⟩)
  by_cases h9 : k = 9
  · subst h9
    (have HM : Hid (modal (.mk 9 n ks) a = (a, true)) := by show _ = _; rw [modal]; rfl)
    go_enter Try.func64, Try.ntmps64
    go_wp2_with fail; go_ret2; (exact ⟨by rw [HM.out]; rfl, B0⟩)
  (have h8' : (k == 8) = false := by simpa using h8); (have h9' : (k == 9) = false := by simpa using h9); (have HM : Hid (modal (.mk k n ks) a = modals ks (a + 1)) := by show _ = _; rw [modal]; simp [isM, h8, h9]); have HF : Hid (Fine (.mk k n ks)) := hfi; clear hfi h8 h9
  go_enter Try.func64, Try.ntmps64
  go_wp2_with fail
  go_loopg [22, 4, 5] ks.length (fun g c x y wr => ∃ i na, i ≤ ks.length ∧ g = ks.length - i ∧ c = .int .i64 (i : Nat) ∧ x = .int .i64 (na : Nat) ∧ y = .bool false ∧ Below w.heap.size w wr ∧ Hid (modals ks (a + 1) = modals (ks.drop i) na) ∧ na ≤ a + 1 + Fm.sizes (ks.take i))
  case atStart => exact ⟨0, a + 1, by omega, by omega, rfl, by go_num, rfl, B0, by show _ = _; rfl, by simp [Fm.sizes]⟩
  case round =>
    obtain ⟨i, na, hile, hg, rfl, rfl, rfl, hbr, HW, hna⟩ := hrel; have HG : Hid (gk = ks.length - i) := hg; clear hg; by_cases hlt : i < ks.length
    · obtain ⟨⟨k2, n2, ks2⟩, hki⟩ : ∃ f, ks[i]? = some f := ⟨_, List.getElem?_eq_getElem hlt⟩
      (have hltI : (i : Int) < (ks.length : Int) := by omega); (have hlc : (i : Int) < (cap : Int) := by omega); (obtain ⟨b, off, rfl, -, hrs⟩ := HX.out (fun e => by rw [e] at hlt; simp at hlt)); obtain ⟨sl2, cap2, g0, g1, g2, hrep2⟩ := (hrs.up hbr).at i k2 n2 ks2 hki; have hst := sizes_take ks i _ hki; (have hsz : (Fm.mk k2 n2 ks2).size < m := by have := sizes_get hki; rw [Fm.size] at hm; omega)
      have hst2 : Fm.sizes (ks.take (i + 1)) = Fm.sizes (ks.take i) + (Fm.mk k2 n2 ks2).size := by
        rw [List.take_add_one, hki]; show Fm.sizes (_ ++ [_]) = _; generalize ks.take i = l
        induction l with
        | nil => simp [Fm.sizes]
        | cons x l ih => simp only [List.cons_append, Fm.sizes, ih]; omega
      (have hca := fun v wx h => ih (.mk k2 n2 ks2) na v wx hsz (HF.out.kid i _ hki) (by rw [Fm.size] at ha; omega) h); have hml := modal_le (.mk k2 n2 ks2) na; have hdr := modals_drop hki na; have HW2 := HW.out; rw [hdr] at HW2; rw [Fm.size] at ha; generalize hmo : modal (.mk k2 n2 ks2) na = mo at *; obtain ⟨r, bb⟩ := mo; simp only at hml HW2 hca; (have hrI : (r : Int) ≤ 1000 := by omega); have HC : Hid (∀ v wx, _ → Calls Try.prog 64 _ wx _) := hca; clear hmo hca hdr hki hrs HX hrep
      cases bb
      · have HN : Hid (modals ks (a + 1) = modals (ks.drop (i + 1)) r) := HW2
        clear HW2 HW
        go_wp2_with (first
          | (go_at_call 64
             refine (HC.out _ _ (hrep2.more _)).mono ?_; rintro e w1 ⟨rfl, hb1⟩
             have B1 := below_join (below_more hbr _) hb1)
          | fail)
        go_roundg (ks.length - (i + 1))
        case measure => have := HG.out; omega
        case rel => exact ⟨i + 1, r, by omega, rfl, by go_num, rfl, rfl, B1, HN, by omega⟩
      · have HN : Hid (modals ks (a + 1) = (r, true)) := HW2
        clear HW2 HW
        go_wp2_with (first
          | (go_at_call 64
             refine (HC.out _ _ (hrep2.more _)).mono ?_; rintro e w1 ⟨rfl, hb1⟩
             have B1 := below_join (below_more hbr _) hb1)
          | fail)
        go_ret2; (exact ⟨by rw [HM.out, HN.out]; rfl, B1⟩)
    · have hge : ¬ (i : Int) < (ks.length : Int) := by omega
      have HN : Hid (modals ks (a + 1) = (na, false)) := by
        show _ = _; (rw [HW.out, List.drop_of_length_le (by omega), modals])
      clear HW HX hrep; go_wp2_with fail; go_ret2; (exact ⟨by rw [HM.out, HN.out]; rfl, hbr⟩)

theorem modals_all : ∀ m, Modals m
  | 0 => fun _ _ _ _ h => absurd h (Nat.not_lt_zero _)
  | m + 1 => modal_step m (modals_all m)

theorem modal_any (f : Fm) (v : Value) (w : World) (hf : Fine f) (hs : f.size ≤ 200) (hrep : Rep w (fun _ => True) f v) :
    Calls Try.prog 64 #[v, .int .i64 0] w fun e w' => e = .returned (.tuple #[.int .i64 ((modal f 0).1 : Nat), .bool (modal f 0).2]) ∧ Below w.heap.size w w' :=
  modals_all (f.size + 1) f 0 v w (Nat.lt_succ_self _) hf (by omega) hrep
end Go.Proofs.Ytmahgfgndfcmpab
