/- Texts of one proof, one behind the other: Each1, Count1. -/
import Derived.Test.YtfhbpfgbnfcdaaaB07
import Derived.Test.YtfhbpfgbnfcdaaaB12
/- Walks: eachNode, whatever visits. -/
namespace Go.Proofs.Ytfhbpfgbnfcdaaa
open Go.RowKit

theorem Fine.small {k : Int} {n : ByteArray} {ks : List Fm} (h : Fine (.mk k n ks)) : n.size ≤ 8 ∧ ks.length ≤ 2 := by
  rcases h.forms with ⟨m, e, hn⟩ | e | e | ⟨c, g, hk, e, hg⟩ | ⟨c, g, g', hk, e, hg, hg'⟩ <;> cases e
  · have := isNm_bd hn
    have e2 : n.data.toList.length = n.size := Array.length_toList; (exact ⟨by omega, by simp⟩)
  · exact ⟨by decide, by simp⟩
  · exact ⟨by decide, by simp⟩
  · exact ⟨by decide, by simp⟩
  · exact ⟨by decide, by simp⟩

/-- What visits a formula's nodes: it writes one variable of its own (block cb), and a list of its own (block ob). -/
structure Visit (fn : Nat) (cap : Array Value) (B cb : Nat) (Inv : List Fm → Option Nat → World → Prop) : Prop where
  hB : B ≤ cb
  lt : ∀ {done ob w}, Inv done ob w → cb < w.heap.size ∧ (∀ g, ob = some g → B ≤ g ∧ g < w.heap.size)
  alloc : ∀ {done ob w} (o : Obj), Inv done ob w → Inv done ob (w.alloc o)
  ent : ∀ (v : Value) (w : World), (callFunc fn (#[v] ++ cap)).run Try.prog w = .ok (.enter fn (#[v] ++ cap)) w
  call : ∀ done ob f v w, done.length < 200 → Fine f → Rep w (· < B) f v → Inv done ob w →
    Calls Try.prog fn (#[v] ++ cap) w fun e w' => e = .returned (.tuple #[]) ∧ ∃ ob', Inv (done ++ [f]) ob' w' ∧ Kept (fun b => b ≠ cb ∧ ob ≠ some b) w w' ∧ (ob' = ob ∨ ∃ g, ob' = some g ∧ w.heap.size ≤ g)

def Eachs (fn : Nat) (cap : Array Value) (B cb : Nat) (Inv : List Fm → Option Nat → World → Prop) (m : Nat) : Prop := ∀ done ob (f : Fm) v w, f.size < m → done.length + f.size ≤ 200 → Fine f → Rep w (· < B) f v → Inv done ob w →
  Calls Try.prog 52 #[v, .func (.func fn) #[] cap] w fun e w' => e = .returned (.tuple #[]) ∧ ∃ ob', Inv (done ++ allN f) ob' w' ∧ Kept (fun b => b ≠ cb ∧ ob ≠ some b) w w' ∧ (ob' = ob ∨ ∃ g, ob' = some g ∧ w.heap.size ≤ g)

theorem kept_on {cb : Nat} {ob ob' : Option Nat} {w w1 w2 : World} (h : Kept (fun b => b ≠ cb ∧ ob ≠ some b) w w1) (ho : ob' = ob ∨ ∃ g, ob' = some g ∧ w.heap.size ≤ g) (k : Kept (fun b => b ≠ cb ∧ ob' ≠ some b) w1 w2) : Kept (fun b => b ≠ cb ∧ ob ≠ some b) w w2 := by
  (refine ⟨k.os.trans h.os, k.tape.trans h.tape, k.output.trans h.output, Nat.le_trans h.size k.size, fun b hb hok => ?_⟩); (rw [k.block b (Nat.lt_of_lt_of_le hb h.size) ⟨hok.1, fun e => ?_⟩, h.block b hb hok])
  rcases ho with rfl | ⟨g, rfl, hg⟩
  · exact hok.2 e
  · have : g = b := Option.some.inj e
    omega
theorem own_on {ob ob' ob'' : Option Nat} {w w1 : World} (ho : ob' = ob ∨ ∃ g, ob' = some g ∧ w.heap.size ≤ g) (hs : w.heap.size ≤ w1.heap.size) (k : ob'' = ob' ∨ ∃ g, ob'' = some g ∧ w1.heap.size ≤ g) : ob'' = ob ∨ ∃ g, ob'' = some g ∧ w.heap.size ≤ g := by
  rcases k with rfl | ⟨g, rfl, hg⟩
  · exact ho
  · exact Or.inr ⟨g, rfl, by omega⟩

theorem allNs_drop {ks : List Fm} {i : Nat} {f : Fm} (h : ks[i]? = some f) : allNs (ks.take (i + 1)) = allNs (ks.take i) ++ allN f := by
  have hap : ∀ a b : List Fm, allNs (a ++ b) = allNs a ++ allNs b := by
    intro a b
    induction a with
    | nil => rw [List.nil_append, allNs, List.nil_append]
    | cons x a ih => rw [List.cons_append, allNs, allNs, ih, List.append_assoc]
  rw [List.take_add_one, h, hap]
  congr 1
  show allNs [f] = _; rw [allNs, allNs, List.append_nil]

theorem sizes_take : ∀ (ks : List Fm) (i : Nat) (f : Fm), ks[i]? = some f → Fm.sizes (ks.take i) + f.size ≤ Fm.sizes ks
  | [], i, f, h => by simp at h
  | k :: ks, 0, f, h => by simp at h; subst h; simp [Fm.sizes]
  | k :: ks, i + 1, f, h => by
    (have := sizes_take ks i f (by simpa using h)); simp only [List.take_succ_cons, Fm.sizes]; omega

set_option maxHeartbeats 4000000 in
theorem each_step {fn : Nat} {cap : Array Value} {B cb : Nat} {Inv : List Fm → Option Nat → World → Prop} (V : Visit fn cap B cb Inv) (m : Nat) (ih : Eachs fn cap B cb Inv m) : Eachs fn cap B cb Inv (m + 1) := by
  intro done ob f v w hm hN hfine hrep hinv; obtain ⟨k, n, ks⟩ := f; obtain ⟨sl, cp, rfl, hx1, hx2, hx3, hx4⟩ := Rep.def.1 hrep; have HX : Hid (ks ≠ [] → ∃ b off, sl = some ⟨b, off, none⟩ ∧ b < B ∧ Reps w (· < B) b off ks) := hx4; have HV : Hid (Visit fn cap B cb Inv) := V; obtain ⟨hcb, hob⟩ := V.lt hinv; have HO : Hid (∀ g, ob = some g → B ≤ g ∧ g < w.heap.size) := hob; have hBcb := V.hB; (have hlenI : ((ks.length : Nat) : Int) ≤ 9223372036854775807 := by unfold maxLen at hx3; omega); have hcf := V.ent; (have HC : Hid (∀ wx, Rep wx (· < B) (.mk k n ks) (.agg #[.int .i64 k, .string n, .slice sl ks.length cp]) → Inv done ob wx → Calls Try.prog fn (#[.agg #[.int .i64 k, .string n, .slice sl ks.length cp]] ++ cap) wx _) := fun wx h1 h2 => V.call done ob _ _ wx (by rw [Fm.size] at hN; omega) hfine h1 h2); have HI : Hid (Inv done ob w) := hinv; have HF : Hid (∀ (i : Nat) (kid : Fm), ks[i]? = some kid → Fine kid) := hfine.kid; clear hx4 V hinv hob hfine
  go_enter Try.func52, Try.ntmps52
  go_wp2_with fail; (refine (HC.out _ (hrep.move fun b hb hok => ⟨Below.heap_alloc _ _ _ hb, hok⟩) (HV.out.alloc _ HI.out)).mono ?_); rintro e w1 ⟨rfl, ob1, hinv1, hk1, ho1⟩; (have hk0 : Kept (fun b => b ≠ cb ∧ ob ≠ some b) w w1 := ((Kept.refl _ w).alloc _).trans hk1)
  have ho0 : ob1 = ob ∨ ∃ g, ob1 = some g ∧ w.heap.size ≤ g := by
    rcases ho1 with h | ⟨g, h, hg⟩
    · exact Or.inl h
    · exact Or.inr ⟨g, h, by simp at hg; omega⟩
  (have q0 : w1.heap[w.heap.size]? = some (.cells #[.int .i64 k, .string n, .slice sl ks.length cp] 24 (0, 0)) := (hk1.block _ (by simp) ⟨by omega, fun e => by have := (HO.out _ e).2; omega⟩).trans (blk_new _ _)); have HI1 : Hid (Inv (done ++ [Fm.mk k n ks]) ob1 w1) := hinv1; (have HK0 : Hid (Kept (fun b => b ≠ cb ∧ ob ≠ some b) w w1) := hk0); have HO0 : Hid (ob1 = ob ∨ ∃ g, ob1 = some g ∧ w.heap.size ≤ g) := ho0; clear hinv1 hk1 hk0 ho0 ho1 HC hcf; obtain ⟨e0, e1, e2, -⟩ := blk3 q0; (have hmf : ∀ (fn : Fn) (first cap : Array Value) (w : World), (Instr.makeFunc fn first cap).run Try.prog w = .ok (.func fn first cap) w := fun _ _ _ _ => rfl); go_wp2_with fail
  go_loopg [12] ks.length (fun g c wr => ∃ i obr, i ≤ ks.length ∧ g = ks.length - i ∧ c = .int .i64 (i : Nat) ∧ Hid (Inv (done ++ [Fm.mk k n ks] ++ allNs (ks.take i)) obr wr) ∧ Hid (Kept (fun b => b ≠ cb ∧ ob ≠ some b) w wr) ∧ Hid (obr = ob ∨ ∃ g, obr = some g ∧ w.heap.size ≤ g))
  case atStart =>
    (refine ⟨0, ob1, by omega, by omega, rfl, ?_, HK0, HO0⟩); show Inv _ _ _; rw [List.take_zero, allNs, List.append_nil]; exact HI1.out
  case round =>
    obtain ⟨i, obr, hile, hg, rfl, HIr, HKr, HOr⟩ := hrel; have HG : Hid (gk = ks.length - i) := hg; clear hg; by_cases hlt : i < ks.length
    · obtain ⟨⟨k2, n2, ks2⟩, hki⟩ : ∃ f, ks[i]? = some f := ⟨_, List.getElem?_eq_getElem hlt⟩
      (have hltI : (i : Int) < (ks.length : Int) := by omega); (have hlc : ((i : Nat) : Int) < ((cp : Nat) : Int) := by omega); (obtain ⟨b, off, hsl, hbB, hrs⟩ := HX.out (fun e => by rw [e] at hlt; simp at hlt)); subst hsl; (have hbB' : Below B w wr := HKr.out.below (by omega) fun b hb => ⟨by omega, fun e => by have := (HO.out b e).1; omega⟩); obtain ⟨sl2, cap2, g0, g1, g2, hrep2⟩ := (hrs.low hbB hbB').at i k2 n2 ks2 hki; have hfk : Fine (.mk k2 n2 ks2) := HF.out i _ hki; (have hszm : (Fm.mk k2 n2 ks2).size < m := by have := sizes_get hki; rw [Fm.size] at hm; omega)
      have hNN : (done ++ [Fm.mk k n ks] ++ allNs (ks.take i)).length + (Fm.mk k2 n2 ks2).size ≤ 200 := by
        have h1 := sizes_take ks i _ hki; rw [Fm.size] at hN; simp only [List.length_append, List.length_singleton, allNs_len]; omega
      (have HIH : Hid (∀ wx, Rep wx (· < B) (.mk k2 n2 ks2) (.agg #[.int .i64 k2, .string n2, .slice sl2 ks2.length cap2]) → Inv (done ++ [Fm.mk k n ks] ++ allNs (ks.take i)) obr wx → Calls Try.prog 52 #[.agg #[.int .i64 k2, .string n2, .slice sl2 ks2.length cap2], .func (.func fn) #[] cap] wx _) := fun wx h1 h2 => ih _ obr _ _ wx hszm hNN hfk h1 h2); have HD : Hid (allNs (ks.take (i + 1)) = allNs (ks.take i) ++ allN (.mk k2 n2 ks2)) := allNs_drop hki; have HR2 : Hid (Rep wr (· < B) (.mk k2 n2 ks2) (.agg #[.int .i64 k2, .string n2, .slice sl2 ks2.length cap2])) := hrep2; clear hki hrs hrep HX hNN hrep2
      go_wp2_with (first
        | (go_at_call 52
           (refine (HIH.out _ (HR2.out.move fun b hb hok => ⟨Below.heap_alloc _ _ _ hb, hok⟩) (HV.out.alloc _ HIr.out)).mono ?_); rintro e w2 ⟨rfl, ob2, hinv2, hk2, ho2⟩; have HI2 : Hid (Inv (done ++ [Fm.mk k n ks] ++ allNs (ks.take i) ++ allN (.mk k2 n2 ks2)) ob2 w2) := hinv2; (have hk3 : Kept (fun b => b ≠ cb ∧ obr ≠ some b) wr w2 := ((Kept.refl _ wr).alloc _).trans hk2)
           have ho3 : ob2 = obr ∨ ∃ g, ob2 = some g ∧ wr.heap.size ≤ g := by
             rcases ho2 with h | ⟨g, h, hg⟩
             · exact Or.inl h
             · exact Or.inr ⟨g, h, by simp at hg; omega⟩
           (have HK2 : Hid (Kept (fun b => b ≠ cb ∧ ob ≠ some b) w w2) := kept_on HKr.out HOr.out hk3); have HO2 : Hid (ob2 = ob ∨ ∃ g, ob2 = some g ∧ w.heap.size ≤ g) := own_on HOr.out HKr.out.size ho3
           clear hinv2 hk2 ho2 hk3 ho3)
        | fail)
      go_roundg (ks.length - (i + 1))
      case measure => have := HG.out; omega
      case rel =>
        (refine ⟨i + 1, ob2, by omega, rfl, by go_num, ?_, HK2, HO2⟩); show Inv _ _ _; rw [HD.out, ← List.append_assoc]; exact HI2.out
    · have HE : Hid (Inv (done ++ allN (.mk k n ks)) obr wr) := by
        show Inv _ _ _; have := HIr.out; (rw [List.take_of_length_le (by omega), List.append_assoc] at this); rw [allN]; exact this
      (have hge : ¬ (i : Int) < (ks.length : Int) := by omega); clear HX hrep HIr; go_wp2_with fail
      go_end0
      exact ⟨rfl, obr, HE.out, HKr.out, HOr.out⟩

theorem eachs_all {fn : Nat} {cap : Array Value} {B cb : Nat} {Inv : List Fm → Option Nat → World → Prop} (V : Visit fn cap B cb Inv) : ∀ m, Eachs fn cap B cb Inv m
  | 0 => fun _ _ _ _ _ h => absurd h (Nat.not_lt_zero _)
  | m + 1 => each_step V m (eachs_all V m)

theorem each_any {fn : Nat} {cap : Array Value} {B cb : Nat} {Inv : List Fm → Option Nat → World → Prop} (V : Visit fn cap B cb Inv) (ob : Option Nat) (f : Fm) (v : Value) (w : World) (hs : f.size ≤ 200) (hf : Fine f) (hrep : Rep w (· < B) f v) (hi : Inv [] ob w) :
    Calls Try.prog 52 #[v, .func (.func fn) #[] cap] w fun e w' => e = .returned (.tuple #[]) ∧ ∃ ob', Inv (allN f) ob' w' ∧ Kept (fun b => b ≠ cb ∧ ob ≠ some b) w w' ∧ (ob' = ob ∨ ∃ g, ob' = some g ∧ w.heap.size ≤ g) :=
  eachs_all V (f.size + 1) [] ob f v w (Nat.lt_succ_self _) (by simpa using hs) hf hrep hi
end Go.Proofs.Ytfhbpfgbnfcdaaa
/- Walks: how many nodes there are. -/
namespace Go.Proofs.Ytfhbpfgbnfcdaaa
open Go.RowKit

def hasN (nm : ByteArray) : Fm → Bool
  | .mk k n _ => decide (k = 1) && decide (n.data.toList = nm.data.toList)

set_option maxHeartbeats 1000000 in
theorem hasName_any (f : Fm) (v : Value) (nm : ByteArray) (w : World) (hrep : Rep w (fun _ => True) f v) :
    Calls Try.prog 93 #[v, .string nm] w fun e w' => e = .returned (.bool (hasN nm f)) ∧ Below w.heap.size w w' := by
  obtain ⟨k, n, ks⟩ := f; obtain ⟨sl, cap, rfl⟩ := slice_shape hrep; have B := (Below.refl w.heap.size w).alloc (Nat.le_refl _); clear hrep; by_cases h1 : k = 1
  · subst h1
    by_cases h2 : n.data.toList = nm.data.toList
    · have h3 : n = nm := by apply ByteArray.ext; apply Array.ext'; exact h2
      subst h3; (have e : hasN n (.mk 1 n ks) = true := by simp [hasN]); rw [e]; clear h2 e
      go_enter Try.func93, Try.ntmps93
      go_wp2_with fail; go_ret; exact ⟨rfl, B _⟩
    · have e : hasN nm (.mk 1 n ks) = false := by simp [hasN, h2]
      rw [e]; (have h3 : (n.toList == nm.toList) = false := by rw [ByteArray.toList_eq, ByteArray.toList_eq]; simpa using h2); clear h2 e
      go_enter Try.func93, Try.ntmps93
      go_wp2_with fail; go_ret; exact ⟨rfl, B _⟩
  · have e : hasN nm (.mk k n ks) = false := by simp [hasN, h1]
    rw [e]; (have h3 : (k == 1) = false := by simpa using h1); clear e
    go_enter Try.func93, Try.ntmps93
    go_wp2_with fail; go_ret; exact ⟨rfl, B _⟩

def InvC (cb : Nat) (done : List Fm) (ob : Option Nat) (w : World) : Prop := ob = none ∧ w.heap[cb]? = some (.cells #[.int .i64 (done.length : Nat)] 3 (0, 0))

theorem blk1 {w : World} {b : Nat} {c0 : Value} {T : TypeId} (h : w.heap[b]? = some (.cells #[c0] T (0, 0))) : w.cell? ⟨b, 0, none⟩ = some c0 ∧ w.frozen? ⟨b, 0, none⟩ = false := ⟨blk_cell h 0, blk_fz h 0⟩
theorem set1 {w : World} {b : Nat} {c0 : Value} {T : TypeId} (h : w.heap[b]? = some (.cells #[c0] T (0, 0))) (v : Value) : (w.setCell ⟨b, 0, none⟩ v).heap[b]? = some (.cells #[v] T (0, 0)) := by
  simp [World.setCell, Array.getElem?_modify, h]

set_option maxHeartbeats 1000000 in
theorem size1_any (cb l : Nat) (hl : l < 200) (f : Fm) (v : Value) (w : World) (hrep : Rep w (fun _ => True) f v) (h : w.heap[cb]? = some (.cells #[.int .i64 (l : Nat)] 3 (0, 0))) :
    Calls Try.prog 94 #[v, .pointer (some ⟨cb, 0, none⟩)] w fun e w' => e = .returned (.tuple #[]) ∧ w'.heap[cb]? = some (.cells #[.int .i64 ((l + 1 : Nat) : Int)] 3 (0, 0)) ∧ Kept (fun b => b ≠ cb) w w' := by
  obtain ⟨k, n, ks⟩ := f; obtain ⟨sl, cap, rfl⟩ := slice_shape hrep; clear hrep; have q := alloc_keep h (.cells #[.int .i64 k, .string n, .slice sl ks.length cap] 24 (0, 0)); (have K := (Kept.refl (fun b => b ≠ cb) w).alloc (.cells #[.int .i64 k, .string n, .slice sl ks.length cap] 24 (0, 0))); (have hlI : (l : Int) < 200 := by omega); obtain ⟨c0, c1⟩ := blk1 q; have z := lt_of_block h
  go_enter Try.func94, Try.ntmps94
  go_wp2_with fail
  go_end0
  have hq := alloc_keep (set1 h (.int .i64 ((l : Int) + 1))) (.cells #[.int .i64 k, .string n, .slice sl ks.length cap] 24 (0, 0)); (refine ⟨rfl, ?_, ((Kept.refl _ w).setCell (by simp) _).alloc _⟩); (rw [show ((l + 1 : Nat) : Int) = (l : Int) + 1 by omega]); exact hq

theorem size1_in (cap : Array Value) (w : World) : (callFunc 94 cap).run Try.prog w = .ok (.enter 94 cap) w := by
  simp [go_sem]

theorem size_visit (B cb : Nat) (h : B ≤ cb) : Visit 94 #[.pointer (some ⟨cb, 0, none⟩)] B cb (InvC cb) where
  hB := h
  lt := fun h => ⟨lt_of_block h.2, fun g e => by rw [h.1] at e; cases e⟩
  alloc := fun o h => ⟨h.1, alloc_keep h.2 o⟩
  ent := fun v w => size1_in _ w
  call := fun done ob f v w hl _ hrep hi => by
    refine (size1_any cb done.length hl f v w hrep.all hi.2).mono ?_; rintro e w' ⟨rfl, hq, hk⟩; (refine ⟨rfl, none, ⟨rfl, ?_⟩, hk.mono (fun _ _ h => h.1), Or.inl hi.1.symm⟩); rw [List.length_append]; exact hq

set_option maxHeartbeats 1000000 in
theorem size_any (f : Fm) (v : Value) (w : World) (hs : f.size ≤ 200) (hf : Fine f) (hrep : Rep w (fun _ => True) f v) :
    Calls Try.prog 62 #[v] w fun e w' => e = .returned (.int .i64 (f.size : Nat)) ∧ Below w.heap.size w w' := by
  (have hv := size_visit w.heap.size (w.heap.size + 1) (by omega)); (have hea := fun v wx h hi => each_any hv none f v wx hs hf h hi); have hfl := allN_len f; (have hm := hrep.move (ok' := (· < w.heap.size)) fun b hb _ => ⟨rfl, hb⟩); obtain ⟨k, n, ks⟩ := f; obtain ⟨sl, cap, rfl⟩ := slice_shape hrep; have HE : Hid (∀ v wx, _ → _ → Calls Try.prog 52 _ wx _) := hea; have HL : Hid ((allN (.mk k n ks)).length = (Fm.mk k n ks).size) := hfl; have HM : Hid (Rep w (· < w.heap.size) (.mk k n ks) (.agg #[.int .i64 k, .string n, .slice sl ks.length cap])) := hm; (have hmf : ∀ (fn : Fn) (first cap : Array Value) (w : World), (Instr.makeFunc fn first cap).run Try.prog w = .ok (.func fn first cap) w := fun _ _ _ _ => rfl); clear hea hv hrep hm hfl
  go_enter Try.func62, Try.ntmps62
  go_wp2_with (first
    | (go_at_call 52
       (refine (HE.out _ _ (HM.out.move fun b hb hok => ⟨by rw [Below.heap_alloc _ _ _ (by simp; omega), Below.heap_alloc _ _ _ hb], hok⟩) ⟨rfl, ?_⟩).mono ?_)
       · have := blk_new (w.alloc (.cells #[.int .i64 k, .string n, .slice sl ks.length cap] 24 (0, 0))) (.cells #[.int .i64 0] 3 (0, 0))
         simpa using this
       rintro e w1 ⟨rfl, ob', ⟨rfl, hq⟩, hk, -⟩; rw [HL.out] at hq; obtain ⟨c0, c1⟩ := blk1 hq
       have B1 : Below w.heap.size w w1 := ((((Kept.refl _ w).alloc _).alloc _).trans (hk.mono (ok' := fun b => b < w.heap.size) fun b _ h => ⟨by omega, by simp⟩)).below (Nat.le_refl _) (fun _ h => h))
    | fail)
  go_ret; exact ⟨rfl, B1⟩

/-! With a formula of s nodes for a name. -/
def cntW (nm : ByteArray) (s : Nat) : List Fm → Nat
  | [] => 0
  | f :: fs => (if hasN nm f = true then s else 1) + cntW nm s fs
theorem cntW_append (nm : ByteArray) (s : Nat) : ∀ a b : List Fm, cntW nm s (a ++ b) = cntW nm s a + cntW nm s b
  | [], b => by simp [cntW]
  | x :: a, b => by simp only [List.cons_append, cntW, cntW_append nm s a b]; omega
theorem cntW_le (nm : ByteArray) (s : Nat) : ∀ a : List Fm, cntW nm s a ≤ a.length * (s + 1)
  | [] => by simp [cntW]
  | x :: a => by
    have := cntW_le nm s a; simp only [cntW, List.length_cons, Nat.add_mul, Nat.one_mul]
    split <;> omega

def InvW (nm : ByteArray) (s nb cb sb : Nat) (done : List Fm) (ob : Option Nat) (w : World) : Prop := ob = none ∧ w.heap[nb]? = some (.cells #[.string nm] 9 (0, 0)) ∧ w.heap[cb]? = some (.cells #[.int .i64 (cntW nm s done : Nat)] 3 (0, 0)) ∧ w.heap[sb]? = some (.cells #[.int .i64 (s : Nat)] 3 (0, 0))

set_option maxHeartbeats 1000000 in
theorem sizeW1_any (nm : ByteArray) (s nb cb sb l : Nat) (hl : l ≤ 100000) (hs : s ≤ 1000) (f : Fm) (v : Value) (w : World) (hrep : Rep w (fun _ => True) f v) (h0 : w.heap[nb]? = some (.cells #[.string nm] 9 (0, 0))) (h1 : w.heap[cb]? = some (.cells #[.int .i64 (l : Nat)] 3 (0, 0))) (h2 : w.heap[sb]? = some (.cells #[.int .i64 (s : Nat)] 3 (0, 0))) :
    Calls Try.prog 92 #[v, .pointer (some ⟨nb, 0, none⟩), .pointer (some ⟨cb, 0, none⟩), .pointer (some ⟨sb, 0, none⟩)] w fun e w' => e = .returned (.tuple #[]) ∧ w'.heap[cb]? = some (.cells #[.int .i64 ((l + (if hasN nm f = true then s else 1) : Nat) : Int)] 3 (0, 0)) ∧ Kept (fun b => b ≠ cb) w w' := by
  (have hh := fun v w h => hasName_any f v nm w h)
  rcases hb : hasN nm f with _ | _
  · rw [hb] at hh
    obtain ⟨k, n, ks⟩ := f; obtain ⟨sl, cap, rfl⟩ := slice_shape hrep; have HH : Hid (∀ v w, _ → Calls Try.prog 93 _ w _) := hh; (have hlI : (l : Int) ≤ 100000 := by omega); (have hlJ : (s : Int) ≤ 1000 := by omega); clear hh hb; have k0 := alloc_keep h0 (.cells #[.int .i64 k, .string n, .slice sl ks.length cap] 24 (0, 0)); obtain ⟨c0, -⟩ := blk1 k0; have z0 := lt_of_block h0
    go_enter Try.func92, Try.ntmps92
    go_wp2_with (first
      | (go_at_call 93
         refine (HH.out _ _ (hrep.more _)).mono ?_; rintro e w1 ⟨rfl, hb1⟩; have k1 := below_keep hb1 (alloc_keep h1 _)
         obtain ⟨c1, c2⟩ := blk1 k1)
      | fail)
    go_end0
    (refine ⟨rfl, ?_, (((Kept.refl _ w).alloc _).trans (kept_of_below hb1 fun _ h _ => h)).setCell (by simp) _⟩); exact set1 k1 _
  · rw [hb] at hh
    obtain ⟨k, n, ks⟩ := f; obtain ⟨sl, cap, rfl⟩ := slice_shape hrep; have HH : Hid (∀ v w, _ → Calls Try.prog 93 _ w _) := hh; (have hlI : (l : Int) ≤ 100000 := by omega); (have hlJ : (s : Int) ≤ 1000 := by omega); clear hh hb; have k0 := alloc_keep h0 (.cells #[.int .i64 k, .string n, .slice sl ks.length cap] 24 (0, 0)); obtain ⟨c0, -⟩ := blk1 k0; have z0 := lt_of_block h0
    go_enter Try.func92, Try.ntmps92
    go_wp2_with (first
      | (go_at_call 93
         refine (HH.out _ _ (hrep.more _)).mono ?_; rintro e w1 ⟨rfl, hb1⟩; have k1 := below_keep hb1 (alloc_keep h1 _); obtain ⟨c1, c2⟩ := blk1 k1; have k2 := below_keep hb1 (alloc_keep h2 _)
         obtain ⟨c3, -⟩ := blk1 k2)
      | fail)
    go_end0
    (refine ⟨rfl, ?_, (((Kept.refl _ w).alloc _).trans (kept_of_below hb1 fun _ h _ => h)).setCell (by simp) _⟩); exact set1 k1 _

theorem sizeW1_in (cap : Array Value) (w : World) : (callFunc 92 cap).run Try.prog w = .ok (.enter 92 cap) w := by
  simp [go_sem]

theorem sizeW_visit (nm : ByteArray) (s : Nat) (hs : s ≤ 200) (B nb cb sb : Nat) (h : B ≤ cb) (h1 : nb ≠ cb) (h2 : sb ≠ cb) : Visit 92 #[.pointer (some ⟨nb, 0, none⟩), .pointer (some ⟨cb, 0, none⟩), .pointer (some ⟨sb, 0, none⟩)] B cb (InvW nm s nb cb sb) where
  hB := h
  lt := fun h => ⟨lt_of_block h.2.2.1, fun g e => by rw [h.1] at e; cases e⟩
  alloc := fun o h => ⟨h.1, alloc_keep h.2.1 o, alloc_keep h.2.2.1 o, alloc_keep h.2.2.2 o⟩
  ent := fun v w => sizeW1_in _ w
  call := fun done ob f v w hl _ hrep hi => by
    have hle := cntW_le nm s done; (have hle2 : done.length * (s + 1) ≤ 200 * 201 := Nat.mul_le_mul (by omega) (by omega)); (refine (sizeW1_any nm s nb cb sb (cntW nm s done) (by omega) (by omega) f v w hrep.all hi.2.1 hi.2.2.1 hi.2.2.2).mono ?_); rintro e w' ⟨rfl, hq, hk⟩; (refine ⟨rfl, none, ⟨rfl, (hk.block _ (lt_of_block hi.2.1) h1).trans hi.2.1, ?_, (hk.block _ (lt_of_block hi.2.2.2) h2).trans hi.2.2.2⟩, hk.mono (fun _ _ h => h.1), Or.inl hi.1.symm⟩); (rw [cntW_append, show cntW nm s [f] = (if hasN nm f = true then s else 1) by simp [cntW]]); exact hq

set_option maxHeartbeats 1000000 in
theorem sizeW_any (f : Fm) (v : Value) (nm : ByteArray) (s : Nat) (hs2 : s ≤ 200) (w : World) (hs : f.size ≤ 200) (hf : Fine f) (hrep : Rep w (fun _ => True) f v) :
    Calls Try.prog 61 #[v, .string nm, .int .i64 (s : Nat)] w fun e w' => e = .returned (.int .i64 (cntW nm s (allN f) : Nat)) ∧ Below w.heap.size w w' := by
  (have hv := sizeW_visit nm s hs2 w.heap.size (w.heap.size + 1) (w.heap.size + 1 + 1 + 1) (w.heap.size + 1 + 1) (by omega) (by omega) (by omega)); (have hea := fun v wx h hi => each_any hv none f v wx hs hf h hi); (have hm := hrep.move (ok' := (· < w.heap.size)) fun b hb _ => ⟨rfl, hb⟩); obtain ⟨k, n, ks⟩ := f; obtain ⟨sl, cap, rfl⟩ := slice_shape hrep; have HE : Hid (∀ v wx, _ → _ → Calls Try.prog 52 _ wx _) := hea; have HM : Hid (Rep w (· < w.heap.size) (.mk k n ks) (.agg #[.int .i64 k, .string n, .slice sl ks.length cap])) := hm; (have hmf : ∀ (fn : Fn) (first cap : Array Value) (w : World), (Instr.makeFunc fn first cap).run Try.prog w = .ok (.func fn first cap) w := fun _ _ _ _ => rfl); clear hea hv hrep hm; generalize allN (.mk k n ks) = nodes at *; generalize hcn : cntW nm s nodes = cn; have HCn : Hid (cntW nm s nodes = cn) := hcn; clear hcn; have N0 := (three (w := w) (o0 := .cells #[.int .i64 k, .string n, .slice sl ks.length cap] 24 (0, 0)) (o1 := .cells #[.string nm] 9 (0, 0)) (o2 := .cells #[.int .i64 (s : Nat)] 3 (0, 0)) (o3 := .cells #[.int .i64 0] 3 (0, 0)))
  go_enter Try.func61, Try.ntmps61
  go_wp2_with (first
    | (go_at_call 52
       (refine (HE.out _ _ (HM.out.move fun b hb hok => ⟨by rw [Below.heap_alloc _ _ _ (by simp; omega), Below.heap_alloc _ _ _ (by simp; omega), Below.heap_alloc _ _ _ (by simp; omega), Below.heap_alloc _ _ _ hb], hok⟩) ⟨rfl, N0.2.1, N0.2.2.2, N0.2.2.1⟩).mono ?_); rintro e w1 ⟨rfl, ob', ⟨rfl, -, hq, -⟩, hk, -⟩; rw [HCn.out] at hq; obtain ⟨c0, c1⟩ := blk1 hq
       have B1 : Below w.heap.size w w1 := ((((((Kept.refl _ w).alloc _).alloc _).alloc _).alloc _).trans (hk.mono (ok' := fun b => b < w.heap.size) fun b _ h => ⟨by omega, by simp⟩)).below (Nat.le_refl _) (fun _ h => h))
    | fail)
  go_ret; exact ⟨rfl, B1⟩
end Go.Proofs.Ytfhbpfgbnfcdaaa
