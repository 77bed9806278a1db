/- Texts of one proof, one behind the other: MD6, SB6, FW5, FW6, FW7. -/
import Derived.Test.YtheiikkeelbjnajGreatB10
import Derived.Test.YtheiikkeelbjnajGreatB01
import Derived.Test.YtheiikkeelbjnajGreatB05
import Derived.Test.YtheiikkeelbjnajGreatB11
import Derived.Test.YtheiikkeelbjnajGreatB07
import Derived.Deep.OwnRows
import Derived.Maps.OwnSet
import Derived.Maps.OwnOps
import Derived.DeepKeys4
import Derived.Test.YtheiikkeelbjnajGreatB09
import Derived.Shelf.Strings.OnBuilder
import Derived.Shelf.Slices.Equal
import Derived.Shelf.Slices.Empties2
import Derived.Test.YtheiikkeelbjnajGreatProg
import Derived.Laws.BitsLemmas
import Derived.Deep.RegionHeld3
import Derived.Deep.RegionLaw
import Derived.RegionTactic
import Derived.Test.YtheiikkeelbjnajGreatB06
/- Walks: a model of one's own. -/
namespace Go.Proofs.YtheiikkeelbjnajGreat
open Go.RowKit Go.Sort

theorem cons_lenM {n : Nat} {l : List Value} (h : l.length = n + 1) : ∃ v t, l = v :: t ∧ t.length = n := by
  cases l with
  | nil => cases h
  | cons v t => exact ⟨v, t, rfl, by simpa using h⟩
theorem someInjM {x y : Value} (h : some x = some y) : x = y := Option.some.inj h
theorem eval_tmpM {a : Act} {n : Nat} {v : Value} (h : a.tmps[n]? = some v) : a.eval (.tmp n) = v := by
  simp [Act.eval, h]
end Go.Proofs.YtheiikkeelbjnajGreat
/- Walks: numbers given out in the order in which keys come first (numberOf), for texts and for what worlds see. -/
namespace Go.Proofs.YtheiikkeelbjnajGreat
open Go.RowKit Go.Maps Go.WideMaps

theorem kept_grownS {w w' : World} {b : Nat} (h : w.grownBy w' (some b)) : Kept (fun x => x ≠ b) w w' := ⟨h.os, h.tape, h.output, h.size, fun x hx hn => h.block x hx fun e => hn (Option.some.inj e)⟩
def OkT (t : List UInt8) : Prop := t.length ≤ maxLen
end Go.Proofs.YtheiikkeelbjnajGreat
/- Walks: numbers of places in maps: checkPlaces; the next node: next. -/
namespace Go.Proofs.YtheiikkeelbjnajGreat
open Go.RowKit Go.Sort Go.Maps Go.WideMaps

/-- How many places big names have: what a map tells. -/
def PlM (w : World) (b : Nat) (mu : List UInt8 → Option Nat) (c : Nat) : Prop := ∃ (n : Nat) (D : DataW Unit), w.ownsMap Tryz.prog 9 (plainElem Tryz.prog 3) b n D ∧ n ≤ c ∧ (∀ s, OkT s → Maps.has D (.string s) = (mu s).isSome) ∧ ∀ s x, OkT s → mu s = some x → ∀ z, D.atKey (.string s) z = .lit (.int .i64 (x : Nat))
theorem PlM.nil {w : World} : PlM (w.alloc (.map #[] 0)) w.heap.size (fun _ => none) 0 :=
  ⟨0, .map [], World.ownsMap_made _ _ _ _, Nat.le_refl _, fun s _ => by simp [has_eq], fun s x _ h => by cases h⟩
theorem PlM.same {w w' : World} {b c : Nat} {mu : List UInt8 → Option Nat} (h : PlM w b mu c) (e : w'.heap[b]? = w.heap[b]?) : PlM w' b mu c := by
  obtain ⟨n, D, ⟨es, clock, hb, r⟩, r2⟩ := h; exact ⟨n, D, ⟨es, clock, e.trans hb, r⟩, r2⟩
theorem PlM.lt {w : World} {b c : Nat} {mu : List UInt8 → Option Nat} (h : PlM w b mu c) : b < w.heap.size := by
  obtain ⟨n, D, ⟨es, clock, hb, r⟩, r2⟩ := h; exact lt_of_block hb
theorem PlM.up {w w' : World} {b c : Nat} {mu : List UInt8 → Option Nat} (h : PlM w b mu c) (hb : Below w.heap.size w w') : PlM w' b mu c := h.same (hb.block _ h.lt)
theorem PlM.more {w : World} {b c c' : Nat} {mu : List UInt8 → Option Nat} (h : PlM w b mu c) (hc : c ≤ c') : PlM w b mu c' := by
  obtain ⟨n, D, h1, h2, h3⟩ := h; (exact ⟨n, D, h1, by omega, h3⟩)
theorem PlM.noCells {w : World} {b c : Nat} {mu : List UInt8 → Option Nat} (h : PlM w b mu c) (cs : Array Value) (T : TypeId) (f : Nat × Nat) : w.heap[b]? ≠ some (.cells cs T f) := by
  obtain ⟨n, D, ⟨es, clock, hb, r⟩, r2⟩ := h; rw [hb]; intro e
  cases e
def plPut (mu : List UInt8 → Option Nat) (k : List UInt8) (x : Nat) : List UInt8 → Option Nat := fun j => if j = k then some x else mu j
theorem PlM.put {w' : World} {b c x n : Nat} {k : List UInt8} {mu : List UInt8 → Option Nat} {D : DataW Unit} (hk : OkT k) (hnc : n ≤ c) (hM : IsMap D) (h1 : ∀ s, OkT s → Maps.has D (.string s) = (mu s).isSome) (h2 : ∀ s x, OkT s → mu s = some x → ∀ z, D.atKey (.string s) z = .lit (.int .i64 (x : Nat)))
    (h : w'.ownsMap Tryz.prog 9 (plainElem Tryz.prog 3) b (n + 1) (D.put (.string k) (.lit (.int .i64 (x : Nat))))) : PlM w' b (plPut mu k x) (c + 1) := by
  (have hlit : WideAt.IsKeyLit (Lit.string k) := by first | trivial | exact True.intro | simp [WideAt.IsKeyLit]); (refine ⟨n + 1, _, h, by omega, fun j hj => ?_, fun j y hj hy z => ?_⟩)
  · by_cases e : j = k
    · subst e; rw [has_put_same hM hlit]; simp [plPut]
    · rw [has_put_other (fun h => e (by injection h)), h1 j hj, plPut, if_neg e]
  · by_cases e : j = k
    · subst e
      rw [plPut, if_pos rfl] at hy
      cases hy
      exact atKey_put_same hM hlit _ z
    · rw [plPut, if_neg e] at hy
      (rw [atKey_put_other (fun h => e (by injection h))]); exact h2 j y hj hy z
theorem PlM.look {w : World} {b c : Nat} {k : List UInt8} {mu : List UInt8 → Option Nat} (h : PlM w b mu c) (hk : OkT k) : ∃ x : Int, (∀ y, mu k = some y → x = (y : Nat)) ∧ ∀ z, (Instr.lookup 104 (.map (some b)) (.string ⟨k.toArray⟩) true).run Tryz.prog (w.drewN z) = .ok (.tuple #[.int .i64 x, .bool (mu k).isSome]) (w.drewN z) := by
  obtain ⟨nn, D, hmap, -, hh1, hh3⟩ := h
  have look : ∀ x, ∃ c, (Instr.lookup 104 (.map (some b)) (.string ⟨k.toArray⟩) true).run Tryz.prog (w.drewN x) = .ok (.tuple #[.int .i64 c, .bool (Maps.has D (.string k))]) (w.drewN x) ∧ D.atKey (.string k) (.lit (.int .i64 0)) = .lit (.int .i64 c) ∧ (Lit.int .i64 c).wf = true := fun x => by
    have hm : (w.drewN x).ownsMap Tryz.prog 9 (plainElem Tryz.prog 3) b nn D := hmap; (obtain ⟨v, pl, hrun, hv⟩ := hm.look_ok strKeyed Tryz.underlying104 (zeroInt _) (plainElem_int Tryz.underlying3 (WalkArith.wf_i64 (by omega))) (keyStr k hk)); obtain ⟨c, rfl, hz, hw⟩ := plainElem_int_inv Tryz.underlying3 hv; (exact ⟨c, hrun, by injection hz, hw⟩)
  obtain ⟨c, -, hat, hcw⟩ := look 0; (refine ⟨c, fun y hy => ?_, fun x => ?_⟩)
  · have h1 := (hh3 k y hk hy (.lit (.int .i64 0))).symm.trans hat
    exact (Lit.int.inj (DataW.lit.inj h1)).2.symm
  · obtain ⟨c', hrun, hat', -⟩ := look x
    rw [hat] at hat'; have : c = c' := (Lit.int.inj (DataW.lit.inj hat')).2; rw [this, ← hh1 k hk]; exact hrun
/-- Has a big name another number of places? -/
def plBad (mu : List UInt8 → Option Nat) (k : List UInt8) (x : Nat) : Bool := match mu k with
  | some y => decide (y ≠ x)
  | none => false
def CPPost (b : Nat) (mu : List UInt8 → Option Nat) (c : Nat) (k : List UInt8) (x : Nat) (at_ : Int) (w : World) (e : Ending) (w' : World) : Prop :=
  if plBad mu k x = true then e = .panicked (stopC 5 at_) ∧ w' = w else e = .returned (.tuple #[]) ∧ PlM w' b (plPut mu k x) (c + 1) ∧ Kept (· ≠ b) w w'
set_option maxRecDepth 10000 in
set_option maxHeartbeats 4000000 in
theorem checkPlaces_any (k : List UInt8) (hk : OkT k) (x : Nat) (hx : x ≤ maxLen) (at_ : Int) (b : Nat) (mu : List UInt8 → Option Nat) (c : Nat) (hc : c ≤ 1000) (w : World) (h : PlM w b mu c) :
    Calls Tryz.prog 101 #[.map (some b), .string ⟨k.toArray⟩, .int .i64 (x : Nat), .int .i64 at_] w (CPPost b mu c k x at_ w) := by
  have hkey := keyStr k hk; obtain ⟨y, hy, hlk⟩ := h.look hk; have hlk0 : (Instr.lookup 104 (.map (some b)) (.string ⟨k.toArray⟩) true).run Tryz.prog w = .ok (.tuple #[.int .i64 y, .bool (mu k).isSome]) w := hlk 0; obtain ⟨n, D, hown, hn, hh1, hh3⟩ := h; (have HN : Hid (∀ w', w'.ownsMap Tryz.prog 9 (plainElem Tryz.prog 3) b (n + 1) (D.put (.string k) (.lit (.int .i64 (x : Nat)))) → PlM w' b (plPut mu k x) (c + 1)) := fun w' hw' => PlM.put hk hn hown.isMap hh1 hh3 hw'); (have hnm : n < maxLen := by unfold maxLen; omega); unfold maxLen at hx; (have hxI : (x : Int) ≤ 9223372036854775807 := by omega); unfold CPPost; generalize (⟨k.toArray⟩ : ByteArray) = T at *; clear hlk hh1 hh3
  rcases hm : mu k with _ | z
  · have hb : plBad mu k x = false := by unfold plBad; rw [hm]
    simp only [hb, Bool.false_eq_true, if_false]; rw [hm] at hlk0; simp only [Option.isSome_none] at hlk0; clear hy hm hb
    go_enter Tryz.func101, Tryz.ntmps101
    go_wp2_with (first
      | (at_mapUpdate
         (refine wpList_mapUpdate_own _ rfl _ _ _ 104 rfl 9 3 strKeyed Tryz.underlying104 _ b n _ rfl hown hnm _ _ _ rfl rfl hkey _ [] (plainElem_int Tryz.underlying3 (WalkArith.wf_i64 (by omega))) ?_); intro w1 hown1 hgrow1; have HR1 : Hid (PlM w1 b (plPut mu k x) (c + 1)) := HN.out _ hown1; have HG1 : Hid (w.grownBy w1 (some b)) := hgrow1
         clear hown1 hgrow1)
      | fail)
    go_end0
    exact ⟨rfl, HR1.out, kept_grownS HG1.out⟩
  · have hyz : y = (z : Nat) := hy z hm
    subst hyz; rw [hm] at hlk0; simp only [Option.isSome_some] at hlk0; by_cases hzx : z = x
    · have hb : plBad mu k x = false := by unfold plBad; rw [hm]; simpa using hzx
      simp only [hb, Bool.false_eq_true, if_false]; (have hzJ : ((z : Int) != (x : Int)) = false := by rw [bne_eq_false_iff_eq]; omega); clear hy hm hb hzx
      go_enter Tryz.func101, Tryz.ntmps101
      go_wp2_with (first
        | (at_mapUpdate
           (refine wpList_mapUpdate_own _ rfl _ _ _ 104 rfl 9 3 strKeyed Tryz.underlying104 _ b n _ rfl hown hnm _ _ _ rfl rfl hkey _ [] (plainElem_int Tryz.underlying3 (WalkArith.wf_i64 (by omega))) ?_); intro w1 hown1 hgrow1; have HR1 : Hid (PlM w1 b (plPut mu k x) (c + 1)) := HN.out _ hown1; have HG1 : Hid (w.grownBy w1 (some b)) := hgrow1
           clear hown1 hgrow1)
        | fail)
      go_end0
      exact ⟨rfl, HR1.out, kept_grownS HG1.out⟩
    · have hb : plBad mu k x = true := by unfold plBad; rw [hm]; simpa using hzx
      simp only [hb, if_true]; (have hzJ : ((z : Int) != (x : Int)) = true := by rw [bne_iff_ne]; omega); clear hy hm hb hzx hown hkey
      go_enter Tryz.func101, Tryz.ntmps101
      go_wp2_with (first
        | (go_at_call 122; refine (stop_any _ _ _).mono ?_; rintro e w4 ⟨rfl, rfl⟩)
        | fail)
      exact ⟨rfl, rfl, rfl⟩
end Go.Proofs.YtheiikkeelbjnajGreat
/- What Check of first order says, as data; the checker in memory; next. -/
namespace Go.Proofs.YtheiikkeelbjnajGreat
open Go.RowKit Go.Sort Go.Maps Go.WideMaps

abbrev PlF := List UInt8 → Option Nat
inductive CkR where
  | bad (c : Int) (a : Nat)
  | ok (s : Nat) (p f : PlF)
mutual
def wchk : Wd → Nat → PlF → PlF → CkR
  | .mk n ar, s, p, f => if s = 200 then .bad 2 0 else match wnodeF n ar.length with
    | some c => .bad c s
    | none => if isBg n.data.toList = true then (if plBad f n.data.toList ar.length = true then .bad 5 s else wchks ar (s + 1) p (plPut f n.data.toList ar.length)) else wchks ar (s + 1) p f
def wchks : List Wd → Nat → PlF → PlF → CkR
  | [], s, p, f => .ok s p f
  | x :: xs, s, p, f => match wchk x s p f with
    | .bad c a => .bad c a
    | .ok s p f => wchks xs s p f
end
mutual
def echk : Ex → Nat → PlF → PlF → CkR
  | .mk k n ws ks, s, p, f => if s = 200 then .bad 2 0 else match enodeF k n ws.length ks.length with
    | some c => .bad c s
    | none => if k = 1 ∧ plBad p n.data.toList ws.length = true then .bad 5 s else match wchks ws (s + 1) (if k = 1 then plPut p n.data.toList ws.length else p) f with
      | .bad c a => .bad c a
      | .ok s p f => echks ks s p f
def echks : List Ex → Nat → PlF → PlF → CkR
  | [], s, p, f => .ok s p f
  | x :: xs, s, p, f => match echk x s p f with
    | .bad c a => .bad c a
    | .ok s p f => echks xs s p f
end
theorem wchks_drop {l : List Wd} {i : Nat} {x : Wd} (h : l[i]? = some x) (s : Nat) (p f : PlF) : wchks (l.drop i) s p f = match wchk x s p f with | .bad c a => .bad c a | .ok s' p' f' => wchks (l.drop (i + 1)) s' p' f' := by
  have hi := (List.getElem?_eq_some_iff.1 h).1; rw [List.drop_eq_getElem_cons hi, wchks]; rw [List.getElem?_eq_getElem hi] at h; rw [Option.some.inj h]
theorem echks_drop {l : List Ex} {i : Nat} {x : Ex} (h : l[i]? = some x) (s : Nat) (p f : PlF) : echks (l.drop i) s p f = match echk x s p f with | .bad c a => .bad c a | .ok s' p' f' => echks (l.drop (i + 1)) s' p' f' := by
  have hi := (List.getElem?_eq_some_iff.1 h).1; rw [List.drop_eq_getElem_cons hi, echks]; rw [List.getElem?_eq_getElem hi] at h; rw [Option.some.inj h]
mutual
theorem wchk_le : ∀ (x : Wd) (s : Nat) (p f : PlF) (s' : Nat) (p' f' : PlF), wchk x s p f = .ok s' p' f' → s ≤ 200 → s' ≤ 200 ∧ s' = s + x.size
  | .mk n ar, s, p, f, s', p', f', h, hs => by
    rw [wchk] at h
    split at h
    · cases h
    · rename_i h2
      split at h
      · cases h
      · split at h
        · split at h
          · cases h
          · have := wchks_le ar _ _ _ _ _ _ h (by omega)
            rw [Wd.size]; omega
        · have := wchks_le ar _ _ _ _ _ _ h (by omega)
          rw [Wd.size]; omega
theorem wchks_le : ∀ (l : List Wd) (s : Nat) (p f : PlF) (s' : Nat) (p' f' : PlF), wchks l s p f = .ok s' p' f' → s ≤ 200 → s' ≤ 200 ∧ s' = s + Wd.sizes l
  | [], s, p, f, s', p', f', h, hs => by rw [wchks] at h; cases h; simp [Wd.sizes]; exact hs
  | x :: xs, s, p, f, s', p', f', h, hs => by
    rw [wchks] at h
    split at h
    · cases h
    · rename_i s1 p1 f1 h1
      have a := wchk_le x _ _ _ _ _ _ h1 hs; have b := wchks_le xs _ _ _ _ _ _ h a.1; rw [Wd.sizes]; omega
end
mutual
theorem echk_le : ∀ (x : Ex) (s : Nat) (p f : PlF) (s' : Nat) (p' f' : PlF), echk x s p f = .ok s' p' f' → s ≤ 200 → s' ≤ 200 ∧ s' = s + x.size
  | .mk k n ws ks, s, p, f, s', p', f', h, hs => by
    rw [echk] at h
    split at h
    · cases h
    · rename_i h2
      split at h
      · cases h
      · split at h
        · cases h
        · split at h
          · cases h
          · rename_i s1 p1 f1 h1
            (have a := wchks_le ws _ _ _ _ _ _ h1 (by omega)); have b := echks_le ks _ _ _ _ _ _ h a.1; rw [Ex.size]; omega
theorem echks_le : ∀ (l : List Ex) (s : Nat) (p f : PlF) (s' : Nat) (p' f' : PlF), echks l s p f = .ok s' p' f' → s ≤ 200 → s' ≤ 200 ∧ s' = s + Ex.sizes l
  | [], s, p, f, s', p', f', h, hs => by rw [echks] at h; cases h; simp [Ex.sizes]; exact hs
  | x :: xs, s, p, f, s', p', f', h, hs => by
    rw [echks] at h
    split at h
    · cases h
    · rename_i s1 p1 f1 h1
      have a := echk_le x _ _ _ _ _ _ h1 hs; have b := echks_le xs _ _ _ _ _ _ h a.1; rw [Ex.sizes]; omega
end
/-- The checker in memory. -/
structure CkA (w : World) (bc bp bf s : Nat) (p f : PlF) : Prop where
  blk : w.heap[bc]? = some (.cells #[.int .i64 (s : Nat), .map (some bp), .map (some bf)] 142 (0, 0))
  mp : PlM w bp p s
  mf : PlM w bf f s
  ne : bp ≠ bf
theorem CkA.nep {w : World} {bc bp bf s : Nat} {p f : PlF} (h : CkA w bc bp bf s p f) : bp ≠ bc := fun e => h.mp.noCells _ _ _ (by rw [e]; exact h.blk)
theorem CkA.nef {w : World} {bc bp bf s : Nat} {p f : PlF} (h : CkA w bc bp bf s p f) : bf ≠ bc := fun e => h.mf.noCells _ _ _ (by rw [e]; exact h.blk)
theorem CkA.up {w w' : World} {bc bp bf s : Nat} {p f : PlF} (h : CkA w bc bp bf s p f) (hb : Below w.heap.size w w') : CkA w' bc bp bf s p f := ⟨below_keep hb h.blk, h.mp.up hb, h.mf.up hb, h.ne⟩
theorem CkA.set {w : World} {bc bp bf s : Nat} {p f : PlF} (h : CkA w bc bp bf s p f) : CkA (w.setCell ⟨bc, 0, none⟩ (.int .i64 ((s + 1 : Nat) : Int))) bc bp bf (s + 1) p f := by
  (refine ⟨?_, (h.mp.same (Below.heap_setCell _ _ _ _ (by simpa using h.nep))).more (by omega), (h.mf.same (Below.heap_setCell _ _ _ _ (by simpa using h.nef))).more (by omega), h.ne⟩); simp [World.setCell, Array.getElem?_modify, h.blk]
def T3 (bc bp bf b : Nat) : Prop := b ≠ bc ∧ b ≠ bp ∧ b ≠ bf
/-- The checker's own blocks are new. -/
def New3 (B bc bp bf : Nat) : Prop := B ≤ bc ∧ B ≤ bp ∧ B ≤ bf
theorem kept3 {w0 w w' : World} {bc bp bf : Nat} (hb : Below w0.heap.size w0 w) (hn : New3 w0.heap.size bc bp bf) (hk : Kept (T3 bc bp bf) w w') : Below w0.heap.size w0 w' :=
  hb.trans (hk.below hb.size fun b hb2 => by
    obtain ⟨h1, h2, h3⟩ := hn
    exact ⟨by omega, by omega, by omega⟩)
set_option maxHeartbeats 1000000 in
theorem ckNext_any (bc bp bf s : Nat) (p f : PlF) (w : World) (h : CkA w bc bp bf s p f) (hs : s ≤ 200) :
    Calls Tryz.prog 98 #[.pointer (some ⟨bc, 0, none⟩)] w fun e w' => if s = 200 then e = .panicked (stopC 2 0) ∧ w' = w else e = .returned (.int .i64 (s : Nat)) ∧ w' = w.setCell ⟨bc, 0, none⟩ (.int .i64 ((s + 1 : Nat) : Int)) := by
  obtain ⟨q0, q1, q2, q3, q4, q5⟩ := blk3 h.blk; (have hsI : (s : Int) ≤ 200 := by omega); by_cases h200 : s = 200
  · subst h200
    simp only [if_true]
    go_enter Tryz.func98, Tryz.ntmps98
    go_wp2_with (first
      | (go_at_call 122; refine (stop_any _ _ _).mono ?_; rintro e w4 ⟨rfl, rfl⟩)
      | fail)
    exact ⟨rfl, rfl, rfl⟩
  · have hs1 : ((s : Int) == 200) = false := by simp; omega
    simp only [h200, if_false]; clear h200
    go_enter Tryz.func98, Tryz.ntmps98
    go_wp2_with fail; go_ret; exact ⟨rfl, rfl⟩
end Go.Proofs.YtheiikkeelbjnajGreat
/- Walks: the checker's word. -/
namespace Go.Proofs.YtheiikkeelbjnajGreat
open Go.RowKit Go.Sort Go.Maps Go.WideMaps

theorem keptBel {ok : Nat → Prop} {w w1 w' : World} (h : Kept ok w w1) (hb : Below w1.heap.size w1 w') : Kept ok w w' := h.trans ⟨hb.os, hb.tape, hb.output, hb.size, fun k hk _ => hb.block k hk⟩
/-- What the checker leaves. -/
def CkPost (bc bp bf : Nat) : CkR → Ending → World → Prop
  | .ok s p f, e, w' => e = .returned (.tuple #[]) ∧ CkA w' bc bp bf s p f
  | .bad c a, e, _ => e = .panicked (stopC c (a : Nat))
def WLooks (m : Nat) : Prop := ∀ (x : Wd) (v : Value) (w0 w : World) (bc bp bf s : Nat) (p f : PlF), x.size < m → WRp w0 x v → Below w0.heap.size w0 w → New3 w0.heap.size bc bp bf → CkA w bc bp bf s p f → s ≤ 200 →
  Calls Tryz.prog 50 #[.pointer (some ⟨bc, 0, none⟩), v] w fun e w' => Kept (T3 bc bp bf) w w' ∧ CkPost bc bp bf (wchk x s p f) e w'
theorem okT_of {n : ByteArray} (h : n.size ≤ maxLen) : OkT n.data.toList := by
  unfold OkT; rw [show n.data.toList.length = n.size from Array.length_toList]; exact h
theorem rowFW11 (l : List Value) (h0 : l.length = 11) : ∃ x0 x1 x2 x3 x4 x5 x6 x7 x8 x9 x10, l = [x0, x1, x2, x3, x4, x5, x6, x7, x8, x9, x10] := by
  obtain ⟨x0, l1, e0, h1⟩ := cons_lenM h0; obtain ⟨x1, l2, e1, h2⟩ := cons_lenM h1; obtain ⟨x2, l3, e2, h3⟩ := cons_lenM h2; obtain ⟨x3, l4, e3, h4⟩ := cons_lenM h3; obtain ⟨x4, l5, e4, h5⟩ := cons_lenM h4; obtain ⟨x5, l6, e5, h6⟩ := cons_lenM h5; obtain ⟨x6, l7, e6, h7⟩ := cons_lenM h6; obtain ⟨x7, l8, e7, h8⟩ := cons_lenM h7; obtain ⟨x8, l9, e8, h9⟩ := cons_lenM h8; obtain ⟨x9, l10, e9, h10⟩ := cons_lenM h9; obtain ⟨x10, l11, e10, h11⟩ := cons_lenM h10; have e11 : l11 = [] := List.length_eq_zero_iff.1 h11; subst e11 e10 e9 e8 e7 e6 e5 e4 e3 e2 e1 e0; exact ⟨x0, x1, x2, x3, x4, x5, x6, x7, x8, x9, x10, rfl⟩
theorem str_eta (n : ByteArray) : (⟨n.data.toList.toArray⟩ : ByteArray) = n := by cases n; simp
set_option maxRecDepth 10000 in
set_option maxHeartbeats 8000000 in
theorem word_step (m : Nat) (ih : WLooks m) : WLooks (m + 1) := by
  intro x v w0 w bc bp bf s p f hm hrep hbw hnew hc hs; obtain ⟨n, ar⟩ := x; obtain ⟨sl, cap, rfl, hx1, hx2, hx3, hx4⟩ := WRp.def.1 hrep; have HX : Hid (WL w0 (.slice sl ar.length cap) ar) := ⟨sl, cap, rfl, hx2, hx3, hx4⟩; (have hlen : (ar.length : Int) ≤ 9223372036854775807 := by unfold maxLen at hx3; omega); have HBw : Hid (Below w0.heap.size w0 w) := hbw; have HNw : Hid (New3 w0.heap.size bc bp bf) := hnew; have HMz : Hid ((Wd.mk n ar).size < m + 1) := hm; have hc1 := hc.up (below_more (Below.refl w.heap.size w) (.cells #[.string n, .slice sl ar.length cap] 27 (0, 0))); have hlt0 := lt_of_block hc.blk; (have HBg : Hid (∀ W, Calls Tryz.prog 100 #[.string n] W fun e w' => e = .returned (.bool (isBg n.data.toList)) ∧ w' = W) := fun W => big_any n W); by_cases h200 : s = 200
  · have HNx : Hid (Calls Tryz.prog 98 #[.pointer (some ⟨bc, 0, none⟩)] (w.alloc (.cells #[.string n, .slice sl ar.length cap] 27 (0, 0))) fun e w' => e = .panicked (stopC 2 0) ∧ w' = w.alloc (.cells #[.string n, .slice sl ar.length cap] 27 (0, 0))) := (ckNext_any bc bp bf s p f _ hc1 hs).mono fun e w' h => by rw [if_pos h200] at h; exact h
    (have HR : Hid (wchk (.mk n ar) s p f = .bad 2 0) := by show _ = _; rw [wchk, if_pos h200]); clear hx2 hx3 hx4 hrep hbw hnew hm hc hc1 hs h200 HX
    go_enter Tryz.func50, Tryz.ntmps50
    go_wp2_with (first
      | (go_at_call 98
         refine HNx.out.mono ?_
         rintro e w1 ⟨rfl, rfl⟩)
      | fail)
    (exact ⟨rfl, (Kept.refl _ _).alloc _, by rw [HR.out]; rfl⟩)
  obtain ⟨W1, hW1⟩ : ∃ W, W = (w.alloc (.cells #[.string n, .slice sl ar.length cap] 27 (0, 0))).setCell ⟨bc, 0, none⟩ (.int .i64 ((s + 1 : Nat) : Int)) := ⟨_, rfl⟩; (have HNx : Hid (Calls Tryz.prog 98 #[.pointer (some ⟨bc, 0, none⟩)] (w.alloc (.cells #[.string n, .slice sl ar.length cap] 27 (0, 0))) fun e w' => e = .returned (.int .i64 (s : Nat)) ∧ w' = W1) := (ckNext_any bc bp bf s p f _ hc1 hs).mono fun e w' h => by rw [if_neg h200] at h; rw [hW1]; exact h); (have HC1 : Hid (CkA W1 bc bp bf (s + 1) p f) := by rw [hW1]; exact hc1.set); (have HQ1 : Hid (W1.heap[w.heap.size]? = some (.cells #[.string n, .slice sl ar.length cap] 27 (0, 0))) := by rw [hW1]; exact (Below.heap_setCell _ _ _ _ (by simp; omega)).trans (blk_new _ _)); (have HK1 : Hid (Kept (T3 bc bp bf) w W1) := by rw [hW1]; exact ((Kept.refl _ _).alloc _).setCell (fun _ h => h.1 rfl) _); (have HMf : Hid (PlM W1 bf f s) := by rw [hW1]; exact hc1.mf.same (Below.heap_setCell _ _ _ _ (by simpa using hc1.nef))); (have HS : Hid (s < 200) := by show _ < _; omega); (have HCW : Hid (∀ W, Calls Tryz.prog 99 #[.agg #[.string n, .slice sl ar.length cap], .int .i64 (s : Nat)] W (NdPost (wnodeF n ar.length) (s : Nat) W)) := fun W => checkWord_any (s : Nat) n hx1 sl ar.length cap W); (have HOk : Hid (OkT n.data.toList ∧ ar.length ≤ maxLen) := ⟨okT_of hx1, by omega⟩); (have hwc : wchk (.mk n ar) s p f = match wnodeF n ar.length with | some c => .bad c s | none => if isBg n.data.toList = true then (if plBad f n.data.toList ar.length = true then .bad 5 s else wchks ar (s + 1) p (plPut f n.data.toList ar.length)) else wchks ar (s + 1) p f := by rw [wchk, if_neg h200]; all_goals (cases wnodeF n ar.length <;> rfl)); clear hW1 hx2 hx3 hx4 hrep hbw hnew hm hc hc1 hs h200 hx1 hlt0
  rcases hnf : wnodeF n ar.length with _ | c
  · rw [hnf] at hwc HCW
    simp only at hwc; unfold NdPost at HCW; simp only at HCW; clear hnf
    rcases hbg : isBg n.data.toList with _ | _
    · rw [hbg] at hwc HBg
      simp only [Bool.false_eq_true, if_false] at hwc; have HR : Hid (wchk (.mk n ar) s p f = wchks ar (s + 1) p f) := hwc; clear hwc hbg HOk HMf; obtain ⟨b0, b1, -⟩ := blk2 HQ1.out
      go_enter Tryz.func50, Tryz.ntmps50
      go_wp2_with (first
        | (go_at_call 98
           refine HNx.out.mono ?_
           rintro e w1 ⟨rfl, rfl⟩)
        | (go_at_call 99
           refine (HCW.out _).mono ?_; rintro e w2 ⟨rfl, hb2⟩; have q2 := below_keep hb2 HQ1.out
           obtain ⟨e0, e1, -⟩ := blk2 q2)
        | (go_at_call 100
           refine (HBg.out _).mono ?_; rintro e w3 ⟨rfl, h3⟩
           obtain rfl : w2 = w3 := h3.symm)
        | fail)
      have HCV : Hid (CkA w2 bc bp bf (s + 1) p f) := HC1.out.up hb2; have HKV : Hid (Kept (T3 bc bp bf) w w2) := keptBel HK1.out hb2; clear hb2 q2 e0 e1 HC1 HQ1 HK1 HNx HCW HBg
      go_loopg [29] ar.length (fun gz v wr => ∃ i s' p' f', i ≤ ar.length ∧ gz = ar.length - i ∧ v = .int .i64 (i : Nat) ∧ s' ≤ 200 ∧ Hid (CkA wr bc bp bf s' p' f') ∧ Hid (Kept (T3 bc bp bf) w wr) ∧ Hid (wchks (ar.drop i) s' p' f' = wchks ar (s + 1) p f))
      case atStart => exact ⟨0, s + 1, p, f, by omega, by omega, rfl, by have := HS.out; omega, HCV, HKV, by show _ = _; simp⟩
      case round =>
        obtain ⟨i, s', p', f', hi, hg, rfl, hs', HCr, HKr, HC⟩ := hrel; have HG : Hid (gk = ar.length - i) := hg; clear hg; by_cases hlt : i < ar.length
        · obtain ⟨⟨n2, ar2⟩, hki⟩ : ∃ x, ar[i]? = some x := ⟨_, List.getElem?_eq_getElem hlt⟩
          have HBr : Hid (Below w0.heap.size w0 wr) := kept3 HBw.out HNw.out HKr.out; obtain ⟨b, off, sl2, cap2, rfl, z0, z1, hrep2⟩ := HX.out.at i n2 ar2 hki; have y0 := (HBr.out.cell (lt_of_cell z0)).trans z0; have y1 := (HBr.out.cell (lt_of_cell z1)).trans z1; (have hlt2 : (i : Int) < (ar.length : Int) := by omega); have hds := HC.out; rw [wchks_drop hki] at hds; (have hsz : (Wd.mk n2 ar2).size < m := by have := wsizes_get hki; have := HMz.out; rw [Wd.size] at this; omega); (have HI : Hid (∀ W, CkA W bc bp bf s' p' f' → Below w0.heap.size w0 W → Calls Tryz.prog 50 #[.pointer (some ⟨bc, 0, none⟩), .agg #[.string n2, .slice sl2 ar2.length cap2]] W fun e w' => Kept (T3 bc bp bf) W w' ∧ CkPost bc bp bf (wchk (.mk n2 ar2) s' p' f') e w') := fun W h1 h2 => ih _ _ w0 W bc bp bf s' p' f' hsz hrep2 h2 HNw.out h1 hs'); have HLt : Hid (i < ar.length) := hlt; clear hki hrep2 z0 z1 HX HC hlt hsz
          rcases hck : wchk (.mk n2 ar2) s' p' f' with ⟨c, a⟩ | ⟨s2, p2, f2⟩
          · rw [hck] at hds HI
            simp only at hds; have HD : Hid (CkR.bad c a = wchks ar (s + 1) p f) := hds; clear hds hck
            go_wp2_with (first
              | (go_at_call 50
                 refine (HI.out _ (HCr.out.up (below_more (Below.refl _ _) _)) (below_more HBr.out _)).mono ?_; rintro e w5 ⟨hk5, he5⟩
                 obtain rfl : e = _ := he5)
              | fail)
            (exact ⟨rfl, (HKr.out.alloc _).trans hk5, by rw [HR.out, ← HD.out]; rfl⟩)
          · rw [hck] at hds HI
            simp only at hds; have HD : Hid (wchks (ar.drop (i + 1)) s2 p2 f2 = wchks ar (s + 1) p f) := hds; have hs2' := (wchk_le _ _ _ _ _ _ _ hck hs').1; clear hds hck
            go_wp2_with (first
              | (go_at_call 50
                 refine (HI.out _ (HCr.out.up (below_more (Below.refl _ _) _)) (below_more HBr.out _)).mono ?_; rintro e w5 ⟨hk5, rfl, hc5⟩; have HC5 : Hid (CkA w5 bc bp bf s2 p2 f2) := hc5; have HK5 : Hid (Kept (T3 bc bp bf) w w5) := (HKr.out.alloc _).trans hk5
                 clear hc5 hk5)
              | fail)
            go_roundg (ar.length - (i + 1))
            case measure => have := HG.out; have := HLt.out; omega
            case rel => exact ⟨i + 1, s2, p2, f2, HLt.out, rfl, by go_num, hs2', HC5, HK5, HD⟩
        · have hge : ¬ (i : Int) < (ar.length : Int) := by omega
          (have HE : Hid (ar.length ≤ i) := by show _ ≤ _; omega); clear hlt hi; go_wp2_with fail
          go_end0
          refine ⟨HKr.out, ?_⟩; rw [HR.out, ← HC.out, List.drop_of_length_le HE.out, wchks]; exact ⟨rfl, HCr.out⟩
    · rw [hbg] at hwc HBg
      simp only [if_true] at hwc
      rcases hpb : plBad f n.data.toList ar.length with _ | _
      · rw [hpb] at hwc
        simp only [Bool.false_eq_true, if_false] at hwc; have HR : Hid (wchk (.mk n ar) s p f = wchks ar (s + 1) p (plPut f n.data.toList ar.length)) := hwc
        have HCP : Hid (∀ W, PlM W bf f s → Calls Tryz.prog 101 #[.map (some bf), .string n, .int .i64 (ar.length : Nat), .int .i64 (s : Nat)] W fun e w' => e = .returned (.tuple #[]) ∧ PlM w' bf (plPut f n.data.toList ar.length) (s + 1) ∧ Kept (· ≠ bf) W w') := fun W h => by
          (have := checkPlaces_any n.data.toList HOk.out.1 ar.length HOk.out.2 (s : Nat) bf f s (by have := HS.out; omega) W h); rw [str_eta] at this; (exact this.mono fun e w' h => by unfold CPPost at h; rw [if_neg (by rw [hpb]; simp)] at h; exact h)
        clear hwc hbg hpb; obtain ⟨b0, b1, -⟩ := blk2 HQ1.out
        go_enter Tryz.func50, Tryz.ntmps50
        go_wp2_with (first
          | (go_at_call 98
             refine HNx.out.mono ?_
             rintro e w1 ⟨rfl, rfl⟩)
          | (go_at_call 99
             refine (HCW.out _).mono ?_; rintro e w2 ⟨rfl, hb2⟩; have q2 := below_keep hb2 HQ1.out
             obtain ⟨e0, e1, -⟩ := blk2 q2)
          | (go_at_call 100
             refine (HBg.out _).mono ?_; rintro e w3 ⟨rfl, h3⟩
             obtain rfl : w2 = w3 := h3.symm)
          | fail)
        have HC2 : Hid (CkA w2 bc bp bf (s + 1) p f) := HC1.out.up hb2; have HM2 : Hid (PlM w2 bf f s) := HMf.out.up hb2; have HK2 : Hid (Kept (T3 bc bp bf) w w2) := keptBel HK1.out hb2; obtain ⟨c0, c1, c2, -⟩ := blk3 HC2.out.blk; have HQ2 : Hid (w2.heap[w.heap.size]? = some (.cells #[.string n, .slice sl ar.length cap] 27 (0, 0))) := q2; clear hb2 q2 HC1 HQ1 HK1 HMf HNx HCW HBg
        go_region_held3 (fun w' => w'.cell? ⟨bc, 2, none⟩ = some (.map (some bf)) ∧ w'.cell? ⟨w.heap.size, 0, none⟩ = some (.string n) ∧ w'.cell? ⟨w.heap.size, 1, none⟩ = some (.slice sl ar.length cap)) (go_keep)
          (first
           | (go_at_call 101
              refine (HCP.out _ (HM2.out.up (Below.refl _ _).drew)).mono ?_; rintro e w4 ⟨rfl, hm4, hk4⟩; have hk5 : Kept (· ≠ bf) w2 w4 := ⟨hk4.os, hk4.tape, hk4.output, hk4.size, hk4.block⟩; have HCV : Hid (CkA w4 bc bp bf (s + 1) p (plPut f n.data.toList ar.length)) := ⟨(hk5.block _ (lt_of_block HC2.out.blk) HC2.out.nef.symm).trans HC2.out.blk, HC2.out.mp.same (hk5.block _ HC2.out.mp.lt HC2.out.ne), hm4, HC2.out.ne⟩; (have HKV : Hid (Kept (T3 bc bp bf) w w4) := HK2.out.trans (hk5.mono fun _ _ h => h.2.2)); (have q4 := (hk5.block _ (lt_of_block HQ2.out) (fun e => HC2.out.mf.noCells _ _ _ (by rw [← e]; exact HQ2.out))).trans HQ2.out); obtain ⟨t0, t1, -⟩ := blk2 q4; obtain ⟨t2, t3, t4, -⟩ := blk3 HCV.out.blk
              clear hm4 hk4 hk5 q4)
           | fail)
        all_goals
          go_wp2_with fail; clear t0 t1 t2 t3 t4
          go_loopg [29] ar.length (fun gz v wr => ∃ i s' p' f', i ≤ ar.length ∧ gz = ar.length - i ∧ v = .int .i64 (i : Nat) ∧ s' ≤ 200 ∧ Hid (CkA wr bc bp bf s' p' f') ∧ Hid (Kept (T3 bc bp bf) w wr) ∧ Hid (wchks (ar.drop i) s' p' f' = wchks ar (s + 1) p (plPut f n.data.toList ar.length)))
          case atStart => exact ⟨0, s + 1, p, (plPut f n.data.toList ar.length), by omega, by omega, rfl, by have := HS.out; omega, HCV, HKV, by show _ = _; simp⟩
          case round =>
            obtain ⟨i, s', p', f', hi, hg, rfl, hs', HCr, HKr, HC⟩ := hrel; have HG : Hid (gk = ar.length - i) := hg; clear hg; by_cases hlt : i < ar.length
            · obtain ⟨⟨n2, ar2⟩, hki⟩ : ∃ x, ar[i]? = some x := ⟨_, List.getElem?_eq_getElem hlt⟩
              have HBr : Hid (Below w0.heap.size w0 wr) := kept3 HBw.out HNw.out HKr.out; obtain ⟨b, off, sl2, cap2, rfl, z0, z1, hrep2⟩ := HX.out.at i n2 ar2 hki; have y0 := (HBr.out.cell (lt_of_cell z0)).trans z0; have y1 := (HBr.out.cell (lt_of_cell z1)).trans z1; (have hlt2 : (i : Int) < (ar.length : Int) := by omega); have hds := HC.out; rw [wchks_drop hki] at hds; (have hsz : (Wd.mk n2 ar2).size < m := by have := wsizes_get hki; have := HMz.out; rw [Wd.size] at this; omega); (have HI : Hid (∀ W, CkA W bc bp bf s' p' f' → Below w0.heap.size w0 W → Calls Tryz.prog 50 #[.pointer (some ⟨bc, 0, none⟩), .agg #[.string n2, .slice sl2 ar2.length cap2]] W fun e w' => Kept (T3 bc bp bf) W w' ∧ CkPost bc bp bf (wchk (.mk n2 ar2) s' p' f') e w') := fun W h1 h2 => ih _ _ w0 W bc bp bf s' p' f' hsz hrep2 h2 HNw.out h1 hs'); have HLt : Hid (i < ar.length) := hlt; clear hki hrep2 z0 z1 HX HC hlt hsz
              rcases hck : wchk (.mk n2 ar2) s' p' f' with ⟨c, a⟩ | ⟨s2, p2, f2⟩
              · rw [hck] at hds HI
                simp only at hds; have HD : Hid (CkR.bad c a = wchks ar (s + 1) p (plPut f n.data.toList ar.length)) := hds; clear hds hck
                go_wp2_with (first
                  | (go_at_call 50
                     refine (HI.out _ (HCr.out.up (below_more (Below.refl _ _) _)) (below_more HBr.out _)).mono ?_; rintro e w5 ⟨hk5, he5⟩
                     obtain rfl : e = _ := he5)
                  | fail)
                (exact ⟨rfl, (HKr.out.alloc _).trans hk5, by rw [HR.out, ← HD.out]; rfl⟩)
              · rw [hck] at hds HI
                simp only at hds; have HD : Hid (wchks (ar.drop (i + 1)) s2 p2 f2 = wchks ar (s + 1) p (plPut f n.data.toList ar.length)) := hds; have hs2' := (wchk_le _ _ _ _ _ _ _ hck hs').1; clear hds hck
                go_wp2_with (first
                  | (go_at_call 50
                     refine (HI.out _ (HCr.out.up (below_more (Below.refl _ _) _)) (below_more HBr.out _)).mono ?_; rintro e w5 ⟨hk5, rfl, hc5⟩; have HC5 : Hid (CkA w5 bc bp bf s2 p2 f2) := hc5; have HK5 : Hid (Kept (T3 bc bp bf) w w5) := (HKr.out.alloc _).trans hk5
                     clear hc5 hk5)
                  | fail)
                go_roundg (ar.length - (i + 1))
                case measure => have := HG.out; have := HLt.out; omega
                case rel => exact ⟨i + 1, s2, p2, f2, HLt.out, rfl, by go_num, hs2', HC5, HK5, HD⟩
            · have hge : ¬ (i : Int) < (ar.length : Int) := by omega
              (have HE : Hid (ar.length ≤ i) := by show _ ≤ _; omega); clear hlt hi; go_wp2_with fail
              go_end0
              refine ⟨HKr.out, ?_⟩; rw [HR.out, ← HC.out, List.drop_of_length_le HE.out, wchks]; exact ⟨rfl, HCr.out⟩
      · rw [hpb] at hwc
        simp only [if_true] at hwc; have HR : Hid (wchk (.mk n ar) s p f = .bad 5 s) := hwc
        have HCP : Hid (∀ W, PlM W bf f s → Calls Tryz.prog 101 #[.map (some bf), .string n, .int .i64 (ar.length : Nat), .int .i64 (s : Nat)] W fun e w' => e = .panicked (stopC 5 (s : Nat)) ∧ w' = W) := fun W h => by
          (have := checkPlaces_any n.data.toList HOk.out.1 ar.length HOk.out.2 (s : Nat) bf f s (by have := HS.out; omega) W h); rw [str_eta] at this; (exact this.mono fun e w' h => by unfold CPPost at h; rw [if_pos hpb] at h; exact h)
        clear hwc hbg hpb HX; obtain ⟨b0, b1, -⟩ := blk2 HQ1.out
        go_enter Tryz.func50, Tryz.ntmps50
        go_wp2_with (first
          | (go_at_call 98
             refine HNx.out.mono ?_
             rintro e w1 ⟨rfl, rfl⟩)
          | (go_at_call 99
             refine (HCW.out _).mono ?_; rintro e w2 ⟨rfl, hb2⟩; have q2 := below_keep hb2 HQ1.out
             obtain ⟨e0, e1, -⟩ := blk2 q2)
          | (go_at_call 100
             refine (HBg.out _).mono ?_; rintro e w3 ⟨rfl, h3⟩
             obtain rfl : w2 = w3 := h3.symm)
          | fail)
        have HC2 : Hid (CkA w2 bc bp bf (s + 1) p f) := HC1.out.up hb2; have HM2 : Hid (PlM w2 bf f s) := HMf.out.up hb2; have HK2 : Hid (Kept (T3 bc bp bf) w w2) := keptBel HK1.out hb2; have HQ2 : Hid (w2.heap[w.heap.size]? = some (.cells #[.string n, .slice sl ar.length cap] 27 (0, 0))) := q2; clear hb2 q2 HC1 HQ1 HK1 HMf HNx HCW HBg e0 e1 b0 b1; (refine wp_region_end (by kernel_rfl) [fun v _ => v = (.pointer (some ⟨bc, 0, none⟩)), fun v _ => v = (.pointer (some ⟨bc, 0, none⟩)), fun v _ => v = (.pointer (some ⟨bc, 2, none⟩)), fun v _ => v = (.map (some bf)), fun v _ => v = (.pointer (some ⟨w.heap.size, 0, none⟩)), fun v _ => v = (.string n), fun v _ => v = (.pointer (some ⟨w.heap.size, 1, none⟩)), fun v _ => v = (.slice sl ar.length cap), fun v _ => v = (.int .i64 (ar.length : Nat)), fun v _ => v = (.int .i64 (s : Nat))] ?_ (by kernel_rfl) (by kernel_rfl) 37 rfl (by kernel_rfl) 10 _ rfl rfl 6 (by kernel_rfl) ?_ ?_)
        · intro p hp
          simp only [List.mem_cons, List.not_mem_nil, or_false] at hp
          rcases hp with rfl | rfl | rfl | rfl | rfl | rfl | rfl | rfl | rfl | rfl
          · exact fun _ _ _ h _ => h
          · exact fun _ _ _ h _ => h
          · exact fun _ _ _ h _ => h
          · exact fun _ _ _ h _ => h
          · exact fun _ _ _ h _ => h
          · exact fun _ _ _ h _ => h
          · exact fun _ _ _ h _ => h
          · exact fun _ _ _ h _ => h
          · exact fun _ _ _ h _ => h
          · exact fun _ _ _ h _ => h
        · refine ⟨?_, ?_, ?_, ?_, ?_, ?_, ?_, ?_, ?_, ?_, trivial⟩
          · intro a wx hB hold hdep K hK
            have t0 : a.tmps[0]? = some (.pointer (some ⟨bc, 0, none⟩)) := hold.2.2 0 rfl; clear hold hdep; go_simp; exact hK.out _ _ rfl (Below.refl _ _)
          · intro a wx hB hold hdep K hK
            obtain ⟨v15, t15, p15⟩ := hdep 0 rfl _ 15 rfl rfl; have e15 : v15 = (.pointer (some ⟨bc, 0, none⟩)) := p15; subst e15; have hcb := blk3 (below_keep hB HC2.out.blk); obtain ⟨f0, f1, f2, -⟩ := hcb; clear hold hdep; go_simp; exact hK.out _ _ rfl (Below.refl _ _)
          · intro a wx hB hold hdep K hK
            obtain ⟨v16, t16, p16⟩ := hdep 1 rfl _ 16 rfl rfl; have e16 : v16 = (.pointer (some ⟨bc, 0, none⟩)) := p16; subst e16; have hcb := blk3 (below_keep hB HC2.out.blk); obtain ⟨f0, f1, f2, -⟩ := hcb; clear hold hdep; go_simp; exact hK.out _ _ rfl (Below.refl _ _)
          · intro a wx hB hold hdep K hK
            obtain ⟨v17, t17, p17⟩ := hdep 2 rfl _ 17 rfl rfl; have e17 : v17 = (.pointer (some ⟨bc, 2, none⟩)) := p17; subst e17; have hcb := blk3 (below_keep hB HC2.out.blk); obtain ⟨f0, f1, f2, -⟩ := hcb; clear hold hdep; go_simp; exact hK.out _ _ rfl (Below.refl _ _)
          · intro a wx hB hold hdep K hK
            have t3 : a.tmps[3]? = some (.pointer (some ⟨w.heap.size, 0, none⟩)) := hold.2.2 3 rfl; clear hold hdep; go_simp; exact hK.out _ _ rfl (Below.refl _ _)
          · intro a wx hB hold hdep K hK
            obtain ⟨v19, t19, p19⟩ := hdep 4 rfl _ 19 rfl rfl; have e19 : v19 = (.pointer (some ⟨w.heap.size, 0, none⟩)) := p19; subst e19; have hqb := blk2 (below_keep hB HQ2.out); obtain ⟨f0, f1, -⟩ := hqb; clear hold hdep; go_simp; exact hK.out _ _ rfl (Below.refl _ _)
          · intro a wx hB hold hdep K hK
            have t3 : a.tmps[3]? = some (.pointer (some ⟨w.heap.size, 0, none⟩)) := hold.2.2 3 rfl; clear hold hdep; go_simp; exact hK.out _ _ rfl (Below.refl _ _)
          · intro a wx hB hold hdep K hK
            obtain ⟨v21, t21, p21⟩ := hdep 6 rfl _ 21 rfl rfl; have e21 : v21 = (.pointer (some ⟨w.heap.size, 1, none⟩)) := p21; subst e21; have hqb := blk2 (below_keep hB HQ2.out); obtain ⟨f0, f1, -⟩ := hqb; clear hold hdep; go_simp; exact hK.out _ _ rfl (Below.refl _ _)
          · intro a wx hB hold hdep K hK
            obtain ⟨v22, t22, p22⟩ := hdep 7 rfl _ 22 rfl rfl; have e22 : v22 = (.slice sl ar.length cap) := p22; subst e22; clear hold hdep; go_simp; exact hK.out _ _ rfl (Below.refl _ _)
          · intro a wx hB hold hdep K hK
            have t4 : a.tmps[4]? = some (.int .i64 (s : Nat)) := hold.2.2 4 rfl; clear hold hdep; go_simp; exact hK.out _ _ rfl (Below.refl _ _)
        · intro a wx hB hold hgot K hK
          (obtain ⟨A, tA, pA⟩ := hgot 3 _ 18 (by omega) rfl rfl); have eA : A = (.map (some bf)) := pA; subst eA; (obtain ⟨B, tB, pB⟩ := hgot 5 _ 20 (by omega) rfl rfl); have eB : B = (.string n) := pB; subst eB; (obtain ⟨C, tC, pC⟩ := hgot 8 _ 23 (by omega) rfl rfl); have eC : C = (.int .i64 (ar.length : Nat)) := pC; subst eC; (obtain ⟨D, tD, pD⟩ := hgot 9 _ 24 (by omega) rfl rfl); have eD : D = (.int .i64 (s : Nat)) := pD; subst eD; obtain ⟨tm, df⟩ := a; (obtain ⟨ys, hys, htm, rfl⟩ := frame_mid2 15 11 (by kernel_rfl) (Nat.le_of_ble_eq_true rfl) hold); obtain ⟨z15, z16, z17, z18, z19, z20, z21, z22, z23, z24, z25, rfl⟩ := rowFW11 ys hys; simp only [List.take_succ_cons, List.take_zero, List.drop_succ_cons, List.drop_zero, List.cons_append, List.nil_append] at htm; subst htm; obtain rfl : z18 = _ := someInjM tA; obtain rfl : z20 = _ := someInjM tB; obtain rfl : z23 = _ := someInjM tC; obtain rfl : z24 = _ := someInjM tD; have HMx : Hid (PlM wx bf f s) := HM2.out.up hB; have HKx : Hid (Kept (T3 bc bp bf) w wx) := keptBel HK2.out hB; clear hys hold hgot tA tB tC tD hB; go_simp; refine (HCP.out wx HMx.out).mono ?_; rintro _ w4 ⟨rfl, rfl⟩; (exact ⟨rfl, HKx.out, by rw [HR.out]; rfl⟩)
  · rw [hnf] at hwc HCW
    simp only at hwc; unfold NdPost at HCW; simp only at HCW; have HR : Hid (wchk (.mk n ar) s p f = .bad c s) := hwc; clear hwc hnf HX; obtain ⟨b0, b1, -⟩ := blk2 HQ1.out
    go_enter Tryz.func50, Tryz.ntmps50
    go_wp2_with (first
      | (go_at_call 98
         refine HNx.out.mono ?_
         rintro e w1 ⟨rfl, rfl⟩)
      | (go_at_call 99
         refine (HCW.out _).mono ?_
         rintro e w2 ⟨rfl, hb2⟩)
      | fail)
    (exact ⟨rfl, keptBel HK1.out hb2, by rw [HR.out]; rfl⟩)
theorem words_all : ∀ m, WLooks m
  | 0 => fun _ _ _ _ _ _ _ _ _ _ h => absurd h (Nat.not_lt_zero _)
  | m + 1 => word_step m (words_all m)
theorem ckWord_any (x : Wd) (v : Value) (w0 w : World) (bc bp bf s : Nat) (p f : PlF) (hrep : WRp w0 x v) (hbw : Below w0.heap.size w0 w) (hnew : New3 w0.heap.size bc bp bf) (hc : CkA w bc bp bf s p f) (hs : s ≤ 200) :
    Calls Tryz.prog 50 #[.pointer (some ⟨bc, 0, none⟩), v] w fun e w' => Kept (T3 bc bp bf) w w' ∧ CkPost bc bp bf (wchk x s p f) e w' :=
  words_all (x.size + 1) x v w0 w bc bp bf s p f (Nat.lt_succ_self _) hrep hbw hnew hc hs
end Go.Proofs.YtheiikkeelbjnajGreat
