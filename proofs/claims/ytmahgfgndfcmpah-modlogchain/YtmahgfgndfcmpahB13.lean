/- Texts of one proof, one behind the other: MD6, MD7, ME8, MEA, MS2, MS4, MS7, MS8. -/
import Derived.Test.YtmahgfgndfcmpahB11
import Derived.Test.YtmahgfgndfcmpahB06
import Derived.Test.YtmahgfgndfcmpahB07
import Derived.Test.YtmahgfgndfcmpahB10
import Derived.Deep.OwnRows
import Derived.Test.YtmahgfgndfcmpahB09
import Derived.Test.YtmahgfgndfcmpahB08
import Derived.Laws.BitsLemmas
import Derived.Deep.RegionHeld3
import Derived.Deep.RegionLaw
import Derived.Deep.DeepCutAuto
import Derived.Test.YtmahgfgndfcmpahB01
import Derived.Sort.Walk0
import Derived.Deep.AppendSrc
import Derived.Deep.Upon
import Derived.Lib.AppendZerosOnto
import Derived.RegionTactic
/- Walks: a model of one's own. -/
namespace Go.Proofs.Ytmahgfgndfcmpah
open Go.RowKit Go.Sort

theorem cons_lenM {n : Nat} {l : List Value} (h : l.length = n + 1) : ∃ v t, l = v :: t ∧ t.length = n := by
  cases l with
  | nil => cases h
  | cons v t => exact ⟨v, t, rfl, by simpa using h⟩
theorem someInjM {x y : Value} (h : some x = some y) : x = y := Option.some.inj h
theorem eval_tmpM {a : Act} {n : Nat} {v : Value} (h : a.tmps[n]? = some v) : a.eval (.tmp n) = v := by
  simp [Act.eval, h]
theorem set3M {w : World} {b : Nat} {x0 x1 x2 : Value} {T : TypeId} (h : w.heap[b]? = some (.cells #[x0, x1, x2] T (0, 0))) (y0 y1 y2 : Value) : (((w.setCell ⟨b, 0, none⟩ y0).setCell ⟨b, 1, none⟩ y1).setCell ⟨b, 2, none⟩ y2).heap[b]? = some (.cells #[y0, y1, y2] T (0, 0)) := by
  simp [World.setCell, Array.getElem?_modify, h]
theorem farM {W : World} {b x i : Nat} (h : x ≠ b) (v : Value) : (W.setCell ⟨b, i, none⟩ v).heap[x]? = W.heap[x]? := Below.heap_setCell _ _ _ _ (by simpa using h)
theorem rowM_ne {B : Nat} {w : World} {T T' : TypeId} {sz n g : Nat} {v : Value} {cs : List Value} {cur : Array Value} (h : w.ownsRow B T sz v n cs) (hg : w.heap[g]? = some (.cells cur T' (0, 0))) (hT : T' ≠ T) : v.ownBlock ≠ some g := fun e => by
  rcases h.2 with ⟨rfl, -⟩ | ⟨g', cap, cur', rfl, -, hh, -⟩
  · cases e
  · have : g' = g := by simpa [Value.ownBlock] using e
    subst this; rw [hh] at hg; simp only [Option.some.injEq, Obj.cells.injEq] at hg; exact hT hg.2.1.symm
end Go.Proofs.Ytmahgfgndfcmpah
/- Walks: which worlds each world sees. -/
namespace Go.Proofs.Ytmahgfgndfcmpah
open Go.RowKit Go.Sort

theorem infoI9 : ∃ i, Try.prog.info? 3 = some i ∧ i.zero = some (.int .i64 0) ∧ i.size = 1 ∧ i.bytes = 8 := by
  (obtain ⟨i, hi, h⟩ := Option.map_eq_some_iff.1 (show (Try.prog.info? 3).map (fun i => (i.zero, i.size, i.bytes)) = some (some (.int .i64 0), 1, 8) by kernel_rfl)); simp only [Prod.mk.injEq] at h; exact ⟨i, hi, h.1, h.2.1, h.2.2⟩
def encI (k : Nat) : Value := .int .i64 (k : Nat)
theorem blk_threeM (w : World) (o o' o'' : Obj) : (((w.alloc o).alloc o').alloc o'').heap[w.heap.size]? = some o ∧ (((w.alloc o).alloc o').alloc o'').heap[w.heap.size + 1]? = some o' ∧ (((w.alloc o).alloc o').alloc o'').heap[w.heap.size + 2]? = some o'' := by
  refine ⟨alloc_keep (alloc_keep (blk_new w o) _) _, alloc_keep (blk_two w o o') _, ?_⟩; have := blk_two (w.alloc o) o' o''
  rwa [show (w.alloc o).heap.size = w.heap.size + 1 by simp] at this

end Go.Proofs.Ytmahgfgndfcmpah
/- Walks: modal.Eval. -/
namespace Go.Proofs.Ytmahgfgndfcmpah
open Go.RowKit Go.Maps Go.WideMaps

theorem rowE1 (l : List Value) (h0 : l.length = 1) : ∃ x0, l = [x0] := by
  obtain ⟨x0, l1, e0, h1⟩ := cons_lenM h0; have e1 : l1 = [] := List.length_eq_zero_iff.1 h1; subst e1 e0; exact ⟨x0, rfl⟩
theorem rowE8 (l : List Value) (h0 : l.length = 8) : ∃ x0 x1 x2 x3 x4 x5 x6 x7, l = [x0, x1, x2, x3, x4, x5, x6, x7] := by
  obtain ⟨x0, l1, e0, h1⟩ := cons_lenM h0; obtain ⟨x1, l2, e1, h2⟩ := cons_lenM h1; obtain ⟨x2, l3, e2, h3⟩ := cons_lenM h2; obtain ⟨x3, l4, e3, h4⟩ := cons_lenM h3; obtain ⟨x4, l5, e4, h5⟩ := cons_lenM h4; obtain ⟨x5, l6, e5, h6⟩ := cons_lenM h5; obtain ⟨x6, l7, e6, h7⟩ := cons_lenM h6; obtain ⟨x7, l8, e7, h8⟩ := cons_lenM h7; have e8 : l8 = [] := List.length_eq_zero_iff.1 h8; subst e8 e7 e6 e5 e4 e3 e2 e1 e0; exact ⟨x0, x1, x2, x3, x4, x5, x6, x7, rfl⟩
end Go.Proofs.Ytmahgfgndfcmpah
/- Calls of Eval in the laws: facts; an example of the document. -/
namespace Go.Proofs.Ytmahgfgndfcmpah
open Go.RowKit

def kR (F : Fm) : Value → World → Prop := fun v w => Rep w (fun _ => True) F v
theorem kR_stays (F : Fm) : Stays (kR F) := fun _ _ _ h hb => Rep.up h hb
end Go.Proofs.Ytmahgfgndfcmpah
/- Walks: frame.holds: all that might be true is gone through. -/
namespace Go.Proofs.Ytmahgfgndfcmpah
open Go.RowKit Go.Maps Go.WideMaps

theorem rowE6 (l : List Value) (h0 : l.length = 6) : ∃ x0 x1 x2 x3 x4 x5, l = [x0, x1, x2, x3, x4, x5] := by
  obtain ⟨x0, l1, e0, h1⟩ := cons_lenM h0; obtain ⟨x1, l2, e1, h2⟩ := cons_lenM h1; obtain ⟨x2, l3, e2, h3⟩ := cons_lenM h2; obtain ⟨x3, l4, e3, h4⟩ := cons_lenM h3; obtain ⟨x4, l5, e4, h5⟩ := cons_lenM h4; obtain ⟨x5, l6, e5, h6⟩ := cons_lenM h5; have e6 : l6 = [] := List.length_eq_zero_iff.1 h6; subst e6 e5 e4 e3 e2 e1 e0; exact ⟨x0, x1, x2, x3, x4, x5, rfl⟩
end Go.Proofs.Ytmahgfgndfcmpah
/- Walks: what is so of all worlds, and of all with those that they see. -/
namespace Go.Proofs.Ytmahgfgndfcmpah
open Go.RowKit Go.Sort

/-- Numbers in memory. -/
def NL (w : World) (v : Value) (l : List Nat) : Prop := ∃ ad cap, v = .slice ad l.length cap ∧ l.length ≤ cap ∧ cap ≤ maxLen ∧ (l ≠ [] → ∃ b, ad = some ⟨b, 0, none⟩ ∧ ∀ (j n : Nat), l[j]? = some n → w.cell? ⟨b, j, none⟩ = some (.int .i64 (n : Nat)))
theorem NL.up {w w' : World} {v : Value} {l : List Nat} (h : NL w v l) (hb : Below w.heap.size w w') : NL w' v l := by
  obtain ⟨ad, cap, h1, h2, h3, h4⟩ := h; (refine ⟨ad, cap, h1, h2, h3, fun hne => ?_⟩); obtain ⟨b, h5, h6⟩ := h4 hne; (exact ⟨b, h5, fun j n hj => (hb.cell (lt_of_cell (h6 j n hj))).trans (h6 j n hj)⟩)
def memTo (P : Nat → Bool) (i : Nat) : List Nat := (List.range i).filter P
theorem memTo_succ (P : Nat → Bool) (i : Nat) : memTo P (i + 1) = if P i = true then memTo P i ++ [i] else memTo P i := by
  rw [memTo, List.range_succ, List.filter_append, memTo]; (by_cases h : P i = true <;> simp [h])
theorem memTo_len (P : Nat → Bool) (i : Nat) : (memTo P i).length ≤ i := by
  have := List.length_filter_le P (List.range i)
  rwa [List.length_range] at this
set_option maxRecDepth 10000 in
set_option maxHeartbeats 4000000 in
theorem set_members {N : Nat} (hN : N ≤ 40) (P : Nat → Bool) (w : World) :
    Calls Try.prog 66 #[.int .u64 (bm N P : Nat), .int .i64 (N : Nat)] w fun e w' => ∃ x, e = .returned x ∧ NL w' x (memTo P N) ∧ Below w.heap.size w w' := by
  (have hNI : (N : Int) ≤ 40 := by omega); (have HH : Hid (∀ n, n < N → ∀ w, Calls Try.prog 40 #[.int .u64 (bm N P : Nat), .int .i64 (n : Nat)] w fun e w' => e = .returned (.bool (P n)) ∧ w' = w) := fun n hn w => set_has hN P n hn w); have HN : Hid (N ≤ 40) := hN; generalize bm N P = s at *; clear hN
  go_enter Try.func66, Try.ntmps66
  go_wp2_with fail
  go_loopg [8, 5] N (fun gg cc x wr => ∃ i ad cp, i ≤ N ∧ gg = N - i ∧ cc = .int .i64 (i : Nat) ∧ x = .slice ad (memTo P i).length cp ∧ Hid (wr.ownsRow w.heap.size 3 1 (.slice ad (memTo P i).length cp) (memTo P i).length ((memTo P i).map encI)) ∧ Hid (Below w.heap.size w wr))
  case atStart => exact ⟨0, none, 0, by omega, by omega, rfl, rfl, ⟨rfl, Or.inl ⟨rfl, rfl⟩⟩, Below.refl _ _⟩
  case round =>
    obtain ⟨i, ad, cp, hi, hg, rfl, rfl, HOw, HB⟩ := hrel; have HGk : Hid (gk = N - i) := hg; clear hg; by_cases hlt : i < N
    · have hltI : (i : Int) < (N : Int) := by omega
      have HI : Hid (i < N) := hlt; (have HSc : Hid (memTo P (i + 1) = if P i = true then memTo P i ++ [i] else memTo P i) := memTo_succ P i); have HLn : Hid ((memTo P i).length ≤ i) := memTo_len P i; generalize memTo P i = LL at *; (have hlnI : (LL.length : Int) ≤ 40 := by have := HLn.out; have := HN.out; omega); clear hlt hi; go_wp2_with fail; refine (HH.out i HI.out wr).mono ?_; rintro _ w9 ⟨rfl, e9⟩
      replace e9 := e9.symm
      subst e9; by_cases hp : P i = true
      · rw [hp] at HSc ⊢
        obtain ⟨i0, hi0, hz0, hz1, hz2⟩ := infoI9; clear hp
        go_wp2_with (first
          | (at_builtin
             have hsz := HB.out.size; have hlm := HLn.out; have hnm := HN.out; have hil := HI.out; have hown := rowM_up HOw.out ((Below.refl _ wr).alloc (Nat.le_refl _) (.cells #[.int .i64 (i : Nat)] 3 (0, 0))); (refine wpList_append_lies _ rfl _ _ 74 rfl w.heap.size 3 i0 (.int .i64 0) 1 8 Try.underlying74 hi0 hz0 hz1 hz2 rfl (by decide) (.slice ad LL.length cp) LL.length (LL.map encI) rfl hown ⟨wr.heap.size, 0, none⟩ 1 1 [.int .i64 (i : Nat)] rfl rfl ?_ ?_ (by omega) (by unfold maxLen; omega) (by omega) (by simp; omega) _ rfl ?_)
             · intro j u hu
               rw [add_none, Nat.zero_add, blk_cell (blk_new wr _)]; simpa using hu
             · intro u hu
               simp at hu; subst hu; rfl
             intro g3 cp3 w3 hown3 hgrow hat hlt3; have hgrow' : (wr.alloc (.cells #[.int .i64 (i : Nat)] 3 (0, 0))).grownBy w3 (Value.slice ad LL.length cp).ownBlock := hgrow; have hlt' := HOw.out.lt; (have HB3 : Hid (Below w.heap.size w w3) := ((HB.out.alloc hsz _).grown hgrow' (by simp; omega) fun k hk => by have := (hlt' k hk).1; omega)); have HOw3 : Hid (w3.ownsRow w.heap.size 3 1 (.slice (some ⟨g3, 0, none⟩) (LL.length + 1) cp3) (LL.length + 1) (LL.map encI ++ [.int .i64 (i : Nat)])) := hown3
             clear hgrow hgrow' hat hown3 hown hlt' hsz hlt3 hi0 hz0 hz1 hz2 hlm hnm hil)
          | fail)
        (have HSc9 : memTo P (i + 1) = LL ++ [i] := by rw [HSc.out]; rfl); (have hl9 : (memTo P (i + 1)).length = LL.length + 1 := by rw [HSc9]; simp)
        go_roundg (N - (i + 1))
        case measure => have := HGk.out; have := HI.out; omega
        case rel =>
          (refine ⟨i + 1, some ⟨g3, 0, none⟩, cp3, HI.out, rfl, by go_num, by rw [hl9], ?_, HB3⟩); rw [hl9, HSc9, List.map_append]; exact HOw3
      · have hpf : P i = false := by simpa using hp
        rw [hpf] at HSc ⊢; clear hp hpf; go_wp2_with fail; (have HSc9 : memTo P (i + 1) = LL := by rw [HSc.out]; rfl)
        go_roundg (N - (i + 1))
        case measure => have := HGk.out; have := HI.out; omega
        case rel => exact ⟨i + 1, ad, cp, HI.out, rfl, by go_num, by rw [HSc9], by rw [HSc9]; exact HOw, HB⟩
    · have hii : N = i := by omega
      subst hii; (have hge : ¬ (N : Int) < (N : Int) := by omega); clear hlt hi; go_wp2_with fail; go_ret; obtain ⟨c1, c2⟩ := rowM_caps HOw.out; (refine ⟨_, rfl, ⟨ad, cp, rfl, c1, c2, fun hne => ?_⟩, HB.out⟩); obtain ⟨b, rfl, hc⟩ := rowM_cells HOw.out (List.length_pos_iff.2 hne); (refine ⟨b, rfl, fun j m hj => ?_⟩); (have := hc j (encI m) (by rw [List.getElem?_map, hj]; rfl))
      rwa [Nat.zero_add] at this
end Go.Proofs.Ytmahgfgndfcmpah
/- Six formulas hold just where the six shapes are so, plain. -/
namespace Go.Proofs.Ytmahgfgndfcmpah
open Go.RowKit

def sixF (k : Nat) : Fm := six.getD k fPm
theorem six_code {k : Nat} (hk : k < 6) : (sixF k).code = (0, 0) := by
  match k, hk with
  | 0, _ => decide +kernel
  | 1, _ => decide +kernel
  | 2, _ => decide +kernel
  | 3, _ => decide +kernel
  | 4, _ => decide +kernel
  | 5, _ => decide +kernel
end Go.Proofs.Ytmahgfgndfcmpah
/- The law ModalShapes, walked. -/
namespace Go.Proofs.Ytmahgfgndfcmpah
open Go.RowKit

/-- A new formula, zero. -/
def kZf (A : Nat) : Value → World → Prop := fun v w => ∃ b, v = .pointer (some ⟨b, 0, none⟩) ∧ A ≤ b ∧ w.heap[b]? = some (.cells #[.int .i64 0, .string ⟨#[]⟩, .slice none 0 0] 24 (0, 0))
theorem kZf_stays (A : Nat) : Stays (kZf A) := fun _ _ _ ⟨b, e, h1, h2⟩ hb => ⟨b, e, h1, below_keep hb h2⟩
theorem fine_kindM {k : Int} {n : ByteArray} {ks : List Fm} (h : Fine (.mk k n ks)) : k ≠ 0 := by
  rcases h.forms with ⟨m, e, -⟩ | e | e | ⟨k', g, h1, e, -⟩ | ⟨k', g, g', h1, e, -⟩
  all_goals
    cases e
    omega
/-- A zero block is no part of a formula that is fine. -/
theorem Rep.offZ {w : World} {P : Nat → Prop} {b : Nat} {T : TypeId} (hz : w.heap[b]? = some (.cells #[.int .i64 0, .string ⟨#[]⟩, .slice none 0 0] T (0, 0))) : ∀ {f : Fm} {v : Value}, Fine f → Rep w P f v → Rep w (fun c => P c ∧ c ≠ b) f v := by
  have key : ∀ (m : Nat) (f : Fm) (v : Value), f.size < m → Fine f → Rep w P f v → Rep w (fun c => P c ∧ c ≠ b) f v := by
    intro m
    induction m with
    | zero => intro f v h; exact absurd h (Nat.not_lt_zero _)
    | succ m ih =>
      intro f v hm hf hr; obtain ⟨k, n, ks⟩ := f; obtain ⟨sl, cap, h1, h2, h3, h4, h5⟩ := Rep.def.1 hr; (refine Rep.def.2 ⟨sl, cap, h1, h2, h3, h4, fun hne => ?_⟩); obtain ⟨c, off, h6, h7, h8⟩ := h5 hne
      have hks : ∀ (off : Nat) (fs : List Fm), (∀ g ∈ fs, g ∈ ks) → Reps w P c off fs → Reps w (fun c => P c ∧ c ≠ b) c off fs := by
        intro off fs
        induction fs generalizing off with
        | nil => intro _ _; exact Reps.nil
        | cons g gs ih2 =>
          intro hs hr; obtain ⟨⟨c0, c1, c2, a0, a1, a2, hg⟩, hgs⟩ := Reps.cons.1 hr; (have hgk := hs g (by simp)); obtain ⟨i, hi⟩ := List.getElem?_of_mem hgk; (refine Reps.cons.2 ⟨⟨c0, c1, c2, a0, a1, a2, ih g _ ?_ (hf.kid i g hi) hg⟩, ih2 _ (fun x hx => hs x (by simp [hx])) hgs⟩); have := kid_size (k := k) (n := n) hi; omega
      (refine ⟨c, off, h6, ⟨h7, fun e => ?_⟩, hks off ks (fun _ h => h) h8⟩); subst e; (obtain ⟨g, gs, rfl⟩ : ∃ g gs, ks = g :: gs := by cases ks with | nil => exact absurd rfl hne | cons g gs => exact ⟨g, gs, rfl⟩); obtain ⟨⟨c0, c1, c2, a0, a1, a2, hg⟩, -⟩ := Reps.cons.1 h8; obtain ⟨k', n', ks'⟩ := g; obtain ⟨sl', cap', e', -⟩ := Rep.def.1 hg; simp only [Value.agg.injEq, Array.mk.injEq, List.cons.injEq, and_true] at e'; obtain ⟨rfl, rfl, rfl⟩ := e'; rw [blk_cell hz] at a0; have hk0 := fine_kindM (hf.kid 0 (.mk k' n' ks') rfl)
      rcases off with _ | _ | _ | off
      · simp at a0; exact hk0 a0.symm
      · simp at a0
      · simp at a0
      · simp at a0
  intro f v hf hr; exact key (f.size + 1) f v (Nat.lt_succ_self _) hf hr
/-- A formula that is fine stays where a zero block is written. -/
theorem rep_put3 {w : World} {b : Nat} {T : TypeId} (hz : w.heap[b]? = some (.cells #[.int .i64 0, .string ⟨#[]⟩, .slice none 0 0] T (0, 0))) {f : Fm} {v : Value} (hf : Fine f) (hr : Rep w (fun _ => True) f v) (y0 y1 y2 : Value) : Rep (((w.setCell ⟨b, 0, none⟩ y0).setCell ⟨b, 1, none⟩ y1).setCell ⟨b, 2, none⟩ y2) (fun _ => True) f v := by
  have h1 := Rep.offZ hz hf hr; (have hk : Kept (fun c => True ∧ c ≠ b) w (((w.setCell ⟨b, 0, none⟩ y0).setCell ⟨b, 1, none⟩ y1).setCell ⟨b, 2, none⟩ y2) := (((Kept.refl _ w).setCell (p := ⟨b, 0, none⟩) (fun _ h => h.2 rfl) _).setCell (p := ⟨b, 1, none⟩) (fun _ h => h.2 rfl) _).setCell (p := ⟨b, 2, none⟩) (fun _ h => h.2 rfl) _); (exact (h1.kept hk).weak fun _ _ _ => trivial)
end Go.Proofs.Ytmahgfgndfcmpah
