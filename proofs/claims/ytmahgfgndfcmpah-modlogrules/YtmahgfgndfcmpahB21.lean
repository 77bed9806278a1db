/- Texts of one proof, one behind the other: MD6, MD7, ME8, MS2, MS4, MS7, ML3, ML7. -/
import Derived.Test.YtmahgfgndfcmpahB19
import Derived.Test.YtmahgfgndfcmpahB06
import Derived.Test.YtmahgfgndfcmpahB07
import Derived.Test.YtmahgfgndfcmpahB18
import Derived.Deep.OwnRows
import Derived.Test.YtmahgfgndfcmpahB16
import Derived.Test.YtmahgfgndfcmpahB10
import Derived.Laws.BitsLemmas
import Derived.Deep.RegionHeld3
import Derived.Test.YtmahgfgndfcmpahB15
import Derived.Test.YtmahgfgndfcmpahB08
import Derived.Test.YtmahgfgndfcmpahB13
import Derived.Test.YtmahgfgndfcmpahB14
import Derived.Test.YtmahgfgndfcmpahB17
import Derived.Sort.Walk0
import Derived.Deep.AppendSrc
import Derived.Deep.Upon
import Derived.Lib.AppendZerosOnto
import Derived.RegionTactic
import Derived.Test.YtmahgfgndfcmpahB20
import Derived.Test.YtmahgfgndfcmpahB05
/- Walks: a model of one's own. -/
namespace Go.Proofs.Ytmahgfgndfcmpah
open Go.RowKit Go.Sort

theorem cons_lenM {n : Nat} {l : List Value} (h : l.length = n + 1) : ∃ v t, l = v :: t ∧ t.length = n := by
  cases l with
  | nil => cases h
  | cons v t => exact ⟨v, t, rfl, by simpa using h⟩
theorem someInjM {x y : Value} (h : some x = some y) : x = y := Option.some.inj h
theorem eval_tmpM {a : Act} {n : Nat} {v : Value} (h : a.tmps[n]? = some v) : a.eval (.tmp n) = v := by
  simp [Act.eval, h]
theorem set3M {w : World} {b : Nat} {x0 x1 x2 : Value} {T : TypeId} (h : w.heap[b]? = some (.cells #[x0, x1, x2] T (0, 0))) (y0 y1 y2 : Value) : (((w.setCell ⟨b, 0, none⟩ y0).setCell ⟨b, 1, none⟩ y1).setCell ⟨b, 2, none⟩ y2).heap[b]? = some (.cells #[y0, y1, y2] T (0, 0)) := by
  simp [World.setCell, Array.getElem?_modify, h]
theorem farM {W : World} {b x i : Nat} (h : x ≠ b) (v : Value) : (W.setCell ⟨b, i, none⟩ v).heap[x]? = W.heap[x]? := Below.heap_setCell _ _ _ _ (by simpa using h)
theorem rowM_ne {B : Nat} {w : World} {T T' : TypeId} {sz n g : Nat} {v : Value} {cs : List Value} {cur : Array Value} (h : w.ownsRow B T sz v n cs) (hg : w.heap[g]? = some (.cells cur T' (0, 0))) (hT : T' ≠ T) : v.ownBlock ≠ some g := fun e => by
  rcases h.2 with ⟨rfl, -⟩ | ⟨g', cap, cur', rfl, -, hh, -⟩
  · cases e
  · have : g' = g := by simpa [Value.ownBlock] using e
    subst this; rw [hh] at hg; simp only [Option.some.injEq, Obj.cells.injEq] at hg; exact hT hg.2.1.symm
end Go.Proofs.Ytmahgfgndfcmpah
/- Walks: which worlds each world sees. -/
namespace Go.Proofs.Ytmahgfgndfcmpah
open Go.RowKit Go.Sort

theorem infoI9 : ∃ i, Try.prog.info? 3 = some i ∧ i.zero = some (.int .i64 0) ∧ i.size = 1 ∧ i.bytes = 8 := by
  (obtain ⟨i, hi, h⟩ := Option.map_eq_some_iff.1 (show (Try.prog.info? 3).map (fun i => (i.zero, i.size, i.bytes)) = some (some (.int .i64 0), 1, 8) by kernel_rfl)); simp only [Prod.mk.injEq] at h; exact ⟨i, hi, h.1, h.2.1, h.2.2⟩
def encI (k : Nat) : Value := .int .i64 (k : Nat)
theorem blk_threeM (w : World) (o o' o'' : Obj) : (((w.alloc o).alloc o').alloc o'').heap[w.heap.size]? = some o ∧ (((w.alloc o).alloc o').alloc o'').heap[w.heap.size + 1]? = some o' ∧ (((w.alloc o).alloc o').alloc o'').heap[w.heap.size + 2]? = some o'' := by
  refine ⟨alloc_keep (alloc_keep (blk_new w o) _) _, alloc_keep (blk_two w o o') _, ?_⟩; have := blk_two (w.alloc o) o' o''
  rwa [show (w.alloc o).heap.size = w.heap.size + 1 by simp] at this

end Go.Proofs.Ytmahgfgndfcmpah
/- Walks: modal.Eval. -/
namespace Go.Proofs.Ytmahgfgndfcmpah
open Go.RowKit Go.Maps Go.WideMaps

theorem rowE1 (l : List Value) (h0 : l.length = 1) : ∃ x0, l = [x0] := by
  obtain ⟨x0, l1, e0, h1⟩ := cons_lenM h0; have e1 : l1 = [] := List.length_eq_zero_iff.1 h1; subst e1 e0; exact ⟨x0, rfl⟩
theorem rowE8 (l : List Value) (h0 : l.length = 8) : ∃ x0 x1 x2 x3 x4 x5 x6 x7, l = [x0, x1, x2, x3, x4, x5, x6, x7] := by
  obtain ⟨x0, l1, e0, h1⟩ := cons_lenM h0; obtain ⟨x1, l2, e1, h2⟩ := cons_lenM h1; obtain ⟨x2, l3, e2, h3⟩ := cons_lenM h2; obtain ⟨x3, l4, e3, h4⟩ := cons_lenM h3; obtain ⟨x4, l5, e4, h5⟩ := cons_lenM h4; obtain ⟨x5, l6, e5, h6⟩ := cons_lenM h5; obtain ⟨x6, l7, e6, h7⟩ := cons_lenM h6; obtain ⟨x7, l8, e7, h8⟩ := cons_lenM h7; have e8 : l8 = [] := List.length_eq_zero_iff.1 h8; subst e8 e7 e6 e5 e4 e3 e2 e1 e0; exact ⟨x0, x1, x2, x3, x4, x5, x6, x7, rfl⟩
end Go.Proofs.Ytmahgfgndfcmpah
/- Walks: frame.holds: all that might be true is gone through. -/
namespace Go.Proofs.Ytmahgfgndfcmpah
open Go.RowKit Go.Maps Go.WideMaps

theorem rowE6 (l : List Value) (h0 : l.length = 6) : ∃ x0 x1 x2 x3 x4 x5, l = [x0, x1, x2, x3, x4, x5] := by
  obtain ⟨x0, l1, e0, h1⟩ := cons_lenM h0; obtain ⟨x1, l2, e1, h2⟩ := cons_lenM h1; obtain ⟨x2, l3, e2, h3⟩ := cons_lenM h2; obtain ⟨x3, l4, e3, h4⟩ := cons_lenM h3; obtain ⟨x4, l5, e4, h5⟩ := cons_lenM h4; obtain ⟨x5, l6, e5, h6⟩ := cons_lenM h5; have e6 : l6 = [] := List.length_eq_zero_iff.1 h6; subst e6 e5 e4 e3 e2 e1 e0; exact ⟨x0, x1, x2, x3, x4, x5, rfl⟩
end Go.Proofs.Ytmahgfgndfcmpah
/- Walks: what is so of all worlds, and of all with those that they see. -/
namespace Go.Proofs.Ytmahgfgndfcmpah
open Go.RowKit Go.Sort

/-- Numbers in memory. -/
def NL (w : World) (v : Value) (l : List Nat) : Prop := ∃ ad cap, v = .slice ad l.length cap ∧ l.length ≤ cap ∧ cap ≤ maxLen ∧ (l ≠ [] → ∃ b, ad = some ⟨b, 0, none⟩ ∧ ∀ (j n : Nat), l[j]? = some n → w.cell? ⟨b, j, none⟩ = some (.int .i64 (n : Nat)))
theorem NL.up {w w' : World} {v : Value} {l : List Nat} (h : NL w v l) (hb : Below w.heap.size w w') : NL w' v l := by
  obtain ⟨ad, cap, h1, h2, h3, h4⟩ := h; (refine ⟨ad, cap, h1, h2, h3, fun hne => ?_⟩); obtain ⟨b, h5, h6⟩ := h4 hne; (exact ⟨b, h5, fun j n hj => (hb.cell (lt_of_cell (h6 j n hj))).trans (h6 j n hj)⟩)
def memTo (P : Nat → Bool) (i : Nat) : List Nat := (List.range i).filter P
theorem memTo_succ (P : Nat → Bool) (i : Nat) : memTo P (i + 1) = if P i = true then memTo P i ++ [i] else memTo P i := by
  rw [memTo, List.range_succ, List.filter_append, memTo]; (by_cases h : P i = true <;> simp [h])
theorem memTo_len (P : Nat → Bool) (i : Nat) : (memTo P i).length ≤ i := by
  have := List.length_filter_le P (List.range i)
  rwa [List.length_range] at this
set_option maxRecDepth 10000 in
set_option maxHeartbeats 4000000 in
theorem set_members {N : Nat} (hN : N ≤ 40) (P : Nat → Bool) (w : World) :
    Calls Try.prog 66 #[.int .u64 (bm N P : Nat), .int .i64 (N : Nat)] w fun e w' => ∃ x, e = .returned x ∧ NL w' x (memTo P N) ∧ Below w.heap.size w w' := by
  (have hNI : (N : Int) ≤ 40 := by omega); (have HH : Hid (∀ n, n < N → ∀ w, Calls Try.prog 40 #[.int .u64 (bm N P : Nat), .int .i64 (n : Nat)] w fun e w' => e = .returned (.bool (P n)) ∧ w' = w) := fun n hn w => set_has hN P n hn w); have HN : Hid (N ≤ 40) := hN; generalize bm N P = s at *; clear hN
  go_enter Try.func66, Try.ntmps66
  go_wp2_with fail
  go_loopg [8, 5] N (fun gg cc x wr => ∃ i ad cp, i ≤ N ∧ gg = N - i ∧ cc = .int .i64 (i : Nat) ∧ x = .slice ad (memTo P i).length cp ∧ Hid (wr.ownsRow w.heap.size 3 1 (.slice ad (memTo P i).length cp) (memTo P i).length ((memTo P i).map encI)) ∧ Hid (Below w.heap.size w wr))
  case atStart => exact ⟨0, none, 0, by omega, by omega, rfl, rfl, ⟨rfl, Or.inl ⟨rfl, rfl⟩⟩, Below.refl _ _⟩
  case round =>
    obtain ⟨i, ad, cp, hi, hg, rfl, rfl, HOw, HB⟩ := hrel; have HGk : Hid (gk = N - i) := hg; clear hg; by_cases hlt : i < N
    · have hltI : (i : Int) < (N : Int) := by omega
      have HI : Hid (i < N) := hlt; (have HSc : Hid (memTo P (i + 1) = if P i = true then memTo P i ++ [i] else memTo P i) := memTo_succ P i); have HLn : Hid ((memTo P i).length ≤ i) := memTo_len P i; generalize memTo P i = LL at *; (have hlnI : (LL.length : Int) ≤ 40 := by have := HLn.out; have := HN.out; omega); clear hlt hi; go_wp2_with fail; refine (HH.out i HI.out wr).mono ?_; rintro _ w9 ⟨rfl, e9⟩
      replace e9 := e9.symm
      subst e9; by_cases hp : P i = true
      · rw [hp] at HSc ⊢
        obtain ⟨i0, hi0, hz0, hz1, hz2⟩ := infoI9; clear hp
        go_wp2_with (first
          | (at_builtin
             have hsz := HB.out.size; have hlm := HLn.out; have hnm := HN.out; have hil := HI.out; have hown := rowM_up HOw.out ((Below.refl _ wr).alloc (Nat.le_refl _) (.cells #[.int .i64 (i : Nat)] 3 (0, 0))); (refine wpList_append_lies _ rfl _ _ 74 rfl w.heap.size 3 i0 (.int .i64 0) 1 8 Try.underlying74 hi0 hz0 hz1 hz2 rfl (by decide) (.slice ad LL.length cp) LL.length (LL.map encI) rfl hown ⟨wr.heap.size, 0, none⟩ 1 1 [.int .i64 (i : Nat)] rfl rfl ?_ ?_ (by omega) (by unfold maxLen; omega) (by omega) (by simp; omega) _ rfl ?_)
             · intro j u hu
               rw [add_none, Nat.zero_add, blk_cell (blk_new wr _)]; simpa using hu
             · intro u hu
               simp at hu; subst hu; rfl
             intro g3 cp3 w3 hown3 hgrow hat hlt3; have hgrow' : (wr.alloc (.cells #[.int .i64 (i : Nat)] 3 (0, 0))).grownBy w3 (Value.slice ad LL.length cp).ownBlock := hgrow; have hlt' := HOw.out.lt; (have HB3 : Hid (Below w.heap.size w w3) := ((HB.out.alloc hsz _).grown hgrow' (by simp; omega) fun k hk => by have := (hlt' k hk).1; omega)); have HOw3 : Hid (w3.ownsRow w.heap.size 3 1 (.slice (some ⟨g3, 0, none⟩) (LL.length + 1) cp3) (LL.length + 1) (LL.map encI ++ [.int .i64 (i : Nat)])) := hown3
             clear hgrow hgrow' hat hown3 hown hlt' hsz hlt3 hi0 hz0 hz1 hz2 hlm hnm hil)
          | fail)
        (have HSc9 : memTo P (i + 1) = LL ++ [i] := by rw [HSc.out]; rfl); (have hl9 : (memTo P (i + 1)).length = LL.length + 1 := by rw [HSc9]; simp)
        go_roundg (N - (i + 1))
        case measure => have := HGk.out; have := HI.out; omega
        case rel =>
          (refine ⟨i + 1, some ⟨g3, 0, none⟩, cp3, HI.out, rfl, by go_num, by rw [hl9], ?_, HB3⟩); rw [hl9, HSc9, List.map_append]; exact HOw3
      · have hpf : P i = false := by simpa using hp
        rw [hpf] at HSc ⊢; clear hp hpf; go_wp2_with fail; (have HSc9 : memTo P (i + 1) = LL := by rw [HSc.out]; rfl)
        go_roundg (N - (i + 1))
        case measure => have := HGk.out; have := HI.out; omega
        case rel => exact ⟨i + 1, ad, cp, HI.out, rfl, by go_num, by rw [HSc9], by rw [HSc9]; exact HOw, HB⟩
    · have hii : N = i := by omega
      subst hii; (have hge : ¬ (N : Int) < (N : Int) := by omega); clear hlt hi; go_wp2_with fail; go_ret; obtain ⟨c1, c2⟩ := rowM_caps HOw.out; (refine ⟨_, rfl, ⟨ad, cp, rfl, c1, c2, fun hne => ?_⟩, HB.out⟩); obtain ⟨b, rfl, hc⟩ := rowM_cells HOw.out (List.length_pos_iff.2 hne); (refine ⟨b, rfl, fun j m hj => ?_⟩); (have := hc j (encI m) (by rw [List.getElem?_map, hj]; rfl))
      rwa [Nat.zero_add] at this
end Go.Proofs.Ytmahgfgndfcmpah
/- Six formulas hold just where the six shapes are so, plain. -/
namespace Go.Proofs.Ytmahgfgndfcmpah
open Go.RowKit

def sixF (k : Nat) : Fm := six.getD k fPm
theorem six_code {k : Nat} (hk : k < 6) : (sixF k).code = (0, 0) := by
  match k, hk with
  | 0, _ => decide +kernel
  | 1, _ => decide +kernel
  | 2, _ => decide +kernel
  | 3, _ => decide +kernel
  | 4, _ => decide +kernel
  | 5, _ => decide +kernel
end Go.Proofs.Ytmahgfgndfcmpah
/- Walks: which worlds see each other (the closures of modlog.framesOf). -/
namespace Go.Proofs.Ytmahgfgndfcmpah
open Go.RowKit Go.Sort

/-- A world as a value. -/
def WV (ps : List PartM) (h : Nat) : Value := .agg #[.int .u64 (h : Nat), .int .u64 (bm ps.length (wnB ps h) : Nat), .int .u64 (bm ps.length (swB ps h) : Nat)]
/-- A closure that tells whether a world sees another: it only makes memory; what it reads lies in the blocks of M. -/
structure AskW (fn : Nat) (cap : Array Value) (S : List PartM → Nat → Nat → Bool) (M : Nat → Prop) (Ok : World → Prop) : Prop where
  up : ∀ {w w' : World}, Ok w → (∀ b, M b → w'.heap[b]? = w.heap[b]?) → Ok w'
  old : ∀ {w : World}, Ok w → ∀ b, M b → b < w.heap.size
  ent : ∀ (v u : Value) (w : World), (callFunc fn (#[v, u] ++ cap)).run Try.prog w = .ok (.enter fn (#[v, u] ++ cap)) w
  call : ∀ (ps : List PartM) (u v : Nat) (w : World), ps.length ≤ 40 → Ok w → Calls Try.prog fn (#[WV ps u, WV ps v] ++ cap) w fun e w' => e = .returned (.bool (S ps u v)) ∧ Below w.heap.size w w'
theorem AskW.below {fn : Nat} {cap : Array Value} {S : List PartM → Nat → Nat → Bool} {M : Nat → Prop} {Ok : World → Prop} (A : AskW fn cap S M Ok) {w w' : World} (h : Ok w) (hb : Below w.heap.size w w') : Ok w' := A.up h fun b hm => hb.block b (A.old h b hm)
set_option maxHeartbeats 1000000 in
theorem next_any (ps : List PartM) (hN : ps.length ≤ 40) (u v : Nat) (w : World) :
    Calls Try.prog 28 #[WV ps u, WV ps v] w fun e w' => e = .returned (.bool (nextB ps u v)) ∧ Below w.heap.size w w' := by
  (have HW : Hid (∀ w, Calls Try.prog 29 #[.int .u64 (bm ps.length (swB ps v) : Nat), .int .u64 (bm ps.length (wnB ps u) : Nat)] w fun e w' => e = .returned (.bool (nextB ps u v)) ∧ w' = w) := fun w => set_within hN _ _ w); unfold WV; generalize nextB ps u v = r at *; generalize bm ps.length (swB ps v) = sv at *; generalize bm ps.length (wnB ps u) = wu at *; generalize bm ps.length (wnB ps v) = wv at *; generalize bm ps.length (swB ps u) = su at *; clear hN
  go_enter Try.func28, Try.ntmps28
  go_wp2_with fail; refine (HW.out _).mono ?_; rintro _ _ ⟨rfl, rfl⟩; go_wp2_with fail; go_ret; exact ⟨rfl, below_more (below_more (Below.refl _ _) _) _⟩
theorem frames1_in (cap : Array Value) (w : World) : (callFunc 28 cap).run Try.prog w = .ok (.enter 28 cap) w := by simp [go_sem]
theorem frames2_in (cap : Array Value) (w : World) : (callFunc 30 cap).run Try.prog w = .ok (.enter 30 cap) w := by simp [go_sem]
theorem frames3_in (cap : Array Value) (w : World) : (callFunc 31 cap).run Try.prog w = .ok (.enter 31 cap) w := by simp [go_sem]
theorem both1_in (cap : Array Value) (w : World) : (callFunc 47 cap).run Try.prog w = .ok (.enter 47 cap) w := by simp [go_sem]
theorem askNext : AskW 28 #[] nextB (fun _ => False) (fun _ => True) where
  up := fun _ _ => trivial
  old := fun _ _ h => h.elim
  ent := fun _ _ w => frames1_in _ w
  call := fun ps u v w hN _ => next_any ps hN u v w
/-- The block that a closure reads. -/
def OkCW (fn : Nat) (cap : Array Value) (cb : Nat) (Ok : World → Prop) (w : World) : Prop := w.heap[cb]? = some (.cells #[.func (.func fn) #[] cap] 45 (0, 0)) ∧ Ok w
theorem blkC {w : World} {b : Nat} {c0 : Value} {T : TypeId} (h : w.heap[b]? = some (.cells #[c0] T (0, 0))) : w.cell? ⟨b, 0, none⟩ = some c0 := blk_cell h 0
section
variable {fn : Nat} {cap : Array Value} {S : List PartM → Nat → Nat → Bool} {M : Nat → Prop} {Ok : World → Prop}
theorem OkCW.up {w w' : World} {cb : Nat} (A : AskW fn cap S M Ok) (h : OkCW fn cap cb Ok w) (hk : ∀ b, (b = cb ∨ M b) → w'.heap[b]? = w.heap[b]?) : OkCW fn cap cb Ok w' := ⟨(hk cb (Or.inl rfl)).trans h.1, A.up h.2 fun b hb => hk b (Or.inr hb)⟩
theorem OkCW.old {w : World} {cb : Nat} (A : AskW fn cap S M Ok) (h : OkCW fn cap cb Ok w) (b : Nat) (hb : b = cb ∨ M b) : b < w.heap.size := by
  rcases hb with rfl | hb
  · exact lt_of_block h.1
  · exact A.old h.2 b hb
set_option maxRecDepth 10000 in
set_option maxHeartbeats 2000000 in
theorem bynd_any (A : AskW fn cap S M Ok) (cb : Nat) (ps : List PartM) (hN : ps.length ≤ 40) (u v : Nat) (w : World) (hok : OkCW fn cap cb Ok w) :
    Calls Try.prog 30 #[WV ps u, WV ps v, .pointer (some ⟨cb, 0, none⟩)] w fun e w' => e = .returned (.bool (S ps u v && subB ps.length (wnB ps v) (wnB ps u))) ∧ Below w.heap.size w w' := by
  (have HW : Hid (∀ w, Calls Try.prog 29 #[.int .u64 (bm ps.length (wnB ps v) : Nat), .int .u64 (bm ps.length (wnB ps u) : Nat)] w fun e w' => e = .returned (.bool (subB ps.length (wnB ps v) (wnB ps u))) ∧ w' = w) := fun w => set_within hN _ _ w); (have HC : Hid (∀ w, Ok w → Calls Try.prog fn (#[WV ps u, WV ps v] ++ cap) w fun e w' => e = .returned (.bool (S ps u v)) ∧ Below w.heap.size w w') := fun w h => A.call ps u v w hN h); (have HU : Hid (∀ w', Below w.heap.size w w' → OkCW fn cap cb Ok w') := fun w' hb => hok.up A fun b hb' => hb.block b (hok.old A b hb')); have hcf := A.ent; unfold WV at HC ⊢; generalize subB ps.length (wnB ps v) (wnB ps u) = r at *; generalize S ps u v = r1 at *; generalize bm ps.length (swB ps v) = sv at *; generalize bm ps.length (wnB ps u) = wu at *; generalize bm ps.length (wnB ps v) = wv at *; generalize bm ps.length (swB ps u) = su at *; clear hN hok A; obtain ⟨W, hW⟩ : ∃ W, (w.alloc (.cells #[.int .u64 (u : Nat), .int .u64 (wu : Nat), .int .u64 (su : Nat)] 59 (0, 0))).alloc (.cells #[.int .u64 (v : Nat), .int .u64 (wv : Nat), .int .u64 (sv : Nat)] 59 (0, 0)) = W := ⟨_, rfl⟩; (have HB : Hid (Below w.heap.size w W) := by rw [← hW]; exact below_more (below_more (Below.refl _ _) _) _); (have hb1 : W.heap[w.heap.size]? = some (.cells #[.int .u64 (u : Nat), .int .u64 (wu : Nat), .int .u64 (su : Nat)] 59 (0, 0)) := by rw [← hW]; exact alloc_keep (blk_new _ _) _); (have hb2 : W.heap[w.heap.size + 1]? = some (.cells #[.int .u64 (v : Nat), .int .u64 (wv : Nat), .int .u64 (sv : Nat)] 59 (0, 0)) := by rw [← hW]; exact blk_secE _ _ _); have HB1 : Hid (W.heap[w.heap.size]? = some (.cells #[.int .u64 (u : Nat), .int .u64 (wu : Nat), .int .u64 (su : Nat)] 59 (0, 0))) := hb1; have HB2 : Hid (W.heap[w.heap.size + 1]? = some (.cells #[.int .u64 (v : Nat), .int .u64 (wv : Nat), .int .u64 (sv : Nat)] 59 (0, 0))) := hb2; obtain ⟨a0, a1, a2, -⟩ := blk3 hb1; obtain ⟨e0, e1, e2, -⟩ := blk3 hb2; have c0 := blkC (HU.out W HB.out).1; clear hb1 hb2
  go_enter Try.func30, Try.ntmps30
  go_wp2_with fail; refine (HC.out W (HU.out W HB.out).2).mono ?_; rintro _ w1 ⟨rfl, hb1⟩; have HX : Hid (Below w.heap.size w w1) := below_join HB.out hb1; obtain ⟨f0, f1, f2, -⟩ := blk3 (below_keep hb1 HB1.out); obtain ⟨g0, g1, g2, -⟩ := blk3 (below_keep hb1 HB2.out); clear hb1 a0 a1 a2 e0 e1 e2 c0 hW hcf
  cases r1
  · go_wp2_with fail
    go_ret; exact ⟨rfl, HX.out⟩
  · go_wp2_with fail
    refine (HW.out _).mono ?_; rintro _ _ ⟨rfl, rfl⟩; go_wp2_with fail; go_ret; exact ⟨rfl, HX.out⟩
set_option maxRecDepth 10000 in
set_option maxHeartbeats 2000000 in
theorem onw_any (A : AskW fn cap S M Ok) (cb : Nat) (ps : List PartM) (hN : ps.length ≤ 40) (u v : Nat) (w : World) (hok : OkCW fn cap cb Ok w) :
    Calls Try.prog 31 #[WV ps u, WV ps v, .pointer (some ⟨cb, 0, none⟩)] w fun e w' => e = .returned (.bool (S ps u v && !decide (bm ps.length (wnB ps u) = bm ps.length (wnB ps v)))) ∧ Below w.heap.size w w' := by
  (have HC : Hid (∀ w, Ok w → Calls Try.prog fn (#[WV ps u, WV ps v] ++ cap) w fun e w' => e = .returned (.bool (S ps u v)) ∧ Below w.heap.size w w') := fun w h => A.call ps u v w hN h); (have HU : Hid (∀ w', Below w.heap.size w w' → OkCW fn cap cb Ok w') := fun w' hb => hok.up A fun b hb' => hb.block b (hok.old A b hb')); have hcf := A.ent; unfold WV at HC ⊢; generalize S ps u v = r1 at *; generalize bm ps.length (swB ps v) = sv at *; generalize bm ps.length (wnB ps u) = wu at *; generalize bm ps.length (wnB ps v) = wv at *; generalize bm ps.length (swB ps u) = su at *; clear hN hok A; obtain ⟨W, hW⟩ : ∃ W, (w.alloc (.cells #[.int .u64 (u : Nat), .int .u64 (wu : Nat), .int .u64 (su : Nat)] 59 (0, 0))).alloc (.cells #[.int .u64 (v : Nat), .int .u64 (wv : Nat), .int .u64 (sv : Nat)] 59 (0, 0)) = W := ⟨_, rfl⟩; (have HB : Hid (Below w.heap.size w W) := by rw [← hW]; exact below_more (below_more (Below.refl _ _) _) _); (have hb1 : W.heap[w.heap.size]? = some (.cells #[.int .u64 (u : Nat), .int .u64 (wu : Nat), .int .u64 (su : Nat)] 59 (0, 0)) := by rw [← hW]; exact alloc_keep (blk_new _ _) _); (have hb2 : W.heap[w.heap.size + 1]? = some (.cells #[.int .u64 (v : Nat), .int .u64 (wv : Nat), .int .u64 (sv : Nat)] 59 (0, 0)) := by rw [← hW]; exact blk_secE _ _ _); have HB1 : Hid (W.heap[w.heap.size]? = some (.cells #[.int .u64 (u : Nat), .int .u64 (wu : Nat), .int .u64 (su : Nat)] 59 (0, 0))) := hb1; have HB2 : Hid (W.heap[w.heap.size + 1]? = some (.cells #[.int .u64 (v : Nat), .int .u64 (wv : Nat), .int .u64 (sv : Nat)] 59 (0, 0))) := hb2; obtain ⟨a0, a1, a2, -⟩ := blk3 hb1; obtain ⟨e0, e1, e2, -⟩ := blk3 hb2; have c0 := blkC (HU.out W HB.out).1; clear hb1 hb2
  go_enter Try.func31, Try.ntmps31
  go_wp2_with fail; refine (HC.out W (HU.out W HB.out).2).mono ?_; rintro _ w1 ⟨rfl, hb1⟩; have HX : Hid (Below w.heap.size w w1) := below_join HB.out hb1; obtain ⟨f0, f1, f2, -⟩ := blk3 (below_keep hb1 HB1.out); obtain ⟨g0, g1, g2, -⟩ := blk3 (below_keep hb1 HB2.out); clear hb1 a0 a1 a2 e0 e1 e2 c0 hW hcf
  cases r1
  · go_wp2_with fail
    go_ret; exact ⟨rfl, HX.out⟩
  · by_cases hd : wu = wv
    · subst hd
      go_wp2_with fail; go_ret; (exact ⟨by simp, HX.out⟩)
    · have hd2 : ((wu : Int) != (wv : Int)) = true := by simpa using fun e => hd (by exact_mod_cast e)
      go_wp2_with fail; go_ret; (exact ⟨by simp [hd], HX.out⟩)
set_option maxRecDepth 10000 in
set_option maxHeartbeats 2000000 in
theorem bothW_any (A : AskW fn cap S M Ok) (cb : Nat) (ps : List PartM) (hN : ps.length ≤ 40) (u v : Nat) (w : World) (hok : OkCW fn cap cb Ok w) :
    Calls Try.prog 47 #[WV ps u, WV ps v, .pointer (some ⟨cb, 0, none⟩)] w fun e w' => e = .returned (.bool (S ps u v && S ps v u)) ∧ Below w.heap.size w w' := by
  (have HC : Hid (∀ w, Ok w → Calls Try.prog fn (#[WV ps u, WV ps v] ++ cap) w fun e w' => e = .returned (.bool (S ps u v)) ∧ Below w.heap.size w w') := fun w h => A.call ps u v w hN h); (have HD : Hid (∀ w, Ok w → Calls Try.prog fn (#[WV ps v, WV ps u] ++ cap) w fun e w' => e = .returned (.bool (S ps v u)) ∧ Below w.heap.size w w') := fun w h => A.call ps v u w hN h); (have HU : Hid (∀ w', Below w.heap.size w w' → OkCW fn cap cb Ok w') := fun w' hb => hok.up A fun b hb' => hb.block b (hok.old A b hb')); have hcf := A.ent; unfold WV at HC HD ⊢; generalize S ps u v = r1 at *; generalize S ps v u = r2 at *; generalize bm ps.length (swB ps v) = sv at *; generalize bm ps.length (wnB ps u) = wu at *; generalize bm ps.length (wnB ps v) = wv at *; generalize bm ps.length (swB ps u) = su at *; clear hN hok A; obtain ⟨W, hW⟩ : ∃ W, (w.alloc (.cells #[.int .u64 (u : Nat), .int .u64 (wu : Nat), .int .u64 (su : Nat)] 59 (0, 0))).alloc (.cells #[.int .u64 (v : Nat), .int .u64 (wv : Nat), .int .u64 (sv : Nat)] 59 (0, 0)) = W := ⟨_, rfl⟩; (have HB : Hid (Below w.heap.size w W) := by rw [← hW]; exact below_more (below_more (Below.refl _ _) _) _); (have hb1 : W.heap[w.heap.size]? = some (.cells #[.int .u64 (u : Nat), .int .u64 (wu : Nat), .int .u64 (su : Nat)] 59 (0, 0)) := by rw [← hW]; exact alloc_keep (blk_new _ _) _); (have hb2 : W.heap[w.heap.size + 1]? = some (.cells #[.int .u64 (v : Nat), .int .u64 (wv : Nat), .int .u64 (sv : Nat)] 59 (0, 0)) := by rw [← hW]; exact blk_secE _ _ _); have HB1 : Hid (W.heap[w.heap.size]? = some (.cells #[.int .u64 (u : Nat), .int .u64 (wu : Nat), .int .u64 (su : Nat)] 59 (0, 0))) := hb1; have HB2 : Hid (W.heap[w.heap.size + 1]? = some (.cells #[.int .u64 (v : Nat), .int .u64 (wv : Nat), .int .u64 (sv : Nat)] 59 (0, 0))) := hb2; obtain ⟨a0, a1, a2, -⟩ := blk3 hb1; obtain ⟨e0, e1, e2, -⟩ := blk3 hb2; have c0 := blkC (HU.out W HB.out).1; clear hb1 hb2
  go_enter Try.func47, Try.ntmps47
  go_wp2_with fail; refine (HC.out W (HU.out W HB.out).2).mono ?_; rintro _ w1 ⟨rfl, hb1⟩; have HX : Hid (Below w.heap.size w w1) := below_join HB.out hb1; obtain ⟨f0, f1, f2, -⟩ := blk3 (below_keep hb1 HB1.out); obtain ⟨g0, g1, g2, -⟩ := blk3 (below_keep hb1 HB2.out); have c1 := blkC (HU.out w1 HX.out).1; clear hb1 a0 a1 a2 e0 e1 e2 c0 hW
  cases r1
  · go_wp2_with fail
    go_ret; exact ⟨rfl, HX.out⟩
  · go_wp2_with fail
    refine (HD.out _ (HU.out w1 HX.out).2).mono ?_; rintro _ w2 ⟨rfl, hb2⟩; go_wp2_with fail; go_ret; exact ⟨rfl, below_join HX.out hb2⟩
theorem askBynd (A : AskW fn cap S M Ok) (cb : Nat) : AskW 30 #[.pointer (some ⟨cb, 0, none⟩)] (fun ps u v => S ps u v && subB ps.length (wnB ps v) (wnB ps u)) (fun b => b = cb ∨ M b) (OkCW fn cap cb Ok) where
  up := fun h hk => h.up A hk
  old := fun h b hb => h.old A b hb
  ent := fun _ _ w => frames2_in _ w
  call := fun ps u v w hN h => bynd_any A cb ps hN u v w h
theorem askOnw (A : AskW fn cap S M Ok) (cb : Nat) : AskW 31 #[.pointer (some ⟨cb, 0, none⟩)] (fun ps u v => S ps u v && !decide (bm ps.length (wnB ps u) = bm ps.length (wnB ps v))) (fun b => b = cb ∨ M b) (OkCW fn cap cb Ok) where
  up := fun h hk => h.up A hk
  old := fun h b hb => h.old A b hb
  ent := fun _ _ w => frames3_in _ w
  call := fun ps u v w hN h => onw_any A cb ps hN u v w h
theorem askBoth (A : AskW fn cap S M Ok) (cb : Nat) : AskW 47 #[.pointer (some ⟨cb, 0, none⟩)] (fun ps u v => S ps u v && S ps v u) (fun b => b = cb ∨ M b) (OkCW fn cap cb Ok) where
  up := fun h hk => h.up A hk
  old := fun h b hb => h.old A b hb
  ent := fun _ _ w => both1_in _ w
  call := fun ps u v w hN h => bothW_any A cb ps hN u v w h
end
end Go.Proofs.Ytmahgfgndfcmpah
/- Walks: how worlds are compared (the closure of modlog.worldsOf). -/
namespace Go.Proofs.Ytmahgfgndfcmpah
open Go.RowKit Go.Sort

set_option maxRecDepth 10000 in
set_option maxHeartbeats 2000000 in
theorem ones_any (x : Int) (w : World) : Calls Try.prog 65 #[.int .u64 x] w fun e w' => (∃ c, e = .returned (.int .i64 c)) ∧ w' = w := by
  go_enter Try.func65, Try.ntmps65
  go_wp2_with fail; go_ret; exact ⟨⟨_, rfl⟩, rfl⟩
set_option maxHeartbeats 1000000 in
theorem wsize_any (x : Int) (w : World) : Calls Try.prog 54 #[.int .u64 x] w fun e w' => (∃ c, e = .returned (.int .i64 c)) ∧ w' = w := by
  (have HO : Hid (∀ w, Calls Try.prog 65 #[.int .u64 x] w _) := fun w => ones_any x w)
  go_enter Try.func54, Try.ntmps54
  go_wp2_with fail; refine (HO.out _).mono ?_; rintro _ _ ⟨⟨c, rfl⟩, rfl⟩; go_wp2_with fail; go_ret; exact ⟨⟨_, rfl⟩, rfl⟩
theorem nan_any (x : Int) (w : World) : Calls Try.prog 64 #[.int .i64 x] w fun e w' => e = .returned (.bool false) ∧ w' = w := by
  go_enter Try.func64, Try.ntmps64
  go_wp2_with fail; go_ret; exact ⟨rfl, rfl⟩
set_option maxHeartbeats 2000000 in
theorem cmpInt_any (x y : Int) (w : World) : Calls Try.prog 53 #[.int .i64 x, .int .i64 y] w fun e w' => (∃ c, e = .returned (.int .i64 c)) ∧ w' = w := by
  (have HN : Hid (∀ x w, Calls Try.prog 64 #[.int .i64 x] w _) := fun x w => nan_any x w)
  go_enter Try.func53, Try.ntmps53
  go_wp2_with fail; refine (HN.out _ _).mono ?_; rintro _ _ ⟨rfl, rfl⟩; go_wp2_with fail; refine (HN.out _ _).mono ?_; rintro _ _ ⟨rfl, rfl⟩; by_cases h1 : x < y
  · go_wp2_with fail
    go_ret; exact ⟨⟨_, rfl⟩, rfl⟩
  · have h1d : decide (x < y) = false := decide_eq_false h1
    by_cases h2 : y < x
    · go_wp2_with fail
      go_ret; exact ⟨⟨_, rfl⟩, rfl⟩
    · have h2d : decide (y < x) = false := decide_eq_false h2
      go_wp2_with fail; go_ret; exact ⟨⟨_, rfl⟩, rfl⟩
-- closure
def kInt : Value → World → Prop := fun v _ => ∃ c, v = .int .i64 c
theorem kInt_stays : Stays kInt := fun _ _ _ h _ => h
set_option maxRecDepth 10000 in
set_option maxHeartbeats 2000000 in
theorem cmpW_any (ps : List PartM) (u v : Nat) (w : World) : Calls Try.prog 52 #[WV ps u, WV ps v] w fun e w' => (∃ c, e = .returned (.int .i64 c)) ∧ Below w.heap.size w w' := by
  unfold WV; generalize bm ps.length (wnB ps u) = uw; generalize bm ps.length (swB ps u) = us; generalize bm ps.length (wnB ps v) = vw; generalize bm ps.length (swB ps v) = vs; obtain ⟨W, hW⟩ : ∃ W, W = (w.alloc (.cells #[.int .u64 (u : Nat), .int .u64 (uw : Nat), .int .u64 (us : Nat)] 59 (0, 0))).alloc (.cells #[.int .u64 (v : Nat), .int .u64 (vw : Nat), .int .u64 (vs : Nat)] 59 (0, 0)) := ⟨_, rfl⟩; (have HB0 : Hid (Below w.heap.size w W) := by rw [hW]; exact below_more (below_more (Below.refl _ w) _) _); (have HX1 : Hid (W.heap[w.heap.size]? = some (.cells #[.int .u64 (u : Nat), .int .u64 (uw : Nat), .int .u64 (us : Nat)] 59 (0, 0))) := by rw [hW]; exact alloc_keep (blk_new _ _) _); (have HX2 : Hid (W.heap[w.heap.size + 1]? = some (.cells #[.int .u64 (v : Nat), .int .u64 (vw : Nat), .int .u64 (vs : Nat)] 59 (0, 0))) := by rw [hW]; exact blk_secE _ _ _)
  go_enter Try.func52, Try.ntmps52
  go_wp2_with fail; rw [← hW]; clear hW; (refine wp_region_free (by kernel_rfl) [fun v _ => v = (.pointer (some ⟨w.heap.size, 1, none⟩)), fun v _ => v = (.int .u64 (uw : Nat)), kInt, fun v _ => v = (.pointer (some ⟨w.heap.size + 1, 1, none⟩)), fun v _ => v = (.int .u64 (vw : Nat)), kInt, kInt, kInt] ?_ (by kernel_rfl) (by kernel_rfl) 12 rfl (by kernel_rfl) ?_ ?_)
  · intro p hp
    simp only [List.mem_cons, List.not_mem_nil, or_false] at hp
    rcases hp with rfl | rfl | rfl | rfl | rfl | rfl | rfl | rfl
    · exact fun _ _ _ h _ => h
    · exact fun _ _ _ h _ => h
    · exact kInt_stays
    · exact fun _ _ _ h _ => h
    · exact fun _ _ _ h _ => h
    · exact kInt_stays
    · exact kInt_stays
    · exact kInt_stays
  · refine ⟨?_, ?_, ?_, ?_, ?_, ?_, ?_, ?_, trivial⟩
    · intro a wx hB hold hdep K hK
      have t2 : a.tmps[2]? = some (.pointer (some ⟨w.heap.size, 0, none⟩)) := hold.2.2 2 rfl; clear hold hdep; go_simp; exact hK.out _ _ rfl (Below.refl _ _)
    · intro a wx hB hold hdep K hK
      obtain ⟨v5, t5, p5⟩ := hdep 0 rfl _ 5 rfl rfl; have e5 : v5 = (.pointer (some ⟨w.heap.size, 1, none⟩)) := p5; subst e5; obtain ⟨q0, q1, q2, -⟩ := blk3 (below_keep hB HX1.out); clear hold hdep; go_simp; exact hK.out _ _ rfl (Below.refl _ _)
    · intro a wx hB hold hdep K hK
      obtain ⟨v6, t6, p6⟩ := hdep 1 rfl _ 6 rfl rfl; have e6 : v6 = (.int .u64 (uw : Nat)) := p6; subst e6; have HW : Hid (Calls Try.prog 54 #[.int .u64 (uw : Nat)] wx _) := wsize_any _ wx; clear hold hdep; go_simp; refine HW.out.mono ?_; rintro _ w9 ⟨⟨c9, rfl⟩, rfl⟩; go_simp; exact hK.out _ _ ⟨_, rfl⟩ (Below.refl _ _)
    · intro a wx hB hold hdep K hK
      have t3 : a.tmps[3]? = some (.pointer (some ⟨w.heap.size + 1, 0, none⟩)) := hold.2.2 3 rfl; clear hold hdep; go_simp; exact hK.out _ _ rfl (Below.refl _ _)
    · intro a wx hB hold hdep K hK
      obtain ⟨v8, t8, p8⟩ := hdep 3 rfl _ 8 rfl rfl; have e8 : v8 = (.pointer (some ⟨w.heap.size + 1, 1, none⟩)) := p8; subst e8; obtain ⟨q0, q1, q2, -⟩ := blk3 (below_keep hB HX2.out); clear hold hdep; go_simp; exact hK.out _ _ rfl (Below.refl _ _)
    · intro a wx hB hold hdep K hK
      obtain ⟨v9, t9, p9⟩ := hdep 4 rfl _ 9 rfl rfl; have e9 : v9 = (.int .u64 (vw : Nat)) := p9; subst e9; have HW : Hid (Calls Try.prog 54 #[.int .u64 (vw : Nat)] wx _) := wsize_any _ wx; clear hold hdep; go_simp; refine HW.out.mono ?_; rintro _ w9 ⟨⟨c9, rfl⟩, rfl⟩; go_simp; exact hK.out _ _ ⟨_, rfl⟩ (Below.refl _ _)
    · intro a wx hB hold hdep K hK
      obtain ⟨v7, t7, p7⟩ := hdep 2 rfl _ 7 rfl rfl; have P7 : Hid ((kInt) v7 wx) := p7; clear p7; obtain ⟨v10, t10, p10⟩ := hdep 5 rfl _ 10 rfl rfl; have P10 : Hid ((kInt) v10 wx) := p10; clear p10; obtain ⟨c7, rfl⟩ := P7.out; obtain ⟨c10, rfl⟩ := P10.out; clear P7 P10; have HW : Hid (Calls Try.prog 53 #[.int .i64 c7, .int .i64 c10] wx _) := cmpInt_any _ _ wx; clear hold hdep; go_simp; refine HW.out.mono ?_; rintro _ w9 ⟨⟨c9, rfl⟩, rfl⟩; go_simp; exact hK.out _ _ ⟨_, rfl⟩ (Below.refl _ _)
    · intro a wx hB hold hdep K hK
      obtain ⟨v11, t11, p11⟩ := hdep 6 rfl _ 11 rfl rfl; have P11 : Hid ((kInt) v11 wx) := p11; clear p11; clear hold hdep; go_simp; exact hK.out _ _ P11.out (Below.refl _ _)
  · intro a wx hB hold hgot
    obtain ⟨vZ, tvZ, pvZ⟩ := hgot 7 _ 4 rfl rfl; obtain ⟨c, rfl⟩ := pvZ; have HBx : Hid (Below W.heap.size W wx) := hB; obtain ⟨tm, df⟩ := a; (obtain ⟨ys, hys, htm, rfl⟩ := frame_mid2 4 8 (by kernel_rfl) (Nat.le_of_ble_eq_true rfl) hold); obtain ⟨x4, x5, x6, x7, x8, x9, x10, x11, rfl⟩ := rowE8 ys hys; simp only [List.take_succ_cons, List.take_zero, List.drop_succ_cons, List.drop_zero, List.cons_append, List.nil_append] at htm; subst htm; obtain rfl : x4 = _ := someInjM tvZ; clear hys hold hgot tvZ hB; go_wp2_with fail; go_ret; exact ⟨⟨_, rfl⟩, below_join HB0.out HBx.out⟩
theorem worlds1_in (cap : Array Value) (w : World) : (callFunc 52 cap).run Try.prog w = .ok (.enter 52 cap) w := by simp [go_sem]
end Go.Proofs.Ytmahgfgndfcmpah
