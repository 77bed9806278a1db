/- Texts of one proof, one behind the other: CC3, CE1, CE3, CE5, CE6, CF1, CF2, CG1, CH1, CH2, CH3. -/
import Derived.Test.YtalnljnincnbdacGreatB10
import Derived.Maps.OwnSet
import Derived.Shelf.SlMaps.Copy
import Derived.Test.YtalnljnincnbdacGreatB02
import Derived.Test.YtalnljnincnbdacGreatB09
/- Sequents in memory; facts that stay. -/
namespace Go.Proofs.YtalnljnincnbdacGreat
open Go.RowKit

def SQ (w : World) (v : Value) (s : List Fm × List Fm) : Prop := ∃ vl vr, v = .agg #[vl, vr] ∧ FL w vl s.1 ∧ FL w vr s.2
def SQs (w : World) (v : Value) (ss : List (List Fm × List Fm)) : Prop := ∃ ad cap, v = .slice ad ss.length cap ∧ ss.length ≤ cap ∧ cap ≤ maxLen ∧ (ss ≠ [] → ∃ b off, ad = some ⟨b, off, none⟩ ∧ ∀ (j : Nat) (s : List Fm × List Fm), ss[j]? = some s → ∃ vl vr, w.cell? ⟨b, off + j * 2, none⟩ = some vl ∧ w.cell? ⟨b, off + j * 2 + 1, none⟩ = some vr ∧ FL w vl s.1 ∧ FL w vr s.2)
theorem SQ.up {w w' : World} {v : Value} {s : List Fm × List Fm} (h : SQ w v s) (hb : Below w.heap.size w w') : SQ w' v s := by
  obtain ⟨vl, vr, hv, h1, h2⟩ := h; exact ⟨vl, vr, hv, h1.up hb, h2.up hb⟩
theorem SQs.up {w w' : World} {v : Value} {ss : List (List Fm × List Fm)} (h : SQs w v ss) (hb : Below w.heap.size w w') : SQs w' v ss := by
  obtain ⟨ad, cap, h1, h2, h3, h4⟩ := h; (refine ⟨ad, cap, h1, h2, h3, fun hne => ?_⟩); obtain ⟨b, off, h5, h6⟩ := h4 hne; (refine ⟨b, off, h5, fun j s hs => ?_⟩); obtain ⟨vl, vr, h7, h8, h9, h10⟩ := h6 j s hs; exact ⟨vl, vr, (hb.cell (p := ⟨b, off + j * 2, none⟩) (lt_of_cell h7)).trans h7, (hb.cell (p := ⟨b, off + j * 2 + 1, none⟩) (lt_of_cell h8)).trans h8, h9.up hb, h10.up hb⟩
theorem SQs.nil {w : World} : SQs w (.slice none 0 0) [] := ⟨none, 0, rfl, Nat.le_refl _, by simp, fun h => absurd rfl h⟩
theorem SQs.one {w : World} {b : Nat} {T : TypeId} {vl vr : Value} {s : List Fm × List Fm} (hb : w.heap[b]? = some (.cells #[vl, vr] T (0, 0))) (h1 : FL w vl s.1) (h2 : FL w vr s.2) : SQs w (.slice (some ⟨b, 0, none⟩) 1 1) [s] := by
  (refine ⟨_, 1, rfl, Nat.le_refl _, by simp [maxLen], fun _ => ⟨b, 0, rfl, fun j t ht => ?_⟩⟩)
  cases j with
  | zero => simp at ht; subst ht; exact ⟨vl, vr, blk_cell hb 0, blk_cell hb 1, h1, h2⟩
  | succ j => simp at ht
theorem SQs.two {w : World} {b : Nat} {T : TypeId} {vl vr vl' vr' : Value} {s s' : List Fm × List Fm} (hb : w.heap[b]? = some (.cells #[vl, vr, vl', vr'] T (0, 0))) (h1 : FL w vl s.1) (h2 : FL w vr s.2) (h3 : FL w vl' s'.1) (h4 : FL w vr' s'.2) : SQs w (.slice (some ⟨b, 0, none⟩) 2 2) [s, s'] := by
  (refine ⟨_, 2, rfl, Nat.le_refl _, by simp [maxLen], fun _ => ⟨b, 0, rfl, fun j t ht => ?_⟩⟩)
  rcases j with _ | _ | j
  · simp at ht; subst ht; exact ⟨vl, vr, blk_cell hb 0, blk_cell hb 1, h1, h2⟩
  · simp at ht; subst ht; exact ⟨vl', vr', blk_cell hb 2, blk_cell hb 3, h3, h4⟩
  · simp at ht
theorem FL.sing {w : World} {b : Nat} {T : TypeId} {c0 c1 c2 : Value} {f : Fm} (hb : w.heap[b]? = some (.cells #[c0, c1, c2] T (0, 0))) (h : Rep w (fun _ => True) f (.agg #[c0, c1, c2])) : FL w (.slice (some ⟨b, 0, none⟩) 1 1) [f] :=
  ⟨_, 1, rfl, Nat.le_refl _, by simp [maxLen], fun _ => ⟨b, 0, rfl, Reps.cons.2 ⟨⟨c0, c1, c2, blk_cell hb 0, blk_cell hb 1, blk_cell hb 2, h⟩, Reps.nil⟩⟩⟩
theorem FL.none {w : World} : FL w (.slice none 0 0) [] := ⟨_, 0, rfl, Nat.le_refl _, by simp, fun h => absurd rfl h⟩

/-! The facts on the way through a region. -/
def kEq (x : Value) : Value → World → Prop := fun v _ => v = x
theorem kEq_stays (x : Value) : Stays (kEq x) := fun _ _ _ h _ => h
end Go.Proofs.YtalnljnincnbdacGreat
/- Walks: the rules as function values. -/
namespace Go.Proofs.YtalnljnincnbdacGreat
open Go.RowKit

/-- Blocks behind B are as they were. -/
def Over (B : Nat) (w w' : World) : Prop := w.heap.size ≤ w'.heap.size ∧ ∀ b, B < b → b < w.heap.size → w'.heap[b]? = w.heap[b]?
theorem Over.refl (B : Nat) (w : World) : Over B w w := ⟨Nat.le_refl _, fun _ _ _ => rfl⟩
theorem Over.trans {B : Nat} {a b c : World} (h : Over B a b) (k : Over B b c) : Over B a c := ⟨Nat.le_trans h.1 k.1, fun i h1 h2 => (k.2 i h1 (Nat.lt_of_lt_of_le h2 h.1)).trans (h.2 i h1 h2)⟩
theorem over_below {B : Nat} {w w' : World} (h : Below w.heap.size w w') : Over B w w' := ⟨h.size, fun b _ hb => h.block b hb⟩
theorem over_grown {B : Nat} {w w' : World} (h : w.grownBy w' (some B)) : Over B w w' := ⟨h.size, fun b h1 h2 => h.block b h2 (fun e => by have := Option.some.inj e; omega)⟩
/-- A function value that is a rule; what it captured lies behind B. -/
def RuleFn (i : Bool) (q : Ru) (v : Value) (B : Nat) (w : World) : Prop := ∃ fn cap, v = .func (.func fn) #[] cap ∧ (∀ (s : Value) (w' : World), (callFunc fn (#[s] ++ cap)).run Tryz.prog w' = .ok (.enter fn (#[s] ++ cap)) w') ∧
  ∀ (w' : World), Over B w w' → ∀ (f : Fm) (l r : List Fm) (s : Value), Fine f → l.length ≤ 300 → r.length ≤ 300 → StV w' s f l r →
    Calls Tryz.prog fn (#[s] ++ cap) w' fun e w'' => ∃ x, e = .returned (.tuple #[x, .bool (prem i q f l r).isSome]) ∧ (∀ ss, prem i q f l r = some ss → SQs w'' x ss) ∧ Below w'.heap.size w' w''
theorem RuleFn.over {i : Bool} {q : Ru} {v : Value} {B : Nat} {w w' : World} (h : RuleFn i q v B w) (hb : Over B w w') : RuleFn i q v B w' := by
  obtain ⟨fn, cap, hv, he, hc⟩ := h; (exact ⟨fn, cap, hv, he, fun w'' hb' => hc w'' (hb.trans hb')⟩)

end Go.Proofs.YtalnljnincnbdacGreat
/- Walks: the maps of rules (made by gen/ce3.py). -/
namespace Go.Proofs
open Go.Shelf
end Go.Proofs
namespace Go.Proofs.YtalnljnincnbdacGreat
open Go.RowKit Go.Maps Go.WideMaps

def heldR (v : Value) : Option (DataW Value × List MemPlace) := some (.held v, [])
def putAll (L : List (List UInt8 × Value)) : DataW Value := L.foldl (fun D p => D.put (.string p.1) (.held p.2)) (.map [])
theorem putAll_snoc (L : List (List UInt8 × Value)) (p : List UInt8 × Value) : putAll (L ++ [p]) = (putAll L).put (.string p.1) (.held p.2) := by simp [putAll]
/-- A map of function values. -/
def RMap (w : World) (b : Nat) (L : List (List UInt8 × Value)) : Prop := w.ownsMap Tryz.prog 9 heldR b L.length (putAll L)
theorem grown_of_below {w w' : World} (h : Below w.heap.size w w') : w.grownBy w' none := ⟨h.os, h.tape, h.output, h.size, fun i hi _ => h.block i hi⟩
theorem RMap.up {w w' : World} {b : Nat} {L : List (List UInt8 × Value)} (h : RMap w b L) (hb : Below w.heap.size w w') : RMap w' b L := World.ownsMap.kept h (grown_of_below hb) (by simp)
theorem RMap.made (w : World) : RMap (w.alloc (.map #[] 0)) w.heap.size [] := World.ownsMap_made _ _ _ _

/-- Texts and function values that are the rules. -/
def RL (i : Bool) (B : Nat) (w : World) : List (List UInt8 × Value) → List Ru → Prop
  | [], [] => True
  | p :: L, q :: qs => p.1 = q.text ∧ RuleFn i q p.2 B w ∧ RL i B w L qs
  | _, _ => False
theorem RL.over {i : Bool} {B : Nat} {w w' : World} (hb : Over B w w') : ∀ {L : List (List UInt8 × Value)} {qs : List Ru}, RL i B w L qs → RL i B w' L qs
  | [], [], _ => trivial
  | _ :: _, _ :: _, h => ⟨h.1, h.2.1.over hb, RL.over hb h.2.2⟩
theorem RL.snoc {i : Bool} {B : Nat} {w : World} {q : Ru} {v : Value} (h' : RuleFn i q v B w) : ∀ {L : List (List UInt8 × Value)} {qs : List Ru}, RL i B w L qs → RL i B w (L ++ [(q.text, v)]) (qs ++ [q])
  | [], [], _ => ⟨rfl, h', trivial⟩
  | _ :: _, _ :: _, h => ⟨h.1, h.2.1, RL.snoc h' h.2.2⟩
theorem below_map {B b : Nat} {w w1 w2 : World} (h : Below B w w1) (hg : w1.grownBy w2 (some b)) (hB : B ≤ b) (hs : B ≤ w1.heap.size) : Below B w w2 := h.grown hg hs (fun j hj => by cases hj; exact hB)

/-- On the way: the map at block B, its rules. -/
structure MW (I : Bool → Prop) (w : World) (B : Nat) (L : List (List UInt8 × Value)) (qs : List Ru) (wx : World) : Prop where
  map : RMap wx B L
  rl : ∀ i, I i → RL i B wx L qs
  below : Below w.heap.size w wx
  lt : B < wx.heap.size
theorem MW.up {I : Bool → Prop} {w wx wy : World} {B : Nat} {L : List (List UInt8 × Value)} {qs : List Ru} (h : MW I w B L qs wx) (hb : Below wx.heap.size wx wy) : MW I w B L qs wy :=
  ⟨h.map.up hb, fun i hi => (h.rl i hi).over (over_below hb), below_join h.below hb, Nat.lt_of_lt_of_le h.lt hb.size⟩
theorem MW.put {I : Bool → Prop} {w wx wy : World} {L : List (List UInt8 × Value)} {qs : List Ru} {q : Ru} {v : Value} (h : MW I w w.heap.size L qs wx) (hr : ∀ i, I i → RuleFn i q v w.heap.size wx) (hg : wx.grownBy wy (some w.heap.size)) (ho : wy.ownsMap Tryz.prog 9 heldR w.heap.size (L.length + 1) ((putAll L).put (.string q.text) (.held v))) : MW I w w.heap.size (L ++ [(q.text, v)]) (qs ++ [q]) wy :=
  ⟨by
    show World.ownsMap _ _ _ _ _ _ _; rw [putAll_snoc, List.length_append]
    exact ho, fun i hi => ((h.rl i hi).over (over_grown hg)).snoc ((hr i hi).over (over_grown hg)), below_map h.below hg (Nat.le_refl _) (Nat.le_of_lt h.lt), Nat.lt_of_lt_of_le h.lt hg.size⟩
end Go.Proofs.YtalnljnincnbdacGreat
/- Walks: the rules of a calculus. -/
namespace Go.Proofs.YtalnljnincnbdacGreat
open Go.RowKit Go.Maps Go.WideMaps

theorem RL.texts {i : Bool} {B : Nat} {w : World} : ∀ {L : List (List UInt8 × Value)} {qs : List Ru}, RL i B w L qs → L.map (·.1) = qs.map Ru.text
  | [], [], _ => rfl
  | _ :: _, _ :: _, h => by rw [List.map_cons, List.map_cons, h.1, RL.texts h.2.2]
theorem RL.mem {i : Bool} {B : Nat} {w : World} {q : Ru} : ∀ {L : List (List UInt8 × Value)} {qs : List Ru}, RL i B w L qs → q ∈ qs → ∃ v, (q.text, v) ∈ L ∧ RuleFn i q v B w
  | [], [], _, h => by cases h
  | p :: L, q' :: qs, h, hq => by
    rcases List.mem_cons.1 hq with rfl | hq
    · exact ⟨p.2, by rw [← h.1]; exact List.mem_cons_self, h.2.1⟩
    · obtain ⟨v, h1, h2⟩ := RL.mem h.2.2 hq
      exact ⟨v, List.mem_cons_of_mem _ h1, h2⟩

/-- The rules of a calculus, in a map. -/
def RulesAt (i : Bool) (w : World) (b : Nat) : Prop := ∃ n D, w.ownsMap Tryz.prog 9 heldR b n D ∧ (∀ t : List UInt8, Maps.has D (.string t) = (ruleOf i t).isSome) ∧
  ∀ (t : List UInt8) (q : Ru), ruleOf i t = some q → ∃ v B, (∀ z, D.atKey (.string t) z = .held v) ∧ RuleFn i q v B w
theorem RulesAt.up {i : Bool} {w w' : World} {b : Nat} (h : RulesAt i w b) (hb : Below w.heap.size w w') : RulesAt i w' b := by
  obtain ⟨n, D, h1, h2, h3⟩ := h; (refine ⟨n, D, h1.kept (grown_of_below hb) (by simp), h2, fun t q hq => ?_⟩); obtain ⟨v, B, h4, h5⟩ := h3 t q hq; exact ⟨v, B, h4, h5.over (over_below hb)⟩

end Go.Proofs.YtalnljnincnbdacGreat
/- Walks: calculus.rules. -/
namespace Go.Proofs.YtalnljnincnbdacGreat
open Go.RowKit Go.Maps Go.WideMaps

theorem RL.length {i : Bool} {B : Nat} {w : World} {L : List (List UInt8 × Value)} {qs : List Ru} (h : RL i B w L qs) : L.length = qs.length := by
  have := congrArg List.length h.texts; simpa using this

end Go.Proofs.YtalnljnincnbdacGreat
/- Walks: stepOf. -/
namespace Go.Proofs.YtalnljnincnbdacGreat
open Go.RowKit

theorem blk7f {w : World} {b : Nat} {c0 c1 c2 c3 c4 c5 c6 : Value} {T : TypeId} (h : w.heap[b]? = some (.cells #[c0, c1, c2, c3, c4, c5, c6] T (0, 0))) : w.frozen? ⟨b, 0, none⟩ = false ∧ w.frozen? ⟨b, 1, none⟩ = false ∧ w.frozen? ⟨b, 2, none⟩ = false ∧ w.frozen? ⟨b, 3, none⟩ = false ∧ w.frozen? ⟨b, 4, none⟩ = false ∧ w.frozen? ⟨b, 5, none⟩ = false ∧ w.frozen? ⟨b, 6, none⟩ = false :=
  ⟨blk_fz h 0, blk_fz h 1, blk_fz h 2, blk_fz h 3, blk_fz h 4, blk_fz h 5, blk_fz h 6⟩
end Go.Proofs.YtalnljnincnbdacGreat
/- Walks: kidsCode, weakCode. -/
namespace Go.Proofs.YtalnljnincnbdacGreat
open Go.RowKit

/-- A list of proofs. -/
def KL (w : World) (v : Value) (ks : List Pf) : Prop := ∃ sl cap, v = .slice sl ks.length cap ∧ ks.length ≤ cap ∧ cap ≤ maxLen ∧ (ks ≠ [] → ∃ b off, sl = some ⟨b, off, none⟩ ∧ PReps w b off ks)
theorem KL.up {w w' : World} {v : Value} {ks : List Pf} (h : KL w v ks) (hb : Below w.heap.size w w') : KL w' v ks := by
  obtain ⟨sl, cap, h1, h2, h3, h4⟩ := h; (refine ⟨sl, cap, h1, h2, h3, fun hne => ?_⟩); obtain ⟨b, off, h5, h6⟩ := h4 hne; exact ⟨b, off, h5, PReps.up hb b off ks h6⟩

end Go.Proofs.YtalnljnincnbdacGreat
/- What look says of a proof, plain. -/
namespace Go.Proofs.YtalnljnincnbdacGreat
open Go.RowKit

mutual
def Pf.size : Pf → Nat
  | .mk _ _ _ _ ks => Pf.sizes ks + 1
def Pf.sizes : List Pf → Nat
  | [] => 0
  | k :: ks => k.size + Pf.sizes ks
end
theorem pfsizes_get : ∀ {ks : List Pf} {i : Nat} {k : Pf}, ks[i]? = some k → k.size ≤ Pf.sizes ks
  | [], i, k, h => by simp at h
  | x :: ks, 0, k, h => by simp at h; subst h; rw [Pf.sizes]; omega
  | x :: ks, i + 1, k, h => by
    (have := pfsizes_get (ks := ks) (i := i) (k := k) (by simpa using h)); rw [Pf.sizes]; omega
/-- Sides and kids are not too many. -/
def Small : Nat → Pf → Prop
  | 0, _ => True
  | n + 1, .mk _ _ l r ks => l.length ≤ 300 ∧ r.length ≤ 300 ∧ ks.length ≤ 1200 ∧ ∀ k ∈ ks, Small n k
def SmallP (p : Pf) : Prop := ∀ n, Small n p
theorem SmallP.parts {a : ByteArray} {f : Fm} {l r : List Fm} {ks : List Pf} (h : SmallP (.mk a f l r ks)) : l.length ≤ 300 ∧ r.length ≤ 300 ∧ ks.length ≤ 1200 ∧ ∀ k ∈ ks, SmallP k :=
  ⟨(h 1).1, (h 1).2.1, (h 1).2.2.1, fun k hk n => (h (n + 1)).2.2.2 k hk⟩

end Go.Proofs.YtalnljnincnbdacGreat
/- Walks: VastProof. -/
namespace Go.Proofs.YtalnljnincnbdacGreat
open Go.RowKit

theorem SmallP.mk {a : ByteArray} {f : Fm} {l r : List Fm} {ks : List Pf} (h1 : l.length ≤ 300) (h2 : r.length ≤ 300) (h3 : ks.length ≤ 1200) (h4 : ∀ k ∈ ks, SmallP k) : SmallP (.mk a f l r ks) := fun n => by
  cases n with
  | zero => trivial
  | succ n => exact ⟨h1, h2, h3, fun k hk => h4 k hk n⟩

end Go.Proofs.YtalnljnincnbdacGreat
/- Walks: As. -/
namespace Go.Proofs.YtalnljnincnbdacGreat
open Go.RowKit

def allF (l : List Fm) : Fm := l.foldl (fun a f => .mk 5 ⟨#[]⟩ [a, f]) (.mk 2 ⟨#[]⟩ [])
def someF (l : List Fm) : Fm := l.foldl (fun a f => .mk 6 ⟨#[]⟩ [a, f]) (.mk 3 ⟨#[]⟩ [])
def asF (l r : List Fm) : Fm := .mk 7 ⟨#[]⟩ [allF l, someF r]
theorem allF_snoc {l : List Fm} {i : Nat} {f : Fm} (h : l[i]? = some f) : allF (l.take (i + 1)) = .mk 5 ⟨#[]⟩ [allF (l.take i), f] := by
  unfold allF; rw [List.take_add_one, h]
  simp
theorem someF_snoc {l : List Fm} {i : Nat} {f : Fm} (h : l[i]? = some f) : someF (l.take (i + 1)) = .mk 6 ⟨#[]⟩ [someF (l.take i), f] := by
  unfold someF; rw [List.take_add_one, h]
  simp

/-- A formula in a block of its own. -/
def RepAt (w : World) (ok : Nat → Prop) (b : Nat) (f : Fm) : Prop := ∃ k n ks sl cap, f = .mk k n ks ∧ w.heap[b]? = some (.cells #[.int .i64 k, .string n, .slice sl ks.length cap] 29 (0, 0)) ∧ Rep w ok (.mk k n ks) (.agg #[.int .i64 k, .string n, .slice sl ks.length cap])
def put3 (w : World) (b : Nat) (y0 y1 y2 : Value) : World := ((w.setCell ⟨b, 0, none⟩ y0).setCell ⟨b, 1, none⟩ y1).setCell ⟨b, 2, none⟩ y2
theorem put3_blk {w : World} {b : Nat} {x0 x1 x2 : Value} {T : TypeId} (h : w.heap[b]? = some (.cells #[x0, x1, x2] T (0, 0))) (y0 y1 y2 : Value) : (put3 w b y0 y1 y2).heap[b]? = some (.cells #[y0, y1, y2] T (0, 0)) := by
  simp [put3, World.setCell, Array.getElem?_modify, h]
theorem put3_other {w : World} {b i : Nat} (h : i ≠ b) (y0 y1 y2 : Value) : (put3 w b y0 y1 y2).heap[i]? = w.heap[i]? := by
  unfold put3
  repeat rw [Below.heap_setCell _ _ _ _ h]
theorem put3_size (w : World) (b : Nat) (y0 y1 y2 : Value) : (put3 w b y0 y1 y2).heap.size = w.heap.size := by simp [put3, World.setCell]
/-- The world behind a round of As. -/
def asW (wr : World) (bL : Nat) (c : Int) (O : Obj) : World := ((put3 wr bL (.int .i64 c) (.string ⟨#[]⟩) (.slice (some ⟨wr.heap.size, 0, none⟩) 2 2)).alloc O).drew
theorem asW_old {wr : World} {bL : Nat} {c : Int} {O : Obj} {b : Nat} (hb : b < wr.heap.size) (hne : b ≠ bL) : (asW wr bL c O).heap[b]? = wr.heap[b]? := by
  show ((put3 wr bL _ _ _).alloc O).heap[b]? = _; (rw [Below.heap_alloc _ _ _ (by rw [put3_size]; exact hb), put3_other hne])
theorem asW_own {wr : World} {bL : Nat} {c : Int} {O : Obj} {x0 x1 x2 : Value} {T : TypeId} (h : wr.heap[bL]? = some (.cells #[x0, x1, x2] T (0, 0))) : (asW wr bL c O).heap[bL]? = some (.cells #[.int .i64 c, .string ⟨#[]⟩, .slice (some ⟨wr.heap.size, 0, none⟩) 2 2] T (0, 0)) := by
  show ((put3 wr bL _ _ _).alloc O).heap[bL]? = _; exact alloc_keep (put3_blk h _ _ _) _
theorem asW_new {wr : World} {bL : Nat} {c : Int} {O : Obj} : (asW wr bL c O).heap[wr.heap.size]? = some O := by
  have := blk_new (put3 wr bL (.int .i64 c) (.string ⟨#[]⟩) (.slice (some ⟨wr.heap.size, 0, none⟩) 2 2)) O; rw [put3_size] at this; exact this
theorem asW_size {wr : World} {bL : Nat} {c : Int} {O : Obj} : (asW wr bL c O).heap.size = wr.heap.size + 1 := by
  show ((put3 wr bL _ _ _).alloc O).heap.size = _; simp [put3_size]
theorem asW_below {w wr : World} {bL : Nat} {c : Int} {O : Obj} (h : Below w.heap.size w wr) (hb : w.heap.size ≤ bL) : Below w.heap.size w (asW wr bL c O) :=
  (below_more (((h.setCell (p := ⟨bL, 0, none⟩) hb _).setCell (p := ⟨bL, 1, none⟩) hb _).setCell (p := ⟨bL, 2, none⟩) hb _) O).drew

/-- A round of As: the formula in block bL, and one more, become one. -/
theorem as_round {ok : Nat → Prop} {wr : World} {bL : Nat} {kA : Int} {nA : ByteArray} {ksA : List Fm} {slA : Option Addr} {capA : Nat} {k2 : Int} {n2 : ByteArray} {ks2 : List Fm} {sl2 : Option Addr} {cap2 : Nat} {y0 y1 y2 : Value} (c : Int)
    (hL : wr.heap[bL]? = some (.cells #[y0, y1, y2] 29 (0, 0))) (hA : Rep wr ok (.mk kA nA ksA) (.agg #[.int .i64 kA, .string nA, .slice slA ksA.length capA])) (h2 : Rep wr ok (.mk k2 n2 ks2) (.agg #[.int .i64 k2, .string n2, .slice sl2 ks2.length cap2]))
    (hok : ¬ ok bL) (hnew : ok wr.heap.size) (T : TypeId) :
    RepAt (asW wr bL c (.cells #[.int .i64 kA, .string nA, .slice slA ksA.length capA, .int .i64 k2, .string n2, .slice sl2 ks2.length cap2] T (0, 0))) ok bL (.mk c ⟨#[]⟩ [.mk kA nA ksA, .mk k2 n2 ks2]) := by
  (have hblk : ∀ b, b < wr.heap.size → ok b → (asW wr bL c (.cells #[.int .i64 kA, .string nA, .slice slA ksA.length capA, .int .i64 k2, .string n2, .slice sl2 ks2.length cap2] T (0, 0))).heap[b]? = wr.heap[b]? ∧ ok b := fun b hb ho => ⟨asW_old hb (fun e => hok (by rw [← e]; exact ho)), ho⟩); have hq := asW_new (wr := wr) (bL := bL) (c := c) (O := .cells #[.int .i64 kA, .string nA, .slice slA ksA.length capA, .int .i64 k2, .string n2, .slice sl2 ks2.length cap2] T (0, 0)); (refine ⟨c, ⟨#[]⟩, _, some ⟨wr.heap.size, 0, none⟩, 2, rfl, asW_own hL, Rep.def.2 ⟨_, 2, rfl, by simp [maxLen, ByteArray.size], by simp, by simp [maxLen], fun _ => ⟨wr.heap.size, 0, rfl, hnew, ?_⟩⟩⟩); exact Reps.cons.2 ⟨⟨_, _, _, blk_cell hq 0, blk_cell hq 1, blk_cell hq 2, hA.move hblk⟩, Reps.cons.2 ⟨⟨_, _, _, blk_cell hq 3, blk_cell hq 4, blk_cell hq 5, h2.move hblk⟩, Reps.nil⟩⟩

set_option maxRecDepth 10000 in
set_option maxHeartbeats 8000000 in
theorem as_any (l r : List Fm) (hl4 : l.length ≤ 400) (hr4 : r.length ≤ 400) (v u : Value) (w : World) (hv : FL w v l) (hu : FL w u r) :
    Calls Tryz.prog 25 #[.agg #[v, u]] w fun e w' => ∃ x, e = .returned x ∧ Rep w' (fun _ => True) (asF l r) x ∧ Below w.heap.size w w' := by
  have HL : Hid (FLp (· < w.heap.size) w v l) := hv.low; have HR : Hid (FLp (· < w.heap.size) w u r) := hu.low; obtain ⟨al, cl, rfl, hl1, -, hl3⟩ := hv; obtain ⟨ar, cr, rfl, hr1, -, hr3⟩ := hu; clear hl3 hr3; (have hlI : (l.length : Int) ≤ 400 := by omega); (have hrI : (r.length : Int) ≤ 400 := by omega); obtain ⟨O, hO⟩ : ∃ O, O = Obj.cells #[.slice al l.length cl, .slice ar r.length cr] 24 (0, 0) := ⟨_, rfl⟩
  go_enter Tryz.func25, Tryz.ntmps25
  go_wp2_with fail
  have hb0 : (((w.alloc O).alloc (.cells #[.int .i64 0, .string ⟨#[]⟩, .slice none 0 0] 29 (0, 0))).alloc (.cells #[.int .i64 2, .string ⟨#[]⟩, .slice none 0 0] 29 (0, 0))).heap[w.heap.size]? = some (.cells #[.slice al l.length cl, .slice ar r.length cr] 24 (0, 0)) := by
    rw [← hO]; exact alloc_keep (alloc_keep (blk_new w _) _) _
  go_loopg [4] l.length (fun g cc wr => ∃ j, j ≤ l.length ∧ g = l.length - j ∧ cc = .int .i64 (j : Nat) ∧ Hid (Below w.heap.size w wr) ∧ Hid (wr.heap[w.heap.size]? = some (.cells #[.slice al l.length cl, .slice ar r.length cr] 24 (0, 0))) ∧ Hid (wr.heap[w.heap.size + 1]? = some (.cells #[.int .i64 0, .string ⟨#[]⟩, .slice none 0 0] 29 (0, 0))) ∧ Hid (RepAt wr (fun b => b < w.heap.size ∨ w.heap.size + 3 ≤ b) (w.heap.size + 1 + 1) (allF (l.take j))) ∧ w.heap.size + 3 ≤ wr.heap.size)
  case atStart =>
    rw [← hO]; (exact ⟨0, by omega, by omega, rfl, below_more (below_more (below_more (Below.refl _ w) _) _) _, by rw [hO] at hb0 ⊢; exact hb0, alloc_keep (blk_two w _ _) _, ⟨2, ⟨#[]⟩, [], none, 0, rfl, blk_three w _ _ _, Rep.leaf (by simp [maxLen, ByteArray.size])⟩, by simp⟩)
  case round =>
    clear hb0 hO; obtain ⟨j, hj, hg, rfl, HBr, H0, H1, HA, hzr⟩ := hrel; have HG : Hid (gk = l.length - j) := hg; clear hg; obtain ⟨kA, nA, ksA, slA, capA, hAe, hL, hA⟩ := HA.out; have HAe : Hid (allF (l.take j) = .mk kA nA ksA) := hAe; have HLk : Hid (wr.heap[w.heap.size + 1 + 1]? = some _) := hL; have HRA : Hid (Rep wr _ (.mk kA nA ksA) _) := hA; obtain ⟨s0, s1, -⟩ := blk2 H0.out; obtain ⟨q0, q1, q2, q3, q4, q5⟩ := blk3 hL; (have e1 : ¬ w.heap.size + 1 + 1 = wr.heap.size := by omega); (have e2 : ¬ wr.heap.size = w.heap.size + 1 + 1 := by omega); (have e3 : ¬ w.heap.size = wr.heap.size := by omega); (have e6 : w.heap.size + 1 + 1 < wr.heap.size := by omega); (have e7 : w.heap.size < wr.heap.size := by omega); clear hAe hL hA HA; by_cases hlt : j < l.length
    · obtain ⟨⟨k2, n2, ks2⟩, hki⟩ : ∃ f, l[j]? = some f := ⟨_, List.getElem?_eq_getElem hlt⟩
      obtain ⟨b, off, rfl, hbA, hrs⟩ : ∃ b off, al = some ⟨b, off, none⟩ ∧ b < w.heap.size ∧ Reps w (· < w.heap.size) b off l := by
        obtain ⟨al', cl', hve, -, -, h⟩ := HL.out; simp only [Value.slice.injEq, true_and] at hve; obtain ⟨rfl, rfl⟩ := hve; (exact h (fun e => by rw [e] at hlt; simp at hlt))
      (obtain ⟨sl2, cap2, g0, g1, g2, hrep2⟩ := (reps_move (P' := (· < w.heap.size)) (fun k hk hp => ⟨HBr.out.block k hk, hp⟩) hbA hrs).at j k2 n2 ks2 hki); have HR2 : Hid (Rep wr (· < w.heap.size) (.mk k2 n2 ks2) _) := hrep2; (have hltI : (j : Int) < (l.length : Int) := by omega); (have hlc : (j : Int) < (cl : Int) := by omega)
      have HS : Hid (allF (l.take (j + 1)) = .mk 5 ⟨#[]⟩ [.mk kA nA ksA, .mk k2 n2 ks2]) := by
        show _ = _; rw [allF_snoc hki, HAe.out]
      (have e4 : ¬ b = wr.heap.size := by omega); (have e5 : ¬ b = w.heap.size + 1 + 1 := by omega); (have e8 : b < wr.heap.size := by omega); clear hki hrs hrep2; go_wp2_with fail
      go_region
      (have hR := as_round 5 HLk.out HRA.out (HR2.out.move fun b hb ho => ⟨rfl, Or.inl ho⟩) (by omega) (Or.inr hzr) 29); (have hBF := asW_below (c := 5) (O := .cells #[.int .i64 kA, .string nA, .slice slA ksA.length capA, .int .i64 k2, .string n2, .slice sl2 ks2.length cap2] 29 (0, 0)) HBr.out (bL := w.heap.size + 1 + 1) (by omega)); (have h0F := (asW_old (wr := wr) (bL := w.heap.size + 1 + 1) (c := 5) (O := .cells #[.int .i64 kA, .string nA, .slice slA ksA.length capA, .int .i64 k2, .string n2, .slice sl2 ks2.length cap2] 29 (0, 0)) (b := w.heap.size) e7 (by omega)).trans H0.out); (have h1F := (asW_old (wr := wr) (bL := w.heap.size + 1 + 1) (c := 5) (O := .cells #[.int .i64 kA, .string nA, .slice slA ksA.length capA, .int .i64 k2, .string n2, .slice sl2 ks2.length cap2] 29 (0, 0)) (b := w.heap.size + 1) (by omega) (by omega)).trans H1.out); have hzF := asW_size (wr := wr) (bL := w.heap.size + 1 + 1) (c := 5) (O := .cells #[.int .i64 kA, .string nA, .slice slA ksA.length capA, .int .i64 k2, .string n2, .slice sl2 ks2.length cap2] 29 (0, 0)); show Exit.inBlock 1 _ _ _ (asW wr (w.heap.size + 1 + 1) 5 _); generalize asW wr (w.heap.size + 1 + 1) 5 _ = F at *; have HRF : Hid (RepAt F _ _ _) := hR; have HBF : Hid (Below w.heap.size w F) := hBF; have H0F : Hid (F.heap[w.heap.size]? = some _) := h0F; have H1F : Hid (F.heap[w.heap.size + 1]? = some _) := h1F; clear hR hBF h0F h1F s0 s1 q0 q1 q2 q3 q4 q5 g0 g1 g2; go_wp2_with fail
      go_roundg (l.length - (j + 1))
      case measure => have := HG.out; omega
      case rel => exact ⟨j + 1, by omega, rfl, by go_num, HBF, H0F, H1F, by rw [HS.out]; exact HRF.out, by omega⟩
    · have hge : ¬ (j : Int) < (l.length : Int) := by omega
      have HAl : Hid (allF l = .mk kA nA ksA) := by
        have := HAe.out
        rwa [List.take_of_length_le (by omega)] at this
      obtain ⟨wA, hwA⟩ : ∃ wA, wA = wr := ⟨_, rfl⟩; subst hwA; clear HAe HG hj hlt; go_wp2_with fail; clear s0 s1 q0 q1 q2 q3 q4 q5 hge
      go_loopg [6] r.length (fun g cc wr => ∃ j, j ≤ r.length ∧ g = r.length - j ∧ cc = .int .i64 (j : Nat) ∧ Hid (Below w.heap.size w wr) ∧ Hid (wr.heap[w.heap.size]? = some (.cells #[.slice al l.length cl, .slice ar r.length cr] 24 (0, 0))) ∧ Hid (wr.heap[w.heap.size + 1]? = some (.cells #[.int .i64 0, .string ⟨#[]⟩, .slice none 0 0] 29 (0, 0))) ∧ Hid (wr.heap[w.heap.size + 1 + 1]? = some (.cells #[.int .i64 kA, .string nA, .slice slA ksA.length capA] 29 (0, 0))) ∧ Hid (Rep wr (fun b => b < w.heap.size ∨ (w.heap.size + 3 ≤ b ∧ b < wA.heap.size)) (.mk kA nA ksA) (.agg #[.int .i64 kA, .string nA, .slice slA ksA.length capA])) ∧ Hid (RepAt wr (fun b => b < w.heap.size ∨ wA.heap.size < b) wA.heap.size (someF (r.take j))) ∧ wA.heap.size < wr.heap.size)
      case atStart =>
        (exact ⟨0, by omega, by omega, rfl, below_more HBr.out _, alloc_keep H0.out _, alloc_keep H1.out _, alloc_keep HLk.out _, HRA.out.move fun b hb ho => ⟨Below.heap_alloc _ _ _ hb, ho.imp id fun h => ⟨h, hb⟩⟩, ⟨3, ⟨#[]⟩, [], none, 0, rfl, blk_new wA _, Rep.leaf (by simp [maxLen, ByteArray.size])⟩, by simp⟩)
      case round =>
        clear HBr H0 H1 HLk HRA; obtain ⟨j, hj, hg, rfl, HBr, H0, H1, HLk, HRA, HB, hzr⟩ := hrel; have HG : Hid (gk = r.length - j) := hg; clear hg; obtain ⟨kB, nB, ksB, slB, capB, hBe, hLB, hB⟩ := HB.out; have HBe : Hid (someF (r.take j) = .mk kB nB ksB) := hBe; have HLB : Hid (wr.heap[wA.heap.size]? = some _) := hLB; have HRB : Hid (Rep wr _ (.mk kB nB ksB) _) := hB; obtain ⟨s0, s1, -⟩ := blk2 H0.out; obtain ⟨q0, q1, q2, q3, q4, q5⟩ := blk3 hLB; (have f1 : ¬ wA.heap.size = wr.heap.size := by omega); (have f2 : ¬ wr.heap.size = wA.heap.size := by omega); (have f3 : ¬ w.heap.size = wr.heap.size := by omega); (have f4 : w.heap.size < wr.heap.size := by omega); (have f5 : ¬ w.heap.size = wA.heap.size := by omega); clear hBe hLB hB HB; by_cases hlt : j < r.length
        · obtain ⟨⟨k2, n2, ks2⟩, hki⟩ : ∃ f, r[j]? = some f := ⟨_, List.getElem?_eq_getElem hlt⟩
          obtain ⟨b, off, rfl, hbA, hrs⟩ : ∃ b off, ar = some ⟨b, off, none⟩ ∧ b < w.heap.size ∧ Reps w (· < w.heap.size) b off r := by
            obtain ⟨al', cl', hve, -, -, h⟩ := HR.out; simp only [Value.slice.injEq, true_and] at hve; obtain ⟨rfl, rfl⟩ := hve; (exact h (fun e => by rw [e] at hlt; simp at hlt))
          (obtain ⟨sl2, cap2, g0, g1, g2, hrep2⟩ := (reps_move (P' := (· < w.heap.size)) (fun k hk hp => ⟨HBr.out.block k hk, hp⟩) hbA hrs).at j k2 n2 ks2 hki); have HR2 : Hid (Rep wr (· < w.heap.size) (.mk k2 n2 ks2) _) := hrep2; (have hltI : (j : Int) < (r.length : Int) := by omega); (have hlc : (j : Int) < (cr : Int) := by omega)
          have HS : Hid (someF (r.take (j + 1)) = .mk 6 ⟨#[]⟩ [.mk kB nB ksB, .mk k2 n2 ks2]) := by
            show _ = _; rw [someF_snoc hki, HBe.out]
          (have f6 : ¬ b = wr.heap.size := by omega); (have f7 : ¬ b = wA.heap.size := by omega); (have f8 : b < wr.heap.size := by omega); clear hki hrs hrep2; go_wp2_with fail
          go_region
          (have hR := as_round 6 HLB.out HRB.out (HR2.out.move fun b hb ho => ⟨rfl, Or.inl ho⟩) (by omega) (Or.inr hzr) 29); (have hBF := asW_below (c := 6) (O := .cells #[.int .i64 kB, .string nB, .slice slB ksB.length capB, .int .i64 k2, .string n2, .slice sl2 ks2.length cap2] 29 (0, 0)) HBr.out (bL := wA.heap.size) (by omega)); (have hof := fun (b : Nat) (h1 : b < wr.heap.size) (h2 : b ≠ wA.heap.size) => asW_old (wr := wr) (bL := wA.heap.size) (c := 6) (O := .cells #[.int .i64 kB, .string nB, .slice slB ksB.length capB, .int .i64 k2, .string n2, .slice sl2 ks2.length cap2] 29 (0, 0)) h1 h2); have h0F := (hof w.heap.size f4 f5).trans H0.out; (have h1F := (hof (w.heap.size + 1) (by omega) (by omega)).trans H1.out); (have h2F := (hof (w.heap.size + 1 + 1) (by omega) (by omega)).trans HLk.out); (have h3F := HRA.out.move (w' := asW wr wA.heap.size 6 (.cells #[.int .i64 kB, .string nB, .slice slB ksB.length capB, .int .i64 k2, .string n2, .slice sl2 ks2.length cap2] 29 (0, 0))) (ok' := fun b => b < w.heap.size ∨ (w.heap.size + 3 ≤ b ∧ b < wA.heap.size)) fun b hb ho => ⟨hof b hb (by omega), ho⟩); have hzF := asW_size (wr := wr) (bL := wA.heap.size) (c := 6) (O := .cells #[.int .i64 kB, .string nB, .slice slB ksB.length capB, .int .i64 k2, .string n2, .slice sl2 ks2.length cap2] 29 (0, 0)); show Exit.inBlock _ _ _ _ (asW wr wA.heap.size 6 _); clear hof; generalize asW wr wA.heap.size 6 _ = F at *; have HRF : Hid (RepAt F _ _ _) := hR; have HBF : Hid (Below w.heap.size w F) := hBF; have H0F : Hid (F.heap[w.heap.size]? = some _) := h0F; have H1F : Hid (F.heap[w.heap.size + 1]? = some _) := h1F; have H2F : Hid (F.heap[w.heap.size + 1 + 1]? = some _) := h2F; have H3F : Hid (Rep F _ _ _) := h3F; clear hR hBF h0F h1F h2F h3F s0 s1 q0 q1 q2 q3 q4 q5 g0 g1 g2; go_wp2_with fail
          go_roundg (r.length - (j + 1))
          case measure => have := HG.out; omega
          case rel => exact ⟨j + 1, by omega, rfl, by go_num, HBF, H0F, H1F, H2F, H3F, by rw [HS.out]; exact HRF.out, by omega⟩
        · have hge : ¬ (j : Int) < (r.length : Int) := by omega
          have HBl : Hid (someF r = .mk kB nB ksB) := by
            have := HBe.out
            rwa [List.take_of_length_le (by omega)] at this
          obtain ⟨t0, t1, t2, -⟩ := blk3 HLk.out; obtain ⟨u0, u1, u2, u3, u4, u5⟩ := blk3 H1.out; (have f6 : w.heap.size + 1 < wr.heap.size := by omega); (have f7 : w.heap.size + 1 + 1 < wr.heap.size := by omega); (have f8 : ¬ w.heap.size + 1 = wr.heap.size := by omega); (have f9 : ¬ wr.heap.size = w.heap.size + 1 := by omega); go_wp2_with fail; (have hR := as_round (ok := fun b => b ≠ w.heap.size + 1) 7 H1.out (HRA.out.move fun b hb ho => ⟨rfl, by omega⟩) (HRB.out.move fun b hb ho => ⟨rfl, by omega⟩) (by simp) (by omega) 29); (have hBF := asW_below (c := 7) (O := .cells #[.int .i64 kA, .string nA, .slice slA ksA.length capA, .int .i64 kB, .string nB, .slice slB ksB.length capB] 29 (0, 0)) HBr.out (bL := w.heap.size + 1) (by omega)); have hzF := asW_size (wr := wr) (bL := w.heap.size + 1) (c := 7) (O := .cells #[.int .i64 kA, .string nA, .slice slA ksA.length capA, .int .i64 kB, .string nB, .slice slB ksB.length capB] 29 (0, 0)); obtain ⟨k7, n7, ks7, sl7, cap7, he7, hb7, hr7⟩ := hR; obtain ⟨G, hG⟩ : ∃ G, G = (put3 wr (w.heap.size + 1) (.int .i64 7) (.string ⟨#[]⟩) (.slice (some ⟨wr.heap.size, 0, none⟩) 2 2)).alloc (.cells #[.int .i64 kA, .string nA, .slice slA ksA.length capA, .int .i64 kB, .string nB, .slice slB ksB.length capB] 29 (0, 0)) := ⟨_, rfl⟩; (have hGd : asW wr (w.heap.size + 1) 7 (.cells #[.int .i64 kA, .string nA, .slice slA ksA.length capA, .int .i64 kB, .string nB, .slice slB ksB.length capB] 29 (0, 0)) = G.drew := by rw [hG]; rfl); rw [hGd] at hb7 hr7 hBF; have hb7' : G.heap[w.heap.size + 1]? = _ := hb7; (have hr7' := hr7.move (w' := G) (ok' := fun _ => True) fun b hb ho => ⟨rfl, trivial⟩); rw [← he7] at hr7'; have hBG : Below w.heap.size w G := ⟨hBF.os, hBF.tape, hBF.output, hBF.size, hBF.block⟩; show bodyPost _ _ _ _ _ ((put3 wr (w.heap.size + 1) _ _ _).alloc _); rw [← hG]; obtain ⟨x0, x1, x2, -⟩ := blk3 hb7'; (exact bodyPost_ret (v := .agg #[.int .i64 k7, .string n7, .slice sl7 ks7.length cap7]) (by simp [results, Tryz.results25, go_sem, x0, x1, x2]) rfl ⟨_, rfl, by unfold asF; rw [HAl.out, HBl.out]; exact hr7', hBG⟩)
end Go.Proofs.YtalnljnincnbdacGreat
/- A sequent as a formula, plain; walks: Tautology, InAll. -/
namespace Go.Proofs.YtalnljnincnbdacGreat
open Go.RowKit

theorem allF_cat (l : List Fm) (f : Fm) : allF (l ++ [f]) = .mk 5 ⟨#[]⟩ [allF l, f] := by unfold allF; simp
theorem someF_cat (l : List Fm) (f : Fm) : someF (l ++ [f]) = .mk 6 ⟨#[]⟩ [someF l, f] := by unfold someF; simp
theorem list_rev {P : List Fm → Prop} (h0 : P []) (h1 : ∀ l f, P l → P (l ++ [f])) (l : List Fm) : P l := by
  have : ∀ n (l : List Fm), l.length = n → P l := fun n => by
    induction n with
    | zero => intro l hl; rw [List.length_eq_zero_iff.1 hl]; exact h0
    | succ n ih =>
      intro l hl; (have hne : l ≠ [] := fun e => by rw [e] at hl; simp at hl); rw [← List.dropLast_concat_getLast hne]; (exact h1 _ _ (ih _ (by rw [List.length_dropLast]; omega)))
  exact this _ l rfl
theorem allF_fine (l : List Fm) : (∀ f ∈ l, Fine f) → Fine (allF l) := by
  (refine list_rev (P := fun l => (∀ f ∈ l, Fine f) → Fine (allF l)) (fun _ => fine_leaf 2 (Or.inl rfl)) (fun l f ih h => ?_) l); rw [allF_cat]; (exact fine_two 5 _ _ (Or.inl rfl) (ih fun g hg => h g (List.mem_append_left _ hg)) (h f (by simp)))
theorem someF_fine (l : List Fm) : (∀ f ∈ l, Fine f) → Fine (someF l) := by
  (refine list_rev (P := fun l => (∀ f ∈ l, Fine f) → Fine (someF l)) (fun _ => fine_leaf 3 (Or.inr rfl)) (fun l f ih h => ?_) l); rw [someF_cat]; (exact fine_two 6 _ _ (Or.inr (Or.inl rfl)) (ih fun g hg => h g (List.mem_append_left _ hg)) (h f (by simp)))
theorem asF_fine {l r : List Fm} (hl : ∀ f ∈ l, Fine f) (hr : ∀ f ∈ r, Fine f) : Fine (asF l r) := fine_two 7 _ _ (Or.inr (Or.inr rfl)) (allF_fine l hl) (someF_fine r hr)
theorem allF_tv (p : List UInt8 → Bool) (l : List Fm) : tv p (allF l) = l.all (tv p) := by
  (refine list_rev (P := fun l => tv p (allF l) = l.all (tv p)) (by unfold allF; exact tv_true p) (fun l f ih => ?_) l); rw [allF_cat, tv_and, ih, List.all_append]
  simp
theorem someF_tv (p : List UInt8 → Bool) (l : List Fm) : tv p (someF l) = l.any (tv p) := by
  (refine list_rev (P := fun l => tv p (someF l) = l.any (tv p)) (by unfold someF; exact tv_false p) (fun l f ih => ?_) l); rw [someF_cat, tv_or, ih, List.any_append]
  simp
theorem asF_tv {l r : List Fm} (h : Valid l r) (p : List UInt8 → Bool) : tv p (asF l r) = true := by
  unfold asF; rw [tv_then, allF_tv, someF_tv, Bool.or_eq_true]; by_cases ha : l.all (tv p) = true
  · obtain ⟨g, hg, ht⟩ := h p (List.all_eq_true.1 ha)
    exact Or.inr (List.any_eq_true.2 ⟨g, hg, ht⟩)
  · simp only [Bool.not_eq_true] at ha
    rw [ha]; exact Or.inl rfl
theorem allF_size (l : List Fm) : (∀ f ∈ l, f.size ≤ 200) → (allF l).size ≤ 1 + l.length * 201 := by
  (refine list_rev (P := fun l => (∀ f ∈ l, f.size ≤ 200) → (allF l).size ≤ 1 + l.length * 201) (fun _ => by simp [allF, Fm.size, Fm.sizes]) (fun l f ih h => ?_) l); (have h1 := ih fun g hg => h g (List.mem_append_left _ hg)); (have h2 := h f (by simp)); rw [allF_cat, Fm.size, Fm.sizes, Fm.sizes, Fm.sizes, List.length_append]
  simp
  omega
theorem someF_size (l : List Fm) : (∀ f ∈ l, f.size ≤ 200) → (someF l).size ≤ 1 + l.length * 201 := by
  (refine list_rev (P := fun l => (∀ f ∈ l, f.size ≤ 200) → (someF l).size ≤ 1 + l.length * 201) (fun _ => by simp [someF, Fm.size, Fm.sizes]) (fun l f ih h => ?_) l); (have h1 := ih fun g hg => h g (List.mem_append_left _ hg)); (have h2 := h f (by simp)); rw [someF_cat, Fm.size, Fm.sizes, Fm.sizes, Fm.sizes, List.length_append]
  simp
  omega
theorem asF_size {l r : List Fm} (hl : ∀ f ∈ l, f.size ≤ 200) (hr : ∀ f ∈ r, f.size ≤ 200) (h : l.length + r.length ≤ 60) : (asF l r).size ≤ 20000 := by
  have h1 := allF_size l hl; have h2 := someF_size r hr; unfold asF; rw [Fm.size, Fm.sizes, Fm.sizes, Fm.sizes]; omega

theorem firstBad_fine {l : List Fm} {i : Nat} (h : (firstBad l i).1 = 0) : ∀ f ∈ l, f.pcode.1 = 0 := by
  induction l generalizing i with
  | nil => intro f hf; cases hf
  | cons x l ih =>
    rw [firstBad] at h; by_cases hx : x.pcode.1 = 0
    · rw [if_pos hx] at h
      intro f hf
      rcases List.mem_cons.1 hf with rfl | hf
      · exact hx
      · exact ih h f hf
    · rw [if_neg hx] at h
      exact absurd h hx
theorem seqCode_fine {l r : List Fm} (h : (seqCode l r).1 = 0) : l.length + r.length ≤ 60 ∧ (∀ f ∈ l, f.pcode.1 = 0) ∧ ∀ f ∈ r, f.pcode.1 = 0 := by
  unfold seqCode at h; by_cases h60 : 60 < l.length + r.length
  · rw [if_pos h60] at h; cases h
  · rw [if_neg h60] at h
    have := firstBad_fine h; (exact ⟨by omega, fun f hf => this f (List.mem_append_left _ hf), fun f hf => this f (List.mem_append_right _ hf)⟩)
theorem pcode_fine {f : Fm} (h : f.pcode.1 = 0) : Fine f ∧ f.size ≤ 200 := by
  obtain ⟨s, hs⟩ := (pcode_ok h).1; exact ⟨fine_of_chk _ 0 s hs, chk_size hs⟩

theorem shl_row10 (N : Nat) (h : N ≤ 10) : wrap64 ((2 : Int) ^ N) = ((2 ^ N : Nat) : Int) ∧ 1 ≤ 2 ^ N ∧ 2 ^ N ≤ 1024 := by
  (have : N = 0 ∨ N = 1 ∨ N = 2 ∨ N = 3 ∨ N = 4 ∨ N = 5 ∨ N = 6 ∨ N = 7 ∨ N = 8 ∨ N = 9 ∨ N = 10 := by omega)
  rcases this with rfl | rfl | rfl | rfl | rfl | rfl | rfl | rfl | rfl | rfl | rfl <;> exact ⟨by unfold wrap64; decide, by decide, by decide⟩

end Go.Proofs.YtalnljnincnbdacGreat
