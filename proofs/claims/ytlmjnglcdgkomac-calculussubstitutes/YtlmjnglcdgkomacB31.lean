/- Texts of one proof, one behind the other: CE1. -/
import Derived.Test.YtlmjnglcdgkomacB30
import Derived.Test.YtlmjnglcdgkomacB27
import Derived.Test.YtlmjnglcdgkomacB29
import Derived.Test.YtlmjnglcdgkomacB28
/- Walks: the rules as function values. -/
namespace Go.Proofs.Ytlmjnglcdgkomac
open Go.RowKit

/-- Blocks behind B are as they were. -/
def Over (B : Nat) (w w' : World) : Prop := w.heap.size ≤ w'.heap.size ∧ ∀ b, B < b → b < w.heap.size → w'.heap[b]? = w.heap[b]?
theorem Over.trans {B : Nat} {a b c : World} (h : Over B a b) (k : Over B b c) : Over B a c := ⟨Nat.le_trans h.1 k.1, fun i h1 h2 => (k.2 i h1 (Nat.lt_of_lt_of_le h2 h.1)).trans (h.2 i h1 h2)⟩
theorem over_below {B : Nat} {w w' : World} (h : Below w.heap.size w w') : Over B w w' := ⟨h.size, fun b _ hb => h.block b hb⟩
theorem over_grown {B : Nat} {w w' : World} (h : w.grownBy w' (some B)) : Over B w w' := ⟨h.size, fun b h1 h2 => h.block b h2 (fun e => by have := Option.some.inj e; omega)⟩
theorem over_mono {B B' : Nat} {w w' : World} (h : Over B w w') (hb : B ≤ B') : Over B' w w' := ⟨h.1, fun b h1 h2 => h.2 b (by omega) h2⟩

/-- A function value that is a rule; what it captured lies behind B. -/
def RuleFn (i : Bool) (q : Ru) (v : Value) (B : Nat) (w : World) : Prop := ∃ fn cap, v = .func (.func fn) #[] cap ∧ (∀ (s : Value) (w' : World), (callFunc fn (#[s] ++ cap)).run Try.prog w' = .ok (.enter fn (#[s] ++ cap)) w') ∧
  ∀ (w' : World), Over B w w' → ∀ (f : Fm) (l r : List Fm) (s : Value), Fine f → l.length ≤ 300 → r.length ≤ 300 → StV w' s f l r →
    Calls Try.prog fn (#[s] ++ cap) w' fun e w'' => ∃ x, e = .returned (.tuple #[x, .bool (prem i q f l r).isSome]) ∧ (∀ ss, prem i q f l r = some ss → SQs w'' x ss) ∧ Below w'.heap.size w' w''
theorem RuleFn.over {i : Bool} {q : Ru} {v : Value} {B : Nat} {w w' : World} (h : RuleFn i q v B w) (hb : Over B w w') : RuleFn i q v B w' := by
  obtain ⟨fn, cap, hv, he, hc⟩ := h; (exact ⟨fn, cap, hv, he, fun w'' hb' => hc w'' (hb.trans hb')⟩)

/-- A function that tells premises. -/
def PremFn (fn : Nat) (kind : Int) (pr : Fm → List Fm → List Fm → List (List Fm × List Fm)) : Prop := (∀ (s : Value) (w : World), (callFunc fn #[s]).run Try.prog w = .ok (.enter fn #[s]) w) ∧
  ∀ (f : Fm) (l r : List Fm) (s : Value) (w : World), Fine f → f.kind = kind → l.length ≤ 300 → r.length ≤ 300 → StV w s f l r → Calls Try.prog fn #[s] w fun e w' => ∃ x, e = .returned x ∧ SQs w' x (pr f l r) ∧ Below w.heap.size w w'

set_option maxHeartbeats 2000000 in
theorem atLeft1_any {fn : Nat} {kind : Int} {pr : Fm → List Fm → List Fm → List (List Fm × List Fm)} (hp : PremFn fn kind pr) (kb pb : Nat) (T1 T2 : TypeId) (f : Fm) (hf : Fine f) (l r : List Fm) (hl : l.length ≤ 300) (hr : r.length ≤ 300) (s : Value) (w : World)
    (hk : w.heap[kb]? = some (.cells #[.int .i64 kind] T1 (0, 0))) (hb : w.heap[pb]? = some (.cells #[.func (.func fn) #[] #[]] T2 (0, 0))) (hs : StV w s f l r) :
    Calls Try.prog 66 #[s, .pointer (some ⟨kb, 0, none⟩), .pointer (some ⟨pb, 0, none⟩)] w fun e w' => ∃ x, e = .returned (.tuple #[x, .bool (decide (f.kind = kind ∧ f ∈ l))]) ∧ (f.kind = kind → f ∈ l → SQs w' x (pr f l r)) ∧ Below w.heap.size w w' := by
  (have hil := fun s (w : World) h => isLeft_any f l r s w h); have hpr := hp.2 f l r; have hen := hp.1; have hS := hs; obtain ⟨c0, c1, c2, vl, vr, vg, vd, rfl, hrep, hlx, hrx, hgx, hdx⟩ := hs; obtain ⟨k, n, ks⟩ := f; obtain ⟨sf, cf, hfv⟩ := slice_shape hrep; simp only [Value.agg.injEq, Array.mk.injEq, List.cons.injEq, and_true] at hfv; obtain ⟨rfl, rfl, rfl⟩ := hfv; have HIL : Hid (∀ s w, StV w s (.mk k n ks) l r → Calls Try.prog 36 #[s] w _) := hil; have HS : Hid (StV w _ (.mk k n ks) l r) := hS; obtain ⟨adl, cpl, rfl, -⟩ := hlx; obtain ⟨adr, cpr, rfl, -⟩ := hrx; obtain ⟨adg, cpg, rfl, -⟩ := hgx; obtain ⟨add, cpd, rfl, -⟩ := hdx; (have HPR : Hid (∀ s w, StV w s (.mk k n ks) l r → k = kind → Calls Try.prog fn #[s] w fun e w' => ∃ x, e = .returned x ∧ SQs w' x (pr (.mk k n ks) l r) ∧ Below w.heap.size w w') := fun s w h he => hpr s w hf he hl hr h); have HK : Hid (w.heap[kb]? = some (.cells #[.int .i64 kind] T1 (0, 0))) := hk; have HP : Hid (w.heap[pb]? = some (.cells #[.func (.func fn) #[] #[]] T2 (0, 0))) := hb; obtain ⟨O, hO⟩ : ∃ O, O = Obj.cells #[.int .i64 k, .string n, .slice sf ks.length cf, .slice adl l.length cpl, .slice adr r.length cpr, .slice adg (l.erase (.mk k n ks)).length cpg, .slice add (r.erase (.mk k n ks)).length cpd] 72 (0, 0) := ⟨_, rfl⟩; have B0 := below_more (Below.refl _ w) O; obtain ⟨q0, q1⟩ : (w.alloc O).cell? ⟨kb, 0, none⟩ = some (.int .i64 kind) ∧ True := ⟨blk_cell (alloc_keep hk O) 0, trivial⟩; rw [hO] at q0; (show Calls Try.prog _ _ _ fun e w' => ∃ x, e = .returned (.tuple #[x, .bool (decide (k = kind ∧ Fm.mk k n ks ∈ l))]) ∧ (k = kind → Fm.mk k n ks ∈ l → SQs w' x (pr (.mk k n ks) l r)) ∧ Below w.heap.size w w'); clear hil hpr hrep hS hk hb hp q1; by_cases hkk : k = kind
  · subst hkk
    by_cases hm : Fm.mk k n ks ∈ l
    · have HT : Hid (decide (k = k ∧ Fm.mk k n ks ∈ l) = true) := decide_eq_true ⟨rfl, hm⟩
      rw [decide_eq_true hm] at HIL; (have HPQ : Hid (∀ s w, StV w s (.mk k n ks) l r → Calls Try.prog fn #[s] w fun e w' => ∃ x, e = .returned x ∧ SQs w' x (pr (.mk k n ks) l r) ∧ Below w.heap.size w w') := fun s w h => HPR.out s w h rfl); clear hm HPR
      go_enter Try.func66, Try.ntmps66
      go_wp2_with fail; rw [← hO]; refine (HIL.out _ _ (HS.out.up B0)).mono ?_; rintro e w1 ⟨rfl, hb1⟩; have B1 := below_join B0 hb1; have q2 := blk_cell (below_keep B1 HP.out) 0; have qq := below_keep hb1 (blk_new w O); rw [hO] at qq; obtain ⟨k0, k1, k2, k3, k4, k5, k6⟩ := blk7 qq; simp at q2; go_wp2_with fail; refine (HPQ.out _ _ (HS.out.up B1)).mono ?_; rintro e w2 ⟨x, rfl, hss, hb2⟩; have B2 := below_join B1 hb2; have HX : Hid (SQs w2 x (pr (.mk k n ks) l r)) := hss; clear hss; go_wp2_with fail; go_ret2; (exact ⟨x, by rw [HT.out]; rfl, fun _ _ => HX.out, B2⟩)
    · have HT : Hid (decide (k = k ∧ Fm.mk k n ks ∈ l) = false) := decide_eq_false fun h => hm h.2
      have HM : Hid (¬ Fm.mk k n ks ∈ l) := hm; rw [decide_eq_false hm] at HIL; clear hm
      go_enter Try.func66, Try.ntmps66
      go_wp2_with fail; rw [← hO]; refine (HIL.out _ _ (HS.out.up B0)).mono ?_; rintro e w1 ⟨rfl, hb1⟩; have B1 := below_join B0 hb1; go_wp2_with fail; go_ret2; (exact ⟨_, by rw [HT.out]; rfl, fun _ h => absurd h HM.out, B1⟩)
  · have HT : Hid (decide (k = kind ∧ Fm.mk k n ks ∈ l) = false) := decide_eq_false fun h => hkk h.1
    have HM : Hid (¬ k = kind) := hkk; (have hne : (k != kind) = true := by simpa using hkk); subst hO
    go_enter Try.func66, Try.ntmps66
    go_wp2_with fail; go_ret2; (exact ⟨_, by rw [HT.out]; rfl, fun h => absurd h HM.out, B0⟩)
set_option maxHeartbeats 2000000 in
theorem atRight1_any {fn : Nat} {kind : Int} {pr : Fm → List Fm → List Fm → List (List Fm × List Fm)} (hp : PremFn fn kind pr) (kb pb : Nat) (T1 T2 : TypeId) (f : Fm) (hf : Fine f) (l r : List Fm) (hl : l.length ≤ 300) (hr : r.length ≤ 300) (s : Value) (w : World)
    (hk : w.heap[kb]? = some (.cells #[.int .i64 kind] T1 (0, 0))) (hb : w.heap[pb]? = some (.cells #[.func (.func fn) #[] #[]] T2 (0, 0))) (hs : StV w s f l r) :
    Calls Try.prog 65 #[s, .pointer (some ⟨kb, 0, none⟩), .pointer (some ⟨pb, 0, none⟩)] w fun e w' => ∃ x, e = .returned (.tuple #[x, .bool (decide (f.kind = kind ∧ f ∈ r))]) ∧ (f.kind = kind → f ∈ r → SQs w' x (pr f l r)) ∧ Below w.heap.size w w' := by
  (have hil := fun s (w : World) h => isRight_any f l r s w h); have hpr := hp.2 f l r; have hen := hp.1; have hS := hs; obtain ⟨c0, c1, c2, vl, vr, vg, vd, rfl, hrep, hlx, hrx, hgx, hdx⟩ := hs; obtain ⟨k, n, ks⟩ := f; obtain ⟨sf, cf, hfv⟩ := slice_shape hrep; simp only [Value.agg.injEq, Array.mk.injEq, List.cons.injEq, and_true] at hfv; obtain ⟨rfl, rfl, rfl⟩ := hfv; have HIL : Hid (∀ s w, StV w s (.mk k n ks) l r → Calls Try.prog 37 #[s] w _) := hil; have HS : Hid (StV w _ (.mk k n ks) l r) := hS; obtain ⟨adl, cpl, rfl, -⟩ := hlx; obtain ⟨adr, cpr, rfl, -⟩ := hrx; obtain ⟨adg, cpg, rfl, -⟩ := hgx; obtain ⟨add, cpd, rfl, -⟩ := hdx; (have HPR : Hid (∀ s w, StV w s (.mk k n ks) l r → k = kind → Calls Try.prog fn #[s] w fun e w' => ∃ x, e = .returned x ∧ SQs w' x (pr (.mk k n ks) l r) ∧ Below w.heap.size w w') := fun s w h he => hpr s w hf he hl hr h); have HK : Hid (w.heap[kb]? = some (.cells #[.int .i64 kind] T1 (0, 0))) := hk; have HP : Hid (w.heap[pb]? = some (.cells #[.func (.func fn) #[] #[]] T2 (0, 0))) := hb; obtain ⟨O, hO⟩ : ∃ O, O = Obj.cells #[.int .i64 k, .string n, .slice sf ks.length cf, .slice adl l.length cpl, .slice adr r.length cpr, .slice adg (l.erase (.mk k n ks)).length cpg, .slice add (r.erase (.mk k n ks)).length cpd] 72 (0, 0) := ⟨_, rfl⟩; have B0 := below_more (Below.refl _ w) O; obtain ⟨q0, q1⟩ : (w.alloc O).cell? ⟨kb, 0, none⟩ = some (.int .i64 kind) ∧ True := ⟨blk_cell (alloc_keep hk O) 0, trivial⟩; rw [hO] at q0; (show Calls Try.prog _ _ _ fun e w' => ∃ x, e = .returned (.tuple #[x, .bool (decide (k = kind ∧ Fm.mk k n ks ∈ r))]) ∧ (k = kind → Fm.mk k n ks ∈ r → SQs w' x (pr (.mk k n ks) l r)) ∧ Below w.heap.size w w'); clear hil hpr hrep hS hk hb hp q1; by_cases hkk : k = kind
  · subst hkk
    by_cases hm : Fm.mk k n ks ∈ r
    · have HT : Hid (decide (k = k ∧ Fm.mk k n ks ∈ r) = true) := decide_eq_true ⟨rfl, hm⟩
      rw [decide_eq_true hm] at HIL; (have HPQ : Hid (∀ s w, StV w s (.mk k n ks) l r → Calls Try.prog fn #[s] w fun e w' => ∃ x, e = .returned x ∧ SQs w' x (pr (.mk k n ks) l r) ∧ Below w.heap.size w w') := fun s w h => HPR.out s w h rfl); clear hm HPR
      go_enter Try.func65, Try.ntmps65
      go_wp2_with fail; rw [← hO]; refine (HIL.out _ _ (HS.out.up B0)).mono ?_; rintro e w1 ⟨rfl, hb1⟩; have B1 := below_join B0 hb1; have q2 := blk_cell (below_keep B1 HP.out) 0; have qq := below_keep hb1 (blk_new w O); rw [hO] at qq; obtain ⟨k0, k1, k2, k3, k4, k5, k6⟩ := blk7 qq; simp at q2; go_wp2_with fail; refine (HPQ.out _ _ (HS.out.up B1)).mono ?_; rintro e w2 ⟨x, rfl, hss, hb2⟩; have B2 := below_join B1 hb2; have HX : Hid (SQs w2 x (pr (.mk k n ks) l r)) := hss; clear hss; go_wp2_with fail; go_ret2; (exact ⟨x, by rw [HT.out]; rfl, fun _ _ => HX.out, B2⟩)
    · have HT : Hid (decide (k = k ∧ Fm.mk k n ks ∈ r) = false) := decide_eq_false fun h => hm h.2
      have HM : Hid (¬ Fm.mk k n ks ∈ r) := hm; rw [decide_eq_false hm] at HIL; clear hm
      go_enter Try.func65, Try.ntmps65
      go_wp2_with fail; rw [← hO]; refine (HIL.out _ _ (HS.out.up B0)).mono ?_; rintro e w1 ⟨rfl, hb1⟩; have B1 := below_join B0 hb1; go_wp2_with fail; go_ret2; (exact ⟨_, by rw [HT.out]; rfl, fun _ h => absurd h HM.out, B1⟩)
  · have HT : Hid (decide (k = kind ∧ Fm.mk k n ks ∈ r) = false) := decide_eq_false fun h => hkk h.1
    have HM : Hid (¬ k = kind) := hkk; (have hne : (k != kind) = true := by simpa using hkk); subst hO
    go_enter Try.func65, Try.ntmps65
    go_wp2_with fail; go_ret2; (exact ⟨_, by rw [HT.out]; rfl, fun h => absurd h HM.out, B0⟩)

set_option maxHeartbeats 1000000 in
theorem atLeft_made (kind : Int) (fn : Nat) (w : World) : Calls Try.prog 40 #[.int .i64 kind, .func (.func fn) #[] #[]] w fun e w' => e = .returned (.func (.func 66) #[] #[.pointer (some ⟨w.heap.size, 0, none⟩), .pointer (some ⟨w.heap.size + 1, 0, none⟩)]) ∧
    w'.heap[w.heap.size]? = some (.cells #[.int .i64 kind] 3 (0, 0)) ∧ w'.heap[w.heap.size + 1]? = some (.cells #[.func (.func fn) #[] #[]] 75 (0, 0)) ∧ Below w.heap.size w w' := by
  (have hmf : ∀ (fn : Fn) (first cap : Array Value) (w : World), (Instr.makeFunc fn first cap).run Try.prog w = .ok (.func fn first cap) w := fun _ _ _ _ => rfl)
  go_enter Try.func40, Try.ntmps40
  go_wp2_with fail; go_ret; exact ⟨rfl, alloc_keep (blk_new w _) _, blk_two w _ _, below_more (below_more (Below.refl _ w) _) _⟩
theorem atLeft1_in (cap : Array Value) (w : World) : (callFunc 66 cap).run Try.prog w = .ok (.enter 66 cap) w := by simp [go_sem]
theorem atLeft_rule (i : Bool) (q : Ru) {fn kb pb B : Nat} {kind : Int} {T1 T2 : TypeId} {pr : Fm → List Fm → List Fm → List (List Fm × List Fm)} (hp : PremFn fn kind pr) (hq : ∀ f l r, prem i q f l r = if f.kind = kind ∧ f ∈ l then some (pr f l r) else none) {w : World} (hkB : B < kb) (hpB : B < pb)
    (h1 : w.heap[kb]? = some (.cells #[.int .i64 kind] T1 (0, 0))) (h2 : w.heap[pb]? = some (.cells #[.func (.func fn) #[] #[]] T2 (0, 0))) : RuleFn i q (.func (.func 66) #[] #[.pointer (some ⟨kb, 0, none⟩), .pointer (some ⟨pb, 0, none⟩)]) B w := by
  (refine ⟨_, _, rfl, fun s w => atLeft1_in _ w, fun w'' hb f l r s hf hl hr hs => ?_⟩); refine (atLeft1_any hp kb pb _ _ f hf l r hl hr s w'' ((hb.2 kb hkB (lt_of_block h1)).trans h1) ((hb.2 pb hpB (lt_of_block h2)).trans h2) hs).mono ?_; rintro e w3 ⟨x, rfl, hx, hb3⟩; (refine ⟨x, ?_, fun ss hss => ?_, hb3⟩)
  · rw [hq]
    by_cases h : f.kind = kind ∧ f ∈ l
    · rw [if_pos h, decide_eq_true h]; rfl
    · rw [if_neg h, decide_eq_false h]; rfl
  · rw [hq] at hss
    split at hss
    · rename_i h
      rw [← Option.some.inj hss]; exact hx h.1 h.2
    · cases hss
/-- A rule at the Left, made. -/
theorem atLeft_any (q : Ru) {fn B : Nat} {kind : Int} {pr : Bool → Fm → List Fm → List Fm → List (List Fm × List Fm)} {I : Bool → Prop} (hp : ∀ i, I i → PremFn fn kind (pr i)) (hq : ∀ i, I i → ∀ f l r, prem i q f l r = if f.kind = kind ∧ f ∈ l then some (pr i f l r) else none) (w : World) (hB : B < w.heap.size) :
    Calls Try.prog 40 #[.int .i64 kind, .func (.func fn) #[] #[]] w fun e w' => ∃ fnr cp, e = .returned (.func (.func fnr) #[] cp) ∧ (∀ i, I i → RuleFn i q (.func (.func fnr) #[] cp) B w') ∧ Below w.heap.size w w' := by
  refine (atLeft_made kind fn w).mono ?_; rintro e w' ⟨rfl, h1, h2, hb⟩; (exact ⟨_, _, rfl, fun i hi => atLeft_rule i q (hp i hi) (hq i hi) hB (Nat.lt_succ_of_lt hB) h1 h2, hb⟩)

set_option maxHeartbeats 1000000 in
theorem atRight_made (kind : Int) (fn : Nat) (w : World) : Calls Try.prog 38 #[.int .i64 kind, .func (.func fn) #[] #[]] w fun e w' => e = .returned (.func (.func 65) #[] #[.pointer (some ⟨w.heap.size, 0, none⟩), .pointer (some ⟨w.heap.size + 1, 0, none⟩)]) ∧
    w'.heap[w.heap.size]? = some (.cells #[.int .i64 kind] 3 (0, 0)) ∧ w'.heap[w.heap.size + 1]? = some (.cells #[.func (.func fn) #[] #[]] 75 (0, 0)) ∧ Below w.heap.size w w' := by
  (have hmf : ∀ (fn : Fn) (first cap : Array Value) (w : World), (Instr.makeFunc fn first cap).run Try.prog w = .ok (.func fn first cap) w := fun _ _ _ _ => rfl)
  go_enter Try.func38, Try.ntmps38
  go_wp2_with fail; go_ret; exact ⟨rfl, alloc_keep (blk_new w _) _, blk_two w _ _, below_more (below_more (Below.refl _ w) _) _⟩
theorem atRight1_in (cap : Array Value) (w : World) : (callFunc 65 cap).run Try.prog w = .ok (.enter 65 cap) w := by simp [go_sem]
theorem atRight_rule (i : Bool) (q : Ru) {fn kb pb B : Nat} {kind : Int} {T1 T2 : TypeId} {pr : Fm → List Fm → List Fm → List (List Fm × List Fm)} (hp : PremFn fn kind pr) (hq : ∀ f l r, prem i q f l r = if f.kind = kind ∧ f ∈ r then some (pr f l r) else none) {w : World} (hkB : B < kb) (hpB : B < pb)
    (h1 : w.heap[kb]? = some (.cells #[.int .i64 kind] T1 (0, 0))) (h2 : w.heap[pb]? = some (.cells #[.func (.func fn) #[] #[]] T2 (0, 0))) : RuleFn i q (.func (.func 65) #[] #[.pointer (some ⟨kb, 0, none⟩), .pointer (some ⟨pb, 0, none⟩)]) B w := by
  (refine ⟨_, _, rfl, fun s w => atRight1_in _ w, fun w'' hb f l r s hf hl hr hs => ?_⟩); refine (atRight1_any hp kb pb _ _ f hf l r hl hr s w'' ((hb.2 kb hkB (lt_of_block h1)).trans h1) ((hb.2 pb hpB (lt_of_block h2)).trans h2) hs).mono ?_; rintro e w3 ⟨x, rfl, hx, hb3⟩; (refine ⟨x, ?_, fun ss hss => ?_, hb3⟩)
  · rw [hq]
    by_cases h : f.kind = kind ∧ f ∈ r
    · rw [if_pos h, decide_eq_true h]; rfl
    · rw [if_neg h, decide_eq_false h]; rfl
  · rw [hq] at hss
    split at hss
    · rename_i h
      rw [← Option.some.inj hss]; exact hx h.1 h.2
    · cases hss
/-- A rule at the Right, made. -/
theorem atRight_any (q : Ru) {fn B : Nat} {kind : Int} {pr : Bool → Fm → List Fm → List Fm → List (List Fm × List Fm)} {I : Bool → Prop} (hp : ∀ i, I i → PremFn fn kind (pr i)) (hq : ∀ i, I i → ∀ f l r, prem i q f l r = if f.kind = kind ∧ f ∈ r then some (pr i f l r) else none) (w : World) (hB : B < w.heap.size) :
    Calls Try.prog 38 #[.int .i64 kind, .func (.func fn) #[] #[]] w fun e w' => ∃ fnr cp, e = .returned (.func (.func fnr) #[] cp) ∧ (∀ i, I i → RuleFn i q (.func (.func fnr) #[] cp) B w') ∧ Below w.heap.size w w' := by
  refine (atRight_made kind fn w).mono ?_; rintro e w' ⟨rfl, h1, h2, hb⟩; (exact ⟨_, _, rfl, fun i hi => atRight_rule i q (hp i hi) (hq i hi) hB (Nat.lt_succ_of_lt hB) h1 h2, hb⟩)

end Go.Proofs.Ytlmjnglcdgkomac
