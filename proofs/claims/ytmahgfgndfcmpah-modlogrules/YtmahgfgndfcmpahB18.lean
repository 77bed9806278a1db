/- Texts of one proof, one behind the other: CW4, Free4, CW6, KT2, KT3, KT4. -/
import Derived.Test.YtmahgfgndfcmpahB08
import Derived.Test.YtmahgfgndfcmpahB09
import Derived.Deep.RegionLaw
import Derived.Test.YtmahgfgndfcmpahB17
import Derived.Test.YtmahgfgndfcmpahB15
import Derived.Test.YtmahgfgndfcmpahB13
import Derived.Test.YtmahgfgndfcmpahB14
import Derived.Sort.Walk0
import Derived.Deep.AppendSrc
import Derived.Lib.AppendZerosOnto
import Derived.Test.YtmahgfgndfcmpahB01
import Derived.Maps.OwnSet
import Derived.Shelf.SlMaps.Copy
import Derived.Test.YtmahgfgndfcmpahB06
import Derived.Test.YtmahgfgndfcmpahB07
import Derived.Test.YtmahgfgndfcmpahB10
import Derived.Deep.AppendLies
/- Walks: everywhere. -/
namespace Go.Proofs.Ytmahgfgndfcmpah
open Go.RowKit

theorem cons_len {n : Nat} {l : List Value} (h : l.length = n + 1) : ∃ v t, l = v :: t ∧ t.length = n := by
  cases l with
  | nil => cases h
  | cons v t => exact ⟨v, t, rfl, by simpa using h⟩
/-! Facts on the way through a region, with the blocks' makers. -/
/-! The same for lists of proofs. -/
end Go.Proofs.Ytmahgfgndfcmpah
/- A frame behind a drawn region whose slots lie in a row. -/
namespace Go.Proofs.Ytmahgfgndfcmpah
open Go.RowKit

theorem frame_mid2 {ops : Array Oper} {tm : Array Value} {df : List Deferred} {a0 : Act} (lo n : Nat) (hin : (ops.toList.all fun o => match o.dst with | some d => decide (lo ≤ d ∧ lo + n > d) | none => true) = true) (hlen : lo + n ≤ a0.tmps.size) (h : OldSlots ops a0 ⟨tm, df⟩) : ∃ ys : List Value, ys.length = n ∧ tm = ⟨a0.tmps.toList.take lo ++ (ys ++ a0.tmps.toList.drop (lo + n))⟩ ∧ df = a0.defers := by
  obtain ⟨h1, h2, h3⟩ := h; have h1' : tm.toList.length = a0.tmps.toList.length := h1; have hl : lo + n ≤ a0.tmps.toList.length := hlen
  have old : ∀ t, (t < lo ∨ lo + n ≤ t) → tm.toList[t]? = a0.tmps.toList[t]? := fun t ht => by
    have := h3 t (by
      rw [List.all_eq_true] at hin ⊢; intro o ho; have := hin o ho
      cases hd : o.dst with
      | none => rfl
      | some d =>
        rw [hd] at this; have := of_decide_eq_true this; (refine bne_iff_ne.2 fun e => ?_); have e2 : d = t := Option.some.inj e; subst e2
        omega)
    simpa using this
  (refine ⟨(tm.toList.drop lo).take n, by rw [List.length_take, List.length_drop]; omega, ?_, h2⟩); apply Array.ext'; apply List.ext_getElem?; intro t
  rcases Nat.lt_or_ge t lo with ht | ht
  · rw [List.getElem?_append_left (by rw [List.length_take]; omega), List.getElem?_take_of_lt ht]
    exact old t (Or.inl ht)
  · rw [List.getElem?_append_right (by rw [List.length_take]; omega), List.length_take, Nat.min_eq_left (by omega)]
    rcases Nat.lt_or_ge t (lo + n) with ht2 | ht2
    · rw [List.getElem?_append_left (by rw [List.length_take, List.length_drop]; omega), List.getElem?_take_of_lt (by omega), List.getElem?_drop]
      congr 1
      omega
    · rw [List.getElem?_append_right (by rw [List.length_take, List.length_drop]; omega), List.length_take, List.length_drop, Nat.min_eq_left (by omega), List.getElem?_drop, old t (Or.inr ht2)]
      congr 1
      omega
theorem rowOf6 (l : List Value) (h0 : l.length = 6) : ∃ x0 x1 x2 x3 x4 x5, l = [x0, x1, x2, x3, x4, x5] := by
  obtain ⟨x0, l1, e0, h1⟩ := cons_len h0; obtain ⟨x1, l2, e1, h2⟩ := cons_len h1; obtain ⟨x2, l3, e2, h3⟩ := cons_len h2; obtain ⟨x3, l4, e3, h4⟩ := cons_len h3; obtain ⟨x4, l5, e4, h5⟩ := cons_len h4; obtain ⟨x5, l6, e5, h6⟩ := cons_len h5; have e6 : l6 = [] := List.length_eq_zero_iff.1 h6; subst e6 e5 e4 e3 e2 e1 e0; exact ⟨x0, x1, x2, x3, x4, x5, rfl⟩
end Go.Proofs.Ytmahgfgndfcmpah
/- Walks: Steps. -/
namespace Go.Proofs.Ytmahgfgndfcmpah
open Go.RowKit

theorem infoInt : ∃ i, Try.prog.info? 3 = some i ∧ i.zero = some (.int .i64 0) ∧ i.size = 1 ∧ i.bytes = 8 := by
  (obtain ⟨i, hi, h⟩ := Option.map_eq_some_iff.1 (show (Try.prog.info? 3).map (fun i => (i.zero, i.size, i.bytes)) = some (some (.int .i64 0), 1, 8) by kernel_rfl)); simp only [Prod.mk.injEq] at h; exact ⟨i, hi, h.1, h.2.1, h.2.2⟩
theorem owns_keep {B : Nat} {w w' : World} {T : TypeId} {sz n : Nat} {v : Value} {cs : List Value} (h : w.ownsRow B T sz v n cs) (hb : ∀ b, v.ownBlock = some b → w'.heap[b]? = w.heap[b]?) : w'.ownsRow B T sz v n cs := by
  obtain ⟨h1, h2⟩ := h; refine ⟨h1, ?_⟩
  rcases h2 with h2 | ⟨g, cap, cur, hv, hg, hh, r⟩
  · exact Or.inl h2
  · exact Or.inr ⟨g, cap, cur, hv, hg, (hb g (by rw [hv]; rfl)).trans hh, r⟩
/-- Where the cells of a row lie. -/
theorem row_cells {B : Nat} {w : World} {T : TypeId} {sz n cap : Nat} {ad : Option Addr} {cs : List Value} (h : w.ownsRow B T sz (.slice ad n cap) n cs) (hn : 0 < n) : ∃ g, ad = some ⟨g, 0, none⟩ ∧ ∀ j u, cs[j]? = some u → w.cell? ((⟨g, 0, none⟩ : Addr).add j) = some u := by
  obtain ⟨g, cap', hv, -⟩ := h.form hn; simp only [Value.slice.injEq, true_and] at hv; obtain ⟨rfl, -⟩ := hv; (exact ⟨g, rfl, fun j u hu => h.cells rfl j u hu⟩)
end Go.Proofs.Ytmahgfgndfcmpah
/- The table of parts in memory. -/
namespace Go.Proofs.Ytmahgfgndfcmpah
open Go.RowKit Go.Maps Go.WideMaps

def partCells (p : PartM) : List Value := [.int .i64 p.kind, .string p.name, .int .i64 (p.kids.length : Nat), .int .i64 (p.k0 : Nat), .int .i64 (p.k1 : Nat)]
def partKey (p : PartM) : Lit := .string (keyBytes (partLits p.kind p.name.data.toList (p.kids.length : Nat) (p.k0 : Nat) (p.k1 : Nat)))
/-- Parts as they come of formulas that are fine. -/
structure PartSmall (p : PartM) : Prop where
  kind : 0 ≤ p.kind ∧ p.kind ≤ 100
  name : p.name.size ≤ maxLen
  two : p.kids.length ≤ 2
  kids : ∀ j ∈ p.kids, j < 1000000
theorem kid_small {p : PartM} (h : PartSmall p) : p.k0 < 1000000 ∧ p.k1 < 1000000 := by
  unfold PartM.k0 PartM.k1; obtain ⟨-, -, -, hk⟩ := h; obtain ⟨a, b, ks⟩ := p; simp only at hk ⊢
  match ks, hk with
  | [], _ => exact ⟨by decide, by decide⟩
  | [x], hk => exact ⟨hk x (by simp), by simp⟩
  | x :: y :: _, hk => exact ⟨hk x (by simp), hk y (by simp)⟩
theorem kids_of {a b : List Nat} (ha : a.length ≤ 2) (hl : a.length = b.length) (h0 : a.getD 0 0 = b.getD 0 0) (h1 : a.getD 1 0 = b.getD 1 0) : a = b := by
  match a, b, hl with
  | [], [], _ => rfl
  | [x], [y], _ => simpa using h0
  | [x, x'], [y, y'], _ =>
    (have e0 : x = y := by simpa using h0); (have e1 : x' = y' := by simpa using h1)
    rw [e0, e1]
  | _ :: _ :: _ :: _, _, _ => simp at ha
theorem partKey_inj {p q : PartM} (hp : PartSmall p) (hq : PartSmall q) (e : partKey p = partKey q) : p = q := by
  have kp := kid_small hp; have kq := kid_small hq; have tp := hp.two; have tq := hq.two; unfold partKey at e; (have e' : keyBytes (partLits p.kind p.name.data.toList (p.kids.length : Nat) (p.k0 : Nat) (p.k1 : Nat)) = keyBytes (partLits q.kind q.name.data.toList (q.kids.length : Nat) (q.k0 : Nat) (q.k1 : Nat)) := by injection e); (obtain ⟨e1, e2, e3, e4, e5⟩ := partLits_inj (WalkArith.wf_i64 (by have := hp.kind; omega)) (WalkArith.wf_i64 (by omega)) (WalkArith.wf_i64 (by omega)) (WalkArith.wf_i64 (by omega)) (show p.name.data.toList.length ≤ maxLen from hp.name) (WalkArith.wf_i64 (by have := hq.kind; omega)) (WalkArith.wf_i64 (by omega)) (WalkArith.wf_i64 (by omega)) (WalkArith.wf_i64 (by omega)) (show q.name.data.toList.length ≤ maxLen from hq.name) e'); (have e6 : p.kids = q.kids := kids_of tp (by omega) (by unfold PartM.k0 at e4; omega) (by unfold PartM.k1 at e5; omega)); (have e7 : p.name = q.name := by apply ByteArray.ext; apply Array.ext'; exact e2)
  cases p
  cases q
  simp only at e1 e6 e7; rw [e1, e6, e7]
/-- The parts' numbers, in a map. -/
def TM (w : World) (b : Nat) (ps : List PartM) : Prop := ∃ (n : Nat) (D : DataW Unit), w.ownsMap Try.prog 78 (plainElem Try.prog 3) b n D ∧ n ≤ ps.length ∧ (∀ p, PartSmall p → Maps.has D (partKey p) = decide (p ∈ ps)) ∧ ∀ p, p ∈ ps → ∃ i, ps[i]? = some p ∧ ∀ z, D.atKey (partKey p) z = .lit (.int .i64 (i : Nat))
theorem TM.nil {w : World} : TM (w.alloc (.map #[] 0)) w.heap.size [] :=
  ⟨0, .map [], World.ownsMap_made _ _ _ _, Nat.le_refl _, fun s _ => by simp [has_eq], fun s h => by cases h⟩
theorem TM.snoc {w' : World} {b : Nat} {ps : List PartM} {t : PartM} {n : Nat} {D : DataW Unit} (hsm : ∀ p ∈ ps, PartSmall p) (ht : PartSmall t) (hn : n ≤ ps.length) (hD : IsMap D) (h1 : ∀ s, PartSmall s → Maps.has D (partKey s) = decide (s ∈ ps)) (h2 : ∀ s, s ∈ ps → ∃ i, ps[i]? = some s ∧ ∀ z, D.atKey (partKey s) z = .lit (.int .i64 (i : Nat)))
    (h : w'.ownsMap Try.prog 78 (plainElem Try.prog 3) b (n + 1) (D.put (partKey t) (.lit (.int .i64 (ps.length : Nat))))) : TM w' b (ps ++ [t]) := by
  (have hk : WideAt.IsKeyLit (partKey t) := by unfold partKey; first | trivial | exact True.intro | simp [WideAt.IsKeyLit]); (refine ⟨n + 1, _, h, by simp; omega, fun s hs => ?_, fun s hs => ?_⟩)
  · by_cases e : s = t
    · subst e; rw [has_put_same hD hk]; simp
    · rw [has_put_other (fun h => e (by first | exact partKey_inj hs ht h | exact (partKey_inj ht hs h).symm)), h1 s hs]; simp [e]
  · by_cases e : s = t
    · subst e
      (exact ⟨ps.length, by simp, fun z => atKey_put_same hD hk _ z⟩)
    · have hs' : s ∈ ps := by simpa [e] using hs
      have hss := hsm s hs'; obtain ⟨i, hi, hz⟩ := h2 s hs'; (refine ⟨i, ?_, fun z => ?_⟩)
      · rw [List.getElem?_append_left (List.getElem?_eq_some_iff.1 hi).1]; exact hi
      · rw [atKey_put_other (fun h => e (by first | exact partKey_inj hss ht h | exact (partKey_inj ht hss h).symm))]; exact hz z
theorem TM.same {w w' : World} {b : Nat} {ps : List PartM} (h : TM w b ps) (e : w'.heap[b]? = w.heap[b]?) : TM w' b ps := by
  obtain ⟨n, D, ⟨es, clock, hb, r⟩, r2⟩ := h; exact ⟨n, D, ⟨es, clock, e.trans hb, r⟩, r2⟩

/-- The table: where it lies (block bt), what of memory is its own (T). -/
def TabAt (w : World) (T : Nat → Prop) (bt : Nat) (ps : List PartM) (ns : List Nat) : Prop :=
  ∃ adP cP adN cN bm, w.heap[bt]? = some (.cells #[.slice adP ps.length cP, .slice adN ns.length cN, .map (some bm)] 76 (0, 0)) ∧ ns.length = ps.length ∧
    w.ownsRow 0 78 5 (.slice adP ps.length cP) ps.length (ps.flatMap partCells) ∧ w.ownsRow 0 3 1 (.slice adN ns.length cN) ns.length (ns.map fun n => .int .i64 (n : Nat)) ∧ TM w bm ps ∧
    (∀ p ∈ ps, PartSmall p) ∧ T bt ∧ T bm ∧ bt ≠ bm ∧ (∀ b, (Value.slice adP ps.length cP).ownBlock = some b → T b ∧ b ≠ bt ∧ b ≠ bm ∧ (Value.slice adN ns.length cN).ownBlock ≠ some b) ∧ ∀ b, (Value.slice adN ns.length cN).ownBlock = some b → T b ∧ b ≠ bt ∧ b ≠ bm
theorem TabAt.same {w w' : World} {T : Nat → Prop} {bt : Nat} {ps : List PartM} {ns : List Nat} (h : TabAt w T bt ps ns) (hk : ∀ b, T b → b < w.heap.size → w'.heap[b]? = w.heap[b]?) : TabAt w' T bt ps ns := by
  obtain ⟨adP, cP, adN, cN, bm, h1, h2, h3, h4, h5, h6, h7, h8, h9, h10, h11⟩ := h
  have hm : bm < w.heap.size := by
    obtain ⟨n, D, ⟨es, clock, hb, -⟩, -⟩ := h5; exact lt_of_block hb
  have row : ∀ {sz n} {τ : TypeId} {v : Value} {cs : List Value}, w.ownsRow 0 τ sz v n cs → (∀ b, v.ownBlock = some b → T b) → w'.ownsRow 0 τ sz v n cs := by
    intro sz n τ v cs ho ht; obtain ⟨g1, g2⟩ := ho; refine ⟨g1, ?_⟩
    rcases g2 with g2 | ⟨g, cap, cur, hv, hg, hh, r⟩
    · exact Or.inl g2
    · exact Or.inr ⟨g, cap, cur, hv, hg, (hk g (ht g (by rw [hv]; rfl)) (lt_of_block hh)).trans hh, r⟩
  (exact ⟨adP, cP, adN, cN, bm, (hk bt h7 (lt_of_block h1)).trans h1, h2, row h3 fun b hb => (h10 b hb).1, row h4 fun b hb => (h11 b hb).1, h5.same (hk bm h8 hm), h6, h7, h8, h9, h10, h11⟩)
end Go.Proofs.Ytmahgfgndfcmpah
/- Walks: a new table; what it holds. -/
namespace Go.Proofs.Ytmahgfgndfcmpah
open Go.RowKit Go.Maps Go.WideMaps

theorem blk5 {w : World} {b : Nat} {c0 c1 c2 c3 c4 : Value} {T : TypeId} (h : w.heap[b]? = some (.cells #[c0, c1, c2, c3, c4] T (0, 0))) : w.cell? ⟨b, 0, none⟩ = some c0 ∧ w.cell? ⟨b, 1, none⟩ = some c1 ∧ w.cell? ⟨b, 2, none⟩ = some c2 ∧ w.cell? ⟨b, 3, none⟩ = some c3 ∧ w.cell? ⟨b, 4, none⟩ = some c4 ∧ w.frozen? ⟨b, 0, none⟩ = false ∧ w.frozen? ⟨b, 1, none⟩ = false ∧ w.frozen? ⟨b, 2, none⟩ = false ∧ w.frozen? ⟨b, 3, none⟩ = false ∧ w.frozen? ⟨b, 4, none⟩ = false :=
  ⟨blk_cell h 0, blk_cell h 1, blk_cell h 2, blk_cell h 3, blk_cell h 4, blk_fz h 0, blk_fz h 1, blk_fz h 2, blk_fz h 3, blk_fz h 4⟩
theorem flat_at : ∀ (ps : List PartM) (n : Nat) (p : PartM), ps[n]? = some p → ∀ i, i < 5 → (ps.flatMap partCells)[n * 5 + i]? = (partCells p)[i]?
  | [], n, p, h, _, _ => by simp at h
  | q :: ps, 0, p, h, i, hi => by
    (have e : q = p := by simpa using h); subst e
    rw [List.flatMap_cons, List.getElem?_append_left (by simp [partCells]; omega), Nat.zero_mul, Nat.zero_add]
  | q :: ps, n + 1, p, h, i, hi => by
    (rw [List.flatMap_cons, List.getElem?_append_right (by simp [partCells]; omega)]); (have := flat_at ps n p (by simpa using h) i hi); rw [← this]
    congr 1
    simp [partCells]; omega
theorem row_caps {B : Nat} {w : World} {T : TypeId} {sz n cap : Nat} {ad : Option Addr} {cs : List Value} (h : w.ownsRow B T sz (.slice ad n cap) n cs) : n ≤ cap ∧ cap ≤ maxLen := by
  rcases h.2 with ⟨hv, h0⟩ | ⟨g, cap', cur, hv, -, -, h1, h2, -⟩
  · simp only [Value.slice.injEq] at hv
    (exact ⟨by omega, by rw [hv.2.2]; simp⟩)
  · simp only [Value.slice.injEq, true_and] at hv
    rw [hv.2]; exact ⟨h1, h2⟩
/-- A part's cells, and how many nodes it has. -/
theorem TabAt.at' {w : World} {T : Nat → Prop} {bt : Nat} {ps : List PartM} {ns : List Nat} (h : TabAt w T bt ps ns) {n : Nat} {p : PartM} (hp : ps[n]? = some p) :
    ∃ g cP g' cN bm m, w.heap[bt]? = some (.cells #[.slice (some ⟨g, 0, none⟩) ps.length cP, .slice (some ⟨g', 0, none⟩) ns.length cN, .map (some bm)] 76 (0, 0)) ∧ ps.length ≤ cP ∧ cP ≤ maxLen ∧ ns.length ≤ cN ∧ cN ≤ maxLen ∧ ns[n]? = some m ∧
      w.cell? ⟨g, n * 5, none⟩ = some (.int .i64 p.kind) ∧ w.cell? ⟨g, n * 5 + 1, none⟩ = some (.string p.name) ∧ w.cell? ⟨g, n * 5 + 2, none⟩ = some (.int .i64 (p.kids.length : Nat)) ∧ w.cell? ⟨g, n * 5 + 3, none⟩ = some (.int .i64 (p.k0 : Nat)) ∧ w.cell? ⟨g, n * 5 + 4, none⟩ = some (.int .i64 (p.k1 : Nat)) ∧ w.cell? ⟨g', n, none⟩ = some (.int .i64 (m : Nat)) := by
  obtain ⟨adP, cP, adN, cN, bm, h1, h2, h3, h4, -⟩ := h; have hlt := (List.getElem?_eq_some_iff.1 hp).1; (obtain ⟨g, rfl, hg⟩ := row_cells h3 (by omega)); (obtain ⟨g', rfl, hg'⟩ := row_cells h4 (by omega)); (obtain ⟨m, hm⟩ : ∃ m, ns[n]? = some m := ⟨_, List.getElem?_eq_getElem (by omega)⟩)
  have c : ∀ i, i < 5 → ∀ u, (partCells p)[i]? = some u → w.cell? ⟨g, n * 5 + i, none⟩ = some u := fun i hi u hu => by
    have := hg (n * 5 + i) u ((flat_at ps n p hp i hi).trans hu); rw [add_none, Nat.zero_add] at this; exact this
  (have d := hg' n (.int .i64 (m : Nat)) (by rw [List.getElem?_map, hm]; rfl)); rw [add_none, Nat.zero_add] at d; (exact ⟨g, cP, g', cN, bm, m, h1, (row_caps h3).1, (row_caps h3).2, (row_caps h4).1, (row_caps h4).2, hm, c 0 (by omega) _ rfl, c 1 (by omega) _ rfl, c 2 (by omega) _ rfl, c 3 (by omega) _ rfl, c 4 (by omega) _ rfl, d⟩)

set_option maxHeartbeats 2000000 in
theorem pnew_any (w : World) : Calls Try.prog 16 #[] w fun e w' => e = .returned (.pointer (some ⟨w.heap.size + 1, 0, none⟩)) ∧ TabAt w' (fun b => w.heap.size ≤ b ∧ b < w'.heap.size) (w.heap.size + 1) [] [] ∧ Below w.heap.size w w' := by
  have hmm := @run_makeMap Try.prog
  go_enter Try.func16, Try.ntmps16
  go_wp2_with fail; go_ret; refine ⟨rfl, ?_, below_more (below_more (Below.refl _ w) _) _⟩; (refine ⟨none, 0, none, 0, w.heap.size, blk_two w _ _, rfl, ⟨rfl, Or.inl ⟨rfl, rfl⟩⟩, ⟨rfl, Or.inl ⟨rfl, rfl⟩⟩, TM.nil.same (Below.heap_alloc _ _ _ (by simp)), (fun p hp => by cases hp), ⟨by omega, by simp⟩, ⟨by omega, by simp; omega⟩, by omega, (fun b hb => by cases hb), fun b hb => by cases hb⟩)

set_option maxHeartbeats 2000000 in
theorem plen_any (w : World) (T : Nat → Prop) (bt : Nat) (ps : List PartM) (ns : List Nat) (h : TabAt w T bt ps ns) : Calls Try.prog 18 #[.pointer (some ⟨bt, 0, none⟩)] w fun e w' => e = .returned (.int .i64 (ps.length : Nat)) ∧ w' = w := by
  obtain ⟨adP, cP, adN, cN, bm, h1, -⟩ := h; obtain ⟨j0, j1, j2, -⟩ := blk3 h1; clear h1
  go_enter Try.func18, Try.ntmps18
  go_wp2_with fail; go_ret; exact ⟨rfl, rfl⟩
set_option maxHeartbeats 2000000 in
theorem ppart_any (w : World) (T : Nat → Prop) (bt : Nat) (ps : List PartM) (ns : List Nat) (h : TabAt w T bt ps ns) (n : Nat) (p : PartM) (hp : ps[n]? = some p) : Calls Try.prog 61 #[.pointer (some ⟨bt, 0, none⟩), .int .i64 (n : Nat)] w fun e w' => e = .returned (.agg ⟨partCells p⟩) ∧ Below w.heap.size w w' := by
  have hlt := (List.getElem?_eq_some_iff.1 hp).1; obtain ⟨g, cP, g', cN, bm, m, h1, h2, h3, h4, h5, h6, c0, c1, c2, c3, c4, -⟩ := h.at' hp; obtain ⟨j0, j1, j2, -⟩ := blk3 h1; (have hI : (n : Int) < (ps.length : Int) := by omega); (have hI2 : (n : Int) < (cP : Int) := by omega); have zb := lt_of_cell c0; have zt := lt_of_block h1; clear h h1; unfold partCells
  go_enter Try.func61, Try.ntmps61
  go_wp2_with fail; (exact bodyPost_ret (v := .agg #[.int .i64 p.kind, .string p.name, .int .i64 (p.kids.length : Nat), .int .i64 (p.k0 : Nat), .int .i64 (p.k1 : Nat)]) (by simp [results, Try.results61, go_sem]) rfl ⟨rfl, below_more (Below.refl _ w) _⟩)
end Go.Proofs.Ytmahgfgndfcmpah
/- Walks: a part more in the table. -/
namespace Go.Proofs.Ytmahgfgndfcmpah
open Go.RowKit Go.Maps Go.WideMaps

theorem infoPart : ∃ i, Try.prog.info? 78 = some i ∧ i.zero = some (.agg #[.int .i64 0, .string ⟨#[]⟩, .int .i64 0, .int .i64 0, .int .i64 0]) ∧ i.size = 5 ∧ i.bytes = 48 := by
  (obtain ⟨i, hi, h⟩ := Option.map_eq_some_iff.1 (show (Try.prog.info? 78).map (fun i => (i.zero, i.size, i.bytes)) = some (some (.agg #[.int .i64 0, .string ⟨#[]⟩, .int .i64 0, .int .i64 0, .int .i64 0]), 5, 48) by kernel_rfl)); simp only [Prod.mk.injEq] at h; exact ⟨i, hi, h.1, h.2.1, h.2.2⟩
theorem set_a {w : World} {b : Nat} {x0 x1 x2 : Value} {T : TypeId} (h : w.heap[b]? = some (.cells #[x0, x1, x2] T (0, 0))) (v : Value) : (w.setCell ⟨b, 0, none⟩ v).heap[b]? = some (.cells #[v, x1, x2] T (0, 0)) := by
  simp [World.setCell, Array.getElem?_modify, h]
theorem set_b {w : World} {b : Nat} {x0 x1 x2 : Value} {T : TypeId} (h : w.heap[b]? = some (.cells #[x0, x1, x2] T (0, 0))) (v : Value) : (w.setCell ⟨b, 1, none⟩ v).heap[b]? = some (.cells #[x0, v, x2] T (0, 0)) := by
  simp [World.setCell, Array.getElem?_modify, h]
theorem grow_set {w w3 : World} {o : Obj} {ob : Option Nat} {bt off : Nat} {v : Value} (hg : (w.alloc o).drew.grownBy w3 ob) (b : Nat) (hb : b < w.heap.size) (h1 : ob ≠ some b) (h2 : b ≠ bt) : (w3.setCell ⟨bt, off, none⟩ v).heap[b]? = w.heap[b]? := by
  (rw [Below.heap_setCell _ _ _ _ (by simpa using h2), hg.block b (by show b < (w.alloc o).heap.size; simp; omega) (fun e => h1 e.symm)]); exact Below.heap_alloc _ _ _ hb
theorem grow_set2 {w w3 : World} {o : Obj} {ob : Option Nat} {bt off : Nat} {v : Value} (hg : (w.alloc o).grownBy w3 ob) (b : Nat) (hb : b < w.heap.size) (h1 : ob ≠ some b) (h2 : b ≠ bt) : (w3.setCell ⟨bt, off, none⟩ v).heap[b]? = w.heap[b]? := by
  (rw [Below.heap_setCell _ _ _ _ (by simpa using h2), hg.block b (by simp; omega) (fun e => h1 e.symm)]); exact Below.heap_alloc _ _ _ hb
/-- A map is written, at a step of a region that draws its order. -/
theorem step_map_own {H : Type} {P : Program} (w : World) {ops : Array Oper} {o : Oper} {a : Act} {K : Act → World → Prop} {Q : Exit → Act → World → Prop} {E : Prop} (hgd : o.guard = none) (m x v : Operand) (t : TypeId) (hop : o.op = Op.mapUpdate t m x v)
    (k e : TypeId) (KK : Keyed P k) (ht : P.underlying t = some (.map k e)) (R : Value → Option (DataW H × List MemPlace)) (b n : Nat) (D : DataW H)
    (hm : a.eval m = .map (some b)) (hown : w.ownsMap P k R b n D) (hn : n < maxLen) (key val : Value) (kl : Lit) (hx : a.eval x = key) (hv : a.eval v = val) (hkey : keyOf P k key = some kl)
    (d : DataW H) (ps : List MemPlace) (hval : R val = some (d, ps))
    (h : ∀ w', w'.ownsMap P k R b (n + 1) (D.put kl d) → w.grownBy w' (some b) → K (a.put o.dst undef) w') :
    if Region.wanted o (yielded ops a.tmps) = true then Oper.wp P o a w K Q else E := by
  (have hw : Region.wanted o (yielded ops a.tmps) = true := by simp [Region.wanted, hgd]); rw [if_pos hw]; obtain ⟨w', hrun, r1, r2⟩ := hown.update KK ht hn hkey hval; unfold Oper.wp; simp [execOp, hop, hm, hx, hv, hrun, Result.andThen]; exact h w' r1 r2
theorem depEq {o : Option Value} {c : Value} (w : World) (h : ∃ v, o = some v ∧ kEq c v w) : o = some c := by
  obtain ⟨v, h1, h2⟩ := h; have h3 : v = c := h2; rw [h1, h3]
theorem kept_new {ok : Nat → Prop} {w W : World} (h : Kept ok w W) (o : Obj) : Kept ok w (W.alloc o).drew := by
  have h2 := h.alloc o; exact ⟨h2.os, h2.tape, h2.output, h2.size, h2.block⟩
theorem set_name {w : World} {b : Nat} {x0 x1 x2 x3 x4 : Value} {T : TypeId} (h : w.heap[b]? = some (.cells #[x0, x1, x2, x3, x4] T (0, 0))) (v : Value) : (w.setCell ⟨b, 1, none⟩ v).heap[b]? = some (.cells #[x0, v, x2, x3, x4] T (0, 0)) := by
  simp [World.setCell, Array.getElem?_modify, h]
def nodesOf (ns : List Nat) (ks : List Nat) : Nat := 1 + (ks.map fun j => ns.getD j 0).sum
theorem nodes_more {ns ks : List Nat} {i j m : Nat} (hj : ks[i]? = some j) (hm : ns[j]? = some m) : nodesOf ns (ks.take (i + 1)) = nodesOf ns (ks.take i) + m := by
  unfold nodesOf; rw [List.take_add_one, hj]; simp [hm]; omega
theorem nodes_small {ns ks : List Nat} (hn : ∀ m ∈ ns, m ≤ 1000000) (hk : ks.length ≤ 2) : nodesOf ns ks ≤ 3000000 := by
  have h : ∀ j, ns.getD j 0 ≤ 1000000 := fun j => by
    rw [List.getD_eq_getElem?_getD]
    cases hj : ns[j]? with
    | none => simp
    | some m => exact hn m (List.mem_of_getElem? hj)
  unfold nodesOf
  match ks, hk with
  | [], _ => simp
  | [a], _ =>
    have := h a; simp at this ⊢
    omega
  | [a, b], _ =>
    have h1 := h a; have h2 := h b; simp at h1 h2 ⊢; omega
set_option maxRecDepth 10000 in
set_option maxHeartbeats 4000000 in
theorem padd_any (w : World) (T : Nat → Prop) (bt : Nat) (ps : List PartM) (ns : List Nat) (h : TabAt w T bt ps ns) (p : PartM) (hp : PartSmall p) (hnew : p ∉ ps) (hk : ∀ j ∈ p.kids, j < ps.length) (hl : ps.length ≤ 100000) (hn : ∀ m ∈ ns, m ≤ 1000000) (hname : p.name.size ≤ 8) :
    Calls Try.prog 48 #[.pointer (some ⟨bt, 0, none⟩), .agg ⟨partCells p⟩] w fun e w' => e = .returned (.int .i64 (ps.length : Nat)) ∧ TabAt w' (fun b => T b ∨ (w.heap.size ≤ b ∧ b < w'.heap.size)) bt (ps ++ [p]) (ns ++ [nodesOf ns p.kids]) ∧ Kept (fun b => ¬ T b) w w' := by
  obtain ⟨adP, cP, adN, cN, bm, h1, h2, h3, h4, h5, h6, h7, h8, h9, h10, h11⟩ := h; have HP : Hid (w.ownsRow 0 78 5 (.slice adP ps.length cP) ps.length (ps.flatMap partCells)) := h3; (have HN : Hid (w.ownsRow 0 3 1 (.slice adN ns.length cN) ns.length (ns.map fun n => .int .i64 (n : Nat))) := h4); have HM : Hid (TM w bm ps) := h5; have HL2 : Hid (ns.length = ps.length) := h2; have H1 : Hid (w.heap[bt]? = some _) := h1; (have hcl : ∀ w, Calls Try.prog 59 #[.string p.name] w fun e w' => e = .returned (.string p.name) ∧ Below w.heap.size w w' := fun w => clone_any p.name w (by omega)); have HCl : Hid (∀ w, Calls Try.prog 59 #[.string p.name] w _) := hcl; have H6 : Hid (∀ p ∈ ps, PartSmall p) := h6; (have HO : Hid (∀ b, (Value.slice adP ps.length cP).ownBlock = some b → b < w.heap.size) := fun b hb => (h3.lt b hb).2); (have HO2 : Hid (∀ b, (Value.slice adN ns.length cN).ownBlock = some b → b < w.heap.size) := fun b hb => (h4.lt b hb).2); (have HO3 : Hid (bm < w.heap.size) := by obtain ⟨_, _, ⟨_, _, hb, -⟩, -⟩ := h5; exact lt_of_block hb); have H7 : Hid (T bt ∧ T bm ∧ bt ≠ bm) := ⟨h7, h8, h9⟩; have H10 : Hid (∀ b, (Value.slice adP ps.length cP).ownBlock = some b → T b ∧ b ≠ bt ∧ b ≠ bm ∧ (Value.slice adN ns.length cN).ownBlock ≠ some b) := h10; have H11 : Hid (∀ b, (Value.slice adN ns.length cN).ownBlock = some b → T b ∧ b ≠ bt ∧ b ≠ bm) := h11; have HK : Hid (∀ j ∈ p.kids, j < ps.length) := hk; have HNew : Hid (p ∉ ps) := hnew; have HSp : Hid (PartSmall p) := hp; have hk2 := hp.two; (have hk2I : (p.kids.length : Int) ≤ 2 := by omega); have zt := lt_of_block h1; unfold partCells; (have hnI : (ns.length : Int) ≤ 100000 := by omega); clear h3 h4 h5 h1 hcl h2 h6 h7 h8 h9 h10 h11 hk hnew hp
  go_enter Try.func48, Try.ntmps48
  go_wp2_with fail; refine (HCl.out _).mono ?_; rintro e w1 ⟨rfl, hb1⟩; have Q1 := below_keep hb1 (blk_new w (.cells #[.int .i64 p.kind, .string p.name, .int .i64 (p.kids.length : Nat), .int .i64 (p.k0 : Nat), .int .i64 (p.k1 : Nat)] 78 (0, 0))); obtain ⟨c0, c1, c2, c3, c4, z0, z1, z2, z3, z4⟩ := blk5 Q1; have B1 : Below w.heap.size w w1 := below_join (below_more (Below.refl _ w) _) hb1; go_wp2_with fail; (have BW : Hid (Below w.heap.size w (w1.setCell ⟨w.heap.size, 1, none⟩ (.string p.name))) := B1.setCell (by simp) _); have QW : Hid ((w1.setCell ⟨w.heap.size, 1, none⟩ (.string p.name)).heap[w.heap.size]? = some _) := set_name Q1 (.string p.name); clear c0 c1 c2 c3 c4 z0 z1 z2 z3 z4 Q1 hb1 B1 HCl; generalize w1.setCell ⟨w.heap.size, 1, none⟩ (.string p.name) = W at *; have HPW : Hid (W.ownsRow 0 78 5 (.slice adP ps.length cP) ps.length (ps.flatMap partCells)) := owns_up HP.out BW.out; (have HNW : Hid (W.ownsRow 0 3 1 (.slice adN ns.length cN) ns.length (ns.map fun n => .int .i64 (n : Nat))) := owns_up HN.out BW.out); have HTW : Hid (W.heap[bt]? = some _) := (BW.out.block bt (lt_of_block H1.out)).trans H1.out; (have HMW : Hid (TM W bm ps) := HM.out.same (BW.out.block bm (by obtain ⟨_, _, ⟨_, _, hb, -⟩, -⟩ := HM.out; exact lt_of_block hb)))
  have HKid : Hid (∀ i j, p.kids[i]? = some j → W.cell? ⟨w.heap.size, 3 + i, none⟩ = some (.int .i64 (j : Nat)) ∧ j < ns.length ∧ i < 2) := fun i j hj => by
    have hi := (List.getElem?_eq_some_iff.1 hj).1; obtain ⟨c0, c1, c2, c3, c4, -⟩ := blk5 QW.out; (have hj2 : j < ns.length := by have := HK.out j (List.mem_of_getElem? hj); have := HL2.out; omega); (have e : i = 0 ∨ i = 1 := by omega)
    rcases e with rfl | rfl
    · refine ⟨?_, hj2, by omega⟩
      rw [c3]; unfold PartM.k0; rw [List.getD_eq_getElem?_getD, hj]; rfl
    · refine ⟨?_, hj2, by omega⟩
      rw [c4]; unfold PartM.k1; rw [List.getD_eq_getElem?_getD, hj]; rfl
  (have HSm : Hid (∀ i, nodesOf ns (p.kids.take i) ≤ 3000000) := fun i => nodes_small hn (by rw [List.length_take]; omega)); obtain ⟨j0, j1, j2, f0, f1, f2⟩ := blk3 HTW.out; clear HP HN HM H1 hn
  go_loopg [18, 5] p.kids.length (fun g c s wr => ∃ i, i ≤ p.kids.length ∧ g = p.kids.length - i ∧ c = .int .i64 (i : Nat) ∧ s = .int .i64 ((nodesOf ns (p.kids.take i) : Nat) : Int) ∧ wr = W)
  case atStart => exact ⟨0, by omega, by omega, rfl, rfl, rfl⟩
  case round =>
    obtain ⟨i, hi, hg, rfl, rfl, rfl⟩ := hrel; have HG : Hid (gk = p.kids.length - i) := hg; clear hg; by_cases hlt : i < p.kids.length
    · obtain ⟨j, hj⟩ : ∃ j, p.kids[i]? = some j := ⟨_, List.getElem?_eq_getElem hlt⟩
      obtain ⟨kc, hjn, hi2⟩ := HKid.out i j hj; obtain ⟨m, hm⟩ : ∃ m, ns[j]? = some m := ⟨_, List.getElem?_eq_getElem hjn⟩; (obtain ⟨gN, rfl, hgN⟩ := row_cells HNW.out (by omega)); (have hc := hgN j (.int .i64 (m : Nat)) (by rw [List.getElem?_map, hm]; rfl)); rw [add_none, Nat.zero_add] at hc; have hcN := (row_caps HNW.out).1; (have hltI : (i : Int) < (p.kids.length : Int) := by omega); (have hlt2 : (i : Int) < 2 := by omega); (have hjI : (j : Int) < (ns.length : Int) := by omega); (have hjc : (j : Int) < (cN : Int) := by omega); have HX : Hid (nodesOf ns (p.kids.take (i + 1)) = nodesOf ns (p.kids.take i) + m) := nodes_more hj hm; have hs1 := HSm.out i; have hs2 := HSm.out (i + 1); rw [HX.out] at hs2; generalize nodesOf ns (p.kids.take i) = S at *; go_wp2_with fail
      go_roundg (p.kids.length - (i + 1))
      case measure => have := HG.out; omega
      case rel => exact ⟨i + 1, by omega, rfl, by go_num, by rw [HX.out]; go_num, rfl⟩
    · have hge : ¬ (i : Int) < (p.kids.length : Int) := by omega
      (have hie : i = p.kids.length := by omega); subst hie; clear HG; rw [List.take_length]; obtain ⟨c0, c1, c2, c3, c4, -⟩ := blk5 QW.out; obtain ⟨iP, hiP, hzP, hzP1, hzP2⟩ := infoPart; obtain ⟨iI, hiI, hzI, hzI1, hzI2⟩ := infoInt; (have HS3 : Hid (nodesOf ns p.kids ≤ 3000000) := by have := HSm.out p.kids.length; rw [List.take_length] at this; exact this); have zs := lt_of_block QW.out; have zt2 := lt_of_block HTW.out; clear HKid HSm hlt hi hge hk2 hk2I; obtain ⟨S, hSe⟩ : ∃ S, S = nodesOf ns p.kids := ⟨_, rfl⟩; have HSe : Hid (S = nodesOf ns p.kids) := hSe; rw [← hSe]; rw [← hSe] at HS3; clear hSe; go_wp2_with fail; (have HT2 : Hid (∀ b, (Value.slice adP ps.length cP).ownBlock = some b → b ≠ bt) := fun b hb => (H10.out b hb).2.1)
      go_region_law
        (first
         | (have hown := owns_up HPW.out (show Below wr.heap.size wr _ from ((Below.refl _ wr).alloc (Nat.le_refl _) (.cells #[.int .i64 p.kind, .string p.name, .int .i64 (p.kids.length : Nat), .int .i64 (p.k0 : Nat), .int .i64 (p.k1 : Nat)] 78 (0, 0))).drew)
            (refine step_append_lies _ rfl _ _ 73 rfl 0 78 iP (.agg #[.int .i64 0, .string ⟨#[]⟩, .int .i64 0, .int .i64 0, .int .i64 0]) 5 48 Try.underlying73 hiP hzP hzP1 hzP2 rfl (by decide) _ _ _ rfl hown ⟨wr.heap.size, 0, none⟩ 1 1 (partCells p) rfl rfl ?_ ?_ (by omega) (by unfold maxLen; omega) (by omega) (by omega) _ rfl ?_)
            · intro j u hu
              rw [add_none, Nat.zero_add]; (exact (blk_cell (blk_new_drew wr _) j).trans (by simpa [partCells] using hu))
            · intro u hu
              simp [partCells] at hu
              rcases hu with rfl | rfl | rfl | rfl | rfl <;> rfl
            intro g3 cp3 w3 hown3 hgrow hat hlt3; have HG3 : Hid ((wr.alloc (.cells #[.int .i64 p.kind, .string p.name, .int .i64 (p.kids.length : Nat), .int .i64 (p.k0 : Nat), .int .i64 (p.k1 : Nat)] 78 (0, 0))).drew.grownBy w3 (Value.slice adP ps.length cP).ownBlock) := hgrow; have HA3 : Hid ((Value.slice adP ps.length cP).ownBlock = some g3 ∨ g3 = (wr.alloc (.cells #[.int .i64 p.kind, .string p.name, .int .i64 (p.kids.length : Nat), .int .i64 (p.k0 : Nat), .int .i64 (p.k1 : Nat)] 78 (0, 0))).drew.heap.size) := hat; have HW3 : Hid (w3.ownsRow 0 78 5 (.slice (some ⟨g3, 0, none⟩) (ps.length + 1) cp3) (ps.length + 1) (ps.flatMap partCells ++ partCells p)) := hown3; clear hgrow hat hown3 hown; (have R3 : Hid (w3.heap[bt]? = some _) := (HG3.out.block bt (by simp; omega) (fun e => HT2.out bt e.symm rfl)).trans (alloc_keep HTW.out (.cells #[.int .i64 p.kind, .string p.name, .int .i64 (p.kids.length : Nat), .int .i64 (p.k0 : Nat), .int .i64 (p.k1 : Nat)] 78 (0, 0)))); have hlt4 : g3 < w3.heap.size := hlt3; clear j0 j1 j2 f0 f1 f2 hlt3
            obtain ⟨j0, j1, j2, f0, f1, f2⟩ := blk3 R3.out)
         | fail)
      all_goals
        (have K4 : Hid (Kept (fun b => ¬ T b) w (w3.setCell ⟨bt, 0, none⟩ (.slice (some ⟨g3, 0, none⟩) (ps.length + 1) cp3))) := ((kept_new (kept_of_below BW.out fun _ h _ => h) _).trans (kept_grown HG3.out fun k h e => h (H10.out k e).1)).setCell (fun k h => h H7.out.1) _); have R4 : Hid ((w3.setCell ⟨bt, 0, none⟩ (.slice (some ⟨g3, 0, none⟩) (ps.length + 1) cp3)).heap[bt]? = some _) := set_a R3.out _; (have F4 : Hid (∀ b, b < wr.heap.size → (Value.slice adP ps.length cP).ownBlock ≠ some b → b ≠ bt → (w3.setCell ⟨bt, 0, none⟩ (.slice (some ⟨g3, 0, none⟩) (ps.length + 1) cp3)).heap[b]? = wr.heap[b]?) := fun b hb h1 h2 => grow_set HG3.out b hb h1 h2)
        have G3 : Hid (g3 ≠ bt ∧ g3 ≠ bm ∧ (Value.slice adN ns.length cN).ownBlock ≠ some g3 ∧ g3 ≠ w.heap.size ∧ (T g3 ∨ w.heap.size ≤ g3)) := by
          rcases HA3.out with e | e
          · have h1 := H10.out g3 e
            have h2 := HO.out g3 e; (exact ⟨h1.2.1, h1.2.2.1, h1.2.2.2, by omega, Or.inl h1.1⟩)
          · have e2 : g3 = wr.heap.size + 1 := by rw [e]; simp
            have h3 := HO3.out; (exact ⟨by omega, by omega, fun e3 => by have := HO2.out g3 e3; omega, by omega, Or.inr (by omega)⟩)
        have HW4 : Hid ((w3.setCell ⟨bt, 0, none⟩ (.slice (some ⟨g3, 0, none⟩) (ps.length + 1) cp3)).ownsRow 0 78 5 (.slice (some ⟨g3, 0, none⟩) (ps.length + 1) cp3) (ps.length + 1) (ps.flatMap partCells ++ partCells p)) := owns_keep HW3.out fun b hb => Below.heap_setCell _ _ _ _ (by
          (have e : g3 = b := by simpa [Value.ownBlock] using hb); have := G3.out.1
          simp
          omega)
        (have z4 : g3 < (w3.setCell ⟨bt, 0, none⟩ (.slice (some ⟨g3, 0, none⟩) (ps.length + 1) cp3)).heap.size := by simpa [World.setCell] using hlt4)
        have zw : wr.heap.size + 1 ≤ (w3.setCell ⟨bt, 0, none⟩ (.slice (some ⟨g3, 0, none⟩) (ps.length + 1) cp3)).heap.size := by
          have := HG3.out.size; simp [World.setCell] at this ⊢; omega
        clear HG3 HA3 HW3 R3 hlt4 j0 j1 j2 f0 f1 f2 HT2 c0 c1 c2 c3 c4; generalize w3.setCell ⟨bt, 0, none⟩ (.slice (some ⟨g3, 0, none⟩) (ps.length + 1) cp3) = w4 at *; (have HN4 : Hid (w4.ownsRow 0 3 1 (.slice adN ns.length cN) ns.length (ns.map fun n => .int .i64 (n : Nat))) := owns_keep HNW.out fun b hb => F4.out b (HNW.out.lt b hb).2 (fun e => (H10.out b e).2.2.2 hb) (H11.out b hb).2.1); (have HM4 : Hid (TM w4 bm ps) := HMW.out.same (F4.out bm (by obtain ⟨_, _, ⟨_, _, hb, -⟩, -⟩ := HMW.out; exact lt_of_block hb) (fun e => (H10.out bm e).2.2.1 rfl) (fun e => H7.out.2.2 e.symm)))
        have Q4 : Hid (w4.heap[w.heap.size]? = some _) := (F4.out w.heap.size zs (fun e => by
          have := HO.out _ e
          omega) (by omega)).trans QW.out
        clear F4 HMW HNW HPW QW BW HTW; obtain ⟨j0, j1, j2, f0, f1, f2⟩ := blk3 R4.out; have hS : S ≤ 3000000 := HS3.out; have hown := owns_up HN4.out (show Below w4.heap.size w4 _ from (Below.refl _ w4).alloc (Nat.le_refl _) (.cells #[.int .i64 (S : Nat)] 3 (0, 0))); (have HT4 : Hid (∀ b, (Value.slice adN ns.length cN).ownBlock = some b → b ≠ bt) := fun b hb => (H11.out b hb).2.1)
        go_wp2_with (first
          | (at_builtin
             (refine wpList_append_lies _ rfl _ _ 74 rfl 0 3 iI (.int .i64 0) 1 8 Try.underlying74 hiI hzI hzI1 hzI2 rfl (by decide) _ _ _ rfl hown ⟨w4.heap.size, 0, none⟩ 1 1 [.int .i64 (S : Nat)] rfl rfl ?_ ?_ (by omega) (by unfold maxLen; omega) (by omega) (by omega) _ rfl ?_)
             · intro j u hu
               rw [add_none, Nat.zero_add]; (exact (blk_cell (blk_new w4 _) j).trans (by simpa using hu))
             · intro u hu
               simp at hu; subst hu; rfl
             intro g5 cp5 w5 hown5 hgrow hat hlt5; have HG5 : Hid ((w4.alloc (.cells #[.int .i64 (S : Nat)] 3 (0, 0))).grownBy w5 (Value.slice adN ns.length cN).ownBlock) := hgrow; have HA5 : Hid ((Value.slice adN ns.length cN).ownBlock = some g5 ∨ g5 = (w4.alloc (.cells #[.int .i64 (S : Nat)] 3 (0, 0))).heap.size) := hat; (have HW5 : Hid (w5.ownsRow 0 3 1 (.slice (some ⟨g5, 0, none⟩) (ns.length + 1) cp5) (ns.length + 1) ((ns.map fun n => .int .i64 (n : Nat)) ++ [.int .i64 (S : Nat)])) := hown5); clear hgrow hat hown5 hown; (have R5 : Hid (w5.heap[bt]? = some _) := (HG5.out.block bt (by simp; omega) (fun e => HT4.out bt e.symm rfl)).trans (alloc_keep R4.out _)); clear j0 j1 j2 f0 f1 f2
             obtain ⟨j0, j1, j2, f0, f1, f2⟩ := blk3 R5.out)
          | fail)
        have W6 : ∃ x, x = w5.setCell ⟨bt, 1, none⟩ (.slice (some ⟨g5, 0, none⟩) (ns.length + 1) cp5) := ⟨_, rfl⟩; obtain ⟨w6, hw6⟩ := W6
        have K6 : Hid (Kept (fun b => ¬ T b) w w6) := by
          rw [hw6]; (exact ((K4.out.alloc _).trans (kept_grown HG5.out fun k h e => h (H11.out k e).1)).setCell (fun k h => h H7.out.1) _)
        have R6 : Hid (w6.heap[bt]? = some (.cells #[.slice (some ⟨g3, 0, none⟩) (ps.length + 1) cp3, .slice (some ⟨g5, 0, none⟩) (ns.length + 1) cp5, .map (some bm)] 76 (0, 0))) := by
          rw [hw6]; exact set_b R5.out _
        have F6 : Hid (∀ b, b < w4.heap.size → (Value.slice adN ns.length cN).ownBlock ≠ some b → b ≠ bt → w6.heap[b]? = w4.heap[b]?) := by
          rw [hw6]; (exact fun b hb h1 h2 => grow_set2 HG5.out b hb h1 h2)
        have G5 : Hid (g5 ≠ bt ∧ g5 ≠ bm ∧ g5 ≠ g3 ∧ g5 ≠ w.heap.size ∧ (T g5 ∨ w.heap.size ≤ g5)) := by
          rcases HA5.out with e | e
          · have h1 := H11.out g5 e
            have h2 := HO2.out g5 e; (exact ⟨h1.2.1, h1.2.2, fun e2 => G3.out.2.2.1 (e2 ▸ e), by omega, Or.inl h1.1⟩)
          · have e2 : g5 = w4.heap.size + 1 := by rw [e]; simp
            have h3 := HO3.out; (exact ⟨by omega, by omega, by omega, by omega, Or.inr (by omega)⟩)
        have HW6 : Hid (w6.ownsRow 0 3 1 (.slice (some ⟨g5, 0, none⟩) (ns.length + 1) cp5) (ns.length + 1) ((ns.map fun n => .int .i64 (n : Nat)) ++ [.int .i64 (S : Nat)])) := by
          rw [hw6]
          exact owns_keep HW5.out fun b hb => Below.heap_setCell _ _ _ _ (by
            (have e : g5 = b := by simpa [Value.ownBlock] using hb); have := G5.out.1
            simp
            omega)
        have HP6 : Hid (w6.ownsRow 0 78 5 (.slice (some ⟨g3, 0, none⟩) (ps.length + 1) cp3) (ps.length + 1) (ps.flatMap partCells ++ partCells p)) := owns_keep HW4.out fun b hb => by
          (have e : g3 = b := by simpa [Value.ownBlock] using hb); subst e; exact F6.out g3 z4 G3.out.2.2.1 G3.out.1
        (have HM6 : Hid (TM w6 bm ps) := HM4.out.same (F6.out bm (by have := HO3.out; omega) (fun e => (H11.out bm e).2.2 rfl) (fun e => H7.out.2.2 e.symm)))
        have Q6 : Hid (w6.heap[w.heap.size]? = some _) := (F6.out w.heap.size (by omega) (fun e => by
          have := HO2.out _ e
          omega) (by omega)).trans Q4.out
        have z5 : g5 < w6.heap.size := by
          rw [hw6]; simpa [World.setCell] using hlt5
        have z6 : w4.heap.size ≤ w6.heap.size := by
          have := HG5.out.size; rw [hw6]; simp [World.setCell] at this ⊢; omega
        rw [← hw6]; clear hw6 HG5 HA5 HW5 R5 hlt5 j0 j1 j2 f0 f1 f2 HW4 K4 R4 HN4 HM4 Q4 F6; obtain ⟨j0, j1, j2, f0, f1, f2⟩ := blk3 R6.out; obtain ⟨c0, c1, c2, c3, c4, -⟩ := blk5 Q6.out; obtain ⟨n, D, hmap, hnn, hh1, hh2⟩ := HM6.out; have HH1 : Hid (∀ p, PartSmall p → Maps.has D (partKey p) = decide (p ∈ ps)) := hh1; have HH2 : Hid (∀ p, p ∈ ps → ∃ i, ps[i]? = some p ∧ ∀ z, D.atKey (partKey p) z = .lit (.int .i64 (i : Nat))) := hh2; have HMap : Hid (w6.ownsMap Try.prog 78 (plainElem Try.prog 3) bm n D) := hmap; (have hkey : keyOf Try.prog 78 (.agg #[.int .i64 p.kind, .string p.name, .int .i64 (p.kids.length : Nat), .int .i64 (p.k0 : Nat), .int .i64 (p.k1 : Nat)]) = some (partKey p) := keyPart _ _ _ _ _ (WalkArith.wf_i64 (by have := HSp.out.kind; omega)) (WalkArith.wf_i64 (by have := HSp.out.two; omega)) (WalkArith.wf_i64 (by have := kid_small HSp.out; omega)) (WalkArith.wf_i64 (by have := kid_small HSp.out; omega)) HSp.out.name); have HKey : Hid (keyOf Try.prog 78 _ = some (partKey p)) := hkey; clear hh1 hh2 hmap hkey HM6; clear j0 j1 j2 f0 f1 f2 c0 c1 c2 c3 c4; (refine wp_region_last (by kernel_rfl) [kEq (.pointer (some ⟨bt, 0, none⟩)), kEq (.pointer (some ⟨bt, 0, none⟩)), kEq (.pointer (some ⟨bt, 2, none⟩)), kEq (.map (some bm)), kEq (.agg #[.int .i64 p.kind, .string p.name, .int .i64 (p.kids.length : Nat), .int .i64 (p.k0 : Nat), .int .i64 (p.k1 : Nat)]), kEq (.int .i64 (ps.length : Nat))] ?_ (by kernel_rfl) (by kernel_rfl) 64 rfl (by kernel_rfl) 6 _ rfl rfl (by kernel_rfl) ?_ ?_)
        · intro p hp
          simp only [List.mem_cons, List.not_mem_nil, or_false] at hp
          rcases hp with rfl | rfl | rfl | rfl | rfl | rfl
          all_goals exact kEq_stays _
        · refine ⟨?_, ?_, ?_, ?_, ?_, ?_, trivial⟩
          · intro a wx hB hold hdep K hK
            have t0 : a.tmps[0]? = some (.pointer (some ⟨bt, 0, none⟩)) := hold.2.2 0 rfl; clear hold hdep; go_simp; exact hK.out _ _ rfl (Below.refl _ _)
          · intro a wx hB hold hdep K hK
            have t57 := depEq wx (hdep 0 rfl _ 57 rfl rfl); clear hold hdep; go_simp; exact hK.out _ _ rfl (Below.refl _ _)
          · intro a wx hB hold hdep K hK
            have t58 := depEq wx (hdep 1 rfl _ 58 rfl rfl); clear hold hdep; go_simp; exact hK.out _ _ rfl (Below.refl _ _)
          · intro a wx hB hold hdep K hK
            have t59 := depEq wx (hdep 2 rfl _ 59 rfl rfl); obtain ⟨j0, j1, j2, -⟩ := blk3 (below_keep hB R6.out); clear hold hdep; go_simp; exact hK.out _ _ rfl (Below.refl _ _)
          · intro a wx hB hold hdep K hK
            have t3 : a.tmps[3]? = some (.pointer (some ⟨w.heap.size, 0, none⟩)) := hold.2.2 3 rfl; obtain ⟨j0, j1, j2, j3, j4, -⟩ := blk5 (below_keep hB Q6.out); clear hold hdep; go_simp; exact hK.out _ _ rfl (Below.refl _ _)
          · intro a wx hB hold hdep K hK
            have t8 : a.tmps[8]? = some (.int .i64 (ps.length : Nat)) := hold.2.2 8 rfl; clear hold hdep; go_simp; exact hK.out _ _ rfl (Below.refl _ _)
        · intro a wx hB hold hgot K hK
          (have t60 := depEq wx (hgot 3 _ 60 (by omega) rfl rfl)); (have t61 := depEq wx (hgot 4 _ 61 (by omega) rfl rfl)); (have t62 := depEq wx (hgot 5 _ 62 (by omega) rfl rfl))
          have hmx : wx.ownsMap Try.prog 78 (plainElem Try.prog 3) bm n D := by
            obtain ⟨es, clock, hb, r⟩ := HMap.out; exact ⟨es, clock, (hB.block bm (lt_of_block hb)).trans hb, r⟩
          (refine step_map_own _ rfl _ _ _ 72 rfl 78 3 partLaw Try.underlying72 _ bm n D (by simp [go_sem, t60]) hmx (by unfold maxLen; omega) (.agg #[.int .i64 p.kind, .string p.name, .int .i64 (p.kids.length : Nat), .int .i64 (p.k0 : Nat), .int .i64 (p.k1 : Nat)]) (.int .i64 (ps.length : Nat)) _ (by simp [go_sem, t61]) (by simp [go_sem, t62]) HKey.out _ [] (plainElem_int Try.underlying3 (WalkArith.wf_i64 (by omega))) ?_); intro w7 hown7 hgrow7; (have F7 : Hid (∀ b, b < w6.heap.size → b ≠ bm → w7.heap[b]? = w6.heap[b]?) := fun b hb hne => (hgrow7.block b (Nat.lt_of_lt_of_le hb hB.size) (fun e => hne (by cases e; rfl))).trans (hB.block b hb)); (have K7 : Hid (Kept (fun b => ¬ T b) w w7) := (K6.out.trans (kept_of_below hB fun _ h _ => h)).trans (kept_grown hgrow7 fun k h e => h (by cases e; exact H7.out.2.1))); have z7 : w6.heap.size ≤ w7.heap.size := Nat.le_trans hB.size hgrow7.size; have HM7 : Hid (TM w7 bm (ps ++ [p])) := TM.snoc H6.out HSp.out hnn HMap.out.isMap HH1.out HH2.out hown7
          have HTab : Hid (TabAt w7 (fun b => T b ∨ (w.heap.size ≤ b ∧ b < w7.heap.size)) bt (ps ++ [p]) (ns ++ [nodesOf ns p.kids])) := by
            (have e1 : (ps ++ [p]).length = ps.length + 1 := by simp); (have e2 : (ns ++ [nodesOf ns p.kids]).length = ns.length + 1 := by simp); (have e3 : (ps ++ [p]).flatMap partCells = ps.flatMap partCells ++ partCells p := by simp); (have e4 : (ns ++ [nodesOf ns p.kids]).map (fun n => (.int .i64 (n : Nat) : Value)) = ns.map (fun n => (.int .i64 (n : Nat) : Value)) ++ [.int .i64 (S : Nat)] := by simp [HSe.out]); show TabAt _ _ _ _ _; unfold TabAt; rw [e1, e2, e3, e4]; (have b3 : ∀ b, (Value.slice (some ⟨g3, 0, none⟩) (ps.length + 1) cp3).ownBlock = some b → g3 = b := fun b hb => by simpa [Value.ownBlock] using hb); (have b5 : ∀ b, (Value.slice (some ⟨g5, 0, none⟩) (ns.length + 1) cp5).ownBlock = some b → g5 = b := fun b hb => by simpa [Value.ownBlock] using hb); have q3 := G3.out; have q5 := G5.out; have q7 := H7.out; (refine ⟨some ⟨g3, 0, none⟩, cp3, some ⟨g5, 0, none⟩, cp5, bm, (F7.out bt (by omega) q7.2.2).trans R6.out, by have := HL2.out; omega, owns_keep HP6.out fun b hb => ?_, owns_keep HW6.out fun b hb => ?_, HM7.out, fun q hq => ?_, Or.inl q7.1, Or.inl q7.2.1, q7.2.2, fun b hb => ?_, fun b hb => ?_⟩)
            · rw [← b3 b hb]; exact F7.out g3 (by omega) q3.2.1
            · rw [← b5 b hb]; exact F7.out g5 z5 q5.2.1
            · rcases List.mem_append.1 hq with h | h
              · exact H6.out q h
              · rw [List.mem_singleton.1 h]; exact HSp.out
            · rw [← b3 b hb]
              (refine ⟨?_, q3.1, q3.2.1, fun e => q5.2.2.1 (b5 _ e)⟩)
              rcases q3.2.2.2.2 with h | h
              · exact Or.inl h
              · exact Or.inr ⟨h, by omega⟩
            · rw [← b5 b hb]
              refine ⟨?_, q5.1, q5.2.1⟩
              rcases q5.2.2.2.2 with h | h
              · exact Or.inl h
              · exact Or.inr ⟨h, by omega⟩
          obtain ⟨tm, df⟩ := a; (obtain ⟨ys, hys, htm, rfl⟩ := frame_mid2 57 6 (by kernel_rfl) (Nat.le_of_ble_eq_true rfl) hold); obtain ⟨x57, x58, x59, x60, x61, x62, rfl⟩ := rowOf6 ys hys; simp only [List.take_succ_cons, List.take_zero, List.drop_succ_cons, List.drop_zero, List.cons_append, List.nil_append] at htm; subst htm; refine hK.out _ _ ?_; clear hK hold hgot hys t60 t61 t62 hmx hown7 hgrow7 hB F7 HM7 HH1 HH2 HMap HKey; go_wp2_with fail; go_ret; exact ⟨rfl, HTab.out, K7.out⟩
end Go.Proofs.Ytmahgfgndfcmpah
