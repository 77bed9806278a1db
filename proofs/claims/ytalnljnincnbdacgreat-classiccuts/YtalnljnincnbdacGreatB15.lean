/- Texts of one proof, one behind the other: KT1, KT2, KT3. -/
import Derived.Test.YtalnljnincnbdacGreatB01
import Derived.Maps.OwnSet
import Derived.Maps.OwnOps
import Derived.DeepKeys4
import Derived.Test.YtalnljnincnbdacGreatB14
import Derived.Test.YtalnljnincnbdacGreatB13
import Derived.Test.YtalnljnincnbdacGreatB07
import Derived.Test.YtalnljnincnbdacGreatB10
/- Parts as keys of a map. -/
namespace Go.Proofs.YtalnljnincnbdacGreat
open Go.RowKit Go.Maps

theorem laidP : laidOutB Tryz.prog = true := by kernel_rfl
theorem partLaw : Keyed Tryz.prog 158 := Keyed.of_law (deep_law_laid laidP (m := 3) (by omega) (of_decide_eq_true (by kernel_rfl)) (by kernel_rfl) (by kernel_rfl))
def partLits (k : Int) (n : List UInt8) (c a b : Int) : List Lit := [.int .i64 k, .string n, .int .i64 c, .int .i64 a, .int .i64 b]
theorem keyPart (k : Int) (n : ByteArray) (c a b : Int) (hk : (Lit.int .i64 k).wf = true) (hc : (Lit.int .i64 c).wf = true) (ha : (Lit.int .i64 a).wf = true) (hb : (Lit.int .i64 b).wf = true) (hn : n.size ≤ maxLen) :
    keyOf Tryz.prog 158 (.agg #[.int .i64 k, .string n, .int .i64 c, .int .i64 a, .int .i64 b]) = some (.string (keyBytes (partLits k n.data.toList c a b))) := by
  (have h1 : Tryz.prog.keyType 158 = true := by kernel_rfl); (have h2 : (Value.agg #[.int .i64 k, .string n, .int .i64 c, .int .i64 a, .int .i64 b]).formed Tryz.prog 158 = true := by kernel_rfl); (obtain ⟨d, hd⟩ : ∃ d, Tryz.prog.types.size = d + 2 := ⟨Tryz.prog.types.size - 2, by kernel_rfl⟩); unfold keyOf; rw [Tryz.underlying158]; simp only [h1, h2, hd]; (have c1 : Tryz.prog.cellsOf 3 = 1 := by kernel_rfl); (have c2 : Tryz.prog.cellsOf 9 = 1 := by kernel_rfl); (have c3 : Tryz.prog.cellsOf 67 = 2 := by kernel_rfl); (have c4 : Tryz.prog.cellsOf 158 = 5 := by kernel_rfl); simp [Program.keyLits, Value.cells, partLits, Tryz.underlying158, Tryz.underlying3, Tryz.underlying9, Tryz.underlying67, c1, c2, c3, c4, hk, hc, ha, hb, hn, List.range, List.range.loop]
theorem partLits_inj {k k' : Int} {n n' : List UInt8} {c c' a a' b b' : Int} (hk : (Lit.int .i64 k).wf = true) (hc : (Lit.int .i64 c).wf = true) (ha : (Lit.int .i64 a).wf = true) (hb : (Lit.int .i64 b).wf = true) (hn : n.length ≤ maxLen) (hk' : (Lit.int .i64 k').wf = true) (hc' : (Lit.int .i64 c').wf = true) (ha' : (Lit.int .i64 a').wf = true) (hb' : (Lit.int .i64 b').wf = true) (hn' : n'.length ≤ maxLen)
    (e : keyBytes (partLits k n c a b) = keyBytes (partLits k' n' c' a' b')) : k = k' ∧ n = n' ∧ c = c' ∧ a = a' ∧ b = b' := by
  have h := keyBytes_inj (l := partLits k n c a b) (l' := partLits k' n' c' a' b') ⟨rfl, trivial, rfl, rfl, rfl, trivial⟩ (by
    intro x hx; simp [partLits] at hx
    rcases hx with rfl | rfl | rfl | rfl | rfl
    · exact hk
    · exact hn
    · exact hc
    · exact ha
    · exact hb) (by
    intro x hx; simp [partLits] at hx
    rcases hx with rfl | rfl | rfl | rfl | rfl
    · exact hk'
    · exact hn'
    · exact hc'
    · exact ha'
    · exact hb') e
  simpa [partLits] using h
end Go.Proofs.YtalnljnincnbdacGreat
/- The table of parts in memory. -/
namespace Go.Proofs.YtalnljnincnbdacGreat
open Go.RowKit Go.Maps Go.WideMaps

def partCells (p : PartM) : List Value := [.int .i64 p.kind, .string p.name, .int .i64 (p.kids.length : Nat), .int .i64 (p.k0 : Nat), .int .i64 (p.k1 : Nat)]
def partKey (p : PartM) : Lit := .string (keyBytes (partLits p.kind p.name.data.toList (p.kids.length : Nat) (p.k0 : Nat) (p.k1 : Nat)))
/-- Parts as they come of formulas that are fine. -/
structure PartSmall (p : PartM) : Prop where
  kind : 0 ≤ p.kind ∧ p.kind ≤ 100
  name : p.name.size ≤ maxLen
  two : p.kids.length ≤ 2
  kids : ∀ j ∈ p.kids, j < 1000000
theorem kid_small {p : PartM} (h : PartSmall p) : p.k0 < 1000000 ∧ p.k1 < 1000000 := by
  unfold PartM.k0 PartM.k1; obtain ⟨-, -, -, hk⟩ := h; obtain ⟨a, b, ks⟩ := p; simp only at hk ⊢
  match ks, hk with
  | [], _ => exact ⟨by decide, by decide⟩
  | [x], hk => exact ⟨hk x (by simp), by simp⟩
  | x :: y :: _, hk => exact ⟨hk x (by simp), hk y (by simp)⟩
theorem kids_of {a b : List Nat} (ha : a.length ≤ 2) (hl : a.length = b.length) (h0 : a.getD 0 0 = b.getD 0 0) (h1 : a.getD 1 0 = b.getD 1 0) : a = b := by
  match a, b, hl with
  | [], [], _ => rfl
  | [x], [y], _ => simpa using h0
  | [x, x'], [y, y'], _ =>
    (have e0 : x = y := by simpa using h0); (have e1 : x' = y' := by simpa using h1)
    rw [e0, e1]
  | _ :: _ :: _ :: _, _, _ => simp at ha
theorem partKey_inj {p q : PartM} (hp : PartSmall p) (hq : PartSmall q) (e : partKey p = partKey q) : p = q := by
  have kp := kid_small hp; have kq := kid_small hq; have tp := hp.two; have tq := hq.two; unfold partKey at e; (have e' : keyBytes (partLits p.kind p.name.data.toList (p.kids.length : Nat) (p.k0 : Nat) (p.k1 : Nat)) = keyBytes (partLits q.kind q.name.data.toList (q.kids.length : Nat) (q.k0 : Nat) (q.k1 : Nat)) := by injection e); (obtain ⟨e1, e2, e3, e4, e5⟩ := partLits_inj (WalkArith.wf_i64 (by have := hp.kind; omega)) (WalkArith.wf_i64 (by omega)) (WalkArith.wf_i64 (by omega)) (WalkArith.wf_i64 (by omega)) (show p.name.data.toList.length ≤ maxLen from hp.name) (WalkArith.wf_i64 (by have := hq.kind; omega)) (WalkArith.wf_i64 (by omega)) (WalkArith.wf_i64 (by omega)) (WalkArith.wf_i64 (by omega)) (show q.name.data.toList.length ≤ maxLen from hq.name) e'); (have e6 : p.kids = q.kids := kids_of tp (by omega) (by unfold PartM.k0 at e4; omega) (by unfold PartM.k1 at e5; omega)); (have e7 : p.name = q.name := by apply ByteArray.ext; apply Array.ext'; exact e2)
  cases p
  cases q
  simp only at e1 e6 e7; rw [e1, e6, e7]
/-- The parts' numbers, in a map. -/
def TM (w : World) (b : Nat) (ps : List PartM) : Prop := ∃ (n : Nat) (D : DataW Unit), w.ownsMap Tryz.prog 158 (plainElem Tryz.prog 3) b n D ∧ n ≤ ps.length ∧ (∀ p, PartSmall p → Maps.has D (partKey p) = decide (p ∈ ps)) ∧ ∀ p, p ∈ ps → ∃ i, ps[i]? = some p ∧ ∀ z, D.atKey (partKey p) z = .lit (.int .i64 (i : Nat))
theorem TM.nil {w : World} : TM (w.alloc (.map #[] 0)) w.heap.size [] :=
  ⟨0, .map [], World.ownsMap_made _ _ _ _, Nat.le_refl _, fun s _ => by simp [has_eq], fun s h => by cases h⟩
theorem TM.snoc {w' : World} {b : Nat} {ps : List PartM} {t : PartM} {n : Nat} {D : DataW Unit} (hsm : ∀ p ∈ ps, PartSmall p) (ht : PartSmall t) (hn : n ≤ ps.length) (hD : IsMap D) (h1 : ∀ s, PartSmall s → Maps.has D (partKey s) = decide (s ∈ ps)) (h2 : ∀ s, s ∈ ps → ∃ i, ps[i]? = some s ∧ ∀ z, D.atKey (partKey s) z = .lit (.int .i64 (i : Nat)))
    (h : w'.ownsMap Tryz.prog 158 (plainElem Tryz.prog 3) b (n + 1) (D.put (partKey t) (.lit (.int .i64 (ps.length : Nat))))) : TM w' b (ps ++ [t]) := by
  (have hk : WideAt.IsKeyLit (partKey t) := by unfold partKey; first | trivial | exact True.intro | simp [WideAt.IsKeyLit]); (refine ⟨n + 1, _, h, by simp; omega, fun s hs => ?_, fun s hs => ?_⟩)
  · by_cases e : s = t
    · subst e; rw [has_put_same hD hk]; simp
    · rw [has_put_other (fun h => e (by first | exact partKey_inj hs ht h | exact (partKey_inj ht hs h).symm)), h1 s hs]; simp [e]
  · by_cases e : s = t
    · subst e
      (exact ⟨ps.length, by simp, fun z => atKey_put_same hD hk _ z⟩)
    · have hs' : s ∈ ps := by simpa [e] using hs
      have hss := hsm s hs'; obtain ⟨i, hi, hz⟩ := h2 s hs'; (refine ⟨i, ?_, fun z => ?_⟩)
      · rw [List.getElem?_append_left (List.getElem?_eq_some_iff.1 hi).1]; exact hi
      · rw [atKey_put_other (fun h => e (by first | exact partKey_inj hss ht h | exact (partKey_inj ht hss h).symm))]; exact hz z
theorem TM.same {w w' : World} {b : Nat} {ps : List PartM} (h : TM w b ps) (e : w'.heap[b]? = w.heap[b]?) : TM w' b ps := by
  obtain ⟨n, D, ⟨es, clock, hb, r⟩, r2⟩ := h; exact ⟨n, D, ⟨es, clock, e.trans hb, r⟩, r2⟩

/-- The table: where it lies (block bt), what of memory is its own (T). -/
def TabAt (w : World) (T : Nat → Prop) (bt : Nat) (ps : List PartM) (ns : List Nat) : Prop :=
  ∃ adP cP adN cN bm, w.heap[bt]? = some (.cells #[.slice adP ps.length cP, .slice adN ns.length cN, .map (some bm)] 148 (0, 0)) ∧ ns.length = ps.length ∧
    w.ownsRow 0 158 5 (.slice adP ps.length cP) ps.length (ps.flatMap partCells) ∧ w.ownsRow 0 3 1 (.slice adN ns.length cN) ns.length (ns.map fun n => .int .i64 (n : Nat)) ∧ TM w bm ps ∧
    (∀ p ∈ ps, PartSmall p) ∧ T bt ∧ T bm ∧ bt ≠ bm ∧ (∀ b, (Value.slice adP ps.length cP).ownBlock = some b → T b ∧ b ≠ bt ∧ b ≠ bm ∧ (Value.slice adN ns.length cN).ownBlock ≠ some b) ∧ ∀ b, (Value.slice adN ns.length cN).ownBlock = some b → T b ∧ b ≠ bt ∧ b ≠ bm
theorem TabAt.same {w w' : World} {T : Nat → Prop} {bt : Nat} {ps : List PartM} {ns : List Nat} (h : TabAt w T bt ps ns) (hk : ∀ b, T b → b < w.heap.size → w'.heap[b]? = w.heap[b]?) : TabAt w' T bt ps ns := by
  obtain ⟨adP, cP, adN, cN, bm, h1, h2, h3, h4, h5, h6, h7, h8, h9, h10, h11⟩ := h
  have hm : bm < w.heap.size := by
    obtain ⟨n, D, ⟨es, clock, hb, -⟩, -⟩ := h5; exact lt_of_block hb
  have row : ∀ {sz n} {τ : TypeId} {v : Value} {cs : List Value}, w.ownsRow 0 τ sz v n cs → (∀ b, v.ownBlock = some b → T b) → w'.ownsRow 0 τ sz v n cs := by
    intro sz n τ v cs ho ht; obtain ⟨g1, g2⟩ := ho; refine ⟨g1, ?_⟩
    rcases g2 with g2 | ⟨g, cap, cur, hv, hg, hh, r⟩
    · exact Or.inl g2
    · exact Or.inr ⟨g, cap, cur, hv, hg, (hk g (ht g (by rw [hv]; rfl)) (lt_of_block hh)).trans hh, r⟩
  (exact ⟨adP, cP, adN, cN, bm, (hk bt h7 (lt_of_block h1)).trans h1, h2, row h3 fun b hb => (h10 b hb).1, row h4 fun b hb => (h11 b hb).1, h5.same (hk bm h8 hm), h6, h7, h8, h9, h10, h11⟩)
theorem TabAt.more {w : World} {T T' : Nat → Prop} {bt : Nat} {ps : List PartM} {ns : List Nat} (h : TabAt w T bt ps ns) (ht : ∀ b, T b → T' b) : TabAt w T' bt ps ns := by
  obtain ⟨adP, cP, adN, cN, bm, h1, h2, h3, h4, h5, h6, h7, h8, h9, h10, h11⟩ := h; (exact ⟨adP, cP, adN, cN, bm, h1, h2, h3, h4, h5, h6, ht _ h7, ht _ h8, h9, fun b hb => ⟨ht _ (h10 b hb).1, (h10 b hb).2⟩, fun b hb => ⟨ht _ (h11 b hb).1, (h11 b hb).2⟩⟩)
end Go.Proofs.YtalnljnincnbdacGreat
/- Walks: a new table; what it holds. -/
namespace Go.Proofs.YtalnljnincnbdacGreat
open Go.RowKit Go.Maps Go.WideMaps

theorem blk5 {w : World} {b : Nat} {c0 c1 c2 c3 c4 : Value} {T : TypeId} (h : w.heap[b]? = some (.cells #[c0, c1, c2, c3, c4] T (0, 0))) : w.cell? ⟨b, 0, none⟩ = some c0 ∧ w.cell? ⟨b, 1, none⟩ = some c1 ∧ w.cell? ⟨b, 2, none⟩ = some c2 ∧ w.cell? ⟨b, 3, none⟩ = some c3 ∧ w.cell? ⟨b, 4, none⟩ = some c4 ∧ w.frozen? ⟨b, 0, none⟩ = false ∧ w.frozen? ⟨b, 1, none⟩ = false ∧ w.frozen? ⟨b, 2, none⟩ = false ∧ w.frozen? ⟨b, 3, none⟩ = false ∧ w.frozen? ⟨b, 4, none⟩ = false :=
  ⟨blk_cell h 0, blk_cell h 1, blk_cell h 2, blk_cell h 3, blk_cell h 4, blk_fz h 0, blk_fz h 1, blk_fz h 2, blk_fz h 3, blk_fz h 4⟩
theorem flat_at : ∀ (ps : List PartM) (n : Nat) (p : PartM), ps[n]? = some p → ∀ i, i < 5 → (ps.flatMap partCells)[n * 5 + i]? = (partCells p)[i]?
  | [], n, p, h, _, _ => by simp at h
  | q :: ps, 0, p, h, i, hi => by
    (have e : q = p := by simpa using h); subst e
    rw [List.flatMap_cons, List.getElem?_append_left (by simp [partCells]; omega), Nat.zero_mul, Nat.zero_add]
  | q :: ps, n + 1, p, h, i, hi => by
    (rw [List.flatMap_cons, List.getElem?_append_right (by simp [partCells]; omega)]); (have := flat_at ps n p (by simpa using h) i hi); rw [← this]
    congr 1
    simp [partCells]; omega
theorem row_caps {B : Nat} {w : World} {T : TypeId} {sz n cap : Nat} {ad : Option Addr} {cs : List Value} (h : w.ownsRow B T sz (.slice ad n cap) n cs) : n ≤ cap ∧ cap ≤ maxLen := by
  rcases h.2 with ⟨hv, h0⟩ | ⟨g, cap', cur, hv, -, -, h1, h2, -⟩
  · simp only [Value.slice.injEq] at hv
    (exact ⟨by omega, by rw [hv.2.2]; simp⟩)
  · simp only [Value.slice.injEq, true_and] at hv
    rw [hv.2]; exact ⟨h1, h2⟩
/-- A part's cells, and how many nodes it has. -/
theorem TabAt.at' {w : World} {T : Nat → Prop} {bt : Nat} {ps : List PartM} {ns : List Nat} (h : TabAt w T bt ps ns) {n : Nat} {p : PartM} (hp : ps[n]? = some p) :
    ∃ g cP g' cN bm m, w.heap[bt]? = some (.cells #[.slice (some ⟨g, 0, none⟩) ps.length cP, .slice (some ⟨g', 0, none⟩) ns.length cN, .map (some bm)] 148 (0, 0)) ∧ ps.length ≤ cP ∧ cP ≤ maxLen ∧ ns.length ≤ cN ∧ cN ≤ maxLen ∧ ns[n]? = some m ∧
      w.cell? ⟨g, n * 5, none⟩ = some (.int .i64 p.kind) ∧ w.cell? ⟨g, n * 5 + 1, none⟩ = some (.string p.name) ∧ w.cell? ⟨g, n * 5 + 2, none⟩ = some (.int .i64 (p.kids.length : Nat)) ∧ w.cell? ⟨g, n * 5 + 3, none⟩ = some (.int .i64 (p.k0 : Nat)) ∧ w.cell? ⟨g, n * 5 + 4, none⟩ = some (.int .i64 (p.k1 : Nat)) ∧ w.cell? ⟨g', n, none⟩ = some (.int .i64 (m : Nat)) := by
  obtain ⟨adP, cP, adN, cN, bm, h1, h2, h3, h4, -⟩ := h; have hlt := (List.getElem?_eq_some_iff.1 hp).1; (obtain ⟨g, rfl, hg⟩ := row_cells h3 (by omega)); (obtain ⟨g', rfl, hg'⟩ := row_cells h4 (by omega)); (obtain ⟨m, hm⟩ : ∃ m, ns[n]? = some m := ⟨_, List.getElem?_eq_getElem (by omega)⟩)
  have c : ∀ i, i < 5 → ∀ u, (partCells p)[i]? = some u → w.cell? ⟨g, n * 5 + i, none⟩ = some u := fun i hi u hu => by
    have := hg (n * 5 + i) u ((flat_at ps n p hp i hi).trans hu); rw [add_none, Nat.zero_add] at this; exact this
  (have d := hg' n (.int .i64 (m : Nat)) (by rw [List.getElem?_map, hm]; rfl)); rw [add_none, Nat.zero_add] at d; (exact ⟨g, cP, g', cN, bm, m, h1, (row_caps h3).1, (row_caps h3).2, (row_caps h4).1, (row_caps h4).2, hm, c 0 (by omega) _ rfl, c 1 (by omega) _ rfl, c 2 (by omega) _ rfl, c 3 (by omega) _ rfl, c 4 (by omega) _ rfl, d⟩)

set_option maxHeartbeats 2000000 in
theorem pnew_any (w : World) : Calls Tryz.prog 46 #[] w fun e w' => e = .returned (.pointer (some ⟨w.heap.size + 1, 0, none⟩)) ∧ TabAt w' (fun b => w.heap.size ≤ b ∧ b < w'.heap.size) (w.heap.size + 1) [] [] ∧ Below w.heap.size w w' := by
  have hmm := @run_makeMap Tryz.prog
  go_enter Tryz.func46, Tryz.ntmps46
  go_wp2_with fail; go_ret; refine ⟨rfl, ?_, below_more (below_more (Below.refl _ w) _) _⟩; (refine ⟨none, 0, none, 0, w.heap.size, blk_two w _ _, rfl, ⟨rfl, Or.inl ⟨rfl, rfl⟩⟩, ⟨rfl, Or.inl ⟨rfl, rfl⟩⟩, TM.nil.same (Below.heap_alloc _ _ _ (by simp)), (fun p hp => by cases hp), ⟨by omega, by simp⟩, ⟨by omega, by simp; omega⟩, by omega, (fun b hb => by cases hb), fun b hb => by cases hb⟩)

set_option maxHeartbeats 2000000 in
theorem plen_any (w : World) (T : Nat → Prop) (bt : Nat) (ps : List PartM) (ns : List Nat) (h : TabAt w T bt ps ns) : Calls Tryz.prog 82 #[.pointer (some ⟨bt, 0, none⟩)] w fun e w' => e = .returned (.int .i64 (ps.length : Nat)) ∧ w' = w := by
  obtain ⟨adP, cP, adN, cN, bm, h1, -⟩ := h; obtain ⟨j0, j1, j2, -⟩ := blk3 h1; clear h1
  go_enter Tryz.func82, Tryz.ntmps82
  go_wp2_with fail; go_ret; exact ⟨rfl, rfl⟩
set_option maxHeartbeats 2000000 in
theorem ppart_any (w : World) (T : Nat → Prop) (bt : Nat) (ps : List PartM) (ns : List Nat) (h : TabAt w T bt ps ns) (n : Nat) (p : PartM) (hp : ps[n]? = some p) : Calls Tryz.prog 99 #[.pointer (some ⟨bt, 0, none⟩), .int .i64 (n : Nat)] w fun e w' => e = .returned (.agg ⟨partCells p⟩) ∧ Below w.heap.size w w' := by
  have hlt := (List.getElem?_eq_some_iff.1 hp).1; obtain ⟨g, cP, g', cN, bm, m, h1, h2, h3, h4, h5, h6, c0, c1, c2, c3, c4, -⟩ := h.at' hp; obtain ⟨j0, j1, j2, -⟩ := blk3 h1; (have hI : (n : Int) < (ps.length : Int) := by omega); (have hI2 : (n : Int) < (cP : Int) := by omega); have zb := lt_of_cell c0; have zt := lt_of_block h1; clear h h1; unfold partCells
  go_enter Tryz.func99, Tryz.ntmps99
  go_wp2_with fail; (exact bodyPost_ret (v := .agg #[.int .i64 p.kind, .string p.name, .int .i64 (p.kids.length : Nat), .int .i64 (p.k0 : Nat), .int .i64 (p.k1 : Nat)]) (by simp [results, Tryz.results99, go_sem]) rfl ⟨rfl, below_more (Below.refl _ w) _⟩)
set_option maxHeartbeats 2000000 in
theorem pnodes_any (w : World) (T : Nat → Prop) (bt : Nat) (ps : List PartM) (ns : List Nat) (h : TabAt w T bt ps ns) (n m : Nat) (p : PartM) (hp : ps[n]? = some p) (hm : ns[n]? = some m) : Calls Tryz.prog 192 #[.pointer (some ⟨bt, 0, none⟩), .int .i64 (n : Nat)] w fun e w' => e = .returned (.int .i64 (m : Nat)) ∧ w' = w := by
  have hlt := (List.getElem?_eq_some_iff.1 hm).1; obtain ⟨g, cP, g', cN, bm, m', h1, h2, h3, h4, h5, h6, -, -, -, -, -, c0⟩ := h.at' hp; obtain rfl : m = m' := Option.some.inj (hm.symm.trans h6); obtain ⟨j0, j1, j2, -⟩ := blk3 h1; (have hI : (n : Int) < (ns.length : Int) := by omega); (have hI2 : (n : Int) < (cN : Int) := by omega); (have hI3 : (ns.length : Int) ≤ 9223372036854775807 := by unfold maxLen at h5; omega); clear h h1
  go_enter Tryz.func192, Tryz.ntmps192
  go_wp2_with fail; go_ret; exact ⟨rfl, rfl⟩
end Go.Proofs.YtalnljnincnbdacGreat
