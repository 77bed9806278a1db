/- Texts of one proof, one behind the other: CW6, YM1, KM1, KT2, KT3. -/
import Derived.Test.YtmahgfgndfcmpagB04
import Derived.Maps.OwnSet
import Derived.Shelf.SlMaps.Copy
import Derived.Test.YtmahgfgndfcmpagB01
import Derived.Laws.BitsLemmas
import Derived.Deep.RegionHeld3
import Derived.Deep.RegionLaw
import Derived.Deep.DeepCutAuto
import Derived.Sort.Walk0
import Derived.Deep.AppendSrc
/- Walks: Steps. -/
namespace Go.Proofs.Ytmahgfgndfcmpag
open Go.RowKit

theorem infoInt : ∃ i, Try.prog.info? 3 = some i ∧ i.zero = some (.int .i64 0) ∧ i.size = 1 ∧ i.bytes = 8 := by
  (obtain ⟨i, hi, h⟩ := Option.map_eq_some_iff.1 (show (Try.prog.info? 3).map (fun i => (i.zero, i.size, i.bytes)) = some (some (.int .i64 0), 1, 8) by kernel_rfl)); simp only [Prod.mk.injEq] at h; exact ⟨i, hi, h.1, h.2.1, h.2.2⟩
theorem owns_keep {B : Nat} {w w' : World} {T : TypeId} {sz n : Nat} {v : Value} {cs : List Value} (h : w.ownsRow B T sz v n cs) (hb : ∀ b, v.ownBlock = some b → w'.heap[b]? = w.heap[b]?) : w'.ownsRow B T sz v n cs := by
  obtain ⟨h1, h2⟩ := h; refine ⟨h1, ?_⟩
  rcases h2 with h2 | ⟨g, cap, cur, hv, hg, hh, r⟩
  · exact Or.inl h2
  · exact Or.inr ⟨g, cap, cur, hv, hg, (hb g (by rw [hv]; rfl)).trans hh, r⟩
/-- Where the cells of a row lie. -/
theorem row_cells {B : Nat} {w : World} {T : TypeId} {sz n cap : Nat} {ad : Option Addr} {cs : List Value} (h : w.ownsRow B T sz (.slice ad n cap) n cs) (hn : 0 < n) : ∃ g, ad = some ⟨g, 0, none⟩ ∧ ∀ j u, cs[j]? = some u → w.cell? ((⟨g, 0, none⟩ : Addr).add j) = some u := by
  obtain ⟨g, cap', hv, -⟩ := h.form hn; simp only [Value.slice.injEq, true_and] at hv; obtain ⟨rfl, -⟩ := hv; (exact ⟨g, rfl, fun j u hu => h.cells rfl j u hu⟩)
end Go.Proofs.Ytmahgfgndfcmpag
/- The yardstick's premises, against the rules: plain. -/
namespace Go.Proofs.Ytmahgfgndfcmpag

def zeroF : Fm := .mk 0 ⟨#[]⟩ []
/-! Steps, as the yardstick lists them. -/
end Go.Proofs.Ytmahgfgndfcmpag
/- A table of formulas, sequents of numbers, and how a search takes them apart: plain. -/
namespace Go.Proofs.Ytmahgfgndfcmpag

/-- A part: a formula with the numbers of what is in it. -/
structure PartM where
  kind : Int
  name : ByteArray
  kids : List Nat
  deriving DecidableEq
def PartM.fm (fs : List Fm) (p : PartM) : Fm := .mk p.kind p.name (p.kids.map fun j => fs.getD j zeroF)
/-- The parts and the formulas that they are, each once, those in a formula ahead of it. -/
structure TabOk (ps : List PartM) (fs : List Fm) : Prop where
  len : ps.length = fs.length
  nodup : fs.Nodup
  at' : ∀ (n : Nat) (p : PartM), ps[n]? = some p → (∀ j ∈ p.kids, j < n) ∧ fs[n]? = some (p.fm fs)
theorem TabOk.nil : TabOk [] [] := ⟨rfl, List.nodup_nil, fun n p h => by simp at h⟩
theorem getD_lt {fs : List Fm} {j : Nat} (h : j < fs.length) : fs[j]? = some (fs.getD j zeroF) := by
  rw [List.getD_eq_getElem?_getD, List.getElem?_eq_getElem h]; rfl
theorem nodup_inj {fs : List Fm} (h : fs.Nodup) {i j : Nat} (hi : i < fs.length) (hj : j < fs.length) (e : fs.getD i zeroF = fs.getD j zeroF) : i = j := by
  have h1 := getD_lt hi; have h2 := getD_lt hj; rw [e, ← h2] at h1; exact (List.getElem?_inj hi h).1 h1
theorem kids_inj {fs : List Fm} (h : fs.Nodup) : ∀ {a b : List Nat}, (∀ j ∈ a, j < fs.length) → (∀ j ∈ b, j < fs.length) → (a.map fun j => fs.getD j zeroF) = (b.map fun j => fs.getD j zeroF) → a = b
  | [], [], _, _, _ => rfl
  | [], _ :: _, _, _, e => by simp at e
  | _ :: _, [], _, _, e => by simp at e
  | x :: a, y :: b, h1, h2, e => by
    rw [List.map_cons, List.map_cons] at e
    injection e with e1 e2
    (rw [nodup_inj h (h1 x List.mem_cons_self) (h2 y List.mem_cons_self) e1, kids_inj h (fun j hj => h1 j (List.mem_cons_of_mem _ hj)) (fun j hj => h2 j (List.mem_cons_of_mem _ hj)) e2])
/-- A part that is there is the formula's. -/
theorem TabOk.found {ps : List PartM} {fs : List Fm} (h : TabOk ps fs) {p : PartM} {n : Nat} (hn : ps[n]? = some p) : fs[n]? = some (p.fm fs) := (h.at' n p hn).2
/-- One that is not there is new. -/
theorem TabOk.fresh {ps : List PartM} {fs : List Fm} (h : TabOk ps fs) {p : PartM} (hk : ∀ j ∈ p.kids, j < fs.length) (hn : p ∉ ps) : p.fm fs ∉ fs := by
  intro hm; obtain ⟨n, hn'⟩ := List.getElem?_of_mem hm; (have hlt : n < ps.length := by rw [h.len]; exact (List.getElem?_eq_some_iff.1 hn').1); have hp := List.getElem?_eq_getElem hlt; obtain ⟨hq, hf⟩ := h.at' n _ hp; rw [hn'] at hf; have e := Option.some.inj hf; unfold PartM.fm at e
  injection e with e1 e2 e3
  (have e4 := kids_inj h.nodup hk (fun j hj => by have := hq j hj; rw [← h.len]; omega) e3)
  have e5 : p = ps[n] := by
    cases p
    cases hps : ps[n]
    rw [hps] at e1 e2 e4; simp only at e1 e2 e4; rw [e1, e2, e4]
  exact hn (e5 ▸ List.getElem_mem hlt)
theorem fm_grow {fs gs : List Fm} {p : PartM} (hk : ∀ j ∈ p.kids, j < fs.length) : p.fm (fs ++ gs) = p.fm fs := by
  unfold PartM.fm
  congr 1
  (refine List.map_congr_left fun j hj => ?_); rw [List.getD_eq_getElem?_getD, List.getD_eq_getElem?_getD, List.getElem?_append_left (hk j hj)]
theorem TabOk.snoc {ps : List PartM} {fs : List Fm} (h : TabOk ps fs) {p : PartM} (hk : ∀ j ∈ p.kids, j < fs.length) (hn : p ∉ ps) : TabOk (ps ++ [p]) (fs ++ [p.fm fs]) := by
  (refine ⟨by simp [h.len], ?_, fun n q hq => ?_⟩)
  · rw [List.nodup_append]
    (refine ⟨h.nodup, by simp, fun a ha b hb => ?_⟩); simp at hb; subst hb; (exact fun e => h.fresh hk hn (e ▸ ha))
  · rcases Nat.lt_or_ge n ps.length with hlt | hge
    · rw [List.getElem?_append_left hlt] at hq
      obtain ⟨h1, h2⟩ := h.at' n q hq; refine ⟨h1, ?_⟩; (rw [List.getElem?_append_left (by rw [← h.len]; exact hlt), h2, fm_grow fun j hj => by have := h1 j hj; rw [← h.len]; omega])
    · rw [List.getElem?_append_right hge] at hq
      have : n - ps.length = 0 := by
        rcases Nat.eq_zero_or_pos (n - ps.length) with h0 | h0
        · exact h0
        · rw [List.getElem?_eq_none (by simp; omega)] at hq; cases hq
      rw [this] at hq; simp at hq; subst hq; (have hn0 : n = ps.length := by omega); subst hn0; (refine ⟨fun j hj => by rw [h.len]; exact hk j hj, ?_⟩); rw [h.len, List.getElem?_append_right (Nat.le_refl _), Nat.sub_self, fm_grow hk]; rfl

/-! Items: a formula's number at a side: twice it at the left, one more at the right. -/
def PartM.k0 (p : PartM) : Nat := p.kids.getD 0 0
def PartM.k1 (p : PartM) : Nat := p.kids.getD 1 0
end Go.Proofs.Ytmahgfgndfcmpag
/- The table of parts in memory. -/
namespace Go.Proofs.Ytmahgfgndfcmpag
open Go.RowKit Go.Maps Go.WideMaps

def partCells (p : PartM) : List Value := [.int .i64 p.kind, .string p.name, .int .i64 (p.kids.length : Nat), .int .i64 (p.k0 : Nat), .int .i64 (p.k1 : Nat)]
def partKey (p : PartM) : Lit := .string (keyBytes (partLits p.kind p.name.data.toList (p.kids.length : Nat) (p.k0 : Nat) (p.k1 : Nat)))
/-- Parts as they come of formulas that are fine. -/
structure PartSmall (p : PartM) : Prop where
  kind : 0 ≤ p.kind ∧ p.kind ≤ 100
  name : p.name.size ≤ maxLen
  two : p.kids.length ≤ 2
  kids : ∀ j ∈ p.kids, j < 1000000
theorem kid_small {p : PartM} (h : PartSmall p) : p.k0 < 1000000 ∧ p.k1 < 1000000 := by
  unfold PartM.k0 PartM.k1; obtain ⟨-, -, -, hk⟩ := h; obtain ⟨a, b, ks⟩ := p; simp only at hk ⊢
  match ks, hk with
  | [], _ => exact ⟨by decide, by decide⟩
  | [x], hk => exact ⟨hk x (by simp), by simp⟩
  | x :: y :: _, hk => exact ⟨hk x (by simp), hk y (by simp)⟩
theorem kids_of {a b : List Nat} (ha : a.length ≤ 2) (hl : a.length = b.length) (h0 : a.getD 0 0 = b.getD 0 0) (h1 : a.getD 1 0 = b.getD 1 0) : a = b := by
  match a, b, hl with
  | [], [], _ => rfl
  | [x], [y], _ => simpa using h0
  | [x, x'], [y, y'], _ =>
    (have e0 : x = y := by simpa using h0); (have e1 : x' = y' := by simpa using h1)
    rw [e0, e1]
  | _ :: _ :: _ :: _, _, _ => simp at ha
theorem partKey_inj {p q : PartM} (hp : PartSmall p) (hq : PartSmall q) (e : partKey p = partKey q) : p = q := by
  have kp := kid_small hp; have kq := kid_small hq; have tp := hp.two; have tq := hq.two; unfold partKey at e; (have e' : keyBytes (partLits p.kind p.name.data.toList (p.kids.length : Nat) (p.k0 : Nat) (p.k1 : Nat)) = keyBytes (partLits q.kind q.name.data.toList (q.kids.length : Nat) (q.k0 : Nat) (q.k1 : Nat)) := by injection e); (obtain ⟨e1, e2, e3, e4, e5⟩ := partLits_inj (WalkArith.wf_i64 (by have := hp.kind; omega)) (WalkArith.wf_i64 (by omega)) (WalkArith.wf_i64 (by omega)) (WalkArith.wf_i64 (by omega)) (show p.name.data.toList.length ≤ maxLen from hp.name) (WalkArith.wf_i64 (by have := hq.kind; omega)) (WalkArith.wf_i64 (by omega)) (WalkArith.wf_i64 (by omega)) (WalkArith.wf_i64 (by omega)) (show q.name.data.toList.length ≤ maxLen from hq.name) e'); (have e6 : p.kids = q.kids := kids_of tp (by omega) (by unfold PartM.k0 at e4; omega) (by unfold PartM.k1 at e5; omega)); (have e7 : p.name = q.name := by apply ByteArray.ext; apply Array.ext'; exact e2)
  cases p
  cases q
  simp only at e1 e6 e7; rw [e1, e6, e7]
/-- The parts' numbers, in a map. -/
def TM (w : World) (b : Nat) (ps : List PartM) : Prop := ∃ (n : Nat) (D : DataW Unit), w.ownsMap Try.prog 135 (plainElem Try.prog 3) b n D ∧ n ≤ ps.length ∧ (∀ p, PartSmall p → Maps.has D (partKey p) = decide (p ∈ ps)) ∧ ∀ p, p ∈ ps → ∃ i, ps[i]? = some p ∧ ∀ z, D.atKey (partKey p) z = .lit (.int .i64 (i : Nat))
theorem TM.nil {w : World} : TM (w.alloc (.map #[] 0)) w.heap.size [] :=
  ⟨0, .map [], World.ownsMap_made _ _ _ _, Nat.le_refl _, fun s _ => by simp [has_eq], fun s h => by cases h⟩
theorem TM.snoc {w' : World} {b : Nat} {ps : List PartM} {t : PartM} {n : Nat} {D : DataW Unit} (hsm : ∀ p ∈ ps, PartSmall p) (ht : PartSmall t) (hn : n ≤ ps.length) (hD : IsMap D) (h1 : ∀ s, PartSmall s → Maps.has D (partKey s) = decide (s ∈ ps)) (h2 : ∀ s, s ∈ ps → ∃ i, ps[i]? = some s ∧ ∀ z, D.atKey (partKey s) z = .lit (.int .i64 (i : Nat)))
    (h : w'.ownsMap Try.prog 135 (plainElem Try.prog 3) b (n + 1) (D.put (partKey t) (.lit (.int .i64 (ps.length : Nat))))) : TM w' b (ps ++ [t]) := by
  (have hk : WideAt.IsKeyLit (partKey t) := by unfold partKey; first | trivial | exact True.intro | simp [WideAt.IsKeyLit]); (refine ⟨n + 1, _, h, by simp; omega, fun s hs => ?_, fun s hs => ?_⟩)
  · by_cases e : s = t
    · subst e; rw [has_put_same hD hk]; simp
    · rw [has_put_other (fun h => e (by first | exact partKey_inj hs ht h | exact (partKey_inj ht hs h).symm)), h1 s hs]; simp [e]
  · by_cases e : s = t
    · subst e
      (exact ⟨ps.length, by simp, fun z => atKey_put_same hD hk _ z⟩)
    · have hs' : s ∈ ps := by simpa [e] using hs
      have hss := hsm s hs'; obtain ⟨i, hi, hz⟩ := h2 s hs'; (refine ⟨i, ?_, fun z => ?_⟩)
      · rw [List.getElem?_append_left (List.getElem?_eq_some_iff.1 hi).1]; exact hi
      · rw [atKey_put_other (fun h => e (by first | exact partKey_inj hss ht h | exact (partKey_inj ht hss h).symm))]; exact hz z
theorem TM.same {w w' : World} {b : Nat} {ps : List PartM} (h : TM w b ps) (e : w'.heap[b]? = w.heap[b]?) : TM w' b ps := by
  obtain ⟨n, D, ⟨es, clock, hb, r⟩, r2⟩ := h; exact ⟨n, D, ⟨es, clock, e.trans hb, r⟩, r2⟩

/-- The table: where it lies (block bt), what of memory is its own (T). -/
def TabAt (w : World) (T : Nat → Prop) (bt : Nat) (ps : List PartM) (ns : List Nat) : Prop :=
  ∃ adP cP adN cN bm, w.heap[bt]? = some (.cells #[.slice adP ps.length cP, .slice adN ns.length cN, .map (some bm)] 133 (0, 0)) ∧ ns.length = ps.length ∧
    w.ownsRow 0 135 5 (.slice adP ps.length cP) ps.length (ps.flatMap partCells) ∧ w.ownsRow 0 3 1 (.slice adN ns.length cN) ns.length (ns.map fun n => .int .i64 (n : Nat)) ∧ TM w bm ps ∧
    (∀ p ∈ ps, PartSmall p) ∧ T bt ∧ T bm ∧ bt ≠ bm ∧ (∀ b, (Value.slice adP ps.length cP).ownBlock = some b → T b ∧ b ≠ bt ∧ b ≠ bm ∧ (Value.slice adN ns.length cN).ownBlock ≠ some b) ∧ ∀ b, (Value.slice adN ns.length cN).ownBlock = some b → T b ∧ b ≠ bt ∧ b ≠ bm
theorem TabAt.same {w w' : World} {T : Nat → Prop} {bt : Nat} {ps : List PartM} {ns : List Nat} (h : TabAt w T bt ps ns) (hk : ∀ b, T b → b < w.heap.size → w'.heap[b]? = w.heap[b]?) : TabAt w' T bt ps ns := by
  obtain ⟨adP, cP, adN, cN, bm, h1, h2, h3, h4, h5, h6, h7, h8, h9, h10, h11⟩ := h
  have hm : bm < w.heap.size := by
    obtain ⟨n, D, ⟨es, clock, hb, -⟩, -⟩ := h5; exact lt_of_block hb
  have row : ∀ {sz n} {τ : TypeId} {v : Value} {cs : List Value}, w.ownsRow 0 τ sz v n cs → (∀ b, v.ownBlock = some b → T b) → w'.ownsRow 0 τ sz v n cs := by
    intro sz n τ v cs ho ht; obtain ⟨g1, g2⟩ := ho; refine ⟨g1, ?_⟩
    rcases g2 with g2 | ⟨g, cap, cur, hv, hg, hh, r⟩
    · exact Or.inl g2
    · exact Or.inr ⟨g, cap, cur, hv, hg, (hk g (ht g (by rw [hv]; rfl)) (lt_of_block hh)).trans hh, r⟩
  (exact ⟨adP, cP, adN, cN, bm, (hk bt h7 (lt_of_block h1)).trans h1, h2, row h3 fun b hb => (h10 b hb).1, row h4 fun b hb => (h11 b hb).1, h5.same (hk bm h8 hm), h6, h7, h8, h9, h10, h11⟩)
end Go.Proofs.Ytmahgfgndfcmpag
/- Walks: a new table; what it holds. -/
namespace Go.Proofs.Ytmahgfgndfcmpag
open Go.RowKit Go.Maps Go.WideMaps

theorem blk5 {w : World} {b : Nat} {c0 c1 c2 c3 c4 : Value} {T : TypeId} (h : w.heap[b]? = some (.cells #[c0, c1, c2, c3, c4] T (0, 0))) : w.cell? ⟨b, 0, none⟩ = some c0 ∧ w.cell? ⟨b, 1, none⟩ = some c1 ∧ w.cell? ⟨b, 2, none⟩ = some c2 ∧ w.cell? ⟨b, 3, none⟩ = some c3 ∧ w.cell? ⟨b, 4, none⟩ = some c4 ∧ w.frozen? ⟨b, 0, none⟩ = false ∧ w.frozen? ⟨b, 1, none⟩ = false ∧ w.frozen? ⟨b, 2, none⟩ = false ∧ w.frozen? ⟨b, 3, none⟩ = false ∧ w.frozen? ⟨b, 4, none⟩ = false :=
  ⟨blk_cell h 0, blk_cell h 1, blk_cell h 2, blk_cell h 3, blk_cell h 4, blk_fz h 0, blk_fz h 1, blk_fz h 2, blk_fz h 3, blk_fz h 4⟩
theorem flat_at : ∀ (ps : List PartM) (n : Nat) (p : PartM), ps[n]? = some p → ∀ i, i < 5 → (ps.flatMap partCells)[n * 5 + i]? = (partCells p)[i]?
  | [], n, p, h, _, _ => by simp at h
  | q :: ps, 0, p, h, i, hi => by
    (have e : q = p := by simpa using h); subst e
    rw [List.flatMap_cons, List.getElem?_append_left (by simp [partCells]; omega), Nat.zero_mul, Nat.zero_add]
  | q :: ps, n + 1, p, h, i, hi => by
    (rw [List.flatMap_cons, List.getElem?_append_right (by simp [partCells]; omega)]); (have := flat_at ps n p (by simpa using h) i hi); rw [← this]
    congr 1
    simp [partCells]; omega
theorem row_caps {B : Nat} {w : World} {T : TypeId} {sz n cap : Nat} {ad : Option Addr} {cs : List Value} (h : w.ownsRow B T sz (.slice ad n cap) n cs) : n ≤ cap ∧ cap ≤ maxLen := by
  rcases h.2 with ⟨hv, h0⟩ | ⟨g, cap', cur, hv, -, -, h1, h2, -⟩
  · simp only [Value.slice.injEq] at hv
    (exact ⟨by omega, by rw [hv.2.2]; simp⟩)
  · simp only [Value.slice.injEq, true_and] at hv
    rw [hv.2]; exact ⟨h1, h2⟩
/-- A part's cells, and how many nodes it has. -/
theorem TabAt.at' {w : World} {T : Nat → Prop} {bt : Nat} {ps : List PartM} {ns : List Nat} (h : TabAt w T bt ps ns) {n : Nat} {p : PartM} (hp : ps[n]? = some p) :
    ∃ g cP g' cN bm m, w.heap[bt]? = some (.cells #[.slice (some ⟨g, 0, none⟩) ps.length cP, .slice (some ⟨g', 0, none⟩) ns.length cN, .map (some bm)] 133 (0, 0)) ∧ ps.length ≤ cP ∧ cP ≤ maxLen ∧ ns.length ≤ cN ∧ cN ≤ maxLen ∧ ns[n]? = some m ∧
      w.cell? ⟨g, n * 5, none⟩ = some (.int .i64 p.kind) ∧ w.cell? ⟨g, n * 5 + 1, none⟩ = some (.string p.name) ∧ w.cell? ⟨g, n * 5 + 2, none⟩ = some (.int .i64 (p.kids.length : Nat)) ∧ w.cell? ⟨g, n * 5 + 3, none⟩ = some (.int .i64 (p.k0 : Nat)) ∧ w.cell? ⟨g, n * 5 + 4, none⟩ = some (.int .i64 (p.k1 : Nat)) ∧ w.cell? ⟨g', n, none⟩ = some (.int .i64 (m : Nat)) := by
  obtain ⟨adP, cP, adN, cN, bm, h1, h2, h3, h4, -⟩ := h; have hlt := (List.getElem?_eq_some_iff.1 hp).1; (obtain ⟨g, rfl, hg⟩ := row_cells h3 (by omega)); (obtain ⟨g', rfl, hg'⟩ := row_cells h4 (by omega)); (obtain ⟨m, hm⟩ : ∃ m, ns[n]? = some m := ⟨_, List.getElem?_eq_getElem (by omega)⟩)
  have c : ∀ i, i < 5 → ∀ u, (partCells p)[i]? = some u → w.cell? ⟨g, n * 5 + i, none⟩ = some u := fun i hi u hu => by
    have := hg (n * 5 + i) u ((flat_at ps n p hp i hi).trans hu); rw [add_none, Nat.zero_add] at this; exact this
  (have d := hg' n (.int .i64 (m : Nat)) (by rw [List.getElem?_map, hm]; rfl)); rw [add_none, Nat.zero_add] at d; (exact ⟨g, cP, g', cN, bm, m, h1, (row_caps h3).1, (row_caps h3).2, (row_caps h4).1, (row_caps h4).2, hm, c 0 (by omega) _ rfl, c 1 (by omega) _ rfl, c 2 (by omega) _ rfl, c 3 (by omega) _ rfl, c 4 (by omega) _ rfl, d⟩)

set_option maxHeartbeats 2000000 in
theorem pnew_any (w : World) : Calls Try.prog 50 #[] w fun e w' => e = .returned (.pointer (some ⟨w.heap.size + 1, 0, none⟩)) ∧ TabAt w' (fun b => w.heap.size ≤ b ∧ b < w'.heap.size) (w.heap.size + 1) [] [] ∧ Below w.heap.size w w' := by
  have hmm := @run_makeMap Try.prog
  go_enter Try.func50, Try.ntmps50
  go_wp2_with fail; go_ret; refine ⟨rfl, ?_, below_more (below_more (Below.refl _ w) _) _⟩; (refine ⟨none, 0, none, 0, w.heap.size, blk_two w _ _, rfl, ⟨rfl, Or.inl ⟨rfl, rfl⟩⟩, ⟨rfl, Or.inl ⟨rfl, rfl⟩⟩, TM.nil.same (Below.heap_alloc _ _ _ (by simp)), (fun p hp => by cases hp), ⟨by omega, by simp⟩, ⟨by omega, by simp; omega⟩, by omega, (fun b hb => by cases hb), fun b hb => by cases hb⟩)

set_option maxHeartbeats 2000000 in
theorem plen_any (w : World) (T : Nat → Prop) (bt : Nat) (ps : List PartM) (ns : List Nat) (h : TabAt w T bt ps ns) : Calls Try.prog 52 #[.pointer (some ⟨bt, 0, none⟩)] w fun e w' => e = .returned (.int .i64 (ps.length : Nat)) ∧ w' = w := by
  obtain ⟨adP, cP, adN, cN, bm, h1, -⟩ := h; obtain ⟨j0, j1, j2, -⟩ := blk3 h1; clear h1
  go_enter Try.func52, Try.ntmps52
  go_wp2_with fail; go_ret; exact ⟨rfl, rfl⟩
set_option maxHeartbeats 2000000 in
theorem ppart_any (w : World) (T : Nat → Prop) (bt : Nat) (ps : List PartM) (ns : List Nat) (h : TabAt w T bt ps ns) (n : Nat) (p : PartM) (hp : ps[n]? = some p) : Calls Try.prog 130 #[.pointer (some ⟨bt, 0, none⟩), .int .i64 (n : Nat)] w fun e w' => e = .returned (.agg ⟨partCells p⟩) ∧ Below w.heap.size w w' := by
  have hlt := (List.getElem?_eq_some_iff.1 hp).1; obtain ⟨g, cP, g', cN, bm, m, h1, h2, h3, h4, h5, h6, c0, c1, c2, c3, c4, -⟩ := h.at' hp; obtain ⟨j0, j1, j2, -⟩ := blk3 h1; (have hI : (n : Int) < (ps.length : Int) := by omega); (have hI2 : (n : Int) < (cP : Int) := by omega); have zb := lt_of_cell c0; have zt := lt_of_block h1; clear h h1; unfold partCells
  go_enter Try.func130, Try.ntmps130
  go_wp2_with fail; (exact bodyPost_ret (v := .agg #[.int .i64 p.kind, .string p.name, .int .i64 (p.kids.length : Nat), .int .i64 (p.k0 : Nat), .int .i64 (p.k1 : Nat)]) (by simp [results, Try.results130, go_sem]) rfl ⟨rfl, below_more (Below.refl _ w) _⟩)
end Go.Proofs.Ytmahgfgndfcmpag
