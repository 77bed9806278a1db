/- Texts of one proof, one behind the other: FRA. -/
import Derived.Test.YtheiikkeelbjnajGreatB17
/- Expressions in memory of their own: for expressions that are read. -/
namespace Go.Proofs.YtheiikkeelbjnajGreat
open Go.RowKit Go.Sort

/-- A list of words whose blocks are of ok. -/
def WLQ (w : World) (ok : Nat → Prop) (sw : Option Addr) (cw : Nat) (ws : List Wd) : Prop := ws.length ≤ cw ∧ cw ≤ maxLen ∧ (ws ≠ [] → ∃ b off, sw = some ⟨b, off, none⟩ ∧ ok b ∧ WQs w ok b off ws)
mutual
/-- An expression whose words and kids lie in blocks of ok. -/
def EQ (w : World) (ok : Nat → Prop) : Ex → Value → Prop
  | .mk k n ws ks, v => ∃ sw cw sk ck, v = .agg #[.int .i64 k, .string n, .slice sw ws.length cw, .slice sk ks.length ck] ∧ n.size ≤ maxLen ∧ WLQ w ok sw cw ws ∧ ks.length ≤ ck ∧ ck ≤ maxLen ∧ (ks ≠ [] → ∃ b off, sk = some ⟨b, off, none⟩ ∧ ok b ∧ EQs w ok b off ks)
def EQs (w : World) (ok : Nat → Prop) (b : Nat) : Nat → List Ex → Prop
  | _, [] => True
  | off, x :: xs => (∃ c0 c1 c2 c3, w.cell? ⟨b, off, none⟩ = some c0 ∧ w.cell? ⟨b, off + 1, none⟩ = some c1 ∧ w.cell? ⟨b, off + 2, none⟩ = some c2 ∧ w.cell? ⟨b, off + 3, none⟩ = some c3 ∧ EQ w ok x (.agg #[c0, c1, c2, c3])) ∧ EQs w ok b (off + 4) xs
end
theorem EQ.def {w : World} {ok : Nat → Prop} {k : Int} {n : ByteArray} {ws : List Wd} {ks : List Ex} {v : Value} : EQ w ok (.mk k n ws ks) v ↔ ∃ sw cw sk ck, v = .agg #[.int .i64 k, .string n, .slice sw ws.length cw, .slice sk ks.length ck] ∧ n.size ≤ maxLen ∧ WLQ w ok sw cw ws ∧ ks.length ≤ ck ∧ ck ≤ maxLen ∧ (ks ≠ [] → ∃ b off, sk = some ⟨b, off, none⟩ ∧ ok b ∧ EQs w ok b off ks) := by
  rw [EQ]
theorem EQs.nil {w : World} {ok : Nat → Prop} {b off : Nat} : EQs w ok b off [] := by rw [EQs]; trivial
theorem EQs.cons {w : World} {ok : Nat → Prop} {b off : Nat} {x : Ex} {xs : List Ex} : EQs w ok b off (x :: xs) ↔ (∃ c0 c1 c2 c3, w.cell? ⟨b, off, none⟩ = some c0 ∧ w.cell? ⟨b, off + 1, none⟩ = some c1 ∧ w.cell? ⟨b, off + 2, none⟩ = some c2 ∧ w.cell? ⟨b, off + 3, none⟩ = some c3 ∧ EQ w ok x (.agg #[c0, c1, c2, c3])) ∧ EQs w ok b (off + 4) xs := by
  rw [EQs]
theorem WQs.lt {w : World} {ok : Nat → Prop} {b off : Nat} {ws : List Wd} (hne : ws ≠ []) (h : WQs w ok b off ws) : b < w.heap.size := by
  cases ws with
  | nil => exact absurd rfl hne
  | cons f fs =>
    obtain ⟨⟨c0, -, h0, -⟩, -⟩ := WQs.cons.1 h; exact lt_of_cell h0
theorem EQs.lt {w : World} {ok : Nat → Prop} {b off : Nat} {ks : List Ex} (hne : ks ≠ []) (h : EQs w ok b off ks) : b < w.heap.size := by
  cases ks with
  | nil => exact absurd rfl hne
  | cons f fs =>
    obtain ⟨⟨c0, _, _, _, h0, -⟩, -⟩ := EQs.cons.1 h; exact lt_of_cell h0
theorem WLQ.move {w w' : World} {ok ok' : Nat → Prop} (hc : ∀ b, b < w.heap.size → ok b → w'.heap[b]? = w.heap[b]? ∧ ok' b) {sw : Option Addr} {cw : Nat} {ws : List Wd} (h : WLQ w ok sw cw ws) : WLQ w' ok' sw cw ws := by
  obtain ⟨h1, h2, h3⟩ := h; (refine ⟨h1, h2, fun hne => ?_⟩); obtain ⟨b, off, hs, hb, hr⟩ := h3 hne; exact ⟨b, off, hs, (hc b (hr.lt hne) hb).2, WQs.move hc hb off ws hr⟩
mutual
theorem EQ.move {w w' : World} {ok ok' : Nat → Prop} (hc : ∀ b, b < w.heap.size → ok b → w'.heap[b]? = w.heap[b]? ∧ ok' b) : ∀ (x : Ex) (v : Value), EQ w ok x v → EQ w' ok' x v
  | .mk k n ws ks, v, h => by
    rw [EQ.def] at h ⊢; obtain ⟨sw, cw, sk, ck, hv, hn, hw, hl, hc', hk⟩ := h; (refine ⟨sw, cw, sk, ck, hv, hn, hw.move hc, hl, hc', fun hne => ?_⟩); obtain ⟨b, off, hsl, hb, hr⟩ := hk hne; exact ⟨b, off, hsl, (hc b (hr.lt hne) hb).2, EQs.move hc hb off ks hr⟩
theorem EQs.move {w w' : World} {ok ok' : Nat → Prop} (hc : ∀ b, b < w.heap.size → ok b → w'.heap[b]? = w.heap[b]? ∧ ok' b) {b : Nat} (hb : ok b) : ∀ (off : Nat) (xs : List Ex), EQs w ok b off xs → EQs w' ok' b off xs
  | _, [], _ => EQs.nil
  | off, f :: fs, h => by
    rw [EQs.cons] at h ⊢; obtain ⟨⟨c0, c1, c2, c3, h0, h1, h2, h3, hr⟩, hrs⟩ := h; (have hk : ∀ o, w'.cell? ⟨b, o, none⟩ = w.cell? ⟨b, o, none⟩ := fun o => cell_of_block (hc b (lt_of_cell h0) hb).1); exact ⟨⟨c0, c1, c2, c3, (hk _).trans h0, (hk _).trans h1, (hk _).trans h2, (hk _).trans h3, EQ.move hc f _ hr⟩, EQs.move hc hb (off + 4) fs hrs⟩
end
theorem WLQ.wl {w : World} {ok : Nat → Prop} {sw : Option Addr} {cw : Nat} {ws : List Wd} (h : WLQ w ok sw cw ws) : WL w (.slice sw ws.length cw) ws := by
  obtain ⟨h1, h2, h3⟩ := h; (refine ⟨sw, cw, rfl, h1, h2, fun hne => ?_⟩); obtain ⟨b, off, hs, -, hr⟩ := h3 hne; exact ⟨b, off, hs, WQs.reps off ws hr⟩
mutual
theorem EQ.rep {w : World} {ok : Nat → Prop} : ∀ (x : Ex) (v : Value), EQ w ok x v → ERp w x v
  | .mk k n ws ks, v, h => by
    rw [EQ.def] at h; rw [ERp.def]; obtain ⟨sw, cw, sk, ck, hv, hn, hw, hl, hc', hk⟩ := h; (refine ⟨sw, cw, sk, ck, hv, hn, hw.wl, hl, hc', fun hne => ?_⟩); obtain ⟨b, off, hsl, -, hr⟩ := hk hne; exact ⟨b, off, hsl, EQs.reps off ks hr⟩
theorem EQs.reps {w : World} {ok : Nat → Prop} {b : Nat} : ∀ (off : Nat) (xs : List Ex), EQs w ok b off xs → ERps w b off xs
  | _, [], _ => ERps.nil
  | off, f :: fs, h => by
    rw [EQs.cons] at h; rw [ERps.cons]; obtain ⟨⟨c0, c1, c2, c3, h0, h1, h2, h3, hr⟩, hrs⟩ := h; exact ⟨⟨c0, c1, c2, c3, h0, h1, h2, h3, EQ.rep f _ hr⟩, EQs.reps (off + 4) fs hrs⟩
end
/-- A word's args as a list of words. -/
theorem WQ.wlq {w : World} {ok : Nat → Prop} {n : ByteArray} {ar : List Wd} {s : ByteArray} {sl : Option Addr} {len cap : Nat} (h : WQ w ok (.mk n ar) (.agg #[.string s, .slice sl len cap])) : s = n ∧ len = ar.length ∧ n.size ≤ maxLen ∧ WLQ w ok sl cap ar := by
  obtain ⟨sl', cap', hv, hn, h1, h2, h3⟩ := WQ.def.1 h; simp at hv; obtain ⟨rfl, rfl, rfl, rfl⟩ := hv; exact ⟨rfl, rfl, hn, h1, h2, h3⟩
/-- Kids in one block. -/
theorem EQ.one {w : World} {ok : Nat → Prop} {k : Int} {n : ByteArray} {f : Ex} {b : Nat} {c0 c1 c2 c3 : Value} {T : TypeId} (hn : n.size ≤ maxLen) (hb : w.heap[b]? = some (.cells #[c0, c1, c2, c3] T (0, 0))) (hok : ok b) (hr : EQ w ok f (.agg #[c0, c1, c2, c3])) :
    EQ w ok (.mk k n [] [f]) (.agg #[.int .i64 k, .string n, .slice none 0 0, .slice (some ⟨b, 0, none⟩) 1 1]) :=
  EQ.def.2 ⟨none, 0, _, 1, rfl, hn, ⟨by simp, by simp, fun h => absurd rfl h⟩, by simp, by simp [maxLen], fun _ => ⟨b, 0, rfl, hok, EQs.cons.2 ⟨⟨c0, c1, c2, c3, blk_cell hb 0, blk_cell hb 1, blk_cell hb 2, blk_cell hb 3, hr⟩, EQs.nil⟩⟩⟩
theorem EQ.two {w : World} {ok : Nat → Prop} {k : Int} {n : ByteArray} {f g : Ex} {b : Nat} {c0 c1 c2 c3 d0 d1 d2 d3 : Value} {T : TypeId} (hn : n.size ≤ maxLen) (hb : w.heap[b]? = some (.cells #[c0, c1, c2, c3, d0, d1, d2, d3] T (0, 0))) (hok : ok b) (hr : EQ w ok f (.agg #[c0, c1, c2, c3])) (hr2 : EQ w ok g (.agg #[d0, d1, d2, d3])) :
    EQ w ok (.mk k n [] [f, g]) (.agg #[.int .i64 k, .string n, .slice none 0 0, .slice (some ⟨b, 0, none⟩) 2 2]) :=
  EQ.def.2 ⟨none, 0, _, 2, rfl, hn, ⟨by simp, by simp, fun h => absurd rfl h⟩, by simp, by simp [maxLen], fun _ => ⟨b, 0, rfl, hok, EQs.cons.2 ⟨⟨c0, c1, c2, c3, blk_cell hb 0, blk_cell hb 1, blk_cell hb 2, blk_cell hb 3, hr⟩, EQs.cons.2 ⟨⟨d0, d1, d2, d3, blk_cell hb 4, blk_cell hb 5, blk_cell hb 6, blk_cell hb 7, hr2⟩, EQs.nil⟩⟩⟩⟩
end Go.Proofs.YtheiikkeelbjnajGreat
