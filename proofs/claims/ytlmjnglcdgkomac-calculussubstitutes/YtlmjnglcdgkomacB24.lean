/- Texts of one proof, one behind the other: CP1, CW3. -/
import Derived.Test.YtlmjnglcdgkomacB21
import Derived.Test.YtlmjnglcdgkomacB22
/- Proofs in memory. -/
namespace Go.Proofs.Ytlmjnglcdgkomac
open Go.RowKit

mutual
def PRep (w : World) : Pf → Value → Prop
  | .mk a f l r ks, v => ∃ c0 c1 c2 vl vr sl cap, v = .agg #[.string a, c0, c1, c2, vl, vr, .slice sl ks.length cap] ∧ a.size ≤ maxLen ∧ Rep w (fun _ => True) f (.agg #[c0, c1, c2]) ∧ FL w vl l ∧ FL w vr r ∧ ks.length ≤ cap ∧ cap ≤ maxLen ∧ (ks ≠ [] → ∃ b off, sl = some ⟨b, off, none⟩ ∧ PReps w b off ks)
def PReps (w : World) (b : Nat) : Nat → List Pf → Prop
  | _, [] => True
  | off, p :: ps => (∃ c0 c1 c2 c3 c4 c5 c6, w.cell? ⟨b, off, none⟩ = some c0 ∧ w.cell? ⟨b, off + 1, none⟩ = some c1 ∧ w.cell? ⟨b, off + 2, none⟩ = some c2 ∧ w.cell? ⟨b, off + 3, none⟩ = some c3 ∧ w.cell? ⟨b, off + 4, none⟩ = some c4 ∧ w.cell? ⟨b, off + 5, none⟩ = some c5 ∧ w.cell? ⟨b, off + 6, none⟩ = some c6 ∧ PRep w p (.agg #[c0, c1, c2, c3, c4, c5, c6])) ∧ PReps w b (off + 7) ps
end
theorem PRep.def {w : World} {a : ByteArray} {f : Fm} {l r : List Fm} {ks : List Pf} {v : Value} : PRep w (.mk a f l r ks) v ↔ ∃ c0 c1 c2 vl vr sl cap, v = .agg #[.string a, c0, c1, c2, vl, vr, .slice sl ks.length cap] ∧ a.size ≤ maxLen ∧ Rep w (fun _ => True) f (.agg #[c0, c1, c2]) ∧ FL w vl l ∧ FL w vr r ∧ ks.length ≤ cap ∧ cap ≤ maxLen ∧ (ks ≠ [] → ∃ b off, sl = some ⟨b, off, none⟩ ∧ PReps w b off ks) := by
  rw [PRep]
theorem PReps.nil {w : World} {b off : Nat} : PReps w b off [] := by rw [PReps]; trivial
theorem PReps.cons {w : World} {b off : Nat} {p : Pf} {ps : List Pf} : PReps w b off (p :: ps) ↔ (∃ c0 c1 c2 c3 c4 c5 c6, w.cell? ⟨b, off, none⟩ = some c0 ∧ w.cell? ⟨b, off + 1, none⟩ = some c1 ∧ w.cell? ⟨b, off + 2, none⟩ = some c2 ∧ w.cell? ⟨b, off + 3, none⟩ = some c3 ∧ w.cell? ⟨b, off + 4, none⟩ = some c4 ∧ w.cell? ⟨b, off + 5, none⟩ = some c5 ∧ w.cell? ⟨b, off + 6, none⟩ = some c6 ∧ PRep w p (.agg #[c0, c1, c2, c3, c4, c5, c6])) ∧ PReps w b (off + 7) ps := by
  rw [PReps]

mutual
theorem PRep.up {w w' : World} (hb : Below w.heap.size w w') : ∀ (p : Pf) (v : Value), PRep w p v → PRep w' p v
  | .mk a f l r ks, v, h => by
    rw [PRep.def] at h ⊢; obtain ⟨c0, c1, c2, vl, vr, sl, cap, hv, ha, hf, hl, hr, h1, h2, h3⟩ := h; (refine ⟨c0, c1, c2, vl, vr, sl, cap, hv, ha, hf.up hb, hl.up hb, hr.up hb, h1, h2, fun hne => ?_⟩); obtain ⟨b, off, hs, hp⟩ := h3 hne; exact ⟨b, off, hs, PReps.up hb b off ks hp⟩
theorem PReps.up {w w' : World} (hb : Below w.heap.size w w') (b : Nat) : ∀ (off : Nat) (ps : List Pf), PReps w b off ps → PReps w' b off ps
  | _, [], _ => PReps.nil
  | off, p :: ps, h => by
    rw [PReps.cons] at h ⊢; obtain ⟨⟨c0, c1, c2, c3, c4, c5, c6, h0, h1, h2, h3, h4, h5, h6, hp⟩, hs⟩ := h; (have k := fun (o : Nat) (c : Value) (h : w.cell? ⟨b, o, none⟩ = some c) => (hb.cell (p := ⟨b, o, none⟩) (lt_of_cell h)).trans h); exact ⟨⟨c0, c1, c2, c3, c4, c5, c6, k _ _ h0, k _ _ h1, k _ _ h2, k _ _ h3, k _ _ h4, k _ _ h5, k _ _ h6, PRep.up hb p _ hp⟩, PReps.up hb b (off + 7) ps hs⟩
end

/-- The i-th of the kids. -/
theorem PReps.get {w : World} {b : Nat} : ∀ {off : Nat} {ps : List Pf} (_ : PReps w b off ps) (i : Nat) (p : Pf) (_ : ps[i]? = some p),
    ∃ c0 c1 c2 c3 c4 c5 c6, w.cell? ⟨b, off + i * 7, none⟩ = some c0 ∧ w.cell? ⟨b, off + i * 7 + 1, none⟩ = some c1 ∧ w.cell? ⟨b, off + i * 7 + 2, none⟩ = some c2 ∧ w.cell? ⟨b, off + i * 7 + 3, none⟩ = some c3 ∧ w.cell? ⟨b, off + i * 7 + 4, none⟩ = some c4 ∧ w.cell? ⟨b, off + i * 7 + 5, none⟩ = some c5 ∧ w.cell? ⟨b, off + i * 7 + 6, none⟩ = some c6 ∧ PRep w p (.agg #[c0, c1, c2, c3, c4, c5, c6])
  | off, [], _, i, p, hp => by simp at hp
  | off, q :: qs, h, i, p, hp => by
    obtain ⟨h1, h2⟩ := PReps.cons.1 h
    cases i with
    | zero => simp at hp; subst hp; simpa using h1
    | succ i =>
      (have := PReps.get h2 i p (by simpa using hp)); (have e : off + 7 + i * 7 = off + (i + 1) * 7 := by omega)
      rwa [e] at this

/-- A proof's value, with its parts shown. -/
theorem PRep.parts {w : World} {a : ByteArray} {k : Int} {n : ByteArray} {kf : List Fm} {l r : List Fm} {ks : List Pf} {v : Value} (h : PRep w (.mk a (.mk k n kf) l r ks) v) :
    ∃ sf cf al cl ar cr sl cap, v = .agg #[.string a, .int .i64 k, .string n, .slice sf kf.length cf, .slice al l.length cl, .slice ar r.length cr, .slice sl ks.length cap] ∧ a.size ≤ maxLen ∧ Rep w (fun _ => True) (.mk k n kf) (.agg #[.int .i64 k, .string n, .slice sf kf.length cf]) ∧ FL w (.slice al l.length cl) l ∧ FL w (.slice ar r.length cr) r ∧ ks.length ≤ cap ∧ cap ≤ maxLen ∧ (ks ≠ [] → ∃ b off, sl = some ⟨b, off, none⟩ ∧ PReps w b off ks) := by
  obtain ⟨c0, c1, c2, vl, vr, sl, cap, hv, ha, hf, hl, hr, h1, h2, h3⟩ := PRep.def.1 h; obtain ⟨sf, cf, hfv⟩ := slice_shape hf; simp only [Value.agg.injEq, Array.mk.injEq, List.cons.injEq, and_true] at hfv; obtain ⟨rfl, rfl, rfl⟩ := hfv; have hl' := hl; have hr' := hr; obtain ⟨al, cl, rfl, -⟩ := hl; obtain ⟨ar, cr, rfl, -⟩ := hr; exact ⟨sf, cf, al, cl, ar, cr, sl, cap, hv, ha, hf, hl', hr', h1, h2, h3⟩

theorem PReps.at {w : World} {b off : Nat} {ps : List Pf} (h : PReps w b off ps) (i : Nat) (a : ByteArray) (k : Int) (n : ByteArray) (kf : List Fm) (l r : List Fm) (ks : List Pf) (hp : ps[i]? = some (.mk a (.mk k n kf) l r ks)) :
    ∃ sf cf al cl ar cr sl cap, w.cell? ⟨b, off + i * 7, none⟩ = some (.string a) ∧ w.cell? ⟨b, off + i * 7 + 1, none⟩ = some (.int .i64 k) ∧ w.cell? ⟨b, off + i * 7 + 2, none⟩ = some (.string n) ∧ w.cell? ⟨b, off + i * 7 + 3, none⟩ = some (.slice sf kf.length cf) ∧ w.cell? ⟨b, off + i * 7 + 4, none⟩ = some (.slice al l.length cl) ∧ w.cell? ⟨b, off + i * 7 + 5, none⟩ = some (.slice ar r.length cr) ∧ w.cell? ⟨b, off + i * 7 + 6, none⟩ = some (.slice sl ks.length cap) ∧
      PRep w (.mk a (.mk k n kf) l r ks) (.agg #[.string a, .int .i64 k, .string n, .slice sf kf.length cf, .slice al l.length cl, .slice ar r.length cr, .slice sl ks.length cap]) := by
  obtain ⟨c0, c1, c2, c3, c4, c5, c6, h0, h1, h2, h3, h4, h5, h6, hr⟩ := h.get i _ hp; obtain ⟨sf, cf, al, cl, ar, cr, sl, cap, hv, -⟩ := hr.parts; simp only [Value.agg.injEq, Array.mk.injEq, List.cons.injEq, and_true] at hv; obtain ⟨rfl, rfl, rfl, rfl, rfl, rfl, rfl⟩ := hv; exact ⟨sf, cf, al, cl, ar, cr, sl, cap, h0, h1, h2, h3, h4, h5, h6, hr⟩
end Go.Proofs.Ytlmjnglcdgkomac
/- Proofs in memory, and where they lie. -/
namespace Go.Proofs.Ytlmjnglcdgkomac
open Go.RowKit

mutual
/-- A proof, in blocks for which P holds. -/
def PRp (P : Nat → Prop) (w : World) : Pf → Value → Prop
  | .mk a f l r ks, v => ∃ c0 c1 c2 vl vr sl cap, v = .agg #[.string a, c0, c1, c2, vl, vr, .slice sl ks.length cap] ∧ a.size ≤ maxLen ∧ Rep w P f (.agg #[c0, c1, c2]) ∧ FLp P w vl l ∧ FLp P w vr r ∧ ks.length ≤ cap ∧ cap ≤ maxLen ∧ (ks ≠ [] → ∃ b off, sl = some ⟨b, off, none⟩ ∧ P b ∧ PRps P w b off ks)
def PRps (P : Nat → Prop) (w : World) (b : Nat) : Nat → List Pf → Prop
  | _, [] => True
  | off, p :: ps => (∃ c0 c1 c2 c3 c4 c5 c6, w.cell? ⟨b, off, none⟩ = some c0 ∧ w.cell? ⟨b, off + 1, none⟩ = some c1 ∧ w.cell? ⟨b, off + 2, none⟩ = some c2 ∧ w.cell? ⟨b, off + 3, none⟩ = some c3 ∧ w.cell? ⟨b, off + 4, none⟩ = some c4 ∧ w.cell? ⟨b, off + 5, none⟩ = some c5 ∧ w.cell? ⟨b, off + 6, none⟩ = some c6 ∧ PRp P w p (.agg #[c0, c1, c2, c3, c4, c5, c6])) ∧ PRps P w b (off + 7) ps
end
theorem PRp.def {P : Nat → Prop} {w : World} {a : ByteArray} {f : Fm} {l r : List Fm} {ks : List Pf} {v : Value} : PRp P w (.mk a f l r ks) v ↔ ∃ c0 c1 c2 vl vr sl cap, v = .agg #[.string a, c0, c1, c2, vl, vr, .slice sl ks.length cap] ∧ a.size ≤ maxLen ∧ Rep w P f (.agg #[c0, c1, c2]) ∧ FLp P w vl l ∧ FLp P w vr r ∧ ks.length ≤ cap ∧ cap ≤ maxLen ∧ (ks ≠ [] → ∃ b off, sl = some ⟨b, off, none⟩ ∧ P b ∧ PRps P w b off ks) := by
  rw [PRp]
theorem PRps.nil {P : Nat → Prop} {w : World} {b off : Nat} : PRps P w b off [] := by rw [PRps]; trivial
theorem PRps.cons {P : Nat → Prop} {w : World} {b off : Nat} {p : Pf} {ps : List Pf} : PRps P w b off (p :: ps) ↔ (∃ c0 c1 c2 c3 c4 c5 c6, w.cell? ⟨b, off, none⟩ = some c0 ∧ w.cell? ⟨b, off + 1, none⟩ = some c1 ∧ w.cell? ⟨b, off + 2, none⟩ = some c2 ∧ w.cell? ⟨b, off + 3, none⟩ = some c3 ∧ w.cell? ⟨b, off + 4, none⟩ = some c4 ∧ w.cell? ⟨b, off + 5, none⟩ = some c5 ∧ w.cell? ⟨b, off + 6, none⟩ = some c6 ∧ PRp P w p (.agg #[c0, c1, c2, c3, c4, c5, c6])) ∧ PRps P w b (off + 7) ps := by
  rw [PRps]
mutual
theorem PRp.keep {P P' : Nat → Prop} {w w' : World} (h : ∀ k, k < w.heap.size → P k → w'.heap[k]? = w.heap[k]? ∧ P' k) : ∀ (p : Pf) (v : Value), PRp P w p v → PRp P' w' p v
  | .mk a f l r ks, v, hp => by
    rw [PRp.def] at hp ⊢; obtain ⟨c0, c1, c2, vl, vr, sl, cap, hv, ha, hf, hl, hr, h1, h2, h3⟩ := hp; (refine ⟨c0, c1, c2, vl, vr, sl, cap, hv, ha, hf.move h, hl.move h, hr.move h, h1, h2, fun hne => ?_⟩); obtain ⟨b, off, hs, hb, hps⟩ := h3 hne
    have hlt : b < w.heap.size := by
      cases ks with
      | nil => exact absurd rfl hne
      | cons k ks =>
        obtain ⟨⟨c0, _, _, _, _, _, _, h0, _⟩, _⟩ := PRps.cons.1 hps; exact lt_of_cell h0
    exact ⟨b, off, hs, (h b hlt hb).2, PRps.keep h b (h b hlt hb).1 off ks hps⟩
theorem PRps.keep {P P' : Nat → Prop} {w w' : World} (h : ∀ k, k < w.heap.size → P k → w'.heap[k]? = w.heap[k]? ∧ P' k) (b : Nat) (hb : w'.heap[b]? = w.heap[b]?) : ∀ (off : Nat) (ps : List Pf), PRps P w b off ps → PRps P' w' b off ps
  | _, [], _ => PRps.nil
  | off, p :: ps, hp => by
    rw [PRps.cons] at hp ⊢; obtain ⟨⟨c0, c1, c2, c3, c4, c5, c6, h0, h1, h2, h3, h4, h5, h6, hr⟩, hs⟩ := hp; (have k := fun (o : Nat) (c : Value) (h : w.cell? ⟨b, o, none⟩ = some c) => (cell_of_block (a := ⟨b, o, none⟩) hb).trans h); exact ⟨⟨c0, c1, c2, c3, c4, c5, c6, k _ _ h0, k _ _ h1, k _ _ h2, k _ _ h3, k _ _ h4, k _ _ h5, k _ _ h6, PRp.keep h p _ hr⟩, PRps.keep h b hb (off + 7) ps hs⟩
end
theorem PRp.move {P P' : Nat → Prop} {w w' : World} {p : Pf} {v : Value} (hp : PRp P w p v) (h : ∀ k, k < w.heap.size → P k → w'.heap[k]? = w.heap[k]? ∧ P' k) : PRp P' w' p v := PRp.keep h p v hp
theorem PRps.move {P P' : Nat → Prop} {w w' : World} {b off : Nat} {ps : List Pf} (hp : PRps P w b off ps) (hb : P b) (h : ∀ k, k < w.heap.size → P k → w'.heap[k]? = w.heap[k]? ∧ P' k) : PRps P' w' b off ps := by
  cases ps with
  | nil => exact PRps.nil
  | cons k ks =>
    obtain ⟨⟨c0, _, _, _, _, _, _, h0, _⟩, _⟩ := PRps.cons.1 hp; exact PRps.keep h b (h b (lt_of_cell h0) hb).1 off _ hp
mutual
theorem PRp.rep {P : Nat → Prop} {w : World} : ∀ (p : Pf) (v : Value), PRp P w p v → PRep w p v
  | .mk a f l r ks, v, hp => by
    rw [PRp.def] at hp; rw [PRep.def]; obtain ⟨c0, c1, c2, vl, vr, sl, cap, hv, ha, hf, hl, hr, h1, h2, h3⟩ := hp; (refine ⟨c0, c1, c2, vl, vr, sl, cap, hv, ha, hf.move fun b _ _ => ⟨rfl, trivial⟩, hl.list, hr.list, h1, h2, fun hne => ?_⟩); obtain ⟨b, off, hs, -, hps⟩ := h3 hne; exact ⟨b, off, hs, PRps.reps b off ks hps⟩
theorem PRps.reps {P : Nat → Prop} {w : World} (b : Nat) : ∀ (off : Nat) (ps : List Pf), PRps P w b off ps → PReps w b off ps
  | _, [], _ => PReps.nil
  | off, p :: ps, hp => by
    rw [PRps.cons] at hp; rw [PReps.cons]; obtain ⟨⟨c0, c1, c2, c3, c4, c5, c6, h0, h1, h2, h3, h4, h5, h6, hr⟩, hs⟩ := hp; exact ⟨⟨c0, c1, c2, c3, c4, c5, c6, h0, h1, h2, h3, h4, h5, h6, PRp.rep p _ hr⟩, PRps.reps b (off + 7) ps hs⟩
end
mutual
theorem PRep.low {w : World} : ∀ (p : Pf) (v : Value), PRep w p v → PRp (· < w.heap.size) w p v
  | .mk a f l r ks, v, hp => by
    rw [PRep.def] at hp; rw [PRp.def]; obtain ⟨c0, c1, c2, vl, vr, sl, cap, hv, ha, hf, hl, hr, h1, h2, h3⟩ := hp; (refine ⟨c0, c1, c2, vl, vr, sl, cap, hv, ha, hf.move fun b hb _ => ⟨rfl, hb⟩, hl.low, hr.low, h1, h2, fun hne => ?_⟩); obtain ⟨b, off, hs, hps⟩ := h3 hne
    have hlt : b < w.heap.size := by
      cases ks with
      | nil => exact absurd rfl hne
      | cons k ks =>
        obtain ⟨⟨c0, _, _, _, _, _, _, h0, _⟩, _⟩ := PReps.cons.1 hps; exact lt_of_cell h0
    exact ⟨b, off, hs, hlt, PReps.low b off ks hps⟩
theorem PReps.low {w : World} (b : Nat) : ∀ (off : Nat) (ps : List Pf), PReps w b off ps → PRps (· < w.heap.size) w b off ps
  | _, [], _ => PRps.nil
  | off, p :: ps, hp => by
    rw [PReps.cons] at hp; rw [PRps.cons]; obtain ⟨⟨c0, c1, c2, c3, c4, c5, c6, h0, h1, h2, h3, h4, h5, h6, hr⟩, hs⟩ := hp; exact ⟨⟨c0, c1, c2, c3, c4, c5, c6, h0, h1, h2, h3, h4, h5, h6, PRep.low p _ hr⟩, PReps.low b (off + 7) ps hs⟩
end
theorem PRp.parts {P : Nat → Prop} {w : World} {a : ByteArray} {k : Int} {n : ByteArray} {kf : List Fm} {l r : List Fm} {ks : List Pf} {v : Value} (h : PRp P w (.mk a (.mk k n kf) l r ks) v) :
    ∃ sf cf al cl ar cr sl cap, v = .agg #[.string a, .int .i64 k, .string n, .slice sf kf.length cf, .slice al l.length cl, .slice ar r.length cr, .slice sl ks.length cap] ∧ a.size ≤ maxLen ∧ Rep w P (.mk k n kf) (.agg #[.int .i64 k, .string n, .slice sf kf.length cf]) ∧ FLp P w (.slice al l.length cl) l ∧ FLp P w (.slice ar r.length cr) r ∧ ks.length ≤ cap ∧ cap ≤ maxLen ∧ (ks ≠ [] → ∃ b off, sl = some ⟨b, off, none⟩ ∧ P b ∧ PRps P w b off ks) := by
  obtain ⟨c0, c1, c2, vl, vr, sl, cap, hv, ha, hf, hl, hr, h1, h2, h3⟩ := PRp.def.1 h; obtain ⟨sf, cf, hfv⟩ := slice_shape hf; simp only [Value.agg.injEq, Array.mk.injEq, List.cons.injEq, and_true] at hfv; obtain ⟨rfl, rfl, rfl⟩ := hfv; have hl' := hl; have hr' := hr; obtain ⟨al, cl, rfl, -⟩ := hl; obtain ⟨ar, cr, rfl, -⟩ := hr; exact ⟨sf, cf, al, cl, ar, cr, sl, cap, hv, ha, hf, hl', hr', h1, h2, h3⟩
theorem PRps.get {P : Nat → Prop} {w : World} {b : Nat} : ∀ {off : Nat} {ps : List Pf} (_ : PRps P w b off ps) (i : Nat) (p : Pf) (_ : ps[i]? = some p),
    ∃ c0 c1 c2 c3 c4 c5 c6, w.cell? ⟨b, off + i * 7, none⟩ = some c0 ∧ w.cell? ⟨b, off + i * 7 + 1, none⟩ = some c1 ∧ w.cell? ⟨b, off + i * 7 + 2, none⟩ = some c2 ∧ w.cell? ⟨b, off + i * 7 + 3, none⟩ = some c3 ∧ w.cell? ⟨b, off + i * 7 + 4, none⟩ = some c4 ∧ w.cell? ⟨b, off + i * 7 + 5, none⟩ = some c5 ∧ w.cell? ⟨b, off + i * 7 + 6, none⟩ = some c6 ∧ PRp P w p (.agg #[c0, c1, c2, c3, c4, c5, c6])
  | off, [], _, i, p, hp => by simp at hp
  | off, q :: qs, h, i, p, hp => by
    obtain ⟨h1, h2⟩ := PRps.cons.1 h
    cases i with
    | zero => simp at hp; subst hp; simpa using h1
    | succ i =>
      (have := PRps.get h2 i p (by simpa using hp)); (have e : off + 7 + i * 7 = off + (i + 1) * 7 := by omega)
      rwa [e] at this
theorem PRps.at {P : Nat → Prop} {w : World} {b off : Nat} {ps : List Pf} (h : PRps P w b off ps) (i : Nat) (a : ByteArray) (k : Int) (n : ByteArray) (kf : List Fm) (l r : List Fm) (ks : List Pf) (hp : ps[i]? = some (.mk a (.mk k n kf) l r ks)) :
    ∃ sf cf al cl ar cr sl cap, w.cell? ⟨b, off + i * 7, none⟩ = some (.string a) ∧ w.cell? ⟨b, off + i * 7 + 1, none⟩ = some (.int .i64 k) ∧ w.cell? ⟨b, off + i * 7 + 2, none⟩ = some (.string n) ∧ w.cell? ⟨b, off + i * 7 + 3, none⟩ = some (.slice sf kf.length cf) ∧ w.cell? ⟨b, off + i * 7 + 4, none⟩ = some (.slice al l.length cl) ∧ w.cell? ⟨b, off + i * 7 + 5, none⟩ = some (.slice ar r.length cr) ∧ w.cell? ⟨b, off + i * 7 + 6, none⟩ = some (.slice sl ks.length cap) ∧
      PRp P w (.mk a (.mk k n kf) l r ks) (.agg #[.string a, .int .i64 k, .string n, .slice sf kf.length cf, .slice al l.length cl, .slice ar r.length cr, .slice sl ks.length cap]) := by
  obtain ⟨c0, c1, c2, c3, c4, c5, c6, h0, h1, h2, h3, h4, h5, h6, hr⟩ := h.get i _ hp; obtain ⟨sf, cf, al, cl, ar, cr, sl, cap, hv, -⟩ := hr.parts; simp only [Value.agg.injEq, Array.mk.injEq, List.cons.injEq, and_true] at hv; obtain ⟨rfl, rfl, rfl, rfl, rfl, rfl, rfl⟩ := hv; exact ⟨sf, cf, al, cl, ar, cr, sl, cap, h0, h1, h2, h3, h4, h5, h6, hr⟩

/-- Cells that are proofs. -/
def PQ (P : Nat → Prop) (w : World) : List Value → List Pf → Prop
  | [], [] => True
  | c0 :: c1 :: c2 :: c3 :: c4 :: c5 :: c6 :: cs, p :: ps => PRp P w p (.agg #[c0, c1, c2, c3, c4, c5, c6]) ∧ PQ P w cs ps
  | _, _ => False
theorem PQ.len {P : Nat → Prop} {w : World} : ∀ {cs : List Value} {ps : List Pf}, PQ P w cs ps → cs.length = ps.length * 7
  | [], [], _ => rfl
  | _ :: _ :: _ :: _ :: _ :: _ :: _ :: _, _ :: _, h => by
    have := PQ.len h.2; simp only [List.length_cons]; omega
theorem PQ.move {P P' : Nat → Prop} {w w' : World} (h : ∀ k, k < w.heap.size → P k → w'.heap[k]? = w.heap[k]? ∧ P' k) : ∀ {cs : List Value} {ps : List Pf}, PQ P w cs ps → PQ P' w' cs ps
  | [], [], _ => trivial
  | _ :: _ :: _ :: _ :: _ :: _ :: _ :: _, _ :: _, hp => ⟨hp.1.move h, PQ.move h hp.2⟩
theorem PQ.append {P : Nat → Prop} {w : World} {ds : List Value} {qs : List Pf} (hd : PQ P w ds qs) : ∀ {cs : List Value} {ps : List Pf}, PQ P w cs ps → PQ P w (cs ++ ds) (ps ++ qs)
  | [], [], _ => hd
  | _ :: _ :: _ :: _ :: _ :: _ :: _ :: _, _ :: _, hp => ⟨hp.1, PQ.append hd hp.2⟩
theorem PQ.reps {P : Nat → Prop} {w : World} {b : Nat} : ∀ {cs : List Value} {ps : List Pf} (off : Nat), PQ P w cs ps → (∀ (j : Nat) (u : Value), cs[j]? = some u → w.cell? ⟨b, off + j, none⟩ = some u) → PRps P w b off ps
  | [], [], _, _, _ => PRps.nil
  | c0 :: c1 :: c2 :: c3 :: c4 :: c5 :: c6 :: cs, p :: ps, off, hp, hc => by
    rw [PRps.cons]; (refine ⟨⟨c0, c1, c2, c3, c4, c5, c6, hc 0 _ rfl, hc 1 _ rfl, hc 2 _ rfl, hc 3 _ rfl, hc 4 _ rfl, hc 5 _ rfl, hc 6 _ rfl, hp.1⟩, PQ.reps (off + 7) hp.2 fun j u hu => ?_⟩); (have := hc (j + 7) u (by simpa using hu))
    rwa [show off + (j + 7) = off + 7 + j by omega] at this
theorem PQ.one {P : Nat → Prop} {w : World} : ∀ {cs : List Value} {ps : List Pf}, PQ P w cs ps → ∀ u ∈ cs, u.oneCell' = true
  | [], [], _, u, hu => by cases hu
  | c0 :: c1 :: c2 :: c3 :: c4 :: c5 :: c6 :: cs, ⟨a, ⟨k, n, kf⟩, l, r, ks⟩ :: ps, hp, u, hu => by
    obtain ⟨sf, cf, al, cl, ar, cr, sl, cap, hv, -⟩ := hp.1.parts; simp only [Value.agg.injEq, Array.mk.injEq, List.cons.injEq, and_true] at hv; obtain ⟨rfl, rfl, rfl, rfl, rfl, rfl, rfl⟩ := hv; simp only [List.mem_cons] at hu
    rcases hu with rfl | rfl | rfl | rfl | rfl | rfl | rfl | hu
    iterate 7 rfl
    exact PQ.one hp.2 u hu
/-- A list of proofs being made. -/
def KF (P : Nat → Prop) (B : Nat) (w : World) (ad : Option Addr) (cap : Nat) (ps : List Pf) : Prop := ∃ cs, w.ownsRow B 29 7 (.slice ad ps.length cap) ps.length cs ∧ PQ (fun b => P b ∧ (Value.slice ad ps.length cap).ownBlock ≠ some b) w cs ps
theorem KF.nil {P : Nat → Prop} {B : Nat} {w : World} : KF P B w none 0 [] := ⟨[], ⟨rfl, Or.inl ⟨rfl, rfl⟩⟩, trivial⟩
theorem KF.same {P : Nat → Prop} {B : Nat} {w w' : World} {ad : Option Addr} {cap : Nat} {ps : List Pf} (h : KF P B w ad cap ps) (hb : ∀ b, P b ∨ B ≤ b → b < w.heap.size → w'.heap[b]? = w.heap[b]?) : KF P B w' ad cap ps := by
  obtain ⟨cs, ⟨h1, h2⟩, h3⟩ := h; (refine ⟨cs, ⟨h1, ?_⟩, PQ.move (fun b hb1 hb2 => ⟨hb b (Or.inl hb2.1) hb1, hb2⟩) h3⟩)
  rcases h2 with h2 | ⟨g, cap, cur, hv, hg, hh, r⟩
  · exact Or.inl h2
  · exact Or.inr ⟨g, cap, cur, hv, hg, (hb g (Or.inr hg) (lt_of_block hh)).trans hh, r⟩
theorem KF.up {P : Nat → Prop} {B : Nat} {w w' : World} {ad : Option Addr} {cap : Nat} {ps : List Pf} (h : KF P B w ad cap ps) (hb : Below w.heap.size w w') : KF P B w' ad cap ps := h.same fun b _ hb1 => hb.block b hb1
/-- More proofs. -/
theorem KF.app {P : Nat → Prop} {B : Nat} {w1 w3 : World} {ad : Option Addr} {cp : Nat} {ps qs : List Pf} {cs ds : List Value} {g3 cp3 i j : Nat} (hi : ps.length = i) (hj : qs.length = j)
    (hown : w1.ownsRow B 29 7 (.slice ad i cp) i cs) (hpq : PQ (fun b => P b ∧ (Value.slice ad i cp).ownBlock ≠ some b) w1 cs ps)
    (hqq : PQ (fun b => P b ∧ (Value.slice ad i cp).ownBlock ≠ some b) w1 ds qs)
    (hown3 : w3.ownsRow B 29 7 (.slice (some ⟨g3, 0, none⟩) (i + j) cp3) (i + j) (cs ++ ds))
    (hgrow : w1.grownBy w3 (Value.slice ad i cp).ownBlock) (hat : (Value.slice ad i cp).ownBlock = some g3 ∨ g3 = w1.heap.size) :
    KF P B w3 (some ⟨g3, 0, none⟩) cp3 (ps ++ qs) := by
  subst hi hj; refine ⟨cs ++ ds, ?_, ?_⟩
  · rw [List.length_append]; exact hown3
  · refine PQ.move (fun b hb hok => ⟨hgrow.block b hb (fun e => hok.2 e.symm), hok.1, fun e => ?_⟩) (PQ.append hqq hpq)
    (have e : g3 = b := by simpa [Value.ownBlock] using e)
    rcases hat with h | h
    · exact hok.2 (by rw [h, e])
    · omega
end Go.Proofs.Ytlmjnglcdgkomac
