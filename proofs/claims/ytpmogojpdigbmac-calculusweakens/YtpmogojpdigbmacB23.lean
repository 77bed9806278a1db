/- Texts of one proof, one behind the other: CW3, CW4. -/
import Derived.Test.YtpmogojpdigbmacB22
/- Proofs in memory, and where they lie. -/
namespace Go.Proofs.Ytpmogojpdigbmac
open Go.RowKit

mutual
/-- A proof, in blocks for which P holds. -/
def PRp (P : Nat → Prop) (w : World) : Pf → Value → Prop
  | .mk a f l r ks, v => ∃ c0 c1 c2 vl vr sl cap, v = .agg #[.string a, c0, c1, c2, vl, vr, .slice sl ks.length cap] ∧ a.size ≤ maxLen ∧ Rep w P f (.agg #[c0, c1, c2]) ∧ FLp P w vl l ∧ FLp P w vr r ∧ ks.length ≤ cap ∧ cap ≤ maxLen ∧ (ks ≠ [] → ∃ b off, sl = some ⟨b, off, none⟩ ∧ P b ∧ PRps P w b off ks)
def PRps (P : Nat → Prop) (w : World) (b : Nat) : Nat → List Pf → Prop
  | _, [] => True
  | off, p :: ps => (∃ c0 c1 c2 c3 c4 c5 c6, w.cell? ⟨b, off, none⟩ = some c0 ∧ w.cell? ⟨b, off + 1, none⟩ = some c1 ∧ w.cell? ⟨b, off + 2, none⟩ = some c2 ∧ w.cell? ⟨b, off + 3, none⟩ = some c3 ∧ w.cell? ⟨b, off + 4, none⟩ = some c4 ∧ w.cell? ⟨b, off + 5, none⟩ = some c5 ∧ w.cell? ⟨b, off + 6, none⟩ = some c6 ∧ PRp P w p (.agg #[c0, c1, c2, c3, c4, c5, c6])) ∧ PRps P w b (off + 7) ps
end
theorem PRp.def {P : Nat → Prop} {w : World} {a : ByteArray} {f : Fm} {l r : List Fm} {ks : List Pf} {v : Value} : PRp P w (.mk a f l r ks) v ↔ ∃ c0 c1 c2 vl vr sl cap, v = .agg #[.string a, c0, c1, c2, vl, vr, .slice sl ks.length cap] ∧ a.size ≤ maxLen ∧ Rep w P f (.agg #[c0, c1, c2]) ∧ FLp P w vl l ∧ FLp P w vr r ∧ ks.length ≤ cap ∧ cap ≤ maxLen ∧ (ks ≠ [] → ∃ b off, sl = some ⟨b, off, none⟩ ∧ P b ∧ PRps P w b off ks) := by
  rw [PRp]
theorem PRps.nil {P : Nat → Prop} {w : World} {b off : Nat} : PRps P w b off [] := by rw [PRps]; trivial
theorem PRps.cons {P : Nat → Prop} {w : World} {b off : Nat} {p : Pf} {ps : List Pf} : PRps P w b off (p :: ps) ↔ (∃ c0 c1 c2 c3 c4 c5 c6, w.cell? ⟨b, off, none⟩ = some c0 ∧ w.cell? ⟨b, off + 1, none⟩ = some c1 ∧ w.cell? ⟨b, off + 2, none⟩ = some c2 ∧ w.cell? ⟨b, off + 3, none⟩ = some c3 ∧ w.cell? ⟨b, off + 4, none⟩ = some c4 ∧ w.cell? ⟨b, off + 5, none⟩ = some c5 ∧ w.cell? ⟨b, off + 6, none⟩ = some c6 ∧ PRp P w p (.agg #[c0, c1, c2, c3, c4, c5, c6])) ∧ PRps P w b (off + 7) ps := by
  rw [PRps]
mutual
theorem PRp.keep {P P' : Nat → Prop} {w w' : World} (h : ∀ k, k < w.heap.size → P k → w'.heap[k]? = w.heap[k]? ∧ P' k) : ∀ (p : Pf) (v : Value), PRp P w p v → PRp P' w' p v
  | .mk a f l r ks, v, hp => by
    rw [PRp.def] at hp ⊢
    obtain ⟨c0, c1, c2, vl, vr, sl, cap, hv, ha, hf, hl, hr, h1, h2, h3⟩ := hp
    refine ⟨c0, c1, c2, vl, vr, sl, cap, hv, ha, hf.move h, hl.move h, hr.move h, h1, h2, fun hne => ?_⟩
    obtain ⟨b, off, hs, hb, hps⟩ := h3 hne
    have hlt : b < w.heap.size := by
      cases ks with
      | nil => exact absurd rfl hne
      | cons k ks =>
        obtain ⟨⟨c0, _, _, _, _, _, _, h0, _⟩, _⟩ := PRps.cons.1 hps
        exact lt_of_cell h0
    exact ⟨b, off, hs, (h b hlt hb).2, PRps.keep h b (h b hlt hb).1 off ks hps⟩
theorem PRps.keep {P P' : Nat → Prop} {w w' : World} (h : ∀ k, k < w.heap.size → P k → w'.heap[k]? = w.heap[k]? ∧ P' k) (b : Nat) (hb : w'.heap[b]? = w.heap[b]?) : ∀ (off : Nat) (ps : List Pf), PRps P w b off ps → PRps P' w' b off ps
  | _, [], _ => PRps.nil
  | off, p :: ps, hp => by
    rw [PRps.cons] at hp ⊢
    obtain ⟨⟨c0, c1, c2, c3, c4, c5, c6, h0, h1, h2, h3, h4, h5, h6, hr⟩, hs⟩ := hp
    have k := fun (o : Nat) (c : Value) (h : w.cell? ⟨b, o, none⟩ = some c) => (cell_of_block (a := ⟨b, o, none⟩) hb).trans h
    exact ⟨⟨c0, c1, c2, c3, c4, c5, c6, k _ _ h0, k _ _ h1, k _ _ h2, k _ _ h3, k _ _ h4, k _ _ h5, k _ _ h6, PRp.keep h p _ hr⟩, PRps.keep h b hb (off + 7) ps hs⟩
end
theorem PRp.move {P P' : Nat → Prop} {w w' : World} {p : Pf} {v : Value} (hp : PRp P w p v) (h : ∀ k, k < w.heap.size → P k → w'.heap[k]? = w.heap[k]? ∧ P' k) : PRp P' w' p v := PRp.keep h p v hp
theorem PRps.move {P P' : Nat → Prop} {w w' : World} {b off : Nat} {ps : List Pf} (hp : PRps P w b off ps) (hb : P b) (h : ∀ k, k < w.heap.size → P k → w'.heap[k]? = w.heap[k]? ∧ P' k) : PRps P' w' b off ps := by
  cases ps with
  | nil => exact PRps.nil
  | cons k ks =>
    obtain ⟨⟨c0, _, _, _, _, _, _, h0, _⟩, _⟩ := PRps.cons.1 hp
    exact PRps.keep h b (h b (lt_of_cell h0) hb).1 off _ hp
theorem PRp.up {P : Nat → Prop} {w w' : World} {p : Pf} {v : Value} (hp : PRp P w p v) (hb : Below w.heap.size w w') : PRp P w' p v := hp.move fun k hk h => ⟨hb.block k hk, h⟩
mutual
theorem PRp.rep {P : Nat → Prop} {w : World} : ∀ (p : Pf) (v : Value), PRp P w p v → PRep w p v
  | .mk a f l r ks, v, hp => by
    rw [PRp.def] at hp
    rw [PRep.def]
    obtain ⟨c0, c1, c2, vl, vr, sl, cap, hv, ha, hf, hl, hr, h1, h2, h3⟩ := hp
    refine ⟨c0, c1, c2, vl, vr, sl, cap, hv, ha, hf.move fun b _ _ => ⟨rfl, trivial⟩, hl.list, hr.list, h1, h2, fun hne => ?_⟩
    obtain ⟨b, off, hs, -, hps⟩ := h3 hne
    exact ⟨b, off, hs, PRps.reps b off ks hps⟩
theorem PRps.reps {P : Nat → Prop} {w : World} (b : Nat) : ∀ (off : Nat) (ps : List Pf), PRps P w b off ps → PReps w b off ps
  | _, [], _ => PReps.nil
  | off, p :: ps, hp => by
    rw [PRps.cons] at hp
    rw [PReps.cons]
    obtain ⟨⟨c0, c1, c2, c3, c4, c5, c6, h0, h1, h2, h3, h4, h5, h6, hr⟩, hs⟩ := hp
    exact ⟨⟨c0, c1, c2, c3, c4, c5, c6, h0, h1, h2, h3, h4, h5, h6, PRp.rep p _ hr⟩, PRps.reps b (off + 7) ps hs⟩
end
mutual
theorem PRep.low {w : World} : ∀ (p : Pf) (v : Value), PRep w p v → PRp (· < w.heap.size) w p v
  | .mk a f l r ks, v, hp => by
    rw [PRep.def] at hp
    rw [PRp.def]
    obtain ⟨c0, c1, c2, vl, vr, sl, cap, hv, ha, hf, hl, hr, h1, h2, h3⟩ := hp
    refine ⟨c0, c1, c2, vl, vr, sl, cap, hv, ha, hf.move fun b hb _ => ⟨rfl, hb⟩, hl.low, hr.low, h1, h2, fun hne => ?_⟩
    obtain ⟨b, off, hs, hps⟩ := h3 hne
    have hlt : b < w.heap.size := by
      cases ks with
      | nil => exact absurd rfl hne
      | cons k ks =>
        obtain ⟨⟨c0, _, _, _, _, _, _, h0, _⟩, _⟩ := PReps.cons.1 hps
        exact lt_of_cell h0
    exact ⟨b, off, hs, hlt, PReps.low b off ks hps⟩
theorem PReps.low {w : World} (b : Nat) : ∀ (off : Nat) (ps : List Pf), PReps w b off ps → PRps (· < w.heap.size) w b off ps
  | _, [], _ => PRps.nil
  | off, p :: ps, hp => by
    rw [PReps.cons] at hp
    rw [PRps.cons]
    obtain ⟨⟨c0, c1, c2, c3, c4, c5, c6, h0, h1, h2, h3, h4, h5, h6, hr⟩, hs⟩ := hp
    exact ⟨⟨c0, c1, c2, c3, c4, c5, c6, h0, h1, h2, h3, h4, h5, h6, PRep.low p _ hr⟩, PReps.low b (off + 7) ps hs⟩
end
theorem PRp.parts {P : Nat → Prop} {w : World} {a : ByteArray} {k : Int} {n : ByteArray} {kf : List Fm} {l r : List Fm} {ks : List Pf} {v : Value} (h : PRp P w (.mk a (.mk k n kf) l r ks) v) :
    ∃ sf cf al cl ar cr sl cap, v = .agg #[.string a, .int .i64 k, .string n, .slice sf kf.length cf, .slice al l.length cl, .slice ar r.length cr, .slice sl ks.length cap] ∧ a.size ≤ maxLen ∧ Rep w P (.mk k n kf) (.agg #[.int .i64 k, .string n, .slice sf kf.length cf]) ∧ FLp P w (.slice al l.length cl) l ∧ FLp P w (.slice ar r.length cr) r ∧ ks.length ≤ cap ∧ cap ≤ maxLen ∧ (ks ≠ [] → ∃ b off, sl = some ⟨b, off, none⟩ ∧ P b ∧ PRps P w b off ks) := by
  obtain ⟨c0, c1, c2, vl, vr, sl, cap, hv, ha, hf, hl, hr, h1, h2, h3⟩ := PRp.def.1 h
  obtain ⟨sf, cf, hfv⟩ := slice_shape hf
  simp only [Value.agg.injEq, Array.mk.injEq, List.cons.injEq, and_true] at hfv
  obtain ⟨rfl, rfl, rfl⟩ := hfv
  have hl' := hl
  have hr' := hr
  obtain ⟨al, cl, rfl, -⟩ := hl
  obtain ⟨ar, cr, rfl, -⟩ := hr
  exact ⟨sf, cf, al, cl, ar, cr, sl, cap, hv, ha, hf, hl', hr', h1, h2, h3⟩
theorem PRps.get {P : Nat → Prop} {w : World} {b : Nat} : ∀ {off : Nat} {ps : List Pf} (_ : PRps P w b off ps) (i : Nat) (p : Pf) (_ : ps[i]? = some p),
    ∃ c0 c1 c2 c3 c4 c5 c6, w.cell? ⟨b, off + i * 7, none⟩ = some c0 ∧ w.cell? ⟨b, off + i * 7 + 1, none⟩ = some c1 ∧ w.cell? ⟨b, off + i * 7 + 2, none⟩ = some c2 ∧ w.cell? ⟨b, off + i * 7 + 3, none⟩ = some c3 ∧ w.cell? ⟨b, off + i * 7 + 4, none⟩ = some c4 ∧ w.cell? ⟨b, off + i * 7 + 5, none⟩ = some c5 ∧ w.cell? ⟨b, off + i * 7 + 6, none⟩ = some c6 ∧ PRp P w p (.agg #[c0, c1, c2, c3, c4, c5, c6])
  | off, [], _, i, p, hp => by simp at hp
  | off, q :: qs, h, i, p, hp => by
    obtain ⟨h1, h2⟩ := PRps.cons.1 h
    cases i with
    | zero => simp at hp; subst hp; simpa using h1
    | succ i =>
      have := PRps.get h2 i p (by simpa using hp)
      have e : off + 7 + i * 7 = off + (i + 1) * 7 := by omega
      rwa [e] at this
theorem PRps.at {P : Nat → Prop} {w : World} {b off : Nat} {ps : List Pf} (h : PRps P w b off ps) (i : Nat) (a : ByteArray) (k : Int) (n : ByteArray) (kf : List Fm) (l r : List Fm) (ks : List Pf) (hp : ps[i]? = some (.mk a (.mk k n kf) l r ks)) :
    ∃ sf cf al cl ar cr sl cap, w.cell? ⟨b, off + i * 7, none⟩ = some (.string a) ∧ w.cell? ⟨b, off + i * 7 + 1, none⟩ = some (.int .i64 k) ∧ w.cell? ⟨b, off + i * 7 + 2, none⟩ = some (.string n) ∧ w.cell? ⟨b, off + i * 7 + 3, none⟩ = some (.slice sf kf.length cf) ∧ w.cell? ⟨b, off + i * 7 + 4, none⟩ = some (.slice al l.length cl) ∧ w.cell? ⟨b, off + i * 7 + 5, none⟩ = some (.slice ar r.length cr) ∧ w.cell? ⟨b, off + i * 7 + 6, none⟩ = some (.slice sl ks.length cap) ∧
      PRp P w (.mk a (.mk k n kf) l r ks) (.agg #[.string a, .int .i64 k, .string n, .slice sf kf.length cf, .slice al l.length cl, .slice ar r.length cr, .slice sl ks.length cap]) := by
  obtain ⟨c0, c1, c2, c3, c4, c5, c6, h0, h1, h2, h3, h4, h5, h6, hr⟩ := h.get i _ hp
  obtain ⟨sf, cf, al, cl, ar, cr, sl, cap, hv, -⟩ := hr.parts
  simp only [Value.agg.injEq, Array.mk.injEq, List.cons.injEq, and_true] at hv
  obtain ⟨rfl, rfl, rfl, rfl, rfl, rfl, rfl⟩ := hv
  exact ⟨sf, cf, al, cl, ar, cr, sl, cap, h0, h1, h2, h3, h4, h5, h6, hr⟩

/-- Cells that are proofs. -/
def PQ (P : Nat → Prop) (w : World) : List Value → List Pf → Prop
  | [], [] => True
  | c0 :: c1 :: c2 :: c3 :: c4 :: c5 :: c6 :: cs, p :: ps => PRp P w p (.agg #[c0, c1, c2, c3, c4, c5, c6]) ∧ PQ P w cs ps
  | _, _ => False
theorem PQ.len {P : Nat → Prop} {w : World} : ∀ {cs : List Value} {ps : List Pf}, PQ P w cs ps → cs.length = ps.length * 7
  | [], [], _ => rfl
  | _ :: _ :: _ :: _ :: _ :: _ :: _ :: _, _ :: _, h => by
    have := PQ.len h.2
    simp only [List.length_cons]; omega
theorem PQ.move {P P' : Nat → Prop} {w w' : World} (h : ∀ k, k < w.heap.size → P k → w'.heap[k]? = w.heap[k]? ∧ P' k) : ∀ {cs : List Value} {ps : List Pf}, PQ P w cs ps → PQ P' w' cs ps
  | [], [], _ => trivial
  | _ :: _ :: _ :: _ :: _ :: _ :: _ :: _, _ :: _, hp => ⟨hp.1.move h, PQ.move h hp.2⟩
theorem PQ.append {P : Nat → Prop} {w : World} {ds : List Value} {qs : List Pf} (hd : PQ P w ds qs) : ∀ {cs : List Value} {ps : List Pf}, PQ P w cs ps → PQ P w (cs ++ ds) (ps ++ qs)
  | [], [], _ => hd
  | _ :: _ :: _ :: _ :: _ :: _ :: _ :: _, _ :: _, hp => ⟨hp.1, PQ.append hd hp.2⟩
theorem PQ.reps {P : Nat → Prop} {w : World} {b : Nat} : ∀ {cs : List Value} {ps : List Pf} (off : Nat), PQ P w cs ps → (∀ (j : Nat) (u : Value), cs[j]? = some u → w.cell? ⟨b, off + j, none⟩ = some u) → PRps P w b off ps
  | [], [], _, _, _ => PRps.nil
  | c0 :: c1 :: c2 :: c3 :: c4 :: c5 :: c6 :: cs, p :: ps, off, hp, hc => by
    rw [PRps.cons]
    refine ⟨⟨c0, c1, c2, c3, c4, c5, c6, hc 0 _ rfl, hc 1 _ rfl, hc 2 _ rfl, hc 3 _ rfl, hc 4 _ rfl, hc 5 _ rfl, hc 6 _ rfl, hp.1⟩, PQ.reps (off + 7) hp.2 fun j u hu => ?_⟩
    have := hc (j + 7) u (by simpa using hu)
    rwa [show off + (j + 7) = off + 7 + j by omega] at this
theorem PQ.one {P : Nat → Prop} {w : World} : ∀ {cs : List Value} {ps : List Pf}, PQ P w cs ps → ∀ u ∈ cs, u.oneCell' = true
  | [], [], _, u, hu => by cases hu
  | c0 :: c1 :: c2 :: c3 :: c4 :: c5 :: c6 :: cs, ⟨a, ⟨k, n, kf⟩, l, r, ks⟩ :: ps, hp, u, hu => by
    obtain ⟨sf, cf, al, cl, ar, cr, sl, cap, hv, -⟩ := hp.1.parts
    simp only [Value.agg.injEq, Array.mk.injEq, List.cons.injEq, and_true] at hv
    obtain ⟨rfl, rfl, rfl, rfl, rfl, rfl, rfl⟩ := hv
    simp only [List.mem_cons] at hu
    rcases hu with rfl | rfl | rfl | rfl | rfl | rfl | rfl | hu
    iterate 7 rfl
    exact PQ.one hp.2 u hu
/-- A list of proofs being made. -/
def KF (P : Nat → Prop) (B : Nat) (w : World) (ad : Option Addr) (cap : Nat) (ps : List Pf) : Prop := ∃ cs, w.ownsRow B 29 7 (.slice ad ps.length cap) ps.length cs ∧ PQ (fun b => P b ∧ (Value.slice ad ps.length cap).ownBlock ≠ some b) w cs ps
theorem KF.nil {P : Nat → Prop} {B : Nat} {w : World} : KF P B w none 0 [] := ⟨[], ⟨rfl, Or.inl ⟨rfl, rfl⟩⟩, trivial⟩
theorem KF.same {P : Nat → Prop} {B : Nat} {w w' : World} {ad : Option Addr} {cap : Nat} {ps : List Pf} (h : KF P B w ad cap ps) (hb : ∀ b, P b ∨ B ≤ b → b < w.heap.size → w'.heap[b]? = w.heap[b]?) : KF P B w' ad cap ps := by
  obtain ⟨cs, ⟨h1, h2⟩, h3⟩ := h
  refine ⟨cs, ⟨h1, ?_⟩, PQ.move (fun b hb1 hb2 => ⟨hb b (Or.inl hb2.1) hb1, hb2⟩) h3⟩
  rcases h2 with h2 | ⟨g, cap, cur, hv, hg, hh, r⟩
  · exact Or.inl h2
  · exact Or.inr ⟨g, cap, cur, hv, hg, (hb g (Or.inr hg) (lt_of_block hh)).trans hh, r⟩
theorem KF.up {P : Nat → Prop} {B : Nat} {w w' : World} {ad : Option Addr} {cap : Nat} {ps : List Pf} (h : KF P B w ad cap ps) (hb : Below w.heap.size w w') : KF P B w' ad cap ps := h.same fun b _ hb1 => hb.block b hb1
/-- More proofs. -/
theorem KF.app {P : Nat → Prop} {B : Nat} {w1 w3 : World} {ad : Option Addr} {cp : Nat} {ps qs : List Pf} {cs ds : List Value} {g3 cp3 i j : Nat} (hi : ps.length = i) (hj : qs.length = j)
    (hown : w1.ownsRow B 29 7 (.slice ad i cp) i cs) (hpq : PQ (fun b => P b ∧ (Value.slice ad i cp).ownBlock ≠ some b) w1 cs ps)
    (hqq : PQ (fun b => P b ∧ (Value.slice ad i cp).ownBlock ≠ some b) w1 ds qs)
    (hown3 : w3.ownsRow B 29 7 (.slice (some ⟨g3, 0, none⟩) (i + j) cp3) (i + j) (cs ++ ds))
    (hgrow : w1.grownBy w3 (Value.slice ad i cp).ownBlock) (hat : (Value.slice ad i cp).ownBlock = some g3 ∨ g3 = w1.heap.size) :
    KF P B w3 (some ⟨g3, 0, none⟩) cp3 (ps ++ qs) := by
  subst hi hj
  refine ⟨cs ++ ds, ?_, ?_⟩
  · rw [List.length_append]; exact hown3
  · refine PQ.move (fun b hb hok => ⟨hgrow.block b hb (fun e => hok.2 e.symm), hok.1, fun e => ?_⟩) (PQ.append hqq hpq)
    have e : g3 = b := by simpa [Value.ownBlock] using e
    rcases hat with h | h
    · exact hok.2 (by rw [h, e])
    · omega
end Go.Proofs.Ytpmogojpdigbmac
/- Walks: everywhere. -/
namespace Go.Proofs.Ytpmogojpdigbmac
open Go.RowKit

theorem cons_len {n : Nat} {l : List Value} (h : l.length = n + 1) : ∃ v t, l = v :: t ∧ t.length = n := by
  cases l with
  | nil => cases h
  | cons v t => exact ⟨v, t, rfl, by simpa using h⟩
theorem frame43 (a : Array Value) (h : a.size = 43) : ∃ x0 x1 x2 x3 x4 x5 x6 x7 x8 x9 x10 x11 x12 x13 x14 x15 x16 x17 x18 x19 x20 x21 x22 x23 x24 x25 x26 x27 x28 x29 x30 x31 x32 x33 x34 x35 x36 x37 x38 x39 x40 x41 x42, a = #[x0, x1, x2, x3, x4, x5, x6, x7, x8, x9, x10, x11, x12, x13, x14, x15, x16, x17, x18, x19, x20, x21, x22, x23, x24, x25, x26, x27, x28, x29, x30, x31, x32, x33, x34, x35, x36, x37, x38, x39, x40, x41, x42] := by
  obtain ⟨l⟩ := a
  have h0 : l.length = 43 := h
  obtain ⟨x0, l1, e0, h1⟩ := cons_len h0
  obtain ⟨x1, l2, e1, h2⟩ := cons_len h1
  obtain ⟨x2, l3, e2, h3⟩ := cons_len h2
  obtain ⟨x3, l4, e3, h4⟩ := cons_len h3
  obtain ⟨x4, l5, e4, h5⟩ := cons_len h4
  obtain ⟨x5, l6, e5, h6⟩ := cons_len h5
  obtain ⟨x6, l7, e6, h7⟩ := cons_len h6
  obtain ⟨x7, l8, e7, h8⟩ := cons_len h7
  obtain ⟨x8, l9, e8, h9⟩ := cons_len h8
  obtain ⟨x9, l10, e9, h10⟩ := cons_len h9
  obtain ⟨x10, l11, e10, h11⟩ := cons_len h10
  obtain ⟨x11, l12, e11, h12⟩ := cons_len h11
  obtain ⟨x12, l13, e12, h13⟩ := cons_len h12
  obtain ⟨x13, l14, e13, h14⟩ := cons_len h13
  obtain ⟨x14, l15, e14, h15⟩ := cons_len h14
  obtain ⟨x15, l16, e15, h16⟩ := cons_len h15
  obtain ⟨x16, l17, e16, h17⟩ := cons_len h16
  obtain ⟨x17, l18, e17, h18⟩ := cons_len h17
  obtain ⟨x18, l19, e18, h19⟩ := cons_len h18
  obtain ⟨x19, l20, e19, h20⟩ := cons_len h19
  obtain ⟨x20, l21, e20, h21⟩ := cons_len h20
  obtain ⟨x21, l22, e21, h22⟩ := cons_len h21
  obtain ⟨x22, l23, e22, h23⟩ := cons_len h22
  obtain ⟨x23, l24, e23, h24⟩ := cons_len h23
  obtain ⟨x24, l25, e24, h25⟩ := cons_len h24
  obtain ⟨x25, l26, e25, h26⟩ := cons_len h25
  obtain ⟨x26, l27, e26, h27⟩ := cons_len h26
  obtain ⟨x27, l28, e27, h28⟩ := cons_len h27
  obtain ⟨x28, l29, e28, h29⟩ := cons_len h28
  obtain ⟨x29, l30, e29, h30⟩ := cons_len h29
  obtain ⟨x30, l31, e30, h31⟩ := cons_len h30
  obtain ⟨x31, l32, e31, h32⟩ := cons_len h31
  obtain ⟨x32, l33, e32, h33⟩ := cons_len h32
  obtain ⟨x33, l34, e33, h34⟩ := cons_len h33
  obtain ⟨x34, l35, e34, h35⟩ := cons_len h34
  obtain ⟨x35, l36, e35, h36⟩ := cons_len h35
  obtain ⟨x36, l37, e36, h37⟩ := cons_len h36
  obtain ⟨x37, l38, e37, h38⟩ := cons_len h37
  obtain ⟨x38, l39, e38, h39⟩ := cons_len h38
  obtain ⟨x39, l40, e39, h40⟩ := cons_len h39
  obtain ⟨x40, l41, e40, h41⟩ := cons_len h40
  obtain ⟨x41, l42, e41, h42⟩ := cons_len h41
  obtain ⟨x42, l43, e42, h43⟩ := cons_len h42
  have e43 : l43 = [] := List.length_eq_zero_iff.1 h43
  subst e43 e42 e41 e40 e39 e38 e37 e36 e35 e34 e33 e32 e31 e30 e29 e28 e27 e26 e25 e24 e23 e22 e21 e20 e19 e18 e17 e16 e15 e14 e13 e12 e11 e10 e9 e8 e7 e6 e5 e4 e3 e2 e1 e0
  exact ⟨x0, x1, x2, x3, x4, x5, x6, x7, x8, x9, x10, x11, x12, x13, x14, x15, x16, x17, x18, x19, x20, x21, x22, x23, x24, x25, x26, x27, x28, x29, x30, x31, x32, x33, x34, x35, x36, x37, x38, x39, x40, x41, x42, rfl⟩

/-! Facts on the way through a region, with the blocks' makers. -/
def tEq (x : Value) : Fact := fun v _ _ => v = x
theorem tEq_stays (x : Value) : Stays3 (tEq x) := fun _ _ _ _ _ h _ _ => h
/-- Old blocks, and those that the operations ns made. -/
def tP (A S : Nat) (t : Nat → Nat) (ns : List Nat) : Nat → Prop := fun b => b < A ∨ (S ≤ b ∧ t b ∈ ns)
def tOwn (A S n : Nat) (l : List Fm) : Fact := fun v w t => ∃ ad cp, v = .slice ad l.length cp ∧ KP (tP A S t [n]) S w ad cp l ∧ ∀ g, (Value.slice ad l.length cp).ownBlock = some g → t g = n
def tBlk (S n : Nat) (cs : Array Value) (T : TypeId) : Fact := fun v w t => ∃ g, v = .slice (some ⟨g, 0, none⟩) 1 1 ∧ w.heap[g]? = some (.cells cs T (0, 0)) ∧ S ≤ g ∧ t g = n
def tPtr (S n : Nat) (cs : Array Value) (T : TypeId) : Fact := fun v w t => ∃ g, v = .pointer (some ⟨g, 0, none⟩) ∧ w.heap[g]? = some (.cells cs T (0, 0)) ∧ S ≤ g ∧ t g = n
def tFL (A S : Nat) (ns : List Nat) (l : List Fm) : Fact := fun v w t => ∃ ad m cp, v = .slice ad m cp ∧ FLp (tP A S t ns) w (.slice ad m cp) l
def tSq (A S : Nat) (ns : List Nat) (l : List Fm) (vr : Value) : Fact := fun v w t => ∃ ad m cp, v = .agg #[.slice ad m cp, vr] ∧ FLp (tP A S t ns) w (.slice ad m cp) l
def tPf (A S : Nat) (ns : List Nat) (l : List Fm) (a c0 c1 c2 vr : Value) : Fact := fun v w t => ∃ ad m cp, v = .agg #[a, c0, c1, c2, .slice ad m cp, vr, .slice none 0 0] ∧ FLp (tP A S t ns) w (.slice ad m cp) l
theorem tP.up {A S : Nat} {t t' : Nat → Nat} {ns : List Nat} {b N : Nat} (h : tP A S t ns b) (ht : ∀ b, b < N → t' b = t b) (hb : b < N) : tP A S t' ns b := h.imp id fun h => ⟨h.1, by rw [ht b hb]; exact h.2⟩
theorem KP.move {P P' : Nat → Prop} {B : Nat} {w w' : World} {ad : Option Addr} {cap : Nat} {fs : List Fm} (h : KP P B w ad cap fs) (hb : ∀ b, b < w.heap.size → w'.heap[b]? = w.heap[b]?) (hp : ∀ b, b < w.heap.size → P b → P' b) : KP P' B w' ad cap fs := by
  obtain ⟨cs, ⟨h1, h2⟩, h3⟩ := h
  refine ⟨cs, ⟨h1, ?_⟩, h3.move fun b hb1 hb2 => ⟨hb b hb1, hp b hb1 hb2.1, hb2.2⟩⟩
  rcases h2 with h2 | ⟨g, cap, cur, hv, hg, hh, r⟩
  · exact Or.inl h2
  · exact Or.inr ⟨g, cap, cur, hv, hg, (hb g (lt_of_block hh)).trans hh, r⟩
theorem tOwn_stays (A S n : Nat) (l : List Fm) : Stays3 (tOwn A S n l) := fun _ w _ _ _ h hb ht => by
  obtain ⟨ad, cp, hv, hk, hg⟩ := h
  refine ⟨ad, cp, hv, hk.move (fun b hb1 => hb.block b hb1) fun b hb1 hp => hp.up ht hb1, fun g e => ?_⟩
  obtain ⟨cs, ho, -⟩ := hk
  rw [ht g (ho.lt g e).2]; exact hg g e
theorem tBlk_stays (S n : Nat) (cs : Array Value) (T : TypeId) : Stays3 (tBlk S n cs T) := fun _ w _ _ _ h hb ht => by
  obtain ⟨g, hv, hh, h1, h2⟩ := h
  exact ⟨g, hv, below_keep hb hh, h1, by rw [ht g (lt_of_block hh)]; exact h2⟩
theorem tPtr_stays (S n : Nat) (cs : Array Value) (T : TypeId) : Stays3 (tPtr S n cs T) := fun _ w _ _ _ h hb ht => by
  obtain ⟨g, hv, hh, h1, h2⟩ := h
  exact ⟨g, hv, below_keep hb hh, h1, by rw [ht g (lt_of_block hh)]; exact h2⟩
theorem tFL_stays (A S : Nat) (ns : List Nat) (l : List Fm) : Stays3 (tFL A S ns l) := fun _ w _ _ _ h hb ht => by
  obtain ⟨ad, m, cp, hv, hf⟩ := h
  exact ⟨ad, m, cp, hv, hf.move fun b hb1 hp => ⟨hb.block b hb1, hp.up ht hb1⟩⟩
theorem tSq_stays (A S : Nat) (ns : List Nat) (l : List Fm) (vr : Value) : Stays3 (tSq A S ns l vr) := fun _ w _ _ _ h hb ht => by
  obtain ⟨ad, m, cp, hv, hf⟩ := h
  exact ⟨ad, m, cp, hv, hf.move fun b hb1 hp => ⟨hb.block b hb1, hp.up ht hb1⟩⟩
theorem tPf_stays (A S : Nat) (ns : List Nat) (l : List Fm) (a c0 c1 c2 vr : Value) : Stays3 (tPf A S ns l a c0 c1 c2 vr) := fun _ w _ _ _ h hb ht => by
  obtain ⟨ad, m, cp, hv, hf⟩ := h
  exact ⟨ad, m, cp, hv, hf.move fun b hb1 hp => ⟨hb.block b hb1, hp.up ht hb1⟩⟩
/-- What an append may do: write blocks of maker n. -/
def tW (S n : Nat) : Rel3 := fun w t w' => w'.os = w.os ∧ w'.tape = w.tape ∧ w'.output = w.output ∧ w.heap.size ≤ w'.heap.size ∧ ∀ b, b < w.heap.size → (b < S ∨ t b ≠ n) → w'.heap[b]? = w.heap[b]?
theorem tPtr_live (S S' n n' : Nat) (hn : n' ≠ n) (cs : Array Value) (T : TypeId) (v : Value) (w : World) (t : Nat → Nat) (w' : World) (t' : Nat → Nat) (h : tPtr S n' cs T v w t) (hw : tW S' n w t w') (ht : ∀ b, b < w.heap.size → t' b = t b) : tPtr S n' cs T v w' t' := by
  obtain ⟨g, hv, hh, h1, h2⟩ := h
  exact ⟨g, hv, (hw.2.2.2.2 g (lt_of_block hh) (Or.inr (by rw [h2]; exact hn))).trans hh, h1, by rw [ht g (lt_of_block hh)]; exact h2⟩
/-! The same for lists of proofs. -/
def tKid (A S n : Nat) (p : Pf) : Fact := fun v w t => PRp (tP A S t [n]) w p v
theorem tKid_stays (A S n : Nat) (p : Pf) : Stays3 (tKid A S n p) := fun _ _ _ _ _ h hb ht => PRp.move h fun b hb1 hp => ⟨hb.block b hb1, hp.up ht hb1⟩
def tKF (P : Nat → Prop) (B : Nat) (ad : Option Addr) (cp i : Nat) (ps : List Pf) : Fact := fun v w _ => v = .slice ad i cp ∧ KF P B w ad cp ps
theorem tKF_stays (P : Nat → Prop) (B : Nat) (ad : Option Addr) (cp i : Nat) (ps : List Pf) : Stays3 (tKF P B ad cp i ps) := fun _ _ _ _ _ h hb _ => ⟨h.1, h.2.up hb⟩
def tNew (A S n : Nat) (T : TypeId) (p : Pf) : Fact := fun v w t => ∃ g y0 y1 y2 y3 y4 y5 y6, v = .slice (some ⟨g, 0, none⟩) 1 1 ∧ w.heap[g]? = some (.cells #[y0, y1, y2, y3, y4, y5, y6] T (0, 0)) ∧ PRp (tP A S t [n]) w p (.agg #[y0, y1, y2, y3, y4, y5, y6])
theorem tNew_stays (A S n : Nat) (T : TypeId) (p : Pf) : Stays3 (tNew A S n T p) := fun _ w _ _ _ h hb ht => by
  obtain ⟨g, y0, y1, y2, y3, y4, y5, y6, hv, hh, hp⟩ := h
  exact ⟨g, y0, y1, y2, y3, y4, y5, y6, hv, below_keep hb hh, hp.move fun b hb1 hp => ⟨hb.block b hb1, hp.up ht hb1⟩⟩
def tMade (P : Nat → Prop) (B n : Nat) (ps : List Pf) : Fact := fun v w _ => ∃ g cp, v = .slice (some ⟨g, 0, none⟩) n cp ∧ KF P B w (some ⟨g, 0, none⟩) cp ps
theorem tMade_stays (P : Nat → Prop) (B n : Nat) (ps : List Pf) : Stays3 (tMade P B n ps) := fun _ w _ _ _ h hb _ => by
  obtain ⟨g, cp, hv, hk⟩ := h
  exact ⟨g, cp, hv, hk.up hb⟩
theorem tKid_live (A S n : Nat) (p : Pf) (own : Option Nat) (ho : ∀ b, own = some b → A ≤ b ∧ b < S) (v : Value) (w : World) (t : Nat → Nat) (w' : World) (t' : Nat → Nat) (h : tKid A S n p v w t) (hw : w.grownBy w' own) (ht : ∀ b, b < w.heap.size → t' b = t b) : tKid A S n p v w' t' :=
  PRp.move h fun b hb1 hp => ⟨hw.block b hb1 fun e => by have := ho b e.symm; rcases hp with hp | hp <;> omega, hp.up ht hb1⟩
theorem KF.rep {P : Nat → Prop} {B : Nat} {w : World} {ad : Option Addr} {cap : Nat} {ps : List Pf} (h : KF P B w ad cap ps) (hPB : ∀ b, B ≤ b → P b) : ps.length ≤ cap ∧ cap ≤ maxLen ∧ (ps ≠ [] → ∃ b off, ad = some ⟨b, off, none⟩ ∧ P b ∧ PRps P w b off ps) := by
  obtain ⟨cs, hown, hlq⟩ := h
  rcases hown.2 with ⟨hv, h0⟩ | ⟨g, cp, cur, hv, hg, hh, h1, h2, -⟩
  · simp only [Value.slice.injEq] at hv
    obtain ⟨rfl, -, rfl⟩ := hv
    exact ⟨by omega, by simp, fun hne => absurd (List.length_eq_zero_iff.1 h0) hne⟩
  · simp only [Value.slice.injEq, true_and] at hv
    obtain ⟨rfl, rfl⟩ := hv
    refine ⟨h1, h2, fun _ => ⟨g, 0, rfl, hPB g hg, ?_⟩⟩
    exact (PQ.move (P' := P) (fun b _ hb => ⟨rfl, hb.1⟩) hlq).reps (b := g) 0 fun j u hu => by
      have := hown.cells (g := g) rfl j u hu
      rw [add_none] at this
      exact this
theorem infoPf : ∃ i, Try.prog.info? 29 = some i ∧ i.zero = some (.agg #[.string ⟨#[]⟩, .int .i64 0, .string ⟨#[]⟩, .slice none 0 0, .slice none 0 0, .slice none 0 0, .slice none 0 0]) ∧ i.size = 7 ∧ i.bytes = 136 := by
  obtain ⟨i, hi, h⟩ := Option.map_eq_some_iff.1 (show (Try.prog.info? 29).map (fun i => (i.zero, i.size, i.bytes)) = some (some (.agg #[.string ⟨#[]⟩, .int .i64 0, .string ⟨#[]⟩, .slice none 0 0, .slice none 0 0, .slice none 0 0, .slice none 0 0]), 7, 136) by kernel_rfl)
  simp only [Prod.mk.injEq] at h
  exact ⟨i, hi, h.1, h.2.1, h.2.2⟩
/-- The append itself. -/
theorem tapp {A S n x : Nat} {l : List Fm} {f : Fm} {w1 w3 : World} {t : Nat → Nat} {ad : Option Addr} {cp : Nat} {c0 c1 c2 : Value} {cs : List Value} {g3 cp3 : Nat} (hAS : A ≤ S)
    (hown : w1.ownsRow S 24 3 (.slice ad l.length cp) l.length cs) (hlq : LQ (fun b => tP A S t [n] b ∧ (Value.slice ad l.length cp).ownBlock ≠ some b) w1 cs l) (hg : ∀ g, (Value.slice ad l.length cp).ownBlock = some g → t g = n)
    (hrep : Rep w1 (· < A) f (.agg #[c0, c1, c2]))
    (hown3 : w3.ownsRow S 24 3 (.slice (some ⟨g3, 0, none⟩) (l.length + 1) cp3) (l.length + 1) (cs ++ [c0, c1, c2]))
    (hgrow : w1.grownBy w3 (Value.slice ad l.length cp).ownBlock) (hat : (Value.slice ad l.length cp).ownBlock = some g3 ∨ g3 = w1.heap.size) :
    tFL A S [n, x] (l ++ [f]) (.slice (some ⟨g3, 0, none⟩) (l.length + 1) cp3) w3 (mark w1 t x) ∧ tW S n w1 t w3 := by
  have hs2 := hgrow.size
  refine ⟨⟨_, _, _, rfl, ?_⟩, hgrow.os, hgrow.tape, hgrow.output, hs2, fun b hb h => hgrow.block b hb fun e => ?_⟩
  · have hkp : KP (tP A S (mark w1 t x) [n, x]) S w3 (some ⟨g3, 0, none⟩) cp3 (l ++ [f]) := by
      refine ⟨cs ++ [c0, c1, c2], by rw [List.length_append]; exact hown3, ?_⟩
      refine ((hlq.move (ok' := fun b => tP A S (mark w1 t x) [n, x] b ∧ (Value.slice ad l.length cp).ownBlock ≠ some b) fun b hb hp => ⟨rfl, hp.1.imp id fun h => ⟨h.1, by have := h.2; simp at this; simp [mark, hb, this]⟩, hp.2⟩).append (ds := [c0, c1, c2]) (gs := [f]) ⟨hrep.move fun b hb hok => ⟨rfl, Or.inl hok, fun e => by have := (hown.lt b e).1; have : b < A := hok; omega⟩, trivial⟩).move fun b hb hok => ⟨hgrow.block b hb (fun e => hok.2 e.symm), hok.1, fun e => ?_⟩
      have e : g3 = b := by simpa [Value.ownBlock] using e
      rcases hat with h | h
      · exact hok.2 (by rw [h, e])
      · omega
    have hPg : tP A S (mark w1 t x) [n, x] g3 := by
      refine Or.inr ⟨(hown3.lt g3 rfl).1, ?_⟩
      rcases hat with h | h
      · simp [mark, (hown.lt g3 h).2, hg g3 h]
      · simp [mark, h]
    obtain ⟨cs', ho', hl'⟩ := hkp
    have hb : (l ++ [f]).length = l.length + 1 := by rw [List.length_append]; rfl
    rcases ho'.2 with ⟨hv, -⟩ | ⟨g, cp', cur, hv, hg', hh, h1, h2, -⟩
    · simp at hv
    · simp only [Value.slice.injEq, Option.some.injEq, Addr.mk.injEq, and_true, true_and] at hv
      obtain ⟨rfl, rfl⟩ := hv
      refine ⟨_, cp3, ?_, h1, h2, fun _ => ⟨g3, 0, rfl, hPg, ?_⟩⟩
      · rw [hb]
      · exact (hl'.move (ok' := tP A S (mark w1 t x) [n, x]) fun b _ hb => ⟨rfl, hb.1⟩).reps (b := g3) 0 fun j u hu => by
          have := ho'.cells (g := g3) rfl j u hu
          rw [add_none] at this
          exact this
  · have hb2 := hown.lt b e.symm
    rcases h with h | h
    · omega
    · exact h (hg b e.symm)
end Go.Proofs.Ytpmogojpdigbmac
