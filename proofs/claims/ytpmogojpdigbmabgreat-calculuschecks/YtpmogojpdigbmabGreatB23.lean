/- Texts of one proof, one behind the other: CW3, CW4, CW5, CW6, CS2, YF1, YM1. -/
import Derived.Test.YtpmogojpdigbmabGreatB22
import Derived.Test.YtpmogojpdigbmabGreatB12
import Derived.Test.YtpmogojpdigbmabGreatB02
import Derived.Test.YtpmogojpdigbmabGreatB19
import Derived.Test.YtpmogojpdigbmabGreatB05
import Derived.Deep.DeepCutAuto
import Derived.Test.YtpmogojpdigbmabGreatB06
import Derived.Test.YtpmogojpdigbmabGreatB21
import Derived.Test.YtpmogojpdigbmabGreatB10
/- Proofs in memory, and where they lie. -/
namespace Go.Proofs.YtpmogojpdigbmabGreat
open Go.RowKit

mutual
/-- A proof, in blocks for which P holds. -/
def PRp (P : Nat → Prop) (w : World) : Pf → Value → Prop
  | .mk a f l r ks, v => ∃ c0 c1 c2 vl vr sl cap, v = .agg #[.string a, c0, c1, c2, vl, vr, .slice sl ks.length cap] ∧ a.size ≤ maxLen ∧ Rep w P f (.agg #[c0, c1, c2]) ∧ FLp P w vl l ∧ FLp P w vr r ∧ ks.length ≤ cap ∧ cap ≤ maxLen ∧ (ks ≠ [] → ∃ b off, sl = some ⟨b, off, none⟩ ∧ P b ∧ PRps P w b off ks)
def PRps (P : Nat → Prop) (w : World) (b : Nat) : Nat → List Pf → Prop
  | _, [] => True
  | off, p :: ps => (∃ c0 c1 c2 c3 c4 c5 c6, w.cell? ⟨b, off, none⟩ = some c0 ∧ w.cell? ⟨b, off + 1, none⟩ = some c1 ∧ w.cell? ⟨b, off + 2, none⟩ = some c2 ∧ w.cell? ⟨b, off + 3, none⟩ = some c3 ∧ w.cell? ⟨b, off + 4, none⟩ = some c4 ∧ w.cell? ⟨b, off + 5, none⟩ = some c5 ∧ w.cell? ⟨b, off + 6, none⟩ = some c6 ∧ PRp P w p (.agg #[c0, c1, c2, c3, c4, c5, c6])) ∧ PRps P w b (off + 7) ps
end
theorem PRp.def {P : Nat → Prop} {w : World} {a : ByteArray} {f : Fm} {l r : List Fm} {ks : List Pf} {v : Value} : PRp P w (.mk a f l r ks) v ↔ ∃ c0 c1 c2 vl vr sl cap, v = .agg #[.string a, c0, c1, c2, vl, vr, .slice sl ks.length cap] ∧ a.size ≤ maxLen ∧ Rep w P f (.agg #[c0, c1, c2]) ∧ FLp P w vl l ∧ FLp P w vr r ∧ ks.length ≤ cap ∧ cap ≤ maxLen ∧ (ks ≠ [] → ∃ b off, sl = some ⟨b, off, none⟩ ∧ P b ∧ PRps P w b off ks) := by
  rw [PRp]
theorem PRps.nil {P : Nat → Prop} {w : World} {b off : Nat} : PRps P w b off [] := by rw [PRps]; trivial
theorem PRps.cons {P : Nat → Prop} {w : World} {b off : Nat} {p : Pf} {ps : List Pf} : PRps P w b off (p :: ps) ↔ (∃ c0 c1 c2 c3 c4 c5 c6, w.cell? ⟨b, off, none⟩ = some c0 ∧ w.cell? ⟨b, off + 1, none⟩ = some c1 ∧ w.cell? ⟨b, off + 2, none⟩ = some c2 ∧ w.cell? ⟨b, off + 3, none⟩ = some c3 ∧ w.cell? ⟨b, off + 4, none⟩ = some c4 ∧ w.cell? ⟨b, off + 5, none⟩ = some c5 ∧ w.cell? ⟨b, off + 6, none⟩ = some c6 ∧ PRp P w p (.agg #[c0, c1, c2, c3, c4, c5, c6])) ∧ PRps P w b (off + 7) ps := by
  rw [PRps]
mutual
theorem PRp.keep {P P' : Nat → Prop} {w w' : World} (h : ∀ k, k < w.heap.size → P k → w'.heap[k]? = w.heap[k]? ∧ P' k) : ∀ (p : Pf) (v : Value), PRp P w p v → PRp P' w' p v
  | .mk a f l r ks, v, hp => by
    rw [PRp.def] at hp ⊢; obtain ⟨c0, c1, c2, vl, vr, sl, cap, hv, ha, hf, hl, hr, h1, h2, h3⟩ := hp; (refine ⟨c0, c1, c2, vl, vr, sl, cap, hv, ha, hf.move h, hl.move h, hr.move h, h1, h2, fun hne => ?_⟩); obtain ⟨b, off, hs, hb, hps⟩ := h3 hne
    have hlt : b < w.heap.size := by
      cases ks with
      | nil => exact absurd rfl hne
      | cons k ks =>
        obtain ⟨⟨c0, _, _, _, _, _, _, h0, _⟩, _⟩ := PRps.cons.1 hps; exact lt_of_cell h0
    exact ⟨b, off, hs, (h b hlt hb).2, PRps.keep h b (h b hlt hb).1 off ks hps⟩
theorem PRps.keep {P P' : Nat → Prop} {w w' : World} (h : ∀ k, k < w.heap.size → P k → w'.heap[k]? = w.heap[k]? ∧ P' k) (b : Nat) (hb : w'.heap[b]? = w.heap[b]?) : ∀ (off : Nat) (ps : List Pf), PRps P w b off ps → PRps P' w' b off ps
  | _, [], _ => PRps.nil
  | off, p :: ps, hp => by
    rw [PRps.cons] at hp ⊢; obtain ⟨⟨c0, c1, c2, c3, c4, c5, c6, h0, h1, h2, h3, h4, h5, h6, hr⟩, hs⟩ := hp; (have k := fun (o : Nat) (c : Value) (h : w.cell? ⟨b, o, none⟩ = some c) => (cell_of_block (a := ⟨b, o, none⟩) hb).trans h); exact ⟨⟨c0, c1, c2, c3, c4, c5, c6, k _ _ h0, k _ _ h1, k _ _ h2, k _ _ h3, k _ _ h4, k _ _ h5, k _ _ h6, PRp.keep h p _ hr⟩, PRps.keep h b hb (off + 7) ps hs⟩
end
theorem PRp.move {P P' : Nat → Prop} {w w' : World} {p : Pf} {v : Value} (hp : PRp P w p v) (h : ∀ k, k < w.heap.size → P k → w'.heap[k]? = w.heap[k]? ∧ P' k) : PRp P' w' p v := PRp.keep h p v hp
theorem PRps.move {P P' : Nat → Prop} {w w' : World} {b off : Nat} {ps : List Pf} (hp : PRps P w b off ps) (hb : P b) (h : ∀ k, k < w.heap.size → P k → w'.heap[k]? = w.heap[k]? ∧ P' k) : PRps P' w' b off ps := by
  cases ps with
  | nil => exact PRps.nil
  | cons k ks =>
    obtain ⟨⟨c0, _, _, _, _, _, _, h0, _⟩, _⟩ := PRps.cons.1 hp; exact PRps.keep h b (h b (lt_of_cell h0) hb).1 off _ hp
theorem PRp.up {P : Nat → Prop} {w w' : World} {p : Pf} {v : Value} (hp : PRp P w p v) (hb : Below w.heap.size w w') : PRp P w' p v := hp.move fun k hk h => ⟨hb.block k hk, h⟩
mutual
theorem PRp.rep {P : Nat → Prop} {w : World} : ∀ (p : Pf) (v : Value), PRp P w p v → PRep w p v
  | .mk a f l r ks, v, hp => by
    rw [PRp.def] at hp; rw [PRep.def]; obtain ⟨c0, c1, c2, vl, vr, sl, cap, hv, ha, hf, hl, hr, h1, h2, h3⟩ := hp; (refine ⟨c0, c1, c2, vl, vr, sl, cap, hv, ha, hf.move fun b _ _ => ⟨rfl, trivial⟩, hl.list, hr.list, h1, h2, fun hne => ?_⟩); obtain ⟨b, off, hs, -, hps⟩ := h3 hne; exact ⟨b, off, hs, PRps.reps b off ks hps⟩
theorem PRps.reps {P : Nat → Prop} {w : World} (b : Nat) : ∀ (off : Nat) (ps : List Pf), PRps P w b off ps → PReps w b off ps
  | _, [], _ => PReps.nil
  | off, p :: ps, hp => by
    rw [PRps.cons] at hp; rw [PReps.cons]; obtain ⟨⟨c0, c1, c2, c3, c4, c5, c6, h0, h1, h2, h3, h4, h5, h6, hr⟩, hs⟩ := hp; exact ⟨⟨c0, c1, c2, c3, c4, c5, c6, h0, h1, h2, h3, h4, h5, h6, PRp.rep p _ hr⟩, PRps.reps b (off + 7) ps hs⟩
end
mutual
theorem PRep.low {w : World} : ∀ (p : Pf) (v : Value), PRep w p v → PRp (· < w.heap.size) w p v
  | .mk a f l r ks, v, hp => by
    rw [PRep.def] at hp; rw [PRp.def]; obtain ⟨c0, c1, c2, vl, vr, sl, cap, hv, ha, hf, hl, hr, h1, h2, h3⟩ := hp; (refine ⟨c0, c1, c2, vl, vr, sl, cap, hv, ha, hf.move fun b hb _ => ⟨rfl, hb⟩, hl.low, hr.low, h1, h2, fun hne => ?_⟩); obtain ⟨b, off, hs, hps⟩ := h3 hne
    have hlt : b < w.heap.size := by
      cases ks with
      | nil => exact absurd rfl hne
      | cons k ks =>
        obtain ⟨⟨c0, _, _, _, _, _, _, h0, _⟩, _⟩ := PReps.cons.1 hps; exact lt_of_cell h0
    exact ⟨b, off, hs, hlt, PReps.low b off ks hps⟩
theorem PReps.low {w : World} (b : Nat) : ∀ (off : Nat) (ps : List Pf), PReps w b off ps → PRps (· < w.heap.size) w b off ps
  | _, [], _ => PRps.nil
  | off, p :: ps, hp => by
    rw [PReps.cons] at hp; rw [PRps.cons]; obtain ⟨⟨c0, c1, c2, c3, c4, c5, c6, h0, h1, h2, h3, h4, h5, h6, hr⟩, hs⟩ := hp; exact ⟨⟨c0, c1, c2, c3, c4, c5, c6, h0, h1, h2, h3, h4, h5, h6, PRep.low p _ hr⟩, PReps.low b (off + 7) ps hs⟩
end
theorem PRp.parts {P : Nat → Prop} {w : World} {a : ByteArray} {k : Int} {n : ByteArray} {kf : List Fm} {l r : List Fm} {ks : List Pf} {v : Value} (h : PRp P w (.mk a (.mk k n kf) l r ks) v) :
    ∃ sf cf al cl ar cr sl cap, v = .agg #[.string a, .int .i64 k, .string n, .slice sf kf.length cf, .slice al l.length cl, .slice ar r.length cr, .slice sl ks.length cap] ∧ a.size ≤ maxLen ∧ Rep w P (.mk k n kf) (.agg #[.int .i64 k, .string n, .slice sf kf.length cf]) ∧ FLp P w (.slice al l.length cl) l ∧ FLp P w (.slice ar r.length cr) r ∧ ks.length ≤ cap ∧ cap ≤ maxLen ∧ (ks ≠ [] → ∃ b off, sl = some ⟨b, off, none⟩ ∧ P b ∧ PRps P w b off ks) := by
  obtain ⟨c0, c1, c2, vl, vr, sl, cap, hv, ha, hf, hl, hr, h1, h2, h3⟩ := PRp.def.1 h; obtain ⟨sf, cf, hfv⟩ := slice_shape hf; simp only [Value.agg.injEq, Array.mk.injEq, List.cons.injEq, and_true] at hfv; obtain ⟨rfl, rfl, rfl⟩ := hfv; have hl' := hl; have hr' := hr; obtain ⟨al, cl, rfl, -⟩ := hl; obtain ⟨ar, cr, rfl, -⟩ := hr; exact ⟨sf, cf, al, cl, ar, cr, sl, cap, hv, ha, hf, hl', hr', h1, h2, h3⟩
theorem PRps.get {P : Nat → Prop} {w : World} {b : Nat} : ∀ {off : Nat} {ps : List Pf} (_ : PRps P w b off ps) (i : Nat) (p : Pf) (_ : ps[i]? = some p),
    ∃ c0 c1 c2 c3 c4 c5 c6, w.cell? ⟨b, off + i * 7, none⟩ = some c0 ∧ w.cell? ⟨b, off + i * 7 + 1, none⟩ = some c1 ∧ w.cell? ⟨b, off + i * 7 + 2, none⟩ = some c2 ∧ w.cell? ⟨b, off + i * 7 + 3, none⟩ = some c3 ∧ w.cell? ⟨b, off + i * 7 + 4, none⟩ = some c4 ∧ w.cell? ⟨b, off + i * 7 + 5, none⟩ = some c5 ∧ w.cell? ⟨b, off + i * 7 + 6, none⟩ = some c6 ∧ PRp P w p (.agg #[c0, c1, c2, c3, c4, c5, c6])
  | off, [], _, i, p, hp => by simp at hp
  | off, q :: qs, h, i, p, hp => by
    obtain ⟨h1, h2⟩ := PRps.cons.1 h
    cases i with
    | zero => simp at hp; subst hp; simpa using h1
    | succ i =>
      (have := PRps.get h2 i p (by simpa using hp)); (have e : off + 7 + i * 7 = off + (i + 1) * 7 := by omega)
      rwa [e] at this
theorem PRps.at {P : Nat → Prop} {w : World} {b off : Nat} {ps : List Pf} (h : PRps P w b off ps) (i : Nat) (a : ByteArray) (k : Int) (n : ByteArray) (kf : List Fm) (l r : List Fm) (ks : List Pf) (hp : ps[i]? = some (.mk a (.mk k n kf) l r ks)) :
    ∃ sf cf al cl ar cr sl cap, w.cell? ⟨b, off + i * 7, none⟩ = some (.string a) ∧ w.cell? ⟨b, off + i * 7 + 1, none⟩ = some (.int .i64 k) ∧ w.cell? ⟨b, off + i * 7 + 2, none⟩ = some (.string n) ∧ w.cell? ⟨b, off + i * 7 + 3, none⟩ = some (.slice sf kf.length cf) ∧ w.cell? ⟨b, off + i * 7 + 4, none⟩ = some (.slice al l.length cl) ∧ w.cell? ⟨b, off + i * 7 + 5, none⟩ = some (.slice ar r.length cr) ∧ w.cell? ⟨b, off + i * 7 + 6, none⟩ = some (.slice sl ks.length cap) ∧
      PRp P w (.mk a (.mk k n kf) l r ks) (.agg #[.string a, .int .i64 k, .string n, .slice sf kf.length cf, .slice al l.length cl, .slice ar r.length cr, .slice sl ks.length cap]) := by
  obtain ⟨c0, c1, c2, c3, c4, c5, c6, h0, h1, h2, h3, h4, h5, h6, hr⟩ := h.get i _ hp; obtain ⟨sf, cf, al, cl, ar, cr, sl, cap, hv, -⟩ := hr.parts; simp only [Value.agg.injEq, Array.mk.injEq, List.cons.injEq, and_true] at hv; obtain ⟨rfl, rfl, rfl, rfl, rfl, rfl, rfl⟩ := hv; exact ⟨sf, cf, al, cl, ar, cr, sl, cap, h0, h1, h2, h3, h4, h5, h6, hr⟩

/-- Cells that are proofs. -/
def PQ (P : Nat → Prop) (w : World) : List Value → List Pf → Prop
  | [], [] => True
  | c0 :: c1 :: c2 :: c3 :: c4 :: c5 :: c6 :: cs, p :: ps => PRp P w p (.agg #[c0, c1, c2, c3, c4, c5, c6]) ∧ PQ P w cs ps
  | _, _ => False
theorem PQ.len {P : Nat → Prop} {w : World} : ∀ {cs : List Value} {ps : List Pf}, PQ P w cs ps → cs.length = ps.length * 7
  | [], [], _ => rfl
  | _ :: _ :: _ :: _ :: _ :: _ :: _ :: _, _ :: _, h => by
    have := PQ.len h.2; simp only [List.length_cons]; omega
theorem PQ.move {P P' : Nat → Prop} {w w' : World} (h : ∀ k, k < w.heap.size → P k → w'.heap[k]? = w.heap[k]? ∧ P' k) : ∀ {cs : List Value} {ps : List Pf}, PQ P w cs ps → PQ P' w' cs ps
  | [], [], _ => trivial
  | _ :: _ :: _ :: _ :: _ :: _ :: _ :: _, _ :: _, hp => ⟨hp.1.move h, PQ.move h hp.2⟩
theorem PQ.append {P : Nat → Prop} {w : World} {ds : List Value} {qs : List Pf} (hd : PQ P w ds qs) : ∀ {cs : List Value} {ps : List Pf}, PQ P w cs ps → PQ P w (cs ++ ds) (ps ++ qs)
  | [], [], _ => hd
  | _ :: _ :: _ :: _ :: _ :: _ :: _ :: _, _ :: _, hp => ⟨hp.1, PQ.append hd hp.2⟩
theorem PQ.reps {P : Nat → Prop} {w : World} {b : Nat} : ∀ {cs : List Value} {ps : List Pf} (off : Nat), PQ P w cs ps → (∀ (j : Nat) (u : Value), cs[j]? = some u → w.cell? ⟨b, off + j, none⟩ = some u) → PRps P w b off ps
  | [], [], _, _, _ => PRps.nil
  | c0 :: c1 :: c2 :: c3 :: c4 :: c5 :: c6 :: cs, p :: ps, off, hp, hc => by
    rw [PRps.cons]; (refine ⟨⟨c0, c1, c2, c3, c4, c5, c6, hc 0 _ rfl, hc 1 _ rfl, hc 2 _ rfl, hc 3 _ rfl, hc 4 _ rfl, hc 5 _ rfl, hc 6 _ rfl, hp.1⟩, PQ.reps (off + 7) hp.2 fun j u hu => ?_⟩); (have := hc (j + 7) u (by simpa using hu))
    rwa [show off + (j + 7) = off + 7 + j by omega] at this
theorem PQ.one {P : Nat → Prop} {w : World} : ∀ {cs : List Value} {ps : List Pf}, PQ P w cs ps → ∀ u ∈ cs, u.oneCell' = true
  | [], [], _, u, hu => by cases hu
  | c0 :: c1 :: c2 :: c3 :: c4 :: c5 :: c6 :: cs, ⟨a, ⟨k, n, kf⟩, l, r, ks⟩ :: ps, hp, u, hu => by
    obtain ⟨sf, cf, al, cl, ar, cr, sl, cap, hv, -⟩ := hp.1.parts; simp only [Value.agg.injEq, Array.mk.injEq, List.cons.injEq, and_true] at hv; obtain ⟨rfl, rfl, rfl, rfl, rfl, rfl, rfl⟩ := hv; simp only [List.mem_cons] at hu
    rcases hu with rfl | rfl | rfl | rfl | rfl | rfl | rfl | hu
    iterate 7 rfl
    exact PQ.one hp.2 u hu
/-- A list of proofs being made. -/
def KF (P : Nat → Prop) (B : Nat) (w : World) (ad : Option Addr) (cap : Nat) (ps : List Pf) : Prop := ∃ cs, w.ownsRow B 29 7 (.slice ad ps.length cap) ps.length cs ∧ PQ (fun b => P b ∧ (Value.slice ad ps.length cap).ownBlock ≠ some b) w cs ps
theorem KF.nil {P : Nat → Prop} {B : Nat} {w : World} : KF P B w none 0 [] := ⟨[], ⟨rfl, Or.inl ⟨rfl, rfl⟩⟩, trivial⟩
theorem KF.same {P : Nat → Prop} {B : Nat} {w w' : World} {ad : Option Addr} {cap : Nat} {ps : List Pf} (h : KF P B w ad cap ps) (hb : ∀ b, P b ∨ B ≤ b → b < w.heap.size → w'.heap[b]? = w.heap[b]?) : KF P B w' ad cap ps := by
  obtain ⟨cs, ⟨h1, h2⟩, h3⟩ := h; (refine ⟨cs, ⟨h1, ?_⟩, PQ.move (fun b hb1 hb2 => ⟨hb b (Or.inl hb2.1) hb1, hb2⟩) h3⟩)
  rcases h2 with h2 | ⟨g, cap, cur, hv, hg, hh, r⟩
  · exact Or.inl h2
  · exact Or.inr ⟨g, cap, cur, hv, hg, (hb g (Or.inr hg) (lt_of_block hh)).trans hh, r⟩
theorem KF.up {P : Nat → Prop} {B : Nat} {w w' : World} {ad : Option Addr} {cap : Nat} {ps : List Pf} (h : KF P B w ad cap ps) (hb : Below w.heap.size w w') : KF P B w' ad cap ps := h.same fun b _ hb1 => hb.block b hb1
/-- More proofs. -/
theorem KF.app {P : Nat → Prop} {B : Nat} {w1 w3 : World} {ad : Option Addr} {cp : Nat} {ps qs : List Pf} {cs ds : List Value} {g3 cp3 i j : Nat} (hi : ps.length = i) (hj : qs.length = j)
    (hown : w1.ownsRow B 29 7 (.slice ad i cp) i cs) (hpq : PQ (fun b => P b ∧ (Value.slice ad i cp).ownBlock ≠ some b) w1 cs ps)
    (hqq : PQ (fun b => P b ∧ (Value.slice ad i cp).ownBlock ≠ some b) w1 ds qs)
    (hown3 : w3.ownsRow B 29 7 (.slice (some ⟨g3, 0, none⟩) (i + j) cp3) (i + j) (cs ++ ds))
    (hgrow : w1.grownBy w3 (Value.slice ad i cp).ownBlock) (hat : (Value.slice ad i cp).ownBlock = some g3 ∨ g3 = w1.heap.size) :
    KF P B w3 (some ⟨g3, 0, none⟩) cp3 (ps ++ qs) := by
  subst hi hj; refine ⟨cs ++ ds, ?_, ?_⟩
  · rw [List.length_append]; exact hown3
  · refine PQ.move (fun b hb hok => ⟨hgrow.block b hb (fun e => hok.2 e.symm), hok.1, fun e => ?_⟩) (PQ.append hqq hpq)
    (have e : g3 = b := by simpa [Value.ownBlock] using e)
    rcases hat with h | h
    · exact hok.2 (by rw [h, e])
    · omega
end Go.Proofs.YtpmogojpdigbmabGreat
/- Walks: everywhere. -/
namespace Go.Proofs.YtpmogojpdigbmabGreat
open Go.RowKit

theorem cons_len {n : Nat} {l : List Value} (h : l.length = n + 1) : ∃ v t, l = v :: t ∧ t.length = n := by
  cases l with
  | nil => cases h
  | cons v t => exact ⟨v, t, rfl, by simpa using h⟩
/-! Facts on the way through a region, with the blocks' makers. -/
def tEq (x : Value) : Fact := fun v _ _ => v = x
theorem tEq_stays (x : Value) : Stays3 (tEq x) := fun _ _ _ _ _ h _ _ => h
/-- Old blocks, and those that the operations ns made. -/
def tP (A S : Nat) (t : Nat → Nat) (ns : List Nat) : Nat → Prop := fun b => b < A ∨ (S ≤ b ∧ t b ∈ ns)
def tPtr (S n : Nat) (cs : Array Value) (T : TypeId) : Fact := fun v w t => ∃ g, v = .pointer (some ⟨g, 0, none⟩) ∧ w.heap[g]? = some (.cells cs T (0, 0)) ∧ S ≤ g ∧ t g = n
theorem tP.up {A S : Nat} {t t' : Nat → Nat} {ns : List Nat} {b N : Nat} (h : tP A S t ns b) (ht : ∀ b, b < N → t' b = t b) (hb : b < N) : tP A S t' ns b := h.imp id fun h => ⟨h.1, by rw [ht b hb]; exact h.2⟩
theorem tPtr_stays (S n : Nat) (cs : Array Value) (T : TypeId) : Stays3 (tPtr S n cs T) := fun _ w _ _ _ h hb ht => by
  obtain ⟨g, hv, hh, h1, h2⟩ := h; (exact ⟨g, hv, below_keep hb hh, h1, by rw [ht g (lt_of_block hh)]; exact h2⟩)
/-! The same for lists of proofs. -/
def tKid (A S n : Nat) (p : Pf) : Fact := fun v w t => PRp (tP A S t [n]) w p v
theorem tKid_stays (A S n : Nat) (p : Pf) : Stays3 (tKid A S n p) := fun _ _ _ _ _ h hb ht => PRp.move h fun b hb1 hp => ⟨hb.block b hb1, hp.up ht hb1⟩
def tKF (P : Nat → Prop) (B : Nat) (ad : Option Addr) (cp i : Nat) (ps : List Pf) : Fact := fun v w _ => v = .slice ad i cp ∧ KF P B w ad cp ps
theorem tKF_stays (P : Nat → Prop) (B : Nat) (ad : Option Addr) (cp i : Nat) (ps : List Pf) : Stays3 (tKF P B ad cp i ps) := fun _ _ _ _ _ h hb _ => ⟨h.1, h.2.up hb⟩
def tNew (A S n : Nat) (T : TypeId) (p : Pf) : Fact := fun v w t => ∃ g y0 y1 y2 y3 y4 y5 y6, v = .slice (some ⟨g, 0, none⟩) 1 1 ∧ w.heap[g]? = some (.cells #[y0, y1, y2, y3, y4, y5, y6] T (0, 0)) ∧ PRp (tP A S t [n]) w p (.agg #[y0, y1, y2, y3, y4, y5, y6])
theorem tNew_stays (A S n : Nat) (T : TypeId) (p : Pf) : Stays3 (tNew A S n T p) := fun _ w _ _ _ h hb ht => by
  obtain ⟨g, y0, y1, y2, y3, y4, y5, y6, hv, hh, hp⟩ := h; (exact ⟨g, y0, y1, y2, y3, y4, y5, y6, hv, below_keep hb hh, hp.move fun b hb1 hp => ⟨hb.block b hb1, hp.up ht hb1⟩⟩)
def tMade (P : Nat → Prop) (B n : Nat) (ps : List Pf) : Fact := fun v w _ => ∃ g cp, v = .slice (some ⟨g, 0, none⟩) n cp ∧ KF P B w (some ⟨g, 0, none⟩) cp ps
theorem tMade_stays (P : Nat → Prop) (B n : Nat) (ps : List Pf) : Stays3 (tMade P B n ps) := fun _ w _ _ _ h hb _ => by
  obtain ⟨g, cp, hv, hk⟩ := h; exact ⟨g, cp, hv, hk.up hb⟩
theorem tKid_live (A S n : Nat) (p : Pf) (own : Option Nat) (ho : ∀ b, own = some b → A ≤ b ∧ b < S) (v : Value) (w : World) (t : Nat → Nat) (w' : World) (t' : Nat → Nat) (h : tKid A S n p v w t) (hw : w.grownBy w' own) (ht : ∀ b, b < w.heap.size → t' b = t b) : tKid A S n p v w' t' :=
  PRp.move h fun b hb1 hp => ⟨hw.block b hb1 fun e => by have := ho b e.symm; rcases hp with hp | hp <;> omega, hp.up ht hb1⟩
theorem KF.rep {P : Nat → Prop} {B : Nat} {w : World} {ad : Option Addr} {cap : Nat} {ps : List Pf} (h : KF P B w ad cap ps) (hPB : ∀ b, B ≤ b → P b) : ps.length ≤ cap ∧ cap ≤ maxLen ∧ (ps ≠ [] → ∃ b off, ad = some ⟨b, off, none⟩ ∧ P b ∧ PRps P w b off ps) := by
  obtain ⟨cs, hown, hlq⟩ := h
  rcases hown.2 with ⟨hv, h0⟩ | ⟨g, cp, cur, hv, hg, hh, h1, h2, -⟩
  · simp only [Value.slice.injEq] at hv
    obtain ⟨rfl, -, rfl⟩ := hv; (exact ⟨by omega, by simp, fun hne => absurd (List.length_eq_zero_iff.1 h0) hne⟩)
  · simp only [Value.slice.injEq, true_and] at hv
    obtain ⟨rfl, rfl⟩ := hv; (refine ⟨h1, h2, fun _ => ⟨g, 0, rfl, hPB g hg, ?_⟩⟩)
    exact (PQ.move (P' := P) (fun b _ hb => ⟨rfl, hb.1⟩) hlq).reps (b := g) 0 fun j u hu => by
      have := hown.cells (g := g) rfl j u hu; rw [add_none] at this; exact this
theorem infoPf : ∃ i, Tryz.prog.info? 29 = some i ∧ i.zero = some (.agg #[.string ⟨#[]⟩, .int .i64 0, .string ⟨#[]⟩, .slice none 0 0, .slice none 0 0, .slice none 0 0, .slice none 0 0]) ∧ i.size = 7 ∧ i.bytes = 136 := by
  (obtain ⟨i, hi, h⟩ := Option.map_eq_some_iff.1 (show (Tryz.prog.info? 29).map (fun i => (i.zero, i.size, i.bytes)) = some (some (.agg #[.string ⟨#[]⟩, .int .i64 0, .string ⟨#[]⟩, .slice none 0 0, .slice none 0 0, .slice none 0 0, .slice none 0 0]), 7, 136) by kernel_rfl)); simp only [Prod.mk.injEq] at h; exact ⟨i, hi, h.1, h.2.1, h.2.2⟩
end Go.Proofs.YtpmogojpdigbmabGreat
/- Walks: everywhere. -/
namespace Go.Proofs.YtpmogojpdigbmabGreat
open Go.RowKit

/-- Not too many at a place, and no formula too broad. -/
inductive GoodP : Pf → Prop
  | mk (a : ByteArray) (f : Fm) (l r : List Fm) (ks : List Pf) (h1 : l.length ≤ 300) (h2 : ∀ g ∈ l, Slim g) (h3 : ks.length ≤ 1200) (h4 : ∀ (i : Nat) (k : Pf), ks[i]? = some k → GoodP k) : GoodP (.mk a f l r ks)
theorem GoodP.parts {a : ByteArray} {f : Fm} {l r : List Fm} {ks : List Pf} (h : GoodP (.mk a f l r ks)) : l.length ≤ 300 ∧ (∀ g ∈ l, Slim g) ∧ ks.length ≤ 1200 ∧ ∀ (i : Nat) (k : Pf), ks[i]? = some k → GoodP k := by
  cases h with | mk _ _ _ _ _ h1 h2 h3 h4 => exact ⟨h1, h2, h3, h4⟩
end Go.Proofs.YtpmogojpdigbmabGreat
/- Walks: Steps. -/
namespace Go.Proofs.YtpmogojpdigbmabGreat
open Go.RowKit

theorem infoInt : ∃ i, Tryz.prog.info? 3 = some i ∧ i.zero = some (.int .i64 0) ∧ i.size = 1 ∧ i.bytes = 8 := by
  (obtain ⟨i, hi, h⟩ := Option.map_eq_some_iff.1 (show (Tryz.prog.info? 3).map (fun i => (i.zero, i.size, i.bytes)) = some (some (.int .i64 0), 1, 8) by kernel_rfl)); simp only [Prod.mk.injEq] at h; exact ⟨i, hi, h.1, h.2.1, h.2.2⟩
/-- A list of n ints being made. -/
def KI (B : Nat) (w : World) (ad : Option Addr) (cap n : Nat) : Prop := ∃ cs, w.ownsRow B 3 1 (.slice ad n cap) n cs ∧ ∀ u ∈ cs, u.oneCell' = true
theorem owns_keep {B : Nat} {w w' : World} {T : TypeId} {sz n : Nat} {v : Value} {cs : List Value} (h : w.ownsRow B T sz v n cs) (hb : ∀ b, v.ownBlock = some b → w'.heap[b]? = w.heap[b]?) : w'.ownsRow B T sz v n cs := by
  obtain ⟨h1, h2⟩ := h; refine ⟨h1, ?_⟩
  rcases h2 with h2 | ⟨g, cap, cur, hv, hg, hh, r⟩
  · exact Or.inl h2
  · exact Or.inr ⟨g, cap, cur, hv, hg, (hb g (by rw [hv]; rfl)).trans hh, r⟩
theorem owns_low {B B' : Nat} {w : World} {T : TypeId} {sz n : Nat} {v : Value} {cs : List Value} (h : w.ownsRow B' T sz v n cs) (hB : B ≤ B') : w.ownsRow B T sz v n cs := by
  obtain ⟨h1, h2⟩ := h; refine ⟨h1, ?_⟩
  rcases h2 with h2 | ⟨g, cap, cur, hv, hg, hh, r⟩
  · exact Or.inl h2
  · exact Or.inr ⟨g, cap, cur, hv, Nat.le_trans hB hg, hh, r⟩
theorem KI.up {B : Nat} {w w' : World} {ad : Option Addr} {cap n : Nat} (h : KI B w ad cap n) (hb : ∀ b, (Value.slice ad n cap).ownBlock = some b → w'.heap[b]? = w.heap[b]?) : KI B w' ad cap n := by
  obtain ⟨cs, ho, h1⟩ := h; exact ⟨cs, owns_keep ho hb, h1⟩
theorem KF.low {P : Nat → Prop} {B B' : Nat} {w : World} {ad : Option Addr} {cap : Nat} {ps : List Pf} (h : KF P B' w ad cap ps) (hB : B ≤ B') : KF P B w ad cap ps := by
  obtain ⟨cs, ho, h1⟩ := h; exact ⟨cs, owns_low ho hB, h1⟩
/-- Where the cells of a row lie. -/
theorem row_cells {B : Nat} {w : World} {T : TypeId} {sz n cap : Nat} {ad : Option Addr} {cs : List Value} (h : w.ownsRow B T sz (.slice ad n cap) n cs) (hn : 0 < n) : ∃ g, ad = some ⟨g, 0, none⟩ ∧ ∀ j u, cs[j]? = some u → w.cell? ((⟨g, 0, none⟩ : Addr).add j) = some u := by
  obtain ⟨g, cap', hv, -⟩ := h.form hn; simp only [Value.slice.injEq, true_and] at hv; obtain ⟨rfl, -⟩ := hv; (exact ⟨g, rfl, fun j u hu => h.cells rfl j u hu⟩)
theorem KF.keep {P : Nat → Prop} {B : Nat} {w w' : World} {ad : Option Addr} {cap : Nat} {ps : List Pf} (h : KF P B w ad cap ps) (hb : ∀ b, P b → b < w.heap.size → w'.heap[b]? = w.heap[b]?) (hg : ∀ b, (Value.slice ad ps.length cap).ownBlock = some b → w'.heap[b]? = w.heap[b]?) : KF P B w' ad cap ps := by
  obtain ⟨cs, ho, h3⟩ := h; (exact ⟨cs, owns_keep ho hg, PQ.move (fun b hb1 hb2 => ⟨hb b hb2.1 hb1, hb2⟩) h3⟩)
end Go.Proofs.YtpmogojpdigbmabGreat
/- A proof with a formula for a name: what its steps tell, and its measures. -/
namespace Go.Proofs.YtpmogojpdigbmabGreat
open Go.RowKit

/-- Not too many at a place, and no formula too broad. -/
inductive GoodS : Pf → Prop
  | mk (a : ByteArray) (f : Fm) (l r : List Fm) (ks : List Pf) (h0 : Slim f) (h1 : l.length ≤ 300) (h2 : r.length ≤ 300) (hl : ∀ g ∈ l, Slim g) (hr : ∀ g ∈ r, Slim g) (h3 : ks.length ≤ 1200) (h4 : ∀ (i : Nat) (k : Pf), ks[i]? = some k → GoodS k) : GoodS (.mk a f l r ks)
theorem GoodS.parts {a : ByteArray} {f : Fm} {l r : List Fm} {ks : List Pf} (h : GoodS (.mk a f l r ks)) : Slim f ∧ l.length ≤ 300 ∧ r.length ≤ 300 ∧ (∀ g ∈ l, Slim g) ∧ (∀ g ∈ r, Slim g) ∧ ks.length ≤ 1200 ∧ ∀ (i : Nat) (k : Pf), ks[i]? = some k → GoodS k := by
  cases h with | mk _ _ _ _ _ h0 h1 h2 hl hr h3 h4 => exact ⟨h0, h1, h2, hl, hr, h3, h4⟩
end Go.Proofs.YtpmogojpdigbmabGreat
/- Facts on the way through a region: formulas, sequents and proofs with the blocks' makers. -/
namespace Go.Proofs.YtpmogojpdigbmabGreat
open Go.RowKit

theorem eval_slot {a : Act} {n : Nat} {v : Value} (h : a.tmps[n]? = some v) : a.eval (.tmp n) = v := by
  simp [Act.eval, h]
def tRp (A S : Nat) (ns : List Nat) (k : Int) (n : ByteArray) (ks : List Fm) : Fact := fun v w t => ∃ sl cap, v = .agg #[.int .i64 k, .string n, .slice sl ks.length cap] ∧ Rep w (tP A S t ns) (.mk k n ks) (.agg #[.int .i64 k, .string n, .slice sl ks.length cap])
def tSq2 (A S : Nat) (ns ns' : List Nat) (l r : List Fm) : Fact := fun v w t => ∃ ad m cp ad' m' cp', v = .agg #[.slice ad m cp, .slice ad' m' cp'] ∧ FLp (tP A S t ns) w (.slice ad m cp) l ∧ FLp (tP A S t ns') w (.slice ad' m' cp') r
def tPf2 (A S : Nat) (nf ns ns' : List Nat) (a : Value) (k : Int) (n : ByteArray) (ks : List Fm) (l r : List Fm) : Fact := fun v w t => ∃ sl cap ad m cp ad' m' cp', v = .agg #[a, .int .i64 k, .string n, .slice sl ks.length cap, .slice ad m cp, .slice ad' m' cp', .slice none 0 0] ∧ Rep w (tP A S t nf) (.mk k n ks) (.agg #[.int .i64 k, .string n, .slice sl ks.length cap]) ∧ FLp (tP A S t ns) w (.slice ad m cp) l ∧ FLp (tP A S t ns') w (.slice ad' m' cp') r
theorem tRp_stays (A S : Nat) (ns : List Nat) (k : Int) (n : ByteArray) (ks : List Fm) : Stays3 (tRp A S ns k n ks) := fun _ w _ _ _ h hb ht => by
  obtain ⟨sl, cap, hv, hr⟩ := h; (exact ⟨sl, cap, hv, hr.move fun b hb1 hp => ⟨hb.block b hb1, hp.up ht hb1⟩⟩)
theorem tSq2_stays (A S : Nat) (ns ns' : List Nat) (l r : List Fm) : Stays3 (tSq2 A S ns ns' l r) := fun _ w _ _ _ h hb ht => by
  obtain ⟨ad, m, cp, ad', m', cp', hv, h1, h2⟩ := h; (exact ⟨ad, m, cp, ad', m', cp', hv, h1.move fun b hb1 hp => ⟨hb.block b hb1, hp.up ht hb1⟩, h2.move fun b hb1 hp => ⟨hb.block b hb1, hp.up ht hb1⟩⟩)
theorem tPf2_stays (A S : Nat) (nf ns ns' : List Nat) (a : Value) (k : Int) (n : ByteArray) (ks : List Fm) (l r : List Fm) : Stays3 (tPf2 A S nf ns ns' a k n ks l r) := fun _ w _ _ _ h hb ht => by
  obtain ⟨sl, cap, ad, m, cp, ad', m', cp', hv, h0, h1, h2⟩ := h; (exact ⟨sl, cap, ad, m, cp, ad', m', cp', hv, h0.move fun b hb1 hp => ⟨hb.block b hb1, hp.up ht hb1⟩, h1.move fun b hb1 hp => ⟨hb.block b hb1, hp.up ht hb1⟩, h2.move fun b hb1 hp => ⟨hb.block b hb1, hp.up ht hb1⟩⟩)
end Go.Proofs.YtpmogojpdigbmabGreat
/- The yardstick's premises, against the rules: plain. -/
namespace Go.Proofs.YtpmogojpdigbmabGreat

def zeroF : Fm := .mk 0 ⟨#[]⟩ []
def Fm.kA : Fm → Fm
  | .mk _ _ ks => ks.headD zeroF
def Fm.kZ : Fm → Fm
  | .mk _ _ ks => ks.getLastD zeroF
/-- What the yardstick has for premises, whether the rule applies or not. -/
def premL (i : Bool) (q : Ru) (f : Fm) (l r : List Fm) : List (List Fm × List Fm) :=
  match q with
  | .ax => []
  | .tr => []
  | .fa => []
  | .andL => [(l.erase f ++ [f.kA, f.kZ], r)]
  | .andR => [(l, r.erase f ++ [f.kA]), (l, r.erase f ++ [f.kZ])]
  | .orL => [(l.erase f ++ [f.kA], r), (l.erase f ++ [f.kZ], r)]
  | .thenR => [(l ++ [f.kA], r.erase f ++ [f.kZ])]
  | .notR => [(l ++ [f.kA], r.erase f)]
  | .contrL => [(l ++ [f], r)]
  | .orR => [(l, r.erase f ++ [f.kA, f.kZ])]
  | .thenL => [(l.erase f, if i then [f.kA] else r ++ [f.kA]), (l.erase f ++ [f.kZ], r)]
  | .notL => [(l.erase f, if i then [f.kA] else r ++ [f.kA])]
  | .contrR => [(l, r ++ [f])]
  | .cut => [(l, if i then [f] else r ++ [f]), (l ++ [f], r)]
  | .orR1 => [(l, [f.kA])]
  | .orR2 => [(l, [f.kZ])]
def premOk (q : Ru) (f : Fm) (l r : List Fm) : Bool :=
  match q with
  | .ax => decide (f ∈ l) && decide (f ∈ r)
  | .tr => decide (f.kind = 2) && decide (f ∈ r)
  | .fa => decide (f.kind = 3) && decide (f ∈ l)
  | .andL => decide (f.kind = 5) && decide (f ∈ l)
  | .andR => decide (f.kind = 5) && decide (f ∈ r)
  | .orL => decide (f.kind = 6) && decide (f ∈ l)
  | .thenR => decide (f.kind = 7) && decide (f ∈ r)
  | .notR => decide (f.kind = 4) && decide (f ∈ r)
  | .contrL => decide (f ∈ l)
  | .orR => decide (f.kind = 6) && decide (f ∈ r)
  | .thenL => decide (f.kind = 7) && decide (f ∈ l)
  | .notL => decide (f.kind = 4) && decide (f ∈ l)
  | .contrR => decide (f ∈ r)
  | .cut => true
  | .orR1 => decide (f.kind = 6) && decide (f ∈ r)
  | .orR2 => decide (f.kind = 6) && decide (f ∈ r)
theorem prem_eq (i : Bool) (q : Ru) (f : Fm) (hf : Fine f) (l r : List Fm) : prem i q f l r = if premOk q f l r then some (premL i q f l r) else none := by
  have ka : f.kind = 4 → f.kA = f.kidA := fun h => by
    obtain ⟨a, e, ea, -⟩ := fine_one_of hf h; rw [ea, e]; rfl
  have kab : f.kind = 5 ∨ f.kind = 6 ∨ f.kind = 7 → f.kA = f.kidA ∧ f.kZ = f.kidB := fun h => by
    obtain ⟨a, b, e, ea, eb, -, -⟩ := fine_two_of hf h; rw [ea, eb, e]; exact ⟨rfl, rfl⟩
  have fin : ∀ (p : Prop) [Decidable p] (x y : List (List Fm × List Fm)) (b : Bool), (b = true ↔ p) → (p → x = y) → (if p then some x else none) = if b = true then some y else none := fun p _ x y b h1 h2 => by
    by_cases hp : p
    · rw [if_pos hp, if_pos (h1.2 hp), h2 hp]
    · rw [if_neg hp, if_neg (fun e => hp (h1.1 e))]
  cases q <;> simp only [prem, premOk, premL]
  case cut => simp
  all_goals refine fin _ _ _ _ (by simp) fun h => ?_
  all_goals first
    | rfl
    | (rw [(kab (by omega)).1, (kab (by omega)).2])
    | (rw [(kab (by omega)).1])
    | (rw [(kab (by omega)).2])
    | (rw [ka (by omega)])

theorem within_all (a b : List Fm) : within a b = a.all fun x => decide (a.count x ≤ b.count x) := by
  rw [Bool.eq_iff_iff, within_count, List.all_eq_true]
  constructor
  · exact fun h x _ => decide_eq_true (h x)
  · intro h f
    by_cases hf : f ∈ a
    · exact of_decide_eq_true (h f hf)
    · rw [List.count_eq_zero.2 hf]; omega
theorem isEq_comm (a b : List Fm) : isEq a b = isEq b a := by
  rw [Bool.eq_iff_iff, isEq_perm, isEq_perm]; (exact ⟨fun h => h.symm, fun h => h.symm⟩)

/-! Steps, as the yardstick lists them. -/
mutual
/-- All steps with how deep they are. -/
def Pf.nodesD : Pf → Nat → List (Pf × Nat)
  | .mk a f l r ks, d => (.mk a f l r ks, d) :: Pf.nodesDL ks (d + 1)
def Pf.nodesDL : List Pf → Nat → List (Pf × Nat)
  | [], _ => []
  | k :: ks, d => k.nodesD d ++ Pf.nodesDL ks d
end
mutual
/-- At most so many, none deeper than 402. -/
def Pf.stepsL : Pf → Nat → Nat → List (Pf × Nat)
  | .mk a f l r ks, d, m => (.mk a f l r ks, d) :: Pf.stepsLs ks d m 1
/-- The rest of the loop: so many are there. -/
def Pf.stepsLs : List Pf → Nat → Nat → Nat → List (Pf × Nat)
  | [], _, _, _ => []
  | k :: ks, d, m, n => if n ≤ m ∧ d < 402 then k.stepsL (d + 1) (m - n) ++ Pf.stepsLs ks d m (n + (k.stepsL (d + 1) (m - n)).length) else []
end
def scan (i : Bool) : List (Pf × Nat) → Nat → Int × Int
  | [], _ => (0, 0)
  | x :: xs, s => if s = 20000 ∨ 400 < x.2 then (2, 0) else if stepC i x.1 ≠ 0 then (stepC i x.1, (s : Nat)) else scan i xs (s + 1)
/-- Both go the same way as far as it matters: n steps, or one that is too deep. -/
def Agree (n : Nat) (L M : List (Pf × Nat)) : Prop := L = M ∨ ∃ P X Y, L = P ++ X ∧ M = P ++ Y ∧ (n ≤ P.length ∨ ∃ e ∈ P, 400 < e.2)
theorem Agree.cons {n : Nat} {L M : List (Pf × Nat)} (x : Pf × Nat) (h : Agree n L M) : Agree (n + 1) (x :: L) (x :: M) := by
  rcases h with rfl | ⟨P, X, Y, rfl, rfl, h⟩
  · exact Or.inl rfl
  · refine Or.inr ⟨x :: P, X, Y, rfl, rfl, h.imp (fun h => by simp; omega) fun ⟨e, he, hd⟩ => ⟨e, List.mem_cons_of_mem _ he, hd⟩⟩
theorem Agree.low {n n' : Nat} {L M : List (Pf × Nat)} (h : Agree n L M) (hn : n' ≤ n) : Agree n' L M := by
  rcases h with rfl | ⟨P, X, Y, rfl, rfl, h⟩
  · exact Or.inl rfl
  · exact Or.inr ⟨P, X, Y, rfl, rfl, h.imp (fun h => by omega) id⟩
theorem Agree.append {n : Nat} {L M L' M' : List (Pf × Nat)} (h : Agree n L M) (h' : L = M → Agree (n - L.length) L' M') : Agree n (L ++ L') (M ++ M') := by
  rcases h with rfl | ⟨P, X, Y, rfl, rfl, h⟩
  · rcases h' rfl with rfl | ⟨P, X, Y, rfl, rfl, h⟩
    · exact Or.inl rfl
    · exact Or.inr ⟨L ++ P, X, Y, by simp, by simp, h.imp (fun h => by simp; omega) fun ⟨e, he, hd⟩ => ⟨e, List.mem_append_right _ he, hd⟩⟩
  · exact Or.inr ⟨P, X ++ L', Y ++ M', by simp, by simp, h⟩
theorem scan_stop (i : Bool) : ∀ (P X Y : List (Pf × Nat)) (s : Nat), s ≤ 20000 → (20001 ≤ s + P.length ∨ ∃ e ∈ P, 400 < e.2) → scan i (P ++ X) s = scan i (P ++ Y) s
  | [], X, Y, s, hs, h => by
    rcases h with h | ⟨e, he, -⟩
    · simp at h; omega
    · cases he
  | x :: P, X, Y, s, hs, h => by
    rw [List.cons_append, List.cons_append, scan, scan]; by_cases h1 : s = 20000 ∨ 400 < x.2
    · rw [if_pos h1, if_pos h1]
    · rw [if_neg h1, if_neg h1]
      (rw [scan_stop i P X Y (s + 1) (by omega) ?_])
      rcases h with h | ⟨e, he, hd⟩
      · rw [List.length_cons] at h
        (exact Or.inl (by omega))
      · rcases List.mem_cons.1 he with rfl | he
        · omega
        · exact Or.inr ⟨e, he, hd⟩
theorem scan_agree {i : Bool} {n s : Nat} {L M : List (Pf × Nat)} (h : Agree n L M) (hs : s ≤ 20000) (hn : 20001 ≤ s + n) : scan i L s = scan i M s := by
  rcases h with rfl | ⟨P, X, Y, rfl, rfl, h⟩
  · rfl
  · exact scan_stop i P X Y s hs (h.imp (fun h => by omega) id)
mutual
theorem steps_agree : ∀ (p : Pf) (d m : Nat), Agree (m + 1) (p.stepsL d m) (p.nodesD d)
  | .mk a f l r ks, d, m => by
    rw [Pf.stepsL, Pf.nodesD]; by_cases hd : d < 402
    · by_cases hm : 1 ≤ m
      · exact ((stepss_agree ks d m 1 hd).cons _).low (by omega)
      · refine Or.inr ⟨[(.mk a f l r ks, d)], _, _, rfl, rfl, Or.inl (by simp; omega)⟩
    · exact Or.inr ⟨[(.mk a f l r ks, d)], _, _, rfl, rfl, Or.inr ⟨_, List.mem_cons_self, by show 400 < d; omega⟩⟩
theorem stepss_agree : ∀ (ks : List Pf) (d m n : Nat), d < 402 → Agree (m + 1 - n) (Pf.stepsLs ks d m n) (Pf.nodesDL ks (d + 1))
  | [], d, m, n, _ => by rw [Pf.stepsLs, Pf.nodesDL]; exact Or.inl rfl
  | k :: ks, d, m, n, hd => by
    rw [Pf.stepsLs, Pf.nodesDL]; by_cases h : n ≤ m ∧ d < 402
    · rw [if_pos h]
      have h1 := steps_agree k (d + 1) (m - n); (refine (h1.low (by omega)).append fun _ => ?_); have h2 := stepss_agree ks d m (n + (k.stepsL (d + 1) (m - n)).length) hd; (exact h2.low (by omega))
    · rw [if_neg h]
      (exact Or.inr ⟨[], _, _, rfl, rfl, Or.inl (by simp; omega)⟩)
end
end Go.Proofs.YtpmogojpdigbmabGreat
