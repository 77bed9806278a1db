/- Texts of one proof, one behind the other: MA3. -/
import Derived.Test.YtmahgfgndfcmpagB10
import Derived.RegionTactic
/- Walks: the shape of a frame, by the yardstick. -/
namespace Go.Proofs.Ytmahgfgndfcmpag
open Go.RowKit Go.Sort

def b6 (c0 c1 c2 c3 c4 c5 : Bool) : Obj := .cells #[.bool c0, .bool c1, .bool c2, .bool c3, .bool c4, .bool c5] 39 (0, 0)
theorem b6_cells {w : World} {b : Nat} {c0 c1 c2 c3 c4 c5 : Bool} (h : w.heap[b]? = some (b6 c0 c1 c2 c3 c4 c5)) : (w.cell? ⟨b, 0, none⟩ = some (.bool c0) ∧ w.cell? ⟨b, 1, none⟩ = some (.bool c1) ∧ w.cell? ⟨b, 2, none⟩ = some (.bool c2) ∧ w.cell? ⟨b, 3, none⟩ = some (.bool c3) ∧ w.cell? ⟨b, 4, none⟩ = some (.bool c4) ∧ w.cell? ⟨b, 5, none⟩ = some (.bool c5)) ∧ (w.frozen? ⟨b, 0, none⟩ = false ∧ w.frozen? ⟨b, 1, none⟩ = false ∧ w.frozen? ⟨b, 2, none⟩ = false ∧ w.frozen? ⟨b, 3, none⟩ = false ∧ w.frozen? ⟨b, 4, none⟩ = false ∧ w.frozen? ⟨b, 5, none⟩ = false) :=
  ⟨⟨blk_cell h 0, blk_cell h 1, blk_cell h 2, blk_cell h 3, blk_cell h 4, blk_cell h 5⟩, blk_fz h 0, blk_fz h 1, blk_fz h 2, blk_fz h 3, blk_fz h 4, blk_fz h 5⟩
theorem b6_set0 {w : World} {b : Nat} {c0 c1 c2 c3 c4 c5 : Bool} (h : w.heap[b]? = some (b6 c0 c1 c2 c3 c4 c5)) : (w.setCell ⟨b, 0, none⟩ (.bool false)).heap[b]? = some (b6 false c1 c2 c3 c4 c5) := set_cellE h _
theorem b6_set1 {w : World} {b : Nat} {c0 c1 c2 c3 c4 c5 : Bool} (h : w.heap[b]? = some (b6 c0 c1 c2 c3 c4 c5)) : (w.setCell ⟨b, 1, none⟩ (.bool false)).heap[b]? = some (b6 c0 false c2 c3 c4 c5) := set_cellE h _
theorem b6_set2 {w : World} {b : Nat} {c0 c1 c2 c3 c4 c5 : Bool} (h : w.heap[b]? = some (b6 c0 c1 c2 c3 c4 c5)) : (w.setCell ⟨b, 2, none⟩ (.bool false)).heap[b]? = some (b6 c0 c1 false c3 c4 c5) := set_cellE h _
theorem b6_set3 {w : World} {b : Nat} {c0 c1 c2 c3 c4 c5 : Bool} (h : w.heap[b]? = some (b6 c0 c1 c2 c3 c4 c5)) : (w.setCell ⟨b, 3, none⟩ (.bool false)).heap[b]? = some (b6 c0 c1 c2 false c4 c5) := set_cellE h _
theorem b6_set4 {w : World} {b : Nat} {c0 c1 c2 c3 c4 c5 : Bool} (h : w.heap[b]? = some (b6 c0 c1 c2 c3 c4 c5)) : (w.setCell ⟨b, 4, none⟩ (.bool false)).heap[b]? = some (b6 c0 c1 c2 c3 false c5) := set_cellE h _
theorem b6_set5 {w : World} {b : Nat} {c0 c1 c2 c3 c4 c5 : Bool} (h : w.heap[b]? = some (b6 c0 c1 c2 c3 c4 c5)) : (w.setCell ⟨b, 5, none⟩ (.bool false)).heap[b]? = some (b6 c0 c1 c2 c3 c4 false) := set_cellE h _
/-- All that ShapeOf asks of the first n worlds. -/
def a0S (S : Nat → List Nat) (n : Nat) : Bool := (List.range n).all fun u => decide (u ∈ S u)
def a1S (S : Nat → List Nat) (n : Nat) : Bool := (List.range n).all fun u => (S u).all fun v => (S v).all fun y => decide (y ∈ S u)
def a2S (S : Nat → List Nat) (n : Nat) : Bool := (List.range n).all fun u => (S u).all fun v => decide (u ∈ S v)
def a3S (S : Nat → List Nat) (n : Nat) : Bool := (List.range n).all fun u => (S u).all fun v => (S u).all fun y => decide (y ∈ S v)
def a4S (S : Nat → List Nat) (n : Nat) : Bool := (List.range n).all fun u => !decide ((S u).length = 0)
def a5S (S : Nat → List Nat) (n : Nat) : Bool := (List.range n).all fun u => !decide (u ∈ S u) && (S u).all fun v => (S v).all fun y => decide (y ∈ S u)
theorem all_range {f : Nat → Bool} {n : Nat} : (List.range (n + 1)).all f = ((List.range n).all f && f n) := by simp [List.range_succ]
theorem rowS13 (l : List Value) (h0 : l.length = 13) : ∃ x0 x1 x2 x3 x4 x5 x6 x7 x8 x9 x10 x11 x12, l = [x0, x1, x2, x3, x4, x5, x6, x7, x8, x9, x10, x11, x12] := by
  obtain ⟨x0, l1, e0, h1⟩ := cons_lenM h0; obtain ⟨x1, l2, e1, h2⟩ := cons_lenM h1; obtain ⟨x2, l3, e2, h3⟩ := cons_lenM h2; obtain ⟨x3, l4, e3, h4⟩ := cons_lenM h3; obtain ⟨x4, l5, e4, h5⟩ := cons_lenM h4; obtain ⟨x5, l6, e5, h6⟩ := cons_lenM h5; obtain ⟨x6, l7, e6, h7⟩ := cons_lenM h6; obtain ⟨x7, l8, e7, h8⟩ := cons_lenM h7; obtain ⟨x8, l9, e8, h9⟩ := cons_lenM h8; obtain ⟨x9, l10, e9, h10⟩ := cons_lenM h9; obtain ⟨x10, l11, e10, h11⟩ := cons_lenM h10; obtain ⟨x11, l12, e11, h12⟩ := cons_lenM h11; obtain ⟨x12, l13, e12, h13⟩ := cons_lenM h12; have e13 : l13 = [] := List.length_eq_zero_iff.1 h13; subst e13 e12 e11 e10 e9 e8 e7 e6 e5 e4 e3 e2 e1 e0; exact ⟨x0, x1, x2, x3, x4, x5, x6, x7, x8, x9, x10, x11, x12, rfl⟩
set_option maxRecDepth 10000 in
set_option maxHeartbeats 16000000 in
theorem shapeOf_any (N : Nat) (hN : N ≤ 40) (rel : List (Int × Int)) (hrl : rel.length ≤ 2000) (hin : InR N rel) (tr : List (List (List UInt8))) (v : Value) (w : World) (hv : MR w ⟨(N : Int), rel, tr⟩ v) (S : Nat → List Nat) (hS : ∀ u, S u = seenTo N rel u N) :
    Calls Try.prog 16 #[v] w fun e w' => e = .returned (.agg #[.bool (a0S S N), .bool (a1S S N), .bool (a2S S N), .bool (a3S S N), .bool (a4S S N), .bool (a5S S N)]) ∧ Below w.heap.size w w' := by
  have HIn : Hid (InR N rel) := hin; have HN : Hid (N ≤ 40) := hN; obtain ⟨ra, rc, ta, tc, rfl, hpl, -, -⟩ := hv; simp only at hpl ⊢; have HPl : Hid (PL w (.slice ra rel.length rc) rel) := hpl; (have hNI : (N : Int) ≤ 40 := by omega); have HS : Hid (∀ u, S u = seenTo N rel u N) := hS; (have HSl : Hid (∀ u, (S u).length ≤ 40) := fun u => by rw [hS]; exact Nat.le_trans (seenTo_len N rel u N) hN); (have HSm : Hid (∀ u z, z ∈ S u → z < N) := fun u z hz => by rw [hS] at hz; exact ((seenTo_mem hin).1 hz).1); (have HSe : Hid (∀ W, PL W (.slice ra rel.length rc) rel → Calls Try.prog 43 #[.agg #[.int .i64 (N : Nat), .slice ra rel.length rc, .slice ta tr.length tc]] W _) := fun W h => seen_any N hN rel hrl hin ra ta rc tr.length tc W h); (have H0 : Hid (∀ n, a0S S (n + 1) = (a0S S n && decide (n ∈ S n))) := fun n => all_range); (have H1 : Hid (∀ n, a1S S (n + 1) = (a1S S n && (S n).all fun v => (S v).all fun y => decide (y ∈ S n))) := fun n => all_range); (have H2 : Hid (∀ n, a2S S (n + 1) = (a2S S n && (S n).all fun v => decide (n ∈ S v))) := fun n => all_range); (have H3 : Hid (∀ n, a3S S (n + 1) = (a3S S n && (S n).all fun v => (S n).all fun y => decide (y ∈ S v))) := fun n => all_range); (have H4 : Hid (∀ n, a4S S (n + 1) = (a4S S n && !decide ((S n).length = 0))) := fun n => all_range); (have H5 : Hid (∀ n, a5S S (n + 1) = (a5S S n && (!decide (n ∈ S n) && (S n).all fun v => (S v).all fun y => decide (y ∈ S n)))) := fun n => all_range); obtain ⟨W0, hW0⟩ : ∃ W0, W0 = (w.alloc (.cells #[.int .i64 (N : Nat), .slice ra rel.length rc, .slice ta tr.length tc] 25 (0, 0))).alloc (b6 false false false false false false) := ⟨_, rfl⟩; (have HB0 : Hid (Below w.heap.size w W0) := by rw [hW0]; exact below_more (below_more (Below.refl _ w) _) _); (have HM0 : Hid (W0.heap[w.heap.size]? = some (.cells #[.int .i64 (N : Nat), .slice ra rel.length rc, .slice ta tr.length tc] 25 (0, 0))) := by rw [hW0]; exact alloc_keep (blk_new _ _) _); (have HR0 : Hid (W0.heap[w.heap.size + 1]? = some (b6 false false false false false false)) := by rw [hW0]; exact blk_secE _ _ _); unfold b6 at hW0; clear hpl hin hrl hN hS
  go_enter Try.func16, Try.ntmps16
  go_wp2_with fail; rw [← hW0]; refine (HSe.out W0 (HPl.out.up HB0.out)).mono ?_; rintro _ w1 ⟨g, rfl, hg0, hsn, hb1⟩; have HSn : Hid (SnR W0.heap.size w1 g N rel) := hsn; have HB1 : Hid (Below w.heap.size w w1) := below_join HB0.out hb1; have HM1 : Hid (w1.heap[w.heap.size]? = some (.cells #[.int .i64 (N : Nat), .slice ra rel.length rc, .slice ta tr.length tc] 25 (0, 0))) := below_keep hb1 HM0.out; have HR1 : Hid (w1.heap[w.heap.size + 1]? = some (b6 false false false false false false)) := below_keep hb1 HR0.out
  have HRow : Hid (∀ u, u < N → ∃ ad cp, w1.cell? ⟨g, u, none⟩ = some (.slice ad (S u).length cp) ∧ (S u).length ≤ cp ∧ (0 < (S u).length → ∃ b, ad = some ⟨b, 0, none⟩ ∧ ∀ (j k : Nat), (S u)[j]? = some k → w1.cell? ⟨b, j, none⟩ = some (.int .i64 (k : Nat)))) := fun u hu => by
    obtain ⟨ad, cp, s0, s1, -, s3⟩ := hsn.row hu; rw [← HS.out u] at s0 s1 s3; exact ⟨ad, cp, s0, s1, s3⟩
  clear hg0 hsn hb1 hW0 HSe HM0 HR0 HB0; obtain ⟨OB, hO⟩ : ∃ OB, OB = w1.heap.size := ⟨_, rfl⟩; have HO : Hid (OB = w1.heap.size) := hO; go_wp2_with fail; obtain ⟨V, hV⟩ : ∃ V, V = w1.alloc (b6 true true true true true true) := ⟨_, rfl⟩; (have HV0 : Hid (V.heap[OB]? = some (b6 true true true true true true)) := by rw [hV, hO]; exact blk_new _ _); (have HVB : Hid (Below w1.heap.size w1 V) := by rw [hV]; exact below_more (Below.refl _ _) _); unfold b6 at hV; rw [← hO, ← hV]; clear hO hV
  go_loopg [5] N (fun gg cc wr => ∃ u, u ≤ N ∧ gg = N - u ∧ cc = .int .i64 (u : Nat) ∧ Hid (wr.heap[OB]? = some (b6 (a0S S u) (a1S S u) (a2S S u) (a3S S u) (a4S S u) (a5S S u))) ∧ Hid (Below w1.heap.size w1 wr))
  case atStart => exact ⟨0, by omega, by omega, rfl, HV0, HVB⟩
  case round =>
    obtain ⟨u, hu, hg, rfl, HA, HB⟩ := hrel; have HGk : Hid (gk = N - u) := hg; clear hg; have HMr : Hid (wr.heap[w.heap.size]? = some (.cells #[.int .i64 (N : Nat), .slice ra rel.length rc, .slice ta tr.length tc] 25 (0, 0))) := below_keep HB.out HM1.out; obtain ⟨m0, m1, m2, -⟩ := blk3 HMr.out; by_cases hlt : u < N
    · have hltI : (u : Int) < (N : Int) := by omega
      have HU : Hid (u < N) := hlt; obtain ⟨sa, sc, s0, s1, s3⟩ := HRow.out u hlt; (have HMe : Hid (∀ W, Below w1.heap.size w1 W → ∀ x : Nat, Calls Try.prog 44 #[.slice sa (S u).length sc, .int .i64 (x : Nat)] W fun e w' => e = .returned (.bool (decide (x ∈ S u))) ∧ w' = W) := fun W hb x => memberOf_any (S u) x (HSl.out u) _ W (NRow.up ⟨sa, sc, rfl, s1, s3⟩ hb (Nat.le_refl _))); have HMu := HMe.out; obtain ⟨p0, hp0⟩ : ∃ p0, p0 = a0S S u := ⟨_, rfl⟩; obtain ⟨p1, hp1⟩ : ∃ p1, p1 = a1S S u := ⟨_, rfl⟩; obtain ⟨p2, hp2⟩ : ∃ p2, p2 = a2S S u := ⟨_, rfl⟩; obtain ⟨p3, hp3⟩ : ∃ p3, p3 = a3S S u := ⟨_, rfl⟩; obtain ⟨p4, hp4⟩ : ∃ p4, p4 = a4S S u := ⟨_, rfl⟩; obtain ⟨p5, hp5⟩ : ∃ p5, p5 = a5S S u := ⟨_, rfl⟩; have G0 := H0.out u; have G1 := H1.out u; have G2 := H2.out u; have G3 := H3.out u; have G4 := H4.out u; have G5 := H5.out u; rw [← hp0] at G0; rw [← hp1] at G1; rw [← hp2] at G2; rw [← hp3] at G3; rw [← hp4] at G4; rw [← hp5] at G5; rw [← hp0, ← hp1, ← hp2, ← hp3, ← hp4, ← hp5] at HA; clear hp0 hp1 hp2 hp3 hp4 hp5; have HSlu := HSl.out u; (have HSmu : Hid (∀ z ∈ S u, z < N) := fun z hz => HSm.out u z hz); obtain ⟨SX, hSX⟩ : ∃ SX, SX = S u := ⟨_, rfl⟩; rw [← hSX] at s0 s1 s3 G0 G1 G2 G3 G4 G5 HMe HSlu HSmu; clear hSX HMu; (have hslI : (SX.length : Int) ≤ 40 := by omega); (have hscI : (SX.length : Int) ≤ (sc : Int) := by omega); have HC0 : Hid (w1.cell? ⟨g, u, none⟩ = some (.slice sa SX.length sc)) := s0; have HC3 : Hid (0 < SX.length → ∃ b, sa = some ⟨b, 0, none⟩ ∧ ∀ (j k : Nat), SX[j]? = some k → w1.cell? ⟨b, j, none⟩ = some (.int .i64 (k : Nat))) := s3; obtain ⟨x, hx⟩ : ∃ x, x = decide (u ∈ SX) := ⟨_, rfl⟩; (have HMx : Hid (Calls Try.prog 44 #[.slice sa SX.length sc, .int .i64 (u : Nat)] wr fun e w' => e = .returned (.bool x) ∧ w' = wr) := by rw [hx]; exact HMe.out wr HB.out u); rw [← hx] at G0 G5; (obtain ⟨D1, hD1⟩ : ∃ D1 : Nat → Bool, D1 = fun v => (S v).all fun y => decide (y ∈ SX) := ⟨_, rfl⟩); (obtain ⟨D2, hD2⟩ : ∃ D2 : Nat → Bool, D2 = fun v => decide (u ∈ S v) := ⟨_, rfl⟩); (obtain ⟨D3, hD3⟩ : ∃ D3 : Nat → Bool, D3 = fun v => SX.all fun y => decide (y ∈ S v) := ⟨_, rfl⟩); (have HD1 : Hid (∀ v, D1 v = (S v).all fun y => decide (y ∈ SX)) := fun v => by rw [hD1]); (have HD2 : Hid (∀ v, D2 v = decide (u ∈ S v)) := fun v => by rw [hD2]); (have HD3 : Hid (∀ v, D3 v = SX.all fun y => decide (y ∈ S v)) := fun v => by rw [hD3]); rw [← hD1] at G1 G5; rw [← hD2] at G2; rw [← hD3] at G3; have HG0 : Hid (a0S S (u + 1) = (p0 && x)) := G0; have HG1 : Hid (a1S S (u + 1) = (p1 && SX.all D1)) := G1; have HG2 : Hid (a2S S (u + 1) = (p2 && SX.all D2)) := G2; have HG3 : Hid (a3S S (u + 1) = (p3 && SX.all D3)) := G3; have HG4 : Hid (a4S S (u + 1) = (p4 && !decide (SX.length = 0))) := G4; have HG5 : Hid (a5S S (u + 1) = (p5 && (!x && SX.all D1))) := G5; have d0 := (HB.out.cell (lt_of_cell HC0.out)).trans HC0.out; obtain ⟨⟨o0, o1, o2, o3, o4, o5⟩, z0, z1, z2, z3, z4, z5⟩ := b6_cells HA.out; clear hx hD1 hD2 hD3 G0 G1 G2 G3 G4 G5 s0 s1 s3 hlt hu HSlu; go_wp2_with fail; refine HMx.out.mono ?_; rintro _ w9 ⟨rfl, e9⟩
      replace e9 := e9.symm
      subst e9
      cases x with
      | true =>
        obtain ⟨Y, hY⟩ : ∃ Y, wr.setCell ⟨OB, 5, none⟩ (.bool false) = Y := ⟨_, rfl⟩; (have HYA : Hid (Y.heap[OB]? = some (b6 p0 p1 p2 p3 p4 false)) := by rw [← hY]; exact b6_set5 HA.out); (have HYB : Hid (Below w1.heap.size w1 Y) := by rw [← hY]; exact HB.out.setCell (p := ⟨OB, 5, none⟩) (by have := HO.out; simp; omega) _); have dY := (HYB.out.cell (lt_of_cell HC0.out)).trans HC0.out; obtain ⟨⟨y0, y1, y2, y3, y4, y5⟩, v0, v1, v2, v3, v4, v5⟩ := b6_cells HYA.out; by_cases hz : SX.length = 0
        · have hzI : (SX.length : Int) = 0 := by omega
          (have HH4 : Hid (a4S S (u + 1) = false) := by show _ = _; rw [HG4.out, hz]; simp); clear hz; go_wp2_with fail; clear hzI; obtain ⟨Z, hZ⟩ : ∃ Z, Z = Y.setCell ⟨OB, 4, none⟩ (.bool false) := ⟨_, rfl⟩; (have HZA : Hid (Z.heap[OB]? = some (b6 p0 p1 p2 p3 false false)) := by rw [hZ]; exact b6_set4 HYA.out); (have HZB : Hid (Below w1.heap.size w1 Z) := by rw [hZ]; exact HYB.out.setCell (p := ⟨OB, 4, none⟩) (by have := HO.out; simp; omega) _); rw [← hZ]; clear hZ hY o0 o1 o2 o3 o4 o5 z0 z1 z2 z3 z4 z5 y0 y1 y2 y3 y4 y5 v0 v1 v2 v3 v4 v5 dY d0 m0 m1 m2 HA HYA HYB HB HMx
          go_loopg [6] SX.length (fun gg cc wr => ∃ i, i ≤ SX.length ∧ gg = SX.length - i ∧ cc = .int .i64 (i : Nat) ∧ Hid (wr.heap[OB]? = some (b6 p0 (p1 && (SX.take i).all D1) (p2 && (SX.take i).all D2) (p3 && (SX.take i).all D3) false (false && (SX.take i).all D1))) ∧ Hid (Below w1.heap.size w1 wr))
          case atStart => exact ⟨0, by omega, by omega, rfl, by simpa using HZA, HZB⟩
          case round =>
            obtain ⟨i, hi, hg, rfl, HA2, HB2⟩ := hrel; have HGq : Hid (gk = SX.length - i) := hg; clear hg HZA HZB; have d1 := (HB2.out.cell (lt_of_cell HC0.out)).trans HC0.out; by_cases hlt : i < SX.length
            · obtain ⟨nv, hv⟩ : ∃ v, SX[i]? = some v := ⟨_, List.getElem?_eq_getElem hlt⟩
              (obtain ⟨bs, rfl, hcs⟩ := HC3.out (by omega)); have HCs : Hid (∀ (j k : Nat), SX[j]? = some k → w1.cell? ⟨bs, j, none⟩ = some (.int .i64 (k : Nat))) := hcs; have d2 := (HB2.out.cell (lt_of_cell (hcs i nv hv))).trans (hcs i nv hv); have hvN : nv < N := HSmu.out nv (List.mem_of_getElem? hv); (have hvI : (nv : Int) < (N : Int) := by omega); (have hiI : (i : Int) < (SX.length : Int) := by omega); (have hiC : (i : Int) < (sc : Int) := by omega); have HI : Hid (i < SX.length) := hlt; obtain ⟨va, vc, r0, r1, r3⟩ := HRow.out nv hvN; (have HMv : Hid (∀ W, Below w1.heap.size w1 W → ∀ x : Nat, Calls Try.prog 44 #[.slice va (S nv).length vc, .int .i64 (x : Nat)] W fun e w' => e = .returned (.bool (decide (x ∈ S nv))) ∧ w' = W) := fun W hb x => memberOf_any (S nv) x (HSl.out nv) _ W (NRow.up ⟨va, vc, rfl, r1, r3⟩ hb (Nat.le_refl _))); have hvl := HSl.out nv; (have E1 : (SX.take (i + 1)).all D1 = ((SX.take i).all D1 && (S nv).all fun y => decide (y ∈ SX)) := by rw [List.take_add_one, hv, List.all_append, ← HD1.out nv]; simp); (have E2 : (SX.take (i + 1)).all D2 = ((SX.take i).all D2 && decide (u ∈ S nv)) := by rw [List.take_add_one, hv, List.all_append, ← HD2.out nv]; simp); (have E3 : (SX.take (i + 1)).all D3 = ((SX.take i).all D3 && SX.all fun y => decide (y ∈ S nv)) := by rw [List.take_add_one, hv, List.all_append, ← HD3.out nv]; simp); obtain ⟨SV, hSV⟩ : ∃ SV, SV = S nv := ⟨_, rfl⟩; rw [← hSV] at r0 r1 r3 HMv hvl E1 E2 E3; clear hSV; obtain ⟨q1, hq1⟩ : ∃ q, q = (p1 && (SX.take i).all D1) := ⟨_, rfl⟩; obtain ⟨q2, hq2⟩ : ∃ q, q = (p2 && (SX.take i).all D2) := ⟨_, rfl⟩; obtain ⟨q3, hq3⟩ : ∃ q, q = (p3 && (SX.take i).all D3) := ⟨_, rfl⟩; obtain ⟨q5, hq5⟩ : ∃ q, q = (false && (SX.take i).all D1) := ⟨_, rfl⟩; rw [← hq1, ← hq2, ← hq3, ← hq5] at HA2; (have HE1 : Hid ((p1 && (SX.take (i + 1)).all D1) = (q1 && SV.all fun y => decide (y ∈ SX))) := by show _ = _; rw [E1, hq1, Bool.and_assoc]); (have HE2 : Hid ((p2 && (SX.take (i + 1)).all D2) = (q2 && decide (u ∈ SV))) := by show _ = _; rw [E2, hq2, Bool.and_assoc]); (have HE3 : Hid ((p3 && (SX.take (i + 1)).all D3) = (q3 && SX.all fun y => decide (y ∈ SV))) := by show _ = _; rw [E3, hq3, Bool.and_assoc]); (have HE5 : Hid ((false && (SX.take (i + 1)).all D1) = (q5 && SV.all fun y => decide (y ∈ SX))) := by show _ = _; rw [E1, hq5, Bool.and_assoc]); obtain ⟨z, hz⟩ : ∃ z, z = decide (u ∈ SV) := ⟨_, rfl⟩; (have HMz : Hid (Calls Try.prog 44 #[.slice va SV.length vc, .int .i64 (u : Nat)] wr fun e w' => e = .returned (.bool z) ∧ w' = wr) := by rw [hz]; exact HMv.out wr HB2.out u); rw [← hz] at HE2; (have hvlI : (SV.length : Int) ≤ 40 := by omega); (have hvcI : (SV.length : Int) ≤ (vc : Int) := by omega); have HV0 : Hid (w1.cell? ⟨g, nv, none⟩ = some (.slice va SV.length vc)) := r0; have HV3 : Hid (0 < SV.length → ∃ b, va = some ⟨b, 0, none⟩ ∧ ∀ (j k : Nat), SV[j]? = some k → w1.cell? ⟨b, j, none⟩ = some (.int .i64 (k : Nat))) := r3; have d3 := (HB2.out.cell (lt_of_cell HV0.out)).trans HV0.out; clear hz hq1 hq2 hq3 hq5 E1 E2 E3 r0 r1 r3 hvl hlt hi hv hcs hvN; go_wp2_with fail; refine HMz.out.mono ?_; rintro _ w9 ⟨rfl, e9⟩
              replace e9 := e9.symm
              subst e9; clear HMz
              cases z with
              | true =>
                go_wp2_with fail; clear d1 d2 d3; have HZA := HA2; have HZB := HB2; clear HA2 HB2; (obtain ⟨GG, hGG⟩ : ∃ GG : Nat → Bool, GG = fun y => decide (y ∈ SX) := ⟨_, rfl⟩); (have HGG : Hid (∀ y, GG y = decide (y ∈ SX)) := fun y => by rw [hGG]); rw [← hGG] at HE1 HE5; clear hGG
                go_loopg [8] SV.length (fun gg cc wr => ∃ k, k ≤ SV.length ∧ gg = SV.length - k ∧ cc = .int .i64 (k : Nat) ∧ Hid (wr.heap[OB]? = some (b6 p0 (q1 && (SV.take k).all GG) q2 q3 false (q5 && (SV.take k).all GG))) ∧ Hid (Below w1.heap.size w1 wr))
                case atStart => exact ⟨0, by omega, by omega, rfl, by simpa using HZA, HZB⟩
                case round =>
                  obtain ⟨k, hk, hg, rfl, HA3, HB3⟩ := hrel; have HGr : Hid (gk = SV.length - k) := hg; clear hg; have HX3 : Hid (wr.cell? ⟨g, u, none⟩ = some (.slice (some ⟨bs, 0, none⟩) SX.length sc)) := (HB3.out.cell (lt_of_cell HC0.out)).trans HC0.out; have HV3c : Hid (wr.cell? ⟨g, nv, none⟩ = some (.slice va SV.length vc)) := (HB3.out.cell (lt_of_cell HV0.out)).trans HV0.out; have d1 := HX3.out; have d3 := HV3c.out; by_cases hlt : k < SV.length
                  · obtain ⟨ny, hny⟩ : ∃ v, SV[k]? = some v := ⟨_, List.getElem?_eq_getElem hlt⟩
                    (obtain ⟨bv, rfl, hcv⟩ := HV3.out (by omega)); have HNy : Hid (wr.cell? ⟨bv, k, none⟩ = some (.int .i64 (ny : Nat))) := (HB3.out.cell (lt_of_cell (hcv k ny hny))).trans (hcv k ny hny); clear hcv; (have hkI : (k : Int) < (SV.length : Int) := by omega); (have hkC : (k : Int) < (vc : Int) := by omega); have HK3 : Hid (k < SV.length) := hlt; (have HMb : Hid (∀ W, Below w1.heap.size w1 W → Calls Try.prog 44 #[(.slice (some ⟨bs, 0, none⟩) SX.length sc), .int .i64 (ny : Nat)] W fun e w' => e = .returned (.bool (GG ny)) ∧ w' = W) := fun W hb => by rw [HGG.out]; exact HMe.out W hb ny); (have HN3 : Hid ((SV.take (k + 1)).all GG = ((SV.take k).all GG && GG ny)) := by show _ = _; rw [List.take_add_one, hny]; simp); generalize GG ny = bb at HMb HN3; obtain ⟨r1, hr1⟩ : ∃ r, r = (q1 && (SV.take k).all GG) := ⟨_, rfl⟩; obtain ⟨r5, hr5⟩ : ∃ r, r = (q5 && (SV.take k).all GG) := ⟨_, rfl⟩; rw [← hr1, ← hr5] at HA3; (have HR1 : Hid ((q1 && ((SV.take k).all GG && bb)) = (r1 && bb)) := by show _ = _; rw [hr1, Bool.and_assoc]); (have HR5 : Hid ((q5 && ((SV.take k).all GG && bb)) = (r5 && bb)) := by show _ = _; rw [hr5, Bool.and_assoc]); clear hr1 hr5; clear hlt hk hny; go_wp2_with fail; clear d1 d3; (refine wp_region_free (by kernel_rfl) [fun v _ => v = (.slice (some ⟨g, 0, none⟩) N N), fun v _ => v = (.int .i64 (u : Nat)), fun v _ => v = (.pointer (some ⟨g, u, none⟩)), fun v _ => v = (.slice (some ⟨bs, 0, none⟩) SX.length sc), fun v _ => v = (.slice (some ⟨g, 0, none⟩) N N), fun v _ => v = (.int .i64 (nv : Nat)), fun v _ => v = (.pointer (some ⟨g, nv, none⟩)), fun v _ => v = (.slice (some ⟨bv, 0, none⟩) SV.length vc), fun v _ => v = (.int .i64 (k : Nat)), fun v _ => v = (.pointer (some ⟨bv, k, none⟩)), fun v _ => v = (.int .i64 (ny : Nat)), fun v _ => v = (.bool bb), fun v _ => v = (.bool (!bb))] ?_ (by kernel_rfl) (by kernel_rfl) 106 rfl (by kernel_rfl) ?_ ?_)
                    · intro p hp
                      simp only [List.mem_cons, List.not_mem_nil, or_false] at hp
                      rcases hp with rfl | rfl | rfl | rfl | rfl | rfl | rfl | rfl | rfl | rfl | rfl | rfl | rfl
                      · exact fun _ _ _ h _ => h
                      · exact fun _ _ _ h _ => h
                      · exact fun _ _ _ h _ => h
                      · exact fun _ _ _ h _ => h
                      · exact fun _ _ _ h _ => h
                      · exact fun _ _ _ h _ => h
                      · exact fun _ _ _ h _ => h
                      · exact fun _ _ _ h _ => h
                      · exact fun _ _ _ h _ => h
                      · exact fun _ _ _ h _ => h
                      · exact fun _ _ _ h _ => h
                      · exact fun _ _ _ h _ => h
                      · exact fun _ _ _ h _ => h
                    · refine ⟨?_, ?_, ?_, ?_, ?_, ?_, ?_, ?_, ?_, ?_, ?_, ?_, ?_, trivial⟩
                      · intro a wx hB hold hdep K hK
                        have t3 : a.tmps[3]? = some (.slice (some ⟨g, 0, none⟩) N N) := hold.2.2 3 rfl; clear hold hdep; go_simp; exact hK.out _ _ rfl (Below.refl _ _)
                      · intro a wx hB hold hdep K hK
                        have t5 : a.tmps[5]? = some (.int .i64 (u : Nat)) := hold.2.2 5 rfl; clear hold hdep; go_simp; exact hK.out _ _ rfl (Below.refl _ _)
                      · intro a wx hB hold hdep K hK
                        obtain ⟨v67, t67, p67⟩ := hdep 0 rfl _ 67 rfl rfl; have e67 : v67 = (.slice (some ⟨g, 0, none⟩) N N) := p67; subst e67; obtain ⟨v68, t68, p68⟩ := hdep 1 rfl _ 68 rfl rfl; have e68 : v68 = (.int .i64 (u : Nat)) := p68; subst e68; clear hold hdep; go_simp; exact hK.out _ _ rfl (Below.refl _ _)
                      · intro a wx hB hold hdep K hK
                        obtain ⟨v69, t69, p69⟩ := hdep 2 rfl _ 69 rfl rfl; have e69 : v69 = (.pointer (some ⟨g, u, none⟩)) := p69; subst e69; have c9 := (hB.cell (lt_of_cell HX3.out)).trans HX3.out; clear hold hdep; go_simp; exact hK.out _ _ rfl (Below.refl _ _)
                      · intro a wx hB hold hdep K hK
                        have t3 : a.tmps[3]? = some (.slice (some ⟨g, 0, none⟩) N N) := hold.2.2 3 rfl; clear hold hdep; go_simp; exact hK.out _ _ rfl (Below.refl _ _)
                      · intro a wx hB hold hdep K hK
                        have t7 : a.tmps[7]? = some (.int .i64 (nv : Nat)) := hold.2.2 7 rfl; clear hold hdep; go_simp; exact hK.out _ _ rfl (Below.refl _ _)
                      · intro a wx hB hold hdep K hK
                        obtain ⟨v71, t71, p71⟩ := hdep 4 rfl _ 71 rfl rfl; have e71 : v71 = (.slice (some ⟨g, 0, none⟩) N N) := p71; subst e71; obtain ⟨v72, t72, p72⟩ := hdep 5 rfl _ 72 rfl rfl; have e72 : v72 = (.int .i64 (nv : Nat)) := p72; subst e72; clear hold hdep; go_simp; exact hK.out _ _ rfl (Below.refl _ _)
                      · intro a wx hB hold hdep K hK
                        obtain ⟨v73, t73, p73⟩ := hdep 6 rfl _ 73 rfl rfl; have e73 : v73 = (.pointer (some ⟨g, nv, none⟩)) := p73; subst e73; have c9 := (hB.cell (lt_of_cell HV3c.out)).trans HV3c.out; clear hold hdep; go_simp; exact hK.out _ _ rfl (Below.refl _ _)
                      · intro a wx hB hold hdep K hK
                        have t8 : a.tmps[8]? = some (.int .i64 (k : Nat)) := hold.2.2 8 rfl; clear hold hdep; go_simp; exact hK.out _ _ rfl (Below.refl _ _)
                      · intro a wx hB hold hdep K hK
                        obtain ⟨v74, t74, p74⟩ := hdep 7 rfl _ 74 rfl rfl; have e74 : v74 = (.slice (some ⟨bv, 0, none⟩) SV.length vc) := p74; subst e74; obtain ⟨v75, t75, p75⟩ := hdep 8 rfl _ 75 rfl rfl; have e75 : v75 = (.int .i64 (k : Nat)) := p75; subst e75; clear hold hdep; go_simp; exact hK.out _ _ rfl (Below.refl _ _)
                      · intro a wx hB hold hdep K hK
                        obtain ⟨v76, t76, p76⟩ := hdep 9 rfl _ 76 rfl rfl; have e76 : v76 = (.pointer (some ⟨bv, k, none⟩)) := p76; subst e76; have c9 := (hB.cell (lt_of_cell HNy.out)).trans HNy.out; clear hold hdep; go_simp; exact hK.out _ _ rfl (Below.refl _ _)
                      · intro a wx hB hold hdep K hK
                        obtain ⟨v70, t70, p70⟩ := hdep 3 rfl _ 70 rfl rfl; have e70 : v70 = (.slice (some ⟨bs, 0, none⟩) SX.length sc) := p70; subst e70; obtain ⟨v77, t77, p77⟩ := hdep 10 rfl _ 77 rfl rfl; have e77 : v77 = (.int .i64 (ny : Nat)) := p77; subst e77; have HW : Hid (Calls Try.prog 44 #[(.slice (some ⟨bs, 0, none⟩) SX.length sc), .int .i64 (ny : Nat)] wx _) := HMb.out wx (below_join HB3.out hB); clear hold hdep; go_simp; refine HW.out.mono ?_; rintro _ w9 ⟨rfl, rfl⟩; go_simp; exact hK.out _ _ rfl (Below.refl _ _)
                      · intro a wx hB hold hdep K hK
                        obtain ⟨v78, t78, p78⟩ := hdep 11 rfl _ 78 rfl rfl; have e78 : v78 = (.bool bb) := p78; subst e78; clear hold hdep; go_simp; exact hK.out _ _ rfl (Below.refl _ _)
                    · intro a wx hB hold hgot
                      obtain ⟨vS, tvS, pvS⟩ := hgot 12 _ 79 rfl rfl; have evS : vS = (.bool (!bb)) := pvS; subst evS; have HBx : Hid (Below wr.heap.size wr wx) := hB; have HAx : Hid (wx.heap[OB]? = some (b6 p0 r1 q2 q3 false r5)) := below_keep hB HA3.out; have HB4 : Hid (Below w1.heap.size w1 wx) := below_join HB3.out hB; obtain ⟨tm, df⟩ := a; (obtain ⟨ys, hys, htm, rfl⟩ := frame_mid2 67 13 (by kernel_rfl) (Nat.le_of_ble_eq_true rfl) hold); obtain ⟨x67, x68, x69, x70, x71, x72, x73, x74, x75, x76, x77, x78, x79, rfl⟩ := rowS13 ys hys; simp only [List.take_succ_cons, List.take_zero, List.drop_succ_cons, List.drop_zero, List.cons_append, List.nil_append] at htm; subst htm; obtain rfl : x79 = _ := someInjM tvS; clear hys hold hgot tvS hB HB3 HA3
                      cases bb with
                      | true =>
                        go_wp2_with fail
                        go_roundg (SV.length - (k + 1))
                        case measure => have := HGr.out; have := HK3.out; omega
                        case rel => exact ⟨k + 1, HK3.out, rfl, by go_num, by rw [HN3.out, HR1.out, HR5.out]; simpa using HAx, HB4⟩
                      | false =>
                        obtain ⟨⟨o0, o1, o2, o3, o4, o5⟩, z0, z1, z2, z3, z4, z5⟩ := b6_cells HAx.out; have q9 := b6_cells (b6_set1 HAx.out); obtain ⟨⟨u0, u1, u2, u3, u4, u5⟩, x0, x1, x2, x3, x4, x5⟩ := q9; go_wp2_with fail; obtain ⟨Y, hY⟩ : ∃ Y, Y = ((wx.setCell ⟨OB, 1, none⟩ (.bool false)).setCell ⟨OB, 5, none⟩ (.bool false)) := ⟨_, rfl⟩; (have HYA : Hid (Y.heap[OB]? = some (b6 p0 false q2 q3 false false)) := by rw [hY]; exact (b6_set5 (b6_set1 HAx.out))); (have HYB : Hid (Below w1.heap.size w1 Y) := by rw [hY]; exact ((HB4.out.setCell (p := ⟨OB, 1, none⟩) (by have := HO.out; simp; omega) _).setCell (p := ⟨OB, 5, none⟩) (by have := HO.out; simp; omega) _)); rw [← hY]; clear hY o0 o1 o2 o3 o4 o5 z0 z1 z2 z3 z4 z5 u0 u1 u2 u3 u4 u5 x0 x1 x2 x3 x4 x5
                        go_roundg (SV.length - (k + 1))
                        case measure => have := HGr.out; have := HK3.out; omega
                        case rel => exact ⟨k + 1, HK3.out, rfl, by go_num, by rw [HN3.out, HR1.out, HR5.out]; simpa using HYA, HYB⟩
                  · have hkk : k = SV.length := by omega
                    subst hkk; (have hge : ¬ (SV.length : Int) < (SV.length : Int) := by omega); rw [List.take_length] at HA3; clear hlt hk; go_wp2_with fail; clear d1 d3; have HZA := HA3; have HZB := HB3; obtain ⟨s1, hs1⟩ : ∃ s, s = (q1 && SV.all GG) := ⟨_, rfl⟩; obtain ⟨s5, hs5⟩ : ∃ s, s = (q5 && SV.all GG) := ⟨_, rfl⟩; rw [← hs1] at HE1; rw [← hs5] at HE5; rw [← hs1, ← hs5] at HZA; clear hs1 hs5 HGG HA3 HB3 hge HX3 HV3c; (obtain ⟨GG, hGG⟩ : ∃ GG : Nat → Bool, GG = fun y => decide (y ∈ SV) := ⟨_, rfl⟩); (have HGG : Hid (∀ y, GG y = decide (y ∈ SV)) := fun y => by rw [hGG]); rw [← hGG] at HE3; clear hGG
                    go_loopg [9] SX.length (fun gg cc wr => ∃ k, k ≤ SX.length ∧ gg = SX.length - k ∧ cc = .int .i64 (k : Nat) ∧ Hid (wr.heap[OB]? = some (b6 p0 s1 q2 (q3 && (SX.take k).all GG) false s5)) ∧ Hid (Below w1.heap.size w1 wr))
                    case atStart => exact ⟨0, by omega, by omega, rfl, by simpa using HZA, HZB⟩
                    case round =>
                      obtain ⟨k, hk, hg, rfl, HA3, HB3⟩ := hrel; have HGr : Hid (gk = SX.length - k) := hg; clear hg; have HX3 : Hid (wr.cell? ⟨g, u, none⟩ = some (.slice (some ⟨bs, 0, none⟩) SX.length sc)) := (HB3.out.cell (lt_of_cell HC0.out)).trans HC0.out; have HV3c : Hid (wr.cell? ⟨g, nv, none⟩ = some (.slice va SV.length vc)) := (HB3.out.cell (lt_of_cell HV0.out)).trans HV0.out; have d1 := HX3.out; have d3 := HV3c.out; by_cases hlt : k < SX.length
                      · obtain ⟨ny, hny⟩ : ∃ v, SX[k]? = some v := ⟨_, List.getElem?_eq_getElem hlt⟩
                        have HNy : Hid (wr.cell? ⟨bs, k, none⟩ = some (.int .i64 (ny : Nat))) := (HB3.out.cell (lt_of_cell (HCs.out k ny hny))).trans (HCs.out k ny hny); (have hkI : (k : Int) < (SX.length : Int) := by omega); (have hkC : (k : Int) < (sc : Int) := by omega); have HK3 : Hid (k < SX.length) := hlt; (have HMb : Hid (∀ W, Below w1.heap.size w1 W → Calls Try.prog 44 #[(.slice va SV.length vc), .int .i64 (ny : Nat)] W fun e w' => e = .returned (.bool (GG ny)) ∧ w' = W) := fun W hb => by rw [HGG.out]; exact HMv.out W hb ny); (have HN3 : Hid ((SX.take (k + 1)).all GG = ((SX.take k).all GG && GG ny)) := by show _ = _; rw [List.take_add_one, hny]; simp); generalize GG ny = bb at HMb HN3; obtain ⟨r3, hr3⟩ : ∃ r, r = (q3 && (SX.take k).all GG) := ⟨_, rfl⟩; rw [← hr3] at HA3; (have HR3 : Hid ((q3 && ((SX.take k).all GG && bb)) = (r3 && bb)) := by show _ = _; rw [hr3, Bool.and_assoc]); clear hr3; clear hlt hk hny; go_wp2_with fail; clear d1 d3; (refine wp_region_free (by kernel_rfl) [fun v _ => v = (.slice (some ⟨g, 0, none⟩) N N), fun v _ => v = (.int .i64 (nv : Nat)), fun v _ => v = (.pointer (some ⟨g, nv, none⟩)), fun v _ => v = (.slice va SV.length vc), fun v _ => v = (.slice (some ⟨g, 0, none⟩) N N), fun v _ => v = (.int .i64 (u : Nat)), fun v _ => v = (.pointer (some ⟨g, u, none⟩)), fun v _ => v = (.slice (some ⟨bs, 0, none⟩) SX.length sc), fun v _ => v = (.int .i64 (k : Nat)), fun v _ => v = (.pointer (some ⟨bs, k, none⟩)), fun v _ => v = (.int .i64 (ny : Nat)), fun v _ => v = (.bool bb), fun v _ => v = (.bool (!bb))] ?_ (by kernel_rfl) (by kernel_rfl) 106 rfl (by kernel_rfl) ?_ ?_)
                        · intro p hp
                          simp only [List.mem_cons, List.not_mem_nil, or_false] at hp
                          rcases hp with rfl | rfl | rfl | rfl | rfl | rfl | rfl | rfl | rfl | rfl | rfl | rfl | rfl
                          · exact fun _ _ _ h _ => h
                          · exact fun _ _ _ h _ => h
                          · exact fun _ _ _ h _ => h
                          · exact fun _ _ _ h _ => h
                          · exact fun _ _ _ h _ => h
                          · exact fun _ _ _ h _ => h
                          · exact fun _ _ _ h _ => h
                          · exact fun _ _ _ h _ => h
                          · exact fun _ _ _ h _ => h
                          · exact fun _ _ _ h _ => h
                          · exact fun _ _ _ h _ => h
                          · exact fun _ _ _ h _ => h
                          · exact fun _ _ _ h _ => h
                        · refine ⟨?_, ?_, ?_, ?_, ?_, ?_, ?_, ?_, ?_, ?_, ?_, ?_, ?_, trivial⟩
                          · intro a wx hB hold hdep K hK
                            have t3 : a.tmps[3]? = some (.slice (some ⟨g, 0, none⟩) N N) := hold.2.2 3 rfl; clear hold hdep; go_simp; exact hK.out _ _ rfl (Below.refl _ _)
                          · intro a wx hB hold hdep K hK
                            have t7 : a.tmps[7]? = some (.int .i64 (nv : Nat)) := hold.2.2 7 rfl; clear hold hdep; go_simp; exact hK.out _ _ rfl (Below.refl _ _)
                          · intro a wx hB hold hdep K hK
                            obtain ⟨v91, t91, p91⟩ := hdep 0 rfl _ 91 rfl rfl; have e91 : v91 = (.slice (some ⟨g, 0, none⟩) N N) := p91; subst e91; obtain ⟨v92, t92, p92⟩ := hdep 1 rfl _ 92 rfl rfl; have e92 : v92 = (.int .i64 (nv : Nat)) := p92; subst e92; clear hold hdep; go_simp; exact hK.out _ _ rfl (Below.refl _ _)
                          · intro a wx hB hold hdep K hK
                            obtain ⟨v93, t93, p93⟩ := hdep 2 rfl _ 93 rfl rfl; have e93 : v93 = (.pointer (some ⟨g, nv, none⟩)) := p93; subst e93; have c9 := (hB.cell (lt_of_cell HV3c.out)).trans HV3c.out; clear hold hdep; go_simp; exact hK.out _ _ rfl (Below.refl _ _)
                          · intro a wx hB hold hdep K hK
                            have t3 : a.tmps[3]? = some (.slice (some ⟨g, 0, none⟩) N N) := hold.2.2 3 rfl; clear hold hdep; go_simp; exact hK.out _ _ rfl (Below.refl _ _)
                          · intro a wx hB hold hdep K hK
                            have t5 : a.tmps[5]? = some (.int .i64 (u : Nat)) := hold.2.2 5 rfl; clear hold hdep; go_simp; exact hK.out _ _ rfl (Below.refl _ _)
                          · intro a wx hB hold hdep K hK
                            obtain ⟨v95, t95, p95⟩ := hdep 4 rfl _ 95 rfl rfl; have e95 : v95 = (.slice (some ⟨g, 0, none⟩) N N) := p95; subst e95; obtain ⟨v96, t96, p96⟩ := hdep 5 rfl _ 96 rfl rfl; have e96 : v96 = (.int .i64 (u : Nat)) := p96; subst e96; clear hold hdep; go_simp; exact hK.out _ _ rfl (Below.refl _ _)
                          · intro a wx hB hold hdep K hK
                            obtain ⟨v97, t97, p97⟩ := hdep 6 rfl _ 97 rfl rfl; have e97 : v97 = (.pointer (some ⟨g, u, none⟩)) := p97; subst e97; have c9 := (hB.cell (lt_of_cell HX3.out)).trans HX3.out; clear hold hdep; go_simp; exact hK.out _ _ rfl (Below.refl _ _)
                          · intro a wx hB hold hdep K hK
                            have t9 : a.tmps[9]? = some (.int .i64 (k : Nat)) := hold.2.2 9 rfl; clear hold hdep; go_simp; exact hK.out _ _ rfl (Below.refl _ _)
                          · intro a wx hB hold hdep K hK
                            obtain ⟨v98, t98, p98⟩ := hdep 7 rfl _ 98 rfl rfl; have e98 : v98 = (.slice (some ⟨bs, 0, none⟩) SX.length sc) := p98; subst e98; obtain ⟨v99, t99, p99⟩ := hdep 8 rfl _ 99 rfl rfl; have e99 : v99 = (.int .i64 (k : Nat)) := p99; subst e99; clear hold hdep; go_simp; exact hK.out _ _ rfl (Below.refl _ _)
                          · intro a wx hB hold hdep K hK
                            obtain ⟨v100, t100, p100⟩ := hdep 9 rfl _ 100 rfl rfl; have e100 : v100 = (.pointer (some ⟨bs, k, none⟩)) := p100; subst e100; have c9 := (hB.cell (lt_of_cell HNy.out)).trans HNy.out; clear hold hdep; go_simp; exact hK.out _ _ rfl (Below.refl _ _)
                          · intro a wx hB hold hdep K hK
                            obtain ⟨v94, t94, p94⟩ := hdep 3 rfl _ 94 rfl rfl; have e94 : v94 = (.slice va SV.length vc) := p94; subst e94; obtain ⟨v101, t101, p101⟩ := hdep 10 rfl _ 101 rfl rfl; have e101 : v101 = (.int .i64 (ny : Nat)) := p101; subst e101; have HW : Hid (Calls Try.prog 44 #[(.slice va SV.length vc), .int .i64 (ny : Nat)] wx _) := HMb.out wx (below_join HB3.out hB); clear hold hdep; go_simp; refine HW.out.mono ?_; rintro _ w9 ⟨rfl, rfl⟩; go_simp; exact hK.out _ _ rfl (Below.refl _ _)
                          · intro a wx hB hold hdep K hK
                            obtain ⟨v102, t102, p102⟩ := hdep 11 rfl _ 102 rfl rfl; have e102 : v102 = (.bool bb) := p102; subst e102; clear hold hdep; go_simp; exact hK.out _ _ rfl (Below.refl _ _)
                        · intro a wx hB hold hgot
                          obtain ⟨vS, tvS, pvS⟩ := hgot 12 _ 103 rfl rfl; have evS : vS = (.bool (!bb)) := pvS; subst evS; have HBx : Hid (Below wr.heap.size wr wx) := hB; have HAx : Hid (wx.heap[OB]? = some (b6 p0 s1 q2 r3 false s5)) := below_keep hB HA3.out; have HB4 : Hid (Below w1.heap.size w1 wx) := below_join HB3.out hB; obtain ⟨tm, df⟩ := a; (obtain ⟨ys, hys, htm, rfl⟩ := frame_mid2 91 13 (by kernel_rfl) (Nat.le_of_ble_eq_true rfl) hold); obtain ⟨x91, x92, x93, x94, x95, x96, x97, x98, x99, x100, x101, x102, x103, rfl⟩ := rowS13 ys hys; simp only [List.take_succ_cons, List.take_zero, List.drop_succ_cons, List.drop_zero, List.cons_append, List.nil_append] at htm; subst htm; obtain rfl : x103 = _ := someInjM tvS; clear hys hold hgot tvS hB HB3 HA3
                          cases bb with
                          | true =>
                            go_wp2_with fail
                            go_roundg (SX.length - (k + 1))
                            case measure => have := HGr.out; have := HK3.out; omega
                            case rel => exact ⟨k + 1, HK3.out, rfl, by go_num, by rw [HN3.out, HR3.out]; simpa using HAx, HB4⟩
                          | false =>
                            obtain ⟨⟨o0, o1, o2, o3, o4, o5⟩, z0, z1, z2, z3, z4, z5⟩ := b6_cells HAx.out; go_wp2_with fail; obtain ⟨Y, hY⟩ : ∃ Y, Y = (wx.setCell ⟨OB, 3, none⟩ (.bool false)) := ⟨_, rfl⟩; (have HYA : Hid (Y.heap[OB]? = some (b6 p0 s1 q2 false false s5)) := by rw [hY]; exact (b6_set3 HAx.out)); (have HYB : Hid (Below w1.heap.size w1 Y) := by rw [hY]; exact (HB4.out.setCell (p := ⟨OB, 3, none⟩) (by have := HO.out; simp; omega) _)); rw [← hY]; clear hY o0 o1 o2 o3 o4 o5 z0 z1 z2 z3 z4 z5
                            go_roundg (SX.length - (k + 1))
                            case measure => have := HGr.out; have := HK3.out; omega
                            case rel => exact ⟨k + 1, HK3.out, rfl, by go_num, by rw [HN3.out, HR3.out]; simpa using HYA, HYB⟩
                      · have hkk : k = SX.length := by omega
                        subst hkk; (have hge : ¬ (SX.length : Int) < (SX.length : Int) := by omega); rw [List.take_length] at HA3; clear hlt hk; go_wp2_with fail
                        go_roundg (SX.length - (i + 1))
                        case measure => have := HGq.out; have := HI.out; omega
                        case rel => exact ⟨i + 1, HI.out, rfl, by go_num, by rw [HE1.out, HE2.out, HE3.out, HE5.out]; simpa using HA3, HB3⟩
              | false =>
                obtain ⟨⟨o0, o1, o2, o3, o4, o5⟩, z0, z1, z2, z3, z4, z5⟩ := b6_cells HA2.out; go_wp2_with fail; obtain ⟨Z, hZ⟩ : ∃ Z, Z = wr.setCell ⟨OB, 2, none⟩ (.bool false) := ⟨_, rfl⟩; (have HZA : Hid (Z.heap[OB]? = some (b6 p0 q1 false q3 false q5)) := by rw [hZ]; exact b6_set2 HA2.out); (have HZB : Hid (Below w1.heap.size w1 Z) := by rw [hZ]; exact HB2.out.setCell (p := ⟨OB, 2, none⟩) (by have := HO.out; simp; omega) _); rw [← hZ]; clear hZ o0 o1 o2 o3 o4 o5 z0 z1 z2 z3 z4 z5 d1 d2 d3 HA2 HB2; (obtain ⟨GG, hGG⟩ : ∃ GG : Nat → Bool, GG = fun y => decide (y ∈ SX) := ⟨_, rfl⟩); (have HGG : Hid (∀ y, GG y = decide (y ∈ SX)) := fun y => by rw [hGG]); rw [← hGG] at HE1 HE5; clear hGG
                go_loopg [8] SV.length (fun gg cc wr => ∃ k, k ≤ SV.length ∧ gg = SV.length - k ∧ cc = .int .i64 (k : Nat) ∧ Hid (wr.heap[OB]? = some (b6 p0 (q1 && (SV.take k).all GG) false q3 false (q5 && (SV.take k).all GG))) ∧ Hid (Below w1.heap.size w1 wr))
                case atStart => exact ⟨0, by omega, by omega, rfl, by simpa using HZA, HZB⟩
                case round =>
                  obtain ⟨k, hk, hg, rfl, HA3, HB3⟩ := hrel; have HGr : Hid (gk = SV.length - k) := hg; clear hg; have HX3 : Hid (wr.cell? ⟨g, u, none⟩ = some (.slice (some ⟨bs, 0, none⟩) SX.length sc)) := (HB3.out.cell (lt_of_cell HC0.out)).trans HC0.out; have HV3c : Hid (wr.cell? ⟨g, nv, none⟩ = some (.slice va SV.length vc)) := (HB3.out.cell (lt_of_cell HV0.out)).trans HV0.out; have d1 := HX3.out; have d3 := HV3c.out; by_cases hlt : k < SV.length
                  · obtain ⟨ny, hny⟩ : ∃ v, SV[k]? = some v := ⟨_, List.getElem?_eq_getElem hlt⟩
                    (obtain ⟨bv, rfl, hcv⟩ := HV3.out (by omega)); have HNy : Hid (wr.cell? ⟨bv, k, none⟩ = some (.int .i64 (ny : Nat))) := (HB3.out.cell (lt_of_cell (hcv k ny hny))).trans (hcv k ny hny); clear hcv; (have hkI : (k : Int) < (SV.length : Int) := by omega); (have hkC : (k : Int) < (vc : Int) := by omega); have HK3 : Hid (k < SV.length) := hlt; (have HMb : Hid (∀ W, Below w1.heap.size w1 W → Calls Try.prog 44 #[(.slice (some ⟨bs, 0, none⟩) SX.length sc), .int .i64 (ny : Nat)] W fun e w' => e = .returned (.bool (GG ny)) ∧ w' = W) := fun W hb => by rw [HGG.out]; exact HMe.out W hb ny); (have HN3 : Hid ((SV.take (k + 1)).all GG = ((SV.take k).all GG && GG ny)) := by show _ = _; rw [List.take_add_one, hny]; simp); generalize GG ny = bb at HMb HN3; obtain ⟨r1, hr1⟩ : ∃ r, r = (q1 && (SV.take k).all GG) := ⟨_, rfl⟩; obtain ⟨r5, hr5⟩ : ∃ r, r = (q5 && (SV.take k).all GG) := ⟨_, rfl⟩; rw [← hr1, ← hr5] at HA3; (have HR1 : Hid ((q1 && ((SV.take k).all GG && bb)) = (r1 && bb)) := by show _ = _; rw [hr1, Bool.and_assoc]); (have HR5 : Hid ((q5 && ((SV.take k).all GG && bb)) = (r5 && bb)) := by show _ = _; rw [hr5, Bool.and_assoc]); clear hr1 hr5; clear hlt hk hny; go_wp2_with fail; clear d1 d3; (refine wp_region_free (by kernel_rfl) [fun v _ => v = (.slice (some ⟨g, 0, none⟩) N N), fun v _ => v = (.int .i64 (u : Nat)), fun v _ => v = (.pointer (some ⟨g, u, none⟩)), fun v _ => v = (.slice (some ⟨bs, 0, none⟩) SX.length sc), fun v _ => v = (.slice (some ⟨g, 0, none⟩) N N), fun v _ => v = (.int .i64 (nv : Nat)), fun v _ => v = (.pointer (some ⟨g, nv, none⟩)), fun v _ => v = (.slice (some ⟨bv, 0, none⟩) SV.length vc), fun v _ => v = (.int .i64 (k : Nat)), fun v _ => v = (.pointer (some ⟨bv, k, none⟩)), fun v _ => v = (.int .i64 (ny : Nat)), fun v _ => v = (.bool bb), fun v _ => v = (.bool (!bb))] ?_ (by kernel_rfl) (by kernel_rfl) 106 rfl (by kernel_rfl) ?_ ?_)
                    · intro p hp
                      simp only [List.mem_cons, List.not_mem_nil, or_false] at hp
                      rcases hp with rfl | rfl | rfl | rfl | rfl | rfl | rfl | rfl | rfl | rfl | rfl | rfl | rfl
                      · exact fun _ _ _ h _ => h
                      · exact fun _ _ _ h _ => h
                      · exact fun _ _ _ h _ => h
                      · exact fun _ _ _ h _ => h
                      · exact fun _ _ _ h _ => h
                      · exact fun _ _ _ h _ => h
                      · exact fun _ _ _ h _ => h
                      · exact fun _ _ _ h _ => h
                      · exact fun _ _ _ h _ => h
                      · exact fun _ _ _ h _ => h
                      · exact fun _ _ _ h _ => h
                      · exact fun _ _ _ h _ => h
                      · exact fun _ _ _ h _ => h
                    · refine ⟨?_, ?_, ?_, ?_, ?_, ?_, ?_, ?_, ?_, ?_, ?_, ?_, ?_, trivial⟩
                      · intro a wx hB hold hdep K hK
                        have t3 : a.tmps[3]? = some (.slice (some ⟨g, 0, none⟩) N N) := hold.2.2 3 rfl; clear hold hdep; go_simp; exact hK.out _ _ rfl (Below.refl _ _)
                      · intro a wx hB hold hdep K hK
                        have t5 : a.tmps[5]? = some (.int .i64 (u : Nat)) := hold.2.2 5 rfl; clear hold hdep; go_simp; exact hK.out _ _ rfl (Below.refl _ _)
                      · intro a wx hB hold hdep K hK
                        obtain ⟨v67, t67, p67⟩ := hdep 0 rfl _ 67 rfl rfl; have e67 : v67 = (.slice (some ⟨g, 0, none⟩) N N) := p67; subst e67; obtain ⟨v68, t68, p68⟩ := hdep 1 rfl _ 68 rfl rfl; have e68 : v68 = (.int .i64 (u : Nat)) := p68; subst e68; clear hold hdep; go_simp; exact hK.out _ _ rfl (Below.refl _ _)
                      · intro a wx hB hold hdep K hK
                        obtain ⟨v69, t69, p69⟩ := hdep 2 rfl _ 69 rfl rfl; have e69 : v69 = (.pointer (some ⟨g, u, none⟩)) := p69; subst e69; have c9 := (hB.cell (lt_of_cell HX3.out)).trans HX3.out; clear hold hdep; go_simp; exact hK.out _ _ rfl (Below.refl _ _)
                      · intro a wx hB hold hdep K hK
                        have t3 : a.tmps[3]? = some (.slice (some ⟨g, 0, none⟩) N N) := hold.2.2 3 rfl; clear hold hdep; go_simp; exact hK.out _ _ rfl (Below.refl _ _)
                      · intro a wx hB hold hdep K hK
                        have t7 : a.tmps[7]? = some (.int .i64 (nv : Nat)) := hold.2.2 7 rfl; clear hold hdep; go_simp; exact hK.out _ _ rfl (Below.refl _ _)
                      · intro a wx hB hold hdep K hK
                        obtain ⟨v71, t71, p71⟩ := hdep 4 rfl _ 71 rfl rfl; have e71 : v71 = (.slice (some ⟨g, 0, none⟩) N N) := p71; subst e71; obtain ⟨v72, t72, p72⟩ := hdep 5 rfl _ 72 rfl rfl; have e72 : v72 = (.int .i64 (nv : Nat)) := p72; subst e72; clear hold hdep; go_simp; exact hK.out _ _ rfl (Below.refl _ _)
                      · intro a wx hB hold hdep K hK
                        obtain ⟨v73, t73, p73⟩ := hdep 6 rfl _ 73 rfl rfl; have e73 : v73 = (.pointer (some ⟨g, nv, none⟩)) := p73; subst e73; have c9 := (hB.cell (lt_of_cell HV3c.out)).trans HV3c.out; clear hold hdep; go_simp; exact hK.out _ _ rfl (Below.refl _ _)
                      · intro a wx hB hold hdep K hK
                        have t8 : a.tmps[8]? = some (.int .i64 (k : Nat)) := hold.2.2 8 rfl; clear hold hdep; go_simp; exact hK.out _ _ rfl (Below.refl _ _)
                      · intro a wx hB hold hdep K hK
                        obtain ⟨v74, t74, p74⟩ := hdep 7 rfl _ 74 rfl rfl; have e74 : v74 = (.slice (some ⟨bv, 0, none⟩) SV.length vc) := p74; subst e74; obtain ⟨v75, t75, p75⟩ := hdep 8 rfl _ 75 rfl rfl; have e75 : v75 = (.int .i64 (k : Nat)) := p75; subst e75; clear hold hdep; go_simp; exact hK.out _ _ rfl (Below.refl _ _)
                      · intro a wx hB hold hdep K hK
                        obtain ⟨v76, t76, p76⟩ := hdep 9 rfl _ 76 rfl rfl; have e76 : v76 = (.pointer (some ⟨bv, k, none⟩)) := p76; subst e76; have c9 := (hB.cell (lt_of_cell HNy.out)).trans HNy.out; clear hold hdep; go_simp; exact hK.out _ _ rfl (Below.refl _ _)
                      · intro a wx hB hold hdep K hK
                        obtain ⟨v70, t70, p70⟩ := hdep 3 rfl _ 70 rfl rfl; have e70 : v70 = (.slice (some ⟨bs, 0, none⟩) SX.length sc) := p70; subst e70; obtain ⟨v77, t77, p77⟩ := hdep 10 rfl _ 77 rfl rfl; have e77 : v77 = (.int .i64 (ny : Nat)) := p77; subst e77; have HW : Hid (Calls Try.prog 44 #[(.slice (some ⟨bs, 0, none⟩) SX.length sc), .int .i64 (ny : Nat)] wx _) := HMb.out wx (below_join HB3.out hB); clear hold hdep; go_simp; refine HW.out.mono ?_; rintro _ w9 ⟨rfl, rfl⟩; go_simp; exact hK.out _ _ rfl (Below.refl _ _)
                      · intro a wx hB hold hdep K hK
                        obtain ⟨v78, t78, p78⟩ := hdep 11 rfl _ 78 rfl rfl; have e78 : v78 = (.bool bb) := p78; subst e78; clear hold hdep; go_simp; exact hK.out _ _ rfl (Below.refl _ _)
                    · intro a wx hB hold hgot
                      obtain ⟨vS, tvS, pvS⟩ := hgot 12 _ 79 rfl rfl; have evS : vS = (.bool (!bb)) := pvS; subst evS; have HBx : Hid (Below wr.heap.size wr wx) := hB; have HAx : Hid (wx.heap[OB]? = some (b6 p0 r1 false q3 false r5)) := below_keep hB HA3.out; have HB4 : Hid (Below w1.heap.size w1 wx) := below_join HB3.out hB; obtain ⟨tm, df⟩ := a; (obtain ⟨ys, hys, htm, rfl⟩ := frame_mid2 67 13 (by kernel_rfl) (Nat.le_of_ble_eq_true rfl) hold); obtain ⟨x67, x68, x69, x70, x71, x72, x73, x74, x75, x76, x77, x78, x79, rfl⟩ := rowS13 ys hys; simp only [List.take_succ_cons, List.take_zero, List.drop_succ_cons, List.drop_zero, List.cons_append, List.nil_append] at htm; subst htm; obtain rfl : x79 = _ := someInjM tvS; clear hys hold hgot tvS hB HB3 HA3
                      cases bb with
                      | true =>
                        go_wp2_with fail
                        go_roundg (SV.length - (k + 1))
                        case measure => have := HGr.out; have := HK3.out; omega
                        case rel => exact ⟨k + 1, HK3.out, rfl, by go_num, by rw [HN3.out, HR1.out, HR5.out]; simpa using HAx, HB4⟩
                      | false =>
                        obtain ⟨⟨o0, o1, o2, o3, o4, o5⟩, z0, z1, z2, z3, z4, z5⟩ := b6_cells HAx.out; have q9 := b6_cells (b6_set1 HAx.out); obtain ⟨⟨u0, u1, u2, u3, u4, u5⟩, x0, x1, x2, x3, x4, x5⟩ := q9; go_wp2_with fail; obtain ⟨Y, hY⟩ : ∃ Y, Y = ((wx.setCell ⟨OB, 1, none⟩ (.bool false)).setCell ⟨OB, 5, none⟩ (.bool false)) := ⟨_, rfl⟩; (have HYA : Hid (Y.heap[OB]? = some (b6 p0 false false q3 false false)) := by rw [hY]; exact (b6_set5 (b6_set1 HAx.out))); (have HYB : Hid (Below w1.heap.size w1 Y) := by rw [hY]; exact ((HB4.out.setCell (p := ⟨OB, 1, none⟩) (by have := HO.out; simp; omega) _).setCell (p := ⟨OB, 5, none⟩) (by have := HO.out; simp; omega) _)); rw [← hY]; clear hY o0 o1 o2 o3 o4 o5 z0 z1 z2 z3 z4 z5 u0 u1 u2 u3 u4 u5 x0 x1 x2 x3 x4 x5
                        go_roundg (SV.length - (k + 1))
                        case measure => have := HGr.out; have := HK3.out; omega
                        case rel => exact ⟨k + 1, HK3.out, rfl, by go_num, by rw [HN3.out, HR1.out, HR5.out]; simpa using HYA, HYB⟩
                  · have hkk : k = SV.length := by omega
                    subst hkk; (have hge : ¬ (SV.length : Int) < (SV.length : Int) := by omega); rw [List.take_length] at HA3; clear hlt hk; go_wp2_with fail; clear d1 d3; have HZA := HA3; have HZB := HB3; obtain ⟨s1, hs1⟩ : ∃ s, s = (q1 && SV.all GG) := ⟨_, rfl⟩; obtain ⟨s5, hs5⟩ : ∃ s, s = (q5 && SV.all GG) := ⟨_, rfl⟩; rw [← hs1] at HE1; rw [← hs5] at HE5; rw [← hs1, ← hs5] at HZA; clear hs1 hs5 HGG HA3 HB3 hge HX3 HV3c; (obtain ⟨GG, hGG⟩ : ∃ GG : Nat → Bool, GG = fun y => decide (y ∈ SV) := ⟨_, rfl⟩); (have HGG : Hid (∀ y, GG y = decide (y ∈ SV)) := fun y => by rw [hGG]); rw [← hGG] at HE3; clear hGG
                    go_loopg [9] SX.length (fun gg cc wr => ∃ k, k ≤ SX.length ∧ gg = SX.length - k ∧ cc = .int .i64 (k : Nat) ∧ Hid (wr.heap[OB]? = some (b6 p0 s1 false (q3 && (SX.take k).all GG) false s5)) ∧ Hid (Below w1.heap.size w1 wr))
                    case atStart => exact ⟨0, by omega, by omega, rfl, by simpa using HZA, HZB⟩
                    case round =>
                      obtain ⟨k, hk, hg, rfl, HA3, HB3⟩ := hrel; have HGr : Hid (gk = SX.length - k) := hg; clear hg; have HX3 : Hid (wr.cell? ⟨g, u, none⟩ = some (.slice (some ⟨bs, 0, none⟩) SX.length sc)) := (HB3.out.cell (lt_of_cell HC0.out)).trans HC0.out; have HV3c : Hid (wr.cell? ⟨g, nv, none⟩ = some (.slice va SV.length vc)) := (HB3.out.cell (lt_of_cell HV0.out)).trans HV0.out; have d1 := HX3.out; have d3 := HV3c.out; by_cases hlt : k < SX.length
                      · obtain ⟨ny, hny⟩ : ∃ v, SX[k]? = some v := ⟨_, List.getElem?_eq_getElem hlt⟩
                        have HNy : Hid (wr.cell? ⟨bs, k, none⟩ = some (.int .i64 (ny : Nat))) := (HB3.out.cell (lt_of_cell (HCs.out k ny hny))).trans (HCs.out k ny hny); (have hkI : (k : Int) < (SX.length : Int) := by omega); (have hkC : (k : Int) < (sc : Int) := by omega); have HK3 : Hid (k < SX.length) := hlt; (have HMb : Hid (∀ W, Below w1.heap.size w1 W → Calls Try.prog 44 #[(.slice va SV.length vc), .int .i64 (ny : Nat)] W fun e w' => e = .returned (.bool (GG ny)) ∧ w' = W) := fun W hb => by rw [HGG.out]; exact HMv.out W hb ny); (have HN3 : Hid ((SX.take (k + 1)).all GG = ((SX.take k).all GG && GG ny)) := by show _ = _; rw [List.take_add_one, hny]; simp); generalize GG ny = bb at HMb HN3; obtain ⟨r3, hr3⟩ : ∃ r, r = (q3 && (SX.take k).all GG) := ⟨_, rfl⟩; rw [← hr3] at HA3; (have HR3 : Hid ((q3 && ((SX.take k).all GG && bb)) = (r3 && bb)) := by show _ = _; rw [hr3, Bool.and_assoc]); clear hr3; clear hlt hk hny; go_wp2_with fail; clear d1 d3; (refine wp_region_free (by kernel_rfl) [fun v _ => v = (.slice (some ⟨g, 0, none⟩) N N), fun v _ => v = (.int .i64 (nv : Nat)), fun v _ => v = (.pointer (some ⟨g, nv, none⟩)), fun v _ => v = (.slice va SV.length vc), fun v _ => v = (.slice (some ⟨g, 0, none⟩) N N), fun v _ => v = (.int .i64 (u : Nat)), fun v _ => v = (.pointer (some ⟨g, u, none⟩)), fun v _ => v = (.slice (some ⟨bs, 0, none⟩) SX.length sc), fun v _ => v = (.int .i64 (k : Nat)), fun v _ => v = (.pointer (some ⟨bs, k, none⟩)), fun v _ => v = (.int .i64 (ny : Nat)), fun v _ => v = (.bool bb), fun v _ => v = (.bool (!bb))] ?_ (by kernel_rfl) (by kernel_rfl) 106 rfl (by kernel_rfl) ?_ ?_)
                        · intro p hp
                          simp only [List.mem_cons, List.not_mem_nil, or_false] at hp
                          rcases hp with rfl | rfl | rfl | rfl | rfl | rfl | rfl | rfl | rfl | rfl | rfl | rfl | rfl
                          · exact fun _ _ _ h _ => h
                          · exact fun _ _ _ h _ => h
                          · exact fun _ _ _ h _ => h
                          · exact fun _ _ _ h _ => h
                          · exact fun _ _ _ h _ => h
                          · exact fun _ _ _ h _ => h
                          · exact fun _ _ _ h _ => h
                          · exact fun _ _ _ h _ => h
                          · exact fun _ _ _ h _ => h
                          · exact fun _ _ _ h _ => h
                          · exact fun _ _ _ h _ => h
                          · exact fun _ _ _ h _ => h
                          · exact fun _ _ _ h _ => h
                        · refine ⟨?_, ?_, ?_, ?_, ?_, ?_, ?_, ?_, ?_, ?_, ?_, ?_, ?_, trivial⟩
                          · intro a wx hB hold hdep K hK
                            have t3 : a.tmps[3]? = some (.slice (some ⟨g, 0, none⟩) N N) := hold.2.2 3 rfl; clear hold hdep; go_simp; exact hK.out _ _ rfl (Below.refl _ _)
                          · intro a wx hB hold hdep K hK
                            have t7 : a.tmps[7]? = some (.int .i64 (nv : Nat)) := hold.2.2 7 rfl; clear hold hdep; go_simp; exact hK.out _ _ rfl (Below.refl _ _)
                          · intro a wx hB hold hdep K hK
                            obtain ⟨v91, t91, p91⟩ := hdep 0 rfl _ 91 rfl rfl; have e91 : v91 = (.slice (some ⟨g, 0, none⟩) N N) := p91; subst e91; obtain ⟨v92, t92, p92⟩ := hdep 1 rfl _ 92 rfl rfl; have e92 : v92 = (.int .i64 (nv : Nat)) := p92; subst e92; clear hold hdep; go_simp; exact hK.out _ _ rfl (Below.refl _ _)
                          · intro a wx hB hold hdep K hK
                            obtain ⟨v93, t93, p93⟩ := hdep 2 rfl _ 93 rfl rfl; have e93 : v93 = (.pointer (some ⟨g, nv, none⟩)) := p93; subst e93; have c9 := (hB.cell (lt_of_cell HV3c.out)).trans HV3c.out; clear hold hdep; go_simp; exact hK.out _ _ rfl (Below.refl _ _)
                          · intro a wx hB hold hdep K hK
                            have t3 : a.tmps[3]? = some (.slice (some ⟨g, 0, none⟩) N N) := hold.2.2 3 rfl; clear hold hdep; go_simp; exact hK.out _ _ rfl (Below.refl _ _)
                          · intro a wx hB hold hdep K hK
                            have t5 : a.tmps[5]? = some (.int .i64 (u : Nat)) := hold.2.2 5 rfl; clear hold hdep; go_simp; exact hK.out _ _ rfl (Below.refl _ _)
                          · intro a wx hB hold hdep K hK
                            obtain ⟨v95, t95, p95⟩ := hdep 4 rfl _ 95 rfl rfl; have e95 : v95 = (.slice (some ⟨g, 0, none⟩) N N) := p95; subst e95; obtain ⟨v96, t96, p96⟩ := hdep 5 rfl _ 96 rfl rfl; have e96 : v96 = (.int .i64 (u : Nat)) := p96; subst e96; clear hold hdep; go_simp; exact hK.out _ _ rfl (Below.refl _ _)
                          · intro a wx hB hold hdep K hK
                            obtain ⟨v97, t97, p97⟩ := hdep 6 rfl _ 97 rfl rfl; have e97 : v97 = (.pointer (some ⟨g, u, none⟩)) := p97; subst e97; have c9 := (hB.cell (lt_of_cell HX3.out)).trans HX3.out; clear hold hdep; go_simp; exact hK.out _ _ rfl (Below.refl _ _)
                          · intro a wx hB hold hdep K hK
                            have t9 : a.tmps[9]? = some (.int .i64 (k : Nat)) := hold.2.2 9 rfl; clear hold hdep; go_simp; exact hK.out _ _ rfl (Below.refl _ _)
                          · intro a wx hB hold hdep K hK
                            obtain ⟨v98, t98, p98⟩ := hdep 7 rfl _ 98 rfl rfl; have e98 : v98 = (.slice (some ⟨bs, 0, none⟩) SX.length sc) := p98; subst e98; obtain ⟨v99, t99, p99⟩ := hdep 8 rfl _ 99 rfl rfl; have e99 : v99 = (.int .i64 (k : Nat)) := p99; subst e99; clear hold hdep; go_simp; exact hK.out _ _ rfl (Below.refl _ _)
                          · intro a wx hB hold hdep K hK
                            obtain ⟨v100, t100, p100⟩ := hdep 9 rfl _ 100 rfl rfl; have e100 : v100 = (.pointer (some ⟨bs, k, none⟩)) := p100; subst e100; have c9 := (hB.cell (lt_of_cell HNy.out)).trans HNy.out; clear hold hdep; go_simp; exact hK.out _ _ rfl (Below.refl _ _)
                          · intro a wx hB hold hdep K hK
                            obtain ⟨v94, t94, p94⟩ := hdep 3 rfl _ 94 rfl rfl; have e94 : v94 = (.slice va SV.length vc) := p94; subst e94; obtain ⟨v101, t101, p101⟩ := hdep 10 rfl _ 101 rfl rfl; have e101 : v101 = (.int .i64 (ny : Nat)) := p101; subst e101; have HW : Hid (Calls Try.prog 44 #[(.slice va SV.length vc), .int .i64 (ny : Nat)] wx _) := HMb.out wx (below_join HB3.out hB); clear hold hdep; go_simp; refine HW.out.mono ?_; rintro _ w9 ⟨rfl, rfl⟩; go_simp; exact hK.out _ _ rfl (Below.refl _ _)
                          · intro a wx hB hold hdep K hK
                            obtain ⟨v102, t102, p102⟩ := hdep 11 rfl _ 102 rfl rfl; have e102 : v102 = (.bool bb) := p102; subst e102; clear hold hdep; go_simp; exact hK.out _ _ rfl (Below.refl _ _)
                        · intro a wx hB hold hgot
                          obtain ⟨vS, tvS, pvS⟩ := hgot 12 _ 103 rfl rfl; have evS : vS = (.bool (!bb)) := pvS; subst evS; have HBx : Hid (Below wr.heap.size wr wx) := hB; have HAx : Hid (wx.heap[OB]? = some (b6 p0 s1 false r3 false s5)) := below_keep hB HA3.out; have HB4 : Hid (Below w1.heap.size w1 wx) := below_join HB3.out hB; obtain ⟨tm, df⟩ := a; (obtain ⟨ys, hys, htm, rfl⟩ := frame_mid2 91 13 (by kernel_rfl) (Nat.le_of_ble_eq_true rfl) hold); obtain ⟨x91, x92, x93, x94, x95, x96, x97, x98, x99, x100, x101, x102, x103, rfl⟩ := rowS13 ys hys; simp only [List.take_succ_cons, List.take_zero, List.drop_succ_cons, List.drop_zero, List.cons_append, List.nil_append] at htm; subst htm; obtain rfl : x103 = _ := someInjM tvS; clear hys hold hgot tvS hB HB3 HA3
                          cases bb with
                          | true =>
                            go_wp2_with fail
                            go_roundg (SX.length - (k + 1))
                            case measure => have := HGr.out; have := HK3.out; omega
                            case rel => exact ⟨k + 1, HK3.out, rfl, by go_num, by rw [HN3.out, HR3.out]; simpa using HAx, HB4⟩
                          | false =>
                            obtain ⟨⟨o0, o1, o2, o3, o4, o5⟩, z0, z1, z2, z3, z4, z5⟩ := b6_cells HAx.out; go_wp2_with fail; obtain ⟨Y, hY⟩ : ∃ Y, Y = (wx.setCell ⟨OB, 3, none⟩ (.bool false)) := ⟨_, rfl⟩; (have HYA : Hid (Y.heap[OB]? = some (b6 p0 s1 false false false s5)) := by rw [hY]; exact (b6_set3 HAx.out)); (have HYB : Hid (Below w1.heap.size w1 Y) := by rw [hY]; exact (HB4.out.setCell (p := ⟨OB, 3, none⟩) (by have := HO.out; simp; omega) _)); rw [← hY]; clear hY o0 o1 o2 o3 o4 o5 z0 z1 z2 z3 z4 z5
                            go_roundg (SX.length - (k + 1))
                            case measure => have := HGr.out; have := HK3.out; omega
                            case rel => exact ⟨k + 1, HK3.out, rfl, by go_num, by rw [HN3.out, HR3.out]; simpa using HYA, HYB⟩
                      · have hkk : k = SX.length := by omega
                        subst hkk; (have hge : ¬ (SX.length : Int) < (SX.length : Int) := by omega); rw [List.take_length] at HA3; clear hlt hk; go_wp2_with fail
                        go_roundg (SX.length - (i + 1))
                        case measure => have := HGq.out; have := HI.out; omega
                        case rel => exact ⟨i + 1, HI.out, rfl, by go_num, by rw [HE1.out, HE2.out, HE3.out, HE5.out]; simpa using HA3, HB3⟩
            · have hii : i = SX.length := by omega
              subst hii; (have hge : ¬ (SX.length : Int) < (SX.length : Int) := by omega); rw [List.take_length] at HA2; clear hlt hi; go_wp2_with fail
              go_roundg (N - (u + 1))
              case measure => have := HGk.out; have := HU.out; omega
              case rel => exact ⟨u + 1, HU.out, rfl, by go_num, by rw [HG0.out, HG1.out, HG2.out, HG3.out, HH4.out, HG5.out]; simpa using HA2, HB2⟩
        · have hzI : ¬ (SX.length : Int) = 0 := by omega
          (have hz2 : (((SX.length : Nat) : Int) == 0) = false := by rw [beq_eq_false_iff_ne]; exact hzI); (have HH4 : Hid (a4S S (u + 1) = p4) := by show _ = _; rw [HG4.out]; simp [hz]); clear hz; go_wp2_with fail; clear hzI hz2; have HZA := HYA; have HZB := HYB; clear hY o0 o1 o2 o3 o4 o5 z0 z1 z2 z3 z4 z5 y0 y1 y2 y3 y4 y5 v0 v1 v2 v3 v4 v5 dY d0 m0 m1 m2 HA HYA HYB HB HMx
          go_loopg [6] SX.length (fun gg cc wr => ∃ i, i ≤ SX.length ∧ gg = SX.length - i ∧ cc = .int .i64 (i : Nat) ∧ Hid (wr.heap[OB]? = some (b6 p0 (p1 && (SX.take i).all D1) (p2 && (SX.take i).all D2) (p3 && (SX.take i).all D3) p4 (false && (SX.take i).all D1))) ∧ Hid (Below w1.heap.size w1 wr))
          case atStart => exact ⟨0, by omega, by omega, rfl, by simpa using HZA, HZB⟩
          case round =>
            obtain ⟨i, hi, hg, rfl, HA2, HB2⟩ := hrel; have HGq : Hid (gk = SX.length - i) := hg; clear hg HZA HZB; have d1 := (HB2.out.cell (lt_of_cell HC0.out)).trans HC0.out; by_cases hlt : i < SX.length
            · obtain ⟨nv, hv⟩ : ∃ v, SX[i]? = some v := ⟨_, List.getElem?_eq_getElem hlt⟩
              (obtain ⟨bs, rfl, hcs⟩ := HC3.out (by omega)); have HCs : Hid (∀ (j k : Nat), SX[j]? = some k → w1.cell? ⟨bs, j, none⟩ = some (.int .i64 (k : Nat))) := hcs; have d2 := (HB2.out.cell (lt_of_cell (hcs i nv hv))).trans (hcs i nv hv); have hvN : nv < N := HSmu.out nv (List.mem_of_getElem? hv); (have hvI : (nv : Int) < (N : Int) := by omega); (have hiI : (i : Int) < (SX.length : Int) := by omega); (have hiC : (i : Int) < (sc : Int) := by omega); have HI : Hid (i < SX.length) := hlt; obtain ⟨va, vc, r0, r1, r3⟩ := HRow.out nv hvN; (have HMv : Hid (∀ W, Below w1.heap.size w1 W → ∀ x : Nat, Calls Try.prog 44 #[.slice va (S nv).length vc, .int .i64 (x : Nat)] W fun e w' => e = .returned (.bool (decide (x ∈ S nv))) ∧ w' = W) := fun W hb x => memberOf_any (S nv) x (HSl.out nv) _ W (NRow.up ⟨va, vc, rfl, r1, r3⟩ hb (Nat.le_refl _))); have hvl := HSl.out nv; (have E1 : (SX.take (i + 1)).all D1 = ((SX.take i).all D1 && (S nv).all fun y => decide (y ∈ SX)) := by rw [List.take_add_one, hv, List.all_append, ← HD1.out nv]; simp); (have E2 : (SX.take (i + 1)).all D2 = ((SX.take i).all D2 && decide (u ∈ S nv)) := by rw [List.take_add_one, hv, List.all_append, ← HD2.out nv]; simp); (have E3 : (SX.take (i + 1)).all D3 = ((SX.take i).all D3 && SX.all fun y => decide (y ∈ S nv)) := by rw [List.take_add_one, hv, List.all_append, ← HD3.out nv]; simp); obtain ⟨SV, hSV⟩ : ∃ SV, SV = S nv := ⟨_, rfl⟩; rw [← hSV] at r0 r1 r3 HMv hvl E1 E2 E3; clear hSV; obtain ⟨q1, hq1⟩ : ∃ q, q = (p1 && (SX.take i).all D1) := ⟨_, rfl⟩; obtain ⟨q2, hq2⟩ : ∃ q, q = (p2 && (SX.take i).all D2) := ⟨_, rfl⟩; obtain ⟨q3, hq3⟩ : ∃ q, q = (p3 && (SX.take i).all D3) := ⟨_, rfl⟩; obtain ⟨q5, hq5⟩ : ∃ q, q = (false && (SX.take i).all D1) := ⟨_, rfl⟩; rw [← hq1, ← hq2, ← hq3, ← hq5] at HA2; (have HE1 : Hid ((p1 && (SX.take (i + 1)).all D1) = (q1 && SV.all fun y => decide (y ∈ SX))) := by show _ = _; rw [E1, hq1, Bool.and_assoc]); (have HE2 : Hid ((p2 && (SX.take (i + 1)).all D2) = (q2 && decide (u ∈ SV))) := by show _ = _; rw [E2, hq2, Bool.and_assoc]); (have HE3 : Hid ((p3 && (SX.take (i + 1)).all D3) = (q3 && SX.all fun y => decide (y ∈ SV))) := by show _ = _; rw [E3, hq3, Bool.and_assoc]); (have HE5 : Hid ((false && (SX.take (i + 1)).all D1) = (q5 && SV.all fun y => decide (y ∈ SX))) := by show _ = _; rw [E1, hq5, Bool.and_assoc]); obtain ⟨z, hz⟩ : ∃ z, z = decide (u ∈ SV) := ⟨_, rfl⟩; (have HMz : Hid (Calls Try.prog 44 #[.slice va SV.length vc, .int .i64 (u : Nat)] wr fun e w' => e = .returned (.bool z) ∧ w' = wr) := by rw [hz]; exact HMv.out wr HB2.out u); rw [← hz] at HE2; (have hvlI : (SV.length : Int) ≤ 40 := by omega); (have hvcI : (SV.length : Int) ≤ (vc : Int) := by omega); have HV0 : Hid (w1.cell? ⟨g, nv, none⟩ = some (.slice va SV.length vc)) := r0; have HV3 : Hid (0 < SV.length → ∃ b, va = some ⟨b, 0, none⟩ ∧ ∀ (j k : Nat), SV[j]? = some k → w1.cell? ⟨b, j, none⟩ = some (.int .i64 (k : Nat))) := r3; have d3 := (HB2.out.cell (lt_of_cell HV0.out)).trans HV0.out; clear hz hq1 hq2 hq3 hq5 E1 E2 E3 r0 r1 r3 hvl hlt hi hv hcs hvN; go_wp2_with fail; refine HMz.out.mono ?_; rintro _ w9 ⟨rfl, e9⟩
              replace e9 := e9.symm
              subst e9; clear HMz
              cases z with
              | true =>
                go_wp2_with fail; clear d1 d2 d3; have HZA := HA2; have HZB := HB2; clear HA2 HB2; (obtain ⟨GG, hGG⟩ : ∃ GG : Nat → Bool, GG = fun y => decide (y ∈ SX) := ⟨_, rfl⟩); (have HGG : Hid (∀ y, GG y = decide (y ∈ SX)) := fun y => by rw [hGG]); rw [← hGG] at HE1 HE5; clear hGG
                go_loopg [8] SV.length (fun gg cc wr => ∃ k, k ≤ SV.length ∧ gg = SV.length - k ∧ cc = .int .i64 (k : Nat) ∧ Hid (wr.heap[OB]? = some (b6 p0 (q1 && (SV.take k).all GG) q2 q3 p4 (q5 && (SV.take k).all GG))) ∧ Hid (Below w1.heap.size w1 wr))
                case atStart => exact ⟨0, by omega, by omega, rfl, by simpa using HZA, HZB⟩
                case round =>
                  obtain ⟨k, hk, hg, rfl, HA3, HB3⟩ := hrel; have HGr : Hid (gk = SV.length - k) := hg; clear hg; have HX3 : Hid (wr.cell? ⟨g, u, none⟩ = some (.slice (some ⟨bs, 0, none⟩) SX.length sc)) := (HB3.out.cell (lt_of_cell HC0.out)).trans HC0.out; have HV3c : Hid (wr.cell? ⟨g, nv, none⟩ = some (.slice va SV.length vc)) := (HB3.out.cell (lt_of_cell HV0.out)).trans HV0.out; have d1 := HX3.out; have d3 := HV3c.out; by_cases hlt : k < SV.length
                  · obtain ⟨ny, hny⟩ : ∃ v, SV[k]? = some v := ⟨_, List.getElem?_eq_getElem hlt⟩
                    (obtain ⟨bv, rfl, hcv⟩ := HV3.out (by omega)); have HNy : Hid (wr.cell? ⟨bv, k, none⟩ = some (.int .i64 (ny : Nat))) := (HB3.out.cell (lt_of_cell (hcv k ny hny))).trans (hcv k ny hny); clear hcv; (have hkI : (k : Int) < (SV.length : Int) := by omega); (have hkC : (k : Int) < (vc : Int) := by omega); have HK3 : Hid (k < SV.length) := hlt; (have HMb : Hid (∀ W, Below w1.heap.size w1 W → Calls Try.prog 44 #[(.slice (some ⟨bs, 0, none⟩) SX.length sc), .int .i64 (ny : Nat)] W fun e w' => e = .returned (.bool (GG ny)) ∧ w' = W) := fun W hb => by rw [HGG.out]; exact HMe.out W hb ny); (have HN3 : Hid ((SV.take (k + 1)).all GG = ((SV.take k).all GG && GG ny)) := by show _ = _; rw [List.take_add_one, hny]; simp); generalize GG ny = bb at HMb HN3; obtain ⟨r1, hr1⟩ : ∃ r, r = (q1 && (SV.take k).all GG) := ⟨_, rfl⟩; obtain ⟨r5, hr5⟩ : ∃ r, r = (q5 && (SV.take k).all GG) := ⟨_, rfl⟩; rw [← hr1, ← hr5] at HA3; (have HR1 : Hid ((q1 && ((SV.take k).all GG && bb)) = (r1 && bb)) := by show _ = _; rw [hr1, Bool.and_assoc]); (have HR5 : Hid ((q5 && ((SV.take k).all GG && bb)) = (r5 && bb)) := by show _ = _; rw [hr5, Bool.and_assoc]); clear hr1 hr5; clear hlt hk hny; go_wp2_with fail; clear d1 d3; (refine wp_region_free (by kernel_rfl) [fun v _ => v = (.slice (some ⟨g, 0, none⟩) N N), fun v _ => v = (.int .i64 (u : Nat)), fun v _ => v = (.pointer (some ⟨g, u, none⟩)), fun v _ => v = (.slice (some ⟨bs, 0, none⟩) SX.length sc), fun v _ => v = (.slice (some ⟨g, 0, none⟩) N N), fun v _ => v = (.int .i64 (nv : Nat)), fun v _ => v = (.pointer (some ⟨g, nv, none⟩)), fun v _ => v = (.slice (some ⟨bv, 0, none⟩) SV.length vc), fun v _ => v = (.int .i64 (k : Nat)), fun v _ => v = (.pointer (some ⟨bv, k, none⟩)), fun v _ => v = (.int .i64 (ny : Nat)), fun v _ => v = (.bool bb), fun v _ => v = (.bool (!bb))] ?_ (by kernel_rfl) (by kernel_rfl) 106 rfl (by kernel_rfl) ?_ ?_)
                    · intro p hp
                      simp only [List.mem_cons, List.not_mem_nil, or_false] at hp
                      rcases hp with rfl | rfl | rfl | rfl | rfl | rfl | rfl | rfl | rfl | rfl | rfl | rfl | rfl
                      · exact fun _ _ _ h _ => h
                      · exact fun _ _ _ h _ => h
                      · exact fun _ _ _ h _ => h
                      · exact fun _ _ _ h _ => h
                      · exact fun _ _ _ h _ => h
                      · exact fun _ _ _ h _ => h
                      · exact fun _ _ _ h _ => h
                      · exact fun _ _ _ h _ => h
                      · exact fun _ _ _ h _ => h
                      · exact fun _ _ _ h _ => h
                      · exact fun _ _ _ h _ => h
                      · exact fun _ _ _ h _ => h
                      · exact fun _ _ _ h _ => h
                    · refine ⟨?_, ?_, ?_, ?_, ?_, ?_, ?_, ?_, ?_, ?_, ?_, ?_, ?_, trivial⟩
                      · intro a wx hB hold hdep K hK
                        have t3 : a.tmps[3]? = some (.slice (some ⟨g, 0, none⟩) N N) := hold.2.2 3 rfl; clear hold hdep; go_simp; exact hK.out _ _ rfl (Below.refl _ _)
                      · intro a wx hB hold hdep K hK
                        have t5 : a.tmps[5]? = some (.int .i64 (u : Nat)) := hold.2.2 5 rfl; clear hold hdep; go_simp; exact hK.out _ _ rfl (Below.refl _ _)
                      · intro a wx hB hold hdep K hK
                        obtain ⟨v67, t67, p67⟩ := hdep 0 rfl _ 67 rfl rfl; have e67 : v67 = (.slice (some ⟨g, 0, none⟩) N N) := p67; subst e67; obtain ⟨v68, t68, p68⟩ := hdep 1 rfl _ 68 rfl rfl; have e68 : v68 = (.int .i64 (u : Nat)) := p68; subst e68; clear hold hdep; go_simp; exact hK.out _ _ rfl (Below.refl _ _)
                      · intro a wx hB hold hdep K hK
                        obtain ⟨v69, t69, p69⟩ := hdep 2 rfl _ 69 rfl rfl; have e69 : v69 = (.pointer (some ⟨g, u, none⟩)) := p69; subst e69; have c9 := (hB.cell (lt_of_cell HX3.out)).trans HX3.out; clear hold hdep; go_simp; exact hK.out _ _ rfl (Below.refl _ _)
                      · intro a wx hB hold hdep K hK
                        have t3 : a.tmps[3]? = some (.slice (some ⟨g, 0, none⟩) N N) := hold.2.2 3 rfl; clear hold hdep; go_simp; exact hK.out _ _ rfl (Below.refl _ _)
                      · intro a wx hB hold hdep K hK
                        have t7 : a.tmps[7]? = some (.int .i64 (nv : Nat)) := hold.2.2 7 rfl; clear hold hdep; go_simp; exact hK.out _ _ rfl (Below.refl _ _)
                      · intro a wx hB hold hdep K hK
                        obtain ⟨v71, t71, p71⟩ := hdep 4 rfl _ 71 rfl rfl; have e71 : v71 = (.slice (some ⟨g, 0, none⟩) N N) := p71; subst e71; obtain ⟨v72, t72, p72⟩ := hdep 5 rfl _ 72 rfl rfl; have e72 : v72 = (.int .i64 (nv : Nat)) := p72; subst e72; clear hold hdep; go_simp; exact hK.out _ _ rfl (Below.refl _ _)
                      · intro a wx hB hold hdep K hK
                        obtain ⟨v73, t73, p73⟩ := hdep 6 rfl _ 73 rfl rfl; have e73 : v73 = (.pointer (some ⟨g, nv, none⟩)) := p73; subst e73; have c9 := (hB.cell (lt_of_cell HV3c.out)).trans HV3c.out; clear hold hdep; go_simp; exact hK.out _ _ rfl (Below.refl _ _)
                      · intro a wx hB hold hdep K hK
                        have t8 : a.tmps[8]? = some (.int .i64 (k : Nat)) := hold.2.2 8 rfl; clear hold hdep; go_simp; exact hK.out _ _ rfl (Below.refl _ _)
                      · intro a wx hB hold hdep K hK
                        obtain ⟨v74, t74, p74⟩ := hdep 7 rfl _ 74 rfl rfl; have e74 : v74 = (.slice (some ⟨bv, 0, none⟩) SV.length vc) := p74; subst e74; obtain ⟨v75, t75, p75⟩ := hdep 8 rfl _ 75 rfl rfl; have e75 : v75 = (.int .i64 (k : Nat)) := p75; subst e75; clear hold hdep; go_simp; exact hK.out _ _ rfl (Below.refl _ _)
                      · intro a wx hB hold hdep K hK
                        obtain ⟨v76, t76, p76⟩ := hdep 9 rfl _ 76 rfl rfl; have e76 : v76 = (.pointer (some ⟨bv, k, none⟩)) := p76; subst e76; have c9 := (hB.cell (lt_of_cell HNy.out)).trans HNy.out; clear hold hdep; go_simp; exact hK.out _ _ rfl (Below.refl _ _)
                      · intro a wx hB hold hdep K hK
                        obtain ⟨v70, t70, p70⟩ := hdep 3 rfl _ 70 rfl rfl; have e70 : v70 = (.slice (some ⟨bs, 0, none⟩) SX.length sc) := p70; subst e70; obtain ⟨v77, t77, p77⟩ := hdep 10 rfl _ 77 rfl rfl; have e77 : v77 = (.int .i64 (ny : Nat)) := p77; subst e77; have HW : Hid (Calls Try.prog 44 #[(.slice (some ⟨bs, 0, none⟩) SX.length sc), .int .i64 (ny : Nat)] wx _) := HMb.out wx (below_join HB3.out hB); clear hold hdep; go_simp; refine HW.out.mono ?_; rintro _ w9 ⟨rfl, rfl⟩; go_simp; exact hK.out _ _ rfl (Below.refl _ _)
                      · intro a wx hB hold hdep K hK
                        obtain ⟨v78, t78, p78⟩ := hdep 11 rfl _ 78 rfl rfl; have e78 : v78 = (.bool bb) := p78; subst e78; clear hold hdep; go_simp; exact hK.out _ _ rfl (Below.refl _ _)
                    · intro a wx hB hold hgot
                      obtain ⟨vS, tvS, pvS⟩ := hgot 12 _ 79 rfl rfl; have evS : vS = (.bool (!bb)) := pvS; subst evS; have HBx : Hid (Below wr.heap.size wr wx) := hB; have HAx : Hid (wx.heap[OB]? = some (b6 p0 r1 q2 q3 p4 r5)) := below_keep hB HA3.out; have HB4 : Hid (Below w1.heap.size w1 wx) := below_join HB3.out hB; obtain ⟨tm, df⟩ := a; (obtain ⟨ys, hys, htm, rfl⟩ := frame_mid2 67 13 (by kernel_rfl) (Nat.le_of_ble_eq_true rfl) hold); obtain ⟨x67, x68, x69, x70, x71, x72, x73, x74, x75, x76, x77, x78, x79, rfl⟩ := rowS13 ys hys; simp only [List.take_succ_cons, List.take_zero, List.drop_succ_cons, List.drop_zero, List.cons_append, List.nil_append] at htm; subst htm; obtain rfl : x79 = _ := someInjM tvS; clear hys hold hgot tvS hB HB3 HA3
                      cases bb with
                      | true =>
                        go_wp2_with fail
                        go_roundg (SV.length - (k + 1))
                        case measure => have := HGr.out; have := HK3.out; omega
                        case rel => exact ⟨k + 1, HK3.out, rfl, by go_num, by rw [HN3.out, HR1.out, HR5.out]; simpa using HAx, HB4⟩
                      | false =>
                        obtain ⟨⟨o0, o1, o2, o3, o4, o5⟩, z0, z1, z2, z3, z4, z5⟩ := b6_cells HAx.out; have q9 := b6_cells (b6_set1 HAx.out); obtain ⟨⟨u0, u1, u2, u3, u4, u5⟩, x0, x1, x2, x3, x4, x5⟩ := q9; go_wp2_with fail; obtain ⟨Y, hY⟩ : ∃ Y, Y = ((wx.setCell ⟨OB, 1, none⟩ (.bool false)).setCell ⟨OB, 5, none⟩ (.bool false)) := ⟨_, rfl⟩; (have HYA : Hid (Y.heap[OB]? = some (b6 p0 false q2 q3 p4 false)) := by rw [hY]; exact (b6_set5 (b6_set1 HAx.out))); (have HYB : Hid (Below w1.heap.size w1 Y) := by rw [hY]; exact ((HB4.out.setCell (p := ⟨OB, 1, none⟩) (by have := HO.out; simp; omega) _).setCell (p := ⟨OB, 5, none⟩) (by have := HO.out; simp; omega) _)); rw [← hY]; clear hY o0 o1 o2 o3 o4 o5 z0 z1 z2 z3 z4 z5 u0 u1 u2 u3 u4 u5 x0 x1 x2 x3 x4 x5
                        go_roundg (SV.length - (k + 1))
                        case measure => have := HGr.out; have := HK3.out; omega
                        case rel => exact ⟨k + 1, HK3.out, rfl, by go_num, by rw [HN3.out, HR1.out, HR5.out]; simpa using HYA, HYB⟩
                  · have hkk : k = SV.length := by omega
                    subst hkk; (have hge : ¬ (SV.length : Int) < (SV.length : Int) := by omega); rw [List.take_length] at HA3; clear hlt hk; go_wp2_with fail; clear d1 d3; have HZA := HA3; have HZB := HB3; obtain ⟨s1, hs1⟩ : ∃ s, s = (q1 && SV.all GG) := ⟨_, rfl⟩; obtain ⟨s5, hs5⟩ : ∃ s, s = (q5 && SV.all GG) := ⟨_, rfl⟩; rw [← hs1] at HE1; rw [← hs5] at HE5; rw [← hs1, ← hs5] at HZA; clear hs1 hs5 HGG HA3 HB3 hge HX3 HV3c; (obtain ⟨GG, hGG⟩ : ∃ GG : Nat → Bool, GG = fun y => decide (y ∈ SV) := ⟨_, rfl⟩); (have HGG : Hid (∀ y, GG y = decide (y ∈ SV)) := fun y => by rw [hGG]); rw [← hGG] at HE3; clear hGG
                    go_loopg [9] SX.length (fun gg cc wr => ∃ k, k ≤ SX.length ∧ gg = SX.length - k ∧ cc = .int .i64 (k : Nat) ∧ Hid (wr.heap[OB]? = some (b6 p0 s1 q2 (q3 && (SX.take k).all GG) p4 s5)) ∧ Hid (Below w1.heap.size w1 wr))
                    case atStart => exact ⟨0, by omega, by omega, rfl, by simpa using HZA, HZB⟩
                    case round =>
                      obtain ⟨k, hk, hg, rfl, HA3, HB3⟩ := hrel; have HGr : Hid (gk = SX.length - k) := hg; clear hg; have HX3 : Hid (wr.cell? ⟨g, u, none⟩ = some (.slice (some ⟨bs, 0, none⟩) SX.length sc)) := (HB3.out.cell (lt_of_cell HC0.out)).trans HC0.out; have HV3c : Hid (wr.cell? ⟨g, nv, none⟩ = some (.slice va SV.length vc)) := (HB3.out.cell (lt_of_cell HV0.out)).trans HV0.out; have d1 := HX3.out; have d3 := HV3c.out; by_cases hlt : k < SX.length
                      · obtain ⟨ny, hny⟩ : ∃ v, SX[k]? = some v := ⟨_, List.getElem?_eq_getElem hlt⟩
                        have HNy : Hid (wr.cell? ⟨bs, k, none⟩ = some (.int .i64 (ny : Nat))) := (HB3.out.cell (lt_of_cell (HCs.out k ny hny))).trans (HCs.out k ny hny); (have hkI : (k : Int) < (SX.length : Int) := by omega); (have hkC : (k : Int) < (sc : Int) := by omega); have HK3 : Hid (k < SX.length) := hlt; (have HMb : Hid (∀ W, Below w1.heap.size w1 W → Calls Try.prog 44 #[(.slice va SV.length vc), .int .i64 (ny : Nat)] W fun e w' => e = .returned (.bool (GG ny)) ∧ w' = W) := fun W hb => by rw [HGG.out]; exact HMv.out W hb ny); (have HN3 : Hid ((SX.take (k + 1)).all GG = ((SX.take k).all GG && GG ny)) := by show _ = _; rw [List.take_add_one, hny]; simp); generalize GG ny = bb at HMb HN3; obtain ⟨r3, hr3⟩ : ∃ r, r = (q3 && (SX.take k).all GG) := ⟨_, rfl⟩; rw [← hr3] at HA3; (have HR3 : Hid ((q3 && ((SX.take k).all GG && bb)) = (r3 && bb)) := by show _ = _; rw [hr3, Bool.and_assoc]); clear hr3; clear hlt hk hny; go_wp2_with fail; clear d1 d3; (refine wp_region_free (by kernel_rfl) [fun v _ => v = (.slice (some ⟨g, 0, none⟩) N N), fun v _ => v = (.int .i64 (nv : Nat)), fun v _ => v = (.pointer (some ⟨g, nv, none⟩)), fun v _ => v = (.slice va SV.length vc), fun v _ => v = (.slice (some ⟨g, 0, none⟩) N N), fun v _ => v = (.int .i64 (u : Nat)), fun v _ => v = (.pointer (some ⟨g, u, none⟩)), fun v _ => v = (.slice (some ⟨bs, 0, none⟩) SX.length sc), fun v _ => v = (.int .i64 (k : Nat)), fun v _ => v = (.pointer (some ⟨bs, k, none⟩)), fun v _ => v = (.int .i64 (ny : Nat)), fun v _ => v = (.bool bb), fun v _ => v = (.bool (!bb))] ?_ (by kernel_rfl) (by kernel_rfl) 106 rfl (by kernel_rfl) ?_ ?_)
                        · intro p hp
                          simp only [List.mem_cons, List.not_mem_nil, or_false] at hp
                          rcases hp with rfl | rfl | rfl | rfl | rfl | rfl | rfl | rfl | rfl | rfl | rfl | rfl | rfl
                          · exact fun _ _ _ h _ => h
                          · exact fun _ _ _ h _ => h
                          · exact fun _ _ _ h _ => h
                          · exact fun _ _ _ h _ => h
                          · exact fun _ _ _ h _ => h
                          · exact fun _ _ _ h _ => h
                          · exact fun _ _ _ h _ => h
                          · exact fun _ _ _ h _ => h
                          · exact fun _ _ _ h _ => h
                          · exact fun _ _ _ h _ => h
                          · exact fun _ _ _ h _ => h
                          · exact fun _ _ _ h _ => h
                          · exact fun _ _ _ h _ => h
                        · refine ⟨?_, ?_, ?_, ?_, ?_, ?_, ?_, ?_, ?_, ?_, ?_, ?_, ?_, trivial⟩
                          · intro a wx hB hold hdep K hK
                            have t3 : a.tmps[3]? = some (.slice (some ⟨g, 0, none⟩) N N) := hold.2.2 3 rfl; clear hold hdep; go_simp; exact hK.out _ _ rfl (Below.refl _ _)
                          · intro a wx hB hold hdep K hK
                            have t7 : a.tmps[7]? = some (.int .i64 (nv : Nat)) := hold.2.2 7 rfl; clear hold hdep; go_simp; exact hK.out _ _ rfl (Below.refl _ _)
                          · intro a wx hB hold hdep K hK
                            obtain ⟨v91, t91, p91⟩ := hdep 0 rfl _ 91 rfl rfl; have e91 : v91 = (.slice (some ⟨g, 0, none⟩) N N) := p91; subst e91; obtain ⟨v92, t92, p92⟩ := hdep 1 rfl _ 92 rfl rfl; have e92 : v92 = (.int .i64 (nv : Nat)) := p92; subst e92; clear hold hdep; go_simp; exact hK.out _ _ rfl (Below.refl _ _)
                          · intro a wx hB hold hdep K hK
                            obtain ⟨v93, t93, p93⟩ := hdep 2 rfl _ 93 rfl rfl; have e93 : v93 = (.pointer (some ⟨g, nv, none⟩)) := p93; subst e93; have c9 := (hB.cell (lt_of_cell HV3c.out)).trans HV3c.out; clear hold hdep; go_simp; exact hK.out _ _ rfl (Below.refl _ _)
                          · intro a wx hB hold hdep K hK
                            have t3 : a.tmps[3]? = some (.slice (some ⟨g, 0, none⟩) N N) := hold.2.2 3 rfl; clear hold hdep; go_simp; exact hK.out _ _ rfl (Below.refl _ _)
                          · intro a wx hB hold hdep K hK
                            have t5 : a.tmps[5]? = some (.int .i64 (u : Nat)) := hold.2.2 5 rfl; clear hold hdep; go_simp; exact hK.out _ _ rfl (Below.refl _ _)
                          · intro a wx hB hold hdep K hK
                            obtain ⟨v95, t95, p95⟩ := hdep 4 rfl _ 95 rfl rfl; have e95 : v95 = (.slice (some ⟨g, 0, none⟩) N N) := p95; subst e95; obtain ⟨v96, t96, p96⟩ := hdep 5 rfl _ 96 rfl rfl; have e96 : v96 = (.int .i64 (u : Nat)) := p96; subst e96; clear hold hdep; go_simp; exact hK.out _ _ rfl (Below.refl _ _)
                          · intro a wx hB hold hdep K hK
                            obtain ⟨v97, t97, p97⟩ := hdep 6 rfl _ 97 rfl rfl; have e97 : v97 = (.pointer (some ⟨g, u, none⟩)) := p97; subst e97; have c9 := (hB.cell (lt_of_cell HX3.out)).trans HX3.out; clear hold hdep; go_simp; exact hK.out _ _ rfl (Below.refl _ _)
                          · intro a wx hB hold hdep K hK
                            have t9 : a.tmps[9]? = some (.int .i64 (k : Nat)) := hold.2.2 9 rfl; clear hold hdep; go_simp; exact hK.out _ _ rfl (Below.refl _ _)
                          · intro a wx hB hold hdep K hK
                            obtain ⟨v98, t98, p98⟩ := hdep 7 rfl _ 98 rfl rfl; have e98 : v98 = (.slice (some ⟨bs, 0, none⟩) SX.length sc) := p98; subst e98; obtain ⟨v99, t99, p99⟩ := hdep 8 rfl _ 99 rfl rfl; have e99 : v99 = (.int .i64 (k : Nat)) := p99; subst e99; clear hold hdep; go_simp; exact hK.out _ _ rfl (Below.refl _ _)
                          · intro a wx hB hold hdep K hK
                            obtain ⟨v100, t100, p100⟩ := hdep 9 rfl _ 100 rfl rfl; have e100 : v100 = (.pointer (some ⟨bs, k, none⟩)) := p100; subst e100; have c9 := (hB.cell (lt_of_cell HNy.out)).trans HNy.out; clear hold hdep; go_simp; exact hK.out _ _ rfl (Below.refl _ _)
                          · intro a wx hB hold hdep K hK
                            obtain ⟨v94, t94, p94⟩ := hdep 3 rfl _ 94 rfl rfl; have e94 : v94 = (.slice va SV.length vc) := p94; subst e94; obtain ⟨v101, t101, p101⟩ := hdep 10 rfl _ 101 rfl rfl; have e101 : v101 = (.int .i64 (ny : Nat)) := p101; subst e101; have HW : Hid (Calls Try.prog 44 #[(.slice va SV.length vc), .int .i64 (ny : Nat)] wx _) := HMb.out wx (below_join HB3.out hB); clear hold hdep; go_simp; refine HW.out.mono ?_; rintro _ w9 ⟨rfl, rfl⟩; go_simp; exact hK.out _ _ rfl (Below.refl _ _)
                          · intro a wx hB hold hdep K hK
                            obtain ⟨v102, t102, p102⟩ := hdep 11 rfl _ 102 rfl rfl; have e102 : v102 = (.bool bb) := p102; subst e102; clear hold hdep; go_simp; exact hK.out _ _ rfl (Below.refl _ _)
                        · intro a wx hB hold hgot
                          obtain ⟨vS, tvS, pvS⟩ := hgot 12 _ 103 rfl rfl; have evS : vS = (.bool (!bb)) := pvS; subst evS; have HBx : Hid (Below wr.heap.size wr wx) := hB; have HAx : Hid (wx.heap[OB]? = some (b6 p0 s1 q2 r3 p4 s5)) := below_keep hB HA3.out; have HB4 : Hid (Below w1.heap.size w1 wx) := below_join HB3.out hB; obtain ⟨tm, df⟩ := a; (obtain ⟨ys, hys, htm, rfl⟩ := frame_mid2 91 13 (by kernel_rfl) (Nat.le_of_ble_eq_true rfl) hold); obtain ⟨x91, x92, x93, x94, x95, x96, x97, x98, x99, x100, x101, x102, x103, rfl⟩ := rowS13 ys hys; simp only [List.take_succ_cons, List.take_zero, List.drop_succ_cons, List.drop_zero, List.cons_append, List.nil_append] at htm; subst htm; obtain rfl : x103 = _ := someInjM tvS; clear hys hold hgot tvS hB HB3 HA3
                          cases bb with
                          | true =>
                            go_wp2_with fail
                            go_roundg (SX.length - (k + 1))
                            case measure => have := HGr.out; have := HK3.out; omega
                            case rel => exact ⟨k + 1, HK3.out, rfl, by go_num, by rw [HN3.out, HR3.out]; simpa using HAx, HB4⟩
                          | false =>
                            obtain ⟨⟨o0, o1, o2, o3, o4, o5⟩, z0, z1, z2, z3, z4, z5⟩ := b6_cells HAx.out; go_wp2_with fail; obtain ⟨Y, hY⟩ : ∃ Y, Y = (wx.setCell ⟨OB, 3, none⟩ (.bool false)) := ⟨_, rfl⟩; (have HYA : Hid (Y.heap[OB]? = some (b6 p0 s1 q2 false p4 s5)) := by rw [hY]; exact (b6_set3 HAx.out)); (have HYB : Hid (Below w1.heap.size w1 Y) := by rw [hY]; exact (HB4.out.setCell (p := ⟨OB, 3, none⟩) (by have := HO.out; simp; omega) _)); rw [← hY]; clear hY o0 o1 o2 o3 o4 o5 z0 z1 z2 z3 z4 z5
                            go_roundg (SX.length - (k + 1))
                            case measure => have := HGr.out; have := HK3.out; omega
                            case rel => exact ⟨k + 1, HK3.out, rfl, by go_num, by rw [HN3.out, HR3.out]; simpa using HYA, HYB⟩
                      · have hkk : k = SX.length := by omega
                        subst hkk; (have hge : ¬ (SX.length : Int) < (SX.length : Int) := by omega); rw [List.take_length] at HA3; clear hlt hk; go_wp2_with fail
                        go_roundg (SX.length - (i + 1))
                        case measure => have := HGq.out; have := HI.out; omega
                        case rel => exact ⟨i + 1, HI.out, rfl, by go_num, by rw [HE1.out, HE2.out, HE3.out, HE5.out]; simpa using HA3, HB3⟩
              | false =>
                obtain ⟨⟨o0, o1, o2, o3, o4, o5⟩, z0, z1, z2, z3, z4, z5⟩ := b6_cells HA2.out; go_wp2_with fail; obtain ⟨Z, hZ⟩ : ∃ Z, Z = wr.setCell ⟨OB, 2, none⟩ (.bool false) := ⟨_, rfl⟩; (have HZA : Hid (Z.heap[OB]? = some (b6 p0 q1 false q3 p4 q5)) := by rw [hZ]; exact b6_set2 HA2.out); (have HZB : Hid (Below w1.heap.size w1 Z) := by rw [hZ]; exact HB2.out.setCell (p := ⟨OB, 2, none⟩) (by have := HO.out; simp; omega) _); rw [← hZ]; clear hZ o0 o1 o2 o3 o4 o5 z0 z1 z2 z3 z4 z5 d1 d2 d3 HA2 HB2; (obtain ⟨GG, hGG⟩ : ∃ GG : Nat → Bool, GG = fun y => decide (y ∈ SX) := ⟨_, rfl⟩); (have HGG : Hid (∀ y, GG y = decide (y ∈ SX)) := fun y => by rw [hGG]); rw [← hGG] at HE1 HE5; clear hGG
                go_loopg [8] SV.length (fun gg cc wr => ∃ k, k ≤ SV.length ∧ gg = SV.length - k ∧ cc = .int .i64 (k : Nat) ∧ Hid (wr.heap[OB]? = some (b6 p0 (q1 && (SV.take k).all GG) false q3 p4 (q5 && (SV.take k).all GG))) ∧ Hid (Below w1.heap.size w1 wr))
                case atStart => exact ⟨0, by omega, by omega, rfl, by simpa using HZA, HZB⟩
                case round =>
                  obtain ⟨k, hk, hg, rfl, HA3, HB3⟩ := hrel; have HGr : Hid (gk = SV.length - k) := hg; clear hg; have HX3 : Hid (wr.cell? ⟨g, u, none⟩ = some (.slice (some ⟨bs, 0, none⟩) SX.length sc)) := (HB3.out.cell (lt_of_cell HC0.out)).trans HC0.out; have HV3c : Hid (wr.cell? ⟨g, nv, none⟩ = some (.slice va SV.length vc)) := (HB3.out.cell (lt_of_cell HV0.out)).trans HV0.out; have d1 := HX3.out; have d3 := HV3c.out; by_cases hlt : k < SV.length
                  · obtain ⟨ny, hny⟩ : ∃ v, SV[k]? = some v := ⟨_, List.getElem?_eq_getElem hlt⟩
                    (obtain ⟨bv, rfl, hcv⟩ := HV3.out (by omega)); have HNy : Hid (wr.cell? ⟨bv, k, none⟩ = some (.int .i64 (ny : Nat))) := (HB3.out.cell (lt_of_cell (hcv k ny hny))).trans (hcv k ny hny); clear hcv; (have hkI : (k : Int) < (SV.length : Int) := by omega); (have hkC : (k : Int) < (vc : Int) := by omega); have HK3 : Hid (k < SV.length) := hlt; (have HMb : Hid (∀ W, Below w1.heap.size w1 W → Calls Try.prog 44 #[(.slice (some ⟨bs, 0, none⟩) SX.length sc), .int .i64 (ny : Nat)] W fun e w' => e = .returned (.bool (GG ny)) ∧ w' = W) := fun W hb => by rw [HGG.out]; exact HMe.out W hb ny); (have HN3 : Hid ((SV.take (k + 1)).all GG = ((SV.take k).all GG && GG ny)) := by show _ = _; rw [List.take_add_one, hny]; simp); generalize GG ny = bb at HMb HN3; obtain ⟨r1, hr1⟩ : ∃ r, r = (q1 && (SV.take k).all GG) := ⟨_, rfl⟩; obtain ⟨r5, hr5⟩ : ∃ r, r = (q5 && (SV.take k).all GG) := ⟨_, rfl⟩; rw [← hr1, ← hr5] at HA3; (have HR1 : Hid ((q1 && ((SV.take k).all GG && bb)) = (r1 && bb)) := by show _ = _; rw [hr1, Bool.and_assoc]); (have HR5 : Hid ((q5 && ((SV.take k).all GG && bb)) = (r5 && bb)) := by show _ = _; rw [hr5, Bool.and_assoc]); clear hr1 hr5; clear hlt hk hny; go_wp2_with fail; clear d1 d3; (refine wp_region_free (by kernel_rfl) [fun v _ => v = (.slice (some ⟨g, 0, none⟩) N N), fun v _ => v = (.int .i64 (u : Nat)), fun v _ => v = (.pointer (some ⟨g, u, none⟩)), fun v _ => v = (.slice (some ⟨bs, 0, none⟩) SX.length sc), fun v _ => v = (.slice (some ⟨g, 0, none⟩) N N), fun v _ => v = (.int .i64 (nv : Nat)), fun v _ => v = (.pointer (some ⟨g, nv, none⟩)), fun v _ => v = (.slice (some ⟨bv, 0, none⟩) SV.length vc), fun v _ => v = (.int .i64 (k : Nat)), fun v _ => v = (.pointer (some ⟨bv, k, none⟩)), fun v _ => v = (.int .i64 (ny : Nat)), fun v _ => v = (.bool bb), fun v _ => v = (.bool (!bb))] ?_ (by kernel_rfl) (by kernel_rfl) 106 rfl (by kernel_rfl) ?_ ?_)
                    · intro p hp
                      simp only [List.mem_cons, List.not_mem_nil, or_false] at hp
                      rcases hp with rfl | rfl | rfl | rfl | rfl | rfl | rfl | rfl | rfl | rfl | rfl | rfl | rfl
                      · exact fun _ _ _ h _ => h
                      · exact fun _ _ _ h _ => h
                      · exact fun _ _ _ h _ => h
                      · exact fun _ _ _ h _ => h
                      · exact fun _ _ _ h _ => h
                      · exact fun _ _ _ h _ => h
                      · exact fun _ _ _ h _ => h
                      · exact fun _ _ _ h _ => h
                      · exact fun _ _ _ h _ => h
                      · exact fun _ _ _ h _ => h
                      · exact fun _ _ _ h _ => h
                      · exact fun _ _ _ h _ => h
                      · exact fun _ _ _ h _ => h
                    · refine ⟨?_, ?_, ?_, ?_, ?_, ?_, ?_, ?_, ?_, ?_, ?_, ?_, ?_, trivial⟩
                      · intro a wx hB hold hdep K hK
                        have t3 : a.tmps[3]? = some (.slice (some ⟨g, 0, none⟩) N N) := hold.2.2 3 rfl; clear hold hdep; go_simp; exact hK.out _ _ rfl (Below.refl _ _)
                      · intro a wx hB hold hdep K hK
                        have t5 : a.tmps[5]? = some (.int .i64 (u : Nat)) := hold.2.2 5 rfl; clear hold hdep; go_simp; exact hK.out _ _ rfl (Below.refl _ _)
                      · intro a wx hB hold hdep K hK
                        obtain ⟨v67, t67, p67⟩ := hdep 0 rfl _ 67 rfl rfl; have e67 : v67 = (.slice (some ⟨g, 0, none⟩) N N) := p67; subst e67; obtain ⟨v68, t68, p68⟩ := hdep 1 rfl _ 68 rfl rfl; have e68 : v68 = (.int .i64 (u : Nat)) := p68; subst e68; clear hold hdep; go_simp; exact hK.out _ _ rfl (Below.refl _ _)
                      · intro a wx hB hold hdep K hK
                        obtain ⟨v69, t69, p69⟩ := hdep 2 rfl _ 69 rfl rfl; have e69 : v69 = (.pointer (some ⟨g, u, none⟩)) := p69; subst e69; have c9 := (hB.cell (lt_of_cell HX3.out)).trans HX3.out; clear hold hdep; go_simp; exact hK.out _ _ rfl (Below.refl _ _)
                      · intro a wx hB hold hdep K hK
                        have t3 : a.tmps[3]? = some (.slice (some ⟨g, 0, none⟩) N N) := hold.2.2 3 rfl; clear hold hdep; go_simp; exact hK.out _ _ rfl (Below.refl _ _)
                      · intro a wx hB hold hdep K hK
                        have t7 : a.tmps[7]? = some (.int .i64 (nv : Nat)) := hold.2.2 7 rfl; clear hold hdep; go_simp; exact hK.out _ _ rfl (Below.refl _ _)
                      · intro a wx hB hold hdep K hK
                        obtain ⟨v71, t71, p71⟩ := hdep 4 rfl _ 71 rfl rfl; have e71 : v71 = (.slice (some ⟨g, 0, none⟩) N N) := p71; subst e71; obtain ⟨v72, t72, p72⟩ := hdep 5 rfl _ 72 rfl rfl; have e72 : v72 = (.int .i64 (nv : Nat)) := p72; subst e72; clear hold hdep; go_simp; exact hK.out _ _ rfl (Below.refl _ _)
                      · intro a wx hB hold hdep K hK
                        obtain ⟨v73, t73, p73⟩ := hdep 6 rfl _ 73 rfl rfl; have e73 : v73 = (.pointer (some ⟨g, nv, none⟩)) := p73; subst e73; have c9 := (hB.cell (lt_of_cell HV3c.out)).trans HV3c.out; clear hold hdep; go_simp; exact hK.out _ _ rfl (Below.refl _ _)
                      · intro a wx hB hold hdep K hK
                        have t8 : a.tmps[8]? = some (.int .i64 (k : Nat)) := hold.2.2 8 rfl; clear hold hdep; go_simp; exact hK.out _ _ rfl (Below.refl _ _)
                      · intro a wx hB hold hdep K hK
                        obtain ⟨v74, t74, p74⟩ := hdep 7 rfl _ 74 rfl rfl; have e74 : v74 = (.slice (some ⟨bv, 0, none⟩) SV.length vc) := p74; subst e74; obtain ⟨v75, t75, p75⟩ := hdep 8 rfl _ 75 rfl rfl; have e75 : v75 = (.int .i64 (k : Nat)) := p75; subst e75; clear hold hdep; go_simp; exact hK.out _ _ rfl (Below.refl _ _)
                      · intro a wx hB hold hdep K hK
                        obtain ⟨v76, t76, p76⟩ := hdep 9 rfl _ 76 rfl rfl; have e76 : v76 = (.pointer (some ⟨bv, k, none⟩)) := p76; subst e76; have c9 := (hB.cell (lt_of_cell HNy.out)).trans HNy.out; clear hold hdep; go_simp; exact hK.out _ _ rfl (Below.refl _ _)
                      · intro a wx hB hold hdep K hK
                        obtain ⟨v70, t70, p70⟩ := hdep 3 rfl _ 70 rfl rfl; have e70 : v70 = (.slice (some ⟨bs, 0, none⟩) SX.length sc) := p70; subst e70; obtain ⟨v77, t77, p77⟩ := hdep 10 rfl _ 77 rfl rfl; have e77 : v77 = (.int .i64 (ny : Nat)) := p77; subst e77; have HW : Hid (Calls Try.prog 44 #[(.slice (some ⟨bs, 0, none⟩) SX.length sc), .int .i64 (ny : Nat)] wx _) := HMb.out wx (below_join HB3.out hB); clear hold hdep; go_simp; refine HW.out.mono ?_; rintro _ w9 ⟨rfl, rfl⟩; go_simp; exact hK.out _ _ rfl (Below.refl _ _)
                      · intro a wx hB hold hdep K hK
                        obtain ⟨v78, t78, p78⟩ := hdep 11 rfl _ 78 rfl rfl; have e78 : v78 = (.bool bb) := p78; subst e78; clear hold hdep; go_simp; exact hK.out _ _ rfl (Below.refl _ _)
                    · intro a wx hB hold hgot
                      obtain ⟨vS, tvS, pvS⟩ := hgot 12 _ 79 rfl rfl; have evS : vS = (.bool (!bb)) := pvS; subst evS; have HBx : Hid (Below wr.heap.size wr wx) := hB; have HAx : Hid (wx.heap[OB]? = some (b6 p0 r1 false q3 p4 r5)) := below_keep hB HA3.out; have HB4 : Hid (Below w1.heap.size w1 wx) := below_join HB3.out hB; obtain ⟨tm, df⟩ := a; (obtain ⟨ys, hys, htm, rfl⟩ := frame_mid2 67 13 (by kernel_rfl) (Nat.le_of_ble_eq_true rfl) hold); obtain ⟨x67, x68, x69, x70, x71, x72, x73, x74, x75, x76, x77, x78, x79, rfl⟩ := rowS13 ys hys; simp only [List.take_succ_cons, List.take_zero, List.drop_succ_cons, List.drop_zero, List.cons_append, List.nil_append] at htm; subst htm; obtain rfl : x79 = _ := someInjM tvS; clear hys hold hgot tvS hB HB3 HA3
                      cases bb with
                      | true =>
                        go_wp2_with fail
                        go_roundg (SV.length - (k + 1))
                        case measure => have := HGr.out; have := HK3.out; omega
                        case rel => exact ⟨k + 1, HK3.out, rfl, by go_num, by rw [HN3.out, HR1.out, HR5.out]; simpa using HAx, HB4⟩
                      | false =>
                        obtain ⟨⟨o0, o1, o2, o3, o4, o5⟩, z0, z1, z2, z3, z4, z5⟩ := b6_cells HAx.out; have q9 := b6_cells (b6_set1 HAx.out); obtain ⟨⟨u0, u1, u2, u3, u4, u5⟩, x0, x1, x2, x3, x4, x5⟩ := q9; go_wp2_with fail; obtain ⟨Y, hY⟩ : ∃ Y, Y = ((wx.setCell ⟨OB, 1, none⟩ (.bool false)).setCell ⟨OB, 5, none⟩ (.bool false)) := ⟨_, rfl⟩; (have HYA : Hid (Y.heap[OB]? = some (b6 p0 false false q3 p4 false)) := by rw [hY]; exact (b6_set5 (b6_set1 HAx.out))); (have HYB : Hid (Below w1.heap.size w1 Y) := by rw [hY]; exact ((HB4.out.setCell (p := ⟨OB, 1, none⟩) (by have := HO.out; simp; omega) _).setCell (p := ⟨OB, 5, none⟩) (by have := HO.out; simp; omega) _)); rw [← hY]; clear hY o0 o1 o2 o3 o4 o5 z0 z1 z2 z3 z4 z5 u0 u1 u2 u3 u4 u5 x0 x1 x2 x3 x4 x5
                        go_roundg (SV.length - (k + 1))
                        case measure => have := HGr.out; have := HK3.out; omega
                        case rel => exact ⟨k + 1, HK3.out, rfl, by go_num, by rw [HN3.out, HR1.out, HR5.out]; simpa using HYA, HYB⟩
                  · have hkk : k = SV.length := by omega
                    subst hkk; (have hge : ¬ (SV.length : Int) < (SV.length : Int) := by omega); rw [List.take_length] at HA3; clear hlt hk; go_wp2_with fail; clear d1 d3; have HZA := HA3; have HZB := HB3; obtain ⟨s1, hs1⟩ : ∃ s, s = (q1 && SV.all GG) := ⟨_, rfl⟩; obtain ⟨s5, hs5⟩ : ∃ s, s = (q5 && SV.all GG) := ⟨_, rfl⟩; rw [← hs1] at HE1; rw [← hs5] at HE5; rw [← hs1, ← hs5] at HZA; clear hs1 hs5 HGG HA3 HB3 hge HX3 HV3c; (obtain ⟨GG, hGG⟩ : ∃ GG : Nat → Bool, GG = fun y => decide (y ∈ SV) := ⟨_, rfl⟩); (have HGG : Hid (∀ y, GG y = decide (y ∈ SV)) := fun y => by rw [hGG]); rw [← hGG] at HE3; clear hGG
                    go_loopg [9] SX.length (fun gg cc wr => ∃ k, k ≤ SX.length ∧ gg = SX.length - k ∧ cc = .int .i64 (k : Nat) ∧ Hid (wr.heap[OB]? = some (b6 p0 s1 false (q3 && (SX.take k).all GG) p4 s5)) ∧ Hid (Below w1.heap.size w1 wr))
                    case atStart => exact ⟨0, by omega, by omega, rfl, by simpa using HZA, HZB⟩
                    case round =>
                      obtain ⟨k, hk, hg, rfl, HA3, HB3⟩ := hrel; have HGr : Hid (gk = SX.length - k) := hg; clear hg; have HX3 : Hid (wr.cell? ⟨g, u, none⟩ = some (.slice (some ⟨bs, 0, none⟩) SX.length sc)) := (HB3.out.cell (lt_of_cell HC0.out)).trans HC0.out; have HV3c : Hid (wr.cell? ⟨g, nv, none⟩ = some (.slice va SV.length vc)) := (HB3.out.cell (lt_of_cell HV0.out)).trans HV0.out; have d1 := HX3.out; have d3 := HV3c.out; by_cases hlt : k < SX.length
                      · obtain ⟨ny, hny⟩ : ∃ v, SX[k]? = some v := ⟨_, List.getElem?_eq_getElem hlt⟩
                        have HNy : Hid (wr.cell? ⟨bs, k, none⟩ = some (.int .i64 (ny : Nat))) := (HB3.out.cell (lt_of_cell (HCs.out k ny hny))).trans (HCs.out k ny hny); (have hkI : (k : Int) < (SX.length : Int) := by omega); (have hkC : (k : Int) < (sc : Int) := by omega); have HK3 : Hid (k < SX.length) := hlt; (have HMb : Hid (∀ W, Below w1.heap.size w1 W → Calls Try.prog 44 #[(.slice va SV.length vc), .int .i64 (ny : Nat)] W fun e w' => e = .returned (.bool (GG ny)) ∧ w' = W) := fun W hb => by rw [HGG.out]; exact HMv.out W hb ny); (have HN3 : Hid ((SX.take (k + 1)).all GG = ((SX.take k).all GG && GG ny)) := by show _ = _; rw [List.take_add_one, hny]; simp); generalize GG ny = bb at HMb HN3; obtain ⟨r3, hr3⟩ : ∃ r, r = (q3 && (SX.take k).all GG) := ⟨_, rfl⟩; rw [← hr3] at HA3; (have HR3 : Hid ((q3 && ((SX.take k).all GG && bb)) = (r3 && bb)) := by show _ = _; rw [hr3, Bool.and_assoc]); clear hr3; clear hlt hk hny; go_wp2_with fail; clear d1 d3; (refine wp_region_free (by kernel_rfl) [fun v _ => v = (.slice (some ⟨g, 0, none⟩) N N), fun v _ => v = (.int .i64 (nv : Nat)), fun v _ => v = (.pointer (some ⟨g, nv, none⟩)), fun v _ => v = (.slice va SV.length vc), fun v _ => v = (.slice (some ⟨g, 0, none⟩) N N), fun v _ => v = (.int .i64 (u : Nat)), fun v _ => v = (.pointer (some ⟨g, u, none⟩)), fun v _ => v = (.slice (some ⟨bs, 0, none⟩) SX.length sc), fun v _ => v = (.int .i64 (k : Nat)), fun v _ => v = (.pointer (some ⟨bs, k, none⟩)), fun v _ => v = (.int .i64 (ny : Nat)), fun v _ => v = (.bool bb), fun v _ => v = (.bool (!bb))] ?_ (by kernel_rfl) (by kernel_rfl) 106 rfl (by kernel_rfl) ?_ ?_)
                        · intro p hp
                          simp only [List.mem_cons, List.not_mem_nil, or_false] at hp
                          rcases hp with rfl | rfl | rfl | rfl | rfl | rfl | rfl | rfl | rfl | rfl | rfl | rfl | rfl
                          · exact fun _ _ _ h _ => h
                          · exact fun _ _ _ h _ => h
                          · exact fun _ _ _ h _ => h
                          · exact fun _ _ _ h _ => h
                          · exact fun _ _ _ h _ => h
                          · exact fun _ _ _ h _ => h
                          · exact fun _ _ _ h _ => h
                          · exact fun _ _ _ h _ => h
                          · exact fun _ _ _ h _ => h
                          · exact fun _ _ _ h _ => h
                          · exact fun _ _ _ h _ => h
                          · exact fun _ _ _ h _ => h
                          · exact fun _ _ _ h _ => h
                        · refine ⟨?_, ?_, ?_, ?_, ?_, ?_, ?_, ?_, ?_, ?_, ?_, ?_, ?_, trivial⟩
                          · intro a wx hB hold hdep K hK
                            have t3 : a.tmps[3]? = some (.slice (some ⟨g, 0, none⟩) N N) := hold.2.2 3 rfl; clear hold hdep; go_simp; exact hK.out _ _ rfl (Below.refl _ _)
                          · intro a wx hB hold hdep K hK
                            have t7 : a.tmps[7]? = some (.int .i64 (nv : Nat)) := hold.2.2 7 rfl; clear hold hdep; go_simp; exact hK.out _ _ rfl (Below.refl _ _)
                          · intro a wx hB hold hdep K hK
                            obtain ⟨v91, t91, p91⟩ := hdep 0 rfl _ 91 rfl rfl; have e91 : v91 = (.slice (some ⟨g, 0, none⟩) N N) := p91; subst e91; obtain ⟨v92, t92, p92⟩ := hdep 1 rfl _ 92 rfl rfl; have e92 : v92 = (.int .i64 (nv : Nat)) := p92; subst e92; clear hold hdep; go_simp; exact hK.out _ _ rfl (Below.refl _ _)
                          · intro a wx hB hold hdep K hK
                            obtain ⟨v93, t93, p93⟩ := hdep 2 rfl _ 93 rfl rfl; have e93 : v93 = (.pointer (some ⟨g, nv, none⟩)) := p93; subst e93; have c9 := (hB.cell (lt_of_cell HV3c.out)).trans HV3c.out; clear hold hdep; go_simp; exact hK.out _ _ rfl (Below.refl _ _)
                          · intro a wx hB hold hdep K hK
                            have t3 : a.tmps[3]? = some (.slice (some ⟨g, 0, none⟩) N N) := hold.2.2 3 rfl; clear hold hdep; go_simp; exact hK.out _ _ rfl (Below.refl _ _)
                          · intro a wx hB hold hdep K hK
                            have t5 : a.tmps[5]? = some (.int .i64 (u : Nat)) := hold.2.2 5 rfl; clear hold hdep; go_simp; exact hK.out _ _ rfl (Below.refl _ _)
                          · intro a wx hB hold hdep K hK
                            obtain ⟨v95, t95, p95⟩ := hdep 4 rfl _ 95 rfl rfl; have e95 : v95 = (.slice (some ⟨g, 0, none⟩) N N) := p95; subst e95; obtain ⟨v96, t96, p96⟩ := hdep 5 rfl _ 96 rfl rfl; have e96 : v96 = (.int .i64 (u : Nat)) := p96; subst e96; clear hold hdep; go_simp; exact hK.out _ _ rfl (Below.refl _ _)
                          · intro a wx hB hold hdep K hK
                            obtain ⟨v97, t97, p97⟩ := hdep 6 rfl _ 97 rfl rfl; have e97 : v97 = (.pointer (some ⟨g, u, none⟩)) := p97; subst e97; have c9 := (hB.cell (lt_of_cell HX3.out)).trans HX3.out; clear hold hdep; go_simp; exact hK.out _ _ rfl (Below.refl _ _)
                          · intro a wx hB hold hdep K hK
                            have t9 : a.tmps[9]? = some (.int .i64 (k : Nat)) := hold.2.2 9 rfl; clear hold hdep; go_simp; exact hK.out _ _ rfl (Below.refl _ _)
                          · intro a wx hB hold hdep K hK
                            obtain ⟨v98, t98, p98⟩ := hdep 7 rfl _ 98 rfl rfl; have e98 : v98 = (.slice (some ⟨bs, 0, none⟩) SX.length sc) := p98; subst e98; obtain ⟨v99, t99, p99⟩ := hdep 8 rfl _ 99 rfl rfl; have e99 : v99 = (.int .i64 (k : Nat)) := p99; subst e99; clear hold hdep; go_simp; exact hK.out _ _ rfl (Below.refl _ _)
                          · intro a wx hB hold hdep K hK
                            obtain ⟨v100, t100, p100⟩ := hdep 9 rfl _ 100 rfl rfl; have e100 : v100 = (.pointer (some ⟨bs, k, none⟩)) := p100; subst e100; have c9 := (hB.cell (lt_of_cell HNy.out)).trans HNy.out; clear hold hdep; go_simp; exact hK.out _ _ rfl (Below.refl _ _)
                          · intro a wx hB hold hdep K hK
                            obtain ⟨v94, t94, p94⟩ := hdep 3 rfl _ 94 rfl rfl; have e94 : v94 = (.slice va SV.length vc) := p94; subst e94; obtain ⟨v101, t101, p101⟩ := hdep 10 rfl _ 101 rfl rfl; have e101 : v101 = (.int .i64 (ny : Nat)) := p101; subst e101; have HW : Hid (Calls Try.prog 44 #[(.slice va SV.length vc), .int .i64 (ny : Nat)] wx _) := HMb.out wx (below_join HB3.out hB); clear hold hdep; go_simp; refine HW.out.mono ?_; rintro _ w9 ⟨rfl, rfl⟩; go_simp; exact hK.out _ _ rfl (Below.refl _ _)
                          · intro a wx hB hold hdep K hK
                            obtain ⟨v102, t102, p102⟩ := hdep 11 rfl _ 102 rfl rfl; have e102 : v102 = (.bool bb) := p102; subst e102; clear hold hdep; go_simp; exact hK.out _ _ rfl (Below.refl _ _)
                        · intro a wx hB hold hgot
                          obtain ⟨vS, tvS, pvS⟩ := hgot 12 _ 103 rfl rfl; have evS : vS = (.bool (!bb)) := pvS; subst evS; have HBx : Hid (Below wr.heap.size wr wx) := hB; have HAx : Hid (wx.heap[OB]? = some (b6 p0 s1 false r3 p4 s5)) := below_keep hB HA3.out; have HB4 : Hid (Below w1.heap.size w1 wx) := below_join HB3.out hB; obtain ⟨tm, df⟩ := a; (obtain ⟨ys, hys, htm, rfl⟩ := frame_mid2 91 13 (by kernel_rfl) (Nat.le_of_ble_eq_true rfl) hold); obtain ⟨x91, x92, x93, x94, x95, x96, x97, x98, x99, x100, x101, x102, x103, rfl⟩ := rowS13 ys hys; simp only [List.take_succ_cons, List.take_zero, List.drop_succ_cons, List.drop_zero, List.cons_append, List.nil_append] at htm; subst htm; obtain rfl : x103 = _ := someInjM tvS; clear hys hold hgot tvS hB HB3 HA3
                          cases bb with
                          | true =>
                            go_wp2_with fail
                            go_roundg (SX.length - (k + 1))
                            case measure => have := HGr.out; have := HK3.out; omega
                            case rel => exact ⟨k + 1, HK3.out, rfl, by go_num, by rw [HN3.out, HR3.out]; simpa using HAx, HB4⟩
                          | false =>
                            obtain ⟨⟨o0, o1, o2, o3, o4, o5⟩, z0, z1, z2, z3, z4, z5⟩ := b6_cells HAx.out; go_wp2_with fail; obtain ⟨Y, hY⟩ : ∃ Y, Y = (wx.setCell ⟨OB, 3, none⟩ (.bool false)) := ⟨_, rfl⟩; (have HYA : Hid (Y.heap[OB]? = some (b6 p0 s1 false false p4 s5)) := by rw [hY]; exact (b6_set3 HAx.out)); (have HYB : Hid (Below w1.heap.size w1 Y) := by rw [hY]; exact (HB4.out.setCell (p := ⟨OB, 3, none⟩) (by have := HO.out; simp; omega) _)); rw [← hY]; clear hY o0 o1 o2 o3 o4 o5 z0 z1 z2 z3 z4 z5
                            go_roundg (SX.length - (k + 1))
                            case measure => have := HGr.out; have := HK3.out; omega
                            case rel => exact ⟨k + 1, HK3.out, rfl, by go_num, by rw [HN3.out, HR3.out]; simpa using HYA, HYB⟩
                      · have hkk : k = SX.length := by omega
                        subst hkk; (have hge : ¬ (SX.length : Int) < (SX.length : Int) := by omega); rw [List.take_length] at HA3; clear hlt hk; go_wp2_with fail
                        go_roundg (SX.length - (i + 1))
                        case measure => have := HGq.out; have := HI.out; omega
                        case rel => exact ⟨i + 1, HI.out, rfl, by go_num, by rw [HE1.out, HE2.out, HE3.out, HE5.out]; simpa using HA3, HB3⟩
            · have hii : i = SX.length := by omega
              subst hii; (have hge : ¬ (SX.length : Int) < (SX.length : Int) := by omega); rw [List.take_length] at HA2; clear hlt hi; go_wp2_with fail
              go_roundg (N - (u + 1))
              case measure => have := HGk.out; have := HU.out; omega
              case rel => exact ⟨u + 1, HU.out, rfl, by go_num, by rw [HG0.out, HG1.out, HG2.out, HG3.out, HH4.out, HG5.out]; simpa using HA2, HB2⟩
      | false =>
        obtain ⟨Y, hY⟩ : ∃ Y, wr.setCell ⟨OB, 0, none⟩ (.bool false) = Y := ⟨_, rfl⟩; (have HYA : Hid (Y.heap[OB]? = some (b6 false p1 p2 p3 p4 p5)) := by rw [← hY]; exact b6_set0 HA.out); (have HYB : Hid (Below w1.heap.size w1 Y) := by rw [← hY]; exact HB.out.setCell (p := ⟨OB, 0, none⟩) (by have := HO.out; simp; omega) _); have dY := (HYB.out.cell (lt_of_cell HC0.out)).trans HC0.out; obtain ⟨⟨y0, y1, y2, y3, y4, y5⟩, v0, v1, v2, v3, v4, v5⟩ := b6_cells HYA.out; by_cases hz : SX.length = 0
        · have hzI : (SX.length : Int) = 0 := by omega
          (have HH4 : Hid (a4S S (u + 1) = false) := by show _ = _; rw [HG4.out, hz]; simp); clear hz; go_wp2_with fail; clear hzI; obtain ⟨Z, hZ⟩ : ∃ Z, Z = Y.setCell ⟨OB, 4, none⟩ (.bool false) := ⟨_, rfl⟩; (have HZA : Hid (Z.heap[OB]? = some (b6 false p1 p2 p3 false p5)) := by rw [hZ]; exact b6_set4 HYA.out); (have HZB : Hid (Below w1.heap.size w1 Z) := by rw [hZ]; exact HYB.out.setCell (p := ⟨OB, 4, none⟩) (by have := HO.out; simp; omega) _); rw [← hZ]; clear hZ hY o0 o1 o2 o3 o4 o5 z0 z1 z2 z3 z4 z5 y0 y1 y2 y3 y4 y5 v0 v1 v2 v3 v4 v5 dY d0 m0 m1 m2 HA HYA HYB HB HMx
          go_loopg [6] SX.length (fun gg cc wr => ∃ i, i ≤ SX.length ∧ gg = SX.length - i ∧ cc = .int .i64 (i : Nat) ∧ Hid (wr.heap[OB]? = some (b6 false (p1 && (SX.take i).all D1) (p2 && (SX.take i).all D2) (p3 && (SX.take i).all D3) false (p5 && (SX.take i).all D1))) ∧ Hid (Below w1.heap.size w1 wr))
          case atStart => exact ⟨0, by omega, by omega, rfl, by simpa using HZA, HZB⟩
          case round =>
            obtain ⟨i, hi, hg, rfl, HA2, HB2⟩ := hrel; have HGq : Hid (gk = SX.length - i) := hg; clear hg HZA HZB; have d1 := (HB2.out.cell (lt_of_cell HC0.out)).trans HC0.out; by_cases hlt : i < SX.length
            · obtain ⟨nv, hv⟩ : ∃ v, SX[i]? = some v := ⟨_, List.getElem?_eq_getElem hlt⟩
              (obtain ⟨bs, rfl, hcs⟩ := HC3.out (by omega)); have HCs : Hid (∀ (j k : Nat), SX[j]? = some k → w1.cell? ⟨bs, j, none⟩ = some (.int .i64 (k : Nat))) := hcs; have d2 := (HB2.out.cell (lt_of_cell (hcs i nv hv))).trans (hcs i nv hv); have hvN : nv < N := HSmu.out nv (List.mem_of_getElem? hv); (have hvI : (nv : Int) < (N : Int) := by omega); (have hiI : (i : Int) < (SX.length : Int) := by omega); (have hiC : (i : Int) < (sc : Int) := by omega); have HI : Hid (i < SX.length) := hlt; obtain ⟨va, vc, r0, r1, r3⟩ := HRow.out nv hvN; (have HMv : Hid (∀ W, Below w1.heap.size w1 W → ∀ x : Nat, Calls Try.prog 44 #[.slice va (S nv).length vc, .int .i64 (x : Nat)] W fun e w' => e = .returned (.bool (decide (x ∈ S nv))) ∧ w' = W) := fun W hb x => memberOf_any (S nv) x (HSl.out nv) _ W (NRow.up ⟨va, vc, rfl, r1, r3⟩ hb (Nat.le_refl _))); have hvl := HSl.out nv; (have E1 : (SX.take (i + 1)).all D1 = ((SX.take i).all D1 && (S nv).all fun y => decide (y ∈ SX)) := by rw [List.take_add_one, hv, List.all_append, ← HD1.out nv]; simp); (have E2 : (SX.take (i + 1)).all D2 = ((SX.take i).all D2 && decide (u ∈ S nv)) := by rw [List.take_add_one, hv, List.all_append, ← HD2.out nv]; simp); (have E3 : (SX.take (i + 1)).all D3 = ((SX.take i).all D3 && SX.all fun y => decide (y ∈ S nv)) := by rw [List.take_add_one, hv, List.all_append, ← HD3.out nv]; simp); obtain ⟨SV, hSV⟩ : ∃ SV, SV = S nv := ⟨_, rfl⟩; rw [← hSV] at r0 r1 r3 HMv hvl E1 E2 E3; clear hSV; obtain ⟨q1, hq1⟩ : ∃ q, q = (p1 && (SX.take i).all D1) := ⟨_, rfl⟩; obtain ⟨q2, hq2⟩ : ∃ q, q = (p2 && (SX.take i).all D2) := ⟨_, rfl⟩; obtain ⟨q3, hq3⟩ : ∃ q, q = (p3 && (SX.take i).all D3) := ⟨_, rfl⟩; obtain ⟨q5, hq5⟩ : ∃ q, q = (p5 && (SX.take i).all D1) := ⟨_, rfl⟩; rw [← hq1, ← hq2, ← hq3, ← hq5] at HA2; (have HE1 : Hid ((p1 && (SX.take (i + 1)).all D1) = (q1 && SV.all fun y => decide (y ∈ SX))) := by show _ = _; rw [E1, hq1, Bool.and_assoc]); (have HE2 : Hid ((p2 && (SX.take (i + 1)).all D2) = (q2 && decide (u ∈ SV))) := by show _ = _; rw [E2, hq2, Bool.and_assoc]); (have HE3 : Hid ((p3 && (SX.take (i + 1)).all D3) = (q3 && SX.all fun y => decide (y ∈ SV))) := by show _ = _; rw [E3, hq3, Bool.and_assoc]); (have HE5 : Hid ((p5 && (SX.take (i + 1)).all D1) = (q5 && SV.all fun y => decide (y ∈ SX))) := by show _ = _; rw [E1, hq5, Bool.and_assoc]); obtain ⟨z, hz⟩ : ∃ z, z = decide (u ∈ SV) := ⟨_, rfl⟩; (have HMz : Hid (Calls Try.prog 44 #[.slice va SV.length vc, .int .i64 (u : Nat)] wr fun e w' => e = .returned (.bool z) ∧ w' = wr) := by rw [hz]; exact HMv.out wr HB2.out u); rw [← hz] at HE2; (have hvlI : (SV.length : Int) ≤ 40 := by omega); (have hvcI : (SV.length : Int) ≤ (vc : Int) := by omega); have HV0 : Hid (w1.cell? ⟨g, nv, none⟩ = some (.slice va SV.length vc)) := r0; have HV3 : Hid (0 < SV.length → ∃ b, va = some ⟨b, 0, none⟩ ∧ ∀ (j k : Nat), SV[j]? = some k → w1.cell? ⟨b, j, none⟩ = some (.int .i64 (k : Nat))) := r3; have d3 := (HB2.out.cell (lt_of_cell HV0.out)).trans HV0.out; clear hz hq1 hq2 hq3 hq5 E1 E2 E3 r0 r1 r3 hvl hlt hi hv hcs hvN; go_wp2_with fail; refine HMz.out.mono ?_; rintro _ w9 ⟨rfl, e9⟩
              replace e9 := e9.symm
              subst e9; clear HMz
              cases z with
              | true =>
                go_wp2_with fail; clear d1 d2 d3; have HZA := HA2; have HZB := HB2; clear HA2 HB2; (obtain ⟨GG, hGG⟩ : ∃ GG : Nat → Bool, GG = fun y => decide (y ∈ SX) := ⟨_, rfl⟩); (have HGG : Hid (∀ y, GG y = decide (y ∈ SX)) := fun y => by rw [hGG]); rw [← hGG] at HE1 HE5; clear hGG
                go_loopg [8] SV.length (fun gg cc wr => ∃ k, k ≤ SV.length ∧ gg = SV.length - k ∧ cc = .int .i64 (k : Nat) ∧ Hid (wr.heap[OB]? = some (b6 false (q1 && (SV.take k).all GG) q2 q3 false (q5 && (SV.take k).all GG))) ∧ Hid (Below w1.heap.size w1 wr))
                case atStart => exact ⟨0, by omega, by omega, rfl, by simpa using HZA, HZB⟩
                case round =>
                  obtain ⟨k, hk, hg, rfl, HA3, HB3⟩ := hrel; have HGr : Hid (gk = SV.length - k) := hg; clear hg; have HX3 : Hid (wr.cell? ⟨g, u, none⟩ = some (.slice (some ⟨bs, 0, none⟩) SX.length sc)) := (HB3.out.cell (lt_of_cell HC0.out)).trans HC0.out; have HV3c : Hid (wr.cell? ⟨g, nv, none⟩ = some (.slice va SV.length vc)) := (HB3.out.cell (lt_of_cell HV0.out)).trans HV0.out; have d1 := HX3.out; have d3 := HV3c.out; by_cases hlt : k < SV.length
                  · obtain ⟨ny, hny⟩ : ∃ v, SV[k]? = some v := ⟨_, List.getElem?_eq_getElem hlt⟩
                    (obtain ⟨bv, rfl, hcv⟩ := HV3.out (by omega)); have HNy : Hid (wr.cell? ⟨bv, k, none⟩ = some (.int .i64 (ny : Nat))) := (HB3.out.cell (lt_of_cell (hcv k ny hny))).trans (hcv k ny hny); clear hcv; (have hkI : (k : Int) < (SV.length : Int) := by omega); (have hkC : (k : Int) < (vc : Int) := by omega); have HK3 : Hid (k < SV.length) := hlt; (have HMb : Hid (∀ W, Below w1.heap.size w1 W → Calls Try.prog 44 #[(.slice (some ⟨bs, 0, none⟩) SX.length sc), .int .i64 (ny : Nat)] W fun e w' => e = .returned (.bool (GG ny)) ∧ w' = W) := fun W hb => by rw [HGG.out]; exact HMe.out W hb ny); (have HN3 : Hid ((SV.take (k + 1)).all GG = ((SV.take k).all GG && GG ny)) := by show _ = _; rw [List.take_add_one, hny]; simp); generalize GG ny = bb at HMb HN3; obtain ⟨r1, hr1⟩ : ∃ r, r = (q1 && (SV.take k).all GG) := ⟨_, rfl⟩; obtain ⟨r5, hr5⟩ : ∃ r, r = (q5 && (SV.take k).all GG) := ⟨_, rfl⟩; rw [← hr1, ← hr5] at HA3; (have HR1 : Hid ((q1 && ((SV.take k).all GG && bb)) = (r1 && bb)) := by show _ = _; rw [hr1, Bool.and_assoc]); (have HR5 : Hid ((q5 && ((SV.take k).all GG && bb)) = (r5 && bb)) := by show _ = _; rw [hr5, Bool.and_assoc]); clear hr1 hr5; clear hlt hk hny; go_wp2_with fail; clear d1 d3; (refine wp_region_free (by kernel_rfl) [fun v _ => v = (.slice (some ⟨g, 0, none⟩) N N), fun v _ => v = (.int .i64 (u : Nat)), fun v _ => v = (.pointer (some ⟨g, u, none⟩)), fun v _ => v = (.slice (some ⟨bs, 0, none⟩) SX.length sc), fun v _ => v = (.slice (some ⟨g, 0, none⟩) N N), fun v _ => v = (.int .i64 (nv : Nat)), fun v _ => v = (.pointer (some ⟨g, nv, none⟩)), fun v _ => v = (.slice (some ⟨bv, 0, none⟩) SV.length vc), fun v _ => v = (.int .i64 (k : Nat)), fun v _ => v = (.pointer (some ⟨bv, k, none⟩)), fun v _ => v = (.int .i64 (ny : Nat)), fun v _ => v = (.bool bb), fun v _ => v = (.bool (!bb))] ?_ (by kernel_rfl) (by kernel_rfl) 106 rfl (by kernel_rfl) ?_ ?_)
                    · intro p hp
                      simp only [List.mem_cons, List.not_mem_nil, or_false] at hp
                      rcases hp with rfl | rfl | rfl | rfl | rfl | rfl | rfl | rfl | rfl | rfl | rfl | rfl | rfl
                      · exact fun _ _ _ h _ => h
                      · exact fun _ _ _ h _ => h
                      · exact fun _ _ _ h _ => h
                      · exact fun _ _ _ h _ => h
                      · exact fun _ _ _ h _ => h
                      · exact fun _ _ _ h _ => h
                      · exact fun _ _ _ h _ => h
                      · exact fun _ _ _ h _ => h
                      · exact fun _ _ _ h _ => h
                      · exact fun _ _ _ h _ => h
                      · exact fun _ _ _ h _ => h
                      · exact fun _ _ _ h _ => h
                      · exact fun _ _ _ h _ => h
                    · refine ⟨?_, ?_, ?_, ?_, ?_, ?_, ?_, ?_, ?_, ?_, ?_, ?_, ?_, trivial⟩
                      · intro a wx hB hold hdep K hK
                        have t3 : a.tmps[3]? = some (.slice (some ⟨g, 0, none⟩) N N) := hold.2.2 3 rfl; clear hold hdep; go_simp; exact hK.out _ _ rfl (Below.refl _ _)
                      · intro a wx hB hold hdep K hK
                        have t5 : a.tmps[5]? = some (.int .i64 (u : Nat)) := hold.2.2 5 rfl; clear hold hdep; go_simp; exact hK.out _ _ rfl (Below.refl _ _)
                      · intro a wx hB hold hdep K hK
                        obtain ⟨v67, t67, p67⟩ := hdep 0 rfl _ 67 rfl rfl; have e67 : v67 = (.slice (some ⟨g, 0, none⟩) N N) := p67; subst e67; obtain ⟨v68, t68, p68⟩ := hdep 1 rfl _ 68 rfl rfl; have e68 : v68 = (.int .i64 (u : Nat)) := p68; subst e68; clear hold hdep; go_simp; exact hK.out _ _ rfl (Below.refl _ _)
                      · intro a wx hB hold hdep K hK
                        obtain ⟨v69, t69, p69⟩ := hdep 2 rfl _ 69 rfl rfl; have e69 : v69 = (.pointer (some ⟨g, u, none⟩)) := p69; subst e69; have c9 := (hB.cell (lt_of_cell HX3.out)).trans HX3.out; clear hold hdep; go_simp; exact hK.out _ _ rfl (Below.refl _ _)
                      · intro a wx hB hold hdep K hK
                        have t3 : a.tmps[3]? = some (.slice (some ⟨g, 0, none⟩) N N) := hold.2.2 3 rfl; clear hold hdep; go_simp; exact hK.out _ _ rfl (Below.refl _ _)
                      · intro a wx hB hold hdep K hK
                        have t7 : a.tmps[7]? = some (.int .i64 (nv : Nat)) := hold.2.2 7 rfl; clear hold hdep; go_simp; exact hK.out _ _ rfl (Below.refl _ _)
                      · intro a wx hB hold hdep K hK
                        obtain ⟨v71, t71, p71⟩ := hdep 4 rfl _ 71 rfl rfl; have e71 : v71 = (.slice (some ⟨g, 0, none⟩) N N) := p71; subst e71; obtain ⟨v72, t72, p72⟩ := hdep 5 rfl _ 72 rfl rfl; have e72 : v72 = (.int .i64 (nv : Nat)) := p72; subst e72; clear hold hdep; go_simp; exact hK.out _ _ rfl (Below.refl _ _)
                      · intro a wx hB hold hdep K hK
                        obtain ⟨v73, t73, p73⟩ := hdep 6 rfl _ 73 rfl rfl; have e73 : v73 = (.pointer (some ⟨g, nv, none⟩)) := p73; subst e73; have c9 := (hB.cell (lt_of_cell HV3c.out)).trans HV3c.out; clear hold hdep; go_simp; exact hK.out _ _ rfl (Below.refl _ _)
                      · intro a wx hB hold hdep K hK
                        have t8 : a.tmps[8]? = some (.int .i64 (k : Nat)) := hold.2.2 8 rfl; clear hold hdep; go_simp; exact hK.out _ _ rfl (Below.refl _ _)
                      · intro a wx hB hold hdep K hK
                        obtain ⟨v74, t74, p74⟩ := hdep 7 rfl _ 74 rfl rfl; have e74 : v74 = (.slice (some ⟨bv, 0, none⟩) SV.length vc) := p74; subst e74; obtain ⟨v75, t75, p75⟩ := hdep 8 rfl _ 75 rfl rfl; have e75 : v75 = (.int .i64 (k : Nat)) := p75; subst e75; clear hold hdep; go_simp; exact hK.out _ _ rfl (Below.refl _ _)
                      · intro a wx hB hold hdep K hK
                        obtain ⟨v76, t76, p76⟩ := hdep 9 rfl _ 76 rfl rfl; have e76 : v76 = (.pointer (some ⟨bv, k, none⟩)) := p76; subst e76; have c9 := (hB.cell (lt_of_cell HNy.out)).trans HNy.out; clear hold hdep; go_simp; exact hK.out _ _ rfl (Below.refl _ _)
                      · intro a wx hB hold hdep K hK
                        obtain ⟨v70, t70, p70⟩ := hdep 3 rfl _ 70 rfl rfl; have e70 : v70 = (.slice (some ⟨bs, 0, none⟩) SX.length sc) := p70; subst e70; obtain ⟨v77, t77, p77⟩ := hdep 10 rfl _ 77 rfl rfl; have e77 : v77 = (.int .i64 (ny : Nat)) := p77; subst e77; have HW : Hid (Calls Try.prog 44 #[(.slice (some ⟨bs, 0, none⟩) SX.length sc), .int .i64 (ny : Nat)] wx _) := HMb.out wx (below_join HB3.out hB); clear hold hdep; go_simp; refine HW.out.mono ?_; rintro _ w9 ⟨rfl, rfl⟩; go_simp; exact hK.out _ _ rfl (Below.refl _ _)
                      · intro a wx hB hold hdep K hK
                        obtain ⟨v78, t78, p78⟩ := hdep 11 rfl _ 78 rfl rfl; have e78 : v78 = (.bool bb) := p78; subst e78; clear hold hdep; go_simp; exact hK.out _ _ rfl (Below.refl _ _)
                    · intro a wx hB hold hgot
                      obtain ⟨vS, tvS, pvS⟩ := hgot 12 _ 79 rfl rfl; have evS : vS = (.bool (!bb)) := pvS; subst evS; have HBx : Hid (Below wr.heap.size wr wx) := hB; have HAx : Hid (wx.heap[OB]? = some (b6 false r1 q2 q3 false r5)) := below_keep hB HA3.out; have HB4 : Hid (Below w1.heap.size w1 wx) := below_join HB3.out hB; obtain ⟨tm, df⟩ := a; (obtain ⟨ys, hys, htm, rfl⟩ := frame_mid2 67 13 (by kernel_rfl) (Nat.le_of_ble_eq_true rfl) hold); obtain ⟨x67, x68, x69, x70, x71, x72, x73, x74, x75, x76, x77, x78, x79, rfl⟩ := rowS13 ys hys; simp only [List.take_succ_cons, List.take_zero, List.drop_succ_cons, List.drop_zero, List.cons_append, List.nil_append] at htm; subst htm; obtain rfl : x79 = _ := someInjM tvS; clear hys hold hgot tvS hB HB3 HA3
                      cases bb with
                      | true =>
                        go_wp2_with fail
                        go_roundg (SV.length - (k + 1))
                        case measure => have := HGr.out; have := HK3.out; omega
                        case rel => exact ⟨k + 1, HK3.out, rfl, by go_num, by rw [HN3.out, HR1.out, HR5.out]; simpa using HAx, HB4⟩
                      | false =>
                        obtain ⟨⟨o0, o1, o2, o3, o4, o5⟩, z0, z1, z2, z3, z4, z5⟩ := b6_cells HAx.out; have q9 := b6_cells (b6_set1 HAx.out); obtain ⟨⟨u0, u1, u2, u3, u4, u5⟩, x0, x1, x2, x3, x4, x5⟩ := q9; go_wp2_with fail; obtain ⟨Y, hY⟩ : ∃ Y, Y = ((wx.setCell ⟨OB, 1, none⟩ (.bool false)).setCell ⟨OB, 5, none⟩ (.bool false)) := ⟨_, rfl⟩; (have HYA : Hid (Y.heap[OB]? = some (b6 false false q2 q3 false false)) := by rw [hY]; exact (b6_set5 (b6_set1 HAx.out))); (have HYB : Hid (Below w1.heap.size w1 Y) := by rw [hY]; exact ((HB4.out.setCell (p := ⟨OB, 1, none⟩) (by have := HO.out; simp; omega) _).setCell (p := ⟨OB, 5, none⟩) (by have := HO.out; simp; omega) _)); rw [← hY]; clear hY o0 o1 o2 o3 o4 o5 z0 z1 z2 z3 z4 z5 u0 u1 u2 u3 u4 u5 x0 x1 x2 x3 x4 x5
                        go_roundg (SV.length - (k + 1))
                        case measure => have := HGr.out; have := HK3.out; omega
                        case rel => exact ⟨k + 1, HK3.out, rfl, by go_num, by rw [HN3.out, HR1.out, HR5.out]; simpa using HYA, HYB⟩
                  · have hkk : k = SV.length := by omega
                    subst hkk; (have hge : ¬ (SV.length : Int) < (SV.length : Int) := by omega); rw [List.take_length] at HA3; clear hlt hk; go_wp2_with fail; clear d1 d3; have HZA := HA3; have HZB := HB3; obtain ⟨s1, hs1⟩ : ∃ s, s = (q1 && SV.all GG) := ⟨_, rfl⟩; obtain ⟨s5, hs5⟩ : ∃ s, s = (q5 && SV.all GG) := ⟨_, rfl⟩; rw [← hs1] at HE1; rw [← hs5] at HE5; rw [← hs1, ← hs5] at HZA; clear hs1 hs5 HGG HA3 HB3 hge HX3 HV3c; (obtain ⟨GG, hGG⟩ : ∃ GG : Nat → Bool, GG = fun y => decide (y ∈ SV) := ⟨_, rfl⟩); (have HGG : Hid (∀ y, GG y = decide (y ∈ SV)) := fun y => by rw [hGG]); rw [← hGG] at HE3; clear hGG
                    go_loopg [9] SX.length (fun gg cc wr => ∃ k, k ≤ SX.length ∧ gg = SX.length - k ∧ cc = .int .i64 (k : Nat) ∧ Hid (wr.heap[OB]? = some (b6 false s1 q2 (q3 && (SX.take k).all GG) false s5)) ∧ Hid (Below w1.heap.size w1 wr))
                    case atStart => exact ⟨0, by omega, by omega, rfl, by simpa using HZA, HZB⟩
                    case round =>
                      obtain ⟨k, hk, hg, rfl, HA3, HB3⟩ := hrel; have HGr : Hid (gk = SX.length - k) := hg; clear hg; have HX3 : Hid (wr.cell? ⟨g, u, none⟩ = some (.slice (some ⟨bs, 0, none⟩) SX.length sc)) := (HB3.out.cell (lt_of_cell HC0.out)).trans HC0.out; have HV3c : Hid (wr.cell? ⟨g, nv, none⟩ = some (.slice va SV.length vc)) := (HB3.out.cell (lt_of_cell HV0.out)).trans HV0.out; have d1 := HX3.out; have d3 := HV3c.out; by_cases hlt : k < SX.length
                      · obtain ⟨ny, hny⟩ : ∃ v, SX[k]? = some v := ⟨_, List.getElem?_eq_getElem hlt⟩
                        have HNy : Hid (wr.cell? ⟨bs, k, none⟩ = some (.int .i64 (ny : Nat))) := (HB3.out.cell (lt_of_cell (HCs.out k ny hny))).trans (HCs.out k ny hny); (have hkI : (k : Int) < (SX.length : Int) := by omega); (have hkC : (k : Int) < (sc : Int) := by omega); have HK3 : Hid (k < SX.length) := hlt; (have HMb : Hid (∀ W, Below w1.heap.size w1 W → Calls Try.prog 44 #[(.slice va SV.length vc), .int .i64 (ny : Nat)] W fun e w' => e = .returned (.bool (GG ny)) ∧ w' = W) := fun W hb => by rw [HGG.out]; exact HMv.out W hb ny); (have HN3 : Hid ((SX.take (k + 1)).all GG = ((SX.take k).all GG && GG ny)) := by show _ = _; rw [List.take_add_one, hny]; simp); generalize GG ny = bb at HMb HN3; obtain ⟨r3, hr3⟩ : ∃ r, r = (q3 && (SX.take k).all GG) := ⟨_, rfl⟩; rw [← hr3] at HA3; (have HR3 : Hid ((q3 && ((SX.take k).all GG && bb)) = (r3 && bb)) := by show _ = _; rw [hr3, Bool.and_assoc]); clear hr3; clear hlt hk hny; go_wp2_with fail; clear d1 d3; (refine wp_region_free (by kernel_rfl) [fun v _ => v = (.slice (some ⟨g, 0, none⟩) N N), fun v _ => v = (.int .i64 (nv : Nat)), fun v _ => v = (.pointer (some ⟨g, nv, none⟩)), fun v _ => v = (.slice va SV.length vc), fun v _ => v = (.slice (some ⟨g, 0, none⟩) N N), fun v _ => v = (.int .i64 (u : Nat)), fun v _ => v = (.pointer (some ⟨g, u, none⟩)), fun v _ => v = (.slice (some ⟨bs, 0, none⟩) SX.length sc), fun v _ => v = (.int .i64 (k : Nat)), fun v _ => v = (.pointer (some ⟨bs, k, none⟩)), fun v _ => v = (.int .i64 (ny : Nat)), fun v _ => v = (.bool bb), fun v _ => v = (.bool (!bb))] ?_ (by kernel_rfl) (by kernel_rfl) 106 rfl (by kernel_rfl) ?_ ?_)
                        · intro p hp
                          simp only [List.mem_cons, List.not_mem_nil, or_false] at hp
                          rcases hp with rfl | rfl | rfl | rfl | rfl | rfl | rfl | rfl | rfl | rfl | rfl | rfl | rfl
                          · exact fun _ _ _ h _ => h
                          · exact fun _ _ _ h _ => h
                          · exact fun _ _ _ h _ => h
                          · exact fun _ _ _ h _ => h
                          · exact fun _ _ _ h _ => h
                          · exact fun _ _ _ h _ => h
                          · exact fun _ _ _ h _ => h
                          · exact fun _ _ _ h _ => h
                          · exact fun _ _ _ h _ => h
                          · exact fun _ _ _ h _ => h
                          · exact fun _ _ _ h _ => h
                          · exact fun _ _ _ h _ => h
                          · exact fun _ _ _ h _ => h
                        · refine ⟨?_, ?_, ?_, ?_, ?_, ?_, ?_, ?_, ?_, ?_, ?_, ?_, ?_, trivial⟩
                          · intro a wx hB hold hdep K hK
                            have t3 : a.tmps[3]? = some (.slice (some ⟨g, 0, none⟩) N N) := hold.2.2 3 rfl; clear hold hdep; go_simp; exact hK.out _ _ rfl (Below.refl _ _)
                          · intro a wx hB hold hdep K hK
                            have t7 : a.tmps[7]? = some (.int .i64 (nv : Nat)) := hold.2.2 7 rfl; clear hold hdep; go_simp; exact hK.out _ _ rfl (Below.refl _ _)
                          · intro a wx hB hold hdep K hK
                            obtain ⟨v91, t91, p91⟩ := hdep 0 rfl _ 91 rfl rfl; have e91 : v91 = (.slice (some ⟨g, 0, none⟩) N N) := p91; subst e91; obtain ⟨v92, t92, p92⟩ := hdep 1 rfl _ 92 rfl rfl; have e92 : v92 = (.int .i64 (nv : Nat)) := p92; subst e92; clear hold hdep; go_simp; exact hK.out _ _ rfl (Below.refl _ _)
                          · intro a wx hB hold hdep K hK
                            obtain ⟨v93, t93, p93⟩ := hdep 2 rfl _ 93 rfl rfl; have e93 : v93 = (.pointer (some ⟨g, nv, none⟩)) := p93; subst e93; have c9 := (hB.cell (lt_of_cell HV3c.out)).trans HV3c.out; clear hold hdep; go_simp; exact hK.out _ _ rfl (Below.refl _ _)
                          · intro a wx hB hold hdep K hK
                            have t3 : a.tmps[3]? = some (.slice (some ⟨g, 0, none⟩) N N) := hold.2.2 3 rfl; clear hold hdep; go_simp; exact hK.out _ _ rfl (Below.refl _ _)
                          · intro a wx hB hold hdep K hK
                            have t5 : a.tmps[5]? = some (.int .i64 (u : Nat)) := hold.2.2 5 rfl; clear hold hdep; go_simp; exact hK.out _ _ rfl (Below.refl _ _)
                          · intro a wx hB hold hdep K hK
                            obtain ⟨v95, t95, p95⟩ := hdep 4 rfl _ 95 rfl rfl; have e95 : v95 = (.slice (some ⟨g, 0, none⟩) N N) := p95; subst e95; obtain ⟨v96, t96, p96⟩ := hdep 5 rfl _ 96 rfl rfl; have e96 : v96 = (.int .i64 (u : Nat)) := p96; subst e96; clear hold hdep; go_simp; exact hK.out _ _ rfl (Below.refl _ _)
                          · intro a wx hB hold hdep K hK
                            obtain ⟨v97, t97, p97⟩ := hdep 6 rfl _ 97 rfl rfl; have e97 : v97 = (.pointer (some ⟨g, u, none⟩)) := p97; subst e97; have c9 := (hB.cell (lt_of_cell HX3.out)).trans HX3.out; clear hold hdep; go_simp; exact hK.out _ _ rfl (Below.refl _ _)
                          · intro a wx hB hold hdep K hK
                            have t9 : a.tmps[9]? = some (.int .i64 (k : Nat)) := hold.2.2 9 rfl; clear hold hdep; go_simp; exact hK.out _ _ rfl (Below.refl _ _)
                          · intro a wx hB hold hdep K hK
                            obtain ⟨v98, t98, p98⟩ := hdep 7 rfl _ 98 rfl rfl; have e98 : v98 = (.slice (some ⟨bs, 0, none⟩) SX.length sc) := p98; subst e98; obtain ⟨v99, t99, p99⟩ := hdep 8 rfl _ 99 rfl rfl; have e99 : v99 = (.int .i64 (k : Nat)) := p99; subst e99; clear hold hdep; go_simp; exact hK.out _ _ rfl (Below.refl _ _)
                          · intro a wx hB hold hdep K hK
                            obtain ⟨v100, t100, p100⟩ := hdep 9 rfl _ 100 rfl rfl; have e100 : v100 = (.pointer (some ⟨bs, k, none⟩)) := p100; subst e100; have c9 := (hB.cell (lt_of_cell HNy.out)).trans HNy.out; clear hold hdep; go_simp; exact hK.out _ _ rfl (Below.refl _ _)
                          · intro a wx hB hold hdep K hK
                            obtain ⟨v94, t94, p94⟩ := hdep 3 rfl _ 94 rfl rfl; have e94 : v94 = (.slice va SV.length vc) := p94; subst e94; obtain ⟨v101, t101, p101⟩ := hdep 10 rfl _ 101 rfl rfl; have e101 : v101 = (.int .i64 (ny : Nat)) := p101; subst e101; have HW : Hid (Calls Try.prog 44 #[(.slice va SV.length vc), .int .i64 (ny : Nat)] wx _) := HMb.out wx (below_join HB3.out hB); clear hold hdep; go_simp; refine HW.out.mono ?_; rintro _ w9 ⟨rfl, rfl⟩; go_simp; exact hK.out _ _ rfl (Below.refl _ _)
                          · intro a wx hB hold hdep K hK
                            obtain ⟨v102, t102, p102⟩ := hdep 11 rfl _ 102 rfl rfl; have e102 : v102 = (.bool bb) := p102; subst e102; clear hold hdep; go_simp; exact hK.out _ _ rfl (Below.refl _ _)
                        · intro a wx hB hold hgot
                          obtain ⟨vS, tvS, pvS⟩ := hgot 12 _ 103 rfl rfl; have evS : vS = (.bool (!bb)) := pvS; subst evS; have HBx : Hid (Below wr.heap.size wr wx) := hB; have HAx : Hid (wx.heap[OB]? = some (b6 false s1 q2 r3 false s5)) := below_keep hB HA3.out; have HB4 : Hid (Below w1.heap.size w1 wx) := below_join HB3.out hB; obtain ⟨tm, df⟩ := a; (obtain ⟨ys, hys, htm, rfl⟩ := frame_mid2 91 13 (by kernel_rfl) (Nat.le_of_ble_eq_true rfl) hold); obtain ⟨x91, x92, x93, x94, x95, x96, x97, x98, x99, x100, x101, x102, x103, rfl⟩ := rowS13 ys hys; simp only [List.take_succ_cons, List.take_zero, List.drop_succ_cons, List.drop_zero, List.cons_append, List.nil_append] at htm; subst htm; obtain rfl : x103 = _ := someInjM tvS; clear hys hold hgot tvS hB HB3 HA3
                          cases bb with
                          | true =>
                            go_wp2_with fail
                            go_roundg (SX.length - (k + 1))
                            case measure => have := HGr.out; have := HK3.out; omega
                            case rel => exact ⟨k + 1, HK3.out, rfl, by go_num, by rw [HN3.out, HR3.out]; simpa using HAx, HB4⟩
                          | false =>
                            obtain ⟨⟨o0, o1, o2, o3, o4, o5⟩, z0, z1, z2, z3, z4, z5⟩ := b6_cells HAx.out; go_wp2_with fail; obtain ⟨Y, hY⟩ : ∃ Y, Y = (wx.setCell ⟨OB, 3, none⟩ (.bool false)) := ⟨_, rfl⟩; (have HYA : Hid (Y.heap[OB]? = some (b6 false s1 q2 false false s5)) := by rw [hY]; exact (b6_set3 HAx.out)); (have HYB : Hid (Below w1.heap.size w1 Y) := by rw [hY]; exact (HB4.out.setCell (p := ⟨OB, 3, none⟩) (by have := HO.out; simp; omega) _)); rw [← hY]; clear hY o0 o1 o2 o3 o4 o5 z0 z1 z2 z3 z4 z5
                            go_roundg (SX.length - (k + 1))
                            case measure => have := HGr.out; have := HK3.out; omega
                            case rel => exact ⟨k + 1, HK3.out, rfl, by go_num, by rw [HN3.out, HR3.out]; simpa using HYA, HYB⟩
                      · have hkk : k = SX.length := by omega
                        subst hkk; (have hge : ¬ (SX.length : Int) < (SX.length : Int) := by omega); rw [List.take_length] at HA3; clear hlt hk; go_wp2_with fail
                        go_roundg (SX.length - (i + 1))
                        case measure => have := HGq.out; have := HI.out; omega
                        case rel => exact ⟨i + 1, HI.out, rfl, by go_num, by rw [HE1.out, HE2.out, HE3.out, HE5.out]; simpa using HA3, HB3⟩
              | false =>
                obtain ⟨⟨o0, o1, o2, o3, o4, o5⟩, z0, z1, z2, z3, z4, z5⟩ := b6_cells HA2.out; go_wp2_with fail; obtain ⟨Z, hZ⟩ : ∃ Z, Z = wr.setCell ⟨OB, 2, none⟩ (.bool false) := ⟨_, rfl⟩; (have HZA : Hid (Z.heap[OB]? = some (b6 false q1 false q3 false q5)) := by rw [hZ]; exact b6_set2 HA2.out); (have HZB : Hid (Below w1.heap.size w1 Z) := by rw [hZ]; exact HB2.out.setCell (p := ⟨OB, 2, none⟩) (by have := HO.out; simp; omega) _); rw [← hZ]; clear hZ o0 o1 o2 o3 o4 o5 z0 z1 z2 z3 z4 z5 d1 d2 d3 HA2 HB2; (obtain ⟨GG, hGG⟩ : ∃ GG : Nat → Bool, GG = fun y => decide (y ∈ SX) := ⟨_, rfl⟩); (have HGG : Hid (∀ y, GG y = decide (y ∈ SX)) := fun y => by rw [hGG]); rw [← hGG] at HE1 HE5; clear hGG
                go_loopg [8] SV.length (fun gg cc wr => ∃ k, k ≤ SV.length ∧ gg = SV.length - k ∧ cc = .int .i64 (k : Nat) ∧ Hid (wr.heap[OB]? = some (b6 false (q1 && (SV.take k).all GG) false q3 false (q5 && (SV.take k).all GG))) ∧ Hid (Below w1.heap.size w1 wr))
                case atStart => exact ⟨0, by omega, by omega, rfl, by simpa using HZA, HZB⟩
                case round =>
                  obtain ⟨k, hk, hg, rfl, HA3, HB3⟩ := hrel; have HGr : Hid (gk = SV.length - k) := hg; clear hg; have HX3 : Hid (wr.cell? ⟨g, u, none⟩ = some (.slice (some ⟨bs, 0, none⟩) SX.length sc)) := (HB3.out.cell (lt_of_cell HC0.out)).trans HC0.out; have HV3c : Hid (wr.cell? ⟨g, nv, none⟩ = some (.slice va SV.length vc)) := (HB3.out.cell (lt_of_cell HV0.out)).trans HV0.out; have d1 := HX3.out; have d3 := HV3c.out; by_cases hlt : k < SV.length
                  · obtain ⟨ny, hny⟩ : ∃ v, SV[k]? = some v := ⟨_, List.getElem?_eq_getElem hlt⟩
                    (obtain ⟨bv, rfl, hcv⟩ := HV3.out (by omega)); have HNy : Hid (wr.cell? ⟨bv, k, none⟩ = some (.int .i64 (ny : Nat))) := (HB3.out.cell (lt_of_cell (hcv k ny hny))).trans (hcv k ny hny); clear hcv; (have hkI : (k : Int) < (SV.length : Int) := by omega); (have hkC : (k : Int) < (vc : Int) := by omega); have HK3 : Hid (k < SV.length) := hlt; (have HMb : Hid (∀ W, Below w1.heap.size w1 W → Calls Try.prog 44 #[(.slice (some ⟨bs, 0, none⟩) SX.length sc), .int .i64 (ny : Nat)] W fun e w' => e = .returned (.bool (GG ny)) ∧ w' = W) := fun W hb => by rw [HGG.out]; exact HMe.out W hb ny); (have HN3 : Hid ((SV.take (k + 1)).all GG = ((SV.take k).all GG && GG ny)) := by show _ = _; rw [List.take_add_one, hny]; simp); generalize GG ny = bb at HMb HN3; obtain ⟨r1, hr1⟩ : ∃ r, r = (q1 && (SV.take k).all GG) := ⟨_, rfl⟩; obtain ⟨r5, hr5⟩ : ∃ r, r = (q5 && (SV.take k).all GG) := ⟨_, rfl⟩; rw [← hr1, ← hr5] at HA3; (have HR1 : Hid ((q1 && ((SV.take k).all GG && bb)) = (r1 && bb)) := by show _ = _; rw [hr1, Bool.and_assoc]); (have HR5 : Hid ((q5 && ((SV.take k).all GG && bb)) = (r5 && bb)) := by show _ = _; rw [hr5, Bool.and_assoc]); clear hr1 hr5; clear hlt hk hny; go_wp2_with fail; clear d1 d3; (refine wp_region_free (by kernel_rfl) [fun v _ => v = (.slice (some ⟨g, 0, none⟩) N N), fun v _ => v = (.int .i64 (u : Nat)), fun v _ => v = (.pointer (some ⟨g, u, none⟩)), fun v _ => v = (.slice (some ⟨bs, 0, none⟩) SX.length sc), fun v _ => v = (.slice (some ⟨g, 0, none⟩) N N), fun v _ => v = (.int .i64 (nv : Nat)), fun v _ => v = (.pointer (some ⟨g, nv, none⟩)), fun v _ => v = (.slice (some ⟨bv, 0, none⟩) SV.length vc), fun v _ => v = (.int .i64 (k : Nat)), fun v _ => v = (.pointer (some ⟨bv, k, none⟩)), fun v _ => v = (.int .i64 (ny : Nat)), fun v _ => v = (.bool bb), fun v _ => v = (.bool (!bb))] ?_ (by kernel_rfl) (by kernel_rfl) 106 rfl (by kernel_rfl) ?_ ?_)
                    · intro p hp
                      simp only [List.mem_cons, List.not_mem_nil, or_false] at hp
                      rcases hp with rfl | rfl | rfl | rfl | rfl | rfl | rfl | rfl | rfl | rfl | rfl | rfl | rfl
                      · exact fun _ _ _ h _ => h
                      · exact fun _ _ _ h _ => h
                      · exact fun _ _ _ h _ => h
                      · exact fun _ _ _ h _ => h
                      · exact fun _ _ _ h _ => h
                      · exact fun _ _ _ h _ => h
                      · exact fun _ _ _ h _ => h
                      · exact fun _ _ _ h _ => h
                      · exact fun _ _ _ h _ => h
                      · exact fun _ _ _ h _ => h
                      · exact fun _ _ _ h _ => h
                      · exact fun _ _ _ h _ => h
                      · exact fun _ _ _ h _ => h
                    · refine ⟨?_, ?_, ?_, ?_, ?_, ?_, ?_, ?_, ?_, ?_, ?_, ?_, ?_, trivial⟩
                      · intro a wx hB hold hdep K hK
                        have t3 : a.tmps[3]? = some (.slice (some ⟨g, 0, none⟩) N N) := hold.2.2 3 rfl; clear hold hdep; go_simp; exact hK.out _ _ rfl (Below.refl _ _)
                      · intro a wx hB hold hdep K hK
                        have t5 : a.tmps[5]? = some (.int .i64 (u : Nat)) := hold.2.2 5 rfl; clear hold hdep; go_simp; exact hK.out _ _ rfl (Below.refl _ _)
                      · intro a wx hB hold hdep K hK
                        obtain ⟨v67, t67, p67⟩ := hdep 0 rfl _ 67 rfl rfl; have e67 : v67 = (.slice (some ⟨g, 0, none⟩) N N) := p67; subst e67; obtain ⟨v68, t68, p68⟩ := hdep 1 rfl _ 68 rfl rfl; have e68 : v68 = (.int .i64 (u : Nat)) := p68; subst e68; clear hold hdep; go_simp; exact hK.out _ _ rfl (Below.refl _ _)
                      · intro a wx hB hold hdep K hK
                        obtain ⟨v69, t69, p69⟩ := hdep 2 rfl _ 69 rfl rfl; have e69 : v69 = (.pointer (some ⟨g, u, none⟩)) := p69; subst e69; have c9 := (hB.cell (lt_of_cell HX3.out)).trans HX3.out; clear hold hdep; go_simp; exact hK.out _ _ rfl (Below.refl _ _)
                      · intro a wx hB hold hdep K hK
                        have t3 : a.tmps[3]? = some (.slice (some ⟨g, 0, none⟩) N N) := hold.2.2 3 rfl; clear hold hdep; go_simp; exact hK.out _ _ rfl (Below.refl _ _)
                      · intro a wx hB hold hdep K hK
                        have t7 : a.tmps[7]? = some (.int .i64 (nv : Nat)) := hold.2.2 7 rfl; clear hold hdep; go_simp; exact hK.out _ _ rfl (Below.refl _ _)
                      · intro a wx hB hold hdep K hK
                        obtain ⟨v71, t71, p71⟩ := hdep 4 rfl _ 71 rfl rfl; have e71 : v71 = (.slice (some ⟨g, 0, none⟩) N N) := p71; subst e71; obtain ⟨v72, t72, p72⟩ := hdep 5 rfl _ 72 rfl rfl; have e72 : v72 = (.int .i64 (nv : Nat)) := p72; subst e72; clear hold hdep; go_simp; exact hK.out _ _ rfl (Below.refl _ _)
                      · intro a wx hB hold hdep K hK
                        obtain ⟨v73, t73, p73⟩ := hdep 6 rfl _ 73 rfl rfl; have e73 : v73 = (.pointer (some ⟨g, nv, none⟩)) := p73; subst e73; have c9 := (hB.cell (lt_of_cell HV3c.out)).trans HV3c.out; clear hold hdep; go_simp; exact hK.out _ _ rfl (Below.refl _ _)
                      · intro a wx hB hold hdep K hK
                        have t8 : a.tmps[8]? = some (.int .i64 (k : Nat)) := hold.2.2 8 rfl; clear hold hdep; go_simp; exact hK.out _ _ rfl (Below.refl _ _)
                      · intro a wx hB hold hdep K hK
                        obtain ⟨v74, t74, p74⟩ := hdep 7 rfl _ 74 rfl rfl; have e74 : v74 = (.slice (some ⟨bv, 0, none⟩) SV.length vc) := p74; subst e74; obtain ⟨v75, t75, p75⟩ := hdep 8 rfl _ 75 rfl rfl; have e75 : v75 = (.int .i64 (k : Nat)) := p75; subst e75; clear hold hdep; go_simp; exact hK.out _ _ rfl (Below.refl _ _)
                      · intro a wx hB hold hdep K hK
                        obtain ⟨v76, t76, p76⟩ := hdep 9 rfl _ 76 rfl rfl; have e76 : v76 = (.pointer (some ⟨bv, k, none⟩)) := p76; subst e76; have c9 := (hB.cell (lt_of_cell HNy.out)).trans HNy.out; clear hold hdep; go_simp; exact hK.out _ _ rfl (Below.refl _ _)
                      · intro a wx hB hold hdep K hK
                        obtain ⟨v70, t70, p70⟩ := hdep 3 rfl _ 70 rfl rfl; have e70 : v70 = (.slice (some ⟨bs, 0, none⟩) SX.length sc) := p70; subst e70; obtain ⟨v77, t77, p77⟩ := hdep 10 rfl _ 77 rfl rfl; have e77 : v77 = (.int .i64 (ny : Nat)) := p77; subst e77; have HW : Hid (Calls Try.prog 44 #[(.slice (some ⟨bs, 0, none⟩) SX.length sc), .int .i64 (ny : Nat)] wx _) := HMb.out wx (below_join HB3.out hB); clear hold hdep; go_simp; refine HW.out.mono ?_; rintro _ w9 ⟨rfl, rfl⟩; go_simp; exact hK.out _ _ rfl (Below.refl _ _)
                      · intro a wx hB hold hdep K hK
                        obtain ⟨v78, t78, p78⟩ := hdep 11 rfl _ 78 rfl rfl; have e78 : v78 = (.bool bb) := p78; subst e78; clear hold hdep; go_simp; exact hK.out _ _ rfl (Below.refl _ _)
                    · intro a wx hB hold hgot
                      obtain ⟨vS, tvS, pvS⟩ := hgot 12 _ 79 rfl rfl; have evS : vS = (.bool (!bb)) := pvS; subst evS; have HBx : Hid (Below wr.heap.size wr wx) := hB; have HAx : Hid (wx.heap[OB]? = some (b6 false r1 false q3 false r5)) := below_keep hB HA3.out; have HB4 : Hid (Below w1.heap.size w1 wx) := below_join HB3.out hB; obtain ⟨tm, df⟩ := a; (obtain ⟨ys, hys, htm, rfl⟩ := frame_mid2 67 13 (by kernel_rfl) (Nat.le_of_ble_eq_true rfl) hold); obtain ⟨x67, x68, x69, x70, x71, x72, x73, x74, x75, x76, x77, x78, x79, rfl⟩ := rowS13 ys hys; simp only [List.take_succ_cons, List.take_zero, List.drop_succ_cons, List.drop_zero, List.cons_append, List.nil_append] at htm; subst htm; obtain rfl : x79 = _ := someInjM tvS; clear hys hold hgot tvS hB HB3 HA3
                      cases bb with
                      | true =>
                        go_wp2_with fail
                        go_roundg (SV.length - (k + 1))
                        case measure => have := HGr.out; have := HK3.out; omega
                        case rel => exact ⟨k + 1, HK3.out, rfl, by go_num, by rw [HN3.out, HR1.out, HR5.out]; simpa using HAx, HB4⟩
                      | false =>
                        obtain ⟨⟨o0, o1, o2, o3, o4, o5⟩, z0, z1, z2, z3, z4, z5⟩ := b6_cells HAx.out; have q9 := b6_cells (b6_set1 HAx.out); obtain ⟨⟨u0, u1, u2, u3, u4, u5⟩, x0, x1, x2, x3, x4, x5⟩ := q9; go_wp2_with fail; obtain ⟨Y, hY⟩ : ∃ Y, Y = ((wx.setCell ⟨OB, 1, none⟩ (.bool false)).setCell ⟨OB, 5, none⟩ (.bool false)) := ⟨_, rfl⟩; (have HYA : Hid (Y.heap[OB]? = some (b6 false false false q3 false false)) := by rw [hY]; exact (b6_set5 (b6_set1 HAx.out))); (have HYB : Hid (Below w1.heap.size w1 Y) := by rw [hY]; exact ((HB4.out.setCell (p := ⟨OB, 1, none⟩) (by have := HO.out; simp; omega) _).setCell (p := ⟨OB, 5, none⟩) (by have := HO.out; simp; omega) _)); rw [← hY]; clear hY o0 o1 o2 o3 o4 o5 z0 z1 z2 z3 z4 z5 u0 u1 u2 u3 u4 u5 x0 x1 x2 x3 x4 x5
                        go_roundg (SV.length - (k + 1))
                        case measure => have := HGr.out; have := HK3.out; omega
                        case rel => exact ⟨k + 1, HK3.out, rfl, by go_num, by rw [HN3.out, HR1.out, HR5.out]; simpa using HYA, HYB⟩
                  · have hkk : k = SV.length := by omega
                    subst hkk; (have hge : ¬ (SV.length : Int) < (SV.length : Int) := by omega); rw [List.take_length] at HA3; clear hlt hk; go_wp2_with fail; clear d1 d3; have HZA := HA3; have HZB := HB3; obtain ⟨s1, hs1⟩ : ∃ s, s = (q1 && SV.all GG) := ⟨_, rfl⟩; obtain ⟨s5, hs5⟩ : ∃ s, s = (q5 && SV.all GG) := ⟨_, rfl⟩; rw [← hs1] at HE1; rw [← hs5] at HE5; rw [← hs1, ← hs5] at HZA; clear hs1 hs5 HGG HA3 HB3 hge HX3 HV3c; (obtain ⟨GG, hGG⟩ : ∃ GG : Nat → Bool, GG = fun y => decide (y ∈ SV) := ⟨_, rfl⟩); (have HGG : Hid (∀ y, GG y = decide (y ∈ SV)) := fun y => by rw [hGG]); rw [← hGG] at HE3; clear hGG
                    go_loopg [9] SX.length (fun gg cc wr => ∃ k, k ≤ SX.length ∧ gg = SX.length - k ∧ cc = .int .i64 (k : Nat) ∧ Hid (wr.heap[OB]? = some (b6 false s1 false (q3 && (SX.take k).all GG) false s5)) ∧ Hid (Below w1.heap.size w1 wr))
                    case atStart => exact ⟨0, by omega, by omega, rfl, by simpa using HZA, HZB⟩
                    case round =>
                      obtain ⟨k, hk, hg, rfl, HA3, HB3⟩ := hrel; have HGr : Hid (gk = SX.length - k) := hg; clear hg; have HX3 : Hid (wr.cell? ⟨g, u, none⟩ = some (.slice (some ⟨bs, 0, none⟩) SX.length sc)) := (HB3.out.cell (lt_of_cell HC0.out)).trans HC0.out; have HV3c : Hid (wr.cell? ⟨g, nv, none⟩ = some (.slice va SV.length vc)) := (HB3.out.cell (lt_of_cell HV0.out)).trans HV0.out; have d1 := HX3.out; have d3 := HV3c.out; by_cases hlt : k < SX.length
                      · obtain ⟨ny, hny⟩ : ∃ v, SX[k]? = some v := ⟨_, List.getElem?_eq_getElem hlt⟩
                        have HNy : Hid (wr.cell? ⟨bs, k, none⟩ = some (.int .i64 (ny : Nat))) := (HB3.out.cell (lt_of_cell (HCs.out k ny hny))).trans (HCs.out k ny hny); (have hkI : (k : Int) < (SX.length : Int) := by omega); (have hkC : (k : Int) < (sc : Int) := by omega); have HK3 : Hid (k < SX.length) := hlt; (have HMb : Hid (∀ W, Below w1.heap.size w1 W → Calls Try.prog 44 #[(.slice va SV.length vc), .int .i64 (ny : Nat)] W fun e w' => e = .returned (.bool (GG ny)) ∧ w' = W) := fun W hb => by rw [HGG.out]; exact HMv.out W hb ny); (have HN3 : Hid ((SX.take (k + 1)).all GG = ((SX.take k).all GG && GG ny)) := by show _ = _; rw [List.take_add_one, hny]; simp); generalize GG ny = bb at HMb HN3; obtain ⟨r3, hr3⟩ : ∃ r, r = (q3 && (SX.take k).all GG) := ⟨_, rfl⟩; rw [← hr3] at HA3; (have HR3 : Hid ((q3 && ((SX.take k).all GG && bb)) = (r3 && bb)) := by show _ = _; rw [hr3, Bool.and_assoc]); clear hr3; clear hlt hk hny; go_wp2_with fail; clear d1 d3; (refine wp_region_free (by kernel_rfl) [fun v _ => v = (.slice (some ⟨g, 0, none⟩) N N), fun v _ => v = (.int .i64 (nv : Nat)), fun v _ => v = (.pointer (some ⟨g, nv, none⟩)), fun v _ => v = (.slice va SV.length vc), fun v _ => v = (.slice (some ⟨g, 0, none⟩) N N), fun v _ => v = (.int .i64 (u : Nat)), fun v _ => v = (.pointer (some ⟨g, u, none⟩)), fun v _ => v = (.slice (some ⟨bs, 0, none⟩) SX.length sc), fun v _ => v = (.int .i64 (k : Nat)), fun v _ => v = (.pointer (some ⟨bs, k, none⟩)), fun v _ => v = (.int .i64 (ny : Nat)), fun v _ => v = (.bool bb), fun v _ => v = (.bool (!bb))] ?_ (by kernel_rfl) (by kernel_rfl) 106 rfl (by kernel_rfl) ?_ ?_)
                        · intro p hp
                          simp only [List.mem_cons, List.not_mem_nil, or_false] at hp
                          rcases hp with rfl | rfl | rfl | rfl | rfl | rfl | rfl | rfl | rfl | rfl | rfl | rfl | rfl
                          · exact fun _ _ _ h _ => h
                          · exact fun _ _ _ h _ => h
                          · exact fun _ _ _ h _ => h
                          · exact fun _ _ _ h _ => h
                          · exact fun _ _ _ h _ => h
                          · exact fun _ _ _ h _ => h
                          · exact fun _ _ _ h _ => h
                          · exact fun _ _ _ h _ => h
                          · exact fun _ _ _ h _ => h
                          · exact fun _ _ _ h _ => h
                          · exact fun _ _ _ h _ => h
                          · exact fun _ _ _ h _ => h
                          · exact fun _ _ _ h _ => h
                        · refine ⟨?_, ?_, ?_, ?_, ?_, ?_, ?_, ?_, ?_, ?_, ?_, ?_, ?_, trivial⟩
                          · intro a wx hB hold hdep K hK
                            have t3 : a.tmps[3]? = some (.slice (some ⟨g, 0, none⟩) N N) := hold.2.2 3 rfl; clear hold hdep; go_simp; exact hK.out _ _ rfl (Below.refl _ _)
                          · intro a wx hB hold hdep K hK
                            have t7 : a.tmps[7]? = some (.int .i64 (nv : Nat)) := hold.2.2 7 rfl; clear hold hdep; go_simp; exact hK.out _ _ rfl (Below.refl _ _)
                          · intro a wx hB hold hdep K hK
                            obtain ⟨v91, t91, p91⟩ := hdep 0 rfl _ 91 rfl rfl; have e91 : v91 = (.slice (some ⟨g, 0, none⟩) N N) := p91; subst e91; obtain ⟨v92, t92, p92⟩ := hdep 1 rfl _ 92 rfl rfl; have e92 : v92 = (.int .i64 (nv : Nat)) := p92; subst e92; clear hold hdep; go_simp; exact hK.out _ _ rfl (Below.refl _ _)
                          · intro a wx hB hold hdep K hK
                            obtain ⟨v93, t93, p93⟩ := hdep 2 rfl _ 93 rfl rfl; have e93 : v93 = (.pointer (some ⟨g, nv, none⟩)) := p93; subst e93; have c9 := (hB.cell (lt_of_cell HV3c.out)).trans HV3c.out; clear hold hdep; go_simp; exact hK.out _ _ rfl (Below.refl _ _)
                          · intro a wx hB hold hdep K hK
                            have t3 : a.tmps[3]? = some (.slice (some ⟨g, 0, none⟩) N N) := hold.2.2 3 rfl; clear hold hdep; go_simp; exact hK.out _ _ rfl (Below.refl _ _)
                          · intro a wx hB hold hdep K hK
                            have t5 : a.tmps[5]? = some (.int .i64 (u : Nat)) := hold.2.2 5 rfl; clear hold hdep; go_simp; exact hK.out _ _ rfl (Below.refl _ _)
                          · intro a wx hB hold hdep K hK
                            obtain ⟨v95, t95, p95⟩ := hdep 4 rfl _ 95 rfl rfl; have e95 : v95 = (.slice (some ⟨g, 0, none⟩) N N) := p95; subst e95; obtain ⟨v96, t96, p96⟩ := hdep 5 rfl _ 96 rfl rfl; have e96 : v96 = (.int .i64 (u : Nat)) := p96; subst e96; clear hold hdep; go_simp; exact hK.out _ _ rfl (Below.refl _ _)
                          · intro a wx hB hold hdep K hK
                            obtain ⟨v97, t97, p97⟩ := hdep 6 rfl _ 97 rfl rfl; have e97 : v97 = (.pointer (some ⟨g, u, none⟩)) := p97; subst e97; have c9 := (hB.cell (lt_of_cell HX3.out)).trans HX3.out; clear hold hdep; go_simp; exact hK.out _ _ rfl (Below.refl _ _)
                          · intro a wx hB hold hdep K hK
                            have t9 : a.tmps[9]? = some (.int .i64 (k : Nat)) := hold.2.2 9 rfl; clear hold hdep; go_simp; exact hK.out _ _ rfl (Below.refl _ _)
                          · intro a wx hB hold hdep K hK
                            obtain ⟨v98, t98, p98⟩ := hdep 7 rfl _ 98 rfl rfl; have e98 : v98 = (.slice (some ⟨bs, 0, none⟩) SX.length sc) := p98; subst e98; obtain ⟨v99, t99, p99⟩ := hdep 8 rfl _ 99 rfl rfl; have e99 : v99 = (.int .i64 (k : Nat)) := p99; subst e99; clear hold hdep; go_simp; exact hK.out _ _ rfl (Below.refl _ _)
                          · intro a wx hB hold hdep K hK
                            obtain ⟨v100, t100, p100⟩ := hdep 9 rfl _ 100 rfl rfl; have e100 : v100 = (.pointer (some ⟨bs, k, none⟩)) := p100; subst e100; have c9 := (hB.cell (lt_of_cell HNy.out)).trans HNy.out; clear hold hdep; go_simp; exact hK.out _ _ rfl (Below.refl _ _)
                          · intro a wx hB hold hdep K hK
                            obtain ⟨v94, t94, p94⟩ := hdep 3 rfl _ 94 rfl rfl; have e94 : v94 = (.slice va SV.length vc) := p94; subst e94; obtain ⟨v101, t101, p101⟩ := hdep 10 rfl _ 101 rfl rfl; have e101 : v101 = (.int .i64 (ny : Nat)) := p101; subst e101; have HW : Hid (Calls Try.prog 44 #[(.slice va SV.length vc), .int .i64 (ny : Nat)] wx _) := HMb.out wx (below_join HB3.out hB); clear hold hdep; go_simp; refine HW.out.mono ?_; rintro _ w9 ⟨rfl, rfl⟩; go_simp; exact hK.out _ _ rfl (Below.refl _ _)
                          · intro a wx hB hold hdep K hK
                            obtain ⟨v102, t102, p102⟩ := hdep 11 rfl _ 102 rfl rfl; have e102 : v102 = (.bool bb) := p102; subst e102; clear hold hdep; go_simp; exact hK.out _ _ rfl (Below.refl _ _)
                        · intro a wx hB hold hgot
                          obtain ⟨vS, tvS, pvS⟩ := hgot 12 _ 103 rfl rfl; have evS : vS = (.bool (!bb)) := pvS; subst evS; have HBx : Hid (Below wr.heap.size wr wx) := hB; have HAx : Hid (wx.heap[OB]? = some (b6 false s1 false r3 false s5)) := below_keep hB HA3.out; have HB4 : Hid (Below w1.heap.size w1 wx) := below_join HB3.out hB; obtain ⟨tm, df⟩ := a; (obtain ⟨ys, hys, htm, rfl⟩ := frame_mid2 91 13 (by kernel_rfl) (Nat.le_of_ble_eq_true rfl) hold); obtain ⟨x91, x92, x93, x94, x95, x96, x97, x98, x99, x100, x101, x102, x103, rfl⟩ := rowS13 ys hys; simp only [List.take_succ_cons, List.take_zero, List.drop_succ_cons, List.drop_zero, List.cons_append, List.nil_append] at htm; subst htm; obtain rfl : x103 = _ := someInjM tvS; clear hys hold hgot tvS hB HB3 HA3
                          cases bb with
                          | true =>
                            go_wp2_with fail
                            go_roundg (SX.length - (k + 1))
                            case measure => have := HGr.out; have := HK3.out; omega
                            case rel => exact ⟨k + 1, HK3.out, rfl, by go_num, by rw [HN3.out, HR3.out]; simpa using HAx, HB4⟩
                          | false =>
                            obtain ⟨⟨o0, o1, o2, o3, o4, o5⟩, z0, z1, z2, z3, z4, z5⟩ := b6_cells HAx.out; go_wp2_with fail; obtain ⟨Y, hY⟩ : ∃ Y, Y = (wx.setCell ⟨OB, 3, none⟩ (.bool false)) := ⟨_, rfl⟩; (have HYA : Hid (Y.heap[OB]? = some (b6 false s1 false false false s5)) := by rw [hY]; exact (b6_set3 HAx.out)); (have HYB : Hid (Below w1.heap.size w1 Y) := by rw [hY]; exact (HB4.out.setCell (p := ⟨OB, 3, none⟩) (by have := HO.out; simp; omega) _)); rw [← hY]; clear hY o0 o1 o2 o3 o4 o5 z0 z1 z2 z3 z4 z5
                            go_roundg (SX.length - (k + 1))
                            case measure => have := HGr.out; have := HK3.out; omega
                            case rel => exact ⟨k + 1, HK3.out, rfl, by go_num, by rw [HN3.out, HR3.out]; simpa using HYA, HYB⟩
                      · have hkk : k = SX.length := by omega
                        subst hkk; (have hge : ¬ (SX.length : Int) < (SX.length : Int) := by omega); rw [List.take_length] at HA3; clear hlt hk; go_wp2_with fail
                        go_roundg (SX.length - (i + 1))
                        case measure => have := HGq.out; have := HI.out; omega
                        case rel => exact ⟨i + 1, HI.out, rfl, by go_num, by rw [HE1.out, HE2.out, HE3.out, HE5.out]; simpa using HA3, HB3⟩
            · have hii : i = SX.length := by omega
              subst hii; (have hge : ¬ (SX.length : Int) < (SX.length : Int) := by omega); rw [List.take_length] at HA2; clear hlt hi; go_wp2_with fail
              go_roundg (N - (u + 1))
              case measure => have := HGk.out; have := HU.out; omega
              case rel => exact ⟨u + 1, HU.out, rfl, by go_num, by rw [HG0.out, HG1.out, HG2.out, HG3.out, HH4.out, HG5.out]; simpa using HA2, HB2⟩
        · have hzI : ¬ (SX.length : Int) = 0 := by omega
          (have hz2 : (((SX.length : Nat) : Int) == 0) = false := by rw [beq_eq_false_iff_ne]; exact hzI); (have HH4 : Hid (a4S S (u + 1) = p4) := by show _ = _; rw [HG4.out]; simp [hz]); clear hz; go_wp2_with fail; clear hzI hz2; have HZA := HYA; have HZB := HYB; clear hY o0 o1 o2 o3 o4 o5 z0 z1 z2 z3 z4 z5 y0 y1 y2 y3 y4 y5 v0 v1 v2 v3 v4 v5 dY d0 m0 m1 m2 HA HYA HYB HB HMx
          go_loopg [6] SX.length (fun gg cc wr => ∃ i, i ≤ SX.length ∧ gg = SX.length - i ∧ cc = .int .i64 (i : Nat) ∧ Hid (wr.heap[OB]? = some (b6 false (p1 && (SX.take i).all D1) (p2 && (SX.take i).all D2) (p3 && (SX.take i).all D3) p4 (p5 && (SX.take i).all D1))) ∧ Hid (Below w1.heap.size w1 wr))
          case atStart => exact ⟨0, by omega, by omega, rfl, by simpa using HZA, HZB⟩
          case round =>
            obtain ⟨i, hi, hg, rfl, HA2, HB2⟩ := hrel; have HGq : Hid (gk = SX.length - i) := hg; clear hg HZA HZB; have d1 := (HB2.out.cell (lt_of_cell HC0.out)).trans HC0.out; by_cases hlt : i < SX.length
            · obtain ⟨nv, hv⟩ : ∃ v, SX[i]? = some v := ⟨_, List.getElem?_eq_getElem hlt⟩
              (obtain ⟨bs, rfl, hcs⟩ := HC3.out (by omega)); have HCs : Hid (∀ (j k : Nat), SX[j]? = some k → w1.cell? ⟨bs, j, none⟩ = some (.int .i64 (k : Nat))) := hcs; have d2 := (HB2.out.cell (lt_of_cell (hcs i nv hv))).trans (hcs i nv hv); have hvN : nv < N := HSmu.out nv (List.mem_of_getElem? hv); (have hvI : (nv : Int) < (N : Int) := by omega); (have hiI : (i : Int) < (SX.length : Int) := by omega); (have hiC : (i : Int) < (sc : Int) := by omega); have HI : Hid (i < SX.length) := hlt; obtain ⟨va, vc, r0, r1, r3⟩ := HRow.out nv hvN; (have HMv : Hid (∀ W, Below w1.heap.size w1 W → ∀ x : Nat, Calls Try.prog 44 #[.slice va (S nv).length vc, .int .i64 (x : Nat)] W fun e w' => e = .returned (.bool (decide (x ∈ S nv))) ∧ w' = W) := fun W hb x => memberOf_any (S nv) x (HSl.out nv) _ W (NRow.up ⟨va, vc, rfl, r1, r3⟩ hb (Nat.le_refl _))); have hvl := HSl.out nv; (have E1 : (SX.take (i + 1)).all D1 = ((SX.take i).all D1 && (S nv).all fun y => decide (y ∈ SX)) := by rw [List.take_add_one, hv, List.all_append, ← HD1.out nv]; simp); (have E2 : (SX.take (i + 1)).all D2 = ((SX.take i).all D2 && decide (u ∈ S nv)) := by rw [List.take_add_one, hv, List.all_append, ← HD2.out nv]; simp); (have E3 : (SX.take (i + 1)).all D3 = ((SX.take i).all D3 && SX.all fun y => decide (y ∈ S nv)) := by rw [List.take_add_one, hv, List.all_append, ← HD3.out nv]; simp); obtain ⟨SV, hSV⟩ : ∃ SV, SV = S nv := ⟨_, rfl⟩; rw [← hSV] at r0 r1 r3 HMv hvl E1 E2 E3; clear hSV; obtain ⟨q1, hq1⟩ : ∃ q, q = (p1 && (SX.take i).all D1) := ⟨_, rfl⟩; obtain ⟨q2, hq2⟩ : ∃ q, q = (p2 && (SX.take i).all D2) := ⟨_, rfl⟩; obtain ⟨q3, hq3⟩ : ∃ q, q = (p3 && (SX.take i).all D3) := ⟨_, rfl⟩; obtain ⟨q5, hq5⟩ : ∃ q, q = (p5 && (SX.take i).all D1) := ⟨_, rfl⟩; rw [← hq1, ← hq2, ← hq3, ← hq5] at HA2; (have HE1 : Hid ((p1 && (SX.take (i + 1)).all D1) = (q1 && SV.all fun y => decide (y ∈ SX))) := by show _ = _; rw [E1, hq1, Bool.and_assoc]); (have HE2 : Hid ((p2 && (SX.take (i + 1)).all D2) = (q2 && decide (u ∈ SV))) := by show _ = _; rw [E2, hq2, Bool.and_assoc]); (have HE3 : Hid ((p3 && (SX.take (i + 1)).all D3) = (q3 && SX.all fun y => decide (y ∈ SV))) := by show _ = _; rw [E3, hq3, Bool.and_assoc]); (have HE5 : Hid ((p5 && (SX.take (i + 1)).all D1) = (q5 && SV.all fun y => decide (y ∈ SX))) := by show _ = _; rw [E1, hq5, Bool.and_assoc]); obtain ⟨z, hz⟩ : ∃ z, z = decide (u ∈ SV) := ⟨_, rfl⟩; (have HMz : Hid (Calls Try.prog 44 #[.slice va SV.length vc, .int .i64 (u : Nat)] wr fun e w' => e = .returned (.bool z) ∧ w' = wr) := by rw [hz]; exact HMv.out wr HB2.out u); rw [← hz] at HE2; (have hvlI : (SV.length : Int) ≤ 40 := by omega); (have hvcI : (SV.length : Int) ≤ (vc : Int) := by omega); have HV0 : Hid (w1.cell? ⟨g, nv, none⟩ = some (.slice va SV.length vc)) := r0; have HV3 : Hid (0 < SV.length → ∃ b, va = some ⟨b, 0, none⟩ ∧ ∀ (j k : Nat), SV[j]? = some k → w1.cell? ⟨b, j, none⟩ = some (.int .i64 (k : Nat))) := r3; have d3 := (HB2.out.cell (lt_of_cell HV0.out)).trans HV0.out; clear hz hq1 hq2 hq3 hq5 E1 E2 E3 r0 r1 r3 hvl hlt hi hv hcs hvN; go_wp2_with fail; refine HMz.out.mono ?_; rintro _ w9 ⟨rfl, e9⟩
              replace e9 := e9.symm
              subst e9; clear HMz
              cases z with
              | true =>
                go_wp2_with fail; clear d1 d2 d3; have HZA := HA2; have HZB := HB2; clear HA2 HB2; (obtain ⟨GG, hGG⟩ : ∃ GG : Nat → Bool, GG = fun y => decide (y ∈ SX) := ⟨_, rfl⟩); (have HGG : Hid (∀ y, GG y = decide (y ∈ SX)) := fun y => by rw [hGG]); rw [← hGG] at HE1 HE5; clear hGG
                go_loopg [8] SV.length (fun gg cc wr => ∃ k, k ≤ SV.length ∧ gg = SV.length - k ∧ cc = .int .i64 (k : Nat) ∧ Hid (wr.heap[OB]? = some (b6 false (q1 && (SV.take k).all GG) q2 q3 p4 (q5 && (SV.take k).all GG))) ∧ Hid (Below w1.heap.size w1 wr))
                case atStart => exact ⟨0, by omega, by omega, rfl, by simpa using HZA, HZB⟩
                case round =>
                  obtain ⟨k, hk, hg, rfl, HA3, HB3⟩ := hrel; have HGr : Hid (gk = SV.length - k) := hg; clear hg; have HX3 : Hid (wr.cell? ⟨g, u, none⟩ = some (.slice (some ⟨bs, 0, none⟩) SX.length sc)) := (HB3.out.cell (lt_of_cell HC0.out)).trans HC0.out; have HV3c : Hid (wr.cell? ⟨g, nv, none⟩ = some (.slice va SV.length vc)) := (HB3.out.cell (lt_of_cell HV0.out)).trans HV0.out; have d1 := HX3.out; have d3 := HV3c.out; by_cases hlt : k < SV.length
                  · obtain ⟨ny, hny⟩ : ∃ v, SV[k]? = some v := ⟨_, List.getElem?_eq_getElem hlt⟩
                    (obtain ⟨bv, rfl, hcv⟩ := HV3.out (by omega)); have HNy : Hid (wr.cell? ⟨bv, k, none⟩ = some (.int .i64 (ny : Nat))) := (HB3.out.cell (lt_of_cell (hcv k ny hny))).trans (hcv k ny hny); clear hcv; (have hkI : (k : Int) < (SV.length : Int) := by omega); (have hkC : (k : Int) < (vc : Int) := by omega); have HK3 : Hid (k < SV.length) := hlt; (have HMb : Hid (∀ W, Below w1.heap.size w1 W → Calls Try.prog 44 #[(.slice (some ⟨bs, 0, none⟩) SX.length sc), .int .i64 (ny : Nat)] W fun e w' => e = .returned (.bool (GG ny)) ∧ w' = W) := fun W hb => by rw [HGG.out]; exact HMe.out W hb ny); (have HN3 : Hid ((SV.take (k + 1)).all GG = ((SV.take k).all GG && GG ny)) := by show _ = _; rw [List.take_add_one, hny]; simp); generalize GG ny = bb at HMb HN3; obtain ⟨r1, hr1⟩ : ∃ r, r = (q1 && (SV.take k).all GG) := ⟨_, rfl⟩; obtain ⟨r5, hr5⟩ : ∃ r, r = (q5 && (SV.take k).all GG) := ⟨_, rfl⟩; rw [← hr1, ← hr5] at HA3; (have HR1 : Hid ((q1 && ((SV.take k).all GG && bb)) = (r1 && bb)) := by show _ = _; rw [hr1, Bool.and_assoc]); (have HR5 : Hid ((q5 && ((SV.take k).all GG && bb)) = (r5 && bb)) := by show _ = _; rw [hr5, Bool.and_assoc]); clear hr1 hr5; clear hlt hk hny; go_wp2_with fail; clear d1 d3; (refine wp_region_free (by kernel_rfl) [fun v _ => v = (.slice (some ⟨g, 0, none⟩) N N), fun v _ => v = (.int .i64 (u : Nat)), fun v _ => v = (.pointer (some ⟨g, u, none⟩)), fun v _ => v = (.slice (some ⟨bs, 0, none⟩) SX.length sc), fun v _ => v = (.slice (some ⟨g, 0, none⟩) N N), fun v _ => v = (.int .i64 (nv : Nat)), fun v _ => v = (.pointer (some ⟨g, nv, none⟩)), fun v _ => v = (.slice (some ⟨bv, 0, none⟩) SV.length vc), fun v _ => v = (.int .i64 (k : Nat)), fun v _ => v = (.pointer (some ⟨bv, k, none⟩)), fun v _ => v = (.int .i64 (ny : Nat)), fun v _ => v = (.bool bb), fun v _ => v = (.bool (!bb))] ?_ (by kernel_rfl) (by kernel_rfl) 106 rfl (by kernel_rfl) ?_ ?_)
                    · intro p hp
                      simp only [List.mem_cons, List.not_mem_nil, or_false] at hp
                      rcases hp with rfl | rfl | rfl | rfl | rfl | rfl | rfl | rfl | rfl | rfl | rfl | rfl | rfl
                      · exact fun _ _ _ h _ => h
                      · exact fun _ _ _ h _ => h
                      · exact fun _ _ _ h _ => h
                      · exact fun _ _ _ h _ => h
                      · exact fun _ _ _ h _ => h
                      · exact fun _ _ _ h _ => h
                      · exact fun _ _ _ h _ => h
                      · exact fun _ _ _ h _ => h
                      · exact fun _ _ _ h _ => h
                      · exact fun _ _ _ h _ => h
                      · exact fun _ _ _ h _ => h
                      · exact fun _ _ _ h _ => h
                      · exact fun _ _ _ h _ => h
                    · refine ⟨?_, ?_, ?_, ?_, ?_, ?_, ?_, ?_, ?_, ?_, ?_, ?_, ?_, trivial⟩
                      · intro a wx hB hold hdep K hK
                        have t3 : a.tmps[3]? = some (.slice (some ⟨g, 0, none⟩) N N) := hold.2.2 3 rfl; clear hold hdep; go_simp; exact hK.out _ _ rfl (Below.refl _ _)
                      · intro a wx hB hold hdep K hK
                        have t5 : a.tmps[5]? = some (.int .i64 (u : Nat)) := hold.2.2 5 rfl; clear hold hdep; go_simp; exact hK.out _ _ rfl (Below.refl _ _)
                      · intro a wx hB hold hdep K hK
                        obtain ⟨v67, t67, p67⟩ := hdep 0 rfl _ 67 rfl rfl; have e67 : v67 = (.slice (some ⟨g, 0, none⟩) N N) := p67; subst e67; obtain ⟨v68, t68, p68⟩ := hdep 1 rfl _ 68 rfl rfl; have e68 : v68 = (.int .i64 (u : Nat)) := p68; subst e68; clear hold hdep; go_simp; exact hK.out _ _ rfl (Below.refl _ _)
                      · intro a wx hB hold hdep K hK
                        obtain ⟨v69, t69, p69⟩ := hdep 2 rfl _ 69 rfl rfl; have e69 : v69 = (.pointer (some ⟨g, u, none⟩)) := p69; subst e69; have c9 := (hB.cell (lt_of_cell HX3.out)).trans HX3.out; clear hold hdep; go_simp; exact hK.out _ _ rfl (Below.refl _ _)
                      · intro a wx hB hold hdep K hK
                        have t3 : a.tmps[3]? = some (.slice (some ⟨g, 0, none⟩) N N) := hold.2.2 3 rfl; clear hold hdep; go_simp; exact hK.out _ _ rfl (Below.refl _ _)
                      · intro a wx hB hold hdep K hK
                        have t7 : a.tmps[7]? = some (.int .i64 (nv : Nat)) := hold.2.2 7 rfl; clear hold hdep; go_simp; exact hK.out _ _ rfl (Below.refl _ _)
                      · intro a wx hB hold hdep K hK
                        obtain ⟨v71, t71, p71⟩ := hdep 4 rfl _ 71 rfl rfl; have e71 : v71 = (.slice (some ⟨g, 0, none⟩) N N) := p71; subst e71; obtain ⟨v72, t72, p72⟩ := hdep 5 rfl _ 72 rfl rfl; have e72 : v72 = (.int .i64 (nv : Nat)) := p72; subst e72; clear hold hdep; go_simp; exact hK.out _ _ rfl (Below.refl _ _)
                      · intro a wx hB hold hdep K hK
                        obtain ⟨v73, t73, p73⟩ := hdep 6 rfl _ 73 rfl rfl; have e73 : v73 = (.pointer (some ⟨g, nv, none⟩)) := p73; subst e73; have c9 := (hB.cell (lt_of_cell HV3c.out)).trans HV3c.out; clear hold hdep; go_simp; exact hK.out _ _ rfl (Below.refl _ _)
                      · intro a wx hB hold hdep K hK
                        have t8 : a.tmps[8]? = some (.int .i64 (k : Nat)) := hold.2.2 8 rfl; clear hold hdep; go_simp; exact hK.out _ _ rfl (Below.refl _ _)
                      · intro a wx hB hold hdep K hK
                        obtain ⟨v74, t74, p74⟩ := hdep 7 rfl _ 74 rfl rfl; have e74 : v74 = (.slice (some ⟨bv, 0, none⟩) SV.length vc) := p74; subst e74; obtain ⟨v75, t75, p75⟩ := hdep 8 rfl _ 75 rfl rfl; have e75 : v75 = (.int .i64 (k : Nat)) := p75; subst e75; clear hold hdep; go_simp; exact hK.out _ _ rfl (Below.refl _ _)
                      · intro a wx hB hold hdep K hK
                        obtain ⟨v76, t76, p76⟩ := hdep 9 rfl _ 76 rfl rfl; have e76 : v76 = (.pointer (some ⟨bv, k, none⟩)) := p76; subst e76; have c9 := (hB.cell (lt_of_cell HNy.out)).trans HNy.out; clear hold hdep; go_simp; exact hK.out _ _ rfl (Below.refl _ _)
                      · intro a wx hB hold hdep K hK
                        obtain ⟨v70, t70, p70⟩ := hdep 3 rfl _ 70 rfl rfl; have e70 : v70 = (.slice (some ⟨bs, 0, none⟩) SX.length sc) := p70; subst e70; obtain ⟨v77, t77, p77⟩ := hdep 10 rfl _ 77 rfl rfl; have e77 : v77 = (.int .i64 (ny : Nat)) := p77; subst e77; have HW : Hid (Calls Try.prog 44 #[(.slice (some ⟨bs, 0, none⟩) SX.length sc), .int .i64 (ny : Nat)] wx _) := HMb.out wx (below_join HB3.out hB); clear hold hdep; go_simp; refine HW.out.mono ?_; rintro _ w9 ⟨rfl, rfl⟩; go_simp; exact hK.out _ _ rfl (Below.refl _ _)
                      · intro a wx hB hold hdep K hK
                        obtain ⟨v78, t78, p78⟩ := hdep 11 rfl _ 78 rfl rfl; have e78 : v78 = (.bool bb) := p78; subst e78; clear hold hdep; go_simp; exact hK.out _ _ rfl (Below.refl _ _)
                    · intro a wx hB hold hgot
                      obtain ⟨vS, tvS, pvS⟩ := hgot 12 _ 79 rfl rfl; have evS : vS = (.bool (!bb)) := pvS; subst evS; have HBx : Hid (Below wr.heap.size wr wx) := hB; have HAx : Hid (wx.heap[OB]? = some (b6 false r1 q2 q3 p4 r5)) := below_keep hB HA3.out; have HB4 : Hid (Below w1.heap.size w1 wx) := below_join HB3.out hB; obtain ⟨tm, df⟩ := a; (obtain ⟨ys, hys, htm, rfl⟩ := frame_mid2 67 13 (by kernel_rfl) (Nat.le_of_ble_eq_true rfl) hold); obtain ⟨x67, x68, x69, x70, x71, x72, x73, x74, x75, x76, x77, x78, x79, rfl⟩ := rowS13 ys hys; simp only [List.take_succ_cons, List.take_zero, List.drop_succ_cons, List.drop_zero, List.cons_append, List.nil_append] at htm; subst htm; obtain rfl : x79 = _ := someInjM tvS; clear hys hold hgot tvS hB HB3 HA3
                      cases bb with
                      | true =>
                        go_wp2_with fail
                        go_roundg (SV.length - (k + 1))
                        case measure => have := HGr.out; have := HK3.out; omega
                        case rel => exact ⟨k + 1, HK3.out, rfl, by go_num, by rw [HN3.out, HR1.out, HR5.out]; simpa using HAx, HB4⟩
                      | false =>
                        obtain ⟨⟨o0, o1, o2, o3, o4, o5⟩, z0, z1, z2, z3, z4, z5⟩ := b6_cells HAx.out; have q9 := b6_cells (b6_set1 HAx.out); obtain ⟨⟨u0, u1, u2, u3, u4, u5⟩, x0, x1, x2, x3, x4, x5⟩ := q9; go_wp2_with fail; obtain ⟨Y, hY⟩ : ∃ Y, Y = ((wx.setCell ⟨OB, 1, none⟩ (.bool false)).setCell ⟨OB, 5, none⟩ (.bool false)) := ⟨_, rfl⟩; (have HYA : Hid (Y.heap[OB]? = some (b6 false false q2 q3 p4 false)) := by rw [hY]; exact (b6_set5 (b6_set1 HAx.out))); (have HYB : Hid (Below w1.heap.size w1 Y) := by rw [hY]; exact ((HB4.out.setCell (p := ⟨OB, 1, none⟩) (by have := HO.out; simp; omega) _).setCell (p := ⟨OB, 5, none⟩) (by have := HO.out; simp; omega) _)); rw [← hY]; clear hY o0 o1 o2 o3 o4 o5 z0 z1 z2 z3 z4 z5 u0 u1 u2 u3 u4 u5 x0 x1 x2 x3 x4 x5
                        go_roundg (SV.length - (k + 1))
                        case measure => have := HGr.out; have := HK3.out; omega
                        case rel => exact ⟨k + 1, HK3.out, rfl, by go_num, by rw [HN3.out, HR1.out, HR5.out]; simpa using HYA, HYB⟩
                  · have hkk : k = SV.length := by omega
                    subst hkk; (have hge : ¬ (SV.length : Int) < (SV.length : Int) := by omega); rw [List.take_length] at HA3; clear hlt hk; go_wp2_with fail; clear d1 d3; have HZA := HA3; have HZB := HB3; obtain ⟨s1, hs1⟩ : ∃ s, s = (q1 && SV.all GG) := ⟨_, rfl⟩; obtain ⟨s5, hs5⟩ : ∃ s, s = (q5 && SV.all GG) := ⟨_, rfl⟩; rw [← hs1] at HE1; rw [← hs5] at HE5; rw [← hs1, ← hs5] at HZA; clear hs1 hs5 HGG HA3 HB3 hge HX3 HV3c; (obtain ⟨GG, hGG⟩ : ∃ GG : Nat → Bool, GG = fun y => decide (y ∈ SV) := ⟨_, rfl⟩); (have HGG : Hid (∀ y, GG y = decide (y ∈ SV)) := fun y => by rw [hGG]); rw [← hGG] at HE3; clear hGG
                    go_loopg [9] SX.length (fun gg cc wr => ∃ k, k ≤ SX.length ∧ gg = SX.length - k ∧ cc = .int .i64 (k : Nat) ∧ Hid (wr.heap[OB]? = some (b6 false s1 q2 (q3 && (SX.take k).all GG) p4 s5)) ∧ Hid (Below w1.heap.size w1 wr))
                    case atStart => exact ⟨0, by omega, by omega, rfl, by simpa using HZA, HZB⟩
                    case round =>
                      obtain ⟨k, hk, hg, rfl, HA3, HB3⟩ := hrel; have HGr : Hid (gk = SX.length - k) := hg; clear hg; have HX3 : Hid (wr.cell? ⟨g, u, none⟩ = some (.slice (some ⟨bs, 0, none⟩) SX.length sc)) := (HB3.out.cell (lt_of_cell HC0.out)).trans HC0.out; have HV3c : Hid (wr.cell? ⟨g, nv, none⟩ = some (.slice va SV.length vc)) := (HB3.out.cell (lt_of_cell HV0.out)).trans HV0.out; have d1 := HX3.out; have d3 := HV3c.out; by_cases hlt : k < SX.length
                      · obtain ⟨ny, hny⟩ : ∃ v, SX[k]? = some v := ⟨_, List.getElem?_eq_getElem hlt⟩
                        have HNy : Hid (wr.cell? ⟨bs, k, none⟩ = some (.int .i64 (ny : Nat))) := (HB3.out.cell (lt_of_cell (HCs.out k ny hny))).trans (HCs.out k ny hny); (have hkI : (k : Int) < (SX.length : Int) := by omega); (have hkC : (k : Int) < (sc : Int) := by omega); have HK3 : Hid (k < SX.length) := hlt; (have HMb : Hid (∀ W, Below w1.heap.size w1 W → Calls Try.prog 44 #[(.slice va SV.length vc), .int .i64 (ny : Nat)] W fun e w' => e = .returned (.bool (GG ny)) ∧ w' = W) := fun W hb => by rw [HGG.out]; exact HMv.out W hb ny); (have HN3 : Hid ((SX.take (k + 1)).all GG = ((SX.take k).all GG && GG ny)) := by show _ = _; rw [List.take_add_one, hny]; simp); generalize GG ny = bb at HMb HN3; obtain ⟨r3, hr3⟩ : ∃ r, r = (q3 && (SX.take k).all GG) := ⟨_, rfl⟩; rw [← hr3] at HA3; (have HR3 : Hid ((q3 && ((SX.take k).all GG && bb)) = (r3 && bb)) := by show _ = _; rw [hr3, Bool.and_assoc]); clear hr3; clear hlt hk hny; go_wp2_with fail; clear d1 d3; (refine wp_region_free (by kernel_rfl) [fun v _ => v = (.slice (some ⟨g, 0, none⟩) N N), fun v _ => v = (.int .i64 (nv : Nat)), fun v _ => v = (.pointer (some ⟨g, nv, none⟩)), fun v _ => v = (.slice va SV.length vc), fun v _ => v = (.slice (some ⟨g, 0, none⟩) N N), fun v _ => v = (.int .i64 (u : Nat)), fun v _ => v = (.pointer (some ⟨g, u, none⟩)), fun v _ => v = (.slice (some ⟨bs, 0, none⟩) SX.length sc), fun v _ => v = (.int .i64 (k : Nat)), fun v _ => v = (.pointer (some ⟨bs, k, none⟩)), fun v _ => v = (.int .i64 (ny : Nat)), fun v _ => v = (.bool bb), fun v _ => v = (.bool (!bb))] ?_ (by kernel_rfl) (by kernel_rfl) 106 rfl (by kernel_rfl) ?_ ?_)
                        · intro p hp
                          simp only [List.mem_cons, List.not_mem_nil, or_false] at hp
                          rcases hp with rfl | rfl | rfl | rfl | rfl | rfl | rfl | rfl | rfl | rfl | rfl | rfl | rfl
                          · exact fun _ _ _ h _ => h
                          · exact fun _ _ _ h _ => h
                          · exact fun _ _ _ h _ => h
                          · exact fun _ _ _ h _ => h
                          · exact fun _ _ _ h _ => h
                          · exact fun _ _ _ h _ => h
                          · exact fun _ _ _ h _ => h
                          · exact fun _ _ _ h _ => h
                          · exact fun _ _ _ h _ => h
                          · exact fun _ _ _ h _ => h
                          · exact fun _ _ _ h _ => h
                          · exact fun _ _ _ h _ => h
                          · exact fun _ _ _ h _ => h
                        · refine ⟨?_, ?_, ?_, ?_, ?_, ?_, ?_, ?_, ?_, ?_, ?_, ?_, ?_, trivial⟩
                          · intro a wx hB hold hdep K hK
                            have t3 : a.tmps[3]? = some (.slice (some ⟨g, 0, none⟩) N N) := hold.2.2 3 rfl; clear hold hdep; go_simp; exact hK.out _ _ rfl (Below.refl _ _)
                          · intro a wx hB hold hdep K hK
                            have t7 : a.tmps[7]? = some (.int .i64 (nv : Nat)) := hold.2.2 7 rfl; clear hold hdep; go_simp; exact hK.out _ _ rfl (Below.refl _ _)
                          · intro a wx hB hold hdep K hK
                            obtain ⟨v91, t91, p91⟩ := hdep 0 rfl _ 91 rfl rfl; have e91 : v91 = (.slice (some ⟨g, 0, none⟩) N N) := p91; subst e91; obtain ⟨v92, t92, p92⟩ := hdep 1 rfl _ 92 rfl rfl; have e92 : v92 = (.int .i64 (nv : Nat)) := p92; subst e92; clear hold hdep; go_simp; exact hK.out _ _ rfl (Below.refl _ _)
                          · intro a wx hB hold hdep K hK
                            obtain ⟨v93, t93, p93⟩ := hdep 2 rfl _ 93 rfl rfl; have e93 : v93 = (.pointer (some ⟨g, nv, none⟩)) := p93; subst e93; have c9 := (hB.cell (lt_of_cell HV3c.out)).trans HV3c.out; clear hold hdep; go_simp; exact hK.out _ _ rfl (Below.refl _ _)
                          · intro a wx hB hold hdep K hK
                            have t3 : a.tmps[3]? = some (.slice (some ⟨g, 0, none⟩) N N) := hold.2.2 3 rfl; clear hold hdep; go_simp; exact hK.out _ _ rfl (Below.refl _ _)
                          · intro a wx hB hold hdep K hK
                            have t5 : a.tmps[5]? = some (.int .i64 (u : Nat)) := hold.2.2 5 rfl; clear hold hdep; go_simp; exact hK.out _ _ rfl (Below.refl _ _)
                          · intro a wx hB hold hdep K hK
                            obtain ⟨v95, t95, p95⟩ := hdep 4 rfl _ 95 rfl rfl; have e95 : v95 = (.slice (some ⟨g, 0, none⟩) N N) := p95; subst e95; obtain ⟨v96, t96, p96⟩ := hdep 5 rfl _ 96 rfl rfl; have e96 : v96 = (.int .i64 (u : Nat)) := p96; subst e96; clear hold hdep; go_simp; exact hK.out _ _ rfl (Below.refl _ _)
                          · intro a wx hB hold hdep K hK
                            obtain ⟨v97, t97, p97⟩ := hdep 6 rfl _ 97 rfl rfl; have e97 : v97 = (.pointer (some ⟨g, u, none⟩)) := p97; subst e97; have c9 := (hB.cell (lt_of_cell HX3.out)).trans HX3.out; clear hold hdep; go_simp; exact hK.out _ _ rfl (Below.refl _ _)
                          · intro a wx hB hold hdep K hK
                            have t9 : a.tmps[9]? = some (.int .i64 (k : Nat)) := hold.2.2 9 rfl; clear hold hdep; go_simp; exact hK.out _ _ rfl (Below.refl _ _)
                          · intro a wx hB hold hdep K hK
                            obtain ⟨v98, t98, p98⟩ := hdep 7 rfl _ 98 rfl rfl; have e98 : v98 = (.slice (some ⟨bs, 0, none⟩) SX.length sc) := p98; subst e98; obtain ⟨v99, t99, p99⟩ := hdep 8 rfl _ 99 rfl rfl; have e99 : v99 = (.int .i64 (k : Nat)) := p99; subst e99; clear hold hdep; go_simp; exact hK.out _ _ rfl (Below.refl _ _)
                          · intro a wx hB hold hdep K hK
                            obtain ⟨v100, t100, p100⟩ := hdep 9 rfl _ 100 rfl rfl; have e100 : v100 = (.pointer (some ⟨bs, k, none⟩)) := p100; subst e100; have c9 := (hB.cell (lt_of_cell HNy.out)).trans HNy.out; clear hold hdep; go_simp; exact hK.out _ _ rfl (Below.refl _ _)
                          · intro a wx hB hold hdep K hK
                            obtain ⟨v94, t94, p94⟩ := hdep 3 rfl _ 94 rfl rfl; have e94 : v94 = (.slice va SV.length vc) := p94; subst e94; obtain ⟨v101, t101, p101⟩ := hdep 10 rfl _ 101 rfl rfl; have e101 : v101 = (.int .i64 (ny : Nat)) := p101; subst e101; have HW : Hid (Calls Try.prog 44 #[(.slice va SV.length vc), .int .i64 (ny : Nat)] wx _) := HMb.out wx (below_join HB3.out hB); clear hold hdep; go_simp; refine HW.out.mono ?_; rintro _ w9 ⟨rfl, rfl⟩; go_simp; exact hK.out _ _ rfl (Below.refl _ _)
                          · intro a wx hB hold hdep K hK
                            obtain ⟨v102, t102, p102⟩ := hdep 11 rfl _ 102 rfl rfl; have e102 : v102 = (.bool bb) := p102; subst e102; clear hold hdep; go_simp; exact hK.out _ _ rfl (Below.refl _ _)
                        · intro a wx hB hold hgot
                          obtain ⟨vS, tvS, pvS⟩ := hgot 12 _ 103 rfl rfl; have evS : vS = (.bool (!bb)) := pvS; subst evS; have HBx : Hid (Below wr.heap.size wr wx) := hB; have HAx : Hid (wx.heap[OB]? = some (b6 false s1 q2 r3 p4 s5)) := below_keep hB HA3.out; have HB4 : Hid (Below w1.heap.size w1 wx) := below_join HB3.out hB; obtain ⟨tm, df⟩ := a; (obtain ⟨ys, hys, htm, rfl⟩ := frame_mid2 91 13 (by kernel_rfl) (Nat.le_of_ble_eq_true rfl) hold); obtain ⟨x91, x92, x93, x94, x95, x96, x97, x98, x99, x100, x101, x102, x103, rfl⟩ := rowS13 ys hys; simp only [List.take_succ_cons, List.take_zero, List.drop_succ_cons, List.drop_zero, List.cons_append, List.nil_append] at htm; subst htm; obtain rfl : x103 = _ := someInjM tvS; clear hys hold hgot tvS hB HB3 HA3
                          cases bb with
                          | true =>
                            go_wp2_with fail
                            go_roundg (SX.length - (k + 1))
                            case measure => have := HGr.out; have := HK3.out; omega
                            case rel => exact ⟨k + 1, HK3.out, rfl, by go_num, by rw [HN3.out, HR3.out]; simpa using HAx, HB4⟩
                          | false =>
                            obtain ⟨⟨o0, o1, o2, o3, o4, o5⟩, z0, z1, z2, z3, z4, z5⟩ := b6_cells HAx.out; go_wp2_with fail; obtain ⟨Y, hY⟩ : ∃ Y, Y = (wx.setCell ⟨OB, 3, none⟩ (.bool false)) := ⟨_, rfl⟩; (have HYA : Hid (Y.heap[OB]? = some (b6 false s1 q2 false p4 s5)) := by rw [hY]; exact (b6_set3 HAx.out)); (have HYB : Hid (Below w1.heap.size w1 Y) := by rw [hY]; exact (HB4.out.setCell (p := ⟨OB, 3, none⟩) (by have := HO.out; simp; omega) _)); rw [← hY]; clear hY o0 o1 o2 o3 o4 o5 z0 z1 z2 z3 z4 z5
                            go_roundg (SX.length - (k + 1))
                            case measure => have := HGr.out; have := HK3.out; omega
                            case rel => exact ⟨k + 1, HK3.out, rfl, by go_num, by rw [HN3.out, HR3.out]; simpa using HYA, HYB⟩
                      · have hkk : k = SX.length := by omega
                        subst hkk; (have hge : ¬ (SX.length : Int) < (SX.length : Int) := by omega); rw [List.take_length] at HA3; clear hlt hk; go_wp2_with fail
                        go_roundg (SX.length - (i + 1))
                        case measure => have := HGq.out; have := HI.out; omega
                        case rel => exact ⟨i + 1, HI.out, rfl, by go_num, by rw [HE1.out, HE2.out, HE3.out, HE5.out]; simpa using HA3, HB3⟩
              | false =>
                obtain ⟨⟨o0, o1, o2, o3, o4, o5⟩, z0, z1, z2, z3, z4, z5⟩ := b6_cells HA2.out; go_wp2_with fail; obtain ⟨Z, hZ⟩ : ∃ Z, Z = wr.setCell ⟨OB, 2, none⟩ (.bool false) := ⟨_, rfl⟩; (have HZA : Hid (Z.heap[OB]? = some (b6 false q1 false q3 p4 q5)) := by rw [hZ]; exact b6_set2 HA2.out); (have HZB : Hid (Below w1.heap.size w1 Z) := by rw [hZ]; exact HB2.out.setCell (p := ⟨OB, 2, none⟩) (by have := HO.out; simp; omega) _); rw [← hZ]; clear hZ o0 o1 o2 o3 o4 o5 z0 z1 z2 z3 z4 z5 d1 d2 d3 HA2 HB2; (obtain ⟨GG, hGG⟩ : ∃ GG : Nat → Bool, GG = fun y => decide (y ∈ SX) := ⟨_, rfl⟩); (have HGG : Hid (∀ y, GG y = decide (y ∈ SX)) := fun y => by rw [hGG]); rw [← hGG] at HE1 HE5; clear hGG
                go_loopg [8] SV.length (fun gg cc wr => ∃ k, k ≤ SV.length ∧ gg = SV.length - k ∧ cc = .int .i64 (k : Nat) ∧ Hid (wr.heap[OB]? = some (b6 false (q1 && (SV.take k).all GG) false q3 p4 (q5 && (SV.take k).all GG))) ∧ Hid (Below w1.heap.size w1 wr))
                case atStart => exact ⟨0, by omega, by omega, rfl, by simpa using HZA, HZB⟩
                case round =>
                  obtain ⟨k, hk, hg, rfl, HA3, HB3⟩ := hrel; have HGr : Hid (gk = SV.length - k) := hg; clear hg; have HX3 : Hid (wr.cell? ⟨g, u, none⟩ = some (.slice (some ⟨bs, 0, none⟩) SX.length sc)) := (HB3.out.cell (lt_of_cell HC0.out)).trans HC0.out; have HV3c : Hid (wr.cell? ⟨g, nv, none⟩ = some (.slice va SV.length vc)) := (HB3.out.cell (lt_of_cell HV0.out)).trans HV0.out; have d1 := HX3.out; have d3 := HV3c.out; by_cases hlt : k < SV.length
                  · obtain ⟨ny, hny⟩ : ∃ v, SV[k]? = some v := ⟨_, List.getElem?_eq_getElem hlt⟩
                    (obtain ⟨bv, rfl, hcv⟩ := HV3.out (by omega)); have HNy : Hid (wr.cell? ⟨bv, k, none⟩ = some (.int .i64 (ny : Nat))) := (HB3.out.cell (lt_of_cell (hcv k ny hny))).trans (hcv k ny hny); clear hcv; (have hkI : (k : Int) < (SV.length : Int) := by omega); (have hkC : (k : Int) < (vc : Int) := by omega); have HK3 : Hid (k < SV.length) := hlt; (have HMb : Hid (∀ W, Below w1.heap.size w1 W → Calls Try.prog 44 #[(.slice (some ⟨bs, 0, none⟩) SX.length sc), .int .i64 (ny : Nat)] W fun e w' => e = .returned (.bool (GG ny)) ∧ w' = W) := fun W hb => by rw [HGG.out]; exact HMe.out W hb ny); (have HN3 : Hid ((SV.take (k + 1)).all GG = ((SV.take k).all GG && GG ny)) := by show _ = _; rw [List.take_add_one, hny]; simp); generalize GG ny = bb at HMb HN3; obtain ⟨r1, hr1⟩ : ∃ r, r = (q1 && (SV.take k).all GG) := ⟨_, rfl⟩; obtain ⟨r5, hr5⟩ : ∃ r, r = (q5 && (SV.take k).all GG) := ⟨_, rfl⟩; rw [← hr1, ← hr5] at HA3; (have HR1 : Hid ((q1 && ((SV.take k).all GG && bb)) = (r1 && bb)) := by show _ = _; rw [hr1, Bool.and_assoc]); (have HR5 : Hid ((q5 && ((SV.take k).all GG && bb)) = (r5 && bb)) := by show _ = _; rw [hr5, Bool.and_assoc]); clear hr1 hr5; clear hlt hk hny; go_wp2_with fail; clear d1 d3; (refine wp_region_free (by kernel_rfl) [fun v _ => v = (.slice (some ⟨g, 0, none⟩) N N), fun v _ => v = (.int .i64 (u : Nat)), fun v _ => v = (.pointer (some ⟨g, u, none⟩)), fun v _ => v = (.slice (some ⟨bs, 0, none⟩) SX.length sc), fun v _ => v = (.slice (some ⟨g, 0, none⟩) N N), fun v _ => v = (.int .i64 (nv : Nat)), fun v _ => v = (.pointer (some ⟨g, nv, none⟩)), fun v _ => v = (.slice (some ⟨bv, 0, none⟩) SV.length vc), fun v _ => v = (.int .i64 (k : Nat)), fun v _ => v = (.pointer (some ⟨bv, k, none⟩)), fun v _ => v = (.int .i64 (ny : Nat)), fun v _ => v = (.bool bb), fun v _ => v = (.bool (!bb))] ?_ (by kernel_rfl) (by kernel_rfl) 106 rfl (by kernel_rfl) ?_ ?_)
                    · intro p hp
                      simp only [List.mem_cons, List.not_mem_nil, or_false] at hp
                      rcases hp with rfl | rfl | rfl | rfl | rfl | rfl | rfl | rfl | rfl | rfl | rfl | rfl | rfl
                      · exact fun _ _ _ h _ => h
                      · exact fun _ _ _ h _ => h
                      · exact fun _ _ _ h _ => h
                      · exact fun _ _ _ h _ => h
                      · exact fun _ _ _ h _ => h
                      · exact fun _ _ _ h _ => h
                      · exact fun _ _ _ h _ => h
                      · exact fun _ _ _ h _ => h
                      · exact fun _ _ _ h _ => h
                      · exact fun _ _ _ h _ => h
                      · exact fun _ _ _ h _ => h
                      · exact fun _ _ _ h _ => h
                      · exact fun _ _ _ h _ => h
                    · refine ⟨?_, ?_, ?_, ?_, ?_, ?_, ?_, ?_, ?_, ?_, ?_, ?_, ?_, trivial⟩
                      · intro a wx hB hold hdep K hK
                        have t3 : a.tmps[3]? = some (.slice (some ⟨g, 0, none⟩) N N) := hold.2.2 3 rfl; clear hold hdep; go_simp; exact hK.out _ _ rfl (Below.refl _ _)
                      · intro a wx hB hold hdep K hK
                        have t5 : a.tmps[5]? = some (.int .i64 (u : Nat)) := hold.2.2 5 rfl; clear hold hdep; go_simp; exact hK.out _ _ rfl (Below.refl _ _)
                      · intro a wx hB hold hdep K hK
                        obtain ⟨v67, t67, p67⟩ := hdep 0 rfl _ 67 rfl rfl; have e67 : v67 = (.slice (some ⟨g, 0, none⟩) N N) := p67; subst e67; obtain ⟨v68, t68, p68⟩ := hdep 1 rfl _ 68 rfl rfl; have e68 : v68 = (.int .i64 (u : Nat)) := p68; subst e68; clear hold hdep; go_simp; exact hK.out _ _ rfl (Below.refl _ _)
                      · intro a wx hB hold hdep K hK
                        obtain ⟨v69, t69, p69⟩ := hdep 2 rfl _ 69 rfl rfl; have e69 : v69 = (.pointer (some ⟨g, u, none⟩)) := p69; subst e69; have c9 := (hB.cell (lt_of_cell HX3.out)).trans HX3.out; clear hold hdep; go_simp; exact hK.out _ _ rfl (Below.refl _ _)
                      · intro a wx hB hold hdep K hK
                        have t3 : a.tmps[3]? = some (.slice (some ⟨g, 0, none⟩) N N) := hold.2.2 3 rfl; clear hold hdep; go_simp; exact hK.out _ _ rfl (Below.refl _ _)
                      · intro a wx hB hold hdep K hK
                        have t7 : a.tmps[7]? = some (.int .i64 (nv : Nat)) := hold.2.2 7 rfl; clear hold hdep; go_simp; exact hK.out _ _ rfl (Below.refl _ _)
                      · intro a wx hB hold hdep K hK
                        obtain ⟨v71, t71, p71⟩ := hdep 4 rfl _ 71 rfl rfl; have e71 : v71 = (.slice (some ⟨g, 0, none⟩) N N) := p71; subst e71; obtain ⟨v72, t72, p72⟩ := hdep 5 rfl _ 72 rfl rfl; have e72 : v72 = (.int .i64 (nv : Nat)) := p72; subst e72; clear hold hdep; go_simp; exact hK.out _ _ rfl (Below.refl _ _)
                      · intro a wx hB hold hdep K hK
                        obtain ⟨v73, t73, p73⟩ := hdep 6 rfl _ 73 rfl rfl; have e73 : v73 = (.pointer (some ⟨g, nv, none⟩)) := p73; subst e73; have c9 := (hB.cell (lt_of_cell HV3c.out)).trans HV3c.out; clear hold hdep; go_simp; exact hK.out _ _ rfl (Below.refl _ _)
                      · intro a wx hB hold hdep K hK
                        have t8 : a.tmps[8]? = some (.int .i64 (k : Nat)) := hold.2.2 8 rfl; clear hold hdep; go_simp; exact hK.out _ _ rfl (Below.refl _ _)
                      · intro a wx hB hold hdep K hK
                        obtain ⟨v74, t74, p74⟩ := hdep 7 rfl _ 74 rfl rfl; have e74 : v74 = (.slice (some ⟨bv, 0, none⟩) SV.length vc) := p74; subst e74; obtain ⟨v75, t75, p75⟩ := hdep 8 rfl _ 75 rfl rfl; have e75 : v75 = (.int .i64 (k : Nat)) := p75; subst e75; clear hold hdep; go_simp; exact hK.out _ _ rfl (Below.refl _ _)
                      · intro a wx hB hold hdep K hK
                        obtain ⟨v76, t76, p76⟩ := hdep 9 rfl _ 76 rfl rfl; have e76 : v76 = (.pointer (some ⟨bv, k, none⟩)) := p76; subst e76; have c9 := (hB.cell (lt_of_cell HNy.out)).trans HNy.out; clear hold hdep; go_simp; exact hK.out _ _ rfl (Below.refl _ _)
                      · intro a wx hB hold hdep K hK
                        obtain ⟨v70, t70, p70⟩ := hdep 3 rfl _ 70 rfl rfl; have e70 : v70 = (.slice (some ⟨bs, 0, none⟩) SX.length sc) := p70; subst e70; obtain ⟨v77, t77, p77⟩ := hdep 10 rfl _ 77 rfl rfl; have e77 : v77 = (.int .i64 (ny : Nat)) := p77; subst e77; have HW : Hid (Calls Try.prog 44 #[(.slice (some ⟨bs, 0, none⟩) SX.length sc), .int .i64 (ny : Nat)] wx _) := HMb.out wx (below_join HB3.out hB); clear hold hdep; go_simp; refine HW.out.mono ?_; rintro _ w9 ⟨rfl, rfl⟩; go_simp; exact hK.out _ _ rfl (Below.refl _ _)
                      · intro a wx hB hold hdep K hK
                        obtain ⟨v78, t78, p78⟩ := hdep 11 rfl _ 78 rfl rfl; have e78 : v78 = (.bool bb) := p78; subst e78; clear hold hdep; go_simp; exact hK.out _ _ rfl (Below.refl _ _)
                    · intro a wx hB hold hgot
                      obtain ⟨vS, tvS, pvS⟩ := hgot 12 _ 79 rfl rfl; have evS : vS = (.bool (!bb)) := pvS; subst evS; have HBx : Hid (Below wr.heap.size wr wx) := hB; have HAx : Hid (wx.heap[OB]? = some (b6 false r1 false q3 p4 r5)) := below_keep hB HA3.out; have HB4 : Hid (Below w1.heap.size w1 wx) := below_join HB3.out hB; obtain ⟨tm, df⟩ := a; (obtain ⟨ys, hys, htm, rfl⟩ := frame_mid2 67 13 (by kernel_rfl) (Nat.le_of_ble_eq_true rfl) hold); obtain ⟨x67, x68, x69, x70, x71, x72, x73, x74, x75, x76, x77, x78, x79, rfl⟩ := rowS13 ys hys; simp only [List.take_succ_cons, List.take_zero, List.drop_succ_cons, List.drop_zero, List.cons_append, List.nil_append] at htm; subst htm; obtain rfl : x79 = _ := someInjM tvS; clear hys hold hgot tvS hB HB3 HA3
                      cases bb with
                      | true =>
                        go_wp2_with fail
                        go_roundg (SV.length - (k + 1))
                        case measure => have := HGr.out; have := HK3.out; omega
                        case rel => exact ⟨k + 1, HK3.out, rfl, by go_num, by rw [HN3.out, HR1.out, HR5.out]; simpa using HAx, HB4⟩
                      | false =>
                        obtain ⟨⟨o0, o1, o2, o3, o4, o5⟩, z0, z1, z2, z3, z4, z5⟩ := b6_cells HAx.out; have q9 := b6_cells (b6_set1 HAx.out); obtain ⟨⟨u0, u1, u2, u3, u4, u5⟩, x0, x1, x2, x3, x4, x5⟩ := q9; go_wp2_with fail; obtain ⟨Y, hY⟩ : ∃ Y, Y = ((wx.setCell ⟨OB, 1, none⟩ (.bool false)).setCell ⟨OB, 5, none⟩ (.bool false)) := ⟨_, rfl⟩; (have HYA : Hid (Y.heap[OB]? = some (b6 false false false q3 p4 false)) := by rw [hY]; exact (b6_set5 (b6_set1 HAx.out))); (have HYB : Hid (Below w1.heap.size w1 Y) := by rw [hY]; exact ((HB4.out.setCell (p := ⟨OB, 1, none⟩) (by have := HO.out; simp; omega) _).setCell (p := ⟨OB, 5, none⟩) (by have := HO.out; simp; omega) _)); rw [← hY]; clear hY o0 o1 o2 o3 o4 o5 z0 z1 z2 z3 z4 z5 u0 u1 u2 u3 u4 u5 x0 x1 x2 x3 x4 x5
                        go_roundg (SV.length - (k + 1))
                        case measure => have := HGr.out; have := HK3.out; omega
                        case rel => exact ⟨k + 1, HK3.out, rfl, by go_num, by rw [HN3.out, HR1.out, HR5.out]; simpa using HYA, HYB⟩
                  · have hkk : k = SV.length := by omega
                    subst hkk; (have hge : ¬ (SV.length : Int) < (SV.length : Int) := by omega); rw [List.take_length] at HA3; clear hlt hk; go_wp2_with fail; clear d1 d3; have HZA := HA3; have HZB := HB3; obtain ⟨s1, hs1⟩ : ∃ s, s = (q1 && SV.all GG) := ⟨_, rfl⟩; obtain ⟨s5, hs5⟩ : ∃ s, s = (q5 && SV.all GG) := ⟨_, rfl⟩; rw [← hs1] at HE1; rw [← hs5] at HE5; rw [← hs1, ← hs5] at HZA; clear hs1 hs5 HGG HA3 HB3 hge HX3 HV3c; (obtain ⟨GG, hGG⟩ : ∃ GG : Nat → Bool, GG = fun y => decide (y ∈ SV) := ⟨_, rfl⟩); (have HGG : Hid (∀ y, GG y = decide (y ∈ SV)) := fun y => by rw [hGG]); rw [← hGG] at HE3; clear hGG
                    go_loopg [9] SX.length (fun gg cc wr => ∃ k, k ≤ SX.length ∧ gg = SX.length - k ∧ cc = .int .i64 (k : Nat) ∧ Hid (wr.heap[OB]? = some (b6 false s1 false (q3 && (SX.take k).all GG) p4 s5)) ∧ Hid (Below w1.heap.size w1 wr))
                    case atStart => exact ⟨0, by omega, by omega, rfl, by simpa using HZA, HZB⟩
                    case round =>
                      obtain ⟨k, hk, hg, rfl, HA3, HB3⟩ := hrel; have HGr : Hid (gk = SX.length - k) := hg; clear hg; have HX3 : Hid (wr.cell? ⟨g, u, none⟩ = some (.slice (some ⟨bs, 0, none⟩) SX.length sc)) := (HB3.out.cell (lt_of_cell HC0.out)).trans HC0.out; have HV3c : Hid (wr.cell? ⟨g, nv, none⟩ = some (.slice va SV.length vc)) := (HB3.out.cell (lt_of_cell HV0.out)).trans HV0.out; have d1 := HX3.out; have d3 := HV3c.out; by_cases hlt : k < SX.length
                      · obtain ⟨ny, hny⟩ : ∃ v, SX[k]? = some v := ⟨_, List.getElem?_eq_getElem hlt⟩
                        have HNy : Hid (wr.cell? ⟨bs, k, none⟩ = some (.int .i64 (ny : Nat))) := (HB3.out.cell (lt_of_cell (HCs.out k ny hny))).trans (HCs.out k ny hny); (have hkI : (k : Int) < (SX.length : Int) := by omega); (have hkC : (k : Int) < (sc : Int) := by omega); have HK3 : Hid (k < SX.length) := hlt; (have HMb : Hid (∀ W, Below w1.heap.size w1 W → Calls Try.prog 44 #[(.slice va SV.length vc), .int .i64 (ny : Nat)] W fun e w' => e = .returned (.bool (GG ny)) ∧ w' = W) := fun W hb => by rw [HGG.out]; exact HMv.out W hb ny); (have HN3 : Hid ((SX.take (k + 1)).all GG = ((SX.take k).all GG && GG ny)) := by show _ = _; rw [List.take_add_one, hny]; simp); generalize GG ny = bb at HMb HN3; obtain ⟨r3, hr3⟩ : ∃ r, r = (q3 && (SX.take k).all GG) := ⟨_, rfl⟩; rw [← hr3] at HA3; (have HR3 : Hid ((q3 && ((SX.take k).all GG && bb)) = (r3 && bb)) := by show _ = _; rw [hr3, Bool.and_assoc]); clear hr3; clear hlt hk hny; go_wp2_with fail; clear d1 d3; (refine wp_region_free (by kernel_rfl) [fun v _ => v = (.slice (some ⟨g, 0, none⟩) N N), fun v _ => v = (.int .i64 (nv : Nat)), fun v _ => v = (.pointer (some ⟨g, nv, none⟩)), fun v _ => v = (.slice va SV.length vc), fun v _ => v = (.slice (some ⟨g, 0, none⟩) N N), fun v _ => v = (.int .i64 (u : Nat)), fun v _ => v = (.pointer (some ⟨g, u, none⟩)), fun v _ => v = (.slice (some ⟨bs, 0, none⟩) SX.length sc), fun v _ => v = (.int .i64 (k : Nat)), fun v _ => v = (.pointer (some ⟨bs, k, none⟩)), fun v _ => v = (.int .i64 (ny : Nat)), fun v _ => v = (.bool bb), fun v _ => v = (.bool (!bb))] ?_ (by kernel_rfl) (by kernel_rfl) 106 rfl (by kernel_rfl) ?_ ?_)
                        · intro p hp
                          simp only [List.mem_cons, List.not_mem_nil, or_false] at hp
                          rcases hp with rfl | rfl | rfl | rfl | rfl | rfl | rfl | rfl | rfl | rfl | rfl | rfl | rfl
                          · exact fun _ _ _ h _ => h
                          · exact fun _ _ _ h _ => h
                          · exact fun _ _ _ h _ => h
                          · exact fun _ _ _ h _ => h
                          · exact fun _ _ _ h _ => h
                          · exact fun _ _ _ h _ => h
                          · exact fun _ _ _ h _ => h
                          · exact fun _ _ _ h _ => h
                          · exact fun _ _ _ h _ => h
                          · exact fun _ _ _ h _ => h
                          · exact fun _ _ _ h _ => h
                          · exact fun _ _ _ h _ => h
                          · exact fun _ _ _ h _ => h
                        · refine ⟨?_, ?_, ?_, ?_, ?_, ?_, ?_, ?_, ?_, ?_, ?_, ?_, ?_, trivial⟩
                          · intro a wx hB hold hdep K hK
                            have t3 : a.tmps[3]? = some (.slice (some ⟨g, 0, none⟩) N N) := hold.2.2 3 rfl; clear hold hdep; go_simp; exact hK.out _ _ rfl (Below.refl _ _)
                          · intro a wx hB hold hdep K hK
                            have t7 : a.tmps[7]? = some (.int .i64 (nv : Nat)) := hold.2.2 7 rfl; clear hold hdep; go_simp; exact hK.out _ _ rfl (Below.refl _ _)
                          · intro a wx hB hold hdep K hK
                            obtain ⟨v91, t91, p91⟩ := hdep 0 rfl _ 91 rfl rfl; have e91 : v91 = (.slice (some ⟨g, 0, none⟩) N N) := p91; subst e91; obtain ⟨v92, t92, p92⟩ := hdep 1 rfl _ 92 rfl rfl; have e92 : v92 = (.int .i64 (nv : Nat)) := p92; subst e92; clear hold hdep; go_simp; exact hK.out _ _ rfl (Below.refl _ _)
                          · intro a wx hB hold hdep K hK
                            obtain ⟨v93, t93, p93⟩ := hdep 2 rfl _ 93 rfl rfl; have e93 : v93 = (.pointer (some ⟨g, nv, none⟩)) := p93; subst e93; have c9 := (hB.cell (lt_of_cell HV3c.out)).trans HV3c.out; clear hold hdep; go_simp; exact hK.out _ _ rfl (Below.refl _ _)
                          · intro a wx hB hold hdep K hK
                            have t3 : a.tmps[3]? = some (.slice (some ⟨g, 0, none⟩) N N) := hold.2.2 3 rfl; clear hold hdep; go_simp; exact hK.out _ _ rfl (Below.refl _ _)
                          · intro a wx hB hold hdep K hK
                            have t5 : a.tmps[5]? = some (.int .i64 (u : Nat)) := hold.2.2 5 rfl; clear hold hdep; go_simp; exact hK.out _ _ rfl (Below.refl _ _)
                          · intro a wx hB hold hdep K hK
                            obtain ⟨v95, t95, p95⟩ := hdep 4 rfl _ 95 rfl rfl; have e95 : v95 = (.slice (some ⟨g, 0, none⟩) N N) := p95; subst e95; obtain ⟨v96, t96, p96⟩ := hdep 5 rfl _ 96 rfl rfl; have e96 : v96 = (.int .i64 (u : Nat)) := p96; subst e96; clear hold hdep; go_simp; exact hK.out _ _ rfl (Below.refl _ _)
                          · intro a wx hB hold hdep K hK
                            obtain ⟨v97, t97, p97⟩ := hdep 6 rfl _ 97 rfl rfl; have e97 : v97 = (.pointer (some ⟨g, u, none⟩)) := p97; subst e97; have c9 := (hB.cell (lt_of_cell HX3.out)).trans HX3.out; clear hold hdep; go_simp; exact hK.out _ _ rfl (Below.refl _ _)
                          · intro a wx hB hold hdep K hK
                            have t9 : a.tmps[9]? = some (.int .i64 (k : Nat)) := hold.2.2 9 rfl; clear hold hdep; go_simp; exact hK.out _ _ rfl (Below.refl _ _)
                          · intro a wx hB hold hdep K hK
                            obtain ⟨v98, t98, p98⟩ := hdep 7 rfl _ 98 rfl rfl; have e98 : v98 = (.slice (some ⟨bs, 0, none⟩) SX.length sc) := p98; subst e98; obtain ⟨v99, t99, p99⟩ := hdep 8 rfl _ 99 rfl rfl; have e99 : v99 = (.int .i64 (k : Nat)) := p99; subst e99; clear hold hdep; go_simp; exact hK.out _ _ rfl (Below.refl _ _)
                          · intro a wx hB hold hdep K hK
                            obtain ⟨v100, t100, p100⟩ := hdep 9 rfl _ 100 rfl rfl; have e100 : v100 = (.pointer (some ⟨bs, k, none⟩)) := p100; subst e100; have c9 := (hB.cell (lt_of_cell HNy.out)).trans HNy.out; clear hold hdep; go_simp; exact hK.out _ _ rfl (Below.refl _ _)
                          · intro a wx hB hold hdep K hK
                            obtain ⟨v94, t94, p94⟩ := hdep 3 rfl _ 94 rfl rfl; have e94 : v94 = (.slice va SV.length vc) := p94; subst e94; obtain ⟨v101, t101, p101⟩ := hdep 10 rfl _ 101 rfl rfl; have e101 : v101 = (.int .i64 (ny : Nat)) := p101; subst e101; have HW : Hid (Calls Try.prog 44 #[(.slice va SV.length vc), .int .i64 (ny : Nat)] wx _) := HMb.out wx (below_join HB3.out hB); clear hold hdep; go_simp; refine HW.out.mono ?_; rintro _ w9 ⟨rfl, rfl⟩; go_simp; exact hK.out _ _ rfl (Below.refl _ _)
                          · intro a wx hB hold hdep K hK
                            obtain ⟨v102, t102, p102⟩ := hdep 11 rfl _ 102 rfl rfl; have e102 : v102 = (.bool bb) := p102; subst e102; clear hold hdep; go_simp; exact hK.out _ _ rfl (Below.refl _ _)
                        · intro a wx hB hold hgot
                          obtain ⟨vS, tvS, pvS⟩ := hgot 12 _ 103 rfl rfl; have evS : vS = (.bool (!bb)) := pvS; subst evS; have HBx : Hid (Below wr.heap.size wr wx) := hB; have HAx : Hid (wx.heap[OB]? = some (b6 false s1 false r3 p4 s5)) := below_keep hB HA3.out; have HB4 : Hid (Below w1.heap.size w1 wx) := below_join HB3.out hB; obtain ⟨tm, df⟩ := a; (obtain ⟨ys, hys, htm, rfl⟩ := frame_mid2 91 13 (by kernel_rfl) (Nat.le_of_ble_eq_true rfl) hold); obtain ⟨x91, x92, x93, x94, x95, x96, x97, x98, x99, x100, x101, x102, x103, rfl⟩ := rowS13 ys hys; simp only [List.take_succ_cons, List.take_zero, List.drop_succ_cons, List.drop_zero, List.cons_append, List.nil_append] at htm; subst htm; obtain rfl : x103 = _ := someInjM tvS; clear hys hold hgot tvS hB HB3 HA3
                          cases bb with
                          | true =>
                            go_wp2_with fail
                            go_roundg (SX.length - (k + 1))
                            case measure => have := HGr.out; have := HK3.out; omega
                            case rel => exact ⟨k + 1, HK3.out, rfl, by go_num, by rw [HN3.out, HR3.out]; simpa using HAx, HB4⟩
                          | false =>
                            obtain ⟨⟨o0, o1, o2, o3, o4, o5⟩, z0, z1, z2, z3, z4, z5⟩ := b6_cells HAx.out; go_wp2_with fail; obtain ⟨Y, hY⟩ : ∃ Y, Y = (wx.setCell ⟨OB, 3, none⟩ (.bool false)) := ⟨_, rfl⟩; (have HYA : Hid (Y.heap[OB]? = some (b6 false s1 false false p4 s5)) := by rw [hY]; exact (b6_set3 HAx.out)); (have HYB : Hid (Below w1.heap.size w1 Y) := by rw [hY]; exact (HB4.out.setCell (p := ⟨OB, 3, none⟩) (by have := HO.out; simp; omega) _)); rw [← hY]; clear hY o0 o1 o2 o3 o4 o5 z0 z1 z2 z3 z4 z5
                            go_roundg (SX.length - (k + 1))
                            case measure => have := HGr.out; have := HK3.out; omega
                            case rel => exact ⟨k + 1, HK3.out, rfl, by go_num, by rw [HN3.out, HR3.out]; simpa using HYA, HYB⟩
                      · have hkk : k = SX.length := by omega
                        subst hkk; (have hge : ¬ (SX.length : Int) < (SX.length : Int) := by omega); rw [List.take_length] at HA3; clear hlt hk; go_wp2_with fail
                        go_roundg (SX.length - (i + 1))
                        case measure => have := HGq.out; have := HI.out; omega
                        case rel => exact ⟨i + 1, HI.out, rfl, by go_num, by rw [HE1.out, HE2.out, HE3.out, HE5.out]; simpa using HA3, HB3⟩
            · have hii : i = SX.length := by omega
              subst hii; (have hge : ¬ (SX.length : Int) < (SX.length : Int) := by omega); rw [List.take_length] at HA2; clear hlt hi; go_wp2_with fail
              go_roundg (N - (u + 1))
              case measure => have := HGk.out; have := HU.out; omega
              case rel => exact ⟨u + 1, HU.out, rfl, by go_num, by rw [HG0.out, HG1.out, HG2.out, HG3.out, HH4.out, HG5.out]; simpa using HA2, HB2⟩
    · have hii : N = u := by omega
      subst hii; (have hge : ¬ (N : Int) < (N : Int) := by omega); have HRr : Hid (wr.heap[w.heap.size + 1]? = some (b6 false false false false false false)) := below_keep HB.out HR1.out; clear hlt hu H0 H1 H2 H3 H4 H5; obtain ⟨c0, hc0⟩ : ∃ c, c = a0S S N := ⟨_, rfl⟩; obtain ⟨c1, hc1⟩ : ∃ c, c = a1S S N := ⟨_, rfl⟩; obtain ⟨c2, hc2⟩ : ∃ c, c = a2S S N := ⟨_, rfl⟩; obtain ⟨c3, hc3⟩ : ∃ c, c = a3S S N := ⟨_, rfl⟩; obtain ⟨c4, hc4⟩ : ∃ c, c = a4S S N := ⟨_, rfl⟩; obtain ⟨c5, hc5⟩ : ∃ c, c = a5S S N := ⟨_, rfl⟩; rw [← hc0, ← hc1, ← hc2, ← hc3, ← hc4, ← hc5] at HA; (have HCE : Hid (Ending.returned (.agg #[Value.bool c0, Value.bool c1, Value.bool c2, Value.bool c3, Value.bool c4, Value.bool c5]) = .returned (.agg #[Value.bool (a0S S N), Value.bool (a1S S N), Value.bool (a2S S N), Value.bool (a3S S N), Value.bool (a4S S N), Value.bool (a5S S N)])) := by show _ = _; rw [hc0, hc1, hc2, hc3, hc4, hc5]); clear hc0 hc1 hc2 hc3 hc4 hc5; obtain ⟨⟨o0, o1, o2, o3, o4, o5⟩, -⟩ := b6_cells HA.out; obtain ⟨⟨q0, q1, q2, q3, q4, q5⟩, z0, z1, z2, z3, z4, z5⟩ := b6_cells HRr.out; go_wp2_with fail; obtain ⟨F, hF⟩ : ∃ F, F = set6 wr (w.heap.size + 1) (.bool c0) (.bool c1) (.bool c2) (.bool c3) (.bool c4) (.bool c5) := ⟨_, rfl⟩; (have HF1 : Hid (F.heap[w.heap.size + 1]? = some (b6 c0 c1 c2 c3 c4 c5)) := by rw [hF]; exact set6_blk HRr.out _ _ _ _ _ _); (have HFB : Hid (Below w.heap.size w F) := by rw [hF]; exact set6_below (below_join HB1.out HB.out) (by omega) _ _ _ _ _ _); unfold set6 at hF; rw [← hF]; clear hF o0 o1 o2 o3 o4 o5 q0 q1 q2 q3 q4 q5 z0 z1 z2 z3 z4 z5; obtain ⟨⟨o0, o1, o2, o3, o4, o5⟩, -⟩ := b6_cells HF1.out; (refine bodyPost_ret (v := .agg #[.bool c0, .bool c1, .bool c2, .bool c3, .bool c4, .bool c5]) (by simp [results, Try.results16, go_sem, o0, o1, o2, o3, o4, o5]) rfl ?_); exact ⟨HCE.out, HFB.out⟩
end Go.Proofs.Ytmahgfgndfcmpag
