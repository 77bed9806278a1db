/- Texts of one proof, one behind the other: MG2. -/
import Derived.Test.YtfhbpfgbnfcdaagB16
import Derived.Test.YtfhbpfgbnfcdaagB07
/- Walks: the model of what is reached. -/
namespace Go.Proofs.Ytfhbpfgbnfcdaag
open Go.RowKit Go.Sort

def atFl (N i : Nat) : Array Value := ((List.range N).map fun k => Value.int .i64 (if k < i then (-1) else 0)).toArray
def atCl (N : Nat) (L : List Nat) : Array Value := ((List.range N).map fun v => Value.int .i64 (atI L v)).toArray
theorem atFl_size (N i : Nat) : (atFl N i).size = N := by simp [atFl]
theorem atCl_size (N : Nat) (L : List Nat) : (atCl N L).size = N := by simp [atCl]
theorem atFl_get {N i k : Nat} (h : k < N) : (atFl N i)[k]? = some (.int .i64 (if k < i then (-1) else 0)) := by simp [atFl, h]
theorem atCl_get {N k : Nat} (L : List Nat) (h : k < N) : (atCl N L)[k]? = some (.int .i64 (atI L k)) := by simp [atCl, h]
theorem atFl_zero (N : Nat) : madeCells #[Value.int .i64 0] N = atFl N 0 := by
  apply Array.ext'; rw [toList_madeCells_one]; simp [atFl, List.map_const']
theorem atFl_set {N i : Nat} : (atFl N i).setIfInBounds i (.int .i64 (-1)) = atFl N (i + 1) := by
  apply Array.ext_getElem?; intro j; by_cases hj : j < N
  · rw [atFl_get hj]
    by_cases e : i = j
    · subst e
      (rw [Array.getElem?_setIfInBounds_self_of_lt (by rw [atFl_size]; exact hj)])
      simp
    · rw [Array.getElem?_setIfInBounds_ne e, atFl_get hj]
      congr 2
      by_cases h : j < i
      · rw [if_pos h, if_pos (by omega)]
      · rw [if_neg h, if_neg (by omega)]
  · rw [Array.getElem?_eq_none (by simp [atFl_size]; omega), Array.getElem?_eq_none (by simp [atFl_size]; omega)]
theorem atFl_all (N : Nat) : atFl N N = atCl N [] := by
  apply Array.ext_getElem?; intro j; by_cases hj : j < N
  · rw [atFl_get hj, atCl_get _ hj, if_pos hj]
    rfl
  · rw [Array.getElem?_eq_none (by simp [atFl_size]; omega), Array.getElem?_eq_none (by simp [atCl_size]; omega)]
theorem idxOf_snoc {L : List Nat} {v : Nat} (h : v ∉ L) : (L ++ [v]).idxOf v = L.length := by
  rw [List.idxOf_append, if_neg h]
  simp
theorem atCl_set {N : Nat} {L : List Nat} {v : Nat} (h : v ∉ L) : (atCl N L).setIfInBounds v (.int .i64 (L.length : Nat)) = atCl N (L ++ [v]) := by
  apply Array.ext_getElem?; intro j; by_cases hj : j < N
  · rw [atCl_get _ hj]
    by_cases e : v = j
    · subst e
      (rw [Array.getElem?_setIfInBounds_self_of_lt (by rw [atCl_size]; exact hj), atI, if_pos (by simp), idxOf_snoc h])
    · rw [Array.getElem?_setIfInBounds_ne e, atCl_get _ hj]
      congr 2
      unfold atI; by_cases hm : j ∈ L
      · rw [if_pos hm, if_pos (by simp [hm]), List.idxOf_append, if_pos hm]
      · rw [if_neg hm, if_neg (by simp [hm]; exact fun e2 => e e2.symm)]
  · rw [Array.getElem?_eq_none (by simp [atCl_size]; omega), Array.getElem?_eq_none (by simp [atCl_size]; omega)]
/-- What is reached so far: the first i with all that they see. -/
structure Bfs (N : Nat) (S : Nat → List Nat) (u0 : Nat) (L : List Nat) (i : Nat) : Prop where
  nd : L.Nodup
  lt : ∀ u ∈ L, u < N
  st : u0 ∈ L
  done : ∀ j, j < i → ∀ v ∈ S (L.getD j 0), v ∈ L
theorem Bfs.len {N : Nat} {S : Nat → List Nat} {u0 : Nat} {L : List Nat} {i : Nat} (h : Bfs N S u0 L i) : L.length ≤ N := by
  (have := nodup_le_len (b := List.range N) h.nd fun u hu => List.mem_range.2 (h.lt u hu))
  rwa [List.length_range] at this
theorem getD_snoc {L : List Nat} {v j : Nat} (h : j < L.length) : (L ++ [v]).getD j 0 = L.getD j 0 := by
  rw [List.getD_eq_getElem?_getD, List.getD_eq_getElem?_getD, List.getElem?_append_left h]
theorem Bfs.snoc {N : Nat} {S : Nat → List Nat} {u0 : Nat} {L : List Nat} {i v : Nat} (h : Bfs N S u0 L i) (hi : i ≤ L.length) (hv : v < N) (hn : v ∉ L) : Bfs N S u0 (L ++ [v]) i := by
  (refine ⟨?_, fun u hu => ?_, by simp [h.st], fun j hj x hx => ?_⟩)
  · rw [List.nodup_append]
    (exact ⟨h.nd, by simp, fun a ha b hb e => by simp at hb; subst e hb; exact hn ha⟩)
  · rcases List.mem_append.1 hu with h1 | h1
    · exact h.lt u h1
    · simp at h1; rw [h1]; exact hv
  · rw [getD_snoc (by omega)] at hx
    exact List.mem_append_left _ (h.done j hj x hx)
theorem Bfs.gen {N : Nat} {S : Nat → List Nat} {u0 : Nat} {L : List Nat} (h : Bfs N S u0 L L.length) : Gen N S L := ⟨h.nd, h.lt, fun u hu v hv => by
  have hi := List.idxOf_lt_length_iff.2 hu
  exact h.done _ hi v (by rw [getD_idx hu]; exact hv)⟩
theorem atI_neg {L : List Nat} {v : Nat} : atI L v < 0 ↔ v ∉ L := by
  unfold atI; by_cases h : v ∈ L
  · rw [if_pos h]; simp [h]
  · rw [if_neg h]; simp [h]
theorem own_oneM {w : World} {T : TypeId} {c : Value} {B : Nat} (hB : B ≤ w.heap.size) : (w.alloc (.cells #[c] T (0, 0))).ownsRow B T 1 (.slice (some ⟨w.heap.size, 0, none⟩) 1 1) 1 [c] :=
  ⟨rfl, Or.inr ⟨w.heap.size, 1, #[c], rfl, hB, blk_new _ _, Nat.le_refl _, by decide, rfl, rfl⟩⟩
theorem rowG13 (l : List Value) (h0 : l.length = 13) : ∃ x0 x1 x2 x3 x4 x5 x6 x7 x8 x9 x10 x11 x12, l = [x0, x1, x2, x3, x4, x5, x6, x7, x8, x9, x10, x11, x12] := by
  obtain ⟨x0, l1, e0, h1⟩ := cons_lenM h0; obtain ⟨x1, l2, e1, h2⟩ := cons_lenM h1; obtain ⟨x2, l3, e2, h3⟩ := cons_lenM h2; obtain ⟨x3, l4, e3, h4⟩ := cons_lenM h3; obtain ⟨x4, l5, e4, h5⟩ := cons_lenM h4; obtain ⟨x5, l6, e5, h6⟩ := cons_lenM h5; obtain ⟨x6, l7, e6, h7⟩ := cons_lenM h6; obtain ⟨x7, l8, e7, h8⟩ := cons_lenM h7; obtain ⟨x8, l9, e8, h9⟩ := cons_lenM h8; obtain ⟨x9, l10, e9, h10⟩ := cons_lenM h9; obtain ⟨x10, l11, e10, h11⟩ := cons_lenM h10; obtain ⟨x11, l12, e11, h12⟩ := cons_lenM h11; obtain ⟨x12, l13, e12, h13⟩ := cons_lenM h12; have e13 : l13 = [] := List.length_eq_zero_iff.1 h13; subst e13 e12 e11 e10 e9 e8 e7 e6 e5 e4 e3 e2 e1 e0; exact ⟨x0, x1, x2, x3, x4, x5, x6, x7, x8, x9, x10, x11, x12, rfl⟩
theorem rowG20 (l : List Value) (h0 : l.length = 20) : ∃ x0 x1 x2 x3 x4 x5 x6 x7 x8 x9 x10 x11 x12 x13 x14 x15 x16 x17 x18 x19, l = [x0, x1, x2, x3, x4, x5, x6, x7, x8, x9, x10, x11, x12, x13, x14, x15, x16, x17, x18, x19] := by
  obtain ⟨x0, l1, e0, h1⟩ := cons_lenM h0; obtain ⟨x1, l2, e1, h2⟩ := cons_lenM h1; obtain ⟨x2, l3, e2, h3⟩ := cons_lenM h2; obtain ⟨x3, l4, e3, h4⟩ := cons_lenM h3; obtain ⟨x4, l5, e4, h5⟩ := cons_lenM h4; obtain ⟨x5, l6, e5, h6⟩ := cons_lenM h5; obtain ⟨x6, l7, e6, h7⟩ := cons_lenM h6; obtain ⟨x7, l8, e7, h8⟩ := cons_lenM h7; obtain ⟨x8, l9, e8, h9⟩ := cons_lenM h8; obtain ⟨x9, l10, e9, h10⟩ := cons_lenM h9; obtain ⟨x10, l11, e10, h11⟩ := cons_lenM h10; obtain ⟨x11, l12, e11, h12⟩ := cons_lenM h11; obtain ⟨x12, l13, e12, h13⟩ := cons_lenM h12; obtain ⟨x13, l14, e13, h14⟩ := cons_lenM h13; obtain ⟨x14, l15, e14, h15⟩ := cons_lenM h14; obtain ⟨x15, l16, e15, h16⟩ := cons_lenM h15; obtain ⟨x16, l17, e16, h17⟩ := cons_lenM h16; obtain ⟨x17, l18, e17, h18⟩ := cons_lenM h17; obtain ⟨x18, l19, e18, h19⟩ := cons_lenM h18; obtain ⟨x19, l20, e19, h20⟩ := cons_lenM h19; have e20 : l20 = [] := List.length_eq_zero_iff.1 h20; subst e20 e19 e18 e17 e16 e15 e14 e13 e12 e11 e10 e9 e8 e7 e6 e5 e4 e3 e2 e1 e0; exact ⟨x0, x1, x2, x3, x4, x5, x6, x7, x8, x9, x10, x11, x12, x13, x14, x15, x16, x17, x18, x19, rfl⟩
theorem encP_snoc : ∀ (rs : List (Int × Int)) (p : Int × Int), encP (rs ++ [p]) = encP rs ++ [.int .i64 p.1, .int .i64 p.2]
  | [], p => rfl
  | r :: rs, p => by rw [List.cons_append, encP, encP, encP_snoc rs p]; rfl
set_option maxRecDepth 10000 in
set_option maxHeartbeats 16000000 in
theorem seenFrom_any (N : Nat) (hN : N ≤ 40) (rel : List (Int × Int)) (hrl : rel.length ≤ 2000) (hin : InR N rel) (tr : List (List (List UInt8))) (htr : tr.length = N) (u0 : Nat) (hu0 : u0 < N) (v : Value) (w : World) (hv : MR w ⟨(N : Int), rel, tr⟩ v) :
    Calls Try.prog 26 #[v, .int .i64 (u0 : Nat)] w fun e w' => ∃ L x g, e = .returned (.tuple #[x, .slice (some ⟨g, 0, none⟩) N N]) ∧ w.heap.size ≤ g ∧ Gen N (fun u => seenTo N rel u N) L ∧ L ≠ [] ∧ MR w' ⟨(L.length : Int), relG (fun u => seenTo N rel u N) L L.length, trG tr L⟩ x ∧ (∀ q, q < N → w'.cell? ⟨g, q, none⟩ = some (.int .i64 (atI L q))) ∧ Below w.heap.size w w' := by
  have HIn : Hid (InR N rel) := hin; have HN : Hid (N ≤ 40) := hN; have HRl : Hid (rel.length ≤ 2000) := hrl; have HTr : Hid (tr.length = N) := htr; have HU0 : Hid (u0 < N) := hu0; obtain ⟨ra, rc, ta, tc, rfl, hpl, hsl, hmx⟩ := hv; simp only at hpl hsl hmx ⊢; have HPl : Hid (PL w (.slice ra rel.length rc) rel) := hpl; have HMx : Hid (∀ l ∈ tr, ∀ t ∈ l, t.length ≤ maxLen) := hmx; obtain ⟨ta', tc', e2, s1, s2, s3⟩ := hsl; simp only [Value.slice.injEq, true_and] at e2; obtain ⟨rfl, rfl⟩ := e2; (obtain ⟨tb, toff, rfl, hcT⟩ := s3 (fun e => by rw [e] at htr; simp at htr; omega))
  obtain ⟨tv, htv⟩ : ∃ tv : Nat → Value, ∀ q, q < N → w.cell? ⟨tb, toff + q, none⟩ = some (tv q) ∧ SL w (tv q) (tr.getD q []) := by
    (refine ⟨fun q => (w.cell? ⟨tb, toff + q, none⟩).getD undef, fun q hq => ?_⟩); (obtain ⟨u, h1, h2⟩ := hcT q (tr.getD q []) (by rw [List.getD_eq_getElem?_getD, List.getElem?_eq_getElem (by omega)]; rfl)); simp only [h1, Option.getD_some]; exact ⟨trivial, h2⟩
  have HTv : Hid (∀ q, q < N → w.cell? ⟨tb, toff + q, none⟩ = some (tv q) ∧ SL w (tv q) (tr.getD q [])) := htv; (have htcI : (N : Int) ≤ (tc : Int) := by omega); (have hNI : (N : Int) ≤ 40 := by omega); (have huI : (u0 : Int) < (N : Int) := by omega); (have HSe : Hid (∀ W, PL W (.slice ra rel.length rc) rel → Calls Try.prog 39 #[.agg #[.int .i64 (N : Nat), .slice ra rel.length rc, .slice (some ⟨tb, toff, none⟩) tr.length tc]] W _) := fun W h => seen_any N hN rel hrl hin ra (some ⟨tb, toff, none⟩) rc tr.length tc W h); (have hmk := fun w => run_make_row' (P := Try.prog) 58 3 (.int .i64 0) 8 Try.underlying58 (by kernel_rfl) rfl .i64 .i64 N (by omega) (by omega) w); obtain ⟨W0, hW0⟩ : ∃ W0, W0 = (w.alloc (.cells #[.int .i64 (N : Nat), .slice ra rel.length rc, .slice (some ⟨tb, toff, none⟩) tr.length tc] 25 (0, 0))).alloc (.cells #[.int .i64 0, .slice none 0 0, .slice none 0 0] 25 (0, 0)) := ⟨_, rfl⟩; (have HB0 : Hid (Below w.heap.size w W0) := by rw [hW0]; exact below_more (below_more (Below.refl _ w) _) _); (have HM0 : Hid (W0.heap[w.heap.size]? = some (.cells #[.int .i64 (N : Nat), .slice ra rel.length rc, .slice (some ⟨tb, toff, none⟩) tr.length tc] 25 (0, 0))) := by rw [hW0]; exact alloc_keep (blk_new _ _) _); (have HZ0 : Hid (W0.heap[w.heap.size + 1]? = some (.cells #[.int .i64 0, .slice none 0 0, .slice none 0 0] 25 (0, 0))) := by rw [hW0]; exact blk_secE _ _ _); clear hpl hmx s1 s2 s3 hcT htv hin hrl htr hu0 hN
  go_enter Try.func26, Try.ntmps26
  go_wp2_with fail; rw [← hW0]; refine (HSe.out W0 (HPl.out.up HB0.out)).mono ?_; rintro _ w1 ⟨g, rfl, hg0, hsn, hb1⟩; have HSn : Hid (SnR W0.heap.size w1 g N rel) := hsn; have HB1 : Hid (Below w.heap.size w w1) := below_join HB0.out hb1; have HM1 : Hid (w1.heap[w.heap.size]? = some (.cells #[.int .i64 (N : Nat), .slice ra rel.length rc, .slice (some ⟨tb, toff, none⟩) tr.length tc] 25 (0, 0))) := below_keep hb1 HM0.out; have HZ1 : Hid (w1.heap[w.heap.size + 1]? = some (.cells #[.int .i64 0, .slice none 0 0, .slice none 0 0] 25 (0, 0))) := below_keep hb1 HZ0.out; clear hg0 hsn hb1 hW0 HSe HM0 HZ0 HB0; obtain ⟨AT, hAT⟩ : ∃ AT, AT = w1.heap.size := ⟨_, rfl⟩; have HAT : Hid (AT = w1.heap.size) := hAT; obtain ⟨k0, k1, k2, -⟩ := blk3 HM1.out; go_wp2_with fail; rw [← hAT]; clear hmk k0 k1 k2 hAT
  go_loopg [8] N (fun gg cc wr => ∃ i, i ≤ N ∧ gg = N - i ∧ cc = .int .i64 (i : Nat) ∧ Hid (wr.heap[AT]? = some (.cells (atFl N i) 3 (0, 0))) ∧ Hid (Below w1.heap.size w1 wr))
  case atStart => exact ⟨0, by omega, by omega, rfl, by rw [← atFl_zero, HAT.out]; exact blk_new _ _, below_more (Below.refl _ _) _⟩
  case round =>
    obtain ⟨i, hi, hg, rfl, HA, HB⟩ := hrel; have HGk : Hid (gk = N - i) := hg; clear hg; have HMr : Hid (wr.heap[w.heap.size]? = some (.cells #[.int .i64 (N : Nat), .slice ra rel.length rc, .slice (some ⟨tb, toff, none⟩) tr.length tc] 25 (0, 0))) := below_keep HB.out HM1.out; obtain ⟨k0, k1, k2, -⟩ := blk3 HMr.out; by_cases hlt : i < N
    · have hltI : (i : Int) < (N : Int) := by omega
      have HI : Hid (i < N) := hlt; have e0 := blk_cell HA.out i; rw [atFl_get hlt] at e0; have e1 := blk_fz HA.out i; clear hlt hi; go_wp2_with fail
      go_roundg (N - (i + 1))
      case measure => have := HGk.out; have := HI.out; omega
      case rel => exact ⟨i + 1, HI.out, rfl, by go_num, by have := set_cellE (j := i) HA.out (.int .i64 (-1)); rw [atFl_set] at this; exact this, HB.out.setCell (p := ⟨AT, i, none⟩) (by have := HAT.out; simp; omega) _⟩
    · have hii : N = i := by omega
      subst hii; (have hge : ¬ (N : Int) < (N : Int) := by omega); rw [atFl_all] at HA; clear hlt hi; have e0 := blk_cell HA.out u0; rw [atCl_get _ HU0.out] at e0; have e1 := blk_fz HA.out u0; have hz : AT < wr.heap.size := lt_of_block HA.out; go_wp2_with fail; obtain ⟨V, hV⟩ : ∃ V, V = (wr.setCell ⟨AT, u0, none⟩ (.int .i64 0)).alloc (.cells #[.int .i64 (u0 : Nat)] 3 (0, 0)) := ⟨_, rfl⟩; (have hys : (wr.setCell ⟨AT, u0, none⟩ (.int .i64 0)).heap.size = wr.heap.size := by simp only [World.setCell, Array.size_modify])
      have HVA : Hid (V.heap[AT]? = some (.cells (atCl N [u0]) 3 (0, 0))) := by
        have := set_cellE (j := u0) HA.out (.int .i64 ((([] : List Nat).length : Nat) : Int)); (rw [atCl_set (by simp)] at this); rw [hV]; exact alloc_keep this _
      (have HVB : Hid (Below w1.heap.size w1 V) := by rw [hV]; exact below_more (HB.out.setCell (p := ⟨AT, u0, none⟩) (by have := HAT.out; simp; omega) _) _)
      have HVo : Hid (V.ownsRow (AT + 1) 3 1 (.slice (some ⟨wr.heap.size, 0, none⟩) 1 1) 1 [.int .i64 (u0 : Nat)]) := by
        (have := own_oneM (w := wr.setCell ⟨AT, u0, none⟩ (.int .i64 0)) (T := 3) (c := .int .i64 (u0 : Nat)) (B := AT + 1) (by rw [hys]; omega)); rw [hys] at this; rw [hV]; exact this
      have HVs : Hid (AT + 1 ≤ V.heap.size) := by
        rw [hV]; show _ ≤ _; rw [World.size_alloc, hys]; omega
      clear hys; rw [← hV]; clear hV e0 e1 hz k0 k1 k2 HA HB HMr hge; generalize wr.heap.size = b0 at *
      go_loopg [10, 9] N (fun gg cc x wr => ∃ i L ad cp, i ≤ L.length ∧ gg = N - i ∧ cc = .int .i64 (i : Nat) ∧ x = .slice ad L.length cp ∧ Hid (Bfs N (fun u => seenTo N rel u N) u0 L i) ∧ Hid (wr.heap[AT]? = some (.cells (atCl N L) 3 (0, 0))) ∧ Hid (wr.ownsRow (AT + 1) 3 1 (.slice ad L.length cp) L.length (L.map encI)) ∧ Hid (Below w1.heap.size w1 wr) ∧ Hid (AT + 1 ≤ wr.heap.size))
      case atStart => exact ⟨0, [u0], some ⟨b0, 0, none⟩, 1, by simp, by omega, rfl, rfl, ⟨by simp, by simpa using HU0.out, by simp, fun j h => absurd h (Nat.not_lt_zero _)⟩, HVA, HVo, HVB, HVs⟩
      case round =>
        obtain ⟨i, L, ad, cp, hi, hg, rfl, rfl, HBf, HA, HOw, HB, HSz⟩ := hrel; have HGk : Hid (gk = N - i) := hg; clear hg; have hlN := HBf.out.len; (have hlI : (L.length : Int) ≤ 40 := by have := HN.out; omega); by_cases hlt : i < L.length
        · have hltI : (i : Int) < (L.length : Int) := by omega
          have HI : Hid (i < L.length) := hlt; (have HIN : Hid (i < N) := by show _ < _; omega); obtain ⟨x, hx⟩ : ∃ x, L[i]? = some x := ⟨_, List.getElem?_eq_getElem hlt⟩; have hxN : x < N := HBf.out.lt x (List.mem_of_getElem? hx); have HXN : Hid (x < N) := hxN; (have hxI : (x : Int) < (N : Int) := by omega); have HX : Hid (L[i]? = some x) := hx; (have HXd : Hid (∀ q, (L ++ q).getD i 0 = x) := fun q => by rw [List.getD_eq_getElem?_getD, List.getElem?_append_left hlt, hx]; rfl); obtain ⟨sa, sc, c0, c1, c2, c3⟩ := HSn.out.row hxN; have hsl := seenTo_len N rel x N; obtain ⟨SX, hSX⟩ : ∃ SX, SX = seenTo N rel x N := ⟨_, rfl⟩; rw [← hSX] at c0 c1 c3 hsl; have HSX : Hid (SX = seenTo N rel x N) := hSX; have HC0 : Hid (w1.cell? ⟨g, x, none⟩ = some (.slice sa SX.length sc)) := c0; have HC3 : Hid (0 < SX.length → ∃ b, sa = some ⟨b, 0, none⟩ ∧ ∀ (j k : Nat), SX[j]? = some k → w1.cell? ⟨b, j, none⟩ = some (.int .i64 (k : Nat))) := c3; (have hscI : (SX.length : Int) ≤ (sc : Int) := by omega); (have hslI : (SX.length : Int) ≤ 40 := by have := HN.out; omega); clear c0 c1 c2 c3 hsl hSX hxN hx hlt hi hlN; go_wp2_with fail
          go_loopg [11, 9] SX.length (fun gg cc y wr => ∃ k q ad cp, k ≤ SX.length ∧ gg = SX.length - k ∧ cc = .int .i64 (k : Nat) ∧ y = .slice ad (L ++ q).length cp ∧ Hid (Bfs N (fun u => seenTo N rel u N) u0 (L ++ q) i) ∧ Hid (∀ (j v : Nat), j < k → SX[j]? = some v → v ∈ L ++ q) ∧ Hid (wr.heap[AT]? = some (.cells (atCl N (L ++ q)) 3 (0, 0))) ∧ Hid (wr.ownsRow (AT + 1) 3 1 (.slice ad (L ++ q).length cp) (L ++ q).length ((L ++ q).map encI)) ∧ Hid (Below w1.heap.size w1 wr) ∧ Hid (AT + 1 ≤ wr.heap.size))
          case atStart => exact ⟨0, [], ad, cp, by omega, by omega, rfl, by rw [List.append_nil], by rw [List.append_nil]; exact HBf, fun j v h => absurd h (Nat.not_lt_zero _), by rw [List.append_nil]; exact HA, by rw [List.append_nil]; exact HOw, HB, HSz⟩
          case round =>
            obtain ⟨k, q, ad, cp, hk, hg, rfl, rfl, HBf, HQ, HA, HOw, HB, HSz⟩ := hrel; have HGq : Hid (gk = SX.length - k) := hg; clear hg; obtain ⟨LQ, hLQ⟩ : ∃ LQ, LQ = L ++ q := ⟨_, rfl⟩; have HLQ : Hid (LQ = L ++ q) := hLQ; rw [← hLQ] at HBf HQ HA HOw ⊢; (have hgi : LQ[i]? = some x := by rw [hLQ, List.getElem?_append_left HI.out]; exact HX.out); have hlN := HBf.out.len; (have hlI : (LQ.length : Int) ≤ 40 := by have := HN.out; omega); (have hil : i < LQ.length := by rw [hLQ]; have := HI.out; simp; omega); (have hilI : (i : Int) < (LQ.length : Int) := by omega); obtain ⟨p1, p2⟩ := rowM_caps HOw.out; (have hicI : (i : Int) < (cp : Int) := by omega); (obtain ⟨bl, rfl, hcl⟩ := rowM_cells HOw.out (by omega)); (have d0 := hcl i (encI x) (by rw [List.getElem?_map, hgi]; rfl)); rw [Nat.zero_add] at d0; unfold encI at d0; have d1 := (HB.out.cell (lt_of_cell HC0.out)).trans HC0.out; clear hLQ hgi hil hcl p1 p2; by_cases hlt : k < SX.length
            · obtain ⟨v, hv⟩ : ∃ v, SX[k]? = some v := ⟨_, List.getElem?_eq_getElem hlt⟩
              (obtain ⟨bs, rfl, hcs⟩ := HC3.out (by omega)); have d2 := (HB.out.cell (lt_of_cell (hcs k v hv))).trans (hcs k v hv); (have hvm : v ∈ seenTo N rel x N := by rw [← HSX.out]; exact List.mem_of_getElem? hv); have hvN : v < N := ((seenTo_mem HIn.out).1 hvm).1; have HVN : Hid (v < N) := hvN; (have hvI : (v : Int) < (N : Int) := by omega); have d3 := blk_cell HA.out v; rw [atCl_get _ hvN] at d3; have d4 := blk_fz HA.out v; (have hkI : (k : Int) < (SX.length : Int) := by omega); (have hkc : (k : Int) < (sc : Int) := by omega); have HK : Hid (k < SX.length) := hlt; have HV : Hid (SX[k]? = some v) := hv
              have HQn : Hid (∀ L' : List Nat, (∀ z ∈ LQ, z ∈ L') → v ∈ L' → ∀ (j z : Nat), j < k + 1 → SX[j]? = some z → z ∈ L') := fun L' h1 h2 j z hj hz => by
                by_cases e : j = k
                · rw [e, HV.out] at hz; cases hz; exact h2
                · exact h1 z (HQ.out j z (by omega) hz)
              obtain ⟨av, hav⟩ : ∃ av, av = atI LQ v := ⟨_, rfl⟩; rw [← hav] at d3; clear hlt hk hv hcs hvm hvN; by_cases hin : v ∈ LQ
              · have hge : ¬ av < 0 := by rw [hav, atI_neg]; exact fun h => h hin
                have HV2 : Hid (v ∈ LQ) := hin; clear hin hav; go_wp2_with fail
                go_roundg (SX.length - (k + 1))
                case measure => have := HGq.out; have := HK.out; omega
                case rel => exact ⟨k + 1, q, some ⟨bl, 0, none⟩, cp, HK.out, rfl, by go_num, by rw [HLQ.out], by rw [← HLQ.out]; exact HBf, by rw [← HLQ.out]; exact HQn.out LQ (fun z h => h) HV2.out, by rw [← HLQ.out]; exact HA, by rw [← HLQ.out]; exact HOw, HB, HSz⟩
              · have hlt0 : av < 0 := by rw [hav, atI_neg]; exact hin
                have HV2 : Hid (v ∉ LQ) := hin; obtain ⟨i0, hi0, hz0, hz1, hz2⟩ := infoI9; obtain ⟨Y, hY⟩ : ∃ Y, wr.setCell ⟨AT, v, none⟩ (.int .i64 (LQ.length : Nat)) = Y := ⟨_, rfl⟩
                have HYA : Hid (Y.heap[AT]? = some (.cells (atCl N (LQ ++ [v])) 3 (0, 0))) := by
                  have := set_cellE (j := v) HA.out (.int .i64 (LQ.length : Nat)); rw [atCl_set HV2.out] at this; rw [← hY]; exact this
                (have HYB : Hid (Below w1.heap.size w1 Y) := by rw [← hY]; exact HB.out.setCell (p := ⟨AT, v, none⟩) (by have := HAT.out; simp; omega) _); (have HYz : Hid (AT + 1 ≤ Y.heap.size) := by rw [← hY]; show _ ≤ _; simp only [World.setCell, Array.size_modify]; exact HSz.out)
                have HYo : Hid (Y.ownsRow (AT + 1) 3 1 (.slice (some ⟨bl, 0, none⟩) LQ.length cp) LQ.length (LQ.map encI)) := by
                  rw [← hY]; (exact rowM_move HOw.out fun gq cur hgq _ => Below.heap_setCell _ _ _ _ (by have := (HOw.out.lt gq hgq).1; simp; omega))
                clear hin hav
                go_wp2_with (first
                  | (at_builtin
                     have hsz := HYz.out; have hown := rowM_up HYo.out ((Below.refl _ Y).alloc (Nat.le_refl _) (.cells #[.int .i64 (v : Nat)] 3 (0, 0))); (refine wpList_append_lies _ rfl _ _ 58 rfl (AT + 1) 3 i0 (.int .i64 0) 1 8 Try.underlying58 hi0 hz0 hz1 hz2 rfl (by decide) (.slice (some ⟨bl, 0, none⟩) LQ.length cp) LQ.length (LQ.map encI) rfl hown ⟨Y.heap.size, 0, none⟩ 1 1 [.int .i64 (v : Nat)] rfl rfl ?_ ?_ (by omega) (by unfold maxLen; omega) (by omega) (by simp; omega) _ rfl ?_)
                     · intro j u hu
                       rw [add_none, Nat.zero_add, blk_cell (blk_new Y _)]; simpa using hu
                     · intro u hu
                       simp at hu; subst hu; rfl
                     intro g3 cp3 w3 hown3 hgrow hat hlt3; have hgrow' : (Y.alloc (.cells #[.int .i64 (v : Nat)] 3 (0, 0))).grownBy w3 (Value.slice (some ⟨bl, 0, none⟩) LQ.length cp).ownBlock := hgrow; have hlt' := HYo.out.lt; (have HB3 : Hid (Below w1.heap.size w1 w3) := ((below_more HYB.out _).grown hgrow' (by have := HYB.out.size; simp; omega) fun k hk => by have := (hlt' k hk).1; have := HAT.out; omega)); (have HA3 : Hid (w3.heap[AT]? = some (.cells (atCl N (LQ ++ [v])) 3 (0, 0))) := (hgrow'.block AT (by simp; omega) fun e => by have := (hlt' _ e.symm).1; omega).trans (alloc_keep HYA.out _)); (have HZ3 : Hid (AT + 1 ≤ w3.heap.size) := by have := hgrow'.size; simp only [World.size_alloc] at this; show _ ≤ _; omega); have HOw3 : Hid (w3.ownsRow (AT + 1) 3 1 (.slice (some ⟨g3, 0, none⟩) (LQ.length + 1) cp3) (LQ.length + 1) (LQ.map encI ++ [.int .i64 (v : Nat)])) := hown3
                     clear hgrow hgrow' hat hown3 hown hlt' hsz hlt3 hi0 hz0 hz1 hz2)
                  | fail)
                go_roundg (SX.length - (k + 1))
                case measure => have := HGq.out; have := HK.out; omega
                case rel =>
                  (have e1 : L ++ (q ++ [v]) = LQ ++ [v] := by rw [HLQ.out, List.append_assoc]); (have e2 : (L ++ (q ++ [v])).length = LQ.length + 1 := by rw [e1]; simp); (refine ⟨k + 1, q ++ [v], some ⟨g3, 0, none⟩, cp3, HK.out, rfl, by go_num, by rw [e2], ?_, ?_, ?_, ?_, HB3, HZ3⟩)
                  · rw [e1]; exact HBf.out.snoc (by have := HI.out; rw [HLQ.out]; simp; omega) HVN.out HV2.out
                  · rw [e1]; exact HQn.out _ (fun z h => List.mem_append_left _ h) (by simp)
                  · rw [e1]; exact HA3
                  · rw [e2, e1, List.map_append]; exact HOw3
            · have hkk : k = SX.length := by omega
              subst hkk; (have hge : ¬ (SX.length : Int) < (SX.length : Int) := by omega); clear hlt hk; go_wp2_with fail
              go_roundg (N - (i + 1))
              case measure => have := HGk.out; have := HIN.out; omega
              case rel =>
                (refine ⟨i + 1, LQ, some ⟨bl, 0, none⟩, cp, by have := HI.out; rw [HLQ.out]; simp; omega, rfl, by go_num, rfl, ⟨HBf.out.nd, HBf.out.lt, HBf.out.st, fun j hj z hz => ?_⟩, HA, HOw, HB, HSz⟩); by_cases e : j = i
                · rw [e, HLQ.out, HXd.out q] at hz
                  (have hz2 : z ∈ SX := by rw [HSX.out]; exact hz); obtain ⟨jj, hjj⟩ := List.getElem?_of_mem hz2
                  exact HQ.out jj z (by
                    rcases Nat.lt_or_ge jj SX.length with h | h
                    · exact h
                    · rw [List.getElem?_eq_none h] at hjj; cases hjj) hjj
                · exact HBf.out.done j (by omega) z hz
        · have hii : L.length = i := by omega
          subst hii; (have hge : ¬ (L.length : Int) < (L.length : Int) := by omega); clear hlt hi; go_wp2_with fail; obtain ⟨R0, hR0⟩ : ∃ R0, R0 = wr := ⟨_, rfl⟩; subst hR0; obtain ⟨MB, hMB⟩ : ∃ MB, MB = R0.heap.size := ⟨_, rfl⟩; have HMB : Hid (MB = R0.heap.size) := hMB; rw [← hMB]; clear hMB hge; (have HGen : Hid (Gen N (fun u => seenTo N rel u N) L) := HBf.out.gen); (obtain ⟨RG, hRG⟩ : ∃ RG, RG = fun n => relG (fun u => seenTo N rel u N) L n := ⟨_, rfl⟩); (have HRG : Hid (∀ n, RG n = relG (fun u => seenTo N rel u N) L n) := fun n => by rw [hRG])
          have HRL : Hid (∀ n, n ≤ L.length → (RG n).length ≤ 2000) := fun n hn => by
            rw [HRG.out]; (exact Nat.le_trans (relG_len rel HGen.out.nd (fun u => seenTo_nodup N rel u N) (fun u v hv => ((seenTo_mem HIn.out).1 hv).2) n hn) HRl.out)
          (have HR0z : Hid ((RG 0).length = 0) := by rw [hRG]; rfl); (have HR0e : Hid (encP (RG 0) = []) := by rw [hRG]; rfl); clear hRG; (have hMl : (L.length : Int) ≤ 40 := by have := HN.out; omega)
          have HLs : Hid (∃ bl, ad = some ⟨bl, 0, none⟩ ∧ ∀ j z, L[j]? = some z → R0.cell? ⟨bl, j, none⟩ = some (.int .i64 (z : Nat))) := by
            (have hp : 0 < L.length := List.length_pos_iff.2 (fun e => by have := HBf.out.st; rw [e] at this; cases this)); obtain ⟨bl, e, hc⟩ := rowM_cells HOw.out hp; (refine ⟨bl, e, fun j z hj => ?_⟩); (have := hc j (encI z) (by rw [List.getElem?_map, hj]; rfl))
            rwa [Nat.zero_add] at this
          obtain ⟨p1, p2⟩ := rowM_caps HOw.out; (have hlcI : (L.length : Int) ≤ (cp : Int) := by omega); clear p1 p2
          go_loopg [14] L.length (fun gg cc wr => ∃ i ad1 cp1 ad2 cp2, i ≤ L.length ∧ gg = L.length - i ∧ cc = .int .i64 (i : Nat) ∧ Hid (wr.heap[MB]? = some (.cells #[.int .i64 (L.length : Nat), .slice ad1 (RG i).length cp1, .slice ad2 i cp2] 25 (0, 0))) ∧ Hid (wr.ownsRow (MB + 1) 78 2 (.slice ad1 (RG i).length cp1) (RG i).length (encP (RG i))) ∧ Hid (wr.ownsRow (MB + 1) 48 1 (.slice ad2 i cp2) i ((L.take i).map tv)) ∧ Hid (Below R0.heap.size R0 wr) ∧ Hid (MB + 1 ≤ wr.heap.size))
          case atStart =>
            (refine ⟨0, none, 0, none, 0, by omega, by omega, rfl, ?_, ⟨?_, Or.inl ⟨?_, ?_⟩⟩, ⟨rfl, Or.inl ⟨rfl, rfl⟩⟩, below_more (Below.refl _ _) _, ?_⟩)
            · rw [HR0z.out, HMB.out]; exact blk_new _ _
            · rw [HR0e.out, HR0z.out]; rfl
            · rw [HR0z.out]
            · exact HR0z.out
            · show _ ≤ _; rw [HMB.out]; simp
          case round =>
            obtain ⟨i, ad1, cp1, ad2, cp2, hi, hg, rfl, HMd, HOr, HOt, HBr, HSr⟩ := hrel; have HGk : Hid (gk = L.length - i) := hg; clear hg; obtain ⟨bl, rfl, hcl⟩ := HLs.out; have HCl : Hid (∀ j z, L[j]? = some z → R0.cell? ⟨bl, j, none⟩ = some (.int .i64 (z : Nat))) := hcl; clear hcl; by_cases hlt : i < L.length
            · have hltI : (i : Int) < (L.length : Int) := by omega
              (have hlcc : (i : Int) < (cp : Int) := by omega); have HI : Hid (i < L.length) := hlt; obtain ⟨x, hx⟩ : ∃ x, L[i]? = some x := ⟨_, List.getElem?_eq_getElem hlt⟩; have HX : Hid (L[i]? = some x) := hx; have hxN : x < N := HBf.out.lt x (List.mem_of_getElem? hx); have HXN : Hid (x < N) := hxN; (have hxI : (x : Int) < (N : Int) := by omega); (have hxT : (x : Int) < (tr.length : Int) := by have := HTr.out; omega); (have hxc : (x : Int) < (tc : Int) := by omega); obtain ⟨tx1, tx2⟩ := HTv.out x hxN; obtain ⟨xa, xc, txe, -⟩ := tx2; obtain ⟨xn, hxn⟩ : ∃ xn, xn = (tr.getD x []).length := ⟨_, rfl⟩; rw [← hxn] at txe; have HTx : Hid (tv x = .slice xa xn xc) := txe; have HBo : Hid (Below w.heap.size w R0) := below_join HB1.out HB.out; (have HTc : Hid (R0.cell? ⟨tb, toff + x, none⟩ = some (.slice xa xn xc)) := by rw [← txe]; exact (HBo.out.cell (lt_of_cell tx1)).trans tx1); have HMo : Hid (R0.heap[w.heap.size]? = some (.cells #[.int .i64 (N : Nat), .slice ra rel.length rc, .slice (some ⟨tb, toff, none⟩) tr.length tc] 25 (0, 0))) := below_keep HB.out HM1.out; (have hi40 : (i : Int) < 40 := by omega); clear hlt hi hx tx1 txe hxn; go_wp2_with fail; have HLi : Hid (wr.cell? ⟨bl, i, none⟩ = some (.int .i64 (x : Nat))) := (HBr.out.cell (lt_of_cell (HCl.out i x HX.out))).trans (HCl.out i x HX.out); have HTr2 : Hid (wr.cell? ⟨tb, toff + x, none⟩ = some (.slice xa xn xc)) := (HBr.out.cell (lt_of_cell HTc.out)).trans HTc.out; (refine wp_region_wr (by kernel_rfl) [fun v _ => v = (.pointer (some ⟨MB, 2, none⟩)), fun v _ => v = (.slice ad2 i cp2), fun v _ => v = (.pointer (some ⟨w.heap.size, 2, none⟩)), fun v _ => v = (.slice (some ⟨tb, toff, none⟩) tr.length tc), fun v _ => v = (.slice (some ⟨bl, 0, none⟩) L.length cp), fun v _ => v = (.int .i64 (i : Nat)), fun v _ => v = (.pointer (some ⟨bl, i, none⟩)), fun v _ => v = (.int .i64 (x : Nat)), fun v _ => v = (.pointer (some ⟨tb, toff + x, none⟩)), fun v _ => v = (.slice xa xn xc), fun v w => ∃ b, v = .slice (some ⟨b, 0, none⟩) 1 1 ∧ w.cell? ⟨b, 0, none⟩ = some (.slice xa xn xc), fun _ _ => True, fun v _ => v = (.pointer (some ⟨MB, 2, none⟩))] ?_ (by kernel_rfl) (by kernel_rfl) 133 rfl (by kernel_rfl) 13 _ rfl rfl (by kernel_rfl) (fun i => if i = 12 then some (.pointer (some ⟨MB, 2, none⟩)) else none) 11 _ (by decide) rfl rfl 10 (by kernel_rfl) (fun v w => ∃ g3 cp3, v = .slice (some ⟨g3, 0, none⟩) (i + 1) cp3 ∧ w.ownsRow (MB + 1) 48 1 (.slice (some ⟨g3, 0, none⟩) (i + 1) cp3) (i + 1) ((L.take i).map tv ++ [.slice xa xn xc]) ∧ w.ownsRow (MB + 1) 78 2 (.slice ad1 (RG i).length cp1) (RG i).length (encP (RG i)) ∧ w.heap[MB]? = some (.cells #[.int .i64 (L.length : Nat), .slice ad1 (RG i).length cp1, .slice ad2 i cp2] 25 (0, 0)) ∧ Below R0.heap.size R0 w ∧ MB + 1 ≤ w.heap.size) ?_ ?_ ?_ ?_)
              · intro p hp
                simp only [List.mem_cons, List.not_mem_nil, or_false] at hp
                rcases hp with rfl | rfl | rfl | rfl | rfl | rfl | rfl | rfl | rfl | rfl | rfl | rfl | rfl
                · exact fun _ _ _ h _ => h
                · exact fun _ _ _ h _ => h
                · exact fun _ _ _ h _ => h
                · exact fun _ _ _ h _ => h
                · exact fun _ _ _ h _ => h
                · exact fun _ _ _ h _ => h
                · exact fun _ _ _ h _ => h
                · exact fun _ _ _ h _ => h
                · exact fun _ _ _ h _ => h
                · exact fun _ _ _ h _ => h
                · rintro v w1 w2 ⟨b, e, h⟩ hb
                  exact ⟨b, e, (hb.cell (lt_of_cell h)).trans h⟩
                · exact fun _ _ _ h _ => h
                · exact fun _ _ _ h _ => h
              · intro j c wq hj
                by_cases h12 : j = 12
                · subst h12
                  have e : some (.pointer (some ⟨MB, 2, none⟩)) = some c := hj; exact (Option.some.inj e).symm
                simp only [if_neg h12] at hj
                cases hj
              · refine ⟨?_, ?_, ?_, ?_, ?_, ?_, ?_, ?_, ?_, ?_, ?_, ?_, ?_, trivial⟩
                · show StepOk _ _ _ _ _ _ _ _
                  intro a wx hB hold hdep K hK; have t13 : a.tmps[13]? = some (.pointer (some ⟨MB, 0, none⟩)) := hold.2.2 13 rfl; clear hold hdep; go_simp; exact hK.out _ _ rfl (Below.refl _ _)
                · show StepOk _ _ _ _ _ _ _ _
                  intro a wx hB hold hdep K hK; obtain ⟨v86, t86, p86⟩ := hdep 0 rfl _ 86 rfl rfl; have e86 : v86 = (.pointer (some ⟨MB, 2, none⟩)) := p86; subst e86; obtain ⟨k0, k1, k2, -⟩ := blk3 (below_keep hB HMd.out); clear hold hdep; go_simp; exact hK.out _ _ rfl (Below.refl _ _)
                · show StepOk _ _ _ _ _ _ _ _
                  intro a wx hB hold hdep K hK; have t2 : a.tmps[2]? = some (.pointer (some ⟨w.heap.size, 0, none⟩)) := hold.2.2 2 rfl; clear hold hdep; go_simp; exact hK.out _ _ rfl (Below.refl _ _)
                · show StepOk _ _ _ _ _ _ _ _
                  intro a wx hB hold hdep K hK; obtain ⟨v88, t88, p88⟩ := hdep 2 rfl _ 88 rfl rfl; have e88 : v88 = (.pointer (some ⟨w.heap.size, 2, none⟩)) := p88; subst e88; obtain ⟨k0, k1, k2, -⟩ := blk3 (below_keep hB (below_keep HBr.out HMo.out)); clear hold hdep; go_simp; exact hK.out _ _ rfl (Below.refl _ _)
                · show StepOk _ _ _ _ _ _ _ _
                  intro a wx hB hold hdep K hK; have t9 : a.tmps[9]? = some (.slice (some ⟨bl, 0, none⟩) L.length cp) := hold.2.2 9 rfl; clear hold hdep; go_simp; exact hK.out _ _ rfl (Below.refl _ _)
                · show StepOk _ _ _ _ _ _ _ _
                  intro a wx hB hold hdep K hK; have t14 : a.tmps[14]? = some (.int .i64 (i : Nat)) := hold.2.2 14 rfl; clear hold hdep; go_simp; exact hK.out _ _ rfl (Below.refl _ _)
                · show StepOk _ _ _ _ _ _ _ _
                  intro a wx hB hold hdep K hK; obtain ⟨v90, t90, p90⟩ := hdep 4 rfl _ 90 rfl rfl; have e90 : v90 = (.slice (some ⟨bl, 0, none⟩) L.length cp) := p90; subst e90; obtain ⟨v91, t91, p91⟩ := hdep 5 rfl _ 91 rfl rfl; have e91 : v91 = (.int .i64 (i : Nat)) := p91; subst e91; clear hold hdep; go_simp; exact hK.out _ _ rfl (Below.refl _ _)
                · show StepOk _ _ _ _ _ _ _ _
                  intro a wx hB hold hdep K hK; obtain ⟨v92, t92, p92⟩ := hdep 6 rfl _ 92 rfl rfl; have e92 : v92 = (.pointer (some ⟨bl, i, none⟩)) := p92; subst e92; have c9 := (hB.cell (lt_of_cell HLi.out)).trans HLi.out; clear hold hdep; go_simp; exact hK.out _ _ rfl (Below.refl _ _)
                · show StepOk _ _ _ _ _ _ _ _
                  intro a wx hB hold hdep K hK; obtain ⟨v89, t89, p89⟩ := hdep 3 rfl _ 89 rfl rfl; have e89 : v89 = (.slice (some ⟨tb, toff, none⟩) tr.length tc) := p89; subst e89; obtain ⟨v93, t93, p93⟩ := hdep 7 rfl _ 93 rfl rfl; have e93 : v93 = (.int .i64 (x : Nat)) := p93; subst e93; clear hold hdep; go_simp; exact hK.out _ _ rfl (Below.refl _ _)
                · show StepOk _ _ _ _ _ _ _ _
                  intro a wx hB hold hdep K hK; obtain ⟨v94, t94, p94⟩ := hdep 8 rfl _ 94 rfl rfl; have e94 : v94 = (.pointer (some ⟨tb, toff + x, none⟩)) := p94; subst e94; have c9 := (hB.cell (lt_of_cell HTr2.out)).trans HTr2.out; clear hold hdep; go_simp; exact hK.out _ _ rfl (Below.refl _ _)
                · show StepOk _ _ _ _ _ _ _ _
                  intro a wx hB hold hdep K hK; obtain ⟨v95, t95, p95⟩ := hdep 9 rfl _ 95 rfl rfl; have e95 : v95 = (.slice xa xn xc) := p95; subst e95; clear hold hdep; go_simp; (exact hK.out _ _ ⟨_, rfl, by simp⟩ (below_more (Below.refl _ _) _))
                · exact trivial
                · show StepE _ _ _ _ _ _ _
                  intro a wx hold hdep K hK; have t13 : a.tmps[13]? = some (.pointer (some ⟨MB, 0, none⟩)) := hold.2.2 13 rfl; clear hold hdep; go_simp; exact hK.out
              · intro a wx hB hold hgot K hK
                (obtain ⟨vA, tvA, pvA⟩ := hgot 1 _ 87 (by decide) (by decide) rfl rfl rfl); have evA : vA = (.slice ad2 i cp2) := pvA; subst evA; (obtain ⟨vB, tvB, pvB⟩ := hgot 10 _ 96 (by decide) (by decide) rfl rfl rfl); obtain ⟨b9, rfl, hb9⟩ := pvB; obtain ⟨i0, hi0, hz0, hz1, hz2⟩ := infoTx; have hsz : MB + 1 ≤ wx.heap.size := Nat.le_trans HSr.out hB.size; (refine step_append_lies _ rfl _ _ 23 rfl (MB + 1) 48 i0 (.slice none 0 0) 1 24 Try.underlying23 hi0 hz0 hz1 hz2 rfl (by decide) (.slice ad2 i cp2) i ((L.take i).map tv) (eval_tmpM tvA) (rowM_up HOt.out hB) ⟨b9, 0, none⟩ 1 1 [.slice xa xn xc] (eval_tmpM tvB) rfl ?_ ?_ (by omega) (by unfold maxLen; omega) (by omega) hsz _ rfl ?_)
                · intro j u hu
                  cases j with
                  | zero => simp at hu; subst hu; rw [add_none]; exact hb9
                  | succ j => simp at hu
                · intro u hu
                  simp at hu; subst hu; rfl
                intro g3 cp3 w3 hown3 hgrow hat hlt3; have hlt' := HOt.out.lt; have hown' := rowM_up HOt.out hB; refine hK.out _ _ ⟨g3, cp3, rfl, hown3, ?_, ?_, ?_, ?_⟩
                · exact rowM_move (rowM_up HOr.out hB) fun gq cur hgq hcur => hgrow.block gq (lt_of_block hcur) fun e => rowM_ne hown' hcur (by decide) e.symm
                · exact (hgrow.block MB (by omega) fun e => by have := (hlt' _ e.symm).1; omega).trans (below_keep hB HMd.out)
                · exact ((below_join HBr.out hB).grown hgrow (below_join HBr.out hB).size fun k hk => by have := (hlt' k hk).1; have := HMB.out; omega)
                · exact Nat.le_trans hsz hgrow.size
              · intro a wx hold hpx hpu K hK
                obtain ⟨v9, t9, g3, cp3, rfl, h1, h2, h3, h4, h5⟩ := hpx 97 rfl; (have tvP : a.tmps[98]? = some (.pointer (some ⟨MB, 2, none⟩)) := hpu 12 _ 98 _ rfl (by decide) rfl rfl); have HO1 : Hid (wx.ownsRow (MB + 1) 48 1 (.slice (some ⟨g3, 0, none⟩) (i + 1) cp3) (i + 1) ((L.take i).map tv ++ [.slice xa xn xc])) := h1; have HO2 : Hid (wx.ownsRow (MB + 1) 78 2 (.slice ad1 (RG i).length cp1) (RG i).length (encP (RG i))) := h2; have HO3 : Hid (wx.heap[MB]? = some (.cells #[.int .i64 (L.length : Nat), .slice ad1 (RG i).length cp1, .slice ad2 i cp2] 25 (0, 0))) := h3; have HO4 : Hid (Below R0.heap.size R0 wx) := h4; have HO5 : Hid (MB + 1 ≤ wx.heap.size) := h5; obtain ⟨q0, q1, q2, q3, q4, q5⟩ := blk3 HO3.out; obtain ⟨tm, df⟩ := a; (obtain ⟨ys, hys, htm, rfl⟩ := frame_mid2 86 13 (by kernel_rfl) (Nat.le_of_ble_eq_true rfl) hold); obtain ⟨x86, x87, x88, x89, x90, x91, x92, x93, x94, x95, x96, x97, x98, rfl⟩ := rowG13 ys hys; simp only [List.take_succ_cons, List.take_zero, List.drop_succ_cons, List.drop_zero, List.cons_append, List.nil_append] at htm; subst htm; obtain rfl : x97 = _ := someInjM t9; obtain rfl : x98 = _ := someInjM tvP; clear hys hold hpx hpu t9 tvP h1 h2 h3 h4 h5; go_simp; refine hK.out _ _ ?_; clear hK q0 q1 q2 q3 q4 q5; obtain ⟨Y, hY⟩ : ∃ Y, Y = wx.setCell ⟨MB, 2, none⟩ (.slice (some ⟨g3, 0, none⟩) (i + 1) cp3) := ⟨_, rfl⟩; (have hyf : ∀ q, q ≠ MB → Y.heap[q]? = wx.heap[q]? := fun q hq => by rw [hY]; exact farM hq _); (have HY1 : Hid (Y.heap[MB]? = some (.cells #[.int .i64 (L.length : Nat), .slice ad1 (RG i).length cp1, .slice (some ⟨g3, 0, none⟩) (i + 1) cp3] 25 (0, 0))) := by rw [hY]; exact set_cellE HO3.out _); (have HY2 : Hid (Y.ownsRow (MB + 1) 78 2 (.slice ad1 (RG i).length cp1) (RG i).length (encP (RG i))) := rowM_move HO2.out fun gq cur hgq _ => hyf gq (by have := (HO2.out.lt gq hgq).1; omega))
                have HY3 : Hid (Y.ownsRow (MB + 1) 48 1 (.slice (some ⟨g3, 0, none⟩) (i + 1) cp3) (i + 1) ((L.take (i + 1)).map tv)) := by
                  rw [List.take_add_one, HX.out, List.map_append]; have := HO1.out; rw [← HTx.out] at this; (exact rowM_move this fun gq cur hgq _ => hyf gq (by have := (this.lt gq hgq).1; omega))
                (have HY4 : Hid (Below R0.heap.size R0 Y) := by rw [hY]; exact HO4.out.setCell (p := ⟨MB, 2, none⟩) (by have := HMB.out; simp; omega) _); (have HY5 : Hid (MB + 1 ≤ Y.heap.size) := by rw [hY]; show _ ≤ _; simp only [World.setCell, Array.size_modify]; exact HO5.out); rw [← hY]; clear hY hyf HO1 HO2 HO3 HO4 HO5 HMd HOr HOt HBr HSr HLi HTr2; (have HXd : Hid (L.getD i 0 = x) := by show _ = _; rw [List.getD_eq_getElem?_getD, HX.out]; rfl); obtain ⟨sa, sc, c0, c1, c2, c3⟩ := HSn.out.row HXN.out; have hsl := seenTo_len N rel x N; obtain ⟨SX, hSX⟩ : ∃ SX, SX = seenTo N rel x N := ⟨_, rfl⟩; rw [← hSX] at c0 c1 c3 hsl; have HSX : Hid (SX = seenTo N rel x N) := hSX; have HC0 : Hid (w1.cell? ⟨g, x, none⟩ = some (.slice sa SX.length sc)) := c0; have HC3 : Hid (0 < SX.length → ∃ b, sa = some ⟨b, 0, none⟩ ∧ ∀ (j k : Nat), SX[j]? = some k → w1.cell? ⟨b, j, none⟩ = some (.int .i64 (k : Nat))) := c3; (have hscI : (SX.length : Int) ≤ (sc : Int) := by omega); (have hslI : (SX.length : Int) ≤ 40 := by have := HN.out; omega); (have HRs : Hid (RG (i + 1) = RG i ++ SX.map fun (v : Nat) => ((i : Int), atI L v)) := by show _ = _; rw [HRG.out, HRG.out, relG_succ, HXd.out, HSX.out]); clear c0 c1 c2 c3 hsl hSX; go_wp2_with fail
                go_loopg [15] SX.length (fun gg cc wr => ∃ k ad1 cp1, k ≤ SX.length ∧ gg = SX.length - k ∧ cc = .int .i64 (k : Nat) ∧ Hid (wr.heap[MB]? = some (.cells #[.int .i64 (L.length : Nat), .slice ad1 ((RG i).length + k) cp1, .slice (some ⟨g3, 0, none⟩) (i + 1) cp3] 25 (0, 0))) ∧ Hid (wr.ownsRow (MB + 1) 78 2 (.slice ad1 ((RG i).length + k) cp1) ((RG i).length + k) (encP (RG i ++ (SX.take k).map fun (v : Nat) => ((i : Int), atI L v)))) ∧ Hid (wr.ownsRow (MB + 1) 48 1 (.slice (some ⟨g3, 0, none⟩) (i + 1) cp3) (i + 1) ((L.take (i + 1)).map tv)) ∧ Hid (Below R0.heap.size R0 wr) ∧ Hid (MB + 1 ≤ wr.heap.size))
                case atStart => exact ⟨0, ad1, cp1, by omega, by omega, rfl, HY1, by rw [List.take_zero, List.map_nil, List.append_nil]; exact HY2, HY3, HY4, HY5⟩
                case round =>
                  obtain ⟨k, ad1, cp1, hk, hg, rfl, HMd, HOr, HOt, HBr, HSr⟩ := hrel; have HGq : Hid (gk = SX.length - k) := hg; clear hg; have HLi : Hid (wr.cell? ⟨bl, i, none⟩ = some (.int .i64 (x : Nat))) := (HBr.out.cell (lt_of_cell (HCl.out i x HX.out))).trans (HCl.out i x HX.out); have HBr1 : Hid (Below w1.heap.size w1 wr) := below_join HB.out HBr.out; have HCr : Hid (wr.cell? ⟨g, x, none⟩ = some (.slice sa SX.length sc)) := (HBr1.out.cell (lt_of_cell HC0.out)).trans HC0.out; have l0 := HLi.out; have l1 := HCr.out; by_cases hlt : k < SX.length
                  · have hkI : (k : Int) < (SX.length : Int) := by omega
                    (have hkc : (k : Int) < (sc : Int) := by omega); have HK : Hid (k < SX.length) := hlt; obtain ⟨nv, hv⟩ : ∃ v, SX[k]? = some v := ⟨_, List.getElem?_eq_getElem hlt⟩; have HV : Hid (SX[k]? = some nv) := hv; (obtain ⟨bs, rfl, hcs⟩ := HC3.out (by omega)); have HCv : Hid (wr.cell? ⟨bs, k, none⟩ = some (.int .i64 (nv : Nat))) := (HBr1.out.cell (lt_of_cell (hcs k nv hv))).trans (hcs k nv hv); (have hvm : nv ∈ seenTo N rel x N := by rw [← HSX.out]; exact List.mem_of_getElem? hv); have hvN : nv < N := ((seenTo_mem HIn.out).1 hvm).1; (have hvI : (nv : Int) < (N : Int) := by omega); obtain ⟨av, hav⟩ : ∃ av, av = atI L nv := ⟨_, rfl⟩; have HAv : Hid (av = atI L nv) := hav
                    have HCa : Hid (wr.cell? ⟨AT, nv, none⟩ = some (.int .i64 av)) := by
                      have := blk_cell HA.out nv; rw [atCl_get _ hvN, ← hav] at this; exact (HBr.out.cell (lt_of_cell this)).trans this
                    have hrl : (RG i).length + k < 2001 := by
                      have h9 := HRL.out (i + 1) HI.out; rw [HRs.out, List.length_append, List.length_map] at h9; omega
                    clear hcs hvm hvN hav hlt hk hv; go_wp2_with fail; clear l0 l1; (refine wp_region_wr (by kernel_rfl) [fun v _ => v = (.pointer (some ⟨MB, 1, none⟩)), fun v _ => v = (.slice ad1 ((RG i).length + k) cp1), fun v _ => v = (.int .i64 (i : Nat)), fun v _ => v = (.slice (some ⟨AT, 0, none⟩) N N), fun v _ => v = (.slice (some ⟨g, 0, none⟩) N N), fun v _ => v = (.slice (some ⟨bl, 0, none⟩) L.length cp), fun v _ => v = (.int .i64 (i : Nat)), fun v _ => v = (.pointer (some ⟨bl, i, none⟩)), fun v _ => v = (.int .i64 (x : Nat)), fun v _ => v = (.pointer (some ⟨g, x, none⟩)), fun v _ => v = (.slice (some ⟨bs, 0, none⟩) SX.length sc), fun v _ => v = (.int .i64 (k : Nat)), fun v _ => v = (.pointer (some ⟨bs, k, none⟩)), fun v _ => v = (.int .i64 (nv : Nat)), fun v _ => v = (.pointer (some ⟨AT, nv, none⟩)), fun v _ => v = (.int .i64 av), fun v _ => v = (.agg #[.int .i64 (i : Nat), .int .i64 av]), fun v w => ∃ b, v = .slice (some ⟨b, 0, none⟩) 1 1 ∧ w.cell? ⟨b, 0, none⟩ = some (.int .i64 (i : Nat)) ∧ w.cell? ⟨b, 1, none⟩ = some (.int .i64 av), fun _ _ => True, fun v _ => v = (.pointer (some ⟨MB, 1, none⟩))] ?_ (by kernel_rfl) (by kernel_rfl) 133 rfl (by kernel_rfl) 20 _ rfl rfl (by kernel_rfl) (fun i => if i = 19 then some (.pointer (some ⟨MB, 1, none⟩)) else none) 18 _ (by decide) rfl rfl 10 (by kernel_rfl) (fun v w => ∃ g4 cp4, v = .slice (some ⟨g4, 0, none⟩) ((RG i).length + k + 1) cp4 ∧ w.ownsRow (MB + 1) 78 2 (.slice (some ⟨g4, 0, none⟩) ((RG i).length + k + 1) cp4) ((RG i).length + k + 1) (encP (RG i ++ (SX.take k).map fun (v : Nat) => ((i : Int), atI L v)) ++ [.int .i64 (i : Nat), .int .i64 av]) ∧ w.ownsRow (MB + 1) 48 1 (.slice (some ⟨g3, 0, none⟩) (i + 1) cp3) (i + 1) ((L.take (i + 1)).map tv) ∧ w.heap[MB]? = some (.cells #[.int .i64 (L.length : Nat), .slice ad1 ((RG i).length + k) cp1, .slice (some ⟨g3, 0, none⟩) (i + 1) cp3] 25 (0, 0)) ∧ Below R0.heap.size R0 w ∧ MB + 1 ≤ w.heap.size) ?_ ?_ ?_ ?_)
                    · intro p hp
                      simp only [List.mem_cons, List.not_mem_nil, or_false] at hp
                      rcases hp with rfl | rfl | rfl | rfl | rfl | rfl | rfl | rfl | rfl | rfl | rfl | rfl | rfl | rfl | rfl | rfl | rfl | rfl | rfl | rfl
                      · exact fun _ _ _ h _ => h
                      · exact fun _ _ _ h _ => h
                      · exact fun _ _ _ h _ => h
                      · exact fun _ _ _ h _ => h
                      · exact fun _ _ _ h _ => h
                      · exact fun _ _ _ h _ => h
                      · exact fun _ _ _ h _ => h
                      · exact fun _ _ _ h _ => h
                      · exact fun _ _ _ h _ => h
                      · exact fun _ _ _ h _ => h
                      · exact fun _ _ _ h _ => h
                      · exact fun _ _ _ h _ => h
                      · exact fun _ _ _ h _ => h
                      · exact fun _ _ _ h _ => h
                      · exact fun _ _ _ h _ => h
                      · exact fun _ _ _ h _ => h
                      · exact fun _ _ _ h _ => h
                      · rintro v w1 w2 ⟨b, e, h, h2⟩ hb
                        exact ⟨b, e, (hb.cell (lt_of_cell h)).trans h, (hb.cell (lt_of_cell h2)).trans h2⟩
                      · exact fun _ _ _ h _ => h
                      · exact fun _ _ _ h _ => h
                    · intro j c wq hj
                      by_cases h19 : j = 19
                      · subst h19
                        have e : some (.pointer (some ⟨MB, 1, none⟩)) = some c := hj; exact (Option.some.inj e).symm
                      simp only [if_neg h19] at hj
                      cases hj
                    · refine ⟨?_, ?_, ?_, ?_, ?_, ?_, ?_, ?_, ?_, ?_, ?_, ?_, ?_, ?_, ?_, ?_, ?_, ?_, ?_, ?_, trivial⟩
                      · show StepOk _ _ _ _ _ _ _ _
                        intro a wx hB hold hdep K hK; have t13 : a.tmps[13]? = some (.pointer (some ⟨MB, 0, none⟩)) := hold.2.2 13 rfl; clear hold hdep; go_simp; exact hK.out _ _ rfl (Below.refl _ _)
                      · show StepOk _ _ _ _ _ _ _ _
                        intro a wx hB hold hdep K hK; obtain ⟨v111, t111, p111⟩ := hdep 0 rfl _ 111 rfl rfl; have e111 : v111 = (.pointer (some ⟨MB, 1, none⟩)) := p111; subst e111; obtain ⟨k0, k1, k2, -⟩ := blk3 (below_keep hB HMd.out); clear hold hdep; go_simp; exact hK.out _ _ rfl (Below.refl _ _)
                      · show StepOk _ _ _ _ _ _ _ _
                        intro a wx hB hold hdep K hK; have t14 : a.tmps[14]? = some (.int .i64 (i : Nat)) := hold.2.2 14 rfl; clear hold hdep; go_simp; exact hK.out _ _ rfl (Below.refl _ _)
                      · show StepOk _ _ _ _ _ _ _ _
                        intro a wx hB hold hdep K hK; have t7 : a.tmps[7]? = some (.slice (some ⟨AT, 0, none⟩) N N) := hold.2.2 7 rfl; clear hold hdep; go_simp; exact hK.out _ _ rfl (Below.refl _ _)
                      · show StepOk _ _ _ _ _ _ _ _
                        intro a wx hB hold hdep K hK; have t6 : a.tmps[6]? = some (.slice (some ⟨g, 0, none⟩) N N) := hold.2.2 6 rfl; clear hold hdep; go_simp; exact hK.out _ _ rfl (Below.refl _ _)
                      · show StepOk _ _ _ _ _ _ _ _
                        intro a wx hB hold hdep K hK; have t9 : a.tmps[9]? = some (.slice (some ⟨bl, 0, none⟩) L.length cp) := hold.2.2 9 rfl; clear hold hdep; go_simp; exact hK.out _ _ rfl (Below.refl _ _)
                      · show StepOk _ _ _ _ _ _ _ _
                        intro a wx hB hold hdep K hK; have t14 : a.tmps[14]? = some (.int .i64 (i : Nat)) := hold.2.2 14 rfl; clear hold hdep; go_simp; exact hK.out _ _ rfl (Below.refl _ _)
                      · show StepOk _ _ _ _ _ _ _ _
                        intro a wx hB hold hdep K hK; obtain ⟨v116, t116, p116⟩ := hdep 5 rfl _ 116 rfl rfl; have e116 : v116 = (.slice (some ⟨bl, 0, none⟩) L.length cp) := p116; subst e116; obtain ⟨v117, t117, p117⟩ := hdep 6 rfl _ 117 rfl rfl; have e117 : v117 = (.int .i64 (i : Nat)) := p117; subst e117; clear hold hdep; go_simp; exact hK.out _ _ rfl (Below.refl _ _)
                      · show StepOk _ _ _ _ _ _ _ _
                        intro a wx hB hold hdep K hK; obtain ⟨v118, t118, p118⟩ := hdep 7 rfl _ 118 rfl rfl; have e118 : v118 = (.pointer (some ⟨bl, i, none⟩)) := p118; subst e118; have c9 := (hB.cell (lt_of_cell HLi.out)).trans HLi.out; clear hold hdep; go_simp; exact hK.out _ _ rfl (Below.refl _ _)
                      · show StepOk _ _ _ _ _ _ _ _
                        intro a wx hB hold hdep K hK; obtain ⟨v115, t115, p115⟩ := hdep 4 rfl _ 115 rfl rfl; have e115 : v115 = (.slice (some ⟨g, 0, none⟩) N N) := p115; subst e115; obtain ⟨v119, t119, p119⟩ := hdep 8 rfl _ 119 rfl rfl; have e119 : v119 = (.int .i64 (x : Nat)) := p119; subst e119; clear hold hdep; go_simp; exact hK.out _ _ rfl (Below.refl _ _)
                      · show StepOk _ _ _ _ _ _ _ _
                        intro a wx hB hold hdep K hK; obtain ⟨v120, t120, p120⟩ := hdep 9 rfl _ 120 rfl rfl; have e120 : v120 = (.pointer (some ⟨g, x, none⟩)) := p120; subst e120; have c9 := (hB.cell (lt_of_cell HCr.out)).trans HCr.out; clear hold hdep; go_simp; exact hK.out _ _ rfl (Below.refl _ _)
                      · show StepOk _ _ _ _ _ _ _ _
                        intro a wx hB hold hdep K hK; have t15 : a.tmps[15]? = some (.int .i64 (k : Nat)) := hold.2.2 15 rfl; clear hold hdep; go_simp; exact hK.out _ _ rfl (Below.refl _ _)
                      · show StepOk _ _ _ _ _ _ _ _
                        intro a wx hB hold hdep K hK; obtain ⟨v121, t121, p121⟩ := hdep 10 rfl _ 121 rfl rfl; have e121 : v121 = (.slice (some ⟨bs, 0, none⟩) SX.length sc) := p121; subst e121; obtain ⟨v122, t122, p122⟩ := hdep 11 rfl _ 122 rfl rfl; have e122 : v122 = (.int .i64 (k : Nat)) := p122; subst e122; clear hold hdep; go_simp; exact hK.out _ _ rfl (Below.refl _ _)
                      · show StepOk _ _ _ _ _ _ _ _
                        intro a wx hB hold hdep K hK; obtain ⟨v123, t123, p123⟩ := hdep 12 rfl _ 123 rfl rfl; have e123 : v123 = (.pointer (some ⟨bs, k, none⟩)) := p123; subst e123; have c9 := (hB.cell (lt_of_cell HCv.out)).trans HCv.out; clear hold hdep; go_simp; exact hK.out _ _ rfl (Below.refl _ _)
                      · show StepOk _ _ _ _ _ _ _ _
                        intro a wx hB hold hdep K hK; obtain ⟨v114, t114, p114⟩ := hdep 3 rfl _ 114 rfl rfl; have e114 : v114 = (.slice (some ⟨AT, 0, none⟩) N N) := p114; subst e114; obtain ⟨v124, t124, p124⟩ := hdep 13 rfl _ 124 rfl rfl; have e124 : v124 = (.int .i64 (nv : Nat)) := p124; subst e124; clear hold hdep; go_simp; exact hK.out _ _ rfl (Below.refl _ _)
                      · show StepOk _ _ _ _ _ _ _ _
                        intro a wx hB hold hdep K hK; obtain ⟨v125, t125, p125⟩ := hdep 14 rfl _ 125 rfl rfl; have e125 : v125 = (.pointer (some ⟨AT, nv, none⟩)) := p125; subst e125; have c9 := (hB.cell (lt_of_cell HCa.out)).trans HCa.out; clear hold hdep; go_simp; exact hK.out _ _ rfl (Below.refl _ _)
                      · show StepOk _ _ _ _ _ _ _ _
                        intro a wx hB hold hdep K hK; obtain ⟨v113, t113, p113⟩ := hdep 2 rfl _ 113 rfl rfl; have e113 : v113 = (.int .i64 (i : Nat)) := p113; subst e113; obtain ⟨v126, t126, p126⟩ := hdep 15 rfl _ 126 rfl rfl; have e126 : v126 = (.int .i64 av) := p126; subst e126; clear hold hdep; go_simp; exact hK.out _ _ rfl (Below.refl _ _)
                      · show StepOk _ _ _ _ _ _ _ _
                        intro a wx hB hold hdep K hK; obtain ⟨v127, t127, p127⟩ := hdep 16 rfl _ 127 rfl rfl; have e127 : v127 = (.agg #[.int .i64 (i : Nat), .int .i64 av]) := p127; subst e127; clear hold hdep; go_simp; (exact hK.out _ _ ⟨_, rfl, by simp, by simp⟩ (below_more (Below.refl _ _) _))
                      · exact trivial
                      · show StepE _ _ _ _ _ _ _
                        intro a wx hold hdep K hK; have t13 : a.tmps[13]? = some (.pointer (some ⟨MB, 0, none⟩)) := hold.2.2 13 rfl; clear hold hdep; go_simp; exact hK.out
                    · intro a wx hB hold hgot K hK
                      (obtain ⟨vA, tvA, pvA⟩ := hgot 1 _ 112 (by decide) (by decide) rfl rfl rfl); have evA : vA = (.slice ad1 ((RG i).length + k) cp1) := pvA; subst evA; (obtain ⟨vB, tvB, pvB⟩ := hgot 17 _ 128 (by decide) (by decide) rfl rfl rfl); obtain ⟨b9, rfl, hb9, hb8⟩ := pvB; obtain ⟨i0, hi0, hz0, hz1, hz2⟩ := infoPr; have hsz : MB + 1 ≤ wx.heap.size := Nat.le_trans HSr.out hB.size; (refine step_append_lies _ rfl _ _ 22 rfl (MB + 1) 78 i0 (.agg #[.int .i64 0, .int .i64 0]) 2 16 Try.underlying22 hi0 hz0 hz1 hz2 rfl (by decide) (.slice ad1 ((RG i).length + k) cp1) ((RG i).length + k) (encP (RG i ++ (SX.take k).map fun (v : Nat) => ((i : Int), atI L v))) (eval_tmpM tvA) (rowM_up HOr.out hB) ⟨b9, 0, none⟩ 1 1 [.int .i64 (i : Nat), .int .i64 av] (eval_tmpM tvB) rfl ?_ ?_ (by omega) (by unfold maxLen; omega) (by omega) hsz _ rfl ?_)
                      · intro j u hu
                        match j, hu with
                        | 0, hu => simp at hu; subst hu; rw [add_none]; exact hb9
                        | 1, hu => simp at hu; subst hu; rw [add_none]; exact hb8
                        | j + 2, hu => simp at hu
                      · intro u hu
                        simp at hu
                        rcases hu with rfl | rfl <;> rfl
                      intro g4 cp4 w3 hown3 hgrow hat hlt3; have hlt' := HOr.out.lt; have hown' := rowM_up HOr.out hB; refine hK.out _ _ ⟨g4, cp4, rfl, hown3, ?_, ?_, ?_, ?_⟩
                      · exact rowM_move (rowM_up HOt.out hB) fun gq cur hgq hcur => hgrow.block gq (lt_of_block hcur) fun e => rowM_ne hown' hcur (by decide) e.symm
                      · exact (hgrow.block MB (by omega) fun e => by have := (hlt' _ e.symm).1; omega).trans (below_keep hB HMd.out)
                      · exact ((below_join HBr.out hB).grown hgrow (below_join HBr.out hB).size fun k hk => by have := (hlt' k hk).1; have := HMB.out; omega)
                      · exact Nat.le_trans hsz hgrow.size
                    · intro a wx hold hpx hpu K hK
                      obtain ⟨v9, t9, g4, cp4, rfl, h1, h2, h3, h4, h5⟩ := hpx 129 rfl; (have tvP : a.tmps[130]? = some (.pointer (some ⟨MB, 1, none⟩)) := hpu 19 _ 130 _ rfl (by decide) rfl rfl); (have HO1 : Hid (wx.ownsRow (MB + 1) 78 2 (.slice (some ⟨g4, 0, none⟩) ((RG i).length + k + 1) cp4) ((RG i).length + k + 1) (encP (RG i ++ (SX.take k).map fun (v : Nat) => ((i : Int), atI L v)) ++ [.int .i64 (i : Nat), .int .i64 av])) := h1); have HO2 : Hid (wx.ownsRow (MB + 1) 48 1 (.slice (some ⟨g3, 0, none⟩) (i + 1) cp3) (i + 1) ((L.take (i + 1)).map tv)) := h2; have HO3 : Hid (wx.heap[MB]? = some (.cells #[.int .i64 (L.length : Nat), .slice ad1 ((RG i).length + k) cp1, .slice (some ⟨g3, 0, none⟩) (i + 1) cp3] 25 (0, 0))) := h3; have HO4 : Hid (Below R0.heap.size R0 wx) := h4; have HO5 : Hid (MB + 1 ≤ wx.heap.size) := h5; obtain ⟨q0, q1, q2, q3, q4, q5⟩ := blk3 HO3.out; obtain ⟨tm, df⟩ := a; (obtain ⟨ys, hys, htm, rfl⟩ := frame_mid2 111 20 (by kernel_rfl) (Nat.le_of_ble_eq_true rfl) hold); obtain ⟨x111, x112, x113, x114, x115, x116, x117, x118, x119, x120, x121, x122, x123, x124, x125, x126, x127, x128, x129, x130, rfl⟩ := rowG20 ys hys; simp only [List.take_succ_cons, List.take_zero, List.drop_succ_cons, List.drop_zero, List.cons_append, List.nil_append] at htm; subst htm; obtain rfl : x129 = _ := someInjM t9; obtain rfl : x130 = _ := someInjM tvP; clear hys hold hpx hpu t9 tvP h1 h2 h3 h4 h5; go_simp; refine hK.out _ _ ?_; clear hK q0 q1 q2 q3 q4 q5; obtain ⟨Y, hY⟩ : ∃ Y, Y = wx.setCell ⟨MB, 1, none⟩ (.slice (some ⟨g4, 0, none⟩) ((RG i).length + k + 1) cp4) := ⟨_, rfl⟩; (have hyf : ∀ q, q ≠ MB → Y.heap[q]? = wx.heap[q]? := fun q hq => by rw [hY]; exact farM hq _); (have HZ1' : Hid (Y.heap[MB]? = some (.cells #[.int .i64 (L.length : Nat), .slice (some ⟨g4, 0, none⟩) ((RG i).length + k + 1) cp4, .slice (some ⟨g3, 0, none⟩) (i + 1) cp3] 25 (0, 0))) := by rw [hY]; exact set_cellE HO3.out _)
                      have HZ2' : Hid (Y.ownsRow (MB + 1) 78 2 (.slice (some ⟨g4, 0, none⟩) ((RG i).length + k + 1) cp4) ((RG i).length + k + 1) (encP (RG i ++ (SX.take (k + 1)).map fun (v : Nat) => ((i : Int), atI L v)))) := by
                        have e9 : encP (RG i ++ (SX.take (k + 1)).map fun (v : Nat) => ((i : Int), atI L v)) = encP (RG i ++ (SX.take k).map fun (v : Nat) => ((i : Int), atI L v)) ++ [.int .i64 (i : Nat), .int .i64 av] := by
                          rw [List.take_add_one, HV.out, List.map_append, ← List.append_assoc]; simp only [Option.toList_some, List.map_cons, List.map_nil]; rw [encP_snoc, HAv.out]
                        rw [e9]; (exact rowM_move HO1.out fun gq cur hgq _ => hyf gq (by have := (HO1.out.lt gq hgq).1; omega))
                      (have HZ3' : Hid (Y.ownsRow (MB + 1) 48 1 (.slice (some ⟨g3, 0, none⟩) (i + 1) cp3) (i + 1) ((L.take (i + 1)).map tv)) := rowM_move HO2.out fun gq cur hgq _ => hyf gq (by have := (HO2.out.lt gq hgq).1; omega)); (have HZ4' : Hid (Below R0.heap.size R0 Y) := by rw [hY]; exact HO4.out.setCell (p := ⟨MB, 1, none⟩) (by have := HMB.out; simp; omega) _); (have HZ5' : Hid (MB + 1 ≤ Y.heap.size) := by rw [hY]; show _ ≤ _; simp only [World.setCell, Array.size_modify]; exact HO5.out); rw [← hY]; clear hY hyf; go_wp2_with fail
                      go_roundg (SX.length - (k + 1))
                      case measure => have := HGq.out; have := HK.out; omega
                      case rel => exact ⟨k + 1, some ⟨g4, 0, none⟩, cp4, HK.out, rfl, by go_num, HZ1', HZ2', HZ3', HZ4', HZ5'⟩
                  · have hkk : SX.length = k := by omega
                    subst hkk; (have hge : ¬ (SX.length : Int) < (SX.length : Int) := by omega); clear hlt hk; (have e9 : (RG i).length + SX.length = (RG (i + 1)).length := by rw [HRs.out]; simp); rw [List.take_length, ← HRs.out, e9] at HOr; rw [e9] at HMd; clear e9; go_wp2_with fail
                    go_roundg (L.length - (i + 1))
                    case measure => have := HGk.out; have := HI.out; omega
                    case rel => exact ⟨i + 1, ad1, cp1, some ⟨g3, 0, none⟩, cp3, HI.out, rfl, by go_num, HMd, HOr, HOt, HBr, HSr⟩
            · have hii : L.length = i := by omega
              subst hii; (have hge : ¬ (L.length : Int) < (L.length : Int) := by omega); clear hlt hi; rw [List.take_length] at HOt; have HMZ : Hid (wr.heap[w.heap.size + 1]? = some (.cells #[.int .i64 0, .slice none 0 0, .slice none 0 0] 25 (0, 0))) := below_keep HBr.out (below_keep HB.out HZ1.out); obtain ⟨k0, k1, k2, -⟩ := blk3 HMd.out; obtain ⟨z0, z1, z2, f0, f1, f2⟩ := blk3 HMZ.out; go_wp2_with fail; obtain ⟨F, hF⟩ : ∃ F, F = ((wr.setCell ⟨w.heap.size + 1, 0, none⟩ (.int .i64 (L.length : Nat))).setCell ⟨w.heap.size + 1, 1, none⟩ (.slice ad1 (RG L.length).length cp1)).setCell ⟨w.heap.size + 1, 2, none⟩ (.slice ad2 L.length cp2) := ⟨_, rfl⟩; (have hsm : w.heap.size + 1 < R0.heap.size := by have := lt_of_block HZ1.out; have := HB.out.size; omega); (have HF1 : Hid (F.heap[w.heap.size + 1]? = some (.cells #[.int .i64 (L.length : Nat), .slice ad1 (RG L.length).length cp1, .slice ad2 L.length cp2] 25 (0, 0))) := by rw [hF]; exact set3M HMZ.out _ _ _); (have hfar : ∀ q, q ≠ w.heap.size + 1 → F.heap[q]? = wr.heap[q]? := fun q hq => by rw [hF, farM hq, farM hq, farM hq]); (have HFr : Hid (F.ownsRow (MB + 1) 78 2 (.slice ad1 (RG L.length).length cp1) (RG L.length).length (encP (RG L.length))) := rowM_move HOr.out fun gq cur hgq _ => hfar gq (by have := (HOr.out.lt gq hgq).1; have := HMB.out; omega)); (have HFt : Hid (F.ownsRow (MB + 1) 48 1 (.slice ad2 L.length cp2) L.length (L.map tv)) := rowM_move HOt.out fun gq cur hgq _ => hfar gq (by have := (HOt.out.lt gq hgq).1; have := HMB.out; omega))
              have HFA : Hid (F.heap[AT]? = some (.cells (atCl N L) 3 (0, 0))) := by
                (rw [hfar AT (by have := HAT.out; have := lt_of_block HZ1.out; omega)]); exact below_keep HBr.out HA.out
              (have HFB : Hid (Below w.heap.size w F) := by rw [hF]; exact ((((below_join (below_join HB1.out HB.out) HBr.out).setCell (p := ⟨w.heap.size + 1, 0, none⟩) (by simp) _).setCell (p := ⟨w.heap.size + 1, 1, none⟩) (by simp) _).setCell (p := ⟨w.heap.size + 1, 2, none⟩) (by simp) _)); rw [← hF]; clear hF hfar k0 k1 k2 z0 z1 z2 f0 f1 f2; obtain ⟨o0, o1, o2, -⟩ := blk3 HF1.out; (refine bodyPost_ret (v := .tuple #[.agg #[.int .i64 (L.length : Nat), .slice ad1 (RG L.length).length cp1, .slice ad2 L.length cp2], .slice (some ⟨AT, 0, none⟩) N N]) (by simp [results, Try.results26, go_sem, o0, o1, o2]) rfl ?_); (have hne : L ≠ [] := fun e => by have := HBf.out.st; rw [e] at this; cases this); (refine ⟨L, _, AT, rfl, by have := HAT.out; have := HB1.out.size; omega, HGen.out, hne, ?_, fun q hq => by rw [blk_cell HFA.out, atCl_get _ hq], HFB.out⟩); rw [← HRG.out L.length]; (have htl : (trG tr L).length = L.length := by simp [trG]); obtain ⟨c1, c2⟩ := rowM_caps HFt.out; (refine ⟨ad1, cp1, ad2, cp2, by rw [htl], PL.own HFr.out, ⟨ad2, cp2, rfl, by rw [htl]; exact c1, c2, fun _ => ?_⟩, fun l hl t ht => ?_⟩)
              · obtain ⟨b, rfl, hc⟩ := rowM_cells HFt.out (List.length_pos_iff.2 hne)
                (refine ⟨b, 0, rfl, fun j r hj => ?_⟩)
                have hjl : j < L.length := by
                  rcases Nat.lt_or_ge j L.length with h | h
                  · exact h
                  · rw [List.getElem?_eq_none (by rw [htl]; exact h)] at hj; cases hj
                have hLj : L[j]? = some L[j] := List.getElem?_eq_getElem hjl; (refine ⟨tv L[j], hc j _ (by rw [List.getElem?_map, hLj]; rfl), ?_⟩)
                have hr : r = tr.getD L[j] [] := by
                  simp only [trG, List.getElem?_map, hLj, Option.map_some] at hj; exact (Option.some.inj hj).symm
                rw [hr]; exact (HTv.out _ (HBf.out.lt _ (List.getElem_mem hjl))).2.up HFB.out
              · obtain ⟨u, hu, rfl⟩ := List.mem_map.1 hl
                have hu' := HBf.out.lt u hu; (rw [List.getD_eq_getElem?_getD, List.getElem?_eq_getElem (by rw [HTr.out]; exact hu')] at ht); exact HMx.out _ (List.getElem_mem _) t ht
end Go.Proofs.Ytfhbpfgbnfcdaag
