/- Texts of one proof, one behind the other: RN2, RM1. -/
import Derived.Test.YtblodnpfckflaakB33
import Derived.Test.YtblodnpfckflaakB34
/- Plain: a structure whose things are shifted answers the same. -/
namespace Go.Proofs.Ytblodnpfckflaak
open Go.RowKit Go.Sort

def FnsT (N b : Nat) : List FnD → List FnD → Prop
  | [], [] => True
  | f :: l, g :: m => FnT N b f g ∧ FnsT N b l m
  | _, _ => False
def PdsT (N b : Nat) : List PdD → List PdD → Prop
  | [], [] => True
  | f :: l, g :: m => PdT N b f g ∧ PdsT N b l m
  | _, _ => False
theorem FnsT.len {N b : Nat} : ∀ {l m : List FnD}, FnsT N b l m → m.length = l.length
  | [], [], _ => rfl
  | f :: l, g :: m, h => by rw [FnsT] at h; simp [FnsT.len h.2]
  | [], g :: m, h => by simp [FnsT] at h
  | f :: l, [], h => by simp [FnsT] at h
theorem PdsT.len {N b : Nat} : ∀ {l m : List PdD}, PdsT N b l m → m.length = l.length
  | [], [], _ => rfl
  | f :: l, g :: m, h => by rw [PdsT] at h; simp [PdsT.len h.2]
  | [], g :: m, h => by simp [PdsT] at h
  | f :: l, [], h => by simp [PdsT] at h
theorem FnsT.snoc {N b : Nat} {f g : FnD} (hf : FnT N b f g) : ∀ {l m : List FnD}, FnsT N b l m → FnsT N b (l ++ [f]) (m ++ [g])
  | [], [], _ => by simp only [List.nil_append, FnsT]; exact ⟨hf, trivial⟩
  | x :: l, y :: m, h => by rw [FnsT] at h; simp only [List.cons_append, FnsT]; exact ⟨h.1, FnsT.snoc hf h.2⟩
  | [], y :: m, h => by simp [FnsT] at h
  | x :: l, [], h => by simp [FnsT] at h
theorem PdsT.snoc {N b : Nat} {f g : PdD} (hf : PdT N b f g) : ∀ {l m : List PdD}, PdsT N b l m → PdsT N b (l ++ [f]) (m ++ [g])
  | [], [], _ => by simp only [List.nil_append, PdsT]; exact ⟨hf, trivial⟩
  | x :: l, y :: m, h => by rw [PdsT] at h; simp only [List.cons_append, PdsT]; exact ⟨h.1, PdsT.snoc hf h.2⟩
  | [], y :: m, h => by simp [PdsT] at h
  | x :: l, [], h => by simp [PdsT] at h
/-- The structure as the law makes it. -/
structure StrT (b : Nat) (s s' : StD) : Prop where
  n : s'.n = s.n
  fn : FnsT s.n.toNat b s.funs s'.funs
  pd : PdsT s.n.toNat b s.preds s'.preds
theorem cfF_t {N b : Nat} : ∀ {l m : List FnD} (i : Nat) (seen : List (List UInt8)), FnsT N b l m → cfF N i seen l = none → cfF N i seen m = none
  | [], [], i, seen, _, h => h
  | f :: l, g :: m, i, seen, hT, h => by
    rw [FnsT] at hT; obtain ⟨⟨e1, e2, e3, e4, e5⟩, h2⟩ := hT; rw [cfF] at h ⊢; rw [e1, e2, e3]
    rcases hk : lkF N (decide (f.nm.data.toList ∈ seen)) f.nm.data.toList f.ar f.tab.length with _ | c
    · rw [hk] at h
      dsimp only at h ⊢
      rw [if_neg (by
        rw [List.any_eq_true]; rintro ⟨y, hy, h3⟩; rw [e4 y hy] at h3
        simp at h3)]
      split at h
      · cases h
      · exact cfF_t (i + 1) _ h2 h
    · rw [hk] at h
      cases h
  | [], g :: m, _, _, h, _ => by simp [FnsT] at h
  | f :: l, [], _, _, h, _ => by simp [FnsT] at h
theorem pfF_t {N b : Nat} : ∀ {l m : List PdD} (i : Nat) (seen : List (List UInt8)), PdsT N b l m → pfF N i seen l = none → pfF N i seen m = none
  | [], [], i, seen, _, h => h
  | f :: l, g :: m, i, seen, hT, h => by
    rw [PdsT] at hT; obtain ⟨⟨e1, e2, e3, e4⟩, h2⟩ := hT; rw [pfF] at h ⊢; rw [e1, e2, e3]
    rcases hk : lkF N (decide (f.nm.data.toList ∈ seen)) f.nm.data.toList f.ar f.bits.length with _ | c
    · rw [hk] at h
      exact pfF_t (i + 1) _ h2 h
    · rw [hk] at h
      cases h
  | [], g :: m, _, _, h, _ => by simp [PdsT] at h
  | f :: l, [], _, _, h, _ => by simp [PdsT] at h
theorem st_zero {s : StD} (h : (stcode s).1 = 0) : cfF s.n.toNat 0 [] s.funs = none ∧ pfF s.n.toNat s.funs.length [] s.preds = none := by
  unfold stcode at h
  split at h
  case isFalse => exact absurd h (by decide)
  unfold lscode lsF at h
  rcases h1 : cfF s.n.toNat 0 [] s.funs with _ | p
  · rw [h1] at h
    simp only at h
    rcases h2 : pfF s.n.toNat s.funs.length [] s.preds with _ | p
    · exact ⟨rfl, rfl⟩
    · rw [h2] at h
      exact absurd h (pdf_code _ _ _ _ h2)
  · rw [h1] at h
    exact absurd h (fnf_code _ _ _ _ h1)
theorem stcode_t {b : Nat} {s s' : StD} (hT : StrT b s s') (h : (stcode s).1 = 0) : (stcode s').1 = 0 := by
  obtain ⟨h1, h2⟩ := st_zero h; obtain ⟨-, g1, g2, g3, g4, -⟩ := st_ok h; have l1 := hT.fn.len; have l2 := hT.pd.len; unfold stcode lscode lsF; (rw [hT.n, if_pos ⟨g1, g2, by omega, by omega⟩, cfF_t 0 [] hT.fn h1])
  dsimp only
  rw [l1, pfF_t _ [] hT.pd h2]
def FnO (N b : Nat) (a a' : Option FnD) : Prop := (a = none ∧ a' = none) ∨ ∃ f g, a = some f ∧ a' = some g ∧ FnT N b f g
def PdO (N b : Nat) (a a' : Option PdD) : Prop := (a = none ∧ a' = none) ∨ ∃ f g, a = some f ∧ a' = some g ∧ PdT N b f g
theorem fnAt_t {N b : Nat} (t : List UInt8) : ∀ {l m : List FnD} {a a' : Option FnD}, FnsT N b l m → FnO N b a a' → FnO N b (l.foldl (fun a f => if t = f.nm.data.toList then some f else a) a) (m.foldl (fun a f => if t = f.nm.data.toList then some f else a) a')
  | [], [], a, a', _, h => h
  | f :: l, g :: m, a, a', hT, h => by
    rw [FnsT] at hT; rw [List.foldl_cons, List.foldl_cons]; refine fnAt_t t hT.2 ?_; rw [hT.1.1]
    split
    · exact Or.inr ⟨f, g, rfl, rfl, hT.1⟩
    · exact h
  | [], g :: m, _, _, h, _ => by simp [FnsT] at h
  | f :: l, [], _, _, h, _ => by simp [FnsT] at h
theorem pdAt_t {N b : Nat} (t : List UInt8) : ∀ {l m : List PdD} {a a' : Option PdD}, PdsT N b l m → PdO N b a a' → PdO N b (l.foldl (fun a f => if t = f.nm.data.toList then some f else a) a) (m.foldl (fun a f => if t = f.nm.data.toList then some f else a) a')
  | [], [], a, a', _, h => h
  | f :: l, g :: m, a, a', hT, h => by
    rw [PdsT] at hT; rw [List.foldl_cons, List.foldl_cons]; refine pdAt_t t hT.2 ?_; rw [hT.1.1]
    split
    · exact Or.inr ⟨f, g, rfl, rfl, hT.1⟩
    · exact h
  | [], g :: m, _, _, h, _ => by simp [PdsT] at h
  | f :: l, [], _, _, h, _ => by simp [PdsT] at h
theorem vwT_of {b : Nat} {s s' : StD} (hT : StrT b s s') : VwT s.n.toNat b (vwOf s) (vwOf s') := by
  (have hf : ∀ t, FnO s.n.toNat b ((vwOf s).fn t) ((vwOf s').fn t) := fun t => fnAt_t t hT.fn (Or.inl ⟨rfl, rfl⟩)); (have hp : ∀ t, PdO s.n.toNat b ((vwOf s).pd t) ((vwOf s').pd t) := fun t => pdAt_t t hT.pd (Or.inl ⟨rfl, rfl⟩)); (refine ⟨rfl, by show s'.n.toNat = _; rw [hT.n], fun t h => ?_, fun t f h => ?_, fun t h => ?_, fun t f h => ?_⟩)
  · rcases hf t with h1 | ⟨f, g, h1, -⟩
    · exact h1.2
    · rw [h] at h1; cases h1
  · rcases hf t with h1 | ⟨f', g, h1, h2, h3⟩
    · rw [h1.1] at h; cases h
    · rw [h] at h1; cases h1; exact ⟨g, h2, h3⟩
  · rcases hp t with h1 | ⟨f, g, h1, -⟩
    · exact h1.2
    · rw [h] at h1; cases h1
  · rcases hp t with h1 | ⟨f', g, h1, h2, h3⟩
    · rw [h1.1] at h; cases h
    · rw [h] at h1; cases h1; exact ⟨g, h2, h3⟩
theorem okN_t {N b : Nat} {V V' : VwD} (hT : VwT N b V V') {c : BgN} (h : okN V c = true) : okN V' c = true := by
  unfold okN at h ⊢
  split at h
  · rename_i hc
    rw [if_pos hc]
    rcases hp : V.pd c.1.data.toList with _ | p
    · rw [hp] at h; cases h
    · obtain ⟨g, hg, e1, e2, -⟩ := hT.p1 _ p hp
      rw [hp] at h; rw [hg]
      dsimp only at h ⊢
      rw [e2]; exact h
  · rename_i hc
    rw [if_neg hc]
    rcases hp : V.fn c.1.data.toList with _ | p
    · rw [hp] at h; cases h
    · obtain ⟨g, hg, e1, e2, -⟩ := hT.f1 _ p hp
      rw [hp] at h; rw [hg]
      dsimp only at h ⊢
      rw [e2]; exact h
/-- The values, moved. -/
def mvV (n : Int) (b : Nat) (l : List Int) : List Int := l.map fun x => (x + (b : Int)) % n
theorem zip_mv (n : Int) (b : Nat) : ∀ (names : List (List UInt8)) (vals : List Int), names.zip (mvV n b vals) = (names.zip vals).map fun p => (p.1, (p.2 + (b : Int)) % n)
  | [], _ => rfl
  | _ :: _, [] => rfl
  | x :: names, y :: vals => by
    show (x, _) :: names.zip (mvV n b vals) = _; rw [zip_mv n b names vals]; rfl
theorem vf_mv {n : Nat} (hn : 1 ≤ n) (b : Nat) : ∀ (l : List (List UInt8 × Int)) (i : Nat), (∀ p ∈ l, isNm p.1 = true) → vfAt n i (l.map fun p => (p.1, (p.2 + (b : Int)) % (n : Int))) = (0, 0)
  | [], i, _ => rfl
  | p :: l, i, h => by
    rw [List.map_cons, vfAt]; (have h1 : (0 : Int) ≤ (p.2 + (b : Int)) % (n : Int) := Int.emod_nonneg _ (by omega)); (have h2 : (p.2 + (b : Int)) % (n : Int) < (n : Int) := Int.emod_lt_of_pos _ (by omega)); (rw [if_neg (by rw [h p (List.mem_cons_self ..)]; simp), if_neg (by unfold thingB; simp [h1, h2]), vf_mv hn b l (i + 1) fun q hq => h q (List.mem_cons_of_mem _ hq)])
theorem va_mv {n : Nat} (hn : 1 ≤ n) (b : Nat) (t : List UInt8) : ∀ (l : List (List UInt8 × Int)) (a : Option Nat), (∀ p ∈ l, 0 ≤ p.2) → (l.map fun p => (p.1, (p.2 + (b : Int)) % (n : Int))).foldl (fun a p => if t = p.1 then some p.2.toNat else a) (a.map (shf n b)) = (l.foldl (fun a p => if t = p.1 then some p.2.toNat else a) a).map (shf n b)
  | [], a, _ => rfl
  | p :: l, a, h => by
    (rw [List.map_cons, List.foldl_cons, List.foldl_cons, ← va_mv hn b t l _ fun q hq => h q (List.mem_cons_of_mem _ hq)])
    congr 1
    dsimp only
    split
    · rw [int_shf (h p (List.mem_cons_self ..))]; rfl
    · rfl
theorem numbers_plain {b : Nat} {s s' : StD} (hT : StrT b s s') {x : Ex} {names : List (List UInt8)} {vals : List Int} (h : (vlcode s x names vals).1 = 0) :
    vlcode s' x names (mvV s.n b vals) = (0, 0) ∧ vlB s' x names (mvV s.n b vals) = vlB s x names vals := by
  obtain ⟨e0, h1, h2, h3, h4, h5⟩ := vl_zero h; obtain ⟨-, g1, g2, g3, g4, hV, hbg⟩ := st_ok h1; obtain ⟨-, k1, k2, k3⟩ := vf_ok h3; (have hn : (s.n.toNat : Int) = s.n := by omega); (have hn1 : 1 ≤ s.n.toNat := by omega); have hVT := vwT_of hT; obtain ⟨N, hN⟩ : ∃ N, N = s.n.toNat := ⟨_, rfl⟩; (have hzip : names.zip (mvV s.n b vals) = (names.zip vals).map fun p => (p.1, (p.2 + (b : Int)) % (N : Int)) := by rw [zip_mv, hN, hn])
  have hpos : ∀ p ∈ names.zip vals, 0 ≤ p.2 := fun p hp => by
    have := (k3 p hp).2; unfold thingB at this; simp only [Bool.and_eq_true, decide_eq_true_eq] at this; exact this.1
  have hva : ∀ t, vaAt (names.zip (mvV s.n b vals)) t = (vaAt (names.zip vals) t).map (shf N b) := fun t => by
    unfold vaAt; rw [hzip]; (exact va_mv (by omega) b t _ none hpos)
  unfold vlHas at h4; rw [Bool.and_eq_true, List.all_eq_true, List.all_eq_true] at h4
  have m4 : vlHas s' x (names.zip (mvV s.n b vals)) = true := by
    unfold vlHas; rw [Bool.and_eq_true, List.all_eq_true, List.all_eq_true]; (refine ⟨fun c hc => okN_t hVT (h4.1 c hc), fun t ht => ?_⟩); rw [hva]; have := h4.2 t ht
    revert this
    rcases vaAt (names.zip vals) t with _ | v
    · intro e; cases e
    · intro; rfl
  have m3 : (vfcode s'.n.toNat names (mvV s.n b vals)).1 = 0 := by
    unfold vfcode; (rw [if_pos ⟨by unfold mvV; rw [List.length_map]; exact k1, k2⟩, hT.n, ← hN, hzip, vf_mv (by omega) b _ 0 fun p hp => (k3 p hp).1])
  have m5 : vlMuch s' x = false := by
    unfold vlMuch at h5 ⊢; rw [hT.n]; exact h5
  have e1 := vl_of (stcode_t hT h1) h2 m3 m4 m5; refine ⟨e1, ?_⟩; unfold vlB; rw [e0, e1, if_pos rfl, if_pos rfl]; obtain ⟨sx, px, fx, hck, -, -⟩ := ecode_ok h2; have hE := echk_eok x _ _ _ _ _ _ hck; have hb : ∀ c ∈ bgEl (prE [] x), okN (vwOf s) c = true := h4.1; (have hlt : ∀ t, vz (vaAt (names.zip vals)) t < N := fun t => by rw [hN]; exact va_lt hn1 (fun p hp => (k3 p hp).2) t); rw [← hN] at hVT; (refine ev_rn hVT hV [] x _ _ (emn_of hbg [] x hE hb) (vars_of hb (echk_nm x _ _ _ _ _ _ [] hck)) hlt (fun t ht => by cases ht) (fun t ht => ?_)); have hs := h4.2 t ((compact_mem _ _).2 (List.mem_mergeSort.2 ht)); unfold vz; rw [hva]
  revert hs
  rcases vaAt (names.zip vals) t with _ | v
  · intro e; cases e
  · intro; rfl
end Go.Proofs.Ytblodnpfckflaak
/- Walks: the closure of renumbered: a place whose things are shifted. -/
namespace Go.Proofs.Ytblodnpfckflaak
open Go.RowKit Go.Sort

theorem pow8 {N j : Nat} (hN : N ≤ 8) (hj : j ≤ 3) : N ^ j ≤ 512 := by
  (have h1 : N ^ j ≤ 8 ^ 3 := Nat.le_trans (Nat.pow_le_pow_left hN j) (Nat.pow_le_pow_right (by omega) hj)); omega
theorem mv_small {N b : Nat} (h1 : 1 ≤ N) (hN : N ≤ 8) {a : Nat} (ha : a ≤ 3) (p : Nat) : mvP N b a p ≤ 512 := Nat.le_trans (Nat.le_of_lt (mvP_lt h1 b a p)) (pow8 hN ha)
set_option maxRecDepth 10000 in
set_option maxHeartbeats 4000000 in
theorem move_any (N b ar pl : Nat) (h1N : 1 ≤ N) (hN8 : N ≤ 8) (hb : b ≤ 100) (har : ar ≤ 3) (hpl : pl ≤ 512) (bs bb : Nat) (x1 x2 : Value) (w : World) (hs : w.heap[bs]? = some (.cells #[.int .i64 (N : Nat), x1, x2] 25 (0, 0))) (hq : w.heap[bb]? = some (.cells #[.int .i64 (b : Nat)] 3 (0, 0))) :
    Calls Try.prog 29 #[.int .i64 (pl : Nat), .int .i64 (ar : Nat), .pointer (some ⟨bs, 0, none⟩), .pointer (some ⟨bb, 0, none⟩)] w fun e w' => e = .returned (.int .i64 (mvP N b ar pl : Nat)) ∧ Below w.heap.size w w' := by
  have HS : Hid (w.heap[bs]? = some (.cells #[.int .i64 (N : Nat), x1, x2] 25 (0, 0))) := hs; have HQ : Hid (w.heap[bb]? = some (.cells #[.int .i64 (b : Nat)] 3 (0, 0))) := hq; have HK : Hid (1 ≤ N ∧ N ≤ 8 ∧ ar ≤ 3) := ⟨h1N, hN8, har⟩; have HB0 : Hid (Below w.heap.size w w) := Below.refl _ _; (have harI : ((ar : Nat) : Int) ≤ 3 := by omega); (have hbI : ((b : Nat) : Int) ≤ 100 := by omega); (have HMx0 : Hid (0 + 1 * mvP N b (ar - 0) pl = mvP N b ar pl) := by show _ = _; simp); (have HZ0 : Hid (1 = N ^ 0) := by show _ = _; simp); (have hNz : ¬ (N : Int) = 0 := by omega); (have hNI : (N : Int) ≤ 8 := by omega); clear hs hq h1N hN8 har
  go_enter Try.func29, Try.ntmps29
  go_wp2_with fail
  go_loopg [9, 8, 7, 0] ar (fun gg i st out p wr => ∃ j s o q : Nat, j ≤ ar ∧ gg = ar - j ∧ i = .int .i64 (j : Nat) ∧ st = .int .i64 (s : Nat) ∧ out = .int .i64 (o : Nat) ∧ p = .int .i64 (q : Nat) ∧ q ≤ 512 ∧ Hid (o + s * mvP N b (ar - j) q = mvP N b ar pl) ∧ Hid (s = N ^ j) ∧ Hid (Below w.heap.size w wr))
  case atStart => exact ⟨0, 1, 0, pl, by omega, by omega, rfl, rfl, rfl, rfl, hpl, HMx0, HZ0, HB0⟩
  case round =>
    obtain ⟨j, s, o, q, hj, hg, rfl, rfl, rfl, rfl, hq5, HMx, HZ, HB⟩ := hrel; have HG : Hid (gk = ar - j) := hg; obtain ⟨a0, a1, a2, -⟩ := blk3 (below_keep HB.out HS.out); obtain ⟨c0, -⟩ := blk1 (below_keep HB.out HQ.out); have hl0 := lt_of_block (below_keep HB.out HS.out); have hl1 := lt_of_block (below_keep HB.out HQ.out); clear hg HMx0 HZ0 HB0 hpl; by_cases hlt : j < ar
    · have hltI : (j : Int) < (ar : Int) := by omega
      have HLt : Hid (j < ar) := hlt; obtain ⟨h1N, hN8, har⟩ := HK.out; (have hs5 : s ≤ 512 := by rw [HZ.out]; exact pow8 hN8 (by omega))
      have ho5 : o ≤ 512 := by
        have := HMx.out; have := mv_small (b := b) h1N hN8 har pl; omega
      obtain ⟨r, hr⟩ : ∃ r, r = q % N := ⟨_, rfl⟩; obtain ⟨t, ht⟩ : ∃ t, t = (r + b) % N := ⟨_, rfl⟩; obtain ⟨d, hd⟩ : ∃ d, d = q / N := ⟨_, rfl⟩; (have hr8 : r < 8 := by have : q % N < N := Nat.mod_lt _ (by omega); omega); (have ht8 : t < 8 := by have : (r + b) % N < N := Nat.mod_lt _ (by omega); omega); (have hdq : d ≤ q := by rw [hd]; exact Nat.div_le_self _ _); (have e1 : Int.tmod (q : Int) (N : Int) = (r : Int) := by rw [hr]; exact (Int.ofNat_tmod q N).symm); (have e2 : Int.tmod ((r : Int) + (b : Int)) (N : Int) = (t : Int) := by rw [ht, ← Int.natCast_add]; exact (Int.ofNat_tmod (r + b) N).symm); (have e3 : Int.tdiv (q : Int) (N : Int) = (d : Int) := by rw [hd]; exact (Int.ofNat_tdiv q N).symm); (have e4 : (q : Int) / (N : Int) = (d : Int) := by rw [hd]; exact (Int.natCast_ediv q N).symm); (have hdI : (d : Int) ≤ 512 := by omega); (have hts : ((t * s : Nat) : Int) = (t : Int) * (s : Int) := by simp)
      have htsI : (t : Int) * (s : Int) ≤ 4096 := by
        rw [← hts]; (have : t * s ≤ 8 * 512 := Nat.mul_le_mul (by omega) hs5); omega
      (have hts0 : 0 ≤ (t : Int) * (s : Int) := by rw [← hts]; omega); (have hsn : ((s * N : Nat) : Int) = (s : Int) * (N : Int) := by simp)
      have hsnI : (s : Int) * (N : Int) ≤ 4096 := by
        rw [← hsn]; have : s * N ≤ 512 * 8 := Nat.mul_le_mul hs5 hN8; omega
      (have hsn0 : 0 ≤ (s : Int) * (N : Int) := by rw [← hsn]; omega); have HTS : Hid (((t * s : Nat) : Int) = (t : Int) * (s : Int)) := hts; have HSN : Hid (((s * N : Nat) : Int) = (s : Int) * (N : Int)) := hsn; (have hrI : (r : Int) < 8 := by omega); (have htI : (t : Int) < 8 := by omega); (have hoI : (o : Int) ≤ 512 := by omega)
      have HMn : Hid (o + t * s + s * N * mvP N b (ar - (j + 1)) d = mvP N b ar pl) := by
        show _ = _; rw [← HMx.out]; (have e : ar - j = (ar - (j + 1)) + 1 := by omega); rw [e, mvP, ← hr, ← ht, ← hd, Nat.mul_add, Nat.mul_comm t s, Nat.mul_assoc, Nat.add_assoc]
      (have HZn : Hid (s * N = N ^ (j + 1)) := by show _ = _; rw [HZ.out, Nat.pow_succ]); (have HD5 : Hid (d ≤ 512) := by show _ ≤ _; omega); clear hr ht hd hr8 ht8 hdq hs5 ho5 h1N hN8 har hts hsn hlt hj hq5 HMx HZ; go_wp2_with fail
      go_quiet (fail)
      go_wp2_with fail
      go_roundg (ar - (j + 1))
      case measure => have := HG.out; have := HLt.out; omega
      case rel => exact ⟨j + 1, s * N, o + t * s, d, HLt.out, rfl, by go_num, (by rw [HSN.out]), (by rw [Int.natCast_add, HTS.out]), rfl, HD5.out, HMn, HZn, below_drewN HB.out _⟩
    · have hge : ¬ (j : Int) < (ar : Int) := by omega
      (have HE : Hid (j = ar) := by show _ = _; omega); clear hlt hj; go_wp2_with fail; go_ret; refine ⟨?_, HB.out⟩; have := HMx.out; rw [HE.out, Nat.sub_self, mvP, Nat.mul_zero, Nat.add_zero] at this; rw [this]; rfl
end Go.Proofs.Ytblodnpfckflaak
