/- Texts of one proof, one behind the other: NTUA, NTUB. -/
import Derived.Test.YtealalhgkdlmkaiB33
import Derived.Test.YtealalhgkdlmkaiB32
import Derived.Test.YtealalhgkdlmkaiB20
import Derived.Test.YtealalhgkdlmkaiB10
/- Plain things for the law NetTensors: links that are in range, cells of an argument, the last and the first of a list in cells. -/
namespace Go.Proofs.Ytealalhgkdlmkai
open Go.RowKit Go.Sort

theorem lkAll_in {nds : List Nd} {lvs : List Nat} : ∀ (ax : List (Int × Int)) (i : Nat) (mu : Nat → Option Nat) (c : Nat) (mu' : Nat → Option Nat) (c' : Nat), lkAll nds lvs ax i mu c = .ok mu' c' → ∀ p ∈ ax, ∃ a b : Nat, p = ((a : Int), (b : Int)) ∧ a < lvs.length ∧ b < lvs.length
  | [], _, _, _, _, _, _, p, hp => by simp at hp
  | q :: ps, i, mu, c, mu', c', h, p, hp => by
    rw [lkAll] at h
    split at h
    · cases h
    · rename_i hb
      rcases List.mem_cons.1 hp with rfl | hp
      · obtain ⟨x, y⟩ := p
        obtain ⟨a, b, rfl, rfl, ha, hb2, -⟩ := lkBad_none hb; exact ⟨a, b, rfl, ha, hb2⟩
      · exact lkAll_in ps _ _ _ _ _ h p hp
/-- The links of a net are numbers of leaves. -/
theorem net_in {l : List Lm} {ax : List (Int × Int)} {mu : Nat → Option Nat} {c : Nat} (h : netC l ax = .ok mu c) (p : Int × Int) (hp : p ∈ ax) : ∃ a b : Nat, p = ((a : Int), (b : Int)) ∧ a < 200 ∧ b < 200 := by
  obtain ⟨-, -, -, g4, g5, -⟩ := netC_ok h; obtain ⟨a, b, e, h1, h2⟩ := lkAll_in _ _ _ _ _ _ (linkC_ok g5).2.2.2.1 p hp; have := lvsL_len l 0; (exact ⟨a, b, e, by omega, by omega⟩)
theorem LL.cells0 {w : World} {sl : Option Addr} {n cap : Nat} {l : List Lm} (h : LL w (.slice sl n cap) l) : ∃ cs, LQ4 w cs l ∧ (0 < l.length → ∃ b off, sl = some ⟨b, off, none⟩ ∧ ∀ (j : Nat) (u : Value), cs[j]? = some u → w.cell? ⟨b, off + j, none⟩ = some u) := by
  obtain ⟨sl', cap', e, -, -, h⟩ := h; simp only [Value.slice.injEq] at e; obtain ⟨rfl, rfl, rfl⟩ := e; by_cases hl : l = []
  · subst hl
    (exact ⟨[], trivial, fun h => absurd h (by simp)⟩)
  · obtain ⟨b, off, rfl, hr⟩ := h hl
    obtain ⟨cs, hq, hc⟩ := hr.cells; (exact ⟨cs, hq, fun _ => ⟨b, off, rfl, hc⟩⟩)
theorem encP_cat : ∀ a b, encP (a ++ b) = encP a ++ encP b
  | [], b => rfl
  | p :: a, b => by rw [List.cons_append, encP, encP_cat a b, encP]; rfl
/-- The last of a list in cells. -/
theorem LQ4.last {w : World} : ∀ {cs : List Value} {l : List Lm} (k : Nat), LQ4 w cs l → l.length = k + 1 → ∃ l' f0 c1 u0 u1 u2 u3, l = l' ++ [f0] ∧ l'.length = k ∧ cs = c1 ++ [u0, u1, u2, u3] ∧ LQ4 w c1 l' ∧ LRep w f0 (.agg #[u0, u1, u2, u3]) ∧ ∀ u ∈ [u0, u1, u2, u3], u.oneCell' = true
  | [], [], _, _, e => by simp at e
  | c0 :: c1 :: c2 :: c3 :: cs, [f], k, h, e => by
    (have hc : cs = [] := by have := h.2.2.len; simpa using this); subst hc
    exact ⟨[], f, [], c0, c1, c2, c3, rfl, by simp at e ⊢; omega, rfl, trivial, h.1, h.2.1⟩
  | c0 :: c1 :: c2 :: c3 :: cs, f :: g :: fs, k, h, e => by
    (obtain ⟨l', f0, d, u0, u1, u2, u3, e1, e2, e3, e4, e5, e6⟩ := LQ4.last (k - 1) h.2.2 (by simp at e ⊢; omega)); (exact ⟨f :: l', f0, c0 :: c1 :: c2 :: c3 :: d, u0, u1, u2, u3, by rw [e1]; rfl, by simp at e ⊢; omega, by rw [e3]; rfl, ⟨h.1, h.2.1, e4⟩, e5, e6⟩)
/-- The first of a list in cells. -/
theorem LQ4.first {w : World} : ∀ {cs : List Value} {l : List Lm} (k : Nat), LQ4 w cs l → l.length = k + 1 → ∃ h0 m' u0 u1 u2 u3 c1, l = h0 :: m' ∧ m'.length = k ∧ cs = u0 :: u1 :: u2 :: u3 :: c1 ∧ LQ4 w c1 m' ∧ LRep w h0 (.agg #[u0, u1, u2, u3]) ∧ ∀ u ∈ [u0, u1, u2, u3], u.oneCell' = true
  | [], [], _, _, e => by simp at e
  | c0 :: c1 :: c2 :: c3 :: cs, f :: fs, k, h, e => ⟨f, fs, c0, c1, c2, c3, cs, rfl, by simpa using e, rfl, h.2.2, h.1, h.2.1⟩
end Go.Proofs.Ytealalhgkdlmkai
/- Plain things for the law NetTensors: the tensor's own node in memory. -/
namespace Go.Proofs.Ytealalhgkdlmkai
open Go.RowKit Go.Sort

/-- The tensor's node, whose kids lie in a block of their own. -/
theorem ten_rep {w W : World} {q : Nat} {T : TypeId} {f0 h0 : Lm} {u0 u1 u2 u3 y0 y1 y2 y3 : Value} (hb : Below w.heap.size w W) (hf : LRep w f0 (.agg #[u0, u1, u2, u3])) (hh : LRep w h0 (.agg #[y0, y1, y2, y3])) (hq : W.heap[q]? = some (.cells #[u0, u1, u2, u3, y0, y1, y2, y3] T (0, 0))) : LRep W (tenL f0 h0) (.agg #[.int .i64 2, .string ⟨#[]⟩, .bool false, .slice (some ⟨q, 0, none⟩) 2 2]) := by
  (have hc : ∀ a : Addr, a.block < w.heap.size → (∀ c, w.cell? a = some c → W.cell? a = some c) := fun _ hlt _ hc => (hb.cell hlt).trans hc); (refine LRep.def.2 ⟨some ⟨q, 0, none⟩, 2, rfl, Nat.zero_le _, by simp, by simp [maxLen], fun _ => ⟨q, 0, rfl, LReps.cons.2 ⟨⟨u0, u1, u2, u3, ?_, ?_, ?_, ?_, LRep.keep hc _ _ hf⟩, LReps.cons.2 ⟨⟨y0, y1, y2, y3, ?_, ?_, ?_, ?_, LRep.keep hc _ _ hh⟩, LReps.nil⟩⟩⟩⟩ <;> rw [blk_cell hq] <;> rfl)
theorem ten_row {w W : World} {q : Nat} {T : TypeId} {f0 h0 : Lm} {l' : List Lm} {dl : List Value} {u0 u1 u2 u3 y0 y1 y2 y3 : Value} (hb : Below w.heap.size w W) (hl : LQ4 w dl l') (hf : LRep w f0 (.agg #[u0, u1, u2, u3])) (hh : LRep w h0 (.agg #[y0, y1, y2, y3])) (hq : W.heap[q]? = some (.cells #[u0, u1, u2, u3, y0, y1, y2, y3] T (0, 0))) : LQ4 W (dl ++ [.int .i64 2, .string ⟨#[]⟩, .bool false, .slice (some ⟨q, 0, none⟩) 2 2]) (l' ++ [tenL f0 h0]) := by
  (refine LQ4.append (hl.keep fun _ hlt _ hc => (hb.cell hlt).trans hc) ⟨ten_rep hb hf hh hq, fun u hu => ?_, trivial⟩); simp only [List.mem_cons, List.not_mem_nil, or_false] at hu
  rcases hu with rfl | rfl | rfl | rfl <;> rfl
theorem last_cells {w : World} {b off n : Nat} {cs dl : List Value} {u0 u1 u2 u3 : Value} (e : cs = dl ++ [u0, u1, u2, u3]) (hd : dl.length = n) (hc : ∀ (j : Nat) (u : Value), cs[j]? = some u → w.cell? ⟨b, off + j, none⟩ = some u) : w.cell? ⟨b, off + n, none⟩ = some u0 ∧ w.cell? ⟨b, off + n + 1, none⟩ = some u1 ∧ w.cell? ⟨b, off + n + 2, none⟩ = some u2 ∧ w.cell? ⟨b, off + n + 3, none⟩ = some u3 := by
  subst e; subst hd; (exact ⟨hc _ u0 (by simp), hc (dl.length + 1) u1 (by simp), hc (dl.length + 2) u2 (by simp), hc (dl.length + 3) u3 (by simp)⟩)
theorem first_cells {w : World} {b off : Nat} {cs dl : List Value} {u0 u1 u2 u3 : Value} (e : cs = u0 :: u1 :: u2 :: u3 :: dl) (hc : ∀ (j : Nat) (u : Value), cs[j]? = some u → w.cell? ⟨b, off + j, none⟩ = some u) : w.cell? ⟨b, off, none⟩ = some u0 ∧ w.cell? ⟨b, off + 1, none⟩ = some u1 ∧ w.cell? ⟨b, off + 2, none⟩ = some u2 ∧ w.cell? ⟨b, off + 3, none⟩ = some u3 := by
  subst e; exact ⟨hc 0 u0 rfl, hc 1 u1 rfl, hc 2 u2 rfl, hc 3 u3 rfl⟩
/-- The last of the two lists is fine, and not correct. -/
theorem side_b {l m : List Lm} {a b : List (Int × Int)} {mu1 mu2 : Nat → Option Nat} {c1 c2 : Nat} {x : Bool} {d : Nat} (h1 : netC l a = .ok mu1 c1) (h2 : netC m b = .ok mu2 c2) (hlen : l.length + m.length ≤ 20) (hsz : Lm.sizes l + Lm.sizes m ≤ 199) (hd : d = (lvsL l 0).length) (hB : CorrB (l ++ m) (a ++ b.map fun p => ((d : Int) + p.1, (d : Int) + p.2)) x) : x = false ∧ (netE (netC (l ++ m) (a ++ b.map fun p => ((d : Int) + p.1, (d : Int) + p.2)))).1 = 0 := by
  subst hd; obtain ⟨mu, c3, e, hn⟩ := side_all h1 h2 hlen hsz; unfold CorrB at hB; rw [e] at hB ⊢; refine ⟨?_, rfl⟩
  cases x
  · rfl
  · exact absurd (hB.1 rfl) hn
/-- With the tensor the net is fine, and it is correct just if both were. -/
theorem ten_b {l m l' m' : List Lm} {f0 h0 : Lm} {a b : List (Int × Int)} {mu1 mu2 : Nat → Option Nat} {c1 c2 : Nat} {x y z : Bool} {d : Nat} (el : l = l' ++ [f0]) (em : m = h0 :: m') (h1 : netC l a = .ok mu1 c1) (h2 : netC m b = .ok mu2 c2) (hlen : l.length + m.length ≤ 20) (hsz : Lm.sizes l + Lm.sizes m ≤ 199) (hd : d = (lvsL l 0).length) (hx : x = true ↔ CorrN l mu1 a.length) (hy : y = true ↔ CorrN m mu2 b.length) (hB : CorrB (l' ++ tenL f0 h0 :: m') (a ++ b.map fun p => ((d : Int) + p.1, (d : Int) + p.2)) z) : z = (x && y) ∧ (netE (netC (l' ++ tenL f0 h0 :: m') (a ++ b.map fun p => ((d : Int) + p.1, (d : Int) + p.2)))).1 = 0 := by
  subst el; subst em; subst hd; obtain ⟨mu, c3, e, hn⟩ := ten_all h1 h2 hlen hsz; unfold CorrB at hB; rw [e] at hB ⊢; refine ⟨?_, rfl⟩; have hB2 : z = true ↔ _ := hB; rw [Bool.eq_iff_iff, hB2, Bool.and_eq_true, hx, hy]; exact hn
/-- The two new lists, and the links, as they lie in memory. -/
theorem two_ll {w W : World} {B n cp : Nat} {ad : Option Addr} {l m : List Lm} {cl cm : List Value} (hb : Below w.heap.size w W) (hl : LQ4 w cl l) (hm : LQ4 w cm m) (hn : n = l.length + m.length) (ho : W.ownsRow B 52 4 (.slice ad n cp) n (cl ++ cm)) : LL W (.slice ad n cp) (l ++ m) := by
  (have hL : n = (l ++ m).length := by rw [List.length_append]; exact hn); subst hL; (exact LOw.ll (B := B) ⟨_, ho, LQ4.append (hl.keep fun _ hlt _ hc => (hb.cell hlt).trans hc) (hm.keep fun _ hlt _ hc => (hb.cell hlt).trans hc)⟩)
theorem ten_ll {w W : World} {B q n cp : Nat} {T : TypeId} {ad : Option Addr} {f0 h0 : Lm} {l' m' : List Lm} {dl dm : List Value} {u0 u1 u2 u3 y0 y1 y2 y3 : Value} (hb : Below w.heap.size w W) (hl : LQ4 w dl l') (hf : LRep w f0 (.agg #[u0, u1, u2, u3])) (hh : LRep w h0 (.agg #[y0, y1, y2, y3])) (hm : LQ4 w dm m') (hq : W.heap[q]? = some (.cells #[u0, u1, u2, u3, y0, y1, y2, y3] T (0, 0))) (hn : n = l'.length + 1 + m'.length) (ho : W.ownsRow B 52 4 (.slice ad n cp) n ((dl ++ [.int .i64 2, .string ⟨#[]⟩, .bool false, .slice (some ⟨q, 0, none⟩) 2 2]) ++ dm)) : LL W (.slice ad n cp) (l' ++ tenL f0 h0 :: m') := by
  (have hL : n = (l' ++ tenL f0 h0 :: m').length := by rw [List.length_append, List.length_cons]; omega); subst hL; refine LOw.ll (B := B) ⟨_, ho, ?_⟩; (rw [show l' ++ tenL f0 h0 :: m' = (l' ++ [tenL f0 h0]) ++ m' by simp]); (exact LQ4.append (ten_row hb hl hf hh hq) (hm.keep fun _ hlt _ hc => (hb.cell hlt).trans hc))
theorem links_pl {W : World} {B n cp : Nat} {ad : Option Addr} {rs : List (Int × Int)} (hn : n = rs.length) (ho : W.ownsRow B 57 2 (.slice ad n cp) n (encP rs)) : PL W (.slice ad n cp) rs := by
  subst hn; exact PL.own ho
end Go.Proofs.Ytealalhgkdlmkai
