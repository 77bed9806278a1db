/- Texts of one proof, one behind the other: NTI. -/
import Derived.Test.YtealalhgkdlmkaiB27
/- Walks: a net's joints are counted. -/
namespace Go.Proofs.Ytealalhgkdlmkai
open Go.RowKit Go.Sort Go.Maps Go.WideMaps

/-- What a node joins in each way. -/
def jOf (x : Nd) : Nat := if x.k = 3 then 1 else if x.k = 2 then 2 else 0
def jSum (nds : List Nd) : Nat := (nds.map jOf).sum
theorem jSum_snoc (l : List Nd) (x : Nd) : jSum (l ++ [x]) = jSum l + jOf x := by simp [jSum]
theorem jSum_le (l : List Nd) : jSum l ≤ 2 * l.length := by
  induction l with
  | nil => simp [jSum]
  | cons x l ih =>
    (have : jSum (x :: l) = jOf x + jSum l := by simp [jSum]); (have h2 : jOf x ≤ 2 := by unfold jOf; split <;> (try split) <;> omega); rw [this, List.length_cons]; omega
theorem take_snocN {l : List Nd} {i : Nat} {x : Nd} (h : l[i]? = some x) : l.take (i + 1) = l.take i ++ [x] := by rw [List.take_add_one, h]; rfl
set_option maxRecDepth 10000 in
set_option maxHeartbeats 4000000 in
theorem joints_any (l : List Lm) (hs : Lm.sizes l ≤ 200) (mu : Nat → Option Nat) (k bp bm : Nat) (hk : k ≤ 1000) (w : World) (h : NetAt w bp bm l mu (2 * k)) :
    Calls Try.prog 61 #[nwV bp bm] w fun e w' => e = .returned (.int .i64 ((k + jSum (ndsL l 0) : Nat) : Int)) ∧ Below w.heap.size w w' := by
  have hnl : (ndsL l 0).length = Lm.sizes l := ndsL_len l 0; have HNt : Hid (NetAt w bp bm l mu (2 * k)) := h; obtain ⟨T, ar, cr, hp, hTb, -, hm⟩ := h; obtain ⟨nn, D, hmap, hnn, hsz, -⟩ := hm; have HPl : Hid (PlanA w T bp (.slice ar l.length cr) (ndsL l 0) (lvsL l 0)) := hp; have HMp : Hid (w.ownsMap Try.prog 3 (plainElem Try.prog 3) bm nn D ∧ Maps.size D = 2 * k) := ⟨hmap, hsz⟩; obtain ⟨an, cn, al, cl, h0, -, -, hcn, -, -, -⟩ := hp.read; have HC0 : Hid (w.cell? ⟨bp, 0, none⟩ = some (.slice an (ndsL l 0).length cn)) := h0; obtain ⟨nds, hnds⟩ : ∃ nds, nds = ndsL l 0 := ⟨_, rfl⟩; rw [← hnds] at HC0 hcn hnl ⊢ HPl; (have HNl : Hid (nds.length ≤ 200) := by show _ ≤ _; omega); (have hnI : (nds.length : Int) ≤ 200 := by omega); (have hkI : (k : Int) ≤ 1000 := by omega); have HKk : Hid (k ≤ 1000) := hk; (have HPr : Hid (∀ (i : Nat) (x : Nd), nds[i]? = some x → ∀ W, Below w.heap.size w W → Calls Try.prog 64 #[.pointer (some ⟨bp, 0, none⟩), .int .i64 (i : Nat)] W fun e w' => e = .returned (.bool (x.k == 3)) ∧ w' = W) := fun i x hx W hb => isPar_any hx W (HPl.out.up hb)); (have HTn : Hid (∀ (i : Nat) (x : Nd), nds[i]? = some x → ∀ W, Below w.heap.size w W → Calls Try.prog 69 #[.pointer (some ⟨bp, 0, none⟩), .int .i64 (i : Nat)] W fun e w' => e = .returned (.bool (x.k == 2)) ∧ w' = W) := fun i x hx W hb => isTensor_any hx W (HPl.out.up hb))
  have HJs : Hid (∀ i, jSum (nds.take i) ≤ 400) := fun i => by
    have := jSum_le (nds.take i); rw [List.length_take] at this; have := HNl.out; omega
  unfold nwV; obtain ⟨W, hW⟩ : ∃ W, W = w.alloc (.cells #[.pointer (some ⟨bp, 0, none⟩), .map (some bm)] 65 (0, 0)) := ⟨_, rfl⟩; (have HBW : Hid (Below w.heap.size w W) := by rw [hW]; exact below_more (Below.refl _ w) _); (have HX1 : Hid (W.heap[w.heap.size]? = some (.cells #[.pointer (some ⟨bp, 0, none⟩), .map (some bm)] 65 (0, 0))) := by rw [hW]; exact blk_new _ _)
  have hmW : W.ownsMap Try.prog 3 (plainElem Try.prog 3) bm nn D := by
    obtain ⟨es, clock, hb, r⟩ := hmap; exact ⟨es, clock, below_keep HBW.out hb, r⟩
  obtain ⟨q0, q1, -⟩ := blk2 HX1.out; have c2 := (HBW.out.cell (lt_of_cell HC0.out)).trans HC0.out
  have hdiv : IntKind.i64.wrap (((2 * k : Nat) : Int).tdiv 2) = (k : Int) := by
    (rw [show ((2 * k : Nat) : Int) = (k : Int) * 2 by omega, Int.mul_tdiv_cancel _ (by omega)]); (exact wrap_small _ (by omega))
  have hWe := hW.symm; clear hW hp h0 hnl hnds hs hTb hmap hk
  go_enter Try.func61, Try.ntmps61
  go_wp2_with (first
    | (at_len; refine wpList_len_own _ rfl _ 63 rfl 3 3 Try.underlying63 _ bm nn D rfl hmW ?_; rw [hsz]; go_wp2_with fail)
    | fail)
  clear hWe q0 q1 c2 hmW hdiv hsz hnn
  go_loopg [15, 3] nds.length (fun gg cc sm wr => ∃ i, i ≤ nds.length ∧ gg = nds.length - i ∧ cc = .int .i64 (i : Nat) ∧ sm = .int .i64 ((k + jSum (nds.take i) : Nat) : Int) ∧ wr = W)
  case atStart => exact ⟨0, by omega, by omega, rfl, by simp [jSum], rfl⟩
  case round =>
    obtain ⟨i, hi, hg, rfl, rfl, rfl⟩ := hrel; have HGk : Hid (gk = nds.length - i) := hg; clear hg; obtain ⟨q0, q1, -⟩ := blk2 HX1.out; by_cases hlt : i < nds.length
    · have hltI : (i : Int) < (nds.length : Int) := by omega
      have HI : Hid (i < nds.length) := hlt; obtain ⟨x, hx⟩ : ∃ x, nds[i]? = some x := ⟨_, List.getElem?_eq_getElem hlt⟩; have HP1 : Hid (Calls Try.prog 64 #[.pointer (some ⟨bp, 0, none⟩), .int .i64 (i : Nat)] wr _) := HPr.out i x hx wr HBW.out; have HP2 : Hid (Calls Try.prog 69 #[.pointer (some ⟨bp, 0, none⟩), .int .i64 (i : Nat)] wr _) := HTn.out i x hx wr HBW.out; (have HSn : Hid (jSum (nds.take (i + 1)) = jSum (nds.take i) + jOf x) := by show _ = _; rw [take_snocN hx, jSum_snoc]); have hj1 := HJs.out i; generalize jSum (nds.take i) = js at *; obtain ⟨s0, hs0⟩ : ∃ s0, s0 = k + js := ⟨_, rfl⟩; (have hs0I : (s0 : Int) ≤ 1400 := by have := HKk.out; omega); have HS0 : Hid (s0 = k + js) := hs0; rw [← hs0]; clear hlt hi hx hj1 hs0
      rcases h3 : (x.k == 3) with _ | _
      · rw [h3] at HP1
        rcases h2 : (x.k == 2) with _ | _
        · rw [h2] at HP2
          (have HJ : Hid (jOf x = 0) := by show _ = _; unfold jOf; rw [if_neg (by simpa using h3), if_neg (by simpa using h2)]); clear h2 h3
          go_wp2_with (first
            | (go_at_call 64; refine HP1.out.mono ?_; rintro e w5 ⟨rfl, rfl⟩)
            | (go_at_call 69; refine HP2.out.mono ?_; rintro e w5 ⟨rfl, rfl⟩)
            | fail)
          go_roundg (nds.length - (i + 1))
          case measure => have := HGk.out; have := HI.out; omega
          case rel => exact ⟨i + 1, HI.out, rfl, by go_num, by rw [HSn.out, HJ.out, HS0.out]; rfl, rfl⟩
        · rw [h2] at HP2
          (have HJ : Hid (jOf x = 2) := by show _ = _; unfold jOf; rw [if_neg (by simpa using h3), if_pos (by simpa using h2)]); clear h2 h3
          go_wp2_with (first
            | (go_at_call 64; refine HP1.out.mono ?_; rintro e w5 ⟨rfl, rfl⟩)
            | (go_at_call 69; refine HP2.out.mono ?_; rintro e w5 ⟨rfl, rfl⟩)
            | fail)
          go_roundg (nds.length - (i + 1))
          case measure => have := HGk.out; have := HI.out; omega
          case rel => exact ⟨i + 1, HI.out, rfl, by go_num, by rw [HSn.out, HJ.out]; have := HS0.out; subst this; rfl, rfl⟩
      · rw [h3] at HP1
        (have HJ : Hid (jOf x = 1) := by show _ = _; unfold jOf; rw [if_pos (by simpa using h3)]); clear h3
        go_wp2_with (first
          | (go_at_call 64; refine HP1.out.mono ?_; rintro e w5 ⟨rfl, rfl⟩)
          | fail)
        go_roundg (nds.length - (i + 1))
        case measure => have := HGk.out; have := HI.out; omega
        case rel => exact ⟨i + 1, HI.out, rfl, by go_num, by rw [HSn.out, HJ.out]; have := HS0.out; subst this; rfl, rfl⟩
    · have hii : nds.length = i := by omega
      subst hii; (have hge : ¬ (nds.length : Int) < (nds.length : Int) := by omega); clear hlt hi; go_wp2_with fail; go_ret; exact ⟨rfl, HBW.out⟩
end Go.Proofs.Ytealalhgkdlmkai
