/- Texts of one proof, one behind the other: NT9, NTA. -/
import Derived.Test.YtealalhgkdlmkaiB21
import Derived.Test.YtealalhgkdlmkaiB09
/- Walks: links are looked at and laid: checkLink, linkAll. -/
namespace Go.Proofs.Ytealalhgkdlmkai
open Go.RowKit Go.Sort

/-- What is wrong with a leaf of a link. -/
def okL (L : Nat) (mu : Nat → Option Nat) (z : Int) : Option Int := if z < 0 ∨ (L : Int) ≤ z then some 3 else if (mu z.toNat).isSome = true then some 5 else none
/-- What is wrong with a link. -/
def lkBad (nds : List Nd) (lvs : List Nat) (mu : Nat → Option Nat) (p : Int × Int) : Option Int := match okL lvs.length mu p.1 with
  | some c => some c
  | none => match okL lvs.length mu p.2 with
    | some c => some c
    | none => if (match lvs[p.1.toNat]?, lvs[p.2.toNat]? with
      | some a, some b => (match nds[a]?, nds[b]? with | some x, some y => fitB x y | _, _ => false)
      | _, _ => false) = true then none else some 5
/-- What looking at a link leaves. -/
def CKPost (o : Option Int) (at_ : Int) (e : Ending) : Prop := match o with
  | none => e = .returned (.tuple #[])
  | some c => e = .panicked (stopC c at_)
/-- The leaves of a plan are among its nodes. -/
def LvIn (nds : List Nd) (lvs : List Nat) : Prop := ∀ (j a : Nat), lvs[j]? = some a → a < nds.length
theorem idx0 (x y : Int) (w : World) : (Instr.index 57 (.agg #[.int .i64 x, .int .i64 y]) (.int .i64 0)).run Try.prog w = .ok (.int .i64 x) w := by kernel_rfl
theorem idx1 (x y : Int) (w : World) : (Instr.index 57 (.agg #[.int .i64 x, .int .i64 y]) (.int .i64 1)).run Try.prog w = .ok (.int .i64 y) w := by kernel_rfl
theorem okL_range {L : Nat} {mu : Nat → Option Nat} {z : Int} (h : z < 0 ∨ (L : Int) ≤ z) : okL L mu z = some 3 := by rw [okL, if_pos h]
theorem okL_linked {L : Nat} {mu : Nat → Option Nat} {z : Int} {k : Nat} (hk : z = (k : Int)) (hm : (mu k).isSome = true) (h : k < L) : okL L mu z = some 5 := by
  subst hk; (rw [okL, if_neg (by omega), Int.toNat_natCast, if_pos hm])
theorem okL_fine {L : Nat} {mu : Nat → Option Nat} {z : Int} {k : Nat} (hk : z = (k : Int)) (h : k < L) (hm : (mu k).isSome = false) : okL L mu z = none := by
  subst hk; (rw [okL, if_neg (by omega), Int.toNat_natCast, if_neg (by rw [hm]; simp)])
theorem lk_first {nds : List Nd} {lvs : List Nat} {mu : Nat → Option Nat} {x y c : Int} (h : okL lvs.length mu x = some c) : lkBad nds lvs mu (x, y) = some c := by
  unfold lkBad; simp only [h]
theorem lk_second {nds : List Nd} {lvs : List Nat} {mu : Nat → Option Nat} {x y c : Int} (h0 : okL lvs.length mu x = none) (h : okL lvs.length mu y = some c) : lkBad nds lvs mu (x, y) = some c := by
  unfold lkBad; simp only [h0, h]
theorem okL_none {L : Nat} {mu : Nat → Option Nat} {z : Int} (h : okL L mu z = none) : ∃ k : Nat, z = (k : Int) ∧ k < L ∧ mu k = none := by
  unfold okL at h
  split at h
  · cases h
  rename_i h1
  split at h
  · cases h
  rename_i h2
  (refine ⟨z.toNat, by omega, by omega, ?_⟩)
  cases hm : mu z.toNat with
  | none => rfl
  | some v => rw [hm] at h2; simp at h2
set_option maxRecDepth 10000 in
set_option maxHeartbeats 8000000 in
theorem checkLink_any {T : Nat → Prop} {bp bm c : Nat} {rv : Value} {nds : List Nd} {lvs : List Nat} {mu : Nat → Option Nat} (hLv : LvIn nds lvs) (hl : lvs.length ≤ 200) (x y at_ : Int) (w : World) (hp : PlanA w T bp rv nds lvs) (hm : MtM w bm mu c) :
    Calls Try.prog 87 #[nwV bp bm, .agg #[.int .i64 x, .int .i64 y], .int .i64 at_] w fun e w' => CKPost (lkBad nds lvs mu (x, y)) at_ e ∧ Below w.heap.size w w' := by
  have HP : Hid (PlanA w T bp rv nds lvs) := hp; have HMt : Hid (MtM w bm mu c) := hm; have HLl : Hid (lvs.length ≤ 200) := hl; have HLv : Hid (LvIn nds lvs) := hLv; (have hlI : (lvs.length : Int) ≤ 200 := by omega); obtain ⟨an, cn, al, cl, h0, h1, h2, hcn, hcl, -⟩ := hp.read; have HC2 : Hid (w.cell? ⟨bp, 2, none⟩ = some (.slice al lvs.length cl)) := h2; unfold nwV; obtain ⟨W, hW⟩ : ∃ W, W = (w.alloc (.cells #[.pointer (some ⟨bp, 0, none⟩), .map (some bm)] 65 (0, 0))).alloc (.cells #[.int .i64 x, .int .i64 y] 57 (0, 0)) := ⟨_, rfl⟩; (have HBW : Hid (Below w.heap.size w W) := by rw [hW]; exact below_more (below_more (Below.refl _ w) _) _); (have HX1 : Hid (W.heap[w.heap.size]? = some (.cells #[.pointer (some ⟨bp, 0, none⟩), .map (some bm)] 65 (0, 0))) := by rw [hW]; exact alloc_keep (blk_new _ _) _); (have HX2 : Hid (W.heap[w.heap.size + 1]? = some (.cells #[.int .i64 x, .int .i64 y] 57 (0, 0))) := by rw [hW]; exact blk_secE _ _ _); obtain ⟨q0, q1, -⟩ := blk2 HX2.out; have hWe := hW.symm; clear hW hp hm h0 h1 h2 hcn hcl hl hLv
  go_enter Try.func87, Try.ntmps87
  go_wp2_with fail; clear hWe q0 q1
  go_loopg [9] 2 (fun gg cc wr => ∃ i, i ≤ 2 ∧ gg = 2 - i ∧ cc = .int .i64 (i : Nat) ∧ Hid ((1 ≤ i → okL lvs.length mu x = none) ∧ (2 ≤ i → okL lvs.length mu y = none)) ∧ Hid (Below W.heap.size W wr))
  case atStart => exact ⟨0, by omega, by omega, rfl, ⟨fun h => absurd h (by omega), fun h => absurd h (by omega)⟩, Below.refl _ _⟩
  case round =>
    obtain ⟨i, hi, hg, rfl, HOk, HB⟩ := hrel; have HGk : Hid (gk = 2 - i) := hg; clear hg; have HBr : Hid (Below w.heap.size w wr) := below_join HBW.out HB.out; obtain ⟨n0, n1, -⟩ := blk2 (below_keep HB.out HX1.out); have c2 := (HBr.out.cell (lt_of_cell HC2.out)).trans HC2.out; (have hi3 : i = 0 ∨ i = 1 ∨ i = 2 := by omega)
    rcases hi3 with rfl | rfl | rfl
    · have hix := idx0 x y
      clear hi; by_cases h1 : x < 0
      · have HC9 : Hid (lkBad nds lvs mu (x, y) = some 3) := lk_first (okL_range (Or.inl h1))
        go_wp2_with (first
          | (go_at_call 78; refine (HLk.out _ HBr.out).mono ?_; rintro e w5 ⟨rfl, hb5⟩)
          | (go_at_call 57; refine (stop_any _ _ _).mono ?_; rintro e w4 ⟨rfl, rfl⟩)
          | fail)
        refine ⟨rfl, ?_, HBr.out⟩; rw [HC9.out]; rfl
      by_cases h2 : (lvs.length : Int) ≤ x
      · have HC9 : Hid (lkBad nds lvs mu (x, y) = some 3) := lk_first (okL_range (Or.inr h2))
        go_wp2_with (first
          | (go_at_call 78; refine (HLk.out _ HBr.out).mono ?_; rintro e w5 ⟨rfl, hb5⟩)
          | (go_at_call 57; refine (stop_any _ _ _).mono ?_; rintro e w4 ⟨rfl, rfl⟩)
          | fail)
        refine ⟨rfl, ?_, HBr.out⟩; rw [HC9.out]; rfl
      (obtain ⟨k, hk⟩ : ∃ k : Nat, x = (k : Int) := ⟨x.toNat, by omega⟩); (have hkl : k < lvs.length := by omega); (have HLk : Hid (∀ W, Below w.heap.size w W → Calls Try.prog 78 #[.agg #[.pointer (some ⟨bp, 0, none⟩), .map (some bm)], .int .i64 x] W fun e w' => e = .returned (.bool (mu k).isSome) ∧ Below W.heap.size W w') := fun W hb => by rw [hk]; exact isLinked_any (by have := HLl.out; omega) W (HMt.out.up hb))
      rcases hmk : (mu k).isSome with _ | _
      · rw [hmk] at HLk
        have HOk1 : Hid (okL lvs.length mu x = none) := okL_fine hk hkl hmk; clear hmk hk hkl
        go_wp2_with (first
          | (go_at_call 78; refine (HLk.out _ HBr.out).mono ?_; rintro e w5 ⟨rfl, hb5⟩)
          | fail)
        go_roundg (2 - 1)
        case measure => have := HGk.out; omega
        case rel => exact ⟨1, by omega, rfl, by go_num, ⟨fun _ => HOk1.out, fun h => absurd h (by omega)⟩, below_join HB.out hb5⟩
      · rw [hmk] at HLk
        have HC9 : Hid (lkBad nds lvs mu (x, y) = some 5) := lk_first (okL_linked hk hmk hkl); clear hk hkl hmk
        go_wp2_with (first
          | (go_at_call 78; refine (HLk.out _ HBr.out).mono ?_; rintro e w5 ⟨rfl, hb5⟩)
          | (go_at_call 57; refine (stop_any _ _ _).mono ?_; rintro e w4 ⟨rfl, rfl⟩)
          | fail)
        refine ⟨rfl, ?_, below_join HBr.out hb5⟩; rw [HC9.out]; rfl
    · have hix := idx1 x y
      clear hi; (have HOk : Hid (okL lvs.length mu x = none) := HOk.out.1 (by omega)); by_cases h1 : y < 0
      · have HC9 : Hid (lkBad nds lvs mu (x, y) = some 3) := lk_second HOk.out (okL_range (Or.inl h1))
        go_wp2_with (first
          | (go_at_call 78; refine (HLk.out _ HBr.out).mono ?_; rintro e w5 ⟨rfl, hb5⟩)
          | (go_at_call 57; refine (stop_any _ _ _).mono ?_; rintro e w4 ⟨rfl, rfl⟩)
          | fail)
        refine ⟨rfl, ?_, HBr.out⟩; rw [HC9.out]; rfl
      by_cases h2 : (lvs.length : Int) ≤ y
      · have HC9 : Hid (lkBad nds lvs mu (x, y) = some 3) := lk_second HOk.out (okL_range (Or.inr h2))
        go_wp2_with (first
          | (go_at_call 78; refine (HLk.out _ HBr.out).mono ?_; rintro e w5 ⟨rfl, hb5⟩)
          | (go_at_call 57; refine (stop_any _ _ _).mono ?_; rintro e w4 ⟨rfl, rfl⟩)
          | fail)
        refine ⟨rfl, ?_, HBr.out⟩; rw [HC9.out]; rfl
      (obtain ⟨k, hk⟩ : ∃ k : Nat, y = (k : Int) := ⟨y.toNat, by omega⟩); (have hkl : k < lvs.length := by omega); (have HLk : Hid (∀ W, Below w.heap.size w W → Calls Try.prog 78 #[.agg #[.pointer (some ⟨bp, 0, none⟩), .map (some bm)], .int .i64 y] W fun e w' => e = .returned (.bool (mu k).isSome) ∧ Below W.heap.size W w') := fun W hb => by rw [hk]; exact isLinked_any (by have := HLl.out; omega) W (HMt.out.up hb))
      rcases hmk : (mu k).isSome with _ | _
      · rw [hmk] at HLk
        have HOk2 : Hid (okL lvs.length mu y = none) := okL_fine hk hkl hmk; clear hmk hk hkl
        go_wp2_with (first
          | (go_at_call 78; refine (HLk.out _ HBr.out).mono ?_; rintro e w5 ⟨rfl, hb5⟩)
          | fail)
        go_roundg (2 - 2)
        case measure => have := HGk.out; omega
        case rel => exact ⟨2, by omega, rfl, by go_num, ⟨fun _ => HOk.out, fun _ => HOk2.out⟩, below_join HB.out hb5⟩
      · rw [hmk] at HLk
        have HC9 : Hid (lkBad nds lvs mu (x, y) = some 5) := lk_second HOk.out (okL_linked hk hmk hkl); clear hk hkl hmk
        go_wp2_with (first
          | (go_at_call 78; refine (HLk.out _ HBr.out).mono ?_; rintro e w5 ⟨rfl, hb5⟩)
          | (go_at_call 57; refine (stop_any _ _ _).mono ?_; rintro e w4 ⟨rfl, rfl⟩)
          | fail)
        refine ⟨rfl, ?_, below_join HBr.out hb5⟩; rw [HC9.out]; rfl
    · obtain ⟨ka, rfl, hka, hma⟩ := okL_none (HOk.out.1 (by omega))
      (obtain ⟨kb, rfl, hkb, hmb⟩ := okL_none (HOk.out.2 (by omega))); obtain ⟨na, hna⟩ : ∃ a, lvs[ka]? = some a := ⟨_, List.getElem?_eq_getElem hka⟩; obtain ⟨nb, hnb⟩ : ∃ a, lvs[kb]? = some a := ⟨_, List.getElem?_eq_getElem hkb⟩; obtain ⟨xn, hxn⟩ : ∃ a, nds[na]? = some a := ⟨_, List.getElem?_eq_getElem (HLv.out ka na hna)⟩; obtain ⟨yn, hyn⟩ : ∃ a, nds[nb]? = some a := ⟨_, List.getElem?_eq_getElem (HLv.out kb nb hnb)⟩
      have HR : Hid (lkBad nds lvs mu ((ka : Int), (kb : Int)) = if fitB xn yn = true then none else some 5) := by
        show _ = _; unfold lkBad; (simp only [HOk.out.1 (by omega), HOk.out.2 (by omega), Int.toNat_natCast, hna, hnb, hxn, hyn])
      (have HPr : Hid (∀ V, Below w.heap.size w V → Calls Try.prog 79 #[.pointer (some ⟨bp, 0, none⟩), .int .i64 (ka : Nat), .int .i64 (kb : Nat)] V fun e w' => e = .returned (.bool (fitB xn yn)) ∧ Below V.heap.size V w') := fun V hb => isPair_any hna hnb hxn hyn V (HP.out.up hb)); obtain ⟨m0, m1, -⟩ := blk2 (below_keep HB.out HX2.out); clear hi hka hkb hma hmb hna hnb hxn hyn
      rcases hf : fitB xn yn with _ | _
      · rw [hf] at HPr HR
        go_wp2_with (first
          | (go_at_call 79; refine (HPr.out _ HBr.out).mono ?_; rintro e w5 ⟨rfl, hb5⟩)
          | (go_at_call 57; refine (stop_any _ _ _).mono ?_; rintro e w4 ⟨rfl, rfl⟩)
          | fail)
        refine ⟨rfl, ?_, below_join HBr.out hb5⟩; rw [HR.out]; rfl
      · rw [hf] at HPr HR
        go_wp2_with (first
          | (go_at_call 79; refine (HPr.out _ HBr.out).mono ?_; rintro e w5 ⟨rfl, hb5⟩)
          | fail)
        go_end0
        refine ⟨?_, below_join HBr.out hb5⟩; rw [HR.out]; rfl
end Go.Proofs.Ytealalhgkdlmkai
/- Walks: all links are laid: linkAll. -/
namespace Go.Proofs.Ytealalhgkdlmkai
open Go.RowKit Go.Sort

inductive LkR where
  | bad (c : Int) (a : Nat)
  | ok (mu : Nat → Option Nat) (c : Nat)
def muLink (mu : Nat → Option Nat) (p : Int × Int) : Nat → Option Nat := muPut (muPut mu p.1.toNat p.2.toNat) p.2.toNat p.1.toNat
def lkAll (nds : List Nd) (lvs : List Nat) : List (Int × Int) → Nat → (Nat → Option Nat) → Nat → LkR
  | [], _, mu, c => .ok mu c
  | p :: ps, i, mu, c => match lkBad nds lvs mu p with
    | some e => .bad e i
    | none => lkAll nds lvs ps (i + 1) (muLink mu p) (c + 2)
def firstFree (mu : Nat → Option Nat) (L : Nat) : Option Nat := (List.range L).find? fun j => !(mu j).isSome
/-- What linkAll says. -/
def linkC (nds : List Nd) (lvs : List Nat) (ax : List (Int × Int)) : LkR := if lvs.length < ax.length then .bad 2 0 else match lkAll nds lvs ax 0 (fun _ => none) 0 with
  | .bad c a => .bad c a
  | .ok mu c => match firstFree mu lvs.length with
    | some j => .bad 9 j
    | none => .ok mu c
def LAPost (bm : Nat) : LkR → Ending → World → Prop
  | .ok mu c, e, w' => e = .returned (.tuple #[]) ∧ MtM w' bm mu c
  | .bad c a, e, _ => e = .panicked (stopC c (a : Int))
theorem lkAll_drop {nds : List Nd} {lvs : List Nat} {ax : List (Int × Int)} {i : Nat} {p : Int × Int} (h : ax[i]? = some p) (mu : Nat → Option Nat) (c : Nat) : lkAll nds lvs (ax.drop i) i mu c = match lkBad nds lvs mu p with | some e => .bad e i | none => lkAll nds lvs (ax.drop (i + 1)) (i + 1) (muLink mu p) (c + 2) := by
  have hi := (List.getElem?_eq_some_iff.1 h).1; rw [List.drop_eq_getElem_cons hi, lkAll]; rw [List.getElem?_eq_getElem hi] at h; rw [Option.some.inj h]
theorem lkBad_none {nds : List Nd} {lvs : List Nat} {mu : Nat → Option Nat} {x y : Int} (h : lkBad nds lvs mu (x, y) = none) : ∃ a b : Nat, x = (a : Int) ∧ y = (b : Int) ∧ a < lvs.length ∧ b < lvs.length ∧ a ≠ b ∧ mu a = none ∧ mu b = none ∧ ∃ (na nb : Nat) (u v : Nd), lvs[a]? = some na ∧ lvs[b]? = some nb ∧ nds[na]? = some u ∧ nds[nb]? = some v ∧ fitB u v = true := by
  unfold lkBad at h; simp only at h
  split at h
  · cases h
  rename_i h1
  split at h
  · cases h
  rename_i h2
  obtain ⟨a, rfl, ha, hma⟩ := okL_none h1; obtain ⟨b, rfl, hb, hmb⟩ := okL_none h2; obtain ⟨na, hna⟩ : ∃ n, lvs[a]? = some n := ⟨_, List.getElem?_eq_getElem ha⟩; obtain ⟨nb, hnb⟩ : ∃ n, lvs[b]? = some n := ⟨_, List.getElem?_eq_getElem hb⟩; simp only [Int.toNat_natCast, hna, hnb] at h
  cases hu : nds[na]? with
  | none => simp [hu] at h
  | some u =>
    cases hv : nds[nb]? with
    | none => simp [hu, hv] at h
    | some v =>
      simp only [hu, hv] at h
      have h3 : fitB u v = true := by
        cases hf : fitB u v with
        | true => rfl
        | false => rw [hf] at h; simp at h
      (refine ⟨a, b, rfl, rfl, ha, hb, fun e => ?_, hma, hmb, na, nb, u, v, hna, hnb, hu, hv, h3⟩); subst e; rw [hna] at hnb
      cases hnb
      rw [hu] at hv
      cases hv
      simp [fitB] at h3
theorem kept_cellM {w w' : World} {bm c : Nat} {mu : Nat → Option Nat} (h : MtM w bm mu c) (hk : Kept (fun b => b ≠ bm) w w') {a : Addr} {v : Value} (hc : w.cell? a = some v) : w'.cell? a = some v := by
  have hne : a.block ≠ bm := fun e => by
    obtain ⟨n, D, ⟨es, clock, hb, r⟩, r2⟩ := h; rw [← e] at hb; simp [World.cell?, hb] at hc
  exact (cell_of_block (hk.block _ (lt_of_cell hc) hne)).trans hc
theorem PlanA.keptM {w w' : World} {T : Nat → Prop} {bp bm : Nat} {rv : Value} {nds : List Nd} {lvs : List Nat} (h : PlanA w T bp rv nds lvs) (hT : ¬ T bm) (hk : Kept (fun b => b ≠ bm) w w') : PlanA w' T bp rv nds lvs :=
  h.move (fun b hb hlt => hk.block b hlt fun e => hT (e ▸ hb)) (fun _ h => h)
theorem firstFree_some {mu : Nat → Option Nat} {L i : Nat} (hi : i < L) (hn : (mu i).isSome = false) (hb : ∀ j, j < i → (mu j).isSome = true) : firstFree mu L = some i := by
  unfold firstFree; rw [List.find?_range_eq_some]; (refine ⟨by simp [hn], by simpa using hi, fun j hj => by simp [hb j hj]⟩)
theorem firstFree_none {mu : Nat → Option Nat} {L : Nat} (hb : ∀ j, j < L → (mu j).isSome = true) : firstFree mu L = none := by
  unfold firstFree; rw [List.find?_eq_none]; intro j hj; simp [hb j (List.mem_range.1 hj)]
set_option maxRecDepth 10000 in
set_option maxHeartbeats 8000000 in
theorem linkAll_any {T : Nat → Prop} {bp bm : Nat} {rv : Value} {nds : List Nd} {lvs : List Nat} (hLv : LvIn nds lvs) (hl : lvs.length ≤ 200) (hT : ¬ T bm) (ax : List (Int × Int)) (v : Value) (w : World) (hv : PL w v ax) (hp : PlanA w T bp rv nds lvs) (hm : MtM w bm (fun _ => none) 0) :
    Calls Try.prog 60 #[nwV bp bm, v] w fun e w' => LAPost bm (linkC nds lvs ax) e w' ∧ Kept (fun b => b ≠ bm) w w' := by
  obtain ⟨ad, cap, rfl, hx2, hx3, hx4⟩ := hv; have HP : Hid (PlanA w T bp rv nds lvs) := hp; (have HMt : Hid (MtM w bm (fun _ => none) 0) := hm); have HLl : Hid (lvs.length ≤ 200) := hl; have HLv : Hid (LvIn nds lvs) := hLv; have HTb : Hid (¬ T bm) := hT; have HAx : Hid (ax ≠ [] → ∃ b off, ad = some ⟨b, off, none⟩ ∧ ∀ (j : Nat) (x y : Int), ax[j]? = some (x, y) → w.cell? ⟨b, off + j * 2, none⟩ = some (.int .i64 x) ∧ w.cell? ⟨b, off + j * 2 + 1, none⟩ = some (.int .i64 y)) := hx4; (have hlI : (lvs.length : Int) ≤ 200 := by omega); (have hcapI : (ax.length : Int) ≤ (cap : Int) := by omega); (have hcap2 : (cap : Int) ≤ 9223372036854775807 := by unfold maxLen at hx3; omega); obtain ⟨an, cn, al, cl, h0, h1, h2, hcn, hcl, -⟩ := hp.read; have HC2 : Hid (w.cell? ⟨bp, 2, none⟩ = some (.slice al lvs.length cl)) := h2; unfold nwV; obtain ⟨W, hW⟩ : ∃ W, W = w.alloc (.cells #[.pointer (some ⟨bp, 0, none⟩), .map (some bm)] 65 (0, 0)) := ⟨_, rfl⟩; (have hbW : Below w.heap.size w W := by rw [hW]; exact below_more (Below.refl _ w) _); (have HKW : Hid (Kept (fun b => b ≠ bm) w W) := kept_of_below hbW (fun _ h _ => h)); (have HX1 : Hid (W.heap[w.heap.size]? = some (.cells #[.pointer (some ⟨bp, 0, none⟩), .map (some bm)] 65 (0, 0))) := by rw [hW]; exact blk_new _ _); (have HBne : Hid (w.heap.size ≠ bm) := by have := hm.lt; show _ ≠ _; omega); (have HMW : Hid (MtM W bm (fun _ => none) 0) := hm.up hbW); obtain ⟨q0, q1, -⟩ := blk2 HX1.out; have c2 := kept_cellM HMt.out HKW.out HC2.out; have hWe := hW.symm; clear hW hbW hp hm h0 h1 h2 hcn hcl hl hLv hT hx2 hx3 hx4; by_cases hmany : lvs.length < ax.length
  · have HC : Hid (linkC nds lvs ax = .bad 2 0) := by show _ = _; rw [linkC, if_pos hmany]
    (have hmI : (lvs.length : Int) < (ax.length : Int) := by omega)
    go_enter Try.func60, Try.ntmps60
    go_wp2_with (first
      | (go_at_call 57; refine (stop_any _ _ _).mono ?_; rintro e w4 ⟨rfl, rfl⟩)
      | fail)
    refine ⟨rfl, ?_, HKW.out⟩; rw [HC.out]; rfl
  (have hmI : ¬ (lvs.length : Int) < (ax.length : Int) := by omega); (have haI : (ax.length : Int) ≤ 200 := by omega); (have HAl : Hid (ax.length ≤ 200) := by show _ ≤ _; have := HLl.out; omega)
  have HC : Hid (linkC nds lvs ax = match lkAll nds lvs ax 0 (fun _ => none) 0 with
    | .bad c a => .bad c a
    | .ok mu c => match firstFree mu lvs.length with
      | some j => .bad 9 j
      | none => .ok mu c) := by show _ = _; rw [linkC, if_neg hmany]
  clear hmany
  go_enter Try.func60, Try.ntmps60
  go_wp2_with fail; clear hWe q0 q1 c2
  go_loopg [19] ax.length (fun gg cc wr => ∃ i mu c, i ≤ ax.length ∧ gg = ax.length - i ∧ cc = .int .i64 (i : Nat) ∧ Hid (c ≤ 2 * i) ∧ Hid (lkAll nds lvs (ax.drop i) i mu c = lkAll nds lvs ax 0 (fun _ => none) 0) ∧ Hid (MtM wr bm mu c) ∧ Hid (Kept (fun b => b ≠ bm) W wr))
  case atStart => exact ⟨0, fun _ => none, 0, by omega, by omega, rfl, Nat.le_refl _, by show _ = _; rw [List.drop_zero], HMW, Kept.refl _ _⟩
  case round =>
    obtain ⟨i, mu, c, hi, hg, rfl, HCn, HE, HMq, HK⟩ := hrel; have HGk : Hid (gk = ax.length - i) := hg; clear hg; obtain ⟨V, hV⟩ : ∃ V, V = wr := ⟨_, rfl⟩; subst hV; (have HKw : Hid (Kept (fun b => b ≠ bm) w V) := HKW.out.trans HK.out); have hbx := (HK.out.block _ (lt_of_block HX1.out) HBne.out).trans HX1.out; by_cases hlt : i < ax.length
    · obtain ⟨⟨x, y⟩, hxy⟩ : ∃ p, ax[i]? = some p := ⟨_, List.getElem?_eq_getElem hlt⟩
      (obtain ⟨b9, o9, rfl, hcc⟩ := HAx.out (fun e => by rw [e] at hlt; simp at hlt)); obtain ⟨y0, y1⟩ := hcc i x y hxy; have x0 := kept_cellM HMt.out HKw.out y0; have x1 := kept_cellM HMt.out HKw.out y1; (have hltI : (i : Int) < (ax.length : Int) := by omega); have HI : Hid (i < ax.length) := hlt; have hds := HE.out; rw [lkAll_drop hxy] at hds; obtain ⟨V1, hV1⟩ : ∃ V1, V1 = V.alloc (.cells #[.int .i64 x, .int .i64 y] 57 (0, 0)) := ⟨_, rfl⟩; (have hbV : Below V.heap.size V V1 := by rw [hV1]; exact below_more (Below.refl _ _) _); (have HV1 : Hid (V1.heap[V.heap.size]? = some (.cells #[.int .i64 x, .int .i64 y] 57 (0, 0))) := by rw [hV1]; exact blk_new _ _); (have HK1 : Hid (Kept (fun b => b ≠ bm) W V1) := HK.out.trans (kept_of_below hbV (fun _ h _ => h))); have HM1 : Hid (MtM V1 bm mu c) := HMq.out.up hbV; have HP1 : Hid (PlanA V1 T bp rv nds lvs) := HP.out.keptM HTb.out (HKW.out.trans HK1.out); have HX9 : Hid (V1.heap[w.heap.size]? = some (.cells #[.pointer (some ⟨bp, 0, none⟩), .map (some bm)] 65 (0, 0))) := below_keep hbV hbx; have HCk : Hid (Calls Try.prog 87 #[.agg #[.pointer (some ⟨bp, 0, none⟩), .map (some bm)], .agg #[.int .i64 x, .int .i64 y], .int .i64 (i : Nat)] V1 _) := checkLink_any HLv.out HLl.out x y (i : Nat) V1 HP1.out HM1.out; obtain ⟨m0, m1, -⟩ := blk2 HV1.out; obtain ⟨n0, n1, -⟩ := blk2 HX9.out; have hVe := hV1.symm; clear hV1 hbV hbx hxy hcc y0 y1 hlt hi HE
      rcases hlb : lkBad nds lvs mu (x, y) with _ | e9
      · rw [hlb] at hds HCk
        simp only at hds; (have HD : Hid (lkAll nds lvs (ax.drop (i + 1)) (i + 1) (muLink mu (x, y)) (c + 2) = lkAll nds lvs ax 0 (fun _ => none) 0) := hds); obtain ⟨ka, kb, rfl, rfl, hka, hkb, hab, hma, hmb, -⟩ := lkBad_none hlb; (have HLk : Hid (∀ U, MtM U bm mu c → Calls Try.prog 80 #[.agg #[.pointer (some ⟨bp, 0, none⟩), .map (some bm)], .int .i64 (ka : Nat), .int .i64 (kb : Nat)] U fun e w' => e = .returned (.tuple #[]) ∧ MtM w' bm (muPut (muPut mu ka kb) kb ka) (c + 2) ∧ Kept (fun x => x ≠ bm) U w') := fun U hU => link_any (by have := HCn.out; have := HI.out; have := HAl.out; omega) (by have := HLl.out; omega) (by have := HLl.out; omega) hab hma hmb U hU); clear hds hlb hka hkb hab hma hmb; go_wp2_with fail; refine HCk.out.mono ?_; rintro _ V2 ⟨rfl, hb2⟩; have HX8 : Hid (V2.heap[w.heap.size]? = some (.cells #[.pointer (some ⟨bp, 0, none⟩), .map (some bm)] 65 (0, 0))) := below_keep hb2 HX9.out; have HV2 : Hid (V2.heap[V.heap.size]? = some (.cells #[.int .i64 (ka : Nat), .int .i64 (kb : Nat)] 57 (0, 0))) := below_keep hb2 HV1.out; have HM2 : Hid (MtM V2 bm mu c) := HM1.out.up hb2; (have HK2 : Hid (Kept (fun b => b ≠ bm) W V2) := HK1.out.trans (kept_of_below hb2 (fun _ h _ => h))); clear hVe m0 m1 n0 n1 hb2; obtain ⟨m0, m1, -⟩ := blk2 HV2.out; obtain ⟨n0, n1, -⟩ := blk2 HX8.out; go_wp2_with fail; refine (HLk.out _ HM2.out).mono ?_; rintro _ V3 ⟨rfl, hm3, hk3⟩; have HM3 : Hid (MtM V3 bm (muLink mu ((ka : Int), (kb : Int))) (c + 2)) := hm3; (have HK3 : Hid (Kept (fun b => b ≠ bm) W V3) := HK2.out.trans hk3); clear hm3 hk3 m0 m1 n0 n1; go_wp2_with fail
        go_roundg (ax.length - (i + 1))
        case measure => have := HGk.out; have := HI.out; omega
        case rel => exact ⟨i + 1, _, c + 2, HI.out, rfl, by go_num, by show _ ≤ _; have := HCn.out; omega, HD, HM3, HK3⟩
      · rw [hlb] at hds HCk
        simp only at hds; (have HD : Hid (linkC nds lvs ax = .bad e9 i) := by show _ = _; rw [HC.out, ← hds]); clear hds hlb; go_wp2_with fail; refine HCk.out.mono ?_; rintro _ V2 ⟨rfl, hb2⟩; (have HK2 : Hid (Kept (fun b => b ≠ bm) W V2) := HK1.out.trans (kept_of_below hb2 (fun _ h _ => h))); go_wp2_with fail; refine ⟨rfl, ?_, HKW.out.trans HK2.out⟩; rw [HD.out]; rfl
    · have hii : ax.length = i := by omega
      subst hii; (have hge : ¬ (ax.length : Int) < (ax.length : Int) := by omega); have hE := HE.out; rw [List.drop_length, lkAll] at hE; (have HC9 : Hid (linkC nds lvs ax = match firstFree mu lvs.length with | some j => .bad 9 j | none => .ok mu c) := by show _ = _; rw [HC.out, ← hE]); obtain ⟨n0, n1, -⟩ := blk2 hbx; have HbX : Hid (V.heap[w.heap.size]? = some (.cells #[.pointer (some ⟨bp, 0, none⟩), .map (some bm)] 65 (0, 0))) := hbx; have c2 := kept_cellM HMt.out HKw.out HC2.out; clear hlt hi hE hbx HE HC; go_wp2_with fail; clear n0 n1 c2
      go_loopg [41] lvs.length (fun gg cc wr => ∃ i, i ≤ lvs.length ∧ gg = lvs.length - i ∧ cc = .int .i64 (i : Nat) ∧ Hid (∀ j, j < i → (mu j).isSome = true) ∧ Hid (Below V.heap.size V wr))
      case atStart => exact ⟨0, by omega, by omega, rfl, fun j hj => absurd hj (Nat.not_lt_zero _), Below.refl _ _⟩
      case round =>
        obtain ⟨i, hi, hg, rfl, HA, HB⟩ := hrel; have HGk : Hid (gk = lvs.length - i) := hg; clear hg; (have HKr : Hid (Kept (fun b => b ≠ bm) w wr) := HKw.out.trans (kept_of_below HB.out (fun _ h _ => h))); obtain ⟨n0, n1, -⟩ := blk2 (below_keep HB.out HbX.out); by_cases hlt : i < lvs.length
        · have hltI : (i : Int) < (lvs.length : Int) := by omega
          have HI : Hid (i < lvs.length) := hlt; (have HLk : Hid (Calls Try.prog 78 #[.agg #[.pointer (some ⟨bp, 0, none⟩), .map (some bm)], .int .i64 (i : Nat)] wr _) := isLinked_any (by have := HLl.out; omega) wr (HMq.out.up HB.out))
          rcases hmk : (mu i).isSome with _ | _
          · rw [hmk] at HLk
            (have HF : Hid (linkC nds lvs ax = .bad 9 i) := by show _ = _; rw [HC9.out, firstFree_some hlt hmk HA.out]); clear hlt hi hmk
            go_wp2_with (first
              | (go_at_call 78; refine HLk.out.mono ?_; rintro e w5 ⟨rfl, hb5⟩)
              | (go_at_call 57; refine (stop_any _ _ _).mono ?_; rintro e w4 ⟨rfl, rfl⟩)
              | fail)
            (refine ⟨rfl, ?_, HKr.out.trans (kept_of_below hb5 (fun _ h _ => h))⟩); rw [HF.out]; rfl
          · rw [hmk] at HLk
            have HA2 : Hid (∀ j, j < i + 1 → (mu j).isSome = true) := fun j hj => by
              rcases Nat.lt_or_ge j i with h | h
              · exact HA.out j h
              · rw [show j = i by omega]; exact hmk
            clear hlt hi hmk
            go_wp2_with (first
              | (go_at_call 78; refine HLk.out.mono ?_; rintro e w5 ⟨rfl, hb5⟩)
              | fail)
            go_roundg (lvs.length - (i + 1))
            case measure => have := HGk.out; have := HI.out; omega
            case rel => exact ⟨i + 1, HI.out, rfl, by go_num, HA2, below_join HB.out hb5⟩
        · have hii : lvs.length = i := by omega
          subst hii; (have hge : ¬ (lvs.length : Int) < (lvs.length : Int) := by omega); (have HF : Hid (linkC nds lvs ax = .ok mu c) := by show _ = _; rw [HC9.out, firstFree_none HA.out]); clear hlt hi; go_wp2_with fail
          go_end0
          refine ⟨?_, HKr.out⟩; rw [HF.out]; exact ⟨rfl, HMq.out.up HB.out⟩
end Go.Proofs.Ytealalhgkdlmkai
