/- Texts of one proof, one behind the other: NT8, NT9. -/
import Derived.Test.YtealalhgkdlmkaiB16
import Derived.Test.YtealalhgkdlmkaiB13
import Derived.Test.YtealalhgkdlmkaiB14
import Derived.Test.YtealalhgkdlmkaiB06
import Derived.Maps.OwnSet
import Derived.Maps.OwnOps
import Derived.DeepKeys4
/- Walks: the mates of leaves in a map: isLinked, link. -/
namespace Go.Proofs.Ytealalhgkdlmkai
open Go.RowKit Go.Sort Go.Maps Go.WideMaps

/-- A map is written, at a step of a region that draws its order. -/
theorem step_map_ownN {H : Type} {P : Program} (w : World) {ops : Array Oper} {o : Oper} {a : Act} {K : Act → World → Prop} {Q : Exit → Act → World → Prop} {E : Prop} (hgd : o.guard = none) (m x v : Operand) (t : TypeId) (hop : o.op = Op.mapUpdate t m x v)
    (k e : TypeId) (KK : Keyed P k) (ht : P.underlying t = some (.map k e)) (R : Value → Option (DataW H × List MemPlace)) (b n : Nat) (D : DataW H)
    (hm : a.eval m = .map (some b)) (hown : w.ownsMap P k R b n D) (hn : n < maxLen) (key val : Value) (kl : Lit) (hx : a.eval x = key) (hv : a.eval v = val) (hkey : keyOf P k key = some kl)
    (d : DataW H) (ps : List MemPlace) (hval : R val = some (d, ps))
    (h : ∀ w', w'.ownsMap P k R b (n + 1) (D.put kl d) → w.grownBy w' (some b) → K (a.put o.dst undef) w') :
    if Region.wanted o (yielded ops a.tmps) = true then Oper.wp P o a w K Q else E := by
  (have hw : Region.wanted o (yielded ops a.tmps) = true := by simp [Region.wanted, hgd]); rw [if_pos hw]; obtain ⟨w', hrun, r1, r2⟩ := hown.update KK ht hn hkey hval; unfold Oper.wp; simp [execOp, hop, hm, hx, hv, hrun, Result.andThen]; exact h w' r1 r2
theorem intKeyed : Keyed Try.prog 3 := int_keyed Try.underlying3
theorem keyInt (k : Nat) (h : k ≤ 1000000) : keyOf Try.prog 3 (.int .i64 (k : Nat)) = some (.int .i64 (k : Nat)) :=
  keyOf_int_mk Try.underlying3 (WalkArith.wf_i64 (by omega))
/-- Mates in a map: mu tells them, c how many there are. -/
def MtM (w : World) (b : Nat) (mu : Nat → Option Nat) (c : Nat) : Prop := ∃ (n : Nat) (D : DataW Unit), w.ownsMap Try.prog 3 (plainElem Try.prog 3) b n D ∧ n ≤ c ∧ Maps.size D = c ∧ (∀ k : Nat, k ≤ 1000000 → Maps.has D (.int .i64 (k : Nat)) = (mu k).isSome) ∧ ∀ (k x : Nat), k ≤ 1000000 → mu k = some x → ∀ z, D.atKey (.int .i64 (k : Nat)) z = .lit (.int .i64 (x : Nat))
theorem MtM.nil {w : World} : MtM (w.alloc (.map #[] 0)) w.heap.size (fun _ => none) 0 :=
  ⟨0, .map [], World.ownsMap_made _ _ _ _, Nat.le_refl _, rfl, fun s _ => by simp [has_eq], fun s x _ h => by cases h⟩
theorem MtM.same {w w' : World} {b c : Nat} {mu : Nat → Option Nat} (h : MtM w b mu c) (e : w'.heap[b]? = w.heap[b]?) : MtM w' b mu c := by
  obtain ⟨n, D, ⟨es, clock, hb, r⟩, r2⟩ := h; exact ⟨n, D, ⟨es, clock, e.trans hb, r⟩, r2⟩
theorem MtM.lt {w : World} {b c : Nat} {mu : Nat → Option Nat} (h : MtM w b mu c) : b < w.heap.size := by
  obtain ⟨n, D, ⟨es, clock, hb, r⟩, r2⟩ := h; exact lt_of_block hb
theorem MtM.up {w w' : World} {b c : Nat} {mu : Nat → Option Nat} (h : MtM w b mu c) (hb : Below w.heap.size w w') : MtM w' b mu c := h.same (hb.block _ h.lt)
theorem MtM.noCells {w : World} {b c : Nat} {mu : Nat → Option Nat} (h : MtM w b mu c) (cs : Array Value) (T : TypeId) (f : Nat × Nat) : w.heap[b]? ≠ some (.cells cs T f) := by
  obtain ⟨n, D, ⟨es, clock, hb, r⟩, r2⟩ := h; rw [hb]; intro e
  cases e
/-- A mate more. -/
def muPut (mu : Nat → Option Nat) (k x : Nat) : Nat → Option Nat := fun j => if j = k then some x else mu j
theorem MtM.put {w' : World} {b c k x n : Nat} {mu : Nat → Option Nat} {D : DataW Unit} (hk : k ≤ 1000000) (hn : mu k = none) (hnc : n ≤ c) (hD : Tidy D) (hM : IsMap D) (h0 : Maps.size D = c) (h1 : ∀ k : Nat, k ≤ 1000000 → Maps.has D (.int .i64 (k : Nat)) = (mu k).isSome) (h2 : ∀ (k x : Nat), k ≤ 1000000 → mu k = some x → ∀ z, D.atKey (.int .i64 (k : Nat)) z = .lit (.int .i64 (x : Nat)))
    (h : w'.ownsMap Try.prog 3 (plainElem Try.prog 3) b (n + 1) (D.put (.int .i64 (k : Nat)) (.lit (.int .i64 (x : Nat))))) : MtM w' b (muPut mu k x) (c + 1) := by
  (have hlit : WideAt.IsKeyLit (Lit.int .i64 (k : Nat)) := by first | trivial | exact True.intro | simp [WideAt.IsKeyLit]); (refine ⟨n + 1, _, h, by omega, ?_, fun j hj => ?_, fun j y hj hy z => ?_⟩)
  · rw [Go.Maps.size_put hD, h1 k hk, hn]
    simp [h0]
  · by_cases e : j = k
    · subst e; rw [has_put_same hM hlit]; simp [muPut]
    · rw [has_put_other (fun h => e (by injection h with _ h; omega)), h1 j hj, muPut, if_neg e]
  · by_cases e : j = k
    · subst e
      rw [muPut, if_pos rfl] at hy
      cases hy
      exact atKey_put_same hM hlit _ z
    · rw [muPut, if_neg e] at hy
      (rw [atKey_put_other (fun h => e (by injection h with _ h; omega))]); exact h2 j y hj hy z
/-- Look-ups. -/
theorem MtM.look {w : World} {b c k : Nat} {mu : Nat → Option Nat} (h : MtM w b mu c) (hk : k ≤ 1000000) : ∃ x : Int, (∀ y, mu k = some y → x = (y : Nat)) ∧ (mu k = none → x = 0) ∧ ∀ z, (Instr.lookup 63 (.map (some b)) (.int .i64 (k : Nat)) true).run Try.prog (w.drewN z) = .ok (.tuple #[.int .i64 x, .bool (mu k).isSome]) (w.drewN z) := by
  obtain ⟨nn, D, hmap, -, -, hh1, hh3⟩ := h
  have look : ∀ x, ∃ c, (Instr.lookup 63 (.map (some b)) (.int .i64 (k : Nat)) true).run Try.prog (w.drewN x) = .ok (.tuple #[.int .i64 c, .bool (Maps.has D (.int .i64 (k : Nat)))]) (w.drewN x) ∧ D.atKey (.int .i64 (k : Nat)) (.lit (.int .i64 0)) = .lit (.int .i64 c) ∧ (Lit.int .i64 c).wf = true := fun x => by
    have hm : (w.drewN x).ownsMap Try.prog 3 (plainElem Try.prog 3) b nn D := hmap; (obtain ⟨v, pl, hrun, hv⟩ := hm.look_ok intKeyed Try.underlying63 (zeroInt _) (plainElem_int Try.underlying3 (WalkArith.wf_i64 (by omega))) (keyInt k hk)); obtain ⟨c, rfl, hz, hw⟩ := plainElem_int_inv Try.underlying3 hv; (exact ⟨c, hrun, by injection hz, hw⟩)
  obtain ⟨c, -, hat, hcw⟩ := look 0; (refine ⟨c, fun y hy => ?_, fun hy => ?_, fun x => ?_⟩)
  · have h1 := (hh3 k y hk hy (.lit (.int .i64 0))).symm.trans hat
    exact (Lit.int.inj (DataW.lit.inj h1)).2.symm
  · have h9 : Maps.has D (.int .i64 (k : Nat)) = false := by rw [hh1 k hk, hy]; rfl
    have h1 := (atKey_of_not_has h9 (.lit (.int .i64 0))).symm.trans hat; exact (Lit.int.inj (DataW.lit.inj h1)).2.symm
  · obtain ⟨c', hrun, hat', -⟩ := look x
    rw [hat] at hat'; have : c = c' := (Lit.int.inj (DataW.lit.inj hat')).2; rw [this, ← hh1 k hk]; exact hrun
/-- A net in memory: a plan and its mates. -/
def nwV (bp bm : Nat) : Value := .agg #[.pointer (some ⟨bp, 0, none⟩), .map (some bm)]
set_option maxHeartbeats 1000000 in
theorem isLinked_any {bp bm c k : Nat} {mu : Nat → Option Nat} (hk : k ≤ 1000000) (w : World) (h : MtM w bm mu c) :
    Calls Try.prog 78 #[nwV bp bm, .int .i64 (k : Nat)] w fun e w' => e = .returned (.bool (mu k).isSome) ∧ Below w.heap.size w w' := by
  obtain ⟨x, -, -, hl⟩ := (h.up (below_more (Below.refl _ w) (.cells #[.pointer (some ⟨bp, 0, none⟩), .map (some bm)] 65 (0, 0)))).look hk; have hl0 := hl 0; have hb : Below w.heap.size w (w.alloc (.cells #[.pointer (some ⟨bp, 0, none⟩), .map (some bm)] 65 (0, 0))) := below_more (Below.refl _ w) _; unfold nwV; obtain ⟨W, hW⟩ : ∃ W, W = w.alloc (.cells #[.pointer (some ⟨bp, 0, none⟩), .map (some bm)] 65 (0, 0)) := ⟨_, rfl⟩; rw [← hW] at hl0 hb hl; have hl1 : (Instr.lookup 63 (.map (some bm)) (.int .i64 (k : Nat)) true).run Try.prog W = .ok (.tuple #[.int .i64 x, .bool (mu k).isSome]) W := hl0; (obtain ⟨d0, d1, -⟩ := blk2 (show W.heap[w.heap.size]? = some _ by rw [hW]; exact blk_new _ _)); have HB : Hid (Below w.heap.size w W) := hb; have hWe := hW.symm; clear hl hl0 h hW hb
  go_enter Try.func78, Try.ntmps78
  go_wp2_with fail; go_ret; exact ⟨rfl, HB.out⟩
/-- Two mates more, one by one. -/
def muL (mu : Nat → Option Nat) (a b : Nat) (l8 l9 : Bool) : Nat → Option Nat := cond l8 (cond l9 (muPut (muPut mu a b) b a) (muPut mu a b)) (cond l9 (muPut mu b a) mu)
theorem muPut_comm {mu : Nat → Option Nat} {a b : Nat} (h : a ≠ b) : muPut (muPut mu b a) a b = muPut (muPut mu a b) b a := by
  funext j
  unfold muPut; by_cases h1 : j = a
  · subst h1; simp [h]
  · simp [h1]
structure StLk (w : World) (bm c a b : Nat) (mu : Nat → Option Nat) (l8 l9 : Bool) (wx : World) : Prop where
  mt : MtM wx bm (muL mu a b l8 l9) (c + (cond l8 1 0) + (cond l9 1 0))
  kept : Kept (fun x => x ≠ bm) w wx
theorem MtM.upd {w : World} {bm c k x : Nat} {mu : Nat → Option Nat} (h : MtM w bm mu c) (hk : k ≤ 1000000) (hc : c ≤ 1000000) (hn : mu k = none) : ∃ (n : Nat) (D : DataW Unit), w.ownsMap Try.prog 3 (plainElem Try.prog 3) bm n D ∧ n < maxLen ∧ ∀ w', w'.ownsMap Try.prog 3 (plainElem Try.prog 3) bm (n + 1) (D.put (.int .i64 (k : Nat)) (.lit (.int .i64 (x : Nat)))) → MtM w' bm (muPut mu k x) (c + 1) := by
  obtain ⟨n, D, hown, h1, h2, h3, h4⟩ := h; (exact ⟨n, D, hown, by unfold maxLen; omega, fun w' hw => MtM.put hk hn h1 (hown.tidy intKeyed) hown.isMap h2 h3 h4 hw⟩)
theorem rowK8 (l : List Value) (h0 : l.length = 8) : ∃ x0 x1 x2 x3 x4 x5 x6 x7, l = [x0, x1, x2, x3, x4, x5, x6, x7] := by
  obtain ⟨x0, l1, e0, h1⟩ := cons_lenM h0; obtain ⟨x1, l2, e1, h2⟩ := cons_lenM h1; obtain ⟨x2, l3, e2, h3⟩ := cons_lenM h2; obtain ⟨x3, l4, e3, h4⟩ := cons_lenM h3; obtain ⟨x4, l5, e4, h5⟩ := cons_lenM h4; obtain ⟨x5, l6, e5, h6⟩ := cons_lenM h5; obtain ⟨x6, l7, e6, h7⟩ := cons_lenM h6; obtain ⟨x7, l8, e7, h8⟩ := cons_lenM h7; have e8 : l8 = [] := List.length_eq_zero_iff.1 h8; subst e8 e7 e6 e5 e4 e3 e2 e1 e0; exact ⟨x0, x1, x2, x3, x4, x5, x6, x7, rfl⟩
set_option maxRecDepth 10000 in
set_option maxHeartbeats 4000000 in
theorem link_any {bp bm c na nb : Nat} {mu : Nat → Option Nat} (hc : c ≤ 100000) (ha : na ≤ 1000000) (hb : nb ≤ 1000000) (hab : na ≠ nb) (hna : mu na = none) (hnb : mu nb = none) (w : World) (h : MtM w bm mu c) :
    Calls Try.prog 80 #[nwV bp bm, .int .i64 (na : Nat), .int .i64 (nb : Nat)] w fun e w' => e = .returned (.tuple #[]) ∧ MtM w' bm (muPut (muPut mu na nb) nb na) (c + 2) ∧ Kept (fun x => x ≠ bm) w w' := by
  unfold nwV; obtain ⟨W, hW⟩ : ∃ W, W = w.alloc (.cells #[.pointer (some ⟨bp, 0, none⟩), .map (some bm)] 65 (0, 0)) := ⟨_, rfl⟩; (have hbW : Below w.heap.size w W := by rw [hW]; exact below_more (Below.refl _ w) _); have HMq : Hid (MtM W bm mu c) := h.up hbW; (have HBX : Hid (W.heap[w.heap.size]? = some (.cells #[.pointer (some ⟨bp, 0, none⟩), .map (some bm)] 65 (0, 0))) := by rw [hW]; exact blk_new _ _); (have HKW : Hid (Kept (fun x => x ≠ bm) w W) := kept_of_below hbW (fun _ h _ => h)); have HN : Hid (na ≤ 1000000 ∧ nb ≤ 1000000 ∧ c ≤ 100000 ∧ na ≠ nb ∧ mu na = none ∧ mu nb = none) := ⟨ha, hb, hc, hab, hna, hnb⟩; (have HWb : Hid (bm ≠ w.heap.size) := by have := h.lt; show _ ≠ _; omega); have hWe := hW.symm; clear hW hbW h ha hb hc hab hna hnb
  go_enter Try.func80, Try.ntmps80
  go_wp2_with fail; clear hWe; (refine wp_region_gh (by kernel_rfl) (by kernel_rfl) (by kernel_rfl) 14 rfl (by kernel_rfl) [fun _ v _ => v = (.pointer (some ⟨w.heap.size, 1, none⟩)), fun _ v _ => v = (.map (some bm)), fun _ v _ => v = (.int .i64 (na : Nat)), fun _ v _ => v = (.pointer (some ⟨w.heap.size, 1, none⟩)), fun _ v _ => v = (.map (some bm)), fun _ v _ => v = (.int .i64 (nb : Nat)), fun _ v _ => v = (.int .i64 (nb : Nat)), fun _ v _ => v = (.int .i64 (na : Nat)), fun _ _ _ => True, fun _ _ _ => True] (fun _ _ => true) (fun L (_ : Unit) => StLk W bm c na nb mu (L 8) (L 9)) (()) ?_ ?_ ?_)
  · exact fun wx h1 h2 => ⟨(HMq.out.up h1), kept_of_below h1 (fun _ h _ => h)⟩
  · refine ⟨?_, ?_, ?_, ?_, ?_, ?_, ?_, ?_, ?_, ?_, trivial⟩
    · intro L y a wx hSt hLi hdl hcl hold hdep K hK
      have HSt : Hid (StLk W bm c na nb mu (L 8) (L 9) wx) := hSt; clear hSt; have t3 : a.tmps[3]? = some (.pointer (some ⟨w.heap.size, 0, none⟩)) := hold 3 rfl; clear hold hdep hdl hcl hLi; go_simp; (exact hK.out _ _ y HSt.out rfl (fun j hj hl => ⟨rfl, fun u h => h⟩))
    · intro L y a wx hSt hLi hdl hcl hold hdep K hK
      have HSt : Hid (StLk W bm c na nb mu (L 8) (L 9) wx) := hSt; clear hSt; obtain ⟨v6, t6, q6⟩ := hdep 0 rfl _ 6 rfl rfl; have e6 : v6 = (.pointer (some ⟨w.heap.size, 1, none⟩)) := q6 rfl; subst e6; (have hq := (HSt.out.kept.block _ (lt_of_block HBX.out) (fun e => HWb.out e.symm)).trans HBX.out); obtain ⟨d0, d1, -⟩ := blk2 hq; clear hq; clear hold hdep hdl hcl hLi; go_simp; (exact hK.out _ _ y HSt.out rfl (fun j hj hl => ⟨rfl, fun u h => h⟩))
    · intro L y a wx hSt hLi hdl hcl hold hdep K hK
      have HSt : Hid (StLk W bm c na nb mu (L 8) (L 9) wx) := hSt; clear hSt; have t1 : a.tmps[1]? = some (.int .i64 (na : Nat)) := hold 1 rfl; clear hold hdep hdl hcl hLi; go_simp; (exact hK.out _ _ y HSt.out rfl (fun j hj hl => ⟨rfl, fun u h => h⟩))
    · intro L y a wx hSt hLi hdl hcl hold hdep K hK
      have HSt : Hid (StLk W bm c na nb mu (L 8) (L 9) wx) := hSt; clear hSt; have t3 : a.tmps[3]? = some (.pointer (some ⟨w.heap.size, 0, none⟩)) := hold 3 rfl; clear hold hdep hdl hcl hLi; go_simp; (exact hK.out _ _ y HSt.out rfl (fun j hj hl => ⟨rfl, fun u h => h⟩))
    · intro L y a wx hSt hLi hdl hcl hold hdep K hK
      have HSt : Hid (StLk W bm c na nb mu (L 8) (L 9) wx) := hSt; clear hSt; obtain ⟨v9, t9, q9⟩ := hdep 3 rfl _ 9 rfl rfl; have e9 : v9 = (.pointer (some ⟨w.heap.size, 1, none⟩)) := q9 rfl; subst e9; (have hq := (HSt.out.kept.block _ (lt_of_block HBX.out) (fun e => HWb.out e.symm)).trans HBX.out); obtain ⟨d0, d1, -⟩ := blk2 hq; clear hq; clear hold hdep hdl hcl hLi; go_simp; (exact hK.out _ _ y HSt.out rfl (fun j hj hl => ⟨rfl, fun u h => h⟩))
    · intro L y a wx hSt hLi hdl hcl hold hdep K hK
      have HSt : Hid (StLk W bm c na nb mu (L 8) (L 9) wx) := hSt; clear hSt; have t2 : a.tmps[2]? = some (.int .i64 (nb : Nat)) := hold 2 rfl; clear hold hdep hdl hcl hLi; go_simp; (exact hK.out _ _ y HSt.out rfl (fun j hj hl => ⟨rfl, fun u h => h⟩))
    · intro L y a wx hSt hLi hdl hcl hold hdep K hK
      have HSt : Hid (StLk W bm c na nb mu (L 8) (L 9) wx) := hSt; clear hSt; have t2 : a.tmps[2]? = some (.int .i64 (nb : Nat)) := hold 2 rfl; clear hold hdep hdl hcl hLi; go_simp; (exact hK.out _ _ y HSt.out rfl (fun j hj hl => ⟨rfl, fun u h => h⟩))
    · intro L y a wx hSt hLi hdl hcl hold hdep K hK
      have HSt : Hid (StLk W bm c na nb mu (L 8) (L 9) wx) := hSt; clear hSt; have t1 : a.tmps[1]? = some (.int .i64 (na : Nat)) := hold 1 rfl; clear hold hdep hdl hcl hLi; go_simp; (exact hK.out _ _ y HSt.out rfl (fun j hj hl => ⟨rfl, fun u h => h⟩))
    · intro L y a wx hSt hLi hdl hcl hold hdep K hK
      have HSt : Hid (StLk W bm c na nb mu (L 8) (L 9) wx) := hSt; clear hSt; obtain ⟨v7, t7, q7⟩ := hdep 1 rfl _ 7 rfl rfl; have e7 : v7 = (.map (some bm)) := q7 rfl; subst e7; obtain ⟨v8, t8, q8⟩ := hdep 2 rfl _ 8 rfl rfl; have e8 : v8 = (.int .i64 (na : Nat)) := q8 rfl; subst e8; obtain ⟨v12, t12, q12⟩ := hdep 6 rfl _ 12 rfl rfl; have e12 : v12 = (.int .i64 (nb : Nat)) := q12 rfl; subst e12; obtain ⟨hn1, hn2, hn3, hn4, hn5, hn6⟩ := HN.out; have hS : StLk W bm c na nb mu (L 8) (L 9) wx := HSt.out; rw [hLi] at hS; obtain ⟨l9, hl9⟩ : ∃ l9, l9 = L 9 := ⟨_, rfl⟩; rw [← hl9] at hS
      have hfree : (muL mu na nb false l9) na = none := by
        cases l9
        · exact hn5
        · unfold muL muPut
          simp [hn4, hn5]
      (obtain ⟨n9, D9, hown9, hlt9, hput9⟩ := hS.mt.upd (k := na) (x := nb) (by omega) (by cases l9 <;> simp <;> omega) hfree); clear hold hdep hdl hcl; (refine step_map_ownN wx rfl _ _ _ 63 rfl 3 3 intKeyed Try.underlying63 _ bm n9 D9 (eval_tmpM t7) hown9 hlt9 (.int .i64 (na : Nat)) (.int .i64 (nb : Nat)) _ (eval_tmpM t8) (eval_tmpM t12) (keyInt _ (by omega)) _ [] (plainElem_int Try.underlying3 (WalkArith.wf_i64 (by omega))) ?_); intro w3 hown3 hgrow3; have hm3 := hput9 w3 hown3
      have HX : Hid (StLk W bm c na nb mu true (L 9) w3) := by
        rw [← hl9]; (refine ⟨?_, hS.kept.grown hgrow3 fun b e _ hn => hn (Option.some.inj e).symm⟩)
        cases l9
        · exact hm3
        · have e9 : muL mu na nb true true = muPut (muL mu na nb false true) na nb := (muPut_comm hn4).symm
          rw [e9]; exact hm3
      refine hK.out undef _ y HX.out trivial ?_; intro j hj hl
      rcases j with _ | _ | _ | _ | _ | _ | _ | _ | _ | _ | j
      · exact ⟨rfl, fun u h => h⟩
      · exact ⟨rfl, fun u h => h⟩
      · exact ⟨rfl, fun u h => h⟩
      · exact ⟨rfl, fun u h => h⟩
      · exact ⟨rfl, fun u h => h⟩
      · exact ⟨rfl, fun u h => h⟩
      · exact ⟨rfl, fun u h => h⟩
      · exact ⟨rfl, fun u h => h⟩
      · exact Bool.noConfusion (hLi.symm.trans hj)
      · exact ⟨rfl, fun u h => h⟩
      · exact ⟨rfl, fun u h => h⟩
    · intro L y a wx hSt hLi hdl hcl hold hdep K hK
      have HSt : Hid (StLk W bm c na nb mu (L 8) (L 9) wx) := hSt; clear hSt; obtain ⟨v10, t10, q10⟩ := hdep 4 rfl _ 10 rfl rfl; have e10 : v10 = (.map (some bm)) := q10 rfl; subst e10; obtain ⟨v11, t11, q11⟩ := hdep 5 rfl _ 11 rfl rfl; have e11 : v11 = (.int .i64 (nb : Nat)) := q11 rfl; subst e11; obtain ⟨v13, t13, q13⟩ := hdep 7 rfl _ 13 rfl rfl; have e13 : v13 = (.int .i64 (na : Nat)) := q13 rfl; subst e13; obtain ⟨hn1, hn2, hn3, hn4, hn5, hn6⟩ := HN.out; have hS : StLk W bm c na nb mu (L 8) (L 9) wx := HSt.out; rw [hLi] at hS; obtain ⟨l9, hl9⟩ : ∃ l9, l9 = L 8 := ⟨_, rfl⟩; rw [← hl9] at hS
      have hfree : (muL mu na nb l9 false) nb = none := by
        cases l9
        · exact hn6
        · unfold muL muPut
          simp [Ne.symm hn4, hn6]
      (obtain ⟨n9, D9, hown9, hlt9, hput9⟩ := hS.mt.upd (k := nb) (x := na) (by omega) (by cases l9 <;> simp <;> omega) hfree); clear hold hdep hdl hcl; (refine step_map_ownN wx rfl _ _ _ 63 rfl 3 3 intKeyed Try.underlying63 _ bm n9 D9 (eval_tmpM t10) hown9 hlt9 (.int .i64 (nb : Nat)) (.int .i64 (na : Nat)) _ (eval_tmpM t11) (eval_tmpM t13) (keyInt _ (by omega)) _ [] (plainElem_int Try.underlying3 (WalkArith.wf_i64 (by omega))) ?_); intro w3 hown3 hgrow3; have hm3 := hput9 w3 hown3
      have HX : Hid (StLk W bm c na nb mu (L 8) true w3) := by
        rw [← hl9]; (refine ⟨?_, hS.kept.grown hgrow3 fun b e _ hn => hn (Option.some.inj e).symm⟩)
        cases l9
        · exact hm3
        · exact hm3
      refine hK.out undef _ y HX.out trivial ?_; intro j hj hl
      rcases j with _ | _ | _ | _ | _ | _ | _ | _ | _ | _ | j
      · exact ⟨rfl, fun u h => h⟩
      · exact ⟨rfl, fun u h => h⟩
      · exact ⟨rfl, fun u h => h⟩
      · exact ⟨rfl, fun u h => h⟩
      · exact ⟨rfl, fun u h => h⟩
      · exact ⟨rfl, fun u h => h⟩
      · exact ⟨rfl, fun u h => h⟩
      · exact ⟨rfl, fun u h => h⟩
      · exact ⟨rfl, fun u h => h⟩
      · exact Bool.noConfusion (hLi.symm.trans hj)
      · exact ⟨rfl, fun u h => h⟩
  · intro L y a wx hall hSt hsz hdf hold hgot
    have e8 : L 8 = true := hall 8 (Nat.le_of_ble_eq_true rfl); have e9 : L 9 = true := hall 9 (Nat.le_of_ble_eq_true rfl); have hS : StLk W bm c na nb mu (L 8) (L 9) wx := hSt; rw [e8, e9] at hS; have HXm : Hid (MtM wx bm (muPut (muPut mu na nb) nb na) (c + 2)) := hS.mt; (have HXk : Hid (Kept (fun x => x ≠ bm) w wx) := HKW.out.trans hS.kept); obtain ⟨tm, df⟩ := a; (obtain ⟨ys, hys, htm, rfl⟩ := frame_mid2 6 8 (by kernel_rfl) (Nat.le_of_ble_eq_true rfl) ⟨hsz, hdf, hold⟩); obtain ⟨x6, x7, x8, x9, x10, x11, x12, x13, rfl⟩ := rowK8 ys hys; simp only [List.take_succ_cons, List.take_zero, List.drop_succ_cons, List.drop_zero, List.cons_append, List.nil_append] at htm; subst htm; clear hS hSt hys hold hgot hall hsz hdf e8 e9
    go_end0
    exact ⟨rfl, HXm.out, HXk.out⟩
end Go.Proofs.Ytealalhgkdlmkai
/- Walks: links are looked at and laid: checkLink, linkAll. -/
namespace Go.Proofs.Ytealalhgkdlmkai
open Go.RowKit Go.Sort

/-- What is wrong with a leaf of a link. -/
def okL (L : Nat) (mu : Nat → Option Nat) (z : Int) : Option Int := if z < 0 ∨ (L : Int) ≤ z then some 3 else if (mu z.toNat).isSome = true then some 5 else none
/-- What is wrong with a link. -/
def lkBad (nds : List Nd) (lvs : List Nat) (mu : Nat → Option Nat) (p : Int × Int) : Option Int := match okL lvs.length mu p.1 with
  | some c => some c
  | none => match okL lvs.length mu p.2 with
    | some c => some c
    | none => if (match lvs[p.1.toNat]?, lvs[p.2.toNat]? with
      | some a, some b => (match nds[a]?, nds[b]? with | some x, some y => fitB x y | _, _ => false)
      | _, _ => false) = true then none else some 5
/-- What looking at a link leaves. -/
def CKPost (o : Option Int) (at_ : Int) (e : Ending) : Prop := match o with
  | none => e = .returned (.tuple #[])
  | some c => e = .panicked (stopC c at_)
/-- The leaves of a plan are among its nodes. -/
def LvIn (nds : List Nd) (lvs : List Nat) : Prop := ∀ (j a : Nat), lvs[j]? = some a → a < nds.length
theorem idx0 (x y : Int) (w : World) : (Instr.index 57 (.agg #[.int .i64 x, .int .i64 y]) (.int .i64 0)).run Try.prog w = .ok (.int .i64 x) w := by kernel_rfl
theorem idx1 (x y : Int) (w : World) : (Instr.index 57 (.agg #[.int .i64 x, .int .i64 y]) (.int .i64 1)).run Try.prog w = .ok (.int .i64 y) w := by kernel_rfl
theorem okL_range {L : Nat} {mu : Nat → Option Nat} {z : Int} (h : z < 0 ∨ (L : Int) ≤ z) : okL L mu z = some 3 := by rw [okL, if_pos h]
theorem okL_linked {L : Nat} {mu : Nat → Option Nat} {z : Int} {k : Nat} (hk : z = (k : Int)) (hm : (mu k).isSome = true) (h : k < L) : okL L mu z = some 5 := by
  subst hk; (rw [okL, if_neg (by omega), Int.toNat_natCast, if_pos hm])
theorem okL_fine {L : Nat} {mu : Nat → Option Nat} {z : Int} {k : Nat} (hk : z = (k : Int)) (h : k < L) (hm : (mu k).isSome = false) : okL L mu z = none := by
  subst hk; (rw [okL, if_neg (by omega), Int.toNat_natCast, if_neg (by rw [hm]; simp)])
theorem lk_first {nds : List Nd} {lvs : List Nat} {mu : Nat → Option Nat} {x y c : Int} (h : okL lvs.length mu x = some c) : lkBad nds lvs mu (x, y) = some c := by
  unfold lkBad; simp only [h]
theorem lk_second {nds : List Nd} {lvs : List Nat} {mu : Nat → Option Nat} {x y c : Int} (h0 : okL lvs.length mu x = none) (h : okL lvs.length mu y = some c) : lkBad nds lvs mu (x, y) = some c := by
  unfold lkBad; simp only [h0, h]
theorem okL_none {L : Nat} {mu : Nat → Option Nat} {z : Int} (h : okL L mu z = none) : ∃ k : Nat, z = (k : Int) ∧ k < L ∧ mu k = none := by
  unfold okL at h
  split at h
  · cases h
  rename_i h1
  split at h
  · cases h
  rename_i h2
  (refine ⟨z.toNat, by omega, by omega, ?_⟩)
  cases hm : mu z.toNat with
  | none => rfl
  | some v => rw [hm] at h2; simp at h2
set_option maxRecDepth 10000 in
set_option maxHeartbeats 8000000 in
theorem checkLink_any {T : Nat → Prop} {bp bm c : Nat} {rv : Value} {nds : List Nd} {lvs : List Nat} {mu : Nat → Option Nat} (hLv : LvIn nds lvs) (hl : lvs.length ≤ 200) (x y at_ : Int) (w : World) (hp : PlanA w T bp rv nds lvs) (hm : MtM w bm mu c) :
    Calls Try.prog 87 #[nwV bp bm, .agg #[.int .i64 x, .int .i64 y], .int .i64 at_] w fun e w' => CKPost (lkBad nds lvs mu (x, y)) at_ e ∧ Below w.heap.size w w' := by
  have HP : Hid (PlanA w T bp rv nds lvs) := hp; have HMt : Hid (MtM w bm mu c) := hm; have HLl : Hid (lvs.length ≤ 200) := hl; have HLv : Hid (LvIn nds lvs) := hLv; (have hlI : (lvs.length : Int) ≤ 200 := by omega); obtain ⟨an, cn, al, cl, h0, h1, h2, hcn, hcl, -⟩ := hp.read; have HC2 : Hid (w.cell? ⟨bp, 2, none⟩ = some (.slice al lvs.length cl)) := h2; unfold nwV; obtain ⟨W, hW⟩ : ∃ W, W = (w.alloc (.cells #[.pointer (some ⟨bp, 0, none⟩), .map (some bm)] 65 (0, 0))).alloc (.cells #[.int .i64 x, .int .i64 y] 57 (0, 0)) := ⟨_, rfl⟩; (have HBW : Hid (Below w.heap.size w W) := by rw [hW]; exact below_more (below_more (Below.refl _ w) _) _); (have HX1 : Hid (W.heap[w.heap.size]? = some (.cells #[.pointer (some ⟨bp, 0, none⟩), .map (some bm)] 65 (0, 0))) := by rw [hW]; exact alloc_keep (blk_new _ _) _); (have HX2 : Hid (W.heap[w.heap.size + 1]? = some (.cells #[.int .i64 x, .int .i64 y] 57 (0, 0))) := by rw [hW]; exact blk_secE _ _ _); obtain ⟨q0, q1, -⟩ := blk2 HX2.out; have hWe := hW.symm; clear hW hp hm h0 h1 h2 hcn hcl hl hLv
  go_enter Try.func87, Try.ntmps87
  go_wp2_with fail; clear hWe q0 q1
  go_loopg [9] 2 (fun gg cc wr => ∃ i, i ≤ 2 ∧ gg = 2 - i ∧ cc = .int .i64 (i : Nat) ∧ Hid ((1 ≤ i → okL lvs.length mu x = none) ∧ (2 ≤ i → okL lvs.length mu y = none)) ∧ Hid (Below W.heap.size W wr))
  case atStart => exact ⟨0, by omega, by omega, rfl, ⟨fun h => absurd h (by omega), fun h => absurd h (by omega)⟩, Below.refl _ _⟩
  case round =>
    obtain ⟨i, hi, hg, rfl, HOk, HB⟩ := hrel; have HGk : Hid (gk = 2 - i) := hg; clear hg; have HBr : Hid (Below w.heap.size w wr) := below_join HBW.out HB.out; obtain ⟨n0, n1, -⟩ := blk2 (below_keep HB.out HX1.out); have c2 := (HBr.out.cell (lt_of_cell HC2.out)).trans HC2.out; (have hi3 : i = 0 ∨ i = 1 ∨ i = 2 := by omega)
    rcases hi3 with rfl | rfl | rfl
    · have hix := idx0 x y
      clear hi; by_cases h1 : x < 0
      · have HC9 : Hid (lkBad nds lvs mu (x, y) = some 3) := lk_first (okL_range (Or.inl h1))
        go_wp2_with (first
          | (go_at_call 78; refine (HLk.out _ HBr.out).mono ?_; rintro e w5 ⟨rfl, hb5⟩)
          | (go_at_call 57; refine (stop_any _ _ _).mono ?_; rintro e w4 ⟨rfl, rfl⟩)
          | fail)
        refine ⟨rfl, ?_, HBr.out⟩; rw [HC9.out]; rfl
      by_cases h2 : (lvs.length : Int) ≤ x
      · have HC9 : Hid (lkBad nds lvs mu (x, y) = some 3) := lk_first (okL_range (Or.inr h2))
        go_wp2_with (first
          | (go_at_call 78; refine (HLk.out _ HBr.out).mono ?_; rintro e w5 ⟨rfl, hb5⟩)
          | (go_at_call 57; refine (stop_any _ _ _).mono ?_; rintro e w4 ⟨rfl, rfl⟩)
          | fail)
        refine ⟨rfl, ?_, HBr.out⟩; rw [HC9.out]; rfl
      (obtain ⟨k, hk⟩ : ∃ k : Nat, x = (k : Int) := ⟨x.toNat, by omega⟩); (have hkl : k < lvs.length := by omega); (have HLk : Hid (∀ W, Below w.heap.size w W → Calls Try.prog 78 #[.agg #[.pointer (some ⟨bp, 0, none⟩), .map (some bm)], .int .i64 x] W fun e w' => e = .returned (.bool (mu k).isSome) ∧ Below W.heap.size W w') := fun W hb => by rw [hk]; exact isLinked_any (by have := HLl.out; omega) W (HMt.out.up hb))
      rcases hmk : (mu k).isSome with _ | _
      · rw [hmk] at HLk
        have HOk1 : Hid (okL lvs.length mu x = none) := okL_fine hk hkl hmk; clear hmk hk hkl
        go_wp2_with (first
          | (go_at_call 78; refine (HLk.out _ HBr.out).mono ?_; rintro e w5 ⟨rfl, hb5⟩)
          | fail)
        go_roundg (2 - 1)
        case measure => have := HGk.out; omega
        case rel => exact ⟨1, by omega, rfl, by go_num, ⟨fun _ => HOk1.out, fun h => absurd h (by omega)⟩, below_join HB.out hb5⟩
      · rw [hmk] at HLk
        have HC9 : Hid (lkBad nds lvs mu (x, y) = some 5) := lk_first (okL_linked hk hmk hkl); clear hk hkl hmk
        go_wp2_with (first
          | (go_at_call 78; refine (HLk.out _ HBr.out).mono ?_; rintro e w5 ⟨rfl, hb5⟩)
          | (go_at_call 57; refine (stop_any _ _ _).mono ?_; rintro e w4 ⟨rfl, rfl⟩)
          | fail)
        refine ⟨rfl, ?_, below_join HBr.out hb5⟩; rw [HC9.out]; rfl
    · have hix := idx1 x y
      clear hi; (have HOk : Hid (okL lvs.length mu x = none) := HOk.out.1 (by omega)); by_cases h1 : y < 0
      · have HC9 : Hid (lkBad nds lvs mu (x, y) = some 3) := lk_second HOk.out (okL_range (Or.inl h1))
        go_wp2_with (first
          | (go_at_call 78; refine (HLk.out _ HBr.out).mono ?_; rintro e w5 ⟨rfl, hb5⟩)
          | (go_at_call 57; refine (stop_any _ _ _).mono ?_; rintro e w4 ⟨rfl, rfl⟩)
          | fail)
        refine ⟨rfl, ?_, HBr.out⟩; rw [HC9.out]; rfl
      by_cases h2 : (lvs.length : Int) ≤ y
      · have HC9 : Hid (lkBad nds lvs mu (x, y) = some 3) := lk_second HOk.out (okL_range (Or.inr h2))
        go_wp2_with (first
          | (go_at_call 78; refine (HLk.out _ HBr.out).mono ?_; rintro e w5 ⟨rfl, hb5⟩)
          | (go_at_call 57; refine (stop_any _ _ _).mono ?_; rintro e w4 ⟨rfl, rfl⟩)
          | fail)
        refine ⟨rfl, ?_, HBr.out⟩; rw [HC9.out]; rfl
      (obtain ⟨k, hk⟩ : ∃ k : Nat, y = (k : Int) := ⟨y.toNat, by omega⟩); (have hkl : k < lvs.length := by omega); (have HLk : Hid (∀ W, Below w.heap.size w W → Calls Try.prog 78 #[.agg #[.pointer (some ⟨bp, 0, none⟩), .map (some bm)], .int .i64 y] W fun e w' => e = .returned (.bool (mu k).isSome) ∧ Below W.heap.size W w') := fun W hb => by rw [hk]; exact isLinked_any (by have := HLl.out; omega) W (HMt.out.up hb))
      rcases hmk : (mu k).isSome with _ | _
      · rw [hmk] at HLk
        have HOk2 : Hid (okL lvs.length mu y = none) := okL_fine hk hkl hmk; clear hmk hk hkl
        go_wp2_with (first
          | (go_at_call 78; refine (HLk.out _ HBr.out).mono ?_; rintro e w5 ⟨rfl, hb5⟩)
          | fail)
        go_roundg (2 - 2)
        case measure => have := HGk.out; omega
        case rel => exact ⟨2, by omega, rfl, by go_num, ⟨fun _ => HOk.out, fun _ => HOk2.out⟩, below_join HB.out hb5⟩
      · rw [hmk] at HLk
        have HC9 : Hid (lkBad nds lvs mu (x, y) = some 5) := lk_second HOk.out (okL_linked hk hmk hkl); clear hk hkl hmk
        go_wp2_with (first
          | (go_at_call 78; refine (HLk.out _ HBr.out).mono ?_; rintro e w5 ⟨rfl, hb5⟩)
          | (go_at_call 57; refine (stop_any _ _ _).mono ?_; rintro e w4 ⟨rfl, rfl⟩)
          | fail)
        refine ⟨rfl, ?_, below_join HBr.out hb5⟩; rw [HC9.out]; rfl
    · obtain ⟨ka, rfl, hka, hma⟩ := okL_none (HOk.out.1 (by omega))
      (obtain ⟨kb, rfl, hkb, hmb⟩ := okL_none (HOk.out.2 (by omega))); obtain ⟨na, hna⟩ : ∃ a, lvs[ka]? = some a := ⟨_, List.getElem?_eq_getElem hka⟩; obtain ⟨nb, hnb⟩ : ∃ a, lvs[kb]? = some a := ⟨_, List.getElem?_eq_getElem hkb⟩; obtain ⟨xn, hxn⟩ : ∃ a, nds[na]? = some a := ⟨_, List.getElem?_eq_getElem (HLv.out ka na hna)⟩; obtain ⟨yn, hyn⟩ : ∃ a, nds[nb]? = some a := ⟨_, List.getElem?_eq_getElem (HLv.out kb nb hnb)⟩
      have HR : Hid (lkBad nds lvs mu ((ka : Int), (kb : Int)) = if fitB xn yn = true then none else some 5) := by
        show _ = _; unfold lkBad; (simp only [HOk.out.1 (by omega), HOk.out.2 (by omega), Int.toNat_natCast, hna, hnb, hxn, hyn])
      (have HPr : Hid (∀ V, Below w.heap.size w V → Calls Try.prog 79 #[.pointer (some ⟨bp, 0, none⟩), .int .i64 (ka : Nat), .int .i64 (kb : Nat)] V fun e w' => e = .returned (.bool (fitB xn yn)) ∧ Below V.heap.size V w') := fun V hb => isPair_any hna hnb hxn hyn V (HP.out.up hb)); obtain ⟨m0, m1, -⟩ := blk2 (below_keep HB.out HX2.out); clear hi hka hkb hma hmb hna hnb hxn hyn
      rcases hf : fitB xn yn with _ | _
      · rw [hf] at HPr HR
        go_wp2_with (first
          | (go_at_call 79; refine (HPr.out _ HBr.out).mono ?_; rintro e w5 ⟨rfl, hb5⟩)
          | (go_at_call 57; refine (stop_any _ _ _).mono ?_; rintro e w4 ⟨rfl, rfl⟩)
          | fail)
        refine ⟨rfl, ?_, below_join HBr.out hb5⟩; rw [HR.out]; rfl
      · rw [hf] at HPr HR
        go_wp2_with (first
          | (go_at_call 79; refine (HPr.out _ HBr.out).mono ?_; rintro e w5 ⟨rfl, hb5⟩)
          | fail)
        go_end0
        refine ⟨?_, below_join HBr.out hb5⟩; rw [HR.out]; rfl
end Go.Proofs.Ytealalhgkdlmkai
