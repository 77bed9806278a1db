/- Texts of one proof, one behind the other: KT4, KT5, KT6N, KT6. -/
import Derived.Test.YtmahgfgndfcmpagB08
import Derived.Test.YtmahgfgndfcmpagB04
import Derived.Test.YtmahgfgndfcmpagB05
import Derived.Deep.AppendLies
/- Walks: a part more in the table. -/
namespace Go.Proofs.Ytmahgfgndfcmpag
open Go.RowKit Go.Maps Go.WideMaps

theorem infoPart : ∃ i, Try.prog.info? 135 = some i ∧ i.zero = some (.agg #[.int .i64 0, .string ⟨#[]⟩, .int .i64 0, .int .i64 0, .int .i64 0]) ∧ i.size = 5 ∧ i.bytes = 48 := by
  (obtain ⟨i, hi, h⟩ := Option.map_eq_some_iff.1 (show (Try.prog.info? 135).map (fun i => (i.zero, i.size, i.bytes)) = some (some (.agg #[.int .i64 0, .string ⟨#[]⟩, .int .i64 0, .int .i64 0, .int .i64 0]), 5, 48) by kernel_rfl)); simp only [Prod.mk.injEq] at h; exact ⟨i, hi, h.1, h.2.1, h.2.2⟩
theorem set_a {w : World} {b : Nat} {x0 x1 x2 : Value} {T : TypeId} (h : w.heap[b]? = some (.cells #[x0, x1, x2] T (0, 0))) (v : Value) : (w.setCell ⟨b, 0, none⟩ v).heap[b]? = some (.cells #[v, x1, x2] T (0, 0)) := by
  simp [World.setCell, Array.getElem?_modify, h]
theorem set_b {w : World} {b : Nat} {x0 x1 x2 : Value} {T : TypeId} (h : w.heap[b]? = some (.cells #[x0, x1, x2] T (0, 0))) (v : Value) : (w.setCell ⟨b, 1, none⟩ v).heap[b]? = some (.cells #[x0, v, x2] T (0, 0)) := by
  simp [World.setCell, Array.getElem?_modify, h]
theorem grow_set {w w3 : World} {o : Obj} {ob : Option Nat} {bt off : Nat} {v : Value} (hg : (w.alloc o).drew.grownBy w3 ob) (b : Nat) (hb : b < w.heap.size) (h1 : ob ≠ some b) (h2 : b ≠ bt) : (w3.setCell ⟨bt, off, none⟩ v).heap[b]? = w.heap[b]? := by
  (rw [Below.heap_setCell _ _ _ _ (by simpa using h2), hg.block b (by show b < (w.alloc o).heap.size; simp; omega) (fun e => h1 e.symm)]); exact Below.heap_alloc _ _ _ hb
theorem grow_set2 {w w3 : World} {o : Obj} {ob : Option Nat} {bt off : Nat} {v : Value} (hg : (w.alloc o).grownBy w3 ob) (b : Nat) (hb : b < w.heap.size) (h1 : ob ≠ some b) (h2 : b ≠ bt) : (w3.setCell ⟨bt, off, none⟩ v).heap[b]? = w.heap[b]? := by
  (rw [Below.heap_setCell _ _ _ _ (by simpa using h2), hg.block b (by simp; omega) (fun e => h1 e.symm)]); exact Below.heap_alloc _ _ _ hb
/-- A map is written, at a step of a region that draws its order. -/
theorem step_map_own {H : Type} {P : Program} (w : World) {ops : Array Oper} {o : Oper} {a : Act} {K : Act → World → Prop} {Q : Exit → Act → World → Prop} {E : Prop} (hgd : o.guard = none) (m x v : Operand) (t : TypeId) (hop : o.op = Op.mapUpdate t m x v)
    (k e : TypeId) (KK : Keyed P k) (ht : P.underlying t = some (.map k e)) (R : Value → Option (DataW H × List MemPlace)) (b n : Nat) (D : DataW H)
    (hm : a.eval m = .map (some b)) (hown : w.ownsMap P k R b n D) (hn : n < maxLen) (key val : Value) (kl : Lit) (hx : a.eval x = key) (hv : a.eval v = val) (hkey : keyOf P k key = some kl)
    (d : DataW H) (ps : List MemPlace) (hval : R val = some (d, ps))
    (h : ∀ w', w'.ownsMap P k R b (n + 1) (D.put kl d) → w.grownBy w' (some b) → K (a.put o.dst undef) w') :
    if Region.wanted o (yielded ops a.tmps) = true then Oper.wp P o a w K Q else E := by
  (have hw : Region.wanted o (yielded ops a.tmps) = true := by simp [Region.wanted, hgd]); rw [if_pos hw]; obtain ⟨w', hrun, r1, r2⟩ := hown.update KK ht hn hkey hval; unfold Oper.wp; simp [execOp, hop, hm, hx, hv, hrun, Result.andThen]; exact h w' r1 r2
theorem depEq {o : Option Value} {c : Value} (w : World) (h : ∃ v, o = some v ∧ kEq c v w) : o = some c := by
  obtain ⟨v, h1, h2⟩ := h; have h3 : v = c := h2; rw [h1, h3]
theorem kept_new {ok : Nat → Prop} {w W : World} (h : Kept ok w W) (o : Obj) : Kept ok w (W.alloc o).drew := by
  have h2 := h.alloc o; exact ⟨h2.os, h2.tape, h2.output, h2.size, h2.block⟩
theorem set_name {w : World} {b : Nat} {x0 x1 x2 x3 x4 : Value} {T : TypeId} (h : w.heap[b]? = some (.cells #[x0, x1, x2, x3, x4] T (0, 0))) (v : Value) : (w.setCell ⟨b, 1, none⟩ v).heap[b]? = some (.cells #[x0, v, x2, x3, x4] T (0, 0)) := by
  simp [World.setCell, Array.getElem?_modify, h]
def nodesOf (ns : List Nat) (ks : List Nat) : Nat := 1 + (ks.map fun j => ns.getD j 0).sum
theorem nodes_more {ns ks : List Nat} {i j m : Nat} (hj : ks[i]? = some j) (hm : ns[j]? = some m) : nodesOf ns (ks.take (i + 1)) = nodesOf ns (ks.take i) + m := by
  unfold nodesOf; rw [List.take_add_one, hj]; simp [hm]; omega
theorem nodes_small {ns ks : List Nat} (hn : ∀ m ∈ ns, m ≤ 1000000) (hk : ks.length ≤ 2) : nodesOf ns ks ≤ 3000000 := by
  have h : ∀ j, ns.getD j 0 ≤ 1000000 := fun j => by
    rw [List.getD_eq_getElem?_getD]
    cases hj : ns[j]? with
    | none => simp
    | some m => exact hn m (List.mem_of_getElem? hj)
  unfold nodesOf
  match ks, hk with
  | [], _ => simp
  | [a], _ =>
    have := h a; simp at this ⊢
    omega
  | [a, b], _ =>
    have h1 := h a; have h2 := h b; simp at h1 h2 ⊢; omega
set_option maxRecDepth 10000 in
set_option maxHeartbeats 4000000 in
theorem padd_any (w : World) (T : Nat → Prop) (bt : Nat) (ps : List PartM) (ns : List Nat) (h : TabAt w T bt ps ns) (p : PartM) (hp : PartSmall p) (hnew : p ∉ ps) (hk : ∀ j ∈ p.kids, j < ps.length) (hl : ps.length ≤ 100000) (hn : ∀ m ∈ ns, m ≤ 1000000) (hname : p.name.size ≤ 8) :
    Calls Try.prog 107 #[.pointer (some ⟨bt, 0, none⟩), .agg ⟨partCells p⟩] w fun e w' => e = .returned (.int .i64 (ps.length : Nat)) ∧ TabAt w' (fun b => T b ∨ (w.heap.size ≤ b ∧ b < w'.heap.size)) bt (ps ++ [p]) (ns ++ [nodesOf ns p.kids]) ∧ Kept (fun b => ¬ T b) w w' := by
  obtain ⟨adP, cP, adN, cN, bm, h1, h2, h3, h4, h5, h6, h7, h8, h9, h10, h11⟩ := h; have HP : Hid (w.ownsRow 0 135 5 (.slice adP ps.length cP) ps.length (ps.flatMap partCells)) := h3; (have HN : Hid (w.ownsRow 0 3 1 (.slice adN ns.length cN) ns.length (ns.map fun n => .int .i64 (n : Nat))) := h4); have HM : Hid (TM w bm ps) := h5; have HL2 : Hid (ns.length = ps.length) := h2; have H1 : Hid (w.heap[bt]? = some _) := h1; (have hcl : ∀ w, Calls Try.prog 65 #[.string p.name] w fun e w' => e = .returned (.string p.name) ∧ Below w.heap.size w w' := fun w => clone_any p.name w (by omega)); have HCl : Hid (∀ w, Calls Try.prog 65 #[.string p.name] w _) := hcl; have H6 : Hid (∀ p ∈ ps, PartSmall p) := h6; (have HO : Hid (∀ b, (Value.slice adP ps.length cP).ownBlock = some b → b < w.heap.size) := fun b hb => (h3.lt b hb).2); (have HO2 : Hid (∀ b, (Value.slice adN ns.length cN).ownBlock = some b → b < w.heap.size) := fun b hb => (h4.lt b hb).2); (have HO3 : Hid (bm < w.heap.size) := by obtain ⟨_, _, ⟨_, _, hb, -⟩, -⟩ := h5; exact lt_of_block hb); have H7 : Hid (T bt ∧ T bm ∧ bt ≠ bm) := ⟨h7, h8, h9⟩; have H10 : Hid (∀ b, (Value.slice adP ps.length cP).ownBlock = some b → T b ∧ b ≠ bt ∧ b ≠ bm ∧ (Value.slice adN ns.length cN).ownBlock ≠ some b) := h10; have H11 : Hid (∀ b, (Value.slice adN ns.length cN).ownBlock = some b → T b ∧ b ≠ bt ∧ b ≠ bm) := h11; have HK : Hid (∀ j ∈ p.kids, j < ps.length) := hk; have HNew : Hid (p ∉ ps) := hnew; have HSp : Hid (PartSmall p) := hp; have hk2 := hp.two; (have hk2I : (p.kids.length : Int) ≤ 2 := by omega); have zt := lt_of_block h1; unfold partCells; (have hnI : (ns.length : Int) ≤ 100000 := by omega); clear h3 h4 h5 h1 hcl h2 h6 h7 h8 h9 h10 h11 hk hnew hp
  go_enter Try.func107, Try.ntmps107
  go_wp2_with fail; refine (HCl.out _).mono ?_; rintro e w1 ⟨rfl, hb1⟩; have Q1 := below_keep hb1 (blk_new w (.cells #[.int .i64 p.kind, .string p.name, .int .i64 (p.kids.length : Nat), .int .i64 (p.k0 : Nat), .int .i64 (p.k1 : Nat)] 135 (0, 0))); obtain ⟨c0, c1, c2, c3, c4, z0, z1, z2, z3, z4⟩ := blk5 Q1; have B1 : Below w.heap.size w w1 := below_join (below_more (Below.refl _ w) _) hb1; go_wp2_with fail; (have BW : Hid (Below w.heap.size w (w1.setCell ⟨w.heap.size, 1, none⟩ (.string p.name))) := B1.setCell (by simp) _); have QW : Hid ((w1.setCell ⟨w.heap.size, 1, none⟩ (.string p.name)).heap[w.heap.size]? = some _) := set_name Q1 (.string p.name); clear c0 c1 c2 c3 c4 z0 z1 z2 z3 z4 Q1 hb1 B1 HCl; generalize w1.setCell ⟨w.heap.size, 1, none⟩ (.string p.name) = W at *; have HPW : Hid (W.ownsRow 0 135 5 (.slice adP ps.length cP) ps.length (ps.flatMap partCells)) := owns_up HP.out BW.out; (have HNW : Hid (W.ownsRow 0 3 1 (.slice adN ns.length cN) ns.length (ns.map fun n => .int .i64 (n : Nat))) := owns_up HN.out BW.out); have HTW : Hid (W.heap[bt]? = some _) := (BW.out.block bt (lt_of_block H1.out)).trans H1.out; (have HMW : Hid (TM W bm ps) := HM.out.same (BW.out.block bm (by obtain ⟨_, _, ⟨_, _, hb, -⟩, -⟩ := HM.out; exact lt_of_block hb)))
  have HKid : Hid (∀ i j, p.kids[i]? = some j → W.cell? ⟨w.heap.size, 3 + i, none⟩ = some (.int .i64 (j : Nat)) ∧ j < ns.length ∧ i < 2) := fun i j hj => by
    have hi := (List.getElem?_eq_some_iff.1 hj).1; obtain ⟨c0, c1, c2, c3, c4, -⟩ := blk5 QW.out; (have hj2 : j < ns.length := by have := HK.out j (List.mem_of_getElem? hj); have := HL2.out; omega); (have e : i = 0 ∨ i = 1 := by omega)
    rcases e with rfl | rfl
    · refine ⟨?_, hj2, by omega⟩
      rw [c3]; unfold PartM.k0; rw [List.getD_eq_getElem?_getD, hj]; rfl
    · refine ⟨?_, hj2, by omega⟩
      rw [c4]; unfold PartM.k1; rw [List.getD_eq_getElem?_getD, hj]; rfl
  (have HSm : Hid (∀ i, nodesOf ns (p.kids.take i) ≤ 3000000) := fun i => nodes_small hn (by rw [List.length_take]; omega)); obtain ⟨j0, j1, j2, f0, f1, f2⟩ := blk3 HTW.out; clear HP HN HM H1 hn
  go_loopg [18, 5] p.kids.length (fun g c s wr => ∃ i, i ≤ p.kids.length ∧ g = p.kids.length - i ∧ c = .int .i64 (i : Nat) ∧ s = .int .i64 ((nodesOf ns (p.kids.take i) : Nat) : Int) ∧ wr = W)
  case atStart => exact ⟨0, by omega, by omega, rfl, rfl, rfl⟩
  case round =>
    obtain ⟨i, hi, hg, rfl, rfl, rfl⟩ := hrel; have HG : Hid (gk = p.kids.length - i) := hg; clear hg; by_cases hlt : i < p.kids.length
    · obtain ⟨j, hj⟩ : ∃ j, p.kids[i]? = some j := ⟨_, List.getElem?_eq_getElem hlt⟩
      obtain ⟨kc, hjn, hi2⟩ := HKid.out i j hj; obtain ⟨m, hm⟩ : ∃ m, ns[j]? = some m := ⟨_, List.getElem?_eq_getElem hjn⟩; (obtain ⟨gN, rfl, hgN⟩ := row_cells HNW.out (by omega)); (have hc := hgN j (.int .i64 (m : Nat)) (by rw [List.getElem?_map, hm]; rfl)); rw [add_none, Nat.zero_add] at hc; have hcN := (row_caps HNW.out).1; (have hltI : (i : Int) < (p.kids.length : Int) := by omega); (have hlt2 : (i : Int) < 2 := by omega); (have hjI : (j : Int) < (ns.length : Int) := by omega); (have hjc : (j : Int) < (cN : Int) := by omega); have HX : Hid (nodesOf ns (p.kids.take (i + 1)) = nodesOf ns (p.kids.take i) + m) := nodes_more hj hm; have hs1 := HSm.out i; have hs2 := HSm.out (i + 1); rw [HX.out] at hs2; generalize nodesOf ns (p.kids.take i) = S at *; go_wp2_with fail
      go_roundg (p.kids.length - (i + 1))
      case measure => have := HG.out; omega
      case rel => exact ⟨i + 1, by omega, rfl, by go_num, by rw [HX.out]; go_num, rfl⟩
    · have hge : ¬ (i : Int) < (p.kids.length : Int) := by omega
      (have hie : i = p.kids.length := by omega); subst hie; clear HG; rw [List.take_length]; obtain ⟨c0, c1, c2, c3, c4, -⟩ := blk5 QW.out; obtain ⟨iP, hiP, hzP, hzP1, hzP2⟩ := infoPart; obtain ⟨iI, hiI, hzI, hzI1, hzI2⟩ := infoInt; (have HS3 : Hid (nodesOf ns p.kids ≤ 3000000) := by have := HSm.out p.kids.length; rw [List.take_length] at this; exact this); have zs := lt_of_block QW.out; have zt2 := lt_of_block HTW.out; clear HKid HSm hlt hi hge hk2 hk2I; obtain ⟨S, hSe⟩ : ∃ S, S = nodesOf ns p.kids := ⟨_, rfl⟩; have HSe : Hid (S = nodesOf ns p.kids) := hSe; rw [← hSe]; rw [← hSe] at HS3; clear hSe; go_wp2_with fail; (have HT2 : Hid (∀ b, (Value.slice adP ps.length cP).ownBlock = some b → b ≠ bt) := fun b hb => (H10.out b hb).2.1)
      go_region_law
        (first
         | (have hown := owns_up HPW.out (show Below wr.heap.size wr _ from ((Below.refl _ wr).alloc (Nat.le_refl _) (.cells #[.int .i64 p.kind, .string p.name, .int .i64 (p.kids.length : Nat), .int .i64 (p.k0 : Nat), .int .i64 (p.k1 : Nat)] 135 (0, 0))).drew)
            (refine step_append_lies _ rfl _ _ 131 rfl 0 135 iP (.agg #[.int .i64 0, .string ⟨#[]⟩, .int .i64 0, .int .i64 0, .int .i64 0]) 5 48 Try.underlying131 hiP hzP hzP1 hzP2 rfl (by decide) _ _ _ rfl hown ⟨wr.heap.size, 0, none⟩ 1 1 (partCells p) rfl rfl ?_ ?_ (by omega) (by unfold maxLen; omega) (by omega) (by omega) _ rfl ?_)
            · intro j u hu
              rw [add_none, Nat.zero_add]; (exact (blk_cell (blk_new_drew wr _) j).trans (by simpa [partCells] using hu))
            · intro u hu
              simp [partCells] at hu
              rcases hu with rfl | rfl | rfl | rfl | rfl <;> rfl
            intro g3 cp3 w3 hown3 hgrow hat hlt3; have HG3 : Hid ((wr.alloc (.cells #[.int .i64 p.kind, .string p.name, .int .i64 (p.kids.length : Nat), .int .i64 (p.k0 : Nat), .int .i64 (p.k1 : Nat)] 135 (0, 0))).drew.grownBy w3 (Value.slice adP ps.length cP).ownBlock) := hgrow; have HA3 : Hid ((Value.slice adP ps.length cP).ownBlock = some g3 ∨ g3 = (wr.alloc (.cells #[.int .i64 p.kind, .string p.name, .int .i64 (p.kids.length : Nat), .int .i64 (p.k0 : Nat), .int .i64 (p.k1 : Nat)] 135 (0, 0))).drew.heap.size) := hat; have HW3 : Hid (w3.ownsRow 0 135 5 (.slice (some ⟨g3, 0, none⟩) (ps.length + 1) cp3) (ps.length + 1) (ps.flatMap partCells ++ partCells p)) := hown3; clear hgrow hat hown3 hown; (have R3 : Hid (w3.heap[bt]? = some _) := (HG3.out.block bt (by simp; omega) (fun e => HT2.out bt e.symm rfl)).trans (alloc_keep HTW.out (.cells #[.int .i64 p.kind, .string p.name, .int .i64 (p.kids.length : Nat), .int .i64 (p.k0 : Nat), .int .i64 (p.k1 : Nat)] 135 (0, 0)))); have hlt4 : g3 < w3.heap.size := hlt3; clear j0 j1 j2 f0 f1 f2 hlt3
            obtain ⟨j0, j1, j2, f0, f1, f2⟩ := blk3 R3.out)
         | fail)
      all_goals
        (have K4 : Hid (Kept (fun b => ¬ T b) w (w3.setCell ⟨bt, 0, none⟩ (.slice (some ⟨g3, 0, none⟩) (ps.length + 1) cp3))) := ((kept_new (kept_of_below BW.out fun _ h _ => h) _).trans (kept_grown HG3.out fun k h e => h (H10.out k e).1)).setCell (fun k h => h H7.out.1) _); have R4 : Hid ((w3.setCell ⟨bt, 0, none⟩ (.slice (some ⟨g3, 0, none⟩) (ps.length + 1) cp3)).heap[bt]? = some _) := set_a R3.out _; (have F4 : Hid (∀ b, b < wr.heap.size → (Value.slice adP ps.length cP).ownBlock ≠ some b → b ≠ bt → (w3.setCell ⟨bt, 0, none⟩ (.slice (some ⟨g3, 0, none⟩) (ps.length + 1) cp3)).heap[b]? = wr.heap[b]?) := fun b hb h1 h2 => grow_set HG3.out b hb h1 h2)
        have G3 : Hid (g3 ≠ bt ∧ g3 ≠ bm ∧ (Value.slice adN ns.length cN).ownBlock ≠ some g3 ∧ g3 ≠ w.heap.size ∧ (T g3 ∨ w.heap.size ≤ g3)) := by
          rcases HA3.out with e | e
          · have h1 := H10.out g3 e
            have h2 := HO.out g3 e; (exact ⟨h1.2.1, h1.2.2.1, h1.2.2.2, by omega, Or.inl h1.1⟩)
          · have e2 : g3 = wr.heap.size + 1 := by rw [e]; simp
            have h3 := HO3.out; (exact ⟨by omega, by omega, fun e3 => by have := HO2.out g3 e3; omega, by omega, Or.inr (by omega)⟩)
        have HW4 : Hid ((w3.setCell ⟨bt, 0, none⟩ (.slice (some ⟨g3, 0, none⟩) (ps.length + 1) cp3)).ownsRow 0 135 5 (.slice (some ⟨g3, 0, none⟩) (ps.length + 1) cp3) (ps.length + 1) (ps.flatMap partCells ++ partCells p)) := owns_keep HW3.out fun b hb => Below.heap_setCell _ _ _ _ (by
          (have e : g3 = b := by simpa [Value.ownBlock] using hb); have := G3.out.1
          simp
          omega)
        (have z4 : g3 < (w3.setCell ⟨bt, 0, none⟩ (.slice (some ⟨g3, 0, none⟩) (ps.length + 1) cp3)).heap.size := by simpa [World.setCell] using hlt4)
        have zw : wr.heap.size + 1 ≤ (w3.setCell ⟨bt, 0, none⟩ (.slice (some ⟨g3, 0, none⟩) (ps.length + 1) cp3)).heap.size := by
          have := HG3.out.size; simp [World.setCell] at this ⊢; omega
        clear HG3 HA3 HW3 R3 hlt4 j0 j1 j2 f0 f1 f2 HT2 c0 c1 c2 c3 c4; generalize w3.setCell ⟨bt, 0, none⟩ (.slice (some ⟨g3, 0, none⟩) (ps.length + 1) cp3) = w4 at *; (have HN4 : Hid (w4.ownsRow 0 3 1 (.slice adN ns.length cN) ns.length (ns.map fun n => .int .i64 (n : Nat))) := owns_keep HNW.out fun b hb => F4.out b (HNW.out.lt b hb).2 (fun e => (H10.out b e).2.2.2 hb) (H11.out b hb).2.1); (have HM4 : Hid (TM w4 bm ps) := HMW.out.same (F4.out bm (by obtain ⟨_, _, ⟨_, _, hb, -⟩, -⟩ := HMW.out; exact lt_of_block hb) (fun e => (H10.out bm e).2.2.1 rfl) (fun e => H7.out.2.2 e.symm)))
        have Q4 : Hid (w4.heap[w.heap.size]? = some _) := (F4.out w.heap.size zs (fun e => by
          have := HO.out _ e
          omega) (by omega)).trans QW.out
        clear F4 HMW HNW HPW QW BW HTW; obtain ⟨j0, j1, j2, f0, f1, f2⟩ := blk3 R4.out; have hS : S ≤ 3000000 := HS3.out; have hown := owns_up HN4.out (show Below w4.heap.size w4 _ from (Below.refl _ w4).alloc (Nat.le_refl _) (.cells #[.int .i64 (S : Nat)] 3 (0, 0))); (have HT4 : Hid (∀ b, (Value.slice adN ns.length cN).ownBlock = some b → b ≠ bt) := fun b hb => (H11.out b hb).2.1)
        go_wp2_with (first
          | (at_builtin
             (refine wpList_append_lies _ rfl _ _ 58 rfl 0 3 iI (.int .i64 0) 1 8 Try.underlying58 hiI hzI hzI1 hzI2 rfl (by decide) _ _ _ rfl hown ⟨w4.heap.size, 0, none⟩ 1 1 [.int .i64 (S : Nat)] rfl rfl ?_ ?_ (by omega) (by unfold maxLen; omega) (by omega) (by omega) _ rfl ?_)
             · intro j u hu
               rw [add_none, Nat.zero_add]; (exact (blk_cell (blk_new w4 _) j).trans (by simpa using hu))
             · intro u hu
               simp at hu; subst hu; rfl
             intro g5 cp5 w5 hown5 hgrow hat hlt5; have HG5 : Hid ((w4.alloc (.cells #[.int .i64 (S : Nat)] 3 (0, 0))).grownBy w5 (Value.slice adN ns.length cN).ownBlock) := hgrow; have HA5 : Hid ((Value.slice adN ns.length cN).ownBlock = some g5 ∨ g5 = (w4.alloc (.cells #[.int .i64 (S : Nat)] 3 (0, 0))).heap.size) := hat; (have HW5 : Hid (w5.ownsRow 0 3 1 (.slice (some ⟨g5, 0, none⟩) (ns.length + 1) cp5) (ns.length + 1) ((ns.map fun n => .int .i64 (n : Nat)) ++ [.int .i64 (S : Nat)])) := hown5); clear hgrow hat hown5 hown; (have R5 : Hid (w5.heap[bt]? = some _) := (HG5.out.block bt (by simp; omega) (fun e => HT4.out bt e.symm rfl)).trans (alloc_keep R4.out _)); clear j0 j1 j2 f0 f1 f2
             obtain ⟨j0, j1, j2, f0, f1, f2⟩ := blk3 R5.out)
          | fail)
        have W6 : ∃ x, x = w5.setCell ⟨bt, 1, none⟩ (.slice (some ⟨g5, 0, none⟩) (ns.length + 1) cp5) := ⟨_, rfl⟩; obtain ⟨w6, hw6⟩ := W6
        have K6 : Hid (Kept (fun b => ¬ T b) w w6) := by
          rw [hw6]; (exact ((K4.out.alloc _).trans (kept_grown HG5.out fun k h e => h (H11.out k e).1)).setCell (fun k h => h H7.out.1) _)
        have R6 : Hid (w6.heap[bt]? = some (.cells #[.slice (some ⟨g3, 0, none⟩) (ps.length + 1) cp3, .slice (some ⟨g5, 0, none⟩) (ns.length + 1) cp5, .map (some bm)] 133 (0, 0))) := by
          rw [hw6]; exact set_b R5.out _
        have F6 : Hid (∀ b, b < w4.heap.size → (Value.slice adN ns.length cN).ownBlock ≠ some b → b ≠ bt → w6.heap[b]? = w4.heap[b]?) := by
          rw [hw6]; (exact fun b hb h1 h2 => grow_set2 HG5.out b hb h1 h2)
        have G5 : Hid (g5 ≠ bt ∧ g5 ≠ bm ∧ g5 ≠ g3 ∧ g5 ≠ w.heap.size ∧ (T g5 ∨ w.heap.size ≤ g5)) := by
          rcases HA5.out with e | e
          · have h1 := H11.out g5 e
            have h2 := HO2.out g5 e; (exact ⟨h1.2.1, h1.2.2, fun e2 => G3.out.2.2.1 (e2 ▸ e), by omega, Or.inl h1.1⟩)
          · have e2 : g5 = w4.heap.size + 1 := by rw [e]; simp
            have h3 := HO3.out; (exact ⟨by omega, by omega, by omega, by omega, Or.inr (by omega)⟩)
        have HW6 : Hid (w6.ownsRow 0 3 1 (.slice (some ⟨g5, 0, none⟩) (ns.length + 1) cp5) (ns.length + 1) ((ns.map fun n => .int .i64 (n : Nat)) ++ [.int .i64 (S : Nat)])) := by
          rw [hw6]
          exact owns_keep HW5.out fun b hb => Below.heap_setCell _ _ _ _ (by
            (have e : g5 = b := by simpa [Value.ownBlock] using hb); have := G5.out.1
            simp
            omega)
        have HP6 : Hid (w6.ownsRow 0 135 5 (.slice (some ⟨g3, 0, none⟩) (ps.length + 1) cp3) (ps.length + 1) (ps.flatMap partCells ++ partCells p)) := owns_keep HW4.out fun b hb => by
          (have e : g3 = b := by simpa [Value.ownBlock] using hb); subst e; exact F6.out g3 z4 G3.out.2.2.1 G3.out.1
        (have HM6 : Hid (TM w6 bm ps) := HM4.out.same (F6.out bm (by have := HO3.out; omega) (fun e => (H11.out bm e).2.2 rfl) (fun e => H7.out.2.2 e.symm)))
        have Q6 : Hid (w6.heap[w.heap.size]? = some _) := (F6.out w.heap.size (by omega) (fun e => by
          have := HO2.out _ e
          omega) (by omega)).trans Q4.out
        have z5 : g5 < w6.heap.size := by
          rw [hw6]; simpa [World.setCell] using hlt5
        have z6 : w4.heap.size ≤ w6.heap.size := by
          have := HG5.out.size; rw [hw6]; simp [World.setCell] at this ⊢; omega
        rw [← hw6]; clear hw6 HG5 HA5 HW5 R5 hlt5 j0 j1 j2 f0 f1 f2 HW4 K4 R4 HN4 HM4 Q4 F6; obtain ⟨j0, j1, j2, f0, f1, f2⟩ := blk3 R6.out; obtain ⟨c0, c1, c2, c3, c4, -⟩ := blk5 Q6.out; obtain ⟨n, D, hmap, hnn, hh1, hh2⟩ := HM6.out; have HH1 : Hid (∀ p, PartSmall p → Maps.has D (partKey p) = decide (p ∈ ps)) := hh1; have HH2 : Hid (∀ p, p ∈ ps → ∃ i, ps[i]? = some p ∧ ∀ z, D.atKey (partKey p) z = .lit (.int .i64 (i : Nat))) := hh2; have HMap : Hid (w6.ownsMap Try.prog 135 (plainElem Try.prog 3) bm n D) := hmap; (have hkey : keyOf Try.prog 135 (.agg #[.int .i64 p.kind, .string p.name, .int .i64 (p.kids.length : Nat), .int .i64 (p.k0 : Nat), .int .i64 (p.k1 : Nat)]) = some (partKey p) := keyPart _ _ _ _ _ (WalkArith.wf_i64 (by have := HSp.out.kind; omega)) (WalkArith.wf_i64 (by have := HSp.out.two; omega)) (WalkArith.wf_i64 (by have := kid_small HSp.out; omega)) (WalkArith.wf_i64 (by have := kid_small HSp.out; omega)) HSp.out.name); have HKey : Hid (keyOf Try.prog 135 _ = some (partKey p)) := hkey; clear hh1 hh2 hmap hkey HM6; clear j0 j1 j2 f0 f1 f2 c0 c1 c2 c3 c4; (refine wp_region_last (by kernel_rfl) [kEq (.pointer (some ⟨bt, 0, none⟩)), kEq (.pointer (some ⟨bt, 0, none⟩)), kEq (.pointer (some ⟨bt, 2, none⟩)), kEq (.map (some bm)), kEq (.agg #[.int .i64 p.kind, .string p.name, .int .i64 (p.kids.length : Nat), .int .i64 (p.k0 : Nat), .int .i64 (p.k1 : Nat)]), kEq (.int .i64 (ps.length : Nat))] ?_ (by kernel_rfl) (by kernel_rfl) 64 rfl (by kernel_rfl) 6 _ rfl rfl (by kernel_rfl) ?_ ?_)
        · intro p hp
          simp only [List.mem_cons, List.not_mem_nil, or_false] at hp
          rcases hp with rfl | rfl | rfl | rfl | rfl | rfl
          all_goals exact kEq_stays _
        · refine ⟨?_, ?_, ?_, ?_, ?_, ?_, trivial⟩
          · intro a wx hB hold hdep K hK
            have t0 : a.tmps[0]? = some (.pointer (some ⟨bt, 0, none⟩)) := hold.2.2 0 rfl; clear hold hdep; go_simp; exact hK.out _ _ rfl (Below.refl _ _)
          · intro a wx hB hold hdep K hK
            have t57 := depEq wx (hdep 0 rfl _ 57 rfl rfl); clear hold hdep; go_simp; exact hK.out _ _ rfl (Below.refl _ _)
          · intro a wx hB hold hdep K hK
            have t58 := depEq wx (hdep 1 rfl _ 58 rfl rfl); clear hold hdep; go_simp; exact hK.out _ _ rfl (Below.refl _ _)
          · intro a wx hB hold hdep K hK
            have t59 := depEq wx (hdep 2 rfl _ 59 rfl rfl); obtain ⟨j0, j1, j2, -⟩ := blk3 (below_keep hB R6.out); clear hold hdep; go_simp; exact hK.out _ _ rfl (Below.refl _ _)
          · intro a wx hB hold hdep K hK
            have t3 : a.tmps[3]? = some (.pointer (some ⟨w.heap.size, 0, none⟩)) := hold.2.2 3 rfl; obtain ⟨j0, j1, j2, j3, j4, -⟩ := blk5 (below_keep hB Q6.out); clear hold hdep; go_simp; exact hK.out _ _ rfl (Below.refl _ _)
          · intro a wx hB hold hdep K hK
            have t8 : a.tmps[8]? = some (.int .i64 (ps.length : Nat)) := hold.2.2 8 rfl; clear hold hdep; go_simp; exact hK.out _ _ rfl (Below.refl _ _)
        · intro a wx hB hold hgot K hK
          (have t60 := depEq wx (hgot 3 _ 60 (by omega) rfl rfl)); (have t61 := depEq wx (hgot 4 _ 61 (by omega) rfl rfl)); (have t62 := depEq wx (hgot 5 _ 62 (by omega) rfl rfl))
          have hmx : wx.ownsMap Try.prog 135 (plainElem Try.prog 3) bm n D := by
            obtain ⟨es, clock, hb, r⟩ := HMap.out; exact ⟨es, clock, (hB.block bm (lt_of_block hb)).trans hb, r⟩
          (refine step_map_own _ rfl _ _ _ 130 rfl 135 3 partLaw Try.underlying130 _ bm n D (by simp [go_sem, t60]) hmx (by unfold maxLen; omega) (.agg #[.int .i64 p.kind, .string p.name, .int .i64 (p.kids.length : Nat), .int .i64 (p.k0 : Nat), .int .i64 (p.k1 : Nat)]) (.int .i64 (ps.length : Nat)) _ (by simp [go_sem, t61]) (by simp [go_sem, t62]) HKey.out _ [] (plainElem_int Try.underlying3 (WalkArith.wf_i64 (by omega))) ?_); intro w7 hown7 hgrow7; (have F7 : Hid (∀ b, b < w6.heap.size → b ≠ bm → w7.heap[b]? = w6.heap[b]?) := fun b hb hne => (hgrow7.block b (Nat.lt_of_lt_of_le hb hB.size) (fun e => hne (by cases e; rfl))).trans (hB.block b hb)); (have K7 : Hid (Kept (fun b => ¬ T b) w w7) := (K6.out.trans (kept_of_below hB fun _ h _ => h)).trans (kept_grown hgrow7 fun k h e => h (by cases e; exact H7.out.2.1))); have z7 : w6.heap.size ≤ w7.heap.size := Nat.le_trans hB.size hgrow7.size; have HM7 : Hid (TM w7 bm (ps ++ [p])) := TM.snoc H6.out HSp.out hnn HMap.out.isMap HH1.out HH2.out hown7
          have HTab : Hid (TabAt w7 (fun b => T b ∨ (w.heap.size ≤ b ∧ b < w7.heap.size)) bt (ps ++ [p]) (ns ++ [nodesOf ns p.kids])) := by
            (have e1 : (ps ++ [p]).length = ps.length + 1 := by simp); (have e2 : (ns ++ [nodesOf ns p.kids]).length = ns.length + 1 := by simp); (have e3 : (ps ++ [p]).flatMap partCells = ps.flatMap partCells ++ partCells p := by simp); (have e4 : (ns ++ [nodesOf ns p.kids]).map (fun n => (.int .i64 (n : Nat) : Value)) = ns.map (fun n => (.int .i64 (n : Nat) : Value)) ++ [.int .i64 (S : Nat)] := by simp [HSe.out]); show TabAt _ _ _ _ _; unfold TabAt; rw [e1, e2, e3, e4]; (have b3 : ∀ b, (Value.slice (some ⟨g3, 0, none⟩) (ps.length + 1) cp3).ownBlock = some b → g3 = b := fun b hb => by simpa [Value.ownBlock] using hb); (have b5 : ∀ b, (Value.slice (some ⟨g5, 0, none⟩) (ns.length + 1) cp5).ownBlock = some b → g5 = b := fun b hb => by simpa [Value.ownBlock] using hb); have q3 := G3.out; have q5 := G5.out; have q7 := H7.out; (refine ⟨some ⟨g3, 0, none⟩, cp3, some ⟨g5, 0, none⟩, cp5, bm, (F7.out bt (by omega) q7.2.2).trans R6.out, by have := HL2.out; omega, owns_keep HP6.out fun b hb => ?_, owns_keep HW6.out fun b hb => ?_, HM7.out, fun q hq => ?_, Or.inl q7.1, Or.inl q7.2.1, q7.2.2, fun b hb => ?_, fun b hb => ?_⟩)
            · rw [← b3 b hb]; exact F7.out g3 (by omega) q3.2.1
            · rw [← b5 b hb]; exact F7.out g5 z5 q5.2.1
            · rcases List.mem_append.1 hq with h | h
              · exact H6.out q h
              · rw [List.mem_singleton.1 h]; exact HSp.out
            · rw [← b3 b hb]
              (refine ⟨?_, q3.1, q3.2.1, fun e => q5.2.2.1 (b5 _ e)⟩)
              rcases q3.2.2.2.2 with h | h
              · exact Or.inl h
              · exact Or.inr ⟨h, by omega⟩
            · rw [← b5 b hb]
              refine ⟨?_, q5.1, q5.2.1⟩
              rcases q5.2.2.2.2 with h | h
              · exact Or.inl h
              · exact Or.inr ⟨h, by omega⟩
          obtain ⟨tm, df⟩ := a; (obtain ⟨ys, hys, htm, rfl⟩ := frame_mid2 57 6 (by kernel_rfl) (Nat.le_of_ble_eq_true rfl) hold); obtain ⟨x57, x58, x59, x60, x61, x62, rfl⟩ := rowOf6 ys hys; simp only [List.take_succ_cons, List.take_zero, List.drop_succ_cons, List.drop_zero, List.cons_append, List.nil_append] at htm; subst htm; refine hK.out _ _ ?_; clear hK hold hgot hys t60 t61 t62 hmx hown7 hgrow7 hB F7 HM7 HH1 HH2 HMap HKey; go_wp2_with fail; go_ret; exact ⟨rfl, HTab.out, K7.out⟩
end Go.Proofs.Ytmahgfgndfcmpag
/- A formula's number: what the table says, plain. -/
namespace Go.Proofs.Ytmahgfgndfcmpag
open Go.RowKit Go.Maps Go.WideMaps

theorem sizes_sum : ∀ fs : List Fm, Fm.sizes fs = (fs.map Fm.size).sum
  | [] => by rw [Fm.sizes]; rfl
  | f :: fs => by rw [Fm.sizes, sizes_sum fs]; simp
theorem nodes_fm {fs : List Fm} {p : PartM} (hk : ∀ j ∈ p.kids, j < fs.length) : nodesOf (fs.map Fm.size) p.kids = (p.fm fs).size := by
  unfold nodesOf PartM.fm; rw [Fm.size, sizes_sum, List.map_map, Nat.add_comm]
  congr 2
  (refine List.map_congr_left fun j hj => ?_); have hlt := hk j hj; rw [List.getD_eq_getElem?_getD, List.getElem?_map, List.getElem?_eq_getElem hlt]; show fs[j].size = (fs.getD j zeroF).size; rw [List.getD_eq_getElem?_getD, List.getElem?_eq_getElem hlt]; rfl
/-- Formulas that a table may be asked for. -/
structure Closed (Ph : Fm → Prop) : Prop where
  fine : ∀ f, Ph f → Fine f
  small : ∀ f, Ph f → f.size ≤ 1000
  kids : ∀ k n ks, Ph (.mk k n ks) → ∀ g ∈ ks, Ph g
/-- The table of these formulas. -/
structure Tab (Ph : Fm → Prop) (w : World) (T : Nat → Prop) (bt : Nat) (ps : List PartM) (fs : List Fm) : Prop where
  tab : TabAt w T bt ps (fs.map Fm.size)
  ok : TabOk ps fs
  all : ∀ g ∈ fs, Ph g
  old : ∀ b, T b → b < w.heap.size
theorem Tab.same {Ph : Fm → Prop} {w w' : World} {T : Nat → Prop} {bt : Nat} {ps : List PartM} {fs : List Fm} (h : Tab Ph w T bt ps fs) (hk : ∀ b, T b → b < w.heap.size → w'.heap[b]? = w.heap[b]?) (hs : w.heap.size ≤ w'.heap.size) : Tab Ph w' T bt ps fs :=
  ⟨h.tab.same hk, h.ok, h.all, fun b hb => Nat.lt_of_lt_of_le (h.old b hb) hs⟩
theorem Tab.up {Ph : Fm → Prop} {w w' : World} {T : Nat → Prop} {bt : Nat} {ps : List PartM} {fs : List Fm} (h : Tab Ph w T bt ps fs) (hb : Below w.heap.size w w') : Tab Ph w' T bt ps fs := h.same (fun b _ h1 => hb.block b h1) hb.size
/-- The numbers that a list of formulas has. -/
def NumsAre (fs : List Fm) (js : List Nat) (gs : List Fm) : Prop := (∀ j ∈ js, j < fs.length) ∧ (js.map fun j => fs.getD j zeroF) = gs
theorem NumsAre.grow {fs hs : List Fm} {js : List Nat} {gs : List Fm} (h : NumsAre fs js gs) : NumsAre (fs ++ hs) js gs := by
  (refine ⟨fun j hj => by rw [List.length_append]; have := h.1 j hj; omega, ?_⟩); rw [← h.2]; (refine List.map_congr_left fun j hj => ?_); rw [List.getD_eq_getElem?_getD, List.getD_eq_getElem?_getD, List.getElem?_append_left (h.1 j hj)]
theorem NumsAre.snoc {fs : List Fm} {js : List Nat} {gs : List Fm} {j : Nat} {g : Fm} (h : NumsAre fs js gs) (hj : fs[j]? = some g) : NumsAre fs (js ++ [j]) (gs ++ [g]) := by
  (refine ⟨fun i hi => ?_, ?_⟩)
  · rcases List.mem_append.1 hi with hi | hi
    · exact h.1 i hi
    · rw [List.mem_singleton.1 hi]; exact (List.getElem?_eq_some_iff.1 hj).1
  · rw [List.map_append, h.2]
    simp [hj]
/-- A part that is there, or is put there. -/
theorem Tab.fm {fs : List Fm} {p : PartM} {k : Int} {n : ByteArray} {ks : List Fm} (hk : p.kind = k) (hn : p.name = n) (h : NumsAre fs p.kids ks) : p.fm fs = .mk k n ks := by
  unfold PartM.fm; rw [hk, hn, h.2]
theorem part_small {Ph : Fm → Prop} (hc : Closed Ph) {fs : List Fm} {p : PartM} {k : Int} {n : ByteArray} {ks : List Fm} (hf : Ph (.mk k n ks)) (hk : p.kind = k) (hn : p.name = n) (h : NumsAre fs p.kids ks) (hl : fs.length ≤ 100000) : PartSmall p ∧ n.size ≤ 8 := by
  have hfi := hc.fine _ hf; have hs := hfi.small; (have hlen : p.kids.length = ks.length := by rw [← h.2, List.length_map]); (refine ⟨⟨?_, by rw [hn]; unfold maxLen; omega, by omega, fun j hj => by have := h.1 j hj; omega⟩, hs.1⟩); rw [hk]
  rcases hfi.forms with ⟨m, e, -⟩ | e | e | ⟨k', g, hk', e, -⟩ | ⟨k', g, g', hk', e, -, -⟩
  all_goals (injection e with e1 e2 e3; omega)
end Go.Proofs.Ytmahgfgndfcmpag
/- Walks: the number of a formula that is put together of numbers. -/
namespace Go.Proofs.Ytmahgfgndfcmpag
open Go.RowKit Go.Maps Go.WideMaps

theorem kept_farN {ok ok' : Nat → Prop} {a b c : World} (h : Kept ok a b) (k : Kept ok' b c) (hi : ∀ x, x < a.heap.size → ok x → ok' x) : Kept ok a c :=
  ⟨k.os.trans h.os, k.tape.trans h.tape, k.output.trans h.output, Nat.le_trans h.size k.size, fun x hx ho => (k.block x (Nat.lt_of_lt_of_le hx h.size) (hi x hx ho)).trans (h.block x hx ho)⟩
set_option maxRecDepth 10000 in
set_option maxHeartbeats 4000000 in
theorem numOf_any {Ph : Fm → Prop} (hc : Closed Ph) (k : Int) (n : ByteArray) (ks : List Fm) (js : List Nat) (w : World) (T : Nat → Prop) (bt : Nat) (ps : List PartM) (fs : List Fm) (hf : Ph (.mk k n ks)) (hjl : js.length = ks.length) (hnu : NumsAre fs js ks) (htab : Tab Ph w T bt ps fs) (hl : fs.length ≤ 100000) :
    Calls Try.prog 88 #[.pointer (some ⟨bt, 0, none⟩), .agg #[.int .i64 k, .string n, .int .i64 (ks.length : Nat), .int .i64 ((js.getD 0 0 : Nat) : Int), .int .i64 ((js.getD 1 0 : Nat) : Int)]] w fun e w' => ∃ m T' ps' gs, e = .returned (.int .i64 (m : Nat)) ∧ (fs ++ gs)[m]? = some (.mk k n ks) ∧ Tab Ph w' T' bt (ps ++ ps') (fs ++ gs) ∧ gs.length ≤ 1 ∧ (∀ b, T' b → T b ∨ w.heap.size ≤ b) ∧ Kept (fun b => ¬ T b) w w' := by
  have HPh : Hid (Ph (.mk k n ks)) := hf; have HC : Hid (Closed Ph) := hc; have HNu : Hid (NumsAre fs js ks) := hnu; obtain ⟨x0, hx0⟩ : ∃ x, x = js.getD 0 0 := ⟨_, rfl⟩; obtain ⟨x1, hx1⟩ : ∃ x, x = js.getD 1 0 := ⟨_, rfl⟩; rw [← hx0, ← hx1]; obtain ⟨p, hpe⟩ : ∃ p : PartM, p = ⟨k, n, js⟩ := ⟨_, rfl⟩; (have hsm := part_small (p := p) hc hf (by rw [hpe]) (by rw [hpe]) (by rw [hpe]; exact hnu) hl); obtain ⟨X, hX⟩ : ∃ X, X = w.alloc (.cells #[.int .i64 k, .string n, .int .i64 (ks.length : Nat), .int .i64 (x0 : Nat), .int .i64 (x1 : Nat)] 135 (0, 0)) := ⟨_, rfl⟩; (have HBX : Hid (Below w.heap.size w X) := by rw [hX]; exact below_more (Below.refl _ w) _); (have HQ : Hid (X.heap[w.heap.size]? = some (.cells #[.int .i64 k, .string n, .int .i64 (ks.length : Nat), .int .i64 (x0 : Nat), .int .i64 (x1 : Nat)] 135 (0, 0))) := by rw [hX]; exact blk_new w _); have HTa : Hid (Tab Ph X T bt ps fs) := htab.up HBX.out; have HXe : Hid (w.alloc (.cells #[.int .i64 k, .string n, .int .i64 (ks.length : Nat), .int .i64 (x0 : Nat), .int .i64 (x1 : Nat)] 135 (0, 0)) = X) := hX.symm; have hTo : ∀ b, T b → b < w.heap.size := htab.old; have HTo : Hid (∀ b, T b → b < w.heap.size) := hTo; obtain ⟨adP, cP, adN, cN, bm, h1, -, -, -, h5, -⟩ := HTa.out.tab; obtain ⟨nn, D, hmap, hnn, hh1, hh2⟩ := h5; (have hkv : (Value.agg #[.int .i64 k, .string n, .int .i64 (ks.length : Nat), .int .i64 (x0 : Nat), .int .i64 (x1 : Nat)]) = .agg ⟨partCells p⟩ := by rw [hpe, hx0, hx1]; unfold partCells PartM.k0 PartM.k1; rw [hjl])
  have hkey : keyOf Try.prog 135 (.agg #[.int .i64 k, .string n, .int .i64 (ks.length : Nat), .int .i64 (x0 : Nat), .int .i64 (x1 : Nat)]) = some (partKey p) := by
    rw [hkv]; (exact keyPart _ _ _ _ _ (WalkArith.wf_i64 (by have := hsm.1.kind; omega)) (WalkArith.wf_i64 (by have := hsm.1.two; omega)) (WalkArith.wf_i64 (by have := kid_small hsm.1; omega)) (WalkArith.wf_i64 (by have := kid_small hsm.1; omega)) hsm.1.name)
  obtain ⟨c, hcw, hat, hlk⟩ : ∃ c, (Lit.int .i64 c).wf = true ∧ D.atKey (partKey p) (.lit (.int .i64 0)) = .lit (.int .i64 c) ∧ ∀ x, (Instr.lookup 130 (.map (some bm)) (.agg #[.int .i64 k, .string n, .int .i64 (ks.length : Nat), .int .i64 (x0 : Nat), .int .i64 (x1 : Nat)]) true).run Try.prog (X.drewN x) = .ok (.tuple #[.int .i64 c, .bool (Maps.has D (partKey p))]) (X.drewN x) := by
    have look : ∀ x, ∃ c, (Instr.lookup 130 (.map (some bm)) (.agg #[.int .i64 k, .string n, .int .i64 (ks.length : Nat), .int .i64 (x0 : Nat), .int .i64 (x1 : Nat)]) true).run Try.prog (X.drewN x) = .ok (.tuple #[.int .i64 c, .bool (Maps.has D (partKey p))]) (X.drewN x) ∧ D.atKey (partKey p) (.lit (.int .i64 0)) = .lit (.int .i64 c) ∧ (Lit.int .i64 c).wf = true := fun x => by
      have hm : (X.drewN x).ownsMap Try.prog 135 (plainElem Try.prog 3) bm nn D := hmap; (obtain ⟨v, pl, hrun, hv⟩ := hm.look_ok partLaw Try.underlying130 (zeroInt _) (plainElem_int Try.underlying3 (WalkArith.wf_i64 (by omega))) hkey); obtain ⟨c, rfl, hz, hw⟩ := plainElem_int_inv Try.underlying3 hv; (exact ⟨c, hrun, by injection hz, hw⟩)
    obtain ⟨c, -, hat, hcw⟩ := look 0; (refine ⟨c, hcw, hat, fun x => ?_⟩); obtain ⟨c', hrun, hat', -⟩ := look x; rw [hat] at hat'; (have : c = c' := by injection hat' with e; injection e); rw [this]; exact hrun

  have HSm : Hid (PartSmall p ∧ n.size ≤ 8) := hsm; have HKv : Hid ((Value.agg #[.int .i64 k, .string n, .int .i64 (ks.length : Nat), .int .i64 (x0 : Nat), .int .i64 (x1 : Nat)]) = .agg ⟨partCells p⟩) := hkv; have HPe : Hid (p = ⟨k, n, js⟩) := hpe; have HLf : Hid (fs.length ≤ 100000) := hl; have hhas := hh1 p hsm.1; have HH2 : Hid (∀ p, p ∈ ps → ∃ i, ps[i]? = some p ∧ ∀ z, D.atKey (partKey p) z = .lit (.int .i64 (i : Nat))) := hh2; have HAt : Hid (D.atKey (partKey p) (.lit (.int .i64 0)) = .lit (.int .i64 c)) := hat; obtain ⟨j0, j1, j2, -⟩ := blk3 h1; obtain ⟨c0, c1, c2, c3, c4, -⟩ := blk5 HQ.out; have z1 := lt_of_block h1; have z2 := lt_of_block HQ.out; rw [hhas] at hlk; clear hx0 hx1 hh1 hh2 hmap hnn hhas hsm hkv hkey hpe hl h1 hcw hat hjl hc hf hnu htab hTo hX
  go_enter Try.func88, Try.ntmps88
  by_cases hin : p ∈ ps
  · rw [decide_eq_true hin] at hlk
    have HIn : Hid (p ∈ ps) := hin; clear hin
    go_upto_region 1 with fail
    rw [HXe.out]; go_wp2_with fail
    go_quiet (fail)
    go_wp2_with fail; go_ret; obtain ⟨i, hi, hz⟩ := HH2.out p HIn.out
    have hci : (c : Int) = (i : Nat) := by
      have h1 := (hz (.lit (.int .i64 0))).symm.trans HAt.out
      injection h1 with h2
      injection h2 with h3 h4
      exact h4.symm
    (have hfm : p.fm fs = .mk k n ks := Tab.fm (by rw [HPe.out]) (by rw [HPe.out]) (by rw [HPe.out]; exact HNu.out)); (refine ⟨i, T, [], [], by rw [hci]; rfl, by rw [List.append_nil, ← hfm]; exact HTa.out.ok.found hi, by rw [List.append_nil, List.append_nil]; exact HTa.out.same (fun _ _ _ => rfl) (Nat.le_refl _), by simp, fun b h => Or.inl h, (kept_of_below HBX.out fun _ h _ => h).drewN _⟩)
  · rw [decide_eq_false hin] at hlk
    have HIn : Hid (p ∉ ps) := hin; clear hin
    go_upto_region 1 with fail
    rw [HXe.out]; go_wp2_with fail
    go_quiet (fail)
    go_wp2_with fail; (have hfm : p.fm fs = .mk k n ks := Tab.fm (by rw [HPe.out]) (by rw [HPe.out]) (by rw [HPe.out]; exact HNu.out)); have HFm : Hid (p.fm fs = .mk k n ks) := hfm; have hlen2 := HTa.out.ok.len; (have hkl : ∀ j ∈ p.kids, j < fs.length := by rw [HPe.out]; exact HNu.out.1)
    have hcall := padd_any (X.drewN nq) T bt ps (fs.map Fm.size) (HTa.out.tab.same fun _ _ _ => rfl) p HSm.out.1 HIn.out (by rw [hlen2]; exact hkl) (by rw [hlen2]; exact HLf.out) (fun m hm => by
      obtain ⟨g, hg, rfl⟩ := List.mem_map.1 hm; have := HC.out.small g (HTa.out.all g hg)
      omega) (by have := HSm.out.2; rw [HPe.out]; exact this)
    rw [← HKv.out, nodes_fm hkl] at hcall; refine hcall.mono ?_; clear hcall; rintro e w5 ⟨rfl, htab5, hke5⟩; have HTab5 : Hid (TabAt w5 _ bt (ps ++ [p]) (fs.map Fm.size ++ [(p.fm fs).size])) := htab5; (have HKe5 : Hid (Kept (fun b => ¬ T b) (X.drewN nq) w5) := hke5); have HKl : Hid (∀ j ∈ p.kids, j < fs.length) := hkl; have HLe : Hid (ps.length = fs.length) := hlen2; clear htab5 hke5 hkl hlen2 hfm; go_wp2_with fail; go_ret; (refine ⟨ps.length, fun b => T b ∨ (X.heap.size ≤ b ∧ b < w5.heap.size), [p], [p.fm fs], rfl, ?_, ⟨?_, ?_, ?_, ?_⟩, ?_, ?_, ?_⟩)
    · rw [HLe.out, HFm.out]
      simp
    · have := HTab5.out
      rw [List.map_append]; exact this
    · exact HTa.out.ok.snoc HKl.out HIn.out
    · intro g hg
      rcases List.mem_append.1 hg with h | h
      · exact HTa.out.all g h
      · rw [List.mem_singleton.1 h, HFm.out]; exact HPh.out
    · intro b hb
      rcases hb with h | h
      · exact Nat.lt_of_lt_of_le (HTa.out.old b h) HKe5.out.size
      · exact h.2
    · simp
    · intro b hb
      have hsw := HBX.out.size
      rcases hb with h | h
      · exact Or.inl h
      · exact Or.inr (by omega)
    · exact kept_farN ((kept_of_below HBX.out fun _ h _ => h).drewN nq) HKe5.out fun b hb h => h
end Go.Proofs.Ytmahgfgndfcmpag
/- Walks: a formula's number. -/
namespace Go.Proofs.Ytmahgfgndfcmpag
open Go.RowKit Go.Maps Go.WideMaps

theorem set_k0 {w : World} {b : Nat} {x0 x1 x2 x3 x4 : Value} {T : TypeId} (h : w.heap[b]? = some (.cells #[x0, x1, x2, x3, x4] T (0, 0))) (v : Value) : (w.setCell ⟨b, 3, none⟩ v).heap[b]? = some (.cells #[x0, x1, x2, v, x4] T (0, 0)) := by
  simp [World.setCell, Array.getElem?_modify, h]
theorem set_k1 {w : World} {b : Nat} {x0 x1 x2 x3 x4 : Value} {T : TypeId} (h : w.heap[b]? = some (.cells #[x0, x1, x2, x3, x4] T (0, 0))) (v : Value) : (w.setCell ⟨b, 4, none⟩ v).heap[b]? = some (.cells #[x0, x1, x2, x3, v] T (0, 0)) := by
  simp [World.setCell, Array.getElem?_modify, h]
theorem fsizes_take : ∀ (ks : List Fm) (i : Nat) (g : Fm), ks[i]? = some g → Fm.sizes (ks.take (i + 1)) = Fm.sizes (ks.take i) + g.size ∧ Fm.sizes (ks.take i) + g.size ≤ Fm.sizes ks
  | [], i, g, h => by simp at h
  | x :: ks, 0, g, h => by
    (have e : x = g := by simpa using h); subst e; (have e0 : Fm.sizes ([] : List Fm) = 0 := by rw [Fm.sizes]); rw [List.take_succ_cons, List.take_zero, List.take_zero, e0]; (have e1 : Fm.sizes [x] = x.size + 0 := by simp [Fm.sizes]); (have : Fm.sizes (x :: ks) = x.size + Fm.sizes ks := by rw [Fm.sizes])
    omega
  | x :: ks, i + 1, g, h => by
    (have := fsizes_take ks i g (by simpa using h)); (have e : Fm.sizes (x :: ks) = x.size + Fm.sizes ks := by rw [Fm.sizes]); rw [List.take_succ_cons, List.take_succ_cons, Fm.sizes, Fm.sizes]; omega
theorem kept_far {ok ok' : Nat → Prop} {a b c : World} (h : Kept ok a b) (k : Kept ok' b c) (hi : ∀ x, x < a.heap.size → ok x → ok' x) : Kept ok a c :=
  ⟨k.os.trans h.os, k.tape.trans h.tape, k.output.trans h.output, Nat.le_trans h.size k.size, fun x hx ho => (k.block x (Nat.lt_of_lt_of_le hx h.size) (hi x hx ho)).trans (h.block x hx ho)⟩
def Nums (Ph : Fm → Prop) (m : Nat) : Prop := ∀ (f : Fm) (v : Value) (w : World) (T : Nat → Prop) (bt : Nat) (ps : List PartM) (fs : List Fm), f.size < m → Ph f → Rep w (fun b => ¬ T b) f v → Tab Ph w T bt ps fs → fs.length + f.size ≤ 100000 →
  Calls Try.prog 51 #[.pointer (some ⟨bt, 0, none⟩), v] w fun e w' => ∃ n T' ps' gs, e = .returned (.int .i64 (n : Nat)) ∧ (fs ++ gs)[n]? = some f ∧ Tab Ph w' T' bt (ps ++ ps') (fs ++ gs) ∧ gs.length ≤ f.size ∧ (∀ b, T' b → T b ∨ w.heap.size ≤ b) ∧ Kept (fun b => ¬ T b) w w'

set_option maxRecDepth 10000 in
set_option maxHeartbeats 4000000 in
theorem num_step {Ph : Fm → Prop} (hc : Closed Ph) (m : Nat) (ih : Nums Ph m) : Nums Ph (m + 1) := by
  intro f v w T bt ps fs hm hf hrep htab hlen; obtain ⟨k, n, ks⟩ := f; (have hrep2 : Rep w (fun b => ¬ T b ∧ b < w.heap.size) (.mk k n ks) v := hrep.weak fun b h1 h2 => ⟨h2, h1⟩); obtain ⟨sl, cap, rfl, hx1, hx2, hx3, hx4⟩ := Rep.def.1 hrep2; (have HX : Hid (ks ≠ [] → ∃ b off, sl = some ⟨b, off, none⟩ ∧ (¬ T b ∧ b < w.heap.size) ∧ Reps w (fun b => ¬ T b ∧ b < w.heap.size) b off ks) := hx4); have HTab : Hid (Tab Ph w T bt ps fs) := htab; have HPh : Hid (Ph (.mk k n ks)) := hf; have hk2 : ks.length ≤ 2 := (hc.fine _ hf).small.2; have HC : Hid (Closed Ph) := hc; have HIH : Hid (Nums Ph m) := ih; have HMs : Hid ((Fm.mk k n ks).size < m + 1) := hm; have HLn : Hid (fs.length + (Fm.mk k n ks).size ≤ 100000) := hlen; (have hkI : (ks.length : Int) ≤ 2 := by omega); (have hkc : (ks.length : Int) ≤ (cap : Int) := by omega); clear hx4 hrep hrep2 htab hf hc ih hm hlen
  go_enter Try.func51, Try.ntmps51
  go_wp2_with fail; have B0 : Below w.heap.size w ((w.alloc (.cells #[.int .i64 k, .string n, .slice sl ks.length cap] 28 (0, 0))).alloc (.cells #[.int .i64 k, .string n, .int .i64 (ks.length : Nat), .int .i64 0, .int .i64 0] 135 (0, 0))) := below_more (below_more (Below.refl _ w) _) _; have Q0 : ((w.alloc (.cells #[.int .i64 k, .string n, .slice sl ks.length cap] 28 (0, 0))).alloc (.cells #[.int .i64 k, .string n, .int .i64 (ks.length : Nat), .int .i64 0, .int .i64 0] 135 (0, 0))).heap[w.heap.size + 1]? = some (.cells #[.int .i64 k, .string n, .int .i64 (ks.length : Nat), .int .i64 0, .int .i64 0] 135 (0, 0)) := blk_two w _ _; (have Z0 : ((w.alloc (.cells #[.int .i64 k, .string n, .slice sl ks.length cap] 28 (0, 0))).alloc (.cells #[.int .i64 k, .string n, .int .i64 (ks.length : Nat), .int .i64 0, .int .i64 0] 135 (0, 0))).heap.size = w.heap.size + 2 := by simp); have HB0 : Hid (Below w.heap.size w ((w.alloc (.cells #[.int .i64 k, .string n, .slice sl ks.length cap] 28 (0, 0))).alloc (.cells #[.int .i64 k, .string n, .int .i64 (ks.length : Nat), .int .i64 0, .int .i64 0] 135 (0, 0)))) := B0; have HQ0 : Hid (((w.alloc (.cells #[.int .i64 k, .string n, .slice sl ks.length cap] 28 (0, 0))).alloc (.cells #[.int .i64 k, .string n, .int .i64 (ks.length : Nat), .int .i64 0, .int .i64 0] 135 (0, 0))).heap[w.heap.size + 1]? = some (.cells #[.int .i64 k, .string n, .int .i64 (ks.length : Nat), .int .i64 0, .int .i64 0] 135 (0, 0))) := Q0; have HZ0 : Hid (((w.alloc (.cells #[.int .i64 k, .string n, .slice sl ks.length cap] 28 (0, 0))).alloc (.cells #[.int .i64 k, .string n, .int .i64 (ks.length : Nat), .int .i64 0, .int .i64 0] 135 (0, 0))).heap.size = w.heap.size + 2) := Z0; clear B0 Q0 Z0; generalize (w.alloc (.cells #[.int .i64 k, .string n, .slice sl ks.length cap] 28 (0, 0))).alloc (.cells #[.int .i64 k, .string n, .int .i64 (ks.length : Nat), .int .i64 0, .int .i64 0] 135 (0, 0)) = W at *; have HT0 : Hid (Tab Ph W T bt ps fs) := HTab.out.up HB0.out
  go_loopg [19] ks.length (fun g c wr => ∃ i js T' ps' gs, i ≤ ks.length ∧ g = ks.length - i ∧ c = .int .i64 (i : Nat) ∧ js.length = i ∧ Hid (NumsAre (fs ++ gs) js (ks.take i)) ∧ Hid (Tab Ph wr T' bt (ps ++ ps') (fs ++ gs)) ∧ Hid (gs.length ≤ Fm.sizes (ks.take i)) ∧ Hid (∀ b, T' b → T b ∨ w.heap.size + 2 ≤ b) ∧ Hid (Kept (fun b => ¬ T b) w wr) ∧ Hid (w.heap.size + 2 ≤ wr.heap.size) ∧ Hid (wr.heap[w.heap.size + 1]? = some (.cells #[.int .i64 k, .string n, .int .i64 (ks.length : Nat), .int .i64 ((js.getD 0 0 : Nat) : Int), .int .i64 ((js.getD 1 0 : Nat) : Int)] 135 (0, 0))))
  case atStart =>
    (refine ⟨0, [], T, [], [], by omega, by omega, rfl, rfl, ⟨(fun j hj => by cases hj), rfl⟩, by rw [List.append_nil, List.append_nil]; exact HT0.out, Nat.zero_le _, fun b h => Or.inl h, kept_of_below HB0.out fun _ h _ => h, Nat.le_of_eq HZ0.out.symm, HQ0.out⟩)
  case round =>
    obtain ⟨i, js, T', ps', gs, hi, hg, rfl, hjl, HNu, HTa, HGl, HT', HKe, HSz, HQ⟩ := hrel; have HG : Hid (gk = ks.length - i) := hg; clear hg HT0 HQ0 HB0 HZ0
    have hTb : ¬ T' (w.heap.size + 1) := fun h => by
      rcases HT'.out _ h with h | h
      · have := HTab.out.old _ h
        omega
      · omega
    have HTb : Hid (¬ T' (w.heap.size + 1)) := hTb; clear hTb; by_cases hlt : i < ks.length
    · obtain ⟨⟨kk, kn, kks⟩, hkid⟩ : ∃ g, ks[i]? = some g := ⟨_, List.getElem?_eq_getElem hlt⟩
      (obtain ⟨b, off, rfl, hb, hrs⟩ := HX.out (fun e => by rw [e] at hlt; simp at hlt)); (have HRs : Hid (Reps wr (fun b => ¬ T b ∧ b < w.heap.size) b off ks) := hrs.kept hb (HKe.out.mono fun _ _ h => h.1)); obtain ⟨sk, ck, c0, c1, c2, hrk⟩ := HRs.out.at i kk kn kks hkid; (have HRk : Hid (Rep wr (fun b => ¬ T b ∧ b < w.heap.size) (.mk kk kn kks) _) := hrk); (have hltI : (i : Int) < (ks.length : Int) := by omega); (have hltc : (i : Int) < (cap : Int) := by omega); (have hi2 : (i : Int) < 2 := by omega); have zb := lt_of_cell c0; simp only at zb; clear hrs hrk hb HX; go_wp2_with fail; have hsz := fsizes_take ks i _ hkid; have HSk : Hid (Fm.sizes (ks.take (i + 1)) = Fm.sizes (ks.take i) + (Fm.mk kk kn kks).size) := hsz.1
      have hcall := HIH.out (.mk kk kn kks) _ (wr.alloc (.cells #[.int .i64 kk, .string kn, .slice sk kks.length ck] 28 (0, 0))) T' bt (ps ++ ps') (fs ++ gs) (by have := HMs.out; rw [Fm.size] at this; omega) (HC.out.kids _ _ _ HPh.out _ (List.mem_of_getElem? hkid))
        (HRk.out.move (ok' := fun b => ¬ T' b) fun b h1 h2 => ⟨Below.heap_alloc _ _ _ h1, fun h => by
          rcases HT'.out b h with h | h
          · exact h2.1 h
          · have := h2.2
            omega⟩) (HTa.out.up ((Below.refl _ wr).alloc (Nat.le_refl _) _)) (by
          have h1 := HLn.out; have h2 := HGl.out; rw [Fm.size] at h1; rw [List.length_append]
          omega)
      refine hcall.mono ?_; clear hcall; rintro e w2 ⟨j, T2, ps2, gs2, rfl, hj, htab2, hgl2, hT2, hke2⟩; have hsw : w.heap.size + 2 ≤ wr.heap.size := HSz.out; (have Q2 : Hid (w2.heap[w.heap.size + 1]? = some _) := (hke2.block (w.heap.size + 1) (by simp; omega) HTb.out).trans (alloc_keep HQ.out _))
      have hT2b : ∀ b, T2 b → T b ∨ w.heap.size + 2 ≤ b := fun b h => by
        rcases hT2 b h with h | h
        · exact HT'.out b h
        · right
          simp at h; omega
      have hT2n : ¬ T2 (w.heap.size + 1) := fun h => by
        rcases hT2b _ h with h | h
        · have := HTab.out.old _ h
          omega
        · omega
      have HK2 : Hid (Kept (fun b => ¬ T b) w w2) := kept_far (HKe.out.alloc _) hke2 fun b hb h h' => by
        rcases HT'.out b h' with h2 | h2
        · exact h h2
        · omega
      have HTa2 : Hid (Tab Ph w2 T2 bt (ps ++ ps' ++ ps2) (fs ++ gs ++ gs2)) := htab2; have HT2b : Hid (∀ b, T2 b → T b ∨ w.heap.size + 2 ≤ b) := hT2b; have HT2n : Hid (¬ T2 (w.heap.size + 1)) := hT2n; have HJ : Hid ((fs ++ gs ++ gs2)[j]? = some (.mk kk kn kks)) := hj; have HGl2 : Hid (gs2.length ≤ (Fm.mk kk kn kks).size) := hgl2
      have HS2 : Hid (wr.heap.size + 1 ≤ w2.heap.size) := by
        have := hke2.size; simp at this; exact this
      have HTk : Hid (ks.take (i + 1) = ks.take i ++ [.mk kk kn kks]) := by
        show _ = _; rw [List.take_add_one, hkid]; rfl
      clear hj htab2 hgl2 hT2 hke2 hT2b hT2n HTa HKe HT' HTb HIH HRs HRk c0 c1 c2 zb hsz hkid; obtain ⟨d0, d1, d2, d3, d4, z0, z1, z2, z3, z4⟩ := blk5 Q2.out; (have e01 : i = 0 ∨ i = 1 := by omega)
      rcases e01 with rfl | rfl
      · go_wp2_with fail
        go_roundg (ks.length - (0 + 1))
        case measure => have := HG.out; omega
        case rel =>
          have hs2 := HS2.out; (refine ⟨0 + 1, js ++ [j], T2, ps' ++ ps2, gs ++ gs2, by omega, rfl, by go_num, by rw [List.length_append, hjl]; rfl, ?_, ?_, ?_, HT2b.out, HK2.out.setCell (fun h => absurd h (by simp)) _, ?_, ?_⟩)
          · rw [← List.append_assoc, HTk.out]
            exact HNu.out.grow.snoc HJ.out
          · rw [← List.append_assoc, ← List.append_assoc]
            (exact HTa2.out.same (fun b hb _ => Below.heap_setCell _ _ _ _ (fun e => HT2n.out (by simp at e; rw [← e]; exact hb))) (by simp [World.setCell]))
          · show _ ≤ _
            rw [HSk.out, List.length_append]; have h1 := HGl.out; have h2 := HGl2.out; omega
          · show _ ≤ _
            simp [World.setCell]; omega
          · have hq := Q2.out
            obtain rfl : js = [] := List.length_eq_zero_iff.1 hjl; exact set_k0 hq _
      · go_wp2_with fail
        go_roundg (ks.length - (1 + 1))
        case measure => have := HG.out; omega
        case rel =>
          have hs2 := HS2.out; (refine ⟨1 + 1, js ++ [j], T2, ps' ++ ps2, gs ++ gs2, by omega, rfl, by go_num, by rw [List.length_append, hjl]; rfl, ?_, ?_, ?_, HT2b.out, HK2.out.setCell (fun h => absurd h (by simp)) _, ?_, ?_⟩)
          · rw [← List.append_assoc, HTk.out]
            exact HNu.out.grow.snoc HJ.out
          · rw [← List.append_assoc, ← List.append_assoc]
            (exact HTa2.out.same (fun b hb _ => Below.heap_setCell _ _ _ _ (fun e => HT2n.out (by simp at e; rw [← e]; exact hb))) (by simp [World.setCell]))
          · show _ ≤ _
            rw [HSk.out, List.length_append]; have h1 := HGl.out; have h2 := HGl2.out; omega
          · show _ ≤ _
            simp [World.setCell]; omega
          · have hq := Q2.out
            obtain ⟨j0, rfl⟩ : ∃ x, js = [x] := List.length_eq_one_iff.1 hjl; exact set_k1 hq _
    · have hge : ¬ (i : Int) < (ks.length : Int) := by omega
      (have hie : i = ks.length := by omega); subst hie; clear HG; rw [List.take_length] at HNu HGl
      have hlf : (fs ++ gs).length ≤ 100000 := by
        have h1 := HLn.out; have h2 := HGl.out; rw [Fm.size] at h1; rw [List.length_append]; omega
      (have hcall := fun W (hb : Below wr.heap.size wr W) => numOf_any HC.out k n ks js W T' bt (ps ++ ps') (fs ++ gs) HPh.out hjl HNu.out (HTa.out.up hb) hlf); obtain ⟨x0, hx0⟩ : ∃ x, x = js.getD 0 0 := ⟨_, rfl⟩; obtain ⟨x1, hx1⟩ : ∃ x, x = js.getD 1 0 := ⟨_, rfl⟩; rw [← hx0, ← hx1] at HQ hcall; have HCall : Hid (∀ W, Below wr.heap.size wr W → Calls Try.prog 88 _ W _) := hcall; obtain ⟨c0, c1, c2, c3, c4, -⟩ := blk5 HQ.out; clear hx0 hx1 hcall hlf hjl hlt hi HX HIH; go_wp2_with fail; refine (HCall.out _ (Below.refl _ _)).mono ?_; rintro e w5 ⟨m5, T5, ps5, gs5, rfl, h1, h2, h3, h4, h5⟩; have H1 : Hid ((fs ++ gs ++ gs5)[m5]? = some (.mk k n ks)) := h1; have H2 : Hid (Tab Ph w5 T5 bt (ps ++ ps' ++ ps5) (fs ++ gs ++ gs5)) := h2; have H3 : Hid (gs5.length ≤ 1) := h3; have H4 : Hid (∀ b, T5 b → T' b ∨ wr.heap.size ≤ b) := h4; (have H5 : Hid (Kept (fun b => ¬ T' b) wr w5) := h5); clear h1 h2 h3 h4 h5 c0 c1 c2 c3 c4 HCall; go_wp2_with fail; go_ret; (refine ⟨m5, T5, ps' ++ ps5, gs ++ gs5, rfl, by rw [← List.append_assoc]; exact H1.out, by rw [← List.append_assoc, ← List.append_assoc]; exact H2.out, ?_, fun b hb => ?_, ?_⟩)
      · have h6 := HGl.out
        have h7 := H3.out; rw [Fm.size, List.length_append]; omega
      · have hsw : w.heap.size + 2 ≤ wr.heap.size := HSz.out
        rcases H4.out b hb with h | h
        · rcases HT'.out b h with h | h
          · exact Or.inl h
          · exact Or.inr (by omega)
        · exact Or.inr (by omega)
      · exact kept_far HKe.out H5.out fun b hb h h' => by
          rcases HT'.out b h' with h2 | h2
          · exact h h2
          · omega
theorem nums_all {Ph : Fm → Prop} (hc : Closed Ph) : ∀ m, Nums Ph m
  | 0 => fun _ _ _ _ _ _ _ h => absurd h (Nat.not_lt_zero _)
  | m + 1 => num_step hc m (nums_all hc m)
/-- A formula's number: the table holds it from then on. -/
theorem number_any {Ph : Fm → Prop} (hc : Closed Ph) (f : Fm) (v : Value) (w : World) (T : Nat → Prop) (bt : Nat) (ps : List PartM) (fs : List Fm) (hf : Ph f) (hrep : Rep w (fun b => ¬ T b) f v) (htab : Tab Ph w T bt ps fs) (hl : fs.length + f.size ≤ 100000) :
    Calls Try.prog 51 #[.pointer (some ⟨bt, 0, none⟩), v] w fun e w' => ∃ n T' ps' gs, e = .returned (.int .i64 (n : Nat)) ∧ (fs ++ gs)[n]? = some f ∧ Tab Ph w' T' bt (ps ++ ps') (fs ++ gs) ∧ gs.length ≤ f.size ∧ (∀ b, T' b → T b ∨ w.heap.size ≤ b) ∧ Kept (fun b => ¬ T b) w w' :=
  nums_all hc (f.size + 1) f v w T bt ps fs (Nat.lt_succ_self _) hf hrep htab hl
end Go.Proofs.Ytmahgfgndfcmpag
