/- Texts of one proof, one behind the other: KF2, KF3, KF4. -/
import Derived.Test.YtalnljnincnbdacGreatB19
import Derived.Deep.RegionHeld3
import Derived.Test.YtalnljnincnbdacGreatB14
import Derived.Test.YtalnljnincnbdacGreatB06
/- Walks: what is asked of items in a row. -/
namespace Go.Proofs.YtalnljnincnbdacGreat
open Go.RowKit Go.Sort

/-- What is asked of items. -/
structure PredI (fn : Nat) (rc cap : Array Value) (p : Nat → Bool) (D : Nat → Prop) (Ok : World → Prop) : Prop where
  up : ∀ {w w' : World}, Ok w → Below w.heap.size w w' → Ok w'
  ent : ∀ (v : Value) (w : World), (callFunc fn (rc.push v ++ cap)).run Tryz.prog w = .ok (.enter fn (rc.push v ++ cap)) w
  call : ∀ (t : Nat) (w : World), Ok w → D t → Calls Tryz.prog fn (rc.push (.int .i64 (t : Nat)) ++ cap) w fun e w' => e = .returned (.bool (p t)) ∧ Below w.heap.size w w'
/-- Where it is so first, or -1. -/
def fIdxN (p : Nat → Bool) (l : List Nat) : Int := if l.any p then (l.findIdx p : Nat) else -1
theorem fIdxN_neg {p : Nat → Bool} {l : List Nat} : (0 ≤ fIdxN p l) = (l.any p = true) := by
  unfold fIdxN
  split
  · rename_i h; simp [h]
  · rename_i h; simp [h]
theorem fIdxN_pos {p : Nat → Bool} {l : List Nat} (h : l.any p = true) : ∃ x, fIdxN p l = ((l.findIdx p : Nat) : Int) ∧ l[l.findIdx p]? = some x ∧ p x = true := by
  obtain ⟨y, hy, hp⟩ := List.any_eq_true.1 h; have hlt : l.findIdx p < l.length := List.findIdx_lt_length.2 ⟨y, hy, hp⟩; (refine ⟨l[l.findIdx p], by unfold fIdxN; rw [if_pos h], List.getElem?_eq_getElem hlt, List.findIdx_getElem⟩)
theorem findIdx_atN {p : Nat → Bool} {l : List Nat} {i : Nat} {t : Nat} (h : (l.take i).any p = false) (ht : l[i]? = some t) (hp : p t = true) : l.findIdx p = i := by
  have hi : i < l.length := by
    rcases Nat.lt_or_ge i l.length with h' | h'
    · exact h'
    · rw [List.getElem?_eq_none h'] at ht; cases ht
  rw [List.getElem?_eq_getElem hi] at ht; have e := Option.some.inj ht; rw [List.findIdx_eq hi]; (refine ⟨by rw [e]; exact hp, fun j hj => ?_⟩); (have := (List.any_eq_false.1 h) (l[j]'(by omega)) (List.mem_take_iff_getElem.2 ⟨j, by omega, rfl⟩)); simpa using this

set_option maxRecDepth 10000 in
set_option maxHeartbeats 2000000 in
theorem idxFunc_it {fn : Nat} {rc cp : Array Value} {p : Nat → Bool} {D : Nat → Prop} {Ok : World → Prop} (A : PredI fn rc cp p D Ok) (l : List Nat) (hmx : ∀ t ∈ l, D t) (v : Value) (w : World) (hv : IRow (fun _ => True) w v l) (hok : Ok w) :
    Calls Tryz.prog 94 #[v, .func (.func fn) rc cp] w fun e w' => e = .returned (.int .i64 (fIdxN p l)) ∧ Below w.heap.size w w' := by
  obtain ⟨ad, cap, rfl, h1, h2, h3⟩ := hv; (have hlI : (l.length : Int) ≤ 9223372036854775807 := by unfold maxLen at h2; omega); have H3 : Hid (l ≠ [] → ∃ g off, ad = some ⟨g, off, none⟩ ∧ True ∧ ∀ (j : Nat) (t : Nat), l[j]? = some t → w.cell? ⟨g, off + j, none⟩ = some (.int .i64 (t : Nat))) := h3; (have HA : Hid (∀ (t : Nat) (w : World), Ok w → D t → Calls Tryz.prog fn (rc.push (.int .i64 (t : Nat)) ++ cp) w fun e w' => e = .returned (.bool (p t)) ∧ Below w.heap.size w w') := A.call); have HU : Hid (∀ {w w' : World}, Ok w → Below w.heap.size w w' → Ok w') := A.up; have HMx : Hid (∀ t ∈ l, D t) := hmx; have HO : Hid (Ok w) := hok; have hcf := A.ent; clear h3 hmx hok A
  go_enter Tryz.func94, Tryz.ntmps94
  go_wp2_with fail
  go_loopg [8] l.length (fun g c wr => ∃ i, i ≤ l.length ∧ g = l.length - i ∧ c = .int .i64 (i : Nat) ∧ Below w.heap.size w wr ∧ Hid ((l.take i).any p = false))
  case atStart => exact ⟨0, by omega, by omega, rfl, Below.refl _ _, by show _ = _; rfl⟩
  case round =>
    obtain ⟨i, hi, hg, rfl, hbr, HN⟩ := hrel; have HG : Hid (gk = l.length - i) := hg; clear hg; by_cases hlt : i < l.length
    · obtain ⟨t, ht⟩ : ∃ x, l[i]? = some x := ⟨_, List.getElem?_eq_getElem hlt⟩
      (obtain ⟨g, off, rfl, -, hc⟩ := H3.out (fun e => by rw [e] at hlt; simp at hlt)); have g0 := (hbr.cell (p := ⟨g, off + i, none⟩) (lt_of_cell (hc i t ht))).trans (hc i t ht); (have hltI : (i : Int) < (l.length : Int) := by omega); (have hlc : (i : Int) < (cap : Int) := by omega); have hcc := HA.out t wr (HU.out HO.out hbr) (HMx.out t (List.mem_of_getElem? ht))
      have HXi : Hid (p t = true → fIdxN p l = ((i : Nat) : Int)) := fun hp => by
        unfold fIdxN; rw [if_pos (List.any_eq_true.2 ⟨t, List.mem_of_getElem? ht, hp⟩), findIdx_atN HN.out ht hp]
      have HXn : Hid (p t = false → (l.take (i + 1)).any p = false) := fun hp => by
        rw [List.take_add_one, ht, List.any_append, HN.out]; simp [hp]
      generalize p t = bb at *; have HCC : Hid (Calls Tryz.prog fn _ wr _) := hcc; clear hc ht H3 hcc; go_wp2_with fail; refine HCC.out.mono ?_; rintro e w1 ⟨rfl, hb1⟩; have B1 := below_join hbr hb1
      cases bb
      · have HX := HXn.out (by first | rfl | trivial)
        have HX' : Hid ((l.take (i + 1)).any p = false) := HX; clear HX HXn HXi; go_wp2_with fail
        go_roundg (l.length - (i + 1))
        case measure => have := HG.out; omega
        case rel => exact ⟨i + 1, by omega, rfl, by go_num, B1, HX'⟩
      · have HX := HXi.out (by first | rfl | trivial)
        have HX' : Hid (fIdxN p l = ((i : Nat) : Int)) := HX; clear HX HXn HXi; go_wp2_with fail; go_ret; (exact ⟨by rw [HX'.out]; rfl, B1⟩)
    · have HT : Hid (fIdxN p l = -1) := by
        have := HN.out; (rw [List.take_of_length_le (by omega)] at this); show _ = _; unfold fIdxN; rw [this]; rfl
      (have hge : ¬ (i : Int) < (l.length : Int) := by omega); clear H3 HN; go_wp2_with fail; go_ret; (exact ⟨by rw [HT.out]; rfl, hbr⟩)

set_option maxHeartbeats 1000000 in
theorem cntFunc_it {fn : Nat} {rc cp : Array Value} {p : Nat → Bool} {D : Nat → Prop} {Ok : World → Prop} (A : PredI fn rc cp p D Ok) (l : List Nat) (hmx : ∀ t ∈ l, D t) (v : Value) (w : World) (hv : IRow (fun _ => True) w v l) (hok : Ok w) :
    Calls Tryz.prog 173 #[v, .func (.func fn) rc cp] w fun e w' => e = .returned (.bool (l.any p)) ∧ Below w.heap.size w w' := by
  have hcall := idxFunc_it A l hmx v w hv hok; (have HX : Hid ((l.any p = true → 0 ≤ fIdxN p l) ∧ (l.any p = false → fIdxN p l = -1)) := ⟨fun h => by rw [fIdxN_neg]; exact h, fun h => by unfold fIdxN; rw [h]; rfl⟩); generalize fIdxN p l = r at *; clear hmx hok hv A
  cases hb : l.any p
  · have e := HX.out.2 hb
    subst e; clear HX hb
    go_enter Tryz.func173, Tryz.ntmps173
    go_wp2_with fail; refine hcall.mono ?_; rintro e w1 ⟨rfl, hb1⟩; go_wp2_with fail; go_ret; exact ⟨rfl, hb1⟩
  · have e := HX.out.1 hb
    clear HX hb
    go_enter Tryz.func173, Tryz.ntmps173
    go_wp2_with fail; refine hcall.mono ?_; rintro e w1 ⟨rfl, hb1⟩; go_wp2_with fail; go_ret; (exact ⟨by simp, hb1⟩)
end Go.Proofs.YtalnljnincnbdacGreat
/- Walks: by which rule a branch ends. -/
namespace Go.Proofs.YtalnljnincnbdacGreat
open Go.RowKit Go.Sort

theorem part_kind (k a c d : Int) (n : ByteArray) (w : World) : (Instr.field 158 (.agg #[.int .i64 k, .string n, .int .i64 a, .int .i64 c, .int .i64 d]) 0).run Tryz.prog w = .ok (.int .i64 k) w := by kernel_rfl
theorem across_lt {i N : Nat} (h : i < 2 * N) : acrossN i < 2 * N := by
  unfold acrossN itR; have := Nat.mod_two_eq_zero_or_one i
  split
  · omega
  · rename_i h0
    simp at h0; omega
set_option maxRecDepth 10000 in
set_option maxHeartbeats 4000000 in
theorem closingRule_any {x : Fx} {w : World} {M : Nat → Prop} {wh br : List Nat} {wk : Nat} {op : Bool} (h : FinSt x w M wh br wk op) (i : Nat) (hi : i < x.L) :
    Calls Tryz.prog 137 #[.pointer (some ⟨x.bf, 0, none⟩), .int .i64 (i : Nat)] w fun e w' => ∃ s, e = .returned (.string s) ∧ s.data.toList = closeR x.ps wh i ∧ s.size ≤ 5 ∧ Below w.heap.size w w' := by
  obtain ⟨Ph, K, T, bf, bt, bw, L, vW, ps, fs⟩ := x; have hwl := h.l2; have hpl := h.plen; simp only at hwl hpl hi ⊢; (have hi3 : i ≤ 3000000 := by omega); (obtain ⟨⟨k, n, ks⟩, hp⟩ : ∃ p, ps[i / 2]? = some p := ⟨_, List.getElem?_eq_getElem (by omega)⟩); obtain ⟨adB, cB, hfin, -, -⟩ := h.fin; (have hx : acrossN i < L := by rw [hwl]; exact across_lt (by omega)); have HF : Hid (w.heap[bf]? = some (.cells #[.pointer (some ⟨bt, 0, none⟩), vW, .slice (some ⟨bw, 0, none⟩) L L, .slice adB br.length cB, .int .i64 (wk : Nat), .bool op] 92 (0, 0))) := hfin
  have HC : Hid (closeR ps wh i = if k = 2 ∧ itR i = true then Ru.tr.text else if k = 3 ∧ itR i = false then Ru.fa.text else if wh.getD (acrossN i) 0 = 1 then Ru.ax.text else []) := by
    show _ = _; unfold closeR; rw [hp]; rfl
  rw [HC.out]; (have HT : Hid (∀ W, Below w.heap.size w W → Calls Tryz.prog 99 #[.pointer (some ⟨bt, 0, none⟩), .int .i64 ((i / 2 : Nat) : Int)] W fun e w' => e = .returned (.agg #[.int .i64 k, .string n, .int .i64 (ks.length : Nat), .int .i64 ((PartM.mk k n ks).k0 : Nat), .int .i64 ((PartM.mk k n ks).k1 : Nat)]) ∧ Below W.heap.size W w') := fun W hb => ppart_any W T bt ps _ (h.tab.up hb).tab (i / 2) _ hp); (have HW : Hid (∀ W, Below w.heap.size w W → W.cell? ⟨bw, acrossN i, none⟩ = some (.int .i64 ((wh.getD (acrossN i) 0 : Nat) : Int))) := fun W hb => ((h.up hb).wcell hx).1); (have HP : Hid (∀ W, Calls Tryz.prog 100 #[.int .i64 (i : Nat)] W _) := fun W => part_item i hi3 W); (have HR : Hid (∀ W, Calls Tryz.prog 101 #[.int .i64 (i : Nat)] W _) := fun W => isRight_item i hi3 W); (have HA : Hid (∀ W, Calls Tryz.prog 170 #[.int .i64 (i : Nat)] W _) := fun W => across_item i hi3 W); have hpk := part_kind; generalize (PartM.mk k n ks).k0 = a0 at *; generalize (PartM.mk k n ks).k1 = a1 at *; (have hxI : ((acrossN i : Nat) : Int) < (L : Int) := by omega); (have hx0 : (0 : Int) ≤ ((acrossN i : Nat) : Int) := by omega); (have hwI : (L : Int) ≤ 200000 := by omega); generalize itR i = rt at *; generalize acrossN i = ax at *; generalize wh.getD ax 0 = u at *; clear hp hwl hpl hi hx HC hfin h; obtain ⟨q0, q1, q2, -⟩ := blk6 HF.out
  have main : (k = 2 ∧ rt = true) ∨ (k = 3 ∧ rt = false) ∨ (k = 2 ∧ rt = false) ∨ (k = 3 ∧ rt = true) ∨ (¬ k = 2 ∧ ¬ k = 3) := by
    rcases Classical.em (k = 2) with h2 | h2
    · cases rt
      · exact Or.inr (Or.inr (Or.inl ⟨h2, rfl⟩))
      · exact Or.inl ⟨h2, rfl⟩
    · rcases Classical.em (k = 3) with h3 | h3
      · cases rt
        · exact Or.inr (Or.inl ⟨h3, rfl⟩)
        · exact Or.inr (Or.inr (Or.inr (Or.inl ⟨h3, rfl⟩)))
      · exact Or.inr (Or.inr (Or.inr (Or.inr ⟨h2, h3⟩)))
  rcases main with ⟨rfl, rfl⟩ | ⟨rfl, rfl⟩ | ⟨rfl, rfl⟩ | ⟨rfl, rfl⟩ | ⟨h2, h3⟩
  all_goals
    go_enter Tryz.func137, Tryz.ntmps137
    go_wp2_with fail
    go_region_held3 (fun w' => w'.cell? ⟨bf, 0, none⟩ = some (.pointer (some ⟨bt, 0, none⟩))) (go_keep)
      (first
       | (go_at_call 100
          refine (HP.out _).mono ?_; rintro e w1 ⟨rfl, hw1⟩
          subst hw1)
       | (go_at_call 99
          refine (HT.out _ (Below.refl _ _).drew).mono ?_; rintro e w2 ⟨rfl, hb2⟩; have HB2 : Hid (Below w.heap.size w w2) := below_join (Below.refl _ w).drew hb2; obtain ⟨i0, i1, i2, -⟩ := blk6 (below_keep HB2.out HF.out)
          clear hb2)
       | fail)
    go_wp2_with (first
      | (go_at_call 101
         refine (HR.out _).mono ?_; rintro e w3 ⟨rfl, hw3⟩
         subst hw3)
      | fail)
  · go_ret
    (exact ⟨_, rfl, rfl, by decide, HB2.out⟩)
  · go_ret
    (exact ⟨_, rfl, rfl, by decide, HB2.out⟩)
  all_goals
    have c0 := HW.out _ HB2.out; have HU : Hid (u = 1 ∨ ¬ u = 1) := Classical.em _
    go_region_held3 (fun w' => w'.cell? ⟨bf, 2, none⟩ = some (.slice (some ⟨bw, 0, none⟩) L L) ∧ w'.cell? ⟨bw, ax, none⟩ = some (.int .i64 (u : Nat))) (go_keep)
      (first
       | (go_at_call 170
          refine (HA.out _).mono ?_; rintro e w3 ⟨rfl, hw3⟩
          subst hw3)
       | fail)
  all_goals
    rcases HU.out with hu | hu
    · subst hu
      clear HU; go_wp2_with fail; go_ret; (refine ⟨_, rfl, ?_, by decide, by first | exact HB2.out.drew | exact HB2.out⟩); simp [*]
      try rfl
    · have huI : ¬ (u : Int) = 1 := by omega
      clear HU; go_wp2_with fail; go_ret; (refine ⟨_, rfl, ?_, by decide, by first | exact HB2.out.drew | exact HB2.out⟩); simp [*]
end Go.Proofs.YtalnljnincnbdacGreat
/- Walks: what is put in, and taken back. -/
namespace Go.Proofs.YtalnljnincnbdacGreat
open Go.RowKit Go.Sort

theorem wp_appI {P : Nat → Prop} {o : Oper} {a : Act} {w : World} {K : Act → World → Prop} {Q : Exit → Act → World → Prop} (s x : Operand) (hop : o.op = Op.call { callee := Callee.builtin Builtin.append, args := #[s, x], argTypes := #[78, 78] })
    (B : Nat) (is js : List Nat) (ad : Option Addr) (cp : Nat) (vx : Value) (hs : a.eval s = .slice ad is.length cp) (hown : w.ownsRow B 82 1 (.slice ad is.length cp) is.length (is.map fun i => (.int .i64 (i : Nat) : Value))) (hx : a.eval x = vx) (hg : IRow P w vx js) (hB : B ≤ w.heap.size) (hl : is.length + js.length ≤ 10000000)
    (h : ∀ ad3 cp3 w3, w3.ownsRow B 82 1 (.slice ad3 (is ++ js).length cp3) (is ++ js).length ((is ++ js).map fun i => (.int .i64 (i : Nat) : Value)) → Kept (fun b => (Value.slice ad is.length cp).ownBlock ≠ some b) w w3 → (∀ b, (Value.slice ad3 (is ++ js).length cp3).ownBlock = some b → (Value.slice ad is.length cp).ownBlock = some b ∨ (w.heap.size ≤ b ∧ b < w3.heap.size)) → K (a.put o.dst (.slice ad3 (is ++ js).length cp3)) w3) : Oper.wp Tryz.prog o a w K Q := by
  obtain ⟨i0, hi, hz0, hz1, hz2⟩ := infoItem; by_cases hne : js = []
  · subst hne
    obtain ⟨x0, c, rfl, -⟩ := hg
    have hsrc : Src Tryz.prog i0.size 78 (.slice x0 0 c) 0 [] w := by
      cases x0 with
      | none => exact Src.ofNil w Tryz.underlying78 c
      | some ad => exact Src.ofSlice w Tryz.underlying78 ad 0 c [] (by simp) (fun j u h => by simp at h) (fun u h => by cases h)
    have hrun := run_append_nothing (P := Tryz.prog) w 78 78 o.type 82 i0 Tryz.underlying78 hi ad is.length cp (row_caps hown).1 (.slice x0 0 c) hsrc; have hx' : a.eval x = .slice x0 0 c := hx; (have h9 := h ad cp w (by rw [List.append_nil]; exact hown) (Kept.refl _ _) (fun b hb => Or.inl (by rw [List.append_nil] at hb; exact hb))); rw [List.append_nil] at h9; unfold Oper.wp; simp [execOp, hop, resolve, invoke, builtin, hs, hx', hrun, Result.andThen]; exact h9
  · obtain ⟨x0, c, rfl, -, -, hcs⟩ := hg
    obtain ⟨bs, offs, rfl, -, hc⟩ := hcs hne; have hpos : 0 < js.length := List.length_pos_iff.2 hne
    refine wp_append_lies w s x 78 hop B 82 i0 (.int .i64 0) 1 8 Tryz.underlying78 hi hz0 hz1 hz2 rfl (by decide) _ _ _ hs hown ⟨bs, offs, none⟩ js.length c (js.map fun i => (.int .i64 (i : Nat) : Value)) hx (by simp) (fun j u hu => by
      rw [add_none]; rw [List.getElem?_map] at hu; obtain ⟨y, hy, rfl⟩ := Option.map_eq_some_iff.1 hu
      exact hc j y hy) (fun u hu => by
        obtain ⟨y, -, rfl⟩ := List.mem_map.1 hu
        rfl) hpos (by unfold maxLen; omega) (by omega) hB _ rfl ?_
    intro g3 cp3 w3 hown3 hgrow hat hlt3; have e : is.length + js.length = (is ++ js).length := List.length_append.symm; rw [e, ← List.map_append] at hown3; rw [e]
    exact h _ _ w3 hown3 ⟨hgrow.os, hgrow.tape, hgrow.output, hgrow.size, fun b hb hn => hgrow.block b hb fun e => hn e.symm⟩ fun b hb => by
      (have eb : g3 = b := by simpa [Value.ownBlock] using hb); subst eb
      rcases hat with h1 | h1
      · exact Or.inl h1
      · exact Or.inr ⟨by omega, hlt3⟩
theorem wpList_appI {P : Nat → Prop} {ops : Array Oper} {rest : List Oper} {o : Oper} {a : Act} {w : World} {Q : Exit → Act → World → Prop} (hgd : o.guard = none) (s x : Operand) (hop : o.op = Op.call { callee := Callee.builtin Builtin.append, args := #[s, x], argTypes := #[78, 78] })
    (B : Nat) (is js : List Nat) (ad : Option Addr) (cp : Nat) (vx : Value) (hs : a.eval s = .slice ad is.length cp) (hown : w.ownsRow B 82 1 (.slice ad is.length cp) is.length (is.map fun i => (.int .i64 (i : Nat) : Value))) (hx : a.eval x = vx) (hg : IRow P w vx js) (hB : B ≤ w.heap.size) (hl : is.length + js.length ≤ 10000000)
    (h : ∀ ad3 cp3 w3, w3.ownsRow B 82 1 (.slice ad3 (is ++ js).length cp3) (is ++ js).length ((is ++ js).map fun i => (.int .i64 (i : Nat) : Value)) → Kept (fun b => (Value.slice ad is.length cp).ownBlock ≠ some b) w w3 → (∀ b, (Value.slice ad3 (is ++ js).length cp3).ownBlock = some b → (Value.slice ad is.length cp).ownBlock = some b ∨ (w.heap.size ≤ b ∧ b < w3.heap.size)) → wpList Tryz.prog ops Q rest (a.put o.dst (.slice ad3 (is ++ js).length cp3)) w3) : wpList Tryz.prog ops Q (o :: rest) a w :=
  wpList_plain hgd fun _ hK => wp_appI s x hop B is js ad cp vx hs hown hx hg hB hl fun ad3 cp3 w3 h1 h2 h3 => hK _ _ (h ad3 cp3 w3 h1 h2 h3)
theorem IRow.some' {P : Nat → Prop} {w : World} {ad : Option Addr} {cap : Nat} {its : List Nat} (h : IRow P w (.slice ad its.length cap) its) {j t : Nat} (hj : its[j]? = some t) : ∃ b off, ad = some ⟨b, off, none⟩ ∧ P b ∧ w.cell? ⟨b, off + j, none⟩ = some (.int .i64 (t : Nat)) := by
  obtain ⟨ad', cap', e, -, -, h4⟩ := h; simp only [Value.slice.injEq, true_and] at e; obtain ⟨rfl, rfl⟩ := e; (obtain ⟨b, off, h5, h6, h7⟩ := h4 (fun e => by rw [e] at hj; simp at hj)); exact ⟨b, off, h5, h6, h7 j t hj⟩
/-- A row of one's own, read as items. -/
theorem owns_items {B : Nat} {w : World} {P : Nat → Prop} {ad : Option Addr} {cp : Nat} {is : List Nat} (h : w.ownsRow B 82 1 (.slice ad is.length cp) is.length (is.map fun i => (.int .i64 (i : Nat) : Value))) (hp : ∀ b, (Value.slice ad is.length cp).ownBlock = some b → P b) : IRow P w (.slice ad is.length cp) is := by
  (refine ⟨ad, cp, rfl, (row_caps h).1, (row_caps h).2, fun hne => ?_⟩); obtain ⟨g, rfl, hg⟩ := row_cells h (List.length_pos_iff.2 hne); (refine ⟨g, 0, rfl, hp g rfl, fun j t hj => ?_⟩); (have := hg j (.int .i64 (t : Nat)) (by rw [List.getElem?_map, hj]; rfl)); rw [add_none] at this; exact this

set_option maxRecDepth 10000 in
set_option maxHeartbeats 4000000 in
theorem fput_any {x : Fx} {w : World} {M : Nat → Prop} {wh br : List Nat} {wk : Nat} {op : Bool} (h : FinSt x w M wh br wk op) (items : List Nat) (v : Value) (hv : IRow (fun b => ¬ M b) w v items) (hb : ∀ i ∈ items, i < x.L) (hl : items.length ≤ 400000) (hbl : br.length ≤ 400000) :
    Calls Tryz.prog 50 #[.pointer (some ⟨x.bf, 0, none⟩), v] w fun e w' => ∃ M' v', e = .returned v' ∧ FinSt x w' M' (inF wh items).1 (br ++ (inF wh items).2) wk op ∧ IRow (fun b => w.heap.size ≤ b ∧ ¬ M' b) w' v' (inF wh items).2 ∧ (∀ b, M' b → M b ∨ w.heap.size ≤ b) ∧ (∀ b, M b → M' b) ∧ Kept (fun b => ¬ M b) w w' := by
  have hv' := hv; obtain ⟨ad, cap, rfl, hc1, hc2, -⟩ := hv'; obtain ⟨Ph, K, T, bf, bt, bw, L, vW, ps, fs⟩ := x; (have HV : Hid (IRow (fun b => ¬ M b) w (.slice ad items.length cap) items) := hv); have HB : Hid (∀ i ∈ items, i < L) := hb; have HS : Hid (FinSt ⟨Ph, K, T, bf, bt, bw, L, vW, ps, fs⟩ w M wh br wk op) := h; (have hlI : (items.length : Int) ≤ 400000 := by omega); (have hlc : (items.length : Int) ≤ (cap : Int) := by omega); have hL2 := h.l2; have hpl := h.plen; simp only at hL2 hpl; (have HLI : Hid ((L : Int) ≤ 200000) := by show (L : Int) ≤ 200000; omega); have HLn : Hid (items.length ≤ 400000) := hl; have HBn : Hid (br.length ≤ 400000) := hbl; clear hv hb h hL2 hpl hc1 hc2 hl hbl
  go_enter Tryz.func50, Tryz.ntmps50
  go_wp2_with fail
  go_loopg [10, 5] items.length (fun g c s wr => ∃ i adF cF wh' fr, i ≤ items.length ∧ g = items.length - i ∧ c = .int .i64 (i : Nat) ∧ s = .slice adF fr.length cF ∧ Hid ((wh', fr) = inF wh (items.take i)) ∧ Hid (FinSt ⟨Ph, K, T, bf, bt, bw, L, vW, ps, fs⟩ wr M wh' br wk op) ∧ Hid (wr.ownsRow w.heap.size 82 1 (.slice adF fr.length cF) fr.length (fr.map fun i => (.int .i64 (i : Nat) : Value))) ∧ Hid (Kept (fun b => ¬ M b) w wr) ∧ Hid (fr.length ≤ i))
  case atStart => exact ⟨0, none, 0, wh, [], by omega, by omega, rfl, rfl, by show _ = _; rfl, HS, ⟨rfl, Or.inl ⟨rfl, rfl⟩⟩, Kept.refl _ _, Nat.le_refl _⟩
  case round =>
    obtain ⟨i, adF, cF, wh', fr, hi, hg, rfl, rfl, HE, HF, HO, HK, HFl⟩ := hrel; have HG : Hid (gk = items.length - i) := hg; clear hg; by_cases hlt : i < items.length
    · obtain ⟨t, ht⟩ : ∃ t, items[i]? = some t := ⟨_, List.getElem?_eq_getElem hlt⟩
      obtain ⟨b, off, rfl, hPb, hcell⟩ := HV.out.some' ht; have g0 := (cell_of_block (a := ⟨b, off + i, none⟩) (HK.out.block b (lt_of_cell hcell) hPb)).trans hcell; have htL : t < L := HB.out t (List.mem_of_getElem? ht); obtain ⟨adB, cB, hfin, -, -⟩ := HF.out.fin; obtain ⟨q0, q1, q2, -⟩ := blk6 hfin; obtain ⟨w0, w1⟩ := HF.out.wcell (i := t) htL; simp only at w0 w1 q0 q1 q2; (have hltI : (i : Int) < (items.length : Int) := by omega); (have hltc : (i : Int) < (cap : Int) := by omega); (have htI : (t : Int) < (L : Int) := by omega); have hLI := HLI.out
      have HTk : Hid (items.take (i + 1) = items.take i ++ [t]) := by
        show _ = _; rw [List.take_add_one, ht]; rfl
      have HPs : Hid (inF wh (items.take (i + 1)) = inStep (wh', fr) t) := by
        show _ = _; rw [HTk.out, inF_snoc, ← HE.out]
      have HU : Hid (wh'.getD t 0 = wh'.getD t 0) := rfl; generalize hu : wh'.getD t 0 = u at w0; have HUe : Hid (wh'.getD t 0 = u) := hu; clear hcell hPb hfin ht hu HU; by_cases hz : u = 0
      · subst hz
        have HPz : Hid (inF wh (items.take (i + 1)) = (wh'.set t 1, fr ++ [t])) := by
          show _ = _; rw [HPs.out, inStep, if_pos HUe.out]
        clear HPs
        have hown1 := owns_same (w' := wr.setCell ⟨bw, t, none⟩ (.int .i64 1)) HO.out fun c hc => blk_other _ (fun e => by
          have h1 := (HO.out.lt c hc).1; have h2 := HS.out.old bw HS.out.mw
          omega)
        have hown2 := owns_up hown1 (show Below (wr.setCell ⟨bw, t, none⟩ (.int .i64 1)).heap.size _ _ from (Below.refl _ (wr.setCell ⟨bw, t, none⟩ (.int .i64 1))).alloc (Nat.le_refl _) (.cells #[.int .i64 (t : Nat)] 82 (0, 0)))
        have hrow : IRow (fun _ => True) ((wr.setCell ⟨bw, t, none⟩ (.int .i64 1)).alloc (.cells #[.int .i64 (t : Nat)] 82 (0, 0))) (.slice (some ⟨wr.heap.size, 0, none⟩) 1 1) [t] := IRow.one trivial (by
          have := blk_new (wr.setCell ⟨bw, t, none⟩ (.int .i64 1)) (.cells #[.int .i64 (t : Nat)] 82 (0, 0))
          rwa [size_set] at this)
        (have HRw : Hid (IRow (fun _ => True) ((wr.setCell ⟨bw, t, none⟩ (.int .i64 1)).alloc (.cells #[.int .i64 (t : Nat)] 82 (0, 0))) (.slice (some ⟨wr.heap.size, 0, none⟩) 1 1) [t]) := hrow); (have HO2 : Hid (((wr.setCell ⟨bw, t, none⟩ (.int .i64 1)).alloc (.cells #[.int .i64 (t : Nat)] 82 (0, 0))).ownsRow w.heap.size 82 1 (.slice adF fr.length cF) fr.length (fr.map fun i => (.int .i64 (i : Nat) : Value))) := hown2); clear hrow hown1 hown2
        go_wp2_with (first
          | (at_builtin
             go_loud (refine wpList_appI rfl _ _ rfl w.heap.size fr [t] adF cF _ rfl HO2.out rfl HRw.out ?_ ?_ ?_)
             · have := HK.out.size
               rw [World.size_alloc, size_set]; omega
             · have h1 := HFl.out
               have h2 := HLn.out
               simp
               omega
             intro ad3 cp3 w3 hown3 hk3 hat3; (have HO3 : Hid (w3.ownsRow w.heap.size 82 1 (.slice ad3 (fr ++ [t]).length cp3) (fr ++ [t]).length ((fr ++ [t]).map fun i => (.int .i64 (i : Nat) : Value))) := hown3); (have HK3 : Hid (Kept (fun b => (Value.slice adF fr.length cF).ownBlock ≠ some b) _ w3) := hk3)
             clear hown3 hk3 hat3)
          | fail)
        have HS3 : Hid (FinSt ⟨Ph, K, T, bf, bt, bw, L, vW, ps, fs⟩ w3 M (wh'.set t 1) br wk op) := by
          (refine (HF.out.put t 1).next (fun c hc hKM => ?_) ?_)
          · have hc' : c < wr.heap.size := by simpa [size_set] using hc
            have hk := HK3.out.block c (by rw [World.size_alloc, size_set]; omega) (fun e => by
              have h1 := (HO.out.lt c e).1
              rcases hKM with h2 | h2
              · have := (HS.out.km c h2).2
                omega
              · have := HS.out.old c h2
                omega)
            exact hk.trans (Below.heap_alloc _ _ _ hc)
          · have := HK3.out.size
            rw [World.size_alloc] at this; exact Nat.le_of_succ_le this
        have HK4 : Hid (Kept (fun b => ¬ M b) w w3) := by
          (refine kept_far (kept_far HK.out (kept_set (b := bw) (i := t) (v := .int .i64 1) (ok := fun c => c ≠ bw) fun c hc => hc) fun c _ hm e => hm (e ▸ HS.out.mw)) (ok' := fun c => (Value.slice adF fr.length cF).ownBlock ≠ some c) ?_ fun c hc _ e => ?_)
          · have hk := HK3.out
            (refine ⟨hk.os, hk.tape, hk.output, ?_, fun c hc hn => (hk.block c (by rw [World.size_alloc]; omega) hn).trans (Below.heap_alloc _ _ _ hc)⟩); have := hk.size; rw [World.size_alloc] at this; exact Nat.le_of_succ_le this
          · have := (HO.out.lt c e).1
            omega
        go_roundg (items.length - (i + 1))
        case measure => have := HG.out; omega
        case rel =>
          (refine ⟨i + 1, ad3, cp3, wh'.set t 1, fr ++ [t], by omega, rfl, by go_num, by simp, HPz.out.symm, HS3, HO3, HK4, ?_⟩); have := HFl.out; show _ ≤ _
          simp
          omega
      · have HPz : Hid (inF wh (items.take (i + 1)) = (wh', fr)) := by
          show _ = _; (rw [HPs.out, inStep, if_neg (by rw [HUe.out]; exact hz)])
        clear HPs; (have hzI : ¬ (u : Int) = 0 := by omega); go_wp2_with fail
        go_roundg (items.length - (i + 1))
        case measure => have := HG.out; omega
        case rel =>
          (refine ⟨i + 1, adF, cF, wh', fr, by omega, rfl, by go_num, rfl, HPz.out.symm, HF, HO, HK, ?_⟩); have := HFl.out; show _ ≤ _; omega
    · have hge : ¬ (i : Int) < (items.length : Int) := by omega
      (have hie : i = items.length := by omega); subst hie; rw [List.take_length] at HE; obtain ⟨adB, cB, hfin, hob, hmb⟩ := HF.out.fin; obtain ⟨q0, q1, q2, q3, q4, q5⟩ := blk6 hfin; (have HOB : Hid (wr.ownsRow 0 82 1 (.slice adB br.length cB) br.length (br.map fun i => .int .i64 (i : Nat))) := hob); have HMB : Hid (∀ b, (Value.slice adB br.length cB).ownBlock = some b → M b ∧ b ≠ bf ∧ b ≠ bw) := hmb; have HFi : Hid (wr.heap[bf]? = some (.cells #[.pointer (some ⟨bt, 0, none⟩), vW, .slice (some ⟨bw, 0, none⟩) L L, .slice adB br.length cB, .int .i64 (wk : Nat), .bool op] 92 (0, 0))) := hfin; (have HIF : Hid (IRow (fun b => w.heap.size ≤ b) wr (.slice adF fr.length cF) fr) := owns_items HO.out fun b e => (HO.out.lt b e).1); simp only at q0 q1 q2 q3 q4 q5; clear hfin hob hmb HV
      go_wp2_with (first
        | (at_builtin
           refine wpList_appI rfl _ _ rfl 0 br fr adB cB _ rfl HOB.out rfl HIF.out (Nat.zero_le _) ?_ ?_
           · have h1 := HFl.out
             have h2 := HLn.out; have h3 := HBn.out; omega
           intro ad3 cp3 w3 hown3 hk3 hat3; (have HO3 : Hid (w3.ownsRow 0 82 1 (.slice ad3 (br ++ fr).length cp3) (br ++ fr).length ((br ++ fr).map fun i => (.int .i64 (i : Nat) : Value))) := hown3); (have HK3 : Hid (Kept (fun b => (Value.slice adB br.length cB).ownBlock ≠ some b) wr w3) := hk3); have HA3 : Hid (∀ b, (Value.slice ad3 (br ++ fr).length cp3).ownBlock = some b → (Value.slice adB br.length cB).ownBlock = some b ∨ (wr.heap.size ≤ b ∧ b < w3.heap.size)) := hat3; (have HF3 : Hid (w3.heap[bf]? = _) := (HK3.out.block bf (lt_of_block HFi.out) (fun e => (HMB.out bf e).2.1 rfl)).trans HFi.out); obtain ⟨r0, r1, r2, r3, r4, r5⟩ := blk6 HF3.out; have r6 := blk_fz HF3.out 3
           clear hown3 hk3 hat3)
        | fail)
      go_ret; rw [← HE.out]; simp only
      have hS3 : FinSt ⟨Ph, K, T, bf, bt, bw, L, vW, ps, fs⟩ (w3.setCell ⟨bf, 3, none⟩ (.slice ad3 (br ++ fr).length cp3)) (fun b => M b ∨ (Value.slice ad3 (br ++ fr).length cp3).ownBlock = some b) wh' (br ++ fr) wk op := by
        have own3 : ∀ b, (Value.slice ad3 (br ++ fr).length cp3).ownBlock = some b → b ≠ bf ∧ b ≠ bw := fun b e => by
          rcases HA3.out b e with h1 | h1
          · exact (HMB.out b h1).2
          · have h2 := HF.out.old bf HF.out.mf
            have h3 := HF.out.old bw HF.out.mw; (exact ⟨fun e => by subst e; exact absurd h2 (Nat.not_lt.2 h1.1), fun e => by subst e; exact absurd h3 (Nat.not_lt.2 h1.1)⟩)
        (refine HF.out.fins (adB := ad3) (cB := cp3) (fun b hb hKb => ?_) ?_ ?_ ?_ (fun b e => ⟨Or.inr e, own3 b e⟩) (fun b h => Or.inl h) (fun b h => ?_) (fun b h => ?_))
        · have hbf : b ≠ bf := by
            rcases hKb with h1 | h1
            · exact fun e => (HF.out.km b h1).1 (e ▸ HF.out.mf)
            · exact fun e => HF.out.ne (e.symm.trans h1)
          (refine (blk_other _ hbf).trans (HK3.out.block b hb fun e => ?_))
          rcases hKb with h1 | h1
          · exact (HF.out.km b h1).1 (HMB.out b e).1
          · exact (HMB.out b e).2.2 h1
        · rw [size_set]
          exact HK3.out.size
        · rw [blk_set HF3.out]
          rfl
        · exact owns_same HO3.out fun b e => blk_other _ (own3 b e).1
        · rcases h with h | h
          · exact Or.inl h
          · rcases HA3.out b h with h1 | h1
            · exact Or.inl (HMB.out b h1).1
            · exact Or.inr h1.1
        · rw [size_set]
          rcases h with h | h
          · exact Nat.lt_of_lt_of_le (HF.out.old b h) HK3.out.size
          · rcases HA3.out b h with h1 | h1
            · exact Nat.lt_of_lt_of_le (HF.out.old b (HMB.out b h1).1) HK3.out.size
            · exact h1.2
      (refine ⟨fun b => M b ∨ (Value.slice ad3 (br ++ fr).length cp3).ownBlock = some b, _, rfl, by first | exact hS3 | (rw [List.length_append] at hS3 ⊢; exact hS3), ?_, ?_, fun b h => Or.inl h, ?_⟩)
      · refine HIF.out.move fun b hb hp => ?_
        have hnM : ¬ M b := fun hm => by
          have := HS.out.old b hm; omega
        (have hb1 : b ≠ bf := fun e => hnM (e ▸ HS.out.mf)); (refine ⟨(blk_other _ hb1).trans (HK3.out.block b hb fun e => hnM (HMB.out b e).1), hp, fun hm => ?_⟩)
        rcases hm with hm | hm
        · exact hnM hm
        · rcases HA3.out b hm with h1 | h1
          · exact hnM (HMB.out b h1).1
          · omega
      · intro b hm
        rcases hm with hm | hm
        · exact Or.inl hm
        · rcases HA3.out b hm with h1 | h1
          · exact Or.inl (HMB.out b h1).1
          · exact Or.inr (Nat.le_trans HK.out.size h1.1)
      · refine kept_far (kept_far HK.out HK3.out fun b _ hm e => hm (HMB.out b e).1) (ok' := fun c => c ≠ bf) (kept_set fun c hc => hc) fun b _ hm e => hm (e ▸ HS.out.mf)
end Go.Proofs.YtalnljnincnbdacGreat
