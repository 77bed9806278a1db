/- Texts of one proof, one behind the other: CB2, CB3, CB4, CB6, CP1, CC1, CC2. -/
import Derived.Test.YtalnljnincnbdacGreatB09
import Derived.Lib.AppendZerosOnto
import Derived.Test.YtalnljnincnbdacGreatB08
import Derived.Deep.RegionLaw
import Derived.Lib.SliceRun
import Derived.Test.YtalnljnincnbdacGreatB01
/- Walks: room for formulas (slices.Grow). -/
namespace Go.Proofs.YtalnljnincnbdacGreat
open Go.RowKit

set_option maxRecDepth 10000 in
set_option maxHeartbeats 2000000 in
theorem grow_zero (w : World) :
    Calls Tryz.prog 133 #[.slice none 0 0, .int .i64 0] w fun e w' => e = .returned (.slice none 0 0) ∧ w' = w := by
  go_enter Tryz.func133, Tryz.ntmps133
  go_wp2_with fail; go_ret; exact ⟨rfl, rfl⟩

set_option maxRecDepth 10000 in
set_option maxHeartbeats 2000000 in
theorem grow_some (n : Nat) (hn : 0 < n) (hn2 : n ≤ 1000) (w : World) :
    Calls Tryz.prog 133 #[.slice none 0 0, .int .i64 (n : Nat)] w fun e w' => ∃ g cp, e = .returned (.slice (some ⟨g, 0, none⟩) 0 cp) ∧ w'.ownsRow w.heap.size 29 3 (.slice (some ⟨g, 0, none⟩) 0 cp) 0 [] ∧ Below w.heap.size w w' := by
  obtain ⟨i0, hi, hz0, hz1, hz2⟩ := infoFormula; (have hnI : (0 : Int) < (n : Int) := by omega); (have hnJ : (n : Int) ≤ 1000 := by omega)
  have hrz : ∀ ty, (Builtin.append_ #[22, 3] ty #[.slice none 0 0, .int .i64 (n : Nat)]).run Tryz.prog w = .ok (.slice (some ⟨w.heap.size, 0, none⟩) n (grownCap w n 0 29)) (w.drew.alloc (.cells (#[] ++ Builtin.zeroCells (Value.agg #[.int .i64 0, .string ⟨#[]⟩, .slice none 0 0]).cells n ++ Builtin.zeroCells (Value.agg #[.int .i64 0, .string ⟨#[]⟩, .slice none 0 0]).cells (grownCap w n 0 29 - n)) 29)) := fun ty => by
    (have h := Lib.run_append_grow_zeros w 22 3 ty 29 i0 (.agg #[.int .i64 0, .string ⟨#[]⟩, .slice none 0 0]) .i64 .i64 Tryz.underlying22 Tryz.underlying3 hi hz0 none 0 0 [] (run_firstCells_none w.drew i0.size 0 0 0) n hn (by omega) (by omega) (by omega) (by rw [hz2]; omega) (by rw [hz2]; exact growslice_fits (by omega) (by omega))); simpa using h
  have hGn : n ≤ grownCap w n 0 29 := grownCap_ge w _ _ _; (have hGm : grownCap w n 0 29 ≤ maxLen := grownCap_le_maxLen w n 0 29 (by unfold maxLen; omega)); generalize grownCap w n 0 29 = G at *; (have hG63 : (G : Int) ≤ 9223372036854775807 := by unfold maxLen at hGm; omega)
  have hOw : (w.drew.alloc (.cells (#[] ++ Builtin.zeroCells (Value.agg #[.int .i64 0, .string ⟨#[]⟩, .slice none 0 0]).cells n ++ Builtin.zeroCells (Value.agg #[.int .i64 0, .string ⟨#[]⟩, .slice none 0 0]).cells (G - n)) 29)).ownsRow w.heap.size 29 3 (.slice (some ⟨w.heap.size, 0, none⟩) 0 G) 0 [] := by
    refine ⟨rfl, Or.inr ⟨w.heap.size, G, _, rfl, Nat.le_refl _, blk_new _ _, Nat.zero_le _, hGm, ?_, rfl⟩⟩; have h3 : (Value.agg #[.int .i64 0, .string ⟨#[]⟩, .slice none 0 0]).cells.size = 3 := rfl; rw [Array.size_append, Array.size_append, size_zeroCells, size_zeroCells, h3]; simp only [Array.size_empty]; omega
  have HOw : Hid (World.ownsRow _ _ _ _ _ _ _) := hOw; have hBw : Below w.heap.size w (w.drew.alloc (.cells (#[] ++ Builtin.zeroCells (Value.agg #[.int .i64 0, .string ⟨#[]⟩, .slice none 0 0]).cells n ++ Builtin.zeroCells (Value.agg #[.int .i64 0, .string ⟨#[]⟩, .slice none 0 0]).cells (G - n)) 29)) := below_more (Below.refl _ w).drew _; generalize w.drew.alloc _ = W at *; clear hOw hz0 hz1 hz2 hi
  go_enter Tryz.func133, Tryz.ntmps133
  go_wp2_with (first
    | (at_builtin
       refine Lib.wpList_append_run _ rfl _ _ _ _ rfl _ _ rfl rfl _ _ (hrz _) ?_)
    | fail)
  all_goals
    go_ret; exact ⟨_, _, rfl, HOw.out, hBw⟩
end Go.Proofs.YtalnljnincnbdacGreat
/- Walks: two lists of formulas behind each other (slices.Concat). -/
namespace Go.Proofs.YtalnljnincnbdacGreat
open Go.RowKit

/-- More formulas are appended to a list of one's own. -/
def AppL (A B : Nat) (fs : List Fm) (ad : Option Addr) (cp : Nat) (w : World) : Prop := ∃ cs, w.ownsRow B 29 3 (.slice ad fs.length cp) fs.length cs ∧ LQ (fun b => b < A) w cs fs
theorem AppL.flp {A B : Nat} {fs : List Fm} {ad : Option Addr} {cp : Nat} {w : World} (h : AppL A B fs ad cp w) (hAB : A ≤ B) : FLp (fun b => b < A ∨ B ≤ b) w (.slice ad fs.length cp) fs := by
  obtain ⟨cs, h1, h2⟩ := h; (refine kp_list (B := B) ⟨cs, h1, h2.move fun b _ hb => ⟨rfl, Or.inl hb, fun e => ?_⟩⟩ fun _ h => Or.inr h); have := (h1.lt b e).1; omega

theorem AppL.shape {A B : Nat} {fs : List Fm} {ad : Option Addr} {cp : Nat} {w : World} (h : AppL A B fs ad cp w) : (ad = none ∧ cp = 0 ∧ fs = []) ∨ ∃ g, ad = some ⟨g, 0, none⟩ ∧ fs.length ≤ cp := by
  obtain ⟨cs, ⟨h0, h1⟩, h2⟩ := h
  rcases h1 with ⟨hv, hn⟩ | ⟨g, cap, cur, hv, -, -, hl, -⟩
  · simp only [Value.slice.injEq] at hv
    exact Or.inl ⟨hv.1, hv.2.2, List.length_eq_zero_iff.1 hn⟩
  · simp only [Value.slice.injEq, true_and] at hv
    obtain ⟨rfl, rfl⟩ := hv; exact Or.inr ⟨g, rfl, hl⟩
theorem grow_any (A n : Nat) (hn : n ≤ 1000) (w : World) :
    Calls Tryz.prog 133 #[.slice none 0 0, .int .i64 (n : Nat)] w fun e w' => ∃ ad cp, e = .returned (.slice ad 0 cp) ∧ AppL A w.heap.size [] ad cp w' ∧ Below w.heap.size w w' := by
  rcases Nat.eq_zero_or_pos n with rfl | h0
  · refine (grow_zero w).mono ?_
    rintro e w' ⟨rfl, rfl⟩; exact ⟨none, 0, rfl, ⟨[], ⟨rfl, Or.inl ⟨rfl, rfl⟩⟩, trivial⟩, Below.refl _ _⟩
  · refine (grow_some n h0 hn w).mono ?_
    rintro e w' ⟨g, cp, rfl, ho, hb⟩; exact ⟨_, _, rfl, ⟨[], ho, trivial⟩, hb⟩

/-- What an append of formulas leaves. -/
theorem AppL.app {W w2 w3 : World} {A : Nat} {fs gs : List Fm} {ad : Option Addr} {cp g3 cp3 : Nat} {cs ds : List Value} (hA : A ≤ W.heap.size) (B : Below W.heap.size W w2)
    (hown : w2.ownsRow W.heap.size 29 3 (.slice ad fs.length cp) fs.length cs) (hlq : LQ (fun b => b < A) w2 cs fs) (hds : LQ (fun b => b < A) w2 ds gs)
    (hown3 : w3.ownsRow W.heap.size 29 3 (.slice (some ⟨g3, 0, none⟩) (fs.length + gs.length) cp3) (fs.length + gs.length) (cs ++ ds)) (hgrow : w2.grownBy w3 (Value.slice ad fs.length cp).ownBlock) :
    AppL A W.heap.size (fs ++ gs) (some ⟨g3, 0, none⟩) cp3 w3 ∧ Below W.heap.size W w3 := by
  (have hk : ∀ j, j < W.heap.size → w3.heap[j]? = w2.heap[j]? := fun j hj => hgrow.block j (by have := B.size; omega) (fun e => by have := (hown.lt j e.symm).1; omega)); (refine ⟨⟨cs ++ ds, by rw [List.length_append]; exact hown3, (hlq.append hds).move fun b _ hb => ⟨hk b (by omega), hb⟩⟩, ?_, ?_, ?_, ?_, ?_⟩)
  all_goals first
    | exact hgrow.os.trans B.os
    | exact hgrow.tape.trans B.tape
    | exact hgrow.output.trans B.output
    | (have := hgrow.size; have := B.size; omega)
    | exact fun j hj => (hk j hj).trans (B.block j hj)

set_option maxRecDepth 10000 in
set_option maxHeartbeats 8000000 in
theorem concat_two (A : Nat) (l r : List Fm) (hl : l.length ≤ 400) (hr : r.length ≤ 400) (v u : Value) (b : Nat) (w : World) (hA : A ≤ w.heap.size) (hv : FLp (· < A) w v l) (hu : FLp (· < A) w u r) (hb : w.heap[b]? = some (.cells #[v, u] 22 (0, 0))) :
    Calls Tryz.prog 88 #[.slice (some ⟨b, 0, none⟩) 2 2] w fun e w' => ∃ ad cp, e = .returned (.slice ad (l ++ r).length cp) ∧ AppL A w.heap.size (l ++ r) ad cp w' ∧ Below w.heap.size w w' := by
  have HV : Hid (FLp (· < A) w v l) := hv; have HU : Hid (FLp (· < A) w u r) := hu; have HAw : Hid (A ≤ w.heap.size) := hA; clear hA; obtain ⟨adV, cpV, rfl, hv1, hv2, -⟩ := hv; obtain ⟨adU, cpU, rfl, hu1, hu2, -⟩ := hu; obtain ⟨i0, hi, hz0, hz1, hz2⟩ := infoFormula; have HIo : Hid (Tryz.prog.info? 29 = some i0 ∧ i0.zero = some (.agg #[.int .i64 0, .string ⟨#[]⟩, .slice none 0 0]) ∧ i0.size = 3 ∧ i0.bytes = 48) := ⟨hi, hz0, hz1, hz2⟩; obtain ⟨a0, a1, -⟩ := blk2 hb; (have hlI : (l.length : Int) ≤ 400 := by omega); (have hrI : (r.length : Int) ≤ 400 := by omega); clear hi hz0 hz1 hz2 hv1 hv2 hu1 hu2
  go_enter Tryz.func88, Tryz.ntmps88
  go_wp2_with fail
  go_loopg [11, 3] 2 (fun g c o wr => (g = 2 ∧ c = .int .i64 0 ∧ o = .int .i64 0 ∧ wr = w) ∨ (g = 1 ∧ c = .int .i64 1 ∧ o = .int .i64 (l.length : Nat) ∧ wr = w) ∨ (g = 0 ∧ c = .int .i64 2 ∧ o = .int .i64 ((l.length + r.length : Nat) : Int) ∧ wr = w))
  case atStart => exact Or.inl ⟨rfl, rfl, rfl, rfl⟩
  case round =>
    rcases hrel with ⟨hg, rfl, rfl, hw⟩ | ⟨hg, rfl, rfl, hw⟩ | ⟨hg, rfl, rfl, hw⟩
    · have hw' := hw.symm
      subst hw'; have HG : Hid (gk = 2) := hg; clear hg; go_wp2_with fail
      go_roundg 1
      case measure => have := HG.out; omega
      case rel => exact Or.inr (Or.inl ⟨rfl, by go_num, by go_num, rfl⟩)
    · have hw' := hw.symm
      subst hw'; have HG : Hid (gk = 1) := hg; clear hg; go_wp2_with fail
      go_roundg 0
      case measure => have := HG.out; omega
      case rel => exact Or.inr (Or.inr ⟨rfl, by go_num, by go_num, rfl⟩)
    · have hw' := hw.symm
      subst hw'; clear hg; go_wp2_with fail; (rw [show ((l.length : Int) + (r.length : Int)) = ((l.length + r.length : Nat) : Int) by simp]); (refine (grow_any A (l.length + r.length) (by omega) w).mono ?_); rintro e w2 ⟨ad0, cp0, rfl, hA, B2⟩; have HA : Hid (AppL A w.heap.size [] ad0 cp0 w2) := hA; clear hA a0 a1; have HB : Hid (w.heap[b]? = some (.cells #[.slice adV l.length cpV, .slice adU r.length cpU] 22 (0, 0))) := hb; clear hb; go_wp2_with fail
      go_loopg [27, 6] 2 (fun g c o wr => Hid (Below w.heap.size w wr) ∧ ((∃ ad cp, g = 2 ∧ c = .int .i64 0 ∧ o = .slice ad 0 cp ∧ Hid (AppL A w.heap.size [] ad cp wr)) ∨ (∃ ad cp, g = 1 ∧ c = .int .i64 1 ∧ o = .slice ad l.length cp ∧ Hid (AppL A w.heap.size l ad cp wr)) ∨ (∃ ad cp, g = 0 ∧ c = .int .i64 2 ∧ o = .slice ad (l ++ r).length cp ∧ Hid (AppL A w.heap.size (l ++ r) ad cp wr))))
      case atStart => exact ⟨B2, Or.inl ⟨ad0, cp0, rfl, rfl, rfl, HA⟩⟩
      case round =>
        clear HA B2; obtain ⟨HW, hrel⟩ := hrel; obtain ⟨a0, a1, -⟩ := blk2 (below_keep HW.out HB.out)
        rcases hrel with ⟨ad, cp, hg, rfl, rfl, HA⟩ | ⟨ad, cp, hg, rfl, rfl, HA⟩ | ⟨ad, cp, hg, rfl, rfl, HA⟩
        · have HG : Hid (gk = 2) := hg
          clear hg; by_cases hne : l = []
          · subst hne
            have BW := HW.out; (have hpu : ∀ w : World, (pure #[] : Sem (Array Value)).run Tryz.prog w = .ok #[] w := fun _ => rfl); (have hsc : ∀ (a : Addr) (w : World), (storeCells a ([] : List Value)).run Tryz.prog w = .ok () w := fun _ _ => rfl)
            rcases HA.out.shape with ⟨rfl, rfl, hd⟩ | ⟨gg, rfl, hle⟩
            · 
              clear hd
              cases adV
              all_goals
                go_wp2_with fail
                go_roundg 1
                case measure => have := HG.out; omega
                case rel => exact ⟨BW, Or.inr (Or.inl ⟨none, 0, rfl, by go_num, by simp, HA.out⟩)⟩
            · clear hle
              cases adV
              all_goals
                go_wp2_with fail
                go_roundg 1
                case measure => have := HG.out; omega
                case rel => exact ⟨BW, Or.inr (Or.inl ⟨_, _, rfl, by go_num, by simp, HA.out⟩)⟩
          · obtain ⟨bs, offs, ds, rfl, hds, hcs⟩ := HV.out.cells hne
            have BW := HW.out; have hpos : 0 < l.length := List.length_pos_iff.2 hne; obtain ⟨cs, hown, hlq⟩ := HA.out; (have hds' := hds.move (ok' := fun b => b < A) (w' := wr) fun b hb hp => ⟨BW.block b hb, hp⟩); have HD : Hid (LQ _ wr ds l) := hds'; have HL : Hid (LQ _ wr cs []) := hlq; have hlen := hds.len; have HOne : Hid (∀ u ∈ ds, u.oneCell' = true) := hds.one; (have HCs : Hid (∀ (j : Nat) (u : Value), ds[j]? = some u → wr.cell? ⟨bs, offs + j, none⟩ = some u) := fun j u hu => (BW.cell (p := ⟨bs, offs + j, none⟩) (lt_of_cell (hcs j u hu))).trans (hcs j u hu)); obtain ⟨hi, hz0, hz1, hz2⟩ := HIo.out; have zw := BW.size; clear hds hds' hcs hlq hne
            go_wp2_with (first
              | (at_builtin
                 refine wpList_append_lies _ rfl _ _ 22 rfl w.heap.size 29 i0 (.agg #[.int .i64 0, .string ⟨#[]⟩, .slice none 0 0]) 3 48 Tryz.underlying22 hi hz0 hz1 hz2 rfl (by decide) _ _ _ rfl hown ⟨bs, offs, none⟩ l.length cpV ds rfl hlen (fun j u hu => by
                   rw [add_none]
                   exact HCs.out j u hu) HOne.out hpos (by unfold maxLen; simp; omega) (by simp; omega) zw _ rfl ?_
                 intro g3 cp3 w3 hown3 hgrow hat hlt3)
              | fail)
            obtain ⟨hA3, B3⟩ := AppL.app (gs := l) HAw.out BW hown HL.out HD.out hown3 hgrow; have HA3 : Hid (AppL A w.heap.size ([] ++ l) (some ⟨g3, 0, none⟩) cp3 w3) := hA3; clear hown hown3 hgrow hat hA3 hlen hi hz0 hz1 hz2; go_wp2_with fail
            go_roundg 1
            case measure => have := HG.out; omega
            case rel => exact ⟨B3, Or.inr (Or.inl ⟨_, _, rfl, by go_num, by simp, HA3.out⟩)⟩
        · have HG : Hid (gk = 1) := hg
          clear hg; by_cases hne : r = []
          · subst hne
            have BW := HW.out; (have hpu : ∀ w : World, (pure #[] : Sem (Array Value)).run Tryz.prog w = .ok #[] w := fun _ => rfl); (have hsc : ∀ (a : Addr) (w : World), (storeCells a ([] : List Value)).run Tryz.prog w = .ok () w := fun _ _ => rfl)
            rcases HA.out.shape with ⟨rfl, rfl, hd⟩ | ⟨gg, rfl, hle⟩
            · subst hd
              
              cases adU
              all_goals
                go_wp2_with fail
                go_roundg 0
                case measure => have := HG.out; omega
                case rel => exact ⟨BW, Or.inr (Or.inr ⟨none, 0, rfl, by go_num, by simp, by rw [List.append_nil]; exact HA.out⟩)⟩
            · have hleI : (l.length : Int) ≤ (cp : Int) := by omega
              cases adU
              all_goals
                go_wp2_with fail
                go_roundg 0
                case measure => have := HG.out; omega
                case rel => exact ⟨BW, Or.inr (Or.inr ⟨some ⟨gg, 0, none⟩, cp, rfl, by go_num, by simp, by rw [List.append_nil]; exact HA.out⟩)⟩
          · obtain ⟨bs, offs, ds, rfl, hds, hcs⟩ := HU.out.cells hne
            have BW := HW.out; have hpos : 0 < r.length := List.length_pos_iff.2 hne; obtain ⟨cs, hown, hlq⟩ := HA.out; (have hds' := hds.move (ok' := fun b => b < A) (w' := wr) fun b hb hp => ⟨BW.block b hb, hp⟩); have HD : Hid (LQ _ wr ds r) := hds'; have HL : Hid (LQ _ wr cs l) := hlq; have hlen := hds.len; have HOne : Hid (∀ u ∈ ds, u.oneCell' = true) := hds.one; (have HCs : Hid (∀ (j : Nat) (u : Value), ds[j]? = some u → wr.cell? ⟨bs, offs + j, none⟩ = some u) := fun j u hu => (BW.cell (p := ⟨bs, offs + j, none⟩) (lt_of_cell (hcs j u hu))).trans (hcs j u hu)); obtain ⟨hi, hz0, hz1, hz2⟩ := HIo.out; have zw := BW.size; clear hds hds' hcs hlq hne
            go_wp2_with (first
              | (at_builtin
                 refine wpList_append_lies _ rfl _ _ 22 rfl w.heap.size 29 i0 (.agg #[.int .i64 0, .string ⟨#[]⟩, .slice none 0 0]) 3 48 Tryz.underlying22 hi hz0 hz1 hz2 rfl (by decide) _ _ _ rfl hown ⟨bs, offs, none⟩ r.length cpU ds rfl hlen (fun j u hu => by
                   rw [add_none]
                   exact HCs.out j u hu) HOne.out hpos (by unfold maxLen; omega) (by omega) zw _ rfl ?_
                 intro g3 cp3 w3 hown3 hgrow hat hlt3)
              | fail)
            obtain ⟨hA3, B3⟩ := AppL.app (gs := r) HAw.out BW hown HL.out HD.out hown3 hgrow; have HA3 : Hid (AppL A w.heap.size (l ++ r) (some ⟨g3, 0, none⟩) cp3 w3) := hA3; clear hown hown3 hgrow hat hA3 hlen hi hz0 hz1 hz2; go_wp2_with fail
            go_roundg 0
            case measure => have := HG.out; omega
            case rel => exact ⟨B3, Or.inr (Or.inr ⟨_, _, rfl, by go_num, by simp, HA3.out⟩)⟩
        · clear hg
          have BW := HW.out; go_wp2_with fail; go_ret; exact ⟨ad, cp, rfl, HA.out, BW⟩
end Go.Proofs.YtalnljnincnbdacGreat
/- Walks: package bag, and what is plain. -/
namespace Go.Proofs.YtalnljnincnbdacGreat
open Go.RowKit

theorem concat_any (A : Nat) (l r : List Fm) (hl : l.length ≤ 400) (hr : r.length ≤ 400) (v u : Value) (b : Nat) (w : World) (hA : A ≤ w.heap.size) (hv : FLp (· < A) w v l) (hu : FLp (· < A) w u r) (hb : w.heap[b]? = some (.cells #[v, u] 22 (0, 0))) :
    Calls Tryz.prog 88 #[.slice (some ⟨b, 0, none⟩) 2 2] w fun e w' => ∃ x, e = .returned x ∧ FLp (fun b => b < A ∨ w.heap.size ≤ b) w' x (l ++ r) ∧ Below w.heap.size w w' := by
  refine (concat_two A l r hl hr v u b w hA hv hu hb).mono ?_; rintro e w' ⟨ad, cp, rfl, h, hB⟩; exact ⟨_, rfl, h.flp hA, hB⟩

theorem vcode_nil (f : Fm) : vcode f [] = f.pcode := by
  unfold vcode; by_cases h : f.pcode.1 = 0
  · rw [if_pos h, (pcode_ok h).2.2]
    simp
  · rw [if_neg h]

set_option maxHeartbeats 1000000 in
theorem plainCode_any (f : Fm) (v : Value) (w : World) (hrep : Rep w (fun _ => True) f v) :
    Calls Tryz.prog 89 #[v] w fun e w' => e = .returned (.int .i64 f.pcode.1) ∧ Below w.heap.size w w' := by
  (have hva := fun v u (w : World) h h' => value_any f [] (fun t h => by cases h) v u w h h'); rw [vcode_nil] at hva; generalize f.pcode = pc at *; obtain ⟨k, n, ks⟩ := f; obtain ⟨sl, cap, rfl⟩ := slice_shape hrep; (have HV : Hid (∀ v u w, Rep w (fun _ => True) (.mk k n ks) v → SL w u [] → Calls Tryz.prog 73 #[v, u] w _) := hva); obtain ⟨c, a⟩ := pc; clear hva
  go_enter Tryz.func89, Tryz.ntmps89
  go_wp2_with fail; (refine (HV.out _ _ _ (hrep.more _) ⟨none, 0, rfl, by simp, by simp, fun h => absurd rfl h⟩).mono ?_); rintro e w1 ⟨rfl, hb1⟩; have B1 := below_join (below_more (Below.refl _ w) _) hb1; go_wp2_with fail; go_ret; exact ⟨rfl, below_more B1 _⟩

theorem reps_take {P : Nat → Prop} {w : World} {b : Nat} : ∀ {fs : List Fm} {off : Nat} (i : Nat), Reps w P b off fs → Reps w P b off (fs.take i)
  | [], _, i, _ => by rw [List.take_nil]; exact Reps.nil
  | f :: fs, off, 0, _ => Reps.nil
  | f :: fs, off, i + 1, h => by
    rw [List.take_succ_cons]; rw [Reps.cons] at h ⊢; exact ⟨h.1, reps_take i h.2⟩
theorem reps_drop {P : Nat → Prop} {w : World} {b : Nat} : ∀ {fs : List Fm} {off : Nat} (i : Nat), Reps w P b off fs → Reps w P b (off + i * 3) (fs.drop i)
  | [], _, i, _ => by rw [List.drop_nil]; exact Reps.nil
  | f :: fs, off, 0, h => by simpa using h
  | f :: fs, off, i + 1, h => by
    (rw [List.drop_succ_cons, show off + (i + 1) * 3 = off + 3 + i * 3 by omega]); exact reps_drop i (Reps.cons.1 h).2
theorem FLp.take {P : Nat → Prop} {w : World} {ad : Option Addr} {cap : Nat} {fs : List Fm} (h : FLp P w (.slice ad fs.length cap) fs) {i : Nat} (hi : i ≤ fs.length) : FLp P w (.slice ad i cap) (fs.take i) := by
  obtain ⟨ad', cap', hv, h1, h2, h3⟩ := h; simp only [Value.slice.injEq, true_and] at hv; obtain ⟨rfl, rfl⟩ := hv; (refine ⟨ad, cap, by rw [List.length_take, Nat.min_eq_left hi], by rw [List.length_take]; omega, h2, fun hne => ?_⟩); (obtain ⟨b, off, h5, h6, h7⟩ := h3 (fun e => hne (by rw [e]; simp))); exact ⟨b, off, h5, h6, reps_take i h7⟩
theorem FLp.drop {P : Nat → Prop} {w : World} {b off : Nat} {cap : Nat} {fs : List Fm} (h : FLp P w (.slice (some ⟨b, off, none⟩) fs.length cap) fs) {i : Nat} (hi : i ≤ fs.length) {ad : Option Addr} (hlt : i < fs.length → ad = some ⟨b, off + i * 3, none⟩) : FLp P w (.slice ad (fs.length - i) (cap - i)) (fs.drop i) := by
  obtain ⟨ad', cap', hv, h1, h2, h3⟩ := h; simp only [Value.slice.injEq, true_and] at hv; obtain ⟨rfl, rfl⟩ := hv; (refine ⟨ad, cap - i, by rw [List.length_drop], by rw [List.length_drop]; omega, by omega, fun hne => ?_⟩)
  have hil : i < fs.length := by
    rcases Nat.lt_or_ge i fs.length with h | h
    · exact h
    · exact absurd (List.drop_of_length_le h) hne
  (obtain ⟨b', off', h5, h6, h7⟩ := h3 (fun e => hne (by rw [e]; simp))); simp only [Option.some.injEq, Addr.mk.injEq, and_true] at h5; obtain ⟨rfl, rfl⟩ := h5; exact ⟨b, off + i * 3, hlt hil, h6, reps_drop i h7⟩
end Go.Proofs.YtalnljnincnbdacGreat
/- Walks: slices.Delete of one formula; bag.IsWithin, bag.IsEqual. -/
namespace Go.Proofs.YtalnljnincnbdacGreat
open Go.RowKit

theorem LQ.take {ok : Nat → Prop} {w : World} : ∀ {cs : List Value} {fs : List Fm} (i : Nat), LQ ok w cs fs → LQ ok w (cs.take (i * 3)) (fs.take i)
  | [], [], i, _ => by simp [LQ]
  | _ :: _ :: _ :: _, _ :: _, 0, _ => by simp [LQ]
  | c0 :: c1 :: c2 :: cs, f :: fs, i + 1, h => by
    (rw [show (i + 1) * 3 = i * 3 + 1 + 1 + 1 by omega]); simp only [List.take_succ_cons]; exact ⟨h.1, LQ.take i h.2⟩
theorem LQ.drop {ok : Nat → Prop} {w : World} : ∀ {cs : List Value} {fs : List Fm} (i : Nat), LQ ok w cs fs → LQ ok w (cs.drop (i * 3)) (fs.drop i)
  | [], [], i, _ => by simp [LQ]
  | _ :: _ :: _ :: _, _ :: _, 0, h => by simpa using h
  | c0 :: c1 :: c2 :: cs, f :: fs, i + 1, h => by
    (rw [show (i + 1) * 3 = i * 3 + 1 + 1 + 1 by omega]); simp only [List.drop_succ_cons]; exact LQ.drop i h.2

end Go.Proofs.YtalnljnincnbdacGreat
/- Proofs in memory. -/
namespace Go.Proofs.YtalnljnincnbdacGreat
open Go.RowKit

mutual
def PRep (w : World) : Pf → Value → Prop
  | .mk a f l r ks, v => ∃ c0 c1 c2 vl vr sl cap, v = .agg #[.string a, c0, c1, c2, vl, vr, .slice sl ks.length cap] ∧ a.size ≤ maxLen ∧ Rep w (fun _ => True) f (.agg #[c0, c1, c2]) ∧ FL w vl l ∧ FL w vr r ∧ ks.length ≤ cap ∧ cap ≤ maxLen ∧ (ks ≠ [] → ∃ b off, sl = some ⟨b, off, none⟩ ∧ PReps w b off ks)
def PReps (w : World) (b : Nat) : Nat → List Pf → Prop
  | _, [] => True
  | off, p :: ps => (∃ c0 c1 c2 c3 c4 c5 c6, w.cell? ⟨b, off, none⟩ = some c0 ∧ w.cell? ⟨b, off + 1, none⟩ = some c1 ∧ w.cell? ⟨b, off + 2, none⟩ = some c2 ∧ w.cell? ⟨b, off + 3, none⟩ = some c3 ∧ w.cell? ⟨b, off + 4, none⟩ = some c4 ∧ w.cell? ⟨b, off + 5, none⟩ = some c5 ∧ w.cell? ⟨b, off + 6, none⟩ = some c6 ∧ PRep w p (.agg #[c0, c1, c2, c3, c4, c5, c6])) ∧ PReps w b (off + 7) ps
end
theorem PRep.def {w : World} {a : ByteArray} {f : Fm} {l r : List Fm} {ks : List Pf} {v : Value} : PRep w (.mk a f l r ks) v ↔ ∃ c0 c1 c2 vl vr sl cap, v = .agg #[.string a, c0, c1, c2, vl, vr, .slice sl ks.length cap] ∧ a.size ≤ maxLen ∧ Rep w (fun _ => True) f (.agg #[c0, c1, c2]) ∧ FL w vl l ∧ FL w vr r ∧ ks.length ≤ cap ∧ cap ≤ maxLen ∧ (ks ≠ [] → ∃ b off, sl = some ⟨b, off, none⟩ ∧ PReps w b off ks) := by
  rw [PRep]
theorem PReps.nil {w : World} {b off : Nat} : PReps w b off [] := by rw [PReps]; trivial
theorem PReps.cons {w : World} {b off : Nat} {p : Pf} {ps : List Pf} : PReps w b off (p :: ps) ↔ (∃ c0 c1 c2 c3 c4 c5 c6, w.cell? ⟨b, off, none⟩ = some c0 ∧ w.cell? ⟨b, off + 1, none⟩ = some c1 ∧ w.cell? ⟨b, off + 2, none⟩ = some c2 ∧ w.cell? ⟨b, off + 3, none⟩ = some c3 ∧ w.cell? ⟨b, off + 4, none⟩ = some c4 ∧ w.cell? ⟨b, off + 5, none⟩ = some c5 ∧ w.cell? ⟨b, off + 6, none⟩ = some c6 ∧ PRep w p (.agg #[c0, c1, c2, c3, c4, c5, c6])) ∧ PReps w b (off + 7) ps := by
  rw [PReps]

mutual
theorem PRep.up {w w' : World} (hb : Below w.heap.size w w') : ∀ (p : Pf) (v : Value), PRep w p v → PRep w' p v
  | .mk a f l r ks, v, h => by
    rw [PRep.def] at h ⊢; obtain ⟨c0, c1, c2, vl, vr, sl, cap, hv, ha, hf, hl, hr, h1, h2, h3⟩ := h; (refine ⟨c0, c1, c2, vl, vr, sl, cap, hv, ha, hf.up hb, hl.up hb, hr.up hb, h1, h2, fun hne => ?_⟩); obtain ⟨b, off, hs, hp⟩ := h3 hne; exact ⟨b, off, hs, PReps.up hb b off ks hp⟩
theorem PReps.up {w w' : World} (hb : Below w.heap.size w w') (b : Nat) : ∀ (off : Nat) (ps : List Pf), PReps w b off ps → PReps w' b off ps
  | _, [], _ => PReps.nil
  | off, p :: ps, h => by
    rw [PReps.cons] at h ⊢; obtain ⟨⟨c0, c1, c2, c3, c4, c5, c6, h0, h1, h2, h3, h4, h5, h6, hp⟩, hs⟩ := h; (have k := fun (o : Nat) (c : Value) (h : w.cell? ⟨b, o, none⟩ = some c) => (hb.cell (p := ⟨b, o, none⟩) (lt_of_cell h)).trans h); exact ⟨⟨c0, c1, c2, c3, c4, c5, c6, k _ _ h0, k _ _ h1, k _ _ h2, k _ _ h3, k _ _ h4, k _ _ h5, k _ _ h6, PRep.up hb p _ hp⟩, PReps.up hb b (off + 7) ps hs⟩
end

/-- The i-th of the kids. -/
theorem PReps.get {w : World} {b : Nat} : ∀ {off : Nat} {ps : List Pf} (_ : PReps w b off ps) (i : Nat) (p : Pf) (_ : ps[i]? = some p),
    ∃ c0 c1 c2 c3 c4 c5 c6, w.cell? ⟨b, off + i * 7, none⟩ = some c0 ∧ w.cell? ⟨b, off + i * 7 + 1, none⟩ = some c1 ∧ w.cell? ⟨b, off + i * 7 + 2, none⟩ = some c2 ∧ w.cell? ⟨b, off + i * 7 + 3, none⟩ = some c3 ∧ w.cell? ⟨b, off + i * 7 + 4, none⟩ = some c4 ∧ w.cell? ⟨b, off + i * 7 + 5, none⟩ = some c5 ∧ w.cell? ⟨b, off + i * 7 + 6, none⟩ = some c6 ∧ PRep w p (.agg #[c0, c1, c2, c3, c4, c5, c6])
  | off, [], _, i, p, hp => by simp at hp
  | off, q :: qs, h, i, p, hp => by
    obtain ⟨h1, h2⟩ := PReps.cons.1 h
    cases i with
    | zero => simp at hp; subst hp; simpa using h1
    | succ i =>
      (have := PReps.get h2 i p (by simpa using hp)); (have e : off + 7 + i * 7 = off + (i + 1) * 7 := by omega)
      rwa [e] at this

/-- A proof's value, with its parts shown. -/
theorem PRep.parts {w : World} {a : ByteArray} {k : Int} {n : ByteArray} {kf : List Fm} {l r : List Fm} {ks : List Pf} {v : Value} (h : PRep w (.mk a (.mk k n kf) l r ks) v) :
    ∃ sf cf al cl ar cr sl cap, v = .agg #[.string a, .int .i64 k, .string n, .slice sf kf.length cf, .slice al l.length cl, .slice ar r.length cr, .slice sl ks.length cap] ∧ a.size ≤ maxLen ∧ Rep w (fun _ => True) (.mk k n kf) (.agg #[.int .i64 k, .string n, .slice sf kf.length cf]) ∧ FL w (.slice al l.length cl) l ∧ FL w (.slice ar r.length cr) r ∧ ks.length ≤ cap ∧ cap ≤ maxLen ∧ (ks ≠ [] → ∃ b off, sl = some ⟨b, off, none⟩ ∧ PReps w b off ks) := by
  obtain ⟨c0, c1, c2, vl, vr, sl, cap, hv, ha, hf, hl, hr, h1, h2, h3⟩ := PRep.def.1 h; obtain ⟨sf, cf, hfv⟩ := slice_shape hf; simp only [Value.agg.injEq, Array.mk.injEq, List.cons.injEq, and_true] at hfv; obtain ⟨rfl, rfl, rfl⟩ := hfv; have hl' := hl; have hr' := hr; obtain ⟨al, cl, rfl, -⟩ := hl; obtain ⟨ar, cr, rfl, -⟩ := hr; exact ⟨sf, cf, al, cl, ar, cr, sl, cap, hv, ha, hf, hl', hr', h1, h2, h3⟩

theorem PReps.at {w : World} {b off : Nat} {ps : List Pf} (h : PReps w b off ps) (i : Nat) (a : ByteArray) (k : Int) (n : ByteArray) (kf : List Fm) (l r : List Fm) (ks : List Pf) (hp : ps[i]? = some (.mk a (.mk k n kf) l r ks)) :
    ∃ sf cf al cl ar cr sl cap, w.cell? ⟨b, off + i * 7, none⟩ = some (.string a) ∧ w.cell? ⟨b, off + i * 7 + 1, none⟩ = some (.int .i64 k) ∧ w.cell? ⟨b, off + i * 7 + 2, none⟩ = some (.string n) ∧ w.cell? ⟨b, off + i * 7 + 3, none⟩ = some (.slice sf kf.length cf) ∧ w.cell? ⟨b, off + i * 7 + 4, none⟩ = some (.slice al l.length cl) ∧ w.cell? ⟨b, off + i * 7 + 5, none⟩ = some (.slice ar r.length cr) ∧ w.cell? ⟨b, off + i * 7 + 6, none⟩ = some (.slice sl ks.length cap) ∧
      PRep w (.mk a (.mk k n kf) l r ks) (.agg #[.string a, .int .i64 k, .string n, .slice sf kf.length cf, .slice al l.length cl, .slice ar r.length cr, .slice sl ks.length cap]) := by
  obtain ⟨c0, c1, c2, c3, c4, c5, c6, h0, h1, h2, h3, h4, h5, h6, hr⟩ := h.get i _ hp; obtain ⟨sf, cf, al, cl, ar, cr, sl, cap, hv, -⟩ := hr.parts; simp only [Value.agg.injEq, Array.mk.injEq, List.cons.injEq, and_true] at hv; obtain ⟨rfl, rfl, rfl, rfl, rfl, rfl, rfl⟩ := hv; exact ⟨sf, cf, al, cl, ar, cr, sl, cap, h0, h1, h2, h3, h4, h5, h6, hr⟩
end Go.Proofs.YtalnljnincnbdacGreat
/- Walks: calculus.CheckSequent, isNoEnd. -/
namespace Go.Proofs.YtalnljnincnbdacGreat
open Go.RowKit

theorem blk_two (w : World) (o o' : Obj) : ((w.alloc o).alloc o').heap[w.heap.size + 1]? = some o' := by
  have := blk_new (w.alloc o) o'
  rwa [show (w.alloc o).heap.size = w.heap.size + 1 by simp] at this
theorem blk_three (w : World) (o o' o'' : Obj) : (((w.alloc o).alloc o').alloc o'').heap[w.heap.size + 1 + 1]? = some o'' := by
  have := blk_two (w.alloc o) o' o''
  rwa [show (w.alloc o).heap.size = w.heap.size + 1 by simp] at this
theorem firstBad_drop {l : List Fm} {i : Nat} {f : Fm} (h : l[i]? = some f) : firstBad (l.drop i) i = if f.pcode.1 = 0 then firstBad (l.drop (i + 1)) (i + 1) else (f.pcode.1, (i : Nat)) := by
  have hi : i < l.length := (List.getElem?_eq_some_iff.1 h).1; rw [List.drop_eq_getElem_cons hi, firstBad]; rw [List.getElem?_eq_getElem hi] at h; rw [Option.some.inj h]

set_option maxRecDepth 10000 in
set_option maxHeartbeats 4000000 in
theorem checkSeq_any (l r : List Fm) (hl4 : l.length ≤ 400) (hr4 : r.length ≤ 400) (v u : Value) (w : World) (hv : FL w v l) (hu : FL w u r) :
    Calls Tryz.prog 45 #[.agg #[v, u]] w fun e w' => e = .returned (.agg #[.int .i64 (seqCode l r).1, .int .i64 (seqCode l r).2]) ∧ Below w.heap.size w w' := by
  have HV : Hid (FL w v l) := hv; have HU : Hid (FL w u r) := hu; obtain ⟨adV, cpV, rfl, hv1, hv2, -⟩ := hv; obtain ⟨adU, cpU, rfl, hu1, hu2, -⟩ := hu; (have hlI : (l.length : Int) ≤ 400 := by omega); (have hrI : (r.length : Int) ≤ 400 := by omega); unfold seqCode; by_cases hmany : 60 < l.length + r.length
  · rw [if_pos hmany]
    (have hmI : (60 : Int) < (l.length : Int) + (r.length : Int) := by omega); clear HV HU hv1 hv2 hu1 hu2 hmany
    go_enter Tryz.func45, Tryz.ntmps45
    go_wp2_with fail; (exact bodyPost_ret (v := .agg #[.int .i64 2, .int .i64 0]) (by simp [results, Tryz.results45, go_sem]) rfl ⟨rfl, below_more (below_more (Below.refl _ w) _) _⟩)
  · rw [if_neg hmany]
    (have hmI : ¬ (60 : Int) < (l.length : Int) + (r.length : Int) := by omega); (have hll : (l ++ r).length ≤ 60 := by rw [List.length_append]; omega); obtain ⟨c, hc⟩ : ∃ c, c = l ++ r := ⟨_, rfl⟩; rw [← hc] at hll ⊢; have HC : Hid (c = l ++ r) := hc; clear hc; clear hmany hv1 hv2 hu1 hu2
    go_enter Tryz.func45, Tryz.ntmps45
    go_wp2_with fail; (refine (concat_any w.heap.size l r hl4 hr4 _ _ _ _ (by simp; omega) (HV.out.low.up (below_more (below_more (below_more (Below.refl _ w) _) _) _)) (HU.out.low.up (below_more (below_more (below_more (Below.refl _ w) _) _) _)) (blk_three w _ _ _)).mono ?_); rintro e w1 ⟨x, rfl, hF, hb1⟩; have q1 := below_keep hb1 (alloc_keep (blk_two w (.cells #[.slice adV l.length cpV, .slice adU r.length cpU] 24 (0, 0)) (.cells #[.int .i64 0, .int .i64 0] 35 (0, 0))) (.cells #[.slice adV l.length cpV, .slice adU r.length cpU] 22 (0, 0))); have HQ : Hid (w1.heap[w.heap.size + 1]? = some (.cells #[.int .i64 0, .int .i64 0] 35 (0, 0))) := q1; have B1 := below_join (below_more (below_more (below_more (Below.refl _ w) _) _) _) hb1; have z1 := lt_of_block q1; have hF2 := hF.list; rw [← HC.out] at hF2; obtain ⟨ad, cap, rfl, h1, h2, h3⟩ := hF2; (have H3 : Hid (c ≠ [] → ∃ b off, ad = some ⟨b, off, none⟩ ∧ Reps w1 (fun _ => True) b off c) := h3); (have hcI : (c.length : Int) ≤ 60 := by omega); clear h3 hF q1 hb1 HV HU; go_wp2_with fail
    go_loopg [22] c.length (fun g cc wr => ∃ i, i ≤ c.length ∧ g = c.length - i ∧ cc = .int .i64 (i : Nat) ∧ Below w1.heap.size w1 wr ∧ Hid (firstBad (c.drop i) i = firstBad c 0))
    case atStart => exact ⟨0, by omega, by omega, rfl, Below.refl _ _, by show _ = _; simp⟩
    case round =>
      obtain ⟨i, hi, hg, rfl, hbr, HN⟩ := hrel; have HG : Hid (gk = c.length - i) := hg; have zr := hbr.size; clear hg; by_cases hlt : i < c.length
      · obtain ⟨⟨k2, n2, ks2⟩, hki⟩ : ∃ f, c[i]? = some f := ⟨_, List.getElem?_eq_getElem hlt⟩
        (obtain ⟨b, off, rfl, hrs⟩ := H3.out (fun e => by rw [e] at hlt; simp at hlt)); obtain ⟨sl2, cap2, g0, g1, g2, hrep2⟩ := (hrs.up hbr).at i k2 n2 ks2 hki; (have hltI : (i : Int) < (c.length : Int) := by omega); (have hlc : (i : Int) < (cap : Int) := by omega); have hds := HN.out; rw [firstBad_drop hki] at hds; (have hpl := fun v (w : World) h => plainCode_any (.mk k2 n2 ks2) v w h); generalize (Fm.mk k2 n2 ks2).pcode = pc at hpl hds; (have HP : Hid (∀ v w, Rep w (fun _ => True) (.mk k2 n2 ks2) v → Calls Tryz.prog 89 #[v] w _) := hpl); (have HD : Hid ((if pc.1 = 0 then firstBad (c.drop (i + 1)) (i + 1) else (pc.1, ((i : Nat) : Int))) = firstBad c 0) := hds); obtain ⟨pc1, pc2⟩ := pc; clear hki hrs H3 hds HN hpl; by_cases hp : pc1 = 0
        · subst hp
          have HT : Hid (firstBad (c.drop (i + 1)) (i + 1) = firstBad c 0) := by
            have := HD.out
            rwa [if_pos rfl] at this
          clear HD; go_wp2_with fail; refine (HP.out _ _ (hrep2.more _)).mono ?_; rintro e w2 ⟨rfl, hb2⟩; have B2 := below_join (below_more hbr _) hb2; clear g0 g1 g2 hb2; go_wp2_with fail
          go_roundg (c.length - (i + 1))
          case measure => have := HG.out; omega
          case rel => exact ⟨i + 1, by omega, rfl, by go_num, B2, HT⟩
        · have HT : Hid (firstBad c 0 = (pc1, ((i : Nat) : Int))) := by
            have := HD.out; rw [if_neg hp] at this; exact this.symm
          (have hne' : (pc1 != 0) = true := by simpa using hp); clear HD; go_wp2_with fail; refine (HP.out _ _ (hrep2.more _)).mono ?_; rintro e w2 ⟨rfl, hb2⟩; have B2 := below_join (below_more hbr _) hb2; have q2 := below_keep B2 HQ.out; obtain ⟨y1, y2, y3, y4⟩ := blk2 q2; have z2 := lt_of_block q2; clear g0 g1 g2 hb2; go_wp2_with fail; have f2 := set2 q2 (.int .i64 pc1) (.int .i64 (i : Nat)); (have b2 := ((below_join B1 B2).setCell (p := ⟨w.heap.size + 1, 0, none⟩) (by simp) (.int .i64 pc1)).setCell (p := ⟨w.heap.size + 1, 1, none⟩) (by simp) (.int .i64 (i : Nat))); generalize World.setCell _ _ _ = F at f2 b2 ⊢; clear y1 y2 y3 y4; obtain ⟨k1, k2, -⟩ := blk2 f2; (exact bodyPost_ret (v := .agg #[.int .i64 pc1, .int .i64 (i : Nat)]) (by simp [results, Tryz.results45, go_sem, k1, k2]) rfl ⟨by rw [HT.out], b2⟩)
      · have HT : Hid (firstBad c 0 = (0, 0)) := by
          have := HN.out; (rw [List.drop_of_length_le (by omega), firstBad] at this); exact this.symm
        (have hge : ¬ (i : Int) < (c.length : Int) := by omega); have q2 := below_keep hbr HQ.out; obtain ⟨y1, y2, y3, y4⟩ := blk2 q2; clear H3 HN; go_wp2_with fail; have f2 := set2 q2 (.int .i64 0) (.int .i64 0); (have b2 := ((below_join B1 hbr).setCell (p := ⟨w.heap.size + 1, 0, none⟩) (by simp) (.int .i64 0)).setCell (p := ⟨w.heap.size + 1, 1, none⟩) (by simp) (.int .i64 0)); generalize World.setCell _ _ _ = F at f2 b2 ⊢; clear y1 y2 y3 y4; obtain ⟨k1, k2, -⟩ := blk2 f2; (exact bodyPost_ret (v := .agg #[.int .i64 0, .int .i64 0]) (by simp [results, Tryz.results45, go_sem, k1, k2]) rfl ⟨by rw [HT.out], b2⟩)
end Go.Proofs.YtalnljnincnbdacGreat
/- Walks: isNoEnd, stepOf, and what is asked of a step. -/
namespace Go.Proofs.YtalnljnincnbdacGreat
open Go.RowKit

theorem blk7 {w : World} {b : Nat} {c0 c1 c2 c3 c4 c5 c6 : Value} {T : TypeId} (h : w.heap[b]? = some (.cells #[c0, c1, c2, c3, c4, c5, c6] T (0, 0))) : w.cell? ⟨b, 0, none⟩ = some c0 ∧ w.cell? ⟨b, 1, none⟩ = some c1 ∧ w.cell? ⟨b, 2, none⟩ = some c2 ∧ w.cell? ⟨b, 3, none⟩ = some c3 ∧ w.cell? ⟨b, 4, none⟩ = some c4 ∧ w.cell? ⟨b, 5, none⟩ = some c5 ∧ w.cell? ⟨b, 6, none⟩ = some c6 :=
  ⟨blk_cell h 0, blk_cell h 1, blk_cell h 2, blk_cell h 3, blk_cell h 4, blk_cell h 5, blk_cell h 6⟩

/-- What a rule sees: f, End's two sides, and what is left of them without one f. -/
def StV (w : World) (v : Value) (f : Fm) (l r : List Fm) : Prop := ∃ c0 c1 c2 vl vr vg vd, v = .agg #[c0, c1, c2, vl, vr, vg, vd] ∧ Rep w (fun _ => True) f (.agg #[c0, c1, c2]) ∧ FL w vl l ∧ FL w vr r ∧ FL w vg (l.erase f) ∧ FL w vd (r.erase f)
theorem StV.up {w w' : World} {v : Value} {f : Fm} {l r : List Fm} (h : StV w v f l r) (hb : Below w.heap.size w w') : StV w' v f l r := by
  obtain ⟨c0, c1, c2, vl, vr, vg, vd, hv, h1, h2, h3, h4, h5⟩ := h; exact ⟨c0, c1, c2, vl, vr, vg, vd, hv, h1.up hb, h2.up hb, h3.up hb, h4.up hb, h5.up hb⟩

end Go.Proofs.YtalnljnincnbdacGreat
