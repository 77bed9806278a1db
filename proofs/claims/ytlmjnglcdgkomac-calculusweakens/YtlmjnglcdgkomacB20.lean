/- Texts of one proof, one behind the other: CB2, CB3. -/
import Derived.Test.YtlmjnglcdgkomacB18
import Derived.Lib.AppendZerosOnto
/- Walks: room for formulas (slices.Grow). -/
namespace Go.Proofs.Ytlmjnglcdgkomac
open Go.RowKit

set_option maxRecDepth 10000 in
set_option maxHeartbeats 2000000 in
theorem grow_zero (w : World) :
    Calls Try.prog 73 #[.slice none 0 0, .int .i64 0] w fun e w' => e = .returned (.slice none 0 0) ∧ w' = w := by
  go_enter Try.func73, Try.ntmps73
  go_wp2_with fail; go_ret; exact ⟨rfl, rfl⟩

set_option maxRecDepth 10000 in
set_option maxHeartbeats 2000000 in
theorem grow_some (n : Nat) (hn : 0 < n) (hn2 : n ≤ 1000) (w : World) :
    Calls Try.prog 73 #[.slice none 0 0, .int .i64 (n : Nat)] w fun e w' => ∃ g cp, e = .returned (.slice (some ⟨g, 0, none⟩) 0 cp) ∧ w'.ownsRow w.heap.size 24 3 (.slice (some ⟨g, 0, none⟩) 0 cp) 0 [] ∧ Below w.heap.size w w' := by
  obtain ⟨i0, hi, hz0, hz1, hz2⟩ := infoFormula; (have hnI : (0 : Int) < (n : Int) := by omega); (have hnJ : (n : Int) ≤ 1000 := by omega)
  have hrz : ∀ ty, (Builtin.append_ #[22, 3] ty #[.slice none 0 0, .int .i64 (n : Nat)]).run Try.prog w = .ok (.slice (some ⟨w.heap.size, 0, none⟩) n (grownCap w n 0 24)) (w.drew.alloc (.cells (#[] ++ Builtin.zeroCells (Value.agg #[.int .i64 0, .string ⟨#[]⟩, .slice none 0 0]).cells n ++ Builtin.zeroCells (Value.agg #[.int .i64 0, .string ⟨#[]⟩, .slice none 0 0]).cells (grownCap w n 0 24 - n)) 24)) := fun ty => by
    (have h := Lib.run_append_grow_zeros w 22 3 ty 24 i0 (.agg #[.int .i64 0, .string ⟨#[]⟩, .slice none 0 0]) .i64 .i64 Try.underlying22 Try.underlying3 hi hz0 none 0 0 [] (run_firstCells_none w.drew i0.size 0 0 0) n hn (by omega) (by omega) (by omega) (by rw [hz2]; omega) (by rw [hz2]; exact growslice_fits (by omega) (by omega))); simpa using h
  have hGn : n ≤ grownCap w n 0 24 := grownCap_ge w _ _ _; (have hGm : grownCap w n 0 24 ≤ maxLen := grownCap_le_maxLen w n 0 24 (by unfold maxLen; omega)); generalize grownCap w n 0 24 = G at *; (have hG63 : (G : Int) ≤ 9223372036854775807 := by unfold maxLen at hGm; omega)
  have hOw : (w.drew.alloc (.cells (#[] ++ Builtin.zeroCells (Value.agg #[.int .i64 0, .string ⟨#[]⟩, .slice none 0 0]).cells n ++ Builtin.zeroCells (Value.agg #[.int .i64 0, .string ⟨#[]⟩, .slice none 0 0]).cells (G - n)) 24)).ownsRow w.heap.size 24 3 (.slice (some ⟨w.heap.size, 0, none⟩) 0 G) 0 [] := by
    refine ⟨rfl, Or.inr ⟨w.heap.size, G, _, rfl, Nat.le_refl _, blk_new _ _, Nat.zero_le _, hGm, ?_, rfl⟩⟩; have h3 : (Value.agg #[.int .i64 0, .string ⟨#[]⟩, .slice none 0 0]).cells.size = 3 := rfl; rw [Array.size_append, Array.size_append, size_zeroCells, size_zeroCells, h3]; simp only [Array.size_empty]; omega
  have HOw : Hid (World.ownsRow _ _ _ _ _ _ _) := hOw; have hBw : Below w.heap.size w (w.drew.alloc (.cells (#[] ++ Builtin.zeroCells (Value.agg #[.int .i64 0, .string ⟨#[]⟩, .slice none 0 0]).cells n ++ Builtin.zeroCells (Value.agg #[.int .i64 0, .string ⟨#[]⟩, .slice none 0 0]).cells (G - n)) 24)) := below_more (Below.refl _ w).drew _; generalize w.drew.alloc _ = W at *; clear hOw hz0 hz1 hz2 hi
  go_enter Try.func73, Try.ntmps73
  go_wp2_with (first
    | (at_builtin
       refine Lib.wpList_append_run _ rfl _ _ _ _ rfl _ _ rfl rfl _ _ (hrz _) ?_)
    | fail)
  all_goals
    go_ret; exact ⟨_, _, rfl, HOw.out, hBw⟩
end Go.Proofs.Ytlmjnglcdgkomac
/- Walks: two lists of formulas behind each other (slices.Concat). -/
namespace Go.Proofs.Ytlmjnglcdgkomac
open Go.RowKit

/-- More formulas are appended to a list of one's own. -/
def AppL (A B : Nat) (fs : List Fm) (ad : Option Addr) (cp : Nat) (w : World) : Prop := ∃ cs, w.ownsRow B 24 3 (.slice ad fs.length cp) fs.length cs ∧ LQ (fun b => b < A) w cs fs
theorem AppL.flp {A B : Nat} {fs : List Fm} {ad : Option Addr} {cp : Nat} {w : World} (h : AppL A B fs ad cp w) (hAB : A ≤ B) : FLp (fun b => b < A ∨ B ≤ b) w (.slice ad fs.length cp) fs := by
  obtain ⟨cs, h1, h2⟩ := h; (refine kp_list (B := B) ⟨cs, h1, h2.move fun b _ hb => ⟨rfl, Or.inl hb, fun e => ?_⟩⟩ fun _ h => Or.inr h); have := (h1.lt b e).1; omega

theorem AppL.shape {A B : Nat} {fs : List Fm} {ad : Option Addr} {cp : Nat} {w : World} (h : AppL A B fs ad cp w) : (ad = none ∧ cp = 0 ∧ fs = []) ∨ ∃ g, ad = some ⟨g, 0, none⟩ ∧ fs.length ≤ cp := by
  obtain ⟨cs, ⟨h0, h1⟩, h2⟩ := h
  rcases h1 with ⟨hv, hn⟩ | ⟨g, cap, cur, hv, -, -, hl, -⟩
  · simp only [Value.slice.injEq] at hv
    exact Or.inl ⟨hv.1, hv.2.2, List.length_eq_zero_iff.1 hn⟩
  · simp only [Value.slice.injEq, true_and] at hv
    obtain ⟨rfl, rfl⟩ := hv; exact Or.inr ⟨g, rfl, hl⟩
theorem grow_any (A n : Nat) (hn : n ≤ 1000) (w : World) :
    Calls Try.prog 73 #[.slice none 0 0, .int .i64 (n : Nat)] w fun e w' => ∃ ad cp, e = .returned (.slice ad 0 cp) ∧ AppL A w.heap.size [] ad cp w' ∧ Below w.heap.size w w' := by
  rcases Nat.eq_zero_or_pos n with rfl | h0
  · refine (grow_zero w).mono ?_
    rintro e w' ⟨rfl, rfl⟩; exact ⟨none, 0, rfl, ⟨[], ⟨rfl, Or.inl ⟨rfl, rfl⟩⟩, trivial⟩, Below.refl _ _⟩
  · refine (grow_some n h0 hn w).mono ?_
    rintro e w' ⟨g, cp, rfl, ho, hb⟩; exact ⟨_, _, rfl, ⟨[], ho, trivial⟩, hb⟩

/-- What an append of formulas leaves. -/
theorem AppL.app {W w2 w3 : World} {A : Nat} {fs gs : List Fm} {ad : Option Addr} {cp g3 cp3 : Nat} {cs ds : List Value} (hA : A ≤ W.heap.size) (B : Below W.heap.size W w2)
    (hown : w2.ownsRow W.heap.size 24 3 (.slice ad fs.length cp) fs.length cs) (hlq : LQ (fun b => b < A) w2 cs fs) (hds : LQ (fun b => b < A) w2 ds gs)
    (hown3 : w3.ownsRow W.heap.size 24 3 (.slice (some ⟨g3, 0, none⟩) (fs.length + gs.length) cp3) (fs.length + gs.length) (cs ++ ds)) (hgrow : w2.grownBy w3 (Value.slice ad fs.length cp).ownBlock) :
    AppL A W.heap.size (fs ++ gs) (some ⟨g3, 0, none⟩) cp3 w3 ∧ Below W.heap.size W w3 := by
  (have hk : ∀ j, j < W.heap.size → w3.heap[j]? = w2.heap[j]? := fun j hj => hgrow.block j (by have := B.size; omega) (fun e => by have := (hown.lt j e.symm).1; omega)); (refine ⟨⟨cs ++ ds, by rw [List.length_append]; exact hown3, (hlq.append hds).move fun b _ hb => ⟨hk b (by omega), hb⟩⟩, ?_, ?_, ?_, ?_, ?_⟩)
  all_goals first
    | exact hgrow.os.trans B.os
    | exact hgrow.tape.trans B.tape
    | exact hgrow.output.trans B.output
    | (have := hgrow.size; have := B.size; omega)
    | exact fun j hj => (hk j hj).trans (B.block j hj)

set_option maxRecDepth 10000 in
set_option maxHeartbeats 8000000 in
theorem concat_two (A : Nat) (l r : List Fm) (hl : l.length ≤ 400) (hr : r.length ≤ 400) (v u : Value) (b : Nat) (w : World) (hA : A ≤ w.heap.size) (hv : FLp (· < A) w v l) (hu : FLp (· < A) w u r) (hb : w.heap[b]? = some (.cells #[v, u] 22 (0, 0))) :
    Calls Try.prog 67 #[.slice (some ⟨b, 0, none⟩) 2 2] w fun e w' => ∃ ad cp, e = .returned (.slice ad (l ++ r).length cp) ∧ AppL A w.heap.size (l ++ r) ad cp w' ∧ Below w.heap.size w w' := by
  have HV : Hid (FLp (· < A) w v l) := hv; have HU : Hid (FLp (· < A) w u r) := hu; have HAw : Hid (A ≤ w.heap.size) := hA; clear hA; obtain ⟨adV, cpV, rfl, hv1, hv2, -⟩ := hv; obtain ⟨adU, cpU, rfl, hu1, hu2, -⟩ := hu; obtain ⟨i0, hi, hz0, hz1, hz2⟩ := infoFormula; have HIo : Hid (Try.prog.info? 24 = some i0 ∧ i0.zero = some (.agg #[.int .i64 0, .string ⟨#[]⟩, .slice none 0 0]) ∧ i0.size = 3 ∧ i0.bytes = 48) := ⟨hi, hz0, hz1, hz2⟩; obtain ⟨a0, a1, -⟩ := blk2 hb; (have hlI : (l.length : Int) ≤ 400 := by omega); (have hrI : (r.length : Int) ≤ 400 := by omega); clear hi hz0 hz1 hz2 hv1 hv2 hu1 hu2
  go_enter Try.func67, Try.ntmps67
  go_wp2_with fail
  go_loopg [11, 3] 2 (fun g c o wr => (g = 2 ∧ c = .int .i64 0 ∧ o = .int .i64 0 ∧ wr = w) ∨ (g = 1 ∧ c = .int .i64 1 ∧ o = .int .i64 (l.length : Nat) ∧ wr = w) ∨ (g = 0 ∧ c = .int .i64 2 ∧ o = .int .i64 ((l.length + r.length : Nat) : Int) ∧ wr = w))
  case atStart => exact Or.inl ⟨rfl, rfl, rfl, rfl⟩
  case round =>
    rcases hrel with ⟨hg, rfl, rfl, hw⟩ | ⟨hg, rfl, rfl, hw⟩ | ⟨hg, rfl, rfl, hw⟩
    · have hw' := hw.symm
      subst hw'; have HG : Hid (gk = 2) := hg; clear hg; go_wp2_with fail
      go_roundg 1
      case measure => have := HG.out; omega
      case rel => exact Or.inr (Or.inl ⟨rfl, by go_num, by go_num, rfl⟩)
    · have hw' := hw.symm
      subst hw'; have HG : Hid (gk = 1) := hg; clear hg; go_wp2_with fail
      go_roundg 0
      case measure => have := HG.out; omega
      case rel => exact Or.inr (Or.inr ⟨rfl, by go_num, by go_num, rfl⟩)
    · have hw' := hw.symm
      subst hw'; clear hg; go_wp2_with fail; (rw [show ((l.length : Int) + (r.length : Int)) = ((l.length + r.length : Nat) : Int) by simp]); (refine (grow_any A (l.length + r.length) (by omega) w).mono ?_); rintro e w2 ⟨ad0, cp0, rfl, hA, B2⟩; have HA : Hid (AppL A w.heap.size [] ad0 cp0 w2) := hA; clear hA a0 a1; have HB : Hid (w.heap[b]? = some (.cells #[.slice adV l.length cpV, .slice adU r.length cpU] 22 (0, 0))) := hb; clear hb; go_wp2_with fail
      go_loopg [27, 6] 2 (fun g c o wr => Hid (Below w.heap.size w wr) ∧ ((∃ ad cp, g = 2 ∧ c = .int .i64 0 ∧ o = .slice ad 0 cp ∧ Hid (AppL A w.heap.size [] ad cp wr)) ∨ (∃ ad cp, g = 1 ∧ c = .int .i64 1 ∧ o = .slice ad l.length cp ∧ Hid (AppL A w.heap.size l ad cp wr)) ∨ (∃ ad cp, g = 0 ∧ c = .int .i64 2 ∧ o = .slice ad (l ++ r).length cp ∧ Hid (AppL A w.heap.size (l ++ r) ad cp wr))))
      case atStart => exact ⟨B2, Or.inl ⟨ad0, cp0, rfl, rfl, rfl, HA⟩⟩
      case round =>
        clear HA B2; obtain ⟨HW, hrel⟩ := hrel; obtain ⟨a0, a1, -⟩ := blk2 (below_keep HW.out HB.out)
        rcases hrel with ⟨ad, cp, hg, rfl, rfl, HA⟩ | ⟨ad, cp, hg, rfl, rfl, HA⟩ | ⟨ad, cp, hg, rfl, rfl, HA⟩
        · have HG : Hid (gk = 2) := hg
          clear hg; by_cases hne : l = []
          · subst hne
            have BW := HW.out; (have hpu : ∀ w : World, (pure #[] : Sem (Array Value)).run Try.prog w = .ok #[] w := fun _ => rfl); (have hsc : ∀ (a : Addr) (w : World), (storeCells a ([] : List Value)).run Try.prog w = .ok () w := fun _ _ => rfl)
            rcases HA.out.shape with ⟨rfl, rfl, hd⟩ | ⟨gg, rfl, hle⟩
            · 
              clear hd
              cases adV
              all_goals
                go_wp2_with fail
                go_roundg 1
                case measure => have := HG.out; omega
                case rel => exact ⟨BW, Or.inr (Or.inl ⟨none, 0, rfl, by go_num, by simp, HA.out⟩)⟩
            · clear hle
              cases adV
              all_goals
                go_wp2_with fail
                go_roundg 1
                case measure => have := HG.out; omega
                case rel => exact ⟨BW, Or.inr (Or.inl ⟨_, _, rfl, by go_num, by simp, HA.out⟩)⟩
          · obtain ⟨bs, offs, ds, rfl, hds, hcs⟩ := HV.out.cells hne
            have BW := HW.out; have hpos : 0 < l.length := List.length_pos_iff.2 hne; obtain ⟨cs, hown, hlq⟩ := HA.out; (have hds' := hds.move (ok' := fun b => b < A) (w' := wr) fun b hb hp => ⟨BW.block b hb, hp⟩); have HD : Hid (LQ _ wr ds l) := hds'; have HL : Hid (LQ _ wr cs []) := hlq; have hlen := hds.len; have HOne : Hid (∀ u ∈ ds, u.oneCell' = true) := hds.one; (have HCs : Hid (∀ (j : Nat) (u : Value), ds[j]? = some u → wr.cell? ⟨bs, offs + j, none⟩ = some u) := fun j u hu => (BW.cell (p := ⟨bs, offs + j, none⟩) (lt_of_cell (hcs j u hu))).trans (hcs j u hu)); obtain ⟨hi, hz0, hz1, hz2⟩ := HIo.out; have zw := BW.size; clear hds hds' hcs hlq hne
            go_wp2_with (first
              | (at_builtin
                 refine wpList_append_lies _ rfl _ _ 22 rfl w.heap.size 24 i0 (.agg #[.int .i64 0, .string ⟨#[]⟩, .slice none 0 0]) 3 48 Try.underlying22 hi hz0 hz1 hz2 rfl (by decide) _ _ _ rfl hown ⟨bs, offs, none⟩ l.length cpV ds rfl hlen (fun j u hu => by
                   rw [add_none]
                   exact HCs.out j u hu) HOne.out hpos (by unfold maxLen; simp; omega) (by simp; omega) zw _ rfl ?_
                 intro g3 cp3 w3 hown3 hgrow hat hlt3)
              | fail)
            obtain ⟨hA3, B3⟩ := AppL.app (gs := l) HAw.out BW hown HL.out HD.out hown3 hgrow; have HA3 : Hid (AppL A w.heap.size ([] ++ l) (some ⟨g3, 0, none⟩) cp3 w3) := hA3; clear hown hown3 hgrow hat hA3 hlen hi hz0 hz1 hz2; go_wp2_with fail
            go_roundg 1
            case measure => have := HG.out; omega
            case rel => exact ⟨B3, Or.inr (Or.inl ⟨_, _, rfl, by go_num, by simp, HA3.out⟩)⟩
        · have HG : Hid (gk = 1) := hg
          clear hg; by_cases hne : r = []
          · subst hne
            have BW := HW.out; (have hpu : ∀ w : World, (pure #[] : Sem (Array Value)).run Try.prog w = .ok #[] w := fun _ => rfl); (have hsc : ∀ (a : Addr) (w : World), (storeCells a ([] : List Value)).run Try.prog w = .ok () w := fun _ _ => rfl)
            rcases HA.out.shape with ⟨rfl, rfl, hd⟩ | ⟨gg, rfl, hle⟩
            · subst hd
              
              cases adU
              all_goals
                go_wp2_with fail
                go_roundg 0
                case measure => have := HG.out; omega
                case rel => exact ⟨BW, Or.inr (Or.inr ⟨none, 0, rfl, by go_num, by simp, by rw [List.append_nil]; exact HA.out⟩)⟩
            · have hleI : (l.length : Int) ≤ (cp : Int) := by omega
              cases adU
              all_goals
                go_wp2_with fail
                go_roundg 0
                case measure => have := HG.out; omega
                case rel => exact ⟨BW, Or.inr (Or.inr ⟨some ⟨gg, 0, none⟩, cp, rfl, by go_num, by simp, by rw [List.append_nil]; exact HA.out⟩)⟩
          · obtain ⟨bs, offs, ds, rfl, hds, hcs⟩ := HU.out.cells hne
            have BW := HW.out; have hpos : 0 < r.length := List.length_pos_iff.2 hne; obtain ⟨cs, hown, hlq⟩ := HA.out; (have hds' := hds.move (ok' := fun b => b < A) (w' := wr) fun b hb hp => ⟨BW.block b hb, hp⟩); have HD : Hid (LQ _ wr ds r) := hds'; have HL : Hid (LQ _ wr cs l) := hlq; have hlen := hds.len; have HOne : Hid (∀ u ∈ ds, u.oneCell' = true) := hds.one; (have HCs : Hid (∀ (j : Nat) (u : Value), ds[j]? = some u → wr.cell? ⟨bs, offs + j, none⟩ = some u) := fun j u hu => (BW.cell (p := ⟨bs, offs + j, none⟩) (lt_of_cell (hcs j u hu))).trans (hcs j u hu)); obtain ⟨hi, hz0, hz1, hz2⟩ := HIo.out; have zw := BW.size; clear hds hds' hcs hlq hne
            go_wp2_with (first
              | (at_builtin
                 refine wpList_append_lies _ rfl _ _ 22 rfl w.heap.size 24 i0 (.agg #[.int .i64 0, .string ⟨#[]⟩, .slice none 0 0]) 3 48 Try.underlying22 hi hz0 hz1 hz2 rfl (by decide) _ _ _ rfl hown ⟨bs, offs, none⟩ r.length cpU ds rfl hlen (fun j u hu => by
                   rw [add_none]
                   exact HCs.out j u hu) HOne.out hpos (by unfold maxLen; omega) (by omega) zw _ rfl ?_
                 intro g3 cp3 w3 hown3 hgrow hat hlt3)
              | fail)
            obtain ⟨hA3, B3⟩ := AppL.app (gs := r) HAw.out BW hown HL.out HD.out hown3 hgrow; have HA3 : Hid (AppL A w.heap.size (l ++ r) (some ⟨g3, 0, none⟩) cp3 w3) := hA3; clear hown hown3 hgrow hat hA3 hlen hi hz0 hz1 hz2; go_wp2_with fail
            go_roundg 0
            case measure => have := HG.out; omega
            case rel => exact ⟨B3, Or.inr (Or.inr ⟨_, _, rfl, by go_num, by simp, HA3.out⟩)⟩
        · clear hg
          have BW := HW.out; go_wp2_with fail; go_ret; exact ⟨ad, cp, rfl, HA.out, BW⟩
end Go.Proofs.Ytlmjnglcdgkomac
