/- Texts of one proof, one behind the other: CB3, CB4, YB0. -/
import Derived.Test.YtffkoiemnchdgaeB16
import Derived.Test.YtffkoiemnchdgaeB17
import Derived.Deep.Upon
/- Walks: two lists of formulas behind each other (slices.Concat). -/
namespace Go.Proofs.Ytffkoiemnchdgae
open Go.RowKit

/-- More formulas are appended to a list of one's own. -/
def AppL (A B : Nat) (fs : List Fm) (ad : Option Addr) (cp : Nat) (w : World) : Prop := ∃ cs, w.ownsRow B 24 3 (.slice ad fs.length cp) fs.length cs ∧ LQ (fun b => b < A) w cs fs
theorem AppL.flp {A B : Nat} {fs : List Fm} {ad : Option Addr} {cp : Nat} {w : World} (h : AppL A B fs ad cp w) (hAB : A ≤ B) : FLp (fun b => b < A ∨ B ≤ b) w (.slice ad fs.length cp) fs := by
  obtain ⟨cs, h1, h2⟩ := h; (refine kp_list (B := B) ⟨cs, h1, h2.move fun b _ hb => ⟨rfl, Or.inl hb, fun e => ?_⟩⟩ fun _ h => Or.inr h); have := (h1.lt b e).1; omega

theorem AppL.shape {A B : Nat} {fs : List Fm} {ad : Option Addr} {cp : Nat} {w : World} (h : AppL A B fs ad cp w) : (ad = none ∧ cp = 0 ∧ fs = []) ∨ ∃ g, ad = some ⟨g, 0, none⟩ ∧ fs.length ≤ cp := by
  obtain ⟨cs, ⟨h0, h1⟩, h2⟩ := h
  rcases h1 with ⟨hv, hn⟩ | ⟨g, cap, cur, hv, -, -, hl, -⟩
  · simp only [Value.slice.injEq] at hv
    exact Or.inl ⟨hv.1, hv.2.2, List.length_eq_zero_iff.1 hn⟩
  · simp only [Value.slice.injEq, true_and] at hv
    obtain ⟨rfl, rfl⟩ := hv; exact Or.inr ⟨g, rfl, hl⟩
theorem grow_any (A n : Nat) (hn : n ≤ 1000) (w : World) :
    Calls Try.prog 159 #[.slice none 0 0, .int .i64 (n : Nat)] w fun e w' => ∃ ad cp, e = .returned (.slice ad 0 cp) ∧ AppL A w.heap.size [] ad cp w' ∧ Below w.heap.size w w' := by
  rcases Nat.eq_zero_or_pos n with rfl | h0
  · refine (grow_zero w).mono ?_
    rintro e w' ⟨rfl, rfl⟩; exact ⟨none, 0, rfl, ⟨[], ⟨rfl, Or.inl ⟨rfl, rfl⟩⟩, trivial⟩, Below.refl _ _⟩
  · refine (grow_some n h0 hn w).mono ?_
    rintro e w' ⟨g, cp, rfl, ho, hb⟩; exact ⟨_, _, rfl, ⟨[], ho, trivial⟩, hb⟩

/-- What an append of formulas leaves. -/
theorem AppL.app {W w2 w3 : World} {A : Nat} {fs gs : List Fm} {ad : Option Addr} {cp g3 cp3 : Nat} {cs ds : List Value} (hA : A ≤ W.heap.size) (B : Below W.heap.size W w2)
    (hown : w2.ownsRow W.heap.size 24 3 (.slice ad fs.length cp) fs.length cs) (hlq : LQ (fun b => b < A) w2 cs fs) (hds : LQ (fun b => b < A) w2 ds gs)
    (hown3 : w3.ownsRow W.heap.size 24 3 (.slice (some ⟨g3, 0, none⟩) (fs.length + gs.length) cp3) (fs.length + gs.length) (cs ++ ds)) (hgrow : w2.grownBy w3 (Value.slice ad fs.length cp).ownBlock) :
    AppL A W.heap.size (fs ++ gs) (some ⟨g3, 0, none⟩) cp3 w3 ∧ Below W.heap.size W w3 := by
  (have hk : ∀ j, j < W.heap.size → w3.heap[j]? = w2.heap[j]? := fun j hj => hgrow.block j (by have := B.size; omega) (fun e => by have := (hown.lt j e.symm).1; omega)); (refine ⟨⟨cs ++ ds, by rw [List.length_append]; exact hown3, (hlq.append hds).move fun b _ hb => ⟨hk b (by omega), hb⟩⟩, ?_, ?_, ?_, ?_, ?_⟩)
  all_goals first
    | exact hgrow.os.trans B.os
    | exact hgrow.tape.trans B.tape
    | exact hgrow.output.trans B.output
    | (have := hgrow.size; have := B.size; omega)
    | exact fun j hj => (hk j hj).trans (B.block j hj)

set_option maxRecDepth 10000 in
set_option maxHeartbeats 8000000 in
theorem concat_two (A : Nat) (l r : List Fm) (hl : l.length ≤ 400) (hr : r.length ≤ 400) (v u : Value) (b : Nat) (w : World) (hA : A ≤ w.heap.size) (hv : FLp (· < A) w v l) (hu : FLp (· < A) w u r) (hb : w.heap[b]? = some (.cells #[v, u] 22 (0, 0))) :
    Calls Try.prog 151 #[.slice (some ⟨b, 0, none⟩) 2 2] w fun e w' => ∃ ad cp, e = .returned (.slice ad (l ++ r).length cp) ∧ AppL A w.heap.size (l ++ r) ad cp w' ∧ Below w.heap.size w w' := by
  have HV : Hid (FLp (· < A) w v l) := hv; have HU : Hid (FLp (· < A) w u r) := hu; have HAw : Hid (A ≤ w.heap.size) := hA; clear hA; obtain ⟨adV, cpV, rfl, hv1, hv2, -⟩ := hv; obtain ⟨adU, cpU, rfl, hu1, hu2, -⟩ := hu; obtain ⟨i0, hi, hz0, hz1, hz2⟩ := infoFormula; have HIo : Hid (Try.prog.info? 24 = some i0 ∧ i0.zero = some (.agg #[.int .i64 0, .string ⟨#[]⟩, .slice none 0 0]) ∧ i0.size = 3 ∧ i0.bytes = 48) := ⟨hi, hz0, hz1, hz2⟩; obtain ⟨a0, a1, -⟩ := blk2 hb; (have hlI : (l.length : Int) ≤ 400 := by omega); (have hrI : (r.length : Int) ≤ 400 := by omega); clear hi hz0 hz1 hz2 hv1 hv2 hu1 hu2
  go_enter Try.func151, Try.ntmps151
  go_wp2_with fail
  go_loopg [11, 3] 2 (fun g c o wr => (g = 2 ∧ c = .int .i64 0 ∧ o = .int .i64 0 ∧ wr = w) ∨ (g = 1 ∧ c = .int .i64 1 ∧ o = .int .i64 (l.length : Nat) ∧ wr = w) ∨ (g = 0 ∧ c = .int .i64 2 ∧ o = .int .i64 ((l.length + r.length : Nat) : Int) ∧ wr = w))
  case atStart => exact Or.inl ⟨rfl, rfl, rfl, rfl⟩
  case round =>
    rcases hrel with ⟨hg, rfl, rfl, hw⟩ | ⟨hg, rfl, rfl, hw⟩ | ⟨hg, rfl, rfl, hw⟩
    · have hw' := hw.symm
      subst hw'; have HG : Hid (gk = 2) := hg; clear hg; go_wp2_with fail
      go_roundg 1
      case measure => have := HG.out; omega
      case rel => exact Or.inr (Or.inl ⟨rfl, by go_num, by go_num, rfl⟩)
    · have hw' := hw.symm
      subst hw'; have HG : Hid (gk = 1) := hg; clear hg; go_wp2_with fail
      go_roundg 0
      case measure => have := HG.out; omega
      case rel => exact Or.inr (Or.inr ⟨rfl, by go_num, by go_num, rfl⟩)
    · have hw' := hw.symm
      subst hw'; clear hg; go_wp2_with fail; (rw [show ((l.length : Int) + (r.length : Int)) = ((l.length + r.length : Nat) : Int) by simp]); (refine (grow_any A (l.length + r.length) (by omega) w).mono ?_); rintro e w2 ⟨ad0, cp0, rfl, hA, B2⟩; have HA : Hid (AppL A w.heap.size [] ad0 cp0 w2) := hA; clear hA a0 a1; have HB : Hid (w.heap[b]? = some (.cells #[.slice adV l.length cpV, .slice adU r.length cpU] 22 (0, 0))) := hb; clear hb; go_wp2_with fail
      go_loopg [27, 6] 2 (fun g c o wr => Hid (Below w.heap.size w wr) ∧ ((∃ ad cp, g = 2 ∧ c = .int .i64 0 ∧ o = .slice ad 0 cp ∧ Hid (AppL A w.heap.size [] ad cp wr)) ∨ (∃ ad cp, g = 1 ∧ c = .int .i64 1 ∧ o = .slice ad l.length cp ∧ Hid (AppL A w.heap.size l ad cp wr)) ∨ (∃ ad cp, g = 0 ∧ c = .int .i64 2 ∧ o = .slice ad (l ++ r).length cp ∧ Hid (AppL A w.heap.size (l ++ r) ad cp wr))))
      case atStart => exact ⟨B2, Or.inl ⟨ad0, cp0, rfl, rfl, rfl, HA⟩⟩
      case round =>
        clear HA B2; obtain ⟨HW, hrel⟩ := hrel; obtain ⟨a0, a1, -⟩ := blk2 (below_keep HW.out HB.out)
        rcases hrel with ⟨ad, cp, hg, rfl, rfl, HA⟩ | ⟨ad, cp, hg, rfl, rfl, HA⟩ | ⟨ad, cp, hg, rfl, rfl, HA⟩
        · have HG : Hid (gk = 2) := hg
          clear hg; by_cases hne : l = []
          · subst hne
            have BW := HW.out; (have hpu : ∀ w : World, (pure #[] : Sem (Array Value)).run Try.prog w = .ok #[] w := fun _ => rfl); (have hsc : ∀ (a : Addr) (w : World), (storeCells a ([] : List Value)).run Try.prog w = .ok () w := fun _ _ => rfl)
            rcases HA.out.shape with ⟨rfl, rfl, hd⟩ | ⟨gg, rfl, hle⟩
            · 
              clear hd
              cases adV
              all_goals
                go_wp2_with fail
                go_roundg 1
                case measure => have := HG.out; omega
                case rel => exact ⟨BW, Or.inr (Or.inl ⟨none, 0, rfl, by go_num, by simp, HA.out⟩)⟩
            · clear hle
              cases adV
              all_goals
                go_wp2_with fail
                go_roundg 1
                case measure => have := HG.out; omega
                case rel => exact ⟨BW, Or.inr (Or.inl ⟨_, _, rfl, by go_num, by simp, HA.out⟩)⟩
          · obtain ⟨bs, offs, ds, rfl, hds, hcs⟩ := HV.out.cells hne
            have BW := HW.out; have hpos : 0 < l.length := List.length_pos_iff.2 hne; obtain ⟨cs, hown, hlq⟩ := HA.out; (have hds' := hds.move (ok' := fun b => b < A) (w' := wr) fun b hb hp => ⟨BW.block b hb, hp⟩); have HD : Hid (LQ _ wr ds l) := hds'; have HL : Hid (LQ _ wr cs []) := hlq; have hlen := hds.len; have HOne : Hid (∀ u ∈ ds, u.oneCell' = true) := hds.one; (have HCs : Hid (∀ (j : Nat) (u : Value), ds[j]? = some u → wr.cell? ⟨bs, offs + j, none⟩ = some u) := fun j u hu => (BW.cell (p := ⟨bs, offs + j, none⟩) (lt_of_cell (hcs j u hu))).trans (hcs j u hu)); obtain ⟨hi, hz0, hz1, hz2⟩ := HIo.out; have zw := BW.size; clear hds hds' hcs hlq hne
            go_wp2_with (first
              | (at_builtin
                 refine wpList_append_lies _ rfl _ _ 22 rfl w.heap.size 24 i0 (.agg #[.int .i64 0, .string ⟨#[]⟩, .slice none 0 0]) 3 48 Try.underlying22 hi hz0 hz1 hz2 rfl (by decide) _ _ _ rfl hown ⟨bs, offs, none⟩ l.length cpV ds rfl hlen (fun j u hu => by
                   rw [add_none]
                   exact HCs.out j u hu) HOne.out hpos (by unfold maxLen; simp; omega) (by simp; omega) zw _ rfl ?_
                 intro g3 cp3 w3 hown3 hgrow hat hlt3)
              | fail)
            obtain ⟨hA3, B3⟩ := AppL.app (gs := l) HAw.out BW hown HL.out HD.out hown3 hgrow; have HA3 : Hid (AppL A w.heap.size ([] ++ l) (some ⟨g3, 0, none⟩) cp3 w3) := hA3; clear hown hown3 hgrow hat hA3 hlen hi hz0 hz1 hz2; go_wp2_with fail
            go_roundg 1
            case measure => have := HG.out; omega
            case rel => exact ⟨B3, Or.inr (Or.inl ⟨_, _, rfl, by go_num, by simp, HA3.out⟩)⟩
        · have HG : Hid (gk = 1) := hg
          clear hg; by_cases hne : r = []
          · subst hne
            have BW := HW.out; (have hpu : ∀ w : World, (pure #[] : Sem (Array Value)).run Try.prog w = .ok #[] w := fun _ => rfl); (have hsc : ∀ (a : Addr) (w : World), (storeCells a ([] : List Value)).run Try.prog w = .ok () w := fun _ _ => rfl)
            rcases HA.out.shape with ⟨rfl, rfl, hd⟩ | ⟨gg, rfl, hle⟩
            · subst hd
              
              cases adU
              all_goals
                go_wp2_with fail
                go_roundg 0
                case measure => have := HG.out; omega
                case rel => exact ⟨BW, Or.inr (Or.inr ⟨none, 0, rfl, by go_num, by simp, by rw [List.append_nil]; exact HA.out⟩)⟩
            · have hleI : (l.length : Int) ≤ (cp : Int) := by omega
              cases adU
              all_goals
                go_wp2_with fail
                go_roundg 0
                case measure => have := HG.out; omega
                case rel => exact ⟨BW, Or.inr (Or.inr ⟨some ⟨gg, 0, none⟩, cp, rfl, by go_num, by simp, by rw [List.append_nil]; exact HA.out⟩)⟩
          · obtain ⟨bs, offs, ds, rfl, hds, hcs⟩ := HU.out.cells hne
            have BW := HW.out; have hpos : 0 < r.length := List.length_pos_iff.2 hne; obtain ⟨cs, hown, hlq⟩ := HA.out; (have hds' := hds.move (ok' := fun b => b < A) (w' := wr) fun b hb hp => ⟨BW.block b hb, hp⟩); have HD : Hid (LQ _ wr ds r) := hds'; have HL : Hid (LQ _ wr cs l) := hlq; have hlen := hds.len; have HOne : Hid (∀ u ∈ ds, u.oneCell' = true) := hds.one; (have HCs : Hid (∀ (j : Nat) (u : Value), ds[j]? = some u → wr.cell? ⟨bs, offs + j, none⟩ = some u) := fun j u hu => (BW.cell (p := ⟨bs, offs + j, none⟩) (lt_of_cell (hcs j u hu))).trans (hcs j u hu)); obtain ⟨hi, hz0, hz1, hz2⟩ := HIo.out; have zw := BW.size; clear hds hds' hcs hlq hne
            go_wp2_with (first
              | (at_builtin
                 refine wpList_append_lies _ rfl _ _ 22 rfl w.heap.size 24 i0 (.agg #[.int .i64 0, .string ⟨#[]⟩, .slice none 0 0]) 3 48 Try.underlying22 hi hz0 hz1 hz2 rfl (by decide) _ _ _ rfl hown ⟨bs, offs, none⟩ r.length cpU ds rfl hlen (fun j u hu => by
                   rw [add_none]
                   exact HCs.out j u hu) HOne.out hpos (by unfold maxLen; omega) (by omega) zw _ rfl ?_
                 intro g3 cp3 w3 hown3 hgrow hat hlt3)
              | fail)
            obtain ⟨hA3, B3⟩ := AppL.app (gs := r) HAw.out BW hown HL.out HD.out hown3 hgrow; have HA3 : Hid (AppL A w.heap.size (l ++ r) (some ⟨g3, 0, none⟩) cp3 w3) := hA3; clear hown hown3 hgrow hat hA3 hlen hi hz0 hz1 hz2; go_wp2_with fail
            go_roundg 0
            case measure => have := HG.out; omega
            case rel => exact ⟨B3, Or.inr (Or.inr ⟨_, _, rfl, by go_num, by simp, HA3.out⟩)⟩
        · clear hg
          have BW := HW.out; go_wp2_with fail; go_ret; exact ⟨ad, cp, rfl, HA.out, BW⟩
end Go.Proofs.Ytffkoiemnchdgae
/- Walks: package bag, and what is plain. -/
namespace Go.Proofs.Ytffkoiemnchdgae
open Go.RowKit

theorem concat_any (A : Nat) (l r : List Fm) (hl : l.length ≤ 400) (hr : r.length ≤ 400) (v u : Value) (b : Nat) (w : World) (hA : A ≤ w.heap.size) (hv : FLp (· < A) w v l) (hu : FLp (· < A) w u r) (hb : w.heap[b]? = some (.cells #[v, u] 22 (0, 0))) :
    Calls Try.prog 151 #[.slice (some ⟨b, 0, none⟩) 2 2] w fun e w' => ∃ x, e = .returned x ∧ FLp (fun b => b < A ∨ w.heap.size ≤ b) w' x (l ++ r) ∧ Below w.heap.size w w' := by
  refine (concat_two A l r hl hr v u b w hA hv hu hb).mono ?_; rintro e w' ⟨ad, cp, rfl, h, hB⟩; exact ⟨_, rfl, h.flp hA, hB⟩

set_option maxHeartbeats 1000000 in
theorem bagWith_low (A : Nat) (l m : List Fm) (hl : l.length ≤ 400) (hm : m.length ≤ 400) (v u : Value) (w : World) (hA : A ≤ w.heap.size) (hv : FLp (· < A) w v l) (hu : FLp (· < A) w u m) :
    Calls Try.prog 117 #[v, u] w fun e w' => ∃ x, e = .returned x ∧ FLp (fun b => b < A ∨ w.heap.size ≤ b) w' x (l ++ m) ∧ Below w.heap.size w w' := by
  have B0 := below_more (Below.refl _ w) (.cells #[v, u] 22 (0, 0)); (have hc := concat_any A l m hl hm v u w.heap.size (w.alloc (.cells #[v, u] 22 (0, 0))) (by simp; omega) (hv.up B0) (hu.up B0) (blk_new _ _)); have HC : Hid (Calls Try.prog 151 _ _ _) := hc; have HAw : Hid (A ≤ w.heap.size) := hA; obtain ⟨ad, cp, rfl, -⟩ := hv; obtain ⟨ad', cp', rfl, -⟩ := hu; clear hc hA
  go_enter Try.func117, Try.ntmps117
  go_wp2_with fail; refine HC.out.mono ?_; rintro e w1 ⟨x, rfl, hF, hb1⟩; (have HF : Hid (FLp (fun b => b < A ∨ w.heap.size ≤ b) w1 x (l ++ m)) := hF.move fun k _ hk => ⟨rfl, hk.imp id fun h => by simp at h; omega⟩); have B1 := below_join B0 hb1; clear hF; go_wp2_with fail; go_ret; exact ⟨_, rfl, HF.out, B1⟩
theorem bagWith_any (l m : List Fm) (hl : l.length ≤ 400) (hm : m.length ≤ 400) (v u : Value) (w : World) (hv : FL w v l) (hu : FL w u m) :
    Calls Try.prog 117 #[v, u] w fun e w' => ∃ x, e = .returned x ∧ FL w' x (l ++ m) ∧ Below w.heap.size w w' := by
  refine (bagWith_low w.heap.size l m hl hm v u w (Nat.le_refl _) hv.low hu.low).mono ?_; rintro e w' ⟨x, rfl, h, hB⟩; exact ⟨x, rfl, h.list, hB⟩

theorem vcode_nil (f : Fm) : vcode f [] = f.pcode := by
  unfold vcode; by_cases h : f.pcode.1 = 0
  · rw [if_pos h, (pcode_ok h).2.2]
    simp
  · rw [if_neg h]

set_option maxHeartbeats 1000000 in
theorem plainCode_any (f : Fm) (v : Value) (w : World) (hrep : Rep w (fun _ => True) f v) :
    Calls Try.prog 137 #[v] w fun e w' => e = .returned (.int .i64 f.pcode.1) ∧ Below w.heap.size w w' := by
  (have hva := fun v u (w : World) h h' => value_any f [] (fun t h => by cases h) v u w h h'); rw [vcode_nil] at hva; generalize f.pcode = pc at *; obtain ⟨k, n, ks⟩ := f; obtain ⟨sl, cap, rfl⟩ := slice_shape hrep; (have HV : Hid (∀ v u w, Rep w (fun _ => True) (.mk k n ks) v → SL w u [] → Calls Try.prog 59 #[v, u] w _) := hva); obtain ⟨c, a⟩ := pc; clear hva
  go_enter Try.func137, Try.ntmps137
  go_wp2_with fail; (refine (HV.out _ _ _ (hrep.more _) ⟨none, 0, rfl, by simp, by simp, fun h => absurd rfl h⟩).mono ?_); rintro e w1 ⟨rfl, hb1⟩; have B1 := below_join (below_more (Below.refl _ w) _) hb1; go_wp2_with fail; go_ret; exact ⟨rfl, below_more B1 _⟩

theorem isF_idx (n : Fm) (fs : List Fm) : isF n fs = fs.idxOf n := rfl
theorem erase_at {n : Fm} {fs : List Fm} (h : hasF n fs = true) : fs.erase n = fs.take (isF n fs) ++ fs.drop (isF n fs + 1) ∧ isF n fs < fs.length := by
  have hm := (hasF_mem n fs).1 h; (refine ⟨?_, by rw [isF_idx]; exact List.idxOf_lt_length_of_mem hm⟩); rw [isF_idx, List.erase_eq_eraseIdx_of_idxOf rfl, List.eraseIdx_eq_take_drop_succ]
theorem reps_take {P : Nat → Prop} {w : World} {b : Nat} : ∀ {fs : List Fm} {off : Nat} (i : Nat), Reps w P b off fs → Reps w P b off (fs.take i)
  | [], _, i, _ => by rw [List.take_nil]; exact Reps.nil
  | f :: fs, off, 0, _ => Reps.nil
  | f :: fs, off, i + 1, h => by
    rw [List.take_succ_cons]; rw [Reps.cons] at h ⊢; exact ⟨h.1, reps_take i h.2⟩
theorem reps_drop {P : Nat → Prop} {w : World} {b : Nat} : ∀ {fs : List Fm} {off : Nat} (i : Nat), Reps w P b off fs → Reps w P b (off + i * 3) (fs.drop i)
  | [], _, i, _ => by rw [List.drop_nil]; exact Reps.nil
  | f :: fs, off, 0, h => by simpa using h
  | f :: fs, off, i + 1, h => by
    (rw [List.drop_succ_cons, show off + (i + 1) * 3 = off + 3 + i * 3 by omega]); exact reps_drop i (Reps.cons.1 h).2
theorem FLp.take {P : Nat → Prop} {w : World} {ad : Option Addr} {cap : Nat} {fs : List Fm} (h : FLp P w (.slice ad fs.length cap) fs) {i : Nat} (hi : i ≤ fs.length) : FLp P w (.slice ad i cap) (fs.take i) := by
  obtain ⟨ad', cap', hv, h1, h2, h3⟩ := h; simp only [Value.slice.injEq, true_and] at hv; obtain ⟨rfl, rfl⟩ := hv; (refine ⟨ad, cap, by rw [List.length_take, Nat.min_eq_left hi], by rw [List.length_take]; omega, h2, fun hne => ?_⟩); (obtain ⟨b, off, h5, h6, h7⟩ := h3 (fun e => hne (by rw [e]; simp))); exact ⟨b, off, h5, h6, reps_take i h7⟩
theorem FLp.drop {P : Nat → Prop} {w : World} {b off : Nat} {cap : Nat} {fs : List Fm} (h : FLp P w (.slice (some ⟨b, off, none⟩) fs.length cap) fs) {i : Nat} (hi : i ≤ fs.length) {ad : Option Addr} (hlt : i < fs.length → ad = some ⟨b, off + i * 3, none⟩) : FLp P w (.slice ad (fs.length - i) (cap - i)) (fs.drop i) := by
  obtain ⟨ad', cap', hv, h1, h2, h3⟩ := h; simp only [Value.slice.injEq, true_and] at hv; obtain ⟨rfl, rfl⟩ := hv; (refine ⟨ad, cap - i, by rw [List.length_drop], by rw [List.length_drop]; omega, by omega, fun hne => ?_⟩)
  have hil : i < fs.length := by
    rcases Nat.lt_or_ge i fs.length with h | h
    · exact h
    · exact absurd (List.drop_of_length_le h) hne
  (obtain ⟨b', off', h5, h6, h7⟩ := h3 (fun e => hne (by rw [e]; simp))); simp only [Option.some.injEq, Addr.mk.injEq, and_true] at h5; obtain ⟨rfl, rfl⟩ := h5; exact ⟨b, off + i * 3, hlt hil, h6, reps_drop i h7⟩
end Go.Proofs.Ytffkoiemnchdgae
/- A list of formulas appended to one that is one's own, whatever it holds. -/
namespace Go.Proofs.Ytffkoiemnchdgae
open Go.RowKit

theorem AppL.nil {A B : Nat} {w : World} : AppL A B [] none 0 w := ⟨[], ⟨rfl, Or.inl ⟨rfl, rfl⟩⟩, trivial⟩
theorem AppL.cap {A B : Nat} {fs : List Fm} {ad : Option Addr} {cp : Nat} {w : World} (h : AppL A B fs ad cp w) : fs.length ≤ cp := by
  rcases h.shape with ⟨-, rfl, rfl⟩ | ⟨g, -, h⟩
  · exact Nat.le_refl _
  · exact h
theorem AppL.up {A B : Nat} {fs : List Fm} {ad : Option Addr} {cp : Nat} {w w' : World} (h : AppL A B fs ad cp w) (hb : Below w.heap.size w w') : AppL A B fs ad cp w' := by
  obtain ⟨cs, ⟨h1, h2⟩, h3⟩ := h; (refine ⟨cs, ⟨h1, ?_⟩, h3.move fun b hb1 hp => ⟨hb.block b hb1, hp⟩⟩)
  rcases h2 with h2 | ⟨g, cap, cur, hv, hg, hh, r⟩
  · exact Or.inl h2
  · exact Or.inr ⟨g, cap, cur, hv, hg, (hb.block g (lt_of_block hh)).trans hh, r⟩
theorem wp_appF {o : Oper} {a : Act} {w : World} {K : Act → World → Prop} {Q : Exit → Act → World → Prop} (s x : Operand) (hop : o.op = Op.call { callee := Callee.builtin Builtin.append, args := #[s, x], argTypes := #[22, 22] })
    (A B : Nat) (fs gs : List Fm) (ad : Option Addr) (cp : Nat) (vx : Value) (hs : a.eval s = .slice ad fs.length cp) (hA : AppL A B fs ad cp w) (hx : a.eval x = vx) (hg : FLp (· < A) w vx gs) (hAB : A ≤ B) (hB : B ≤ w.heap.size) (hl : fs.length + gs.length ≤ 2000)
    (h : ∀ ad3 cp3 w3, AppL A B (fs ++ gs) ad3 cp3 w3 → Below B w w3 → (∀ b, (Value.slice ad fs.length cp).ownBlock ≠ some b → b < w.heap.size → w3.heap[b]? = w.heap[b]?) → K (a.put o.dst (.slice ad3 (fs ++ gs).length cp3)) w3) : Oper.wp Try.prog o a w K Q := by
  obtain ⟨i0, hi, hz0, hz1, hz2⟩ := infoFormula; by_cases hne : gs = []
  · subst hne
    obtain ⟨x0, c, rfl, -⟩ := hg
    have hsrc : Src Try.prog i0.size 22 (.slice x0 0 c) 0 [] w := by
      cases x0 with
      | none => exact Src.ofNil w Try.underlying22 c
      | some ad => exact Src.ofSlice w Try.underlying22 ad 0 c [] (by simp) (fun j u h => by simp at h) (fun u h => by cases h)
    have hrun := run_append_nothing (P := Try.prog) w 22 22 o.type 24 i0 Try.underlying22 hi ad fs.length cp hA.cap (.slice x0 0 c) hsrc; have hx' : a.eval x = .slice x0 0 c := hx; (have h9 := h ad cp w (by rw [List.append_nil]; exact hA) (Below.refl _ _) (fun _ _ _ => rfl)); rw [List.append_nil] at h9; unfold Oper.wp; simp [execOp, hop, resolve, invoke, builtin, hs, hx', hrun, Result.andThen]; exact h9
  · have hg' := hg
    obtain ⟨x0, c, rfl, -⟩ := hg'; obtain ⟨bs, offs, ds, rfl, hds, hcs⟩ := hg.cells hne; have hpos : 0 < gs.length := List.length_pos_iff.2 hne; obtain ⟨cs, hown, hlq⟩ := hA
    refine wp_append_lies w s x 22 hop B 24 i0 (.agg #[.int .i64 0, .string ⟨#[]⟩, .slice none 0 0]) 3 48 Try.underlying22 hi hz0 hz1 hz2 rfl (by decide) _ _ _ hs hown ⟨bs, offs, none⟩ gs.length c ds hx hds.len (fun j u hu => by
      rw [add_none]
      exact hcs j u hu) hds.one hpos (by unfold maxLen; omega) (by omega) hB _ rfl ?_
    intro g3 cp3 w3 hown3 hgrow hat hlt3; (have hk : ∀ j, j < B → w3.heap[j]? = w.heap[j]? := fun j hj => hgrow.block j (by omega) (fun e => by have := (hown.lt j e.symm).1; omega)); have e : fs.length + gs.length = (fs ++ gs).length := List.length_append.symm; rw [e] at hown3 ⊢; (exact h _ _ w3 ⟨cs ++ ds, hown3, (hlq.append hds).move fun b _ hb => ⟨hk b (by have : b < A := hb; omega), hb⟩⟩ ⟨hgrow.os, hgrow.tape, hgrow.output, hgrow.size, hk⟩ (fun b hb hlt => hgrow.block b hlt fun e => hb e.symm))
theorem step_appF {ops : Array Oper} {o : Oper} {a : Act} {w : World} {K : Act → World → Prop} {Q : Exit → Act → World → Prop} {E : Prop} (hgd : o.guard = none) (s x : Operand) (hop : o.op = Op.call { callee := Callee.builtin Builtin.append, args := #[s, x], argTypes := #[22, 22] })
    (A B : Nat) (fs gs : List Fm) (ad : Option Addr) (cp : Nat) (vx : Value) (hs : a.eval s = .slice ad fs.length cp) (hA : AppL A B fs ad cp w) (hx : a.eval x = vx) (hg : FLp (· < A) w vx gs) (hAB : A ≤ B) (hB : B ≤ w.heap.size) (hl : fs.length + gs.length ≤ 2000)
    (h : ∀ ad3 cp3 w3, AppL A B (fs ++ gs) ad3 cp3 w3 → Below B w w3 → (∀ b, (Value.slice ad fs.length cp).ownBlock ≠ some b → b < w.heap.size → w3.heap[b]? = w.heap[b]?) → K (a.put o.dst (.slice ad3 (fs ++ gs).length cp3)) w3) : if Region.wanted o (yielded ops a.tmps) = true then Oper.wp Try.prog o a w K Q else E := by
  (have hw : Region.wanted o (yielded ops a.tmps) = true := by simp [Region.wanted, hgd]); rw [if_pos hw]; exact wp_appF s x hop A B fs gs ad cp vx hs hA hx hg hAB hB hl h
end Go.Proofs.Ytffkoiemnchdgae
