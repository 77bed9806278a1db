/- Texts of one proof, one behind the other: CB3, CB4, CB5. -/
import Derived.Test.YtlmjnglcdgkomacB19
import Derived.Test.YtlmjnglcdgkomacB20
/- Walks: two lists of formulas behind each other (slices.Concat). -/
namespace Go.Proofs.Ytlmjnglcdgkomac
open Go.RowKit

/-- More formulas are appended to a list of one's own. -/
def AppL (A B : Nat) (fs : List Fm) (ad : Option Addr) (cp : Nat) (w : World) : Prop := ∃ cs, w.ownsRow B 24 3 (.slice ad fs.length cp) fs.length cs ∧ LQ (fun b => b < A) w cs fs
theorem AppL.flp {A B : Nat} {fs : List Fm} {ad : Option Addr} {cp : Nat} {w : World} (h : AppL A B fs ad cp w) (hAB : A ≤ B) : FLp (fun b => b < A ∨ B ≤ b) w (.slice ad fs.length cp) fs := by
  obtain ⟨cs, h1, h2⟩ := h; (refine kp_list (B := B) ⟨cs, h1, h2.move fun b _ hb => ⟨rfl, Or.inl hb, fun e => ?_⟩⟩ fun _ h => Or.inr h); have := (h1.lt b e).1; omega

theorem AppL.shape {A B : Nat} {fs : List Fm} {ad : Option Addr} {cp : Nat} {w : World} (h : AppL A B fs ad cp w) : (ad = none ∧ cp = 0 ∧ fs = []) ∨ ∃ g, ad = some ⟨g, 0, none⟩ ∧ fs.length ≤ cp := by
  obtain ⟨cs, ⟨h0, h1⟩, h2⟩ := h
  rcases h1 with ⟨hv, hn⟩ | ⟨g, cap, cur, hv, -, -, hl, -⟩
  · simp only [Value.slice.injEq] at hv
    exact Or.inl ⟨hv.1, hv.2.2, List.length_eq_zero_iff.1 hn⟩
  · simp only [Value.slice.injEq, true_and] at hv
    obtain ⟨rfl, rfl⟩ := hv; exact Or.inr ⟨g, rfl, hl⟩
theorem grow_any (A n : Nat) (hn : n ≤ 1000) (w : World) :
    Calls Try.prog 73 #[.slice none 0 0, .int .i64 (n : Nat)] w fun e w' => ∃ ad cp, e = .returned (.slice ad 0 cp) ∧ AppL A w.heap.size [] ad cp w' ∧ Below w.heap.size w w' := by
  rcases Nat.eq_zero_or_pos n with rfl | h0
  · refine (grow_zero w).mono ?_
    rintro e w' ⟨rfl, rfl⟩; exact ⟨none, 0, rfl, ⟨[], ⟨rfl, Or.inl ⟨rfl, rfl⟩⟩, trivial⟩, Below.refl _ _⟩
  · refine (grow_some n h0 hn w).mono ?_
    rintro e w' ⟨g, cp, rfl, ho, hb⟩; exact ⟨_, _, rfl, ⟨[], ho, trivial⟩, hb⟩

/-- What an append of formulas leaves. -/
theorem AppL.app {W w2 w3 : World} {A : Nat} {fs gs : List Fm} {ad : Option Addr} {cp g3 cp3 : Nat} {cs ds : List Value} (hA : A ≤ W.heap.size) (B : Below W.heap.size W w2)
    (hown : w2.ownsRow W.heap.size 24 3 (.slice ad fs.length cp) fs.length cs) (hlq : LQ (fun b => b < A) w2 cs fs) (hds : LQ (fun b => b < A) w2 ds gs)
    (hown3 : w3.ownsRow W.heap.size 24 3 (.slice (some ⟨g3, 0, none⟩) (fs.length + gs.length) cp3) (fs.length + gs.length) (cs ++ ds)) (hgrow : w2.grownBy w3 (Value.slice ad fs.length cp).ownBlock) :
    AppL A W.heap.size (fs ++ gs) (some ⟨g3, 0, none⟩) cp3 w3 ∧ Below W.heap.size W w3 := by
  (have hk : ∀ j, j < W.heap.size → w3.heap[j]? = w2.heap[j]? := fun j hj => hgrow.block j (by have := B.size; omega) (fun e => by have := (hown.lt j e.symm).1; omega)); (refine ⟨⟨cs ++ ds, by rw [List.length_append]; exact hown3, (hlq.append hds).move fun b _ hb => ⟨hk b (by omega), hb⟩⟩, ?_, ?_, ?_, ?_, ?_⟩)
  all_goals first
    | exact hgrow.os.trans B.os
    | exact hgrow.tape.trans B.tape
    | exact hgrow.output.trans B.output
    | (have := hgrow.size; have := B.size; omega)
    | exact fun j hj => (hk j hj).trans (B.block j hj)

set_option maxRecDepth 10000 in
set_option maxHeartbeats 8000000 in
theorem concat_two (A : Nat) (l r : List Fm) (hl : l.length ≤ 400) (hr : r.length ≤ 400) (v u : Value) (b : Nat) (w : World) (hA : A ≤ w.heap.size) (hv : FLp (· < A) w v l) (hu : FLp (· < A) w u r) (hb : w.heap[b]? = some (.cells #[v, u] 22 (0, 0))) :
    Calls Try.prog 67 #[.slice (some ⟨b, 0, none⟩) 2 2] w fun e w' => ∃ ad cp, e = .returned (.slice ad (l ++ r).length cp) ∧ AppL A w.heap.size (l ++ r) ad cp w' ∧ Below w.heap.size w w' := by
  have HV : Hid (FLp (· < A) w v l) := hv; have HU : Hid (FLp (· < A) w u r) := hu; have HAw : Hid (A ≤ w.heap.size) := hA; clear hA; obtain ⟨adV, cpV, rfl, hv1, hv2, -⟩ := hv; obtain ⟨adU, cpU, rfl, hu1, hu2, -⟩ := hu; obtain ⟨i0, hi, hz0, hz1, hz2⟩ := infoFormula; have HIo : Hid (Try.prog.info? 24 = some i0 ∧ i0.zero = some (.agg #[.int .i64 0, .string ⟨#[]⟩, .slice none 0 0]) ∧ i0.size = 3 ∧ i0.bytes = 48) := ⟨hi, hz0, hz1, hz2⟩; obtain ⟨a0, a1, -⟩ := blk2 hb; (have hlI : (l.length : Int) ≤ 400 := by omega); (have hrI : (r.length : Int) ≤ 400 := by omega); clear hi hz0 hz1 hz2 hv1 hv2 hu1 hu2
  go_enter Try.func67, Try.ntmps67
  go_wp2_with fail
  go_loopg [11, 3] 2 (fun g c o wr => (g = 2 ∧ c = .int .i64 0 ∧ o = .int .i64 0 ∧ wr = w) ∨ (g = 1 ∧ c = .int .i64 1 ∧ o = .int .i64 (l.length : Nat) ∧ wr = w) ∨ (g = 0 ∧ c = .int .i64 2 ∧ o = .int .i64 ((l.length + r.length : Nat) : Int) ∧ wr = w))
  case atStart => exact Or.inl ⟨rfl, rfl, rfl, rfl⟩
  case round =>
    rcases hrel with ⟨hg, rfl, rfl, hw⟩ | ⟨hg, rfl, rfl, hw⟩ | ⟨hg, rfl, rfl, hw⟩
    · have hw' := hw.symm
      subst hw'; have HG : Hid (gk = 2) := hg; clear hg; go_wp2_with fail
      go_roundg 1
      case measure => have := HG.out; omega
      case rel => exact Or.inr (Or.inl ⟨rfl, by go_num, by go_num, rfl⟩)
    · have hw' := hw.symm
      subst hw'; have HG : Hid (gk = 1) := hg; clear hg; go_wp2_with fail
      go_roundg 0
      case measure => have := HG.out; omega
      case rel => exact Or.inr (Or.inr ⟨rfl, by go_num, by go_num, rfl⟩)
    · have hw' := hw.symm
      subst hw'; clear hg; go_wp2_with fail; (rw [show ((l.length : Int) + (r.length : Int)) = ((l.length + r.length : Nat) : Int) by simp]); (refine (grow_any A (l.length + r.length) (by omega) w).mono ?_); rintro e w2 ⟨ad0, cp0, rfl, hA, B2⟩; have HA : Hid (AppL A w.heap.size [] ad0 cp0 w2) := hA; clear hA a0 a1; have HB : Hid (w.heap[b]? = some (.cells #[.slice adV l.length cpV, .slice adU r.length cpU] 22 (0, 0))) := hb; clear hb; go_wp2_with fail
      go_loopg [27, 6] 2 (fun g c o wr => Hid (Below w.heap.size w wr) ∧ ((∃ ad cp, g = 2 ∧ c = .int .i64 0 ∧ o = .slice ad 0 cp ∧ Hid (AppL A w.heap.size [] ad cp wr)) ∨ (∃ ad cp, g = 1 ∧ c = .int .i64 1 ∧ o = .slice ad l.length cp ∧ Hid (AppL A w.heap.size l ad cp wr)) ∨ (∃ ad cp, g = 0 ∧ c = .int .i64 2 ∧ o = .slice ad (l ++ r).length cp ∧ Hid (AppL A w.heap.size (l ++ r) ad cp wr))))
      case atStart => exact ⟨B2, Or.inl ⟨ad0, cp0, rfl, rfl, rfl, HA⟩⟩
      case round =>
        clear HA B2; obtain ⟨HW, hrel⟩ := hrel; obtain ⟨a0, a1, -⟩ := blk2 (below_keep HW.out HB.out)
        rcases hrel with ⟨ad, cp, hg, rfl, rfl, HA⟩ | ⟨ad, cp, hg, rfl, rfl, HA⟩ | ⟨ad, cp, hg, rfl, rfl, HA⟩
        · have HG : Hid (gk = 2) := hg
          clear hg; by_cases hne : l = []
          · subst hne
            have BW := HW.out; (have hpu : ∀ w : World, (pure #[] : Sem (Array Value)).run Try.prog w = .ok #[] w := fun _ => rfl); (have hsc : ∀ (a : Addr) (w : World), (storeCells a ([] : List Value)).run Try.prog w = .ok () w := fun _ _ => rfl)
            rcases HA.out.shape with ⟨rfl, rfl, hd⟩ | ⟨gg, rfl, hle⟩
            · 
              clear hd
              cases adV
              all_goals
                go_wp2_with fail
                go_roundg 1
                case measure => have := HG.out; omega
                case rel => exact ⟨BW, Or.inr (Or.inl ⟨none, 0, rfl, by go_num, by simp, HA.out⟩)⟩
            · clear hle
              cases adV
              all_goals
                go_wp2_with fail
                go_roundg 1
                case measure => have := HG.out; omega
                case rel => exact ⟨BW, Or.inr (Or.inl ⟨_, _, rfl, by go_num, by simp, HA.out⟩)⟩
          · obtain ⟨bs, offs, ds, rfl, hds, hcs⟩ := HV.out.cells hne
            have BW := HW.out; have hpos : 0 < l.length := List.length_pos_iff.2 hne; obtain ⟨cs, hown, hlq⟩ := HA.out; (have hds' := hds.move (ok' := fun b => b < A) (w' := wr) fun b hb hp => ⟨BW.block b hb, hp⟩); have HD : Hid (LQ _ wr ds l) := hds'; have HL : Hid (LQ _ wr cs []) := hlq; have hlen := hds.len; have HOne : Hid (∀ u ∈ ds, u.oneCell' = true) := hds.one; (have HCs : Hid (∀ (j : Nat) (u : Value), ds[j]? = some u → wr.cell? ⟨bs, offs + j, none⟩ = some u) := fun j u hu => (BW.cell (p := ⟨bs, offs + j, none⟩) (lt_of_cell (hcs j u hu))).trans (hcs j u hu)); obtain ⟨hi, hz0, hz1, hz2⟩ := HIo.out; have zw := BW.size; clear hds hds' hcs hlq hne
            go_wp2_with (first
              | (at_builtin
                 refine wpList_append_lies _ rfl _ _ 22 rfl w.heap.size 24 i0 (.agg #[.int .i64 0, .string ⟨#[]⟩, .slice none 0 0]) 3 48 Try.underlying22 hi hz0 hz1 hz2 rfl (by decide) _ _ _ rfl hown ⟨bs, offs, none⟩ l.length cpV ds rfl hlen (fun j u hu => by
                   rw [add_none]
                   exact HCs.out j u hu) HOne.out hpos (by unfold maxLen; simp; omega) (by simp; omega) zw _ rfl ?_
                 intro g3 cp3 w3 hown3 hgrow hat hlt3)
              | fail)
            obtain ⟨hA3, B3⟩ := AppL.app (gs := l) HAw.out BW hown HL.out HD.out hown3 hgrow; have HA3 : Hid (AppL A w.heap.size ([] ++ l) (some ⟨g3, 0, none⟩) cp3 w3) := hA3; clear hown hown3 hgrow hat hA3 hlen hi hz0 hz1 hz2; go_wp2_with fail
            go_roundg 1
            case measure => have := HG.out; omega
            case rel => exact ⟨B3, Or.inr (Or.inl ⟨_, _, rfl, by go_num, by simp, HA3.out⟩)⟩
        · have HG : Hid (gk = 1) := hg
          clear hg; by_cases hne : r = []
          · subst hne
            have BW := HW.out; (have hpu : ∀ w : World, (pure #[] : Sem (Array Value)).run Try.prog w = .ok #[] w := fun _ => rfl); (have hsc : ∀ (a : Addr) (w : World), (storeCells a ([] : List Value)).run Try.prog w = .ok () w := fun _ _ => rfl)
            rcases HA.out.shape with ⟨rfl, rfl, hd⟩ | ⟨gg, rfl, hle⟩
            · subst hd
              
              cases adU
              all_goals
                go_wp2_with fail
                go_roundg 0
                case measure => have := HG.out; omega
                case rel => exact ⟨BW, Or.inr (Or.inr ⟨none, 0, rfl, by go_num, by simp, by rw [List.append_nil]; exact HA.out⟩)⟩
            · have hleI : (l.length : Int) ≤ (cp : Int) := by omega
              cases adU
              all_goals
                go_wp2_with fail
                go_roundg 0
                case measure => have := HG.out; omega
                case rel => exact ⟨BW, Or.inr (Or.inr ⟨some ⟨gg, 0, none⟩, cp, rfl, by go_num, by simp, by rw [List.append_nil]; exact HA.out⟩)⟩
          · obtain ⟨bs, offs, ds, rfl, hds, hcs⟩ := HU.out.cells hne
            have BW := HW.out; have hpos : 0 < r.length := List.length_pos_iff.2 hne; obtain ⟨cs, hown, hlq⟩ := HA.out; (have hds' := hds.move (ok' := fun b => b < A) (w' := wr) fun b hb hp => ⟨BW.block b hb, hp⟩); have HD : Hid (LQ _ wr ds r) := hds'; have HL : Hid (LQ _ wr cs l) := hlq; have hlen := hds.len; have HOne : Hid (∀ u ∈ ds, u.oneCell' = true) := hds.one; (have HCs : Hid (∀ (j : Nat) (u : Value), ds[j]? = some u → wr.cell? ⟨bs, offs + j, none⟩ = some u) := fun j u hu => (BW.cell (p := ⟨bs, offs + j, none⟩) (lt_of_cell (hcs j u hu))).trans (hcs j u hu)); obtain ⟨hi, hz0, hz1, hz2⟩ := HIo.out; have zw := BW.size; clear hds hds' hcs hlq hne
            go_wp2_with (first
              | (at_builtin
                 refine wpList_append_lies _ rfl _ _ 22 rfl w.heap.size 24 i0 (.agg #[.int .i64 0, .string ⟨#[]⟩, .slice none 0 0]) 3 48 Try.underlying22 hi hz0 hz1 hz2 rfl (by decide) _ _ _ rfl hown ⟨bs, offs, none⟩ r.length cpU ds rfl hlen (fun j u hu => by
                   rw [add_none]
                   exact HCs.out j u hu) HOne.out hpos (by unfold maxLen; omega) (by omega) zw _ rfl ?_
                 intro g3 cp3 w3 hown3 hgrow hat hlt3)
              | fail)
            obtain ⟨hA3, B3⟩ := AppL.app (gs := r) HAw.out BW hown HL.out HD.out hown3 hgrow; have HA3 : Hid (AppL A w.heap.size (l ++ r) (some ⟨g3, 0, none⟩) cp3 w3) := hA3; clear hown hown3 hgrow hat hA3 hlen hi hz0 hz1 hz2; go_wp2_with fail
            go_roundg 0
            case measure => have := HG.out; omega
            case rel => exact ⟨B3, Or.inr (Or.inr ⟨_, _, rfl, by go_num, by simp, HA3.out⟩)⟩
        · clear hg
          have BW := HW.out; go_wp2_with fail; go_ret; exact ⟨ad, cp, rfl, HA.out, BW⟩
end Go.Proofs.Ytlmjnglcdgkomac
/- Walks: package bag, and what is plain. -/
namespace Go.Proofs.Ytlmjnglcdgkomac
open Go.RowKit

theorem concat_any (A : Nat) (l r : List Fm) (hl : l.length ≤ 400) (hr : r.length ≤ 400) (v u : Value) (b : Nat) (w : World) (hA : A ≤ w.heap.size) (hv : FLp (· < A) w v l) (hu : FLp (· < A) w u r) (hb : w.heap[b]? = some (.cells #[v, u] 22 (0, 0))) :
    Calls Try.prog 67 #[.slice (some ⟨b, 0, none⟩) 2 2] w fun e w' => ∃ x, e = .returned x ∧ FLp (fun b => b < A ∨ w.heap.size ≤ b) w' x (l ++ r) ∧ Below w.heap.size w w' := by
  refine (concat_two A l r hl hr v u b w hA hv hu hb).mono ?_; rintro e w' ⟨ad, cp, rfl, h, hB⟩; exact ⟨_, rfl, h.flp hA, hB⟩

set_option maxHeartbeats 1000000 in
theorem bagWith_low (A : Nat) (l m : List Fm) (hl : l.length ≤ 400) (hm : m.length ≤ 400) (v u : Value) (w : World) (hA : A ≤ w.heap.size) (hv : FLp (· < A) w v l) (hu : FLp (· < A) w u m) :
    Calls Try.prog 42 #[v, u] w fun e w' => ∃ x, e = .returned x ∧ FLp (fun b => b < A ∨ w.heap.size ≤ b) w' x (l ++ m) ∧ Below w.heap.size w w' := by
  have B0 := below_more (Below.refl _ w) (.cells #[v, u] 22 (0, 0)); (have hc := concat_any A l m hl hm v u w.heap.size (w.alloc (.cells #[v, u] 22 (0, 0))) (by simp; omega) (hv.up B0) (hu.up B0) (blk_new _ _)); have HC : Hid (Calls Try.prog 67 _ _ _) := hc; have HAw : Hid (A ≤ w.heap.size) := hA; obtain ⟨ad, cp, rfl, -⟩ := hv; obtain ⟨ad', cp', rfl, -⟩ := hu; clear hc hA
  go_enter Try.func42, Try.ntmps42
  go_wp2_with fail; refine HC.out.mono ?_; rintro e w1 ⟨x, rfl, hF, hb1⟩; (have HF : Hid (FLp (fun b => b < A ∨ w.heap.size ≤ b) w1 x (l ++ m)) := hF.move fun k _ hk => ⟨rfl, hk.imp id fun h => by simp at h; omega⟩); have B1 := below_join B0 hb1; clear hF; go_wp2_with fail; go_ret; exact ⟨_, rfl, HF.out, B1⟩
theorem bagWith_any (l m : List Fm) (hl : l.length ≤ 400) (hm : m.length ≤ 400) (v u : Value) (w : World) (hv : FL w v l) (hu : FL w u m) :
    Calls Try.prog 42 #[v, u] w fun e w' => ∃ x, e = .returned x ∧ FL w' x (l ++ m) ∧ Below w.heap.size w w' := by
  refine (bagWith_low w.heap.size l m hl hm v u w (Nat.le_refl _) hv.low hu.low).mono ?_; rintro e w' ⟨x, rfl, h, hB⟩; exact ⟨x, rfl, h.list, hB⟩

theorem vcode_nil (f : Fm) : vcode f [] = f.pcode := by
  unfold vcode; by_cases h : f.pcode.1 = 0
  · rw [if_pos h, (pcode_ok h).2.2]
    simp
  · rw [if_neg h]

set_option maxHeartbeats 1000000 in
theorem plainCode_any (f : Fm) (v : Value) (w : World) (hrep : Rep w (fun _ => True) f v) :
    Calls Try.prog 62 #[v] w fun e w' => e = .returned (.int .i64 f.pcode.1) ∧ Below w.heap.size w w' := by
  (have hva := fun v u (w : World) h h' => value_any f [] (fun t h => by cases h) v u w h h'); rw [vcode_nil] at hva; generalize f.pcode = pc at *; obtain ⟨k, n, ks⟩ := f; obtain ⟨sl, cap, rfl⟩ := slice_shape hrep; (have HV : Hid (∀ v u w, Rep w (fun _ => True) (.mk k n ks) v → SL w u [] → Calls Try.prog 70 #[v, u] w _) := hva); obtain ⟨c, a⟩ := pc; clear hva
  go_enter Try.func62, Try.ntmps62
  go_wp2_with fail; (refine (HV.out _ _ _ (hrep.more _) ⟨none, 0, rfl, by simp, by simp, fun h => absurd rfl h⟩).mono ?_); rintro e w1 ⟨rfl, hb1⟩; have B1 := below_join (below_more (Below.refl _ w) _) hb1; go_wp2_with fail; go_ret; exact ⟨rfl, below_more B1 _⟩

theorem isF_idx (n : Fm) (fs : List Fm) : isF n fs = fs.idxOf n := rfl
theorem erase_at {n : Fm} {fs : List Fm} (h : hasF n fs = true) : fs.erase n = fs.take (isF n fs) ++ fs.drop (isF n fs + 1) ∧ isF n fs < fs.length := by
  have hm := (hasF_mem n fs).1 h; (refine ⟨?_, by rw [isF_idx]; exact List.idxOf_lt_length_of_mem hm⟩); rw [isF_idx, List.erase_eq_eraseIdx_of_idxOf rfl, List.eraseIdx_eq_take_drop_succ]
theorem reps_take {P : Nat → Prop} {w : World} {b : Nat} : ∀ {fs : List Fm} {off : Nat} (i : Nat), Reps w P b off fs → Reps w P b off (fs.take i)
  | [], _, i, _ => by rw [List.take_nil]; exact Reps.nil
  | f :: fs, off, 0, _ => Reps.nil
  | f :: fs, off, i + 1, h => by
    rw [List.take_succ_cons]; rw [Reps.cons] at h ⊢; exact ⟨h.1, reps_take i h.2⟩
theorem reps_drop {P : Nat → Prop} {w : World} {b : Nat} : ∀ {fs : List Fm} {off : Nat} (i : Nat), Reps w P b off fs → Reps w P b (off + i * 3) (fs.drop i)
  | [], _, i, _ => by rw [List.drop_nil]; exact Reps.nil
  | f :: fs, off, 0, h => by simpa using h
  | f :: fs, off, i + 1, h => by
    (rw [List.drop_succ_cons, show off + (i + 1) * 3 = off + 3 + i * 3 by omega]); exact reps_drop i (Reps.cons.1 h).2
theorem FLp.take {P : Nat → Prop} {w : World} {ad : Option Addr} {cap : Nat} {fs : List Fm} (h : FLp P w (.slice ad fs.length cap) fs) {i : Nat} (hi : i ≤ fs.length) : FLp P w (.slice ad i cap) (fs.take i) := by
  obtain ⟨ad', cap', hv, h1, h2, h3⟩ := h; simp only [Value.slice.injEq, true_and] at hv; obtain ⟨rfl, rfl⟩ := hv; (refine ⟨ad, cap, by rw [List.length_take, Nat.min_eq_left hi], by rw [List.length_take]; omega, h2, fun hne => ?_⟩); (obtain ⟨b, off, h5, h6, h7⟩ := h3 (fun e => hne (by rw [e]; simp))); exact ⟨b, off, h5, h6, reps_take i h7⟩
theorem FLp.drop {P : Nat → Prop} {w : World} {b off : Nat} {cap : Nat} {fs : List Fm} (h : FLp P w (.slice (some ⟨b, off, none⟩) fs.length cap) fs) {i : Nat} (hi : i ≤ fs.length) {ad : Option Addr} (hlt : i < fs.length → ad = some ⟨b, off + i * 3, none⟩) : FLp P w (.slice ad (fs.length - i) (cap - i)) (fs.drop i) := by
  obtain ⟨ad', cap', hv, h1, h2, h3⟩ := h; simp only [Value.slice.injEq, true_and] at hv; obtain ⟨rfl, rfl⟩ := hv; (refine ⟨ad, cap - i, by rw [List.length_drop], by rw [List.length_drop]; omega, by omega, fun hne => ?_⟩)
  have hil : i < fs.length := by
    rcases Nat.lt_or_ge i fs.length with h | h
    · exact h
    · exact absurd (List.drop_of_length_le h) hne
  (obtain ⟨b', off', h5, h6, h7⟩ := h3 (fun e => hne (by rw [e]; simp))); simp only [Option.some.injEq, Addr.mk.injEq, and_true] at h5; obtain ⟨rfl, rfl⟩ := h5; exact ⟨b, off + i * 3, hlt hil, h6, reps_drop i h7⟩
end Go.Proofs.Ytlmjnglcdgkomac
/- Walks: bag.Without. -/
namespace Go.Proofs.Ytlmjnglcdgkomac
open Go.RowKit

theorem wrap_small (n : Nat) (h : n < 9223372036854775808) : IntKind.i64.wrap (n : Int) = (n : Int) := by
  (have h1 : (n : Int).toNat = n := by omega); simp [IntKind.wrap, IntKind.bits, IntKind.signed]; omega

set_option maxRecDepth 10000 in
set_option maxHeartbeats 4000000 in
theorem without_low (A : Nat) (l : List Fm) (f : Fm) (hl : l.length ≤ 400) (v u : Value) (w : World) (hA : A ≤ w.heap.size) (hv : FLp (· < A) w v l) (hu : Rep w (fun _ => True) f u) :
    Calls Try.prog 71 #[v, u] w fun e w' => ∃ x, e = .returned x ∧ FLp (fun b => b < A ∨ w.heap.size ≤ b) w' x (l.erase f) ∧ Below w.heap.size w w' := by
  (have hpl := fun v u (w : World) h h' => place_any l f v u w h h'); obtain ⟨k, n, ks⟩ := f; obtain ⟨sl, cap, rfl⟩ := slice_shape hu; (have HP : Hid (∀ v u w, FL w v l → Rep w (fun _ => True) (.mk k n ks) u → Calls Try.prog 75 #[v, u] w _) := hpl); have HV : Hid (FLp (· < A) w v l) := hv; (have HU : Hid (Rep w (fun _ => True) (.mk k n ks) _) := hu); have HAw : Hid (A ≤ w.heap.size) := hA; obtain ⟨ad, cp, rfl, hlc, hcm, -⟩ := hv; clear hpl hu hA; by_cases hh : hasF (.mk k n ks) l = true
  · obtain ⟨he, hlt⟩ := erase_at hh
    (have hat : atF (.mk k n ks) l = (isF (.mk k n ks) l : Nat) := by unfold atF; rw [if_pos hh]); rw [hat] at HP; have HE : Hid (l.erase (.mk k n ks) = l.take (isF (.mk k n ks) l) ++ l.drop (isF (.mk k n ks) l + 1)) := he; clear hat he hh; generalize isF (.mk k n ks) l = at0 at *; (have hne : l ≠ [] := fun e => by rw [e] at hlt; simp at hlt)
    obtain ⟨b, off, hadd, -, -⟩ : ∃ b off, ad = some ⟨b, off, none⟩ ∧ b < A ∧ Reps w (· < A) b off l := by
      obtain ⟨ad', cap', hv, -, -, h4⟩ := HV.out; simp only [Value.slice.injEq, true_and] at hv; obtain ⟨rfl, rfl⟩ := hv; exact h4 hne
    subst hadd; (have hltI : (at0 : Int) < (l.length : Int) := by omega); (have hlI : (l.length : Int) ≤ 400 := by omega); (have hlcI : (l.length : Int) ≤ (cp : Int) := by omega); (have hcmI : (cp : Int) ≤ 9223372036854775807 := by unfold maxLen at hcm; omega); clear hne; obtain ⟨j, hj⟩ : ∃ j, j = at0 + 1 := ⟨_, rfl⟩; (have hjI : (at0 : Int) + 1 = (j : Int) := by omega); (have hjw : IntKind.i64.wrap (j : Int) = (j : Int) := wrap_small j (by omega)); have HJ : Hid (j = at0 + 1) := hj; rw [← hj] at HE; (have hjl : j ≤ l.length := by omega); clear hj; by_cases hce : cp = j
    · subst hce
      go_enter Try.func71, Try.ntmps71
      go_wp2_with fail; refine (HP.out _ _ _ (HV.out.list.up (below_more (Below.refl _ w) _)) (HU.out.more _)).mono ?_; rintro e w1 ⟨rfl, hb1⟩; have B1 := below_join (below_more (Below.refl _ w) _) hb1; clear hb1; have z1 := B1.size; (have HF1 : Hid (FLp (· < A) w1 (.slice (some ⟨b, off, none⟩) at0 cp) (l.take at0)) := (HV.out.up B1).take (by omega))
      have HF2 : Hid (FLp (· < A) w1 (.slice (some ⟨b, off, none⟩) 0 0) (l.drop cp)) := by
        (have := (HV.out.up B1).drop (i := cp) (ad := some ⟨b, off, none⟩) (by omega) (fun h => by omega)); rw [Nat.sub_self, Nat.sub_eq_zero_of_le hlc] at this; exact this
      (have h10 : (0 : Int) ≤ (at0 : Int) := by omega); (have h11 : (at0 : Int) ≤ (cp : Int) := by omega); (have h12 : (cp : Int) ≤ (l.length : Int) := by omega); (have h13 : (0 : Int) ≤ (cp : Int) := by omega); go_wp2_with fail
      go_region_held3 (fun _ => True) (trivial)
        (first
         | (go_at_call 67
            (refine (concat_any A (l.take at0) (l.drop cp) (by simp; omega) (by simp; omega) _ _ _ _ (by have := HAw.out; simp; omega) ((HF1.out.up (Below.refl _ _).drew).up (below_more (Below.refl _ _) _)) ((HF2.out.up (Below.refl _ _).drew).up (below_more (Below.refl _ _) _)) (blk_new _ _)).mono ?_); rintro e w2 ⟨x, rfl, hF, hb2⟩
            have HF : Hid (FLp (fun b => b < A ∨ w.heap.size ≤ b) w2 x (l.erase (.mk k n ks))) := by
              rw [HE.out]; (exact hF.move fun q _ hq => ⟨rfl, hq.imp id fun h => by simp at h; omega⟩)
            have B2 := below_join (below_more B1.drew _) hb2
            clear hF hb2)
         | fail)
      all_goals
        go_wp2_with fail; go_ret; exact ⟨_, rfl, HF.out, B2⟩
    · have hcj : j ≤ cp := by omega
      go_enter Try.func71, Try.ntmps71
      go_wp2_with fail; refine (HP.out _ _ _ (HV.out.list.up (below_more (Below.refl _ w) _)) (HU.out.more _)).mono ?_; rintro e w1 ⟨rfl, hb1⟩; have B1 := below_join (below_more (Below.refl _ w) _) hb1; clear hb1; have z1 := B1.size; (have HF1 : Hid (FLp (· < A) w1 (.slice (some ⟨b, off, none⟩) at0 cp) (l.take at0)) := (HV.out.up B1).take (by omega)); (have HF2 : Hid (FLp (· < A) w1 (.slice (some ⟨b, off + j * 3, none⟩) (l.length - j) (cp - j)) (l.drop j)) := (HV.out.up B1).drop (by omega) (fun h => rfl)); (have h10 : (0 : Int) ≤ (at0 : Int) := by omega); (have h11 : (at0 : Int) ≤ (cp : Int) := by omega); (have h12 : (j : Int) ≤ (l.length : Int) := by omega); (have h13 : (0 : Int) ≤ (j : Int) := by omega); (have h14 : (j : Int) ≤ (cp : Int) := by omega); go_wp2_with fail
      go_region_held3 (fun _ => True) (trivial)
        (first
         | (go_at_call 67
            (refine (concat_any A (l.take at0) (l.drop j) (by simp; omega) (by simp; omega) _ _ _ _ (by have := HAw.out; simp; omega) ((HF1.out.up (Below.refl _ _).drew).up (below_more (Below.refl _ _) _)) ((HF2.out.up (Below.refl _ _).drew).up (below_more (Below.refl _ _) _)) (blk_new _ _)).mono ?_); rintro e w2 ⟨x, rfl, hF, hb2⟩
            have HF : Hid (FLp (fun b => b < A ∨ w.heap.size ≤ b) w2 x (l.erase (.mk k n ks))) := by
              rw [HE.out]; (exact hF.move fun q _ hq => ⟨rfl, hq.imp id fun h => by simp at h; omega⟩)
            have B2 := below_join (below_more B1.drew _) hb2
            clear hF hb2)
         | fail)
      all_goals
        go_wp2_with fail; go_ret; exact ⟨_, rfl, HF.out, B2⟩
  · have hat : atF (.mk k n ks) l = -1 := by unfold atF; rw [if_neg hh]
    rw [hat] at HP; (have he : l.erase (.mk k n ks) = l := List.erase_of_not_mem fun h => hh ((hasF_mem _ _).2 h)); rw [he]; clear hat he hh
    go_enter Try.func71, Try.ntmps71
    go_wp2_with fail; refine (HP.out _ _ _ (HV.out.list.up (below_more (Below.refl _ w) _)) (HU.out.more _)).mono ?_; rintro e w1 ⟨rfl, hb1⟩; have B1 := below_join (below_more (Below.refl _ w) _) hb1; go_wp2_with fail; (refine (cloneF_low (· < A) l (by omega) _ w1 (HV.out.up B1)).mono ?_); rintro e w2 ⟨ad2, cp2, rfl, hk, hb2⟩; have B2 := below_join B1 hb2
    have HK : Hid (FLp (fun b => b < A ∨ w.heap.size ≤ b) w2 (.slice ad2 l.length cp2) l) := kp_list (P := fun b => b < A ∨ w.heap.size ≤ b) (by
      obtain ⟨cs, h1, h2⟩ := hk
      exact ⟨cs, h1, h2.move fun b _ hb => ⟨rfl, Or.inl hb.1, hb.2⟩⟩) fun b hb => Or.inr (by have := B1.size; omega)
    clear hk; go_wp2_with fail; go_ret; exact ⟨_, rfl, HK.out, B2⟩
end Go.Proofs.Ytlmjnglcdgkomac
