/- Texts of one proof, one behind the other: CB4, CB5, CP1. -/
import Derived.Test.YtlmjnglcdgkomacB20
import Derived.Test.YtlmjnglcdgkomacB19
/- Walks: package bag, and what is plain. -/
namespace Go.Proofs.Ytlmjnglcdgkomac
open Go.RowKit

theorem concat_any (A : Nat) (l r : List Fm) (hl : l.length ≤ 400) (hr : r.length ≤ 400) (v u : Value) (b : Nat) (w : World) (hA : A ≤ w.heap.size) (hv : FLp (· < A) w v l) (hu : FLp (· < A) w u r) (hb : w.heap[b]? = some (.cells #[v, u] 22 (0, 0))) :
    Calls Try.prog 67 #[.slice (some ⟨b, 0, none⟩) 2 2] w fun e w' => ∃ x, e = .returned x ∧ FLp (fun b => b < A ∨ w.heap.size ≤ b) w' x (l ++ r) ∧ Below w.heap.size w w' := by
  refine (concat_two A l r hl hr v u b w hA hv hu hb).mono ?_; rintro e w' ⟨ad, cp, rfl, h, hB⟩; exact ⟨_, rfl, h.flp hA, hB⟩

set_option maxHeartbeats 1000000 in
theorem bagWith_low (A : Nat) (l m : List Fm) (hl : l.length ≤ 400) (hm : m.length ≤ 400) (v u : Value) (w : World) (hA : A ≤ w.heap.size) (hv : FLp (· < A) w v l) (hu : FLp (· < A) w u m) :
    Calls Try.prog 42 #[v, u] w fun e w' => ∃ x, e = .returned x ∧ FLp (fun b => b < A ∨ w.heap.size ≤ b) w' x (l ++ m) ∧ Below w.heap.size w w' := by
  have B0 := below_more (Below.refl _ w) (.cells #[v, u] 22 (0, 0)); (have hc := concat_any A l m hl hm v u w.heap.size (w.alloc (.cells #[v, u] 22 (0, 0))) (by simp; omega) (hv.up B0) (hu.up B0) (blk_new _ _)); have HC : Hid (Calls Try.prog 67 _ _ _) := hc; have HAw : Hid (A ≤ w.heap.size) := hA; obtain ⟨ad, cp, rfl, -⟩ := hv; obtain ⟨ad', cp', rfl, -⟩ := hu; clear hc hA
  go_enter Try.func42, Try.ntmps42
  go_wp2_with fail; refine HC.out.mono ?_; rintro e w1 ⟨x, rfl, hF, hb1⟩; (have HF : Hid (FLp (fun b => b < A ∨ w.heap.size ≤ b) w1 x (l ++ m)) := hF.move fun k _ hk => ⟨rfl, hk.imp id fun h => by simp at h; omega⟩); have B1 := below_join B0 hb1; clear hF; go_wp2_with fail; go_ret; exact ⟨_, rfl, HF.out, B1⟩
theorem bagWith_any (l m : List Fm) (hl : l.length ≤ 400) (hm : m.length ≤ 400) (v u : Value) (w : World) (hv : FL w v l) (hu : FL w u m) :
    Calls Try.prog 42 #[v, u] w fun e w' => ∃ x, e = .returned x ∧ FL w' x (l ++ m) ∧ Below w.heap.size w w' := by
  refine (bagWith_low w.heap.size l m hl hm v u w (Nat.le_refl _) hv.low hu.low).mono ?_; rintro e w' ⟨x, rfl, h, hB⟩; exact ⟨x, rfl, h.list, hB⟩

theorem vcode_nil (f : Fm) : vcode f [] = f.pcode := by
  unfold vcode; by_cases h : f.pcode.1 = 0
  · rw [if_pos h, (pcode_ok h).2.2]
    simp
  · rw [if_neg h]

set_option maxHeartbeats 1000000 in
theorem plainCode_any (f : Fm) (v : Value) (w : World) (hrep : Rep w (fun _ => True) f v) :
    Calls Try.prog 62 #[v] w fun e w' => e = .returned (.int .i64 f.pcode.1) ∧ Below w.heap.size w w' := by
  (have hva := fun v u (w : World) h h' => value_any f [] (fun t h => by cases h) v u w h h'); rw [vcode_nil] at hva; generalize f.pcode = pc at *; obtain ⟨k, n, ks⟩ := f; obtain ⟨sl, cap, rfl⟩ := slice_shape hrep; (have HV : Hid (∀ v u w, Rep w (fun _ => True) (.mk k n ks) v → SL w u [] → Calls Try.prog 70 #[v, u] w _) := hva); obtain ⟨c, a⟩ := pc; clear hva
  go_enter Try.func62, Try.ntmps62
  go_wp2_with fail; (refine (HV.out _ _ _ (hrep.more _) ⟨none, 0, rfl, by simp, by simp, fun h => absurd rfl h⟩).mono ?_); rintro e w1 ⟨rfl, hb1⟩; have B1 := below_join (below_more (Below.refl _ w) _) hb1; go_wp2_with fail; go_ret; exact ⟨rfl, below_more B1 _⟩

theorem isF_idx (n : Fm) (fs : List Fm) : isF n fs = fs.idxOf n := rfl
theorem erase_at {n : Fm} {fs : List Fm} (h : hasF n fs = true) : fs.erase n = fs.take (isF n fs) ++ fs.drop (isF n fs + 1) ∧ isF n fs < fs.length := by
  have hm := (hasF_mem n fs).1 h; (refine ⟨?_, by rw [isF_idx]; exact List.idxOf_lt_length_of_mem hm⟩); rw [isF_idx, List.erase_eq_eraseIdx_of_idxOf rfl, List.eraseIdx_eq_take_drop_succ]
theorem reps_take {P : Nat → Prop} {w : World} {b : Nat} : ∀ {fs : List Fm} {off : Nat} (i : Nat), Reps w P b off fs → Reps w P b off (fs.take i)
  | [], _, i, _ => by rw [List.take_nil]; exact Reps.nil
  | f :: fs, off, 0, _ => Reps.nil
  | f :: fs, off, i + 1, h => by
    rw [List.take_succ_cons]; rw [Reps.cons] at h ⊢; exact ⟨h.1, reps_take i h.2⟩
theorem reps_drop {P : Nat → Prop} {w : World} {b : Nat} : ∀ {fs : List Fm} {off : Nat} (i : Nat), Reps w P b off fs → Reps w P b (off + i * 3) (fs.drop i)
  | [], _, i, _ => by rw [List.drop_nil]; exact Reps.nil
  | f :: fs, off, 0, h => by simpa using h
  | f :: fs, off, i + 1, h => by
    (rw [List.drop_succ_cons, show off + (i + 1) * 3 = off + 3 + i * 3 by omega]); exact reps_drop i (Reps.cons.1 h).2
theorem FLp.take {P : Nat → Prop} {w : World} {ad : Option Addr} {cap : Nat} {fs : List Fm} (h : FLp P w (.slice ad fs.length cap) fs) {i : Nat} (hi : i ≤ fs.length) : FLp P w (.slice ad i cap) (fs.take i) := by
  obtain ⟨ad', cap', hv, h1, h2, h3⟩ := h; simp only [Value.slice.injEq, true_and] at hv; obtain ⟨rfl, rfl⟩ := hv; (refine ⟨ad, cap, by rw [List.length_take, Nat.min_eq_left hi], by rw [List.length_take]; omega, h2, fun hne => ?_⟩); (obtain ⟨b, off, h5, h6, h7⟩ := h3 (fun e => hne (by rw [e]; simp))); exact ⟨b, off, h5, h6, reps_take i h7⟩
theorem FLp.drop {P : Nat → Prop} {w : World} {b off : Nat} {cap : Nat} {fs : List Fm} (h : FLp P w (.slice (some ⟨b, off, none⟩) fs.length cap) fs) {i : Nat} (hi : i ≤ fs.length) {ad : Option Addr} (hlt : i < fs.length → ad = some ⟨b, off + i * 3, none⟩) : FLp P w (.slice ad (fs.length - i) (cap - i)) (fs.drop i) := by
  obtain ⟨ad', cap', hv, h1, h2, h3⟩ := h; simp only [Value.slice.injEq, true_and] at hv; obtain ⟨rfl, rfl⟩ := hv; (refine ⟨ad, cap - i, by rw [List.length_drop], by rw [List.length_drop]; omega, by omega, fun hne => ?_⟩)
  have hil : i < fs.length := by
    rcases Nat.lt_or_ge i fs.length with h | h
    · exact h
    · exact absurd (List.drop_of_length_le h) hne
  (obtain ⟨b', off', h5, h6, h7⟩ := h3 (fun e => hne (by rw [e]; simp))); simp only [Option.some.injEq, Addr.mk.injEq, and_true] at h5; obtain ⟨rfl, rfl⟩ := h5; exact ⟨b, off + i * 3, hlt hil, h6, reps_drop i h7⟩
end Go.Proofs.Ytlmjnglcdgkomac
/- Walks: bag.Without. -/
namespace Go.Proofs.Ytlmjnglcdgkomac
open Go.RowKit

theorem wrap_small (n : Nat) (h : n < 9223372036854775808) : IntKind.i64.wrap (n : Int) = (n : Int) := by
  (have h1 : (n : Int).toNat = n := by omega); simp [IntKind.wrap, IntKind.bits, IntKind.signed]; omega

set_option maxRecDepth 10000 in
set_option maxHeartbeats 4000000 in
theorem without_low (A : Nat) (l : List Fm) (f : Fm) (hl : l.length ≤ 400) (v u : Value) (w : World) (hA : A ≤ w.heap.size) (hv : FLp (· < A) w v l) (hu : Rep w (fun _ => True) f u) :
    Calls Try.prog 71 #[v, u] w fun e w' => ∃ x, e = .returned x ∧ FLp (fun b => b < A ∨ w.heap.size ≤ b) w' x (l.erase f) ∧ Below w.heap.size w w' := by
  (have hpl := fun v u (w : World) h h' => place_any l f v u w h h'); obtain ⟨k, n, ks⟩ := f; obtain ⟨sl, cap, rfl⟩ := slice_shape hu; (have HP : Hid (∀ v u w, FL w v l → Rep w (fun _ => True) (.mk k n ks) u → Calls Try.prog 75 #[v, u] w _) := hpl); have HV : Hid (FLp (· < A) w v l) := hv; (have HU : Hid (Rep w (fun _ => True) (.mk k n ks) _) := hu); have HAw : Hid (A ≤ w.heap.size) := hA; obtain ⟨ad, cp, rfl, hlc, hcm, -⟩ := hv; clear hpl hu hA; by_cases hh : hasF (.mk k n ks) l = true
  · obtain ⟨he, hlt⟩ := erase_at hh
    (have hat : atF (.mk k n ks) l = (isF (.mk k n ks) l : Nat) := by unfold atF; rw [if_pos hh]); rw [hat] at HP; have HE : Hid (l.erase (.mk k n ks) = l.take (isF (.mk k n ks) l) ++ l.drop (isF (.mk k n ks) l + 1)) := he; clear hat he hh; generalize isF (.mk k n ks) l = at0 at *; (have hne : l ≠ [] := fun e => by rw [e] at hlt; simp at hlt)
    obtain ⟨b, off, hadd, -, -⟩ : ∃ b off, ad = some ⟨b, off, none⟩ ∧ b < A ∧ Reps w (· < A) b off l := by
      obtain ⟨ad', cap', hv, -, -, h4⟩ := HV.out; simp only [Value.slice.injEq, true_and] at hv; obtain ⟨rfl, rfl⟩ := hv; exact h4 hne
    subst hadd; (have hltI : (at0 : Int) < (l.length : Int) := by omega); (have hlI : (l.length : Int) ≤ 400 := by omega); (have hlcI : (l.length : Int) ≤ (cp : Int) := by omega); (have hcmI : (cp : Int) ≤ 9223372036854775807 := by unfold maxLen at hcm; omega); clear hne; obtain ⟨j, hj⟩ : ∃ j, j = at0 + 1 := ⟨_, rfl⟩; (have hjI : (at0 : Int) + 1 = (j : Int) := by omega); (have hjw : IntKind.i64.wrap (j : Int) = (j : Int) := wrap_small j (by omega)); have HJ : Hid (j = at0 + 1) := hj; rw [← hj] at HE; (have hjl : j ≤ l.length := by omega); clear hj; by_cases hce : cp = j
    · subst hce
      go_enter Try.func71, Try.ntmps71
      go_wp2_with fail; refine (HP.out _ _ _ (HV.out.list.up (below_more (Below.refl _ w) _)) (HU.out.more _)).mono ?_; rintro e w1 ⟨rfl, hb1⟩; have B1 := below_join (below_more (Below.refl _ w) _) hb1; clear hb1; have z1 := B1.size; (have HF1 : Hid (FLp (· < A) w1 (.slice (some ⟨b, off, none⟩) at0 cp) (l.take at0)) := (HV.out.up B1).take (by omega))
      have HF2 : Hid (FLp (· < A) w1 (.slice (some ⟨b, off, none⟩) 0 0) (l.drop cp)) := by
        (have := (HV.out.up B1).drop (i := cp) (ad := some ⟨b, off, none⟩) (by omega) (fun h => by omega)); rw [Nat.sub_self, Nat.sub_eq_zero_of_le hlc] at this; exact this
      (have h10 : (0 : Int) ≤ (at0 : Int) := by omega); (have h11 : (at0 : Int) ≤ (cp : Int) := by omega); (have h12 : (cp : Int) ≤ (l.length : Int) := by omega); (have h13 : (0 : Int) ≤ (cp : Int) := by omega); go_wp2_with fail
      go_region_held3 (fun _ => True) (trivial)
        (first
         | (go_at_call 67
            (refine (concat_any A (l.take at0) (l.drop cp) (by simp; omega) (by simp; omega) _ _ _ _ (by have := HAw.out; simp; omega) ((HF1.out.up (Below.refl _ _).drew).up (below_more (Below.refl _ _) _)) ((HF2.out.up (Below.refl _ _).drew).up (below_more (Below.refl _ _) _)) (blk_new _ _)).mono ?_); rintro e w2 ⟨x, rfl, hF, hb2⟩
            have HF : Hid (FLp (fun b => b < A ∨ w.heap.size ≤ b) w2 x (l.erase (.mk k n ks))) := by
              rw [HE.out]; (exact hF.move fun q _ hq => ⟨rfl, hq.imp id fun h => by simp at h; omega⟩)
            have B2 := below_join (below_more B1.drew _) hb2
            clear hF hb2)
         | fail)
      all_goals
        go_wp2_with fail; go_ret; exact ⟨_, rfl, HF.out, B2⟩
    · have hcj : j ≤ cp := by omega
      go_enter Try.func71, Try.ntmps71
      go_wp2_with fail; refine (HP.out _ _ _ (HV.out.list.up (below_more (Below.refl _ w) _)) (HU.out.more _)).mono ?_; rintro e w1 ⟨rfl, hb1⟩; have B1 := below_join (below_more (Below.refl _ w) _) hb1; clear hb1; have z1 := B1.size; (have HF1 : Hid (FLp (· < A) w1 (.slice (some ⟨b, off, none⟩) at0 cp) (l.take at0)) := (HV.out.up B1).take (by omega)); (have HF2 : Hid (FLp (· < A) w1 (.slice (some ⟨b, off + j * 3, none⟩) (l.length - j) (cp - j)) (l.drop j)) := (HV.out.up B1).drop (by omega) (fun h => rfl)); (have h10 : (0 : Int) ≤ (at0 : Int) := by omega); (have h11 : (at0 : Int) ≤ (cp : Int) := by omega); (have h12 : (j : Int) ≤ (l.length : Int) := by omega); (have h13 : (0 : Int) ≤ (j : Int) := by omega); (have h14 : (j : Int) ≤ (cp : Int) := by omega); go_wp2_with fail
      go_region_held3 (fun _ => True) (trivial)
        (first
         | (go_at_call 67
            (refine (concat_any A (l.take at0) (l.drop j) (by simp; omega) (by simp; omega) _ _ _ _ (by have := HAw.out; simp; omega) ((HF1.out.up (Below.refl _ _).drew).up (below_more (Below.refl _ _) _)) ((HF2.out.up (Below.refl _ _).drew).up (below_more (Below.refl _ _) _)) (blk_new _ _)).mono ?_); rintro e w2 ⟨x, rfl, hF, hb2⟩
            have HF : Hid (FLp (fun b => b < A ∨ w.heap.size ≤ b) w2 x (l.erase (.mk k n ks))) := by
              rw [HE.out]; (exact hF.move fun q _ hq => ⟨rfl, hq.imp id fun h => by simp at h; omega⟩)
            have B2 := below_join (below_more B1.drew _) hb2
            clear hF hb2)
         | fail)
      all_goals
        go_wp2_with fail; go_ret; exact ⟨_, rfl, HF.out, B2⟩
  · have hat : atF (.mk k n ks) l = -1 := by unfold atF; rw [if_neg hh]
    rw [hat] at HP; (have he : l.erase (.mk k n ks) = l := List.erase_of_not_mem fun h => hh ((hasF_mem _ _).2 h)); rw [he]; clear hat he hh
    go_enter Try.func71, Try.ntmps71
    go_wp2_with fail; refine (HP.out _ _ _ (HV.out.list.up (below_more (Below.refl _ w) _)) (HU.out.more _)).mono ?_; rintro e w1 ⟨rfl, hb1⟩; have B1 := below_join (below_more (Below.refl _ w) _) hb1; go_wp2_with fail; (refine (cloneF_low (· < A) l (by omega) _ w1 (HV.out.up B1)).mono ?_); rintro e w2 ⟨ad2, cp2, rfl, hk, hb2⟩; have B2 := below_join B1 hb2
    have HK : Hid (FLp (fun b => b < A ∨ w.heap.size ≤ b) w2 (.slice ad2 l.length cp2) l) := kp_list (P := fun b => b < A ∨ w.heap.size ≤ b) (by
      obtain ⟨cs, h1, h2⟩ := hk
      exact ⟨cs, h1, h2.move fun b _ hb => ⟨rfl, Or.inl hb.1, hb.2⟩⟩) fun b hb => Or.inr (by have := B1.size; omega)
    clear hk; go_wp2_with fail; go_ret; exact ⟨_, rfl, HK.out, B2⟩
end Go.Proofs.Ytlmjnglcdgkomac
/- Proofs in memory. -/
namespace Go.Proofs.Ytlmjnglcdgkomac
open Go.RowKit

mutual
def PRep (w : World) : Pf → Value → Prop
  | .mk a f l r ks, v => ∃ c0 c1 c2 vl vr sl cap, v = .agg #[.string a, c0, c1, c2, vl, vr, .slice sl ks.length cap] ∧ a.size ≤ maxLen ∧ Rep w (fun _ => True) f (.agg #[c0, c1, c2]) ∧ FL w vl l ∧ FL w vr r ∧ ks.length ≤ cap ∧ cap ≤ maxLen ∧ (ks ≠ [] → ∃ b off, sl = some ⟨b, off, none⟩ ∧ PReps w b off ks)
def PReps (w : World) (b : Nat) : Nat → List Pf → Prop
  | _, [] => True
  | off, p :: ps => (∃ c0 c1 c2 c3 c4 c5 c6, w.cell? ⟨b, off, none⟩ = some c0 ∧ w.cell? ⟨b, off + 1, none⟩ = some c1 ∧ w.cell? ⟨b, off + 2, none⟩ = some c2 ∧ w.cell? ⟨b, off + 3, none⟩ = some c3 ∧ w.cell? ⟨b, off + 4, none⟩ = some c4 ∧ w.cell? ⟨b, off + 5, none⟩ = some c5 ∧ w.cell? ⟨b, off + 6, none⟩ = some c6 ∧ PRep w p (.agg #[c0, c1, c2, c3, c4, c5, c6])) ∧ PReps w b (off + 7) ps
end
theorem PRep.def {w : World} {a : ByteArray} {f : Fm} {l r : List Fm} {ks : List Pf} {v : Value} : PRep w (.mk a f l r ks) v ↔ ∃ c0 c1 c2 vl vr sl cap, v = .agg #[.string a, c0, c1, c2, vl, vr, .slice sl ks.length cap] ∧ a.size ≤ maxLen ∧ Rep w (fun _ => True) f (.agg #[c0, c1, c2]) ∧ FL w vl l ∧ FL w vr r ∧ ks.length ≤ cap ∧ cap ≤ maxLen ∧ (ks ≠ [] → ∃ b off, sl = some ⟨b, off, none⟩ ∧ PReps w b off ks) := by
  rw [PRep]
theorem PReps.nil {w : World} {b off : Nat} : PReps w b off [] := by rw [PReps]; trivial
theorem PReps.cons {w : World} {b off : Nat} {p : Pf} {ps : List Pf} : PReps w b off (p :: ps) ↔ (∃ c0 c1 c2 c3 c4 c5 c6, w.cell? ⟨b, off, none⟩ = some c0 ∧ w.cell? ⟨b, off + 1, none⟩ = some c1 ∧ w.cell? ⟨b, off + 2, none⟩ = some c2 ∧ w.cell? ⟨b, off + 3, none⟩ = some c3 ∧ w.cell? ⟨b, off + 4, none⟩ = some c4 ∧ w.cell? ⟨b, off + 5, none⟩ = some c5 ∧ w.cell? ⟨b, off + 6, none⟩ = some c6 ∧ PRep w p (.agg #[c0, c1, c2, c3, c4, c5, c6])) ∧ PReps w b (off + 7) ps := by
  rw [PReps]

mutual
theorem PRep.up {w w' : World} (hb : Below w.heap.size w w') : ∀ (p : Pf) (v : Value), PRep w p v → PRep w' p v
  | .mk a f l r ks, v, h => by
    rw [PRep.def] at h ⊢; obtain ⟨c0, c1, c2, vl, vr, sl, cap, hv, ha, hf, hl, hr, h1, h2, h3⟩ := h; (refine ⟨c0, c1, c2, vl, vr, sl, cap, hv, ha, hf.up hb, hl.up hb, hr.up hb, h1, h2, fun hne => ?_⟩); obtain ⟨b, off, hs, hp⟩ := h3 hne; exact ⟨b, off, hs, PReps.up hb b off ks hp⟩
theorem PReps.up {w w' : World} (hb : Below w.heap.size w w') (b : Nat) : ∀ (off : Nat) (ps : List Pf), PReps w b off ps → PReps w' b off ps
  | _, [], _ => PReps.nil
  | off, p :: ps, h => by
    rw [PReps.cons] at h ⊢; obtain ⟨⟨c0, c1, c2, c3, c4, c5, c6, h0, h1, h2, h3, h4, h5, h6, hp⟩, hs⟩ := h; (have k := fun (o : Nat) (c : Value) (h : w.cell? ⟨b, o, none⟩ = some c) => (hb.cell (p := ⟨b, o, none⟩) (lt_of_cell h)).trans h); exact ⟨⟨c0, c1, c2, c3, c4, c5, c6, k _ _ h0, k _ _ h1, k _ _ h2, k _ _ h3, k _ _ h4, k _ _ h5, k _ _ h6, PRep.up hb p _ hp⟩, PReps.up hb b (off + 7) ps hs⟩
end

/-- The i-th of the kids. -/
theorem PReps.get {w : World} {b : Nat} : ∀ {off : Nat} {ps : List Pf} (_ : PReps w b off ps) (i : Nat) (p : Pf) (_ : ps[i]? = some p),
    ∃ c0 c1 c2 c3 c4 c5 c6, w.cell? ⟨b, off + i * 7, none⟩ = some c0 ∧ w.cell? ⟨b, off + i * 7 + 1, none⟩ = some c1 ∧ w.cell? ⟨b, off + i * 7 + 2, none⟩ = some c2 ∧ w.cell? ⟨b, off + i * 7 + 3, none⟩ = some c3 ∧ w.cell? ⟨b, off + i * 7 + 4, none⟩ = some c4 ∧ w.cell? ⟨b, off + i * 7 + 5, none⟩ = some c5 ∧ w.cell? ⟨b, off + i * 7 + 6, none⟩ = some c6 ∧ PRep w p (.agg #[c0, c1, c2, c3, c4, c5, c6])
  | off, [], _, i, p, hp => by simp at hp
  | off, q :: qs, h, i, p, hp => by
    obtain ⟨h1, h2⟩ := PReps.cons.1 h
    cases i with
    | zero => simp at hp; subst hp; simpa using h1
    | succ i =>
      (have := PReps.get h2 i p (by simpa using hp)); (have e : off + 7 + i * 7 = off + (i + 1) * 7 := by omega)
      rwa [e] at this

/-- A proof's value, with its parts shown. -/
theorem PRep.parts {w : World} {a : ByteArray} {k : Int} {n : ByteArray} {kf : List Fm} {l r : List Fm} {ks : List Pf} {v : Value} (h : PRep w (.mk a (.mk k n kf) l r ks) v) :
    ∃ sf cf al cl ar cr sl cap, v = .agg #[.string a, .int .i64 k, .string n, .slice sf kf.length cf, .slice al l.length cl, .slice ar r.length cr, .slice sl ks.length cap] ∧ a.size ≤ maxLen ∧ Rep w (fun _ => True) (.mk k n kf) (.agg #[.int .i64 k, .string n, .slice sf kf.length cf]) ∧ FL w (.slice al l.length cl) l ∧ FL w (.slice ar r.length cr) r ∧ ks.length ≤ cap ∧ cap ≤ maxLen ∧ (ks ≠ [] → ∃ b off, sl = some ⟨b, off, none⟩ ∧ PReps w b off ks) := by
  obtain ⟨c0, c1, c2, vl, vr, sl, cap, hv, ha, hf, hl, hr, h1, h2, h3⟩ := PRep.def.1 h; obtain ⟨sf, cf, hfv⟩ := slice_shape hf; simp only [Value.agg.injEq, Array.mk.injEq, List.cons.injEq, and_true] at hfv; obtain ⟨rfl, rfl, rfl⟩ := hfv; have hl' := hl; have hr' := hr; obtain ⟨al, cl, rfl, -⟩ := hl; obtain ⟨ar, cr, rfl, -⟩ := hr; exact ⟨sf, cf, al, cl, ar, cr, sl, cap, hv, ha, hf, hl', hr', h1, h2, h3⟩

theorem PReps.at {w : World} {b off : Nat} {ps : List Pf} (h : PReps w b off ps) (i : Nat) (a : ByteArray) (k : Int) (n : ByteArray) (kf : List Fm) (l r : List Fm) (ks : List Pf) (hp : ps[i]? = some (.mk a (.mk k n kf) l r ks)) :
    ∃ sf cf al cl ar cr sl cap, w.cell? ⟨b, off + i * 7, none⟩ = some (.string a) ∧ w.cell? ⟨b, off + i * 7 + 1, none⟩ = some (.int .i64 k) ∧ w.cell? ⟨b, off + i * 7 + 2, none⟩ = some (.string n) ∧ w.cell? ⟨b, off + i * 7 + 3, none⟩ = some (.slice sf kf.length cf) ∧ w.cell? ⟨b, off + i * 7 + 4, none⟩ = some (.slice al l.length cl) ∧ w.cell? ⟨b, off + i * 7 + 5, none⟩ = some (.slice ar r.length cr) ∧ w.cell? ⟨b, off + i * 7 + 6, none⟩ = some (.slice sl ks.length cap) ∧
      PRep w (.mk a (.mk k n kf) l r ks) (.agg #[.string a, .int .i64 k, .string n, .slice sf kf.length cf, .slice al l.length cl, .slice ar r.length cr, .slice sl ks.length cap]) := by
  obtain ⟨c0, c1, c2, c3, c4, c5, c6, h0, h1, h2, h3, h4, h5, h6, hr⟩ := h.get i _ hp; obtain ⟨sf, cf, al, cl, ar, cr, sl, cap, hv, -⟩ := hr.parts; simp only [Value.agg.injEq, Array.mk.injEq, List.cons.injEq, and_true] at hv; obtain ⟨rfl, rfl, rfl, rfl, rfl, rfl, rfl⟩ := hv; exact ⟨sf, cf, al, cl, ar, cr, sl, cap, h0, h1, h2, h3, h4, h5, h6, hr⟩
end Go.Proofs.Ytlmjnglcdgkomac
