/- Texts of one proof, one behind the other: Tok1, Walk0, Read1. -/
import Derived.Test.YtclinobfbdljhahB09
import Derived.Test.YtclinobfbdljhahB01
import Derived.Deep.DeepCutAuto
import Derived.Deep.CutBlock
import Derived.Test.YtclinobfbdljhahB06
import Derived.Deep.AppendLies
/- Walks: the yardstick's names and tokens. -/
namespace Go.Proofs.Ytclinobfbdljhah
open Go.RowKit

set_option maxHeartbeats 1000000 in
theorem refName_any (s : ByteArray) (hs : s.size ≤ maxLen) (w : World) :
    Calls Try.prog 12 #[.string s] w fun e w' => e = .returned (.bool (isNm s.data.toList)) ∧ w' = w := by
  have hsz : s.data.toList.length = s.size := Array.length_toList; unfold maxLen at hs; have HN : Hid (isNm s.data.toList = (allLow s.data.toList && decide (0 < s.data.toList.length) && decide (s.data.toList.length < 9))) := isNm_all _; have HZ : Hid (s.data.toList.length = s.size) := hsz; clear hsz
  go_enter Try.func12, Try.ntmps12
  go_wp2
  go_loop [3] (fun v => ∃ k l, At s k l ∧ v = .int .i64 (k : Nat) ∧ allLow s.data.toList = allLow l) (fun v => s.size - (intOf v).toNat)
  case atStart => exact ⟨0, s.data.toList, ⟨Nat.zero_le _, by simp⟩, rfl, rfl⟩
  case round =>
    obtain ⟨k, l, ha, rfl, hl⟩ := hrel; have hlen := ha.len; have HL : Hid (At s k l ∧ allLow s.data.toList = allLow l) := ⟨ha, hl⟩; clear ha hl
    cases l with
    | nil =>
      simp at hlen; (have hd : decide ((k : Int) < (s.size : Int)) = false := by simp; omega); go_wp2
      all_goals
        go_ret; refine ⟨ret_bool ?_, rfl⟩; rw [HN.out, HL.out.2, HZ.out]; rw [Bool.eq_iff_iff]; simp only [allLow, List.all_nil, Bool.true_and, Bool.and_eq_true, decide_eq_true_eq, Bool.false_eq_true, false_iff]
        omega
    | cons c l =>
      simp at hlen; (have hlt' : k < s.size := by omega); (have hlt : (k : Int) < (s.size : Int) := by omega); have hhd : s[k] = c := HL.out.1.head hlt'; by_cases hc : lower c
      · have hx : (97 : Int) ≤ (s[k].toNat : Int) := by rw [hhd]; simp [lower] at hc; omega
        (have hy : (s[k].toNat : Int) ≤ 122 := by rw [hhd]; simp [lower] at hc; omega); (have HM : Hid (At s (k + 1) l ∧ allLow s.data.toList = allLow l) := ⟨HL.out.1.cons, by rw [HL.out.2]; simp only [allLow, List.all_cons, hc, Bool.true_and]⟩); clear hhd hc; go_wp2
        go_round
        case rel => exact ⟨k + 1, l, HM.out.1, by go_num, HM.out.2⟩
        case measure => simp [intOf]; omega
      · have hx : ¬ ((97 : Int) ≤ (s[k].toNat : Int) ∧ (s[k].toNat : Int) ≤ 122) := by rw [hhd]; simp [lower] at hc; omega
        have HM : Hid (allLow s.data.toList = false) := by
          show _ = _; rw [HL.out.2]; simp only [allLow, List.all_cons, Bool.eq_false_iff.2 hc, Bool.false_and]
        clear hhd hc; go_wp2
        all_goals
          go_ret; refine ⟨ret_bool ?_, rfl⟩; rw [HN.out, HM.out]; rfl

end Go.Proofs.Ytclinobfbdljhah
/- Walks: a formula's nodes in a list. -/
namespace Go.Proofs.Ytclinobfbdljhah
open Go.RowKit

/-- Cells, three by three, that are formulas over blocks below B. -/
def LR (B : Nat) (w : World) : List Value → List Fm → Prop
  | [], [] => True
  | c0 :: c1 :: c2 :: cs, f :: fs => Rep w (· < B) f (.agg #[c0, c1, c2]) ∧ LR B w cs fs
  | _, _ => False

theorem LR.len {B : Nat} {w : World} : ∀ {cs : List Value} {fs : List Fm}, LR B w cs fs → cs.length = fs.length * 3
  | [], [], _ => rfl
  | _ :: _ :: _ :: _, _ :: _, h => by have := LR.len h.2; simp; omega
theorem LR.append {B : Nat} {w : World} : ∀ {cs : List Value} {fs : List Fm} {ds : List Value} {gs : List Fm}, LR B w cs fs → LR B w ds gs → LR B w (cs ++ ds) (fs ++ gs)
  | [], [], _, _, _, k => k
  | _ :: _ :: _ :: _, _ :: _, _, _, h, k => ⟨h.1, LR.append h.2 k⟩
theorem LR.low {B : Nat} {w w' : World} (hb : Below B w w') : ∀ {cs : List Value} {fs : List Fm}, LR B w cs fs → LR B w' cs fs
  | [], [], _ => trivial
  | _ :: _ :: _ :: _, _ :: _, h => ⟨h.1.low hb, LR.low hb h.2⟩
theorem LR.one {B : Nat} {w : World} : ∀ {cs : List Value} {fs : List Fm}, LR B w cs fs → ∀ u ∈ cs, u.oneCell' = true
  | [], [], _, u, hu => by cases hu
  | c0 :: c1 :: c2 :: cs, .mk k n ks :: fs, h, u, hu => by
    obtain ⟨sl, cap, hv, _⟩ := Rep.def.1 h.1; simp only [Value.agg.injEq, Array.mk.injEq, List.cons.injEq, and_true] at hv; obtain ⟨rfl, rfl, rfl⟩ := hv; simp only [List.mem_cons] at hu
    rcases hu with rfl | rfl | rfl | hu
    · rfl
    · rfl
    · rfl
    · exact LR.one h.2 u hu

theorem owns_up {w w' : World} {B size n : Nat} {e : TypeId} {v : Value} {xs : List Value} (h : w.ownsRow B e size v n xs) (hb : Below w.heap.size w w') : w'.ownsRow B e size v n xs := by
  obtain ⟨h1, h2⟩ := h; refine ⟨h1, ?_⟩
  rcases h2 with h2 | ⟨g, cap, cur, hv, hg, hh, r⟩
  · exact Or.inl h2
  · exact Or.inr ⟨g, cap, cur, hv, hg, below_keep hb hh, r⟩

theorem owns_mono {w : World} {B B' size n : Nat} {e : TypeId} {v : Value} {xs : List Value} (h : w.ownsRow B e size v n xs) (hB : B' ≤ B) : w.ownsRow B' e size v n xs := by
  obtain ⟨h1, h2⟩ := h; refine ⟨h1, ?_⟩
  rcases h2 with h2 | ⟨g, cap, cur, hv, hg, r⟩
  · exact Or.inl h2
  · exact Or.inr ⟨g, cap, cur, hv, by omega, r⟩

theorem infoFormula : ∃ i, Try.prog.info? 24 = some i ∧ i.zero = some (.agg #[.int .i64 0, .string ⟨#[]⟩, .slice none 0 0]) ∧ i.size = 3 ∧ i.bytes = 48 := by
  (obtain ⟨i, hi, h⟩ := Option.map_eq_some_iff.1 (show (Try.prog.info? 24).map (fun i => (i.zero, i.size, i.bytes)) = some (some (.agg #[.int .i64 0, .string ⟨#[]⟩, .slice none 0 0]), 3, 48) by kernel_rfl)); simp only [Prod.mk.injEq] at h; exact ⟨i, hi, h.1, h.2.1, h.2.2⟩

/-- A list of formulas that a call has made, from block B on. -/
def LO (A B : Nat) (w : World) (v : Value) (fs : List Fm) : Prop := ∃ g cap cs, v = .slice (some ⟨g, 0, none⟩) fs.length cap ∧ w.ownsRow B 24 3 v fs.length cs ∧ LR A w cs fs

def Walks (m : Nat) : Prop := ∀ (A : Nat) (f : Fm) (v : Value) (most : Nat) (w : World), f.size < m → most ≤ 1000000 → A ≤ w.heap.size → Rep w (· < A) f v →
  Calls Try.prog 35 #[v, .int .i64 most] w fun e w' => ∃ u, e = .returned u ∧ LO A w.heap.size w' u (walkL f most) ∧ Below w.heap.size w w'

theorem walkK_drop {ks : List Fm} {i : Nat} {f : Fm} (h : ks[i]? = some f) (most c : Nat) : walkK (ks.drop i) most c = if c ≤ most then walkL f (most - c) ++ walkK (ks.drop (i + 1)) most (c + (walkL f (most - c)).length) else [] := by
  have hi : i < ks.length := by
    rcases Nat.lt_or_ge i ks.length with h' | h'
    · exact h'
    · rw [List.getElem?_eq_none h'] at h; cases h
  rw [List.drop_eq_getElem_cons hi, walkK]; rw [List.getElem?_eq_getElem hi] at h; rw [Option.some.inj h]

set_option maxHeartbeats 2000000 in
theorem walk_step (m : Nat) (ih : Walks m) : Walks (m + 1) := by
  intro A f v most w hm hmost hA hrep; obtain ⟨k, n, ks⟩ := f; obtain ⟨sl, cap, rfl, hx1, hx2, hx3, hx4⟩ := Rep.def.1 hrep; have HX : Hid (ks ≠ [] → ∃ b off, sl = some ⟨b, off, none⟩ ∧ b < A ∧ Reps w (· < A) b off ks) := hx4; clear hx4; obtain ⟨i0, hi, hz0, hz1, hz2⟩ := infoFormula; (have hlenI : ((ks.length : Nat) : Int) ≤ 9223372036854775807 := by unfold maxLen at hx3; omega); (have hmI : (most : Int) ≤ 1000000 := by omega); have HIo : Hid (Try.prog.info? 24 = some i0 ∧ i0.zero = some (.agg #[.int .i64 0, .string ⟨#[]⟩, .slice none 0 0]) ∧ i0.size = 3 ∧ i0.bytes = 48) := ⟨hi, hz0, hz1, hz2⟩; clear hi hz0 hz1 hz2
  go_enter Try.func35, Try.ntmps35
  go_wp2_with fail
  go_loopg [6, 5] ks.length (fun g c o wr => ∃ i fs, i ≤ ks.length ∧ g = ks.length - i ∧ c = .int .i64 (i : Nat) ∧ Below w.heap.size w wr ∧ wr.heap[w.heap.size]? = some (.cells #[.int .i64 k, .string n, .slice sl ks.length cap] 24 (0, 0)) ∧ LO A (w.heap.size + 1) wr o fs ∧ 1 ≤ fs.length ∧ fs.length ≤ most + 1 ∧ Hid (walkL (.mk k n ks) most = fs ++ walkK (ks.drop i) most fs.length))
  case atStart =>
    (refine ⟨0, [.mk k n ks], by omega, by omega, rfl, ((Below.refl _ w).alloc (Nat.le_refl _) _).alloc (by simp) _, alloc_keep (blk_new _ _) _, ?_, by simp, by simp, by show _ = _; rw [walkL]; rfl⟩); (refine ⟨w.heap.size + 1, 1, [.int .i64 k, .string n, .slice sl ks.length cap], rfl, ⟨rfl, Or.inr ⟨w.heap.size + 1, 1, #[.int .i64 k, .string n, .slice sl ks.length cap], rfl, Nat.le_refl _, ?_, by simp, by simp [maxLen], rfl, rfl⟩⟩, ?_, trivial⟩)
    · have := blk_new (w.alloc (.cells #[.int .i64 k, .string n, .slice sl ks.length cap] 24 (0, 0))) (.cells #[.int .i64 k, .string n, .slice sl ks.length cap] 24 (0, 0))
      simpa using this
    · exact hrep.low (((Below.refl _ w).alloc hA _).alloc (by simp; omega) _)
  case round =>
    obtain ⟨i, fs, hile, hg, rfl, hbr, q0, hlo, hf1, hfm, HW⟩ := hrel; obtain ⟨g, cp, cs, rfl, hown, hlr⟩ := hlo; have HG : Hid (gk = ks.length - i) := hg; clear hg; have f2 := blk_cell q0 2; simp at f2; (have hfI : (fs.length : Int) ≤ (most : Int) + 1 := by omega); by_cases hlt : i < ks.length
    · obtain ⟨⟨k2, n2, ks2⟩, hki⟩ : ∃ f, ks[i]? = some f := ⟨_, List.getElem?_eq_getElem hlt⟩
      (have hltI : (i : Int) < (ks.length : Int) := by omega); have hwk := HW.out; rw [walkK_drop hki] at hwk; by_cases hc : fs.length ≤ most
      · rw [if_pos hc, ← List.append_assoc] at hwk
        (have hcI : (fs.length : Int) ≤ (most : Int) := by omega); (obtain ⟨b, off, hsl, hbA, hrs⟩ := HX.out (fun e => by rw [e] at hlt; simp at hlt)); subst hsl; obtain ⟨sl2, cap2, g0, g1, g2, hrep2⟩ := (hrs.low hbA (hbr.mono hA)).at i k2 n2 ks2 hki; (have hsz : (Fm.mk k2 n2 ks2).size < m := by have := sizes_get hki; rw [Fm.size] at hm; omega); have hwle := walkL_le (.mk k2 n2 ks2) (most - fs.length)
        have HIH : Hid (∀ (x : Int), x = (most : Int) - (fs.length : Int) → Calls Try.prog 35 #[.agg #[.int .i64 k2, .string n2, .slice sl2 ks2.length cap2], .int .i64 x] wr fun e w' => ∃ u, e = .returned u ∧ LO A wr.heap.size w' u (walkL (.mk k2 n2 ks2) (most - fs.length)) ∧ Below wr.heap.size wr w') := fun x hx => by
          (have := ih A _ _ (most - fs.length) wr hsz (by omega) (by have := hbr.size; omega) hrep2)
          rwa [show (((most - fs.length : Nat)) : Int) = x by omega] at this
        (have hwpos : 1 ≤ (walkL (.mk k2 n2 ks2) (most - fs.length)).length := by rw [walkL]; simp)
        have HN : Hid (walkL (.mk k n ks) most = (fs ++ walkL (.mk k2 n2 ks2) (most - fs.length)) ++ walkK (ks.drop (i + 1)) most (fs ++ walkL (.mk k2 n2 ks2) (most - fs.length)).length) := by
          show _ = _; rw [List.length_append]; exact hwk
        clear hwk HW hki hrs HX hrep; generalize walkL (.mk k2 n2 ks2) (most - fs.length) = gs at *; have zw := hbr.size; have z0 := lt_of_block q0; obtain ⟨hi, hz0, hz1, hz2⟩ := HIo.out
        go_wp2_with (first
          | (go_at_call 35
             (refine (HIH.out _ (by omega)).mono ?_); rintro e w2 ⟨u, rfl, hlo2, hb2⟩; obtain ⟨g2', cp2, cs2, rfl, hown2, hlr2⟩ := hlo2; have zw2 := hb2.size; have hownA := owns_up hown hb2
             have hlen2 := hlr2.len)
          | (at_builtin
             (refine wpList_append_lies _ rfl _ _ 22 rfl (w.heap.size + 1) 24 i0 (.agg #[.int .i64 0, .string ⟨#[]⟩, .slice none 0 0]) 3 48 Try.underlying22 hi hz0 hz1 hz2 rfl (by decide) _ _ _ rfl hownA ⟨g2', 0, none⟩ gs.length cp2 cs2 rfl hlen2 (fun j u hu => hown2.cells (g := g2') rfl j u hu) hlr2.one (by omega) (by unfold maxLen; omega) (by omega) (by omega) _ rfl ?_)
             intro g3 cp3 w3 hown3 hgrow hat hlt3)
          | fail)
        (have hown3' : w3.ownsRow (w.heap.size + 1) 24 3 (.slice (some ⟨g3, 0, none⟩) (fs ++ gs).length cp3) (fs ++ gs).length (cs ++ cs2) := by rw [List.length_append]; exact hown3); have hgrow' : w2.grownBy w3 (some g) := hgrow; clear hgrow; have hgrow := hgrow'
        have hgA : Below A w2 w3 := ⟨hgrow.os, hgrow.tape, hgrow.output, hgrow.size, fun j hj => hgrow.block j (by omega) (fun e => by
          have : w.heap.size + 1 ≤ g := (hown.lt g rfl).1; have e : j = g := Option.some.inj e
          omega)⟩
        have hgB : Below w.heap.size w2 w3 := ⟨hgrow.os, hgrow.tape, hgrow.output, hgrow.size, fun j hj => hgrow.block j (by omega) (fun e => by
          have : w.heap.size + 1 ≤ g := (hown.lt g rfl).1; have e : j = g := Option.some.inj e
          omega)⟩
        have q3 : w3.heap[w.heap.size]? = some (.cells #[.int .i64 k, .string n, .slice (some ⟨b, off, none⟩) ks.length cap] 24 (0, 0)) := by
          rw [hgrow.block _ (by omega) (fun e => by
            have : w.heap.size + 1 ≤ g := (hown.lt g rfl).1; have e : w.heap.size = g := Option.some.inj e
            omega)]
          exact below_keep hb2 q0
        (have hLR : LR A w3 (cs ++ cs2) (fs ++ gs) := ((hlr.low (hb2.mono (by omega))).append hlr2).low hgA); have hBB : Below w.heap.size w w3 := (hbr.trans (hb2.mono zw)).trans hgB; have hfl : (fs ++ gs).length = fs.length + gs.length := List.length_append
        go_roundg (ks.length - (i + 1))
        case measure => have := HG.out; omega
        case rel => exact ⟨i + 1, fs ++ gs, by omega, rfl, by go_num, hBB, q3, ⟨g3, cp3, cs ++ cs2, by rw [hfl], by rw [hfl] at hown3'; rw [hfl]; exact hown3', hLR⟩, by omega, by omega, HN⟩
      · rw [if_neg hc, List.append_nil] at hwk
        (have hcI : decide ((fs.length : Int) ≤ (most : Int)) = false := by simp; omega); (have hcI2 : ¬ ((fs.length : Int) ≤ (most : Int)) := by omega); have HN : Hid (walkL (.mk k n ks) most = fs) := hwk; clear hwk HW hki HX hrep; go_wp2_with fail; go_ret; refine ⟨_, rfl, ?_, hbr⟩; rw [HN.out]; (exact ⟨g, cp, cs, rfl, owns_mono hown (by omega), hlr⟩)
    · have HN : Hid (walkL (.mk k n ks) most = fs) := by
        show _ = _; (rw [HW.out, List.drop_of_length_le (by omega), walkK, List.append_nil])
      clear HW HX hrep; go_wp2_with fail; go_ret; refine ⟨_, rfl, ?_, hbr⟩; rw [HN.out]; (exact ⟨g, cp, cs, rfl, owns_mono hown (by omega), hlr⟩)

theorem walks_all : ∀ m, Walks m
  | 0 => fun _ _ _ _ _ h => absurd h (Nat.not_lt_zero _)
  | m + 1 => walk_step m (walks_all m)

theorem walk_any (f : Fm) (v : Value) (most : Nat) (w : World) (hmost : most ≤ 1000000) (hrep : Rep w (fun _ => True) f v) :
    Calls Try.prog 35 #[v, .int .i64 most] w fun e w' => ∃ u, e = .returned u ∧ LO w.heap.size w.heap.size w' u (walkL f most) ∧ Below w.heap.size w w' :=
  walks_all (f.size + 1) w.heap.size f v most w (Nat.lt_succ_self _) hmost (Nat.le_refl _) (hrep.move fun _ hb _ => ⟨rfl, hb⟩)
end Go.Proofs.Ytclinobfbdljhah
/- Walks: the yardstick's Read. -/
namespace Go.Proofs.Ytclinobfbdljhah
open Go.RowKit

set_option maxHeartbeats 1000000 in
theorem fault_any (c a : Int) (w : World) :
    Calls Try.prog 37 #[.int .i64 c, .int .i64 a] w fun e w' => e = .returned (.agg #[.int .i64 c, .int .i64 a]) ∧ Below w.heap.size w w' := by
  go_enter Try.func37, Try.ntmps37
  go_wp2; (refine bodyPost_ret (v := .agg #[.int .i64 c, .int .i64 a]) (by simp [results, Try.results37, go_sem]) rfl ⟨rfl, (Below.refl _ _).alloc (Nat.le_refl _) _⟩)

end Go.Proofs.Ytclinobfbdljhah
