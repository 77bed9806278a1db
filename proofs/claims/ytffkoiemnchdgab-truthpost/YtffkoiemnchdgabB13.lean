/- Texts of one proof, one behind the other: Tr1. -/
import Derived.Test.YtffkoiemnchdgabB07
import Derived.Test.YtffkoiemnchdgabB12
/- Walks: firstModal, isTrue. -/
namespace Go.Proofs.Ytffkoiemnchdgab
open Go.RowKit

/-! The first box or diamond. -/
def Modals (m : Nat) : Prop := ∀ (f : Fm) (a : Nat) (v : Value) (w : World), f.size < m → Fine f → a + f.size ≤ 1000 → Rep w (fun _ => True) f v →
  Calls Try.prog 64 #[v, .int .i64 a] w fun e w' => e = .returned (.tuple #[.int .i64 ((modal f a).1 : Nat), .bool (modal f a).2]) ∧ Below w.heap.size w w'

theorem modals_drop {ks : List Fm} {i : Nat} {f : Fm} (h : ks[i]? = some f) (a : Nat) : modals (ks.drop i) a = if (modal f a).2 then ((modal f a).1, true) else modals (ks.drop (i + 1)) (modal f a).1 := by
  have hi : i < ks.length := by
    rcases Nat.lt_or_ge i ks.length with h' | h'
    · exact h'
    · rw [List.getElem?_eq_none h'] at h; cases h
  rw [List.drop_eq_getElem_cons hi, modals]; rw [List.getElem?_eq_getElem hi] at h; rw [Option.some.inj h]

set_option maxHeartbeats 2000000 in
theorem modal_step (m : Nat) (ih : Modals m) : Modals (m + 1) := by
  intro f a v w hm hfi ha hrep; obtain ⟨k, n, ks⟩ := f; obtain ⟨sl, cap, rfl, hx1, hx2, hx3, hx4⟩ := Rep.def.1 hrep; (have HX : Hid (ks ≠ [] → ∃ b off, sl = some ⟨b, off, none⟩ ∧ True ∧ Reps w (fun _ => True) b off ks) := hx4); have hk2 := hfi.small.2; (have haI : (a : Int) ≤ 1000 := by omega); (have hkI : (ks.length : Int) ≤ 2 := by omega); have q0 := blk_new w (.cells #[.int .i64 k, .string n, .slice sl ks.length cap] 37 (0, 0)); have B0 := below_more (Below.refl _ w) (.cells #[.int .i64 k, .string n, .slice sl ks.length cap] 37 (0, 0)); clear hx4; by_cases h8 : k = 8
  · subst h8
    (have HM : Hid (modal (.mk 8 n ks) a = (a, true)) := by show _ = _; rw [modal]; rfl)
    go_enter Try.func64, Try.ntmps64
    go_wp2_with fail; go_ret2; (exact ⟨by rw [HM.out]; rfl, B0⟩)
  by_cases h9 : k = 9
  · subst h9
    (have HM : Hid (modal (.mk 9 n ks) a = (a, true)) := by show _ = _; rw [modal]; rfl)
    go_enter Try.func64, Try.ntmps64
    go_wp2_with fail; go_ret2; (exact ⟨by rw [HM.out]; rfl, B0⟩)
  (have h8' : (k == 8) = false := by simpa using h8); (have h9' : (k == 9) = false := by simpa using h9); (have HM : Hid (modal (.mk k n ks) a = modals ks (a + 1)) := by show _ = _; rw [modal]; simp [isM, h8, h9]); have HF : Hid (Fine (.mk k n ks)) := hfi; clear hfi h8 h9
  go_enter Try.func64, Try.ntmps64
  go_wp2_with fail
  go_loopg [22, 4, 5] ks.length (fun g c x y wr => ∃ i na, i ≤ ks.length ∧ g = ks.length - i ∧ c = .int .i64 (i : Nat) ∧ x = .int .i64 (na : Nat) ∧ y = .bool false ∧ Below w.heap.size w wr ∧ Hid (modals ks (a + 1) = modals (ks.drop i) na) ∧ na ≤ a + 1 + Fm.sizes (ks.take i))
  case atStart => exact ⟨0, a + 1, by omega, by omega, rfl, by go_num, rfl, B0, by show _ = _; rfl, by simp [Fm.sizes]⟩
  case round =>
    obtain ⟨i, na, hile, hg, rfl, rfl, rfl, hbr, HW, hna⟩ := hrel; have HG : Hid (gk = ks.length - i) := hg; clear hg; by_cases hlt : i < ks.length
    · obtain ⟨⟨k2, n2, ks2⟩, hki⟩ : ∃ f, ks[i]? = some f := ⟨_, List.getElem?_eq_getElem hlt⟩
      (have hltI : (i : Int) < (ks.length : Int) := by omega); (have hlc : (i : Int) < (cap : Int) := by omega); (obtain ⟨b, off, rfl, -, hrs⟩ := HX.out (fun e => by rw [e] at hlt; simp at hlt)); obtain ⟨sl2, cap2, g0, g1, g2, hrep2⟩ := (hrs.up hbr).at i k2 n2 ks2 hki; have hst := sizes_take ks i _ hki; (have hsz : (Fm.mk k2 n2 ks2).size < m := by have := sizes_get hki; rw [Fm.size] at hm; omega)
      have hst2 : Fm.sizes (ks.take (i + 1)) = Fm.sizes (ks.take i) + (Fm.mk k2 n2 ks2).size := by
        rw [List.take_add_one, hki]; show Fm.sizes (_ ++ [_]) = _; generalize ks.take i = l
        induction l with
        | nil => simp [Fm.sizes]
        | cons x l ih => simp only [List.cons_append, Fm.sizes, ih]; omega
      (have hca := fun v wx h => ih (.mk k2 n2 ks2) na v wx hsz (HF.out.kid i _ hki) (by rw [Fm.size] at ha; omega) h); have hml := modal_le (.mk k2 n2 ks2) na; have hdr := modals_drop hki na; have HW2 := HW.out; rw [hdr] at HW2; rw [Fm.size] at ha; generalize hmo : modal (.mk k2 n2 ks2) na = mo at *; obtain ⟨r, bb⟩ := mo; simp only at hml HW2 hca; (have hrI : (r : Int) ≤ 1000 := by omega); have HC : Hid (∀ v wx, _ → Calls Try.prog 64 _ wx _) := hca; clear hmo hca hdr hki hrs HX hrep
      cases bb
      · have HN : Hid (modals ks (a + 1) = modals (ks.drop (i + 1)) r) := HW2
        clear HW2 HW
        go_wp2_with (first
          | (go_at_call 64
             refine (HC.out _ _ (hrep2.more _)).mono ?_; rintro e w1 ⟨rfl, hb1⟩
             have B1 := below_join (below_more hbr _) hb1)
          | fail)
        go_roundg (ks.length - (i + 1))
        case measure => have := HG.out; omega
        case rel => exact ⟨i + 1, r, by omega, rfl, by go_num, rfl, rfl, B1, HN, by omega⟩
      · have HN : Hid (modals ks (a + 1) = (r, true)) := HW2
        clear HW2 HW
        go_wp2_with (first
          | (go_at_call 64
             refine (HC.out _ _ (hrep2.more _)).mono ?_; rintro e w1 ⟨rfl, hb1⟩
             have B1 := below_join (below_more hbr _) hb1)
          | fail)
        go_ret2; (exact ⟨by rw [HM.out, HN.out]; rfl, B1⟩)
    · have hge : ¬ (i : Int) < (ks.length : Int) := by omega
      have HN : Hid (modals ks (a + 1) = (na, false)) := by
        show _ = _; (rw [HW.out, List.drop_of_length_le (by omega), modals])
      clear HW HX hrep; go_wp2_with fail; go_ret2; (exact ⟨by rw [HM.out, HN.out]; rfl, hbr⟩)

theorem modals_all : ∀ m, Modals m
  | 0 => fun _ _ _ _ h => absurd h (Nat.not_lt_zero _)
  | m + 1 => modal_step m (modals_all m)

theorem modal_any (f : Fm) (v : Value) (w : World) (hf : Fine f) (hs : f.size ≤ 200) (hrep : Rep w (fun _ => True) f v) :
    Calls Try.prog 64 #[v, .int .i64 0] w fun e w' => e = .returned (.tuple #[.int .i64 ((modal f 0).1 : Nat), .bool (modal f 0).2]) ∧ Below w.heap.size w w' :=
  modals_all (f.size + 1) f 0 v w (Nat.lt_succ_self _) hf (by omega) hrep
end Go.Proofs.Ytffkoiemnchdgab
