/- Texts of one proof, one behind the other: Each1, Count1, Tr1, Tr2. -/
import Derived.Test.YtlmjnglcdgkomacB03
import Derived.Test.YtlmjnglcdgkomacB08
/- Walks: eachNode, whatever visits. -/
namespace Go.Proofs.Ytlmjnglcdgkomac
open Go.RowKit

theorem Fine.small {k : Int} {n : ByteArray} {ks : List Fm} (h : Fine (.mk k n ks)) : n.size ≤ 8 ∧ ks.length ≤ 2 := by
  rcases h.forms with ⟨m, e, hn⟩ | e | e | ⟨c, g, hk, e, hg⟩ | ⟨c, g, g', hk, e, hg, hg'⟩ <;> cases e
  · have := isNm_bd hn
    have e2 : n.data.toList.length = n.size := Array.length_toList; (exact ⟨by omega, by simp⟩)
  · exact ⟨by decide, by simp⟩
  · exact ⟨by decide, by simp⟩
  · exact ⟨by decide, by simp⟩
  · exact ⟨by decide, by simp⟩

theorem sizes_take : ∀ (ks : List Fm) (i : Nat) (f : Fm), ks[i]? = some f → Fm.sizes (ks.take i) + f.size ≤ Fm.sizes ks
  | [], i, f, h => by simp at h
  | k :: ks, 0, f, h => by simp at h; subst h; simp [Fm.sizes]
  | k :: ks, i + 1, f, h => by
    (have := sizes_take ks i f (by simpa using h)); simp only [List.take_succ_cons, Fm.sizes]; omega

end Go.Proofs.Ytlmjnglcdgkomac
/- Walks: how many nodes there are. -/
namespace Go.Proofs.Ytlmjnglcdgkomac
open Go.RowKit

def hasN (nm : ByteArray) : Fm → Bool
  | .mk k n _ => decide (k = 1) && decide (n.data.toList = nm.data.toList)

theorem blk1 {w : World} {b : Nat} {c0 : Value} {T : TypeId} (h : w.heap[b]? = some (.cells #[c0] T (0, 0))) : w.cell? ⟨b, 0, none⟩ = some c0 ∧ w.frozen? ⟨b, 0, none⟩ = false := ⟨blk_cell h 0, blk_fz h 0⟩
/-! With a formula of s nodes for a name. -/
end Go.Proofs.Ytlmjnglcdgkomac
/- Walks: firstModal, isTrue. -/
namespace Go.Proofs.Ytlmjnglcdgkomac
open Go.RowKit

/-! The first box or diamond. -/
def Modals (m : Nat) : Prop := ∀ (f : Fm) (a : Nat) (v : Value) (w : World), f.size < m → Fine f → a + f.size ≤ 1000 → Rep w (fun _ => True) f v →
  Calls Try.prog 87 #[v, .int .i64 a] w fun e w' => e = .returned (.tuple #[.int .i64 ((modal f a).1 : Nat), .bool (modal f a).2]) ∧ Below w.heap.size w w'

theorem modals_drop {ks : List Fm} {i : Nat} {f : Fm} (h : ks[i]? = some f) (a : Nat) : modals (ks.drop i) a = if (modal f a).2 then ((modal f a).1, true) else modals (ks.drop (i + 1)) (modal f a).1 := by
  have hi : i < ks.length := by
    rcases Nat.lt_or_ge i ks.length with h' | h'
    · exact h'
    · rw [List.getElem?_eq_none h'] at h; cases h
  rw [List.drop_eq_getElem_cons hi, modals]; rw [List.getElem?_eq_getElem hi] at h; rw [Option.some.inj h]

set_option maxHeartbeats 2000000 in
theorem modal_step (m : Nat) (ih : Modals m) : Modals (m + 1) := by
  intro f a v w hm hfi ha hrep; obtain ⟨k, n, ks⟩ := f; obtain ⟨sl, cap, rfl, hx1, hx2, hx3, hx4⟩ := Rep.def.1 hrep; (have HX : Hid (ks ≠ [] → ∃ b off, sl = some ⟨b, off, none⟩ ∧ True ∧ Reps w (fun _ => True) b off ks) := hx4); have hk2 := hfi.small.2; (have haI : (a : Int) ≤ 1000 := by omega); (have hkI : (ks.length : Int) ≤ 2 := by omega); have q0 := blk_new w (.cells #[.int .i64 k, .string n, .slice sl ks.length cap] 24 (0, 0)); have B0 := below_more (Below.refl _ w) (.cells #[.int .i64 k, .string n, .slice sl ks.length cap] 24 (0, 0)); clear hx4; by_cases h8 : k = 8
  · subst h8
    (have HM : Hid (modal (.mk 8 n ks) a = (a, true)) := by show _ = _; rw [modal]; rfl)
    go_enter Try.func87, Try.ntmps87
    go_wp2_with fail; go_ret2; (exact ⟨by rw [HM.out]; rfl, B0⟩)
  by_cases h9 : k = 9
  · subst h9
    (have HM : Hid (modal (.mk 9 n ks) a = (a, true)) := by show _ = _; rw [modal]; rfl)
    go_enter Try.func87, Try.ntmps87
    go_wp2_with fail; go_ret2; (exact ⟨by rw [HM.out]; rfl, B0⟩)
  (have h8' : (k == 8) = false := by simpa using h8); (have h9' : (k == 9) = false := by simpa using h9); (have HM : Hid (modal (.mk k n ks) a = modals ks (a + 1)) := by show _ = _; rw [modal]; simp [isM, h8, h9]); have HF : Hid (Fine (.mk k n ks)) := hfi; clear hfi h8 h9
  go_enter Try.func87, Try.ntmps87
  go_wp2_with fail
  go_loopg [22, 4, 5] ks.length (fun g c x y wr => ∃ i na, i ≤ ks.length ∧ g = ks.length - i ∧ c = .int .i64 (i : Nat) ∧ x = .int .i64 (na : Nat) ∧ y = .bool false ∧ Below w.heap.size w wr ∧ Hid (modals ks (a + 1) = modals (ks.drop i) na) ∧ na ≤ a + 1 + Fm.sizes (ks.take i))
  case atStart => exact ⟨0, a + 1, by omega, by omega, rfl, by go_num, rfl, B0, by show _ = _; rfl, by simp [Fm.sizes]⟩
  case round =>
    obtain ⟨i, na, hile, hg, rfl, rfl, rfl, hbr, HW, hna⟩ := hrel; have HG : Hid (gk = ks.length - i) := hg; clear hg; by_cases hlt : i < ks.length
    · obtain ⟨⟨k2, n2, ks2⟩, hki⟩ : ∃ f, ks[i]? = some f := ⟨_, List.getElem?_eq_getElem hlt⟩
      (have hltI : (i : Int) < (ks.length : Int) := by omega); (have hlc : (i : Int) < (cap : Int) := by omega); (obtain ⟨b, off, rfl, -, hrs⟩ := HX.out (fun e => by rw [e] at hlt; simp at hlt)); obtain ⟨sl2, cap2, g0, g1, g2, hrep2⟩ := (hrs.up hbr).at i k2 n2 ks2 hki; have hst := sizes_take ks i _ hki; (have hsz : (Fm.mk k2 n2 ks2).size < m := by have := sizes_get hki; rw [Fm.size] at hm; omega)
      have hst2 : Fm.sizes (ks.take (i + 1)) = Fm.sizes (ks.take i) + (Fm.mk k2 n2 ks2).size := by
        rw [List.take_add_one, hki]; show Fm.sizes (_ ++ [_]) = _; generalize ks.take i = l
        induction l with
        | nil => simp [Fm.sizes]
        | cons x l ih => simp only [List.cons_append, Fm.sizes, ih]; omega
      (have hca := fun v wx h => ih (.mk k2 n2 ks2) na v wx hsz (HF.out.kid i _ hki) (by rw [Fm.size] at ha; omega) h); have hml := modal_le (.mk k2 n2 ks2) na; have hdr := modals_drop hki na; have HW2 := HW.out; rw [hdr] at HW2; rw [Fm.size] at ha; generalize hmo : modal (.mk k2 n2 ks2) na = mo at *; obtain ⟨r, bb⟩ := mo; simp only at hml HW2 hca; (have hrI : (r : Int) ≤ 1000 := by omega); have HC : Hid (∀ v wx, _ → Calls Try.prog 87 _ wx _) := hca; clear hmo hca hdr hki hrs HX hrep
      cases bb
      · have HN : Hid (modals ks (a + 1) = modals (ks.drop (i + 1)) r) := HW2
        clear HW2 HW
        go_wp2_with (first
          | (go_at_call 87
             refine (HC.out _ _ (hrep2.more _)).mono ?_; rintro e w1 ⟨rfl, hb1⟩
             have B1 := below_join (below_more hbr _) hb1)
          | fail)
        go_roundg (ks.length - (i + 1))
        case measure => have := HG.out; omega
        case rel => exact ⟨i + 1, r, by omega, rfl, by go_num, rfl, rfl, B1, HN, by omega⟩
      · have HN : Hid (modals ks (a + 1) = (r, true)) := HW2
        clear HW2 HW
        go_wp2_with (first
          | (go_at_call 87
             refine (HC.out _ _ (hrep2.more _)).mono ?_; rintro e w1 ⟨rfl, hb1⟩
             have B1 := below_join (below_more hbr _) hb1)
          | fail)
        go_ret2; (exact ⟨by rw [HM.out, HN.out]; rfl, B1⟩)
    · have hge : ¬ (i : Int) < (ks.length : Int) := by omega
      have HN : Hid (modals ks (a + 1) = (na, false)) := by
        show _ = _; (rw [HW.out, List.drop_of_length_le (by omega), modals])
      clear HW HX hrep; go_wp2_with fail; go_ret2; (exact ⟨by rw [HM.out, HN.out]; rfl, hbr⟩)

theorem modals_all : ∀ m, Modals m
  | 0 => fun _ _ _ _ h => absurd h (Nat.not_lt_zero _)
  | m + 1 => modal_step m (modals_all m)

theorem modal_any (f : Fm) (v : Value) (w : World) (hf : Fine f) (hs : f.size ≤ 200) (hrep : Rep w (fun _ => True) f v) :
    Calls Try.prog 87 #[v, .int .i64 0] w fun e w' => e = .returned (.tuple #[.int .i64 ((modal f 0).1 : Nat), .bool (modal f 0).2]) ∧ Below w.heap.size w w' :=
  modals_all (f.size + 1) f 0 v w (Nat.lt_succ_self _) hf (by omega) hrep
end Go.Proofs.Ytlmjnglcdgkomac
/- Walks: isTrue, whatever is asked of names. -/
namespace Go.Proofs.Ytlmjnglcdgkomac
open Go.RowKit

/-- What tells of a name whether it is true: it only makes memory. -/
structure Asks (fn : Nat) (cap : Array Value) (p : List UInt8 → Bool) (Ok : World → Prop) : Prop where
  up : ∀ {w w' : World}, Ok w → Below w.heap.size w w' → Ok w'
  ent : ∀ (v : Value) (w : World), (callFunc fn (#[v] ++ cap)).run Try.prog w = .ok (.enter fn (#[v] ++ cap)) w
  call : ∀ (n : ByteArray) (w : World), Ok w → n.size ≤ 8 → Calls Try.prog fn (#[.string n] ++ cap) w fun e w' => e = .returned (.bool (p n.data.toList)) ∧ Below w.heap.size w w'

def Trues (fn : Nat) (cap : Array Value) (p : List UInt8 → Bool) (Ok : World → Prop) (m : Nat) : Prop := ∀ (f : Fm) (v : Value) (w : World), f.size < m → Fine f → Plain f → Rep w (fun _ => True) f v → Ok w →
  Calls Try.prog 82 #[v, .func (.func fn) #[] cap] w fun e w' => e = .returned (.bool (tv p f)) ∧ Below w.heap.size w w'

/-- The kids of a formula with one, and with two. -/
theorem Rep.kid1 {w : World} {k : Int} {n : ByteArray} {g : Fm} {v : Value} (h : Rep w (fun _ => True) (.mk k n [g]) v) : ∃ b off cap, v = .agg #[.int .i64 k, .string n, .slice (some ⟨b, off, none⟩) 1 cap] ∧ 1 ≤ cap ∧ Reps w (fun _ => True) b off [g] := by
  obtain ⟨sl, cap, rfl, h1, h2, h3, h4⟩ := Rep.def.1 h; (obtain ⟨b, off, rfl, -, hr⟩ := h4 (by simp)); exact ⟨b, off, cap, rfl, h2, hr⟩
theorem Rep.kid2 {w : World} {k : Int} {n : ByteArray} {g g' : Fm} {v : Value} (h : Rep w (fun _ => True) (.mk k n [g, g']) v) : ∃ b off cap, v = .agg #[.int .i64 k, .string n, .slice (some ⟨b, off, none⟩) 2 cap] ∧ 2 ≤ cap ∧ Reps w (fun _ => True) b off [g, g'] := by
  obtain ⟨sl, cap, rfl, h1, h2, h3, h4⟩ := Rep.def.1 h; (obtain ⟨b, off, rfl, -, hr⟩ := h4 (by simp)); exact ⟨b, off, cap, rfl, h2, hr⟩

set_option maxHeartbeats 4000000 in
theorem true_step {fn : Nat} {cap : Array Value} {p : List UInt8 → Bool} {Ok : World → Prop} (A : Asks fn cap p Ok) (m : Nat) (ih : Trues fn cap p Ok m) : Trues fn cap p Ok (m + 1) := by
  intro f v w hm hfi hpl hrep hok; have hcf := A.ent; (have HA : Hid (∀ (n : ByteArray) (w : World), Ok w → n.size ≤ 8 → Calls Try.prog fn (#[.string n] ++ cap) w fun e w' => e = .returned (.bool (p n.data.toList)) ∧ Below w.heap.size w w') := A.call); have HU : Hid (∀ {w w' : World}, Ok w → Below w.heap.size w w' → Ok w') := A.up
  rcases hfi.forms with ⟨n, rfl, hn⟩ | rfl | rfl | ⟨k, g, hk, rfl, hg⟩ | ⟨k, g, g', hk, rfl, hg, hg'⟩
  · obtain ⟨sl, cp, rfl⟩ := slice_shape hrep
    have hsm := hfi.small.1; have B0 := below_more (Below.refl _ w) (.cells #[.int .i64 1, .string n, .slice sl ([] : List Fm).length cp] 24 (0, 0)); have HC : Hid (Calls Try.prog fn (#[.string n] ++ cap) (w.alloc (.cells #[.int .i64 1, .string n, .slice sl ([] : List Fm).length cp] 24 (0, 0))) _) := HA.out n _ (HU.out hok B0) hsm; have HT : Hid (tv p (.mk 1 n []) = p n.data.toList) := tv_name p n; generalize p n.data.toList = bb at *; clear hn hfi hpl hrep
    go_enter Try.func82, Try.ntmps82
    go_wp2_with fail; refine HC.out.mono ?_; rintro e w1 ⟨rfl, hb1⟩; have B1 := below_join B0 hb1; go_wp2_with fail; go_ret; (exact ⟨by rw [HT.out]; rfl, B1⟩)
  · obtain ⟨sl, cp, rfl⟩ := slice_shape hrep
    have B0 := below_more (Below.refl _ w) (.cells #[.int .i64 2, .string ⟨#[]⟩, .slice sl ([] : List Fm).length cp] 24 (0, 0)); have HT : Hid (tv p (.mk 2 ⟨#[]⟩ []) = true) := tv_true p; clear hfi hpl hrep
    go_enter Try.func82, Try.ntmps82
    go_wp2_with fail; go_ret; (exact ⟨by rw [HT.out]; rfl, B0⟩)
  · obtain ⟨sl, cp, rfl⟩ := slice_shape hrep
    have B0 := below_more (Below.refl _ w) (.cells #[.int .i64 3, .string ⟨#[]⟩, .slice sl ([] : List Fm).length cp] 24 (0, 0)); have HT : Hid (tv p (.mk 3 ⟨#[]⟩ []) = false) := tv_false p; clear hfi hpl hrep
    go_enter Try.func82, Try.ntmps82
    go_wp2_with fail; go_ret; (exact ⟨by rw [HT.out]; rfl, B0⟩)
  · have hkk : k = 4 := by
      have := hpl.kind
      rcases hk with rfl | rfl | rfl
      · rfl
      · cases this
      · cases this
    subst hkk; (have hca := fun v (w : World) h o => ih g v w (by rw [size_one] at hm; omega) hg (hpl.kid (by simp)) h o); have HT : Hid (tv p (.mk 4 ⟨#[]⟩ [g]) = !tv p g) := tv_not p g; generalize tv p g = bb at *; (have HC : Hid (∀ v w, Rep w (fun _ => True) g v → Ok w → Calls Try.prog 82 #[v, .func (.func fn) #[] cap] w _) := hca); obtain ⟨b, off, cp, rfl, hcp, hrs⟩ := hrep.kid1; have B0 := below_more (Below.refl _ w) (.cells #[.int .i64 4, .string ⟨#[]⟩, .slice (some ⟨b, off, none⟩) 1 cp] 24 (0, 0)); obtain ⟨k2, n2, ks2⟩ := g; obtain ⟨sl2, cap2, g0, g1, g2, hrep2⟩ := (hrs.up B0).at 0 k2 n2 ks2 rfl; simp only [Nat.zero_mul, Nat.add_zero] at g0 g1 g2; (have hcI : (1 : Int) ≤ (cp : Int) := by omega); have HO : Hid (Ok w) := hok; clear hfi hpl hrep hrs hca hk hg hok
    go_enter Try.func82, Try.ntmps82
    go_wp2_with (first
      | (go_at_call 82
         refine (HC.out _ _ hrep2 (HU.out HO.out B0)).mono ?_; rintro e w1 ⟨rfl, hb1⟩
         have B1 := below_join B0 hb1)
      | fail)
    go_ret; (exact ⟨by rw [HT.out]; rfl, B1⟩)
  · have hca := fun v (w : World) h o => ih g v w (by rw [size_two] at hm; omega) hg (hpl.kid (by simp)) h o
    (have hca' := fun v (w : World) h o => ih g' v w (by rw [size_two] at hm; omega) hg' (hpl.kid (by simp)) h o); have HT : Hid (tv p (.mk 5 ⟨#[]⟩ [g, g']) = (tv p g && tv p g') ∧ tv p (.mk 6 ⟨#[]⟩ [g, g']) = (tv p g || tv p g') ∧ tv p (.mk 7 ⟨#[]⟩ [g, g']) = (!tv p g || tv p g')) := ⟨tv_and p g g', tv_or p g g', tv_then p g g'⟩; generalize tv p g = bb at *; generalize tv p g' = bb' at *; (have HC : Hid (∀ v w, Rep w (fun _ => True) g v → Ok w → Calls Try.prog 82 #[v, .func (.func fn) #[] cap] w _) := hca); (have HC' : Hid (∀ v w, Rep w (fun _ => True) g' v → Ok w → Calls Try.prog 82 #[v, .func (.func fn) #[] cap] w _) := hca'); obtain ⟨b, off, cp, rfl, hcp, hrs⟩ := hrep.kid2; have q0 := blk_new w (.cells #[.int .i64 k, .string ⟨#[]⟩, .slice (some ⟨b, off, none⟩) 2 cp] 24 (0, 0)); have B0 := below_more (Below.refl _ w) (.cells #[.int .i64 k, .string ⟨#[]⟩, .slice (some ⟨b, off, none⟩) 2 cp] 24 (0, 0)); obtain ⟨k2, n2, ks2⟩ := g; obtain ⟨sl2, cap2, g0, g1, g2, hrep2⟩ := (hrs.up B0).at 0 k2 n2 ks2 rfl; obtain ⟨k3, n3, ks3⟩ := g'; obtain ⟨sl3, cap3, p0, p1, p2, hrep3⟩ := (hrs.up B0).at 1 k3 n3 ks3 rfl; simp only [Nat.zero_mul, Nat.add_zero] at g0 g1 g2; simp only [Nat.one_mul] at p0 p1 p2; (have hcI : (2 : Int) ≤ (cp : Int) := by omega); have HO : Hid (Ok w) := hok; have hW : ∃ W, W = w.alloc (.cells #[.int .i64 k, .string ⟨#[]⟩, .slice (some ⟨b, off, none⟩) 2 cp] 24 (0, 0)) := ⟨_, rfl⟩; have zb := lt_of_cell p0
    have HQ : Hid (∀ w1, Below (w.alloc (.cells #[.int .i64 k, .string ⟨#[]⟩, .slice (some ⟨b, off, none⟩) 2 cp] 24 (0, 0))).heap.size (w.alloc (.cells #[.int .i64 k, .string ⟨#[]⟩, .slice (some ⟨b, off, none⟩) 2 cp] 24 (0, 0))) w1 → w1.cell? ⟨w.heap.size, 2, none⟩ = some (.slice (some ⟨b, off, none⟩) 2 cp) ∧ w1.cell? ⟨b, off + 3, none⟩ = some (.int .i64 k3) ∧ w1.cell? ⟨b, off + 3 + 1, none⟩ = some (.string n3) ∧ w1.cell? ⟨b, off + 3 + 2, none⟩ = some (.slice sl3 ks3.length cap3)) := fun w1 hb1 => ⟨by
      have := blk_cell (below_keep hb1 q0) 2
      simpa using this, (hb1.cell (p := ⟨b, off + 3, none⟩) zb).trans p0, (hb1.cell (p := ⟨b, off + 3 + 1, none⟩) zb).trans p1, (hb1.cell (p := ⟨b, off + 3 + 2, none⟩) zb).trans p2⟩
    clear hfi hpl hrep hrs hca hca' hg hg' hok q0 hW zb
    rcases hk with rfl | rfl | rfl
    all_goals
      cases bb
      all_goals
        go_enter Try.func82, Try.ntmps82
        go_wp2_with (first
          | (go_at_call 82
             have hb0 := B1; refine (HC'.out _ _ (hrep3.up hb1) (HU.out HO.out B1)).mono ?_; rintro e w2 ⟨rfl, hb2⟩
             have B2 := below_join B1 hb2)
          | (go_at_call 82
             refine (HC.out _ _ hrep2 (HU.out HO.out B0)).mono ?_; rintro e w1 ⟨rfl, hb1⟩; have B1 := below_join B0 hb1
             obtain ⟨y0, y1, y2, y3⟩ := HQ.out _ hb1)
          | fail)
        go_ret
        first
        | exact ⟨by first | rw [HT.out.1] | rw [HT.out.2.1] | rw [HT.out.2.2]
                    simp, B2⟩
        | exact ⟨by first | rw [HT.out.1] | rw [HT.out.2.1] | rw [HT.out.2.2]
                    simp, B1⟩

theorem trues_all {fn : Nat} {cap : Array Value} {p : List UInt8 → Bool} {Ok : World → Prop} (A : Asks fn cap p Ok) : ∀ m, Trues fn cap p Ok m
  | 0 => fun _ _ _ h => absurd h (Nat.not_lt_zero _)
  | m + 1 => true_step A m (trues_all A m)

theorem isTrue_any {fn : Nat} {cap : Array Value} {p : List UInt8 → Bool} {Ok : World → Prop} (A : Asks fn cap p Ok) (f : Fm) (v : Value) (w : World) (hf : Fine f) (hp : Plain f) (hrep : Rep w (fun _ => True) f v) (hok : Ok w) :
    Calls Try.prog 82 #[v, .func (.func fn) #[] cap] w fun e w' => e = .returned (.bool (tv p f)) ∧ Below w.heap.size w w' :=
  trues_all A (f.size + 1) f v w (Nat.lt_succ_self _) hf hp hrep hok
end Go.Proofs.Ytlmjnglcdgkomac
