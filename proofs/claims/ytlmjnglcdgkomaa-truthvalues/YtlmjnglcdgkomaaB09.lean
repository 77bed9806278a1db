/- Texts of one proof, one behind the other: Tr1, Tr2, Tr3. -/
import Derived.Test.YtlmjnglcdgkomaaB05
import Derived.Test.YtlmjnglcdgkomaaB07
import Derived.Maps.OwnSet
import Derived.Maps.OwnOps
/- Walks: firstModal, isTrue. -/
namespace Go.Proofs.Ytlmjnglcdgkomaa
open Go.RowKit

/-! The first box or diamond. -/
def Modals (m : Nat) : Prop := ∀ (f : Fm) (a : Nat) (v : Value) (w : World), f.size < m → Fine f → a + f.size ≤ 1000 → Rep w (fun _ => True) f v →
  Calls Try.prog 100 #[v, .int .i64 a] w fun e w' => e = .returned (.tuple #[.int .i64 ((modal f a).1 : Nat), .bool (modal f a).2]) ∧ Below w.heap.size w w'

theorem modals_drop {ks : List Fm} {i : Nat} {f : Fm} (h : ks[i]? = some f) (a : Nat) : modals (ks.drop i) a = if (modal f a).2 then ((modal f a).1, true) else modals (ks.drop (i + 1)) (modal f a).1 := by
  have hi : i < ks.length := by
    rcases Nat.lt_or_ge i ks.length with h' | h'
    · exact h'
    · rw [List.getElem?_eq_none h'] at h; cases h
  rw [List.drop_eq_getElem_cons hi, modals]; rw [List.getElem?_eq_getElem hi] at h; rw [Option.some.inj h]

set_option maxHeartbeats 2000000 in
theorem modal_step (m : Nat) (ih : Modals m) : Modals (m + 1) := by
  intro f a v w hm hfi ha hrep; obtain ⟨k, n, ks⟩ := f; obtain ⟨sl, cap, rfl, hx1, hx2, hx3, hx4⟩ := Rep.def.1 hrep; (have HX : Hid (ks ≠ [] → ∃ b off, sl = some ⟨b, off, none⟩ ∧ True ∧ Reps w (fun _ => True) b off ks) := hx4); have hk2 := hfi.small.2; (have haI : (a : Int) ≤ 1000 := by omega); (have hkI : (ks.length : Int) ≤ 2 := by omega); have q0 := blk_new w (.cells #[.int .i64 k, .string n, .slice sl ks.length cap] 24 (0, 0)); have B0 := below_more (Below.refl _ w) (.cells #[.int .i64 k, .string n, .slice sl ks.length cap] 24 (0, 0)); clear hx4; by_cases h8 : k = 8
  · subst h8
    (have HM : Hid (modal (.mk 8 n ks) a = (a, true)) := by show _ = _; rw [modal]; rfl)
    go_enter Try.func100, Try.ntmps100
    go_wp2_with fail; go_ret2; (exact ⟨by rw [HM.out]; rfl, B0⟩)
  by_cases h9 : k = 9
  · subst h9
    (have HM : Hid (modal (.mk 9 n ks) a = (a, true)) := by show _ = _; rw [modal]; rfl)
    go_enter Try.func100, Try.ntmps100
    go_wp2_with fail; go_ret2; (exact ⟨by rw [HM.out]; rfl, B0⟩)
  (have h8' : (k == 8) = false := by simpa using h8); (have h9' : (k == 9) = false := by simpa using h9); (have HM : Hid (modal (.mk k n ks) a = modals ks (a + 1)) := by show _ = _; rw [modal]; simp [isM, h8, h9]); have HF : Hid (Fine (.mk k n ks)) := hfi; clear hfi h8 h9
  go_enter Try.func100, Try.ntmps100
  go_wp2_with fail
  go_loopg [22, 4, 5] ks.length (fun g c x y wr => ∃ i na, i ≤ ks.length ∧ g = ks.length - i ∧ c = .int .i64 (i : Nat) ∧ x = .int .i64 (na : Nat) ∧ y = .bool false ∧ Below w.heap.size w wr ∧ Hid (modals ks (a + 1) = modals (ks.drop i) na) ∧ na ≤ a + 1 + Fm.sizes (ks.take i))
  case atStart => exact ⟨0, a + 1, by omega, by omega, rfl, by go_num, rfl, B0, by show _ = _; rfl, by simp [Fm.sizes]⟩
  case round =>
    obtain ⟨i, na, hile, hg, rfl, rfl, rfl, hbr, HW, hna⟩ := hrel; have HG : Hid (gk = ks.length - i) := hg; clear hg; by_cases hlt : i < ks.length
    · obtain ⟨⟨k2, n2, ks2⟩, hki⟩ : ∃ f, ks[i]? = some f := ⟨_, List.getElem?_eq_getElem hlt⟩
      (have hltI : (i : Int) < (ks.length : Int) := by omega); (have hlc : (i : Int) < (cap : Int) := by omega); (obtain ⟨b, off, rfl, -, hrs⟩ := HX.out (fun e => by rw [e] at hlt; simp at hlt)); obtain ⟨sl2, cap2, g0, g1, g2, hrep2⟩ := (hrs.up hbr).at i k2 n2 ks2 hki; have hst := sizes_take ks i _ hki; (have hsz : (Fm.mk k2 n2 ks2).size < m := by have := sizes_get hki; rw [Fm.size] at hm; omega)
      have hst2 : Fm.sizes (ks.take (i + 1)) = Fm.sizes (ks.take i) + (Fm.mk k2 n2 ks2).size := by
        rw [List.take_add_one, hki]; show Fm.sizes (_ ++ [_]) = _; generalize ks.take i = l
        induction l with
        | nil => simp [Fm.sizes]
        | cons x l ih => simp only [List.cons_append, Fm.sizes, ih]; omega
      (have hca := fun v wx h => ih (.mk k2 n2 ks2) na v wx hsz (HF.out.kid i _ hki) (by rw [Fm.size] at ha; omega) h); have hml := modal_le (.mk k2 n2 ks2) na; have hdr := modals_drop hki na; have HW2 := HW.out; rw [hdr] at HW2; rw [Fm.size] at ha; generalize hmo : modal (.mk k2 n2 ks2) na = mo at *; obtain ⟨r, bb⟩ := mo; simp only at hml HW2 hca; (have hrI : (r : Int) ≤ 1000 := by omega); have HC : Hid (∀ v wx, _ → Calls Try.prog 100 _ wx _) := hca; clear hmo hca hdr hki hrs HX hrep
      cases bb
      · have HN : Hid (modals ks (a + 1) = modals (ks.drop (i + 1)) r) := HW2
        clear HW2 HW
        go_wp2_with (first
          | (go_at_call 100
             refine (HC.out _ _ (hrep2.more _)).mono ?_; rintro e w1 ⟨rfl, hb1⟩
             have B1 := below_join (below_more hbr _) hb1)
          | fail)
        go_roundg (ks.length - (i + 1))
        case measure => have := HG.out; omega
        case rel => exact ⟨i + 1, r, by omega, rfl, by go_num, rfl, rfl, B1, HN, by omega⟩
      · have HN : Hid (modals ks (a + 1) = (r, true)) := HW2
        clear HW2 HW
        go_wp2_with (first
          | (go_at_call 100
             refine (HC.out _ _ (hrep2.more _)).mono ?_; rintro e w1 ⟨rfl, hb1⟩
             have B1 := below_join (below_more hbr _) hb1)
          | fail)
        go_ret2; (exact ⟨by rw [HM.out, HN.out]; rfl, B1⟩)
    · have hge : ¬ (i : Int) < (ks.length : Int) := by omega
      have HN : Hid (modals ks (a + 1) = (na, false)) := by
        show _ = _; (rw [HW.out, List.drop_of_length_le (by omega), modals])
      clear HW HX hrep; go_wp2_with fail; go_ret2; (exact ⟨by rw [HM.out, HN.out]; rfl, hbr⟩)

theorem modals_all : ∀ m, Modals m
  | 0 => fun _ _ _ _ h => absurd h (Nat.not_lt_zero _)
  | m + 1 => modal_step m (modals_all m)

theorem modal_any (f : Fm) (v : Value) (w : World) (hf : Fine f) (hs : f.size ≤ 200) (hrep : Rep w (fun _ => True) f v) :
    Calls Try.prog 100 #[v, .int .i64 0] w fun e w' => e = .returned (.tuple #[.int .i64 ((modal f 0).1 : Nat), .bool (modal f 0).2]) ∧ Below w.heap.size w w' :=
  modals_all (f.size + 1) f 0 v w (Nat.lt_succ_self _) hf (by omega) hrep
end Go.Proofs.Ytlmjnglcdgkomaa
/- Walks: isTrue, whatever is asked of names. -/
namespace Go.Proofs.Ytlmjnglcdgkomaa
open Go.RowKit

/-- What tells of a name whether it is true: it only makes memory. -/
structure Asks (fn : Nat) (cap : Array Value) (p : List UInt8 → Bool) (Ok : World → Prop) : Prop where
  up : ∀ {w w' : World}, Ok w → Below w.heap.size w w' → Ok w'
  ent : ∀ (v : Value) (w : World), (callFunc fn (#[v] ++ cap)).run Try.prog w = .ok (.enter fn (#[v] ++ cap)) w
  call : ∀ (n : ByteArray) (w : World), Ok w → n.size ≤ 8 → Calls Try.prog fn (#[.string n] ++ cap) w fun e w' => e = .returned (.bool (p n.data.toList)) ∧ Below w.heap.size w w'

def Trues (fn : Nat) (cap : Array Value) (p : List UInt8 → Bool) (Ok : World → Prop) (m : Nat) : Prop := ∀ (f : Fm) (v : Value) (w : World), f.size < m → Fine f → Plain f → Rep w (fun _ => True) f v → Ok w →
  Calls Try.prog 72 #[v, .func (.func fn) #[] cap] w fun e w' => e = .returned (.bool (tv p f)) ∧ Below w.heap.size w w'

/-- The kids of a formula with one, and with two. -/
theorem Rep.kid1 {w : World} {k : Int} {n : ByteArray} {g : Fm} {v : Value} (h : Rep w (fun _ => True) (.mk k n [g]) v) : ∃ b off cap, v = .agg #[.int .i64 k, .string n, .slice (some ⟨b, off, none⟩) 1 cap] ∧ 1 ≤ cap ∧ Reps w (fun _ => True) b off [g] := by
  obtain ⟨sl, cap, rfl, h1, h2, h3, h4⟩ := Rep.def.1 h; (obtain ⟨b, off, rfl, -, hr⟩ := h4 (by simp)); exact ⟨b, off, cap, rfl, h2, hr⟩
theorem Rep.kid2 {w : World} {k : Int} {n : ByteArray} {g g' : Fm} {v : Value} (h : Rep w (fun _ => True) (.mk k n [g, g']) v) : ∃ b off cap, v = .agg #[.int .i64 k, .string n, .slice (some ⟨b, off, none⟩) 2 cap] ∧ 2 ≤ cap ∧ Reps w (fun _ => True) b off [g, g'] := by
  obtain ⟨sl, cap, rfl, h1, h2, h3, h4⟩ := Rep.def.1 h; (obtain ⟨b, off, rfl, -, hr⟩ := h4 (by simp)); exact ⟨b, off, cap, rfl, h2, hr⟩

set_option maxHeartbeats 4000000 in
theorem true_step {fn : Nat} {cap : Array Value} {p : List UInt8 → Bool} {Ok : World → Prop} (A : Asks fn cap p Ok) (m : Nat) (ih : Trues fn cap p Ok m) : Trues fn cap p Ok (m + 1) := by
  intro f v w hm hfi hpl hrep hok; have hcf := A.ent; (have HA : Hid (∀ (n : ByteArray) (w : World), Ok w → n.size ≤ 8 → Calls Try.prog fn (#[.string n] ++ cap) w fun e w' => e = .returned (.bool (p n.data.toList)) ∧ Below w.heap.size w w') := A.call); have HU : Hid (∀ {w w' : World}, Ok w → Below w.heap.size w w' → Ok w') := A.up
  rcases hfi.forms with ⟨n, rfl, hn⟩ | rfl | rfl | ⟨k, g, hk, rfl, hg⟩ | ⟨k, g, g', hk, rfl, hg, hg'⟩
  · obtain ⟨sl, cp, rfl⟩ := slice_shape hrep
    have hsm := hfi.small.1; have B0 := below_more (Below.refl _ w) (.cells #[.int .i64 1, .string n, .slice sl ([] : List Fm).length cp] 24 (0, 0)); have HC : Hid (Calls Try.prog fn (#[.string n] ++ cap) (w.alloc (.cells #[.int .i64 1, .string n, .slice sl ([] : List Fm).length cp] 24 (0, 0))) _) := HA.out n _ (HU.out hok B0) hsm; have HT : Hid (tv p (.mk 1 n []) = p n.data.toList) := tv_name p n; generalize p n.data.toList = bb at *; clear hn hfi hpl hrep
    go_enter Try.func72, Try.ntmps72
    go_wp2_with fail; refine HC.out.mono ?_; rintro e w1 ⟨rfl, hb1⟩; have B1 := below_join B0 hb1; go_wp2_with fail; go_ret; (exact ⟨by rw [HT.out]; rfl, B1⟩)
  · obtain ⟨sl, cp, rfl⟩ := slice_shape hrep
    have B0 := below_more (Below.refl _ w) (.cells #[.int .i64 2, .string ⟨#[]⟩, .slice sl ([] : List Fm).length cp] 24 (0, 0)); have HT : Hid (tv p (.mk 2 ⟨#[]⟩ []) = true) := tv_true p; clear hfi hpl hrep
    go_enter Try.func72, Try.ntmps72
    go_wp2_with fail; go_ret; (exact ⟨by rw [HT.out]; rfl, B0⟩)
  · obtain ⟨sl, cp, rfl⟩ := slice_shape hrep
    have B0 := below_more (Below.refl _ w) (.cells #[.int .i64 3, .string ⟨#[]⟩, .slice sl ([] : List Fm).length cp] 24 (0, 0)); have HT : Hid (tv p (.mk 3 ⟨#[]⟩ []) = false) := tv_false p; clear hfi hpl hrep
    go_enter Try.func72, Try.ntmps72
    go_wp2_with fail; go_ret; (exact ⟨by rw [HT.out]; rfl, B0⟩)
  · have hkk : k = 4 := by
      have := hpl.kind
      rcases hk with rfl | rfl | rfl
      · rfl
      · cases this
      · cases this
    subst hkk; (have hca := fun v (w : World) h o => ih g v w (by rw [size_one] at hm; omega) hg (hpl.kid (by simp)) h o); have HT : Hid (tv p (.mk 4 ⟨#[]⟩ [g]) = !tv p g) := tv_not p g; generalize tv p g = bb at *; (have HC : Hid (∀ v w, Rep w (fun _ => True) g v → Ok w → Calls Try.prog 72 #[v, .func (.func fn) #[] cap] w _) := hca); obtain ⟨b, off, cp, rfl, hcp, hrs⟩ := hrep.kid1; have B0 := below_more (Below.refl _ w) (.cells #[.int .i64 4, .string ⟨#[]⟩, .slice (some ⟨b, off, none⟩) 1 cp] 24 (0, 0)); obtain ⟨k2, n2, ks2⟩ := g; obtain ⟨sl2, cap2, g0, g1, g2, hrep2⟩ := (hrs.up B0).at 0 k2 n2 ks2 rfl; simp only [Nat.zero_mul, Nat.add_zero] at g0 g1 g2; (have hcI : (1 : Int) ≤ (cp : Int) := by omega); have HO : Hid (Ok w) := hok; clear hfi hpl hrep hrs hca hk hg hok
    go_enter Try.func72, Try.ntmps72
    go_wp2_with (first
      | (go_at_call 72
         refine (HC.out _ _ hrep2 (HU.out HO.out B0)).mono ?_; rintro e w1 ⟨rfl, hb1⟩
         have B1 := below_join B0 hb1)
      | fail)
    go_ret; (exact ⟨by rw [HT.out]; rfl, B1⟩)
  · have hca := fun v (w : World) h o => ih g v w (by rw [size_two] at hm; omega) hg (hpl.kid (by simp)) h o
    (have hca' := fun v (w : World) h o => ih g' v w (by rw [size_two] at hm; omega) hg' (hpl.kid (by simp)) h o); have HT : Hid (tv p (.mk 5 ⟨#[]⟩ [g, g']) = (tv p g && tv p g') ∧ tv p (.mk 6 ⟨#[]⟩ [g, g']) = (tv p g || tv p g') ∧ tv p (.mk 7 ⟨#[]⟩ [g, g']) = (!tv p g || tv p g')) := ⟨tv_and p g g', tv_or p g g', tv_then p g g'⟩; generalize tv p g = bb at *; generalize tv p g' = bb' at *; (have HC : Hid (∀ v w, Rep w (fun _ => True) g v → Ok w → Calls Try.prog 72 #[v, .func (.func fn) #[] cap] w _) := hca); (have HC' : Hid (∀ v w, Rep w (fun _ => True) g' v → Ok w → Calls Try.prog 72 #[v, .func (.func fn) #[] cap] w _) := hca'); obtain ⟨b, off, cp, rfl, hcp, hrs⟩ := hrep.kid2; have q0 := blk_new w (.cells #[.int .i64 k, .string ⟨#[]⟩, .slice (some ⟨b, off, none⟩) 2 cp] 24 (0, 0)); have B0 := below_more (Below.refl _ w) (.cells #[.int .i64 k, .string ⟨#[]⟩, .slice (some ⟨b, off, none⟩) 2 cp] 24 (0, 0)); obtain ⟨k2, n2, ks2⟩ := g; obtain ⟨sl2, cap2, g0, g1, g2, hrep2⟩ := (hrs.up B0).at 0 k2 n2 ks2 rfl; obtain ⟨k3, n3, ks3⟩ := g'; obtain ⟨sl3, cap3, p0, p1, p2, hrep3⟩ := (hrs.up B0).at 1 k3 n3 ks3 rfl; simp only [Nat.zero_mul, Nat.add_zero] at g0 g1 g2; simp only [Nat.one_mul] at p0 p1 p2; (have hcI : (2 : Int) ≤ (cp : Int) := by omega); have HO : Hid (Ok w) := hok; have hW : ∃ W, W = w.alloc (.cells #[.int .i64 k, .string ⟨#[]⟩, .slice (some ⟨b, off, none⟩) 2 cp] 24 (0, 0)) := ⟨_, rfl⟩; have zb := lt_of_cell p0
    have HQ : Hid (∀ w1, Below (w.alloc (.cells #[.int .i64 k, .string ⟨#[]⟩, .slice (some ⟨b, off, none⟩) 2 cp] 24 (0, 0))).heap.size (w.alloc (.cells #[.int .i64 k, .string ⟨#[]⟩, .slice (some ⟨b, off, none⟩) 2 cp] 24 (0, 0))) w1 → w1.cell? ⟨w.heap.size, 2, none⟩ = some (.slice (some ⟨b, off, none⟩) 2 cp) ∧ w1.cell? ⟨b, off + 3, none⟩ = some (.int .i64 k3) ∧ w1.cell? ⟨b, off + 3 + 1, none⟩ = some (.string n3) ∧ w1.cell? ⟨b, off + 3 + 2, none⟩ = some (.slice sl3 ks3.length cap3)) := fun w1 hb1 => ⟨by
      have := blk_cell (below_keep hb1 q0) 2
      simpa using this, (hb1.cell (p := ⟨b, off + 3, none⟩) zb).trans p0, (hb1.cell (p := ⟨b, off + 3 + 1, none⟩) zb).trans p1, (hb1.cell (p := ⟨b, off + 3 + 2, none⟩) zb).trans p2⟩
    clear hfi hpl hrep hrs hca hca' hg hg' hok q0 hW zb
    rcases hk with rfl | rfl | rfl
    all_goals
      cases bb
      all_goals
        go_enter Try.func72, Try.ntmps72
        go_wp2_with (first
          | (go_at_call 72
             have hb0 := B1; refine (HC'.out _ _ (hrep3.up hb1) (HU.out HO.out B1)).mono ?_; rintro e w2 ⟨rfl, hb2⟩
             have B2 := below_join B1 hb2)
          | (go_at_call 72
             refine (HC.out _ _ hrep2 (HU.out HO.out B0)).mono ?_; rintro e w1 ⟨rfl, hb1⟩; have B1 := below_join B0 hb1
             obtain ⟨y0, y1, y2, y3⟩ := HQ.out _ hb1)
          | fail)
        go_ret
        first
        | exact ⟨by first | rw [HT.out.1] | rw [HT.out.2.1] | rw [HT.out.2.2]
                    simp, B2⟩
        | exact ⟨by first | rw [HT.out.1] | rw [HT.out.2.1] | rw [HT.out.2.2]
                    simp, B1⟩

theorem trues_all {fn : Nat} {cap : Array Value} {p : List UInt8 → Bool} {Ok : World → Prop} (A : Asks fn cap p Ok) : ∀ m, Trues fn cap p Ok m
  | 0 => fun _ _ _ h => absurd h (Nat.not_lt_zero _)
  | m + 1 => true_step A m (trues_all A m)

theorem isTrue_any {fn : Nat} {cap : Array Value} {p : List UInt8 → Bool} {Ok : World → Prop} (A : Asks fn cap p Ok) (f : Fm) (v : Value) (w : World) (hf : Fine f) (hp : Plain f) (hrep : Rep w (fun _ => True) f v) (hok : Ok w) :
    Calls Try.prog 72 #[v, .func (.func fn) #[] cap] w fun e w' => e = .returned (.bool (tv p f)) ∧ Below w.heap.size w w' :=
  trues_all A (f.size + 1) f v w (Nat.lt_succ_self _) hf hp hrep hok
end Go.Proofs.Ytlmjnglcdgkomaa
/- Walks: plainFault; names' places in a map; what is asked of them. -/
namespace Go.Proofs.Ytlmjnglcdgkomaa
open Go.RowKit Go.Maps Go.WideMaps

/-- What is said of a formula that should be plain. -/
def Fm.pcode (f : Fm) : Int × Int := if f.code.1 = 0 then (if (modal f 0).2 then ((4 : Int), (((modal f 0).1 : Nat) : Int)) else (0, 0)) else f.code

set_option maxHeartbeats 2000000 in
theorem plainFault_any (f : Fm) (v : Value) (w : World) (hrep : Rep w (fun _ => True) f v) :
    Calls Try.prog 67 #[v] w fun e w' => e = .returned (.agg #[.int .i64 f.pcode.1, .int .i64 f.pcode.2]) ∧ Below w.heap.size w w' := by
  (have hck := fun v (w : World) h => check_any f v w h)
  have hmo : f.code.1 = 0 → ∀ v (w : World), Rep w (fun _ => True) f v → Calls Try.prog 100 #[v, .int .i64 0] w fun e w' => e = .returned (.tuple #[.int .i64 ((modal f 0).1 : Nat), .bool (modal f 0).2]) ∧ Below w.heap.size w w' := fun h0 v w h => by
    rcases hx : chk f 0 with s | ⟨c, a⟩
    · exact modal_any f v w (fine_of_chk f 0 s hx) (chk_size hx) h
    · have := chk_code f 0 c a hx
      simp only [Fm.code, hx] at h0; exact absurd h0 this
  have hcz : f.code.1 = 0 → f.code = (0, 0) := fun h0 => by
    rcases hx : chk f 0 with s | ⟨c, a⟩
    · simp only [Fm.code, hx]
    · have := chk_code f 0 c a hx
      simp only [Fm.code, hx] at h0; exact absurd h0 this
  (have hpc : f.pcode = if f.code.1 = 0 then (if (modal f 0).2 then ((4 : Int), (((modal f 0).1 : Nat) : Int)) else (0, 0)) else f.code := rfl); have hml := modal_le f 0; generalize f.pcode = pc at *; generalize f.code = fc at *; generalize modal f 0 = mo at *; obtain ⟨c, a⟩ := fc; obtain ⟨r, bb⟩ := mo; obtain ⟨k, n, ks⟩ := f; obtain ⟨sl, cap, rfl⟩ := slice_shape hrep; have HC : Hid (∀ v w, _ → Calls Try.prog 12 #[v] w _) := hck; have HM : Hid (c = 0 → ∀ v w, _ → Calls Try.prog 100 _ w _) := hmo; have HP : Hid (pc = _) := hpc; (have hcz' : c = 0 → a = 0 := fun h => by have := hcz h; exact (Prod.mk.inj this).2); clear hck hmo hpc hcz; by_cases hc : c = 0
  · subst hc
    obtain rfl := hcz' rfl; have HM2 := HM.out rfl; have HM3 : Hid (∀ v w, _ → Calls Try.prog 100 _ w _) := HM2; clear HM2 HM hcz'
    cases bb
    · have HE : Hid (pc = (0, 0)) := HP.out
      clear HP
      go_enter Try.func67, Try.ntmps67
      go_wp2_with (first
        | (go_at_call 12
           refine (HC.out _ _ ((hrep.more _).more _)).mono ?_; rintro e w1 ⟨rfl, hb1⟩; have z1 := hb1.size; simp at z1; have q0 := below_keep hb1 (alloc_keep (blk_new w _) _); have q1 := below_keep hb1 (blk_new (w.alloc _) _); (rw [show (w.alloc _).heap.size = w.heap.size + 1 by simp] at q1); have B1 := below_join (below_more (below_more (Below.refl _ w) _) _) hb1; obtain ⟨a0, a1, a2, -⟩ := blk3 q0; obtain ⟨k1, k2, k3, k4⟩ := blk2 q1; have y0 : w.heap.size < w1.heap.size := lt_of_block q0; have y1 : w.heap.size + 1 < w1.heap.size := lt_of_block q1; (have d1 : ¬ w.heap.size = w1.heap.size := by omega); (have d2 : ¬ w.heap.size + 1 = w1.heap.size := by omega)
           have d3 : ¬ w1.heap.size = w.heap.size + 1 := by omega)
        | (go_at_call 100
           refine (HM3.out _ _ ((hrep.up B1).more _)).mono ?_; rintro e w2 ⟨rfl, hb2⟩; have r1 := below_keep hb2 (alloc_keep q1 _); have B2 := below_join (below_more B1 _) hb2; clear k1 k2 k3 k4
           obtain ⟨k1, k2, k3, k4⟩ := blk2 r1)
        | fail)
      have f2 := set2 r1 (.int .i64 0) (.int .i64 0); (have b2 := (B2.setCell (p := ⟨w.heap.size + 1, 0, none⟩) (by simp) (.int .i64 0)).setCell (p := ⟨w.heap.size + 1, 1, none⟩) (by simp) (.int .i64 0)); generalize World.setCell _ _ _ = F at f2 b2 ⊢; clear k1 k2 k3 k4; obtain ⟨k1, k2, -⟩ := blk2 f2; (exact bodyPost_ret (v := .agg #[.int .i64 0, .int .i64 0]) (by simp [results, Try.results67, go_sem, k1, k2]) rfl ⟨by rw [HE.out], b2⟩)
    · have HE : Hid (pc = (4, (r : Int))) := HP.out
      clear HP
      go_enter Try.func67, Try.ntmps67
      go_wp2_with (first
        | (go_at_call 12
           refine (HC.out _ _ ((hrep.more _).more _)).mono ?_; rintro e w1 ⟨rfl, hb1⟩; have z1 := hb1.size; simp at z1; have q0 := below_keep hb1 (alloc_keep (blk_new w _) _); have q1 := below_keep hb1 (blk_new (w.alloc _) _); (rw [show (w.alloc _).heap.size = w.heap.size + 1 by simp] at q1); have B1 := below_join (below_more (below_more (Below.refl _ w) _) _) hb1; obtain ⟨a0, a1, a2, -⟩ := blk3 q0; obtain ⟨k1, k2, k3, k4⟩ := blk2 q1; have y0 : w.heap.size < w1.heap.size := lt_of_block q0; have y1 : w.heap.size + 1 < w1.heap.size := lt_of_block q1; (have d1 : ¬ w.heap.size = w1.heap.size := by omega); (have d2 : ¬ w.heap.size + 1 = w1.heap.size := by omega)
           have d3 : ¬ w1.heap.size = w.heap.size + 1 := by omega)
        | (go_at_call 100
           refine (HM3.out _ _ ((hrep.up B1).more _)).mono ?_; rintro e w2 ⟨rfl, hb2⟩; have r1 := below_keep hb2 (alloc_keep q1 _); have B2 := below_join (below_more B1 _) hb2; clear k1 k2 k3 k4
           obtain ⟨k1, k2, k3, k4⟩ := blk2 r1)
        | fail)
      have f2 := set2 r1 (.int .i64 4) (.int .i64 r); (have b2 := (B2.setCell (p := ⟨w.heap.size + 1, 0, none⟩) (by simp) (.int .i64 4)).setCell (p := ⟨w.heap.size + 1, 1, none⟩) (by simp) (.int .i64 r)); generalize World.setCell _ _ _ = F at f2 b2 ⊢; clear k1 k2 k3 k4; obtain ⟨k1, k2, -⟩ := blk2 f2; (exact bodyPost_ret (v := .agg #[.int .i64 4, .int .i64 r]) (by simp [results, Try.results67, go_sem, k1, k2]) rfl ⟨by rw [HE.out], b2⟩)
  · have HE : Hid (pc = (c, a)) := by
      have := HP.out
      rwa [if_neg hc] at this
    (have hne' : (c != 0) = true := by simpa using hc); clear HP HM hcz'
    go_enter Try.func67, Try.ntmps67
    go_wp2_with (first
      | (go_at_call 12
         refine (HC.out _ _ ((hrep.more _).more _)).mono ?_; rintro e w1 ⟨rfl, hb1⟩; have z1 := hb1.size; simp at z1; have q0 := below_keep hb1 (alloc_keep (blk_new w _) _); have q1 := below_keep hb1 (blk_new (w.alloc _) _); (rw [show (w.alloc _).heap.size = w.heap.size + 1 by simp] at q1); have B1 := below_join (below_more (below_more (Below.refl _ w) _) _) hb1; obtain ⟨a0, a1, a2, -⟩ := blk3 q0; obtain ⟨k1, k2, k3, k4⟩ := blk2 q1; have y0 : w.heap.size < w1.heap.size := lt_of_block q0; have y1 : w.heap.size + 1 < w1.heap.size := lt_of_block q1; (have d1 : ¬ w.heap.size = w1.heap.size := by omega); (have d2 : ¬ w.heap.size + 1 = w1.heap.size := by omega)
         have d3 : ¬ w1.heap.size = w.heap.size + 1 := by omega)
      | (go_at_call 100
         refine (HM3.out _ _ ((hrep.up B1).more _)).mono ?_; rintro e w2 ⟨rfl, hb2⟩; have r1 := below_keep hb2 (alloc_keep q1 _); have B2 := below_join (below_more B1 _) hb2; clear k1 k2 k3 k4
         obtain ⟨k1, k2, k3, k4⟩ := blk2 r1)
      | fail)
    have f2 := set2 q1 (.int .i64 c) (.int .i64 a); (have b2 := (B1.setCell (p := ⟨w.heap.size + 1, 0, none⟩) (by simp) (.int .i64 c)).setCell (p := ⟨w.heap.size + 1, 1, none⟩) (by simp) (.int .i64 a)); (have hsz : ((w1.setCell ⟨w.heap.size + 1, 0, none⟩ (.int .i64 c)).setCell ⟨w.heap.size + 1, 1, none⟩ (.int .i64 a)).heap.size = w1.heap.size := by simp [World.setCell]); generalize World.setCell _ _ _ = F at f2 b2 hsz ⊢; clear k1 k2 k3 k4; obtain ⟨k1, k2, -⟩ := blk2 f2; (have d4 : w.heap.size + 1 < F.heap.size := by omega); (exact bodyPost_ret (v := .agg #[.int .i64 c, .int .i64 a]) (by simp [results, Try.results67, go_sem, k1, k2, d4]) rfl ⟨by rw [HE.out], b2.alloc (by omega) _⟩)

/-! A list of texts in memory, wherever it begins. -/
def SL (w : World) (v : Value) (l : List (List UInt8)) : Prop := ∃ ad cap, v = .slice ad l.length cap ∧ l.length ≤ cap ∧ cap ≤ maxLen ∧ (l ≠ [] → ∃ g off, ad = some ⟨g, off, none⟩ ∧ ∀ (j : Nat) (t : List UInt8), l[j]? = some t → w.cell? ⟨g, off + j, none⟩ = some (.string ⟨t.toArray⟩))
theorem SL.up {w w' : World} {v : Value} {l : List (List UInt8)} (h : SL w v l) (hb : Below w.heap.size w w') : SL w' v l := by
  obtain ⟨ad, cap, h1, h2, h3, h4⟩ := h; (refine ⟨ad, cap, h1, h2, h3, fun hne => ?_⟩); obtain ⟨g, off, h5, h6⟩ := h4 hne
  exact ⟨g, off, h5, fun j t ht => by
    have := h6 j t ht; rw [hb.cell (p := ⟨g, off + j, none⟩) (lt_of_cell this)]
    exact this⟩

theorem strKeyed : Keyed Try.prog 9 := string_keyed Try.underlying9
theorem zeroInt (w : World) : (zeroValue 3).run Try.prog w = .ok (.int .i64 0) w := by kernel_rfl
theorem keyStr (t : List UInt8) (h : t.length ≤ maxLen) : keyOf Try.prog 9 (.string ⟨t.toArray⟩) = some (.string t) :=
  keyOf_string_mk Try.underlying9 (s := ⟨t.toArray⟩) (by simpa [ByteArray.size] using h)

/-- Names' places, in a map. -/
def PM (w : World) (b : Nat) (l : List (List UInt8)) : Prop := ∃ (n : Nat) (D : DataW Unit), w.ownsMap Try.prog 9 (plainElem Try.prog 3) b n D ∧ n ≤ l.length ∧ (∀ s, s.length ≤ maxLen → Maps.has D (.string s) = decide (s ∈ l)) ∧ ∀ s, s ∈ l → ∃ i, l[i]? = some s ∧ ∀ z, D.atKey (.string s) z = .lit (.int .i64 (i : Nat))

theorem PM.nil {w : World} : PM (w.alloc (.map #[] 0)) w.heap.size [] :=
  ⟨0, .map [], World.ownsMap_made _ _ _ _, Nat.le_refl _, fun s _ => by simp [has_eq], fun s h => by cases h⟩

theorem PM.snoc {w' : World} {b : Nat} {l : List (List UInt8)} {t : List UInt8} {n : Nat} {D : DataW Unit} (hn : n ≤ l.length) (hD : IsMap D) (h1 : ∀ s, s.length ≤ maxLen → Maps.has D (.string s) = decide (s ∈ l)) (h2 : ∀ s, s ∈ l → ∃ i, l[i]? = some s ∧ ∀ z, D.atKey (.string s) z = .lit (.int .i64 (i : Nat)))
    (h : w'.ownsMap Try.prog 9 (plainElem Try.prog 3) b (n + 1) (D.put (.string t) (.lit (.int .i64 (l.length : Nat))))) : PM w' b (l ++ [t]) := by
  (have hk : WideAt.IsKeyLit (.string t) := by first | trivial | exact True.intro | simp [WideAt.IsKeyLit]); (refine ⟨n + 1, _, h, by simp; omega, fun s hs => ?_, fun s hs => ?_⟩)
  · by_cases e : s = t
    · subst e; rw [has_put_same hD hk]; simp
    · rw [has_put_other (fun h => e (by injection h)), h1 s hs]; simp [e]
  · by_cases e : s = t
    · subst e
      (exact ⟨l.length, by simp, fun z => atKey_put_same hD hk _ z⟩)
    · have hs' : s ∈ l := by simpa [e] using hs
      obtain ⟨i, hi, hz⟩ := h2 s hs'; (refine ⟨i, ?_, fun z => ?_⟩)
      · have hlt : i < l.length := by
          rcases Nat.lt_or_ge i l.length with h | h
          · exact h
          · rw [List.getElem?_eq_none h] at hi; cases hi
        rw [List.getElem?_append_left hlt]; exact hi
      · rw [atKey_put_other (fun h => e (by injection h))]; exact hz z

set_option maxHeartbeats 2000000 in
theorem placesOf_any (l : List (List UInt8)) (hl : l.length ≤ 1000) (hsm : ∀ t ∈ l, t.length ≤ 8) (v : Value) (w : World) (hv : SL w v l) :
    Calls Try.prog 70 #[v] w fun e w' => e = .returned (.map (some w.heap.size)) ∧ PM w' w.heap.size l ∧ Below w.heap.size w w' := by
  obtain ⟨ad, cap, rfl, h1, h2, h3⟩ := hv; (have hlI : (l.length : Int) ≤ 1000 := by omega); have H3 : Hid (l ≠ [] → ∃ g off, ad = some ⟨g, off, none⟩ ∧ ∀ (j : Nat) (t : List UInt8), l[j]? = some t → w.cell? ⟨g, off + j, none⟩ = some (.string ⟨t.toArray⟩)) := h3; have HSm : Hid (∀ t ∈ l, t.length ≤ 8) := hsm; have hmm := @run_makeMap Try.prog; clear h3 hsm
  go_enter Try.func70, Try.ntmps70
  go_wp2_with fail
  go_loopg [9] l.length (fun g c wr => ∃ i, i ≤ l.length ∧ g = l.length - i ∧ c = .int .i64 (i : Nat) ∧ Below w.heap.size w wr ∧ Hid (PM wr w.heap.size (l.take i)))
  case atStart => exact ⟨0, by omega, by omega, rfl, below_more (Below.refl _ w) _, PM.nil⟩
  case round =>
    obtain ⟨i, hi, hg, rfl, hbr, HP⟩ := hrel; have HG : Hid (gk = l.length - i) := hg; clear hg; by_cases hlt : i < l.length
    · obtain ⟨t, ht⟩ : ∃ x, l[i]? = some x := ⟨_, List.getElem?_eq_getElem hlt⟩
      (obtain ⟨g, off, rfl, hc⟩ := H3.out (fun e => by rw [e] at hlt; simp at hlt)); have g0 := (hbr.cell (p := ⟨g, off + i, none⟩) (lt_of_cell (hc i t ht))).trans (hc i t ht); (have hltI : (i : Int) < (l.length : Int) := by omega); (have hlc : (i : Int) < (cap : Int) := by omega); obtain ⟨n, D, hown, hn, hh1, hh2⟩ := HP.out; (have hkey := keyStr t (by have := HSm.out t (List.mem_of_getElem? ht); unfold maxLen; omega)); (have hti : (l.take i).length = i := by rw [List.length_take]; omega)
      have HT : Hid (l.take (i + 1) = l.take i ++ [t]) := by
        show _ = _; rw [List.take_add_one, ht]; rfl
      have HN : Hid (∀ w', w'.ownsMap Try.prog 9 (plainElem Try.prog 3) w.heap.size (n + 1) (D.put (.string t) (.lit (.int .i64 (i : Nat)))) → PM w' w.heap.size (l.take (i + 1))) := fun w' h => by
        rw [HT.out]; refine PM.snoc hn hown.isMap hh1 hh2 ?_; rw [hti]; exact h
      generalize (⟨t.toArray⟩ : ByteArray) = T at *; clear hc ht H3 hh1 hh2 HP
      go_wp2_with (first
        | (at_mapUpdate
           (refine wpList_mapUpdate_own _ rfl _ _ _ 103 rfl 9 3 strKeyed Try.underlying103 _ w.heap.size n _ rfl hown (by unfold maxLen; omega) _ _ _ rfl rfl hkey _ [] (plainElem_int Try.underlying3 (WalkArith.wf_i64 (by omega))) ?_); intro w1 hown1 hgrow1; have R1 := HN.out _ hown1; (have R2 := hbr.grown hgrow1 hbr.size (fun j hj => by cases hj; exact Nat.le_refl _)); have HR1 : Hid (PM w1 w.heap.size (l.take (i + 1))) := R1
           clear hown1 hgrow1 hown R1)
        | fail)
      go_roundg (l.length - (i + 1))
      case measure => have := HG.out; omega
      case rel => exact ⟨i + 1, by omega, rfl, by go_num, R2, HR1⟩
    · have HE : Hid (PM wr w.heap.size l) := by
        have := HP.out; (rw [List.take_of_length_le (by omega)] at this); exact this
      (have hge : ¬ (i : Int) < (l.length : Int) := by omega); clear H3 HP; go_wp2_with fail; go_ret; exact ⟨rfl, HE.out, hbr⟩
end Go.Proofs.Ytlmjnglcdgkomaa
