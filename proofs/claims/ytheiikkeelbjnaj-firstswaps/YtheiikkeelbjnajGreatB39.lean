/- Texts of one proof, one behind the other: FRM, FRN. -/
import Derived.Test.YtheiikkeelbjnajGreatB35
import Derived.Test.YtheiikkeelbjnajGreatB25
/- Walks: first.Parse, whatever the text. -/
namespace Go.Proofs.YtheiikkeelbjnajGreat
open Go.RowKit Go.Sort Go.Maps Go.WideMaps

/-- The blocks that Parse makes first. -/
theorem threeX {w : World} {o0 o1 o2 o3 : Obj} : ((((w.alloc o0).alloc o1).alloc o2).alloc o3).heap[w.heap.size]? = some o0 ∧ ((((w.alloc o0).alloc o1).alloc o2).alloc o3).heap[w.heap.size + 1]? = some o1 ∧ ((((w.alloc o0).alloc o1).alloc o2).alloc o3).heap[w.heap.size + 2]? = some o2 ∧ ((((w.alloc o0).alloc o1).alloc o2).alloc o3).heap[w.heap.size + 3]? = some o3 := by
  (have e1 : (w.alloc o0).heap.size = w.heap.size + 1 := by simp); (have e2 : ((w.alloc o0).alloc o1).heap.size = w.heap.size + 2 := by simp); (have e3 : (((w.alloc o0).alloc o1).alloc o2).heap.size = w.heap.size + 3 := by simp); refine ⟨?_, ?_, ?_, ?_⟩
  · rw [Below.heap_alloc _ _ _ (by omega), Below.heap_alloc _ _ _ (by omega), Below.heap_alloc _ _ _ (by omega)]; exact blk_new _ _
  · rw [Below.heap_alloc _ _ _ (by omega), Below.heap_alloc _ _ _ (by omega), ← e1]; exact blk_new _ _
  · rw [Below.heap_alloc _ _ _ (by omega), ← e2]; exact blk_new _ _
  · rw [← e3]; exact blk_new _ _
theorem xp1_fine (bt be : Nat) (T : TypeId) (t : ByteArray) (ht : t.size ≤ 20000) (w : World) (q0 : w.heap[bt]? = some (.cells #[.string t] T (0, 0))) (q1 : w.heap[be]? = some (.cells #[.int .i64 0, .string ⟨#[]⟩, .slice none 0 0, .slice none 0 0] 25 (0, 0))) (y : Rd Ex) (hy : EvR (rThen · t.data.toList) y) (x : Ex) (ho : xout t.size y = .ok x) (hec : ecode x = (0, 0)) :
    Calls Tryz.prog 89 #[.pointer (some ⟨bt, 0, none⟩), .pointer (some ⟨be, 0, none⟩)] w fun e w' => e = .returned (.tuple #[]) ∧ Kept (· ≠ be) w w' ∧ ∃ c0 c1 c2 c3, w'.heap[be]? = some (.cells #[c0, c1, c2, c3] 25 (0, 0)) ∧ EQ w' (w.heap.size ≤ ·) x (.agg #[c0, c1, c2, c3]) := by
  obtain ⟨k, n, ws, ks⟩ := x; refine (xparse1_ok bt be T t ht w q0 q1 y hy k n ws ks ho _ rfl).mono ?_; rintro e w' ⟨hk, hx⟩
  rcases he : echk (.mk k n ws ks) 0 (fun _ => none) (fun _ => none) with ⟨c', a''⟩ | ⟨s, p, f⟩
  · have h0 := echk_code _ _ _ _ _ _ he
    simp only [ecode, he, Prod.mk.injEq] at hec; exact absurd hec.1 h0
  · rw [he] at hx
    exact ⟨hx.1, hk, hx.2⟩
set_option maxHeartbeats 2000000 in
theorem xparse_ok (t : ByteArray) (ht : t.size ≤ 20000) (w : World) (y : Rd Ex) (hy : EvR (rThen · t.data.toList) y) (x : Ex) (ho : xout t.size y = .ok x) (hec : ecode x = (0, 0)) :
    Calls Tryz.prog 42 #[.string t] w fun e w' => ∃ v, e = .returned (.tuple #[v, .agg #[.int .i64 0, .int .i64 0]]) ∧ EQ w' (w.heap.size ≤ ·) x v ∧ Below w.heap.size w w' := by
  obtain ⟨k, n, ws, ks⟩ := x; (have h3 : (t.size : Int) ≤ 20000 := by omega); (have hmf : ∀ (fn : Fn) (first cap : Array Value) (w : World), (Instr.makeFunc fn first cap).run Tryz.prog w = .ok (.func fn first cap) w := fun _ _ _ _ => rfl)
  go_enter Tryz.func42, Tryz.ntmps42
  go_wp2_with (first
    | (go_at_call 47
       (refine (caught_ok 89 _ _ (fun w1 => ∃ c0 c1 c2 c3, w1.heap[w.heap.size + 1]? = some (.cells #[c0, c1, c2, c3] 25 (0, 0)) ∧ w1.heap[w.heap.size + 1 + 1]? = some (.cells #[.int .i64 0, .int .i64 0] 32 (0, 0)) ∧ EQ w1 (w.heap.size + 4 ≤ ·) (.mk k n ws ks) (.agg #[c0, c1, c2, c3]) ∧ Kept (fun k => k < w.heap.size) w w1) (xparse1_in _) ?_).mono ?_)
       · refine (xp1_fine w.heap.size (w.heap.size + 1) _ t ht _ threeX.1 threeX.2.1 y hy _ ho hec).mono ?_
         rintro e w1 ⟨rfl, hk, c0, c1, c2, c3, q1, hrep⟩; (refine ⟨rfl, (hk.block _ (by simp) (by simp; omega)).trans (blk_new _ _), c0, c1, c2, c3, q1, ?_, ?_, ?_⟩)
         · exact (hk.block _ (by simp) (by simp)).trans threeX.2.2.1
         · exact EQ.move (fun b _ hb2 => ⟨rfl, by simp at hb2; omega⟩) _ _ hrep
         · exact ((((((Kept.refl _ w).alloc _).alloc _).alloc _).alloc _)).trans (hk.mono (fun k _ h => by omega))
       rintro e w2 ⟨rfl, w1, ⟨c0, c1, c2, c3, q1, q2, hrep, hk⟩, hk2⟩; obtain ⟨sw, cw, sk, ck, e0, -⟩ := EQ.def.1 hrep; simp only [Value.agg.injEq, Array.mk.injEq, List.cons.injEq, and_true] at e0; obtain ⟨rfl, rfl, rfl, rfl⟩ := e0; have z1 := lt_of_block q1; have z2 := lt_of_block q2; (have q3 := (hk2.block _ z1 (by simp <;> omega)).trans q1); (have q4 := (hk2.block _ z2 (by simp)).trans q2); obtain ⟨g1, g2, g3, g4, g5, g6, g7, g8⟩ := blk4N q3
       obtain ⟨k1, k2, k3, k4⟩ := blk2 q4)
    | fail)
  have hsz := hk.size; have hsz2 := hk2.size; have y2 := set2 q4 (.int .i64 0) (.int .i64 0); have y1 := q3; (rw [← Below.heap_setCell _ ⟨w.heap.size + 1 + 1, 0, none⟩ (.int .i64 0) _ (by simp), ← Below.heap_setCell _ ⟨w.heap.size + 1 + 1, 1, none⟩ (.int .i64 0) _ (by simp)] at y1); have x1 := setx4 y1 (.int .i64 k) (.string n) (.slice sw ws.length cw) (.slice sk ks.length ck); have x2 := y2; (rw [← Below.heap_setCell _ ⟨w.heap.size + 1, 0, none⟩ (.int .i64 k) _ (by simp), ← Below.heap_setCell _ ⟨w.heap.size + 1, 1, none⟩ (.string n) _ (by simp), ← Below.heap_setCell _ ⟨w.heap.size + 1, 2, none⟩ (.slice sw ws.length cw) _ (by simp), ← Below.heap_setCell _ ⟨w.heap.size + 1, 3, none⟩ (.slice sk ks.length ck) _ (by simp)] at x2); have f2 := set2 x2 (.int .i64 0) (.int .i64 0); have f1 := x1; (rw [← Below.heap_setCell _ ⟨w.heap.size + 1 + 1, 0, none⟩ (.int .i64 0) _ (by simp), ← Below.heap_setCell _ ⟨w.heap.size + 1 + 1, 1, none⟩ (.int .i64 0) _ (by simp)] at f1); (have b1 : Below w.heap.size w w2 := (hk.trans (hk2.mono (fun k _ h => by simp; omega))).below (Nat.le_refl _) (fun _ h => h)); (have b2 := ((((((((b1.setCell (p := ⟨w.heap.size + 1 + 1, 0, none⟩) (by simp <;> omega) (.int .i64 0)).setCell (p := ⟨w.heap.size + 1 + 1, 1, none⟩) (by simp <;> omega) (.int .i64 0)).setCell (p := ⟨w.heap.size + 1, 0, none⟩) (by simp <;> omega) (.int .i64 k)).setCell (p := ⟨w.heap.size + 1, 1, none⟩) (by simp <;> omega) (.string n)).setCell (p := ⟨w.heap.size + 1, 2, none⟩) (by simp <;> omega) (.slice sw ws.length cw)).setCell (p := ⟨w.heap.size + 1, 3, none⟩) (by simp <;> omega) (.slice sk ks.length ck)).setCell (p := ⟨w.heap.size + 1 + 1, 0, none⟩) (by simp <;> omega) (.int .i64 0)).setCell (p := ⟨w.heap.size + 1 + 1, 1, none⟩) (by simp <;> omega) (.int .i64 0)))
  have r1 : EQ ((((((((w2.setCell ⟨w.heap.size + 1 + 1, 0, none⟩ (.int .i64 0)).setCell ⟨w.heap.size + 1 + 1, 1, none⟩ (.int .i64 0)).setCell ⟨w.heap.size + 1, 0, none⟩ (.int .i64 k)).setCell ⟨w.heap.size + 1, 1, none⟩ (.string n)).setCell ⟨w.heap.size + 1, 2, none⟩ (.slice sw ws.length cw)).setCell ⟨w.heap.size + 1, 3, none⟩ (.slice sk ks.length ck)).setCell ⟨w.heap.size + 1 + 1, 0, none⟩ (.int .i64 0)).setCell ⟨w.heap.size + 1 + 1, 1, none⟩ (.int .i64 0)) (w.heap.size ≤ ·) (.mk k n ws ks) (.agg #[.int .i64 k, .string n, .slice sw ws.length cw, .slice sk ks.length ck]) := by
    (refine EQ.move (fun b hb1 hb2 => ⟨?_, by omega⟩) _ _ hrep); (rw [Below.heap_setCell _ _ _ _ (by simp; omega), Below.heap_setCell _ _ _ _ (by simp; omega), Below.heap_setCell _ _ _ _ (by simp; omega), Below.heap_setCell _ _ _ _ (by simp; omega), Below.heap_setCell _ _ _ _ (by simp; omega), Below.heap_setCell _ _ _ _ (by simp; omega), Below.heap_setCell _ _ _ _ (by simp; omega), Below.heap_setCell _ _ _ _ (by simp; omega)]); (exact hk2.block b hb1 (by simp; omega))
  generalize World.setCell _ _ _ = F at f1 f2 b2 r1 ⊢; clear g1 g2 g3 g4 g5 g6 g7 g8 k1 k2 k3 k4; obtain ⟨g1, g2, g3, g4, -⟩ := blk4N f1; obtain ⟨k1, k2, -⟩ := blk2 f2; (exact bodyPost_ret (v := .tuple #[.agg #[.int .i64 k, .string n, .slice sw ws.length cw, .slice sk ks.length ck], .agg #[.int .i64 0, .int .i64 0]]) (by simp [results, Tryz.results42, go_sem, g1, g2, g3, g4, k1, k2]) rfl ⟨_, rfl, r1, b2⟩)
end Go.Proofs.YtheiikkeelbjnajGreat
/- The document's example of first order: it is read, and printed so again. -/
namespace Go.Proofs.YtheiikkeelbjnajGreat
open Go.RowKit Go.Sort

/-- The document's example. -/
def xf0 : Ex := .mk 8 e0 [] [.mk 6 e0 [] [.mk 9 ⟨#[120]⟩ [] [.mk 1 ⟨#[80]⟩ [.mk ⟨#[120]⟩ []] []], .mk 1 ⟨#[81]⟩ [] []], .mk 10 ⟨#[121]⟩ [] [.mk 2 e0 [.mk ⟨#[70]⟩ [.mk ⟨#[121]⟩ [], .mk ⟨#[67]⟩ []], .mk ⟨#[120]⟩ []] []]]
def xt0 : List UInt8 := [33, 120, 32, 80, 40, 120, 41, 32, 38, 32, 81, 32, 45, 62, 32, 63, 121, 32, 70, 40, 121, 44, 32, 67, 41, 32, 61, 32, 120]
set_option maxRecDepth 100000 in
theorem xf0_read : EvR (rThen · xt0) (.ok xf0 []) := ⟨40, fun k hk => by
  (obtain ⟨j, rfl⟩ : ∃ j, k = j + 40 := ⟨k - 40, by omega⟩)
  rfl⟩
set_option maxRecDepth 100000 in
theorem xf0_print : exP 0 xf0 = xt0 := by rfl
theorem xf0_code : ∃ s p f, echk xf0 0 (fun _ => none) (fun _ => none) = .ok s p f := ⟨_, _, _, rfl⟩
set_option maxHeartbeats 1000000 in
theorem xbegun_any (w : World) : Calls Tryz.prog 8 #[] w fun e w' => e = .returned (.bool true) ∧ Below w.heap.size w w' := by
  obtain ⟨s0, p0, f0', hck⟩ := xf0_code; (have hec : ecode xf0 = (0, 0) := by simp only [ecode, hck]); (have hp := fun w => xparse_ok ⟨xt0.toArray⟩ (by decide) w (.ok xf0 []) (by simpa using xf0_read) xf0 (by simp only [xout, skipB, if_true]) hec); (have hq := fun v w h => eprint_ok xf0 v w h s0 p0 f0' hck); rw [xf0_print] at hq; obtain ⟨k, n, ws, ks, hf0⟩ : ∃ k n ws ks, xf0 = .mk k n ws ks := ⟨_, _, _, _, rfl⟩; rw [hf0] at hp hq; have HP : Hid (∀ w, Calls Tryz.prog 42 _ w _) := hp; have HQ : Hid (∀ v w, _ → Calls Tryz.prog 43 #[v] w _) := hq; clear hp hq hf0 hck hec
  go_enter Tryz.func8, Tryz.ntmps8
  go_wp2_with (first
    | (go_at_call 42
       refine (HP.out _).mono ?_; rintro e w1 ⟨v, rfl, hrep, hb1⟩
       obtain ⟨sw, cw, sk, ck, rfl, -⟩ := EQ.def.1 hrep)
    | (go_at_call 43
       (refine (HQ.out _ _ (EQ.rep _ _ (EQ.move (ok' := fun _ => True) (fun b hb _ => ⟨by rw [Below.heap_alloc _ _ _ (by simp; omega), Below.heap_alloc _ _ _ hb], trivial⟩) _ _ hrep))).mono ?_); rintro e w2 ⟨rfl, hb2⟩; have z1 := hb1.size; have z2 := hb2.size; simp at z2
       have q1 : w2.heap[w1.heap.size + 1]? = some (.cells #[.int .i64 0, .int .i64 0] 32 (0, 0)) := by
         (rw [hb2.block _ (by simp)]); have := blk_new (w1.alloc (.cells #[.int .i64 k, .string n, .slice sw ws.length cw, .slice sk ks.length ck] 25 (0, 0))) (.cells #[.int .i64 0, .int .i64 0] 32 (0, 0)); simpa using this
       obtain ⟨k1, k2, k3, k4⟩ := blk2 q1
       have d3 : w1.heap.size + 1 < w2.heap.size := by omega)
    | fail)
  go_ret; (exact ⟨rfl, (((hb1.alloc z1 _).alloc (by simp; omega) _).trans (hb2.mono (by simp; omega))).alloc (by omega) _⟩)
end Go.Proofs.YtheiikkeelbjnajGreat
