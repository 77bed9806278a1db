/- Texts of one proof, one behind the other: CH4, CH5, Open4, CW1, CW2. -/
import Derived.Test.YtpmogojpdigbmabGreatB21
import Derived.Test.YtpmogojpdigbmabGreatB09
import Derived.Test.YtpmogojpdigbmabGreatB04
import Derived.Test.YtpmogojpdigbmabGreatB12
import Derived.Test.YtpmogojpdigbmabGreatB20
import Derived.Test.YtpmogojpdigbmabGreatB05
import Derived.Test.YtpmogojpdigbmabGreatB10
/- Walks: the proof of p | ~p; calculusBegun. -/
namespace Go.Proofs.YtpmogojpdigbmabGreat
open Go.RowKit

def mP : Fm := .mk 1 ⟨#[112]⟩ []
def mN : Fm := .mk 4 ⟨#[]⟩ [mP]
def mO : Fm := .mk 6 ⟨#[]⟩ [mP, mN]
def midA : Pf := .mk ⟨#[97, 120]⟩ mP [mP] [mP] []
def midN : Pf := .mk ⟨#[110, 111, 116, 45, 114]⟩ mN [] [mP, mN] [midA]
def midO : Pf := .mk ⟨#[111, 114, 45, 114]⟩ mO [] [mO] [midN]

theorem blk_at {X : World} {o : Obj} {n : Nat} (h : X.heap.size = n) : (X.alloc o).heap[n]? = some o := by rw [← h]; exact blk_new X o
theorem seven (X : World) (a0 a1 a2 a3 a4 a5 a6 : Obj) : (∀ b, b < X.heap.size → (((((((X.alloc a0).alloc a1).alloc a2).alloc a3).alloc a4).alloc a5).alloc a6).heap[b]? = X.heap[b]?) ∧ (((((((X.alloc a0).alloc a1).alloc a2).alloc a3).alloc a4).alloc a5).alloc a6).heap[X.heap.size]? = some a0 ∧ (((((((X.alloc a0).alloc a1).alloc a2).alloc a3).alloc a4).alloc a5).alloc a6).heap[X.heap.size + 1]? = some a1 ∧ (((((((X.alloc a0).alloc a1).alloc a2).alloc a3).alloc a4).alloc a5).alloc a6).heap[X.heap.size + 1 + 1]? = some a2 ∧ (((((((X.alloc a0).alloc a1).alloc a2).alloc a3).alloc a4).alloc a5).alloc a6).heap[X.heap.size + 1 + 1 + 1]? = some a3 ∧ (((((((X.alloc a0).alloc a1).alloc a2).alloc a3).alloc a4).alloc a5).alloc a6).heap[X.heap.size + 1 + 1 + 1 + 1]? = some a4 ∧ (((((((X.alloc a0).alloc a1).alloc a2).alloc a3).alloc a4).alloc a5).alloc a6).heap[X.heap.size + 1 + 1 + 1 + 1 + 1]? = some a5 ∧ (((((((X.alloc a0).alloc a1).alloc a2).alloc a3).alloc a4).alloc a5).alloc a6).heap[X.heap.size + 1 + 1 + 1 + 1 + 1 + 1]? = some a6 := by
  (have s1 : (X.alloc a0).heap.size = X.heap.size + 1 := by simp); (have s2 : ((X.alloc a0).alloc a1).heap.size = X.heap.size + 1 + 1 := by simp); (have s3 : (((X.alloc a0).alloc a1).alloc a2).heap.size = X.heap.size + 1 + 1 + 1 := by simp); (have s4 : ((((X.alloc a0).alloc a1).alloc a2).alloc a3).heap.size = X.heap.size + 1 + 1 + 1 + 1 := by simp); (have s5 : (((((X.alloc a0).alloc a1).alloc a2).alloc a3).alloc a4).heap.size = X.heap.size + 1 + 1 + 1 + 1 + 1 := by simp); (have s6 : ((((((X.alloc a0).alloc a1).alloc a2).alloc a3).alloc a4).alloc a5).heap.size = X.heap.size + 1 + 1 + 1 + 1 + 1 + 1 := by simp); (refine ⟨fun b hb => ?_, ?_, ?_, ?_, ?_, ?_, ?_, ?_⟩)
  · rw [Below.heap_alloc _ _ _ (by omega), Below.heap_alloc _ _ _ (by omega), Below.heap_alloc _ _ _ (by omega), Below.heap_alloc _ _ _ (by omega), Below.heap_alloc _ _ _ (by omega), Below.heap_alloc _ _ _ (by omega), Below.heap_alloc _ _ _ hb]
  · exact alloc_keep (alloc_keep (alloc_keep (alloc_keep (alloc_keep (alloc_keep (blk_new X a0) _) _) _) _) _) _
  · exact alloc_keep (alloc_keep (alloc_keep (alloc_keep (alloc_keep (blk_at s1) _) _) _) _) _
  · exact alloc_keep (alloc_keep (alloc_keep (alloc_keep (blk_at s2) _) _) _) _
  · exact alloc_keep (alloc_keep (alloc_keep (blk_at s3) _) _) _
  · exact alloc_keep (alloc_keep (blk_at s4) _) _
  · exact alloc_keep (blk_at s5) _
  · exact blk_at s6

set_option maxRecDepth 10000 in
set_option maxHeartbeats 8000000 in
theorem middle_any (w : World) : Calls Tryz.prog 14 #[] w fun e w' => ∃ x, e = .returned x ∧ PRep w' midO x ∧ Below w.heap.size w w' := by
  go_enter Tryz.func14, Tryz.ntmps14
  go_wp2_with fail; refine (named_any _ _).mono ?_; rintro e w1 ⟨rfl, hb1⟩; have p1 := below_keep hb1 (blk_new w (.cells #[.string ⟨#[]⟩, .int .i64 0, .string ⟨#[]⟩, .slice none 0 0, .slice none 0 0, .slice none 0 0, .slice none 0 0] 29 (0, 0))); have P1 : Hid (w1.heap[w.heap.size]? = some _) := p1; have HB1 : Hid (Below w.heap.size w w1) := below_join (below_more (Below.refl _ w) _) hb1; have z1 := lt_of_block p1; clear hb1 p1; go_wp2_with fail; (refine (ofP_any (fun b => b ≠ w.heap.size) 4 mP _ _ (fun b hb => by simp at hb; omega) (Rep.leaf (by decide))).mono ?_); rintro e w2 ⟨xn, rfl, hn, hb2⟩; obtain ⟨sn, cn, rfl⟩ := slice_shape hn; (have HN : Hid (Rep w2 (fun b => b ≠ w.heap.size) mN _) := hn); have HB2 : Hid (Below w.heap.size w w2) := below_join (below_more HB1.out _) hb2; have P2 : Hid (w2.heap[w.heap.size]? = some _) := below_keep hb2 (alloc_keep P1.out _); have Q1 : Hid (w2.heap[w1.heap.size]? = some (.cells #[.int .i64 1, .string ⟨#[112]⟩, .slice none 0 0] 24 (0, 0))) := below_keep hb2 (blk_new w1 _); have z2 := lt_of_block Q1.out; obtain ⟨a0, a1, a2, -⟩ := blk3 Q1.out; (have d1 : ¬ w1.heap.size = w2.heap.size := by omega); clear hb2 hn; go_wp2_with fail; (refine (bothP_any (fun b => b ≠ w.heap.size) 6 mP mN _ _ _ (fun b hb => by simp at hb; omega) (Rep.leaf (by decide)) (HN.out.up' (below_more (Below.refl _ w2) _))).mono ?_); rintro e w3 ⟨xo, rfl, ho, hb3⟩; obtain ⟨so, co, rfl⟩ := slice_shape ho; (have HO : Hid (Rep w3 (fun b => b ≠ w.heap.size) mO _) := ho); (have HN3 : Hid (Rep w3 (fun b => b ≠ w.heap.size) mN _) := (HN.out.up' (below_more (Below.refl _ w2) _)).up' hb3); have HB3 : Hid (Below w.heap.size w w3) := below_join (below_more HB2.out _) hb3; have P3 : Hid (w3.heap[w.heap.size]? = some _) := below_keep hb3 (alloc_keep P2.out _); have Q2 : Hid (w3.heap[w2.heap.size]? = some _) := below_keep hb3 (blk_new w2 _); have R2 : Hid (w3.heap[w1.heap.size]? = some _) := below_keep hb3 (alloc_keep Q1.out _); have z3 := lt_of_block Q2.out; have z4 := lt_of_block R2.out; have z5 := lt_of_block P3.out; clear a0 a1 a2 hb3 ho; obtain ⟨a0, a1, a2, -⟩ := blk3 R2.out; obtain ⟨b0, b1, b2, -⟩ := blk3 Q2.out; obtain ⟨j0, j1, j2, j3, j4, j5, j6⟩ := blk7 P3.out; obtain ⟨m0, m1, m2, m3, m4, m5, m6⟩ := blk7f P3.out; (have la0 : w.heap.size < w3.heap.size := by omega); (have na0 : ¬ w.heap.size = w3.heap.size := by omega); (have la1 : w.heap.size < w3.heap.size + 1 := by omega); (have na1 : ¬ w.heap.size = w3.heap.size + 1 := by omega); (have la2 : w.heap.size < w3.heap.size + 1 + 1 := by omega); (have na2 : ¬ w.heap.size = w3.heap.size + 1 + 1 := by omega); (have la3 : w.heap.size < w3.heap.size + 1 + 1 + 1 := by omega); (have na3 : ¬ w.heap.size = w3.heap.size + 1 + 1 + 1 := by omega); (have la4 : w.heap.size < w3.heap.size + 1 + 1 + 1 + 1 := by omega); (have na4 : ¬ w.heap.size = w3.heap.size + 1 + 1 + 1 + 1 := by omega); (have la5 : w.heap.size < w3.heap.size + 1 + 1 + 1 + 1 + 1 := by omega); (have na5 : ¬ w.heap.size = w3.heap.size + 1 + 1 + 1 + 1 + 1 := by omega); (have la6 : w.heap.size < w3.heap.size + 1 + 1 + 1 + 1 + 1 + 1 := by omega); (have na6 : ¬ w.heap.size = w3.heap.size + 1 + 1 + 1 + 1 + 1 + 1 := by omega); (have la7 : w.heap.size < w3.heap.size + 1 + 1 + 1 + 1 + 1 + 1 + 1 := by omega); (have na7 : ¬ w.heap.size = w3.heap.size + 1 + 1 + 1 + 1 + 1 + 1 + 1 := by omega); (have lb0 : w1.heap.size < w3.heap.size := by omega); (have nb0 : ¬ w1.heap.size = w3.heap.size := by omega); (have lb1 : w1.heap.size < w3.heap.size + 1 := by omega); (have nb1 : ¬ w1.heap.size = w3.heap.size + 1 := by omega); (have lb2 : w1.heap.size < w3.heap.size + 1 + 1 := by omega); (have nb2 : ¬ w1.heap.size = w3.heap.size + 1 + 1 := by omega); (have lb3 : w1.heap.size < w3.heap.size + 1 + 1 + 1 := by omega); (have nb3 : ¬ w1.heap.size = w3.heap.size + 1 + 1 + 1 := by omega); (have lb4 : w1.heap.size < w3.heap.size + 1 + 1 + 1 + 1 := by omega); (have nb4 : ¬ w1.heap.size = w3.heap.size + 1 + 1 + 1 + 1 := by omega); (have lb5 : w1.heap.size < w3.heap.size + 1 + 1 + 1 + 1 + 1 := by omega); (have nb5 : ¬ w1.heap.size = w3.heap.size + 1 + 1 + 1 + 1 + 1 := by omega); (have lb6 : w1.heap.size < w3.heap.size + 1 + 1 + 1 + 1 + 1 + 1 := by omega)
  (have nb6 : ¬ w1.heap.size = w3.heap.size + 1 + 1 + 1 + 1 + 1 + 1 := by omega); (have lb7 : w1.heap.size < w3.heap.size + 1 + 1 + 1 + 1 + 1 + 1 + 1 := by omega); (have nb7 : ¬ w1.heap.size = w3.heap.size + 1 + 1 + 1 + 1 + 1 + 1 + 1 := by omega); (have lc0 : w2.heap.size < w3.heap.size := by omega); (have nc0 : ¬ w2.heap.size = w3.heap.size := by omega); (have lc1 : w2.heap.size < w3.heap.size + 1 := by omega); (have nc1 : ¬ w2.heap.size = w3.heap.size + 1 := by omega); (have lc2 : w2.heap.size < w3.heap.size + 1 + 1 := by omega); (have nc2 : ¬ w2.heap.size = w3.heap.size + 1 + 1 := by omega); (have lc3 : w2.heap.size < w3.heap.size + 1 + 1 + 1 := by omega); (have nc3 : ¬ w2.heap.size = w3.heap.size + 1 + 1 + 1 := by omega); (have lc4 : w2.heap.size < w3.heap.size + 1 + 1 + 1 + 1 := by omega); (have nc4 : ¬ w2.heap.size = w3.heap.size + 1 + 1 + 1 + 1 := by omega); (have lc5 : w2.heap.size < w3.heap.size + 1 + 1 + 1 + 1 + 1 := by omega); (have nc5 : ¬ w2.heap.size = w3.heap.size + 1 + 1 + 1 + 1 + 1 := by omega); (have lc6 : w2.heap.size < w3.heap.size + 1 + 1 + 1 + 1 + 1 + 1 := by omega); (have nc6 : ¬ w2.heap.size = w3.heap.size + 1 + 1 + 1 + 1 + 1 + 1 := by omega); (have lc7 : w2.heap.size < w3.heap.size + 1 + 1 + 1 + 1 + 1 + 1 + 1 := by omega); (have nc7 : ¬ w2.heap.size = w3.heap.size + 1 + 1 + 1 + 1 + 1 + 1 + 1 := by omega); (have ld1 : w3.heap.size < w3.heap.size + 1 := by omega); (have nd1 : ¬ w3.heap.size = w3.heap.size + 1 := by omega); (have ld2 : w3.heap.size < w3.heap.size + 1 + 1 := by omega); (have nd2 : ¬ w3.heap.size = w3.heap.size + 1 + 1 := by omega); (have ld3 : w3.heap.size < w3.heap.size + 1 + 1 + 1 := by omega); (have nd3 : ¬ w3.heap.size = w3.heap.size + 1 + 1 + 1 := by omega); (have ld4 : w3.heap.size < w3.heap.size + 1 + 1 + 1 + 1 := by omega); (have nd4 : ¬ w3.heap.size = w3.heap.size + 1 + 1 + 1 + 1 := by omega); (have ld5 : w3.heap.size < w3.heap.size + 1 + 1 + 1 + 1 + 1 := by omega); (have nd5 : ¬ w3.heap.size = w3.heap.size + 1 + 1 + 1 + 1 + 1 := by omega); (have ld6 : w3.heap.size < w3.heap.size + 1 + 1 + 1 + 1 + 1 + 1 := by omega); (have nd6 : ¬ w3.heap.size = w3.heap.size + 1 + 1 + 1 + 1 + 1 + 1 := by omega); (have ld7 : w3.heap.size < w3.heap.size + 1 + 1 + 1 + 1 + 1 + 1 + 1 := by omega); (have nd7 : ¬ w3.heap.size = w3.heap.size + 1 + 1 + 1 + 1 + 1 + 1 + 1 := by omega); go_wp2_with fail; obtain ⟨X, hX⟩ : ∃ X, X = put7 w3 w.heap.size (.string ⟨#[111, 114, 45, 114]⟩) (.int .i64 6) (.string ⟨#[]⟩) (.slice so 2 co) (.slice none 0 0) (.slice (some ⟨w3.heap.size + 1, 0, none⟩) 1 1) (.slice (some ⟨w3.heap.size + 1 + 1 + 1 + 1 + 1 + 1, 0, none⟩) 1 1) := ⟨_, rfl⟩; (have hXs : X.heap.size = w3.heap.size := by rw [hX]; simp [put7, World.setCell]); (have hXp : X.heap[w.heap.size]? = some (.cells #[.string ⟨#[111, 114, 45, 114]⟩, .int .i64 6, .string ⟨#[]⟩, .slice so 2 co, .slice none 0 0, .slice (some ⟨w3.heap.size + 1, 0, none⟩) 1 1, .slice (some ⟨w3.heap.size + 1 + 1 + 1 + 1 + 1 + 1, 0, none⟩) 1 1] 29 (0, 0)) := by rw [hX]; exact put7_blk P3.out _ _ _ _ _ _ _); (have hXo : ∀ b, b ≠ w.heap.size → X.heap[b]? = w3.heap[b]? := fun b hb => by rw [hX]; exact put7_other hb _ _ _ _ _ _ _); (have hXb : Below w.heap.size w X := by rw [hX]; exact put7_below HB3.out (Nat.le_refl _) _ _ _ _ _ _ _); show bodyPost _ _ _ _ _ (((((((((put7 w3 w.heap.size _ _ _ _ _ _ _).alloc _).alloc _).alloc _).alloc _).alloc _).alloc _).alloc _)); rw [← hX]; obtain ⟨g0, f0, f1, f2, f3, f4, f5, f6⟩ := seven X (.cells #[.int .i64 6, .string ⟨#[]⟩, .slice so 2 co] 24 (0, 0)) (.cells #[.int .i64 6, .string ⟨#[]⟩, .slice so 2 co] 24 (0, 0)) (.cells #[.int .i64 1, .string ⟨#[112]⟩, .slice none 0 0, .int .i64 4, .string ⟨#[]⟩, .slice sn 1 cn] 24 (0, 0)) (.cells #[.int .i64 1, .string ⟨#[112]⟩, .slice none 0 0] 24 (0, 0)) (.cells #[.int .i64 1, .string ⟨#[112]⟩, .slice none 0 0] 24 (0, 0)) (.cells #[.string ⟨#[97, 120]⟩, .int .i64 1, .string ⟨#[112]⟩, .slice none 0 0, .slice (some ⟨w3.heap.size + 1 + 1 + 1, 0, none⟩) 1 1, .slice (some ⟨w3.heap.size + 1 + 1 + 1 + 1, 0, none⟩) 1 1, .slice none 0 0] 29 (0, 0)) (.cells #[.string ⟨#[110, 111, 116, 45, 114]⟩, .int .i64 4, .string ⟨#[]⟩, .slice sn 1 cn, .slice none 0 0, .slice (some ⟨w3.heap.size + 1 + 1, 0, none⟩) 2 2, .slice (some ⟨w3.heap.size + 1 + 1 + 1 + 1 + 1, 0, none⟩) 1 1] 29 (0, 0))
  have hBF := below_more (below_more (below_more (below_more (below_more (below_more (below_more hXb (.cells #[.int .i64 6, .string ⟨#[]⟩, .slice so 2 co] 24 (0, 0))) (.cells #[.int .i64 6, .string ⟨#[]⟩, .slice so 2 co] 24 (0, 0))) (.cells #[.int .i64 1, .string ⟨#[112]⟩, .slice none 0 0, .int .i64 4, .string ⟨#[]⟩, .slice sn 1 cn] 24 (0, 0))) (.cells #[.int .i64 1, .string ⟨#[112]⟩, .slice none 0 0] 24 (0, 0))) (.cells #[.int .i64 1, .string ⟨#[112]⟩, .slice none 0 0] 24 (0, 0))) (.cells #[.string ⟨#[97, 120]⟩, .int .i64 1, .string ⟨#[112]⟩, .slice none 0 0, .slice (some ⟨w3.heap.size + 1 + 1 + 1, 0, none⟩) 1 1, .slice (some ⟨w3.heap.size + 1 + 1 + 1 + 1, 0, none⟩) 1 1, .slice none 0 0] 29 (0, 0))) (.cells #[.string ⟨#[110, 111, 116, 45, 114]⟩, .int .i64 4, .string ⟨#[]⟩, .slice sn 1 cn, .slice none 0 0, .slice (some ⟨w3.heap.size + 1 + 1, 0, none⟩) 2 2, .slice (some ⟨w3.heap.size + 1 + 1 + 1 + 1 + 1, 0, none⟩) 1 1] 29 (0, 0)); generalize World.alloc _ _ = F at *; rw [hXs] at f0 f1 f2 f3 f4 f5 f6 g0; have hp := (g0 w.heap.size z5).trans hXp; (have mvO := HO.out.move (w' := F) (ok' := fun _ => True) fun b hb ho => ⟨(g0 b hb).trans (hXo b ho), trivial⟩); (have mvN := HN3.out.move (w' := F) (ok' := fun _ => True) fun b hb ho => ⟨(g0 b hb).trans (hXo b ho), trivial⟩); (have rP : Rep F (fun _ => True) mP (.agg #[.int .i64 1, .string ⟨#[112]⟩, .slice none 0 0]) := Rep.leaf (by decide)); (have pA : PRep F midA (.agg #[.string ⟨#[97, 120]⟩, .int .i64 1, .string ⟨#[112]⟩, .slice none 0 0, .slice (some ⟨w3.heap.size + 1 + 1 + 1, 0, none⟩) 1 1, .slice (some ⟨w3.heap.size + 1 + 1 + 1 + 1, 0, none⟩) 1 1, .slice none 0 0]) := PRep.def.2 ⟨_, _, _, _, _, none, 0, rfl, by decide, rP, FL.sing f3 rP, FL.sing f4 rP, Nat.le_refl _, by simp, fun h => absurd rfl h⟩); (have pN : PRep F midN (.agg #[.string ⟨#[110, 111, 116, 45, 114]⟩, .int .i64 4, .string ⟨#[]⟩, .slice sn 1 cn, .slice none 0 0, .slice (some ⟨w3.heap.size + 1 + 1, 0, none⟩) 2 2, .slice (some ⟨w3.heap.size + 1 + 1 + 1 + 1 + 1, 0, none⟩) 1 1]) := PRep.def.2 ⟨_, _, _, _, _, _, 1, rfl, by decide, mvN, FL.none, FL.duo f2 rP mvN, Nat.le_refl _, by simp [maxLen], fun _ => ⟨_, 0, rfl, PReps.cons.2 ⟨⟨_, _, _, _, _, _, _, blk_cell f5 0, blk_cell f5 1, blk_cell f5 2, blk_cell f5 3, blk_cell f5 4, blk_cell f5 5, blk_cell f5 6, pA⟩, PReps.nil⟩⟩⟩); (have pO : PRep F midO (.agg #[.string ⟨#[111, 114, 45, 114]⟩, .int .i64 6, .string ⟨#[]⟩, .slice so 2 co, .slice none 0 0, .slice (some ⟨w3.heap.size + 1, 0, none⟩) 1 1, .slice (some ⟨w3.heap.size + 1 + 1 + 1 + 1 + 1 + 1, 0, none⟩) 1 1]) := PRep.def.2 ⟨_, _, _, _, _, _, 1, rfl, by decide, mvO, FL.none, FL.sing f1 mvO, Nat.le_refl _, by simp [maxLen], fun _ => ⟨_, 0, rfl, PReps.cons.2 ⟨⟨_, _, _, _, _, _, _, blk_cell f6 0, blk_cell f6 1, blk_cell f6 2, blk_cell f6 3, blk_cell f6 4, blk_cell f6 5, blk_cell f6 6, pN⟩, PReps.nil⟩⟩⟩); have HPO : Hid (PRep F midO _) := pO; obtain ⟨y0, y1, y2, y3, y4, y5, y6⟩ := blk7 hp; (exact bodyPost_ret (v := .agg #[.string ⟨#[111, 114, 45, 114]⟩, .int .i64 6, .string ⟨#[]⟩, .slice so 2 co, .slice none 0 0, .slice (some ⟨w3.heap.size + 1, 0, none⟩) 1 1, .slice (some ⟨w3.heap.size + 1 + 1 + 1 + 1 + 1 + 1, 0, none⟩) 1 1]) (by simp [results, Tryz.results14, go_sem, y0, y1, y2, y3, y4, y5, y6]) rfl ⟨_, rfl, HPO.out, hBF⟩)
end Go.Proofs.YtpmogojpdigbmabGreat
/- Walks: calculusBegun. -/
namespace Go.Proofs.YtpmogojpdigbmabGreat
open Go.RowKit
theorem mid_no : (look false midO 1 0 0).1 = (0, 0) := by decide +kernel
theorem mid_yes : (look true midO 1 0 0).1 = (4, 0) := by decide +kernel
theorem mid_small : SmallP midO := SmallP.mk (by decide) (by decide) (by decide) fun k hk => by
  simp only [List.mem_cons, List.not_mem_nil, or_false] at hk; subst hk; (refine SmallP.mk (by decide) (by decide) (by decide) fun k hk => ?_); simp only [List.mem_cons, List.not_mem_nil, or_false] at hk; subst hk; (exact SmallP.mk (by decide) (by decide) (by decide) fun k hk => by cases hk)

set_option maxRecDepth 10000 in
set_option maxHeartbeats 4000000 in
theorem calculusBegun_any (w : World) : Calls Tryz.prog 4 #[] w fun e w' => e = .returned (.bool true) ∧ Below w.heap.size w w' := by
  (have hc1 := fun v (w : World) h => pcheck_any false midO mid_small v w h); (have hc2 := fun v (w : World) h => pcheck_any true midO mid_small v w h); simp only [mid_no, mid_yes] at hc1 hc2; (have HC1 : Hid (∀ v w, PRep w midO v → Calls Tryz.prog 7 #[v, .bool false] w fun e w' => e = .returned (.agg #[.int .i64 0, .int .i64 0]) ∧ Below w.heap.size w w') := hc1); (have HC2 : Hid (∀ v w, PRep w midO v → Calls Tryz.prog 7 #[v, .bool true] w fun e w' => e = .returned (.agg #[.int .i64 4, .int .i64 0]) ∧ Below w.heap.size w w') := hc2); clear hc1 hc2
  go_enter Tryz.func4, Tryz.ntmps4
  go_wp2_with fail; refine (middle_any w).mono ?_; rintro e w1 ⟨x, rfl, hx, hb1⟩; have HX : Hid (PRep w1 midO x) := hx; clear hx; go_wp2_with fail; refine (HC1.out _ _ HX.out).mono ?_; rintro e w2 ⟨rfl, hb2⟩; have B2 := below_join hb1 hb2; clear hb1 hb2; go_wp2_with fail; refine (middle_any _).mono ?_; rintro e w3 ⟨y, rfl, hy, hb3⟩; have HY : Hid (PRep w3 midO y) := hy; have B3 := below_join (below_more B2 _) hb3; have Q3 : Hid (w3.heap[w2.heap.size]? = some _) := below_keep hb3 (blk_new w2 _); clear hy hb3; go_wp2_with fail; refine (HC2.out _ _ HY.out).mono ?_; rintro e w4 ⟨rfl, hb4⟩; have B4 := below_join B3 hb4; have Q4 : Hid (w4.heap[w2.heap.size]? = some _) := below_keep hb4 Q3.out; have z4 := lt_of_block Q4.out; obtain ⟨a0, a1, -⟩ := blk2 Q4.out; (have d1 : ¬ w2.heap.size = w4.heap.size := by omega); (have d2 : ¬ w4.heap.size = w2.heap.size := by omega); clear hb4; go_wp2_with fail; have hp0 := blk_new w4 (.cells #[.int .i64 4, .int .i64 0] 34 (0, 0)); obtain ⟨b0, b1, -⟩ := blk2 hp0; obtain ⟨c0, c1, -⟩ := blk2 (alloc_keep Q4.out (.cells #[.int .i64 4, .int .i64 0] 34 (0, 0)))
  go_region_held3 (fun w' => w'.cell? ⟨w2.heap.size, 0, none⟩ = some (.int .i64 0) ∧ w'.cell? ⟨w4.heap.size, 0, none⟩ = some (.int .i64 4) ∧ w'.cell? ⟨w4.heap.size, 1, none⟩ = some (.int .i64 0)) (go_keep)
    (first
     | (go_at_call 15
        refine (mkF_any 4 0 _).mono ?_; rintro e w5 ⟨rfl, hb5⟩; have B5 := below_join (below_more B4 _).drew hb5; obtain ⟨e0, e1, -⟩ := blk2 (below_keep hb5 (show ((w4.alloc (.cells #[.int .i64 4, .int .i64 0] 34 (0, 0))).drew).heap[w4.heap.size]? = _ from hp0)); obtain ⟨f0, f1, -⟩ := blk2 (below_keep hb5 (show ((w4.alloc (.cells #[.int .i64 4, .int .i64 0] 34 (0, 0))).drew).heap[w2.heap.size]? = _ from alloc_keep Q4.out _))
        clear hb5)
     | fail)
  all_goals
    go_wp2_with fail; go_ret; exact ⟨rfl, B5⟩
end Go.Proofs.YtpmogojpdigbmabGreat
/- A proof that came in, as data. -/
namespace Go.Proofs.YtpmogojpdigbmabGreat
open Go.RowKit

theorem cellsPf : Tryz.prog.cellsOf 29 = 7 := by kernel_rfl
theorem cellsSq : Tryz.prog.cellsOf 26 = 2 := by kernel_rfl
theorem cellsPs : Tryz.prog.cellsOf 27 = 1 := by kernel_rfl

section
variable {H : Type} {enc : TypeId × Value → H} {W : World} {spare : Nat → Bool} {held : Bool}

set_option maxRecDepth 100000 in
theorem fl_of_trod (fuel : Nat) (cs : List Value) (x : DataW H × List MemPlace) (h : DataW.trod enc Tryz.prog W 0 spare held fuel 22 cs = some x) : ∃ v l, cs = [v] ∧ FL W v l := by
  rcases DataW.trod_slice Tryz.underlying22 h with ⟨rfl, -⟩ | ⟨a, len, cap, elems, rest, m, hm, rfl, -, -, hlc, hcm, hel, hall, -⟩
  · exact ⟨_, [], rfl, none, 0, rfl, Nat.le_refl _, by simp, fun h => absurd rfl h⟩
  · obtain ⟨b, off, spot⟩ := a
    by_cases hz : len = 0
    · subst hz
      (exact ⟨_, [], rfl, _, cap, rfl, Nat.zero_le _, hcm, fun h => absurd rfl h⟩)
    · have hsp : spot = none := by
        (have hh := hall 0 (by omega)); (rw [cells24, List.getElem?_eq_getElem (by omega)] at hh); obtain ⟨cs', hcs, htr⟩ := Option.bind_eq_some_iff.1 hh; obtain ⟨-, hl3, hcell⟩ := World.cells?_some hcs; obtain ⟨d0, d1, d2, f, rfl, -⟩ := rep_of_trod m cs' _ htr; (have g0 := hcell 0 (by omega)); simp [Addr.add] at g0; simpa using World.cell?_spot g0
      subst hsp
      obtain ⟨fs, hfl, hrs⟩ := reps_of (W := W) (b := b) (off := off) (len := len) (fun i hi => by
        have hh := hall i hi; (rw [cells24, List.getElem?_eq_getElem (by omega), add_none] at hh); obtain ⟨cs', hcs, htr⟩ := Option.bind_eq_some_iff.1 hh; obtain ⟨-, hl3, hcell⟩ := World.cells?_some hcs; obtain ⟨d0, d1, d2, f, rfl, hr⟩ := rep_of_trod m cs' _ htr; (have g0 := hcell 0 (by omega)); (have g1 := hcell 1 (by omega)); (have g2 := hcell 2 (by omega)); rw [add_none] at g0 g1 g2
        exact ⟨d0, d1, d2, f, g0, g1, g2, hr⟩)
      subst hfl; (exact ⟨_, fs, rfl, _, cap, rfl, hlc, hcm, fun _ => ⟨b, off, rfl, hrs⟩⟩)

theorem preps_of {b off len : Nat} (rd : ∀ i, i < len → ∃ c0 c1 c2 c3 c4 c5 c6 p, W.cell? ⟨b, off + i * 7, none⟩ = some c0 ∧ W.cell? ⟨b, off + i * 7 + 1, none⟩ = some c1 ∧ W.cell? ⟨b, off + i * 7 + 2, none⟩ = some c2 ∧ W.cell? ⟨b, off + i * 7 + 3, none⟩ = some c3 ∧ W.cell? ⟨b, off + i * 7 + 4, none⟩ = some c4 ∧ W.cell? ⟨b, off + i * 7 + 5, none⟩ = some c5 ∧ W.cell? ⟨b, off + i * 7 + 6, none⟩ = some c6 ∧ PRep W p (.agg #[c0, c1, c2, c3, c4, c5, c6])) :
    ∃ ps : List Pf, ps.length = len ∧ PReps W b off ps := by
  induction len generalizing off with
  | zero => exact ⟨[], rfl, PReps.nil⟩
  | succ len ih =>
    (obtain ⟨c0, c1, c2, c3, c4, c5, c6, p, h0, h1, h2, h3, h4, h5, h6, hr⟩ := rd 0 (by omega))
    obtain ⟨ps, hl, hrs⟩ := ih (off := off + 7) (fun i hi => by
      (obtain ⟨d0, d1, d2, d3, d4, d5, d6, q, k0, k1, k2, k3, k4, k5, k6, kr⟩ := rd (i + 1) (by omega)); (have e : off + (i + 1) * 7 = off + 7 + i * 7 := by omega); rw [e] at k0 k1 k2 k3 k4 k5 k6
      exact ⟨d0, d1, d2, d3, d4, d5, d6, q, k0, k1, k2, k3, k4, k5, k6, kr⟩)
    (exact ⟨p :: ps, by simp [hl], PReps.cons.2 ⟨⟨c0, c1, c2, c3, c4, c5, c6, by simpa using h0, by simpa using h1, by simpa using h2, by simpa using h3, by simpa using h4, by simpa using h5, by simpa using h6, hr⟩, hrs⟩⟩)

set_option maxRecDepth 100000 in
theorem prep_of_trod : ∀ (fuel : Nat) (cs : List Value) (x : DataW H × List MemPlace), DataW.trod enc Tryz.prog W 0 spare held fuel 29 cs = some x →
    ∃ c0 c1 c2 c3 c4 c5 c6 p, cs = [c0, c1, c2, c3, c4, c5, c6] ∧ PRep W p (.agg #[c0, c1, c2, c3, c4, c5, c6]) := by
  intro fuel
  induction fuel using Nat.strongRecOn with
  | _ fuel ih =>
    intro cs x h; obtain ⟨xs, n, hfu, -, hl, hlen, hf⟩ := DataW.trod_struct Tryz.underlying29 h; rw [cellsPf] at hl
    match cs, hl with
    | [c0, c1, c2, c3, c4, c5, c6], _ =>
      have h0 := hf 0 _ rfl; have h1 := hf 1 _ rfl; have h2 := hf 2 _ rfl; have h3 := hf 3 _ rfl; simp at hlen
      match xs, hlen with
      | [y0, y1, y2, y3], _ =>
        simp [cells24, cells9, cellsSq, cellsPs] at h0 h1 h2 h3; obtain ⟨s, e0, -, hs⟩ := DataW.trod_string Tryz.underlying9 h0; simp at e0; subst e0; obtain ⟨f0, f1, f2, f, hfe, hfr⟩ := rep_of_trod _ _ _ h1; simp at hfe; obtain ⟨rfl, rfl, rfl⟩ := hfe; obtain ⟨zs, n2, hfu2, -, hl2, hlen2, hf2⟩ := DataW.trod_struct Tryz.underlying26 h2; have g0 := hf2 0 _ rfl; have g1 := hf2 1 _ rfl; simp at hlen2
        match zs, hlen2 with
        | [z0, z1], _ =>
          simp [cells22] at g0 g1; obtain ⟨vl, l, hle, hlf⟩ := fl_of_trod _ _ _ g0; obtain ⟨vr, r, hre, hrf⟩ := fl_of_trod _ _ _ g1; simp at hle hre; subst hle hre
          rcases DataW.trod_slice Tryz.underlying27 h3 with ⟨e2, -⟩ | ⟨a, len, cap, elems, rest, m, hm, e2, -, -, hlc, hcm, hel, hall, -⟩
          · simp at e2
            subst e2; (exact ⟨_, _, _, _, _, _, _, .mk s f l r [], rfl, PRep.def.2 ⟨_, _, _, _, _, none, 0, rfl, hs, hfr, hlf, hrf, Nat.le_refl _, by simp, fun h => absurd rfl h⟩⟩)
          · simp at e2
            subst e2; obtain ⟨b, off, spot⟩ := a; by_cases hz : len = 0
            · subst hz
              (exact ⟨_, _, _, _, _, _, _, .mk s f l r [], rfl, PRep.def.2 ⟨_, _, _, _, _, _, cap, rfl, hs, hfr, hlf, hrf, Nat.zero_le _, hcm, fun h => absurd rfl h⟩⟩)
            · have hsp : spot = none := by
                (have hh := hall 0 (by omega)); (rw [cellsPf, List.getElem?_eq_getElem (by omega)] at hh); obtain ⟨cs', hcs, htr⟩ := Option.bind_eq_some_iff.1 hh; obtain ⟨-, hl3, hcell⟩ := World.cells?_some hcs; (obtain ⟨d0, d1, d2, d3, d4, d5, d6, q, rfl, -⟩ := ih m (by omega) cs' _ htr); (have k0 := hcell 0 (by omega)); simp [Addr.add] at k0; simpa using World.cell?_spot k0
              subst hsp
              obtain ⟨ps, hpl, hps⟩ := preps_of (W := W) (b := b) (off := off) (len := len) (fun i hi => by
                have hh := hall i hi; (rw [cellsPf, List.getElem?_eq_getElem (by omega), add_none] at hh); obtain ⟨cs', hcs, htr⟩ := Option.bind_eq_some_iff.1 hh; obtain ⟨-, hl3, hcell⟩ := World.cells?_some hcs; (obtain ⟨d0, d1, d2, d3, d4, d5, d6, q, rfl, hr⟩ := ih m (by omega) cs' _ htr); (have k0 := hcell 0 (by omega)); (have k1 := hcell 1 (by omega)); (have k2 := hcell 2 (by omega)); (have k3 := hcell 3 (by omega)); (have k4 := hcell 4 (by omega)); (have k5 := hcell 5 (by omega)); (have k6 := hcell 6 (by omega)); rw [add_none] at k0 k1 k2 k3 k4 k5 k6
                exact ⟨d0, d1, d2, d3, d4, d5, d6, q, k0, k1, k2, k3, k4, k5, k6, hr⟩)
              subst hpl; (exact ⟨_, _, _, _, _, _, _, .mk s f l r ps, rfl, PRep.def.2 ⟨_, _, _, _, _, _, cap, rfl, hs, hfr, hlf, hrf, hlc, hcm, fun _ => ⟨b, off, rfl, hps⟩⟩⟩)
end
end Go.Proofs.YtpmogojpdigbmabGreat
/- A proof with a formula more at the left of each step: plain. -/
namespace Go.Proofs.YtpmogojpdigbmabGreat
open Go.RowKit

mutual
def Pf.deep : Pf → Nat
  | .mk _ _ _ _ ks => Pf.deeps ks + 1
def Pf.deeps : List Pf → Nat
  | [] => 0
  | k :: ks => max k.deep (Pf.deeps ks)
end

mutual
theorem look_size (i : Bool) : ∀ (p : Pf) (d s c : Nat), (look i p d s c).1.1 = 0 → (look i p d s c).2.1 = s + p.size ∧ d + p.deep ≤ 401
  | .mk a g l r ks, d, s, c, h => by
    rw [look_def] at h ⊢
    split at h
    · cases h
    · rename_i h1
      rw [if_neg h1]
      split at h
      · rename_i h2
        exact absurd h h2
      · rename_i h2
        rw [if_neg h2]; obtain ⟨h3, h4⟩ := looks_size i ks _ _ _ h; rw [h3, Pf.size, Pf.deep]; omega
theorem looks_size (i : Bool) : ∀ (ks : List Pf) (d s c : Nat), (looks i ks d s c).1.1 = 0 → (looks i ks d s c).2.1 = s + Pf.sizes ks ∧ (d ≤ 401 → d + Pf.deeps ks ≤ 401)
  | [], d, s, c, h => by rw [looks, Pf.sizes, Pf.deeps]; exact ⟨by simp, fun h => by omega⟩
  | k :: ks, d, s, c, h => by
    rw [looks] at h ⊢
    split at h
    · rename_i hn
      exact absurd h hn
    · rename_i hn
      (have hn' : (look i k d s c).1.1 = 0 := Classical.byContradiction fun e => hn e); rw [if_neg hn]; obtain ⟨h1, h2⟩ := look_size i k d s c hn'; obtain ⟨h3, h4⟩ := looks_size i ks _ _ _ h; rw [h3, h1, Pf.sizes, Pf.deeps]; (exact ⟨by omega, fun hd => by have := h4 hd; omega⟩)
end
end Go.Proofs.YtpmogojpdigbmabGreat
/- Walks: a copy of a list of formulas. -/
namespace Go.Proofs.YtpmogojpdigbmabGreat
open Go.RowKit

theorem KO.fl {B : Nat} {w : World} {ad : Option Addr} {cap : Nat} {ks : List Fm} (h : KO B w ad cap ks) : FLp (B ≤ ·) w (.slice ad ks.length cap) ks := by
  (obtain ⟨sl', cap', hv, -, h1, h2, h3⟩ := Rep.def.1 (h.rep 0 ⟨#[]⟩ (by simp [maxLen, ByteArray.size]))); simp only [Value.agg.injEq, Array.mk.injEq, List.cons.injEq, Value.slice.injEq, true_and, and_true] at hv; obtain ⟨rfl, rfl⟩ := hv; exact ⟨ad, cap, rfl, h1, h2, h3⟩

set_option maxHeartbeats 4000000 in
theorem ownList_any (fs : List Fm) (hl : fs.length ≤ 300) (hslim : ∀ f ∈ fs, Slim f) (v : Value) (w : World) (hv : FL w v fs) :
    Calls Tryz.prog 31 #[v] w fun e w' => ∃ ad cp, e = .returned (.slice ad fs.length cp) ∧ KO w.heap.size w' ad cp fs ∧ Below w.heap.size w w' := by
  obtain ⟨adv, cap, rfl, hx1, hx2, hx3⟩ := hv; (have HX : Hid (fs ≠ [] → ∃ b off, adv = some ⟨b, off, none⟩ ∧ Reps w (fun _ => True) b off fs) := hx3); have HSl : Hid (∀ f ∈ fs, Slim f) := hslim; obtain ⟨i0, hi, hz0, hz1, hz2⟩ := infoFormula; (have hlI : (fs.length : Int) ≤ 300 := by omega); clear hx3 hslim
  go_enter Tryz.func31, Tryz.ntmps31
  go_wp2_with fail
  go_loopg [3, 4] fs.length (fun g u c wr => ∃ i ad cp, i ≤ fs.length ∧ g = fs.length - i ∧ c = .int .i64 (i : Nat) ∧ u = .slice ad i cp ∧ Below w.heap.size w wr ∧ Hid (KO w.heap.size wr ad cp (fs.take i)))
  case atStart => exact ⟨0, none, 0, by omega, by omega, rfl, rfl, Below.refl _ w, KO.nil⟩
  case round =>
    obtain ⟨i, ad, cp, hile, hg, rfl, rfl, hbr, HK⟩ := hrel; have HG : Hid (gk = fs.length - i) := hg; clear hg; have zz := hbr.size; by_cases hlt : i < fs.length
    · obtain ⟨⟨k2, n2, ks2⟩, hki⟩ : ∃ f, fs[i]? = some f := ⟨_, List.getElem?_eq_getElem hlt⟩
      (have hltI : (i : Int) < (fs.length : Int) := by omega); (obtain ⟨b, off, hsl, hrs⟩ := HX.out (fun e => by rw [e] at hlt; simp at hlt)); subst hsl; obtain ⟨sl2, cap2, g0, g1, g2, hrep2⟩ := (hrs.up hbr).at i k2 n2 ks2 hki; (have hlc : ((i : Nat) : Int) < ((cap : Nat) : Int) := by omega); have HIH : Hid (Calls Tryz.prog 17 #[.agg #[.int .i64 k2, .string n2, .slice sl2 ks2.length cap2]] wr _) := own_any _ _ wr (HSl.out _ (List.mem_of_getElem? hki)) hrep2
      have HT : Hid (fs.take (i + 1) = fs.take i ++ [.mk k2 n2 ks2]) := by
        show _ = _; rw [List.take_add_one, hki]; rfl
      (have hti : (fs.take i).length = i := by rw [List.length_take]; omega); have HTI : Hid ((fs.take i).length = i) := hti
      have HOB : Hid (∀ b, wr.heap.size ≤ b → w.heap.size ≤ b ∧ (Value.slice ad i cp).ownBlock ≠ some b) := fun b hb => by
        obtain ⟨cs, ho, -⟩ := HK.out; rw [hti] at ho; (exact ⟨by omega, fun e => by have := (ho.lt b e).2; omega⟩)
      clear hki hrs HX hrep2 hti
      go_wp2_with (first
        | (go_at_call 17
           refine HIH.out.mono ?_; rintro e w1 ⟨u, rfl, hrep3, hb1⟩; obtain ⟨sl3, cap3, rfl⟩ := slice_shape hrep3; have HR3 : Hid (Rep w1 (wr.heap.size ≤ ·) (.mk k2 n2 ks2) _) := hrep3; have zw1 := hb1.size
           clear hrep3)
        | (at_builtin
           obtain ⟨cs, hown, hlq⟩ := (HK.out.up hb1).up ((Below.refl _ w1).alloc (Nat.le_refl _) (.cells #[.int .i64 k2, .string n2, .slice sl3 ks2.length cap3] 24 (0, 0))); rw [HTI.out] at hown hlq; (refine wpList_append_lies _ rfl _ _ 22 rfl w.heap.size 24 i0 (.agg #[.int .i64 0, .string ⟨#[]⟩, .slice none 0 0]) 3 48 Tryz.underlying22 hi hz0 hz1 hz2 rfl (by decide) _ _ _ rfl hown ⟨w1.heap.size, 0, none⟩ 1 1 [.int .i64 k2, .string n2, .slice sl3 ks2.length cap3] rfl rfl ?_ ?_ (by omega) (by unfold maxLen; omega) (by omega) (by simp; omega) _ rfl ?_)
           · intro j u hu
             rw [add_none, Nat.zero_add, blk_cell (blk_new w1 _)]; simpa using hu
           · intro u hu
             simp at hu
             rcases hu with rfl | rfl | rfl <;> rfl
           intro g3 cp3 w3 hown3 hgrow hat hlt3; have hgrow' : (w1.alloc (.cells #[.int .i64 k2, .string n2, .slice sl3 ks2.length cap3] 24 (0, 0))).grownBy w3 (Value.slice ad i cp).ownBlock := hgrow; have hat' : (Value.slice ad i cp).ownBlock = some g3 ∨ g3 = (w1.alloc (.cells #[.int .i64 k2, .string n2, .slice sl3 ks2.length cap3] 24 (0, 0))).heap.size := hat; clear hgrow hat; (obtain ⟨hbB, hko⟩ := KO.app HTI.out (by omega) hown hlq (HR3.out.move fun b hb1 hb2 => ⟨rfl, (HOB.out b hb2).1, (HOB.out b hb2).2⟩) hown3 hgrow' hat'); have HKO : Hid (KO w.heap.size w3 (some ⟨g3, 0, none⟩) cp3 (fs.take i ++ [.mk k2 n2 ks2])) := hko
           clear hgrow' hat' hown3 hown hlq hko)
        | fail)
      go_roundg (fs.length - (i + 1))
      case measure => have := HG.out; omega
      case rel =>
        (refine ⟨i + 1, some ⟨g3, 0, none⟩, cp3, by omega, rfl, by go_num, rfl, (hbr.trans (hb1.mono zz)).trans hbB, ?_⟩); show KO _ _ _ _ _; rw [HT.out]; exact HKO.out
    · obtain rfl : i = fs.length := by omega
      have HKE : Hid (KO w.heap.size wr ad cp fs) := by
        have := HK.out; rw [List.take_length] at this; exact this
      (have hge : ¬ (fs.length : Int) < (fs.length : Int) := by omega); clear HK HX; go_wp2_with fail; go_ret; exact ⟨ad, cp, rfl, HKE.out, hbr⟩
end Go.Proofs.YtpmogojpdigbmabGreat
