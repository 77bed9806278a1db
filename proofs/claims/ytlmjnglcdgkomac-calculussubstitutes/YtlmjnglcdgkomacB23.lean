/- Texts of one proof, one behind the other: CB6. -/
import Derived.Test.YtlmjnglcdgkomacB21
import Derived.Deep.RegionLaw
import Derived.Lib.SliceRun
/- Walks: slices.Delete of one formula; bag.IsWithin, bag.IsEqual. -/
namespace Go.Proofs.Ytlmjnglcdgkomac
open Go.RowKit

theorem setCells_block (g : Nat) (T : TypeId) : ∀ (vs : List Value) (o : Nat) (w : World) (cur : Array Value), w.heap[g]? = some (.cells cur T (0, 0)) → o + vs.length ≤ cur.size →
    ∃ cur', (w.setCells g o vs).heap[g]? = some (.cells cur' T (0, 0)) ∧ cur'.size = cur.size ∧ cur'.toList = cur.toList.take o ++ vs ++ cur.toList.drop (o + vs.length)
  | [], o, w, cur, h, _ => ⟨cur, h, rfl, by simp⟩
  | v :: vs, o, w, cur, h, hl => by
    (have hlt : o < cur.size := by simp at hl; omega)
    have h1 : (w.setCell ⟨g, o, none⟩ v).heap[g]? = some (.cells (cur.setIfInBounds o v) T (0, 0)) := by
      simp [World.setCell, Array.getElem?_modify, h]
    (obtain ⟨cur', h2, h3, h4⟩ := setCells_block g T vs (o + 1) _ _ h1 (by simp at hl ⊢; omega)); (refine ⟨cur', h2, by simpa using h3, ?_⟩); rw [h4, Array.toList_setIfInBounds]; (have hl2 : o < cur.toList.length := by simpa using hlt); (rw [List.take_set, List.drop_set_of_lt (by omega)]); (rw [List.take_succ_eq_append_getElem hl2, List.set_append_right _ _ (by simp; omega)]); simp [Nat.min_eq_left (Nat.le_of_lt hlt), Nat.add_assoc, Nat.add_comm 1]

theorem setCells_other (g : Nat) : ∀ (vs : List Value) (o : Nat) (w : World) (i : Nat), i ≠ g → (w.setCells g o vs).heap[i]? = w.heap[i]?
  | [], _, _, _, _ => rfl
  | v :: vs, o, w, i, h => by
    show ((w.setCell ⟨g, o, none⟩ v).setCells g (o + 1) vs).heap[i]? = _; rw [setCells_other g vs (o + 1) _ i h, Below.heap_setCell _ _ _ _ h]
theorem setCells_rest (g : Nat) : ∀ (vs : List Value) (o : Nat) (w : World), (w.setCells g o vs).os = w.os ∧ (w.setCells g o vs).tape = w.tape ∧ (w.setCells g o vs).output = w.output ∧ (w.setCells g o vs).heap.size = w.heap.size
  | [], _, _ => ⟨rfl, rfl, rfl, rfl⟩
  | v :: vs, o, w => by
    obtain ⟨h1, h2, h3, h4⟩ := setCells_rest g vs (o + 1) (w.setCell ⟨g, o, none⟩ v); (exact ⟨h1, h2, h3, h4.trans (by simp [World.setCell])⟩)

theorem run_clear_one (w : World) (ty : TypeId) (b o c : Nat) (hc : ∀ j, j < 3 → (w.cell? ⟨b, o + j, none⟩).isSome = true) (hf : ∀ j, j < 3 → w.frozen? ⟨b, o + j, none⟩ = false) :
    (Builtin.clear_ #[22] ty #[.slice (some ⟨b, o, none⟩) 1 c]).run Try.prog w = .ok (.tuple #[]) (w.setCells b o [.int .i64 0, .string ⟨#[]⟩, .slice none 0 0]) := by
  (have hst := run_storeCells_cells (P := Try.prog) b o [.int .i64 0, .string ⟨#[]⟩, .slice none 0 0] 0 w (by simpa using hc) (by simpa using hf) (by simp [Value.oneCell'])); simp only [Nat.add_zero] at hst; (have hz : ∀ w, (zeroValue 24).run Try.prog w = .ok (.agg #[.int .i64 0, .string ⟨#[]⟩, .slice none 0 0]) w := fun w => by kernel_rfl); (have hzc : (Builtin.zeroCells (Value.agg #[.int .i64 0, .string ⟨#[]⟩, .slice none 0 0]).cells 1).toList = [.int .i64 0, .string ⟨#[]⟩, .slice none 0 0] := by kernel_rfl); simp [Builtin.clear_, run_underlying Try.underlying22, hz, hzc, hst]

theorem LQ.take {ok : Nat → Prop} {w : World} : ∀ {cs : List Value} {fs : List Fm} (i : Nat), LQ ok w cs fs → LQ ok w (cs.take (i * 3)) (fs.take i)
  | [], [], i, _ => by simp [LQ]
  | _ :: _ :: _ :: _, _ :: _, 0, _ => by simp [LQ]
  | c0 :: c1 :: c2 :: cs, f :: fs, i + 1, h => by
    (rw [show (i + 1) * 3 = i * 3 + 1 + 1 + 1 by omega]); simp only [List.take_succ_cons]; exact ⟨h.1, LQ.take i h.2⟩
theorem LQ.drop {ok : Nat → Prop} {w : World} : ∀ {cs : List Value} {fs : List Fm} (i : Nat), LQ ok w cs fs → LQ ok w (cs.drop (i * 3)) (fs.drop i)
  | [], [], i, _ => by simp [LQ]
  | _ :: _ :: _ :: _, _ :: _, 0, h => by simpa using h
  | c0 :: c1 :: c2 :: cs, f :: fs, i + 1, h => by
    (rw [show (i + 1) * 3 = i * 3 + 1 + 1 + 1 by omega]); simp only [List.drop_succ_cons]; exact LQ.drop i h.2

/-- What the deletion leaves. -/
theorem delete_leaves {B g cp i : Nat} {w : World} {fs : List Fm} {cs : List Value} {cur : Array Value} (hi : i < fs.length) (hcp : fs.length ≤ cp) (hB : B ≤ g) (hcm : cp ≤ maxLen) (hg : w.heap[g]? = some (.cells cur 24 (0, 0))) (hcs : cur.size = cp * 3) (ht : cur.toList.take (fs.length * 3) = cs) (hq : LQ (fun b => True ∧ g ≠ b) w cs fs) :
    KP (fun _ => True) B ((w.drew.setCells g (i * 3) (cs.drop ((i + 1) * 3))).setCells g ((fs.length - 1) * 3) [.int .i64 0, .string ⟨#[]⟩, .slice none 0 0]) (some ⟨g, 0, none⟩) cp (fs.eraseIdx i) ∧ w.grownBy ((w.drew.setCells g (i * 3) (cs.drop ((i + 1) * 3))).setCells g ((fs.length - 1) * 3) [.int .i64 0, .string ⟨#[]⟩, .slice none 0 0]) (some g) := by
  have hlen := hq.len; (have hk : (cs.drop ((i + 1) * 3)).length = (fs.length - (i + 1)) * 3 := by rw [List.length_drop, hlen]; omega); (obtain ⟨c1, h1, h2, h3⟩ := setCells_block g 24 (cs.drop ((i + 1) * 3)) (i * 3) w.drew cur hg (by rw [hk]; omega)); (obtain ⟨c2, h4, h5, h6⟩ := setCells_block g 24 [.int .i64 0, .string ⟨#[]⟩, .slice none 0 0] ((fs.length - 1) * 3) _ c1 h1 (by simp; omega))
  have hoth : ∀ b, b ≠ g → ((w.drew.setCells g (i * 3) (cs.drop ((i + 1) * 3))).setCells g ((fs.length - 1) * 3) [.int .i64 0, .string ⟨#[]⟩, .slice none 0 0]).heap[b]? = w.heap[b]? := fun b hb => by
    rw [setCells_other g _ _ _ b hb, setCells_other g _ _ _ b hb]; rfl
  obtain ⟨a1, a2, a3, a4⟩ := setCells_rest g [.int .i64 0, .string ⟨#[]⟩, .slice none 0 0] ((fs.length - 1) * 3) (w.drew.setCells g (i * 3) (cs.drop ((i + 1) * 3))); obtain ⟨b1, b2, b3, b4⟩ := setCells_rest g (cs.drop ((i + 1) * 3)) (i * 3) w.drew; (refine ⟨⟨cs.take (i * 3) ++ cs.drop ((i + 1) * 3), ⟨?_, Or.inr ⟨g, cp, c2, ?_, hB, h4, ?_, hcm, ?_, ?_⟩⟩, ?_⟩, ⟨a1.trans b1, a2.trans b2, a3.trans b3, Nat.le_of_eq (a4.trans b4).symm, fun b _ hb => hoth b (fun e => hb (by rw [e]))⟩⟩)
  · rw [List.length_append, List.length_take, hk, hlen, List.length_eraseIdx_of_lt hi]; omega
  · rfl
  · rw [List.length_eraseIdx_of_lt hi]; omega
  · omega
  · rw [h6, List.length_eraseIdx_of_lt hi, List.append_assoc, List.take_append_of_le_length (by simp; omega), List.take_take, Nat.min_self, h3]
    (have hct : cur.toList.take (i * 3) = cs.take (i * 3) := by rw [← ht, List.take_take, Nat.min_eq_left (by omega)]); (rw [hct, List.take_append_of_le_length (by rw [List.length_append, List.length_take, hk, hlen]; omega), List.take_of_length_le (by rw [List.length_append, List.length_take, hk, hlen]; omega)])
  · rw [List.eraseIdx_eq_take_drop_succ]
    (exact ((hq.take i).append (hq.drop (i + 1))).move fun b _ hb => ⟨hoth b (fun e => hb.2 e.symm), trivial, fun e => hb.2 (by simpa [Value.ownBlock] using e)⟩)

set_option maxRecDepth 10000 in
set_option maxHeartbeats 4000000 in
theorem delete_any (B g cp i : Nat) (fs : List Fm) (hl : fs.length ≤ 1000) (hi : i < fs.length) (w : World) (h : KP (fun _ => True) B w (some ⟨g, 0, none⟩) cp fs) :
    Calls Try.prog 76 #[.slice (some ⟨g, 0, none⟩) fs.length cp, .int .i64 (i : Nat), .int .i64 ((i : Nat) + 1)] w fun e w' => e = .returned (.slice (some ⟨g, 0, none⟩) (fs.length - 1) cp) ∧ KP (fun _ => True) B w' (some ⟨g, 0, none⟩) cp (fs.eraseIdx i) ∧ w.grownBy w' (some g) := by
  obtain ⟨cs, ⟨hcl, hown⟩, hq⟩ := h
  rcases hown with ⟨hv, -⟩ | ⟨g', cap', cur, hv, hB, hg, hncap, hcm, hcsz, htk⟩
  · cases hv
  simp only [Value.slice.injEq, Option.some.injEq, Addr.mk.injEq, and_true, true_and] at hv; obtain ⟨rfl, rfl⟩ := hv; (have hq' : LQ (fun b => True ∧ g ≠ b) w cs fs := hq.move fun b _ hb => ⟨rfl, trivial, fun e => hb.2 (by simp [Value.ownBlock, e])⟩); have hL := delete_leaves hi hncap hB hcm hg hcsz htk hq'; have HL : Hid (KP _ _ _ _ _ _ ∧ World.grownBy _ _ _) := hL; have hlen := hq.len; obtain ⟨news, hnews⟩ : ∃ news, news = cs.drop ((i + 1) * 3) := ⟨_, rfl⟩; (have hnl : news.length = (fs.length - (i + 1)) * 3 := by rw [hnews, List.length_drop, hlen]; omega); obtain ⟨n, hn⟩ : ∃ n, n = fs.length := ⟨_, rfl⟩; have hone : ∀ u ∈ cs, u.oneCell' = true := hq.one
  have hcell : ∀ o, o < cp * 3 → (w.cell? ⟨g, o, none⟩).isSome = true := fun o ho => by
    (rw [blk_cell hg, Array.getElem?_eq_getElem (by omega)]; rfl)
  (have hfz : ∀ o, w.frozen? ⟨g, o, none⟩ = false := fun o => blk_fz hg o)
  have hget : ∀ (t : Nat) (u : Value), news[t]? = some u → w.cell? ⟨g, (i + 1) * 3 + t, none⟩ = some u := fun t u hu => by
    rw [blk_cell hg, ← Array.getElem?_toList]; rw [hnews, List.getElem?_drop, ← htk, List.getElem?_take] at hu
    split at hu
    · exact hu
    · cases hu
  obtain ⟨i0, hi0, -, hz1, -⟩ := infoFormula; obtain ⟨j, hj⟩ : ∃ j, j = i + 1 := ⟨_, rfl⟩; (have hjI : (i : Int) + 1 = (j : Int) := by omega); have HJ : Hid (j = i + 1) := hj; rw [hjI]; clear hj; by_cases hce : cp = j
  · subst hce
    (have s1 : Hid (news.length = (fs.length - cp) * 3) := by rw [HJ.out]; exact hnl); (have s2 : Hid (∀ u ∈ news, u.oneCell' = true) := fun u hu => hone u (by rw [hnews] at hu; exact List.mem_of_mem_drop hu)); (have s3 : Hid (∀ t, t < news.length → (w.drew.cell? ⟨g, 0 + i * 3 + t, none⟩).isSome = true ∧ w.drew.frozen? ⟨g, 0 + i * 3 + t, none⟩ = false) := fun t ht => ⟨hcell _ (by omega), hfz _⟩)
    have hsrc : Hid (∀ t u, news[t]? = some u → w.drew.cell? ((⟨g, 0, none⟩ : Addr).add t) = some u) := fun t u hu => by
      (have : news.length = 0 := by rw [hnl]; have := HJ.out; omega); rw [List.length_eq_zero_iff.1 this] at hu; simp at hu
    obtain ⟨W1, hW1⟩ : ∃ W1, W1 = w.drew.setCells g (0 + i * 3) news := ⟨_, rfl⟩
    have hcl1 : ∀ ty, (Builtin.clear_ #[22] ty #[.slice (some ⟨g, (i + (fs.length - cp)) * 3, none⟩) (fs.length - (i + (fs.length - cp))) (cp - (i + (fs.length - cp)))]).run Try.prog W1 = .ok (.tuple #[]) (W1.setCells g ((fs.length - 1) * 3) [.int .i64 0, .string ⟨#[]⟩, .slice none 0 0]) := fun ty => by
      (have e1 : i + (fs.length - cp) = fs.length - 1 := by have := HJ.out; omega); (rw [e1, show fs.length - (fs.length - 1) = 1 by omega]); (refine run_clear_one W1 ty g _ _ (fun t ht => ?_) (fun t ht => ?_))
      · rw [hW1]
        (exact World.isSome_setCells g news _ _ _ (hcell _ (by omega)))
      · rw [hW1, World.frozen?_setCells]
        exact hfz _
    have HW : Hid (W1 = w.drew.setCells g (0 + i * 3) news) := hW1
    have HL2 : Hid (KP (fun _ => True) B (W1.setCells g ((fs.length - 1) * 3) [.int .i64 0, .string ⟨#[]⟩, .slice none 0 0]) (some ⟨g, 0, none⟩) cp (fs.eraseIdx i) ∧ w.grownBy (W1.setCells g ((fs.length - 1) * 3) [.int .i64 0, .string ⟨#[]⟩, .slice none 0 0]) (some g)) := by
      rw [hW1, Nat.zero_add, hnews]; exact HL.out
    obtain ⟨W2, hW2⟩ : ∃ W2, W2 = W1.setCells g ((fs.length - 1) * 3) [.int .i64 0, .string ⟨#[]⟩, .slice none 0 0] := ⟨_, rfl⟩; rw [← hW2] at hcl1 HL2; (have HE : Hid (i + (fs.length - cp) = fs.length - 1) := by have := HJ.out; show _ = _; omega); (have b1 : (0 : Int) ≤ (i : Int) := by omega); (have b2 : (i : Int) ≤ (cp : Int) := by omega); (have b3 : (0 : Int) ≤ (cp : Int) := by omega); (have b4 : (cp : Int) ≤ (fs.length : Int) := by omega); (have b5 : (i : Int) ≤ (cp : Int) := by omega); (have b6 : (fs.length : Int) ≤ (cp : Int) := by omega); (have b7 : (cp : Int) ≤ 9223372036854775807 := by unfold maxLen at hcm; omega); (have b8 : i ≤ cp := by omega); (have b11 : i + (fs.length - cp) ≤ cp := by omega); (have b12 : ((i + (fs.length - cp) : Nat) : Int) ≤ (fs.length : Int) := by omega); (have b13 : ¬ cp = i + (fs.length - cp) := by omega); (have b14 : i + (fs.length - cp) ≤ fs.length := by omega); (have b15 : ¬ i = cp := by have := HJ.out; omega); (have b16 : ¬ (i : Int) = (cp : Int) := by have := HJ.out; omega); clear hW1 hW2 hcell hfz hget hnews hnl hlen hone HL hi hn hq hq' hcl htk hcsz hg hL hncap hcm hl hjI
    go_enter Try.func76, Try.ntmps76
    go_wp2_with fail
    go_region_law (first | (refine step_append_room rfl (.tmp 22) (.tmp 25) 22 rfl 24 i0 3 Try.underlying22 hi0 hz1 g 0 i cp (by simp [Act.eval, Act.put]) ⟨g, 0, none⟩ (fs.length - cp) (cp - cp) news (by simp [Act.eval, Act.put]) s1.out hsrc.out s2.out (by omega) s3.out ?_; rw [← HW.out]) | fail)
    go_wp2_with fail; go_ret; (exact ⟨by rw [HE.out]; rfl, HL2.out⟩)
  · have hce' : ¬ cp = j := hce
    (have s1 : Hid (news.length = (fs.length - j) * 3) := by rw [HJ.out]; exact hnl); (have s2 : Hid (∀ u ∈ news, u.oneCell' = true) := fun u hu => hone u (by rw [hnews] at hu; exact List.mem_of_mem_drop hu)); (have s3 : Hid (∀ t, t < news.length → (w.drew.cell? ⟨g, 0 + i * 3 + t, none⟩).isSome = true ∧ w.drew.frozen? ⟨g, 0 + i * 3 + t, none⟩ = false) := fun t ht => ⟨hcell _ (by omega), hfz _⟩)
    have hsrc : Hid (∀ t u, news[t]? = some u → w.drew.cell? ((⟨g, j * 3, none⟩ : Addr).add t) = some u) := fun t u hu => by
      rw [add_none, HJ.out]; exact hget t u hu
    obtain ⟨W1, hW1⟩ : ∃ W1, W1 = w.drew.setCells g (0 + i * 3) news := ⟨_, rfl⟩
    have hcl1 : ∀ ty, (Builtin.clear_ #[22] ty #[.slice (some ⟨g, (i + (fs.length - j)) * 3, none⟩) (fs.length - (i + (fs.length - j))) (cp - (i + (fs.length - j)))]).run Try.prog W1 = .ok (.tuple #[]) (W1.setCells g ((fs.length - 1) * 3) [.int .i64 0, .string ⟨#[]⟩, .slice none 0 0]) := fun ty => by
      (have e1 : i + (fs.length - j) = fs.length - 1 := by have := HJ.out; omega); (rw [e1, show fs.length - (fs.length - 1) = 1 by omega]); (refine run_clear_one W1 ty g _ _ (fun t ht => ?_) (fun t ht => ?_))
      · rw [hW1]
        (exact World.isSome_setCells g news _ _ _ (hcell _ (by omega)))
      · rw [hW1, World.frozen?_setCells]
        exact hfz _
    have HW : Hid (W1 = w.drew.setCells g (0 + i * 3) news) := hW1
    have HL2 : Hid (KP (fun _ => True) B (W1.setCells g ((fs.length - 1) * 3) [.int .i64 0, .string ⟨#[]⟩, .slice none 0 0]) (some ⟨g, 0, none⟩) cp (fs.eraseIdx i) ∧ w.grownBy (W1.setCells g ((fs.length - 1) * 3) [.int .i64 0, .string ⟨#[]⟩, .slice none 0 0]) (some g)) := by
      rw [hW1, Nat.zero_add, hnews]; exact HL.out
    obtain ⟨W2, hW2⟩ : ∃ W2, W2 = W1.setCells g ((fs.length - 1) * 3) [.int .i64 0, .string ⟨#[]⟩, .slice none 0 0] := ⟨_, rfl⟩; rw [← hW2] at hcl1 HL2; (have HE : Hid (i + (fs.length - j) = fs.length - 1) := by have := HJ.out; show _ = _; omega); (have b1 : (0 : Int) ≤ (i : Int) := by omega); (have b2 : (i : Int) ≤ (cp : Int) := by omega); (have b3 : (0 : Int) ≤ (j : Int) := by omega); (have b4 : (j : Int) ≤ (fs.length : Int) := by omega); (have b5 : (i : Int) ≤ (j : Int) := by omega); (have b6 : (fs.length : Int) ≤ (cp : Int) := by omega); (have b7 : (cp : Int) ≤ 9223372036854775807 := by unfold maxLen at hcm; omega); (have b8 : i ≤ cp := by omega); (have b9 : j ≤ cp := by omega); (have b10 : (j : Int) ≤ (cp : Int) := by omega); (have b11 : i + (fs.length - j) ≤ cp := by omega); (have b12 : ((i + (fs.length - j) : Nat) : Int) ≤ (fs.length : Int) := by omega); (have b13 : ¬ cp = i + (fs.length - j) := by omega); (have b14 : i + (fs.length - j) ≤ fs.length := by omega); (have b15 : ¬ i = j := by have := HJ.out; omega); (have b16 : ¬ (i : Int) = (j : Int) := by have := HJ.out; omega); clear hW1 hW2 hcell hfz hget hnews hnl hlen hone HL hi hn hq hq' hcl htk hcsz hg hL hncap hcm hl hjI
    go_enter Try.func76, Try.ntmps76
    go_wp2_with fail
    go_region_law (first | (refine step_append_room rfl (.tmp 22) (.tmp 25) 22 rfl 24 i0 3 Try.underlying22 hi0 hz1 g 0 i cp (by simp [Act.eval, Act.put]) ⟨g, j * 3, none⟩ (fs.length - j) (cp - j) news (by simp [Act.eval, Act.put]) s1.out hsrc.out s2.out (by omega) s3.out ?_; rw [← HW.out]) | fail)
    go_wp2_with fail; go_ret; (exact ⟨by rw [HE.out]; rfl, HL2.out⟩)
theorem within_drop {l R : List Fm} {i : Nat} {f : Fm} (h : l[i]? = some f) : within (l.drop i) R = (decide (f ∈ R) && within (l.drop (i + 1)) (R.erase f)) := by
  have hi : i < l.length := (List.getElem?_eq_some_iff.1 h).1; rw [List.drop_eq_getElem_cons hi, within]; rw [List.getElem?_eq_getElem hi] at h; rw [Option.some.inj h]

set_option maxRecDepth 10000 in
set_option maxHeartbeats 4000000 in
theorem within_any (l m : List Fm) (hm : m.length ≤ 400) (v u : Value) (w : World) (hv : FL w v l) (hu : FL w u m) :
    Calls Try.prog 69 #[v, u] w fun e w' => e = .returned (.bool (within l m)) ∧ Below w.heap.size w w' := by
  have HU : Hid (FL w u m) := hu; obtain ⟨adU, cpU, rfl, -⟩ := hu; obtain ⟨ad, cap, rfl, h1, h2, h3⟩ := hv; (have hlI : (l.length : Int) ≤ 9223372036854775807 := by unfold maxLen at h2; omega); (have H3 : Hid (l ≠ [] → ∃ b off, ad = some ⟨b, off, none⟩ ∧ Reps w (fun _ => True) b off l) := h3); clear h3
  go_enter Try.func69, Try.ntmps69
  go_wp2_with fail; (refine (cloneF_low (fun _ => True) m (by omega) _ w HU.out.flp).mono ?_); rintro e w1 ⟨ad1, cp1, rfl, hk1, hb1⟩; (have HK1 : Hid (KP (fun _ => True) w.heap.size w1 ad1 cp1 m) := hk1); clear hk1; go_wp2_with fail
  go_loopg [13, 5] l.length (fun g c o wr => ∃ i R adR cpR, i ≤ l.length ∧ g = l.length - i ∧ c = .int .i64 (i : Nat) ∧ o = .slice adR R.length cpR ∧ Below w.heap.size w wr ∧ Hid (KP (fun _ => True) w.heap.size wr adR cpR R) ∧ R.length ≤ 400 ∧ Hid (within (l.drop i) R = within l m))
  case atStart => exact ⟨0, m, ad1, cp1, by omega, by omega, rfl, rfl, hb1, HK1.out, hm, by show _ = _; simp⟩
  case round =>
    obtain ⟨i, R, adR, cpR, hi, hg, rfl, rfl, hbr, HK, hR, HN⟩ := hrel; have HG : Hid (gk = l.length - i) := hg; clear hg HK1 hb1; by_cases hlt : i < l.length
    · obtain ⟨⟨k2, n2, ks2⟩, hki⟩ : ∃ f, l[i]? = some f := ⟨_, List.getElem?_eq_getElem hlt⟩
      (obtain ⟨b, off, rfl, hrs⟩ := H3.out (fun e => by rw [e] at hlt; simp at hlt)); obtain ⟨sl2, cap2, g0, g1, g2, hrep2⟩ := (hrs.up hbr).at i k2 n2 ks2 hki; (have hltI : (i : Int) < (l.length : Int) := by omega); (have hlc : (i : Int) < (cap : Int) := by omega); have hds := HN.out; rw [within_drop hki] at hds; have HD : Hid ((decide (Fm.mk k2 n2 ks2 ∈ R) && within (l.drop (i + 1)) (R.erase (.mk k2 n2 ks2))) = within l m) := hds; (have hpl := fun v u (w : World) h h' => place_any R (.mk k2 n2 ks2) v u w h h'); have zz := hbr.size; clear hki hrs H3 hds HN; by_cases hh : hasF (.mk k2 n2 ks2) R = true
      · obtain ⟨he, hlt2⟩ := erase_at hh
        (have hat : atF (.mk k2 n2 ks2) R = (isF (.mk k2 n2 ks2) R : Nat) := by unfold atF; rw [if_pos hh]); rw [hat] at hpl
        have HE : Hid (R.erase (.mk k2 n2 ks2) = R.eraseIdx (isF (.mk k2 n2 ks2) R)) := by
          show _ = _; rw [he, List.eraseIdx_eq_take_drop_succ]
        have HT : Hid (within (l.drop (i + 1)) (R.erase (.mk k2 n2 ks2)) = within l m) := by
          have := HD.out; rw [decide_eq_true ((hasF_mem _ _).1 hh), Bool.true_and] at this; exact this
        clear hat he hh HD; generalize isF (.mk k2 n2 ks2) R = at0 at *; (have HP : Hid (∀ v u w, FL w v R → Rep w (fun _ => True) (.mk k2 n2 ks2) u → Calls Try.prog 75 #[v, u] w _) := hpl); (have ha0 : (0 : Int) ≤ (at0 : Int) := by omega); (have haI : (at0 : Int) < (R.length : Int) := by omega); (have hRI : (R.length : Int) ≤ 400 := by omega)
        obtain ⟨gR, rfl⟩ : ∃ gR, adR = some ⟨gR, 0, none⟩ := by
          obtain ⟨cs, ⟨-, hown⟩, -⟩ := HK.out
          rcases hown with ⟨hv, h0⟩ | ⟨g', cap', cur, hv, -⟩
          · rw [h0] at hlt2; exact absurd hlt2 (Nat.not_lt_zero _)
          · simp only [Value.slice.injEq] at hv
            exact ⟨g', hv.1⟩
        clear hpl; go_wp2_with fail; (refine (HP.out _ _ _ (KP.list (HK.out.up (below_more (Below.refl _ _) _)) fun _ _ => trivial) (hrep2.more _)).mono ?_); rintro e w2 ⟨rfl, hb2⟩; have B2 := below_join (below_more hbr _) hb2; (have HK2 : Hid (KP (fun _ => True) w.heap.size w2 (some ⟨gR, 0, none⟩) cpR R) := (HK.out.up (below_more (Below.refl _ _) _)).up hb2); clear g0 g1 g2 hb2 HK; go_wp2_with fail; (refine (delete_any w.heap.size gR cpR at0 R (by omega) hlt2 w2 HK2.out).mono ?_); rintro e w3 ⟨rfl, hk3, hg3⟩
        have hgR : w.heap.size ≤ gR := by
          obtain ⟨cs, hown, -⟩ := HK2.out; exact (hown.lt gR rfl).1
        (have B3 : Below w.heap.size w w3 := ⟨hg3.os.trans B2.os, hg3.tape.trans B2.tape, hg3.output.trans B2.output, Nat.le_trans B2.size hg3.size, fun j hj => (hg3.block j (by have := B2.size; omega) (fun e => by have := Option.some.inj e; omega)).trans (B2.block j hj)⟩); (have HK3 : Hid (KP (fun _ => True) w.heap.size w3 (some ⟨gR, 0, none⟩) cpR (R.eraseIdx at0)) := hk3); clear hk3 hg3; go_wp2_with fail; have hle : (R.eraseIdx at0).length = R.length - 1 := List.length_eraseIdx_of_lt hlt2
        go_roundg (l.length - (i + 1))
        case measure => have := HG.out; omega
        case rel => exact ⟨i + 1, R.eraseIdx at0, some ⟨gR, 0, none⟩, cpR, by omega, rfl, by go_num, by rw [hle], B3, HK3, by omega, by rw [← HE.out]; exact HT.out⟩
      · have hat : atF (.mk k2 n2 ks2) R = -1 := by unfold atF; rw [if_neg hh]
        rw [hat] at hpl; (have HP : Hid (∀ v u w, FL w v R → Rep w (fun _ => True) (.mk k2 n2 ks2) u → Calls Try.prog 75 #[v, u] w _) := hpl)
        have HT : Hid (within l m = false) := by
          have := HD.out; (rw [decide_eq_false (fun h => hh ((hasF_mem _ _).2 h)), Bool.false_and] at this); exact this.symm
        clear hat hh HD hpl; go_wp2_with fail; (refine (HP.out _ _ _ (KP.list (HK.out.up (below_more (Below.refl _ _) _)) fun _ _ => trivial) (hrep2.more _)).mono ?_); rintro e w2 ⟨rfl, hb2⟩; have B2 := below_join (below_more hbr _) hb2; clear g0 g1 g2 hb2; go_wp2_with fail; go_ret; (exact ⟨by rw [HT.out]; rfl, B2⟩)
    · have HT : Hid (within l m = true) := by
        have := HN.out; (rw [List.drop_of_length_le (by omega), within] at this); exact this.symm
      (have hge : ¬ (i : Int) < (l.length : Int) := by omega); clear H3 HN; go_wp2_with fail; go_ret; (exact ⟨by rw [HT.out]; rfl, hbr⟩)

set_option maxHeartbeats 4000000 in
theorem isEq_any (l m : List Fm) (hm : m.length ≤ 400) (v u : Value) (w : World) (hv : FL w v l) (hu : FL w u m) :
    Calls Try.prog 72 #[v, u] w fun e w' => e = .returned (.bool (isEq l m)) ∧ Below w.heap.size w w' := by
  have hw := within_any l m hm v u w hv hu; unfold isEq; have HW : Hid (Calls Try.prog 69 #[v, u] w _) := hw; generalize within l m = bb at *; obtain ⟨ad, cp, rfl, -⟩ := hv; obtain ⟨ad', cp', rfl, -⟩ := hu; clear hw; by_cases hl : l.length = m.length
  · rw [decide_eq_true hl, Bool.true_and]
    rw [hl] at HW ⊢; clear hl
    go_enter Try.func72, Try.ntmps72
    go_wp2_with (first
      | (go_at_call 69
         refine HW.out.mono ?_
         rintro e w1 ⟨rfl, hb1⟩)
      | fail)
    go_ret; exact ⟨rfl, hb1⟩
  · rw [decide_eq_false hl, Bool.false_and]
    (have hlJ : ((l.length : Int) == (m.length : Int)) = false := by simp; omega); clear HW
    go_enter Try.func72, Try.ntmps72
    go_wp2_with fail; go_ret; exact ⟨rfl, Below.refl _ _⟩
end Go.Proofs.Ytlmjnglcdgkomac
