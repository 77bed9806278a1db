/- Texts of one proof, one behind the other: BL5, BLC. -/
import Derived.Test.YtffkoiemnchdgaeB40
import Derived.Test.YtffkoiemnchdgaeB38
import Derived.Test.YtffkoiemnchdgaeB25
import Derived.Test.YtffkoiemnchdgaeB41
import Derived.Test.YtffkoiemnchdgaeB13
import Derived.Test.YtffkoiemnchdgaeB11
/- Walks: betweenBegun. -/
namespace Go.Proofs.Ytffkoiemnchdgae
open Go.RowKit Go.Sort

def fR : Fm := .mk 1 ⟨#[114]⟩ []
def fPandQ : Fm := .mk 5 ⟨#[]⟩ [fP, fQ]
def fPorR : Fm := .mk 6 ⟨#[]⟩ [fP, fR]
/-- What stands between the two. -/
def DB : Fm := projF fPandQ (nmsU fPorR)
theorem made_pcode {l : List (List UInt8)} {s : Nat} {f : Fm} (h : MadeF l s f) (hs : s ≤ 200) : f.pcode.1 = 0 := by
  (rw [pcode_of (chk_fine f 0 h.fine (by have := h.size; omega)) h.plain])
theorem madePQ : MadeF [[112], [113], [114]] 3 fPandQ := made_two (Or.inl rfl) ((made_var (n := [112]) (by decide)).mono (fun t h => by simp at h; simp [h]) (Nat.le_refl _)) ((made_var (n := [113]) (by decide)).mono (fun t h => by simp at h; simp [h]) (Nat.le_refl _))
theorem madePR : MadeF [[112], [113], [114]] 3 fPorR := made_two (Or.inr (Or.inl rfl)) ((made_var (n := [112]) (by decide)).mono (fun t h => by simp at h; simp [h]) (Nat.le_refl _)) ((made_var (n := [114]) (by decide)).mono (fun t h => by simp at h; simp [h]) (Nat.le_refl _))
theorem tPQ : nmsT fPandQ = [[112], [113]] := by decide +kernel
theorem tPR : nmsT fPorR = [[112], [114]] := by decide +kernel
theorem uPQ : nmsU fPandQ = [[112], [113]] := rising_ext (nmsU_rising _) (by decide) fun t => by rw [nmsU_mem, tPQ]
theorem uPR : nmsU fPorR = [[112], [114]] := rising_ext (nmsU_rising _) (by decide) fun t => by rw [nmsU_mem, tPR]
theorem fPQR : nmsF [fPandQ, fPorR] = [[112], [113], [114]] := rising_ext (nmsF_rising _) (by decide) fun t => by
  rw [nmsF_mem]; simp only [List.mem_cons, List.not_mem_nil, or_false, exists_eq_or_imp, exists_eq_left, tPQ, tPR]
  constructor
  · rintro ((h | h) | (h | h)) <;> simp [h]
  · rintro (h | h | h) <;> simp [h]
theorem begun_tg : (tgcode [fPandQ, fPorR]).1 = 0 := by
  unfold tgcode
  rw [pfirst_ok _ (fun f hf => by
    simp only [List.mem_cons, List.not_mem_nil, or_false] at hf
    rcases hf with rfl | rfl
    · exact made_pcode madePQ (by omega)
    · exact made_pcode madePR (by omega)), if_pos rfl, fPQR]
  rfl
theorem begun_some : someL (fun l => tvL fPandQ l && !tvL fPorR l) (nmsF [fPandQ, fPorR]) [] = false := by
  rw [fPQR]; decide +kernel
theorem begun_eq : DB = fP := by
  unfold DB projF; rw [uPQ, uPR]; rfl
theorem begun_made : MadeF [[112]] 1 DB := by rw [begun_eq]; exact made_var (n := [112]) (by decide)
theorem begun_t1 : tv (fun t => decide (t ∈ ([[112]] : List (List UInt8)))) DB = true := by rw [begun_eq]; decide +kernel
theorem begun_t0 : tv (fun t => decide (t ∈ ([] : List (List UInt8)))) DB = false := by rw [begun_eq]; decide +kernel
set_option maxRecDepth 10000 in
set_option maxHeartbeats 8000000 in
theorem betweenBegun_any (w : World) : Calls Try.prog 12 #[] w fun e w' => e = .returned (.bool true) ∧ Below w.heap.size w w' := by
  (have HN1 : Hid (∀ W, Calls Try.prog 38 #[.string ⟨#[112]⟩] W _) := fun W => named_any ⟨#[112]⟩ W); (have HN2 : Hid (∀ W, Calls Try.prog 38 #[.string ⟨#[113]⟩] W _) := fun W => named_any ⟨#[113]⟩ W); (have HN3 : Hid (∀ W, Calls Try.prog 38 #[.string ⟨#[114]⟩] W _) := fun W => named_any ⟨#[114]⟩ W)
  go_enter Try.func12, Try.ntmps12
  go_wp2_with fail; refine (HN1.out _).mono ?_; rintro e w1 ⟨rfl, hb1⟩; go_wp2_with fail; refine (HN2.out _).mono ?_; rintro e w2 ⟨rfl, hb2⟩; go_wp2_with fail; refine (HN3.out _).mono ?_; rintro e wz ⟨rfl, hb3⟩; have HB2 : Hid (Below w.heap.size w wz) := below_join (below_join hb1 hb2) hb3; clear hb1 hb2 hb3 HN1 HN2 HN3; go_wp2_with fail; obtain ⟨p1, p2, p3, psz, PB⟩ := chain3 wz (.cells #[.int .i64 1, .string ⟨#[112]⟩, .slice none 0 0] 24 (0, 0)) (.cells #[.int .i64 1, .string ⟨#[113]⟩, .slice none 0 0] 24 (0, 0)) (.cells #[.int .i64 1, .string ⟨#[114]⟩, .slice none 0 0] 24 (0, 0)); obtain ⟨W, hW⟩ : ∃ W, W = ((wz.alloc (.cells #[.int .i64 1, .string ⟨#[112]⟩, .slice none 0 0] 24 (0, 0))).alloc (.cells #[.int .i64 1, .string ⟨#[113]⟩, .slice none 0 0] 24 (0, 0))).alloc (.cells #[.int .i64 1, .string ⟨#[114]⟩, .slice none 0 0] 24 (0, 0)) := ⟨_, rfl⟩; rw [← hW] at p1 p2 p3 PB ⊢; have HBW : Hid (Below w.heap.size w W) := below_join HB2.out PB; have P1 : Hid (W.heap[wz.heap.size]? = some _) := p1; have P2 : Hid (W.heap[wz.heap.size + 1]? = some _) := p2; have P3 : Hid (W.heap[wz.heap.size + 1 + 1]? = some _) := p3; clear hW HB2 p1 p2 p3 PB psz; (have HB2 : Hid (∀ W, Calls Try.prog 39 #[.int .i64 5, .agg #[.int .i64 1, .string ⟨#[112]⟩, .slice none 0 0], .agg #[.int .i64 1, .string ⟨#[113]⟩, .slice none 0 0]] W fun e w' => ∃ x, e = .returned x ∧ Rep w' (fun _ => True) fPandQ x ∧ Below W.heap.size W w') := fun W => both_any 5 fP fQ _ _ W (Rep.leaf (by simp [maxLen, ByteArray.size])) (Rep.leaf (by simp [maxLen, ByteArray.size]))); (have HB5 : Hid (∀ W, Calls Try.prog 39 #[.int .i64 6, .agg #[.int .i64 1, .string ⟨#[112]⟩, .slice none 0 0], .agg #[.int .i64 1, .string ⟨#[114]⟩, .slice none 0 0]] W fun e w' => ∃ x, e = .returned x ∧ Rep w' (fun _ => True) fPorR x ∧ Below W.heap.size W w') := fun W => both_any 6 fP fR _ _ W (Rep.leaf (by simp [maxLen, ByteArray.size])) (Rep.leaf (by simp [maxLen, ByteArray.size])))
  have HIn : Hid (∀ v u W, Rep W (fun _ => True) fPandQ v → Rep W (fun _ => True) fPorR u → Calls Try.prog 14 #[v, u] W fun e w' => (∃ x, e = .returned (.tuple #[x, .agg #[.int .i64 0, .int .i64 0]]) ∧ Rep w' (fun _ => True) DB x ∧ Below W.heap.size W w')) := fun v u W h h' => by
    refine (inter_ok fPandQ fPorR v u W h h' begun_tg begun_some).mono ?_; rintro e w' ⟨x, rfl, hx, hb⟩; exact ⟨x, rfl, hx, hb⟩
  (have HPl : Hid (∀ v u W, Rep W (fun _ => True) DB v → SL W u [[112]] → Calls Try.prog 21 #[v, u] W _) := fun v u W h h' => plainAns_any DB [[112]] [[112]] 1 begun_made (by omega) (fun t h => h) v u W h h')
  have HT1 : Hid (∀ v u W, Rep W (fun _ => True) DB v → SL W u [[112]] → Calls Try.prog 26 #[v, u] W fun e w' => e = .returned (.bool true) ∧ Below W.heap.size W w') := fun v u W h h' => by
    have := trueR_any [[112]] DB v u W begun_made.fine h h'
    rwa [begun_t1] at this
  have HT0 : Hid (∀ v u W, Rep W (fun _ => True) DB v → SL W u [] → Calls Try.prog 26 #[v, u] W fun e w' => e = .returned (.bool false) ∧ Below W.heap.size W w') := fun v u W h h' => by
    have := trueR_any [] DB v u W begun_made.fine h h'
    rwa [begun_t0] at this
  have HOf : Hid (OffOk DB) := Or.inl begun_made.fine; (refine wp_region_gh (by kernel_rfl) (by kernel_rfl) (by kernel_rfl) 37 rfl (by kernel_rfl) [fun _ v _ => v = (.agg #[.int .i64 1, .string ⟨#[112]⟩, .slice none 0 0]), fun _ v _ => v = (.agg #[.int .i64 1, .string ⟨#[113]⟩, .slice none 0 0]), gF fPandQ, fun _ v _ => v = (.agg #[.int .i64 1, .string ⟨#[112]⟩, .slice none 0 0]), fun _ v _ => v = (.agg #[.int .i64 1, .string ⟨#[114]⟩, .slice none 0 0]), gF fPorR, fun y v _ => v = .tuple #[y.x, .agg #[.int .i64 0, .int .i64 0]], fun y v _ => v = .tuple #[y.x, .agg #[.int .i64 0, .int .i64 0]], fun y v _ => v = y.x, fun y v _ => v = .agg #[.int .i64 0, .int .i64 0], fun y v _ => v = .pointer (some ⟨y.b4, 0, none⟩), fun y v _ => v = .pointer (some ⟨y.b5, 0, none⟩), fun _ _ _ => True, fun _ _ _ => True] (fun _ _ => true) (fun L => St2 W DB 0 0 (L 10) (L 11) (L 6) (L 12) (L 13)) (⟨W, 0, 0, 0, ⟨#[]⟩, [], none, 0⟩) ?_ ?_ ?_)
  · exact fun wx h h' => St2.init h h' _ rfl
  · refine ⟨?_, ?_, ?_, ?_, ?_, ?_, ?_, ?_, ?_, ?_, ?_, ?_, ?_, ?_, trivial⟩
    · intro L y a wx hSt hLi hdl hcl hold hdep K hK
      (have l4 : L 12 = false := not_yet hLi fun h => hcl 12 _ rfl h 0 rfl); (have l5 : L 13 = false := not_yet hLi fun h => hcl 13 _ rfl h 0 rfl); rw [l4, l5] at hSt; have HSt : Hid (St2 W DB 0 0 (L 10) (L 11) (L 6) false false y wx) := hSt; clear hSt; have t1 : a.tmps[1]? = some (.pointer (some ⟨wz.heap.size, 0, none⟩)) := hold 1 rfl; obtain ⟨d0, d1, d2, -⟩ := blk3 (below_keep (below_join HSt.out.below HSt.out.eqv) P1.out); clear hold hdep hdl hcl; go_simp; (exact hK.out _ _ y (by show St2 W DB 0 0 (L 10) (L 11) (L 6) (L 12) (L 13) _ _; rw [l4, l5]; exact HSt.out) rfl (fun j hj hl => ⟨rfl, fun u h => h⟩))
    · intro L y a wx hSt hLi hdl hcl hold hdep K hK
      (have l4 : L 12 = false := not_yet hLi fun h => hcl 12 _ rfl h 1 rfl); (have l5 : L 13 = false := not_yet hLi fun h => hcl 13 _ rfl h 1 rfl); rw [l4, l5] at hSt; have HSt : Hid (St2 W DB 0 0 (L 10) (L 11) (L 6) false false y wx) := hSt; clear hSt; have t2 : a.tmps[2]? = some (.pointer (some ⟨wz.heap.size + 1, 0, none⟩)) := hold 2 rfl; obtain ⟨d0, d1, d2, -⟩ := blk3 (below_keep (below_join HSt.out.below HSt.out.eqv) P2.out); clear hold hdep hdl hcl; go_simp; (exact hK.out _ _ y (by show St2 W DB 0 0 (L 10) (L 11) (L 6) (L 12) (L 13) _ _; rw [l4, l5]; exact HSt.out) rfl (fun j hj hl => ⟨rfl, fun u h => h⟩))
    · intro L y a wx hSt hLi hdl hcl hold hdep K hK
      (have l4 : L 12 = false := not_yet hLi fun h => hcl 12 _ rfl h 2 rfl); (have l5 : L 13 = false := not_yet hLi fun h => hcl 13 _ rfl h 2 rfl); rw [l4, l5] at hSt; have HSt : Hid (St2 W DB 0 0 (L 10) (L 11) (L 6) false false y wx) := hSt; clear hSt; obtain ⟨v10, t10, q10⟩ := hdep 0 rfl _ 10 rfl rfl; have e10 : v10 = (.agg #[.int .i64 1, .string ⟨#[112]⟩, .slice none 0 0]) := q10 rfl; subst e10; obtain ⟨v11, t11, q11⟩ := hdep 1 rfl _ 11 rfl rfl; have e11 : v11 = (.agg #[.int .i64 1, .string ⟨#[113]⟩, .slice none 0 0]) := q11 rfl; subst e11; clear hold hdep hdl; go_simp; refine (HB2.out wx).mono ?_; rintro e w3 ⟨u, rfl, hu, hb3⟩; obtain ⟨sl9, cap9, rfl⟩ := slice_shape hu; (refine hK.out _ _ { y with g := w3 } (by show St2 W DB 0 0 (L 10) (L 11) (L 6) (L 12) (L 13) _ _; rw [l4, l5]; exact HSt.out.up hb3) ⟨_, _, _, sl9, cap9, rfl, rfl, hu⟩ ?_); intro j hj hl
      rcases j with _ | _ | _ | _ | _ | _ | _ | _ | _ | _ | _ | _ | _ | _ | j
      · exact ⟨rfl, fun u h => h⟩
      · exact ⟨rfl, fun u h => h⟩
      · exact Bool.noConfusion (hLi.symm.trans hj)
      · exact ⟨rfl, fun u h => h⟩
      · exact ⟨rfl, fun u h => h⟩
      · exact ⟨rfl, fun u h => gF_up (w := wx) (w' := wx) (below_join HSt.out.eqv hb3) u h⟩
      · exact ⟨rfl, fun u h => h⟩
      · exact ⟨rfl, fun u h => h⟩
      · exact ⟨rfl, fun u h => h⟩
      · exact ⟨rfl, fun u h => h⟩
      · exact ⟨rfl, fun u h => h⟩
      · exact ⟨rfl, fun u h => h⟩
      · exact ⟨rfl, fun u h => h⟩
      · exact ⟨rfl, fun u h => h⟩
      · exact ⟨rfl, fun u h => h⟩
    · intro L y a wx hSt hLi hdl hcl hold hdep K hK
      (have l4 : L 12 = false := not_yet hLi fun h => hcl 12 _ rfl h 3 rfl); (have l5 : L 13 = false := not_yet hLi fun h => hcl 13 _ rfl h 3 rfl); rw [l4, l5] at hSt; have HSt : Hid (St2 W DB 0 0 (L 10) (L 11) (L 6) false false y wx) := hSt; clear hSt; have t1 : a.tmps[1]? = some (.pointer (some ⟨wz.heap.size, 0, none⟩)) := hold 1 rfl; obtain ⟨d0, d1, d2, -⟩ := blk3 (below_keep (below_join HSt.out.below HSt.out.eqv) P1.out); clear hold hdep hdl hcl; go_simp; (exact hK.out _ _ y (by show St2 W DB 0 0 (L 10) (L 11) (L 6) (L 12) (L 13) _ _; rw [l4, l5]; exact HSt.out) rfl (fun j hj hl => ⟨rfl, fun u h => h⟩))
    · intro L y a wx hSt hLi hdl hcl hold hdep K hK
      (have l4 : L 12 = false := not_yet hLi fun h => hcl 12 _ rfl h 4 rfl); (have l5 : L 13 = false := not_yet hLi fun h => hcl 13 _ rfl h 4 rfl); rw [l4, l5] at hSt; have HSt : Hid (St2 W DB 0 0 (L 10) (L 11) (L 6) false false y wx) := hSt; clear hSt; have t3 : a.tmps[3]? = some (.pointer (some ⟨wz.heap.size + 1 + 1, 0, none⟩)) := hold 3 rfl; obtain ⟨d0, d1, d2, -⟩ := blk3 (below_keep (below_join HSt.out.below HSt.out.eqv) P3.out); clear hold hdep hdl hcl; go_simp; (exact hK.out _ _ y (by show St2 W DB 0 0 (L 10) (L 11) (L 6) (L 12) (L 13) _ _; rw [l4, l5]; exact HSt.out) rfl (fun j hj hl => ⟨rfl, fun u h => h⟩))
    · intro L y a wx hSt hLi hdl hcl hold hdep K hK
      (have l4 : L 12 = false := not_yet hLi fun h => hcl 12 _ rfl h 5 rfl); (have l5 : L 13 = false := not_yet hLi fun h => hcl 13 _ rfl h 5 rfl); rw [l4, l5] at hSt; have HSt : Hid (St2 W DB 0 0 (L 10) (L 11) (L 6) false false y wx) := hSt; clear hSt; obtain ⟨v13, t13, q13⟩ := hdep 3 rfl _ 13 rfl rfl; have e13 : v13 = (.agg #[.int .i64 1, .string ⟨#[112]⟩, .slice none 0 0]) := q13 rfl; subst e13; obtain ⟨v14, t14, q14⟩ := hdep 4 rfl _ 14 rfl rfl; have e14 : v14 = (.agg #[.int .i64 1, .string ⟨#[114]⟩, .slice none 0 0]) := q14 rfl; subst e14; clear hold hdep hdl; go_simp; refine (HB5.out wx).mono ?_; rintro e w3 ⟨u, rfl, hu, hb3⟩; obtain ⟨sl9, cap9, rfl⟩ := slice_shape hu; (refine hK.out _ _ { y with g := w3 } (by show St2 W DB 0 0 (L 10) (L 11) (L 6) (L 12) (L 13) _ _; rw [l4, l5]; exact HSt.out.up hb3) ⟨_, _, _, sl9, cap9, rfl, rfl, hu⟩ ?_); intro j hj hl
      rcases j with _ | _ | _ | _ | _ | _ | _ | _ | _ | _ | _ | _ | _ | _ | j
      · exact ⟨rfl, fun u h => h⟩
      · exact ⟨rfl, fun u h => h⟩
      · exact ⟨rfl, fun u h => gF_up (w := wx) (w' := wx) (below_join HSt.out.eqv hb3) u h⟩
      · exact ⟨rfl, fun u h => h⟩
      · exact ⟨rfl, fun u h => h⟩
      · exact Bool.noConfusion (hLi.symm.trans hj)
      · exact ⟨rfl, fun u h => h⟩
      · exact ⟨rfl, fun u h => h⟩
      · exact ⟨rfl, fun u h => h⟩
      · exact ⟨rfl, fun u h => h⟩
      · exact ⟨rfl, fun u h => h⟩
      · exact ⟨rfl, fun u h => h⟩
      · exact ⟨rfl, fun u h => h⟩
      · exact ⟨rfl, fun u h => h⟩
      · exact ⟨rfl, fun u h => h⟩
    · intro L y a wx hSt hLi hdl hcl hold hdep K hK
      (have l4 : L 12 = false := not_yet hLi fun h => hcl 12 _ rfl h 6 rfl); (have l5 : L 13 = false := not_yet hLi fun h => hcl 13 _ rfl h 6 rfl); rw [l4, l5] at hSt; have HSt : Hid (St2 W DB 0 0 (L 10) (L 11) (L 6) false false y wx) := hSt; clear hSt; obtain ⟨v12, t12, q12⟩ := hdep 2 rfl _ 12 rfl rfl; obtain ⟨ka, na, ksa, sla, cpa, fa, e12, ra⟩ := q12 rfl; subst e12; (have HFa : Hid (Rep wx (fun _ => True) _ (.agg #[.int .i64 ka, .string na, .slice sla ksa.length cpa])) := ra.up HSt.out.eqv); clear ra q12; obtain ⟨v15, t15, q15⟩ := hdep 5 rfl _ 15 rfl rfl; obtain ⟨kb, nb, ksb, slb, cpb, fb, e15, rb⟩ := q15 rfl; subst e15; (have HFb : Hid (Rep wx (fun _ => True) _ (.agg #[.int .i64 kb, .string nb, .slice slb ksb.length cpb])) := rb.up HSt.out.eqv); clear rb q15; clear hold hdep hdl; go_simp; refine (HIn.out _ _ wx HFa.out HFb.out).mono ?_; rintro e w3 ⟨x, rfl, hx, hb3⟩
      rcases hE : DB with ⟨k5, n5, ks5⟩
      have hx2 := hx; rw [hE] at hx2; obtain ⟨sl5, cp5, rfl⟩ := slice_shape hx2; (refine hK.out _ _ { y with g := w3, k := k5, n := n5, ks := ks5, sl := sl5, cp := cp5 } (by show St2 W DB 0 0 (L 10) (L 11) true (L 12) (L 13) _ _; rw [l4, l5]; exact HSt.out.call hb3 hE hx) rfl ?_); intro j hj hl
      rcases j with _ | _ | _ | _ | _ | _ | _ | _ | _ | _ | _ | _ | _ | _ | j
      · exact ⟨rfl, fun u h => h⟩
      · exact ⟨rfl, fun u h => h⟩
      · exact ⟨rfl, fun u h => gF_up (w := wx) (w' := wx) (below_join HSt.out.eqv hb3) u h⟩
      · exact ⟨rfl, fun u h => h⟩
      · exact ⟨rfl, fun u h => h⟩
      · exact ⟨rfl, fun u h => gF_up (w := wx) (w' := wx) (below_join HSt.out.eqv hb3) u h⟩
      · exact Bool.noConfusion (hLi.symm.trans hj)
      · exact Bool.noConfusion (hLi.symm.trans (hcl 7 _ rfl hj 6 rfl))
      · exact Bool.noConfusion (hLi.symm.trans (hcl 7 _ rfl (hcl 8 _ rfl hj 7 rfl) 6 rfl))
      · exact Bool.noConfusion (hLi.symm.trans (hcl 7 _ rfl (hcl 9 _ rfl hj 7 rfl) 6 rfl))
      · exact ⟨rfl, fun u h => h⟩
      · exact ⟨rfl, fun u h => h⟩
      · exact Bool.noConfusion (hLi.symm.trans (hcl 12 _ rfl hj 6 rfl))
      · exact Bool.noConfusion (hLi.symm.trans (hcl 13 _ rfl hj 6 rfl))
      · exact ⟨rfl, fun u h => h⟩
    · intro L y a wx hSt hLi hdl hcl hold hdep K hK
      (have l4 : L 12 = false := not_yet hLi fun h => hcl 12 _ rfl h 7 rfl); (have l5 : L 13 = false := not_yet hLi fun h => hcl 13 _ rfl h 7 rfl); rw [l4, l5] at hSt; have HSt : Hid (St2 W DB 0 0 (L 10) (L 11) (L 6) false false y wx) := hSt; clear hSt; obtain ⟨v16, t16, q16⟩ := hdep 6 rfl _ 16 rfl rfl; have e16 : v16 = (.tuple #[y.x, .agg #[.int .i64 0, .int .i64 0]]) := q16 rfl; subst e16; clear hold hdep hdl hcl; go_simp; (exact hK.out _ _ y (by show St2 W DB 0 0 (L 10) (L 11) (L 6) (L 12) (L 13) _ _; rw [l4, l5]; exact HSt.out) rfl (fun j hj hl => ⟨rfl, fun u h => h⟩))
    · intro L y a wx hSt hLi hdl hcl hold hdep K hK
      have HSt : Hid (St2 W DB 0 0 (L 10) (L 11) (L 6) (L 12) (L 13) y wx) := hSt; clear hSt; obtain ⟨v9, t9, q9⟩ := hdep 7 rfl _ 9 rfl rfl; have e9 : v9 = (.tuple #[y.x, .agg #[.int .i64 0, .int .i64 0]]) := q9 rfl; subst e9; clear hold hdep hdl hcl; go_simp; (exact hK.out _ _ y HSt.out rfl (fun j hj hl => ⟨rfl, fun u h => h⟩))
    · intro L y a wx hSt hLi hdl hcl hold hdep K hK
      have HSt : Hid (St2 W DB 0 0 (L 10) (L 11) (L 6) (L 12) (L 13) y wx) := hSt; clear hSt; obtain ⟨v9, t9, q9⟩ := hdep 7 rfl _ 9 rfl rfl; have e9 : v9 = (.tuple #[y.x, .agg #[.int .i64 0, .int .i64 0]]) := q9 rfl; subst e9; clear hold hdep hdl hcl; go_simp; (exact hK.out _ _ y HSt.out rfl (fun j hj hl => ⟨rfl, fun u h => h⟩))
    · intro L y a wx hSt hLi hdl hcl hold hdep K hK
      (have l4 : L 12 = false := not_yet hLi fun h => hcl 12 _ rfl h 10 rfl); (have l5 : L 13 = false := not_yet hLi fun h => hcl 13 _ rfl h 10 rfl); rw [l4, l5] at hSt; have HSt : Hid (St2 W DB 0 0 (L 10) (L 11) (L 6) false false y wx) := hSt; clear hSt; clear hold hdep hdl; go_simp; have hb3 : Below wx.heap.size wx (wx.alloc (.cells #[.int .i64 0, .string ⟨#[]⟩, .slice none 0 0] 24 (0, 0))) := (Below.refl _ _).alloc (Nat.le_refl _) _; (refine hK.out _ _ { y with g := wx.alloc (.cells #[.int .i64 0, .string ⟨#[]⟩, .slice none 0 0] 24 (0, 0)), b4 := wx.heap.size } (by show St2 W DB 0 0 true (L 11) (L 6) (L 12) (L 13) _ _; rw [l4, l5]; exact HSt.out.new4) rfl ?_); intro j hj hl
      rcases j with _ | _ | _ | _ | _ | _ | _ | _ | _ | _ | _ | _ | _ | _ | j
      · exact ⟨rfl, fun u h => h⟩
      · exact ⟨rfl, fun u h => h⟩
      · exact ⟨rfl, fun u h => gF_up (w := wx) (w' := wx) (below_join HSt.out.eqv hb3) u h⟩
      · exact ⟨rfl, fun u h => h⟩
      · exact ⟨rfl, fun u h => h⟩
      · exact ⟨rfl, fun u h => gF_up (w := wx) (w' := wx) (below_join HSt.out.eqv hb3) u h⟩
      · exact ⟨rfl, fun u h => h⟩
      · exact ⟨rfl, fun u h => h⟩
      · exact ⟨rfl, fun u h => h⟩
      · exact ⟨rfl, fun u h => h⟩
      · exact Bool.noConfusion (hLi.symm.trans hj)
      · exact ⟨rfl, fun u h => h⟩
      · exact Bool.noConfusion (hLi.symm.trans (hcl 12 _ rfl hj 10 rfl))
      · exact Bool.noConfusion (hLi.symm.trans (hcl 13 _ rfl hj 10 rfl))
      · exact ⟨rfl, fun u h => h⟩
    · intro L y a wx hSt hLi hdl hcl hold hdep K hK
      (have l4 : L 12 = false := not_yet hLi fun h => hcl 12 _ rfl h 11 rfl); (have l5 : L 13 = false := not_yet hLi fun h => hcl 13 _ rfl h 11 rfl); rw [l4, l5] at hSt; have HSt : Hid (St2 W DB 0 0 (L 10) (L 11) (L 6) false false y wx) := hSt; clear hSt; clear hold hdep hdl; go_simp; have hb3 : Below wx.heap.size wx (wx.alloc (.cells #[.int .i64 0, .int .i64 0] 33 (0, 0))) := (Below.refl _ _).alloc (Nat.le_refl _) _; (refine hK.out _ _ { y with g := wx.alloc (.cells #[.int .i64 0, .int .i64 0] 33 (0, 0)), b5 := wx.heap.size } (by show St2 W DB 0 0 (L 10) true (L 6) (L 12) (L 13) _ _; rw [l4, l5]; exact HSt.out.new5) rfl ?_); intro j hj hl
      rcases j with _ | _ | _ | _ | _ | _ | _ | _ | _ | _ | _ | _ | _ | _ | j
      · exact ⟨rfl, fun u h => h⟩
      · exact ⟨rfl, fun u h => h⟩
      · exact ⟨rfl, fun u h => gF_up (w := wx) (w' := wx) (below_join HSt.out.eqv hb3) u h⟩
      · exact ⟨rfl, fun u h => h⟩
      · exact ⟨rfl, fun u h => h⟩
      · exact ⟨rfl, fun u h => gF_up (w := wx) (w' := wx) (below_join HSt.out.eqv hb3) u h⟩
      · exact ⟨rfl, fun u h => h⟩
      · exact ⟨rfl, fun u h => h⟩
      · exact ⟨rfl, fun u h => h⟩
      · exact ⟨rfl, fun u h => h⟩
      · exact ⟨rfl, fun u h => h⟩
      · exact Bool.noConfusion (hLi.symm.trans hj)
      · exact Bool.noConfusion (hLi.symm.trans (hcl 12 _ rfl hj 11 rfl))
      · exact Bool.noConfusion (hLi.symm.trans (hcl 13 _ rfl hj 11 rfl))
      · exact ⟨rfl, fun u h => h⟩
    · intro L y a wx hSt hLi hdl hcl hold hdep K hK
      have la : L 10 = true := hdl 10 rfl; have lb : L 11 = true := hdl 11 rfl; have lc : L 6 = true := hdl 6 rfl; rw [la, lb, lc, hLi] at hSt; have HSt : Hid (St2 W DB 0 0 true true true false (L 13) y wx) := hSt; clear hSt; obtain ⟨v17, t17, q17⟩ := hdep 8 rfl _ 17 rfl rfl; have e17 : v17 = (.agg #[.int .i64 y.k, .string y.n, .slice y.sl y.ks.length y.cp]) := q17 rfl; subst e17; obtain ⟨v4, t4, q4⟩ := hdep 10 rfl _ 4 rfl rfl; have e4 : v4 = (.pointer (some ⟨y.b4, 0, none⟩)) := q4 rfl; subst e4; obtain ⟨c0, c1, c2, z0, z1, z2⟩ := blk3 HSt.out.w4; clear hold hdep hdl hcl; go_simp; (refine hK.out undef _ y (by show St2 W DB 0 0 (L 10) (L 11) (L 6) true (L 13) _ _; rw [la, lb, lc]; exact HSt.out.put4) trivial ?_); intro j hj hl
      rcases j with _ | _ | _ | _ | _ | _ | _ | _ | _ | _ | _ | _ | _ | _ | j
      · exact ⟨rfl, fun u h => h⟩
      · exact ⟨rfl, fun u h => h⟩
      · exact ⟨rfl, fun u h => h⟩
      · exact ⟨rfl, fun u h => h⟩
      · exact ⟨rfl, fun u h => h⟩
      · exact ⟨rfl, fun u h => h⟩
      · exact ⟨rfl, fun u h => h⟩
      · exact ⟨rfl, fun u h => h⟩
      · exact ⟨rfl, fun u h => h⟩
      · exact ⟨rfl, fun u h => h⟩
      · exact ⟨rfl, fun u h => h⟩
      · exact ⟨rfl, fun u h => h⟩
      · exact ⟨rfl, fun u h => h⟩
      · exact ⟨rfl, fun u h => h⟩
      · exact ⟨rfl, fun u h => h⟩
    · intro L y a wx hSt hLi hdl hcl hold hdep K hK
      have la : L 10 = true := hdl 10 rfl; have lb : L 11 = true := hdl 11 rfl; have lc : L 6 = true := hdl 6 rfl; rw [la, lb, lc, hLi] at hSt; have HSt : Hid (St2 W DB 0 0 true true true (L 12) false y wx) := hSt; clear hSt; obtain ⟨v18, t18, q18⟩ := hdep 9 rfl _ 18 rfl rfl; have e18 : v18 = (.agg #[.int .i64 0, .int .i64 0]) := q18 rfl; subst e18; obtain ⟨v5, t5, q5⟩ := hdep 11 rfl _ 5 rfl rfl; have e5 : v5 = (.pointer (some ⟨y.b5, 0, none⟩)) := q5 rfl; subst e5; obtain ⟨c0, c1, z0, z1⟩ := blk2 HSt.out.w5; clear hold hdep hdl hcl; go_simp; (refine hK.out undef _ y (by show St2 W DB 0 0 (L 10) (L 11) (L 6) (L 12) true _ _; rw [la, lb, lc]; exact HSt.out.put5) trivial ?_); intro j hj hl
      rcases j with _ | _ | _ | _ | _ | _ | _ | _ | _ | _ | _ | _ | _ | _ | j
      · exact ⟨rfl, fun u h => h⟩
      · exact ⟨rfl, fun u h => h⟩
      · exact ⟨rfl, fun u h => h⟩
      · exact ⟨rfl, fun u h => h⟩
      · exact ⟨rfl, fun u h => h⟩
      · exact ⟨rfl, fun u h => h⟩
      · exact ⟨rfl, fun u h => h⟩
      · exact ⟨rfl, fun u h => h⟩
      · exact ⟨rfl, fun u h => h⟩
      · exact ⟨rfl, fun u h => h⟩
      · exact ⟨rfl, fun u h => h⟩
      · exact ⟨rfl, fun u h => h⟩
      · exact ⟨rfl, fun u h => h⟩
      · exact ⟨rfl, fun u h => h⟩
      · exact ⟨rfl, fun u h => h⟩
  · intro L y a wx hall hSt hsz hdf hold hgot
    (have la : L 10 = true := hall 10 (by decide)); (have lb : L 11 = true := hall 11 (by decide)); (have lc : L 6 = true := hall 6 (by decide)); (have ld : L 12 = true := hall 12 (by decide)); (have le : L 13 = true := hall 13 (by decide)); rw [la, lb, lc, ld, le] at hSt; have hE2 := hSt.fin HOf.out; obtain ⟨v4, t4, q4⟩ := hgot 10 _ 4 rfl rfl; have e4 : v4 = .pointer (some ⟨y.b4, 0, none⟩) := q4 rfl; obtain ⟨v5, t5, q5⟩ := hgot 11 _ 5 rfl rfl; have e5 : v5 = .pointer (some ⟨y.b5, 0, none⟩) := q5 rfl; subst e4 e5; obtain ⟨g0, b4, b5, k5, n5, ks5, sl5, cp5⟩ := y; simp only at hE2 t4 t5; have HE : Hid (End2 W DB 0 0 b4 b5 k5 n5 ks5 sl5 cp5 wx) := hE2; clear hSt hE2; obtain ⟨tm, df⟩ := a; obtain ⟨x0, x1, x2, x3, x4, x5, x6, x7, x8, x9, x10, x11, x12, x13, x14, x15, x16, x17, x18, x19, x20, x21, x22, x23, x24, x25, x26, x27, x28, x29, x30, x31, x32, x33, x34, x35, x36, htm⟩ := frameS37 tm hsz; subst htm; obtain rfl : df = [] := hdf; obtain rfl : x0 = _ := Option.some.inj (hold 0 rfl); obtain rfl : x1 = _ := Option.some.inj (hold 1 rfl); obtain rfl : x2 = _ := Option.some.inj (hold 2 rfl); obtain rfl : x3 = _ := Option.some.inj (hold 3 rfl); obtain rfl : x6 = _ := Option.some.inj (hold 6 rfl); obtain rfl : x7 = _ := Option.some.inj (hold 7 rfl); obtain rfl : x8 = _ := Option.some.inj (hold 8 rfl); obtain rfl : x19 = _ := Option.some.inj (hold 19 rfl); obtain rfl : x20 = _ := Option.some.inj (hold 20 rfl); obtain rfl : x21 = _ := Option.some.inj (hold 21 rfl); obtain rfl : x22 = _ := Option.some.inj (hold 22 rfl); obtain rfl : x23 = _ := Option.some.inj (hold 23 rfl); obtain rfl : x24 = _ := Option.some.inj (hold 24 rfl); obtain rfl : x25 = _ := Option.some.inj (hold 25 rfl); obtain rfl : x26 = _ := Option.some.inj (hold 26 rfl); obtain rfl : x27 = _ := Option.some.inj (hold 27 rfl); obtain rfl : x28 = _ := Option.some.inj (hold 28 rfl); obtain rfl : x29 = _ := Option.some.inj (hold 29 rfl); obtain rfl : x30 = _ := Option.some.inj (hold 30 rfl); obtain rfl : x31 = _ := Option.some.inj (hold 31 rfl); obtain rfl : x32 = _ := Option.some.inj (hold 32 rfl); obtain rfl : x33 = _ := Option.some.inj (hold 33 rfl); obtain rfl : x34 = _ := Option.some.inj (hold 34 rfl); obtain rfl : x35 = _ := Option.some.inj (hold 35 rfl); obtain rfl : x36 = _ := Option.some.inj (hold 36 rfl); obtain rfl : x4 = _ := Option.some.inj t4; obtain rfl : x5 = _ := Option.some.inj t5; clear hold hgot hall; (have HRp : Hid (Rep wx (fun _ => True) DB (.agg #[.int .i64 k5, .string n5, .slice sl5 ks5.length cp5])) := HE.out.rep.weak fun _ _ _ => trivial); have HBx : Hid (Below w.heap.size w wx) := below_join HBW.out HE.out.below; obtain ⟨c0, c1, c2, -⟩ := blk3 HE.out.at4; obtain ⟨m0, m1, -⟩ := blk2 HE.out.at5; have y4 := lt_of_block HE.out.at4; have HE4 : Hid (wx.heap[b4]? = some _) := HE.out.at4; clear HE; go_wp2_with fail; have hbA : Below wx.heap.size wx (wx.alloc (.cells #[.string ⟨#[112]⟩] 9 (0, 0))) := (Below.refl _ _).alloc (Nat.le_refl _) _; refine (HPl.out _ _ _ (HRp.out.up hbA) (SL.one (t := [112]) (blk_new wx _))).mono ?_; rintro e w4 ⟨rfl, hb4⟩; have HB4 : Hid (Below wx.heap.size wx w4) := below_join hbA hb4; clear c0 c1 c2 hbA hb4; obtain ⟨c0, c1, c2, -⟩ := blk3 (below_keep HB4.out HE4.out); have y5 : b4 < w4.heap.size := lt_of_block (below_keep HB4.out HE4.out); go_wp2_with fail; have hbA : Below w4.heap.size w4 (w4.alloc (.cells #[.string ⟨#[112]⟩] 9 (0, 0))) := (Below.refl _ _).alloc (Nat.le_refl _) _; refine (HT1.out _ _ _ ((HRp.out.up HB4.out).up hbA) (SL.one (t := [112]) (blk_new w4 _))).mono ?_; rintro e w5 ⟨rfl, hb5⟩; have HB5 : Hid (Below wx.heap.size wx w5) := below_join HB4.out (below_join hbA hb5); clear c0 c1 c2 hbA hb5; obtain ⟨c0, c1, c2, -⟩ := blk3 (below_keep HB5.out HE4.out); go_wp2_with fail; (refine (HT0.out _ _ _ (HRp.out.up HB5.out) (SL.nil0 (by simp [maxLen]))).mono ?_); rintro e w6 ⟨rfl, hb6⟩; have HB6 : Hid (Below w.heap.size w w6) := below_join HBx.out (below_join HB5.out hb6); clear c0 c1 c2 hb6; go_wp2_with fail; go_ret; exact ⟨rfl, HB6.out⟩
end Go.Proofs.Ytffkoiemnchdgae
/- Walks: BetweenCraig. -/
namespace Go.Proofs.Ytffkoiemnchdgae
open Go.RowKit Go.Sort

theorem rowB2 (l : List Value) (h0 : l.length = 2) : ∃ x0 x1, l = [x0, x1] := by
  obtain ⟨x0, l1, e0, h1⟩ := cons_lenB h0; obtain ⟨x1, l2, e1, h2⟩ := cons_lenB h1; have e2 : l2 = [] := List.length_eq_zero_iff.1 h2; subst e2 e1 e0; exact ⟨x0, x1, rfl⟩
theorem rowB8 (l : List Value) (h0 : l.length = 8) : ∃ x0 x1 x2 x3 x4 x5 x6 x7, l = [x0, x1, x2, x3, x4, x5, x6, x7] := by
  obtain ⟨x0, l1, e0, h1⟩ := cons_lenB h0; obtain ⟨x1, l2, e1, h2⟩ := cons_lenB h1; obtain ⟨x2, l3, e2, h3⟩ := cons_lenB h2; obtain ⟨x3, l4, e3, h4⟩ := cons_lenB h3; obtain ⟨x4, l5, e4, h5⟩ := cons_lenB h4; obtain ⟨x5, l6, e5, h6⟩ := cons_lenB h5; obtain ⟨x6, l7, e6, h7⟩ := cons_lenB h6; obtain ⟨x7, l8, e7, h8⟩ := cons_lenB h7; have e8 : l8 = [] := List.length_eq_zero_iff.1 h8; subst e8 e7 e6 e5 e4 e3 e2 e1 e0; exact ⟨x0, x1, x2, x3, x4, x5, x6, x7, rfl⟩
def kL1 (f : Fm) : Value → World → Prop := fun v w => ∃ g, v = .slice (some ⟨g, 0, none⟩) 1 1 ∧ FL w (.slice (some ⟨g, 0, none⟩) 1 1) [f]
theorem kL1_stays (f : Fm) : Stays (kL1 f) := fun v w w' h hb => by
  obtain ⟨g, h1, h2⟩ := h; exact ⟨g, h1, h2.up hb⟩

theorem rep_leafW {w w' : World} {ok ok' : Nat → Prop} {k : Int} {n : ByteArray} {v : Value} (h : Rep w ok (.mk k n []) v) : Rep w' ok' (.mk k n []) v := by
  obtain ⟨sl, cap, h1, h2, h3, h4, h5⟩ := Rep.def.1 h; (exact Rep.def.2 ⟨sl, cap, h1, h2, h3, h4, fun hne => absurd rfl hne⟩)
set_option maxRecDepth 10000 in
set_option maxHeartbeats 16000000 in
theorem craig_law (f g : Fm) (v u : Value) (w : World) (hv : Rep w (fun _ => True) f v) (hu : Rep w (fun _ => True) g u) :
    Calls Try.prog 4 #[v, u] w fun e w' => e = .returned (.bool true) ∧ Below w.heap.size w w' := by
  (have HBe : Hid (∀ W, Calls Try.prog 12 #[] W _) := fun W => betweenBegun_any W); (have HVf : Hid (∀ v W, Rep W (fun _ => True) f v → Calls Try.prog 13 #[v, .int .i64 0] W _) := fun v W h => vast2_any f v W h); (have HVg : Hid (∀ v W, Rep W (fun _ => True) g v → Calls Try.prog 13 #[v, .int .i64 0] W _) := fun v W h => vast2_any g v W h); (have HOf0 : Hid (Slim f → ∀ v W, Rep W (fun _ => True) f v → Calls Try.prog 15 #[v] W _) := fun hs v W h => own_any f v W hs h); (have HOg0 : Hid (Slim g → ∀ v W, Rep W (fun _ => True) g v → Calls Try.prog 15 #[v] W _) := fun hs v W h => own_any g v W hs h); (have HIn : Hid (∀ v u W, Rep W (fun _ => True) f v → Rep W (fun _ => True) g u → Calls Try.prog 14 #[v, u] W _) := fun v u W h h' => inter_any f g v u W h h'); (have HBf : Hid (∀ v W, FL W v [f, g] → Calls Try.prog 16 #[v] W _) := fun v W h => bfault_any [f, g] (by simp) v W h); have HOf : Hid (OffOk (iF f g)) := iF_off f g; (have HTz : Hid ((tgcode [f, g]).1 = 0 → tgcode [f, g] = (0, 0)) := fun h => tg_zero h)
  have HTn : Hid ((tgcode [f, g]).1 ≠ 0 → icode f g = tgcode [f, g] ∧ iF f g = zF) := fun h => by
    (have h1 : icode f g = tgcode [f, g] := by unfold icode; rw [if_neg h]); (exact ⟨h1, by unfold iF; rw [h1, if_neg h]⟩)
  (have HNfg : Hid ((tgcode [f, g]).1 = 0 → ∀ v W, FL W v [f, g] → Calls Try.prog 17 #[v] W fun e w' => ∃ x, e = .returned x ∧ TL w' x (nmsF [f, g]) ∧ Below W.heap.size W w') := fun h v W hv => namesIn_list [f, g] (by simp) (fun x hx => (pc_fine (tg_plain h hx)).2) v W hv); (have HNf0 : Hid ((tgcode [f, g]).1 = 0 → ∀ v W, FL W v [f] → Calls Try.prog 17 #[v] W fun e w' => ∃ x, e = .returned x ∧ TL w' x (nmsU f) ∧ Below W.heap.size W w') := fun h v W hv => namesIn_any f (pc_fine (tg_plain h (by simp))).2 v W hv); (have HNg0 : Hid ((tgcode [f, g]).1 = 0 → ∀ v W, FL W v [g] → Calls Try.prog 17 #[v] W fun e w' => ∃ x, e = .returned x ∧ TL w' x (nmsU g) ∧ Below W.heap.size W w') := fun h v W hv => namesIn_any g (pc_fine (tg_plain h (by simp))).2 v W hv); (have HMk : Hid ((tgcode [f, g]).1 = 0 → ∀ v u z W, Rep W (fun _ => True) f v → Rep W (fun _ => True) g u → SL W z (nmsF [f, g]) → Calls Try.prog 18 #[v, u, z] W fun e w' => e = .returned (.bool (makesB f g (nmsF [f, g]))) ∧ Below W.heap.size W w') := fun h v u z W h1 h2 h3 => makesL_any f g (pc_fine (tg_plain h (by simp))).1 (pc_fine (tg_plain h (by simp))).1 (nmsF [f, g]) (tg_few h) v u z W h1 h2 h3)
  have HNo : Hid (∀ s2, someL (fun l => tvL f l && !tvL g l) (nmsF [f, g]) [] = s2 → (tgcode [f, g]).1 = 0 → makesB f g (nmsF [f, g]) = !s2 ∧ icode f g = (if s2 then (7, 0) else (0, 0)) ∧ (s2 = true → iF f g = zF)) := fun s2 hs ht => by
    (have hi : icode f g = if s2 then (7, 0) else (0, 0) := by unfold icode; rw [if_pos ht, hs])
    cases s2
    · exact ⟨(craig_ok (by rw [hi]; rfl)).2.1, hi, (fun e => Bool.noConfusion e)⟩
    · exact ⟨craig_no ht hs, hi, fun _ => by unfold iF; rw [hi]; rfl⟩
  have HOk : Hid ((icode f g).1 = 0 → (∀ v u W, Rep W (fun _ => True) (iF f g) v → SL W u (keptN f (nmsU g)) → Calls Try.prog 21 #[v, u] W fun e w' => e = .returned (.bool true) ∧ Below W.heap.size W w') ∧ (∀ v u z W, Rep W (fun _ => True) f v → Rep W (fun _ => True) (iF f g) u → SL W z (nmsF [f, g]) → Calls Try.prog 18 #[v, u, z] W fun e w' => e = .returned (.bool true) ∧ Below W.heap.size W w') ∧ (∀ v u z W, Rep W (fun _ => True) (iF f g) v → Rep W (fun _ => True) g u → SL W z (nmsF [f, g]) → Calls Try.prog 18 #[v, u, z] W fun e w' => e = .returned (.bool true) ∧ Below W.heap.size W w')) := fun h => by
    obtain ⟨hm, -, h2, h3⟩ := craig_ok h; have ht := (icode_ok h).1; (have hf := (pc_fine (tg_plain ht (f := f) (by simp))).1); (have hg := (pc_fine (tg_plain ht (f := g) (by simp))).1); (refine ⟨fun v u W h h' => plainAns_any _ _ _ 379 hm (by omega) (fun _ h => h) v u W h h', fun v u z W h h' h'' => ?_, fun v u z W h h' h'' => ?_⟩)
    · have := makesL_any f (iF f g) hf hm.fine _ (tg_few ht) v u z W h h' h''
      rwa [h2] at this
    · have := makesL_any (iF f g) g hm.fine hg _ (tg_few ht) v u z W h h' h''
      rwa [h3] at this
  (have HCo0 : Hid ((tgcode [f, g]).1 = 0 → ∀ v u W, SL W v (nmsU f) → SL W u (nmsU g) → Calls Try.prog 22 #[v, u] W fun e w' => ∃ x, e = .returned x ∧ TL w' x (keptN f (nmsU g)) ∧ Below W.heap.size W w') := fun ht v u W h h' => common_any (nmsU f) (nmsU g) (by have := nmsU_six ht (f := f) (by simp); omega) v u W h h'); (generalize someL (fun l => tvL f l && !tvL g l) (nmsF [f, g]) [] = sb at *); generalize makesB f g (nmsF [f, g]) = mb at *; generalize tgcode [f, g] = tg at *; generalize icode f g = icd at *; obtain ⟨ic, id⟩ := icd; simp only at HIn HOk; generalize iF f g = D at *; generalize keptN f (nmsU g) = UC at *; generalize nmsF [f, g] = NF at *; generalize nmsU f = UF at *; generalize nmsU g = UG at *; obtain ⟨k, n, ks⟩ := f; obtain ⟨sl, cap, rfl⟩ := slice_shape hv; obtain ⟨kg, ng, ksg⟩ := g; obtain ⟨sg, cg, rfl⟩ := slice_shape hu; (have HRf : Hid (Rep w (fun _ => True) (.mk k n ks) (.agg #[.int .i64 k, .string n, .slice sl ks.length cap])) := hv); (have HRg : Hid (Rep w (fun _ => True) (.mk kg ng ksg) (.agg #[.int .i64 kg, .string ng, .slice sg ksg.length cg])) := hu); have hB0 := below_more (below_more (Below.refl _ w) (.cells #[.int .i64 k, .string n, .slice sl ks.length cap] 24 (0, 0))) (.cells #[.int .i64 kg, .string ng, .slice sg ksg.length cg] 24 (0, 0)); have p0 := alloc_keep (blk_new w (.cells #[.int .i64 k, .string n, .slice sl ks.length cap] 24 (0, 0))) (.cells #[.int .i64 kg, .string ng, .slice sg ksg.length cg] 24 (0, 0)); have p1 := blk_2nd w (.cells #[.int .i64 k, .string n, .slice sl ks.length cap] 24 (0, 0)) (.cells #[.int .i64 kg, .string ng, .slice sg ksg.length cg] 24 (0, 0)); clear hv hu
  go_enter Try.func4, Try.ntmps4
  go_wp2_with fail; refine (HBe.out _).mono ?_; rintro e w1 ⟨rfl, hb1⟩; have HB1 : Hid (Below w.heap.size w w1) := below_join hB0 hb1; have Q0 : Hid (w1.heap[w.heap.size]? = some (.cells #[.int .i64 k, .string n, .slice sl ks.length cap] 24 (0, 0))) := below_keep hb1 p0; have Q1 : Hid (w1.heap[w.heap.size + 1]? = some (.cells #[.int .i64 kg, .string ng, .slice sg ksg.length cg] 24 (0, 0))) := below_keep hb1 p1; clear hb1 p0 p1 hB0 HBe; obtain ⟨a0, a1, a2, -⟩ := blk3 Q0.out; go_wp2_with fail; refine (HVf.out _ _ (HRf.out.up HB1.out)).mono ?_; rintro e w2 ⟨⟨bb, rfl, hbb⟩, hb2⟩; have HB2 : Hid (Below w.heap.size w w2) := below_join HB1.out hb2; have R0 : Hid (w2.heap[w.heap.size]? = some (.cells #[.int .i64 k, .string n, .slice sl ks.length cap] 24 (0, 0))) := below_keep hb2 Q0.out; have R1 : Hid (w2.heap[w.heap.size + 1]? = some (.cells #[.int .i64 kg, .string ng, .slice sg ksg.length cg] 24 (0, 0))) := below_keep hb2 Q1.out; clear hb2 a0 a1 a2 Q0 Q1 HB1 HVf; obtain ⟨a0, a1, a2, -⟩ := blk3 R1.out
  cases bb
  case true =>
    clear hbb; go_wp2_with fail; go_ret; exact ⟨rfl, HB2.out⟩
  case false =>
    (have HOwf : Hid (∀ v W, Rep W (fun _ => True) (.mk k n ks) v → Calls Try.prog 15 #[v] W fun e w' => ∃ u, e = .returned u ∧ Rep w' (W.heap.size ≤ ·) (.mk k n ks) u ∧ Below W.heap.size W w') := HOf0.out (hbb rfl)); clear hbb HOf0; go_wp2_with fail; refine (HVg.out _ _ (HRg.out.up HB2.out)).mono ?_; rintro e W ⟨⟨bb, rfl, hbb⟩, hb3⟩; have HBW : Hid (Below w.heap.size w W) := below_join HB2.out hb3; have P0 : Hid (W.heap[w.heap.size]? = some (.cells #[.int .i64 k, .string n, .slice sl ks.length cap] 24 (0, 0))) := below_keep hb3 R0.out; have P1 : Hid (W.heap[w.heap.size + 1]? = some (.cells #[.int .i64 kg, .string ng, .slice sg ksg.length cg] 24 (0, 0))) := below_keep hb3 R1.out; clear hb3 a0 a1 a2 R0 R1 HB2 HVg
    cases bb
    case true =>
      clear hbb; go_wp2_with fail; go_ret; exact ⟨rfl, HBW.out⟩
    case false =>
      (have HOwg : Hid (∀ v W, Rep W (fun _ => True) (.mk kg ng ksg) v → Calls Try.prog 15 #[v] W fun e w' => ∃ u, e = .returned u ∧ Rep w' (W.heap.size ≤ ·) (.mk kg ng ksg) u ∧ Below W.heap.size W w') := HOg0.out (hbb rfl)); clear hbb HOg0; go_wp2_with fail; (refine wp_region_gh (by kernel_rfl) (by kernel_rfl) (by kernel_rfl) 72 rfl (by kernel_rfl) [fun _ v _ => v = (.agg #[.int .i64 k, .string n, .slice sl ks.length cap]), gF (.mk k n ks), fun _ v _ => v = (.agg #[.int .i64 kg, .string ng, .slice sg ksg.length cg]), gF (.mk kg ng ksg), fun y v _ => v = .tuple #[y.x, .agg #[.int .i64 ic, .int .i64 id]], fun y v _ => v = .tuple #[y.x, .agg #[.int .i64 ic, .int .i64 id]], fun y v _ => v = y.x, fun y v _ => v = .agg #[.int .i64 ic, .int .i64 id], fun y v _ => v = .pointer (some ⟨y.b4, 0, none⟩), fun y v _ => v = .pointer (some ⟨y.b5, 0, none⟩), fun _ _ _ => True, fun _ _ _ => True] (fun _ _ => true) (fun L => St2 W D ic id (L 8) (L 9) (L 4) (L 10) (L 11)) (⟨W, 0, 0, 0, ⟨#[]⟩, [], none, 0⟩) ?_ ?_ ?_)
      · exact fun wx h h' => St2.init h h' _ rfl
      · refine ⟨?_, ?_, ?_, ?_, ?_, ?_, ?_, ?_, ?_, ?_, ?_, ?_, trivial⟩
        · intro L y a wx hSt hLi hdl hcl hold hdep K hK
          (have l4 : L 10 = false := not_yet hLi fun h => hcl 10 _ rfl h 0 rfl); (have l5 : L 11 = false := not_yet hLi fun h => hcl 11 _ rfl h 0 rfl); rw [l4, l5] at hSt; have HSt : Hid (St2 W D ic id (L 8) (L 9) (L 4) false false y wx) := hSt; clear hSt; have t2 : a.tmps[2]? = some (.pointer (some ⟨w.heap.size, 0, none⟩)) := hold 2 rfl; obtain ⟨d0, d1, d2, -⟩ := blk3 (below_keep (below_join HSt.out.below HSt.out.eqv) P0.out); clear hold hdep hdl hcl; go_simp; (exact hK.out _ _ y (by show St2 W D ic id (L 8) (L 9) (L 4) (L 10) (L 11) _ _; rw [l4, l5]; exact HSt.out) rfl (fun j hj hl => ⟨rfl, fun u h => h⟩))
        · intro L y a wx hSt hLi hdl hcl hold hdep K hK
          (have l4 : L 10 = false := not_yet hLi fun h => hcl 10 _ rfl h 1 rfl); (have l5 : L 11 = false := not_yet hLi fun h => hcl 11 _ rfl h 1 rfl); rw [l4, l5] at hSt; have HSt : Hid (St2 W D ic id (L 8) (L 9) (L 4) false false y wx) := hSt; clear hSt; obtain ⟨v18, t18, q18⟩ := hdep 0 rfl _ 18 rfl rfl; have e18 : v18 = (.agg #[.int .i64 k, .string n, .slice sl ks.length cap]) := q18 rfl; subst e18; clear hold hdep hdl; go_simp; refine (HOwf.out _ wx (HRf.out.up (below_join HBW.out (below_join HSt.out.below HSt.out.eqv)))).mono ?_; rintro e w3 ⟨u9, rfl, hu9, hb3⟩; obtain ⟨sl9, cap9, rfl⟩ := slice_shape hu9; (refine hK.out _ _ { y with g := w3 } (by show St2 W D ic id (L 8) (L 9) (L 4) (L 10) (L 11) _ _; rw [l4, l5]; exact HSt.out.up hb3) ⟨_, _, _, sl9, cap9, rfl, rfl, hu9.weak fun _ _ _ => trivial⟩ ?_); intro j hj hl
          rcases j with _ | _ | _ | _ | _ | _ | _ | _ | _ | _ | _ | _ | j
          · exact ⟨rfl, fun u h => h⟩
          · exact Bool.noConfusion (hLi.symm.trans hj)
          · exact ⟨rfl, fun u h => h⟩
          · exact ⟨rfl, fun u h => gF_up (w := wx) (w' := wx) (below_join HSt.out.eqv hb3) u h⟩
          · exact ⟨rfl, fun u h => h⟩
          · exact ⟨rfl, fun u h => h⟩
          · exact ⟨rfl, fun u h => h⟩
          · exact ⟨rfl, fun u h => h⟩
          · exact ⟨rfl, fun u h => h⟩
          · exact ⟨rfl, fun u h => h⟩
          · exact ⟨rfl, fun u h => h⟩
          · exact ⟨rfl, fun u h => h⟩
          · exact ⟨rfl, fun u h => h⟩
        · intro L y a wx hSt hLi hdl hcl hold hdep K hK
          (have l4 : L 10 = false := not_yet hLi fun h => hcl 10 _ rfl h 2 rfl); (have l5 : L 11 = false := not_yet hLi fun h => hcl 11 _ rfl h 2 rfl); rw [l4, l5] at hSt; have HSt : Hid (St2 W D ic id (L 8) (L 9) (L 4) false false y wx) := hSt; clear hSt; have t3 : a.tmps[3]? = some (.pointer (some ⟨w.heap.size + 1, 0, none⟩)) := hold 3 rfl; obtain ⟨d0, d1, d2, -⟩ := blk3 (below_keep (below_join HSt.out.below HSt.out.eqv) P1.out); clear hold hdep hdl hcl; go_simp; (exact hK.out _ _ y (by show St2 W D ic id (L 8) (L 9) (L 4) (L 10) (L 11) _ _; rw [l4, l5]; exact HSt.out) rfl (fun j hj hl => ⟨rfl, fun u h => h⟩))
        · intro L y a wx hSt hLi hdl hcl hold hdep K hK
          (have l4 : L 10 = false := not_yet hLi fun h => hcl 10 _ rfl h 3 rfl); (have l5 : L 11 = false := not_yet hLi fun h => hcl 11 _ rfl h 3 rfl); rw [l4, l5] at hSt; have HSt : Hid (St2 W D ic id (L 8) (L 9) (L 4) false false y wx) := hSt; clear hSt; obtain ⟨v20, t20, q20⟩ := hdep 2 rfl _ 20 rfl rfl; have e20 : v20 = (.agg #[.int .i64 kg, .string ng, .slice sg ksg.length cg]) := q20 rfl; subst e20; clear hold hdep hdl; go_simp; refine (HOwg.out _ wx (HRg.out.up (below_join HBW.out (below_join HSt.out.below HSt.out.eqv)))).mono ?_; rintro e w3 ⟨u9, rfl, hu9, hb3⟩; obtain ⟨sl9, cap9, rfl⟩ := slice_shape hu9; (refine hK.out _ _ { y with g := w3 } (by show St2 W D ic id (L 8) (L 9) (L 4) (L 10) (L 11) _ _; rw [l4, l5]; exact HSt.out.up hb3) ⟨_, _, _, sl9, cap9, rfl, rfl, hu9.weak fun _ _ _ => trivial⟩ ?_); intro j hj hl
          rcases j with _ | _ | _ | _ | _ | _ | _ | _ | _ | _ | _ | _ | j
          · exact ⟨rfl, fun u h => h⟩
          · exact ⟨rfl, fun u h => gF_up (w := wx) (w' := wx) (below_join HSt.out.eqv hb3) u h⟩
          · exact ⟨rfl, fun u h => h⟩
          · exact Bool.noConfusion (hLi.symm.trans hj)
          · exact ⟨rfl, fun u h => h⟩
          · exact ⟨rfl, fun u h => h⟩
          · exact ⟨rfl, fun u h => h⟩
          · exact ⟨rfl, fun u h => h⟩
          · exact ⟨rfl, fun u h => h⟩
          · exact ⟨rfl, fun u h => h⟩
          · exact ⟨rfl, fun u h => h⟩
          · exact ⟨rfl, fun u h => h⟩
          · exact ⟨rfl, fun u h => h⟩
        · intro L y a wx hSt hLi hdl hcl hold hdep K hK
          (have l4 : L 10 = false := not_yet hLi fun h => hcl 10 _ rfl h 4 rfl); (have l5 : L 11 = false := not_yet hLi fun h => hcl 11 _ rfl h 4 rfl); rw [l4, l5] at hSt; have HSt : Hid (St2 W D ic id (L 8) (L 9) (L 4) false false y wx) := hSt; clear hSt; obtain ⟨v19, t19, q19⟩ := hdep 1 rfl _ 19 rfl rfl; obtain ⟨ka, na, ksa, sla, cpa, fa, e19, ra⟩ := q19 rfl; subst e19; (have HFa : Hid (Rep wx (fun _ => True) _ (.agg #[.int .i64 ka, .string na, .slice sla ksa.length cpa])) := ra.up HSt.out.eqv); clear ra q19; obtain ⟨v21, t21, q21⟩ := hdep 3 rfl _ 21 rfl rfl; obtain ⟨kb, nb, ksb, slb, cpb, fb, e21, rb⟩ := q21 rfl; subst e21; (have HFb : Hid (Rep wx (fun _ => True) _ (.agg #[.int .i64 kb, .string nb, .slice slb ksb.length cpb])) := rb.up HSt.out.eqv); clear rb q21; clear hold hdep hdl; go_simp; refine (HIn.out _ _ wx HFa.out HFb.out).mono ?_; rintro e w3 ⟨x, rfl, hx, hb3⟩
          rcases hE : D with ⟨k5, n5, ks5⟩
          have hx2 := hx; rw [hE] at hx2; obtain ⟨sl5, cp5, rfl⟩ := slice_shape hx2; (refine hK.out _ _ { y with g := w3, k := k5, n := n5, ks := ks5, sl := sl5, cp := cp5 } (by show St2 W D ic id (L 8) (L 9) true (L 10) (L 11) _ _; rw [l4, l5]; exact HSt.out.call hb3 hE hx) rfl ?_); intro j hj hl
          rcases j with _ | _ | _ | _ | _ | _ | _ | _ | _ | _ | _ | _ | j
          · exact ⟨rfl, fun u h => h⟩
          · exact ⟨rfl, fun u h => gF_up (w := wx) (w' := wx) (below_join HSt.out.eqv hb3) u h⟩
          · exact ⟨rfl, fun u h => h⟩
          · exact ⟨rfl, fun u h => gF_up (w := wx) (w' := wx) (below_join HSt.out.eqv hb3) u h⟩
          · exact Bool.noConfusion (hLi.symm.trans hj)
          · exact Bool.noConfusion (hLi.symm.trans (hcl 5 _ rfl hj 4 rfl))
          · exact Bool.noConfusion (hLi.symm.trans (hcl 5 _ rfl (hcl 6 _ rfl hj 5 rfl) 4 rfl))
          · exact Bool.noConfusion (hLi.symm.trans (hcl 5 _ rfl (hcl 7 _ rfl hj 5 rfl) 4 rfl))
          · exact ⟨rfl, fun u h => h⟩
          · exact ⟨rfl, fun u h => h⟩
          · exact Bool.noConfusion (hLi.symm.trans (hcl 10 _ rfl hj 4 rfl))
          · exact Bool.noConfusion (hLi.symm.trans (hcl 11 _ rfl hj 4 rfl))
          · exact ⟨rfl, fun u h => h⟩
        · intro L y a wx hSt hLi hdl hcl hold hdep K hK
          (have l4 : L 10 = false := not_yet hLi fun h => hcl 10 _ rfl h 5 rfl); (have l5 : L 11 = false := not_yet hLi fun h => hcl 11 _ rfl h 5 rfl); rw [l4, l5] at hSt; have HSt : Hid (St2 W D ic id (L 8) (L 9) (L 4) false false y wx) := hSt; clear hSt; obtain ⟨v22, t22, q22⟩ := hdep 4 rfl _ 22 rfl rfl; have e22 : v22 = (.tuple #[y.x, .agg #[.int .i64 ic, .int .i64 id]]) := q22 rfl; subst e22; clear hold hdep hdl hcl; go_simp; (exact hK.out _ _ y (by show St2 W D ic id (L 8) (L 9) (L 4) (L 10) (L 11) _ _; rw [l4, l5]; exact HSt.out) rfl (fun j hj hl => ⟨rfl, fun u h => h⟩))
        · intro L y a wx hSt hLi hdl hcl hold hdep K hK
          have HSt : Hid (St2 W D ic id (L 8) (L 9) (L 4) (L 10) (L 11) y wx) := hSt; clear hSt; obtain ⟨v17, t17, q17⟩ := hdep 5 rfl _ 17 rfl rfl; have e17 : v17 = (.tuple #[y.x, .agg #[.int .i64 ic, .int .i64 id]]) := q17 rfl; subst e17; clear hold hdep hdl hcl; go_simp; (exact hK.out _ _ y HSt.out rfl (fun j hj hl => ⟨rfl, fun u h => h⟩))
        · intro L y a wx hSt hLi hdl hcl hold hdep K hK
          have HSt : Hid (St2 W D ic id (L 8) (L 9) (L 4) (L 10) (L 11) y wx) := hSt; clear hSt; obtain ⟨v17, t17, q17⟩ := hdep 5 rfl _ 17 rfl rfl; have e17 : v17 = (.tuple #[y.x, .agg #[.int .i64 ic, .int .i64 id]]) := q17 rfl; subst e17; clear hold hdep hdl hcl; go_simp; (exact hK.out _ _ y HSt.out rfl (fun j hj hl => ⟨rfl, fun u h => h⟩))
        · intro L y a wx hSt hLi hdl hcl hold hdep K hK
          (have l4 : L 10 = false := not_yet hLi fun h => hcl 10 _ rfl h 8 rfl); (have l5 : L 11 = false := not_yet hLi fun h => hcl 11 _ rfl h 8 rfl); rw [l4, l5] at hSt; have HSt : Hid (St2 W D ic id (L 8) (L 9) (L 4) false false y wx) := hSt; clear hSt; clear hold hdep hdl; go_simp; have hb3 : Below wx.heap.size wx (wx.alloc (.cells #[.int .i64 0, .string ⟨#[]⟩, .slice none 0 0] 24 (0, 0))) := (Below.refl _ _).alloc (Nat.le_refl _) _; (refine hK.out _ _ { y with g := wx.alloc (.cells #[.int .i64 0, .string ⟨#[]⟩, .slice none 0 0] 24 (0, 0)), b4 := wx.heap.size } (by show St2 W D ic id true (L 9) (L 4) (L 10) (L 11) _ _; rw [l4, l5]; exact HSt.out.new4) rfl ?_); intro j hj hl
          rcases j with _ | _ | _ | _ | _ | _ | _ | _ | _ | _ | _ | _ | j
          · exact ⟨rfl, fun u h => h⟩
          · exact ⟨rfl, fun u h => gF_up (w := wx) (w' := wx) (below_join HSt.out.eqv hb3) u h⟩
          · exact ⟨rfl, fun u h => h⟩
          · exact ⟨rfl, fun u h => gF_up (w := wx) (w' := wx) (below_join HSt.out.eqv hb3) u h⟩
          · exact ⟨rfl, fun u h => h⟩
          · exact ⟨rfl, fun u h => h⟩
          · exact ⟨rfl, fun u h => h⟩
          · exact ⟨rfl, fun u h => h⟩
          · exact Bool.noConfusion (hLi.symm.trans hj)
          · exact ⟨rfl, fun u h => h⟩
          · exact Bool.noConfusion (hLi.symm.trans (hcl 10 _ rfl hj 8 rfl))
          · exact Bool.noConfusion (hLi.symm.trans (hcl 11 _ rfl hj 8 rfl))
          · exact ⟨rfl, fun u h => h⟩
        · intro L y a wx hSt hLi hdl hcl hold hdep K hK
          (have l4 : L 10 = false := not_yet hLi fun h => hcl 10 _ rfl h 9 rfl); (have l5 : L 11 = false := not_yet hLi fun h => hcl 11 _ rfl h 9 rfl); rw [l4, l5] at hSt; have HSt : Hid (St2 W D ic id (L 8) (L 9) (L 4) false false y wx) := hSt; clear hSt; clear hold hdep hdl; go_simp; have hb3 : Below wx.heap.size wx (wx.alloc (.cells #[.int .i64 0, .int .i64 0] 33 (0, 0))) := (Below.refl _ _).alloc (Nat.le_refl _) _; (refine hK.out _ _ { y with g := wx.alloc (.cells #[.int .i64 0, .int .i64 0] 33 (0, 0)), b5 := wx.heap.size } (by show St2 W D ic id (L 8) true (L 4) (L 10) (L 11) _ _; rw [l4, l5]; exact HSt.out.new5) rfl ?_); intro j hj hl
          rcases j with _ | _ | _ | _ | _ | _ | _ | _ | _ | _ | _ | _ | j
          · exact ⟨rfl, fun u h => h⟩
          · exact ⟨rfl, fun u h => gF_up (w := wx) (w' := wx) (below_join HSt.out.eqv hb3) u h⟩
          · exact ⟨rfl, fun u h => h⟩
          · exact ⟨rfl, fun u h => gF_up (w := wx) (w' := wx) (below_join HSt.out.eqv hb3) u h⟩
          · exact ⟨rfl, fun u h => h⟩
          · exact ⟨rfl, fun u h => h⟩
          · exact ⟨rfl, fun u h => h⟩
          · exact ⟨rfl, fun u h => h⟩
          · exact ⟨rfl, fun u h => h⟩
          · exact Bool.noConfusion (hLi.symm.trans hj)
          · exact Bool.noConfusion (hLi.symm.trans (hcl 10 _ rfl hj 9 rfl))
          · exact Bool.noConfusion (hLi.symm.trans (hcl 11 _ rfl hj 9 rfl))
          · exact ⟨rfl, fun u h => h⟩
        · intro L y a wx hSt hLi hdl hcl hold hdep K hK
          have la : L 8 = true := hdl 8 rfl; have lb : L 9 = true := hdl 9 rfl; have lc : L 4 = true := hdl 4 rfl; rw [la, lb, lc, hLi] at hSt; have HSt : Hid (St2 W D ic id true true true false (L 11) y wx) := hSt; clear hSt; obtain ⟨v23, t23, q23⟩ := hdep 6 rfl _ 23 rfl rfl; have e23 : v23 = (.agg #[.int .i64 y.k, .string y.n, .slice y.sl y.ks.length y.cp]) := q23 rfl; subst e23; obtain ⟨v5, t5, q5⟩ := hdep 8 rfl _ 5 rfl rfl; have e5 : v5 = (.pointer (some ⟨y.b4, 0, none⟩)) := q5 rfl; subst e5; obtain ⟨c0, c1, c2, z0, z1, z2⟩ := blk3 HSt.out.w4; clear hold hdep hdl hcl; go_simp; (refine hK.out undef _ y (by show St2 W D ic id (L 8) (L 9) (L 4) true (L 11) _ _; rw [la, lb, lc]; exact HSt.out.put4) trivial ?_); intro j hj hl
          rcases j with _ | _ | _ | _ | _ | _ | _ | _ | _ | _ | _ | _ | j
          · exact ⟨rfl, fun u h => h⟩
          · exact ⟨rfl, fun u h => h⟩
          · exact ⟨rfl, fun u h => h⟩
          · exact ⟨rfl, fun u h => h⟩
          · exact ⟨rfl, fun u h => h⟩
          · exact ⟨rfl, fun u h => h⟩
          · exact ⟨rfl, fun u h => h⟩
          · exact ⟨rfl, fun u h => h⟩
          · exact ⟨rfl, fun u h => h⟩
          · exact ⟨rfl, fun u h => h⟩
          · exact ⟨rfl, fun u h => h⟩
          · exact ⟨rfl, fun u h => h⟩
          · exact ⟨rfl, fun u h => h⟩
        · intro L y a wx hSt hLi hdl hcl hold hdep K hK
          have la : L 8 = true := hdl 8 rfl; have lb : L 9 = true := hdl 9 rfl; have lc : L 4 = true := hdl 4 rfl; rw [la, lb, lc, hLi] at hSt; have HSt : Hid (St2 W D ic id true true true (L 10) false y wx) := hSt; clear hSt; obtain ⟨v24, t24, q24⟩ := hdep 7 rfl _ 24 rfl rfl; have e24 : v24 = (.agg #[.int .i64 ic, .int .i64 id]) := q24 rfl; subst e24; obtain ⟨v6, t6, q6⟩ := hdep 9 rfl _ 6 rfl rfl; have e6 : v6 = (.pointer (some ⟨y.b5, 0, none⟩)) := q6 rfl; subst e6; obtain ⟨c0, c1, z0, z1⟩ := blk2 HSt.out.w5; clear hold hdep hdl hcl; go_simp; (refine hK.out undef _ y (by show St2 W D ic id (L 8) (L 9) (L 4) (L 10) true _ _; rw [la, lb, lc]; exact HSt.out.put5) trivial ?_); intro j hj hl
          rcases j with _ | _ | _ | _ | _ | _ | _ | _ | _ | _ | _ | _ | j
          · exact ⟨rfl, fun u h => h⟩
          · exact ⟨rfl, fun u h => h⟩
          · exact ⟨rfl, fun u h => h⟩
          · exact ⟨rfl, fun u h => h⟩
          · exact ⟨rfl, fun u h => h⟩
          · exact ⟨rfl, fun u h => h⟩
          · exact ⟨rfl, fun u h => h⟩
          · exact ⟨rfl, fun u h => h⟩
          · exact ⟨rfl, fun u h => h⟩
          · exact ⟨rfl, fun u h => h⟩
          · exact ⟨rfl, fun u h => h⟩
          · exact ⟨rfl, fun u h => h⟩
          · exact ⟨rfl, fun u h => h⟩
      · intro L y a wx hall hSt hsz hdf hold hgot
        (have la : L 8 = true := hall 8 (by decide)); (have lb : L 9 = true := hall 9 (by decide)); (have lc : L 4 = true := hall 4 (by decide)); (have ld : L 10 = true := hall 10 (by decide)); (have le : L 11 = true := hall 11 (by decide)); rw [la, lb, lc, ld, le] at hSt; have hE2 := hSt.fin HOf.out; obtain ⟨v5, t5, q5⟩ := hgot 8 _ 5 rfl rfl; have e5 : v5 = .pointer (some ⟨y.b4, 0, none⟩) := q5 rfl; obtain ⟨v6, t6, q6⟩ := hgot 9 _ 6 rfl rfl; have e6 : v6 = .pointer (some ⟨y.b5, 0, none⟩) := q6 rfl; subst e5 e6; obtain ⟨g0, b4, b5, k5, n5, ks5, sl5, cp5⟩ := y; simp only at hE2 t5 t6; have HE : Hid (End2 W D ic id b4 b5 k5 n5 ks5 sl5 cp5 wx) := hE2; clear hSt hE2; obtain ⟨tm, df⟩ := a; (obtain ⟨ys, zs, hys, hzs, htm, rfl⟩ := frame_two 5 2 10 8 7 17 25 rfl rfl rfl (by kernel_rfl) (Nat.le_of_ble_eq_true rfl) ⟨hsz, hdf, hold⟩); obtain ⟨x5, x6, rfl⟩ := rowB2 ys hys; obtain ⟨x17, x18, x19, x20, x21, x22, x23, x24, rfl⟩ := rowB8 zs hzs; simp only [List.take_succ_cons, List.take_zero, List.drop_succ_cons, List.drop_zero, List.cons_append, List.nil_append] at htm; subst htm; obtain rfl : x5 = _ := Option.some.inj t5; obtain rfl : x6 = _ := Option.some.inj t6; clear hys hzs hsz; clear hold hgot hall; have HBx : Hid (Below w.heap.size w wx) := below_join HBW.out HE.out.below; have Z0 : Hid (wx.heap[w.heap.size]? = some (.cells #[.int .i64 k, .string n, .slice sl ks.length cap] 24 (0, 0))) := below_keep HE.out.below P0.out; have Z1 : Hid (wx.heap[w.heap.size + 1]? = some (.cells #[.int .i64 kg, .string ng, .slice sg ksg.length cg] 24 (0, 0))) := below_keep HE.out.below P1.out; have Z4 : Hid (wx.heap[b4]? = some (.cells #[.int .i64 k5, .string n5, .slice sl5 ks5.length cp5] 24 (0, 0))) := HE.out.at4; have Z5 : Hid (wx.heap[b5]? = some (.cells #[.int .i64 ic, .int .i64 id] 33 (0, 0))) := HE.out.at5; (have HRd : Hid (Rep wx (fun _ => True) D (.agg #[.int .i64 k5, .string n5, .slice sl5 ks5.length cp5])) := HE.out.rep.weak fun _ _ _ => trivial); have HDe : Hid (D = .mk k5 n5 ks5) := HE.out.eq; clear HE; obtain ⟨d0, d1, d2, -⟩ := blk3 Z0.out; obtain ⟨f0, f1, f2, -⟩ := blk3 Z1.out; go_wp2_with fail; have hbm : Below wx.heap.size wx (wx.alloc (.cells #[.int .i64 k, .string n, .slice sl ks.length cap, .int .i64 kg, .string ng, .slice sg ksg.length cg] 24 (0, 0))) := (Below.refl _ _).alloc (Nat.le_refl _) _; refine (HBf.out _ _ (FL.pair2 (blk_new wx _) ((HRf.out.up HBx.out).up hbm) ((HRg.out.up HBx.out).up hbm))).mono ?_; rintro e w4 ⟨rfl, hb4⟩; have HB4 : Hid (Below wx.heap.size wx w4) := below_join hbm hb4; clear hb4 hbm d0 d1 d2 f0 f1 f2; have hy5 : b5 < w4.heap.size := lt_of_block (below_keep HB4.out Z5.out); by_cases htg : tg.1 = 0
        · have htz : tg = (0, 0) := HTz.out htg
          subst htz; obtain ⟨hm1, hm2, hm3⟩ := HNo.out sb rfl rfl; (have HNs : Hid (∀ v W, FL W v [.mk k n ks, .mk kg ng ksg] → Calls Try.prog 17 #[v] W fun e w' => ∃ x, e = .returned x ∧ TL w' x NF ∧ Below W.heap.size W w') := HNfg.out rfl); (have HMs : Hid (∀ v u z W, Rep W (fun _ => True) (.mk k n ks) v → Rep W (fun _ => True) (.mk kg ng ksg) u → SL W z NF → Calls Try.prog 18 #[v, u, z] W fun e w' => e = .returned (.bool mb) ∧ Below W.heap.size W w') := HMk.out rfl); (have HNf : Hid (∀ v W, FL W v [.mk k n ks] → Calls Try.prog 17 #[v] W fun e w' => ∃ x, e = .returned x ∧ TL w' x UF ∧ Below W.heap.size W w') := HNf0.out rfl); (have HNg : Hid (∀ v W, FL W v [.mk kg ng ksg] → Calls Try.prog 17 #[v] W fun e w' => ∃ x, e = .returned x ∧ TL w' x UG ∧ Below W.heap.size W w') := HNg0.out rfl); (have HCo : Hid (∀ v u W, SL W v UF → SL W u UG → Calls Try.prog 22 #[v, u] W fun e w' => ∃ x, e = .returned x ∧ TL w' x UC ∧ Below W.heap.size W w') := HCo0.out rfl); clear HNfg HMk HNf0 HNg0 HCo0 HNo HTn HTz htg; simp only
          go_upto_region 9 with fail
          obtain ⟨Y, hY⟩ : ∃ Y, Y = (w4.alloc (.cells #[.int .i64 0, .int .i64 0] 33 (0, 0))).alloc (.cells #[] 9 (0, 0)) := ⟨_, rfl⟩; rw [← hY]; (have hbY : Below w4.heap.size w4 Y := by rw [hY]; exact below_more (below_more (Below.refl _ _) _) _); (have HY7 : Hid (Y.heap[w4.heap.size]? = some (.cells #[.int .i64 0, .int .i64 0] 33 (0, 0))) := by rw [hY]; exact alloc_keep (blk_new w4 _) _); have HBY : Hid (Below wx.heap.size wx Y) := below_join HB4.out hbY; clear hY hbY; obtain ⟨d0, d1, d2, -⟩ := blk3 (below_keep HBY.out Z0.out); obtain ⟨f0, f1, f2, -⟩ := blk3 (below_keep HBY.out Z1.out); go_wp2_with fail; have hbm : Below Y.heap.size Y (Y.alloc (.cells #[.int .i64 k, .string n, .slice sl ks.length cap, .int .i64 kg, .string ng, .slice sg ksg.length cg] 24 (0, 0))) := (Below.refl _ _).alloc (Nat.le_refl _) _; have hbw := below_join HBx.out (below_join HBY.out hbm); refine (HNs.out _ _ (FL.pair2 (blk_new Y _) (HRf.out.up hbw) (HRg.out.up hbw))).mono ?_; rintro e w5 ⟨x9, rfl, hx9, hb5⟩; have HN5 : Hid (SL w5 x9 NF) := hx9.sl; obtain ⟨adN, cpN, rfl, -⟩ := hx9; have HB5 : Hid (Below wx.heap.size wx w5) := below_join HBY.out (below_join hbm hb5); have HY5 : Hid (w5.heap[w4.heap.size]? = some (.cells #[.int .i64 0, .int .i64 0] 33 (0, 0))) := below_keep (below_join hbm hb5) HY7.out; clear hb5 hbm hbw d0 d1 d2 f0 f1 f2 HNs HY7 HBY; obtain ⟨d0, d1, d2, -⟩ := blk3 (below_keep HB5.out Z0.out); obtain ⟨f0, f1, f2, -⟩ := blk3 (below_keep HB5.out Z1.out); go_wp2_with fail; refine (HMs.out _ _ _ _ (HRf.out.up (below_join HBx.out HB5.out)) (HRg.out.up (below_join HBx.out HB5.out)) HN5.out).mono ?_; rintro e w6 ⟨rfl, hb6⟩; have HB6 : Hid (Below wx.heap.size wx w6) := below_join HB5.out hb6; have HY6 : Hid (w6.heap[w4.heap.size]? = some (.cells #[.int .i64 0, .int .i64 0] 33 (0, 0))) := below_keep hb6 HY5.out; have HN6 : Hid (SL w6 (.slice adN NF.length cpN) NF) := HN5.out.up hb6; clear hb6 d0 d1 d2 f0 f1 f2 HMs HN5 HB5 HY5
          cases sb
          · have hmb : mb = true := hm1
            subst hmb
            have hic : ic = 0 ∧ id = 0 := by
              have : (ic, id) = ((0 : Int), (0 : Int)) := hm2; exact ⟨congrArg Prod.fst this, congrArg Prod.snd this⟩
            obtain ⟨rfl, rfl⟩ := hic; obtain ⟨hk1, hk2, hk3⟩ := HOk.out rfl; (have HPl : Hid (∀ v u W, Rep W (fun _ => True) D v → SL W u UC → Calls Try.prog 21 #[v, u] W fun e w' => e = .returned (.bool true) ∧ Below W.heap.size W w') := hk1); (have HM1 : Hid (∀ v u z W, Rep W (fun _ => True) (.mk k n ks) v → Rep W (fun _ => True) D u → SL W z NF → Calls Try.prog 18 #[v, u, z] W fun e w' => e = .returned (.bool true) ∧ Below W.heap.size W w') := hk2); (have HM2 : Hid (∀ v u z W, Rep W (fun _ => True) D v → Rep W (fun _ => True) (.mk kg ng ksg) u → SL W z NF → Calls Try.prog 18 #[v, u, z] W fun e w' => e = .returned (.bool true) ∧ Below W.heap.size W w') := hk3); clear hm1 hm2 hm3 hk1 hk2 hk3 HOk; have Q0 : Hid (w6.heap[w.heap.size]? = some (.cells #[.int .i64 k, .string n, .slice sl ks.length cap] 24 (0, 0))) := below_keep HB6.out Z0.out; have Q1 : Hid (w6.heap[w.heap.size + 1]? = some (.cells #[.int .i64 kg, .string ng, .slice sg ksg.length cg] 24 (0, 0))) := below_keep HB6.out Z1.out; have Q4 : Hid (w6.heap[b4]? = some (.cells #[.int .i64 k5, .string n5, .slice sl5 ks5.length cp5] 24 (0, 0))) := below_keep HB6.out Z4.out; have HBy : Hid (Below w.heap.size w w6) := below_join HBx.out HB6.out; (have RF : Hid (∀ wx, Below w6.heap.size w6 wx → Rep wx (fun _ => True) (.mk k n ks) (.agg #[.int .i64 k, .string n, .slice sl ks.length cap])) := fun wx h => (HRf.out.up HBy.out).up h); (have RG : Hid (∀ wx, Below w6.heap.size w6 wx → Rep wx (fun _ => True) (.mk kg ng ksg) (.agg #[.int .i64 kg, .string ng, .slice sg ksg.length cg])) := fun wx h => (HRg.out.up HBy.out).up h); (have RD : Hid (∀ wx, Below w6.heap.size w6 wx → Rep wx (fun _ => True) D (.agg #[.int .i64 k5, .string n5, .slice sl5 ks5.length cp5])) := fun wx h => (HRd.out.up HB6.out).up h); (have RN : Hid (∀ wx, Below w6.heap.size w6 wx → SL wx (.slice adN NF.length cpN) NF) := fun wx h => HN6.out.up h); obtain ⟨m0, m1, -⟩ := blk2 (below_keep HB6.out Z5.out); obtain ⟨o0, o1, -⟩ := blk2 HY6.out; go_wp2_with fail; clear m0 m1 o0 o1; (refine wp_region_free (by kernel_rfl) [kE (.agg #[.int .i64 k5, .string n5, .slice sl5 ks5.length cp5]), kE (.agg #[.int .i64 k, .string n, .slice sl ks.length cap]), kL1 (.mk k n ks), kS UF, kE (.agg #[.int .i64 kg, .string ng, .slice sg ksg.length cg]), kL1 (.mk kg ng ksg), kS UG, kS UC, kE (.bool true), kE (.bool true), kE (.agg #[.int .i64 k, .string n, .slice sl ks.length cap]), kE (.agg #[.int .i64 k5, .string n5, .slice sl5 ks5.length cp5]), kE (.slice adN NF.length cpN), kE (.bool true), kE (.bool true), kE (.bool true), kE (.agg #[.int .i64 k5, .string n5, .slice sl5 ks5.length cp5]), kE (.agg #[.int .i64 kg, .string ng, .slice sg ksg.length cg]), kE (.slice adN NF.length cpN), kE (.bool true), kE (.bool true), kE (.bool true)] ?_ (by kernel_rfl) (by kernel_rfl) 72 rfl (by kernel_rfl) ?_ ?_)
            · intro p hp
              simp only [List.mem_cons, List.not_mem_nil, or_false] at hp
              rcases hp with rfl | rfl | rfl | rfl | rfl | rfl | rfl | rfl | rfl | rfl | rfl | rfl | rfl | rfl | rfl | rfl | rfl | rfl | rfl | rfl | rfl | rfl
              all_goals first | exact kE_stays _ | exact kN_stays | exact kS_stays _ | exact kL1_stays _
            · refine ⟨?_, ?_, ?_, ?_, ?_, ?_, ?_, ?_, ?_, ?_, ?_, ?_, ?_, ?_, ?_, ?_, ?_, ?_, ?_, ?_, ?_, ?_, trivial⟩
              · intro a wx hB hold hdep K hK; have t5 : a.tmps[5]? = some (.pointer (some ⟨b4, 0, none⟩)) := hold.2.2 5 rfl; obtain ⟨c0, c1, c2, -⟩ := blk3 (below_keep hB Q4.out); clear hold hdep; go_simp; exact hK.out _ _ rfl (Below.refl _ _)
              · intro a wx hB hold hdep K hK; have t2 : a.tmps[2]? = some (.pointer (some ⟨w.heap.size, 0, none⟩)) := hold.2.2 2 rfl; obtain ⟨c0, c1, c2, -⟩ := blk3 (below_keep hB Q0.out); clear hold hdep; go_simp; exact hK.out _ _ rfl (Below.refl _ _)
              · intro a wx hB hold hdep K hK; have t52 := dep_e wx (hdep 1 rfl _ 52 rfl rfl); clear hold hdep; go_simp; have hbm : Below wx.heap.size wx (wx.alloc (.cells #[.int .i64 k, .string n, .slice sl ks.length cap] 24 (0, 0))) := (Below.refl _ _).alloc (Nat.le_refl _) _; exact hK.out _ _ ⟨_, rfl, FL.alone (blk_new wx _) (((RF.out wx hB).up hbm))⟩ hbm
              · intro a wx hB hold hdep K hK; obtain ⟨v53, t53, g53, e53, r53⟩ := hdep 2 rfl _ 53 rfl rfl; subst e53; have HL : Hid (FL wx (.slice (some ⟨g53, 0, none⟩) 1 1) [.mk k n ks]) := r53; clear r53; clear hold hdep; go_simp; refine (HNf.out _ wx HL.out).mono ?_; rintro e w9 ⟨x9, rfl, hx9, hb9⟩; obtain ⟨ad9, cp9, e9, h9⟩ := hx9.sl; subst e9; exact hK.out _ _ ⟨_, _, _, rfl, ad9, cp9, rfl, h9⟩ hb9
              · intro a wx hB hold hdep K hK; have t3 : a.tmps[3]? = some (.pointer (some ⟨w.heap.size + 1, 0, none⟩)) := hold.2.2 3 rfl; obtain ⟨c0, c1, c2, -⟩ := blk3 (below_keep hB Q1.out); clear hold hdep; go_simp; exact hK.out _ _ rfl (Below.refl _ _)
              · intro a wx hB hold hdep K hK; have t55 := dep_e wx (hdep 4 rfl _ 55 rfl rfl); clear hold hdep; go_simp; have hbm : Below wx.heap.size wx (wx.alloc (.cells #[.int .i64 kg, .string ng, .slice sg ksg.length cg] 24 (0, 0))) := (Below.refl _ _).alloc (Nat.le_refl _) _; exact hK.out _ _ ⟨_, rfl, FL.alone (blk_new wx _) (((RG.out wx hB).up hbm))⟩ hbm
              · intro a wx hB hold hdep K hK; obtain ⟨v56, t56, g56, e56, r56⟩ := hdep 5 rfl _ 56 rfl rfl; subst e56; have HL : Hid (FL wx (.slice (some ⟨g56, 0, none⟩) 1 1) [.mk kg ng ksg]) := r56; clear r56; clear hold hdep; go_simp; refine (HNg.out _ wx HL.out).mono ?_; rintro e w9 ⟨x9, rfl, hx9, hb9⟩; obtain ⟨ad9, cp9, e9, h9⟩ := hx9.sl; subst e9; exact hK.out _ _ ⟨_, _, _, rfl, ad9, cp9, rfl, h9⟩ hb9
              · intro a wx hB hold hdep K hK; obtain ⟨v54, t54, ad4, m4, cp4, e54, r54⟩ := hdep 3 rfl _ 54 rfl rfl; obtain ⟨v57, t57, ad7, m7, cp7, e57, r57⟩ := hdep 6 rfl _ 57 rfl rfl; subst e54 e57; have HL : Hid (SL wx (.slice ad4 m4 cp4) UF) := r54; have HM : Hid (SL wx (.slice ad7 m7 cp7) UG) := r57; clear r54 r57; clear hold hdep; go_simp; refine (HCo.out _ _ wx HL.out HM.out).mono ?_; rintro e w9 ⟨x9, rfl, hx9, hb9⟩; obtain ⟨ad9, cp9, e9, h9⟩ := hx9.sl; subst e9; exact hK.out _ _ ⟨_, _, _, rfl, ad9, cp9, rfl, h9⟩ hb9
              · intro a wx hB hold hdep K hK; have t51 := dep_e wx (hdep 0 rfl _ 51 rfl rfl); obtain ⟨v58, t58, ad8, m8, cp8, e58, r58⟩ := hdep 7 rfl _ 58 rfl rfl; subst e58; have HL : Hid (SL wx (.slice ad8 m8 cp8) UC) := r58; clear r58; clear hold hdep; go_simp; refine (HPl.out _ _ wx (RD.out wx hB) HL.out).mono ?_; rintro e w9 ⟨rfl, hb9⟩; exact hK.out _ _ rfl hb9
              · intro a wx hB hold hdep K hK; have t59 := dep_e wx (hdep 8 rfl _ 59 rfl rfl); clear hold hdep; go_simp; exact hK.out _ _ rfl (Below.refl _ _)
              · intro a wx hB hold hdep K hK; have t60 := dep_e wx (hdep 9 rfl _ 60 rfl rfl); have t2 : a.tmps[2]? = some (.pointer (some ⟨w.heap.size, 0, none⟩)) := hold.2.2 2 rfl; obtain ⟨c0, c1, c2, -⟩ := blk3 (below_keep hB Q0.out); clear hold hdep; go_simp; exact hK.out _ _ rfl (Below.refl _ _)
              · intro a wx hB hold hdep K hK; have t60 := dep_e wx (hdep 9 rfl _ 60 rfl rfl); have t5 : a.tmps[5]? = some (.pointer (some ⟨b4, 0, none⟩)) := hold.2.2 5 rfl; obtain ⟨c0, c1, c2, -⟩ := blk3 (below_keep hB Q4.out); clear hold hdep; go_simp; exact hK.out _ _ rfl (Below.refl _ _)
              · intro a wx hB hold hdep K hK; have t60 := dep_e wx (hdep 9 rfl _ 60 rfl rfl); have t8 : a.tmps[8]? = some (.slice adN NF.length cpN) := hold.2.2 8 rfl; clear hold hdep; go_simp; exact hK.out _ _ rfl (Below.refl _ _)
              · intro a wx hB hold hdep K hK; have t60 := dep_e wx (hdep 9 rfl _ 60 rfl rfl); have t61 := dep_e wx (hdep 10 rfl _ 61 rfl rfl); have t62 := dep_e wx (hdep 11 rfl _ 62 rfl rfl); have t63 := dep_e wx (hdep 12 rfl _ 63 rfl rfl); clear hold hdep; go_simp; refine (HM1.out _ _ _ wx (RF.out wx hB) (RD.out wx hB) (RN.out wx hB)).mono ?_; rintro e w9 ⟨rfl, hb9⟩; exact hK.out _ _ rfl hb9
              · intro a wx hB hold hdep K hK; have t60 := dep_e wx (hdep 9 rfl _ 60 rfl rfl); have t64 := dep_e wx (hdep 13 rfl _ 64 rfl rfl); clear hold hdep; go_simp; exact hK.out _ _ rfl (Below.refl _ _)
              · intro a wx hB hold hdep K hK; have t65 := dep_e wx (hdep 14 rfl _ 65 rfl rfl); clear hold hdep; go_simp; exact hK.out _ _ rfl (Below.refl _ _)
              · intro a wx hB hold hdep K hK; have t66 := dep_e wx (hdep 15 rfl _ 66 rfl rfl); have t5 : a.tmps[5]? = some (.pointer (some ⟨b4, 0, none⟩)) := hold.2.2 5 rfl; obtain ⟨c0, c1, c2, -⟩ := blk3 (below_keep hB Q4.out); clear hold hdep; go_simp; exact hK.out _ _ rfl (Below.refl _ _)
              · intro a wx hB hold hdep K hK; have t66 := dep_e wx (hdep 15 rfl _ 66 rfl rfl); have t3 : a.tmps[3]? = some (.pointer (some ⟨w.heap.size + 1, 0, none⟩)) := hold.2.2 3 rfl; obtain ⟨c0, c1, c2, -⟩ := blk3 (below_keep hB Q1.out); clear hold hdep; go_simp; exact hK.out _ _ rfl (Below.refl _ _)
              · intro a wx hB hold hdep K hK; have t66 := dep_e wx (hdep 15 rfl _ 66 rfl rfl); have t8 : a.tmps[8]? = some (.slice adN NF.length cpN) := hold.2.2 8 rfl; clear hold hdep; go_simp; exact hK.out _ _ rfl (Below.refl _ _)
              · intro a wx hB hold hdep K hK; have t66 := dep_e wx (hdep 15 rfl _ 66 rfl rfl); have t67 := dep_e wx (hdep 16 rfl _ 67 rfl rfl); have t68 := dep_e wx (hdep 17 rfl _ 68 rfl rfl); have t69 := dep_e wx (hdep 18 rfl _ 69 rfl rfl); clear hold hdep; go_simp; refine (HM2.out _ _ _ wx (RD.out wx hB) (RG.out wx hB) (RN.out wx hB)).mono ?_; rintro e w9 ⟨rfl, hb9⟩; exact hK.out _ _ rfl hb9
              · intro a wx hB hold hdep K hK; have t66 := dep_e wx (hdep 15 rfl _ 66 rfl rfl); have t70 := dep_e wx (hdep 19 rfl _ 70 rfl rfl); clear hold hdep; go_simp; exact hK.out _ _ rfl (Below.refl _ _)
              · intro a wx hB hold hdep K hK; have t71 := dep_e wx (hdep 20 rfl _ 71 rfl rfl); clear hold hdep; go_simp; exact hK.out _ _ rfl (Below.refl _ _)
            · intro a wx hB hold hgot
              (obtain ⟨v4, t4, p4⟩ := hgot 21 _ 4 rfl rfl; have e4 : v4 = (.bool true) := p4; subst e4; have hD : a.defers = [] := hold.2.1; have BF := below_join HBy.out hB; clear hold hgot p4; go_wp2_with fail; exact bodyPost_ret (v := .bool true) (by simp [results, Try.results4, go_sem, t4]) hD ⟨rfl, BF⟩)
          · have hmb : mb = false := hm1
            subst hmb
            have hic : ic = 7 ∧ id = 0 := by
              have : (ic, id) = ((7 : Int), (0 : Int)) := hm2; exact ⟨congrArg Prod.fst this, congrArg Prod.snd this⟩
            obtain ⟨rfl, rfl⟩ := hic; have HDz : Hid (D = zF) := hm3 rfl; clear hm1 hm2 hm3; obtain ⟨o0, o1, o2, o3⟩ := blk2 HY6.out; go_wp2_with fail; refine (mkF_any 7 0 _).mono ?_; rintro e w7 ⟨rfl, hb7⟩; have q7 := below_keep hb7 HY6.out; have HB7 : Hid (Below wx.heap.size wx w7) := below_join HB6.out hb7; have hy4 : b4 < w4.heap.size := lt_of_block (below_keep HB4.out Z4.out); have s7 := set2 q7 (.int .i64 7) (.int .i64 0); (have n4 := (far2 (W := w7) (r := w4.heap.size) (x := b4) (by omega) (.int .i64 7) (.int .i64 0)).trans (below_keep HB7.out Z4.out)); (have n5' := (far2 (W := w7) (r := w4.heap.size) (x := b5) (by omega) (.int .i64 7) (.int .i64 0)).trans (below_keep HB7.out Z5.out)); have hsz4 : w.heap.size ≤ w4.heap.size := (below_join HBx.out HB4.out).size; have bN := below_put2 (w := w) (r := w4.heap.size) hsz4 (below_join HBx.out HB7.out) (.int .i64 7) (.int .i64 0); (have HRz : Hid (∀ W, Rep W (fun _ => True) zF (.agg #[.int .i64 0, .string ⟨#[]⟩, .slice none 0 0])) := fun W => rep_zF W); clear o0 o1 o2 o3 hb7; obtain ⟨o0, o1, o2, o3⟩ := blk2 q7
            go_upto_region 12 with fail
            obtain ⟨F, hF⟩ : ∃ F, F = (w7.setCell ⟨w4.heap.size, 0, none⟩ (.int .i64 7)).setCell ⟨w4.heap.size, 1, none⟩ (.int .i64 0) := ⟨_, rfl⟩; rw [← hF] at s7 n4 n5' bN ⊢; have N4 : Hid (F.heap[b4]? = some _) := n4; have N5 : Hid (F.heap[b5]? = some _) := n5'; have N7 : Hid (F.heap[w4.heap.size]? = some _) := s7; have HBN : Hid (Below w.heap.size w F) := bN; clear hF s7 n4 n5' bN q7 o0 o1 o2 o3; have hDz := HDe.out; rw [HDz.out] at hDz; unfold zF at hDz
            injection hDz with e1 e2 e3
            subst e1 e2 e3; (have hrF : Rep F (fun _ => True) (.mk 0 ⟨#[]⟩ []) (.agg #[.int .i64 0, .string ⟨#[]⟩, .slice sl5 0 cp5]) := rep_leafW (w := wx) (by have := HRd.out; rw [HDz.out] at this; exact this)); (have HRF : Hid (Rep F (fun _ => True) (.mk 0 ⟨#[]⟩ []) (.agg #[.int .i64 0, .string ⟨#[]⟩, .slice sl5 0 cp5])) := hrF); clear hrF; obtain ⟨c0, c1, c2, -⟩ := blk3 N4.out; obtain ⟨m0, m1, -⟩ := blk2 N5.out; obtain ⟨o0, o1, -⟩ := blk2 N7.out; go_wp2_with fail; refine (none_any 0 ⟨#[]⟩ [] _ _ HRF.out).mono ?_; rintro e w9 ⟨rfl, hb9⟩; have B9 := below_join HBN.out hb9; clear hb9 c0 c1 c2 m0 m1 o0 o1; go_wp2_with fail; go_ret; exact ⟨rfl, B9⟩
        · obtain ⟨hm1, hm2⟩ := HTn.out htg
          obtain ⟨tc, td⟩ := tg; simp only at htg; have hic : ic = tc ∧ id = td := ⟨congrArg Prod.fst hm1, congrArg Prod.snd hm1⟩; obtain ⟨rfl, rfl⟩ := hic; have HDz : Hid (D = zF) := hm2; (have hcn : (ic == 0) = false := by simpa using htg); (have hcm : (ic != 0) = true := by simpa using htg); clear hm1 hm2 HNfg HMk HNf0 HNg0 HCo0 HNo HTn HTz HOk; simp only
          go_upto_region 12 with fail
          obtain ⟨F, hF⟩ : ∃ F, F = (w4.alloc (.cells #[.int .i64 ic, .int .i64 id] 33 (0, 0))).alloc (.cells #[] 9 (0, 0)) := ⟨_, rfl⟩; rw [← hF]; (have hbF : Below w4.heap.size w4 F := by rw [hF]; exact below_more (below_more (Below.refl _ _) _) _); (have N7 : Hid (F.heap[w4.heap.size]? = some (.cells #[.int .i64 ic, .int .i64 id] 33 (0, 0))) := by rw [hF]; exact alloc_keep (blk_new w4 _) _); have hbG := below_join HB4.out hbF; have N4 : Hid (F.heap[b4]? = some _) := below_keep hbG Z4.out; have N5 : Hid (F.heap[b5]? = some _) := below_keep hbG Z5.out; have HBN : Hid (Below w.heap.size w F) := below_join HBx.out hbG; clear hF hbF hbG; have hDz := HDe.out; rw [HDz.out] at hDz; unfold zF at hDz
          injection hDz with e1 e2 e3
          subst e1 e2 e3; (have hrF : Rep F (fun _ => True) (.mk 0 ⟨#[]⟩ []) (.agg #[.int .i64 0, .string ⟨#[]⟩, .slice sl5 0 cp5]) := rep_leafW (w := wx) (by have := HRd.out; rw [HDz.out] at this; exact this)); (have HRF : Hid (Rep F (fun _ => True) (.mk 0 ⟨#[]⟩ []) (.agg #[.int .i64 0, .string ⟨#[]⟩, .slice sl5 0 cp5])) := hrF); clear hrF; obtain ⟨c0, c1, c2, -⟩ := blk3 N4.out; obtain ⟨m0, m1, -⟩ := blk2 N5.out; obtain ⟨o0, o1, -⟩ := blk2 N7.out; go_wp2_with fail; refine (none_any 0 ⟨#[]⟩ [] _ _ HRF.out).mono ?_; rintro e w9 ⟨rfl, hb9⟩; have B9 := below_join HBN.out hb9; clear hb9 c0 c1 c2 m0 m1 o0 o1; go_wp2_with fail; go_ret; exact ⟨rfl, B9⟩
end Go.Proofs.Ytffkoiemnchdgae
