/- Texts of one proof, one behind the other: BL5. -/
import Derived.Test.YtffkoiemnchdgaeB38
import Derived.Test.YtffkoiemnchdgaeB37
import Derived.Test.YtffkoiemnchdgaeB24
/- Walks: betweenBegun. -/
namespace Go.Proofs.Ytffkoiemnchdgae
open Go.RowKit Go.Sort

def fR : Fm := .mk 1 ⟨#[114]⟩ []
def fPandQ : Fm := .mk 5 ⟨#[]⟩ [fP, fQ]
def fPorR : Fm := .mk 6 ⟨#[]⟩ [fP, fR]
/-- What stands between the two. -/
def DB : Fm := projF fPandQ (nmsU fPorR)
theorem made_pcode {l : List (List UInt8)} {s : Nat} {f : Fm} (h : MadeF l s f) (hs : s ≤ 200) : f.pcode.1 = 0 := by
  (rw [pcode_of (chk_fine f 0 h.fine (by have := h.size; omega)) h.plain])
theorem madePQ : MadeF [[112], [113], [114]] 3 fPandQ := made_two (Or.inl rfl) ((made_var (n := [112]) (by decide)).mono (fun t h => by simp at h; simp [h]) (Nat.le_refl _)) ((made_var (n := [113]) (by decide)).mono (fun t h => by simp at h; simp [h]) (Nat.le_refl _))
theorem madePR : MadeF [[112], [113], [114]] 3 fPorR := made_two (Or.inr (Or.inl rfl)) ((made_var (n := [112]) (by decide)).mono (fun t h => by simp at h; simp [h]) (Nat.le_refl _)) ((made_var (n := [114]) (by decide)).mono (fun t h => by simp at h; simp [h]) (Nat.le_refl _))
theorem tPQ : nmsT fPandQ = [[112], [113]] := by decide +kernel
theorem tPR : nmsT fPorR = [[112], [114]] := by decide +kernel
theorem uPQ : nmsU fPandQ = [[112], [113]] := rising_ext (nmsU_rising _) (by decide) fun t => by rw [nmsU_mem, tPQ]
theorem uPR : nmsU fPorR = [[112], [114]] := rising_ext (nmsU_rising _) (by decide) fun t => by rw [nmsU_mem, tPR]
theorem fPQR : nmsF [fPandQ, fPorR] = [[112], [113], [114]] := rising_ext (nmsF_rising _) (by decide) fun t => by
  rw [nmsF_mem]; simp only [List.mem_cons, List.not_mem_nil, or_false, exists_eq_or_imp, exists_eq_left, tPQ, tPR]
  constructor
  · rintro ((h | h) | (h | h)) <;> simp [h]
  · rintro (h | h | h) <;> simp [h]
theorem begun_tg : (tgcode [fPandQ, fPorR]).1 = 0 := by
  unfold tgcode
  rw [pfirst_ok _ (fun f hf => by
    simp only [List.mem_cons, List.not_mem_nil, or_false] at hf
    rcases hf with rfl | rfl
    · exact made_pcode madePQ (by omega)
    · exact made_pcode madePR (by omega)), if_pos rfl, fPQR]
  rfl
theorem begun_some : someL (fun l => tvL fPandQ l && !tvL fPorR l) (nmsF [fPandQ, fPorR]) [] = false := by
  rw [fPQR]; decide +kernel
theorem begun_eq : DB = fP := by
  unfold DB projF; rw [uPQ, uPR]; rfl
theorem begun_made : MadeF [[112]] 1 DB := by rw [begun_eq]; exact made_var (n := [112]) (by decide)
theorem begun_t1 : tv (fun t => decide (t ∈ ([[112]] : List (List UInt8)))) DB = true := by rw [begun_eq]; decide +kernel
theorem begun_t0 : tv (fun t => decide (t ∈ ([] : List (List UInt8)))) DB = false := by rw [begun_eq]; decide +kernel
set_option maxRecDepth 10000 in
set_option maxHeartbeats 8000000 in
theorem betweenBegun_any (w : World) : Calls Try.prog 12 #[] w fun e w' => e = .returned (.bool true) ∧ Below w.heap.size w w' := by
  (have HN1 : Hid (∀ W, Calls Try.prog 38 #[.string ⟨#[112]⟩] W _) := fun W => named_any ⟨#[112]⟩ W); (have HN2 : Hid (∀ W, Calls Try.prog 38 #[.string ⟨#[113]⟩] W _) := fun W => named_any ⟨#[113]⟩ W); (have HN3 : Hid (∀ W, Calls Try.prog 38 #[.string ⟨#[114]⟩] W _) := fun W => named_any ⟨#[114]⟩ W)
  go_enter Try.func12, Try.ntmps12
  go_wp2_with fail; refine (HN1.out _).mono ?_; rintro e w1 ⟨rfl, hb1⟩; go_wp2_with fail; refine (HN2.out _).mono ?_; rintro e w2 ⟨rfl, hb2⟩; go_wp2_with fail; refine (HN3.out _).mono ?_; rintro e wz ⟨rfl, hb3⟩; have HB2 : Hid (Below w.heap.size w wz) := below_join (below_join hb1 hb2) hb3; clear hb1 hb2 hb3 HN1 HN2 HN3; go_wp2_with fail; obtain ⟨p1, p2, p3, psz, PB⟩ := chain3 wz (.cells #[.int .i64 1, .string ⟨#[112]⟩, .slice none 0 0] 24 (0, 0)) (.cells #[.int .i64 1, .string ⟨#[113]⟩, .slice none 0 0] 24 (0, 0)) (.cells #[.int .i64 1, .string ⟨#[114]⟩, .slice none 0 0] 24 (0, 0)); obtain ⟨W, hW⟩ : ∃ W, W = ((wz.alloc (.cells #[.int .i64 1, .string ⟨#[112]⟩, .slice none 0 0] 24 (0, 0))).alloc (.cells #[.int .i64 1, .string ⟨#[113]⟩, .slice none 0 0] 24 (0, 0))).alloc (.cells #[.int .i64 1, .string ⟨#[114]⟩, .slice none 0 0] 24 (0, 0)) := ⟨_, rfl⟩; rw [← hW] at p1 p2 p3 PB ⊢; have HBW : Hid (Below w.heap.size w W) := below_join HB2.out PB; have P1 : Hid (W.heap[wz.heap.size]? = some _) := p1; have P2 : Hid (W.heap[wz.heap.size + 1]? = some _) := p2; have P3 : Hid (W.heap[wz.heap.size + 1 + 1]? = some _) := p3; clear hW HB2 p1 p2 p3 PB psz; (have HB2 : Hid (∀ W, Calls Try.prog 39 #[.int .i64 5, .agg #[.int .i64 1, .string ⟨#[112]⟩, .slice none 0 0], .agg #[.int .i64 1, .string ⟨#[113]⟩, .slice none 0 0]] W fun e w' => ∃ x, e = .returned x ∧ Rep w' (fun _ => True) fPandQ x ∧ Below W.heap.size W w') := fun W => both_any 5 fP fQ _ _ W (Rep.leaf (by simp [maxLen, ByteArray.size])) (Rep.leaf (by simp [maxLen, ByteArray.size]))); (have HB5 : Hid (∀ W, Calls Try.prog 39 #[.int .i64 6, .agg #[.int .i64 1, .string ⟨#[112]⟩, .slice none 0 0], .agg #[.int .i64 1, .string ⟨#[114]⟩, .slice none 0 0]] W fun e w' => ∃ x, e = .returned x ∧ Rep w' (fun _ => True) fPorR x ∧ Below W.heap.size W w') := fun W => both_any 6 fP fR _ _ W (Rep.leaf (by simp [maxLen, ByteArray.size])) (Rep.leaf (by simp [maxLen, ByteArray.size])))
  have HIn : Hid (∀ v u W, Rep W (fun _ => True) fPandQ v → Rep W (fun _ => True) fPorR u → Calls Try.prog 14 #[v, u] W fun e w' => (∃ x, e = .returned (.tuple #[x, .agg #[.int .i64 0, .int .i64 0]]) ∧ Rep w' (fun _ => True) DB x ∧ Below W.heap.size W w')) := fun v u W h h' => by
    refine (inter_ok fPandQ fPorR v u W h h' begun_tg begun_some).mono ?_; rintro e w' ⟨x, rfl, hx, hb⟩; exact ⟨x, rfl, hx, hb⟩
  (have HPl : Hid (∀ v u W, Rep W (fun _ => True) DB v → SL W u [[112]] → Calls Try.prog 21 #[v, u] W _) := fun v u W h h' => plainAns_any DB [[112]] [[112]] 1 begun_made (by omega) (fun t h => h) v u W h h')
  have HT1 : Hid (∀ v u W, Rep W (fun _ => True) DB v → SL W u [[112]] → Calls Try.prog 26 #[v, u] W fun e w' => e = .returned (.bool true) ∧ Below W.heap.size W w') := fun v u W h h' => by
    have := trueR_any [[112]] DB v u W begun_made.fine h h'
    rwa [begun_t1] at this
  have HT0 : Hid (∀ v u W, Rep W (fun _ => True) DB v → SL W u [] → Calls Try.prog 26 #[v, u] W fun e w' => e = .returned (.bool false) ∧ Below W.heap.size W w') := fun v u W h h' => by
    have := trueR_any [] DB v u W begun_made.fine h h'
    rwa [begun_t0] at this
  have HOf : Hid (OffOk DB) := Or.inl begun_made.fine; (refine wp_region_gh (by kernel_rfl) (by kernel_rfl) (by kernel_rfl) 37 rfl (by kernel_rfl) [fun _ v _ => v = (.agg #[.int .i64 1, .string ⟨#[112]⟩, .slice none 0 0]), fun _ v _ => v = (.agg #[.int .i64 1, .string ⟨#[113]⟩, .slice none 0 0]), gF fPandQ, fun _ v _ => v = (.agg #[.int .i64 1, .string ⟨#[112]⟩, .slice none 0 0]), fun _ v _ => v = (.agg #[.int .i64 1, .string ⟨#[114]⟩, .slice none 0 0]), gF fPorR, fun y v _ => v = .tuple #[y.x, .agg #[.int .i64 0, .int .i64 0]], fun y v _ => v = .tuple #[y.x, .agg #[.int .i64 0, .int .i64 0]], fun y v _ => v = y.x, fun y v _ => v = .agg #[.int .i64 0, .int .i64 0], fun y v _ => v = .pointer (some ⟨y.b4, 0, none⟩), fun y v _ => v = .pointer (some ⟨y.b5, 0, none⟩), fun _ _ _ => True, fun _ _ _ => True] (fun _ _ => true) (fun L => St2 W DB 0 0 (L 10) (L 11) (L 6) (L 12) (L 13)) (⟨W, 0, 0, 0, ⟨#[]⟩, [], none, 0⟩) ?_ ?_ ?_)
  · exact fun wx h h' => St2.init h h' _ rfl
  · refine ⟨?_, ?_, ?_, ?_, ?_, ?_, ?_, ?_, ?_, ?_, ?_, ?_, ?_, ?_, trivial⟩
    · intro L y a wx hSt hLi hdl hcl hold hdep K hK
      (have l4 : L 12 = false := not_yet hLi fun h => hcl 12 _ rfl h 0 rfl); (have l5 : L 13 = false := not_yet hLi fun h => hcl 13 _ rfl h 0 rfl); rw [l4, l5] at hSt; have HSt : Hid (St2 W DB 0 0 (L 10) (L 11) (L 6) false false y wx) := hSt; clear hSt; have t1 : a.tmps[1]? = some (.pointer (some ⟨wz.heap.size, 0, none⟩)) := hold 1 rfl; obtain ⟨d0, d1, d2, -⟩ := blk3 (below_keep (below_join HSt.out.below HSt.out.eqv) P1.out); clear hold hdep hdl hcl; go_simp; (exact hK.out _ _ y (by show St2 W DB 0 0 (L 10) (L 11) (L 6) (L 12) (L 13) _ _; rw [l4, l5]; exact HSt.out) rfl (fun j hj hl => ⟨rfl, fun u h => h⟩))
    · intro L y a wx hSt hLi hdl hcl hold hdep K hK
      (have l4 : L 12 = false := not_yet hLi fun h => hcl 12 _ rfl h 1 rfl); (have l5 : L 13 = false := not_yet hLi fun h => hcl 13 _ rfl h 1 rfl); rw [l4, l5] at hSt; have HSt : Hid (St2 W DB 0 0 (L 10) (L 11) (L 6) false false y wx) := hSt; clear hSt; have t2 : a.tmps[2]? = some (.pointer (some ⟨wz.heap.size + 1, 0, none⟩)) := hold 2 rfl; obtain ⟨d0, d1, d2, -⟩ := blk3 (below_keep (below_join HSt.out.below HSt.out.eqv) P2.out); clear hold hdep hdl hcl; go_simp; (exact hK.out _ _ y (by show St2 W DB 0 0 (L 10) (L 11) (L 6) (L 12) (L 13) _ _; rw [l4, l5]; exact HSt.out) rfl (fun j hj hl => ⟨rfl, fun u h => h⟩))
    · intro L y a wx hSt hLi hdl hcl hold hdep K hK
      (have l4 : L 12 = false := not_yet hLi fun h => hcl 12 _ rfl h 2 rfl); (have l5 : L 13 = false := not_yet hLi fun h => hcl 13 _ rfl h 2 rfl); rw [l4, l5] at hSt; have HSt : Hid (St2 W DB 0 0 (L 10) (L 11) (L 6) false false y wx) := hSt; clear hSt; obtain ⟨v10, t10, q10⟩ := hdep 0 rfl _ 10 rfl rfl; have e10 : v10 = (.agg #[.int .i64 1, .string ⟨#[112]⟩, .slice none 0 0]) := q10 rfl; subst e10; obtain ⟨v11, t11, q11⟩ := hdep 1 rfl _ 11 rfl rfl; have e11 : v11 = (.agg #[.int .i64 1, .string ⟨#[113]⟩, .slice none 0 0]) := q11 rfl; subst e11; clear hold hdep hdl; go_simp; refine (HB2.out wx).mono ?_; rintro e w3 ⟨u, rfl, hu, hb3⟩; obtain ⟨sl9, cap9, rfl⟩ := slice_shape hu; (refine hK.out _ _ { y with g := w3 } (by show St2 W DB 0 0 (L 10) (L 11) (L 6) (L 12) (L 13) _ _; rw [l4, l5]; exact HSt.out.up hb3) ⟨_, _, _, sl9, cap9, rfl, rfl, hu⟩ ?_); intro j hj hl
      rcases j with _ | _ | _ | _ | _ | _ | _ | _ | _ | _ | _ | _ | _ | _ | j
      · exact ⟨rfl, fun u h => h⟩
      · exact ⟨rfl, fun u h => h⟩
      · exact Bool.noConfusion (hLi.symm.trans hj)
      · exact ⟨rfl, fun u h => h⟩
      · exact ⟨rfl, fun u h => h⟩
      · exact ⟨rfl, fun u h => gF_up (w := wx) (w' := wx) (below_join HSt.out.eqv hb3) u h⟩
      · exact ⟨rfl, fun u h => h⟩
      · exact ⟨rfl, fun u h => h⟩
      · exact ⟨rfl, fun u h => h⟩
      · exact ⟨rfl, fun u h => h⟩
      · exact ⟨rfl, fun u h => h⟩
      · exact ⟨rfl, fun u h => h⟩
      · exact ⟨rfl, fun u h => h⟩
      · exact ⟨rfl, fun u h => h⟩
      · exact ⟨rfl, fun u h => h⟩
    · intro L y a wx hSt hLi hdl hcl hold hdep K hK
      (have l4 : L 12 = false := not_yet hLi fun h => hcl 12 _ rfl h 3 rfl); (have l5 : L 13 = false := not_yet hLi fun h => hcl 13 _ rfl h 3 rfl); rw [l4, l5] at hSt; have HSt : Hid (St2 W DB 0 0 (L 10) (L 11) (L 6) false false y wx) := hSt; clear hSt; have t1 : a.tmps[1]? = some (.pointer (some ⟨wz.heap.size, 0, none⟩)) := hold 1 rfl; obtain ⟨d0, d1, d2, -⟩ := blk3 (below_keep (below_join HSt.out.below HSt.out.eqv) P1.out); clear hold hdep hdl hcl; go_simp; (exact hK.out _ _ y (by show St2 W DB 0 0 (L 10) (L 11) (L 6) (L 12) (L 13) _ _; rw [l4, l5]; exact HSt.out) rfl (fun j hj hl => ⟨rfl, fun u h => h⟩))
    · intro L y a wx hSt hLi hdl hcl hold hdep K hK
      (have l4 : L 12 = false := not_yet hLi fun h => hcl 12 _ rfl h 4 rfl); (have l5 : L 13 = false := not_yet hLi fun h => hcl 13 _ rfl h 4 rfl); rw [l4, l5] at hSt; have HSt : Hid (St2 W DB 0 0 (L 10) (L 11) (L 6) false false y wx) := hSt; clear hSt; have t3 : a.tmps[3]? = some (.pointer (some ⟨wz.heap.size + 1 + 1, 0, none⟩)) := hold 3 rfl; obtain ⟨d0, d1, d2, -⟩ := blk3 (below_keep (below_join HSt.out.below HSt.out.eqv) P3.out); clear hold hdep hdl hcl; go_simp; (exact hK.out _ _ y (by show St2 W DB 0 0 (L 10) (L 11) (L 6) (L 12) (L 13) _ _; rw [l4, l5]; exact HSt.out) rfl (fun j hj hl => ⟨rfl, fun u h => h⟩))
    · intro L y a wx hSt hLi hdl hcl hold hdep K hK
      (have l4 : L 12 = false := not_yet hLi fun h => hcl 12 _ rfl h 5 rfl); (have l5 : L 13 = false := not_yet hLi fun h => hcl 13 _ rfl h 5 rfl); rw [l4, l5] at hSt; have HSt : Hid (St2 W DB 0 0 (L 10) (L 11) (L 6) false false y wx) := hSt; clear hSt; obtain ⟨v13, t13, q13⟩ := hdep 3 rfl _ 13 rfl rfl; have e13 : v13 = (.agg #[.int .i64 1, .string ⟨#[112]⟩, .slice none 0 0]) := q13 rfl; subst e13; obtain ⟨v14, t14, q14⟩ := hdep 4 rfl _ 14 rfl rfl; have e14 : v14 = (.agg #[.int .i64 1, .string ⟨#[114]⟩, .slice none 0 0]) := q14 rfl; subst e14; clear hold hdep hdl; go_simp; refine (HB5.out wx).mono ?_; rintro e w3 ⟨u, rfl, hu, hb3⟩; obtain ⟨sl9, cap9, rfl⟩ := slice_shape hu; (refine hK.out _ _ { y with g := w3 } (by show St2 W DB 0 0 (L 10) (L 11) (L 6) (L 12) (L 13) _ _; rw [l4, l5]; exact HSt.out.up hb3) ⟨_, _, _, sl9, cap9, rfl, rfl, hu⟩ ?_); intro j hj hl
      rcases j with _ | _ | _ | _ | _ | _ | _ | _ | _ | _ | _ | _ | _ | _ | j
      · exact ⟨rfl, fun u h => h⟩
      · exact ⟨rfl, fun u h => h⟩
      · exact ⟨rfl, fun u h => gF_up (w := wx) (w' := wx) (below_join HSt.out.eqv hb3) u h⟩
      · exact ⟨rfl, fun u h => h⟩
      · exact ⟨rfl, fun u h => h⟩
      · exact Bool.noConfusion (hLi.symm.trans hj)
      · exact ⟨rfl, fun u h => h⟩
      · exact ⟨rfl, fun u h => h⟩
      · exact ⟨rfl, fun u h => h⟩
      · exact ⟨rfl, fun u h => h⟩
      · exact ⟨rfl, fun u h => h⟩
      · exact ⟨rfl, fun u h => h⟩
      · exact ⟨rfl, fun u h => h⟩
      · exact ⟨rfl, fun u h => h⟩
      · exact ⟨rfl, fun u h => h⟩
    · intro L y a wx hSt hLi hdl hcl hold hdep K hK
      (have l4 : L 12 = false := not_yet hLi fun h => hcl 12 _ rfl h 6 rfl); (have l5 : L 13 = false := not_yet hLi fun h => hcl 13 _ rfl h 6 rfl); rw [l4, l5] at hSt; have HSt : Hid (St2 W DB 0 0 (L 10) (L 11) (L 6) false false y wx) := hSt; clear hSt; obtain ⟨v12, t12, q12⟩ := hdep 2 rfl _ 12 rfl rfl; obtain ⟨ka, na, ksa, sla, cpa, fa, e12, ra⟩ := q12 rfl; subst e12; (have HFa : Hid (Rep wx (fun _ => True) _ (.agg #[.int .i64 ka, .string na, .slice sla ksa.length cpa])) := ra.up HSt.out.eqv); clear ra q12; obtain ⟨v15, t15, q15⟩ := hdep 5 rfl _ 15 rfl rfl; obtain ⟨kb, nb, ksb, slb, cpb, fb, e15, rb⟩ := q15 rfl; subst e15; (have HFb : Hid (Rep wx (fun _ => True) _ (.agg #[.int .i64 kb, .string nb, .slice slb ksb.length cpb])) := rb.up HSt.out.eqv); clear rb q15; clear hold hdep hdl; go_simp; refine (HIn.out _ _ wx HFa.out HFb.out).mono ?_; rintro e w3 ⟨x, rfl, hx, hb3⟩
      rcases hE : DB with ⟨k5, n5, ks5⟩
      have hx2 := hx; rw [hE] at hx2; obtain ⟨sl5, cp5, rfl⟩ := slice_shape hx2; (refine hK.out _ _ { y with g := w3, k := k5, n := n5, ks := ks5, sl := sl5, cp := cp5 } (by show St2 W DB 0 0 (L 10) (L 11) true (L 12) (L 13) _ _; rw [l4, l5]; exact HSt.out.call hb3 hE hx) rfl ?_); intro j hj hl
      rcases j with _ | _ | _ | _ | _ | _ | _ | _ | _ | _ | _ | _ | _ | _ | j
      · exact ⟨rfl, fun u h => h⟩
      · exact ⟨rfl, fun u h => h⟩
      · exact ⟨rfl, fun u h => gF_up (w := wx) (w' := wx) (below_join HSt.out.eqv hb3) u h⟩
      · exact ⟨rfl, fun u h => h⟩
      · exact ⟨rfl, fun u h => h⟩
      · exact ⟨rfl, fun u h => gF_up (w := wx) (w' := wx) (below_join HSt.out.eqv hb3) u h⟩
      · exact Bool.noConfusion (hLi.symm.trans hj)
      · exact Bool.noConfusion (hLi.symm.trans (hcl 7 _ rfl hj 6 rfl))
      · exact Bool.noConfusion (hLi.symm.trans (hcl 7 _ rfl (hcl 8 _ rfl hj 7 rfl) 6 rfl))
      · exact Bool.noConfusion (hLi.symm.trans (hcl 7 _ rfl (hcl 9 _ rfl hj 7 rfl) 6 rfl))
      · exact ⟨rfl, fun u h => h⟩
      · exact ⟨rfl, fun u h => h⟩
      · exact Bool.noConfusion (hLi.symm.trans (hcl 12 _ rfl hj 6 rfl))
      · exact Bool.noConfusion (hLi.symm.trans (hcl 13 _ rfl hj 6 rfl))
      · exact ⟨rfl, fun u h => h⟩
    · intro L y a wx hSt hLi hdl hcl hold hdep K hK
      (have l4 : L 12 = false := not_yet hLi fun h => hcl 12 _ rfl h 7 rfl); (have l5 : L 13 = false := not_yet hLi fun h => hcl 13 _ rfl h 7 rfl); rw [l4, l5] at hSt; have HSt : Hid (St2 W DB 0 0 (L 10) (L 11) (L 6) false false y wx) := hSt; clear hSt; obtain ⟨v16, t16, q16⟩ := hdep 6 rfl _ 16 rfl rfl; have e16 : v16 = (.tuple #[y.x, .agg #[.int .i64 0, .int .i64 0]]) := q16 rfl; subst e16; clear hold hdep hdl hcl; go_simp; (exact hK.out _ _ y (by show St2 W DB 0 0 (L 10) (L 11) (L 6) (L 12) (L 13) _ _; rw [l4, l5]; exact HSt.out) rfl (fun j hj hl => ⟨rfl, fun u h => h⟩))
    · intro L y a wx hSt hLi hdl hcl hold hdep K hK
      have HSt : Hid (St2 W DB 0 0 (L 10) (L 11) (L 6) (L 12) (L 13) y wx) := hSt; clear hSt; obtain ⟨v9, t9, q9⟩ := hdep 7 rfl _ 9 rfl rfl; have e9 : v9 = (.tuple #[y.x, .agg #[.int .i64 0, .int .i64 0]]) := q9 rfl; subst e9; clear hold hdep hdl hcl; go_simp; (exact hK.out _ _ y HSt.out rfl (fun j hj hl => ⟨rfl, fun u h => h⟩))
    · intro L y a wx hSt hLi hdl hcl hold hdep K hK
      have HSt : Hid (St2 W DB 0 0 (L 10) (L 11) (L 6) (L 12) (L 13) y wx) := hSt; clear hSt; obtain ⟨v9, t9, q9⟩ := hdep 7 rfl _ 9 rfl rfl; have e9 : v9 = (.tuple #[y.x, .agg #[.int .i64 0, .int .i64 0]]) := q9 rfl; subst e9; clear hold hdep hdl hcl; go_simp; (exact hK.out _ _ y HSt.out rfl (fun j hj hl => ⟨rfl, fun u h => h⟩))
    · intro L y a wx hSt hLi hdl hcl hold hdep K hK
      (have l4 : L 12 = false := not_yet hLi fun h => hcl 12 _ rfl h 10 rfl); (have l5 : L 13 = false := not_yet hLi fun h => hcl 13 _ rfl h 10 rfl); rw [l4, l5] at hSt; have HSt : Hid (St2 W DB 0 0 (L 10) (L 11) (L 6) false false y wx) := hSt; clear hSt; clear hold hdep hdl; go_simp; have hb3 : Below wx.heap.size wx (wx.alloc (.cells #[.int .i64 0, .string ⟨#[]⟩, .slice none 0 0] 24 (0, 0))) := (Below.refl _ _).alloc (Nat.le_refl _) _; (refine hK.out _ _ { y with g := wx.alloc (.cells #[.int .i64 0, .string ⟨#[]⟩, .slice none 0 0] 24 (0, 0)), b4 := wx.heap.size } (by show St2 W DB 0 0 true (L 11) (L 6) (L 12) (L 13) _ _; rw [l4, l5]; exact HSt.out.new4) rfl ?_); intro j hj hl
      rcases j with _ | _ | _ | _ | _ | _ | _ | _ | _ | _ | _ | _ | _ | _ | j
      · exact ⟨rfl, fun u h => h⟩
      · exact ⟨rfl, fun u h => h⟩
      · exact ⟨rfl, fun u h => gF_up (w := wx) (w' := wx) (below_join HSt.out.eqv hb3) u h⟩
      · exact ⟨rfl, fun u h => h⟩
      · exact ⟨rfl, fun u h => h⟩
      · exact ⟨rfl, fun u h => gF_up (w := wx) (w' := wx) (below_join HSt.out.eqv hb3) u h⟩
      · exact ⟨rfl, fun u h => h⟩
      · exact ⟨rfl, fun u h => h⟩
      · exact ⟨rfl, fun u h => h⟩
      · exact ⟨rfl, fun u h => h⟩
      · exact Bool.noConfusion (hLi.symm.trans hj)
      · exact ⟨rfl, fun u h => h⟩
      · exact Bool.noConfusion (hLi.symm.trans (hcl 12 _ rfl hj 10 rfl))
      · exact Bool.noConfusion (hLi.symm.trans (hcl 13 _ rfl hj 10 rfl))
      · exact ⟨rfl, fun u h => h⟩
    · intro L y a wx hSt hLi hdl hcl hold hdep K hK
      (have l4 : L 12 = false := not_yet hLi fun h => hcl 12 _ rfl h 11 rfl); (have l5 : L 13 = false := not_yet hLi fun h => hcl 13 _ rfl h 11 rfl); rw [l4, l5] at hSt; have HSt : Hid (St2 W DB 0 0 (L 10) (L 11) (L 6) false false y wx) := hSt; clear hSt; clear hold hdep hdl; go_simp; have hb3 : Below wx.heap.size wx (wx.alloc (.cells #[.int .i64 0, .int .i64 0] 33 (0, 0))) := (Below.refl _ _).alloc (Nat.le_refl _) _; (refine hK.out _ _ { y with g := wx.alloc (.cells #[.int .i64 0, .int .i64 0] 33 (0, 0)), b5 := wx.heap.size } (by show St2 W DB 0 0 (L 10) true (L 6) (L 12) (L 13) _ _; rw [l4, l5]; exact HSt.out.new5) rfl ?_); intro j hj hl
      rcases j with _ | _ | _ | _ | _ | _ | _ | _ | _ | _ | _ | _ | _ | _ | j
      · exact ⟨rfl, fun u h => h⟩
      · exact ⟨rfl, fun u h => h⟩
      · exact ⟨rfl, fun u h => gF_up (w := wx) (w' := wx) (below_join HSt.out.eqv hb3) u h⟩
      · exact ⟨rfl, fun u h => h⟩
      · exact ⟨rfl, fun u h => h⟩
      · exact ⟨rfl, fun u h => gF_up (w := wx) (w' := wx) (below_join HSt.out.eqv hb3) u h⟩
      · exact ⟨rfl, fun u h => h⟩
      · exact ⟨rfl, fun u h => h⟩
      · exact ⟨rfl, fun u h => h⟩
      · exact ⟨rfl, fun u h => h⟩
      · exact ⟨rfl, fun u h => h⟩
      · exact Bool.noConfusion (hLi.symm.trans hj)
      · exact Bool.noConfusion (hLi.symm.trans (hcl 12 _ rfl hj 11 rfl))
      · exact Bool.noConfusion (hLi.symm.trans (hcl 13 _ rfl hj 11 rfl))
      · exact ⟨rfl, fun u h => h⟩
    · intro L y a wx hSt hLi hdl hcl hold hdep K hK
      have la : L 10 = true := hdl 10 rfl; have lb : L 11 = true := hdl 11 rfl; have lc : L 6 = true := hdl 6 rfl; rw [la, lb, lc, hLi] at hSt; have HSt : Hid (St2 W DB 0 0 true true true false (L 13) y wx) := hSt; clear hSt; obtain ⟨v17, t17, q17⟩ := hdep 8 rfl _ 17 rfl rfl; have e17 : v17 = (.agg #[.int .i64 y.k, .string y.n, .slice y.sl y.ks.length y.cp]) := q17 rfl; subst e17; obtain ⟨v4, t4, q4⟩ := hdep 10 rfl _ 4 rfl rfl; have e4 : v4 = (.pointer (some ⟨y.b4, 0, none⟩)) := q4 rfl; subst e4; obtain ⟨c0, c1, c2, z0, z1, z2⟩ := blk3 HSt.out.w4; clear hold hdep hdl hcl; go_simp; (refine hK.out undef _ y (by show St2 W DB 0 0 (L 10) (L 11) (L 6) true (L 13) _ _; rw [la, lb, lc]; exact HSt.out.put4) trivial ?_); intro j hj hl
      rcases j with _ | _ | _ | _ | _ | _ | _ | _ | _ | _ | _ | _ | _ | _ | j
      · exact ⟨rfl, fun u h => h⟩
      · exact ⟨rfl, fun u h => h⟩
      · exact ⟨rfl, fun u h => h⟩
      · exact ⟨rfl, fun u h => h⟩
      · exact ⟨rfl, fun u h => h⟩
      · exact ⟨rfl, fun u h => h⟩
      · exact ⟨rfl, fun u h => h⟩
      · exact ⟨rfl, fun u h => h⟩
      · exact ⟨rfl, fun u h => h⟩
      · exact ⟨rfl, fun u h => h⟩
      · exact ⟨rfl, fun u h => h⟩
      · exact ⟨rfl, fun u h => h⟩
      · exact ⟨rfl, fun u h => h⟩
      · exact ⟨rfl, fun u h => h⟩
      · exact ⟨rfl, fun u h => h⟩
    · intro L y a wx hSt hLi hdl hcl hold hdep K hK
      have la : L 10 = true := hdl 10 rfl; have lb : L 11 = true := hdl 11 rfl; have lc : L 6 = true := hdl 6 rfl; rw [la, lb, lc, hLi] at hSt; have HSt : Hid (St2 W DB 0 0 true true true (L 12) false y wx) := hSt; clear hSt; obtain ⟨v18, t18, q18⟩ := hdep 9 rfl _ 18 rfl rfl; have e18 : v18 = (.agg #[.int .i64 0, .int .i64 0]) := q18 rfl; subst e18; obtain ⟨v5, t5, q5⟩ := hdep 11 rfl _ 5 rfl rfl; have e5 : v5 = (.pointer (some ⟨y.b5, 0, none⟩)) := q5 rfl; subst e5; obtain ⟨c0, c1, z0, z1⟩ := blk2 HSt.out.w5; clear hold hdep hdl hcl; go_simp; (refine hK.out undef _ y (by show St2 W DB 0 0 (L 10) (L 11) (L 6) (L 12) true _ _; rw [la, lb, lc]; exact HSt.out.put5) trivial ?_); intro j hj hl
      rcases j with _ | _ | _ | _ | _ | _ | _ | _ | _ | _ | _ | _ | _ | _ | j
      · exact ⟨rfl, fun u h => h⟩
      · exact ⟨rfl, fun u h => h⟩
      · exact ⟨rfl, fun u h => h⟩
      · exact ⟨rfl, fun u h => h⟩
      · exact ⟨rfl, fun u h => h⟩
      · exact ⟨rfl, fun u h => h⟩
      · exact ⟨rfl, fun u h => h⟩
      · exact ⟨rfl, fun u h => h⟩
      · exact ⟨rfl, fun u h => h⟩
      · exact ⟨rfl, fun u h => h⟩
      · exact ⟨rfl, fun u h => h⟩
      · exact ⟨rfl, fun u h => h⟩
      · exact ⟨rfl, fun u h => h⟩
      · exact ⟨rfl, fun u h => h⟩
      · exact ⟨rfl, fun u h => h⟩
  · intro L y a wx hall hSt hsz hdf hold hgot
    (have la : L 10 = true := hall 10 (by decide)); (have lb : L 11 = true := hall 11 (by decide)); (have lc : L 6 = true := hall 6 (by decide)); (have ld : L 12 = true := hall 12 (by decide)); (have le : L 13 = true := hall 13 (by decide)); rw [la, lb, lc, ld, le] at hSt; have hE2 := hSt.fin HOf.out; obtain ⟨v4, t4, q4⟩ := hgot 10 _ 4 rfl rfl; have e4 : v4 = .pointer (some ⟨y.b4, 0, none⟩) := q4 rfl; obtain ⟨v5, t5, q5⟩ := hgot 11 _ 5 rfl rfl; have e5 : v5 = .pointer (some ⟨y.b5, 0, none⟩) := q5 rfl; subst e4 e5; obtain ⟨g0, b4, b5, k5, n5, ks5, sl5, cp5⟩ := y; simp only at hE2 t4 t5; have HE : Hid (End2 W DB 0 0 b4 b5 k5 n5 ks5 sl5 cp5 wx) := hE2; clear hSt hE2; obtain ⟨tm, df⟩ := a; obtain ⟨x0, x1, x2, x3, x4, x5, x6, x7, x8, x9, x10, x11, x12, x13, x14, x15, x16, x17, x18, x19, x20, x21, x22, x23, x24, x25, x26, x27, x28, x29, x30, x31, x32, x33, x34, x35, x36, htm⟩ := frameS37 tm hsz; subst htm; obtain rfl : df = [] := hdf; obtain rfl : x0 = _ := Option.some.inj (hold 0 rfl); obtain rfl : x1 = _ := Option.some.inj (hold 1 rfl); obtain rfl : x2 = _ := Option.some.inj (hold 2 rfl); obtain rfl : x3 = _ := Option.some.inj (hold 3 rfl); obtain rfl : x6 = _ := Option.some.inj (hold 6 rfl); obtain rfl : x7 = _ := Option.some.inj (hold 7 rfl); obtain rfl : x8 = _ := Option.some.inj (hold 8 rfl); obtain rfl : x19 = _ := Option.some.inj (hold 19 rfl); obtain rfl : x20 = _ := Option.some.inj (hold 20 rfl); obtain rfl : x21 = _ := Option.some.inj (hold 21 rfl); obtain rfl : x22 = _ := Option.some.inj (hold 22 rfl); obtain rfl : x23 = _ := Option.some.inj (hold 23 rfl); obtain rfl : x24 = _ := Option.some.inj (hold 24 rfl); obtain rfl : x25 = _ := Option.some.inj (hold 25 rfl); obtain rfl : x26 = _ := Option.some.inj (hold 26 rfl); obtain rfl : x27 = _ := Option.some.inj (hold 27 rfl); obtain rfl : x28 = _ := Option.some.inj (hold 28 rfl); obtain rfl : x29 = _ := Option.some.inj (hold 29 rfl); obtain rfl : x30 = _ := Option.some.inj (hold 30 rfl); obtain rfl : x31 = _ := Option.some.inj (hold 31 rfl); obtain rfl : x32 = _ := Option.some.inj (hold 32 rfl); obtain rfl : x33 = _ := Option.some.inj (hold 33 rfl); obtain rfl : x34 = _ := Option.some.inj (hold 34 rfl); obtain rfl : x35 = _ := Option.some.inj (hold 35 rfl); obtain rfl : x36 = _ := Option.some.inj (hold 36 rfl); obtain rfl : x4 = _ := Option.some.inj t4; obtain rfl : x5 = _ := Option.some.inj t5; clear hold hgot hall; (have HRp : Hid (Rep wx (fun _ => True) DB (.agg #[.int .i64 k5, .string n5, .slice sl5 ks5.length cp5])) := HE.out.rep.weak fun _ _ _ => trivial); have HBx : Hid (Below w.heap.size w wx) := below_join HBW.out HE.out.below; obtain ⟨c0, c1, c2, -⟩ := blk3 HE.out.at4; obtain ⟨m0, m1, -⟩ := blk2 HE.out.at5; have y4 := lt_of_block HE.out.at4; have HE4 : Hid (wx.heap[b4]? = some _) := HE.out.at4; clear HE; go_wp2_with fail; have hbA : Below wx.heap.size wx (wx.alloc (.cells #[.string ⟨#[112]⟩] 9 (0, 0))) := (Below.refl _ _).alloc (Nat.le_refl _) _; refine (HPl.out _ _ _ (HRp.out.up hbA) (SL.one (t := [112]) (blk_new wx _))).mono ?_; rintro e w4 ⟨rfl, hb4⟩; have HB4 : Hid (Below wx.heap.size wx w4) := below_join hbA hb4; clear c0 c1 c2 hbA hb4; obtain ⟨c0, c1, c2, -⟩ := blk3 (below_keep HB4.out HE4.out); have y5 : b4 < w4.heap.size := lt_of_block (below_keep HB4.out HE4.out); go_wp2_with fail; have hbA : Below w4.heap.size w4 (w4.alloc (.cells #[.string ⟨#[112]⟩] 9 (0, 0))) := (Below.refl _ _).alloc (Nat.le_refl _) _; refine (HT1.out _ _ _ ((HRp.out.up HB4.out).up hbA) (SL.one (t := [112]) (blk_new w4 _))).mono ?_; rintro e w5 ⟨rfl, hb5⟩; have HB5 : Hid (Below wx.heap.size wx w5) := below_join HB4.out (below_join hbA hb5); clear c0 c1 c2 hbA hb5; obtain ⟨c0, c1, c2, -⟩ := blk3 (below_keep HB5.out HE4.out); go_wp2_with fail; (refine (HT0.out _ _ _ (HRp.out.up HB5.out) (SL.nil0 (by simp [maxLen]))).mono ?_); rintro e w6 ⟨rfl, hb6⟩; have HB6 : Hid (Below w.heap.size w w6) := below_join HBx.out (below_join HB5.out hb6); clear c0 c1 c2 hb6; go_wp2_with fail; go_ret; exact ⟨rfl, HB6.out⟩
end Go.Proofs.Ytffkoiemnchdgae
