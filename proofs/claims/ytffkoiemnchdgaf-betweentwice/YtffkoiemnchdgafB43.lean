/- Texts of one proof, one behind the other: BLC, BLT. -/
import Derived.Test.YtffkoiemnchdgafB42
import Derived.Test.YtffkoiemnchdgafB41
import Derived.Test.YtffkoiemnchdgafB11
import Derived.Test.YtffkoiemnchdgafB13
import Derived.Deep.RegionLaw
/- Walks: BetweenCraig. -/
namespace Go.Proofs.Ytffkoiemnchdgaf
open Go.RowKit Go.Sort

theorem rowB2 (l : List Value) (h0 : l.length = 2) : ∃ x0 x1, l = [x0, x1] := by
  obtain ⟨x0, l1, e0, h1⟩ := cons_lenB h0; obtain ⟨x1, l2, e1, h2⟩ := cons_lenB h1; have e2 : l2 = [] := List.length_eq_zero_iff.1 h2; subst e2 e1 e0; exact ⟨x0, x1, rfl⟩
theorem rowB8 (l : List Value) (h0 : l.length = 8) : ∃ x0 x1 x2 x3 x4 x5 x6 x7, l = [x0, x1, x2, x3, x4, x5, x6, x7] := by
  obtain ⟨x0, l1, e0, h1⟩ := cons_lenB h0; obtain ⟨x1, l2, e1, h2⟩ := cons_lenB h1; obtain ⟨x2, l3, e2, h3⟩ := cons_lenB h2; obtain ⟨x3, l4, e3, h4⟩ := cons_lenB h3; obtain ⟨x4, l5, e4, h5⟩ := cons_lenB h4; obtain ⟨x5, l6, e5, h6⟩ := cons_lenB h5; obtain ⟨x6, l7, e6, h7⟩ := cons_lenB h6; obtain ⟨x7, l8, e7, h8⟩ := cons_lenB h7; have e8 : l8 = [] := List.length_eq_zero_iff.1 h8; subst e8 e7 e6 e5 e4 e3 e2 e1 e0; exact ⟨x0, x1, x2, x3, x4, x5, x6, x7, rfl⟩
end Go.Proofs.Ytffkoiemnchdgaf
/- Walks: BetweenTwice. -/
namespace Go.Proofs.Ytffkoiemnchdgaf
open Go.RowKit Go.Sort

/-- What Project answers, where f is plain and has few names. -/
def pjF (f : Fm) (l : List (List UInt8)) : Fm := if (vcode f l).1 = 0 then projF f l else zF
theorem project_any (f : Fm) (l : List (List UInt8)) (ht : (tgcode [f]).1 = 0) (hmx : ∀ t ∈ l, t.length ≤ maxLen) (v u : Value) (w : World) (hrep : Rep w (fun _ => True) f v) (hu : SL w u l) :
    Calls Try.prog 11 #[v, u] w fun e w' => ∃ x, e = .returned (.tuple #[x, .agg #[.int .i64 (vcode f l).1, .int .i64 (vcode f l).2]]) ∧ Rep w' (fun _ => True) (pjF f l) x ∧ Below w.heap.size w w' := by
  unfold pjF; by_cases hc : (vcode f l).1 = 0
  · rw [if_pos hc, vcode_zero hc]
    exact project_ok f l v u w hrep hu ht hmx hc
  · rw [if_neg hc]
    refine (project_bad2 f l v u w hrep hu ht hmx hc).mono ?_; rintro e w' ⟨rfl, hb⟩; exact ⟨_, rfl, rep_zF w', hb⟩
theorem pjF_off {f : Fm} (ht : (tgcode [f]).1 = 0) (l : List (List UInt8)) : OffOk (pjF f l) := by
  unfold pjF
  split
  · exact Or.inl (projF_made (tg_plain ht (by simp)) (nmsU_six ht (by simp)) _).fine
  · exact Or.inr ⟨_, _, rfl⟩
theorem vcode_iff {f : Fm} (hp : f.pcode.1 = 0) (l : List (List UInt8)) : (vcode f l).1 = 0 ↔ l.length ≤ 1000 ∧ ∀ t ∈ l, isNm t = true := by
  unfold vcode; rw [if_pos hp]; by_cases hl : 1000 < l.length
  · rw [if_pos hl]
    (exact ⟨(fun h => by cases h), (fun h => by omega)⟩)
  · rw [if_neg hl]
    cases ha : l.any (fun t => !isNm t)
    · refine ⟨fun _ => ⟨by omega, fun t ht => ?_⟩, fun _ => rfl⟩
      have := List.any_eq_false.1 ha t ht; simpa using this
    · refine ⟨fun h => (by cases h), fun h => ?_⟩
      obtain ⟨t, h1, h2⟩ := List.any_eq_true.1 ha; rw [h.2 t h1] at h2; cases h2
theorem vcode_two {f : Fm} (hp : f.pcode.1 = 0) (l : List (List UInt8)) (_ : (vcode f l).1 ≠ 0) : (vcode f l).1 ≠ 2 ∨ 1000 < l.length := by
  by_cases hl : 1000 < l.length
  · exact Or.inr hl
  · left
    unfold vcode; rw [if_pos hp, if_neg hl]
    split
    · show (8 : Int) ≠ 2; decide
    · show (0 : Int) ≠ 2; decide
/-- What is projected twice. -/
theorem twice_tv {f : Fm} (hp : f.pcode.1 = 0) {A B : List (List UInt8)} (hx : (projF f A).pcode.1 = 0) (q : List UInt8 → Bool) : tv q (projF (projF f A) B) = true ↔ tv q (projF f (A.filter fun t => decide (t ∈ B))) = true := by
  have hf := (pc_fine hp).1; rw [projF_tv hx, projF_tv hp]
  constructor
  · rintro ⟨q2, h⟩
    obtain ⟨q3, h⟩ := (projF_tv hp _ _).1 h; (refine ⟨fun t => if t ∈ A then q2 t else q3 t, ?_⟩); rw [← h]; (refine tv_same hf fun t _ => ?_); unfold mixQ; (by_cases ha : t ∈ A <;> by_cases hb : t ∈ B <;> simp [List.mem_filter, ha, hb])
  · rintro ⟨q4, h⟩
    refine ⟨q4, (projF_tv hp _ _).2 ⟨q4, ?_⟩⟩; rw [← h]; (refine tv_same hf fun t _ => ?_); unfold mixQ; (by_cases ha : t ∈ A <;> by_cases hb : t ∈ B <;> simp [List.mem_filter, ha, hb])
theorem tg_made {l : List (List UInt8)} {s : Nat} {f : Fm} (h : MadeF l s f) (hp : f.pcode.1 = 0) (hl : l.length ≤ 6) : (tgcode [f]).1 = 0 := by
  unfold tgcode; (have h6 : (nmsU f).length ≤ 6 := Nat.le_trans (nodup_leB (nmsU_nodup f) fun t ht => h.names t ((nmsU_mem f t).1 ht)) hl); (rw [pfirst_ok [f] (fun x hx => by rw [List.mem_singleton.1 hx]; exact hp), if_pos rfl, nmsF_one, if_neg (by omega)])

set_option maxRecDepth 10000 in
set_option maxHeartbeats 16000000 in
theorem twice_law (f : Fm) (A B : List (List UInt8)) (v u z : Value) (w : World) (hv : Rep w (fun _ => True) f v) (ha : SL w u A) (hma : ∀ t ∈ A, t.length ≤ maxLen) (hla : A.length ≤ 8796093022208) (hb : SL w z B) (hmb : ∀ t ∈ B, t.length ≤ maxLen) :
    Calls Try.prog 3 #[v, u, z] w fun e w' => e = .returned (.bool true) ∧ Below w.heap.size w w' := by
  (have HBe : Hid (∀ W, Calls Try.prog 8 #[] W _) := fun W => betweenBegun_any W); (have HVf : Hid (∀ v W, Rep W (fun _ => True) f v → Calls Try.prog 9 #[v, .int .i64 0] W _) := fun v W h => vast2_any f v W h); (have HBf : Hid (∀ v W, FL W v [f] → Calls Try.prog 10 #[v] W _) := fun v W h => bfault_any [f] (by simp) v W h); (have HTz : Hid ((tgcode [f]).1 = 0 → tgcode [f] = (0, 0)) := fun h => tg_zero h); (have HCo : Hid (∀ v u W, SL W v A → SL W u B → Calls Try.prog 12 #[v, u] W _) := fun v u W h h' => common_any A B hla v u W h h'); (have hAB : ∀ t ∈ A.filter (fun t => decide (t ∈ B)), t.length ≤ maxLen := fun t ht => hma t (List.mem_filter.1 ht).1); (have HPx0 : Hid ((tgcode [f]).1 = 0 → ∀ v u W, Rep W (fun _ => True) f v → SL W u A → Calls Try.prog 11 #[v, u] W _) := fun ht v u W h h' => project_any f A ht hma v u W h h'); (have HPz0 : Hid ((tgcode [f]).1 = 0 → ∀ v u W, Rep W (fun _ => True) f v → SL W u (A.filter fun t => decide (t ∈ B)) → Calls Try.prog 11 #[v, u] W _) := fun ht v u W h h' => project_any f _ ht hAB v u W h h'); (have HOf0 : Hid ((tgcode [f]).1 = 0 → OffOk (pjF f (A.filter fun t => decide (t ∈ B)))) := fun ht => pjF_off ht _); (have HFf : Hid (∀ v W, Rep W (fun _ => True) (pjF f A) v → Calls Try.prog 13 #[v] W _) := fun v W h => rfault_any (pjF f A) v W h)
  have HOk0 : Hid ((tgcode [f]).1 = 0 → (vcode f A).1 = 0 → (pjF f A).code.1 = 0 → (pjF f A).code = (0, 0) ∧
      (∀ v u W, Rep W (fun _ => True) (pjF f A) v → SL W u B → Calls Try.prog 11 #[v, u] W fun e w' => ∃ x, e = .returned (.tuple #[x, .agg #[.int .i64 (vcode (pjF f A) B).1, .int .i64 (vcode (pjF f A) B).2]]) ∧ Rep w' (fun _ => True) (pjF (pjF f A) B) x ∧ Below W.heap.size W w') ∧
      ((vcode (pjF f A) B).1 ≠ 0 → ((vcode (pjF f A) B).1 ≠ 2 ∨ 1000 < B.length)) ∧
      (∀ v W, FL W v [f] → Calls Try.prog 14 #[v] W fun e w' => ∃ x, e = .returned x ∧ TL w' x (nmsU f) ∧ Below W.heap.size W w') ∧
      ((vcode (pjF f A) B).1 = 0 → (vcode f (A.filter fun t => decide (t ∈ B))).1 = 0 ∧
        (∀ v u W, Rep W (fun _ => True) (pjF (pjF f A) B) v → SL W u (nmsU f) → Calls Try.prog 15 #[v, u] W fun e w' => e = .returned (.bool true) ∧ Below W.heap.size W w') ∧
        (∀ v u W, Rep W (fun _ => True) (pjF f (A.filter fun t => decide (t ∈ B))) v → SL W u (nmsU f) → Calls Try.prog 15 #[v, u] W fun e w' => e = .returned (.bool true) ∧ Below W.heap.size W w') ∧
        (∀ v u z W, Rep W (fun _ => True) (pjF (pjF f A) B) v → Rep W (fun _ => True) (pjF f (A.filter fun t => decide (t ∈ B))) u → SL W z (nmsU f) → Calls Try.prog 16 #[v, u, z] W fun e w' => e = .returned (.bool true) ∧ Below W.heap.size W w') ∧
        (∀ v u z W, Rep W (fun _ => True) (pjF f (A.filter fun t => decide (t ∈ B))) v → Rep W (fun _ => True) (pjF (pjF f A) B) u → SL W z (nmsU f) → Calls Try.prog 16 #[v, u, z] W fun e w' => e = .returned (.bool true) ∧ Below W.heap.size W w'))) := fun ht hc1 hxc => by
    (have hp := tg_plain ht (f := f) (by simp)); (have h6 := nmsU_six ht (f := f) (by simp)); have hf := (pc_fine hp).1; (have ex : pjF f A = projF f A := by unfold pjF; rw [if_pos hc1]); rw [ex] at hxc ⊢; have hmx := projF_made hp h6 A; obtain ⟨s9, hs9⟩ := code_split _ hxc; (have hxp : (projF f A).pcode.1 = 0 := by rw [pcode_of hs9 hmx.plain]); have hk6 : (keptN f A).length ≤ 6 := Nat.le_trans (List.length_filter_le _ _) h6; have htx := tg_made hmx hxp hk6; (refine ⟨code_zero hxc, fun v u W h h' => project_any _ B htx hmb v u W h h', vcode_two hxp B, fun v W h => namesIn_any f (pc_fine hp).2 v W h, fun hc3 => ?_⟩); have hA := (vcode_iff hp A).1 hc1; (have hc2 : (vcode f (A.filter fun t => decide (t ∈ B))).1 = 0 := (vcode_iff hp _).2 ⟨Nat.le_trans (List.length_filter_le _ _) hA.1, fun t ht => hA.2 t (List.mem_filter.1 ht).1⟩); (have ey : pjF (projF f A) B = projF (projF f A) B := by unfold pjF; rw [if_pos hc3]); (have ez : pjF f (A.filter fun t => decide (t ∈ B)) = projF f (A.filter fun t => decide (t ∈ B)) := by unfold pjF; rw [if_pos hc2]); rw [ey, ez]; (have h6x : (nmsU (projF f A)).length ≤ 6 := nmsU_six htx (by simp)); have hmy := projF_made hxp h6x B; (have hmz := projF_made hp h6 (A.filter fun t => decide (t ∈ B))); (have ny : ∀ t ∈ keptN (projF f A) B, t ∈ nmsU f := fun t ht => (List.mem_filter.1 (hmx.names t ((nmsU_mem _ t).1 (List.mem_filter.1 ht).1))).1); (have nz : ∀ t ∈ keptN f (A.filter fun t => decide (t ∈ B)), t ∈ nmsU f := fun t ht => (List.mem_filter.1 ht).1); (have e1 : makesB (projF (projF f A) B) (projF f (A.filter fun t => decide (t ∈ B))) (nmsU f) = true := (makesB_val hmy.fine hmz.fine (nmsU_nodup f) (fun t ht => ny t (hmy.names t ht)) (fun t ht => nz t (hmz.names t ht))).2 fun q h => (twice_tv hp hxp q).1 h); (have e2 : makesB (projF f (A.filter fun t => decide (t ∈ B))) (projF (projF f A) B) (nmsU f) = true := (makesB_val hmz.fine hmy.fine (nmsU_nodup f) (fun t ht => nz t (hmz.names t ht)) (fun t ht => ny t (hmy.names t ht))).2 fun q h => (twice_tv hp hxp q).2 h); (refine ⟨hc2, fun v u W h h' => plainAns_any _ _ _ 379 hmy (by omega) ny v u W h h', fun v u W h h' => plainAns_any _ _ _ 379 hmz (by omega) nz v u W h h', fun v u z W h h' h'' => ?_, fun v u z W h h' h'' => ?_⟩)
    · have := makesL_any _ _ hmy.fine hmz.fine (nmsU f) h6 v u z W h h' h''
      rwa [e1] at this
    · have := makesL_any _ _ hmz.fine hmy.fine (nmsU f) h6 v u z W h h' h''
      rwa [e2] at this
  (have hfc := fun a b w => fault_code a b w); generalize tgcode [f] = tgc at *; (generalize pjF f (A.filter fun t => decide (t ∈ B)) = DZ at *); (generalize hvz : vcode f (A.filter fun t => decide (t ∈ B)) = vz at *); obtain ⟨iz, jz⟩ := vz; (generalize A.filter (fun t => decide (t ∈ B)) = AB at *); generalize pjF (pjF f A) B = DY at *; generalize vcode (pjF f A) B = vy at *; obtain ⟨iy, jy⟩ := vy; generalize pjF f A = DX at *; generalize vcode f A = vx at *; obtain ⟨ia, ja⟩ := vx; generalize DX.code = xc at *; generalize nmsU f = UF at *; simp only at HPx0 HPz0 HOk0; obtain ⟨k, n, ks⟩ := f; obtain ⟨sl, cap, rfl⟩ := slice_shape hv; (have HRf : Hid (Rep w (fun _ => True) (.mk k n ks) (.agg #[.int .i64 k, .string n, .slice sl ks.length cap])) := hv); have HSa : Hid (SL w u A) := ha; have HSb0 : Hid (SL w z B) := hb; obtain ⟨ada, cpa, rfl, -⟩ := ha; obtain ⟨adb, cpb, rfl, hbl1, hbl2, -⟩ := hb; have hB0 := below_more (Below.refl _ w) (.cells #[.int .i64 k, .string n, .slice sl ks.length cap] 24 (0, 0)); clear hv hma hmb hAB hvz
  go_enter Try.func3, Try.ntmps3
  go_wp2_with fail; refine (HBe.out _).mono ?_; rintro e w1 ⟨rfl, hb1⟩; have HB1 : Hid (Below w.heap.size w w1) := below_join hB0 hb1; have Q0 : Hid (w1.heap[w.heap.size]? = some (.cells #[.int .i64 k, .string n, .slice sl ks.length cap] 24 (0, 0))) := below_keep hb1 (blk_new w _); clear hb1 hB0 HBe; obtain ⟨a0, a1, a2, -⟩ := blk3 Q0.out; go_wp2_with fail; refine (HVf.out _ _ (HRf.out.up HB1.out)).mono ?_; rintro e w2 ⟨⟨bb, rfl, hbb⟩, hb2⟩; have HB2 : Hid (Below w.heap.size w w2) := below_join HB1.out hb2; have R0 : Hid (w2.heap[w.heap.size]? = some (.cells #[.int .i64 k, .string n, .slice sl ks.length cap] 24 (0, 0))) := below_keep hb2 Q0.out; clear hb2 a0 a1 a2 Q0 HB1 HVf hbb; obtain ⟨a0, a1, a2, -⟩ := blk3 R0.out
  cases bb
  case true =>
    go_wp2_with fail; go_ret; exact ⟨rfl, HB2.out⟩
  case false =>
    go_wp2_with fail; have hbm : Below w2.heap.size w2 (w2.alloc (.cells #[.int .i64 k, .string n, .slice sl ks.length cap] 24 (0, 0))) := (Below.refl _ _).alloc (Nat.le_refl _) _; refine (HBf.out _ _ (FL.alone (blk_new w2 _) ((HRf.out.up HB2.out).up hbm))).mono ?_; rintro e w4 ⟨rfl, hb4⟩; have HB4 : Hid (Below w.heap.size w w4) := below_join HB2.out (below_join hbm hb4); have S0 : Hid (w4.heap[w.heap.size]? = some (.cells #[.int .i64 k, .string n, .slice sl ks.length cap] 24 (0, 0))) := below_keep (below_join hbm hb4) R0.out; clear hb4 hbm a0 a1 a2 R0 HB2; by_cases htg : tgc.1 = 0
    · have htz : tgc = (0, 0) := HTz.out htg
      subst htz; (have HPx : Hid (∀ v u W, Rep W (fun _ => True) (.mk k n ks) v → SL W u A → Calls Try.prog 11 #[v, u] W fun e w' => ∃ x, e = .returned (.tuple #[x, .agg #[.int .i64 ia, .int .i64 ja]]) ∧ Rep w' (fun _ => True) DX x ∧ Below W.heap.size W w') := HPx0.out rfl); (have HPz : Hid (∀ v u W, Rep W (fun _ => True) (.mk k n ks) v → SL W u AB → Calls Try.prog 11 #[v, u] W fun e w' => ∃ x, e = .returned (.tuple #[x, .agg #[.int .i64 iz, .int .i64 jz]]) ∧ Rep w' (fun _ => True) DZ x ∧ Below W.heap.size W w') := HPz0.out rfl); have HOf : Hid (OffOk DZ) := HOf0.out rfl; have hok := HOk0.out rfl; have HOk : Hid (ia = 0 → xc.1 = 0 → _) := hok; clear hok HOk0 HPx0 HPz0 HOf0 HTz htg; simp only; obtain ⟨a0, a1, a2, -⟩ := blk3 S0.out; go_wp2_with fail; refine (HPx.out _ _ _ (HRf.out.up HB4.out) (HSa.out.up HB4.out)).mono ?_; rintro e w5 ⟨x, rfl, hx, hb5⟩
      rcases hEX : DX with ⟨kx, nx, ksx⟩
      have hx2 := hx; rw [hEX] at hx2; obtain ⟨sx, cx, rfl⟩ := slice_shape hx2; (have HRx5 : Hid (Rep w5 (fun _ => True) DX (.agg #[.int .i64 kx, .string nx, .slice sx ksx.length cx])) := hx); have HB5 : Hid (Below w.heap.size w w5) := below_join HB4.out hb5; have T0 : Hid (w5.heap[w.heap.size]? = some (.cells #[.int .i64 k, .string n, .slice sl ks.length cap] 24 (0, 0))) := below_keep hb5 S0.out; clear hb5 hx hx2 a0 a1 a2 S0 HB4 hEX; go_wp2_with fail; obtain ⟨W, hW⟩ : ∃ W, W = (w5.alloc (.cells #[.int .i64 kx, .string nx, .slice sx ksx.length cx] 24 (0, 0))).alloc (.cells #[.int .i64 ia, .int .i64 ja] 29 (0, 0)) := ⟨_, rfl⟩; rw [← hW]; (have hbW : Below w5.heap.size w5 W := by rw [hW]; exact below_more (below_more (Below.refl _ _) _) _); (have P7 : Hid (W.heap[w5.heap.size]? = some (.cells #[.int .i64 kx, .string nx, .slice sx ksx.length cx] 24 (0, 0))) := by rw [hW]; exact alloc_keep (blk_new w5 _) _); (have P8 : Hid (W.heap[w5.heap.size + 1]? = some (.cells #[.int .i64 ia, .int .i64 ja] 29 (0, 0))) := by rw [hW]; exact blk_2nd w5 _ _); have P0 : Hid (W.heap[w.heap.size]? = some (.cells #[.int .i64 k, .string n, .slice sl ks.length cap] 24 (0, 0))) := below_keep hbW T0.out; have HBW : Hid (Below w.heap.size w W) := below_join HB5.out hbW; (have HRx : Hid (Rep W (fun _ => True) DX (.agg #[.int .i64 kx, .string nx, .slice sx ksx.length cx])) := HRx5.out.up hbW); clear hW hbW T0 HB5 HRx5; (refine wp_region_gh (by kernel_rfl) (by kernel_rfl) (by kernel_rfl) 93 rfl (by kernel_rfl) [fun _ v _ => v = (.agg #[.int .i64 k, .string n, .slice sl ks.length cap]), fun _ v _ => v = (.slice ada A.length cpa), fun _ v _ => v = (.slice adb B.length cpb), gS AB, fun y v _ => v = .tuple #[y.x, .agg #[.int .i64 iz, .int .i64 jz]], fun y v _ => v = .tuple #[y.x, .agg #[.int .i64 iz, .int .i64 jz]], fun y v _ => v = y.x, fun y v _ => v = .agg #[.int .i64 iz, .int .i64 jz], fun y v _ => v = .pointer (some ⟨y.b4, 0, none⟩), fun y v _ => v = .pointer (some ⟨y.b5, 0, none⟩), fun _ _ _ => True, fun _ _ _ => True] (fun _ _ => true) (fun L => St2 W DZ iz jz (L 8) (L 9) (L 4) (L 10) (L 11)) (⟨W, 0, 0, 0, ⟨#[]⟩, [], none, 0⟩) ?_ ?_ ?_)
      · exact fun wx h h' => St2.init h h' _ rfl
      · refine ⟨?_, ?_, ?_, ?_, ?_, ?_, ?_, ?_, ?_, ?_, ?_, ?_, trivial⟩
        · intro L y a wx hSt hLi hdl hcl hold hdep K hK
          (have l4 : L 10 = false := not_yet hLi fun h => hcl 10 _ rfl h 0 rfl); (have l5 : L 11 = false := not_yet hLi fun h => hcl 11 _ rfl h 0 rfl); rw [l4, l5] at hSt; have HSt : Hid (St2 W DZ iz jz (L 8) (L 9) (L 4) false false y wx) := hSt; clear hSt; have t3 : a.tmps[3]? = some (.pointer (some ⟨w.heap.size, 0, none⟩)) := hold 3 rfl; obtain ⟨d0, ja', jz', -⟩ := blk3 (below_keep (below_join HSt.out.below HSt.out.eqv) P0.out); clear hold hdep hdl hcl; go_simp; (exact hK.out _ _ y (by show St2 W DZ iz jz (L 8) (L 9) (L 4) (L 10) (L 11) _ _; rw [l4, l5]; exact HSt.out) rfl (fun j hj hl => ⟨rfl, fun u h => h⟩))
        · intro L y a wx hSt hLi hdl hcl hold hdep K hK
          (have l4 : L 10 = false := not_yet hLi fun h => hcl 10 _ rfl h 1 rfl); (have l5 : L 11 = false := not_yet hLi fun h => hcl 11 _ rfl h 1 rfl); rw [l4, l5] at hSt; have HSt : Hid (St2 W DZ iz jz (L 8) (L 9) (L 4) false false y wx) := hSt; clear hSt; have t1 : a.tmps[1]? = some (.slice ada A.length cpa) := hold 1 rfl; clear hold hdep hdl hcl; go_simp; (exact hK.out _ _ y (by show St2 W DZ iz jz (L 8) (L 9) (L 4) (L 10) (L 11) _ _; rw [l4, l5]; exact HSt.out) rfl (fun j hj hl => ⟨rfl, fun u h => h⟩))
        · intro L y a wx hSt hLi hdl hcl hold hdep K hK
          (have l4 : L 10 = false := not_yet hLi fun h => hcl 10 _ rfl h 2 rfl); (have l5 : L 11 = false := not_yet hLi fun h => hcl 11 _ rfl h 2 rfl); rw [l4, l5] at hSt; have HSt : Hid (St2 W DZ iz jz (L 8) (L 9) (L 4) false false y wx) := hSt; clear hSt; have t2 : a.tmps[2]? = some (.slice adb B.length cpb) := hold 2 rfl; clear hold hdep hdl hcl; go_simp; (exact hK.out _ _ y (by show St2 W DZ iz jz (L 8) (L 9) (L 4) (L 10) (L 11) _ _; rw [l4, l5]; exact HSt.out) rfl (fun j hj hl => ⟨rfl, fun u h => h⟩))
        · intro L y a wx hSt hLi hdl hcl hold hdep K hK
          (have l4 : L 10 = false := not_yet hLi fun h => hcl 10 _ rfl h 3 rfl); (have l5 : L 11 = false := not_yet hLi fun h => hcl 11 _ rfl h 3 rfl); rw [l4, l5] at hSt; have HSt : Hid (St2 W DZ iz jz (L 8) (L 9) (L 4) false false y wx) := hSt; clear hSt; obtain ⟨v33, t33, q33⟩ := hdep 1 rfl _ 33 rfl rfl; have e33 : v33 = (.slice ada A.length cpa) := q33 rfl; subst e33; obtain ⟨v34, t34, q34⟩ := hdep 2 rfl _ 34 rfl rfl; have e34 : v34 = (.slice adb B.length cpb) := q34 rfl; subst e34; clear hold hdep hdl; go_simp; refine (HCo.out _ _ wx (HSa.out.up (below_join HBW.out (below_join HSt.out.below HSt.out.eqv))) (HSb0.out.up (below_join HBW.out (below_join HSt.out.below HSt.out.eqv)))).mono ?_; rintro e w3 ⟨x9, rfl, hx9, hb3⟩; obtain ⟨ad9, cp9, e9, h9⟩ := hx9.sl; subst e9; (refine hK.out _ _ { y with g := w3 } (by show St2 W DZ iz jz (L 8) (L 9) (L 4) (L 10) (L 11) _ _; rw [l4, l5]; exact HSt.out.up hb3) ⟨_, _, _, rfl, ad9, cp9, rfl, h9⟩ ?_); intro j hj hl
          rcases j with _ | _ | _ | _ | _ | _ | _ | _ | _ | _ | _ | _ | j
          · exact ⟨rfl, fun u h => h⟩
          · exact ⟨rfl, fun u h => h⟩
          · exact ⟨rfl, fun u h => h⟩
          · exact Bool.noConfusion (hLi.symm.trans hj)
          · exact ⟨rfl, fun u h => h⟩
          · exact ⟨rfl, fun u h => h⟩
          · exact ⟨rfl, fun u h => h⟩
          · exact ⟨rfl, fun u h => h⟩
          · exact ⟨rfl, fun u h => h⟩
          · exact ⟨rfl, fun u h => h⟩
          · exact ⟨rfl, fun u h => h⟩
          · exact ⟨rfl, fun u h => h⟩
          · exact ⟨rfl, fun u h => h⟩
        · intro L y a wx hSt hLi hdl hcl hold hdep K hK
          (have l4 : L 10 = false := not_yet hLi fun h => hcl 10 _ rfl h 4 rfl); (have l5 : L 11 = false := not_yet hLi fun h => hcl 11 _ rfl h 4 rfl); rw [l4, l5] at hSt; have HSt : Hid (St2 W DZ iz jz (L 8) (L 9) (L 4) false false y wx) := hSt; clear hSt; obtain ⟨v32, t32, q32⟩ := hdep 0 rfl _ 32 rfl rfl; have e32 : v32 = (.agg #[.int .i64 k, .string n, .slice sl ks.length cap]) := q32 rfl; subst e32; obtain ⟨v35, t35, q35⟩ := hdep 3 rfl _ 35 rfl rfl; obtain ⟨adb, mb, cpb, e35, rb⟩ := q35 rfl; subst e35; have HSb : Hid (SL wx (.slice adb mb cpb) AB) := rb.up HSt.out.eqv; clear rb q35; clear hold hdep hdl; go_simp; refine (HPz.out _ _ wx (HRf.out.up (below_join HBW.out (below_join HSt.out.below HSt.out.eqv))) HSb.out).mono ?_; rintro e w3 ⟨x, rfl, hx, hb3⟩
          rcases hE : DZ with ⟨k5, n5, ks5⟩
          have hx2 := hx; rw [hE] at hx2; obtain ⟨sl5, cp5, rfl⟩ := slice_shape hx2; (refine hK.out _ _ { y with g := w3, k := k5, n := n5, ks := ks5, sl := sl5, cp := cp5 } (by show St2 W DZ iz jz (L 8) (L 9) true (L 10) (L 11) _ _; rw [l4, l5]; exact HSt.out.call hb3 hE hx) rfl ?_); intro j hj hl
          rcases j with _ | _ | _ | _ | _ | _ | _ | _ | _ | _ | _ | _ | j
          · exact ⟨rfl, fun u h => h⟩
          · exact ⟨rfl, fun u h => h⟩
          · exact ⟨rfl, fun u h => h⟩
          · exact ⟨rfl, fun u h => gS_up (w := wx) (w' := wx) (below_join HSt.out.eqv hb3) u h⟩
          · exact Bool.noConfusion (hLi.symm.trans hj)
          · exact Bool.noConfusion (hLi.symm.trans (hcl 5 _ rfl hj 4 rfl))
          · exact Bool.noConfusion (hLi.symm.trans (hcl 5 _ rfl (hcl 6 _ rfl hj 5 rfl) 4 rfl))
          · exact Bool.noConfusion (hLi.symm.trans (hcl 5 _ rfl (hcl 7 _ rfl hj 5 rfl) 4 rfl))
          · exact ⟨rfl, fun u h => h⟩
          · exact ⟨rfl, fun u h => h⟩
          · exact Bool.noConfusion (hLi.symm.trans (hcl 10 _ rfl hj 4 rfl))
          · exact Bool.noConfusion (hLi.symm.trans (hcl 11 _ rfl hj 4 rfl))
          · exact ⟨rfl, fun u h => h⟩
        · intro L y a wx hSt hLi hdl hcl hold hdep K hK
          (have l4 : L 10 = false := not_yet hLi fun h => hcl 10 _ rfl h 5 rfl); (have l5 : L 11 = false := not_yet hLi fun h => hcl 11 _ rfl h 5 rfl); rw [l4, l5] at hSt; have HSt : Hid (St2 W DZ iz jz (L 8) (L 9) (L 4) false false y wx) := hSt; clear hSt; obtain ⟨v36, t36, q36⟩ := hdep 4 rfl _ 36 rfl rfl; have e36 : v36 = (.tuple #[y.x, .agg #[.int .i64 iz, .int .i64 jz]]) := q36 rfl; subst e36; clear hold hdep hdl hcl; go_simp; (exact hK.out _ _ y (by show St2 W DZ iz jz (L 8) (L 9) (L 4) (L 10) (L 11) _ _; rw [l4, l5]; exact HSt.out) rfl (fun j hj hl => ⟨rfl, fun u h => h⟩))
        · intro L y a wx hSt hLi hdl hcl hold hdep K hK
          have HSt : Hid (St2 W DZ iz jz (L 8) (L 9) (L 4) (L 10) (L 11) y wx) := hSt; clear hSt; obtain ⟨v31, t31, q31⟩ := hdep 5 rfl _ 31 rfl rfl; have e31 : v31 = (.tuple #[y.x, .agg #[.int .i64 iz, .int .i64 jz]]) := q31 rfl; subst e31; clear hold hdep hdl hcl; go_simp; (exact hK.out _ _ y HSt.out rfl (fun j hj hl => ⟨rfl, fun u h => h⟩))
        · intro L y a wx hSt hLi hdl hcl hold hdep K hK
          have HSt : Hid (St2 W DZ iz jz (L 8) (L 9) (L 4) (L 10) (L 11) y wx) := hSt; clear hSt; obtain ⟨v31, t31, q31⟩ := hdep 5 rfl _ 31 rfl rfl; have e31 : v31 = (.tuple #[y.x, .agg #[.int .i64 iz, .int .i64 jz]]) := q31 rfl; subst e31; clear hold hdep hdl hcl; go_simp; (exact hK.out _ _ y HSt.out rfl (fun j hj hl => ⟨rfl, fun u h => h⟩))
        · intro L y a wx hSt hLi hdl hcl hold hdep K hK
          (have l4 : L 10 = false := not_yet hLi fun h => hcl 10 _ rfl h 8 rfl); (have l5 : L 11 = false := not_yet hLi fun h => hcl 11 _ rfl h 8 rfl); rw [l4, l5] at hSt; have HSt : Hid (St2 W DZ iz jz (L 8) (L 9) (L 4) false false y wx) := hSt; clear hSt; clear hold hdep hdl; go_simp; have hb3 : Below wx.heap.size wx (wx.alloc (.cells #[.int .i64 0, .string ⟨#[]⟩, .slice none 0 0] 24 (0, 0))) := (Below.refl _ _).alloc (Nat.le_refl _) _; (refine hK.out _ _ { y with g := wx.alloc (.cells #[.int .i64 0, .string ⟨#[]⟩, .slice none 0 0] 24 (0, 0)), b4 := wx.heap.size } (by show St2 W DZ iz jz true (L 9) (L 4) (L 10) (L 11) _ _; rw [l4, l5]; exact HSt.out.new4) rfl ?_); intro j hj hl
          rcases j with _ | _ | _ | _ | _ | _ | _ | _ | _ | _ | _ | _ | j
          · exact ⟨rfl, fun u h => h⟩
          · exact ⟨rfl, fun u h => h⟩
          · exact ⟨rfl, fun u h => h⟩
          · exact ⟨rfl, fun u h => gS_up (w := wx) (w' := wx) (below_join HSt.out.eqv hb3) u h⟩
          · exact ⟨rfl, fun u h => h⟩
          · exact ⟨rfl, fun u h => h⟩
          · exact ⟨rfl, fun u h => h⟩
          · exact ⟨rfl, fun u h => h⟩
          · exact Bool.noConfusion (hLi.symm.trans hj)
          · exact ⟨rfl, fun u h => h⟩
          · exact Bool.noConfusion (hLi.symm.trans (hcl 10 _ rfl hj 8 rfl))
          · exact Bool.noConfusion (hLi.symm.trans (hcl 11 _ rfl hj 8 rfl))
          · exact ⟨rfl, fun u h => h⟩
        · intro L y a wx hSt hLi hdl hcl hold hdep K hK
          (have l4 : L 10 = false := not_yet hLi fun h => hcl 10 _ rfl h 9 rfl); (have l5 : L 11 = false := not_yet hLi fun h => hcl 11 _ rfl h 9 rfl); rw [l4, l5] at hSt; have HSt : Hid (St2 W DZ iz jz (L 8) (L 9) (L 4) false false y wx) := hSt; clear hSt; clear hold hdep hdl; go_simp; have hb3 : Below wx.heap.size wx (wx.alloc (.cells #[.int .i64 0, .int .i64 0] 29 (0, 0))) := (Below.refl _ _).alloc (Nat.le_refl _) _; (refine hK.out _ _ { y with g := wx.alloc (.cells #[.int .i64 0, .int .i64 0] 29 (0, 0)), b5 := wx.heap.size } (by show St2 W DZ iz jz (L 8) true (L 4) (L 10) (L 11) _ _; rw [l4, l5]; exact HSt.out.new5) rfl ?_); intro j hj hl
          rcases j with _ | _ | _ | _ | _ | _ | _ | _ | _ | _ | _ | _ | j
          · exact ⟨rfl, fun u h => h⟩
          · exact ⟨rfl, fun u h => h⟩
          · exact ⟨rfl, fun u h => h⟩
          · exact ⟨rfl, fun u h => gS_up (w := wx) (w' := wx) (below_join HSt.out.eqv hb3) u h⟩
          · exact ⟨rfl, fun u h => h⟩
          · exact ⟨rfl, fun u h => h⟩
          · exact ⟨rfl, fun u h => h⟩
          · exact ⟨rfl, fun u h => h⟩
          · exact ⟨rfl, fun u h => h⟩
          · exact Bool.noConfusion (hLi.symm.trans hj)
          · exact Bool.noConfusion (hLi.symm.trans (hcl 10 _ rfl hj 9 rfl))
          · exact Bool.noConfusion (hLi.symm.trans (hcl 11 _ rfl hj 9 rfl))
          · exact ⟨rfl, fun u h => h⟩
        · intro L y a wx hSt hLi hdl hcl hold hdep K hK
          have la : L 8 = true := hdl 8 rfl; have lb : L 9 = true := hdl 9 rfl; have lc : L 4 = true := hdl 4 rfl; rw [la, lb, lc, hLi] at hSt; have HSt : Hid (St2 W DZ iz jz true true true false (L 11) y wx) := hSt; clear hSt; obtain ⟨v37, t37, q37⟩ := hdep 6 rfl _ 37 rfl rfl; have e37 : v37 = (.agg #[.int .i64 y.k, .string y.n, .slice y.sl y.ks.length y.cp]) := q37 rfl; subst e37; obtain ⟨v9, t9, q9⟩ := hdep 8 rfl _ 9 rfl rfl; have e9 : v9 = (.pointer (some ⟨y.b4, 0, none⟩)) := q9 rfl; subst e9; obtain ⟨c0, c1, c2, z0, z1, z2⟩ := blk3 HSt.out.w4; clear hold hdep hdl hcl; go_simp; (refine hK.out undef _ y (by show St2 W DZ iz jz (L 8) (L 9) (L 4) true (L 11) _ _; rw [la, lb, lc]; exact HSt.out.put4) trivial ?_); intro j hj hl
          rcases j with _ | _ | _ | _ | _ | _ | _ | _ | _ | _ | _ | _ | j
          · exact ⟨rfl, fun u h => h⟩
          · exact ⟨rfl, fun u h => h⟩
          · exact ⟨rfl, fun u h => h⟩
          · exact ⟨rfl, fun u h => h⟩
          · exact ⟨rfl, fun u h => h⟩
          · exact ⟨rfl, fun u h => h⟩
          · exact ⟨rfl, fun u h => h⟩
          · exact ⟨rfl, fun u h => h⟩
          · exact ⟨rfl, fun u h => h⟩
          · exact ⟨rfl, fun u h => h⟩
          · exact ⟨rfl, fun u h => h⟩
          · exact ⟨rfl, fun u h => h⟩
          · exact ⟨rfl, fun u h => h⟩
        · intro L y a wx hSt hLi hdl hcl hold hdep K hK
          have la : L 8 = true := hdl 8 rfl; have lb : L 9 = true := hdl 9 rfl; have lc : L 4 = true := hdl 4 rfl; rw [la, lb, lc, hLi] at hSt; have HSt : Hid (St2 W DZ iz jz true true true (L 10) false y wx) := hSt; clear hSt; obtain ⟨v38, t38, q38⟩ := hdep 7 rfl _ 38 rfl rfl; have e38 : v38 = (.agg #[.int .i64 iz, .int .i64 jz]) := q38 rfl; subst e38; obtain ⟨v10, t10, q10⟩ := hdep 9 rfl _ 10 rfl rfl; have e10 : v10 = (.pointer (some ⟨y.b5, 0, none⟩)) := q10 rfl; subst e10; obtain ⟨c0, c1, z0, z1⟩ := blk2 HSt.out.w5; clear hold hdep hdl hcl; go_simp; (refine hK.out undef _ y (by show St2 W DZ iz jz (L 8) (L 9) (L 4) (L 10) true _ _; rw [la, lb, lc]; exact HSt.out.put5) trivial ?_); intro j hj hl
          rcases j with _ | _ | _ | _ | _ | _ | _ | _ | _ | _ | _ | _ | j
          · exact ⟨rfl, fun u h => h⟩
          · exact ⟨rfl, fun u h => h⟩
          · exact ⟨rfl, fun u h => h⟩
          · exact ⟨rfl, fun u h => h⟩
          · exact ⟨rfl, fun u h => h⟩
          · exact ⟨rfl, fun u h => h⟩
          · exact ⟨rfl, fun u h => h⟩
          · exact ⟨rfl, fun u h => h⟩
          · exact ⟨rfl, fun u h => h⟩
          · exact ⟨rfl, fun u h => h⟩
          · exact ⟨rfl, fun u h => h⟩
          · exact ⟨rfl, fun u h => h⟩
          · exact ⟨rfl, fun u h => h⟩
      · intro L y a wx hall hSt hsz hdf hold hgot
        (have la : L 8 = true := hall 8 (by decide)); (have lb : L 9 = true := hall 9 (by decide)); (have lc : L 4 = true := hall 4 (by decide)); (have ld : L 10 = true := hall 10 (by decide)); (have le : L 11 = true := hall 11 (by decide)); rw [la, lb, lc, ld, le] at hSt; have hE2 := hSt.fin HOf.out; obtain ⟨v9, t9, q9⟩ := hgot 8 _ 9 rfl rfl; have e9 : v9 = .pointer (some ⟨y.b4, 0, none⟩) := q9 rfl; obtain ⟨v10, t10, q10⟩ := hgot 9 _ 10 rfl rfl; have e10 : v10 = .pointer (some ⟨y.b5, 0, none⟩) := q10 rfl; subst e9 e10; obtain ⟨g0, b4, b5, k5, n5, ks5, sl5, cp5⟩ := y; simp only at hE2 t9 t10; have HE : Hid (End2 W DZ iz jz b4 b5 k5 n5 ks5 sl5 cp5 wx) := hE2; clear hSt hE2; obtain ⟨tm, df⟩ := a; (obtain ⟨ys, zs, hys, hzs, htm, rfl⟩ := frame_two 9 2 20 8 11 31 39 rfl rfl rfl (by kernel_rfl) (Nat.le_of_ble_eq_true rfl) ⟨hsz, hdf, hold⟩); obtain ⟨x9, x10, rfl⟩ := rowB2 ys hys; obtain ⟨x31, x32, x33, x34, x35, x36, x37, x38, rfl⟩ := rowB8 zs hzs; simp only [List.take_succ_cons, List.take_zero, List.drop_succ_cons, List.drop_zero, List.cons_append, List.nil_append] at htm; subst htm; obtain rfl : x9 = _ := Option.some.inj t9; obtain rfl : x10 = _ := Option.some.inj t10; clear hys hzs hsz; clear hold hgot hall; have HBx : Hid (Below w.heap.size w wx) := below_join HBW.out HE.out.below; have Z0 : Hid (wx.heap[w.heap.size]? = some (.cells #[.int .i64 k, .string n, .slice sl ks.length cap] 24 (0, 0))) := below_keep HE.out.below P0.out; have Z7 : Hid (wx.heap[w5.heap.size]? = some (.cells #[.int .i64 kx, .string nx, .slice sx ksx.length cx] 24 (0, 0))) := below_keep HE.out.below P7.out; have Z8 : Hid (wx.heap[w5.heap.size + 1]? = some (.cells #[.int .i64 ia, .int .i64 ja] 29 (0, 0))) := below_keep HE.out.below P8.out; have Z4 : Hid (wx.heap[b4]? = some (.cells #[.int .i64 k5, .string n5, .slice sl5 ks5.length cp5] 24 (0, 0))) := HE.out.at4; have Z5 : Hid (wx.heap[b5]? = some (.cells #[.int .i64 iz, .int .i64 jz] 29 (0, 0))) := HE.out.at5; (have HRd : Hid (Rep wx (fun _ => True) DZ (.agg #[.int .i64 k5, .string n5, .slice sl5 ks5.length cp5])) := HE.out.rep.weak fun _ _ _ => trivial); (have HRx2 : Hid (Rep wx (fun _ => True) DX (.agg #[.int .i64 kx, .string nx, .slice sx ksx.length cx])) := HRx.out.up HE.out.below); clear HE; obtain ⟨m0, m1, -⟩ := blk2 Z8.out; obtain ⟨d0, d1', d2', -⟩ := blk3 Z7.out; by_cases hc1 : ia = 0
        · have hok2 := HOk.out hc1
          have HOk2 : Hid (xc.1 = 0 → _) := hok2; clear hok2 HOk; subst hc1; go_wp2_with fail; refine (HFf.out _ _ HRx2.out).mono ?_; rintro e w6 ⟨rfl, hb6⟩; have HB6 : Hid (Below wx.heap.size wx w6) := hb6; clear hb6 m0 m1 d0 d1' d2'; by_cases hxc : xc.1 = 0
          · obtain ⟨g1, g2, g3, g4, g5⟩ := HOk2.out hxc
            have hxz : xc = (0, 0) := g1; subst hxz; (have HPy : Hid (∀ v u W, Rep W (fun _ => True) DX v → SL W u B → Calls Try.prog 11 #[v, u] W fun e w' => ∃ x, e = .returned (.tuple #[x, .agg #[.int .i64 iy, .int .i64 jy]]) ∧ Rep w' (fun _ => True) DY x ∧ Below W.heap.size W w') := g2); have HC3 : Hid (iy ≠ 0 → (iy ≠ 2 ∨ 1000 < B.length)) := g3; (have HNf : Hid (∀ v W, FL W v [.mk k n ks] → Calls Try.prog 14 #[v] W fun e w' => ∃ x, e = .returned x ∧ TL w' x UF ∧ Below W.heap.size W w') := g4); (have HEnd : Hid (iy = 0 → iz = 0 ∧ (∀ v u W, Rep W (fun _ => True) DY v → SL W u UF → Calls Try.prog 15 #[v, u] W fun e w' => e = .returned (.bool true) ∧ Below W.heap.size W w') ∧ (∀ v u W, Rep W (fun _ => True) DZ v → SL W u UF → Calls Try.prog 15 #[v, u] W fun e w' => e = .returned (.bool true) ∧ Below W.heap.size W w') ∧ (∀ v u z W, Rep W (fun _ => True) DY v → Rep W (fun _ => True) DZ u → SL W z UF → Calls Try.prog 16 #[v, u, z] W fun e w' => e = .returned (.bool true) ∧ Below W.heap.size W w') ∧ (∀ v u z W, Rep W (fun _ => True) DZ v → Rep W (fun _ => True) DY u → SL W z UF → Calls Try.prog 16 #[v, u, z] W fun e w' => e = .returned (.bool true) ∧ Below W.heap.size W w')) := g5); clear g1 g2 g3 g4 g5 HOk2 hxc; simp only; obtain ⟨d0, d1', d2', -⟩ := blk3 (below_keep HB6.out Z7.out); go_wp2_with fail; refine (HPy.out _ _ _ (HRx2.out.up HB6.out) (HSb0.out.up (below_join HBx.out HB6.out))).mono ?_; rintro e w7 ⟨y, rfl, hy, hb7⟩
            rcases hEY : DY with ⟨ky, ny, ksy⟩
            have hy2 := hy; rw [hEY] at hy2; obtain ⟨sy, cy, rfl⟩ := slice_shape hy2; (have HRy : Hid (Rep w7 (fun _ => True) DY (.agg #[.int .i64 ky, .string ny, .slice sy ksy.length cy])) := hy); have HB7 : Hid (Below wx.heap.size wx w7) := below_join HB6.out hb7; clear hb7 hy hy2 d0 d1' d2'; by_cases hc3 : iy = 0
            · obtain ⟨rfl, g2, g3, g4, g5⟩ := HEnd.out hc3
              subst hc3; (have HPa : Hid (∀ v u W, Rep W (fun _ => True) DY v → SL W u UF → Calls Try.prog 15 #[v, u] W _) := g2); (have HPb : Hid (∀ v u W, Rep W (fun _ => True) DZ v → SL W u UF → Calls Try.prog 15 #[v, u] W _) := g3); (have HMa : Hid (∀ v u z W, Rep W (fun _ => True) DY v → Rep W (fun _ => True) DZ u → SL W z UF → Calls Try.prog 16 #[v, u, z] W _) := g4); (have HMb : Hid (∀ v u z W, Rep W (fun _ => True) DZ v → Rep W (fun _ => True) DY u → SL W z UF → Calls Try.prog 16 #[v, u, z] W _) := g5); clear g2 g3 g4 g5 HEnd HC3
              go_upto_region 12 with fail
              obtain ⟨Y, hY⟩ : ∃ Y, Y = (w7.alloc (.cells #[.int .i64 ky, .string ny, .slice sy ksy.length cy] 24 (0, 0))).alloc (.cells #[.int .i64 0, .int .i64 jy] 29 (0, 0)) := ⟨_, rfl⟩; rw [← hY]; (have hbY : Below w7.heap.size w7 Y := by rw [hY]; exact below_more (below_more (Below.refl _ _) _) _); (have Y11 : Hid (Y.heap[w7.heap.size]? = some (.cells #[.int .i64 ky, .string ny, .slice sy ksy.length cy] 24 (0, 0))) := by rw [hY]; exact alloc_keep (blk_new w7 _) _); have HBY : Hid (Below wx.heap.size wx Y) := below_join HB7.out hbY; (have HRyY : Hid (Rep Y (fun _ => True) DY (.agg #[.int .i64 ky, .string ny, .slice sy ksy.length cy])) := HRy.out.up hbY); clear hY hbY; obtain ⟨d0, d1', d2', -⟩ := blk3 (below_keep HBY.out Z0.out); go_wp2_with fail; have hbm : Below Y.heap.size Y (Y.alloc (.cells #[.int .i64 k, .string n, .slice sl ks.length cap] 24 (0, 0))) := (Below.refl _ _).alloc (Nat.le_refl _) _; refine (HNf.out _ _ (FL.alone (blk_new Y _) ((HRf.out.up (below_join HBx.out HBY.out)).up hbm))).mono ?_; rintro e w8 ⟨x9, rfl, hx9, hb8⟩; have HN8 : Hid (SL w8 x9 UF) := hx9.sl; obtain ⟨adN, cpN, rfl, -⟩ := hx9; have HB8 : Hid (Below Y.heap.size Y w8) := below_join hbm hb8; clear hb8 hbm d0 d1' d2'; obtain ⟨m0, m1, -⟩ := blk2 (below_keep (below_join HBY.out HB8.out) Z5.out); obtain ⟨d0, d1', d2', -⟩ := blk3 (below_keep HB8.out Y11.out); go_wp2_with fail; refine (HPa.out _ _ _ (HRyY.out.up HB8.out) HN8.out).mono ?_; rintro e w9 ⟨rfl, hb9⟩; have HB9 : Hid (Below Y.heap.size Y w9) := below_join HB8.out hb9; have HN9 : Hid (SL w9 (.slice adN UF.length cpN) UF) := HN8.out.up hb9; clear hb9 m0 m1 d0 d1' d2'; obtain ⟨d0, d1', d2', -⟩ := blk3 (below_keep (below_join HBY.out HB9.out) Z4.out); go_wp2_with fail; refine (HPb.out _ _ _ (HRd.out.up (below_join HBY.out HB9.out)) HN9.out).mono ?_; rintro e wa ⟨rfl, hba⟩; have HBa : Hid (Below Y.heap.size Y wa) := below_join HB9.out hba; have HNa : Hid (SL wa (.slice adN UF.length cpN) UF) := HN9.out.up hba; clear hba d0 d1' d2'; obtain ⟨d0, d1', d2', -⟩ := blk3 (below_keep (below_join HBY.out HBa.out) Z4.out); obtain ⟨f0, f1, f2, -⟩ := blk3 (below_keep HBa.out Y11.out); go_wp2_with fail; refine (HMa.out _ _ _ _ (HRyY.out.up HBa.out) (HRd.out.up (below_join HBY.out HBa.out)) HNa.out).mono ?_; rintro e wb ⟨rfl, hbb⟩; have HBb : Hid (Below Y.heap.size Y wb) := below_join HBa.out hbb; have HNb : Hid (SL wb (.slice adN UF.length cpN) UF) := HNa.out.up hbb; clear hbb d0 d1' d2' f0 f1 f2; obtain ⟨d0, d1', d2', -⟩ := blk3 (below_keep (below_join HBY.out HBb.out) Z4.out); obtain ⟨f0, f1, f2, -⟩ := blk3 (below_keep HBb.out Y11.out); go_wp2_with fail; refine (HMb.out _ _ _ _ (HRd.out.up (below_join HBY.out HBb.out)) (HRyY.out.up HBb.out) HNb.out).mono ?_; rintro e wc ⟨rfl, hbc⟩; have HBc : Hid (Below w.heap.size w wc) := below_join HBx.out (below_join HBY.out (below_join HBb.out hbc)); clear hbc d0 d1' d2' f0 f1 f2; go_wp2_with fail; go_ret; exact ⟨rfl, HBc.out⟩
            · have hcn : (iy != 0) = true := by simpa using hc3
              have B9 := below_join HBx.out HB7.out; have hor := HC3.out hc3; clear HEnd HC3; by_cases h2 : iy = 2
              · subst h2
                have hlB : (1000 : Int) < (B.length : Int) := by
                  rcases hor with h | h
                  · exact absurd rfl h
                  · omega
                clear hor; go_wp2_with fail; go_ret; exact ⟨rfl, below_more (below_more B9 _) _⟩
              · have h2b : (iy != 2) = true := by simpa using h2
                clear hor; go_wp2_with fail; go_ret; exact ⟨rfl, below_more (below_more B9 _) _⟩
          · have hcn : (xc.1 != 0) = true := by simpa using hxc
            clear HOk2; go_wp2_with fail; go_ret; exact ⟨rfl, below_join HBx.out HB6.out⟩
        · have hcn : (ia != 0) = true := by simpa using hc1
          go_wp2_with fail; go_ret; exact ⟨rfl, HBx.out⟩
    · have hcn : (tgc.1 != 0) = true := by simpa using htg
      go_wp2_with fail; go_ret; exact ⟨rfl, HB4.out⟩
end Go.Proofs.Ytffkoiemnchdgaf
