/- Texts of one proof, one behind the other: BLC, BLJ. -/
import Derived.Test.YtffkoiemnchdgaeB39
import Derived.Test.YtffkoiemnchdgaeB40
import Derived.Test.YtffkoiemnchdgaeB11
import Derived.Test.YtffkoiemnchdgaeB12
import Derived.Deep.RegionLaw
/- Walks: BetweenCraig. -/
namespace Go.Proofs.Ytffkoiemnchdgae
open Go.RowKit Go.Sort

theorem rowB2 (l : List Value) (h0 : l.length = 2) : ∃ x0 x1, l = [x0, x1] := by
  obtain ⟨x0, l1, e0, h1⟩ := cons_lenB h0; obtain ⟨x1, l2, e1, h2⟩ := cons_lenB h1; have e2 : l2 = [] := List.length_eq_zero_iff.1 h2; subst e2 e1 e0; exact ⟨x0, x1, rfl⟩
theorem rowB8 (l : List Value) (h0 : l.length = 8) : ∃ x0 x1 x2 x3 x4 x5 x6 x7, l = [x0, x1, x2, x3, x4, x5, x6, x7] := by
  obtain ⟨x0, l1, e0, h1⟩ := cons_lenB h0; obtain ⟨x1, l2, e1, h2⟩ := cons_lenB h1; obtain ⟨x2, l3, e2, h3⟩ := cons_lenB h2; obtain ⟨x3, l4, e3, h4⟩ := cons_lenB h3; obtain ⟨x4, l5, e4, h5⟩ := cons_lenB h4; obtain ⟨x5, l6, e5, h6⟩ := cons_lenB h5; obtain ⟨x6, l7, e6, h7⟩ := cons_lenB h6; obtain ⟨x7, l8, e7, h8⟩ := cons_lenB h7; have e8 : l8 = [] := List.length_eq_zero_iff.1 h8; subst e8 e7 e6 e5 e4 e3 e2 e1 e0; exact ⟨x0, x1, x2, x3, x4, x5, x6, x7, rfl⟩
def kL1 (f : Fm) : Value → World → Prop := fun v w => ∃ g, v = .slice (some ⟨g, 0, none⟩) 1 1 ∧ FL w (.slice (some ⟨g, 0, none⟩) 1 1) [f]
theorem kL1_stays (f : Fm) : Stays (kL1 f) := fun v w w' h hb => by
  obtain ⟨g, h1, h2⟩ := h; exact ⟨g, h1, h2.up hb⟩

end Go.Proofs.Ytffkoiemnchdgae
/- Walks: BetweenJoint. -/
namespace Go.Proofs.Ytffkoiemnchdgae
open Go.RowKit Go.Sort

theorem rowB15 (l : List Value) (h0 : l.length = 15) : ∃ x0 x1 x2 x3 x4 x5 x6 x7 x8 x9 x10 x11 x12 x13 x14, l = [x0, x1, x2, x3, x4, x5, x6, x7, x8, x9, x10, x11, x12, x13, x14] := by
  obtain ⟨x0, l1, e0, h1⟩ := cons_lenB h0; obtain ⟨x1, l2, e1, h2⟩ := cons_lenB h1; obtain ⟨x2, l3, e2, h3⟩ := cons_lenB h2; obtain ⟨x3, l4, e3, h4⟩ := cons_lenB h3; obtain ⟨x4, l5, e4, h5⟩ := cons_lenB h4; obtain ⟨x5, l6, e5, h6⟩ := cons_lenB h5; obtain ⟨x6, l7, e6, h7⟩ := cons_lenB h6; obtain ⟨x7, l8, e7, h8⟩ := cons_lenB h7; obtain ⟨x8, l9, e8, h9⟩ := cons_lenB h8; obtain ⟨x9, l10, e9, h10⟩ := cons_lenB h9; obtain ⟨x10, l11, e10, h11⟩ := cons_lenB h10; obtain ⟨x11, l12, e11, h12⟩ := cons_lenB h11; obtain ⟨x12, l13, e12, h13⟩ := cons_lenB h12; obtain ⟨x13, l14, e13, h14⟩ := cons_lenB h13; obtain ⟨x14, l15, e14, h15⟩ := cons_lenB h14; have e15 : l15 = [] := List.length_eq_zero_iff.1 h15; subst e15 e14 e13 e12 e11 e10 e9 e8 e7 e6 e5 e4 e3 e2 e1 e0; exact ⟨x0, x1, x2, x3, x4, x5, x6, x7, x8, x9, x10, x11, x12, x13, x14, rfl⟩
def gL (f : Fm) : FactG YG := fun y v _ => kL1 f v y.g
theorem gL_up {f : Fm} {y y' : YG} {w w' : World} (hb : Below y.g.heap.size y.g y'.g) (u : Value) (h : gL f y u w) : gL f y' u w' := kL1_stays f u y.g y'.g h hb
/-- Are both true in one of the first rows? -/
def anyB (f g : Fm) (ns : List (List UInt8)) (j : Nat) : Bool := (List.range j).any fun i => tvL f (rowN i ns 0) && tvL g (rowN i ns 0)
theorem anyB_succ (f g : Fm) (ns : List (List UInt8)) (j : Nat) : anyB f g ns (j + 1) = (anyB f g ns j || (tvL f (rowN j ns 0) && tvL g (rowN j ns 0))) := by
  unfold anyB; rw [List.range_succ, List.any_append]
  simp
theorem anyB_val {f g : Fm} (hf : Fine f) (hg : Fine g) {l : List (List UInt8)} (hn : l.Nodup) (h1 : ∀ t ∈ nmsT f, t ∈ l) (h2 : ∀ t ∈ nmsT g, t ∈ l) : anyB f g l (2 ^ l.length) = true ↔ ∃ q, tv q f = true ∧ tv q g = true := by
  unfold anyB; rw [List.any_eq_true]
  constructor
  · rintro ⟨i, hi, h⟩
    rw [tvL_rows hf hn h1, tvL_rows hg hn h2] at h; (exact ⟨_, by simpa using h⟩)
  · rintro ⟨q, ha, hb⟩
    obtain ⟨r, hr, hc⟩ := row_with hn q; refine ⟨r, List.mem_range.2 hr, ?_⟩; (have e1 : tvL f (rowN r l 0) = tv q f := (tvL_rows hf hn h1 r).trans (tv_same hf fun t ht => hc t (h1 t ht))); (have e2 : tvL g (rowN r l 0) = tv q g := (tvL_rows hg hn h2 r).trans (tv_same hg fun t ht => hc t (h2 t ht))); rw [e1, e2, ha, hb]; rfl
theorem tg_one {fs : List Fm} (h : (tgcode fs).1 = 0) {f : Fm} (hf : f ∈ fs) : (tgcode [f]).1 = 0 := by
  unfold tgcode; (rw [pfirst_ok [f] (fun x hx => by rw [List.mem_singleton.1 hx]; exact tg_plain h hf), if_pos rfl, nmsF_one, if_neg (by have := nmsU_six h hf; omega)])
theorem vcode_names {f g : Fm} (hp : f.pcode.1 = 0) (hq : g.pcode.1 = 0) (h6 : (nmsU g).length ≤ 1000) : (vcode f (nmsU g)).1 = 0 := by
  unfold vcode; (rw [if_pos hp, if_neg (by omega)])
  have : (nmsU g).any (fun t => !isNm t) = false := by
    rw [List.any_eq_false]; intro t ht; rw [nmsU_nm (pc_fine hq).1 t ht]; simp
  rw [this]; rfl
/-- Robinson's joint consistency. -/
theorem joint_eq {f g : Fm} (ht : (tgcode [f, g]).1 = 0) : anyB f g (nmsF [f, g]) (2 ^ (nmsF [f, g]).length) = anyB (projF f (nmsU g)) g (nmsF [f, g]) (2 ^ (nmsF [f, g]).length) := by
  (have hp := tg_plain ht (f := f) (by simp)); (have hq := tg_plain ht (f := g) (by simp)); have hf := (pc_fine hp).1; have hg := (pc_fine hq).1; (have hm := projF_made hp (nmsU_six ht (by simp)) (nmsU g)); (have n1 : ∀ t ∈ nmsT f, t ∈ nmsF [f, g] := fun t ht => (nmsF_mem _ t).2 ⟨f, by simp, ht⟩); (have n2 : ∀ t ∈ nmsT g, t ∈ nmsF [f, g] := fun t ht => (nmsF_mem _ t).2 ⟨g, by simp, ht⟩); (have n3 : ∀ t ∈ nmsT (projF f (nmsU g)), t ∈ nmsF [f, g] := fun t ht => n1 t ((nmsU_mem f t).1 (List.mem_filter.1 (hm.names t ht)).1)); rw [Bool.eq_iff_iff, anyB_val hf hg (nmsF_nodup _) n1 n2, anyB_val hm.fine hg (nmsF_nodup _) n3 n2]
  constructor
  · rintro ⟨q, h1, h2⟩
    (exact ⟨q, (projF_tv hp _ q).2 ⟨q, by rw [mixQ_self hf]; exact h1⟩, h2⟩)
  · rintro ⟨q, h1, h2⟩
    obtain ⟨q2, h3⟩ := (projF_tv hp _ q).1 h1; (exact ⟨_, h3, by rw [tv_same hg (q := q) fun t ht => by unfold mixQ; rw [if_pos ((nmsU_mem g t).2 ht)]]; exact h2⟩)

set_option maxRecDepth 10000 in
set_option maxHeartbeats 16000000 in
theorem joint_law (f g : Fm) (v u : Value) (w : World) (hv : Rep w (fun _ => True) f v) (hu : Rep w (fun _ => True) g u) :
    Calls Try.prog 7 #[v, u] w fun e w' => e = .returned (.bool true) ∧ Below w.heap.size w w' := by
  (have HBe : Hid (∀ W, Calls Try.prog 12 #[] W _) := fun W => betweenBegun_any W); (have HVf : Hid (∀ v W, Rep W (fun _ => True) f v → Calls Try.prog 13 #[v, .int .i64 0] W _) := fun v W h => vast2_any f v W h); (have HVg : Hid (∀ v W, Rep W (fun _ => True) g v → Calls Try.prog 13 #[v, .int .i64 0] W _) := fun v W h => vast2_any g v W h); (have HBf : Hid (∀ v W, FL W v [f, g] → Calls Try.prog 16 #[v] W _) := fun v W h => bfault_any [f, g] (by simp) v W h)
  have HAll : Hid ((tgcode [f, g]).1 = 0 → OffOk (projF f (nmsU g)) ∧ (nmsF [f, g]).length ≤ 6 ∧ anyB f g (nmsF [f, g]) (2 ^ (nmsF [f, g]).length) = anyB (projF f (nmsU g)) g (nmsF [f, g]) (2 ^ (nmsF [f, g]).length) ∧
      (∀ v u W, Rep W (fun _ => True) f v → SL W u (nmsU g) → Calls Try.prog 23 #[v, u] W fun e w' => ∃ x, e = .returned (.tuple #[x, .agg #[.int .i64 0, .int .i64 0]]) ∧ Rep w' (fun _ => True) (projF f (nmsU g)) x ∧ Below W.heap.size W w') ∧
      (∀ v W, FL W v [f, g] → Calls Try.prog 17 #[v] W fun e w' => ∃ x, e = .returned x ∧ TL w' x (nmsF [f, g]) ∧ Below W.heap.size W w') ∧
      (∀ v W, FL W v [f] → Calls Try.prog 17 #[v] W fun e w' => ∃ x, e = .returned x ∧ TL w' x (nmsU f) ∧ Below W.heap.size W w') ∧
      (∀ v W, FL W v [g] → Calls Try.prog 17 #[v] W fun e w' => ∃ x, e = .returned x ∧ TL w' x (nmsU g) ∧ Below W.heap.size W w') ∧
      (∀ v u W, SL W v (nmsU f) → SL W u (nmsU g) → Calls Try.prog 22 #[v, u] W fun e w' => ∃ x, e = .returned x ∧ TL w' x (keptN f (nmsU g)) ∧ Below W.heap.size W w') ∧
      (∀ v u W, Rep W (fun _ => True) (projF f (nmsU g)) v → SL W u (keptN f (nmsU g)) → Calls Try.prog 21 #[v, u] W fun e w' => e = .returned (.bool true) ∧ Below W.heap.size W w') ∧
      (∀ r, r ≤ 100000 → ∀ u W, SL W u (nmsF [f, g]) → Calls Try.prog 25 #[u, .int .i64 (r : Nat)] W fun e w' => ∃ x, e = .returned x ∧ TL w' x (rowN r (nmsF [f, g]) 0) ∧ Below W.heap.size W w') ∧
      (∀ (r : Nat) v u W, Rep W (fun _ => True) f v → SL W u (rowN r (nmsF [f, g]) 0) → Calls Try.prog 26 #[v, u] W fun e w' => e = .returned (.bool (tvL f (rowN r (nmsF [f, g]) 0))) ∧ Below W.heap.size W w') ∧
      (∀ (r : Nat) v u W, Rep W (fun _ => True) g v → SL W u (rowN r (nmsF [f, g]) 0) → Calls Try.prog 26 #[v, u] W fun e w' => e = .returned (.bool (tvL g (rowN r (nmsF [f, g]) 0))) ∧ Below W.heap.size W w') ∧
      (∀ (r : Nat) v u W, Rep W (fun _ => True) (projF f (nmsU g)) v → SL W u (rowN r (nmsF [f, g]) 0) → Calls Try.prog 26 #[v, u] W fun e w' => e = .returned (.bool (tvL (projF f (nmsU g)) (rowN r (nmsF [f, g]) 0))) ∧ Below W.heap.size W w')) := fun ht => by
    (have hp := tg_plain ht (f := f) (by simp)); (have hq := tg_plain ht (f := g) (by simp)); (have h6 := nmsU_six ht (f := g) (by simp)); (have hm := projF_made hp (nmsU_six ht (f := f) (by simp)) (nmsU g)); (refine ⟨Or.inl hm.fine, tg_few ht, joint_eq ht, fun v u W h h' => ?_, fun v W h => namesIn_list [f, g] (by simp) (fun x hx => (pc_fine (tg_plain ht hx)).2) v W h, fun v W h => namesIn_any f (pc_fine hp).2 v W h, fun v W h => namesIn_any g (pc_fine hq).2 v W h, fun v u W h h' => common_any (nmsU f) (nmsU g) (by have := nmsU_six ht (f := f) (by simp); omega) v u W h h', fun v u W h h' => plainAns_any _ _ _ 379 hm (by omega) (fun _ h => h) v u W h h', fun r hr u W h => row_any r hr _ (by have := tg_few ht; omega) u W h, fun r v u W h h' => trueR_any _ f v u W (pc_fine hp).1 h h', fun r v u W h h' => trueR_any _ g v u W (pc_fine hq).1 h h', fun r v u W h h' => trueR_any _ _ v u W hm.fine h h'⟩); (refine (project_ok f (nmsU g) v u W h h' (tg_one ht (by simp)) (fun t ht => by have := nmsU_small (pc_fine hq).1 t ht; unfold maxLen; omega) (vcode_names hp hq (by omega))).mono ?_); rintro e w' ⟨x, rfl, hx, hb⟩; exact ⟨x, rfl, hx, hb⟩
  (have HTz : Hid ((tgcode [f, g]).1 = 0 → tgcode [f, g] = (0, 0)) := fun h => tg_zero h); (have hfc := fun a b w => fault_code a b w); generalize tgcode [f, g] = tgc at *; generalize projF f (nmsU g) = D at *; generalize keptN f (nmsU g) = UC at *; generalize nmsF [f, g] = NF at *; generalize nmsU f = UF at *; generalize nmsU g = UG at *; obtain ⟨k, n, ks⟩ := f; obtain ⟨sl, cap, rfl⟩ := slice_shape hv; obtain ⟨kg, ng, ksg⟩ := g; obtain ⟨sg, cg, rfl⟩ := slice_shape hu; (have HRf : Hid (Rep w (fun _ => True) (.mk k n ks) (.agg #[.int .i64 k, .string n, .slice sl ks.length cap])) := hv); (have HRg : Hid (Rep w (fun _ => True) (.mk kg ng ksg) (.agg #[.int .i64 kg, .string ng, .slice sg ksg.length cg])) := hu); have hB0 := below_more (below_more (Below.refl _ w) (.cells #[.int .i64 k, .string n, .slice sl ks.length cap] 24 (0, 0))) (.cells #[.int .i64 kg, .string ng, .slice sg ksg.length cg] 24 (0, 0)); have p0 := alloc_keep (blk_new w (.cells #[.int .i64 k, .string n, .slice sl ks.length cap] 24 (0, 0))) (.cells #[.int .i64 kg, .string ng, .slice sg ksg.length cg] 24 (0, 0)); have p1 := blk_2nd w (.cells #[.int .i64 k, .string n, .slice sl ks.length cap] 24 (0, 0)) (.cells #[.int .i64 kg, .string ng, .slice sg ksg.length cg] 24 (0, 0)); clear hv hu
  go_enter Try.func7, Try.ntmps7
  go_wp2_with fail; refine (HBe.out _).mono ?_; rintro e w1 ⟨rfl, hb1⟩; have HB1 : Hid (Below w.heap.size w w1) := below_join hB0 hb1; have Q0 : Hid (w1.heap[w.heap.size]? = some (.cells #[.int .i64 k, .string n, .slice sl ks.length cap] 24 (0, 0))) := below_keep hb1 p0; have Q1 : Hid (w1.heap[w.heap.size + 1]? = some (.cells #[.int .i64 kg, .string ng, .slice sg ksg.length cg] 24 (0, 0))) := below_keep hb1 p1; clear hb1 p0 p1 hB0 HBe; obtain ⟨a0, a1, a2, -⟩ := blk3 Q0.out; go_wp2_with fail; refine (HVf.out _ _ (HRf.out.up HB1.out)).mono ?_; rintro e w2 ⟨⟨bb, rfl, hbb⟩, hb2⟩; have HB2 : Hid (Below w.heap.size w w2) := below_join HB1.out hb2; have R0 : Hid (w2.heap[w.heap.size]? = some (.cells #[.int .i64 k, .string n, .slice sl ks.length cap] 24 (0, 0))) := below_keep hb2 Q0.out; have R1 : Hid (w2.heap[w.heap.size + 1]? = some (.cells #[.int .i64 kg, .string ng, .slice sg ksg.length cg] 24 (0, 0))) := below_keep hb2 Q1.out; clear hb2 a0 a1 a2 Q0 Q1 HB1 HVf hbb; obtain ⟨a0, a1, a2, -⟩ := blk3 R1.out
  cases bb
  case true =>
    go_wp2_with fail; go_ret; exact ⟨rfl, HB2.out⟩
  case false =>
    go_wp2_with fail; refine (HVg.out _ _ (HRg.out.up HB2.out)).mono ?_; rintro e w3 ⟨⟨bb, rfl, hbb⟩, hb3⟩; have HB3 : Hid (Below w.heap.size w w3) := below_join HB2.out hb3; have S0 : Hid (w3.heap[w.heap.size]? = some (.cells #[.int .i64 k, .string n, .slice sl ks.length cap] 24 (0, 0))) := below_keep hb3 R0.out; have S1 : Hid (w3.heap[w.heap.size + 1]? = some (.cells #[.int .i64 kg, .string ng, .slice sg ksg.length cg] 24 (0, 0))) := below_keep hb3 R1.out; clear hb3 a0 a1 a2 R0 R1 HB2 HVg hbb
    cases bb
    case true =>
      go_wp2_with fail; go_ret; exact ⟨rfl, HB3.out⟩
    case false =>
      obtain ⟨d0, d1, d2, -⟩ := blk3 S0.out; obtain ⟨f0, f1, f2, -⟩ := blk3 S1.out; go_wp2_with fail; have hbm : Below w3.heap.size w3 (w3.alloc (.cells #[.int .i64 k, .string n, .slice sl ks.length cap, .int .i64 kg, .string ng, .slice sg ksg.length cg] 24 (0, 0))) := (Below.refl _ _).alloc (Nat.le_refl _) _; refine (HBf.out _ _ (FL.pair2 (blk_new w3 _) ((HRf.out.up HB3.out).up hbm) ((HRg.out.up HB3.out).up hbm))).mono ?_; rintro e W ⟨rfl, hb4⟩; have HBW : Hid (Below w.heap.size w W) := below_join HB3.out (below_join hbm hb4); have P0 : Hid (W.heap[w.heap.size]? = some (.cells #[.int .i64 k, .string n, .slice sl ks.length cap] 24 (0, 0))) := below_keep (below_join hbm hb4) S0.out; have P1 : Hid (W.heap[w.heap.size + 1]? = some (.cells #[.int .i64 kg, .string ng, .slice sg ksg.length cg] 24 (0, 0))) := below_keep (below_join hbm hb4) S1.out; clear hb4 hbm d0 d1 d2 f0 f1 f2 S0 S1 HB3; by_cases htg : tgc.1 = 0
      · have htz : tgc = (0, 0) := HTz.out htg
        subst htz; obtain ⟨g1, g2, g3, g4, g5, g6, g7, g8, g9, g10, g11, g12, g13⟩ := HAll.out rfl; have HOf : Hid (OffOk D) := g1; (have HPj : Hid (∀ v u W, Rep W (fun _ => True) (.mk k n ks) v → SL W u UG → Calls Try.prog 23 #[v, u] W _) := g4); have HNs : Hid (∀ v W, FL W v [.mk k n ks, .mk kg ng ksg] → Calls Try.prog 17 #[v] W _) := g5; have HNf : Hid (∀ v W, FL W v [.mk k n ks] → Calls Try.prog 17 #[v] W _) := g6; have HNg : Hid (∀ v W, FL W v [.mk kg ng ksg] → Calls Try.prog 17 #[v] W _) := g7; have HCo : Hid (∀ v u W, SL W v UF → SL W u UG → Calls Try.prog 22 #[v, u] W _) := g8; (have HPl : Hid (∀ v u W, Rep W (fun _ => True) D v → SL W u UC → Calls Try.prog 21 #[v, u] W _) := g9); have HRW : Hid (∀ r, r ≤ 100000 → ∀ u W, SL W u NF → Calls Try.prog 25 #[u, .int .i64 (r : Nat)] W _) := g10; (have HTF : Hid (∀ (r : Nat) v u W, Rep W (fun _ => True) (.mk k n ks) v → SL W u (rowN r NF 0) → Calls Try.prog 26 #[v, u] W _) := g11); (have HTG : Hid (∀ (r : Nat) v u W, Rep W (fun _ => True) (.mk kg ng ksg) v → SL W u (rowN r NF 0) → Calls Try.prog 26 #[v, u] W _) := g12); (have HTD : Hid (∀ (r : Nat) v u W, Rep W (fun _ => True) D v → SL W u (rowN r NF 0) → Calls Try.prog 26 #[v, u] W _) := g13); obtain ⟨hwr, hM1, hM2⟩ := shl_row NF.length g2; (have hNI : (NF.length : Int) ≤ 6 := by omega); obtain ⟨M, hM⟩ : ∃ M, M = 2 ^ NF.length := ⟨_, rfl⟩; rw [← hM] at hwr hM1 hM2 g3; have HW : Hid (wrap64 ((2 : Int) ^ NF.length) = ((M : Nat) : Int)) := hwr; have HEq : Hid (anyB (.mk k n ks) (.mk kg ng ksg) NF M = anyB D (.mk kg ng ksg) NF M) := g3; clear g1 g2 g3 g4 g5 g6 g7 g8 g9 g10 g11 g12 g13 HAll HTz htg hwr hM; simp only; go_wp2_with fail; (refine wp_region_gh (by kernel_rfl) (by kernel_rfl) (by kernel_rfl) 90 rfl (by kernel_rfl) [fun _ v _ => v = (.agg #[.int .i64 k, .string n, .slice sl ks.length cap]), fun _ v _ => v = (.agg #[.int .i64 kg, .string ng, .slice sg ksg.length cg]), gL (.mk kg ng ksg), gS UG, fun y v _ => v = .tuple #[y.x, .agg #[.int .i64 0, .int .i64 0]], fun y v _ => v = .tuple #[y.x, .agg #[.int .i64 0, .int .i64 0]], fun y v _ => v = y.x, fun y v _ => v = .agg #[.int .i64 0, .int .i64 0], fun y v _ => v = .pointer (some ⟨y.b4, 0, none⟩), fun y v _ => v = .pointer (some ⟨y.b5, 0, none⟩), fun _ _ _ => True, fun _ _ _ => True] (fun _ _ => true) (fun L => St2 W D 0 0 (L 8) (L 9) (L 4) (L 10) (L 11)) (⟨W, 0, 0, 0, ⟨#[]⟩, [], none, 0⟩) ?_ ?_ ?_)
        · exact fun wx h h' => St2.init h h' _ rfl
        · refine ⟨?_, ?_, ?_, ?_, ?_, ?_, ?_, ?_, ?_, ?_, ?_, ?_, trivial⟩
          · intro L y a wx hSt hLi hdl hcl hold hdep K hK
            (have l4 : L 10 = false := not_yet hLi fun h => hcl 10 _ rfl h 0 rfl); (have l5 : L 11 = false := not_yet hLi fun h => hcl 11 _ rfl h 0 rfl); rw [l4, l5] at hSt; have HSt : Hid (St2 W D 0 0 (L 8) (L 9) (L 4) false false y wx) := hSt; clear hSt; have t2 : a.tmps[2]? = some (.pointer (some ⟨w.heap.size, 0, none⟩)) := hold 2 rfl; obtain ⟨d0, d1, d2, -⟩ := blk3 (below_keep (below_join HSt.out.below HSt.out.eqv) P0.out); clear hold hdep hdl hcl; go_simp; (exact hK.out _ _ y (by show St2 W D 0 0 (L 8) (L 9) (L 4) (L 10) (L 11) _ _; rw [l4, l5]; exact HSt.out) rfl (fun j hj hl => ⟨rfl, fun u h => h⟩))
          · intro L y a wx hSt hLi hdl hcl hold hdep K hK
            (have l4 : L 10 = false := not_yet hLi fun h => hcl 10 _ rfl h 1 rfl); (have l5 : L 11 = false := not_yet hLi fun h => hcl 11 _ rfl h 1 rfl); rw [l4, l5] at hSt; have HSt : Hid (St2 W D 0 0 (L 8) (L 9) (L 4) false false y wx) := hSt; clear hSt; have t3 : a.tmps[3]? = some (.pointer (some ⟨w.heap.size + 1, 0, none⟩)) := hold 3 rfl; obtain ⟨d0, d1, d2, -⟩ := blk3 (below_keep (below_join HSt.out.below HSt.out.eqv) P1.out); clear hold hdep hdl hcl; go_simp; (exact hK.out _ _ y (by show St2 W D 0 0 (L 8) (L 9) (L 4) (L 10) (L 11) _ _; rw [l4, l5]; exact HSt.out) rfl (fun j hj hl => ⟨rfl, fun u h => h⟩))
          · intro L y a wx hSt hLi hdl hcl hold hdep K hK
            (have l4 : L 10 = false := not_yet hLi fun h => hcl 10 _ rfl h 2 rfl); (have l5 : L 11 = false := not_yet hLi fun h => hcl 11 _ rfl h 2 rfl); rw [l4, l5] at hSt; have HSt : Hid (St2 W D 0 0 (L 8) (L 9) (L 4) false false y wx) := hSt; clear hSt; obtain ⟨v30, t30, q30⟩ := hdep 1 rfl _ 30 rfl rfl; have e30 : v30 = (.agg #[.int .i64 kg, .string ng, .slice sg ksg.length cg]) := q30 rfl; subst e30; clear hold hdep hdl; go_simp; have hb3 : Below wx.heap.size wx (wx.alloc (.cells #[.int .i64 kg, .string ng, .slice sg ksg.length cg] 24 (0, 0))) := (Below.refl _ _).alloc (Nat.le_refl _) _; (refine hK.out _ _ { y with g := wx.alloc (.cells #[.int .i64 kg, .string ng, .slice sg ksg.length cg] 24 (0, 0)) } (by show St2 W D 0 0 (L 8) (L 9) (L 4) (L 10) (L 11) _ _; rw [l4, l5]; exact HSt.out.up hb3) ⟨_, rfl, FL.alone (blk_new wx _) ((HRg.out.up (below_join HBW.out (below_join HSt.out.below HSt.out.eqv))).up hb3)⟩ ?_); intro j hj hl
            rcases j with _ | _ | _ | _ | _ | _ | _ | _ | _ | _ | _ | _ | j
            · exact ⟨rfl, fun u h => h⟩
            · exact ⟨rfl, fun u h => h⟩
            · exact Bool.noConfusion (hLi.symm.trans hj)
            · exact ⟨rfl, fun u h => gS_up (w := wx) (w' := wx) (below_join HSt.out.eqv hb3) u h⟩
            · exact ⟨rfl, fun u h => h⟩
            · exact ⟨rfl, fun u h => h⟩
            · exact ⟨rfl, fun u h => h⟩
            · exact ⟨rfl, fun u h => h⟩
            · exact ⟨rfl, fun u h => h⟩
            · exact ⟨rfl, fun u h => h⟩
            · exact ⟨rfl, fun u h => h⟩
            · exact ⟨rfl, fun u h => h⟩
            · exact ⟨rfl, fun u h => h⟩
          · intro L y a wx hSt hLi hdl hcl hold hdep K hK
            (have l4 : L 10 = false := not_yet hLi fun h => hcl 10 _ rfl h 3 rfl); (have l5 : L 11 = false := not_yet hLi fun h => hcl 11 _ rfl h 3 rfl); rw [l4, l5] at hSt; have HSt : Hid (St2 W D 0 0 (L 8) (L 9) (L 4) false false y wx) := hSt; clear hSt; obtain ⟨v31, t31, q31⟩ := hdep 2 rfl _ 31 rfl rfl; obtain ⟨g31, e31, r31⟩ := q31 rfl; subst e31; have HFL : Hid (FL wx (.slice (some ⟨g31, 0, none⟩) 1 1) [.mk kg ng ksg]) := r31.up HSt.out.eqv; clear r31 q31; clear hold hdep hdl; go_simp; refine (HNg.out _ wx HFL.out).mono ?_; rintro e w3 ⟨x9, rfl, hx9, hb3⟩; obtain ⟨ad9, cp9, e9, h9⟩ := hx9.sl; subst e9; (refine hK.out _ _ { y with g := w3 } (by show St2 W D 0 0 (L 8) (L 9) (L 4) (L 10) (L 11) _ _; rw [l4, l5]; exact HSt.out.up hb3) ⟨_, _, _, rfl, ad9, cp9, rfl, h9⟩ ?_); intro j hj hl
            rcases j with _ | _ | _ | _ | _ | _ | _ | _ | _ | _ | _ | _ | j
            · exact ⟨rfl, fun u h => h⟩
            · exact ⟨rfl, fun u h => h⟩
            · exact ⟨rfl, fun u h => gL_up (w := wx) (w' := wx) (below_join HSt.out.eqv hb3) u h⟩
            · exact Bool.noConfusion (hLi.symm.trans hj)
            · exact ⟨rfl, fun u h => h⟩
            · exact ⟨rfl, fun u h => h⟩
            · exact ⟨rfl, fun u h => h⟩
            · exact ⟨rfl, fun u h => h⟩
            · exact ⟨rfl, fun u h => h⟩
            · exact ⟨rfl, fun u h => h⟩
            · exact ⟨rfl, fun u h => h⟩
            · exact ⟨rfl, fun u h => h⟩
            · exact ⟨rfl, fun u h => h⟩
          · intro L y a wx hSt hLi hdl hcl hold hdep K hK
            (have l4 : L 10 = false := not_yet hLi fun h => hcl 10 _ rfl h 4 rfl); (have l5 : L 11 = false := not_yet hLi fun h => hcl 11 _ rfl h 4 rfl); rw [l4, l5] at hSt; have HSt : Hid (St2 W D 0 0 (L 8) (L 9) (L 4) false false y wx) := hSt; clear hSt; obtain ⟨v29, t29, q29⟩ := hdep 0 rfl _ 29 rfl rfl; have e29 : v29 = (.agg #[.int .i64 k, .string n, .slice sl ks.length cap]) := q29 rfl; subst e29; obtain ⟨v32, t32, q32⟩ := hdep 3 rfl _ 32 rfl rfl; obtain ⟨adb, mb, cpb, e32, rb⟩ := q32 rfl; subst e32; have HSb : Hid (SL wx (.slice adb mb cpb) UG) := rb.up HSt.out.eqv; clear rb q32; clear hold hdep hdl; go_simp; refine (HPj.out _ _ wx (HRf.out.up (below_join HBW.out (below_join HSt.out.below HSt.out.eqv))) HSb.out).mono ?_; rintro e w3 ⟨x, rfl, hx, hb3⟩
            rcases hE : D with ⟨k5, n5, ks5⟩
            have hx2 := hx; rw [hE] at hx2; obtain ⟨sl5, cp5, rfl⟩ := slice_shape hx2; (refine hK.out _ _ { y with g := w3, k := k5, n := n5, ks := ks5, sl := sl5, cp := cp5 } (by show St2 W D 0 0 (L 8) (L 9) true (L 10) (L 11) _ _; rw [l4, l5]; exact HSt.out.call hb3 hE hx) rfl ?_); intro j hj hl
            rcases j with _ | _ | _ | _ | _ | _ | _ | _ | _ | _ | _ | _ | j
            · exact ⟨rfl, fun u h => h⟩
            · exact ⟨rfl, fun u h => h⟩
            · exact ⟨rfl, fun u h => gL_up (w := wx) (w' := wx) (below_join HSt.out.eqv hb3) u h⟩
            · exact ⟨rfl, fun u h => gS_up (w := wx) (w' := wx) (below_join HSt.out.eqv hb3) u h⟩
            · exact Bool.noConfusion (hLi.symm.trans hj)
            · exact Bool.noConfusion (hLi.symm.trans (hcl 5 _ rfl hj 4 rfl))
            · exact Bool.noConfusion (hLi.symm.trans (hcl 5 _ rfl (hcl 6 _ rfl hj 5 rfl) 4 rfl))
            · exact Bool.noConfusion (hLi.symm.trans (hcl 5 _ rfl (hcl 7 _ rfl hj 5 rfl) 4 rfl))
            · exact ⟨rfl, fun u h => h⟩
            · exact ⟨rfl, fun u h => h⟩
            · exact Bool.noConfusion (hLi.symm.trans (hcl 10 _ rfl hj 4 rfl))
            · exact Bool.noConfusion (hLi.symm.trans (hcl 11 _ rfl hj 4 rfl))
            · exact ⟨rfl, fun u h => h⟩
          · intro L y a wx hSt hLi hdl hcl hold hdep K hK
            (have l4 : L 10 = false := not_yet hLi fun h => hcl 10 _ rfl h 5 rfl); (have l5 : L 11 = false := not_yet hLi fun h => hcl 11 _ rfl h 5 rfl); rw [l4, l5] at hSt; have HSt : Hid (St2 W D 0 0 (L 8) (L 9) (L 4) false false y wx) := hSt; clear hSt; obtain ⟨v33, t33, q33⟩ := hdep 4 rfl _ 33 rfl rfl; have e33 : v33 = (.tuple #[y.x, .agg #[.int .i64 0, .int .i64 0]]) := q33 rfl; subst e33; clear hold hdep hdl hcl; go_simp; (exact hK.out _ _ y (by show St2 W D 0 0 (L 8) (L 9) (L 4) (L 10) (L 11) _ _; rw [l4, l5]; exact HSt.out) rfl (fun j hj hl => ⟨rfl, fun u h => h⟩))
          · intro L y a wx hSt hLi hdl hcl hold hdep K hK
            have HSt : Hid (St2 W D 0 0 (L 8) (L 9) (L 4) (L 10) (L 11) y wx) := hSt; clear hSt; obtain ⟨v28, t28, q28⟩ := hdep 5 rfl _ 28 rfl rfl; have e28 : v28 = (.tuple #[y.x, .agg #[.int .i64 0, .int .i64 0]]) := q28 rfl; subst e28; clear hold hdep hdl hcl; go_simp; (exact hK.out _ _ y HSt.out rfl (fun j hj hl => ⟨rfl, fun u h => h⟩))
          · intro L y a wx hSt hLi hdl hcl hold hdep K hK
            have HSt : Hid (St2 W D 0 0 (L 8) (L 9) (L 4) (L 10) (L 11) y wx) := hSt; clear hSt; obtain ⟨v28, t28, q28⟩ := hdep 5 rfl _ 28 rfl rfl; have e28 : v28 = (.tuple #[y.x, .agg #[.int .i64 0, .int .i64 0]]) := q28 rfl; subst e28; clear hold hdep hdl hcl; go_simp; (exact hK.out _ _ y HSt.out rfl (fun j hj hl => ⟨rfl, fun u h => h⟩))
          · intro L y a wx hSt hLi hdl hcl hold hdep K hK
            (have l4 : L 10 = false := not_yet hLi fun h => hcl 10 _ rfl h 8 rfl); (have l5 : L 11 = false := not_yet hLi fun h => hcl 11 _ rfl h 8 rfl); rw [l4, l5] at hSt; have HSt : Hid (St2 W D 0 0 (L 8) (L 9) (L 4) false false y wx) := hSt; clear hSt; clear hold hdep hdl; go_simp; have hb3 : Below wx.heap.size wx (wx.alloc (.cells #[.int .i64 0, .string ⟨#[]⟩, .slice none 0 0] 24 (0, 0))) := (Below.refl _ _).alloc (Nat.le_refl _) _; (refine hK.out _ _ { y with g := wx.alloc (.cells #[.int .i64 0, .string ⟨#[]⟩, .slice none 0 0] 24 (0, 0)), b4 := wx.heap.size } (by show St2 W D 0 0 true (L 9) (L 4) (L 10) (L 11) _ _; rw [l4, l5]; exact HSt.out.new4) rfl ?_); intro j hj hl
            rcases j with _ | _ | _ | _ | _ | _ | _ | _ | _ | _ | _ | _ | j
            · exact ⟨rfl, fun u h => h⟩
            · exact ⟨rfl, fun u h => h⟩
            · exact ⟨rfl, fun u h => gL_up (w := wx) (w' := wx) (below_join HSt.out.eqv hb3) u h⟩
            · exact ⟨rfl, fun u h => gS_up (w := wx) (w' := wx) (below_join HSt.out.eqv hb3) u h⟩
            · exact ⟨rfl, fun u h => h⟩
            · exact ⟨rfl, fun u h => h⟩
            · exact ⟨rfl, fun u h => h⟩
            · exact ⟨rfl, fun u h => h⟩
            · exact Bool.noConfusion (hLi.symm.trans hj)
            · exact ⟨rfl, fun u h => h⟩
            · exact Bool.noConfusion (hLi.symm.trans (hcl 10 _ rfl hj 8 rfl))
            · exact Bool.noConfusion (hLi.symm.trans (hcl 11 _ rfl hj 8 rfl))
            · exact ⟨rfl, fun u h => h⟩
          · intro L y a wx hSt hLi hdl hcl hold hdep K hK
            (have l4 : L 10 = false := not_yet hLi fun h => hcl 10 _ rfl h 9 rfl); (have l5 : L 11 = false := not_yet hLi fun h => hcl 11 _ rfl h 9 rfl); rw [l4, l5] at hSt; have HSt : Hid (St2 W D 0 0 (L 8) (L 9) (L 4) false false y wx) := hSt; clear hSt; clear hold hdep hdl; go_simp; have hb3 : Below wx.heap.size wx (wx.alloc (.cells #[.int .i64 0, .int .i64 0] 33 (0, 0))) := (Below.refl _ _).alloc (Nat.le_refl _) _; (refine hK.out _ _ { y with g := wx.alloc (.cells #[.int .i64 0, .int .i64 0] 33 (0, 0)), b5 := wx.heap.size } (by show St2 W D 0 0 (L 8) true (L 4) (L 10) (L 11) _ _; rw [l4, l5]; exact HSt.out.new5) rfl ?_); intro j hj hl
            rcases j with _ | _ | _ | _ | _ | _ | _ | _ | _ | _ | _ | _ | j
            · exact ⟨rfl, fun u h => h⟩
            · exact ⟨rfl, fun u h => h⟩
            · exact ⟨rfl, fun u h => gL_up (w := wx) (w' := wx) (below_join HSt.out.eqv hb3) u h⟩
            · exact ⟨rfl, fun u h => gS_up (w := wx) (w' := wx) (below_join HSt.out.eqv hb3) u h⟩
            · exact ⟨rfl, fun u h => h⟩
            · exact ⟨rfl, fun u h => h⟩
            · exact ⟨rfl, fun u h => h⟩
            · exact ⟨rfl, fun u h => h⟩
            · exact ⟨rfl, fun u h => h⟩
            · exact Bool.noConfusion (hLi.symm.trans hj)
            · exact Bool.noConfusion (hLi.symm.trans (hcl 10 _ rfl hj 9 rfl))
            · exact Bool.noConfusion (hLi.symm.trans (hcl 11 _ rfl hj 9 rfl))
            · exact ⟨rfl, fun u h => h⟩
          · intro L y a wx hSt hLi hdl hcl hold hdep K hK
            have la : L 8 = true := hdl 8 rfl; have lb : L 9 = true := hdl 9 rfl; have lc : L 4 = true := hdl 4 rfl; rw [la, lb, lc, hLi] at hSt; have HSt : Hid (St2 W D 0 0 true true true false (L 11) y wx) := hSt; clear hSt; obtain ⟨v34, t34, q34⟩ := hdep 6 rfl _ 34 rfl rfl; have e34 : v34 = (.agg #[.int .i64 y.k, .string y.n, .slice y.sl y.ks.length y.cp]) := q34 rfl; subst e34; obtain ⟨v5, t5, q5⟩ := hdep 8 rfl _ 5 rfl rfl; have e5 : v5 = (.pointer (some ⟨y.b4, 0, none⟩)) := q5 rfl; subst e5; obtain ⟨c0, c1, c2, z0, z1, z2⟩ := blk3 HSt.out.w4; clear hold hdep hdl hcl; go_simp; (refine hK.out undef _ y (by show St2 W D 0 0 (L 8) (L 9) (L 4) true (L 11) _ _; rw [la, lb, lc]; exact HSt.out.put4) trivial ?_); intro j hj hl
            rcases j with _ | _ | _ | _ | _ | _ | _ | _ | _ | _ | _ | _ | j
            · exact ⟨rfl, fun u h => h⟩
            · exact ⟨rfl, fun u h => h⟩
            · exact ⟨rfl, fun u h => h⟩
            · exact ⟨rfl, fun u h => h⟩
            · exact ⟨rfl, fun u h => h⟩
            · exact ⟨rfl, fun u h => h⟩
            · exact ⟨rfl, fun u h => h⟩
            · exact ⟨rfl, fun u h => h⟩
            · exact ⟨rfl, fun u h => h⟩
            · exact ⟨rfl, fun u h => h⟩
            · exact ⟨rfl, fun u h => h⟩
            · exact ⟨rfl, fun u h => h⟩
            · exact ⟨rfl, fun u h => h⟩
          · intro L y a wx hSt hLi hdl hcl hold hdep K hK
            have la : L 8 = true := hdl 8 rfl; have lb : L 9 = true := hdl 9 rfl; have lc : L 4 = true := hdl 4 rfl; rw [la, lb, lc, hLi] at hSt; have HSt : Hid (St2 W D 0 0 true true true (L 10) false y wx) := hSt; clear hSt; obtain ⟨v35, t35, q35⟩ := hdep 7 rfl _ 35 rfl rfl; have e35 : v35 = (.agg #[.int .i64 0, .int .i64 0]) := q35 rfl; subst e35; obtain ⟨v6, t6, q6⟩ := hdep 9 rfl _ 6 rfl rfl; have e6 : v6 = (.pointer (some ⟨y.b5, 0, none⟩)) := q6 rfl; subst e6; obtain ⟨c0, c1, z0, z1⟩ := blk2 HSt.out.w5; clear hold hdep hdl hcl; go_simp; (refine hK.out undef _ y (by show St2 W D 0 0 (L 8) (L 9) (L 4) (L 10) true _ _; rw [la, lb, lc]; exact HSt.out.put5) trivial ?_); intro j hj hl
            rcases j with _ | _ | _ | _ | _ | _ | _ | _ | _ | _ | _ | _ | j
            · exact ⟨rfl, fun u h => h⟩
            · exact ⟨rfl, fun u h => h⟩
            · exact ⟨rfl, fun u h => h⟩
            · exact ⟨rfl, fun u h => h⟩
            · exact ⟨rfl, fun u h => h⟩
            · exact ⟨rfl, fun u h => h⟩
            · exact ⟨rfl, fun u h => h⟩
            · exact ⟨rfl, fun u h => h⟩
            · exact ⟨rfl, fun u h => h⟩
            · exact ⟨rfl, fun u h => h⟩
            · exact ⟨rfl, fun u h => h⟩
            · exact ⟨rfl, fun u h => h⟩
            · exact ⟨rfl, fun u h => h⟩
        · intro L y a wx hall hSt hsz hdf hold hgot
          (have la : L 8 = true := hall 8 (by decide)); (have lb : L 9 = true := hall 9 (by decide)); (have lc : L 4 = true := hall 4 (by decide)); (have ld : L 10 = true := hall 10 (by decide)); (have le : L 11 = true := hall 11 (by decide)); rw [la, lb, lc, ld, le] at hSt; have hE2 := hSt.fin HOf.out; obtain ⟨v5, t5, q5⟩ := hgot 8 _ 5 rfl rfl; have e5 : v5 = .pointer (some ⟨y.b4, 0, none⟩) := q5 rfl; obtain ⟨v6, t6, q6⟩ := hgot 9 _ 6 rfl rfl; have e6 : v6 = .pointer (some ⟨y.b5, 0, none⟩) := q6 rfl; subst e5 e6; obtain ⟨g0, b4, b5, k5, n5, ks5, sl5, cp5⟩ := y; simp only at hE2 t5 t6; have HE : Hid (End2 W D 0 0 b4 b5 k5 n5 ks5 sl5 cp5 wx) := hE2; clear hSt hE2; obtain ⟨tm, df⟩ := a; (obtain ⟨ys, zs, hys, hzs, htm, rfl⟩ := frame_two 5 2 21 8 7 28 36 rfl rfl rfl (by kernel_rfl) (Nat.le_of_ble_eq_true rfl) ⟨hsz, hdf, hold⟩); obtain ⟨x5, x6, rfl⟩ := rowB2 ys hys; obtain ⟨x28, x29, x30, x31, x32, x33, x34, x35, rfl⟩ := rowB8 zs hzs; simp only [List.take_succ_cons, List.take_zero, List.drop_succ_cons, List.drop_zero, List.cons_append, List.nil_append] at htm; subst htm; obtain rfl : x5 = _ := Option.some.inj t5; obtain rfl : x6 = _ := Option.some.inj t6; clear hys hzs hsz; clear hold hgot hall; have HBx : Hid (Below w.heap.size w wx) := below_join HBW.out HE.out.below; have Z0 : Hid (wx.heap[w.heap.size]? = some (.cells #[.int .i64 k, .string n, .slice sl ks.length cap] 24 (0, 0))) := below_keep HE.out.below P0.out; have Z1 : Hid (wx.heap[w.heap.size + 1]? = some (.cells #[.int .i64 kg, .string ng, .slice sg ksg.length cg] 24 (0, 0))) := below_keep HE.out.below P1.out; have Z4 : Hid (wx.heap[b4]? = some (.cells #[.int .i64 k5, .string n5, .slice sl5 ks5.length cp5] 24 (0, 0))) := HE.out.at4; have Z5 : Hid (wx.heap[b5]? = some (.cells #[.int .i64 0, .int .i64 0] 33 (0, 0))) := HE.out.at5; (have HRd : Hid (Rep wx (fun _ => True) D (.agg #[.int .i64 k5, .string n5, .slice sl5 ks5.length cp5])) := HE.out.rep.weak fun _ _ _ => trivial); clear HE; (have RF : Hid (∀ wz, Below wx.heap.size wx wz → Rep wz (fun _ => True) (.mk k n ks) (.agg #[.int .i64 k, .string n, .slice sl ks.length cap])) := fun wz h => (HRf.out.up HBx.out).up h); (have RG : Hid (∀ wz, Below wx.heap.size wx wz → Rep wz (fun _ => True) (.mk kg ng ksg) (.agg #[.int .i64 kg, .string ng, .slice sg ksg.length cg])) := fun wz h => (HRg.out.up HBx.out).up h); (have RD : Hid (∀ wz, Below wx.heap.size wx wz → Rep wz (fun _ => True) D (.agg #[.int .i64 k5, .string n5, .slice sl5 ks5.length cp5])) := fun wz h => HRd.out.up h); go_wp2_with fail; (refine wp_region_free (by kernel_rfl) [kE (.pointer (some ⟨b5, 0, none⟩)), kE (.int .i64 0), kE (.bool false), kE (.bool false), kE (.agg #[.int .i64 k5, .string n5, .slice sl5 ks5.length cp5]), kE (.agg #[.int .i64 k, .string n, .slice sl ks.length cap]), kL1 (.mk k n ks), kS UF, kE (.agg #[.int .i64 kg, .string ng, .slice sg ksg.length cg]), kL1 (.mk kg ng ksg), kS UG, kS UC, kE (.bool true), kE (.bool false), kE (.bool false)] ?_ (by kernel_rfl) (by kernel_rfl) 90 rfl (by kernel_rfl) ?_ ?_)
          · intro p hp
            simp only [List.mem_cons, List.not_mem_nil, or_false] at hp
            rcases hp with rfl | rfl | rfl | rfl | rfl | rfl | rfl | rfl | rfl | rfl | rfl | rfl | rfl | rfl | rfl
            all_goals first | exact kE_stays _ | exact kN_stays | exact kS_stays _ | exact kL1_stays _
          · refine ⟨?_, ?_, ?_, ?_, ?_, ?_, ?_, ?_, ?_, ?_, ?_, ?_, ?_, ?_, ?_, trivial⟩
            · intro a wz hB hold hdep K hK; have t6 : a.tmps[6]? = some (.pointer (some ⟨b5, 0, none⟩)) := hold.2.2 6 rfl; clear hold hdep; go_simp; exact hK.out _ _ rfl (Below.refl _ _)
            · intro a wz hB hold hdep K hK; have t36 := dep_e wz (hdep 0 rfl _ 36 rfl rfl); obtain ⟨c0, c1, -⟩ := blk2 (below_keep hB Z5.out); clear hold hdep; go_simp; exact hK.out _ _ rfl (Below.refl _ _)
            · intro a wz hB hold hdep K hK; have t37 := dep_e wz (hdep 1 rfl _ 37 rfl rfl); clear hold hdep; go_simp; exact hK.out _ _ rfl (Below.refl _ _)
            · intro a wz hB hold hdep K hK; have t38 := dep_e wz (hdep 2 rfl _ 38 rfl rfl); clear hold hdep; go_simp; exact hK.out _ _ rfl (Below.refl _ _)
            · intro a wz hB hold hdep K hK; have t39 := dep_e wz (hdep 3 rfl _ 39 rfl rfl); have t5 : a.tmps[5]? = some (.pointer (some ⟨b4, 0, none⟩)) := hold.2.2 5 rfl; obtain ⟨c0, c1, c2, -⟩ := blk3 (below_keep hB Z4.out); clear hold hdep; go_simp; exact hK.out _ _ rfl (Below.refl _ _)
            · intro a wz hB hold hdep K hK; have t39 := dep_e wz (hdep 3 rfl _ 39 rfl rfl); have t2 : a.tmps[2]? = some (.pointer (some ⟨w.heap.size, 0, none⟩)) := hold.2.2 2 rfl; obtain ⟨c0, c1, c2, -⟩ := blk3 (below_keep hB Z0.out); clear hold hdep; go_simp; exact hK.out _ _ rfl (Below.refl _ _)
            · intro a wz hB hold hdep K hK; have t39 := dep_e wz (hdep 3 rfl _ 39 rfl rfl); have t41 := dep_e wz (hdep 5 rfl _ 41 rfl rfl); clear hold hdep; go_simp; have hbm : Below wz.heap.size wz (wz.alloc (.cells #[.int .i64 k, .string n, .slice sl ks.length cap] 24 (0, 0))) := (Below.refl _ _).alloc (Nat.le_refl _) _; exact hK.out _ _ ⟨_, rfl, FL.alone (blk_new wz _) (((RF.out wz hB).up hbm))⟩ hbm
            · intro a wz hB hold hdep K hK; have t39 := dep_e wz (hdep 3 rfl _ 39 rfl rfl); obtain ⟨v42, t42, g42, e42, r42⟩ := hdep 6 rfl _ 42 rfl rfl; subst e42; have HL : Hid (FL wz (.slice (some ⟨g42, 0, none⟩) 1 1) [.mk k n ks]) := r42; clear r42; clear hold hdep; go_simp; refine (HNf.out _ wz HL.out).mono ?_; rintro e w9 ⟨x9, rfl, hx9, hb9⟩; obtain ⟨ad9, cp9, e9, h9⟩ := hx9.sl; subst e9; exact hK.out _ _ ⟨_, _, _, rfl, ad9, cp9, rfl, h9⟩ hb9
            · intro a wz hB hold hdep K hK; have t39 := dep_e wz (hdep 3 rfl _ 39 rfl rfl); have t3 : a.tmps[3]? = some (.pointer (some ⟨w.heap.size + 1, 0, none⟩)) := hold.2.2 3 rfl; obtain ⟨c0, c1, c2, -⟩ := blk3 (below_keep hB Z1.out); clear hold hdep; go_simp; exact hK.out _ _ rfl (Below.refl _ _)
            · intro a wz hB hold hdep K hK; have t39 := dep_e wz (hdep 3 rfl _ 39 rfl rfl); have t44 := dep_e wz (hdep 8 rfl _ 44 rfl rfl); clear hold hdep; go_simp; have hbm : Below wz.heap.size wz (wz.alloc (.cells #[.int .i64 kg, .string ng, .slice sg ksg.length cg] 24 (0, 0))) := (Below.refl _ _).alloc (Nat.le_refl _) _; exact hK.out _ _ ⟨_, rfl, FL.alone (blk_new wz _) (((RG.out wz hB).up hbm))⟩ hbm
            · intro a wz hB hold hdep K hK; have t39 := dep_e wz (hdep 3 rfl _ 39 rfl rfl); obtain ⟨v45, t45, g45, e45, r45⟩ := hdep 9 rfl _ 45 rfl rfl; subst e45; have HL : Hid (FL wz (.slice (some ⟨g45, 0, none⟩) 1 1) [.mk kg ng ksg]) := r45; clear r45; clear hold hdep; go_simp; refine (HNg.out _ wz HL.out).mono ?_; rintro e w9 ⟨x9, rfl, hx9, hb9⟩; obtain ⟨ad9, cp9, e9, h9⟩ := hx9.sl; subst e9; exact hK.out _ _ ⟨_, _, _, rfl, ad9, cp9, rfl, h9⟩ hb9
            · intro a wz hB hold hdep K hK; have t39 := dep_e wz (hdep 3 rfl _ 39 rfl rfl); obtain ⟨v43, t43, ad4, m4, cp4, e43, r43⟩ := hdep 7 rfl _ 43 rfl rfl; obtain ⟨v46, t46, ad7, m7, cp7, e46, r46⟩ := hdep 10 rfl _ 46 rfl rfl; subst e43 e46; have HL : Hid (SL wz (.slice ad4 m4 cp4) UF) := r43; have HM : Hid (SL wz (.slice ad7 m7 cp7) UG) := r46; clear r43 r46; clear hold hdep; go_simp; refine (HCo.out _ _ wz HL.out HM.out).mono ?_; rintro e w9 ⟨x9, rfl, hx9, hb9⟩; obtain ⟨ad9, cp9, e9, h9⟩ := hx9.sl; subst e9; exact hK.out _ _ ⟨_, _, _, rfl, ad9, cp9, rfl, h9⟩ hb9
            · intro a wz hB hold hdep K hK; have t39 := dep_e wz (hdep 3 rfl _ 39 rfl rfl); have t40 := dep_e wz (hdep 4 rfl _ 40 rfl rfl); obtain ⟨v47, t47, ad8, m8, cp8, e47, r47⟩ := hdep 11 rfl _ 47 rfl rfl; subst e47; have HL : Hid (SL wz (.slice ad8 m8 cp8) UC) := r47; clear r47; clear hold hdep; go_simp; refine (HPl.out _ _ wz (RD.out wz hB) HL.out).mono ?_; rintro e w9 ⟨rfl, hb9⟩; exact hK.out _ _ rfl hb9
            · intro a wz hB hold hdep K hK; have t39 := dep_e wz (hdep 3 rfl _ 39 rfl rfl); have t48 := dep_e wz (hdep 12 rfl _ 48 rfl rfl); clear hold hdep; go_simp; exact hK.out _ _ rfl (Below.refl _ _)
            · intro a wz hB hold hdep K hK; have t39 := dep_e wz (hdep 3 rfl _ 39 rfl rfl); have t49 := dep_e wz (hdep 13 rfl _ 49 rfl rfl); clear hold hdep; go_simp; exact hK.out _ _ rfl (Below.refl _ _)
          · intro a wz hB hold hgot
            (obtain ⟨v50, t50, p50⟩ := hgot 14 _ 50 rfl rfl; have e50 : v50 = (.bool false) := p50; subst e50; obtain ⟨tm, df⟩ := a; obtain ⟨ys, hys, htm, rfl⟩ := frame_midB 36 15 (by kernel_rfl) (Nat.le_of_ble_eq_true rfl) hold; obtain ⟨x36, x37, x38, x39, x40, x41, x42, x43, x44, x45, x46, x47, x48, x49, x50, rfl⟩ := rowB15 ys hys; simp only [List.take_succ_cons, List.take_zero, List.drop_succ_cons, List.drop_zero, List.cons_append, List.nil_append] at htm; subst htm; obtain rfl : x50 = _ := Option.some.inj t50; have HBz : Hid (Below wx.heap.size wx wz) := hB; clear hys hold hgot t50 p50 hB; obtain ⟨d0, d1, d2, -⟩ := blk3 (below_keep HBz.out Z0.out); obtain ⟨f0, f1, f2, -⟩ := blk3 (below_keep HBz.out Z1.out); go_wp2_with fail; have hbm : Below wz.heap.size wz (wz.alloc (.cells #[.int .i64 k, .string n, .slice sl ks.length cap, .int .i64 kg, .string ng, .slice sg ksg.length cg] 24 (0, 0))) := (Below.refl _ _).alloc (Nat.le_refl _) _; have hbw := below_join HBx.out (below_join HBz.out hbm); refine (HNs.out _ _ (FL.pair2 (blk_new wz _) (HRf.out.up hbw) (HRg.out.up hbw))).mono ?_; rintro e w5 ⟨x9, rfl, hx9, hb5⟩; have HN5 : Hid (SL w5 x9 NF) := hx9.sl; obtain ⟨adN, cpN, rfl, -⟩ := hx9; have HB5 : Hid (Below wx.heap.size wx w5) := below_join HBz.out (below_join hbm hb5); clear hb5 hbm hbw d0 d1 d2 f0 f1 f2; have Q0 : Hid (w5.heap[w.heap.size]? = some (.cells #[.int .i64 k, .string n, .slice sl ks.length cap] 24 (0, 0))) := below_keep HB5.out Z0.out; have Q1 : Hid (w5.heap[w.heap.size + 1]? = some (.cells #[.int .i64 kg, .string ng, .slice sg ksg.length cg] 24 (0, 0))) := below_keep HB5.out Z1.out; have Q4 : Hid (w5.heap[b4]? = some (.cells #[.int .i64 k5, .string n5, .slice sl5 ks5.length cp5] 24 (0, 0))) := below_keep HB5.out Z4.out; have HBw5 : Hid (Below w.heap.size w w5) := below_join HBx.out HB5.out; go_wp2_with fail)
            go_loopg [10, 8, 9] M (fun g cc aa bb wr => ∃ j, j ≤ M ∧ g = M - j ∧ cc = .int .i64 (j : Nat) ∧ aa = .bool (anyB (.mk k n ks) (.mk kg ng ksg) NF j) ∧ bb = .bool (anyB D (.mk kg ng ksg) NF j) ∧ Hid (Below w5.heap.size w5 wr))
            case atStart => exact ⟨0, by omega, by omega, rfl, rfl, rfl, Below.refl _ _⟩
            case round =>
              obtain ⟨j, hj, hg, rfl, rfl, rfl, HBr⟩ := hrel; have HG : Hid (gk = M - j) := hg; clear hg; have hw := HW.out; by_cases hlt : j < M
              · have hltI : (j : Int) < (M : Int) := by omega
                (have HJ : Hid (j < M ∧ j ≤ 100000) := ⟨hlt, by omega⟩); have HA1 : Hid (anyB (.mk k n ks) (.mk kg ng ksg) NF (j + 1) = (anyB (.mk k n ks) (.mk kg ng ksg) NF j || (tvL (.mk k n ks) (rowN j NF 0) && tvL (.mk kg ng ksg) (rowN j NF 0)))) := anyB_succ _ _ _ _; have HA2 : Hid (anyB D (.mk kg ng ksg) NF (j + 1) = (anyB D (.mk kg ng ksg) NF j || (tvL D (rowN j NF 0) && tvL (.mk kg ng ksg) (rowN j NF 0)))) := anyB_succ _ _ _ _; generalize anyB (.mk k n ks) (.mk kg ng ksg) NF j = aa at *; generalize anyB D (.mk kg ng ksg) NF j = bb at *; clear hlt hj; go_wp2_with fail; refine (HRW.out j HJ.out.2 _ _ (HN5.out.up HBr.out)).mono ?_; rintro e w6 ⟨y, rfl, hy, hb6⟩; have HB6 : Hid (Below w5.heap.size w5 w6) := below_join HBr.out hb6; have HY : Hid (SL w6 y (rowN j NF 0)) := hy.sl; obtain ⟨ady, cpy, rfl, -⟩ := hy; clear hb6; (have HTf : Hid (∀ u W, Below w5.heap.size w5 W → SL W u (rowN j NF 0) → Calls Try.prog 26 #[.agg #[.int .i64 k, .string n, .slice sl ks.length cap], u] W fun e w' => e = .returned (.bool (tvL (.mk k n ks) (rowN j NF 0))) ∧ Below W.heap.size W w') := fun u W h h' => HTF.out j _ u W (HRf.out.up (below_join HBw5.out h)) h'); (have HTg : Hid (∀ u W, Below w5.heap.size w5 W → SL W u (rowN j NF 0) → Calls Try.prog 26 #[.agg #[.int .i64 kg, .string ng, .slice sg ksg.length cg], u] W fun e w' => e = .returned (.bool (tvL (.mk kg ng ksg) (rowN j NF 0))) ∧ Below W.heap.size W w') := fun u W h h' => HTG.out j _ u W (HRg.out.up (below_join HBw5.out h)) h'); (have HTd : Hid (∀ u W, Below w5.heap.size w5 W → SL W u (rowN j NF 0) → Calls Try.prog 26 #[.agg #[.int .i64 k5, .string n5, .slice sl5 ks5.length cp5], u] W fun e w' => e = .returned (.bool (tvL D (rowN j NF 0))) ∧ Below W.heap.size W w') := fun u W h h' => HTD.out j _ u W (HRd.out.up (below_join HB5.out h)) h'); generalize tvL (.mk k n ks) (rowN j NF 0) = tf at *; generalize tvL (.mk kg ng ksg) (rowN j NF 0) = tg at *; generalize tvL D (rowN j NF 0) = td at *; generalize rowN j NF 0 = R at *; (have first : ∀ (K : Prop), (∀ (wv : World) (a2 : Bool), a2 = (aa || (tf && tg)) → Below w5.heap.size w5 wv → SL wv (.slice ady R.length cpy) R → True) → True := fun _ _ => trivial); clear first
                cases aa
                case' true =>
                  go_upto_region 15 with fail
                  obtain ⟨wv, hwv⟩ : ∃ wv, wv = w6 := ⟨_, rfl⟩; subst hwv; have HBv : Hid (Below w5.heap.size w5 wv) := HB6; have HYv : Hid (SL wv (.slice ady R.length cpy) R) := HY; (have HAv : Hid (anyB (.mk k n ks) (.mk kg ng ksg) NF (j + 1) = true) := by have := HA1.out; rwa [Bool.true_or] at this)
                case' false =>
                  obtain ⟨d0, d1, d2, -⟩ := blk3 (below_keep HB6.out Q0.out); go_wp2_with fail; refine (HTf.out _ _ HB6.out HY.out).mono ?_; rintro e w7 ⟨rfl, hb7⟩; have HB7 : Hid (Below w5.heap.size w5 w7) := below_join HB6.out hb7; have HY7 : Hid (SL w7 (.slice ady R.length cpy) R) := HY.out.up hb7; clear hb7 d0 d1 d2
                  cases tf
                  case' false =>
                    go_upto_region 15 with fail
                    obtain ⟨wv, hwv⟩ : ∃ wv, wv = w7 := ⟨_, rfl⟩; subst hwv; have HBv : Hid (Below w5.heap.size w5 wv) := HB7; have HYv : Hid (SL wv (.slice ady R.length cpy) R) := HY7; (have HAv : Hid (anyB (.mk k n ks) (.mk kg ng ksg) NF (j + 1) = false) := by have := HA1.out; rwa [Bool.false_or, Bool.false_and] at this)
                  case' true =>
                    obtain ⟨d0, d1, d2, -⟩ := blk3 (below_keep HB7.out Q1.out); go_wp2_with fail; refine (HTg.out _ _ HB7.out HY7.out).mono ?_; rintro e wv ⟨rfl, hb8⟩; have HBv : Hid (Below w5.heap.size w5 wv) := below_join HB7.out hb8; have HYv : Hid (SL wv (.slice ady R.length cpy) R) := HY7.out.up hb8; (have HAv : Hid (anyB (.mk k n ks) (.mk kg ng ksg) NF (j + 1) = tg) := by have := HA1.out; rwa [Bool.false_or, Bool.true_and] at this); clear hb8 d0 d1 d2
                    go_upto_region 15 with fail
                all_goals
                  cases bb
                  case true =>
                    (have HBb : Hid (anyB D (.mk kg ng ksg) NF (j + 1) = true) := by have := HA2.out; rwa [Bool.true_or] at this); go_wp2_with fail
                    go_roundg (M - (j + 1))
                    case measure => have := HG.out; have := HJ.out; omega
                    case rel => exact ⟨j + 1, HJ.out.1, rfl, by go_num, by rw [HAv.out], by rw [HBb.out], HBv⟩
                  case false =>
                    obtain ⟨d0, d1, d2, -⟩ := blk3 (below_keep HBv.out Q4.out); go_wp2_with fail; refine (HTd.out _ _ HBv.out HYv.out).mono ?_; rintro e w8 ⟨rfl, hb8⟩; have HB8 : Hid (Below w5.heap.size w5 w8) := below_join HBv.out hb8; have HY8 : Hid (SL w8 (.slice ady R.length cpy) R) := HYv.out.up hb8; clear hb8 d0 d1 d2
                    cases td
                    case false =>
                      (have HBb : Hid (anyB D (.mk kg ng ksg) NF (j + 1) = false) := by have := HA2.out; rwa [Bool.false_or, Bool.false_and] at this); go_wp2_with fail
                      go_roundg (M - (j + 1))
                      case measure => have := HG.out; have := HJ.out; omega
                      case rel => exact ⟨j + 1, HJ.out.1, rfl, by go_num, by rw [HAv.out], by rw [HBb.out], HB8⟩
                    case true =>
                      obtain ⟨d0, d1, d2, -⟩ := blk3 (below_keep HB8.out Q1.out); go_wp2_with fail; refine (HTg.out _ _ HB8.out HY8.out).mono ?_; rintro e w9 ⟨rfl, hb9⟩; have HB9 : Hid (Below w5.heap.size w5 w9) := below_join HB8.out hb9; (have HBb : Hid (anyB D (.mk kg ng ksg) NF (j + 1) = tg) := by have := HA2.out; rwa [Bool.false_or, Bool.true_and] at this); clear hb9 d0 d1 d2; go_wp2_with fail
                      go_roundg (M - (j + 1))
                      case measure => have := HG.out; have := HJ.out; omega
                      case rel => exact ⟨j + 1, HJ.out.1, rfl, by go_num, by rw [HAv.out], by rw [HBb.out], HB9⟩
              · have hjj : j = M := by omega
                subst hjj; have HF := HEq.out; (have hge : ¬ (j : Int) < (j : Int) := by omega); clear hlt hj; generalize anyB (.mk k n ks) (.mk kg ng ksg) NF j = aa at *; generalize anyB D (.mk kg ng ksg) NF j = bb at *; subst HF; go_wp2_with fail; go_ret; (exact ⟨by cases aa <;> rfl, below_join HBw5.out HBr.out⟩)
      · have hcn : (tgc.1 != 0) = true := by simpa using htg
        go_wp2_with fail; go_ret; exact ⟨rfl, HBW.out⟩
end Go.Proofs.Ytffkoiemnchdgae
