/- Texts of one proof, one behind the other: MLN. -/
import Derived.Test.YtmahgfgndfcmpahB38
import Derived.Test.YtmahgfgndfcmpahB13
import Derived.Test.YtmahgfgndfcmpahB08
import Derived.Test.YtmahgfgndfcmpahB14
import Derived.Test.YtmahgfgndfcmpahB17
/- The law ModlogRules, walked. -/
namespace Go.Proofs.Ytmahgfgndfcmpah
open Go.RowKit Go.Sort

theorem mtv_put (nm : ByteArray) (g : Fm) (S : Nat → List Nat) (p : Nat → List UInt8 → Bool) : ∀ (m : Nat) (f : Fm), f.size ≤ m → Fine f → mtv S p (putF nm g f) = mtv S (fun u s => if s = nm.data.toList then mtv S p g u else p u s) f
  | 0, .mk k n ks, h, _ => by rw [Fm.size] at h; omega
  | m + 1, f, h, hf => by
    rcases hf.forms with ⟨n, rfl, hn⟩ | rfl | rfl | ⟨k, a, hk, rfl, ha⟩ | ⟨k, a, b, hk, rfl, ha, hb⟩
    · rw [put_leaf]
      (have e : mtv S (fun u s => if s = nm.data.toList then mtv S p g u else p u s) (.mk 1 n []) = fun u => if n.data.toList = nm.data.toList then mtv S p g u else p u n.data.toList := by funext u; rw [mtv, mtvs]; rfl); rw [e]; by_cases he : n.data.toList = nm.data.toList
      · simp [he]
      · simp only [he, if_false]
        funext u; rw [mtv, mtvs]; rfl
    · rw [put_other _ _ (by decide)]
      funext u; rw [List.map_nil, mtv, mtvs, mtv, mtvs]; rfl
    · rw [put_other _ _ (by decide)]
      funext u; rw [List.map_nil, mtv, mtvs, mtv, mtvs]; rfl
    · have h1 : a.size ≤ m := by rw [Fm.size, Fm.sizes, Fm.sizes] at h; omega
      have ih := mtv_put nm g S p m a h1 ha; (rw [put_other _ _ (by omega), List.map_cons, List.map_nil])
      rcases hk with rfl | rfl | rfl
      · rw [mtv_not, mtv_not, ih]
      · rw [mtv_box, mtv_box, ih]
      · rw [mtv_dia, mtv_dia, ih]
    · have h1 : a.size ≤ m ∧ b.size ≤ m := by rw [Fm.size, Fm.sizes, Fm.sizes, Fm.sizes] at h; omega
      have ih := mtv_put nm g S p m a h1.1 ha; have ih' := mtv_put nm g S p m b h1.2 hb; (rw [put_other _ _ (by omega), List.map_cons, List.map_cons, List.map_nil])
      rcases hk with rfl | rfl | rfl
      · rw [mtv_and, mtv_and, ih, ih']
      · rw [mtv_or, mtv_or, ih, ih']
      · rw [mtv_then, mtv_then, ih, ih']
theorem rule_box {k : Nat} {f : Fm} (h : vB f k = true) : vB (.mk 8 ⟨#[]⟩ [f]) k = true := vB_iff.2 fun N R p ho u hu => by
  rw [mtv_box]; (exact List.all_eq_true.2 fun x hx => vB_iff.1 h N R p ho x (mem_seeR.1 hx).1)
theorem rule_mp {k : Nat} {f g : Fm} (h : vB f k = true) (h2 : vB (.mk 7 ⟨#[]⟩ [f, g]) k = true) : vB g k = true := vB_iff.2 fun N R p ho u hu => by
  have h3 := vB_iff.1 h2 N R p ho u hu; rw [mtv_then] at h3; have h4 := vB_iff.1 h N R p ho u hu; simp only [h4] at h3; simpa using h3
theorem rule_put {k : Nat} {f g : Fm} {nm : ByteArray} (hf : Fine f) (h : vB f k = true) : vB (putF nm g f) k = true := vB_iff.2 fun N R p ho u hu => by
  rw [mtv_put nm g _ p f.size f (Nat.le_refl _) hf]; exact vB_iff.1 h N R _ ho u hu
/-- What Decide answers, in short. -/
def DecR (k : Int) (f : Fm) (e : Ending) : Prop := ∃ (b : Bool) (n : Int) (a1 : Option Addr) (n1 c1 : Nat) (a2 : Option Addr) (n2 c2 : Nat) (c d : Int), e = .returned (.tuple #[.bool b, .agg #[.int .i64 n, .slice a1 n1 c1, .slice a2 n2 c2], .agg #[.int .i64 c, .int .i64 d]]) ∧ (c = 0 → b = vB f k.toNat ∧ f.code = (0, 0))
theorem decide_short (k : Int) (f : Fm) (v : Value) (W : World) (h : Rep W (fun _ => True) f v) : Calls Try.prog 7 #[.int .i64 k, v] W fun e w' => DecR k f e ∧ Below W.heap.size W w' :=
  (decide_any k f v W h).mono fun e w' ⟨⟨b, m, c, d, he, ⟨n, a1, n1, c1, a2, n2, c2, hm⟩, h1, _⟩, hb⟩ => ⟨⟨b, n, a1, n1, c1, a2, n2, c2, c, d, by rw [he, hm], fun hc => ⟨by rw [Bool.eq_iff_iff, (h1 hc).2.2.2, vB_iff], (h1 hc).2.2.1⟩⟩, hb⟩
set_option maxRecDepth 10000 in
set_option maxHeartbeats 16000000 in
theorem rules_law (k : Int) (f g : Fm) (t : ByteArray) (hts : t.size ≤ maxLen) (v u : Value) (w : World) (hv : Rep w (fun _ => True) f v) (hu : Rep w (fun _ => True) g u) :
    Calls Try.prog 3 #[.int .i64 k, v, u, .string t] w fun e w' => e = .returned (.bool true) ∧ Below w.heap.size w w' := by
  (have HBe : Hid (∀ W, Calls Try.prog 5 #[] W _) := fun W => modlogBegun_any W); (have HVf : Hid (∀ v W, Rep W (fun _ => True) f v → Calls Try.prog 6 #[v, .int .i64 0] W _) := fun v W h => vast2_any f v W h); (have HVg : Hid (∀ v W, Rep W (fun _ => True) g v → Calls Try.prog 6 #[v, .int .i64 0] W _) := fun v W h => vast2_any g v W h); (have HDe : Hid (∀ (F : Fm) (v : Value) (W : World), Rep W (fun _ => True) F v → Calls Try.prog 7 #[.int .i64 k, v] W _) := fun F v W h => decide_short k F v W h); (have HOf : Hid (∀ v W, Rep W (fun _ => True) f v → Calls Try.prog 8 #[.int .i64 8, v] W _) := fun v W h => ofP_any (fun _ => True) 8 f v W (fun _ _ => trivial) h); (have HBo : Hid (∀ v u W, Rep W (fun _ => True) f v → Rep W (fun _ => True) g u → Calls Try.prog 9 #[.int .i64 7, v, u] W _) := fun v u W h1 h2 => bothP_any (fun _ => True) 7 f g v u W (fun _ _ => trivial) h1 h2); (have HNm : Hid (∀ W, Calls Try.prog 10 #[.string t] W _) := fun W => refName_any t hts W); (have HFg : Hid (∀ v W, Rep W (fun _ => True) g v → Calls Try.prog 11 #[v] W _) := fun v W h => rfault_any g v W h)
  have HWi : Hid (f.code = (0, 0) → ∀ v u W, Rep W (fun _ => True) f v → Rep W (fun _ => True) g u → Calls Try.prog 12 #[v, .string t, u] W fun e w' => ∃ x, e = .returned x ∧ Rep w' (fun _ => True) (putF t g f) x ∧ Below W.heap.size W w') := fun hc v u W h1 h2 => by
    obtain ⟨s, hs⟩ := code_chk hc; exact with_any f g t v u W (fine_of_chk f 0 s hs) h1 h2
  have HRb : Hid (vB f k.toNat = true → vB (.mk 8 ⟨#[]⟩ [f]) k.toNat = true) := rule_box; have HRm : Hid (vB f k.toNat = true → vB (.mk 7 ⟨#[]⟩ [f, g]) k.toNat = true → vB g k.toNat = true) := rule_mp
  have HRp : Hid (f.code = (0, 0) → vB f k.toNat = true → vB (putF t g f) k.toNat = true) := fun hc h => by
    obtain ⟨s, hs⟩ := code_chk hc; exact rule_put (fine_of_chk f 0 s hs) h
  (have HRf : Hid (Rep w (fun _ => True) f v) := hv); (have HRg : Hid (Rep w (fun _ => True) g u) := hu); generalize isNm t.data.toList = isn at *; generalize hgc : g.code = gc at *; obtain ⟨gc, gd⟩ := gc; clear hts; obtain ⟨kf, nf, ksf⟩ := f; obtain ⟨kg, ng, ksg⟩ := g; obtain ⟨sf, cf, rfl⟩ := slice_shape hv; obtain ⟨sg, cg, rfl⟩ := slice_shape hu; clear hv hu hgc; obtain ⟨W, hW⟩ : ∃ X, X = (w.alloc (.cells #[.int .i64 kf, .string nf, .slice sf ksf.length cf] 24 (0, 0))).alloc (.cells #[.int .i64 kg, .string ng, .slice sg ksg.length cg] 24 (0, 0)) := ⟨_, rfl⟩; (have HBW : Hid (Below w.heap.size w W) := by rw [hW]; exact below_more (below_more (Below.refl _ _) _) _); (have HFW : Hid (W.heap[w.heap.size]? = some (.cells #[.int .i64 kf, .string nf, .slice sf ksf.length cf] 24 (0, 0))) := by rw [hW]; exact alloc_keep (blk_new _ _) _); (have HGW : Hid (W.heap[w.heap.size + 1]? = some (.cells #[.int .i64 kg, .string ng, .slice sg ksg.length cg] 24 (0, 0))) := by rw [hW]; exact blk_secE _ _ _)
  go_enter Try.func3, Try.ntmps3
  go_wp2_with fail; rw [← hW]; clear hW; refine (HBe.out _).mono ?_; rintro _ w1 ⟨rfl, hb1⟩; have HBw1 : Hid (Below w.heap.size w w1) := below_join HBW.out hb1; have HFw1 : Hid (w1.heap[w.heap.size]? = some (.cells #[.int .i64 kf, .string nf, .slice sf ksf.length cf] 24 (0, 0))) := below_keep hb1 HFW.out; have HGw1 : Hid (w1.heap[w.heap.size + 1]? = some (.cells #[.int .i64 kg, .string ng, .slice sg ksg.length cg] 24 (0, 0))) := below_keep hb1 HGW.out; obtain ⟨f0, f1, f2, -⟩ := blk3 HFw1.out; clear hb1 HBe; go_wp2_with fail; refine (HVf.out _ _ (HRf.out.up HBw1.out)).mono ?_; rintro _ w2 ⟨⟨bb, rfl, -⟩, hb2⟩; have HBw2 : Hid (Below w.heap.size w w2) := below_join HBw1.out hb2; have HFw2 : Hid (w2.heap[w.heap.size]? = some (.cells #[.int .i64 kf, .string nf, .slice sf ksf.length cf] 24 (0, 0))) := below_keep hb2 HFw1.out; have HGw2 : Hid (w2.heap[w.heap.size + 1]? = some (.cells #[.int .i64 kg, .string ng, .slice sg ksg.length cg] 24 (0, 0))) := below_keep hb2 HGw1.out; obtain ⟨g0, g1, g2, -⟩ := blk3 HGw2.out; clear hb2 HVf f0 f1 f2
  cases bb
  case true =>
    go_wp2_with fail; go_ret; exact ⟨rfl, HBw2.out⟩
  go_wp2_with fail; refine (HVg.out _ _ (HRg.out.up HBw2.out)).mono ?_; rintro _ w3 ⟨⟨bb, rfl, -⟩, hb3⟩; have HBw3 : Hid (Below w.heap.size w w3) := below_join HBw2.out hb3; have HFw3 : Hid (w3.heap[w.heap.size]? = some (.cells #[.int .i64 kf, .string nf, .slice sf ksf.length cf] 24 (0, 0))) := below_keep hb3 HFw2.out; have HGw3 : Hid (w3.heap[w.heap.size + 1]? = some (.cells #[.int .i64 kg, .string ng, .slice sg ksg.length cg] 24 (0, 0))) := below_keep hb3 HGw2.out; obtain ⟨f0, f1, f2, -⟩ := blk3 HFw3.out; clear hb3 HVg g0 g1 g2
  cases bb
  case true =>
    go_wp2_with fail; go_ret; exact ⟨rfl, HBw3.out⟩
  go_wp2_with fail; refine (HDe.out _ _ w3 (HRf.out.up HBw3.out)).mono ?_; rintro _ u1 ⟨⟨r1, n1, a1, p1, q1, b1, s1, t1, c1, d1, rfl, hc1⟩, hb1⟩; have HC1 : Hid (c1 = 0 → r1 = vB (Fm.mk kf nf ksf) k.toNat ∧ (Fm.mk kf nf ksf).code = (0, 0)) := hc1; obtain ⟨V1, hV1⟩ : ∃ X, X = (u1.alloc (.cells #[.int .i64 n1, .slice a1 p1 q1, .slice b1 s1 t1] 30 (0, 0))).alloc (.cells #[.int .i64 c1, .int .i64 d1] 32 (0, 0)) := ⟨_, rfl⟩; (have hbV : Below w3.heap.size w3 V1 := by rw [hV1]; exact below_more (below_more hb1 _) _); have HBV1 : Hid (Below w.heap.size w V1) := below_join HBw3.out hbV; have HFV1 : Hid (V1.heap[w.heap.size]? = some (.cells #[.int .i64 kf, .string nf, .slice sf ksf.length cf] 24 (0, 0))) := below_keep hbV HFw3.out; have HGV1 : Hid (V1.heap[w.heap.size + 1]? = some (.cells #[.int .i64 kg, .string ng, .slice sg ksg.length cg] 24 (0, 0))) := below_keep hbV HGw3.out; (have HE1 : Hid (V1.heap[u1.heap.size + 1]? = some (.cells #[.int .i64 c1, .int .i64 d1] 32 (0, 0))) := by rw [hV1]; exact blk_secE _ _ _); have hVe1 := hV1.symm; clear hc1 hb1 hbV hV1; obtain ⟨f0, f1, f2, -⟩ := blk3 HFV1.out; obtain ⟨e0, e1, -⟩ := blk2 HE1.out; by_cases hz1 : c1 = 0
  case neg =>
    (have hcn : (c1 != 0) = true := by simpa using hz1); go_wp2_with fail; go_ret; exact ⟨rfl, HBV1.out⟩
  subst hz1; obtain ⟨hr1, hfc⟩ := HC1.out rfl; have HR1 : Hid (r1 = vB (.mk kf nf ksf) k.toNat) := hr1; (have HWi2 : Hid (∀ v u W, Rep W (fun _ => True) (.mk kf nf ksf) v → Rep W (fun _ => True) (.mk kg ng ksg) u → Calls Try.prog 12 #[v, .string t, u] W _) := HWi.out hfc); have HRp2 : Hid (vB (.mk kf nf ksf) k.toNat = true → vB (putF t (.mk kg ng ksg) (.mk kf nf ksf)) k.toNat = true) := HRp.out hfc; clear hr1 hfc HC1 HWi HRp
  cases r1
  case false =>
    go_wp2_with fail
    try rw [hVe1]
    clear hVe1 e0 e1; refine (HOf.out _ V1 (HRf.out.up HBV1.out)).mono ?_; rintro _ y1 ⟨x1, rfl, hx1, hy1⟩; (have HX1 : Hid (Rep y1 (fun _ => True) (.mk 8 ⟨#[]⟩ [.mk kf nf ksf]) x1) := hx1); have HBy1 : Hid (Below w.heap.size w y1) := below_join HBV1.out hy1; have HFy1 : Hid (y1.heap[w.heap.size]? = some (.cells #[.int .i64 kf, .string nf, .slice sf ksf.length cf] 24 (0, 0))) := below_keep hy1 HFV1.out; have HGy1 : Hid (y1.heap[w.heap.size + 1]? = some (.cells #[.int .i64 kg, .string ng, .slice sg ksg.length cg] 24 (0, 0))) := below_keep hy1 HGV1.out; clear hx1 hy1 HOf f0 f1 f2; go_wp2_with fail; refine (HDe.out _ _ y1 HX1.out).mono ?_; rintro _ u2 ⟨⟨r2, n2, a2, p2, q2, b2, s2, t2, c2, d2, rfl, hc2⟩, hb2⟩; have HC2 : Hid (c2 = 0 → r2 = vB (Fm.mk 8 ⟨#[]⟩ [.mk kf nf ksf]) k.toNat ∧ (Fm.mk 8 ⟨#[]⟩ [.mk kf nf ksf]).code = (0, 0)) := hc2; obtain ⟨V2, hV2⟩ : ∃ X, X = (u2.alloc (.cells #[.int .i64 n2, .slice a2 p2 q2, .slice b2 s2 t2] 30 (0, 0))).alloc (.cells #[.int .i64 c2, .int .i64 d2] 32 (0, 0)) := ⟨_, rfl⟩; (have hbV : Below y1.heap.size y1 V2 := by rw [hV2]; exact below_more (below_more hb2 _) _); have HBV2 : Hid (Below w.heap.size w V2) := below_join HBy1.out hbV; have HFV2 : Hid (V2.heap[w.heap.size]? = some (.cells #[.int .i64 kf, .string nf, .slice sf ksf.length cf] 24 (0, 0))) := below_keep hbV HFy1.out; have HGV2 : Hid (V2.heap[w.heap.size + 1]? = some (.cells #[.int .i64 kg, .string ng, .slice sg ksg.length cg] 24 (0, 0))) := below_keep hbV HGy1.out; (have HE2 : Hid (V2.heap[u2.heap.size + 1]? = some (.cells #[.int .i64 c2, .int .i64 d2] 32 (0, 0))) := by rw [hV2]; exact blk_secE _ _ _); have hVe2 := hV2.symm; clear hc2 hb2 hbV hV2; obtain ⟨g0, g1, g2, -⟩ := blk3 HGV2.out; obtain ⟨e0, e1, -⟩ := blk2 HE2.out; clear HC2 HRb HRm HRp2 HR1; (have hcond : (c2 == 0) = false ∨ (c2 == 0) = true := by cases (c2 == 0) <;> simp)
    rcases hcond with hd | hd
    all_goals
      go_wp2_with fail
      try rw [hVe2]
      clear hd hVe2 e0 e1; refine (HDe.out _ _ V2 (HRg.out.up HBV2.out)).mono ?_; rintro _ u3 ⟨⟨r3, n3, a3, p3, q3, b3, s3, t3, c3, d3, rfl, hc3⟩, hb3⟩; have HC3 : Hid (c3 = 0 → r3 = vB (Fm.mk kg ng ksg) k.toNat ∧ (Fm.mk kg ng ksg).code = (0, 0)) := hc3; obtain ⟨V3, hV3⟩ : ∃ X, X = (u3.alloc (.cells #[.int .i64 n3, .slice a3 p3 q3, .slice b3 s3 t3] 30 (0, 0))).alloc (.cells #[.int .i64 c3, .int .i64 d3] 32 (0, 0)) := ⟨_, rfl⟩; (have hbV : Below V2.heap.size V2 V3 := by rw [hV3]; exact below_more (below_more hb3 _) _); have HBV3 : Hid (Below w.heap.size w V3) := below_join HBV2.out hbV; have HFV3 : Hid (V3.heap[w.heap.size]? = some (.cells #[.int .i64 kf, .string nf, .slice sf ksf.length cf] 24 (0, 0))) := below_keep hbV HFV2.out; have HGV3 : Hid (V3.heap[w.heap.size + 1]? = some (.cells #[.int .i64 kg, .string ng, .slice sg ksg.length cg] 24 (0, 0))) := below_keep hbV HGV2.out; (have HE3 : Hid (V3.heap[u3.heap.size + 1]? = some (.cells #[.int .i64 c3, .int .i64 d3] 32 (0, 0))) := by rw [hV3]; exact blk_secE _ _ _); have hVe3 := hV3.symm; clear hc3 hb3 hbV hV3; obtain ⟨f0, f1, f2, -⟩ := blk3 HFV3.out; obtain ⟨q0, q1, q2, -⟩ := blk3 HGV3.out; clear g0 g1 g2; go_wp2_with fail
      try rw [hVe3]
      clear hVe3; refine (HBo.out _ _ V3 (HRf.out.up HBV3.out) (HRg.out.up HBV3.out)).mono ?_; rintro _ y3 ⟨x3, rfl, hx3, hy3⟩; (have HX3 : Hid (Rep y3 (fun _ => True) (.mk 7 ⟨#[]⟩ [.mk kf nf ksf, .mk kg ng ksg]) x3) := hx3); have HBy3 : Hid (Below w.heap.size w y3) := below_join HBV3.out hy3; have HFy3 : Hid (y3.heap[w.heap.size]? = some (.cells #[.int .i64 kf, .string nf, .slice sf ksf.length cf] 24 (0, 0))) := below_keep hy3 HFV3.out; have HGy3 : Hid (y3.heap[w.heap.size + 1]? = some (.cells #[.int .i64 kg, .string ng, .slice sg ksg.length cg] 24 (0, 0))) := below_keep hy3 HGV3.out; have HEy3 : Hid (y3.heap[u3.heap.size + 1]? = some (.cells #[.int .i64 c3, .int .i64 d3] 32 (0, 0))) := below_keep hy3 HE3.out; clear hx3 hy3 f0 f1 f2 q0 q1 q2; go_wp2_with fail; refine (HDe.out _ _ y3 HX3.out).mono ?_; rintro _ u4 ⟨⟨r4, n4, a4, p4, q4, b4, s4, t4, c4, d4, rfl, hc4⟩, hb4⟩; have HC4 : Hid (c4 = 0 → r4 = vB (Fm.mk 7 ⟨#[]⟩ [.mk kf nf ksf, .mk kg ng ksg]) k.toNat ∧ (Fm.mk 7 ⟨#[]⟩ [.mk kf nf ksf, .mk kg ng ksg]).code = (0, 0)) := hc4; obtain ⟨V4, hV4⟩ : ∃ X, X = (u4.alloc (.cells #[.int .i64 n4, .slice a4 p4 q4, .slice b4 s4 t4] 30 (0, 0))).alloc (.cells #[.int .i64 c4, .int .i64 d4] 32 (0, 0)) := ⟨_, rfl⟩; (have hbV : Below y3.heap.size y3 V4 := by rw [hV4]; exact below_more (below_more hb4 _) _); have HBV4 : Hid (Below w.heap.size w V4) := below_join HBy3.out hbV; have HFV4 : Hid (V4.heap[w.heap.size]? = some (.cells #[.int .i64 kf, .string nf, .slice sf ksf.length cf] 24 (0, 0))) := below_keep hbV HFy3.out; have HGV4 : Hid (V4.heap[w.heap.size + 1]? = some (.cells #[.int .i64 kg, .string ng, .slice sg ksg.length cg] 24 (0, 0))) := below_keep hbV HGy3.out; (have HE4 : Hid (V4.heap[u4.heap.size + 1]? = some (.cells #[.int .i64 c4, .int .i64 d4] 32 (0, 0))) := by rw [hV4]; exact blk_secE _ _ _); have HE34 : Hid (V4.heap[u3.heap.size + 1]? = some (.cells #[.int .i64 c3, .int .i64 d3] 32 (0, 0))) := below_keep hbV HEy3.out; have hVe4 := hV4.symm; clear hc4 hb4 hbV hV4; obtain ⟨e0, e1, -⟩ := blk2 HE4.out; obtain ⟨e2, e3, -⟩ := blk2 HE34.out; clear HC3 HC4; (have hcond6 : (c3 == 0) = false ∨ ((c3 == 0) = true ∧ (c4 == 0) = false) ∨ ((c3 == 0) = true ∧ (c4 == 0) = true) := by cases (c3 == 0) <;> cases (c4 == 0) <;> simp)
      rcases hcond6 with h | ⟨h, h'⟩ | ⟨h, h'⟩
      all_goals
        go_wp2_with fail; go_ret; exact ⟨rfl, HBV4.out⟩
  case true =>
    go_wp2_with fail
    try rw [hVe1]
    clear hVe1 e0 e1; refine (HOf.out _ V1 (HRf.out.up HBV1.out)).mono ?_; rintro _ y1 ⟨x1, rfl, hx1, hy1⟩; (have HX1 : Hid (Rep y1 (fun _ => True) (.mk 8 ⟨#[]⟩ [.mk kf nf ksf]) x1) := hx1); have HBy1 : Hid (Below w.heap.size w y1) := below_join HBV1.out hy1; have HFy1 : Hid (y1.heap[w.heap.size]? = some (.cells #[.int .i64 kf, .string nf, .slice sf ksf.length cf] 24 (0, 0))) := below_keep hy1 HFV1.out; have HGy1 : Hid (y1.heap[w.heap.size + 1]? = some (.cells #[.int .i64 kg, .string ng, .slice sg ksg.length cg] 24 (0, 0))) := below_keep hy1 HGV1.out; clear hx1 hy1 HOf f0 f1 f2; go_wp2_with fail; refine (HDe.out _ _ y1 HX1.out).mono ?_; rintro _ u2 ⟨⟨r2, n2, a2, p2, q2, b2, s2, t2, c2, d2, rfl, hc2⟩, hb2⟩; have HC2 : Hid (c2 = 0 → r2 = vB (Fm.mk 8 ⟨#[]⟩ [.mk kf nf ksf]) k.toNat ∧ (Fm.mk 8 ⟨#[]⟩ [.mk kf nf ksf]).code = (0, 0)) := hc2; obtain ⟨V2, hV2⟩ : ∃ X, X = (u2.alloc (.cells #[.int .i64 n2, .slice a2 p2 q2, .slice b2 s2 t2] 30 (0, 0))).alloc (.cells #[.int .i64 c2, .int .i64 d2] 32 (0, 0)) := ⟨_, rfl⟩; (have hbV : Below y1.heap.size y1 V2 := by rw [hV2]; exact below_more (below_more hb2 _) _); have HBV2 : Hid (Below w.heap.size w V2) := below_join HBy1.out hbV; have HFV2 : Hid (V2.heap[w.heap.size]? = some (.cells #[.int .i64 kf, .string nf, .slice sf ksf.length cf] 24 (0, 0))) := below_keep hbV HFy1.out; have HGV2 : Hid (V2.heap[w.heap.size + 1]? = some (.cells #[.int .i64 kg, .string ng, .slice sg ksg.length cg] 24 (0, 0))) := below_keep hbV HGy1.out; (have HE2 : Hid (V2.heap[u2.heap.size + 1]? = some (.cells #[.int .i64 c2, .int .i64 d2] 32 (0, 0))) := by rw [hV2]; exact blk_secE _ _ _); have hVe2 := hV2.symm; clear hc2 hb2 hbV hV2; obtain ⟨g0, g1, g2, -⟩ := blk3 HGV2.out; obtain ⟨e0, e1, -⟩ := blk2 HE2.out
    have hcond : (c2 == 0) = false ∨ ((c2 == 0) = true ∧ r2 = true) := by
      by_cases h : c2 = 0
      · exact Or.inr ⟨by simpa using h, by rw [(HC2.out h).1]; exact HRb.out HR1.out.symm⟩
      · exact Or.inl (by simpa using h)
    clear HC2 HRb
    rcases hcond with hd | ⟨hd, hrr⟩
    all_goals
      go_wp2_with fail
      try rw [hVe2]
      first | clear hd hrr hVe2 e0 e1 | clear hd hVe2 e0 e1
      refine (HDe.out _ _ V2 (HRg.out.up HBV2.out)).mono ?_; rintro _ u3 ⟨⟨r3, n3, a3, p3, q3, b3, s3, t3, c3, d3, rfl, hc3⟩, hb3⟩; have HC3 : Hid (c3 = 0 → r3 = vB (Fm.mk kg ng ksg) k.toNat ∧ (Fm.mk kg ng ksg).code = (0, 0)) := hc3; obtain ⟨V3, hV3⟩ : ∃ X, X = (u3.alloc (.cells #[.int .i64 n3, .slice a3 p3 q3, .slice b3 s3 t3] 30 (0, 0))).alloc (.cells #[.int .i64 c3, .int .i64 d3] 32 (0, 0)) := ⟨_, rfl⟩; (have hbV : Below V2.heap.size V2 V3 := by rw [hV3]; exact below_more (below_more hb3 _) _); have HBV3 : Hid (Below w.heap.size w V3) := below_join HBV2.out hbV; have HFV3 : Hid (V3.heap[w.heap.size]? = some (.cells #[.int .i64 kf, .string nf, .slice sf ksf.length cf] 24 (0, 0))) := below_keep hbV HFV2.out; have HGV3 : Hid (V3.heap[w.heap.size + 1]? = some (.cells #[.int .i64 kg, .string ng, .slice sg ksg.length cg] 24 (0, 0))) := below_keep hbV HGV2.out; (have HE3 : Hid (V3.heap[u3.heap.size + 1]? = some (.cells #[.int .i64 c3, .int .i64 d3] 32 (0, 0))) := by rw [hV3]; exact blk_secE _ _ _); have hVe3 := hV3.symm; clear hc3 hb3 hbV hV3; obtain ⟨f0, f1, f2, -⟩ := blk3 HFV3.out; obtain ⟨q0, q1, q2, -⟩ := blk3 HGV3.out; clear g0 g1 g2; go_wp2_with fail
      try rw [hVe3]
      clear hVe3; refine (HBo.out _ _ V3 (HRf.out.up HBV3.out) (HRg.out.up HBV3.out)).mono ?_; rintro _ y3 ⟨x3, rfl, hx3, hy3⟩; (have HX3 : Hid (Rep y3 (fun _ => True) (.mk 7 ⟨#[]⟩ [.mk kf nf ksf, .mk kg ng ksg]) x3) := hx3); have HBy3 : Hid (Below w.heap.size w y3) := below_join HBV3.out hy3; have HFy3 : Hid (y3.heap[w.heap.size]? = some (.cells #[.int .i64 kf, .string nf, .slice sf ksf.length cf] 24 (0, 0))) := below_keep hy3 HFV3.out; have HGy3 : Hid (y3.heap[w.heap.size + 1]? = some (.cells #[.int .i64 kg, .string ng, .slice sg ksg.length cg] 24 (0, 0))) := below_keep hy3 HGV3.out; have HEy3 : Hid (y3.heap[u3.heap.size + 1]? = some (.cells #[.int .i64 c3, .int .i64 d3] 32 (0, 0))) := below_keep hy3 HE3.out; clear hx3 hy3 f0 f1 f2 q0 q1 q2; go_wp2_with fail; refine (HDe.out _ _ y3 HX3.out).mono ?_; rintro _ u4 ⟨⟨r4, n4, a4, p4, q4, b4, s4, t4, c4, d4, rfl, hc4⟩, hb4⟩; have HC4 : Hid (c4 = 0 → r4 = vB (Fm.mk 7 ⟨#[]⟩ [.mk kf nf ksf, .mk kg ng ksg]) k.toNat ∧ (Fm.mk 7 ⟨#[]⟩ [.mk kf nf ksf, .mk kg ng ksg]).code = (0, 0)) := hc4; obtain ⟨V4, hV4⟩ : ∃ X, X = (u4.alloc (.cells #[.int .i64 n4, .slice a4 p4 q4, .slice b4 s4 t4] 30 (0, 0))).alloc (.cells #[.int .i64 c4, .int .i64 d4] 32 (0, 0)) := ⟨_, rfl⟩; (have hbV : Below y3.heap.size y3 V4 := by rw [hV4]; exact below_more (below_more hb4 _) _); have HBV4 : Hid (Below w.heap.size w V4) := below_join HBy3.out hbV; have HFV4 : Hid (V4.heap[w.heap.size]? = some (.cells #[.int .i64 kf, .string nf, .slice sf ksf.length cf] 24 (0, 0))) := below_keep hbV HFy3.out; have HGV4 : Hid (V4.heap[w.heap.size + 1]? = some (.cells #[.int .i64 kg, .string ng, .slice sg ksg.length cg] 24 (0, 0))) := below_keep hbV HGy3.out; (have HE4 : Hid (V4.heap[u4.heap.size + 1]? = some (.cells #[.int .i64 c4, .int .i64 d4] 32 (0, 0))) := by rw [hV4]; exact blk_secE _ _ _); have HE34 : Hid (V4.heap[u3.heap.size + 1]? = some (.cells #[.int .i64 c3, .int .i64 d3] 32 (0, 0))) := below_keep hbV HEy3.out; have hVe4 := hV4.symm; clear hc4 hb4 hbV hV4; obtain ⟨e0, e1, -⟩ := blk2 HE4.out; obtain ⟨e2, e3, -⟩ := blk2 HE34.out
      have hcond6 : (c3 == 0) = false ∨ ((c3 == 0) = true ∧ (c4 == 0) = false) ∨ ((c3 == 0) = true ∧ (c4 == 0) = true ∧ r4 = false) ∨ ((c3 == 0) = true ∧ (c4 == 0) = true ∧ r4 = true ∧ r3 = true) := by
        by_cases h : c3 = 0
        · by_cases h4 : c4 = 0
          · cases hr4 : r4 with
            | false => exact Or.inr (Or.inr (Or.inl ⟨by simpa using h, by simpa using h4, rfl⟩))
            | true => exact Or.inr (Or.inr (Or.inr ⟨by simpa using h, by simpa using h4, rfl, by rw [(HC3.out h).1]; exact HRm.out HR1.out.symm (by rw [← (HC4.out h4).1]; exact hr4)⟩))
          · exact Or.inr (Or.inl ⟨by simpa using h, by simpa using h4⟩)
        · exact Or.inl (by simpa using h)
      clear HC3 HC4 HRm; obtain ⟨z0, z1, z2, -⟩ := blk3 HGV4.out; (have HTail : Hid (Rep V4 (fun _ => True) (.mk kf nf ksf) (.agg #[.int .i64 kf, .string nf, .slice sf ksf.length cf]) ∧ Rep V4 (fun _ => True) (.mk kg ng ksg) (.agg #[.int .i64 kg, .string ng, .slice sg ksg.length cg])) := ⟨HRf.out.up HBV4.out, HRg.out.up HBV4.out⟩); have HNv : Hid (vB (putF t (.mk kg ng ksg) (.mk kf nf ksf)) k.toNat = true) := HRp2.out HR1.out.symm
      rcases hcond6 with h | ⟨h, h'⟩ | ⟨h, h', h4⟩ | ⟨h, h', h4, h3⟩
      all_goals
        go_wp2_with fail
        try rw [hVe4]
        first | clear h h' h4 h3 | clear h h' h4 | clear h h' | clear h
        refine (HNm.out V4).mono ?_; rintro _ w9 ⟨rfl, e9⟩
        replace e9 := e9.symm
        subst e9
        cases isn
        · go_wp2_with fail
          go_ret; exact ⟨rfl, HBV4.out⟩
        · go_wp2_with fail
          refine (HFg.out _ V4 HTail.out.2).mono ?_; rintro _ y5 ⟨rfl, hy5⟩; have HBy5 : Hid (Below w.heap.size w y5) := below_join HBV4.out hy5; have HFy5 : Hid (y5.heap[w.heap.size]? = some (.cells #[.int .i64 kf, .string nf, .slice sf ksf.length cf] 24 (0, 0))) := below_keep hy5 HFV4.out; have HGy5 : Hid (y5.heap[w.heap.size + 1]? = some (.cells #[.int .i64 kg, .string ng, .slice sg ksg.length cg] 24 (0, 0))) := below_keep hy5 HGV4.out; have hfld := fault_code gc gd; clear hy5 z0 z1 z2 e0 e1 e2 e3 hVe4; by_cases hgc : gc = 0
          case neg =>
            (have hgn : (gc != 0) = true := by simpa using hgc); go_wp2_with fail; go_ret; exact ⟨rfl, HBy5.out⟩
          subst hgc; obtain ⟨f0, f1, f2, -⟩ := blk3 HFy5.out; obtain ⟨g0, g1, g2, -⟩ := blk3 HGy5.out; go_wp2_with fail; refine (HWi2.out _ _ y5 (HRf.out.up HBy5.out) (HRg.out.up HBy5.out)).mono ?_; rintro _ y6 ⟨x6, rfl, hx6, hy6⟩; (have HX6 : Hid (Rep y6 (fun _ => True) (putF t (.mk kg ng ksg) (.mk kf nf ksf)) x6) := hx6); have HBy6 : Hid (Below w.heap.size w y6) := below_join HBy5.out hy6; have HFy6 : Hid (y6.heap[w.heap.size]? = some (.cells #[.int .i64 kf, .string nf, .slice sf ksf.length cf] 24 (0, 0))) := below_keep hy6 HFy5.out; have HGy6 : Hid (y6.heap[w.heap.size + 1]? = some (.cells #[.int .i64 kg, .string ng, .slice sg ksg.length cg] 24 (0, 0))) := below_keep hy6 HGy5.out; clear hx6 hy6 f0 f1 f2 g0 g1 g2; go_wp2_with fail; refine (HDe.out _ _ y6 HX6.out).mono ?_; rintro _ u5 ⟨⟨r5, n5, a5, p5, q5, b5, s5, t5, c5, d5, rfl, hc5⟩, hb5⟩; have HC5 : Hid (c5 = 0 → r5 = vB (putF t (.mk kg ng ksg) (.mk kf nf ksf)) k.toNat ∧ (putF t (.mk kg ng ksg) (.mk kf nf ksf)).code = (0, 0)) := hc5; obtain ⟨V5, hV5⟩ : ∃ X, X = (u5.alloc (.cells #[.int .i64 n5, .slice a5 p5 q5, .slice b5 s5 t5] 30 (0, 0))).alloc (.cells #[.int .i64 c5, .int .i64 d5] 32 (0, 0)) := ⟨_, rfl⟩; (have hbV : Below y6.heap.size y6 V5 := by rw [hV5]; exact below_more (below_more hb5 _) _); have HBV5 : Hid (Below w.heap.size w V5) := below_join HBy6.out hbV; have HFV5 : Hid (V5.heap[w.heap.size]? = some (.cells #[.int .i64 kf, .string nf, .slice sf ksf.length cf] 24 (0, 0))) := below_keep hbV HFy6.out; have HGV5 : Hid (V5.heap[w.heap.size + 1]? = some (.cells #[.int .i64 kg, .string ng, .slice sg ksg.length cg] 24 (0, 0))) := below_keep hbV HGy6.out; (have HE5 : Hid (V5.heap[u5.heap.size + 1]? = some (.cells #[.int .i64 c5, .int .i64 d5] 32 (0, 0))) := by rw [hV5]; exact blk_secE _ _ _); have hVe5 := hV5.symm; clear hc5 hb5 hbV hV5; obtain ⟨e0, e1, -⟩ := blk2 HE5.out; by_cases hz5 : c5 = 0
          · subst hz5
            (obtain rfl : r5 = true := by rw [(HC5.out rfl).1]; exact HNv.out); go_wp2_with fail; go_ret; exact ⟨rfl, HBV5.out⟩
          · have hcn : (c5 != 0) = true := by simpa using hz5
            go_wp2_with fail; go_ret; exact ⟨rfl, HBV5.out⟩
theorem rules_text (k : Int) (f g : Fm) (t : ByteArray) (v u : Value) (w : World) (_ : (Lit.int .i64 k).wf = true) (hv : Rep w (fun _ => True) f v) (hu : Rep w (fun _ => True) g u) (hts : t.size ≤ maxLen) :
    Calls Try.prog 3 #[.int .i64 k, v, u, .string t] w fun e w' => e = .returned (.bool true) ∧ Below w.heap.size w w' := rules_law k f g t hts v u w hv hu
end Go.Proofs.Ytmahgfgndfcmpah
