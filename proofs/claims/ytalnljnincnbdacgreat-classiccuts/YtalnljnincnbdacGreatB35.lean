/- Texts of one proof, one behind the other: KY3. -/
import Derived.Test.YtalnljnincnbdacGreatB34
/- Walks: write, where a step by weak comes first; write as a whole. -/
namespace Go.Proofs.YtalnljnincnbdacGreat
open Go.RowKit

theorem rowOf7 (l : List Value) (h0 : l.length = 7) : ∃ x0 x1 x2 x3 x4 x5 x6, l = [x0, x1, x2, x3, x4, x5, x6] := by
  obtain ⟨x0, l1, e0, h1⟩ := cons_len h0; obtain ⟨x1, l2, e1, h2⟩ := cons_len h1; obtain ⟨x2, l3, e2, h3⟩ := cons_len h2; obtain ⟨x3, l4, e3, h4⟩ := cons_len h3; obtain ⟨x4, l5, e4, h5⟩ := cons_len h4; obtain ⟨x5, l6, e5, h6⟩ := cons_len h5; obtain ⟨x6, l7, e6, h7⟩ := cons_len h6; have e7 : l7 = [] := List.length_eq_zero_iff.1 h7; subst e7 e6 e5 e4 e3 e2 e1 e0; exact ⟨x0, x1, x2, x3, x4, x5, x6, rfl⟩
theorem rowOf1 (l : List Value) (h0 : l.length = 1) : ∃ x0, l = [x0] := by
  obtain ⟨x0, l1, e0, h1⟩ := cons_len h0; have e1 : l1 = [] := List.length_eq_zero_iff.1 h1; subst e1 e0; exact ⟨x0, rfl⟩
structure G5 where
  u1 : Value
  u2 : Value
  gk : Nat
def G5.cells (y : G5) (l7 : Bool) : Array Value := cond l7 #[.string ⟨#[119, 101, 97, 107]⟩, .int .i64 0, .string ⟨#[]⟩, .slice none 0 0, y.u1, y.u2, .slice (some ⟨y.gk, 0, none⟩) 1 1] #[.string ⟨#[]⟩, .int .i64 0, .string ⟨#[]⟩, .slice none 0 0, .slice none 0 0, .slice none 0 0, .slice none 0 0]
structure St5 (fs : List Fm) (W : World) (bO : Nat) (is : List Nat) (kid : Array Value) (l2 l4 l7 : Bool) (y : G5) (w : World) : Prop where
  below : l7 = false → Below W.heap.size W w
  kept : Kept (fun b => b ≠ bO) W w
  box : w.heap[bO]? = some (.cells (y.cells l7) 32 (0, 0))
  ends : l2 = true → FLp (W.heap.size ≤ ·) w y.u1 (sideL fs is) ∧ FLp (W.heap.size ≤ ·) w y.u2 (sideR fs is)
  row : l4 = true → W.heap.size ≤ y.gk ∧ w.heap[y.gk]? = some (.cells kid 32 (0, 0))
theorem St5.start {fs : List Fm} {W w : World} {bO : Nat} {is : List Nat} {kid : Array Value} (y : G5) (hb : Below W.heap.size W w) (hx : W.heap[bO]? = some (.cells #[.string ⟨#[]⟩, .int .i64 0, .string ⟨#[]⟩, .slice none 0 0, .slice none 0 0, .slice none 0 0, .slice none 0 0] 32 (0, 0))) : St5 fs W bO is kid false false false y w :=
  ⟨fun _ => hb, kept_of_below hb fun _ h _ => h, below_keep hb hx, fun h => (by cases h), fun h => (by cases h)⟩
theorem St5.side {fs : List Fm} {W w w' : World} {bO : Nat} {is : List Nat} {kid : Array Value} {l2 l4 l7 : Bool} {y : G5} (h : St5 fs W bO is kid l2 l4 l7 y w) (e7 : l7 = false) {u1 u2 : Value} (hb : Below w.heap.size w w') (h1 : FLp (w.heap.size ≤ ·) w' u1 (sideL fs is)) (h2 : FLp (w.heap.size ≤ ·) w' u2 (sideR fs is)) : St5 fs W bO is kid true l4 l7 { y with u1 := u1, u2 := u2 } w' := by
  subst e7; have hB := below_join (h.below rfl) hb; have hs := (h.below rfl).size; (exact ⟨fun _ => hB, kept_of_below hB fun _ h _ => h, below_keep hb h.box, fun _ => ⟨h1.move fun b _ hb => ⟨rfl, by omega⟩, h2.move fun b _ hb => ⟨rfl, by omega⟩⟩, fun e => ⟨(h.row e).1, below_keep hb (h.row e).2⟩⟩)
theorem St5.make {fs : List Fm} {W w : World} {bO : Nat} {is : List Nat} {kid : Array Value} {l2 l4 l7 : Bool} {y : G5} (h : St5 fs W bO is kid l2 l4 l7 y w) (e7 : l7 = false) : St5 fs W bO is kid l2 true l7 { y with gk := w.heap.size } (w.alloc (.cells kid 32 (0, 0))) := by
  subst e7; have hb := below_more (Below.refl w.heap.size w) (.cells kid 32 (0, 0)); have hB := below_join (h.below rfl) hb; (exact ⟨fun _ => hB, kept_of_below hB fun _ h _ => h, below_keep hb h.box, fun e => ⟨(h.ends e).1.up hb, (h.ends e).2.up hb⟩, fun _ => ⟨(h.below rfl).size, blk_new w _⟩⟩)
theorem St5.store {fs : List Fm} {W w : World} {bO : Nat} {is : List Nat} {kid : Array Value} {l2 l4 l7 : Bool} {y : G5} (h : St5 fs W bO is kid l2 l4 l7 y w) (e7 : l7 = false) (hO : bO < W.heap.size) : St5 fs W bO is kid l2 l4 true y (sev7 w bO (.string ⟨#[119, 101, 97, 107]⟩) (.int .i64 0) (.string ⟨#[]⟩) (.slice none 0 0) y.u1 y.u2 (.slice (some ⟨y.gk, 0, none⟩) 1 1)) := by
  subst e7; (have k : ∀ b, b < w.heap.size → W.heap.size ≤ b → (sev7 w bO (.string ⟨#[119, 101, 97, 107]⟩) (.int .i64 0) (.string ⟨#[]⟩) (.slice none 0 0) y.u1 y.u2 (.slice (some ⟨y.gk, 0, none⟩) 1 1)).heap[b]? = w.heap[b]? ∧ W.heap.size ≤ b := fun b _ hb => ⟨sev7_other _ _ _ _ _ _ _ (by omega), hb⟩); (exact ⟨fun e => (by cases e), kept_far h.kept (sev7_kept _ _ _ _ _ _ _ _ _) fun _ _ h => h, sev7_same _ _ _ _ _ _ _ h.box, fun e => ⟨(h.ends e).1.move k, (h.ends e).2.move k⟩, fun e => ⟨(h.row e).1, (sev7_other _ _ _ _ _ _ _ (by have := (h.row e).1; omega)).trans (h.row e).2⟩⟩)
set_option maxRecDepth 10000 in
set_option maxHeartbeats 8000000 in
theorem wr_lean_step {x : Fx} (hsm : ∀ f ∈ x.fs, f.size ≤ 1000) (p : Plan) (hnn : p.needs.Nodup) (hk2 : p.kids.length ≤ 2) (hsp : WSpec x false p) : WSpec x true p := by
  intro w bz lean st nd deep is pv v hw hp hv hbd hsub hil hst hnd hdp _; by_cases hl : leavesB lean p is = false
  · exact hsp w bz lean st nd deep is pv v hw hp hv hbd hsub hil hst hnd hdp fun _ => hl
  obtain ⟨ru, i, needs, kids⟩ := p; (have hl' : leavesB lean (.mk ru i needs kids) is = true := by cases h : leavesB lean (.mk ru i needs kids) is <;> simp_all); unfold leavesB at hl'; rw [Bool.and_eq_true, Bool.and_eq_true] at hl'; obtain ⟨⟨rfl, hk0'⟩, hn0'⟩ := hl'; have hk0 : 0 < kids.length := of_decide_eq_true hk0'; have hn0 : needs.length < is.length := of_decide_eq_true hn0'; have HSp : Hid (WSpec x false (.mk ru i needs kids)) := hsp; (have HP0 : Hid (PlanR (fun b => b ≠ bz) w (.mk ru i needs kids) pv) := hp); have HN0 : Hid (0 < kids.length ∧ needs.length < is.length) := ⟨hk0, hn0⟩; have hL2 := hw.l2; have hplen := hw.plen; have hk2' : kids.length ≤ 2 := hk2; (have HKl : Hid (kids.length ≤ 10000000) := by show _ ≤ _; omega); (have hkI : (kids.length : Int) ≤ 2 := by omega); clear hl hk0' hn0' hk0 hn0 hsp hk2; obtain ⟨an, cn, sl, cap, rfl, hru, hneeds, hkc, hcm, hks⟩ := hp.parts; obtain ⟨m, hm⟩ : ∃ m, m = x.nods is := ⟨_, rfl⟩; obtain ⟨rb, hrb⟩ : ∃ rb, rb = (decide (st + 1 ≤ 20000) && decide (deep ≤ 400) && decide (is.length ≤ 60) && decide (nd + m ≤ 2097152)) := ⟨_, rfl⟩
  have HRoom : Hid (∀ W, WrSt x W bz true st nd → IRow (fun b => b ≠ bz) W v is → Calls Tryz.prog 144 #[.pointer (some ⟨bz, 0, none⟩), v, .int .i64 (deep : Nat)] W fun e w' => e = .returned (.bool rb) ∧ WrSt x w' bz true (st + 1) (nd + m) ∧ Kept (fun b => b ≠ bz) W w') := fun W h1 h2 => by
    rw [hrb, hm]; (exact room_any hsm h1 is v h2 hbd (by omega) (by omega) (by omega) deep (by omega))
  have hv' := hv; obtain ⟨ae, ce, rfl, hec, hecm, -⟩ := hv'; (have HVi : Hid (IRow (fun b => b ≠ bz) w (.slice ae is.length ce) is) := hv); have HW0 : Hid (WrSt x w bz true st nd) := hw; have hnl : needs.length ≤ is.length := nodup_le hnn hsub; obtain ⟨O5, hO5⟩ : ∃ O, O = Obj.cells #[.string ru, .int .i64 (i : Nat), .slice an needs.length cn, .slice sl kids.length cap] 85 (0, 0) := ⟨_, rfl⟩; obtain ⟨O8, hO8⟩ : ∃ O, O = Obj.cells #[.string ⟨#[]⟩, .int .i64 0, .string ⟨#[]⟩, .slice none 0 0, .slice none 0 0, .slice none 0 0, .slice none 0 0] 32 (0, 0) := ⟨_, rfl⟩; obtain ⟨W0, hW0⟩ : ∃ W, W = (w.alloc O5).alloc O8 := ⟨_, rfl⟩; (have B0 : Below w.heap.size w W0 := by rw [hW0]; exact below_more (below_more (Below.refl _ w) _) _); (have z0 : W0.heap.size = w.heap.size + 2 := by rw [hW0]; simp); (have p5 : W0.heap[w.heap.size]? = some O5 := by rw [hW0]; exact alloc_keep (blk_new w O5) _); (have p8 : W0.heap[w.heap.size + 1]? = some O8 := by rw [hW0]; exact blk_two w O5 O8); rw [hO5] at p5; rw [hO8] at p8; have P5 : Hid (W0.heap[w.heap.size]? = some _) := p5; have P8 : Hid (W0.heap[w.heap.size + 1]? = some _) := p8; have HZ0 : Hid (W0.heap.size = w.heap.size + 2) := z0; have HB0 : Hid (Below w.heap.size w W0) := B0; have HWe : Hid ((w.alloc O5).alloc O8 = W0) := hW0.symm; have HRb : Hid (rb = (decide (st + 1 ≤ 20000) && decide (deep ≤ 400) && decide (is.length ≤ 60) && decide (nd + m ≤ 2097152))) := hrb; have HM : Hid (m = x.nods is) := hm; have HNl : Hid (needs.length ≤ is.length) := hnl; (have HNr : Hid (IRow (fun b => b ≠ bz) w (.slice an needs.length cn) needs) := hneeds); have HBd : Hid (∀ i ∈ is, i < x.L) := hbd; have HSub : Hid (∀ y ∈ needs, y ∈ is) := hsub; (have hkcI : (kids.length : Int) ≤ (cap : Int) := by omega); (have hdI : (deep : Int) ≤ 401 := by omega); have hbz : bz < w.heap.size := lt_of_block HW0.out.blk; have hil' : is.length ≤ 100 := hil; clear hrb hm hnl hbd hsub hsm hnn hneeds hw hv hW0 p5 p8 hkc hcm hp
  go_enter Tryz.func103, Tryz.ntmps103
  go_wp2_with fail; rw [← hO5, ← hO8, HWe.out]; (refine (HRoom.out W0 (HW0.out.up HB0.out) (HVi.out.move fun b hb hp => ⟨HB0.out.block b hb, hp⟩)).mono ?_); rintro e w1 ⟨rfl, hw1, hk1⟩; have HW1 : Hid (WrSt x w1 bz true (st + 1) (nd + m)) := hw1; (have HK1 : Hid (Kept (fun b => b ≠ bz) W0 w1) := hk1); (have Q5 : Hid (w1.heap[w.heap.size]? = some (.cells #[.string ru, .int .i64 (i : Nat), .slice an needs.length cn, .slice sl kids.length cap] 85 (0, 0))) := (hk1.block _ (by omega) (by omega)).trans P5.out); (have Q8 : Hid (w1.heap[w.heap.size + 1]? = some (.cells #[.string ⟨#[]⟩, .int .i64 0, .string ⟨#[]⟩, .slice none 0 0, .slice none 0 0, .slice none 0 0, .slice none 0 0] 32 (0, 0))) := (hk1.block _ (by omega) (by omega)).trans P8.out); (have HKw1 : Hid (Kept (fun b => b ≠ bz) w w1) := kept_far (kept_of_below (ok := fun b => b ≠ bz) HB0.out fun _ h _ => h) hk1 fun _ _ h => h); clear hw1 hk1; obtain ⟨y0, y1, y2, y3, y4, y5, y6⟩ := blk7 Q8.out; obtain ⟨f0, f1, f2, f3, f4, f5, f6⟩ := blk7f Q8.out; obtain ⟨d0, d1, d2, d3, -⟩ := blk4a Q5.out
  cases rb
  · go_wp2_with fail
    obtain ⟨Wf, hWf⟩ : ∃ Wf, Wf = sev7 w1 (w.heap.size + 1) (.string ⟨#[]⟩) (.int .i64 0) (.string ⟨#[]⟩) (.slice none 0 0) (.slice none 0 0) (.slice none 0 0) (.slice none 0 0) := ⟨_, rfl⟩
    change bodyPost _ _ _ _ _ (sev7 w1 (w.heap.size + 1) (.string ⟨#[]⟩) (.int .i64 0) (.string ⟨#[]⟩) (.slice none 0 0) (.slice none 0 0) (.slice none 0 0) (.slice none 0 0))
    have hE := sev7_same (.string ⟨#[]⟩) (.int .i64 0) (.string ⟨#[]⟩) (.slice none 0 0) (.slice none 0 0) (.slice none 0 0) (.slice none 0 0) Q8.out; have hKf := sev7_kept w1 (w.heap.size + 1) (.string ⟨#[]⟩) (.int .i64 0) (.string ⟨#[]⟩) (.slice none 0 0) (.slice none 0 0) (.slice none 0 0) (.slice none 0 0); rw [← hWf] at hE hKf ⊢; clear hWf; obtain ⟨m0, m1, m2, m3, m4, m5, m6⟩ := blk7 hE; (refine bodyPost_ret (v := .tuple #[.agg #[.string ⟨#[]⟩, .int .i64 0, .string ⟨#[]⟩, .slice none 0 0, .slice none 0 0, .slice none 0 0, .slice none 0 0], .bool false]) (by simp [results, Tryz.results103, go_sem, m0, m1, m2, m3, m4, m5, m6]) rfl ⟨_, _, false, st + 1, nd + m, rfl, zero_pf Wf _, HW1.out.next (fun b hb hk => hKf.block b hb ?_) hKf.size, kept_far HKw1.out hKf fun b hb _ => by omega, fun h => (by cases h), fun _ _ hR => ?_⟩)
    · rcases hk with hk | hk
      · have := (HW0.out.kz b hk).2
        omega
      · omega
    · obtain ⟨r1, r2, r3, r4⟩ := hR.one (nods_len is fm_pos)
      have h9 := HRb.out; rw [HM.out, decide_eq_true r1, decide_eq_true r2, decide_eq_true r3, decide_eq_true r4] at h9
      cases h9
  · go_wp2_with fail
    have HLv : Hid (Calls Tryz.prog 145 #[.pointer (some ⟨bz, 0, none⟩), .agg #[.string ru, .int .i64 (i : Nat), .slice an needs.length cn, .slice sl kids.length cap], .slice ae is.length ce] w1 fun e w' => e = .returned (.bool true) ∧ Below w1.heap.size w1 w') := by
      (have h := leaves_any HW1.out ru i an needs.length cn sl kids.length cap ae is.length ce (by have := HNl.out; omega) (by omega) HKl.out); rw [decide_eq_true HN0.out.1, decide_eq_true HN0.out.2] at h; exact h
    refine HLv.out.mono ?_; rintro e w2 ⟨rfl, hb2⟩; clear HLv y0 y1 y2 y3 y4 y5 y6 f0 f1 f2 f3 f4 f5 f6 d0 d1 d2 d3; have hz2 : w1.heap.size ≤ w2.heap.size := hb2.size; (have hz1 : w.heap.size + 2 ≤ w1.heap.size := by have h1 := HKw1.out.size; have h2 := lt_of_block Q8.out; omega); have HW2 : Hid (WrSt x w2 bz true (st + 1) (nd + m)) := HW1.out.up hb2; (have HKw2 : Hid (Kept (fun b => b ≠ bz) w w2) := kept_far HKw1.out (kept_of_below (ok := fun b => b ≠ bz) hb2 fun _ h _ => h) fun _ _ h => h); have R5 : Hid (w2.heap[w.heap.size]? = some (.cells #[.string ru, .int .i64 (i : Nat), .slice an needs.length cn, .slice sl kids.length cap] 85 (0, 0))) := below_keep hb2 Q5.out; have R8 : Hid (w2.heap[w.heap.size + 1]? = some (.cells #[.string ⟨#[]⟩, .int .i64 0, .string ⟨#[]⟩, .slice none 0 0, .slice none 0 0, .slice none 0 0, .slice none 0 0] 32 (0, 0))) := below_keep hb2 Q8.out; (have HIi : Hid (IRow (fun b => b ≠ bz) w2 (.slice ae is.length ce) is) := HVi.out.move fun b hb hp => ⟨HKw2.out.block b hb hp, hp⟩); (have hd1 : ((deep + 1 : Nat) : Int) = (deep : Int) + 1 := by omega)
    have HR4 : Hid (st + 1 ≤ 20000 ∧ deep ≤ 400 ∧ is.length ≤ 60 ∧ nd + m ≤ 2097152) := by
      have h9 := HRb.out.symm; simp only [Bool.and_eq_true, decide_eq_true_eq] at h9; exact ⟨h9.1.1.1, h9.1.1.2, h9.1.2, h9.2⟩
    have HCall : Hid (Calls Tryz.prog 103 #[.pointer (some ⟨bz, 0, none⟩), .agg #[.string ru, .int .i64 (i : Nat), .slice an needs.length cn, .slice sl kids.length cap], .slice an needs.length cn, .int .i64 ((deep : Int) + 1)] w2 (WrPost x w2 bz true (st + 1) (nd + m) (deep + 1) (.mk ru i needs kids) needs)) := by
      (have hP2 := HP0.out.move (P' := fun b => b ≠ bz) (w' := w2) fun b hb hp => ⟨HKw2.out.block b hb hp, hp⟩); (have h := HSp.out w2 bz true (st + 1) (nd + m) (deep + 1) needs _ _ HW2.out hP2 (HNr.out.move fun b hb hp => ⟨HKw2.out.block b hb hp, hp⟩) (fun y hy => HBd.out y (HSub.out y hy)) (fun _ h => h) (by have := HNl.out; omega) HR4.out.1 HR4.out.2.2.2 (by have := HR4.out.2.1; omega) (fun _ => by unfold leavesB; simp [Plan.needs])); rw [hd1] at h; exact h
    (have hwr : IntKind.i64.wrap ((deep : Int) + 1) = (deep : Int) + 1 := by rw [IntKind.wrap_i64]; omega); clear hb2 hd1; obtain ⟨d0, d1, d2, d3, -⟩ := blk4a R5.out; go_wp2_with fail; refine HCall.out.mono ?_; clear HCall d0 d1 d2 d3; rintro e w3 ⟨P, pv3, fits, st3, nd3, rfl, hP3, hw3, hk3, hf3, -⟩; obtain ⟨a3, ⟨k3, n3, kf3⟩, l3, r3, ks3⟩ := P; obtain ⟨sf3, cf3, al3, cl3, ar3, cr3, sl3, cap3, rfl, -⟩ := hP3.parts; have HP3 : Hid (PRp (w2.heap.size ≤ ·) w3 (.mk a3 (.mk k3 n3 kf3) l3 r3 ks3) (.agg #[.string a3, .int .i64 k3, .string n3, .slice sf3 kf3.length cf3, .slice al3 l3.length cl3, .slice ar3 r3.length cr3, .slice sl3 ks3.length cap3])) := hP3; have HW3 : Hid (WrSt x w3 bz true st3 nd3) := hw3; (have HF3 : Hid (fits = true → WPf x.ps x.fs (deep + 1) (.mk ru i needs kids) needs (.mk a3 (.mk k3 n3 kf3) l3 r3 ks3) ∧ st3 = st + 1 + (Pf.mk a3 (.mk k3 n3 kf3) l3 r3 ks3).size ∧ st3 ≤ 20000 ∧ nd3 ≤ 2097152) := fun h => ⟨(hf3 h).1, (hf3 h).2.1, (hf3 h).2.2.1, (hf3 h).2.2.2.1⟩); have hz3 : w2.heap.size ≤ w3.heap.size := hk3.size; (have HK3 : Hid (Kept (fun b => b ≠ bz) w w3) := kept_far HKw2.out hk3 fun _ _ h => h); (have Q83 : Hid (w3.heap[w.heap.size + 1]? = some (.cells #[.string ⟨#[]⟩, .int .i64 0, .string ⟨#[]⟩, .slice none 0 0, .slice none 0 0, .slice none 0 0, .slice none 0 0] 32 (0, 0))) := (hk3.block _ (by omega) (by omega)).trans R8.out); clear hP3 hw3 hk3 hf3; go_wp2_with fail; obtain ⟨W9, hW9⟩ : ∃ W9, W9 = w3.alloc (.cells #[.string a3, .int .i64 k3, .string n3, .slice sf3 kf3.length cf3, .slice al3 l3.length cl3, .slice ar3 r3.length cr3, .slice sl3 ks3.length cap3] 32 (0, 0)) := ⟨_, rfl⟩; rw [← hW9]; (have hB9 : Below w3.heap.size w3 W9 := by rw [hW9]; exact below_more (Below.refl _ w3) _); have HB9 : Hid (Below w3.heap.size w3 W9) := hB9; (have hzz : W9.heap.size = w3.heap.size + 1 := by rw [hW9]; simp); have S8 : Hid (W9.heap[w.heap.size + 1]? = some (.cells #[.string ⟨#[]⟩, .int .i64 0, .string ⟨#[]⟩, .slice none 0 0, .slice none 0 0, .slice none 0 0, .slice none 0 0] 32 (0, 0))) := below_keep hB9 Q83.out; (have S10 : Hid (W9.heap[w3.heap.size]? = some (.cells #[.string a3, .int .i64 k3, .string n3, .slice sf3 kf3.length cf3, .slice al3 l3.length cl3, .slice ar3 r3.length cr3, .slice sl3 ks3.length cap3] 32 (0, 0))) := by rw [hW9]; exact blk_new w3 _); have HW9 : Hid (WrSt x W9 bz true st3 nd3) := HW3.out.up hB9; (have HIi9 : Hid (IRow (fun b => b ≠ bz) W9 (.slice ae is.length ce) is) := HVi.out.move fun b hb hp => ⟨(hB9.block b (by omega)).trans (HK3.out.block b hb hp), hp⟩); (have HSq : Hid (∀ W, Below W9.heap.size W9 W → Calls Tryz.prog 146 #[.pointer (some ⟨bz, 0, none⟩), .slice ae is.length ce] W fun e w' => ∃ u1 u2, e = .returned (.agg #[u1, u2]) ∧ FLp (W.heap.size ≤ ·) w' u1 (sideL x.fs is) ∧ FLp (W.heap.size ≤ ·) w' u2 (sideR x.fs is) ∧ Below W.heap.size W w') := fun W hb => sequent_any (HW9.out.up hb) is _ (HIi9.out.move fun b hl hp => ⟨hb.block b hl, hp⟩) HBd.out (by omega)); clear hW9 hB9; (refine wp_region_gh (by kernel_rfl) (by kernel_rfl) (by kernel_rfl) 90 rfl (by kernel_rfl) [fun _ v _ => v = (.pointer (some ⟨bz, 0, none⟩)), fun _ v _ => v = (.slice ae is.length ce), fun y v _ => v = .agg #[y.u1, y.u2], fun _ v _ => v = (.agg #[.string a3, .int .i64 k3, .string n3, .slice sf3 kf3.length cf3, .slice al3 l3.length cl3, .slice ar3 r3.length cr3, .slice sl3 ks3.length cap3]), fun y v _ => v = .slice (some ⟨y.gk, 0, none⟩) 1 1, fun y v _ => v = .agg #[.string ⟨#[119, 101, 97, 107]⟩, .int .i64 0, .string ⟨#[]⟩, .slice none 0 0, y.u1, y.u2, .slice (some ⟨y.gk, 0, none⟩) 1 1], fun _ v _ => v = (.bool fits), fun _ _ _ => True, fun _ v _ => v = (.bool fits)] (fun _ _ => true) (fun L => St5 x.fs W9 (w.heap.size + 1) is #[.string a3, .int .i64 k3, .string n3, .slice sf3 kf3.length cf3, .slice al3 l3.length cl3, .slice ar3 r3.length cr3, .slice sl3 ks3.length cap3] (L 2) (L 4) (L 7)) (⟨.bool false, .bool false, 0⟩) ?_ ?_ ?_)
    · exact fun wx h _ => St5.start _ h S8.out
    · refine ⟨?_, ?_, ?_, ?_, ?_, ?_, ?_, ?_, ?_, trivial⟩
      · intro L y a wx hSt hLi hdl hcl hold hdep K hK
        have HSt : Hid (St5 x.fs W9 (w.heap.size + 1) is #[.string a3, .int .i64 k3, .string n3, .slice sf3 kf3.length cf3, .slice al3 l3.length cl3, .slice ar3 r3.length cr3, .slice sl3 ks3.length cap3] (L 2) (L 4) (L 7) y wx) := hSt; clear hSt; have t0 : a.tmps[0]? = some (.pointer (some ⟨bz, 0, none⟩)) := hold 0 rfl; clear hold hdep hdl hcl hLi; go_simp; (exact hK.out _ _ y HSt.out rfl (fun j hj hl => ⟨hl, fun u h => h⟩))
      · intro L y a wx hSt hLi hdl hcl hold hdep K hK
        have HSt : Hid (St5 x.fs W9 (w.heap.size + 1) is #[.string a3, .int .i64 k3, .string n3, .slice sf3 kf3.length cf3, .slice al3 l3.length cl3, .slice ar3 r3.length cr3, .slice sl3 ks3.length cap3] (L 2) (L 4) (L 7) y wx) := hSt; clear hSt; have t2 : a.tmps[2]? = some (.slice ae is.length ce) := hold 2 rfl; clear hold hdep hdl hcl hLi; go_simp; (exact hK.out _ _ y HSt.out rfl (fun j hj hl => ⟨hl, fun u h => h⟩))
      · intro L y a wx hSt hLi hdl hcl hold hdep K hK
        have HSt : Hid (St5 x.fs W9 (w.heap.size + 1) is #[.string a3, .int .i64 k3, .string n3, .slice sf3 kf3.length cf3, .slice al3 l3.length cl3, .slice ar3 r3.length cr3, .slice sl3 ks3.length cap3] (L 2) (L 4) (L 7) y wx) := hSt; clear hSt; obtain ⟨v36, t36, q36⟩ := hdep 0 rfl _ 36 rfl rfl; have e36 : v36 = (.pointer (some ⟨bz, 0, none⟩)) := q36 rfl; subst e36; obtain ⟨v37, t37, q37⟩ := hdep 1 rfl _ 37 rfl rfl; have e37 : v37 = (.slice ae is.length ce) := q37 rfl; subst e37; (have e7 : L 7 = false := not_yet hLi fun h => hcl 7 _ rfl h 2 rfl); clear hold hdep hdl; go_simp; refine (HSq.out wx (HSt.out.below e7)).mono ?_; rintro e w3' ⟨u1, u2, rfl, hu1, hu2, hb3⟩; refine hK.out _ _ { y with u1 := u1, u2 := u2 } (HSt.out.side e7 hb3 hu1 hu2) rfl ?_; intro j hj hl; (refine ⟨rfl, fun u h => ?_⟩)
        rcases j with _ | _ | _ | _ | _ | _ | _ | _ | _ | j
        · exact h
        · exact h
        · exact Bool.noConfusion (hLi.symm.trans hj)
        · exact h
        · exact h
        · exact Bool.noConfusion (hLi.symm.trans (hcl 5 _ rfl hj 2 rfl))
        · exact h
        · exact h
        · exact h
        · exact h
      · intro L y a wx hSt hLi hdl hcl hold hdep K hK
        have HSt : Hid (St5 x.fs W9 (w.heap.size + 1) is #[.string a3, .int .i64 k3, .string n3, .slice sf3 kf3.length cf3, .slice al3 l3.length cl3, .slice ar3 r3.length cr3, .slice sl3 ks3.length cap3] (L 2) (L 4) (L 7) y wx) := hSt; clear hSt; have t10 : a.tmps[10]? = some (.pointer (some ⟨w3.heap.size, 0, none⟩)) := hold 10 rfl; (obtain ⟨d0, d1, d2, d3, d4, d5, d6⟩ := blk7 ((HSt.out.kept.block _ (lt_of_block S10.out) (by omega)).trans S10.out)); clear hold hdep hdl hcl hLi; go_simp; (exact hK.out _ _ y HSt.out rfl (fun j hj hl => ⟨hl, fun u h => h⟩))
      · intro L y a wx hSt hLi hdl hcl hold hdep K hK
        have HSt : Hid (St5 x.fs W9 (w.heap.size + 1) is #[.string a3, .int .i64 k3, .string n3, .slice sf3 kf3.length cf3, .slice al3 l3.length cl3, .slice ar3 r3.length cr3, .slice sl3 ks3.length cap3] (L 2) (L 4) (L 7) y wx) := hSt; clear hSt; obtain ⟨v39, t39, q39⟩ := hdep 3 rfl _ 39 rfl rfl; have e39 : v39 = (.agg #[.string a3, .int .i64 k3, .string n3, .slice sf3 kf3.length cf3, .slice al3 l3.length cl3, .slice ar3 r3.length cr3, .slice sl3 ks3.length cap3]) := q39 rfl; subst e39; (have e7 : L 7 = false := not_yet hLi fun h => hcl 7 _ rfl h 4 rfl); clear hold hdep hdl; go_simp; refine hK.out _ _ { y with gk := wx.heap.size } (HSt.out.make e7) rfl ?_; intro j hj hl; (refine ⟨rfl, fun u h => ?_⟩)
        rcases j with _ | _ | _ | _ | _ | _ | _ | _ | _ | j
        · exact h
        · exact h
        · exact h
        · exact h
        · exact Bool.noConfusion (hLi.symm.trans hj)
        · exact Bool.noConfusion (hLi.symm.trans (hcl 5 _ rfl hj 4 rfl))
        · exact h
        · exact h
        · exact h
        · exact h
      · intro L y a wx hSt hLi hdl hcl hold hdep K hK
        have HSt : Hid (St5 x.fs W9 (w.heap.size + 1) is #[.string a3, .int .i64 k3, .string n3, .slice sf3 kf3.length cf3, .slice al3 l3.length cl3, .slice ar3 r3.length cr3, .slice sl3 ks3.length cap3] (L 2) (L 4) (L 7) y wx) := hSt; clear hSt; obtain ⟨v38, t38, q38⟩ := hdep 2 rfl _ 38 rfl rfl; have e38 : v38 = (.agg #[y.u1, y.u2]) := q38 rfl; subst e38; obtain ⟨v40, t40, q40⟩ := hdep 4 rfl _ 40 rfl rfl; have e40 : v40 = (.slice (some ⟨y.gk, 0, none⟩) 1 1) := q40 rfl; subst e40; clear hold hdep hdl hcl hLi; go_simp; (exact hK.out _ _ y HSt.out rfl (fun j hj hl => ⟨hl, fun u h => h⟩))
      · intro L y a wx hSt hLi hdl hcl hold hdep K hK
        have HSt : Hid (St5 x.fs W9 (w.heap.size + 1) is #[.string a3, .int .i64 k3, .string n3, .slice sf3 kf3.length cf3, .slice al3 l3.length cl3, .slice ar3 r3.length cr3, .slice sl3 ks3.length cap3] (L 2) (L 4) (L 7) y wx) := hSt; clear hSt; have t11 : a.tmps[11]? = some (.bool fits) := hold 11 rfl; clear hold hdep hdl hcl hLi; go_simp; (exact hK.out _ _ y HSt.out rfl (fun j hj hl => ⟨hl, fun u h => h⟩))
      · intro L y a wx hSt hLi hdl hcl hold hdep K hK
        have HSt : Hid (St5 x.fs W9 (w.heap.size + 1) is #[.string a3, .int .i64 k3, .string n3, .slice sf3 kf3.length cf3, .slice al3 l3.length cl3, .slice ar3 r3.length cr3, .slice sl3 ks3.length cap3] (L 2) (L 4) (L 7) y wx) := hSt; clear hSt; have e2 := hdl 2 rfl; obtain ⟨u1, u2, gk⟩ := y; obtain ⟨ad1, cp1, rfl, -⟩ := (HSt.out.ends e2).1; obtain ⟨ad2, cp2, rfl, -⟩ := (HSt.out.ends e2).2; have t8 : a.tmps[8]? = some (.pointer (some ⟨w.heap.size + 1, 0, none⟩)) := hold 8 rfl; obtain ⟨v41, t41, q41⟩ := hdep 5 rfl _ 41 rfl rfl; have e41 : v41 = (.agg #[.string ⟨#[119, 101, 97, 107]⟩, .int .i64 0, .string ⟨#[]⟩, .slice none 0 0, .slice ad1 (sideL x.fs is).length cp1, .slice ad2 (sideR x.fs is).length cp2, .slice (some ⟨gk, 0, none⟩) 1 1]) := q41 rfl; subst e41
        have hbx : wx.heap[w.heap.size + 1]? = some (.cells #[.string ⟨#[]⟩, .int .i64 0, .string ⟨#[]⟩, .slice none 0 0, .slice none 0 0, .slice none 0 0, .slice none 0 0] 32 (0, 0)) := by
          have h := HSt.out.box; rw [hLi] at h; exact h
        obtain ⟨y0, y1, y2, y3, y4, y5, y6⟩ := blk7 hbx; obtain ⟨f0, f1, f2, f3, f4, f5, f6⟩ := blk7f hbx; clear hold hdep hdl hcl hbx e2; go_simp; obtain ⟨w9, hw9⟩ : ∃ w9, w9 = sev7 wx (w.heap.size + 1) (.string ⟨#[119, 101, 97, 107]⟩) (.int .i64 0) (.string ⟨#[]⟩) (.slice none 0 0) (.slice ad1 (sideL x.fs is).length cp1) (.slice ad2 (sideR x.fs is).length cp2) (.slice (some ⟨gk, 0, none⟩) 1 1) := ⟨_, rfl⟩
        change K a (sev7 wx (w.heap.size + 1) (.string ⟨#[119, 101, 97, 107]⟩) (.int .i64 0) (.string ⟨#[]⟩) (.slice none 0 0) (.slice ad1 (sideL x.fs is).length cp1) (.slice ad2 (sideR x.fs is).length cp2) (.slice (some ⟨gk, 0, none⟩) 1 1))
        (have hS9 := HSt.out.store hLi (by omega)); rw [← hw9]; simp only [← hw9] at hS9; clear hw9; refine hK.out (.bool false) _ _ hS9 trivial ?_; intro j hj hl; (refine ⟨rfl, fun u h => ?_⟩)
        rcases j with _ | _ | _ | _ | _ | _ | _ | _ | _ | j
        · exact h
        · exact h
        · exact h
        · exact h
        · exact h
        · exact h
        · exact h
        · exact h
        · exact h
        · exact h
      · intro L y a wx hSt hLi hdl hcl hold hdep K hK
        have HSt : Hid (St5 x.fs W9 (w.heap.size + 1) is #[.string a3, .int .i64 k3, .string n3, .slice sf3 kf3.length cf3, .slice al3 l3.length cl3, .slice ar3 r3.length cr3, .slice sl3 ks3.length cap3] (L 2) (L 4) (L 7) y wx) := hSt; clear hSt; obtain ⟨v42, t42, q42⟩ := hdep 6 rfl _ 42 rfl rfl; have e42 : v42 = (.bool fits) := q42 rfl; subst e42; clear hold hdep hdl hcl hLi; go_simp; (exact hK.out _ _ y HSt.out rfl (fun j hj hl => ⟨hl, fun u h => h⟩))
    · intro L y a wx hall hSt hsz hdf hold hgot
      have e2 : L 2 = true := hall 2 (Nat.le_of_ble_eq_true rfl); have e4 : L 4 = true := hall 4 (Nat.le_of_ble_eq_true rfl); have e7 : L 7 = true := hall 7 (Nat.le_of_ble_eq_true rfl); have hS : St5 x.fs W9 (w.heap.size + 1) is #[.string a3, .int .i64 k3, .string n3, .slice sf3 kf3.length cf3, .slice al3 l3.length cl3, .slice ar3 r3.length cr3, .slice sl3 ks3.length cap3] (L 2) (L 4) (L 7) y wx := hSt; rw [e2, e4, e7] at hS; obtain ⟨v9, t9, q9⟩ := hgot 8 _ 9 rfl rfl; have e9 : v9 = .bool fits := q9 rfl; subst e9; obtain ⟨tm, df⟩ := a; (obtain ⟨ys, zs, hys, hzs, htm, rfl⟩ := frame_two 9 1 26 7 10 36 43 rfl rfl rfl (by kernel_rfl) (Nat.le_of_ble_eq_true rfl) ⟨hsz, hdf, hold⟩); obtain ⟨x9, rfl⟩ := rowOf1 ys hys; obtain ⟨x36, x37, x38, x39, x40, x41, x42, rfl⟩ := rowOf7 zs hzs; simp only [List.take_succ_cons, List.take_zero, List.drop_succ_cons, List.drop_zero, List.cons_append, List.nil_append] at htm; subst htm; obtain rfl : x9 = _ := someInj t9; clear hys hzs hold hgot hall hSt hsz hdf e2 e4 e7 t9 q9; obtain ⟨u1, u2, gk⟩ := y; have hsL := (hS.ends rfl).1; have hsR := (hS.ends rfl).2; obtain ⟨hg1, hg2⟩ := hS.row rfl; have hbx : wx.heap[w.heap.size + 1]? = some (.cells #[.string ⟨#[119, 101, 97, 107]⟩, .int .i64 0, .string ⟨#[]⟩, .slice none 0 0, u1, u2, .slice (some ⟨gk, 0, none⟩) 1 1] 32 (0, 0)) := hS.box; have hKx := hS.kept; have hzx : W9.heap.size ≤ wx.heap.size := hKx.size; obtain ⟨m0, m1, m2, m3, m4, m5, m6⟩ := blk7 hbx; clear hS; go_wp2_with fail; have hR4 := HR4.out; (refine bodyPost_ret (v := .tuple #[.agg #[.string ⟨#[119, 101, 97, 107]⟩, .int .i64 0, .string ⟨#[]⟩, .slice none 0 0, u1, u2, .slice (some ⟨gk, 0, none⟩) 1 1], .bool fits]) (by simp [results, Tryz.results103, go_sem, m0, m1, m2, m3, m4, m5, m6]) rfl ⟨.mk ⟨#[119, 101, 97, 107]⟩ (.mk 0 ⟨#[]⟩ []) (sideL x.fs is) (sideR x.fs is) [.mk a3 (.mk k3 n3 kf3) l3 r3 ks3], _, fits, st3, nd3, rfl, ?_, HW9.out.next (fun b hb hk => hKx.block b hb ?_) hKx.size, kept_far (kept_far HK3.out (kept_of_below (ok := fun b => b ≠ bz) HB9.out fun _ h _ => h) fun _ _ h => h) hKx fun b hb _ => by omega, fun hf => ?_, fun _ h => (by cases h)⟩)
      · rw [PRp.def]
        (refine ⟨_, _, _, _, _, _, _, rfl, by unfold maxLen; decide, Rep.leaf (by simp [maxLen, ByteArray.size]), hsL.move fun b hb hp => ⟨rfl, by omega⟩, hsR.move fun b hb hp => ⟨rfl, by omega⟩, Nat.le_refl _, by unfold maxLen; simp, fun _ => ⟨gk, 0, rfl, by omega, ?_⟩⟩); rw [PRps.cons]; obtain ⟨c0, c1, c2, c3, c4, c5, c6⟩ := blk7 hg2; (refine ⟨⟨_, _, _, _, _, _, _, c0, c1, c2, c3, c4, c5, c6, HP3.out.move fun b hb hp => ⟨(hKx.block b (by omega) (by omega)).trans (HB9.out.block b hb), by omega⟩⟩, PRps.nil⟩)
      · rcases hk with hk | hk
        · have := (HW0.out.kz b hk).2
          omega
        · omega
      · obtain ⟨p1, p2, p3, p4⟩ := HF3.out hf
        (refine ⟨WPf.weak deep _ rfl _ is _ hR4.2.1 hR4.2.2.1 p1, ?_, p3, p4, fun h => (by cases h)⟩); rw [Pf.size, Pf.sizes, Pf.sizes]; omega
theorem wr_all {x : Fx} (ht : TabOk x.ps x.fs) (hpl : ∀ n, n < x.fs.length → Pl (x.fs.getD n zeroF)) (hsm : ∀ f ∈ x.fs, f.size ≤ 1000) {p : Plan} (hp : PlanOk x.ps p) : PlanN p → WSpec x true p := by
  induction hp with
  | ax a ha i n hi hn =>
    intro hN
    cases hN with
    | mk _ _ _ _ h1 h2 h3 =>
      (refine wr_lean_step hsm _ h1 (by simp [Plan.kids]) (wr_plain_step ht hpl hsm a i _ [] h1 ?_ (Or.inl rfl) (fun j k h => by simp at h) (fun j k pr h => by simp at h) h3))
      rcases it_cases i with e | e
      · rw [hi] at e; rw [e]; simp
      · rw [hi] at e; rw [e]; simp
  | tr a ha i p hp hk hr =>
    intro hN
    cases hN with
    | mk _ _ _ _ h1 h2 h3 => exact wr_lean_step hsm _ h1 (by simp [Plan.kids]) (wr_plain_step ht hpl hsm a i _ [] h1 (by simp) (Or.inl rfl) (fun j k h => by simp at h) (fun j k pr h => by simp at h) h3)
  | fa a ha i p hp hk hr =>
    intro hN
    cases hN with
    | mk _ _ _ _ h1 h2 h3 => exact wr_lean_step hsm _ h1 (by simp [Plan.kids]) (wr_plain_step ht hpl hsm a i _ [] h1 (by simp) (Or.inl rfl) (fun j k h => by simp at h) (fun j k pr h => by simp at h) h3)
  | step a i needs kids hi ha hin hne hlen hk hn ih =>
    intro hN
    cases hN with
    | mk _ _ _ _ h1 h2 h3 => exact wr_lean_step hsm _ h1 (by show kids.length ≤ 2; rw [hlen]; exact (way_sizes ht (List.getElem?_eq_getElem hi) (hpl _ (by rw [← ht.len]; exact hi))).1) (wr_plain_step ht hpl hsm a i needs kids h1 hin (Or.inr hlen) (fun j k h => ih j k h (h2 k (List.mem_of_getElem? h))) hn h3)
end Go.Proofs.YtalnljnincnbdacGreat
