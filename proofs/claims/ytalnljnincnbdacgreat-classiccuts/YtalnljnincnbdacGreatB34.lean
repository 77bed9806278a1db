/- Texts of one proof, one behind the other: KY2. -/
import Derived.Test.YtalnljnincnbdacGreatB33
/- Walks: write, where no step by weak comes first. -/
namespace Go.Proofs.YtalnljnincnbdacGreat
open Go.RowKit

theorem rowOf14 (l : List Value) (h0 : l.length = 14) : ∃ x0 x1 x2 x3 x4 x5 x6 x7 x8 x9 x10 x11 x12 x13, l = [x0, x1, x2, x3, x4, x5, x6, x7, x8, x9, x10, x11, x12, x13] := by
  obtain ⟨x0, l1, e0, h1⟩ := cons_len h0; obtain ⟨x1, l2, e1, h2⟩ := cons_len h1; obtain ⟨x2, l3, e2, h3⟩ := cons_len h2; obtain ⟨x3, l4, e3, h4⟩ := cons_len h3; obtain ⟨x4, l5, e4, h5⟩ := cons_len h4; obtain ⟨x5, l6, e5, h6⟩ := cons_len h5; obtain ⟨x6, l7, e6, h7⟩ := cons_len h6; obtain ⟨x7, l8, e7, h8⟩ := cons_len h7; obtain ⟨x8, l9, e8, h9⟩ := cons_len h8; obtain ⟨x9, l10, e9, h10⟩ := cons_len h9; obtain ⟨x10, l11, e10, h11⟩ := cons_len h10; obtain ⟨x11, l12, e11, h12⟩ := cons_len h11; obtain ⟨x12, l13, e12, h13⟩ := cons_len h12; obtain ⟨x13, l14, e13, h14⟩ := cons_len h13; have e14 : l14 = [] := List.length_eq_zero_iff.1 h14; subst e14 e13 e12 e11 e10 e9 e8 e7 e6 e5 e4 e3 e2 e1 e0; exact ⟨x0, x1, x2, x3, x4, x5, x6, x7, x8, x9, x10, x11, x12, x13, rfl⟩
theorem rowOf2 (l : List Value) (h0 : l.length = 2) : ∃ x0 x1, l = [x0, x1] := by
  obtain ⟨x0, l1, e0, h1⟩ := cons_len h0; obtain ⟨x1, l2, e1, h2⟩ := cons_len h1; have e2 : l2 = [] := List.length_eq_zero_iff.1 h2; subst e2 e1 e0; exact ⟨x0, x1, rfl⟩
/-- What the writer's first step of a plan has made. -/
structure G6 where
  c0 : Value
  c1 : Value
  c2 : Value
  u1 : Value
  u2 : Value
def G6.cells (y : G6) (ru : ByteArray) (l14 : Bool) : Array Value := cond l14 #[.string ru, y.c0, y.c1, y.c2, y.u1, y.u2, .slice none 0 0] #[.string ⟨#[]⟩, .int .i64 0, .string ⟨#[]⟩, .slice none 0 0, .slice none 0 0, .slice none 0 0, .slice none 0 0]
structure St6 (fs : List Fm) (W : World) (bO : Nat) (ru : ByteArray) (f : Fm) (is : List Nat) (l9 l12 l14 : Bool) (y : G6) (w : World) : Prop where
  below : l14 = false → Below W.heap.size W w
  kept : Kept (fun b => b ≠ bO) W w
  box : w.heap[bO]? = some (.cells (y.cells ru l14) 32 (0, 0))
  form : l9 = true → Rep w (W.heap.size ≤ ·) f (.agg #[y.c0, y.c1, y.c2])
  ends : l12 = true → FLp (W.heap.size ≤ ·) w y.u1 (sideL fs is) ∧ FLp (W.heap.size ≤ ·) w y.u2 (sideR fs is)
theorem St6.start {fs : List Fm} {W w : World} {bO : Nat} {ru : ByteArray} {f : Fm} {is : List Nat} (y : G6) (hb : Below W.heap.size W w) (hx : W.heap[bO]? = some (.cells #[.string ⟨#[]⟩, .int .i64 0, .string ⟨#[]⟩, .slice none 0 0, .slice none 0 0, .slice none 0 0, .slice none 0 0] 32 (0, 0))) : St6 fs W bO ru f is false false false y w :=
  ⟨fun _ => hb, kept_of_below hb fun _ h _ => h, below_keep hb hx, fun h => (by cases h), fun h => (by cases h)⟩
theorem St6.make {fs : List Fm} {W w w' : World} {bO : Nat} {ru : ByteArray} {f : Fm} {is : List Nat} {l9 l12 l14 : Bool} {y : G6} (h : St6 fs W bO ru f is l9 l12 l14 y w) (e9 : l9 = false) (e14 : l14 = false) {c0 c1 c2 : Value} (hb : Below w.heap.size w w') (hr : Rep w' (w.heap.size ≤ ·) f (.agg #[c0, c1, c2])) : St6 fs W bO ru f is true l12 l14 { y with c0 := c0, c1 := c1, c2 := c2 } w' := by
  subst e9 e14; have hB := below_join (h.below rfl) hb; have hs := (h.below rfl).size; (refine ⟨fun _ => hB, kept_of_below hB fun _ h _ => h, below_keep hb h.box, fun _ => hr.move fun b _ hb => ⟨rfl, by omega⟩, fun e => ?_⟩); exact ⟨(h.ends e).1.up hb, (h.ends e).2.up hb⟩
theorem St6.side {fs : List Fm} {W w w' : World} {bO : Nat} {ru : ByteArray} {f : Fm} {is : List Nat} {l9 l12 l14 : Bool} {y : G6} (h : St6 fs W bO ru f is l9 l12 l14 y w) (e12 : l12 = false) (e14 : l14 = false) {u1 u2 : Value} (hb : Below w.heap.size w w') (h1 : FLp (w.heap.size ≤ ·) w' u1 (sideL fs is)) (h2 : FLp (w.heap.size ≤ ·) w' u2 (sideR fs is)) : St6 fs W bO ru f is l9 true l14 { y with u1 := u1, u2 := u2 } w' := by
  subst e12 e14; have hB := below_join (h.below rfl) hb; have hs := (h.below rfl).size; (exact ⟨fun _ => hB, kept_of_below hB fun _ h _ => h, below_keep hb h.box, fun e => (h.form e).move fun b hl hp => ⟨hb.block b hl, hp⟩, fun _ => ⟨h1.move fun b _ hb => ⟨rfl, by omega⟩, h2.move fun b _ hb => ⟨rfl, by omega⟩⟩⟩)
theorem St6.store {fs : List Fm} {W w : World} {bO : Nat} {ru : ByteArray} {f : Fm} {is : List Nat} {l9 l12 l14 : Bool} {y : G6} (h : St6 fs W bO ru f is l9 l12 l14 y w) (e14 : l14 = false) (hO : bO < W.heap.size) : St6 fs W bO ru f is l9 l12 true y (sev7 w bO (.string ru) y.c0 y.c1 y.c2 y.u1 y.u2 (.slice none 0 0)) := by
  subst e14; (have k : ∀ b, b < w.heap.size → W.heap.size ≤ b → (sev7 w bO (.string ru) y.c0 y.c1 y.c2 y.u1 y.u2 (.slice none 0 0)).heap[b]? = w.heap[b]? ∧ W.heap.size ≤ b := fun b _ hb => ⟨sev7_other _ _ _ _ _ _ _ (by omega), hb⟩); (exact ⟨fun e => (by cases e), kept_far h.kept (sev7_kept _ _ _ _ _ _ _ _ _) fun _ _ h => h, sev7_same _ _ _ _ _ _ _ h.box, fun e => (h.form e).move k, fun e => ⟨(h.ends e).1.move k, (h.ends e).2.move k⟩⟩)
/-- What a call for a kid has answered. -/
def KidPost (x : Fx) (lean : Bool) (st nd d : Nat) (p : Plan) (is : List Nat) (y : GW) : Prop :=
  (y.fits = true → WPf x.ps x.fs d p is y.P ∧ y.st = st + y.P.size ∧ y.st ≤ 20000 ∧ y.nd ≤ 2097152 ∧ (lean = false → y.st ≤ st + Bs (x.nods is) ∧ y.nd ≤ nd + Bs (x.nods is) * x.nods is)) ∧ (y.fits = false → lean = false → ¬ Roomy (x.nods is) st nd d)
theorem KidPost.eq {x : Fx} {lean : Bool} {st nd d : Nat} {p : Plan} {is : List Nat} (y y' : GW) (h1 : y.P = y'.P) (h2 : y.fits = y'.fits) (h3 : y.st = y'.st) (h4 : y.nd = y'.nd) (h : KidPost x lean st nd d p is y) : KidPost x lean st nd d p is y' := by
  unfold KidPost at *; rw [← h1, ← h2, ← h3, ← h4]; exact h
/-- How far the loop over the kids is. -/
structure LoopW (x : Fx) (w : World) (S1 bz : Nat) (lean : Bool) (st nd deep : Nat) (ru : ByteArray) (i : Nat) (kids : List Plan) (is : List Nat) (c0 c1 c2 u1 u2 : Value) (O5 : Obj) (wr : World) (k : Nat) (ad : Option Addr) (cp : Nat) (ks : List Pf) (st' nd' : Nat) : Prop where
  wst : WrSt x wr bz lean st' nd'
  kept : Kept (fun b => b ≠ bz) w wr
  s1 : w.heap.size + 2 ≤ S1
  s1' : S1 ≤ wr.heap.size
  b5 : wr.heap[w.heap.size]? = some O5
  bo : wr.heap[w.heap.size + 1]? = some (.cells #[.string ru, c0, c1, c2, u1, u2, .slice ad ks.length cp] 32 (0, 0))
  form : Rep wr (fun b => w.heap.size + 2 ≤ b ∧ b < S1) (itF x.fs i) (.agg #[c0, c1, c2])
  le : FLp (fun b => w.heap.size + 2 ≤ b ∧ b < S1) wr u1 (sideL x.fs is)
  re : FLp (fun b => w.heap.size + 2 ≤ b ∧ b < S1) wr u2 (sideR x.fs is)
  row : KF (S1 ≤ ·) S1 wr ad cp ks
  klen : ks.length = k
  ok : ∀ (j : Nat) (q : Plan) (p : Pf) (pr : List Nat), kids[j]? = some q → (wayOf x.ps i).2[j]? = some pr → ks[j]? = some p → WPf x.ps x.fs (deep + 1) q (is.erase i ++ pr) p
  steps : st' = st + 1 + Pf.sizes ks
  fits : st' ≤ 20000 ∧ nd' ≤ 2097152
  cnt : lean = false → Cnt (x.nods is) kids.length st nd k st' nd'
set_option maxRecDepth 10000 in
set_option maxHeartbeats 8000000 in
theorem wr_plain_step {x : Fx} (ht : TabOk x.ps x.fs) (hpl : ∀ n, n < x.fs.length → Pl (x.fs.getD n zeroF)) (hsm : ∀ f ∈ x.fs, f.size ≤ 1000) (ru : ByteArray) (i : Nat) (needs : List Nat) (kids : List Plan) (hnn : needs.Nodup) (hin : i ∈ needs) (hlen : kids = [] ∨ kids.length = (wayOf x.ps i).2.length)
    (hk : ∀ (j : Nat) (k : Plan), kids[j]? = some k → WSpec x true k) (hn : ∀ (j : Nat) (k : Plan) (pr : List Nat), kids[j]? = some k → (wayOf x.ps i).2[j]? = some pr → ∀ y ∈ k.needs, y ∈ pr ∨ y ∈ needs) (hni : ∀ k ∈ kids, i ∉ k.needs) : WSpec x false (.mk ru i needs kids) := by
  intro w bz lean st nd deep is pv v hw hp hv hbd hsub hil hst hnd hdp hlv; have hlv' := hlv rfl; have hiS : i ∈ is := hsub i hin; have hiL := hbd i hiS; have hL2 := hw.l2; have hplen := hw.plen; obtain ⟨an, cn, sl, cap, rfl, hru, hneeds, hkc, hcm, hks⟩ := hp.parts; (have hi2 : i / 2 < x.ps.length := by omega); have hpp := List.getElem?_eq_getElem hi2; obtain ⟨hw2, hwp⟩ := wayLt_of ht hpl hL2 i hiL
  have hlk : kids.length ≤ 2 := by
    rcases hlen with e | e
    · rw [e]; exact Nat.zero_le _
    · omega
  obtain ⟨m, hm⟩ : ∃ m, m = x.nods is := ⟨_, rfl⟩; obtain ⟨rb, hrb⟩ : ∃ rb, rb = (decide (st + 1 ≤ 20000) && decide (deep ≤ 400) && decide (is.length ≤ 60) && decide (nd + m ≤ 2097152)) := ⟨_, rfl⟩
  have HRoom : Hid (∀ W, WrSt x W bz lean st nd → IRow (fun b => b ≠ bz) W v is → Calls Tryz.prog 144 #[.pointer (some ⟨bz, 0, none⟩), v, .int .i64 (deep : Nat)] W fun e w' => e = .returned (.bool rb) ∧ WrSt x w' bz lean (st + 1) (nd + m) ∧ Kept (fun b => b ≠ bz) W w') := fun W h1 h2 => by
    rw [hrb, hm]; (exact room_any hsm h1 is v h2 hbd (by omega) (by omega) (by omega) deep (by omega))
  have hv' := hv; obtain ⟨ae, ce, rfl, hec, hecm, -⟩ := hv'; (have HVi : Hid (IRow (fun b => b ≠ bz) w (.slice ae is.length ce) is) := hv); have HW0 : Hid (WrSt x w bz lean st nd) := hw; have hlB : (lean && decide (0 < kids.length) && decide (needs.length < is.length)) = false := hlv'; have hnl : needs.length ≤ is.length := nodup_le hnn hsub; obtain ⟨O5, hO5⟩ : ∃ O, O = Obj.cells #[.string ru, .int .i64 (i : Nat), .slice an needs.length cn, .slice sl kids.length cap] 85 (0, 0) := ⟨_, rfl⟩; obtain ⟨O8, hO8⟩ : ∃ O, O = Obj.cells #[.string ⟨#[]⟩, .int .i64 0, .string ⟨#[]⟩, .slice none 0 0, .slice none 0 0, .slice none 0 0, .slice none 0 0] 32 (0, 0) := ⟨_, rfl⟩; obtain ⟨W0, hW0⟩ : ∃ W, W = (w.alloc O5).alloc O8 := ⟨_, rfl⟩; (have B0 : Below w.heap.size w W0 := by rw [hW0]; exact below_more (below_more (Below.refl _ w) _) _); (have z0 : W0.heap.size = w.heap.size + 2 := by rw [hW0]; simp); (have p5 : W0.heap[w.heap.size]? = some O5 := by rw [hW0]; exact alloc_keep (blk_new w O5) _); (have p8 : W0.heap[w.heap.size + 1]? = some O8 := by rw [hW0]; exact blk_two w O5 O8); rw [hO5] at p5; rw [hO8] at p8; have P5 : Hid (W0.heap[w.heap.size]? = some _) := p5; have P8 : Hid (W0.heap[w.heap.size + 1]? = some _) := p8; have HZ0 : Hid (W0.heap.size = w.heap.size + 2) := z0; have HB0 : Hid (Below w.heap.size w W0) := B0; have HWe : Hid ((w.alloc O5).alloc O8 = W0) := hW0.symm; have HRb : Hid (rb = (decide (st + 1 ≤ 20000) && decide (deep ≤ 400) && decide (is.length ≤ 60) && decide (nd + m ≤ 2097152))) := hrb; have HM : Hid (m = x.nods is) := hm; have HLB : Hid ((lean && decide (0 < kids.length) && decide (needs.length < is.length)) = false) := hlB; have HLen : Hid (kids = [] ∨ kids.length = (wayOf x.ps i).2.length) := hlen; have HNl : Hid (needs.length ≤ is.length) := hnl; (have HKs : Hid (kids ≠ [] → ∃ (b off : Nat) (cs : Nat → Value), sl = some ⟨b, off, none⟩ ∧ b ≠ bz ∧ (∀ j, j < kids.length * 4 → w.cell? ⟨b, off + j, none⟩ = some (cs j)) ∧ ∀ (j : Nat) (k : Plan), kids[j]? = some k → PlanR (fun b => b ≠ bz) w k (.agg #[cs (j * 4), cs (j * 4 + 1), cs (j * 4 + 2), cs (j * 4 + 3)])) := hks); have HKid : Hid (∀ (j : Nat) (k : Plan), kids[j]? = some k → WSpec x true k) := hk; have HNd : Hid (∀ (j : Nat) (k : Plan) (pr : List Nat), kids[j]? = some k → (wayOf x.ps i).2[j]? = some pr → ∀ y ∈ k.needs, y ∈ pr ∨ y ∈ needs) := hn; have HNi : Hid (∀ k ∈ kids, i ∉ k.needs) := hni; have HBd : Hid (∀ i ∈ is, i < x.L) := hbd; have HSub : Hid (∀ y ∈ needs, y ∈ is) := hsub; have HIs : Hid (i ∈ is) := hiS; have HWp : Hid ((wayOf x.ps i).2.length ≤ 2 ∧ ∀ pr ∈ (wayOf x.ps i).2, pr.length ≤ 2 ∧ ∀ j ∈ pr, j < x.L) := ⟨hw2, hwp⟩; have HPl : Hid (∀ n, n < x.fs.length → Pl (x.fs.getD n zeroF)) := hpl; have HTo : Hid (TabOk x.ps x.fs) := ht; (have hkI : (kids.length : Int) ≤ 2 := by omega); (have hkcI : (kids.length : Int) ≤ (cap : Int) := by omega); (have hdI : (deep : Int) ≤ 401 := by omega); (have hiI : (i : Int) ≤ 200000 := by omega); have hbz : bz < w.heap.size := lt_of_block HW0.out.blk; have hil' : is.length ≤ 100 := hil; clear hrb hm hlB hlv hlv' hlen hnl hks hk hn hni hbd hsub hiS hw2 hwp hpl ht hsm hnn hin hneeds hp hw hv hW0 p5 p8 hkc hcm hpp hlk
  go_enter Tryz.func103, Tryz.ntmps103
  go_wp2_with fail; rw [← hO5, ← hO8, HWe.out]; (refine (HRoom.out W0 (HW0.out.up HB0.out) (HVi.out.move fun b hb hp => ⟨HB0.out.block b hb, hp⟩)).mono ?_); rintro e w1 ⟨rfl, hw1, hk1⟩; have HW1 : Hid (WrSt x w1 bz lean (st + 1) (nd + m)) := hw1; (have HK1 : Hid (Kept (fun b => b ≠ bz) W0 w1) := hk1); (have Q5 : Hid (w1.heap[w.heap.size]? = some (.cells #[.string ru, .int .i64 (i : Nat), .slice an needs.length cn, .slice sl kids.length cap] 85 (0, 0))) := (hk1.block _ (by omega) (by omega)).trans P5.out); (have Q8 : Hid (w1.heap[w.heap.size + 1]? = some (.cells #[.string ⟨#[]⟩, .int .i64 0, .string ⟨#[]⟩, .slice none 0 0, .slice none 0 0, .slice none 0 0, .slice none 0 0] 32 (0, 0))) := (hk1.block _ (by omega) (by omega)).trans P8.out); (have HKw1 : Hid (Kept (fun b => b ≠ bz) w w1) := kept_far (kept_of_below (ok := fun b => b ≠ bz) HB0.out fun _ h _ => h) hk1 fun _ _ h => h); clear hw1 hk1; obtain ⟨y0, y1, y2, y3, y4, y5, y6⟩ := blk7 Q8.out; obtain ⟨f0, f1, f2, f3, f4, f5, f6⟩ := blk7f Q8.out; obtain ⟨d0, d1, d2, d3, -⟩ := blk4a Q5.out
  cases rb
  · go_wp2_with fail
    obtain ⟨Wf, hWf⟩ : ∃ Wf, Wf = sev7 w1 (w.heap.size + 1) (.string ⟨#[]⟩) (.int .i64 0) (.string ⟨#[]⟩) (.slice none 0 0) (.slice none 0 0) (.slice none 0 0) (.slice none 0 0) := ⟨_, rfl⟩
    change bodyPost _ _ _ _ _ (sev7 w1 (w.heap.size + 1) (.string ⟨#[]⟩) (.int .i64 0) (.string ⟨#[]⟩) (.slice none 0 0) (.slice none 0 0) (.slice none 0 0) (.slice none 0 0))
    have hE := sev7_same (.string ⟨#[]⟩) (.int .i64 0) (.string ⟨#[]⟩) (.slice none 0 0) (.slice none 0 0) (.slice none 0 0) (.slice none 0 0) Q8.out; have hKf := sev7_kept w1 (w.heap.size + 1) (.string ⟨#[]⟩) (.int .i64 0) (.string ⟨#[]⟩) (.slice none 0 0) (.slice none 0 0) (.slice none 0 0) (.slice none 0 0); rw [← hWf] at hE hKf ⊢; clear hWf; obtain ⟨m0, m1, m2, m3, m4, m5, m6⟩ := blk7 hE; (refine bodyPost_ret (v := .tuple #[.agg #[.string ⟨#[]⟩, .int .i64 0, .string ⟨#[]⟩, .slice none 0 0, .slice none 0 0, .slice none 0 0, .slice none 0 0], .bool false]) (by simp [results, Tryz.results103, go_sem, m0, m1, m2, m3, m4, m5, m6]) rfl ⟨_, _, false, st + 1, nd + m, rfl, zero_pf Wf _, HW1.out.next (fun b hb hk => hKf.block b hb ?_) hKf.size, kept_far HKw1.out hKf fun b hb _ => by omega, fun h => (by cases h), fun _ _ hR => ?_⟩)
    · rcases hk with hk | hk
      · have := (HW0.out.kz b hk).2
        omega
      · omega
    · obtain ⟨r1, r2, r3, r4⟩ := hR.one (nods_len is fm_pos)
      have h9 := HRb.out; rw [HM.out, decide_eq_true r1, decide_eq_true r2, decide_eq_true r3, decide_eq_true r4] at h9
      cases h9
  · go_wp2_with fail
    have HLv : Hid (Calls Tryz.prog 145 #[.pointer (some ⟨bz, 0, none⟩), .agg #[.string ru, .int .i64 (i : Nat), .slice an needs.length cn, .slice sl kids.length cap], .slice ae is.length ce] w1 fun e w' => e = .returned (.bool false) ∧ Below w1.heap.size w1 w') := by
      (have h := leaves_any HW1.out ru i an needs.length cn sl kids.length cap ae is.length ce (by have := HNl.out; omega) (by omega) (by omega)); rw [HLB.out] at h; exact h
    refine HLv.out.mono ?_; rintro e w2 ⟨rfl, hb2⟩; clear HLv y0 y1 y2 y3 y4 y5 y6 f0 f1 f2 f3 f4 f5 f6 d0 d1 d2 d3; have hz2 : w1.heap.size ≤ w2.heap.size := hb2.size; (have hz1 : w.heap.size + 2 ≤ w1.heap.size := by have h1 := HKw1.out.size; have h2 := lt_of_block Q8.out; omega); have HW2 : Hid (WrSt x w2 bz lean (st + 1) (nd + m)) := HW1.out.up hb2; (have HKw2 : Hid (Kept (fun b => b ≠ bz) w w2) := kept_far HKw1.out (kept_of_below (ok := fun b => b ≠ bz) hb2 fun _ h _ => h) fun _ _ h => h); have R5 : Hid (w2.heap[w.heap.size]? = some (.cells #[.string ru, .int .i64 (i : Nat), .slice an needs.length cn, .slice sl kids.length cap] 85 (0, 0))) := below_keep hb2 Q5.out; have R8 : Hid (w2.heap[w.heap.size + 1]? = some (.cells #[.string ⟨#[]⟩, .int .i64 0, .string ⟨#[]⟩, .slice none 0 0, .slice none 0 0, .slice none 0 0, .slice none 0 0] 32 (0, 0))) := below_keep hb2 Q8.out; (have HIi : Hid (IRow (fun b => b ≠ bz) w2 (.slice ae is.length ce) is) := HVi.out.move fun b hb hp => ⟨HKw2.out.block b hb hp, hp⟩)
    obtain ⟨k2, n2, ks2, hfe⟩ : ∃ k2 n2 ks2, itF x.fs i = .mk k2 n2 ks2 := by
      cases itF x.fs i with
      | mk a b c => exact ⟨a, b, c, rfl⟩
    (have hff : x.fs[i / 2]? = some (.mk k2 n2 ks2) := by rw [← hfe]; exact getD_lt (by rw [← HTo.out.len]; exact hi2)); obtain ⟨th, hth⟩ : ∃ th, th = i / 2 := ⟨_, rfl⟩; (have HPt : Hid (∀ W, Calls Tryz.prog 100 #[.int .i64 (i : Nat)] W fun e w' => e = .returned (.int .i64 (th : Nat)) ∧ w' = W) := fun W => by rw [hth]; exact part_item i (by omega) W); (have HFm : Hid (∀ W, Below w2.heap.size w2 W → Calls Tryz.prog 147 #[.pointer (some ⟨x.bt, 0, none⟩), .int .i64 (th : Nat)] W fun e w' => ∃ v, e = .returned v ∧ Rep w' (W.heap.size ≤ ·) (.mk k2 n2 ks2) v ∧ Below W.heap.size W w') := fun W hb => by rw [hth]; exact form_any (HW2.out.up hb).tab hff); (have HSq : Hid (∀ W, Below w2.heap.size w2 W → Calls Tryz.prog 146 #[.pointer (some ⟨bz, 0, none⟩), .slice ae is.length ce] W fun e w' => ∃ u1 u2, e = .returned (.agg #[u1, u2]) ∧ FLp (W.heap.size ≤ ·) w' u1 (sideL x.fs is) ∧ FLp (W.heap.size ≤ ·) w' u2 (sideR x.fs is) ∧ Below W.heap.size W w') := fun W hb => sequent_any (HW2.out.up hb) is _ (HIi.out.move fun b hl hp => ⟨hb.block b hl, hp⟩) HBd.out (by omega)); have HZb : Hid (w2.heap[bz]? = some (.cells #[.pointer (some ⟨x.bt, 0, none⟩), x.vW, .bool lean, .int .i64 ((st + 1 : Nat) : Int), .int .i64 ((nd + m : Nat) : Int)] 162 (0, 0))) := HW2.out.blk; have HFe : Hid (itF x.fs i = .mk k2 n2 ks2) := hfe; clear hb2 hth hff hfe; go_wp2_with fail; (refine wp_region_gh (by kernel_rfl) (by kernel_rfl) (by kernel_rfl) 90 rfl (by kernel_rfl) [fun _ v _ => v = (.pointer (some ⟨w.heap.size, 0, none⟩)), fun _ v _ => v = (.string ru), fun _ v _ => v = (.pointer (some ⟨bz, 0, none⟩)), fun _ v _ => v = (.pointer (some ⟨bz, 0, none⟩)), fun _ v _ => v = (.pointer (some ⟨bz, 0, none⟩)), fun _ v _ => v = (.pointer (some ⟨x.bt, 0, none⟩)), fun _ v _ => v = (.pointer (some ⟨w.heap.size, 1, none⟩)), fun _ v _ => v = (.int .i64 (i : Nat)), fun _ v _ => v = (.int .i64 (th : Nat)), fun y v _ => v = .agg #[y.c0, y.c1, y.c2], fun _ v _ => v = (.pointer (some ⟨bz, 0, none⟩)), fun _ v _ => v = (.slice ae is.length ce), fun y v _ => v = .agg #[y.u1, y.u2], fun y v _ => v = .agg #[.string ru, y.c0, y.c1, y.c2, y.u1, y.u2, .slice none 0 0], fun _ _ _ => True] (fun _ _ => true) (fun L => St6 x.fs w2 (w.heap.size + 1) ru (.mk k2 n2 ks2) is (L 9) (L 12) (L 14)) (⟨.bool false, .bool false, .bool false, .bool false, .bool false⟩) ?_ ?_ ?_)
    · exact fun wx h _ => St6.start _ h R8.out
    · refine ⟨?_, ?_, ?_, ?_, ?_, ?_, ?_, ?_, ?_, ?_, ?_, ?_, ?_, ?_, ?_, trivial⟩
      · intro L y a wx hSt hLi hdl hcl hold hdep K hK
        have HSt : Hid (St6 x.fs w2 (w.heap.size + 1) ru (.mk k2 n2 ks2) is (L 9) (L 12) (L 14) y wx) := hSt; clear hSt; have t5 : a.tmps[5]? = some (.pointer (some ⟨w.heap.size, 0, none⟩)) := hold 5 rfl; clear hold hdep hdl hcl hLi; go_simp; (exact hK.out _ _ y HSt.out rfl (fun j hj hl => ⟨hl, fun u h => h⟩))
      · intro L y a wx hSt hLi hdl hcl hold hdep K hK
        have HSt : Hid (St6 x.fs w2 (w.heap.size + 1) ru (.mk k2 n2 ks2) is (L 9) (L 12) (L 14) y wx) := hSt; clear hSt; obtain ⟨v43, t43, q43⟩ := hdep 0 rfl _ 43 rfl rfl; have e43 : v43 = (.pointer (some ⟨w.heap.size, 0, none⟩)) := q43 rfl; subst e43; (obtain ⟨d0, d1, d2, d3, -⟩ := blk4a ((HSt.out.kept.block _ (lt_of_block R5.out) (by omega)).trans R5.out)); clear hold hdep hdl hcl hLi; go_simp; (exact hK.out _ _ y HSt.out rfl (fun j hj hl => ⟨hl, fun u h => h⟩))
      · intro L y a wx hSt hLi hdl hcl hold hdep K hK
        have HSt : Hid (St6 x.fs w2 (w.heap.size + 1) ru (.mk k2 n2 ks2) is (L 9) (L 12) (L 14) y wx) := hSt; clear hSt; have t0 : a.tmps[0]? = some (.pointer (some ⟨bz, 0, none⟩)) := hold 0 rfl; clear hold hdep hdl hcl hLi; go_simp; (exact hK.out _ _ y HSt.out rfl (fun j hj hl => ⟨hl, fun u h => h⟩))
      · intro L y a wx hSt hLi hdl hcl hold hdep K hK
        have HSt : Hid (St6 x.fs w2 (w.heap.size + 1) ru (.mk k2 n2 ks2) is (L 9) (L 12) (L 14) y wx) := hSt; clear hSt; obtain ⟨v45, t45, q45⟩ := hdep 2 rfl _ 45 rfl rfl; have e45 : v45 = (.pointer (some ⟨bz, 0, none⟩)) := q45 rfl; subst e45; clear hold hdep hdl hcl hLi; go_simp; (exact hK.out _ _ y HSt.out rfl (fun j hj hl => ⟨hl, fun u h => h⟩))
      · intro L y a wx hSt hLi hdl hcl hold hdep K hK
        have HSt : Hid (St6 x.fs w2 (w.heap.size + 1) ru (.mk k2 n2 ks2) is (L 9) (L 12) (L 14) y wx) := hSt; clear hSt; obtain ⟨v46, t46, q46⟩ := hdep 3 rfl _ 46 rfl rfl; have e46 : v46 = (.pointer (some ⟨bz, 0, none⟩)) := q46 rfl; subst e46; clear hold hdep hdl hcl hLi; go_simp; (exact hK.out _ _ y HSt.out rfl (fun j hj hl => ⟨hl, fun u h => h⟩))
      · intro L y a wx hSt hLi hdl hcl hold hdep K hK
        have HSt : Hid (St6 x.fs w2 (w.heap.size + 1) ru (.mk k2 n2 ks2) is (L 9) (L 12) (L 14) y wx) := hSt; clear hSt; obtain ⟨v47, t47, q47⟩ := hdep 4 rfl _ 47 rfl rfl; have e47 : v47 = (.pointer (some ⟨bz, 0, none⟩)) := q47 rfl; subst e47; (obtain ⟨z0, z1, z2, z3, z4, -⟩ := blk5 ((HSt.out.kept.block _ (lt_of_block HZb.out) (by omega)).trans HZb.out)); clear hold hdep hdl hcl hLi; go_simp; (exact hK.out _ _ y HSt.out rfl (fun j hj hl => ⟨hl, fun u h => h⟩))
      · intro L y a wx hSt hLi hdl hcl hold hdep K hK
        have HSt : Hid (St6 x.fs w2 (w.heap.size + 1) ru (.mk k2 n2 ks2) is (L 9) (L 12) (L 14) y wx) := hSt; clear hSt; have t5 : a.tmps[5]? = some (.pointer (some ⟨w.heap.size, 0, none⟩)) := hold 5 rfl; clear hold hdep hdl hcl hLi; go_simp; (exact hK.out _ _ y HSt.out rfl (fun j hj hl => ⟨hl, fun u h => h⟩))
      · intro L y a wx hSt hLi hdl hcl hold hdep K hK
        have HSt : Hid (St6 x.fs w2 (w.heap.size + 1) ru (.mk k2 n2 ks2) is (L 9) (L 12) (L 14) y wx) := hSt; clear hSt; obtain ⟨v49, t49, q49⟩ := hdep 6 rfl _ 49 rfl rfl; have e49 : v49 = (.pointer (some ⟨w.heap.size, 1, none⟩)) := q49 rfl; subst e49; (obtain ⟨d0, d1, d2, d3, -⟩ := blk4a ((HSt.out.kept.block _ (lt_of_block R5.out) (by omega)).trans R5.out)); clear hold hdep hdl hcl hLi; go_simp; (exact hK.out _ _ y HSt.out rfl (fun j hj hl => ⟨hl, fun u h => h⟩))
      · intro L y a wx hSt hLi hdl hcl hold hdep K hK
        have HSt : Hid (St6 x.fs w2 (w.heap.size + 1) ru (.mk k2 n2 ks2) is (L 9) (L 12) (L 14) y wx) := hSt; clear hSt; obtain ⟨v50, t50, q50⟩ := hdep 7 rfl _ 50 rfl rfl; have e50 : v50 = (.int .i64 (i : Nat)) := q50 rfl; subst e50; clear hold hdep hdl hcl hLi; go_simp; refine (HPt.out wx).mono ?_; rintro e w3 ⟨rfl, hw3⟩; have hw4 := hw3.symm; clear hw3; subst hw4; (exact hK.out _ _ y HSt.out rfl (fun j hj hl => ⟨hl, fun u h => h⟩))
      · intro L y a wx hSt hLi hdl hcl hold hdep K hK
        have HSt : Hid (St6 x.fs w2 (w.heap.size + 1) ru (.mk k2 n2 ks2) is (L 9) (L 12) (L 14) y wx) := hSt; clear hSt; obtain ⟨v48, t48, q48⟩ := hdep 5 rfl _ 48 rfl rfl; have e48 : v48 = (.pointer (some ⟨x.bt, 0, none⟩)) := q48 rfl; subst e48; obtain ⟨v51, t51, q51⟩ := hdep 8 rfl _ 51 rfl rfl; have e51 : v51 = (.int .i64 (th : Nat)) := q51 rfl; subst e51; (have e14 : L 14 = false := not_yet hLi fun h => hcl 14 _ rfl h 9 rfl); clear hold hdep hdl; go_simp; refine (HFm.out wx (HSt.out.below e14)).mono ?_; rintro e w3 ⟨u, rfl, hu, hb3⟩; obtain ⟨sl9, cap9, rfl⟩ := slice_shape hu; refine hK.out _ _ { y with c0 := .int .i64 k2, c1 := .string n2, c2 := .slice sl9 ks2.length cap9 } (HSt.out.make hLi e14 hb3 hu) rfl ?_; intro j hj hl; (refine ⟨rfl, fun u h => ?_⟩)
        rcases j with _ | _ | _ | _ | _ | _ | _ | _ | _ | _ | _ | _ | _ | _ | _ | j
        · exact h
        · exact h
        · exact h
        · exact h
        · exact h
        · exact h
        · exact h
        · exact h
        · exact h
        · exact Bool.noConfusion (hLi.symm.trans hj)
        · exact h
        · exact h
        · exact h
        · exact Bool.noConfusion (hLi.symm.trans (hcl 13 _ rfl hj 9 rfl))
        · exact h
        · exact h
      · intro L y a wx hSt hLi hdl hcl hold hdep K hK
        have HSt : Hid (St6 x.fs w2 (w.heap.size + 1) ru (.mk k2 n2 ks2) is (L 9) (L 12) (L 14) y wx) := hSt; clear hSt; have t0 : a.tmps[0]? = some (.pointer (some ⟨bz, 0, none⟩)) := hold 0 rfl; clear hold hdep hdl hcl hLi; go_simp; (exact hK.out _ _ y HSt.out rfl (fun j hj hl => ⟨hl, fun u h => h⟩))
      · intro L y a wx hSt hLi hdl hcl hold hdep K hK
        have HSt : Hid (St6 x.fs w2 (w.heap.size + 1) ru (.mk k2 n2 ks2) is (L 9) (L 12) (L 14) y wx) := hSt; clear hSt; have t2 : a.tmps[2]? = some (.slice ae is.length ce) := hold 2 rfl; clear hold hdep hdl hcl hLi; go_simp; (exact hK.out _ _ y HSt.out rfl (fun j hj hl => ⟨hl, fun u h => h⟩))
      · intro L y a wx hSt hLi hdl hcl hold hdep K hK
        have HSt : Hid (St6 x.fs w2 (w.heap.size + 1) ru (.mk k2 n2 ks2) is (L 9) (L 12) (L 14) y wx) := hSt; clear hSt; obtain ⟨v53, t53, q53⟩ := hdep 10 rfl _ 53 rfl rfl; have e53 : v53 = (.pointer (some ⟨bz, 0, none⟩)) := q53 rfl; subst e53; obtain ⟨v54, t54, q54⟩ := hdep 11 rfl _ 54 rfl rfl; have e54 : v54 = (.slice ae is.length ce) := q54 rfl; subst e54; (have e14 : L 14 = false := not_yet hLi fun h => hcl 14 _ rfl h 12 rfl); clear hold hdep hdl; go_simp; refine (HSq.out wx (HSt.out.below e14)).mono ?_; rintro e w3 ⟨u1, u2, rfl, hu1, hu2, hb3⟩; refine hK.out _ _ { y with u1 := u1, u2 := u2 } (HSt.out.side hLi e14 hb3 hu1 hu2) rfl ?_; intro j hj hl; (refine ⟨rfl, fun u h => ?_⟩)
        rcases j with _ | _ | _ | _ | _ | _ | _ | _ | _ | _ | _ | _ | _ | _ | _ | j
        · exact h
        · exact h
        · exact h
        · exact h
        · exact h
        · exact h
        · exact h
        · exact h
        · exact h
        · exact h
        · exact h
        · exact h
        · exact Bool.noConfusion (hLi.symm.trans hj)
        · exact Bool.noConfusion (hLi.symm.trans (hcl 13 _ rfl hj 12 rfl))
        · exact h
        · exact h
      · intro L y a wx hSt hLi hdl hcl hold hdep K hK
        have HSt : Hid (St6 x.fs w2 (w.heap.size + 1) ru (.mk k2 n2 ks2) is (L 9) (L 12) (L 14) y wx) := hSt; clear hSt; obtain ⟨v44, t44, q44⟩ := hdep 1 rfl _ 44 rfl rfl; have e44 : v44 = (.string ru) := q44 rfl; subst e44; obtain ⟨v52, t52, q52⟩ := hdep 9 rfl _ 52 rfl rfl; have e52 : v52 = (.agg #[y.c0, y.c1, y.c2]) := q52 rfl; subst e52; obtain ⟨v55, t55, q55⟩ := hdep 12 rfl _ 55 rfl rfl; have e55 : v55 = (.agg #[y.u1, y.u2]) := q55 rfl; subst e55; clear hold hdep hdl hcl hLi; go_simp; (exact hK.out _ _ y HSt.out rfl (fun j hj hl => ⟨hl, fun u h => h⟩))
      · intro L y a wx hSt hLi hdl hcl hold hdep K hK
        have HSt : Hid (St6 x.fs w2 (w.heap.size + 1) ru (.mk k2 n2 ks2) is (L 9) (L 12) (L 14) y wx) := hSt; clear hSt; have e9 := hdl 9 rfl; have e12 := hdl 12 rfl; obtain ⟨c0, c1, c2, u1, u2⟩ := y; obtain ⟨sl9, cap9, hv9⟩ := slice_shape (HSt.out.form e9); simp only [Value.agg.injEq, Array.mk.injEq, List.cons.injEq, and_true] at hv9; obtain ⟨rfl, rfl, rfl⟩ := hv9; obtain ⟨ad1, cp1, rfl, -⟩ := (HSt.out.ends e12).1; obtain ⟨ad2, cp2, rfl, -⟩ := (HSt.out.ends e12).2; have t8 : a.tmps[8]? = some (.pointer (some ⟨w.heap.size + 1, 0, none⟩)) := hold 8 rfl; obtain ⟨v56, t56, q56⟩ := hdep 13 rfl _ 56 rfl rfl; have e56 : v56 = (.agg #[.string ru, .int .i64 k2, .string n2, .slice sl9 ks2.length cap9, .slice ad1 (sideL x.fs is).length cp1, .slice ad2 (sideR x.fs is).length cp2, .slice none 0 0]) := q56 rfl; subst e56
        have hbx : wx.heap[w.heap.size + 1]? = some (.cells #[.string ⟨#[]⟩, .int .i64 0, .string ⟨#[]⟩, .slice none 0 0, .slice none 0 0, .slice none 0 0, .slice none 0 0] 32 (0, 0)) := by
          have h := HSt.out.box; rw [hLi] at h; exact h
        obtain ⟨y0, y1, y2, y3, y4, y5, y6⟩ := blk7 hbx; obtain ⟨f0, f1, f2, f3, f4, f5, f6⟩ := blk7f hbx; clear hold hdep hdl hcl hbx e9 e12; go_simp; obtain ⟨w9, hw9⟩ : ∃ w9, w9 = sev7 wx (w.heap.size + 1) (.string ru) (.int .i64 k2) (.string n2) (.slice sl9 ks2.length cap9) (.slice ad1 (sideL x.fs is).length cp1) (.slice ad2 (sideR x.fs is).length cp2) (.slice none 0 0) := ⟨_, rfl⟩
        change K a (sev7 wx (w.heap.size + 1) (.string ru) (.int .i64 k2) (.string n2) (.slice sl9 ks2.length cap9) (.slice ad1 (sideL x.fs is).length cp1) (.slice ad2 (sideR x.fs is).length cp2) (.slice none 0 0))
        (have hS9 := HSt.out.store hLi (by omega)); rw [← hw9]; simp only [← hw9] at hS9; clear hw9; refine hK.out (.bool false) _ _ hS9 trivial ?_; intro j hj hl; (refine ⟨rfl, fun u h => ?_⟩)
        rcases j with _ | _ | _ | _ | _ | _ | _ | _ | _ | _ | _ | _ | _ | _ | _ | j
        · exact h
        · exact h
        · exact h
        · exact h
        · exact h
        · exact h
        · exact h
        · exact h
        · exact h
        · exact h
        · exact h
        · exact h
        · exact h
        · exact h
        · exact h
        · exact h
    · intro L y a wx hall hSt hsz hdf hold hgot
      have e9 : L 9 = true := hall 9 (Nat.le_of_ble_eq_true rfl); have e12 : L 12 = true := hall 12 (Nat.le_of_ble_eq_true rfl); have e14 : L 14 = true := hall 14 (Nat.le_of_ble_eq_true rfl); have hS : St6 x.fs w2 (w.heap.size + 1) ru (.mk k2 n2 ks2) is (L 9) (L 12) (L 14) y wx := hSt; rw [e9, e12, e14] at hS; obtain ⟨c0, c1, c2, u1, u2⟩ := y; have HS6 : Hid (St6 x.fs w2 (w.heap.size + 1) ru (.mk k2 n2 ks2) is true true true ⟨c0, c1, c2, u1, u2⟩ wx) := hS; obtain ⟨tm, df⟩ := a; (obtain ⟨ys, hys, htm, rfl⟩ := frame_mid2 43 14 (by kernel_rfl) (Nat.le_of_ble_eq_true rfl) ⟨hsz, hdf, hold⟩); obtain ⟨x43, x44, x45, x46, x47, x48, x49, x50, x51, x52, x53, x54, x55, x56, rfl⟩ := rowOf14 ys hys; simp only [List.take_succ_cons, List.take_zero, List.drop_succ_cons, List.drop_zero, List.cons_append, List.nil_append] at htm; subst htm; clear hys hold hgot hall hSt hS hsz hdf e9 e12 e14; obtain ⟨sl9, cap9, hv9⟩ := slice_shape (HS6.out.form rfl); simp only [Value.agg.injEq, Array.mk.injEq, List.cons.injEq, and_true] at hv9; obtain ⟨rfl, rfl, rfl⟩ := hv9; obtain ⟨ad1, cp1, rfl, -⟩ := (HS6.out.ends rfl).1; obtain ⟨ad2, cp2, rfl, -⟩ := (HS6.out.ends rfl).2; have hz6 : w2.heap.size ≤ wx.heap.size := HS6.out.kept.size; obtain ⟨S1, hS1⟩ : ∃ S1, S1 = wx.heap.size := ⟨_, rfl⟩
      have HR4 : Hid (st + 1 ≤ 20000 ∧ deep ≤ 400 ∧ is.length ≤ 60 ∧ nd + m ≤ 2097152) := by
        have h9 := HRb.out.symm; simp only [Bool.and_eq_true, decide_eq_true_eq] at h9; exact ⟨h9.1.1.1, h9.1.1.2, h9.1.2, h9.2⟩
      (have mv : ∀ b, b < wx.heap.size → w2.heap.size ≤ b → wx.heap[b]? = wx.heap[b]? ∧ (w.heap.size + 2 ≤ b ∧ b < S1) := fun b hb h => ⟨rfl, by omega, by omega⟩)
      have HL0 : Hid (LoopW x w S1 bz lean st nd deep ru i kids is (.int .i64 k2) (.string n2) (.slice sl9 ks2.length cap9) (.slice ad1 (sideL x.fs is).length cp1) (.slice ad2 (sideR x.fs is).length cp2) (.cells #[.string ru, .int .i64 (i : Nat), .slice an needs.length cn, .slice sl kids.length cap] 85 (0, 0)) wx 0 none 0 [] (st + 1) (nd + m)) :=
        { wst := HW2.out.next (fun b hb hk => HS6.out.kept.block b hb (by
            rcases hk with hk | hk
            · have := (HW0.out.kz b hk).2
              omega
            · omega)) hz6
          kept := kept_far HKw2.out HS6.out.kept fun b hb _ => by omega
          s1 := by omega
          s1' := by omega
          b5 := (HS6.out.kept.block _ (lt_of_block R5.out) (by omega)).trans R5.out
          bo := HS6.out.box
          form := by rw [HFe.out]; exact (HS6.out.form rfl).move mv
          le := (HS6.out.ends rfl).1.move mv
          re := (HS6.out.ends rfl).2.move mv
          row := KF.nil
          klen := rfl
          ok := fun j q p pr _ _ h => by simp at h
          steps := by rw [Pf.sizes]
          fits := ⟨HR4.out.1, HR4.out.2.2.2⟩
          cnt := fun _ => by rw [HM.out]; exact Cnt.zero _ _ _ _ }
      (have R6 : Hid (wx.heap[w.heap.size]? = some (.cells #[.string ru, .int .i64 (i : Nat), .slice an needs.length cn, .slice sl kids.length cap] 85 (0, 0))) := (HS6.out.kept.block _ (lt_of_block R5.out) (by omega)).trans R5.out); have HS1' : Hid (S1 = wx.heap.size) := hS1; clear mv hS1; obtain ⟨d0, d1, d2, d3, -⟩ := blk4a R6.out; go_wp2_with fail
      go_loopg [60] kids.length (fun g c wr => ∃ k ad cp ks st' nd', k ≤ kids.length ∧ g = kids.length - k ∧ c = .int .i64 (k : Nat) ∧ Hid (LoopW x w S1 bz lean st nd deep ru i kids is (.int .i64 k2) (.string n2) (.slice sl9 ks2.length cap9) (.slice ad1 (sideL x.fs is).length cp1) (.slice ad2 (sideR x.fs is).length cp2) (.cells #[.string ru, .int .i64 (i : Nat), .slice an needs.length cn, .slice sl kids.length cap] 85 (0, 0)) wr k ad cp ks st' nd'))
      case atStart => exact ⟨0, none, 0, [], st + 1, nd + m, by omega, by omega, rfl, HL0⟩
      case round =>
        clear d0 d1 d2 d3; obtain ⟨k, ad, cp, ks, stk, ndk, hk, hg, rfl, HLk⟩ := hrel; have HG : Hid (gk = kids.length - k) := hg; clear hg; by_cases hlt : k < kids.length
        · have hne : kids ≠ [] := fun e => by rw [e] at hlt; exact absurd hlt (Nat.not_lt_zero _)
          obtain ⟨⟨ra, ri, rn, rk⟩, hkp⟩ : ∃ kp, kids[k]? = some kp := ⟨_, List.getElem?_eq_getElem hlt⟩; obtain ⟨b9, off9, cs, rfl, hb9, hcells, hplans⟩ := HKs.out hne
          obtain ⟨pr, hpr⟩ : ∃ pr, (wayOf x.ps i).2[k]? = some pr := by
            refine ⟨_, List.getElem?_eq_getElem ?_⟩
            rcases HLen.out with e | e
            · exact absurd e hne
            · omega
          have hPk := hplans k _ hkp; obtain ⟨an', cn', sl', cap', hv', -⟩ := hPk.parts; rw [hv'] at hPk; simp only [Value.agg.injEq, Array.mk.injEq, List.cons.injEq, and_true] at hv'; (have hlt9 : b9 < w.heap.size := lt_of_cell (hcells 0 (by omega))); have hB9 := HLk.out.kept.block b9 hlt9 hb9; (have g0 : wr.cell? ⟨b9, off9 + k * 4, none⟩ = some (.string ra) := by rw [← hv'.1]; exact (cell_of_block (a := ⟨b9, off9 + k * 4, none⟩) hB9).trans (hcells (k * 4) (by omega))); (have g1 : wr.cell? ⟨b9, off9 + k * 4 + 1, none⟩ = some (.int .i64 (ri : Nat)) := by rw [← hv'.2.1]; exact (cell_of_block (a := ⟨b9, off9 + k * 4 + 1, none⟩) hB9).trans (hcells (k * 4 + 1) (by omega))); (have g2 : wr.cell? ⟨b9, off9 + k * 4 + 2, none⟩ = some (.slice an' rn.length cn') := by rw [← hv'.2.2.1]; exact (cell_of_block (a := ⟨b9, off9 + k * 4 + 2, none⟩) hB9).trans (hcells (k * 4 + 2) (by omega))); (have g3 : wr.cell? ⟨b9, off9 + k * 4 + 3, none⟩ = some (.slice sl' rk.length cap') := by rw [← hv'.2.2.2]; exact (cell_of_block (a := ⟨b9, off9 + k * 4 + 3, none⟩) hB9).trans (hcells (k * 4 + 3) (by omega))); (have HPk : Hid (PlanR (fun b => b ≠ bz) wr (.mk ra ri rn rk) (.agg #[.string ra, .int .i64 (ri : Nat), .slice an' rn.length cn', .slice sl' rk.length cap'])) := hPk.move fun b hb hp => ⟨HLk.out.kept.block b hb hp, hp⟩); have HKp : Hid (kids[k]? = some (.mk ra ri rn rk)) := hkp; have HPr0 : Hid ((wayOf x.ps i).2[k]? = some pr) := hpr; (have hltI : (k : Int) < (kids.length : Int) := by omega); (have hltc : (k : Int) < (cap : Int) := by omega); obtain ⟨its2, hi2'⟩ : ∃ its2, its2 = is.erase i ++ pr := ⟨_, rfl⟩; have hprm := List.mem_of_getElem? hpr; obtain ⟨hpr2, hprL⟩ := HWp.out.2 pr hprm
          have hle2 : its2.length ≤ 62 := by
            have h1 := HR4.out.2.2.1; have h2 := List.length_erase_of_mem HIs.out; rw [hi2', List.length_append]; omega
          have HI2 : Hid (∀ y ∈ its2, y < x.L) := fun y hy => by
            rw [hi2'] at hy
            rcases List.mem_append.1 hy with h | h
            · exact HBd.out y (List.mem_of_mem_erase h)
            · exact hprL y h
          have HN2 : Hid (∀ y ∈ rn, y ∈ its2) := fun y hy => by
            rw [hi2']
            rcases HNd.out k _ pr hkp hpr y hy with h | h
            · exact List.mem_append_right _ h
            · exact List.mem_append_left _ ((List.mem_erase_of_ne fun e => HNi.out _ (List.mem_of_getElem? hkp) (by rw [← e]; exact hy)).2 (HSub.out y h))
          have HM2 : Hid (x.nods its2 + kids.length ≤ x.nods is) := by
            show _ ≤ _; rw [hi2']; (have h1 := nods_step HTo.out (List.getElem?_eq_getElem hi2) (HPl.out _ (by rw [← HTo.out.len]; exact hi2)) HIs.out hprm)
            rcases HLen.out with e | e
            · exact absurd e hne
            · omega
          have HE2 : Hid (its2 = is.erase i ++ pr) := hi2'; (have hd1 : ((deep + 1 : Nat) : Int) = (deep : Int) + 1 := by omega); obtain ⟨W9, hW9⟩ : ∃ W9, W9 = wr.alloc (.cells #[.string ra, .int .i64 (ri : Nat), .slice an' rn.length cn', .slice sl' rk.length cap'] 85 (0, 0)) := ⟨_, rfl⟩; (have hb9' : Below wr.heap.size wr W9 := by rw [hW9]; exact below_more (Below.refl _ wr) _); have HB9 : Hid (Below wr.heap.size wr W9) := hb9'; (have HZ9 : Hid (W9.heap.size = wr.heap.size + 1) := by show _ = _; rw [hW9]; simp); have HWk : Hid (WrSt x W9 bz lean stk ndk) := HLk.out.wst.up hb9'; have S5 : Hid (W9.heap[w.heap.size]? = some (.cells #[.string ru, .int .i64 (i : Nat), .slice an needs.length cn, .slice (some ⟨b9, off9, none⟩) kids.length cap] 85 (0, 0))) := below_keep hb9' HLk.out.b5; (have S13 : Hid (W9.heap[wr.heap.size]? = some (.cells #[.string ra, .int .i64 (ri : Nat), .slice an' rn.length cn', .slice sl' rk.length cap'] 85 (0, 0))) := by rw [hW9]; exact blk_new wr _); (have hzr : w.heap.size + 2 ≤ wr.heap.size := by have h1 := HLk.out.s1; have h2 := HLk.out.s1'; omega); have hzz : W9.heap.size = wr.heap.size + 1 := HZ9.out; (have HIi9 : Hid (IRow (fun b => b ≠ bz) W9 (.slice ae is.length ce) is) := HVi.out.move fun b hb hp => ⟨(hb9'.block b (by omega)).trans (HLk.out.kept.block b hb hp), hp⟩)
          have HPr : Hid (∀ W, Below W9.heap.size W9 W → Calls Tryz.prog 148 #[.pointer (some ⟨bz, 0, none⟩), .int .i64 (i : Nat), .int .i64 (k : Nat), .slice ae is.length ce] W fun e w' => ∃ ad cp, e = .returned (.slice ad its2.length cp) ∧ IRow (fun b => b ≠ bz) w' (.slice ad its2.length cp) its2 ∧ Below W.heap.size W w') := fun W hb => by
            (have hp9 := premise_any (HWk.out.up hb) i k is pr _ (HIi9.out.move fun b hl hp => ⟨hb.block b hl, hp⟩) HIs.out hiL hpr (by omega) (by omega)); rw [← hi2'] at hp9; refine hp9.mono ?_; rintro e w' ⟨ad, cp, he, ho, hb'⟩
            exact ⟨ad, cp, he, owns_items ho fun b hb2 => by
              have h1 := (ho.lt b hb2).1; have h2 := hb.size
              omega, hb'⟩
          have HCall : Hid (∀ W ad cp, Below W9.heap.size W9 W → IRow (fun b => b ≠ bz) W (.slice ad its2.length cp) its2 → Calls Tryz.prog 103 #[.pointer (some ⟨bz, 0, none⟩), .agg #[.string ra, .int .i64 (ri : Nat), .slice an' rn.length cn', .slice sl' rk.length cap'], .slice ad its2.length cp, .int .i64 ((deep : Int) + 1)] W (WrPost x W bz lean stk ndk (deep + 1) (.mk ra ri rn rk) its2)) := fun W ad cp hb hr => by
            (have h := HKid.out k _ hkp W bz lean stk ndk (deep + 1) its2 _ _ (HWk.out.up hb) (HPk.out.move fun b hl hp => ⟨(hb.block b (by omega)).trans (hb9'.block b hl), hp⟩) hr HI2.out HN2.out (by omega) HLk.out.fits.1 HLk.out.fits.2 (by have := HR4.out.2.1; omega) (fun e => (by cases e))); rw [hd1] at h; exact h
          have HWe9 : Hid (wr.alloc (.cells #[.string ra, .int .i64 (ri : Nat), .slice an' rn.length cn', .slice sl' rk.length cap'] 85 (0, 0)) = W9) := hW9.symm; (have HKK : Hid (∀ b, x.K b → b < W9.heap.size) := fun b hb => by have := (HW0.out.kz b hb).2; omega); clear hcells hplans hPk hv' hB9 hkp hpr hne hi2' hprm hpr2 hprL hd1 hW9 hb9'; go_wp2_with fail; rw [HWe9.out]; (refine wp_region_gh (by kernel_rfl) (by kernel_rfl) (by kernel_rfl) 90 rfl (by kernel_rfl) [fun _ v _ => v = (.pointer (some ⟨bz, 0, none⟩)), fun _ v _ => v = (.agg #[.string ra, .int .i64 (ri : Nat), .slice an' rn.length cn', .slice sl' rk.length cap']), fun _ v _ => v = (.pointer (some ⟨bz, 0, none⟩)), fun _ v _ => v = (.pointer (some ⟨w.heap.size, 1, none⟩)), fun _ v _ => v = (.int .i64 (i : Nat)), fun _ v _ => v = (.int .i64 (k : Nat)), fun _ v _ => v = (.slice ae is.length ce), fun _ v w => ∃ ad cp, v = .slice ad its2.length cp ∧ IRow (fun b => b ≠ bz) w (.slice ad its2.length cp) its2, fun _ v _ => v = (.int .i64 (deep : Nat)), fun _ v _ => v = (.int .i64 ((deep : Int) + 1)), fun y v _ => v = .tuple #[y.kid, .bool y.fits], fun y v _ => v = .tuple #[y.kid, .bool y.fits], fun y v _ => v = y.kid, fun y v _ => v = .bool y.fits, fun y v _ => v = .pointer (some ⟨y.g, 0, none⟩), fun _ _ _ => True, fun y v _ => v = .bool y.fits] (fun L j => !(j == 7 && L 10)) (fun L => StW x W9 bz lean (KidPost x lean stk ndk (deep + 1) (.mk ra ri rn rk) its2) (L 10) (L 14) (L 15)) (GW.none0) ?_ ?_ ?_)
          · exact fun wx h _ => StW.start _ h
          · refine ⟨?_, ?_, ?_, ?_, ?_, ?_, ?_, ?_, ?_, ?_, ?_, ?_, ?_, ?_, ?_, ?_, ?_, trivial⟩
            · intro L y a wx hSt hLi hdl hcl hold hdep K hK
              have HSt : Hid (StW x W9 bz lean (KidPost x lean stk ndk (deep + 1) (.mk ra ri rn rk) its2) (L 10) (L 14) (L 15) y wx) := hSt; clear hSt; have t0 : a.tmps[0]? = some (.pointer (some ⟨bz, 0, none⟩)) := hold 0 rfl; clear hold hdep hdl hcl hLi; go_simp; (exact hK.out _ _ y HSt.out rfl (fun j hj hl => ⟨hl, fun u h => h⟩))
            · intro L y a wx hSt hLi hdl hcl hold hdep K hK
              have HSt : Hid (StW x W9 bz lean (KidPost x lean stk ndk (deep + 1) (.mk ra ri rn rk) its2) (L 10) (L 14) (L 15) y wx) := hSt; clear hSt; have t13 : a.tmps[13]? = some (.pointer (some ⟨wr.heap.size, 0, none⟩)) := hold 13 rfl; (obtain ⟨d0, d1, d2, d3, -⟩ := blk4a ((HSt.out.kept.block _ (lt_of_block S13.out) (by omega)).trans S13.out)); clear hold hdep hdl hcl hLi; go_simp; (exact hK.out _ _ y HSt.out rfl (fun j hj hl => ⟨hl, fun u h => h⟩))
            · intro L y a wx hSt hLi hdl hcl hold hdep K hK
              have HSt : Hid (StW x W9 bz lean (KidPost x lean stk ndk (deep + 1) (.mk ra ri rn rk) its2) (L 10) (L 14) (L 15) y wx) := hSt; clear hSt; have t0 : a.tmps[0]? = some (.pointer (some ⟨bz, 0, none⟩)) := hold 0 rfl; clear hold hdep hdl hcl hLi; go_simp; (exact hK.out _ _ y HSt.out rfl (fun j hj hl => ⟨hl, fun u h => h⟩))
            · intro L y a wx hSt hLi hdl hcl hold hdep K hK
              have HSt : Hid (StW x W9 bz lean (KidPost x lean stk ndk (deep + 1) (.mk ra ri rn rk) its2) (L 10) (L 14) (L 15) y wx) := hSt; clear hSt; have t5 : a.tmps[5]? = some (.pointer (some ⟨w.heap.size, 0, none⟩)) := hold 5 rfl; clear hold hdep hdl hcl hLi; go_simp; (exact hK.out _ _ y HSt.out rfl (fun j hj hl => ⟨hl, fun u h => h⟩))
            · intro L y a wx hSt hLi hdl hcl hold hdep K hK
              have HSt : Hid (StW x W9 bz lean (KidPost x lean stk ndk (deep + 1) (.mk ra ri rn rk) its2) (L 10) (L 14) (L 15) y wx) := hSt; clear hSt; obtain ⟨v69, t69, q69⟩ := hdep 3 rfl _ 69 rfl rfl; have e69 : v69 = (.pointer (some ⟨w.heap.size, 1, none⟩)) := q69 rfl; subst e69; (obtain ⟨d0, d1, d2, d3, -⟩ := blk4a ((HSt.out.kept.block _ (lt_of_block S5.out) (by omega)).trans S5.out)); clear hold hdep hdl hcl hLi; go_simp; (exact hK.out _ _ y HSt.out rfl (fun j hj hl => ⟨hl, fun u h => h⟩))
            · intro L y a wx hSt hLi hdl hcl hold hdep K hK
              have HSt : Hid (StW x W9 bz lean (KidPost x lean stk ndk (deep + 1) (.mk ra ri rn rk) its2) (L 10) (L 14) (L 15) y wx) := hSt; clear hSt; have t12 : a.tmps[12]? = some (.int .i64 (k : Nat)) := hold 12 rfl; clear hold hdep hdl hcl hLi; go_simp; (exact hK.out _ _ y HSt.out rfl (fun j hj hl => ⟨hl, fun u h => h⟩))
            · intro L y a wx hSt hLi hdl hcl hold hdep K hK
              have HSt : Hid (StW x W9 bz lean (KidPost x lean stk ndk (deep + 1) (.mk ra ri rn rk) its2) (L 10) (L 14) (L 15) y wx) := hSt; clear hSt; have t2 : a.tmps[2]? = some (.slice ae is.length ce) := hold 2 rfl; clear hold hdep hdl hcl hLi; go_simp; (exact hK.out _ _ y HSt.out rfl (fun j hj hl => ⟨hl, fun u h => h⟩))
            · intro L y a wx hSt hLi hdl hcl hold hdep K hK
              have HSt : Hid (StW x W9 bz lean (KidPost x lean stk ndk (deep + 1) (.mk ra ri rn rk) its2) (L 10) (L 14) (L 15) y wx) := hSt; clear hSt; obtain ⟨v68, t68, q68⟩ := hdep 2 rfl _ 68 rfl rfl; have e68 : v68 = (.pointer (some ⟨bz, 0, none⟩)) := q68 rfl; subst e68; obtain ⟨v70, t70, q70⟩ := hdep 4 rfl _ 70 rfl rfl; have e70 : v70 = (.int .i64 (i : Nat)) := q70 rfl; subst e70; obtain ⟨v71, t71, q71⟩ := hdep 5 rfl _ 71 rfl rfl; have e71 : v71 = (.int .i64 (k : Nat)) := q71 rfl; subst e71; obtain ⟨v72, t72, q72⟩ := hdep 6 rfl _ 72 rfl rfl; have e72 : v72 = (.slice ae is.length ce) := q72 rfl; subst e72; (have e10 : L 10 = false := not_yet hLi fun h => hcl 10 _ rfl h 7 rfl); clear hold hdep hdl; go_simp; refine (HPr.out wx (HSt.out.below e10)).mono ?_; rintro e w3 ⟨ad7, cp7, rfl, hr7, hb3⟩; refine hK.out _ _ y (HSt.out.up e10 hb3) ⟨ad7, cp7, rfl, hr7⟩ ?_; intro j hj hl
              rcases j with _ | _ | _ | _ | _ | _ | _ | _ | _ | _ | _ | _ | _ | _ | _ | _ | _ | j
              · exact ⟨hl, fun u h => h⟩
              · exact ⟨hl, fun u h => h⟩
              · exact ⟨hl, fun u h => h⟩
              · exact ⟨hl, fun u h => h⟩
              · exact ⟨hl, fun u h => h⟩
              · exact ⟨hl, fun u h => h⟩
              · exact ⟨hl, fun u h => h⟩
              · exact Bool.noConfusion (hLi.symm.trans hj)
              · exact ⟨hl, fun u h => h⟩
              · exact ⟨hl, fun u h => h⟩
              · exact ⟨hl, fun u h => h⟩
              · exact ⟨hl, fun u h => h⟩
              · exact ⟨hl, fun u h => h⟩
              · exact ⟨hl, fun u h => h⟩
              · exact ⟨hl, fun u h => h⟩
              · exact ⟨hl, fun u h => h⟩
              · exact ⟨hl, fun u h => h⟩
              · exact ⟨hl, fun u h => h⟩
            · intro L y a wx hSt hLi hdl hcl hold hdep K hK
              have HSt : Hid (StW x W9 bz lean (KidPost x lean stk ndk (deep + 1) (.mk ra ri rn rk) its2) (L 10) (L 14) (L 15) y wx) := hSt; clear hSt; have t3 : a.tmps[3]? = some (.int .i64 (deep : Nat)) := hold 3 rfl; clear hold hdep hdl hcl hLi; go_simp; (exact hK.out _ _ y HSt.out rfl (fun j hj hl => ⟨hl, fun u h => h⟩))
            · intro L y a wx hSt hLi hdl hcl hold hdep K hK
              have HSt : Hid (StW x W9 bz lean (KidPost x lean stk ndk (deep + 1) (.mk ra ri rn rk) its2) (L 10) (L 14) (L 15) y wx) := hSt; clear hSt; obtain ⟨v74, t74, q74⟩ := hdep 8 rfl _ 74 rfl rfl; have e74 : v74 = (.int .i64 (deep : Nat)) := q74 rfl; subst e74; (have hwr : IntKind.i64.wrap ((deep : Int) + 1) = (deep : Int) + 1 := by rw [IntKind.wrap_i64]; omega); clear hold hdep hdl hcl hLi; go_simp; (exact hK.out _ _ y HSt.out rfl (fun j hj hl => ⟨hl, fun u h => h⟩))
            · intro L y a wx hSt hLi hdl hcl hold hdep K hK
              have HSt : Hid (StW x W9 bz lean (KidPost x lean stk ndk (deep + 1) (.mk ra ri rn rk) its2) (L 10) (L 14) (L 15) y wx) := hSt; clear hSt; obtain ⟨v66, t66, q66⟩ := hdep 0 rfl _ 66 rfl rfl; have e66 : v66 = (.pointer (some ⟨bz, 0, none⟩)) := q66 rfl; subst e66; obtain ⟨v67, t67, q67⟩ := hdep 1 rfl _ 67 rfl rfl; have e67 : v67 = (.agg #[.string ra, .int .i64 (ri : Nat), .slice an' rn.length cn', .slice sl' rk.length cap']) := q67 rfl; subst e67; obtain ⟨v73, t73, q73⟩ := hdep 7 rfl _ 73 rfl rfl; (obtain ⟨ad7, cp7, e73, hr7⟩ := q73 (by show (!(L 10)) = true; rw [hLi]; rfl)); subst e73; (have HR7 : Hid (IRow (fun b => b ≠ bz) wx (.slice ad7 its2.length cp7) its2) := hr7); obtain ⟨v75, t75, q75⟩ := hdep 9 rfl _ 75 rfl rfl; have e75 : v75 = (.int .i64 ((deep : Int) + 1)) := q75 rfl; subst e75; (have e15 : L 15 = false := not_yet hLi fun h => hcl 15 _ rfl h 10 rfl); clear hold hdep hdl hr7; go_simp; refine (HCall.out wx ad7 cp7 (HSt.out.below hLi) HR7.out).mono ?_; rintro e w3 ⟨P, pv, fits, st3, nd3, rfl, hP3, hw3, hk3, hf3, hf4⟩; obtain ⟨a3, ⟨k3, n3, kf3⟩, l3, r3, ks3⟩ := P; obtain ⟨sf3, cf3, al3, cl3, ar3, cr3, sl3, cap3, rfl, -⟩ := hP3.parts; (refine hK.out _ _ _ (HSt.out.call e15 (by omega) hP3 hw3 hk3 ⟨hf3, hf4⟩) rfl ?_); intro j hj hl
              rcases j with _ | _ | _ | _ | _ | _ | _ | _ | _ | _ | _ | _ | _ | _ | _ | _ | _ | j
              · exact ⟨hl, fun u h => h⟩
              · exact ⟨hl, fun u h => h⟩
              · exact ⟨hl, fun u h => h⟩
              · exact ⟨hl, fun u h => h⟩
              · exact ⟨hl, fun u h => h⟩
              · exact ⟨hl, fun u h => h⟩
              · exact ⟨hl, fun u h => h⟩
              · exact Bool.noConfusion (show (false : Bool) = true from hl)
              · exact ⟨hl, fun u h => h⟩
              · exact ⟨hl, fun u h => h⟩
              · exact Bool.noConfusion (hLi.symm.trans hj)
              · exact Bool.noConfusion (hLi.symm.trans (hcl 11 _ rfl hj 10 rfl))
              · exact Bool.noConfusion (hLi.symm.trans (hcl 11 _ rfl (hcl 12 _ rfl hj 11 rfl) 10 rfl))
              · exact Bool.noConfusion (hLi.symm.trans (hcl 11 _ rfl (hcl 13 _ rfl hj 11 rfl) 10 rfl))
              · exact ⟨hl, fun u h => h⟩
              · exact ⟨hl, fun u h => h⟩
              · exact Bool.noConfusion (hLi.symm.trans (hcl 16 _ rfl hj 10 rfl))
              · exact ⟨hl, fun u h => h⟩
            · intro L y a wx hSt hLi hdl hcl hold hdep K hK
              have HSt : Hid (StW x W9 bz lean (KidPost x lean stk ndk (deep + 1) (.mk ra ri rn rk) its2) (L 10) (L 14) (L 15) y wx) := hSt; clear hSt; obtain ⟨v76, t76, q76⟩ := hdep 10 rfl _ 76 rfl rfl; have e76 : v76 = (.tuple #[y.kid, .bool y.fits]) := q76 rfl; subst e76; clear hold hdep hdl hcl hLi; go_simp; (exact hK.out _ _ y HSt.out rfl (fun j hj hl => ⟨hl, fun u h => h⟩))
            · intro L y a wx hSt hLi hdl hcl hold hdep K hK
              have HSt : Hid (StW x W9 bz lean (KidPost x lean stk ndk (deep + 1) (.mk ra ri rn rk) its2) (L 10) (L 14) (L 15) y wx) := hSt; clear hSt; obtain ⟨v65, t65, q65⟩ := hdep 11 rfl _ 65 rfl rfl; have e65 : v65 = (.tuple #[y.kid, .bool y.fits]) := q65 rfl; subst e65; clear hold hdep hdl hcl hLi; go_simp; (exact hK.out _ _ y HSt.out rfl (fun j hj hl => ⟨hl, fun u h => h⟩))
            · intro L y a wx hSt hLi hdl hcl hold hdep K hK
              have HSt : Hid (StW x W9 bz lean (KidPost x lean stk ndk (deep + 1) (.mk ra ri rn rk) its2) (L 10) (L 14) (L 15) y wx) := hSt; clear hSt; obtain ⟨v65, t65, q65⟩ := hdep 11 rfl _ 65 rfl rfl; have e65 : v65 = (.tuple #[y.kid, .bool y.fits]) := q65 rfl; subst e65; clear hold hdep hdl hcl hLi; go_simp; (exact hK.out _ _ y HSt.out rfl (fun j hj hl => ⟨hl, fun u h => h⟩))
            · intro L y a wx hSt hLi hdl hcl hold hdep K hK
              have HSt : Hid (StW x W9 bz lean (KidPost x lean stk ndk (deep + 1) (.mk ra ri rn rk) its2) (L 10) (L 14) (L 15) y wx) := hSt; clear hSt; (have e15 : L 15 = false := not_yet hLi fun h => hcl 15 _ rfl h 14 rfl); clear hold hdep hdl; go_simp; refine hK.out _ _ _ (HSt.out.alloc KidPost.eq hLi e15) rfl ?_; intro j hj hl
              rcases j with _ | _ | _ | _ | _ | _ | _ | _ | _ | _ | _ | _ | _ | _ | _ | _ | _ | j
              · exact ⟨hl, fun u h => h⟩
              · exact ⟨hl, fun u h => h⟩
              · exact ⟨hl, fun u h => h⟩
              · exact ⟨hl, fun u h => h⟩
              · exact ⟨hl, fun u h => h⟩
              · exact ⟨hl, fun u h => h⟩
              · exact ⟨hl, fun u h => h⟩
              · exact ⟨hl, fun u ⟨ad, cp, e, h⟩ => ⟨ad, cp, e, h.move fun b hb hp => ⟨Below.heap_alloc _ _ _ hb, hp⟩⟩⟩
              · exact ⟨hl, fun u h => h⟩
              · exact ⟨hl, fun u h => h⟩
              · exact ⟨hl, fun u h => h⟩
              · exact ⟨hl, fun u h => h⟩
              · exact ⟨hl, fun u h => h⟩
              · exact ⟨hl, fun u h => h⟩
              · exact Bool.noConfusion (hLi.symm.trans hj)
              · exact ⟨hl, fun u h => h⟩
              · exact ⟨hl, fun u h => h⟩
              · exact ⟨hl, fun u h => h⟩
            · intro L y a wx hSt hLi hdl hcl hold hdep K hK
              have HSt : Hid (StW x W9 bz lean (KidPost x lean stk ndk (deep + 1) (.mk ra ri rn rk) its2) (L 10) (L 14) (L 15) y wx) := hSt; clear hSt; have e10 := hdl 10 rfl; have e14 := hdl 14 rfl; obtain ⟨g, ⟨a3, ⟨k3, n3, kf3⟩, l3, r3, ks3⟩, q0, q1, q2, q3, q4, q5, q6, fits, st3, nd3⟩ := y; obtain ⟨sf3, cf3, al3, cl3, ar3, cr3, sl3, cap3, hv3, -⟩ := (HSt.out.done e10).2.1.parts; simp only [GW.kid, Value.agg.injEq, Array.mk.injEq, List.cons.injEq, and_true] at hv3; obtain ⟨rfl, rfl, rfl, rfl, rfl, rfl, rfl⟩ := hv3; obtain ⟨v14, t14, q14⟩ := hdep 14 rfl _ 14 rfl rfl; have e14 : v14 = (.pointer (some ⟨g, 0, none⟩)) := q14 rfl; subst e14; obtain ⟨v77, t77, q77⟩ := hdep 12 rfl _ 77 rfl rfl; have e77 : v77 = (.agg #[.string a3, .int .i64 k3, .string n3, .slice sf3 kf3.length cf3, .slice al3 l3.length cl3, .slice ar3 r3.length cr3, .slice sl3 ks3.length cap3]) := q77 rfl; subst e77
              have hbx : wx.heap[g]? = some (.cells #[.string ⟨#[]⟩, .int .i64 0, .string ⟨#[]⟩, .slice none 0 0, .slice none 0 0, .slice none 0 0, .slice none 0 0] 32 (0, 0)) := by
                have h := (HSt.out.box e14).2; rw [hLi] at h; exact h
              obtain ⟨y0, y1, y2, y3, y4, y5, y6⟩ := blk7 hbx; obtain ⟨f0, f1, f2, f3, f4, f5, f6⟩ := blk7f hbx; clear hold hdep hdl hcl hbx; go_simp; obtain ⟨w9, hw9⟩ : ∃ w9, w9 = sev7 wx g (.string a3) (.int .i64 k3) (.string n3) (.slice sf3 kf3.length cf3) (.slice al3 l3.length cl3) (.slice ar3 r3.length cr3) (.slice sl3 ks3.length cap3) := ⟨_, rfl⟩
              change K a (sev7 wx g (.string a3) (.int .i64 k3) (.string n3) (.slice sf3 kf3.length cf3) (.slice al3 l3.length cl3) (.slice ar3 r3.length cr3) (.slice sl3 ks3.length cap3))
              (have hS9 := HSt.out.store e10 e14 (by omega) HKK.out hLi); rw [← hw9]; simp only [← hw9] at hS9; clear hw9; refine hK.out (.bool false) _ _ hS9 trivial ?_; intro j hj hl
              rcases j with _ | _ | _ | _ | _ | _ | _ | _ | _ | _ | _ | _ | _ | _ | _ | _ | _ | j
              · exact ⟨hl, fun u h => h⟩
              · exact ⟨hl, fun u h => h⟩
              · exact ⟨hl, fun u h => h⟩
              · exact ⟨hl, fun u h => h⟩
              · exact ⟨hl, fun u h => h⟩
              · exact ⟨hl, fun u h => h⟩
              · exact ⟨hl, fun u h => h⟩
              · exact absurd (show (!(L 10)) = true from hl) (by rw [e10]; exact Bool.noConfusion)
              · exact ⟨hl, fun u h => h⟩
              · exact ⟨hl, fun u h => h⟩
              · exact ⟨hl, fun u h => h⟩
              · exact ⟨hl, fun u h => h⟩
              · exact ⟨hl, fun u h => h⟩
              · exact ⟨hl, fun u h => h⟩
              · exact ⟨hl, fun u h => h⟩
              · exact ⟨hl, fun u h => h⟩
              · exact ⟨hl, fun u h => h⟩
              · exact ⟨hl, fun u h => h⟩
            · intro L y a wx hSt hLi hdl hcl hold hdep K hK
              have HSt : Hid (StW x W9 bz lean (KidPost x lean stk ndk (deep + 1) (.mk ra ri rn rk) its2) (L 10) (L 14) (L 15) y wx) := hSt; clear hSt; obtain ⟨v78, t78, q78⟩ := hdep 13 rfl _ 78 rfl rfl; have e78 : v78 = (.bool y.fits) := q78 rfl; subst e78; clear hold hdep hdl hcl hLi; go_simp; (exact hK.out _ _ y HSt.out rfl (fun j hj hl => ⟨hl, fun u h => h⟩))
          · intro L y a wx hall hSt hsz hdf hold hgot
            have e10 : L 10 = true := hall 10 (Nat.le_of_ble_eq_true rfl); have e14 : L 14 = true := hall 14 (Nat.le_of_ble_eq_true rfl); have e15 : L 15 = true := hall 15 (Nat.le_of_ble_eq_true rfl); have hS : StW x W9 bz lean (KidPost x lean stk ndk (deep + 1) (.mk ra ri rn rk) its2) (L 10) (L 14) (L 15) y wx := hSt; rw [e10, e14, e15] at hS; obtain ⟨v14, t14, q14⟩ := hgot 14 _ 14 rfl rfl; have e14' : v14 = .pointer (some ⟨y.g, 0, none⟩) := q14 rfl; subst e14'; obtain ⟨v15, t15, q15⟩ := hgot 16 _ 15 rfl rfl; have e15' : v15 = .bool y.fits := q15 rfl; subst e15'; obtain ⟨tm, df⟩ := a; (obtain ⟨ys, zs, hys, hzs, htm, rfl⟩ := frame_two 14 2 49 14 16 65 79 rfl rfl rfl (by kernel_rfl) (Nat.le_of_ble_eq_true rfl) ⟨hsz, hdf, hold⟩); obtain ⟨x14, x15, rfl⟩ := rowOf2 ys hys; obtain ⟨x65, x66, x67, x68, x69, x70, x71, x72, x73, x74, x75, x76, x77, x78, rfl⟩ := rowOf14 zs hzs; simp only [List.take_succ_cons, List.take_zero, List.drop_succ_cons, List.drop_zero, List.cons_append, List.nil_append] at htm; subst htm; obtain rfl : x14 = _ := someInj t14; obtain rfl : x15 = _ := someInj t15; clear hys hzs hold hgot hall hSt hsz hdf e10 e14 e15 t14 t15 q14 q15; obtain ⟨g, ⟨a3, ⟨k3, n3, kf3⟩, l3, r3, ks3⟩, q0, q1, q2, q3, q4, q5, q6, fits, st3, nd3⟩ := y; obtain ⟨sf3, cf3, al3, cl3, ar3, cr3, sl3, cap3, hv3, -⟩ := (hS.done rfl).2.1.parts; simp only [GW.kid, Value.agg.injEq, Array.mk.injEq, List.cons.injEq, and_true] at hv3; obtain ⟨rfl, rfl, rfl, rfl, rfl, rfl, rfl⟩ := hv3; have HS : Hid (StW x W9 bz lean (KidPost x lean stk ndk (deep + 1) (.mk ra ri rn rk) its2) true true true ⟨g, .mk a3 (.mk k3 n3 kf3) l3 r3 ks3, .string a3, .int .i64 k3, .string n3, .slice sf3 kf3.length cf3, .slice al3 l3.length cl3, .slice ar3 r3.length cr3, .slice sl3 ks3.length cap3, fits, st3, nd3⟩ wx) := hS; clear hS; (have T8 : Hid (wx.heap[w.heap.size + 1]? = some (.cells #[.string ru, .int .i64 k2, .string n2, .slice sl9 ks2.length cap9, .slice ad1 (sideL x.fs is).length cp1, .slice ad2 (sideR x.fs is).length cp2, .slice ad ks.length cp] 32 (0, 0))) := (HS.out.kept.block _ (by omega) (by omega)).trans (below_keep HB9.out HLk.out.bo)); have T14 : Hid (wx.heap[g]? = some (.cells #[.string a3, .int .i64 k3, .string n3, .slice sf3 kf3.length cf3, .slice al3 l3.length cl3, .slice ar3 r3.length cr3, .slice sl3 ks3.length cap3] 32 (0, 0))) := (HS.out.box rfl).2; have hzx : W9.heap.size ≤ wx.heap.size := HS.out.kept.size; have hg9 : W9.heap.size ≤ g := (HS.out.box rfl).1; (have HKx : Hid (Kept (fun b => b ≠ bz) w wx) := kept_far (kept_far HLk.out.kept (kept_of_below (ok := fun b => b ≠ bz) HB9.out fun _ h _ => h) fun _ _ h => h) HS.out.kept fun _ _ h => h); (have hlk : kids.length ≤ 2 := by omega); obtain ⟨y0, y1, y2, y3, y4, y5, y6⟩ := blk7 T8.out; obtain ⟨f0, f1, f2, f3, f4, f5, f6⟩ := blk7f T8.out
            cases fits
            · go_wp2_with fail
              obtain ⟨Wf, hWf⟩ : ∃ Wf, Wf = sev7 wx (w.heap.size + 1) (.string ⟨#[]⟩) (.int .i64 0) (.string ⟨#[]⟩) (.slice none 0 0) (.slice none 0 0) (.slice none 0 0) (.slice none 0 0) := ⟨_, rfl⟩
              change bodyPost _ _ _ _ _ (sev7 wx (w.heap.size + 1) (.string ⟨#[]⟩) (.int .i64 0) (.string ⟨#[]⟩) (.slice none 0 0) (.slice none 0 0) (.slice none 0 0) (.slice none 0 0))
              have hE := sev7_same (.string ⟨#[]⟩) (.int .i64 0) (.string ⟨#[]⟩) (.slice none 0 0) (.slice none 0 0) (.slice none 0 0) (.slice none 0 0) T8.out; have hKf := sev7_kept wx (w.heap.size + 1) (.string ⟨#[]⟩) (.int .i64 0) (.string ⟨#[]⟩) (.slice none 0 0) (.slice none 0 0) (.slice none 0 0) (.slice none 0 0); rw [← hWf] at hE hKf ⊢; clear hWf; obtain ⟨m0, m1, m2, m3, m4, m5, m6⟩ := blk7 hE; (refine bodyPost_ret (v := .tuple #[.agg #[.string ⟨#[]⟩, .int .i64 0, .string ⟨#[]⟩, .slice none 0 0, .slice none 0 0, .slice none 0 0, .slice none 0 0], .bool false]) (by simp [results, Tryz.results103, go_sem, m0, m1, m2, m3, m4, m5, m6]) rfl ⟨_, _, false, st3, nd3, rfl, zero_pf Wf _, (HS.out.done rfl).1.next (fun b hb hk => hKf.block b hb ?_) hKf.size, kept_far HKx.out hKf fun b hb _ => by omega, fun h => (by cases h), fun _ hl hR => ?_⟩)
              · rcases hk with hk | hk
                · have := (HW0.out.kz b hk).2
                  omega
                · omega
              · refine (HS.out.done rfl).2.2.2 rfl hl ?_
                have h9 := (HLk.out.cnt hl).fits hlt hlk HM2.out hR.1 hR.2.1 hR.2.2.1 hR.2.2.2; exact ⟨h9.1, h9.2.1, h9.2.2.1, h9.2.2.2⟩
            · obtain ⟨i0, hi0, hz0, hz1', hz2'⟩ := infoPf
              obtain ⟨t0, t1, t2, t3, t4, t5, t6⟩ := blk7 T14.out; have hS1' := HLk.out.s1'; have hS1 := HLk.out.s1; obtain ⟨O9, hO9⟩ : ∃ O, O = Obj.cells #[.string a3, .int .i64 k3, .string n3, .slice sf3 kf3.length cf3, .slice al3 l3.length cl3, .slice ar3 r3.length cr3, .slice sl3 ks3.length cap3] 32 (0, 0) := ⟨_, rfl⟩; have hBa : Below wx.heap.size wx (wx.alloc O9) := below_more (Below.refl _ wx) _; (have hkf : KF (S1 ≤ ·) S1 (wx.alloc O9) ad cp ks := (HLk.out.row.same (w' := wx) fun b hb hl => (HS.out.kept.block b (by omega) (by omega)).trans (HB9.out.block b hl)).up hBa); obtain ⟨csr, hor, -⟩ := HLk.out.row; (have HOw : Hid (∀ b, (Value.slice ad ks.length cp).ownBlock = some b → S1 ≤ b ∧ b < wr.heap.size) := fun b e => hor.lt b e); obtain ⟨cs9, hown9, hpq9⟩ := hkf; (have HPQ : Hid (PQ (fun b => S1 ≤ b ∧ (Value.slice ad ks.length cp).ownBlock ≠ some b) (wx.alloc O9) cs9 ks) := hpq9); have HON : Hid ((wx.alloc O9).ownsRow S1 32 7 (.slice ad ks.length cp) ks.length cs9) := hown9; (have hks2 : ks.length ≤ 2 := by have := HLk.out.klen; omega); have HBa : Hid (Below wx.heap.size wx (wx.alloc O9)) := hBa; have HOe : Hid (O9 = Obj.cells #[.string a3, .int .i64 k3, .string n3, .slice sf3 kf3.length cf3, .slice al3 l3.length cl3, .slice ar3 r3.length cr3, .slice sl3 ks3.length cap3] 32 (0, 0)) := hO9; have hown9' := hown9; rw [hO9] at hown9'; clear hor hpq9 hBa hO9 hown9
              go_wp2_with (first
                | (at_builtin
                   go_loud (refine wpList_append_lies _ rfl _ _ 30 rfl S1 32 i0 (.agg #[.string ⟨#[]⟩, .int .i64 0, .string ⟨#[]⟩, .slice none 0 0, .slice none 0 0, .slice none 0 0, .slice none 0 0]) 7 136 Tryz.underlying30 hi0 hz0 hz1' hz2' rfl (by decide) _ _ _ rfl hown9' ⟨wx.heap.size, 0, none⟩ 1 1 [.string a3, .int .i64 k3, .string n3, .slice sf3 kf3.length cf3, .slice al3 l3.length cl3, .slice ar3 r3.length cr3, .slice sl3 ks3.length cap3] rfl rfl ?_ ?_ (by omega) (by unfold maxLen; omega) (by omega) (by simp; omega) _ rfl ?_)
                   · intro j u hu
                     rw [add_none, Nat.zero_add, blk_cell (blk_new wx _)]; simpa using hu
                   · intro u hu
                     simp at hu
                     rcases hu with rfl | rfl | rfl | rfl | rfl | rfl | rfl <;> rfl
                   intro g3 cp3 w3 hown3 hgrow hat hlt3; rw [← HOe.out] at hgrow hat; have hgw : (wx.alloc O9).grownBy w3 (Value.slice ad ks.length cp).ownBlock := hgrow; have HGr : Hid ((wx.alloc O9).grownBy w3 (Value.slice ad ks.length cp).ownBlock) := hgw; have HOn3 : Hid (w3.ownsRow S1 32 7 (.slice (some ⟨g3, 0, none⟩) (ks.length + 1) cp3) (ks.length + 1) (cs9 ++ [.string a3, .int .i64 k3, .string n3, .slice sf3 kf3.length cf3, .slice al3 l3.length cl3, .slice ar3 r3.length cr3, .slice sl3 ks3.length cap3])) := hown3; have HAt : Hid ((Value.slice ad ks.length cp).ownBlock = some g3 ∨ g3 = (wx.alloc O9).heap.size) := hat; (have HU8 : Hid (w3.heap[w.heap.size + 1]? = some (.cells #[.string ru, .int .i64 k2, .string n2, .slice sl9 ks2.length cap9, .slice ad1 (sideL x.fs is).length cp1, .slice ad2 (sideR x.fs is).length cp2, .slice ad ks.length cp] 32 (0, 0))) := (hgw.block _ (by have h1 := HBa.out.size; omega) (fun e => by have := HOw.out _ e.symm; omega)).trans (below_keep HBa.out T8.out)); clear hown3 hgrow hat hgw hown9' y0 y1 y2 y3 y4 y5 y6 f0 f1 f2 f3 f4 f5 f6; obtain ⟨y0, y1, y2, y3, y4, y5, y6⟩ := blk7 HU8.out
                   obtain ⟨f0, f1, f2, f3, f4, f5, f6⟩ := blk7f HU8.out)
                | fail)
              obtain ⟨W4, hW4⟩ : ∃ W4, W4 = w3.setCell ⟨w.heap.size + 1, 6, none⟩ (.slice (some ⟨g3, 0, none⟩) (ks.length + 1) cp3) := ⟨_, rfl⟩; have HE4 : Hid (w3.setCell ⟨w.heap.size + 1, 6, none⟩ (.slice (some ⟨g3, 0, none⟩) (ks.length + 1) cp3) = W4) := hW4.symm; (have hs3 : wx.heap.size ≤ w3.heap.size := by have h1 := HGr.out.size; have h2 := HBa.out.size; omega)
              have K4 : Hid (Kept (fun b => (Value.slice ad ks.length cp).ownBlock ≠ some b ∧ b ≠ w.heap.size + 1) wx W4) := by
                rw [hW4]; (exact kept_far (a := wx) (b := w3) ⟨HGr.out.os.trans HBa.out.os, HGr.out.tape.trans HBa.out.tape, HGr.out.output.trans HBa.out.output, hs3, fun b hb hp => (HGr.out.block b (by have := HBa.out.size; omega) (fun e => hp.1 e.symm)).trans (HBa.out.block b hb)⟩ (kept_set (ok := fun b => b ≠ w.heap.size + 1) fun c hc => hc) fun _ _ h => h.2)
              have U8 : Hid (W4.heap[w.heap.size + 1]? = some (.cells #[.string ru, .int .i64 k2, .string n2, .slice sl9 ks2.length cap9, .slice ad1 (sideL x.fs is).length cp1, .slice ad2 (sideR x.fs is).length cp2, .slice (some ⟨g3, 0, none⟩) (ks.length + 1) cp3] 32 (0, 0))) := by
                rw [hW4, blk_set HU8.out]; rfl
              have K4F : Hid (KF (S1 ≤ ·) S1 W4 (some ⟨g3, 0, none⟩) cp3 (ks ++ [.mk a3 (.mk k3 n3 kf3) l3 r3 ks3])) := by
                rw [hW4]; (refine (KF.app rfl rfl HON.out HPQ.out (ds := [.string a3, .int .i64 k3, .string n3, .slice sf3 kf3.length cf3, .slice al3 l3.length cl3, .slice ar3 r3.length cr3, .slice sl3 ks3.length cap3]) (qs := [.mk a3 (.mk k3 n3 kf3) l3 r3 ks3]) ⟨PRp.move (HS.out.done rfl).2.1 fun b hb hp => ⟨HBa.out.block b hb, by have := hp.1; omega, fun e => ?_⟩, trivial⟩ HOn3.out HGr.out HAt.out).same fun b hb _ => blk_other _ (by omega)); have h1 := HOw.out b e; have h2 := hp.1; omega
              have hlow : ∀ b, b < S1 → w.heap.size + 2 ≤ b ∨ (b < w.heap.size ∧ b ≠ bz) ∨ b = w.heap.size → W4.heap[b]? = wr.heap[b]? := fun b hb hc => by
                (rw [K4.out.block b (by omega) ⟨fun e => by have := HOw.out b e; omega, by omega⟩, HS.out.kept.block b (by omega) (by omega), HB9.out.block b (by omega)])
              have HL1 : Hid (LoopW x w S1 bz lean st nd deep ru i kids is (.int .i64 k2) (.string n2) (.slice sl9 ks2.length cap9) (.slice ad1 (sideL x.fs is).length cp1) (.slice ad2 (sideR x.fs is).length cp2) (.cells #[.string ru, .int .i64 (i : Nat), .slice an needs.length cn, .slice (some ⟨b9, off9, none⟩) kids.length cap] 85 (0, 0)) W4 (k + 1) (some ⟨g3, 0, none⟩) cp3 (ks ++ [.mk a3 (.mk k3 n3 kf3) l3 r3 ks3]) st3 nd3) := by
                obtain ⟨p1, p2, p3, p4, p5⟩ := (HS.out.done rfl).2.2.1 rfl
                exact
                { wst := (HS.out.done rfl).1.next (fun b hb hk => K4.out.block b hb ⟨fun e => by
                      have h1 := HOw.out b e
                      rcases hk with hk | hk
                      · have := (HW0.out.kz b hk).2
                        omega
                      · omega, by
                      rcases hk with hk | hk
                      · have := (HW0.out.kz b hk).2
                        omega
                      · omega⟩) K4.out.size
                  kept := kept_far HKx.out K4.out fun b hb _ => ⟨fun e => by have h1 := HOw.out b e; omega, by omega⟩
                  s1 := hS1
                  s1' := by have := K4.out.size; omega
                  b5 := (hlow _ (by omega) (by omega)).trans HLk.out.b5
                  bo := by rw [List.length_append]; exact U8.out
                  form := HLk.out.form.move fun b hb hp => ⟨hlow b hp.2 (Or.inl hp.1), hp⟩
                  le := HLk.out.le.move fun b hb hp => ⟨hlow b hp.2 (Or.inl hp.1), hp⟩
                  re := HLk.out.re.move fun b hb hp => ⟨hlow b hp.2 (Or.inl hp.1), hp⟩
                  row := K4F.out
                  klen := by rw [List.length_append, HLk.out.klen]; rfl
                  ok := fun j q p pr' h1 h2 h3 => by
                    rcases Nat.lt_or_ge j ks.length with hj | hj
                    · rw [List.getElem?_append_left hj] at h3
                      exact HLk.out.ok j q p pr' h1 h2 h3
                    · have hjl := (List.getElem?_eq_some_iff.1 h3).1
                      rw [List.length_append] at hjl; (have hjk : j = ks.length := by simp at hjl; omega); subst hjk; rw [List.getElem?_append_right (Nat.le_refl _), Nat.sub_self] at h3; (have e3 : Pf.mk a3 (.mk k3 n3 kf3) l3 r3 ks3 = p := by simpa using h3); rw [HLk.out.klen] at h1 h2; rw [HKp.out] at h1; rw [HPr0.out] at h2
                      cases h1
                      cases h2
                      rw [← e3, ← HE2.out]; exact p1
                  steps := by
                    have p2' : st3 = stk + (Pf.mk a3 (.mk k3 n3 kf3) l3 r3 ks3).size := p2; rw [p2', HLk.out.steps, psizes_snoc]; omega
                  fits := ⟨p3, p4⟩
                  cnt := fun hl => (HLk.out.cnt hl).more HM2.out (p5 hl).1 (p5 hl).2 }
              clear hW4 hlow y0 y1 y2 y3 y4 y5 y6 f0 f1 f2 f3 f4 f5 f6 t0 t1 t2 t3 t4 t5 t6; rw [HE4.out]; go_wp2_with fail
              go_roundg (kids.length - (k + 1))
              case measure => have := HG.out; omega
              case rel => exact ⟨k + 1, some ⟨g3, 0, none⟩, cp3, _, st3, nd3, by omega, rfl, by go_num, HL1⟩
        · have hge : ¬ (k : Int) < (kids.length : Int) := by omega
          (have hke : k = kids.length := by omega); obtain ⟨y0, y1, y2, y3, y4, y5, y6⟩ := blk7 HLk.out.bo; obtain ⟨f0, f1, f2, f3, f4, f5, f6⟩ := blk7f HLk.out.bo; go_wp2_with fail; obtain ⟨Wf, hWf⟩ : ∃ Wf, Wf = sev7 wr (w.heap.size + 1) (.string ru) (.int .i64 k2) (.string n2) (.slice sl9 ks2.length cap9) (.slice ad1 (sideL x.fs is).length cp1) (.slice ad2 (sideR x.fs is).length cp2) (.slice ad ks.length cp) := ⟨_, rfl⟩
          change bodyPost _ _ _ _ _ (sev7 wr (w.heap.size + 1) (.string ru) (.int .i64 k2) (.string n2) (.slice sl9 ks2.length cap9) (.slice ad1 (sideL x.fs is).length cp1) (.slice ad2 (sideR x.fs is).length cp2) (.slice ad ks.length cp))
          have hE := sev7_same (.string ru) (.int .i64 k2) (.string n2) (.slice sl9 ks2.length cap9) (.slice ad1 (sideL x.fs is).length cp1) (.slice ad2 (sideR x.fs is).length cp2) (.slice ad ks.length cp) HLk.out.bo; have hKf := sev7_kept wr (w.heap.size + 1) (.string ru) (.int .i64 k2) (.string n2) (.slice sl9 ks2.length cap9) (.slice ad1 (sideL x.fs is).length cp1) (.slice ad2 (sideR x.fs is).length cp2) (.slice ad ks.length cp); rw [← hWf] at hE hKf ⊢; clear hWf; obtain ⟨m0, m1, m2, m3, m4, m5, m6⟩ := blk7 hE; have hS1 := HLk.out.s1; (have hr9 := (HLk.out.row.same (w' := Wf) fun b hb hl => hKf.block b hl (by omega)).rep fun b hb => hb); have hR4 := HR4.out; (refine bodyPost_ret (v := .tuple #[.agg #[.string ru, .int .i64 k2, .string n2, .slice sl9 ks2.length cap9, .slice ad1 (sideL x.fs is).length cp1, .slice ad2 (sideR x.fs is).length cp2, .slice ad ks.length cp], .bool true]) (by simp [results, Tryz.results103, go_sem, m0, m1, m2, m3, m4, m5, m6]) rfl ⟨.mk ru (itF x.fs i) (sideL x.fs is) (sideR x.fs is) ks, _, true, stk, ndk, rfl, ?_, HLk.out.wst.next (fun b hb hk => hKf.block b hb ?_) hKf.size, kept_far HLk.out.kept hKf fun b hb _ => by omega, fun _ => ⟨WPf.step deep ru i needs kids is ks hR4.2.1 hR4.2.2.1 (by rw [HLk.out.klen, hke]) HLk.out.ok, ?_, HLk.out.fits.1, HLk.out.fits.2, fun hl => ?_⟩, fun h => (by cases h)⟩)
          · rw [PRp.def]
            (refine ⟨_, _, _, _, _, _, _, rfl, hru, HLk.out.form.move fun b hb hp => ⟨hKf.block b hb (by omega), by omega⟩, HLk.out.le.move fun b hb hp => ⟨hKf.block b hb (by omega), by omega⟩, HLk.out.re.move fun b hb hp => ⟨hKf.block b hb (by omega), by omega⟩, hr9.1, hr9.2.1, fun hne => ?_⟩); obtain ⟨b, off, h1, h2, h3⟩ := hr9.2.2 hne; (exact ⟨b, off, h1, by omega, h3.move h2 fun b hb hp => ⟨rfl, by omega⟩⟩)
          · rcases hk with hk | hk
            · have := (HW0.out.kz b hk).2
              omega
            · omega
          · rw [Pf.size]
            have := HLk.out.steps; omega
          · have hc := HLk.out.cnt hl
            rw [hke] at hc; (refine hc.last (by omega) ?_)
            rcases HLen.out with e | e
            · rw [e]; exact Nat.zero_le _
            · rcases Nat.eq_zero_or_pos kids.length with h0 | h0
              · omega
              · have h1 := nods_step HTo.out (List.getElem?_eq_getElem hi2) (HPl.out _ (by rw [← HTo.out.len]; exact hi2)) HIs.out (List.getElem_mem (l := (wayOf x.ps i).2) (n := 0) (by omega))
                omega
end Go.Proofs.YtalnljnincnbdacGreat
