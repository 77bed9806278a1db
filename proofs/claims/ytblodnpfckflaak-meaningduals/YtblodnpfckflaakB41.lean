/- Texts of one proof, one behind the other: SP4, SP5, SP6, SP7, SP8. -/
import Derived.Test.YtblodnpfckflaakB40
import Derived.Test.YtblodnpfckflaakB20
import Derived.Test.YtblodnpfckflaakB06
/- Walks: sameThings and the closures of MeaningDuals. -/
namespace Go.Proofs.Ytblodnpfckflaak
open Go.RowKit Go.Sort

def samE2 : Ex := .mk 9 ⟨#[120]⟩ [] [.mk 9 ⟨#[121]⟩ [] [.mk 2 ⟨#[]⟩ [.mk ⟨#[120]⟩ [], .mk ⟨#[121]⟩ []] []]]
/-- An expression is answered. -/
def ExE (w : World) (x : Ex) (e : Ending) (w' : World) : Prop := ∃ v, e = .returned v ∧ ERp w' x v ∧ Below w.heap.size w w'
theorem blk_fourM (w : World) (A B C D : Obj) : ((((w.alloc A).alloc B).alloc C).alloc D).heap[w.heap.size]? = some A ∧ ((((w.alloc A).alloc B).alloc C).alloc D).heap[w.heap.size + 1]? = some B ∧ ((((w.alloc A).alloc B).alloc C).alloc D).heap[w.heap.size + 1 + 1]? = some C ∧ ((((w.alloc A).alloc B).alloc C).alloc D).heap[w.heap.size + 1 + 1 + 1]? = some D := by
  obtain ⟨p1, p2, p3⟩ := blk_threeM w A B C; refine ⟨alloc_keep p1 D, alloc_keep p2 D, alloc_keep p3 D, ?_⟩; have := blk_new (((w.alloc A).alloc B).alloc C) D; simpa using this
theorem cells4 {W : World} {b : Nat} {x0 x1 x2 x3 : Value} {T : TypeId} (h : W.heap[b]? = some (.cells #[x0, x1, x2, x3] T (0, 0))) : W.cell? ⟨b, 0, none⟩ = some x0 ∧ W.cell? ⟨b, 1, none⟩ = some x1 ∧ W.cell? ⟨b, 2, none⟩ = some x2 ∧ W.cell? ⟨b, 3, none⟩ = some x3 :=
  ⟨blk_cell h 0, blk_cell h 1, blk_cell h 2, blk_cell h 3⟩
set_option maxRecDepth 10000 in
set_option maxHeartbeats 4000000 in
theorem sth_any (w : World) : Calls Try.prog 14 #[] w fun e w' => ExE w samE2 e w' := by
  obtain ⟨q0, q1, q2, q3⟩ := blk_fourM w (.cells #[.int .i64 9, .string ⟨#[120]⟩, .slice none 0 0, .slice (some ⟨w.heap.size + 1 + 1 + 1, 0, none⟩) 1 1] 29 (0, 0)) (.cells #[.string ⟨#[120]⟩, .slice none 0 0, .string ⟨#[121]⟩, .slice none 0 0] 69 (0, 0)) (.cells #[.int .i64 2, .string ⟨#[]⟩, .slice (some ⟨w.heap.size + 1, 0, none⟩) 2 2, .slice none 0 0] 29 (0, 0)) (.cells #[.int .i64 9, .string ⟨#[121]⟩, .slice none 0 0, .slice (some ⟨w.heap.size + 1 + 1, 0, none⟩) 1 1] 29 (0, 0)); have hb : Below w.heap.size w ((((w.alloc (.cells #[.int .i64 9, .string ⟨#[120]⟩, .slice none 0 0, .slice (some ⟨w.heap.size + 1 + 1 + 1, 0, none⟩) 1 1] 29 (0, 0))).alloc (.cells #[.string ⟨#[120]⟩, .slice none 0 0, .string ⟨#[121]⟩, .slice none 0 0] 69 (0, 0))).alloc (.cells #[.int .i64 2, .string ⟨#[]⟩, .slice (some ⟨w.heap.size + 1, 0, none⟩) 2 2, .slice none 0 0] 29 (0, 0))).alloc (.cells #[.int .i64 9, .string ⟨#[121]⟩, .slice none 0 0, .slice (some ⟨w.heap.size + 1 + 1, 0, none⟩) 1 1] 29 (0, 0))) := below_more (below_more (below_more (below_more (Below.refl _ _) _) _) _) _; obtain ⟨W, hW⟩ : ∃ W, ((((w.alloc (.cells #[.int .i64 9, .string ⟨#[120]⟩, .slice none 0 0, .slice (some ⟨w.heap.size + 1 + 1 + 1, 0, none⟩) 1 1] 29 (0, 0))).alloc (.cells #[.string ⟨#[120]⟩, .slice none 0 0, .string ⟨#[121]⟩, .slice none 0 0] 69 (0, 0))).alloc (.cells #[.int .i64 2, .string ⟨#[]⟩, .slice (some ⟨w.heap.size + 1, 0, none⟩) 2 2, .slice none 0 0] 29 (0, 0))).alloc (.cells #[.int .i64 9, .string ⟨#[121]⟩, .slice none 0 0, .slice (some ⟨w.heap.size + 1 + 1, 0, none⟩) 1 1] 29 (0, 0))) = W := ⟨_, rfl⟩; have HWe : Hid (_ = W) := hW; rw [hW] at q0 q1 q2 q3 hb; obtain ⟨o0, o1, o2, o3⟩ := cells4 q0; obtain ⟨x0, x1, x2, x3⟩ := cells4 q1; obtain ⟨y0, y1, y2, y3⟩ := cells4 q2; obtain ⟨z0, z1, z2, z3⟩ := cells4 q3; (have wd : ∀ n : ByteArray, n.size ≤ maxLen → WRp W (.mk n []) (.agg #[.string n, .slice none 0 0]) := fun n hn => WRp.def.2 ⟨none, 0, rfl, hn, Nat.le_refl _, by decide, fun h => absurd rfl h⟩)
  have HR : Hid (ERp W samE2 (.agg #[.int .i64 9, .string ⟨#[120]⟩, .slice none 0 0, .slice (some ⟨w.heap.size + 1 + 1 + 1, 0, none⟩) 1 1])) := by
    show ERp _ _ _
    have h2 : ERp W (.mk 2 ⟨#[]⟩ [.mk ⟨#[120]⟩ [], .mk ⟨#[121]⟩ []] []) (.agg #[.int .i64 2, .string ⟨#[]⟩, .slice (some ⟨w.heap.size + 1, 0, none⟩) 2 2, .slice none 0 0]) := by
      (refine ERp.def.2 ⟨_, _, none, 0, rfl, by decide, ⟨_, _, rfl, Nat.le_refl _, by decide, fun _ => ⟨_, _, rfl, WRps.cons.2 ⟨⟨_, _, x0, x1, wd _ (by decide)⟩, WRps.cons.2 ⟨⟨_, _, x2, x3, wd _ (by decide)⟩, WRps.nil⟩⟩⟩⟩, Nat.le_refl _, by decide, fun h => absurd rfl h⟩)
    have h1 : ERp W (.mk 9 ⟨#[121]⟩ [] [.mk 2 ⟨#[]⟩ [.mk ⟨#[120]⟩ [], .mk ⟨#[121]⟩ []] []]) (.agg #[.int .i64 9, .string ⟨#[121]⟩, .slice none 0 0, .slice (some ⟨w.heap.size + 1 + 1, 0, none⟩) 1 1]) :=
      ERp.def.2 ⟨none, 0, _, _, rfl, by decide, ⟨_, _, rfl, Nat.le_refl _, by decide, fun h => absurd rfl h⟩, Nat.le_refl _, by decide, fun _ => ⟨_, _, rfl, ERps.cons.2 ⟨⟨_, _, _, _, y0, y1, y2, y3, h2⟩, ERps.nil⟩⟩⟩
    (exact ERp.def.2 ⟨none, 0, _, _, rfl, by decide, ⟨_, _, rfl, Nat.le_refl _, by decide, fun h => absurd rfl h⟩, Nat.le_refl _, by decide, fun _ => ⟨_, _, rfl, ERps.cons.2 ⟨⟨_, _, _, _, z0, z1, z2, z3, h1⟩, ERps.nil⟩⟩⟩)
  have HB : Hid (Below w.heap.size w W) := hb; clear q0 q1 q2 q3 hb x0 x1 x2 x3 y0 y1 y2 y3 z0 z1 z2 z3 wd hW
  go_enter Try.func14, Try.ntmps14
  go_wp2_with fail; rw [HWe.out]; (exact bodyPost_ret (v := .agg #[.int .i64 9, .string ⟨#[120]⟩, .slice none 0 0, .slice (some ⟨w.heap.size + 1 + 1 + 1, 0, none⟩) 1 1]) (by simp [results, Try.results14, go_sem, o0, o1, o2, o3]) rfl ⟨_, rfl, HR.out, HB.out⟩)
end Go.Proofs.Ytblodnpfckflaak
/- Walks: meaningBegun. -/
namespace Go.Proofs.Ytblodnpfckflaak
open Go.RowKit Go.Sort

theorem begun1 : vlE ⟨1, [], []⟩ samE2 [] [] = .tuple #[.bool true, .agg #[.int .i64 0, .int .i64 0]] := by
  (have h1 : vlcode ⟨1, [], []⟩ samE2 [] [] = (0, 0) := by decide +kernel); (have h2 : vlB ⟨1, [], []⟩ samE2 [] [] = true := by decide +kernel); unfold vlE; rw [h1, h2]
theorem begun2 : vlE ⟨2, [], []⟩ samE2 [] [] = .tuple #[.bool false, .agg #[.int .i64 0, .int .i64 0]] := by
  (have h1 : vlcode ⟨2, [], []⟩ samE2 [] [] = (0, 0) := by decide +kernel); (have h2 : vlB ⟨2, [], []⟩ samE2 [] [] = false := by decide +kernel); unfold vlE; rw [h1, h2]
theorem StR.bare (w : World) (n : Int) : StR w ⟨n, [], []⟩ (.agg #[.int .i64 n, .slice none 0 0, .slice none 0 0]) :=
  ⟨none, 0, none, 0, rfl, ⟨_, _, rfl, Nat.le_refl _, by decide, fun h => absurd rfl h⟩, ⟨_, _, rfl, Nat.le_refl _, by decide, fun h => absurd rfl h⟩⟩
theorem mval1 (u : Value) (w : World) (h : ERp w samE2 u) : Calls Try.prog 11 #[.agg #[.int .i64 1, .slice none 0 0, .slice none 0 0], u, .slice none 0 0, .slice none 0 0] w fun e w' => e = .returned (.tuple #[.bool true, .agg #[.int .i64 0, .int .i64 0]]) ∧ Below w.heap.size w w' := by
  (have := valueS_any ⟨1, [], []⟩ samE2 [] [] _ u (.slice none 0 0) (.slice none 0 0) w (StR.bare w 1) h ⟨_, _, rfl, Nat.le_refl _, by decide, fun h => absurd rfl h⟩ ⟨_, _, rfl, Nat.le_refl _, by decide, fun h => absurd rfl h⟩ (fun t ht => by simp at ht))
  rwa [begun1] at this
theorem mval2 (u : Value) (w : World) (h : ERp w samE2 u) : Calls Try.prog 11 #[.agg #[.int .i64 2, .slice none 0 0, .slice none 0 0], u, .slice none 0 0, .slice none 0 0] w fun e w' => e = .returned (.tuple #[.bool false, .agg #[.int .i64 0, .int .i64 0]]) ∧ Below w.heap.size w w' := by
  (have := valueS_any ⟨2, [], []⟩ samE2 [] [] _ u (.slice none 0 0) (.slice none 0 0) w (StR.bare w 2) h ⟨_, _, rfl, Nat.le_refl _, by decide, fun h => absurd rfl h⟩ ⟨_, _, rfl, Nat.le_refl _, by decide, fun h => absurd rfl h⟩ (fun t ht => by simp at ht))
  rwa [begun2] at this
set_option maxRecDepth 10000 in
set_option maxHeartbeats 4000000 in
theorem meaningBegun_any (w : World) : Calls Try.prog 5 #[] w fun e w' => e = .returned (.bool true) ∧ Below w.heap.size w w' := by
  go_enter Try.func5, Try.ntmps5
  go_wp2_with fail; refine (sth_any _).mono ?_; rintro _ w1 ⟨u1, rfl, hr1, hb1⟩; have HR1 : Hid (ERp w1 samE2 u1) := hr1; have HB1 : Hid (Below w.heap.size w w1) := hb1; clear hr1 hb1; go_wp2_with fail; refine (mval1 u1 w1 HR1.out).mono ?_; rintro _ w2 ⟨rfl, hb2⟩; have HB2 : Hid (Below w.heap.size w w2) := below_join HB1.out hb2; clear hb2; go_wp2_with fail; obtain ⟨W, hW⟩ : ∃ W, w2.alloc (.cells #[.int .i64 0, .int .i64 0] 39 (0, 0)) = W := ⟨_, rfl⟩; have hq := blk_new w2 (.cells #[.int .i64 0, .int .i64 0] 39 (0, 0)); (have hbW : Below w.heap.size w W := by rw [← hW]; exact HB2.out.alloc HB2.out.size _); rw [hW] at hq ⊢; clear hW; refine (sth_any _).mono ?_; rintro _ w3 ⟨u3, rfl, hr3, hb3⟩; have HR3 : Hid (ERp w3 samE2 u3) := hr3; have HB3 : Hid (Below w.heap.size w w3) := below_join hbW hb3; have HQ3 : Hid (w3.heap[w2.heap.size]? = some (.cells #[.int .i64 0, .int .i64 0] 39 (0, 0))) := below_keep hb3 hq; clear hr3 hb3 hbW hq; go_wp2_with fail; refine (mval2 u3 w3 HR3.out).mono ?_; rintro _ w4 ⟨rfl, hb4⟩; have HB4 : Hid (Below w.heap.size w w4) := below_join HB3.out hb4; have HQ4 : w4.heap[w2.heap.size]? = some (.cells #[.int .i64 0, .int .i64 0] 39 (0, 0)) := below_keep hb4 HQ3.out; have hs := lt_of_block HQ4; have c0 := blk_cell HQ4 0; (have HB5 : Hid (∀ o, Below w.heap.size w (w4.alloc o)) := fun o => HB4.out.alloc HB4.out.size o); clear hb4 HQ4; go_wp2_with fail; go_ret; exact ⟨rfl, HB5.out _⟩
end Go.Proofs.Ytblodnpfckflaak
/- Walks: the closures of MeaningDuals. -/
namespace Go.Proofs.Ytblodnpfckflaak
open Go.RowKit Go.Sort

set_option maxRecDepth 10000 in
set_option maxHeartbeats 4000000 in
theorem dnot_any (x : Ex) (u : Value) (w : World) (h : ERp w x u) : Calls Try.prog 9 #[u] w fun e w' => ExE w (.mk 5 ⟨#[]⟩ [] [x]) e w' := by
  have HE : Hid (ERp w x u) := h; obtain ⟨k, n, ws, ks⟩ := x; obtain ⟨sw, cw, sk, ck, rfl, -⟩ := ERp.def.1 h; obtain ⟨q0, q1, q2⟩ := blk_threeM w (.cells #[.int .i64 k, .string n, .slice sw ws.length cw, .slice sk ks.length ck] 29 (0, 0)) (.cells #[.int .i64 5, .string ⟨#[]⟩, .slice none 0 0, .slice (some ⟨w.heap.size + 1 + 1, 0, none⟩) 1 1] 29 (0, 0)) (.cells #[.int .i64 k, .string n, .slice sw ws.length cw, .slice sk ks.length ck] 29 (0, 0)); have hb : Below w.heap.size w (((w.alloc (.cells #[.int .i64 k, .string n, .slice sw ws.length cw, .slice sk ks.length ck] 29 (0, 0))).alloc (.cells #[.int .i64 5, .string ⟨#[]⟩, .slice none 0 0, .slice (some ⟨w.heap.size + 1 + 1, 0, none⟩) 1 1] 29 (0, 0))).alloc (.cells #[.int .i64 k, .string n, .slice sw ws.length cw, .slice sk ks.length ck] 29 (0, 0))) := below_more (below_more (below_more (Below.refl _ _) _) _) _; obtain ⟨W, hW⟩ : ∃ W, (((w.alloc (.cells #[.int .i64 k, .string n, .slice sw ws.length cw, .slice sk ks.length ck] 29 (0, 0))).alloc (.cells #[.int .i64 5, .string ⟨#[]⟩, .slice none 0 0, .slice (some ⟨w.heap.size + 1 + 1, 0, none⟩) 1 1] 29 (0, 0))).alloc (.cells #[.int .i64 k, .string n, .slice sw ws.length cw, .slice sk ks.length ck] 29 (0, 0))) = W := ⟨_, rfl⟩; have HWe : Hid (_ = W) := hW; rw [hW] at q0 q1 q2 hb; obtain ⟨o0, o1, o2, o3⟩ := cells4 q1; obtain ⟨z0, z1, z2, z3⟩ := cells4 q2
  have HR : Hid (ERp W (.mk 5 ⟨#[]⟩ [] [.mk k n ws ks]) (.agg #[.int .i64 5, .string ⟨#[]⟩, .slice none 0 0, .slice (some ⟨w.heap.size + 1 + 1, 0, none⟩) 1 1])) := by
    show ERp _ _ _; (exact ERp.def.2 ⟨none, 0, _, _, rfl, by decide, ⟨_, _, rfl, Nat.le_refl _, by decide, fun h => absurd rfl h⟩, Nat.le_refl _, by decide, fun _ => ⟨_, _, rfl, ERps.cons.2 ⟨⟨_, _, _, _, z0, z1, z2, z3, ERp.up hb _ _ HE.out⟩, ERps.nil⟩⟩⟩)
  have HB : Hid (Below w.heap.size w W) := hb; clear q0 q1 q2 hb z0 z1 z2 z3 hW h
  go_enter Try.func9, Try.ntmps9
  go_wp2_with fail; rw [HWe.out]; (exact bodyPost_ret (v := .agg #[.int .i64 5, .string ⟨#[]⟩, .slice none 0 0, .slice (some ⟨w.heap.size + 1 + 1, 0, none⟩) 1 1]) (by simp [results, Try.results9, go_sem, o0, o1, o2, o3]) rfl ⟨_, rfl, HR.out, HB.out⟩)
set_option maxRecDepth 10000 in
set_option maxHeartbeats 4000000 in
theorem dquant_any (k' : Int) (nm : ByteArray) (hn : nm.size ≤ maxLen) (g : Nat) (x : Ex) (u : Value) (w : World) (h : ERp w x u) (hg : w.cell? ⟨g, 0, none⟩ = some (.string nm)) : Calls Try.prog 10 #[.int .i64 k', u, .pointer (some ⟨g, 0, none⟩)] w fun e w' => ExE w (.mk k' nm [] [x]) e w' := by
  have HE : Hid (ERp w x u) := h; obtain ⟨k, n, ws, ks⟩ := x; obtain ⟨sw, cw, sk, ck, rfl, -⟩ := ERp.def.1 h; obtain ⟨q0, q1, q2⟩ := blk_threeM w (.cells #[.int .i64 k, .string n, .slice sw ws.length cw, .slice sk ks.length ck] 29 (0, 0)) (.cells #[.int .i64 k', .string nm, .slice none 0 0, .slice (some ⟨w.heap.size + 1 + 1, 0, none⟩) 1 1] 29 (0, 0)) (.cells #[.int .i64 k, .string n, .slice sw ws.length cw, .slice sk ks.length ck] 29 (0, 0)); have hb : Below w.heap.size w (((w.alloc (.cells #[.int .i64 k, .string n, .slice sw ws.length cw, .slice sk ks.length ck] 29 (0, 0))).alloc (.cells #[.int .i64 k', .string nm, .slice none 0 0, .slice (some ⟨w.heap.size + 1 + 1, 0, none⟩) 1 1] 29 (0, 0))).alloc (.cells #[.int .i64 k, .string n, .slice sw ws.length cw, .slice sk ks.length ck] 29 (0, 0))) := below_more (below_more (below_more (Below.refl _ _) _) _) _; obtain ⟨W, hW⟩ : ∃ W, (((w.alloc (.cells #[.int .i64 k, .string n, .slice sw ws.length cw, .slice sk ks.length ck] 29 (0, 0))).alloc (.cells #[.int .i64 k', .string nm, .slice none 0 0, .slice (some ⟨w.heap.size + 1 + 1, 0, none⟩) 1 1] 29 (0, 0))).alloc (.cells #[.int .i64 k, .string n, .slice sw ws.length cw, .slice sk ks.length ck] 29 (0, 0))) = W := ⟨_, rfl⟩; have HWe : Hid (_ = W) := hW; rw [hW] at q0 q1 q2 hb; obtain ⟨o0, o1, o2, o3⟩ := cells4 q1; obtain ⟨z0, z1, z2, z3⟩ := cells4 q2
  have HR : Hid (ERp W (.mk k' nm [] [.mk k n ws ks]) (.agg #[.int .i64 k', .string nm, .slice none 0 0, .slice (some ⟨w.heap.size + 1 + 1, 0, none⟩) 1 1])) := by
    show ERp _ _ _; (exact ERp.def.2 ⟨none, 0, _, _, rfl, hn, ⟨_, _, rfl, Nat.le_refl _, by decide, fun h => absurd rfl h⟩, Nat.le_refl _, by decide, fun _ => ⟨_, _, rfl, ERps.cons.2 ⟨⟨_, _, _, _, z0, z1, z2, z3, ERp.up hb _ _ HE.out⟩, ERps.nil⟩⟩⟩)
  have HB : Hid (Below w.heap.size w W) := hb; have hgl := lt_of_cell hg; clear q0 q1 q2 hb z0 z1 z2 z3 hW h hn
  go_enter Try.func10, Try.ntmps10
  go_wp2_with fail; rw [HWe.out]; (exact bodyPost_ret (v := .agg #[.int .i64 k', .string nm, .slice none 0 0, .slice (some ⟨w.heap.size + 1 + 1, 0, none⟩) 1 1]) (by simp [results, Try.results10, go_sem, o0, o1, o2, o3]) rfl ⟨_, rfl, HR.out, HB.out⟩)
end Go.Proofs.Ytblodnpfckflaak
/- MeaningDuals, plain: the two expressions have the same faults and values. -/
namespace Go.Proofs.Ytblodnpfckflaak
open Go.RowKit Go.Sort

def ShR (d : Nat) : CkR → CkR → Prop
  | .ok s p f, .ok s' p' f' => s' = s + d ∧ p' = p ∧ f' = f
  | .bad _ _, .bad _ _ => True
  | _, _ => False
mutual
theorem wchk_sh : ∀ (x : Wd) (s d : Nat) (p f : PlF), s + d + x.size ≤ 200 → ShR d (wchk x s p f) (wchk x (s + d) p f)
  | .mk n ar, s, d, p, f, h => by
    rw [Wd.size] at h; (rw [wchk, wchk, if_neg (show ¬ s = 200 by omega), if_neg (show ¬ s + d = 200 by omega)]); (have ih := fun f' => wchks_sh ar (s + 1) d p f' (by omega)); (rw [show s + 1 + d = s + d + 1 by omega] at ih)
    cases wnodeF n ar.length with
    | some c => exact trivial
    | none =>
      dsimp only
      split
      · split
        · exact trivial
        · exact ih _
      · exact ih _
theorem wchks_sh : ∀ (l : List Wd) (s d : Nat) (p f : PlF), s + d + Wd.sizes l ≤ 200 → ShR d (wchks l s p f) (wchks l (s + d) p f)
  | [], s, d, p, f, h => by rw [wchks, wchks]; exact ⟨rfl, rfl, rfl⟩
  | x :: xs, s, d, p, f, h => by
    rw [Wd.sizes] at h; (have h1 := wchk_sh x s d p f (by omega)); have h2 := wchk_le x s p f; rw [wchks, wchks]
    rcases e1 : wchk x s p f with ⟨c, a⟩ | ⟨s1, p1, f1⟩ <;> rcases e2 : wchk x (s + d) p f with ⟨c', a'⟩ | ⟨s2, p2, f2⟩ <;> rw [e1, e2] at h1
    · exact trivial
    · exact absurd h1 (fun h => h)
    · exact absurd h1 (fun h => h)
    · obtain ⟨rfl, rfl, rfl⟩ := h1
      (have := (h2 _ _ _ e1 (by omega)).2); (exact wchks_sh xs s1 d p2 f2 (by omega))
end
mutual
theorem echk_sh : ∀ (x : Ex) (s d : Nat) (p f : PlF), s + d + x.size ≤ 200 → ShR d (echk x s p f) (echk x (s + d) p f)
  | .mk k n ws ks, s, d, p, f, h => by
    rw [Ex.size] at h; (rw [echk, echk, if_neg (show ¬ s = 200 by omega), if_neg (show ¬ s + d = 200 by omega)])
    cases enodeF k n ws.length ks.length with
    | some c => exact trivial
    | none =>
      dsimp only
      split
      · exact trivial
      · have h1 := wchks_sh ws (s + 1) d (if k = 1 then plPut p n.data.toList ws.length else p) f (by omega)
        (have h2 := wchks_le ws (s + 1) (if k = 1 then plPut p n.data.toList ws.length else p) f); (rw [show s + 1 + d = s + d + 1 by omega] at h1)
        rcases e1 : wchks ws (s + 1) (if k = 1 then plPut p n.data.toList ws.length else p) f with ⟨c, a⟩ | ⟨s1, p1, f1⟩ <;> rcases e2 : wchks ws (s + d + 1) (if k = 1 then plPut p n.data.toList ws.length else p) f with ⟨c', a'⟩ | ⟨s2, p2, f2⟩ <;> rw [e1, e2] at h1
        · exact trivial
        · exact absurd h1 (fun h => h)
        · exact absurd h1 (fun h => h)
        · obtain ⟨rfl, rfl, rfl⟩ := h1
          (have := (h2 _ _ _ e1 (by omega)).2); (exact echks_sh ks s1 d p2 f2 (by omega))
theorem echks_sh : ∀ (l : List Ex) (s d : Nat) (p f : PlF), s + d + Ex.sizes l ≤ 200 → ShR d (echks l s p f) (echks l (s + d) p f)
  | [], s, d, p, f, h => by rw [echks, echks]; exact ⟨rfl, rfl, rfl⟩
  | x :: xs, s, d, p, f, h => by
    rw [Ex.sizes] at h; (have h1 := echk_sh x s d p f (by omega)); have h2 := echk_le x s p f; rw [echks, echks]
    rcases e1 : echk x s p f with ⟨c, a⟩ | ⟨s1, p1, f1⟩ <;> rcases e2 : echk x (s + d) p f with ⟨c', a'⟩ | ⟨s2, p2, f2⟩ <;> rw [e1, e2] at h1
    · exact trivial
    · exact absurd h1 (fun h => h)
    · exact absurd h1 (fun h => h)
    · obtain ⟨rfl, rfl, rfl⟩ := h1
      (have := (h2 _ _ _ e1 (by omega)).2); (exact echks_sh xs s1 d p2 f2 (by omega))
end
def D1 (nm : ByteArray) (x : Ex) : Ex := .mk 9 nm [] [x]
def D2 (nm : ByteArray) (x : Ex) : Ex := .mk 5 ⟨#[]⟩ [] [.mk 10 nm [] [.mk 5 ⟨#[]⟩ [] [x]]]
theorem echk_un (k : Int) (n : ByteArray) (x : Ex) (s : Nat) (p f : PlF) (hs : s < 200) (hk : k ≠ 1) (hn : enodeF k n 0 1 = none) : echk (.mk k n [] [x]) s p f = echk x (s + 1) p f := by
  (rw [echk, if_neg (by omega)]); (show (match enodeF k n 0 1 with | some c => _ | none => _) = _); rw [hn]
  dsimp only
  (rw [if_neg (fun h => hk h.1), if_neg hk, wchks])
  dsimp only
  rw [echks]
  rcases echk x (s + 1) p f with ⟨c, a⟩ | ⟨s1, p1, f1⟩
  · rfl
  · dsimp only
    rw [echks]
theorem dcode_iff {nm : ByteArray} (hn : isNm nm.data.toList = true) {x : Ex} (hx : x.size ≤ 190) : (ecode (D1 nm x)).1 = 0 ↔ (ecode (D2 nm x)).1 = 0 := by
  (have n1 : enodeF 9 nm 0 1 = none := by unfold enodeF; rw [if_neg (by decide), if_neg (by decide), if_neg (by rw [enameB, if_neg (by decide), if_pos (by decide), hn]; decide)]); (have n2 : enodeF 10 nm 0 1 = none := by unfold enodeF; rw [if_neg (by decide), if_neg (by decide), if_neg (by rw [enameB, if_neg (by decide), if_pos (by decide), hn]; decide)]); (have n3 : enodeF 5 ⟨#[]⟩ 0 1 = none := by decide)
  have e1 : ecode (D1 nm x) = match echk x 1 (fun _ => none) (fun _ => none) with | .ok _ _ _ => (0, 0) | .bad c a => (c, (a : Int)) := by
    unfold ecode D1; (rw [echk_un 9 nm x 0 _ _ (by omega) (by decide) n1]); rfl
  have e2 : ecode (D2 nm x) = match echk x 3 (fun _ => none) (fun _ => none) with | .ok _ _ _ => (0, 0) | .bad c a => (c, (a : Int)) := by
    unfold ecode D2; (rw [echk_un 5 _ _ 0 _ _ (by omega) (by decide) n3, echk_un 10 nm _ 1 _ _ (by omega) (by decide) n2, echk_un 5 _ _ 2 _ _ (by omega) (by decide) n3]); rfl
  (have hs := echk_sh x 1 2 (fun _ => none) (fun _ => none) (by omega)); rw [e1, e2]
  rcases h1 : echk x 1 (fun _ => none) (fun _ => none) with ⟨c, a⟩ | ⟨s1, p1, f1⟩ <;> rcases h2 : echk x (1 + 2) (fun _ => none) (fun _ => none) with ⟨c', a'⟩ | ⟨s2, p2, f2⟩ <;> rw [h1, h2] at hs
  · have k1 := echk_code _ _ _ _ _ _ h1
    have k2 := echk_code _ _ _ _ _ _ h2; (exact ⟨fun h => absurd h k1, fun h => absurd h k2⟩)
  · exact absurd hs (fun h => h)
  · exact absurd hs (fun h => h)
theorem prE_D1 (nm : ByteArray) (x : Ex) : prE [] (D1 nm x) = (D1 nm x, []) :: prE [nm.data.toList] x := by
  rw [D1, prE, prEs, prEs, List.append_nil]; rfl
theorem prE_D2 (nm : ByteArray) (x : Ex) : prE [] (D2 nm x) = (D2 nm x, []) :: (.mk 10 nm [] [.mk 5 ⟨#[]⟩ [] [x]], []) :: (.mk 5 ⟨#[]⟩ [] [x], [nm.data.toList]) :: prE [nm.data.toList] x := by
  rw [D2, prE, prEs, prEs, List.append_nil, prE, prEs, prEs, List.append_nil, prE, prEs, prEs, List.append_nil]; rfl
theorem fvs_D (nm : ByteArray) (x : Ex) : fvs (D2 nm x) = fvs (D1 nm x) := by
  unfold fvs; rw [prE_D1, prE_D2]; rfl
theorem bg_D (nm : ByteArray) (x : Ex) : bgEl (prE [] (D2 nm x)) = bgEl (prE [] (D1 nm x)) := by
  rw [prE_D1, prE_D2]; rfl
theorem nest_D (nm : ByteArray) (x : Ex) : nestN (D2 nm x) = nestN (D1 nm x) := by
  unfold nestN; rw [prE_D1, prE_D2]; obtain ⟨k, n, ws, ks⟩ := x; rw [prE]; simp only [mxB, List.length_cons, List.length_nil]; omega
theorem ev_D (V : VwD) (nm : ByteArray) (x : Ex) (va : List UInt8 → Nat) : ev V (D2 nm x) va = ev V (D1 nm x) va := by
  rw [D1, D2, ev, ev, evs, evs, evs, evs, ev, evs, evs, ev, evs, evs]; rfl
theorem vl_zero {s : StD} {x : Ex} {names : List (List UInt8)} {vals : List Int} (h : (vlcode s x names vals).1 = 0) : vlcode s x names vals = (0, 0) ∧ (stcode s).1 = 0 ∧ (ecode x).1 = 0 ∧ (vfcode s.n.toNat names vals).1 = 0 ∧ vlHas s x (names.zip vals) = true ∧ vlMuch s x = false := by
  unfold vlcode at h ⊢
  split at h
  · contradiction
  rename_i h1
  split at h
  · contradiction
  rename_i h2
  split at h
  · contradiction
  rename_i h3
  split at h
  · exact absurd h (by decide)
  rename_i h4
  split at h
  · exact absurd h (by decide)
  rename_i h5
  rw [if_neg h1, if_neg h2, if_neg h3, if_neg h4, if_neg h5]; (exact ⟨rfl, by simpa using h1, by simpa using h2, by simpa using h3, by simpa using h4, by simpa using h5⟩)
theorem vl_of {s : StD} {x : Ex} {names : List (List UInt8)} {vals : List Int} (h1 : (stcode s).1 = 0) (h2 : (ecode x).1 = 0) (h3 : (vfcode s.n.toNat names vals).1 = 0) (h4 : vlHas s x (names.zip vals) = true) (h5 : vlMuch s x = false) : vlcode s x names vals = (0, 0) := by
  unfold vlcode; (rw [if_neg (by simp [h1]), if_neg (by simp [h2]), if_neg (by simp [h3]), if_neg (by simp [h4]), if_neg (by simp [h5])])
theorem duals_plain (s : StD) {nm : ByteArray} (hn : isNm nm.data.toList = true) {x : Ex} (hx : x.size ≤ 190) (names : List (List UInt8)) (vals : List Int) :
    (vlcode s (D1 nm x) names vals = (0, 0) ∧ vlcode s (D2 nm x) names vals = (0, 0) ∧ vlB s (D1 nm x) names vals = vlB s (D2 nm x) names vals) ∨ ((vlcode s (D1 nm x) names vals).1 ≠ 0 ∧ (vlcode s (D2 nm x) names vals).1 ≠ 0) := by
  (have hH : vlHas s (D2 nm x) (names.zip vals) = vlHas s (D1 nm x) (names.zip vals) := by unfold vlHas; rw [bg_D, fvs_D]); (have hM : vlMuch s (D2 nm x) = vlMuch s (D1 nm x) := by unfold vlMuch; rw [nest_D]); have hI := dcode_iff hn hx; by_cases h : (vlcode s (D1 nm x) names vals).1 = 0
  · obtain ⟨e, a1, a2, a3, a4, a5⟩ := vl_zero h
    have e2 := vl_of a1 (hI.1 a2) a3 (hH.trans a4) (hM.trans a5); refine Or.inl ⟨e, e2, ?_⟩; unfold vlB; rw [e, e2, if_pos rfl, if_pos rfl, ev_D]
  · refine Or.inr ⟨h, fun h2 => h ?_⟩
    obtain ⟨e, a1, a2, a3, a4, a5⟩ := vl_zero h2; rw [vl_of a1 (hI.2 a2) a3 (hH.symm.trans a4) (hM.symm.trans a5)]
end Go.Proofs.Ytblodnpfckflaak
/- The law MeaningDuals, walked. (gen/sp8.py) -/
namespace Go.Proofs.Ytblodnpfckflaak
open Go.RowKit Go.Sort

def kER (x : Ex) : Value → World → Prop := fun v w => ERp w x v
theorem kER_stays (x : Ex) : Stays (kER x) := fun _ _ _ h hb => ERp.up hb _ _ h
theorem duals_abs (s : StD) {nm : ByteArray} (hn : isNm nm.data.toList = true) {x : Ex} (hx : x.size ≤ 190) (names : List (List UInt8)) (vals : List Int) (nv xv : Value) (hlen : ∀ t ∈ names, t.length ≤ maxLen) :
    ∃ (c1 d1 : Int) (B1 : Bool) (c2 d2 : Int) (B2 : Bool), (∀ v u W, StR W s v → ERp W (D1 nm x) u → SL W nv names → IL W xv vals → Calls Try.prog 11 #[v, u, nv, xv] W fun e w' => e = .returned (.tuple #[.bool B1, .agg #[.int .i64 c1, .int .i64 d1]]) ∧ Below W.heap.size W w') ∧
      (∀ v u W, StR W s v → ERp W (D2 nm x) u → SL W nv names → IL W xv vals → Calls Try.prog 11 #[v, u, nv, xv] W fun e w' => e = .returned (.tuple #[.bool B2, .agg #[.int .i64 c2, .int .i64 d2]]) ∧ Below W.heap.size W w') ∧
      ((c1 = 0 ∧ d1 = 0 ∧ c2 = 0 ∧ d2 = 0 ∧ B1 = B2) ∨ (c1 ≠ 0 ∧ c2 ≠ 0)) := by
  (refine ⟨_, _, _, _, _, _, fun v u W h1 h2 h3 h4 => valueS_any s (D1 nm x) names vals v u nv xv W h1 h2 h3 h4 hlen, fun v u W h1 h2 h3 h4 => valueS_any s (D2 nm x) names vals v u nv xv W h1 h2 h3 h4 hlen, ?_⟩)
  rcases duals_plain s hn hx names vals with ⟨h1, h2, h3⟩ | h
  · rw [h1, h2]
    exact Or.inl ⟨rfl, rfl, rfl, rfl, h3⟩
  · exact Or.inr h
theorem rowS10 (l : List Value) (h0 : l.length = 10) : ∃ x0 x1 x2 x3 x4 x5 x6 x7 x8 x9, l = [x0, x1, x2, x3, x4, x5, x6, x7, x8, x9] := by
  obtain ⟨x0, l1, e0, h1⟩ := cons_lenM h0; obtain ⟨x1, l2, e1, h2⟩ := cons_lenM h1; obtain ⟨x2, l3, e2, h3⟩ := cons_lenM h2; obtain ⟨x3, l4, e3, h4⟩ := cons_lenM h3; obtain ⟨x4, l5, e4, h5⟩ := cons_lenM h4; obtain ⟨x5, l6, e5, h6⟩ := cons_lenM h5; obtain ⟨x6, l7, e6, h7⟩ := cons_lenM h6; obtain ⟨x7, l8, e7, h8⟩ := cons_lenM h7; obtain ⟨x8, l9, e8, h9⟩ := cons_lenM h8; obtain ⟨x9, l10, e9, h10⟩ := cons_lenM h9; have e10 : l10 = [] := List.length_eq_zero_iff.1 h10; subst e10 e9 e8 e7 e6 e5 e4 e3 e2 e1 e0; exact ⟨x0, x1, x2, x3, x4, x5, x6, x7, x8, x9, rfl⟩
theorem rowS14 (l : List Value) (h0 : l.length = 14) : ∃ x0 x1 x2 x3 x4 x5 x6 x7 x8 x9 x10 x11 x12 x13, l = [x0, x1, x2, x3, x4, x5, x6, x7, x8, x9, x10, x11, x12, x13] := by
  obtain ⟨x0, l1, e0, h1⟩ := cons_lenM h0; obtain ⟨x1, l2, e1, h2⟩ := cons_lenM h1; obtain ⟨x2, l3, e2, h3⟩ := cons_lenM h2; obtain ⟨x3, l4, e3, h4⟩ := cons_lenM h3; obtain ⟨x4, l5, e4, h5⟩ := cons_lenM h4; obtain ⟨x5, l6, e5, h6⟩ := cons_lenM h5; obtain ⟨x6, l7, e6, h7⟩ := cons_lenM h6; obtain ⟨x7, l8, e7, h8⟩ := cons_lenM h7; obtain ⟨x8, l9, e8, h9⟩ := cons_lenM h8; obtain ⟨x9, l10, e9, h10⟩ := cons_lenM h9; obtain ⟨x10, l11, e10, h11⟩ := cons_lenM h10; obtain ⟨x11, l12, e11, h12⟩ := cons_lenM h11; obtain ⟨x12, l13, e12, h13⟩ := cons_lenM h12; obtain ⟨x13, l14, e13, h14⟩ := cons_lenM h13; have e14 : l14 = [] := List.length_eq_zero_iff.1 h14; subst e14 e13 e12 e11 e10 e9 e8 e7 e6 e5 e4 e3 e2 e1 e0; exact ⟨x0, x1, x2, x3, x4, x5, x6, x7, x8, x9, x10, x11, x12, x13, rfl⟩
set_option maxRecDepth 10000 in
set_option maxHeartbeats 8000000 in
theorem duals_lawM (s : StD) (x : Ex) (nm : ByteArray) (names : List (List UInt8)) (vals : List Int) (v u nv xv : Value) (w : World) (hS : StR w s v) (hE : ERp w x u) (hn : nm.size ≤ maxLen) (hN : SL w nv names) (hV : IL w xv vals) (hlen : ∀ t ∈ names, t.length ≤ maxLen) :
    Calls Try.prog 3 #[v, u, .string nm, nv, xv] w fun e w' => e = .returned (.bool true) ∧ Below w.heap.size w w' := by
  (have HVe : Hid (∀ v W, ERp W x v → Calls Try.prog 6 #[v, .int .i64 0] W _) := fun v W h => vastExpr_any x v W h); (have HCo : Hid (∀ v W, ERp W x v → Calls Try.prog 7 #[v] W _) := fun v W h => count_any x v W h); (have HNa : Hid (∀ W, Calls Try.prog 8 #[.string nm] W _) := fun W => refName_any nm hn W); (have HAb : Hid (isNm nm.data.toList = true → x.size ≤ 190 → _) := fun a b => duals_abs s a b names vals nv xv hlen); have HNm : Hid (nm.size ≤ maxLen) := hn; have HRs : Hid (StR w s v) := hS; have HRe : Hid (ERp w x u) := hE; have HRn : Hid (SL w nv names) := hN; have HRv : Hid (IL w xv vals) := hV; obtain ⟨af, cf, ap, cp, rfl, -⟩ := hS; obtain ⟨k, n, ws, ks⟩ := x; obtain ⟨sw, cw, sk, ck, rfl, -⟩ := ERp.def.1 hE; obtain ⟨an, cn, rfl, -⟩ := hN; obtain ⟨av, cv, rfl, -⟩ := hV; obtain ⟨W, hW⟩ : ∃ W, W = ((w.alloc (.cells #[.int .i64 s.n, .slice af s.funs.length cf, .slice ap s.preds.length cp] 25 (0, 0))).alloc (.cells #[.int .i64 k, .string n, .slice sw ws.length cw, .slice sk ks.length ck] 29 (0, 0))).alloc (.cells #[.string nm] 9 (0, 0)) := ⟨_, rfl⟩; (have HB0 : Hid (Below w.heap.size w W) := by rw [hW]; exact below_more (below_more (below_more (Below.refl _ w) _) _) _); obtain ⟨p1, p2, p3⟩ := blk_threeM w (.cells #[.int .i64 s.n, .slice af s.funs.length cf, .slice ap s.preds.length cp] 25 (0, 0)) (.cells #[.int .i64 k, .string n, .slice sw ws.length cw, .slice sk ks.length ck] 29 (0, 0)) (.cells #[.string nm] 9 (0, 0)); rw [← hW] at p1 p2 p3; have HM0 : Hid (W.heap[w.heap.size]? = some (.cells #[.int .i64 s.n, .slice af s.funs.length cf, .slice ap s.preds.length cp] 25 (0, 0))) := p1; have HF0 : Hid (W.heap[w.heap.size + 1]? = some (.cells #[.int .i64 k, .string n, .slice sw ws.length cw, .slice sk ks.length ck] 29 (0, 0))) := p2; have HG0 : Hid (W.heap[w.heap.size + 1 + 1]? = some (.cells #[.string nm] 9 (0, 0))) := p3; clear p1 p2 p3 hE hn hlen
  go_enter Try.func3, Try.ntmps3
  go_wp2_with fail; rw [← hW]; refine (meaningBegun_any _).mono ?_; rintro _ w1 ⟨rfl, hb1⟩; have HBa : Hid (Below w.heap.size w w1) := below_join HB0.out hb1; have HMa : Hid (w1.heap[w.heap.size]? = some (.cells #[.int .i64 s.n, .slice af s.funs.length cf, .slice ap s.preds.length cp] 25 (0, 0))) := below_keep hb1 HM0.out; have HFa : Hid (w1.heap[w.heap.size + 1]? = some (.cells #[.int .i64 k, .string n, .slice sw ws.length cw, .slice sk ks.length ck] 29 (0, 0))) := below_keep hb1 HF0.out; have HGa : Hid (w1.heap[w.heap.size + 1 + 1]? = some (.cells #[.string nm] 9 (0, 0))) := below_keep hb1 HG0.out; clear HB0 HM0 HF0 HG0; clear hb1 hW; obtain ⟨a0, a1, a2, a3⟩ := blk4L HFa.out; go_wp2_with fail; refine (HVe.out _ _ (ERp.up HBa.out _ _ HRe.out)).mono ?_; rintro _ w2 ⟨hA, hb2⟩; obtain ⟨bb, rfl⟩ := hA.get; have HBb : Hid (Below w.heap.size w w2) := below_join HBa.out hb2; have HMb : Hid (w2.heap[w.heap.size]? = some (.cells #[.int .i64 s.n, .slice af s.funs.length cf, .slice ap s.preds.length cp] 25 (0, 0))) := below_keep hb2 HMa.out; have HFb : Hid (w2.heap[w.heap.size + 1]? = some (.cells #[.int .i64 k, .string n, .slice sw ws.length cw, .slice sk ks.length ck] 29 (0, 0))) := below_keep hb2 HFa.out; have HGb : Hid (w2.heap[w.heap.size + 1 + 1]? = some (.cells #[.string nm] 9 (0, 0))) := below_keep hb2 HGa.out; clear HBa HMa HFa HGa; clear hb2 HVe a0 a1 a2 a3 hA; obtain ⟨a0, a1, a2, a3⟩ := blk4L HFb.out
  cases bb
  case true =>
    go_wp2_with fail; go_ret; exact ⟨rfl, HBb.out⟩
  go_wp2_with fail; refine (HCo.out _ _ (ERp.up HBb.out _ _ HRe.out)).mono ?_; rintro _ w3 ⟨N, HN, rfl, hb3⟩; have HBc : Hid (Below w.heap.size w w3) := below_join HBb.out hb3; have HMc : Hid (w3.heap[w.heap.size]? = some (.cells #[.int .i64 s.n, .slice af s.funs.length cf, .slice ap s.preds.length cp] 25 (0, 0))) := below_keep hb3 HMb.out; have HFc : Hid (w3.heap[w.heap.size + 1]? = some (.cells #[.int .i64 k, .string n, .slice sw ws.length cw, .slice sk ks.length ck] 29 (0, 0))) := below_keep hb3 HFb.out; have HGc : Hid (w3.heap[w.heap.size + 1 + 1]? = some (.cells #[.string nm] 9 (0, 0))) := below_keep hb3 HGb.out; clear HBb HMb HFb HGb; clear hb3 HCo a0 a1 a2 a3; obtain ⟨a0, -⟩ := blk1 HGc.out; by_cases hI : (190 : Int) < (N : Int)
  case pos =>
    go_wp2_with fail; go_ret; exact ⟨rfl, HBc.out⟩
  (have HSz : Hid ((Ex.mk k n ws ks).size ≤ 190) := by show _ ≤ _; have := HN.out; omega); (have hI2 : decide ((190 : Int) < (N : Int)) = false := by rw [decide_eq_false_iff_not]; omega); go_wp2_with fail; refine (HNa.out _).mono ?_; rintro _ w4 ⟨rfl, h4⟩; obtain rfl : w3 = w4 := h4.symm; generalize hq : isNm nm.data.toList = q at *
  cases q
  case false =>
    go_wp2_with fail; go_ret; exact ⟨rfl, HBc.out⟩
  obtain ⟨c1, d1, B1, c2, d2, B2, h1, h2, h3⟩ := HAb.out rfl HSz.out; have HV1 : Hid _ := h1; have HV2 : Hid _ := h2; have HPl : Hid _ := h3; clear h1 h2 h3; clear HAb HNa hq h4 hI hI2 HN HSz a0; go_wp2_with fail; (refine wp_region_last (by kernel_rfl) [fun v _ => v = (.agg #[.int .i64 s.n, .slice af s.funs.length cf, .slice ap s.preds.length cp]), fun v _ => v = (.func (.func 10) #[] #[.pointer (some ⟨w.heap.size + 1 + 1, 0, none⟩)]), fun v _ => v = (.agg #[.int .i64 k, .string n, .slice sw ws.length cw, .slice sk ks.length ck]), kER (D1 nm (.mk k n ws ks)), fun v _ => v = (.slice an names.length cn), fun v _ => v = (.slice av vals.length cv), fun v _ => v = (.tuple #[.bool B1, .agg #[.int .i64 c1, .int .i64 d1]]), fun v _ => v = (.tuple #[.bool B1, .agg #[.int .i64 c1, .int .i64 d1]]), fun v _ => v = (.bool B1), fun v _ => v = (.agg #[.int .i64 c1, .int .i64 d1]), kNf (w3.heap.size), fun v _ => v = (.bool B1)] ?_ (by kernel_rfl) (by kernel_rfl) 74 rfl (by kernel_rfl) 12 _ rfl rfl (by kernel_rfl) ?_ ?_)
  · intro p hp
    simp only [List.mem_cons, List.not_mem_nil, or_false] at hp
    rcases hp with rfl | rfl | rfl | rfl | rfl | rfl | rfl | rfl | rfl | rfl | rfl | rfl
    · exact fun _ _ _ h _ => h
    · exact fun _ _ _ h _ => h
    · exact fun _ _ _ h _ => h
    · exact kER_stays _
    · exact fun _ _ _ h _ => h
    · exact fun _ _ _ h _ => h
    · exact fun _ _ _ h _ => h
    · exact fun _ _ _ h _ => h
    · exact fun _ _ _ h _ => h
    · exact fun _ _ _ h _ => h
    · exact kNf_stays _
    · exact fun _ _ _ h _ => h
  · refine ⟨?_, ?_, ?_, ?_, ?_, ?_, ?_, ?_, ?_, ?_, ?_, ?_, trivial⟩
    · intro a wx hB hold hdep K hK
      have t5 : a.tmps[5]? = some (.pointer (some ⟨w.heap.size, 0, none⟩)) := hold.2.2 5 rfl; obtain ⟨k0, k1, k2, -⟩ := blk3 (below_keep hB HMc.out); clear hold hdep; go_simp; exact hK.out _ _ rfl (Below.refl _ _)
    · intro a wx hB hold hdep K hK
      have t12 : a.tmps[12]? = some (.func (.func 10) #[] #[.pointer (some ⟨w.heap.size + 1 + 1, 0, none⟩)]) := hold.2.2 12 rfl; clear hold hdep; go_simp; exact hK.out _ _ rfl (Below.refl _ _)
    · intro a wx hB hold hdep K hK
      have t6 : a.tmps[6]? = some (.pointer (some ⟨w.heap.size + 1, 0, none⟩)) := hold.2.2 6 rfl; obtain ⟨k0, k1, k2, k3⟩ := blk4L (below_keep hB HFc.out); clear hold hdep; go_simp; exact hK.out _ _ rfl (Below.refl _ _)
    · intro a wx hB hold hdep K hK
      obtain ⟨v34, t34, p34⟩ := hdep 1 rfl _ 34 rfl rfl; have e34 : v34 = (.func (.func 10) #[] #[.pointer (some ⟨w.heap.size + 1 + 1, 0, none⟩)]) := p34; subst e34; obtain ⟨v35, t35, p35⟩ := hdep 2 rfl _ 35 rfl rfl; have e35 : v35 = (.agg #[.int .i64 k, .string n, .slice sw ws.length cw, .slice sk ks.length ck]) := p35; subst e35; have HW : Hid (Calls Try.prog 10 #[.int .i64 9, (.agg #[.int .i64 k, .string n, .slice sw ws.length cw, .slice sk ks.length ck]), .pointer (some ⟨w.heap.size + 1 + 1, 0, none⟩)] wx _) := dquant_any 9 nm HNm.out _ (.mk k n ws ks) _ wx (ERp.up hB _ _ (ERp.up HBc.out _ _ HRe.out)) (blk_cell (below_keep hB HGc.out) 0); clear hold hdep; go_simp; refine HW.out.mono ?_; rintro _ w9 ⟨x9, rfl, hr9, hb9⟩; have H9 : Hid (ERp w9 (D1 nm (.mk k n ws ks)) x9) := hr9; clear hr9; go_simp; exact hK.out _ _ H9.out hb9
    · intro a wx hB hold hdep K hK
      have t3 : a.tmps[3]? = some (.slice an names.length cn) := hold.2.2 3 rfl; clear hold hdep; go_simp; exact hK.out _ _ rfl (Below.refl _ _)
    · intro a wx hB hold hdep K hK
      have t4 : a.tmps[4]? = some (.slice av vals.length cv) := hold.2.2 4 rfl; clear hold hdep; go_simp; exact hK.out _ _ rfl (Below.refl _ _)
    · intro a wx hB hold hdep K hK
      obtain ⟨v33, t33, p33⟩ := hdep 0 rfl _ 33 rfl rfl; have e33 : v33 = (.agg #[.int .i64 s.n, .slice af s.funs.length cf, .slice ap s.preds.length cp]) := p33; subst e33; obtain ⟨v36, t36, p36⟩ := hdep 3 rfl _ 36 rfl rfl; have P36 : Hid ((kER (D1 nm (.mk k n ws ks))) v36 wx) := p36; clear p36; obtain ⟨v37, t37, p37⟩ := hdep 4 rfl _ 37 rfl rfl; have e37 : v37 = (.slice an names.length cn) := p37; subst e37; obtain ⟨v38, t38, p38⟩ := hdep 5 rfl _ 38 rfl rfl; have e38 : v38 = (.slice av vals.length cv) := p38; subst e38; have HW : Hid (Calls Try.prog 11 #[(.agg #[.int .i64 s.n, .slice af s.funs.length cf, .slice ap s.preds.length cp]), v36, (.slice an names.length cn), (.slice av vals.length cv)] wx _) := HV1.out _ v36 wx ((HRs.out.up HBc.out).up hB) P36.out ((HRn.out.up HBc.out).up hB) ((HRv.out.up HBc.out).up hB); clear hold hdep; go_simp; refine HW.out.mono ?_; rintro _ w9 ⟨rfl, hb9⟩; go_simp; exact hK.out _ _ rfl hb9
    · intro a wx hB hold hdep K hK
      obtain ⟨v39, t39, p39⟩ := hdep 6 rfl _ 39 rfl rfl; have e39 : v39 = (.tuple #[.bool B1, .agg #[.int .i64 c1, .int .i64 d1]]) := p39; subst e39; clear hold hdep; go_simp; exact hK.out _ _ rfl (Below.refl _ _)
    · intro a wx hB hold hdep K hK
      obtain ⟨v32, t32, p32⟩ := hdep 7 rfl _ 32 rfl rfl; have e32 : v32 = (.tuple #[.bool B1, .agg #[.int .i64 c1, .int .i64 d1]]) := p32; subst e32; clear hold hdep; go_simp; exact hK.out _ _ rfl (Below.refl _ _)
    · intro a wx hB hold hdep K hK
      obtain ⟨v32, t32, p32⟩ := hdep 7 rfl _ 32 rfl rfl; have e32 : v32 = (.tuple #[.bool B1, .agg #[.int .i64 c1, .int .i64 d1]]) := p32; subst e32; clear hold hdep; go_simp; exact hK.out _ _ rfl (Below.refl _ _)
    · intro a wx hB hold hdep K hK
      have HA : Hid (w3.heap.size ≤ wx.heap.size) := hB.size; clear hold hdep; go_simp; exact hK.out _ _ ⟨_, rfl, HA.out, blk_new _ _⟩ (below_more (Below.refl _ _) _)
    · intro a wx hB hold hdep K hK
      obtain ⟨v40, t40, p40⟩ := hdep 8 rfl _ 40 rfl rfl; have e40 : v40 = (.bool B1) := p40; subst e40; clear hold hdep; go_simp; exact hK.out _ _ rfl (Below.refl _ _)
  · intro a wx hB hold hgot K hK
    (obtain ⟨vX, tX, pX⟩ := hgot 11 _ 13 (by omega) rfl rfl); have eX : vX = (.bool B1) := pX; subst eX; (obtain ⟨vP, tP, pP⟩ := hgot 10 _ 14 (by omega) rfl rfl); obtain ⟨b7, rfl, hbA, hbz⟩ := pP; (obtain ⟨vE, tE, pE⟩ := hgot 9 _ 41 (by omega) rfl rfl); have eE : vE = (.agg #[.int .i64 c1, .int .i64 d1]) := pE; subst eE; have HbA : Hid (w3.heap.size ≤ b7) := hbA; have HbZ : Hid (wx.heap[b7]? = some (.cells #[.int .i64 0, .int .i64 0] 39 (0, 0))) := hbz; have HBx : Hid (Below w3.heap.size w3 wx) := hB; obtain ⟨z0, z1, z2, z3⟩ := blk2 HbZ.out; obtain ⟨tm, df⟩ := a; (obtain ⟨ys, zs, hys, hzs, htm, rfl⟩ := frame_two 13 2 17 10 15 32 42 rfl rfl rfl (by kernel_rfl) (Nat.le_of_ble_eq_true rfl) hold); obtain ⟨y13, y14, rfl⟩ := rowE2 ys hys; obtain ⟨y32, y33, y34, y35, y36, y37, y38, y39, y40, y41, rfl⟩ := rowS10 zs hzs; simp only [List.take_succ_cons, List.take_zero, List.drop_succ_cons, List.drop_zero, List.cons_append, List.nil_append] at htm; subst htm; obtain rfl : y13 = _ := someInjM tX; obtain rfl : y14 = _ := someInjM tP; obtain rfl : y41 = _ := someInjM tE; clear hys hzs; clear hold hgot tX tP tE pE pX hbA hbz hB; go_simp; refine hK.out _ _ ?_; clear hK z0 z1 z2 z3; obtain ⟨W7, hF⟩ : ∃ F, F = (wx.setCell ⟨b7, 0, none⟩ (.int .i64 c1)).setCell ⟨b7, 1, none⟩ (.int .i64 d1) := ⟨_, rfl⟩; (have HW7 : Hid (Below w3.heap.size w3 W7) := by rw [hF]; exact (HBx.out.setCell (p := ⟨b7, 0, none⟩) HbA.out _).setCell (p := ⟨b7, 1, none⟩) HbA.out _); (have HE7 : Hid (W7.heap[b7]? = some (.cells #[.int .i64 c1, .int .i64 d1] 39 (0, 0))) := by rw [hF]; exact set2 HbZ.out _ _); rw [← hF]; clear hF HBx HbZ HbA; have HBd : Hid (Below w.heap.size w W7) := below_join HBc.out HW7.out; have HMd : Hid (W7.heap[w.heap.size]? = some (.cells #[.int .i64 s.n, .slice af s.funs.length cf, .slice ap s.preds.length cp] 25 (0, 0))) := below_keep HW7.out HMc.out; have HFd : Hid (W7.heap[w.heap.size + 1]? = some (.cells #[.int .i64 k, .string n, .slice sw ws.length cw, .slice sk ks.length ck] 29 (0, 0))) := below_keep HW7.out HFc.out; have HGd : Hid (W7.heap[w.heap.size + 1 + 1]? = some (.cells #[.string nm] 9 (0, 0))) := below_keep HW7.out HGc.out; clear HBc HMc HFc HGc; go_wp2_with fail; (refine wp_region_last (by kernel_rfl) [fun v _ => v = (.agg #[.int .i64 s.n, .slice af s.funs.length cf, .slice ap s.preds.length cp]), fun v _ => v = (.func (.func 9) #[] #[]), fun v _ => v = (.func (.func 10) #[] #[.pointer (some ⟨w.heap.size + 1 + 1, 0, none⟩)]), fun v _ => v = (.func (.func 9) #[] #[]), fun v _ => v = (.agg #[.int .i64 k, .string n, .slice sw ws.length cw, .slice sk ks.length ck]), kER (.mk 5 ⟨#[]⟩ [] [(.mk k n ws ks)]), kER (.mk 10 nm [] [.mk 5 ⟨#[]⟩ [] [(.mk k n ws ks)]]), kER (D2 nm (.mk k n ws ks)), fun v _ => v = (.slice an names.length cn), fun v _ => v = (.slice av vals.length cv), fun v _ => v = (.tuple #[.bool B2, .agg #[.int .i64 c2, .int .i64 d2]]), fun v _ => v = (.tuple #[.bool B2, .agg #[.int .i64 c2, .int .i64 d2]]), fun v _ => v = (.bool B2), fun v _ => v = (.agg #[.int .i64 c2, .int .i64 d2]), kNf (W7.heap.size), fun v _ => v = (.bool B2)] ?_ (by kernel_rfl) (by kernel_rfl) 74 rfl (by kernel_rfl) 16 _ rfl rfl (by kernel_rfl) ?_ ?_)
    · intro p hp
      simp only [List.mem_cons, List.not_mem_nil, or_false] at hp
      rcases hp with rfl | rfl | rfl | rfl | rfl | rfl | rfl | rfl | rfl | rfl | rfl | rfl | rfl | rfl | rfl | rfl
      · exact fun _ _ _ h _ => h
      · exact fun _ _ _ h _ => h
      · exact fun _ _ _ h _ => h
      · exact fun _ _ _ h _ => h
      · exact fun _ _ _ h _ => h
      · exact kER_stays _
      · exact kER_stays _
      · exact kER_stays _
      · exact fun _ _ _ h _ => h
      · exact fun _ _ _ h _ => h
      · exact fun _ _ _ h _ => h
      · exact fun _ _ _ h _ => h
      · exact fun _ _ _ h _ => h
      · exact fun _ _ _ h _ => h
      · exact kNf_stays _
      · exact fun _ _ _ h _ => h
    · refine ⟨?_, ?_, ?_, ?_, ?_, ?_, ?_, ?_, ?_, ?_, ?_, ?_, ?_, ?_, ?_, ?_, trivial⟩
      · intro a wx hB hold hdep K hK
        have t5 : a.tmps[5]? = some (.pointer (some ⟨w.heap.size, 0, none⟩)) := hold.2.2 5 rfl; obtain ⟨k0, k1, k2, -⟩ := blk3 (below_keep hB HMd.out); clear hold hdep; go_simp; exact hK.out _ _ rfl (Below.refl _ _)
      · intro a wx hB hold hdep K hK
        have t11 : a.tmps[11]? = some (.func (.func 9) #[] #[]) := hold.2.2 11 rfl; clear hold hdep; go_simp; exact hK.out _ _ rfl (Below.refl _ _)
      · intro a wx hB hold hdep K hK
        have t12 : a.tmps[12]? = some (.func (.func 10) #[] #[.pointer (some ⟨w.heap.size + 1 + 1, 0, none⟩)]) := hold.2.2 12 rfl; clear hold hdep; go_simp; exact hK.out _ _ rfl (Below.refl _ _)
      · intro a wx hB hold hdep K hK
        have t11 : a.tmps[11]? = some (.func (.func 9) #[] #[]) := hold.2.2 11 rfl; clear hold hdep; go_simp; exact hK.out _ _ rfl (Below.refl _ _)
      · intro a wx hB hold hdep K hK
        have t6 : a.tmps[6]? = some (.pointer (some ⟨w.heap.size + 1, 0, none⟩)) := hold.2.2 6 rfl; obtain ⟨k0, k1, k2, k3⟩ := blk4L (below_keep hB HFd.out); clear hold hdep; go_simp; exact hK.out _ _ rfl (Below.refl _ _)
      · intro a wx hB hold hdep K hK
        obtain ⟨v46, t46, p46⟩ := hdep 3 rfl _ 46 rfl rfl; have e46 : v46 = (.func (.func 9) #[] #[]) := p46; subst e46; obtain ⟨v47, t47, p47⟩ := hdep 4 rfl _ 47 rfl rfl; have e47 : v47 = (.agg #[.int .i64 k, .string n, .slice sw ws.length cw, .slice sk ks.length ck]) := p47; subst e47; have HW : Hid (Calls Try.prog 9 #[(.agg #[.int .i64 k, .string n, .slice sw ws.length cw, .slice sk ks.length ck])] wx _) := dnot_any (.mk k n ws ks) _ wx (ERp.up hB _ _ (ERp.up HBd.out _ _ HRe.out)); clear hold hdep; go_simp; refine HW.out.mono ?_; rintro _ w9 ⟨x9, rfl, hr9, hb9⟩; have H9 : Hid (ERp w9 (.mk 5 ⟨#[]⟩ [] [(.mk k n ws ks)]) x9) := hr9; clear hr9; go_simp; exact hK.out _ _ H9.out hb9
      · intro a wx hB hold hdep K hK
        obtain ⟨v45, t45, p45⟩ := hdep 2 rfl _ 45 rfl rfl; have e45 : v45 = (.func (.func 10) #[] #[.pointer (some ⟨w.heap.size + 1 + 1, 0, none⟩)]) := p45; subst e45; obtain ⟨v48, t48, p48⟩ := hdep 5 rfl _ 48 rfl rfl; have P48 : Hid ((kER (.mk 5 ⟨#[]⟩ [] [(.mk k n ws ks)])) v48 wx) := p48; clear p48; have HW : Hid (Calls Try.prog 10 #[.int .i64 10, v48, .pointer (some ⟨w.heap.size + 1 + 1, 0, none⟩)] wx _) := dquant_any 10 nm HNm.out _ (.mk 5 ⟨#[]⟩ [] [(.mk k n ws ks)]) _ wx P48.out (blk_cell (below_keep hB HGd.out) 0); clear hold hdep; go_simp; refine HW.out.mono ?_; rintro _ w9 ⟨x9, rfl, hr9, hb9⟩; have H9 : Hid (ERp w9 (.mk 10 nm [] [.mk 5 ⟨#[]⟩ [] [(.mk k n ws ks)]]) x9) := hr9; clear hr9; go_simp; exact hK.out _ _ H9.out hb9
      · intro a wx hB hold hdep K hK
        obtain ⟨v44, t44, p44⟩ := hdep 1 rfl _ 44 rfl rfl; have e44 : v44 = (.func (.func 9) #[] #[]) := p44; subst e44; obtain ⟨v49, t49, p49⟩ := hdep 6 rfl _ 49 rfl rfl; have P49 : Hid ((kER (.mk 10 nm [] [.mk 5 ⟨#[]⟩ [] [(.mk k n ws ks)]])) v49 wx) := p49; clear p49; have HW : Hid (Calls Try.prog 9 #[v49] wx _) := dnot_any (.mk 10 nm [] [.mk 5 ⟨#[]⟩ [] [(.mk k n ws ks)]]) _ wx P49.out; clear hold hdep; go_simp; refine HW.out.mono ?_; rintro _ w9 ⟨x9, rfl, hr9, hb9⟩; have H9 : Hid (ERp w9 (D2 nm (.mk k n ws ks)) x9) := hr9; clear hr9; go_simp; exact hK.out _ _ H9.out hb9
      · intro a wx hB hold hdep K hK
        have t3 : a.tmps[3]? = some (.slice an names.length cn) := hold.2.2 3 rfl; clear hold hdep; go_simp; exact hK.out _ _ rfl (Below.refl _ _)
      · intro a wx hB hold hdep K hK
        have t4 : a.tmps[4]? = some (.slice av vals.length cv) := hold.2.2 4 rfl; clear hold hdep; go_simp; exact hK.out _ _ rfl (Below.refl _ _)
      · intro a wx hB hold hdep K hK
        obtain ⟨v43, t43, p43⟩ := hdep 0 rfl _ 43 rfl rfl; have e43 : v43 = (.agg #[.int .i64 s.n, .slice af s.funs.length cf, .slice ap s.preds.length cp]) := p43; subst e43; obtain ⟨v50, t50, p50⟩ := hdep 7 rfl _ 50 rfl rfl; have P50 : Hid ((kER (D2 nm (.mk k n ws ks))) v50 wx) := p50; clear p50; obtain ⟨v51, t51, p51⟩ := hdep 8 rfl _ 51 rfl rfl; have e51 : v51 = (.slice an names.length cn) := p51; subst e51; obtain ⟨v52, t52, p52⟩ := hdep 9 rfl _ 52 rfl rfl; have e52 : v52 = (.slice av vals.length cv) := p52; subst e52; have HW : Hid (Calls Try.prog 11 #[(.agg #[.int .i64 s.n, .slice af s.funs.length cf, .slice ap s.preds.length cp]), v50, (.slice an names.length cn), (.slice av vals.length cv)] wx _) := HV2.out _ v50 wx ((HRs.out.up HBd.out).up hB) P50.out ((HRn.out.up HBd.out).up hB) ((HRv.out.up HBd.out).up hB); clear hold hdep; go_simp; refine HW.out.mono ?_; rintro _ w9 ⟨rfl, hb9⟩; go_simp; exact hK.out _ _ rfl hb9
      · intro a wx hB hold hdep K hK
        obtain ⟨v53, t53, p53⟩ := hdep 10 rfl _ 53 rfl rfl; have e53 : v53 = (.tuple #[.bool B2, .agg #[.int .i64 c2, .int .i64 d2]]) := p53; subst e53; clear hold hdep; go_simp; exact hK.out _ _ rfl (Below.refl _ _)
      · intro a wx hB hold hdep K hK
        obtain ⟨v42, t42, p42⟩ := hdep 11 rfl _ 42 rfl rfl; have e42 : v42 = (.tuple #[.bool B2, .agg #[.int .i64 c2, .int .i64 d2]]) := p42; subst e42; clear hold hdep; go_simp; exact hK.out _ _ rfl (Below.refl _ _)
      · intro a wx hB hold hdep K hK
        obtain ⟨v42, t42, p42⟩ := hdep 11 rfl _ 42 rfl rfl; have e42 : v42 = (.tuple #[.bool B2, .agg #[.int .i64 c2, .int .i64 d2]]) := p42; subst e42; clear hold hdep; go_simp; exact hK.out _ _ rfl (Below.refl _ _)
      · intro a wx hB hold hdep K hK
        have HA : Hid (W7.heap.size ≤ wx.heap.size) := hB.size; clear hold hdep; go_simp; exact hK.out _ _ ⟨_, rfl, HA.out, blk_new _ _⟩ (below_more (Below.refl _ _) _)
      · intro a wx hB hold hdep K hK
        obtain ⟨v54, t54, p54⟩ := hdep 12 rfl _ 54 rfl rfl; have e54 : v54 = (.bool B2) := p54; subst e54; clear hold hdep; go_simp; exact hK.out _ _ rfl (Below.refl _ _)
    · intro a wx hB hold hgot K hK
      (obtain ⟨vX, tX, pX⟩ := hgot 15 _ 15 (by omega) rfl rfl); have eX : vX = (.bool B2) := pX; subst eX; (obtain ⟨vP, tP, pP⟩ := hgot 14 _ 16 (by omega) rfl rfl); obtain ⟨b8, rfl, hbA, hbz⟩ := pP; (obtain ⟨vE, tE, pE⟩ := hgot 13 _ 55 (by omega) rfl rfl); have eE : vE = (.agg #[.int .i64 c2, .int .i64 d2]) := pE; subst eE; have HbA : Hid (W7.heap.size ≤ b8) := hbA; have HbZ : Hid (wx.heap[b8]? = some (.cells #[.int .i64 0, .int .i64 0] 39 (0, 0))) := hbz; have HBx : Hid (Below W7.heap.size W7 wx) := hB; obtain ⟨z0, z1, z2, z3⟩ := blk2 HbZ.out; obtain ⟨tm, df⟩ := a; (obtain ⟨ys, zs, hys, hzs, htm, rfl⟩ := frame_two 15 2 25 14 17 42 56 rfl rfl rfl (by kernel_rfl) (Nat.le_of_ble_eq_true rfl) hold); obtain ⟨y15, y16, rfl⟩ := rowE2 ys hys; obtain ⟨y42, y43, y44, y45, y46, y47, y48, y49, y50, y51, y52, y53, y54, y55, rfl⟩ := rowS14 zs hzs; simp only [List.take_succ_cons, List.take_zero, List.drop_succ_cons, List.drop_zero, List.cons_append, List.nil_append] at htm; subst htm; obtain rfl : y15 = _ := someInjM tX; obtain rfl : y16 = _ := someInjM tP; obtain rfl : y55 = _ := someInjM tE; clear hys hzs; clear hold hgot tX tP tE pE pX hbA hbz hB; go_simp; refine hK.out _ _ ?_; clear hK z0 z1 z2 z3; obtain ⟨W8, hF⟩ : ∃ F, F = (wx.setCell ⟨b8, 0, none⟩ (.int .i64 c2)).setCell ⟨b8, 1, none⟩ (.int .i64 d2) := ⟨_, rfl⟩; (have HW8 : Hid (Below W7.heap.size W7 W8) := by rw [hF]; exact (HBx.out.setCell (p := ⟨b8, 0, none⟩) HbA.out _).setCell (p := ⟨b8, 1, none⟩) HbA.out _); (have HE8 : Hid (W8.heap[b8]? = some (.cells #[.int .i64 c2, .int .i64 d2] 39 (0, 0))) := by rw [hF]; exact set2 HbZ.out _ _); rw [← hF]; clear hF HBx HbZ HbA; have HBe : Hid (Below w.heap.size w W8) := below_join HBd.out HW8.out; have HMe : Hid (W8.heap[w.heap.size]? = some (.cells #[.int .i64 s.n, .slice af s.funs.length cf, .slice ap s.preds.length cp] 25 (0, 0))) := below_keep HW8.out HMd.out; have HFe : Hid (W8.heap[w.heap.size + 1]? = some (.cells #[.int .i64 k, .string n, .slice sw ws.length cw, .slice sk ks.length ck] 29 (0, 0))) := below_keep HW8.out HFd.out; have HGe : Hid (W8.heap[w.heap.size + 1 + 1]? = some (.cells #[.string nm] 9 (0, 0))) := below_keep HW8.out HGd.out; clear HBd HMd HFd HGd; have HE7b : Hid (W8.heap[b7]? = some (.cells #[.int .i64 c1, .int .i64 d1] 39 (0, 0))) := below_keep HW8.out HE7.out; clear HW8 HW7 HE7 HV1 HV2; obtain ⟨z10, z11, -⟩ := blk2 HE7b.out; obtain ⟨z20, z21, -⟩ := blk2 HE8.out
      rcases HPl.out with ⟨rfl, rfl, rfl, rfl, rfl⟩ | ⟨h1, h2⟩
      · go_wp2_with fail
        all_goals
          go_ret; exact ⟨rfl, HBe.out⟩
      · have hc : (c1 != 0) = true := by simpa using h1
        (have hc2 : (c2 != 0) = true := by simpa using h2); go_wp2_with fail
        all_goals
          go_ret; exact ⟨rfl, HBe.out⟩
theorem duals_textM (s : StD) (x : Ex) (nm : ByteArray) (names : List (List UInt8)) (vals : List Int) (v u nv xv : Value) (w : World) (hS : StR w s v) (hE : ERp w x u) (hn : nm.size ≤ maxLen) (hN : SL w nv names) (hlen : ∀ t ∈ names, t.length ≤ maxLen) (hV : IL w xv vals) :
    Calls Try.prog 3 #[v, u, .string nm, nv, xv] w fun e w' => e = .returned (.bool true) ∧ Below w.heap.size w w' := duals_lawM s x nm names vals v u nv xv w hS hE hn hN hV hlen
end Go.Proofs.Ytblodnpfckflaak
