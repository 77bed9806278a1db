/- Texts of one proof, one behind the other: PBB, PBC, PBD. -/
import Derived.Test.YtpiaeapgjljjhaaGreatB32
import Derived.Test.YtpiaeapgjljjhaaGreatB19
/- Walks: first.putter.whole. -/
namespace Go.Proofs.YtpiaeapgjljjhaaGreat
open Go.RowKit Go.Sort

theorem px_all (nm : ByteArray) (y : Wd) (cg tk : List (List UInt8)) (w0 : World) (pb nb : Nat) (htk : tk.length ≤ 1000) : ∀ m, PxS nm y cg tk w0 pb nb m
  | 0 => fun _ _ _ _ _ _ _ h => absurd h (Nat.not_lt_zero _)
  | m + 1 => px_step nm y cg tk w0 pb nb m htk (px_all nm y cg tk w0 pb nb htk m)
theorem gY_self {w0 : World} {y : Wd} {nm wn : ByteArray} {wa : Value} (h : WRp w0 y (.agg #[.string wn, wa])) : gY y (nm, wn, wa) = y ∧ wa.oneCell' = true := by
  obtain ⟨n, ar⟩ := y; obtain ⟨sl, cap, e, -, -, -, hk⟩ := WRp.def.1 h; simp only [Value.agg.injEq, Array.mk.injEq, List.cons.injEq, and_true, Value.string.injEq] at e; obtain ⟨rfl, rfl⟩ := e; refine ⟨?_, rfl⟩
  rcases sl with _ | a
  · have e2 : ar = [] := Classical.byContradiction fun hne => by
      obtain ⟨b, off, e3, -⟩ := hk hne
      cases e3
    rw [e2]; rfl
  · rfl
set_option maxRecDepth 100000 in
set_option maxHeartbeats 8000000 in
theorem pwhole_any (w0 w : World) (pb nb : Nat) (nm : ByteArray) (y : Wd) (cg tk : List (List UInt8)) (h : PtR w0 w pb nb nm y cg tk 0) (htk : tk.length ≤ 1000) (x : Ex) (v : Value) (hx : ERp w0 x v) (hs : x.size ≤ 200) (hsm : Esm x) (hys : y.size ≤ 200) (hym : Wsm y) :
    Calls Tryz.prog 67 #[.pointer (some ⟨pb, 0, none⟩), v] w fun e w' => ∃ u t0, e = .returned u ∧ t0.1 = nm ∧ gY y t0 = y ∧ EQ w' (w.heap.size ≤ ·) (pxF nm y cg tk x [t0] 0).1 u ∧ Kept (· ≠ nb) w w' := by
  have HP : Hid (PtR w0 w pb nb nm y cg tk 0) := h; have HX : Hid (ERp w0 x v) := hx; have HSz : Hid (x.size ≤ 200 ∧ tk.length ≤ 1000 ∧ y.size ≤ 200 ∧ Esm x ∧ Wsm y) := ⟨hs, htk, hys, hsm, hym⟩; obtain ⟨⟨wn, wa, adc, cpc, h1, h2, h3⟩, ⟨adt, cpt, h4, h5⟩, h6, h7⟩ := h; obtain ⟨hg, hc⟩ := gY_self (nm := nm) h2; have HG : Hid (gY y (nm, wn, wa) = y ∧ wa.oneCell' = true ∧ WRp w0 y (.agg #[.string wn, wa])) := ⟨hg, hc, h2⟩; have HNl : Hid (nb < w.heap.size) := lt_of_block h4
  have HE : Hid (∀ W row, PtR w0 W pb nb nm y cg tk 0 → KB w0.heap.size W (some ⟨row, 0, none⟩) 1 [(nm, wn, wa)] → Calls Tryz.prog 115 #[.pointer (some ⟨pb, 0, none⟩), v, .slice (some ⟨row, 0, none⟩) 1 1] W _) := fun W row g1 g2 => px_all nm y cg tk w0 pb nb htk (x.size + 1) x v [(nm, wn, wa)] (some ⟨row, 0, none⟩) 1 0 W (Nat.lt_succ_self _) (by simp; omega) hsm hx g1 g2 (fun t ht => by
    rw [List.mem_singleton.1 ht, HG.out.1]
    exact ⟨HG.out.2.2, by omega, hym, HG.out.2.1⟩) (by
    (have : x.size * (tk.length + 2) ≤ 200 * 1002 := Nat.mul_le_mul hs (by omega))
    omega)
  obtain ⟨kd, n, ws, ks⟩ := x; obtain ⟨sw, cw, sk, ck, rfl, -⟩ := ERp.def.1 hx; obtain ⟨W1, hW1⟩ : ∃ W1, W1 = (w.alloc (.cells #[.int .i64 kd, .string n, .slice sw ws.length cw, .slice sk ks.length ck] 25 (0, 0))).alloc (.cells #[.int .i64 0, .string ⟨#[]⟩, .slice none 0 0, .slice none 0 0] 25 (0, 0)) := ⟨_, rfl⟩; (have HW1 : Hid (Below w.heap.size w W1) := by rw [hW1]; exact below_more (below_more (Below.refl _ w) _) _); (have hq0 : W1.heap[w.heap.size]? = some (.cells #[.int .i64 kd, .string n, .slice sw ws.length cw, .slice sk ks.length ck] 25 (0, 0)) := by rw [hW1]; exact alloc_keep (blk_new w _) _); (have HQ1 : Hid (W1.heap[w.heap.size + 1]? = some (.cells #[.int .i64 0, .string ⟨#[]⟩, .slice none 0 0, .slice none 0 0] 25 (0, 0))) := by show _ = _; rw [hW1]; exact blk_secE w _ _); (have HZ1 : Hid (W1.heap.size = w.heap.size + 2) := by show _ = _; rw [hW1]; simp); have hp1 := below_keep HW1.out h1; have HPb : Hid (W1.heap[pb]? = some _) := hp1; obtain ⟨b0, b1, b2, b3⟩ := blk4L hq0; have c0 : W1.cell? ⟨pb, 0, none⟩ = some (.string nm) := blk_cell hp1 0; have c1 : W1.cell? ⟨pb, 1, none⟩ = some (.string wn) := blk_cell hp1 1; have c2 : W1.cell? ⟨pb, 2, none⟩ = some wa := blk_cell hp1 2; (have d0 : ¬ W1.heap.size = w.heap.size := by have := HZ1.out; omega); (have d1 : ¬ w.heap.size = W1.heap.size := by have := HZ1.out; omega); have l0 := lt_of_block hq0; clear h1 h2 h3 h4 h5 h6 h7 hg hc hx hs hsm hys hym htk hq0 hp1
  go_enter Tryz.func67, Tryz.ntmps67
  go_wp2_with fail; rw [← hW1]; clear hW1
  go_region_law
    (first
     | (go_simp
        go_at_call 115
        (refine (HE.out _ _ ((HP.out.up HW1.out).up (by first | exact below_more (Below.refl _ W1) _ | exact below_more (Below.refl _ W1).drew _ | exact (below_more (Below.refl _ W1) _).drew)) ⟨rfl, Or.inr ⟨_, 1, #[.string nm, .string wn, wa], rfl, by have := HP.out.base.size; have := HZ1.out; simp; omega, blk_new_drew _ _, by simp, by simp [maxLen], rfl, rfl⟩⟩).mono ?_); rintro e w4 ⟨u, rfl, hq4, hp4, hr4, hk4⟩; obtain ⟨x5, hx5⟩ : ∃ x5, (pxF nm y cg tk (.mk kd n ws ks) [(nm, wn, wa)] 0).1 = x5 := ⟨_, rfl⟩; have HX5 : Hid ((pxF nm y cg tk (.mk kd n ws ks) [(nm, wn, wa)] 0).1 = x5) := hx5; rw [hx5] at hq4; obtain ⟨k9, n9, ws9, ks9⟩ := x5; obtain ⟨sw9, cw9, sk9, ck9, rfl, -⟩ := EQ.def.1 hq4; have HQ4 : Hid (EQ w4 _ (.mk k9 n9 ws9 ks9) (.agg #[.int .i64 k9, .string n9, .slice sw9 ws9.length cw9, .slice sk9 ks9.length ck9])) := hq4; (have HK4 : Hid (Kept (· ≠ nb) W1 w4) := ⟨hk4.os, hk4.tape, hk4.output, Nat.le_trans (by simp) hk4.size, fun b hb hne => (hk4.block b (by simp; omega) ⟨hne, fun e => by simp [Value.ownBlock] at e; omega⟩).trans (Below.heap_alloc _ _ _ hb)⟩); (have ho := (HK4.out.block (w.heap.size + 1) (lt_of_block HQ1.out) (by have := HNl.out; omega)).trans HQ1.out); have HO : Hid (w4.heap[w.heap.size + 1]? = _) := ho; obtain ⟨g0, g1, g2, g3, g4, g5, g6, g7⟩ := blk4P ho; have g8 := lt_of_block ho; clear hq4 hp4 hr4 hk4 ho hx5
        dsimp only)
     | fail)
  all_goals
    go_wp2_with fail; (have h9 : Kept (· ≠ w.heap.size + 1) w4 ((((w4.setCell ⟨w.heap.size + 1, 0, none⟩ (.int .i64 k9)).setCell ⟨w.heap.size + 1, 1, none⟩ (.string n9)).setCell ⟨w.heap.size + 1, 2, none⟩ (.slice sw9 ws9.length cw9)).setCell ⟨w.heap.size + 1, 3, none⟩ (.slice sk9 ks9.length ck9)) := ((((Kept.refl _ _).setCell (fun _ h => h rfl) _).setCell (fun _ h => h rfl) _).setCell (fun _ h => h rfl) _).setCell (fun _ h => h rfl) _)
    have he : ((((w4.setCell ⟨w.heap.size + 1, 0, none⟩ (.int .i64 k9)).setCell ⟨w.heap.size + 1, 1, none⟩ (.string n9)).setCell ⟨w.heap.size + 1, 2, none⟩ (.slice sw9 ws9.length cw9)).setCell ⟨w.heap.size + 1, 3, none⟩ (.slice sk9 ks9.length ck9)).heap[w.heap.size + 1]? = some (.cells #[.int .i64 k9, .string n9, .slice sw9 ws9.length cw9, .slice sk9 ks9.length ck9] 25 (0, 0)) := by
      rw [blk_setS (blk_setS (blk_setS (blk_setS HO.out _) _) _) _]; rfl
    generalize ((((w4.setCell ⟨w.heap.size + 1, 0, none⟩ (.int .i64 k9)).setCell ⟨w.heap.size + 1, 1, none⟩ (.string n9)).setCell ⟨w.heap.size + 1, 2, none⟩ (.slice sw9 ws9.length cw9)).setCell ⟨w.heap.size + 1, 3, none⟩ (.slice sk9 ks9.length ck9)) = Wf at *; obtain ⟨m0, m1, m2, m3⟩ := blk4L he
    have hr : EQ Wf (w.heap.size ≤ ·) (.mk k9 n9 ws9 ks9) (.agg #[.int .i64 k9, .string n9, .slice sw9 ws9.length cw9, .slice sk9 ks9.length ck9]) := EQ.move (fun b hb hok => by
      (have h1 : W1.heap.size + 1 ≤ b := by simpa using hok); have h2 := HZ1.out
      exact ⟨h9.block b hb (by omega), by omega⟩) _ _ HQ4.out
    (exact bodyPost_ret (v := .agg #[.int .i64 k9, .string n9, .slice sw9 ws9.length cw9, .slice sk9 ks9.length ck9]) (by simp [results, Tryz.results67, go_sem, m0, m1, m2, m3]) rfl ⟨_, (nm, wn, wa), rfl, rfl, HG.out.1, by rw [HX5.out]; exact hr, ⟨h9.os.trans (HK4.out.os.trans HW1.out.os), h9.tape.trans (HK4.out.tape.trans HW1.out.tape), h9.output.trans (HK4.out.output.trans HW1.out.output), Nat.le_trans HW1.out.size (Nat.le_trans HK4.out.size h9.size), fun b hb hne => (h9.block b (by have := HW1.out.size; have := HK4.out.size; omega) (by omega)).trans ((HK4.out.block b (by have := HW1.out.size; omega) hne).trans (HW1.out.block b hb))⟩⟩)
end Go.Proofs.YtpiaeapgjljjhaaGreat
/- Walks: what first.Put says of the word (Put$1, caught). -/
namespace Go.Proofs.YtpiaeapgjljjhaaGreat
open Go.RowKit Go.Sort Go.Maps Go.WideMaps

/-- What Check says of a word. -/
def pwcode (y : Wd) : Int × Int := match wchk y 0 (fun _ => none) (fun _ => none) with
  | .ok _ _ _ => (0, 0)
  | .bad c a => (c, (a : Int))
theorem wput1_in (cap : Array Value) (w : World) : (callFunc 63 cap).run Tryz.prog w = .ok (.enter 63 cap) w := by
  simp [go_sem]
set_option maxRecDepth 10000 in
set_option maxHeartbeats 2000000 in
theorem wput1_any (be : Nat) (n : ByteArray) (ar : List Wd) (sw : Option Addr) (cw : Nat) (w : World) (q0 : w.heap[be]? = some (.cells #[.string n, .slice sw ar.length cw] 44 (0, 0)))
    (hrep : WRp w (.mk n ar) (.agg #[.string n, .slice sw ar.length cw])) (x : CkR) (hx : wchk (.mk n ar) 0 (fun _ => none) (fun _ => none) = x) :
    Calls Tryz.prog 63 #[.pointer (some ⟨be, 0, none⟩)] w fun e w' => Kept (fun _ => True) w w' ∧ CkEnd x e := by
  have HQ : Hid (w.heap[be]? = some (.cells #[.string n, .slice sw ar.length cw] 44 (0, 0))) := q0; (have HNc : Hid (∀ W, Calls Tryz.prog 47 #[] W _) := fun W => newCk_any W)
  have HEx : Hid (∀ W bc bp bf, Below w.heap.size w W → New3 w.heap.size bc bp bf → CkA W bc bp bf 0 (fun _ => none) (fun _ => none) → Calls Tryz.prog 64 #[.pointer (some ⟨bc, 0, none⟩), .agg #[.string n, .slice sw ar.length cw]] W fun e w' => Kept (T3 bc bp bf) W w' ∧ CkPost bc bp bf x e w') := fun W bc bp bf h1 h2 h3 => by
    rw [← hx]; (exact ckWord_any _ _ w W bc bp bf 0 _ _ hrep h1 h2 h3 (by omega))
  clear q0 hrep hx
  go_enter Tryz.func63, Tryz.ntmps63
  go_wp2_with fail; (refine wp_region_end (by kernel_rfl) [fun v w9 => ∃ bc bp bf, v = .pointer (some ⟨bc, 0, none⟩) ∧ CkA w9 bc bp bf 0 (fun _ => none) (fun _ => none) ∧ New3 w.heap.size bc bp bf, fun v _ => v = (.agg #[.string n, .slice sw ar.length cw])] ?_ (by kernel_rfl) (by kernel_rfl) 4 rfl (by kernel_rfl) 2 _ rfl rfl 6 (by kernel_rfl) ?_ ?_)
  · intro p hp
    simp only [List.mem_cons, List.not_mem_nil, or_false] at hp
    rcases hp with rfl | rfl
    · rintro v w1 w2 ⟨bc, bp, bf, e, h1, h2⟩ hb
      exact ⟨bc, bp, bf, e, h1.up hb, h2⟩
    · exact fun _ _ _ h _ => h
  · refine ⟨?_, ?_, trivial⟩
    · intro a wx hB hold hdep K hK
      have HBs := hB.size; clear hold hdep; go_simp; refine (HNc.out wx).mono ?_; rintro _ w9 ⟨bc, bp, bf, rfl, hc, hn, hb9⟩; (have HC9 : Hid (CkA w9 bc bp bf 0 (fun _ => none) (fun _ => none) ∧ New3 w.heap.size bc bp bf) := ⟨hc, by obtain ⟨n1, n2, n3⟩ := hn; exact ⟨by omega, by omega, by omega⟩⟩); clear hc hn; go_simp; exact hK.out _ _ ⟨bc, bp, bf, rfl, HC9.out.1, HC9.out.2⟩ hb9
    · intro a wx hB hold hdep K hK
      have t0 : a.tmps[0]? = some (.pointer (some ⟨be, 0, none⟩)) := hold.2.2 0 rfl; have hqb := blk2 (below_keep hB HQ.out); obtain ⟨f0, f1, -⟩ := hqb; clear hold hdep; go_simp; exact hK.out _ _ rfl (Below.refl _ _)
  · intro a wx hB hold hgot K hK
    (obtain ⟨A, tA, pA⟩ := hgot 0 _ 1 (by omega) rfl rfl); (obtain ⟨B, tB, pB⟩ := hgot 1 _ 2 (by omega) rfl rfl); have eB : B = (.agg #[.string n, .slice sw ar.length cw]) := pB; subst eB; obtain ⟨bc, bp, bf, rfl, hca, hna⟩ := pA; (have HCx : Hid (CkA wx bc bp bf 0 (fun _ => none) (fun _ => none) ∧ New3 w.heap.size bc bp bf) := ⟨hca, hna⟩); have HBx : Hid (Below w.heap.size w wx) := hB; obtain ⟨tm, df⟩ := a; (obtain ⟨ys, hys, htm, rfl⟩ := frame_mid2 1 3 (by kernel_rfl) (Nat.le_of_ble_eq_true rfl) hold); obtain ⟨z1, z2, z3, rfl⟩ := rowFW3 ys hys; simp only [List.take_succ_cons, List.take_zero, List.drop_succ_cons, List.drop_zero, List.cons_append, List.nil_append] at htm; subst htm; obtain rfl : z1 = _ := someInjM tA; obtain rfl : z2 = _ := someInjM tB; clear hys hold hgot tA tB hB hca hna
    cases x with
    | ok s p f =>
      go_simp; refine (HEx.out wx bc bp bf HBx.out HCx.out.2 HCx.out.1).mono ?_; rintro _ w5 ⟨hk5, rfl, -⟩; have HB5 : Hid (Below w.heap.size w w5) := kept3 HBx.out HCx.out.2 hk5; clear hk5; go_simp; refine hK.out _ _ ?_; clear hK; go_wp2_with fail
      go_end0
      exact ⟨kept_of_below (ok := fun _ => True) (B := w.heap.size) HB5.out (fun _ h _ => h), rfl⟩
    | bad c a =>
      go_simp; refine (HEx.out wx bc bp bf HBx.out HCx.out.2 HCx.out.1).mono ?_; rintro e w5 ⟨hk5, he5⟩; obtain rfl : e = _ := he5; (exact ⟨rfl, kept_of_below (ok := fun _ => True) (B := w.heap.size) (kept3 HBx.out HCx.out.2 hk5) (fun _ h _ => h), rfl⟩)
/-- Caught: its code. -/
theorem wcaught_any (be : Nat) (y : Wd) (n : ByteArray) (u : Value) (w : World) (q0 : w.heap[be]? = some (.cells #[.string n, u] 44 (0, 0))) (hrep : WRp w y (.agg #[.string n, u])) :
    Calls Tryz.prog 45 #[.func (.func 63) #[] #[.pointer (some ⟨be, 0, none⟩)]] w fun e w' => e = .returned (.agg #[.int .i64 (pwcode y).1, .int .i64 (pwcode y).2]) ∧ Below w.heap.size w w' := by
  obtain ⟨n', ar⟩ := y; obtain ⟨sw, cw, e0, -⟩ := WRp.def.1 hrep; simp only [Value.agg.injEq, Array.mk.injEq, List.cons.injEq, and_true, Value.string.injEq] at e0; obtain ⟨rfl, rfl⟩ := e0; have hq := alloc_keep q0 (.cells #[.int .i64 0, .int .i64 0] 30 (0, 0)); have hr : WRp (w.alloc (.cells #[.int .i64 0, .int .i64 0] 30 (0, 0))) (.mk n ar) (.agg #[.string n, .slice sw ar.length cw]) := hrep.up (below_more (Below.refl _ _) _); (have fin : ∀ {w1 w2 : World}, Below w.heap.size w w1 → Kept (· ≠ w.heap.size) w1 w2 → Below w.heap.size w w2 := fun h1 h2 => h1.trans (h2.below h1.size fun b hb e => by omega))
  rcases hx : wchk (.mk n ar) 0 (fun _ => none) (fun _ => none) with ⟨c, a⟩ | ⟨s, p, f⟩
  · have hcode : pwcode (.mk n ar) = (c, (a : Int)) := by simp only [pwcode, hx]
    rw [hcode]; (refine (caught_bad 63 _ _ (fun w1 => Below w.heap.size w w1) c a (wput1_in _) ?_).mono ?_)
    · refine (wput1_any be n ar sw cw _ hq hr _ hx).mono ?_
      rintro e w1 ⟨hk, rfl⟩; (exact ⟨rfl, (hk.block _ (by simp) trivial).trans (blk_new _ _), (((Kept.refl _ w).alloc _).trans hk).below (Nat.le_refl _) (fun _ _ => trivial)⟩)
    · rintro e w2 ⟨rfl, w1, hb1, hk2⟩
      exact ⟨rfl, fin hb1 hk2⟩
  · have hcode : pwcode (.mk n ar) = (0, 0) := by simp only [pwcode, hx]
    rw [hcode]; (refine (caught_ok 63 _ _ (fun w1 => Below w.heap.size w w1) (wput1_in _) ?_).mono ?_)
    · refine (wput1_any be n ar sw cw _ hq hr _ hx).mono ?_
      rintro e w1 ⟨hk, rfl⟩; (exact ⟨rfl, (hk.block _ (by simp) trivial).trans (blk_new _ _), (((Kept.refl _ w).alloc _).trans hk).below (Nat.le_refl _) (fun _ _ => trivial)⟩)
    · rintro e w2 ⟨rfl, w1, hb1, hk2⟩
      exact ⟨rfl, fin hb1 hk2⟩
end Go.Proofs.YtpiaeapgjljjhaaGreat
/- Plain: what Check passes has short names. -/
namespace Go.Proofs.YtpiaeapgjljjhaaGreat
open Go.RowKit Go.Sort

theorem nm_sm {n : ByteArray} (h : isNm n.data.toList = true ∨ isBg n.data.toList = true) : n.size ≤ 281474976710656 := by
  have e : n.data.toList.length = n.size := Array.length_toList
  rcases h with h | h
  · have := (isNm_bd h).2
    omega
  · rcases hl : n.data.toList with _ | ⟨c, l⟩
    · rw [hl] at h; cases h
    · rw [hl] at h e
      unfold isBg at h; simp only [Bool.and_eq_true, decide_eq_true_eq] at h; simp only [List.length_cons] at e; omega
theorem wnode_nm {n : ByteArray} {al : Nat} (h : wnodeF n al = none) : isNm n.data.toList = true ∨ isBg n.data.toList = true := by
  unfold wnodeF at h
  split at h
  · cases h
  · rename_i h2
    rcases ha : isNm n.data.toList with _ | _
    · rcases hb : isBg n.data.toList with _ | _
      · exact absurd ⟨ha, hb⟩ h2
      · exact Or.inr rfl
    · exact Or.inl rfl
theorem enode_sm {k : Int} {n : ByteArray} {wl kl : Nat} (h : enodeF k n wl kl = none) : n.size ≤ 281474976710656 := by
  unfold enodeF at h
  split at h
  · cases h
  · split at h
    · cases h
    · split at h
      · cases h
      · rename_i h3
        (have h4 : enameB k n.data.toList = true := by simpa using h3); unfold enameB at h4
        split at h4
        · exact nm_sm (Or.inr h4)
        · split at h4
          · exact nm_sm (Or.inl h4)
          · have e : n.data.toList.length = n.size := Array.length_toList
            rw [List.isEmpty_iff.1 h4] at e; simp only [List.length_nil] at e; omega
mutual
theorem wchk_sm : ∀ (x : Wd) (s : Nat) (p f : PlF) (s' : Nat) (p' f' : PlF), wchk x s p f = .ok s' p' f' → Wsm x
  | .mk n ar, s, p, f, s', p', f', h => by
    rw [wchk] at h
    split at h
    · cases h
    · split at h
      · cases h
      · rename_i h1
        have hn := nm_sm (wnode_nm h1); rw [Wsm]
        split at h
        · split at h
          · cases h
          · exact ⟨hn, wchks_sm ar _ _ _ _ _ _ h⟩
        · exact ⟨hn, wchks_sm ar _ _ _ _ _ _ h⟩
theorem wchks_sm : ∀ (l : List Wd) (s : Nat) (p f : PlF) (s' : Nat) (p' f' : PlF), wchks l s p f = .ok s' p' f' → Wsms l
  | [], _, _, _, _, _, _, _ => by rw [Wsms]; trivial
  | x :: xs, s, p, f, s', p', f', h => by
    rw [wchks] at h
    split at h
    · cases h
    · rename_i h1
      rw [Wsms]; exact ⟨wchk_sm x _ _ _ _ _ _ h1, wchks_sm xs _ _ _ _ _ _ h⟩
end
mutual
theorem echk_sm : ∀ (x : Ex) (s : Nat) (p f : PlF) (s' : Nat) (p' f' : PlF), echk x s p f = .ok s' p' f' → Esm x
  | .mk k n ws ks, s, p, f, s', p', f', h => by
    rw [echk] at h
    split at h
    · cases h
    · split at h
      · cases h
      · rename_i hn
        split at h
        · cases h
        · split at h
          · cases h
          · rename_i h2
            rw [Esm]; exact ⟨enode_sm hn, wchks_sm ws _ _ _ _ _ _ h2, echks_sm ks _ _ _ _ _ _ h⟩
theorem echks_sm : ∀ (l : List Ex) (s : Nat) (p f : PlF) (s' : Nat) (p' f' : PlF), echks l s p f = .ok s' p' f' → Esms l
  | [], _, _, _, _, _, _, _ => by rw [Esms]; trivial
  | x :: xs, s, p, f, s', p', f', h => by
    rw [echks] at h
    split at h
    · cases h
    · rename_i h1
      rw [Esms]; exact ⟨echk_sm x _ _ _ _ _ _ h1, echks_sm xs _ _ _ _ _ _ h⟩
end
theorem pwcode_ok {y : Wd} (h : (pwcode y).1 = 0) : pwcode y = (0, 0) ∧ y.size ≤ 200 ∧ Wsm y ∧ ∃ s p f, wchk y 0 (fun _ => none) (fun _ => none) = .ok s p f := by
  unfold pwcode at h ⊢
  rcases he : wchk y 0 (fun _ => none) (fun _ => none) with ⟨c, a⟩ | ⟨s, p, f⟩
  · rw [he] at h
    simp only at h; exact absurd h (wchk_code _ _ _ _ _ _ he)
  · have := wchk_le y _ _ _ _ _ _ he (by omega)
    (exact ⟨rfl, by omega, wchk_sm _ _ _ _ _ _ _ he, s, p, f, rfl⟩)
/-- What Put says. -/
def putC (x : Ex) (nm : ByteArray) (y : Wd) (z : Ex) : Int × Int := if (ecode x).1 ≠ 0 then ecode x else if isNm nm.data.toList = false then (8, 0) else if (pwcode y).1 ≠ 0 then pwcode y else if 200 < szW x nm.data.toList y then (10, 0) else if (ecode z).1 ≠ 0 then (5, 0) else (0, 0)
end Go.Proofs.YtpiaeapgjljjhaaGreat
