/- Texts of one proof, one behind the other: PBC, PBD, PBE. -/
import Derived.Test.YtheiikkeelbjnajGreatB33
import Derived.Test.YtheiikkeelbjnajGreatB16
import Derived.Deep.DeepCutAuto
import Derived.Test.YtheiikkeelbjnajGreatB23
/- Walks: what first.Put says of the word (Put$1, caught). -/
namespace Go.Proofs.YtheiikkeelbjnajGreat
open Go.RowKit Go.Sort Go.Maps Go.WideMaps

/-- What Check says of a word. -/
def pwcode (y : Wd) : Int × Int := match wchk y 0 (fun _ => none) (fun _ => none) with
  | .ok _ _ _ => (0, 0)
  | .bad c a => (c, (a : Int))
theorem wput1_in (cap : Array Value) (w : World) : (callFunc 48 cap).run Tryz.prog w = .ok (.enter 48 cap) w := by
  simp [go_sem]
set_option maxRecDepth 10000 in
set_option maxHeartbeats 2000000 in
theorem wput1_any (be : Nat) (n : ByteArray) (ar : List Wd) (sw : Option Addr) (cw : Nat) (w : World) (q0 : w.heap[be]? = some (.cells #[.string n, .slice sw ar.length cw] 27 (0, 0)))
    (hrep : WRp w (.mk n ar) (.agg #[.string n, .slice sw ar.length cw])) (x : CkR) (hx : wchk (.mk n ar) 0 (fun _ => none) (fun _ => none) = x) :
    Calls Tryz.prog 48 #[.pointer (some ⟨be, 0, none⟩)] w fun e w' => Kept (fun _ => True) w w' ∧ CkEnd x e := by
  have HQ : Hid (w.heap[be]? = some (.cells #[.string n, .slice sw ar.length cw] 27 (0, 0))) := q0; (have HNc : Hid (∀ W, Calls Tryz.prog 49 #[] W _) := fun W => newCk_any W)
  have HEx : Hid (∀ W bc bp bf, Below w.heap.size w W → New3 w.heap.size bc bp bf → CkA W bc bp bf 0 (fun _ => none) (fun _ => none) → Calls Tryz.prog 50 #[.pointer (some ⟨bc, 0, none⟩), .agg #[.string n, .slice sw ar.length cw]] W fun e w' => Kept (T3 bc bp bf) W w' ∧ CkPost bc bp bf x e w') := fun W bc bp bf h1 h2 h3 => by
    rw [← hx]; (exact ckWord_any _ _ w W bc bp bf 0 _ _ hrep h1 h2 h3 (by omega))
  clear q0 hrep hx
  go_enter Tryz.func48, Tryz.ntmps48
  go_wp2_with fail; (refine wp_region_end (by kernel_rfl) [fun v w9 => ∃ bc bp bf, v = .pointer (some ⟨bc, 0, none⟩) ∧ CkA w9 bc bp bf 0 (fun _ => none) (fun _ => none) ∧ New3 w.heap.size bc bp bf, fun v _ => v = (.agg #[.string n, .slice sw ar.length cw])] ?_ (by kernel_rfl) (by kernel_rfl) 4 rfl (by kernel_rfl) 2 _ rfl rfl 6 (by kernel_rfl) ?_ ?_)
  · intro p hp
    simp only [List.mem_cons, List.not_mem_nil, or_false] at hp
    rcases hp with rfl | rfl
    · rintro v w1 w2 ⟨bc, bp, bf, e, h1, h2⟩ hb
      exact ⟨bc, bp, bf, e, h1.up hb, h2⟩
    · exact fun _ _ _ h _ => h
  · refine ⟨?_, ?_, trivial⟩
    · intro a wx hB hold hdep K hK
      have HBs := hB.size; clear hold hdep; go_simp; refine (HNc.out wx).mono ?_; rintro _ w9 ⟨bc, bp, bf, rfl, hc, hn, hb9⟩; (have HC9 : Hid (CkA w9 bc bp bf 0 (fun _ => none) (fun _ => none) ∧ New3 w.heap.size bc bp bf) := ⟨hc, by obtain ⟨n1, n2, n3⟩ := hn; exact ⟨by omega, by omega, by omega⟩⟩); clear hc hn; go_simp; exact hK.out _ _ ⟨bc, bp, bf, rfl, HC9.out.1, HC9.out.2⟩ hb9
    · intro a wx hB hold hdep K hK
      have t0 : a.tmps[0]? = some (.pointer (some ⟨be, 0, none⟩)) := hold.2.2 0 rfl; have hqb := blk2 (below_keep hB HQ.out); obtain ⟨f0, f1, -⟩ := hqb; clear hold hdep; go_simp; exact hK.out _ _ rfl (Below.refl _ _)
  · intro a wx hB hold hgot K hK
    (obtain ⟨A, tA, pA⟩ := hgot 0 _ 1 (by omega) rfl rfl); (obtain ⟨B, tB, pB⟩ := hgot 1 _ 2 (by omega) rfl rfl); have eB : B = (.agg #[.string n, .slice sw ar.length cw]) := pB; subst eB; obtain ⟨bc, bp, bf, rfl, hca, hna⟩ := pA; (have HCx : Hid (CkA wx bc bp bf 0 (fun _ => none) (fun _ => none) ∧ New3 w.heap.size bc bp bf) := ⟨hca, hna⟩); have HBx : Hid (Below w.heap.size w wx) := hB; obtain ⟨tm, df⟩ := a; (obtain ⟨ys, hys, htm, rfl⟩ := frame_mid2 1 3 (by kernel_rfl) (Nat.le_of_ble_eq_true rfl) hold); obtain ⟨z1, z2, z3, rfl⟩ := rowFW3 ys hys; simp only [List.take_succ_cons, List.take_zero, List.drop_succ_cons, List.drop_zero, List.cons_append, List.nil_append] at htm; subst htm; obtain rfl : z1 = _ := someInjM tA; obtain rfl : z2 = _ := someInjM tB; clear hys hold hgot tA tB hB hca hna
    cases x with
    | ok s p f =>
      go_simp; refine (HEx.out wx bc bp bf HBx.out HCx.out.2 HCx.out.1).mono ?_; rintro _ w5 ⟨hk5, rfl, -⟩; have HB5 : Hid (Below w.heap.size w w5) := kept3 HBx.out HCx.out.2 hk5; clear hk5; go_simp; refine hK.out _ _ ?_; clear hK; go_wp2_with fail
      go_end0
      exact ⟨kept_of_below (ok := fun _ => True) (B := w.heap.size) HB5.out (fun _ h _ => h), rfl⟩
    | bad c a =>
      go_simp; refine (HEx.out wx bc bp bf HBx.out HCx.out.2 HCx.out.1).mono ?_; rintro e w5 ⟨hk5, he5⟩; obtain rfl : e = _ := he5; (exact ⟨rfl, kept_of_below (ok := fun _ => True) (B := w.heap.size) (kept3 HBx.out HCx.out.2 hk5) (fun _ h _ => h), rfl⟩)
/-- Caught: its code. -/
theorem wcaught_any (be : Nat) (y : Wd) (n : ByteArray) (u : Value) (w : World) (q0 : w.heap[be]? = some (.cells #[.string n, u] 27 (0, 0))) (hrep : WRp w y (.agg #[.string n, u])) :
    Calls Tryz.prog 47 #[.func (.func 48) #[] #[.pointer (some ⟨be, 0, none⟩)]] w fun e w' => e = .returned (.agg #[.int .i64 (pwcode y).1, .int .i64 (pwcode y).2]) ∧ Below w.heap.size w w' := by
  obtain ⟨n', ar⟩ := y; obtain ⟨sw, cw, e0, -⟩ := WRp.def.1 hrep; simp only [Value.agg.injEq, Array.mk.injEq, List.cons.injEq, and_true, Value.string.injEq] at e0; obtain ⟨rfl, rfl⟩ := e0; have hq := alloc_keep q0 (.cells #[.int .i64 0, .int .i64 0] 32 (0, 0)); have hr : WRp (w.alloc (.cells #[.int .i64 0, .int .i64 0] 32 (0, 0))) (.mk n ar) (.agg #[.string n, .slice sw ar.length cw]) := hrep.up (below_more (Below.refl _ _) _); (have fin : ∀ {w1 w2 : World}, Below w.heap.size w w1 → Kept (· ≠ w.heap.size) w1 w2 → Below w.heap.size w w2 := fun h1 h2 => h1.trans (h2.below h1.size fun b hb e => by omega))
  rcases hx : wchk (.mk n ar) 0 (fun _ => none) (fun _ => none) with ⟨c, a⟩ | ⟨s, p, f⟩
  · have hcode : pwcode (.mk n ar) = (c, (a : Int)) := by simp only [pwcode, hx]
    rw [hcode]; (refine (caught_bad 48 _ _ (fun w1 => Below w.heap.size w w1) c a (wput1_in _) ?_).mono ?_)
    · refine (wput1_any be n ar sw cw _ hq hr _ hx).mono ?_
      rintro e w1 ⟨hk, rfl⟩; (exact ⟨rfl, (hk.block _ (by simp) trivial).trans (blk_new _ _), (((Kept.refl _ w).alloc _).trans hk).below (Nat.le_refl _) (fun _ _ => trivial)⟩)
    · rintro e w2 ⟨rfl, w1, hb1, hk2⟩
      exact ⟨rfl, fin hb1 hk2⟩
  · have hcode : pwcode (.mk n ar) = (0, 0) := by simp only [pwcode, hx]
    rw [hcode]; (refine (caught_ok 48 _ _ (fun w1 => Below w.heap.size w w1) (wput1_in _) ?_).mono ?_)
    · refine (wput1_any be n ar sw cw _ hq hr _ hx).mono ?_
      rintro e w1 ⟨hk, rfl⟩; (exact ⟨rfl, (hk.block _ (by simp) trivial).trans (blk_new _ _), (((Kept.refl _ w).alloc _).trans hk).below (Nat.le_refl _) (fun _ _ => trivial)⟩)
    · rintro e w2 ⟨rfl, w1, hb1, hk2⟩
      exact ⟨rfl, fin hb1 hk2⟩
end Go.Proofs.YtheiikkeelbjnajGreat
/- Plain: what Check passes has short names. -/
namespace Go.Proofs.YtheiikkeelbjnajGreat
open Go.RowKit Go.Sort

theorem nm_sm {n : ByteArray} (h : isNm n.data.toList = true ∨ isBg n.data.toList = true) : n.size ≤ 281474976710656 := by
  have e : n.data.toList.length = n.size := Array.length_toList
  rcases h with h | h
  · have := (isNm_bd h).2
    omega
  · rcases hl : n.data.toList with _ | ⟨c, l⟩
    · rw [hl] at h; cases h
    · rw [hl] at h e
      unfold isBg at h; simp only [Bool.and_eq_true, decide_eq_true_eq] at h; simp only [List.length_cons] at e; omega
theorem wnode_nm {n : ByteArray} {al : Nat} (h : wnodeF n al = none) : isNm n.data.toList = true ∨ isBg n.data.toList = true := by
  unfold wnodeF at h
  split at h
  · cases h
  · rename_i h2
    rcases ha : isNm n.data.toList with _ | _
    · rcases hb : isBg n.data.toList with _ | _
      · exact absurd ⟨ha, hb⟩ h2
      · exact Or.inr rfl
    · exact Or.inl rfl
theorem enode_sm {k : Int} {n : ByteArray} {wl kl : Nat} (h : enodeF k n wl kl = none) : n.size ≤ 281474976710656 := by
  unfold enodeF at h
  split at h
  · cases h
  · split at h
    · cases h
    · split at h
      · cases h
      · rename_i h3
        (have h4 : enameB k n.data.toList = true := by simpa using h3); unfold enameB at h4
        split at h4
        · exact nm_sm (Or.inr h4)
        · split at h4
          · exact nm_sm (Or.inl h4)
          · have e : n.data.toList.length = n.size := Array.length_toList
            rw [List.isEmpty_iff.1 h4] at e; simp only [List.length_nil] at e; omega
mutual
theorem wchk_sm : ∀ (x : Wd) (s : Nat) (p f : PlF) (s' : Nat) (p' f' : PlF), wchk x s p f = .ok s' p' f' → Wsm x
  | .mk n ar, s, p, f, s', p', f', h => by
    rw [wchk] at h
    split at h
    · cases h
    · split at h
      · cases h
      · rename_i h1
        have hn := nm_sm (wnode_nm h1); rw [Wsm]
        split at h
        · split at h
          · cases h
          · exact ⟨hn, wchks_sm ar _ _ _ _ _ _ h⟩
        · exact ⟨hn, wchks_sm ar _ _ _ _ _ _ h⟩
theorem wchks_sm : ∀ (l : List Wd) (s : Nat) (p f : PlF) (s' : Nat) (p' f' : PlF), wchks l s p f = .ok s' p' f' → Wsms l
  | [], _, _, _, _, _, _, _ => by rw [Wsms]; trivial
  | x :: xs, s, p, f, s', p', f', h => by
    rw [wchks] at h
    split at h
    · cases h
    · rename_i h1
      rw [Wsms]; exact ⟨wchk_sm x _ _ _ _ _ _ h1, wchks_sm xs _ _ _ _ _ _ h⟩
end
mutual
theorem echk_sm : ∀ (x : Ex) (s : Nat) (p f : PlF) (s' : Nat) (p' f' : PlF), echk x s p f = .ok s' p' f' → Esm x
  | .mk k n ws ks, s, p, f, s', p', f', h => by
    rw [echk] at h
    split at h
    · cases h
    · split at h
      · cases h
      · rename_i hn
        split at h
        · cases h
        · split at h
          · cases h
          · rename_i h2
            rw [Esm]; exact ⟨enode_sm hn, wchks_sm ws _ _ _ _ _ _ h2, echks_sm ks _ _ _ _ _ _ h⟩
theorem echks_sm : ∀ (l : List Ex) (s : Nat) (p f : PlF) (s' : Nat) (p' f' : PlF), echks l s p f = .ok s' p' f' → Esms l
  | [], _, _, _, _, _, _, _ => by rw [Esms]; trivial
  | x :: xs, s, p, f, s', p', f', h => by
    rw [echks] at h
    split at h
    · cases h
    · rename_i h1
      rw [Esms]; exact ⟨echk_sm x _ _ _ _ _ _ h1, echks_sm xs _ _ _ _ _ _ h⟩
end
theorem pwcode_ok {y : Wd} (h : (pwcode y).1 = 0) : pwcode y = (0, 0) ∧ y.size ≤ 200 ∧ Wsm y ∧ ∃ s p f, wchk y 0 (fun _ => none) (fun _ => none) = .ok s p f := by
  unfold pwcode at h ⊢
  rcases he : wchk y 0 (fun _ => none) (fun _ => none) with ⟨c, a⟩ | ⟨s, p, f⟩
  · rw [he] at h
    simp only at h; exact absurd h (wchk_code _ _ _ _ _ _ he)
  · have := wchk_le y _ _ _ _ _ _ he (by omega)
    (exact ⟨rfl, by omega, wchk_sm _ _ _ _ _ _ _ he, s, p, f, rfl⟩)
/-- What Put says. -/
def putC (x : Ex) (nm : ByteArray) (y : Wd) (z : Ex) : Int × Int := if (ecode x).1 ≠ 0 then ecode x else if isNm nm.data.toList = false then (8, 0) else if (pwcode y).1 ≠ 0 then pwcode y else if 200 < szW x nm.data.toList y then (10, 0) else if (ecode z).1 ≠ 0 then (5, 0) else (0, 0)
end Go.Proofs.YtheiikkeelbjnajGreat
/- Walks: first.Put (made by gen/pbe.py). -/
namespace Go.Proofs.YtheiikkeelbjnajGreat
open Go.RowKit Go.Sort

/-- The boxes of Put lie in memory. -/
def Bx4 (w W : World) (o0 o1 o2 o3 : Obj) : Prop := Below w.heap.size w W ∧ W.heap[w.heap.size]? = some o0 ∧ W.heap[w.heap.size + 1]? = some o1 ∧ W.heap[w.heap.size + 1 + 1]? = some o2 ∧ W.heap[w.heap.size + 1 + 1 + 1]? = some o3
theorem Bx4.up {w W W' : World} {o0 o1 o2 o3 : Obj} (h : Bx4 w W o0 o1 o2 o3) (hb : Below W.heap.size W W') : Bx4 w W' o0 o1 o2 o3 := ⟨below_join h.1 hb, below_keep hb h.2.1, below_keep hb h.2.2.1, below_keep hb h.2.2.2.1, below_keep hb h.2.2.2.2⟩
theorem Bx4.start (w : World) (o0 o1 o2 o3 : Obj) : Bx4 w ((((w.alloc o0).alloc o1).alloc o2).alloc o3) o0 o1 o2 o3 := by
  (have e1 : (w.alloc o0).heap.size = w.heap.size + 1 := by simp); (have e2 : ((w.alloc o0).alloc o1).heap.size = w.heap.size + 1 + 1 := by simp); (have e3 : (((w.alloc o0).alloc o1).alloc o2).heap.size = w.heap.size + 1 + 1 + 1 := by simp); refine ⟨below_more (below_more (below_more (below_more (Below.refl _ w) _) _) _) _, alloc_keep (alloc_keep (alloc_keep (blk_new w _) _) _) _, ?_, ?_, ?_⟩
  · have := alloc_keep (alloc_keep (blk_new (w.alloc o0) o1) o2) o3
    rwa [e1] at this
  · have := alloc_keep (blk_new ((w.alloc o0).alloc o1) o2) o3
    rwa [e2] at this
  · have := blk_new (((w.alloc o0).alloc o1).alloc o2) o3
    rwa [e3] at this
theorem out_made2 {w5 w7 : World} {ob lo : Nat} {c0 c1 c2 c3 d0 d1 d2 d3 : Value} {X : Ex} (hb : Below w5.heap.size w5 w7) (hz : w7.heap[ob]? = some (.cells #[c0, c1, c2, c3] 25 (0, 0))) (hob : w5.heap.size ≤ ob) (hq : EQ w7 (lo ≤ ·) X (.agg #[d0, d1, d2, d3])) (hlo : ob < lo) (_ : w5.heap.size ≤ lo) :
    Below w5.heap.size w5 ((((w7.setCell ⟨ob, 0, none⟩ d0).setCell ⟨ob, 1, none⟩ d1).setCell ⟨ob, 2, none⟩ d2).setCell ⟨ob, 3, none⟩ d3) ∧ ((((w7.setCell ⟨ob, 0, none⟩ d0).setCell ⟨ob, 1, none⟩ d1).setCell ⟨ob, 2, none⟩ d2).setCell ⟨ob, 3, none⟩ d3).heap[ob]? = some (.cells #[d0, d1, d2, d3] 25 (0, 0)) ∧
    EQ ((((w7.setCell ⟨ob, 0, none⟩ d0).setCell ⟨ob, 1, none⟩ d1).setCell ⟨ob, 2, none⟩ d2).setCell ⟨ob, 3, none⟩ d3) (w5.heap.size ≤ ·) X (.agg #[d0, d1, d2, d3]) := by
  (refine ⟨(((hb.setCell hob _).setCell hob _).setCell hob _).setCell hob _, ?_, EQ.move (fun b hl hok => ⟨?_, by omega⟩) _ _ hq⟩)
  · rw [blk_setS (blk_setS (blk_setS (blk_setS hz _) _) _) _]
    rfl
  · rw [blk_otherS _ (by omega), blk_otherS _ (by omega), blk_otherS _ (by omega), blk_otherS _ (by omega)]
theorem eq_shape {w : World} {ok : Nat → Prop} {x : Ex} {c0 c1 c2 c3 : Value} (h : EQ w ok x (.agg #[c0, c1, c2, c3])) : ∃ k n a l c a' l' c', c0 = .int .i64 k ∧ c1 = .string n ∧ c2 = .slice a l c ∧ c3 = .slice a' l' c' := by
  obtain ⟨k, n, ws, ks⟩ := x; obtain ⟨sw, cw, sk, ck, hv, -⟩ := EQ.def.1 h; simp only [Value.agg.injEq, Array.mk.injEq, List.cons.injEq, and_true] at hv; exact ⟨_, _, _, _, _, _, _, _, hv⟩
theorem whole_box {x : Ex} {v : Value} {nm : ByteArray} {y : Wd} {V W' w5 : World} {pb nb : Nat} (h : PtR V W' pb nb nm y (vrs (prWs [y])) (avs (prE [] x) ++ vrs (prWs [y])) 0) (hl : (avs (prE [] x) ++ vrs (prWs [y])).length ≤ 1000) (hx : ERp V x v) (h1 : x.size ≤ 200) (h2 : Esm x) (h3 : y.size ≤ 200) (h4 : Wsm y) (hnb : w5.heap.size ≤ nb) (hb : Below w5.heap.size w5 W') :
    Calls Tryz.prog 53 #[.pointer (some ⟨pb, 0, none⟩), v] W' fun e w' => ∃ (t0 : BT) (k9 : Int) (n9 : ByteArray) (ws9 : List Wd) (ks9 : List Ex) (sw9 : Option Addr) (cw9 : Nat) (sk9 : Option Addr) (ck9 : Nat), e = .returned (.agg #[.int .i64 k9, .string n9, .slice sw9 ws9.length cw9, .slice sk9 ks9.length ck9]) ∧ putX nm y t0 x = .mk k9 n9 ws9 ks9 ∧ t0.1 = nm ∧ gY y t0 = y ∧ W'.heap.size ≤ w'.heap.size ∧ EQ w' (W'.heap.size ≤ ·) (.mk k9 n9 ws9 ks9) (.agg #[.int .i64 k9, .string n9, .slice sw9 ws9.length cw9, .slice sk9 ks9.length ck9]) ∧ Below w5.heap.size w5 w' ∧ Kept (· ≠ nb) W' w' := by
  refine (pwhole_any V W' pb nb nm y _ _ h hl x v hx h1 h2 h3 h4).mono ?_; rintro e w' ⟨u, t0, rfl, ht0, hg0, hq, hk⟩; obtain ⟨z, hz⟩ : ∃ z, putX nm y t0 x = z := ⟨_, rfl⟩; (have hq2 : EQ w' (W'.heap.size ≤ ·) z u := by rw [← hz]; exact hq); obtain ⟨k9, n9, ws9, ks9⟩ := z; obtain ⟨sw9, cw9, sk9, ck9, rfl, -⟩ := EQ.def.1 hq2; (exact ⟨t0, k9, n9, ws9, ks9, sw9, cw9, sk9, ck9, rfl, hz, ht0, hg0, hk.size, hq2, hb.trans (hk.below hb.size fun b hb2 e => by omega), hk⟩)
/-- Put's answer lies in its last two boxes. -/
theorem put_end {w W : World} {c0 c1 c2 c3 d0 d1 e0 e1 e2 e3 f0 f1 : Value} {o0 o1 : Obj} {T0 T1 : TypeId} (h : Bx4 w W o0 o1 (.cells #[c0, c1, c2, c3] T0 (0, 0)) (.cells #[d0, d1] T1 (0, 0))) :
    Below w.heap.size w ((((((W.setCell ⟨w.heap.size + 1 + 1, 0, none⟩ e0).setCell ⟨w.heap.size + 1 + 1, 1, none⟩ e1).setCell ⟨w.heap.size + 1 + 1, 2, none⟩ e2).setCell ⟨w.heap.size + 1 + 1, 3, none⟩ e3).setCell ⟨w.heap.size + 1 + 1 + 1, 0, none⟩ f0).setCell ⟨w.heap.size + 1 + 1 + 1, 1, none⟩ f1) ∧
    ((((((W.setCell ⟨w.heap.size + 1 + 1, 0, none⟩ e0).setCell ⟨w.heap.size + 1 + 1, 1, none⟩ e1).setCell ⟨w.heap.size + 1 + 1, 2, none⟩ e2).setCell ⟨w.heap.size + 1 + 1, 3, none⟩ e3).setCell ⟨w.heap.size + 1 + 1 + 1, 0, none⟩ f0).setCell ⟨w.heap.size + 1 + 1 + 1, 1, none⟩ f1).heap[w.heap.size + 1 + 1]? = some (.cells #[e0, e1, e2, e3] T0 (0, 0)) ∧
    ((((((W.setCell ⟨w.heap.size + 1 + 1, 0, none⟩ e0).setCell ⟨w.heap.size + 1 + 1, 1, none⟩ e1).setCell ⟨w.heap.size + 1 + 1, 2, none⟩ e2).setCell ⟨w.heap.size + 1 + 1, 3, none⟩ e3).setCell ⟨w.heap.size + 1 + 1 + 1, 0, none⟩ f0).setCell ⟨w.heap.size + 1 + 1 + 1, 1, none⟩ f1).heap[w.heap.size + 1 + 1 + 1]? = some (.cells #[f0, f1] T1 (0, 0)) ∧
    (∀ b, b ≠ w.heap.size + 1 + 1 → b ≠ w.heap.size + 1 + 1 + 1 → ((((((W.setCell ⟨w.heap.size + 1 + 1, 0, none⟩ e0).setCell ⟨w.heap.size + 1 + 1, 1, none⟩ e1).setCell ⟨w.heap.size + 1 + 1, 2, none⟩ e2).setCell ⟨w.heap.size + 1 + 1, 3, none⟩ e3).setCell ⟨w.heap.size + 1 + 1 + 1, 0, none⟩ f0).setCell ⟨w.heap.size + 1 + 1 + 1, 1, none⟩ f1).heap[b]? = W.heap[b]?) := by
  obtain ⟨hb, -, -, h2, h3⟩ := h; (refine ⟨((((((hb.setCell (p := ⟨w.heap.size + 1 + 1, 0, none⟩) (by simp only; omega) _).setCell (p := ⟨w.heap.size + 1 + 1, 1, none⟩) (by simp only; omega) _).setCell (p := ⟨w.heap.size + 1 + 1, 2, none⟩) (by simp only; omega) _).setCell (p := ⟨w.heap.size + 1 + 1, 3, none⟩) (by simp only; omega) _).setCell (p := ⟨w.heap.size + 1 + 1 + 1, 0, none⟩) (by simp only; omega) _).setCell (p := ⟨w.heap.size + 1 + 1 + 1, 1, none⟩) (by simp only; omega) _), ?_, ?_, fun b n2 n3 => ?_⟩)
  · rw [blk_otherS _ (by omega), blk_otherS _ (by omega), blk_setS (blk_setS (blk_setS (blk_setS h2 _) _) _) _]
    rfl
  · refine (blk_setS (blk_setS (T := T1) (cs := #[d0, d1]) ?_ _) _).trans rfl
    (rw [blk_otherS _ (by omega), blk_otherS _ (by omega), blk_otherS _ (by omega), blk_otherS _ (by omega)]); exact h3
  · rw [blk_otherS _ n3, blk_otherS _ n3, blk_otherS _ n2, blk_otherS _ n2, blk_otherS _ n2, blk_otherS _ n2]
set_option maxRecDepth 100000 in
set_option maxHeartbeats 16000000 in
theorem eput_any (x : Ex) (v : Value) (nm : ByteArray) (y : Wd) (u : Value) (w : World) (hx : ERp w x v) (hy : WRp w y u) (hnm : nm.size ≤ maxLen) :
    Calls Tryz.prog 11 #[v, .string nm, u] w fun e w' => ∃ (t0 : BT) (E : Value), t0.1 = nm ∧ gY y t0 = y ∧ e = .returned (.tuple #[E, .agg #[.int .i64 (putC x nm y (putX nm y t0 x)).1, .int .i64 (putC x nm y (putX nm y t0 x)).2]]) ∧ Below w.heap.size w w' ∧ ((putC x nm y (putX nm y t0 x)).1 = 0 → EQ w' (w.heap.size ≤ ·) (putX nm y t0 x) E) ∧ ((putC x nm y (putX nm y t0 x)).1 ≠ 0 → E = .agg #[.int .i64 0, .string ⟨#[]⟩, .slice none 0 0, .slice none 0 0]) := by
  (have HC : Hid (∀ W, Below w.heap.size w W → Calls Tryz.prog 45 #[v] W fun e w' => e = .returned (.agg #[.int .i64 (ecode x).1, .int .i64 (ecode x).2]) ∧ Below W.heap.size W w') := fun W h => echeck_any x v W (ERp.up h _ _ hx)); (have HVr : Hid (∀ W, Calls Tryz.prog 46 #[.string nm] W fun e w' => e = .returned (.bool (isNm nm.data.toList)) ∧ Below W.heap.size W w') := fun W => var_any nm hnm W); have HXx : Hid (ERp w x v) := hx; have HYy : Hid (WRp w y u) := hy
  have hgs : ∃ yn yv, u = .agg #[.string yn, yv] := by
    obtain ⟨n, ar⟩ := y; obtain ⟨sl, cap, e, -⟩ := WRp.def.1 hy; exact ⟨n, _, e⟩
  obtain ⟨yn, yv, rfl⟩ := hgs; have HG : Hid (gY y (nm, yn, yv) = y) := (gY_self hy).1; (have HCa : Hid (∀ W be, Below w.heap.size w W → W.heap[be]? = some (.cells #[.string yn, yv] 27 (0, 0)) → Calls Tryz.prog 47 #[.func (.func 48) #[] #[.pointer (some ⟨be, 0, none⟩)]] W fun e w' => e = .returned (.agg #[.int .i64 (pwcode y).1, .int .i64 (pwcode y).2]) ∧ Below W.heap.size W w') := fun W be h q => wcaught_any be y yn yv W q (hy.up h))
  have hsh : ∃ kd n sw wl cw sk kl ck, v = .agg #[.int .i64 kd, .string n, .slice sw wl cw, .slice sk kl ck] := by
    obtain ⟨kd, n, ws, ks⟩ := x; obtain ⟨sw, cw, sk, ck, e, -⟩ := ERp.def.1 hx; exact ⟨_, _, _, _, _, _, _, _, e⟩
  have hyh : ∃ sy yl cy, yv = .slice sy yl cy := by
    obtain ⟨n, ar⟩ := y; exact hy.slice'
  obtain ⟨kd, n, sw, wl, cw, sk, kl, ck, rfl⟩ := hsh; obtain ⟨sy, yl, cy, rfl⟩ := hyh; have HS0 : Hid (Bx4 w ((((w.alloc (.cells #[.int .i64 kd, .string n, .slice sw wl cw, .slice sk kl ck] 25 (0, 0))).alloc (.cells #[.string yn, .slice sy yl cy] 27 (0, 0))).alloc (.cells #[.int .i64 0, .string ⟨#[]⟩, .slice none 0 0, .slice none 0 0] 25 (0, 0))).alloc (.cells #[.int .i64 0, .int .i64 0] 32 (0, 0))) (.cells #[.int .i64 kd, .string n, .slice sw wl cw, .slice sk kl ck] 25 (0, 0)) (.cells #[.string yn, .slice sy yl cy] 27 (0, 0)) (.cells #[.int .i64 0, .string ⟨#[]⟩, .slice none 0 0, .slice none 0 0] 25 (0, 0)) (.cells #[.int .i64 0, .int .i64 0] 32 (0, 0))) := Bx4.start w _ _ _ _; clear hx hy hnm; (have hmf : ∀ (fn : Fn) (first cap : Array Value) (w : World), (Instr.makeFunc fn first cap).run Tryz.prog w = .ok (.func fn first cap) w := fun _ _ _ _ => rfl)
  rcases hec : ecode x with ⟨c, a⟩
  rw [hec] at HC; by_cases hc : c ≠ 0
  · have hne' : (c != 0) = true := by simpa using hc
    (have HP : Hid (∀ z, putC x nm y z = (c, a)) := fun z => by unfold putC; rw [hec, if_pos hc]); have HNe : Hid (c ≠ 0) := hc; clear hec hc
    go_enter Tryz.func11, Tryz.ntmps11
    go_wp2_with (first
        | (go_at_call 45
           refine (HC.out _ HS0.out.1).mono ?_; rintro e w1 ⟨rfl, hb1⟩; have HS1 : Hid (Bx4 w w1 (.cells #[.int .i64 kd, .string n, .slice sw wl cw, .slice sk kl ck] 25 (0, 0)) (.cells #[.string yn, .slice sy yl cy] 27 (0, 0)) (.cells #[.int .i64 0, .string ⟨#[]⟩, .slice none 0 0, .slice none 0 0] 25 (0, 0)) (.cells #[.int .i64 0, .int .i64 0] 32 (0, 0))) := HS0.out.up hb1; obtain ⟨a0, a1, a2, a3⟩ := blk4L HS1.out.2.1; obtain ⟨z0, z1, z2, z3, z4, z5, z6, z7⟩ := blk4P HS1.out.2.2.2.1; obtain ⟨g0, g1, g2, g3⟩ := blk2 HS1.out.2.2.2.2; have l2 := lt_of_block HS1.out.2.2.2.1; have l3 := lt_of_block HS1.out.2.2.2.2
           clear hb1)
        | fail)
    go_region
    all_goals go_wp2_with fail
    obtain ⟨r1, r2, r3, r4⟩ := put_end (e0 := .int .i64 0) (e1 := .string ⟨#[]⟩) (e2 := .slice none 0 0) (e3 := .slice none 0 0) (f0 := .int .i64 c) (f1 := .int .i64 a) HS1.out; generalize hF : ((((((w1.setCell ⟨w.heap.size + 1 + 1, 0, none⟩ (.int .i64 0)).setCell ⟨w.heap.size + 1 + 1, 1, none⟩ (.string ⟨#[]⟩)).setCell ⟨w.heap.size + 1 + 1, 2, none⟩ (.slice none 0 0)).setCell ⟨w.heap.size + 1 + 1, 3, none⟩ (.slice none 0 0)).setCell ⟨w.heap.size + 1 + 1 + 1, 0, none⟩ (.int .i64 c)).setCell ⟨w.heap.size + 1 + 1 + 1, 1, none⟩ (.int .i64 a)) = F at r1 r2 r3 r4 ⊢; have hS : Below F.heap.size F (F.alloc (.cells #[.int .i64 c, .int .i64 a] 32 (0, 0))).drew := (below_more (Below.refl _ F) _).drew; have s1 := below_join r1 hS; have s2 := below_keep hS r2; have s3 := below_keep hS r3; generalize hW : (F.alloc (.cells #[.int .i64 c, .int .i64 a] 32 (0, 0))).drew = Wf at hS s1 s2 s3 ⊢; obtain ⟨k0, k1, k2, k3⟩ := blk4L s2; obtain ⟨m0, m1, -⟩ := blk2 s3; (exact bodyPost_ret (v := .tuple #[.agg #[.int .i64 0, .string ⟨#[]⟩, .slice none 0 0, .slice none 0 0], .agg #[.int .i64 c, .int .i64 a]]) (by simp [results, Tryz.results11, go_sem, k0, k1, k2, k3, m0, m1]) rfl ⟨(nm, yn, .slice sy yl cy), _, rfl, HG.out, by rw [HP.out], s1, fun h => by rw [HP.out] at h; exact absurd h HNe.out, fun _ => rfl⟩)
  (obtain ⟨s1', p1', f1', hck, hec0, hxs⟩ := ecode_ok (x := x) (by rw [hec]; simpa using hc)); have hE0 : (c, a) = ((0, 0) : Int × Int) := hec.symm.trans hec0; (obtain ⟨rfl, rfl⟩ : c = 0 ∧ a = 0 := by simpa using hE0); have HEc : Hid (ecode x = (0, 0) ∧ x.size ≤ 200 ∧ Esm x) := ⟨hec0, hxs, echk_sm _ _ _ _ _ _ _ hck⟩; clear hec hc hck hec0 hxs hE0
  rcases hnb : isNm nm.data.toList with _ | _
  · rw [hnb] at HVr
    (have HP : Hid (∀ z, putC x nm y z = (8, 0)) := fun z => by unfold putC; rw [HEc.out.1, if_neg (by simp), if_pos hnb]); (have HNe : Hid ((8 : Int) ≠ 0) := by show _ ≠ _; decide); clear hnb
    go_enter Tryz.func11, Tryz.ntmps11
    go_wp2_with (first
        | (go_at_call 45
           refine (HC.out _ HS0.out.1).mono ?_; rintro e w1 ⟨rfl, hb1⟩; have HS1 : Hid (Bx4 w w1 (.cells #[.int .i64 kd, .string n, .slice sw wl cw, .slice sk kl ck] 25 (0, 0)) (.cells #[.string yn, .slice sy yl cy] 27 (0, 0)) (.cells #[.int .i64 0, .string ⟨#[]⟩, .slice none 0 0, .slice none 0 0] 25 (0, 0)) (.cells #[.int .i64 0, .int .i64 0] 32 (0, 0))) := HS0.out.up hb1; obtain ⟨a0, a1, a2, a3⟩ := blk4L HS1.out.2.1; obtain ⟨z0, z1, z2, z3, z4, z5, z6, z7⟩ := blk4P HS1.out.2.2.2.1; obtain ⟨g0, g1, g2, g3⟩ := blk2 HS1.out.2.2.2.2; have l2 := lt_of_block HS1.out.2.2.2.1; have l3 := lt_of_block HS1.out.2.2.2.2
           clear hb1)
        | (go_at_call 46
           refine (HVr.out _).mono ?_; rintro e w3 ⟨rfl, hb3⟩; have HS3 : Hid (Bx4 w w3 (.cells #[.int .i64 kd, .string n, .slice sw wl cw, .slice sk kl ck] 25 (0, 0)) (.cells #[.string yn, .slice sy yl cy] 27 (0, 0)) (.cells #[.int .i64 0, .string ⟨#[]⟩, .slice none 0 0, .slice none 0 0] 25 (0, 0)) (.cells #[.int .i64 0, .int .i64 0] 32 (0, 0))) := (HS1.out.up (below_more (Below.refl _ _) _)).up hb3; clear a0 a1 a2 a3 z0 z1 z2 z3 z4 z5 z6 z7 g0 g1 g2 g3 l2 l3; obtain ⟨a0, a1, a2, a3⟩ := blk4L HS3.out.2.1; obtain ⟨y0, y1, -⟩ := blk2 HS3.out.2.2.1; obtain ⟨z0, z1, z2, z3, z4, z5, z6, z7⟩ := blk4P HS3.out.2.2.2.1; obtain ⟨g0, g1, g2, g3⟩ := blk2 HS3.out.2.2.2.2; have l0 := lt_of_block HS3.out.2.1; have l1 := lt_of_block HS3.out.2.2.1; have l2 := lt_of_block HS3.out.2.2.2.1; have l3 := lt_of_block HS3.out.2.2.2.2
           clear hb3)
        | fail)
    obtain ⟨r1, r2, r3, r4⟩ := put_end (e0 := .int .i64 0) (e1 := .string ⟨#[]⟩) (e2 := .slice none 0 0) (e3 := .slice none 0 0) (f0 := .int .i64 8) (f1 := .int .i64 0) HS3.out; generalize hF : ((((((w3.setCell ⟨w.heap.size + 1 + 1, 0, none⟩ (.int .i64 0)).setCell ⟨w.heap.size + 1 + 1, 1, none⟩ (.string ⟨#[]⟩)).setCell ⟨w.heap.size + 1 + 1, 2, none⟩ (.slice none 0 0)).setCell ⟨w.heap.size + 1 + 1, 3, none⟩ (.slice none 0 0)).setCell ⟨w.heap.size + 1 + 1 + 1, 0, none⟩ (.int .i64 8)).setCell ⟨w.heap.size + 1 + 1 + 1, 1, none⟩ (.int .i64 0)) = F at r1 r2 r3 r4 ⊢; have hS : Below F.heap.size F F := Below.refl _ F; have s1 := below_join r1 hS; have s2 := below_keep hS r2; have s3 := below_keep hS r3; obtain ⟨k0, k1, k2, k3⟩ := blk4L s2; obtain ⟨m0, m1, -⟩ := blk2 s3; (exact bodyPost_ret (v := .tuple #[.agg #[.int .i64 0, .string ⟨#[]⟩, .slice none 0 0, .slice none 0 0], .agg #[.int .i64 8, .int .i64 0]]) (by simp [results, Tryz.results11, go_sem, k0, k1, k2, k3, m0, m1]) rfl ⟨(nm, yn, .slice sy yl cy), _, rfl, HG.out, by rw [HP.out], s1, fun h => by rw [HP.out] at h; exact absurd h HNe.out, fun _ => rfl⟩)
  rw [hnb] at HVr; have HNb : Hid (isNm nm.data.toList = true) := hnb; clear hnb
  rcases hwc : pwcode y with ⟨cc, ca⟩
  rw [hwc] at HCa; by_cases hc2 : cc ≠ 0
  · have hne' : (cc != 0) = true := by simpa using hc2
    (have HP : Hid (∀ z, putC x nm y z = (cc, ca)) := fun z => by unfold putC; rw [HEc.out.1, if_neg (by simp), if_neg (by rw [HNb.out]; decide), hwc, if_pos hc2]); have HNe : Hid (cc ≠ 0) := hc2; clear hwc hc2
    go_enter Tryz.func11, Tryz.ntmps11
    go_wp2_with (first
        | (go_at_call 45
           refine (HC.out _ HS0.out.1).mono ?_; rintro e w1 ⟨rfl, hb1⟩; have HS1 : Hid (Bx4 w w1 (.cells #[.int .i64 kd, .string n, .slice sw wl cw, .slice sk kl ck] 25 (0, 0)) (.cells #[.string yn, .slice sy yl cy] 27 (0, 0)) (.cells #[.int .i64 0, .string ⟨#[]⟩, .slice none 0 0, .slice none 0 0] 25 (0, 0)) (.cells #[.int .i64 0, .int .i64 0] 32 (0, 0))) := HS0.out.up hb1; obtain ⟨a0, a1, a2, a3⟩ := blk4L HS1.out.2.1; obtain ⟨z0, z1, z2, z3, z4, z5, z6, z7⟩ := blk4P HS1.out.2.2.2.1; obtain ⟨g0, g1, g2, g3⟩ := blk2 HS1.out.2.2.2.2; have l2 := lt_of_block HS1.out.2.2.2.1; have l3 := lt_of_block HS1.out.2.2.2.2
           clear hb1)
        | (go_at_call 46
           refine (HVr.out _).mono ?_; rintro e w3 ⟨rfl, hb3⟩; have HS3 : Hid (Bx4 w w3 (.cells #[.int .i64 kd, .string n, .slice sw wl cw, .slice sk kl ck] 25 (0, 0)) (.cells #[.string yn, .slice sy yl cy] 27 (0, 0)) (.cells #[.int .i64 0, .string ⟨#[]⟩, .slice none 0 0, .slice none 0 0] 25 (0, 0)) (.cells #[.int .i64 0, .int .i64 0] 32 (0, 0))) := (HS1.out.up (below_more (Below.refl _ _) _)).up hb3; clear a0 a1 a2 a3 z0 z1 z2 z3 z4 z5 z6 z7 g0 g1 g2 g3 l2 l3; obtain ⟨a0, a1, a2, a3⟩ := blk4L HS3.out.2.1; obtain ⟨y0, y1, -⟩ := blk2 HS3.out.2.2.1; obtain ⟨z0, z1, z2, z3, z4, z5, z6, z7⟩ := blk4P HS3.out.2.2.2.1; obtain ⟨g0, g1, g2, g3⟩ := blk2 HS3.out.2.2.2.2; have l0 := lt_of_block HS3.out.2.1; have l1 := lt_of_block HS3.out.2.2.1; have l2 := lt_of_block HS3.out.2.2.2.1; have l3 := lt_of_block HS3.out.2.2.2.2
           clear hb3)
        | (go_at_call 47
           refine (HCa.out _ _ HS3.out.1 HS3.out.2.2.1).mono ?_; rintro e w4 ⟨rfl, hb4⟩; have HS4 : Hid (Bx4 w w4 (.cells #[.int .i64 kd, .string n, .slice sw wl cw, .slice sk kl ck] 25 (0, 0)) (.cells #[.string yn, .slice sy yl cy] 27 (0, 0)) (.cells #[.int .i64 0, .string ⟨#[]⟩, .slice none 0 0, .slice none 0 0] 25 (0, 0)) (.cells #[.int .i64 0, .int .i64 0] 32 (0, 0))) := HS3.out.up hb4; clear a0 a1 a2 a3 y0 y1 z0 z1 z2 z3 z4 z5 z6 z7 g0 g1 g2 g3 l0 l1 l2 l3; obtain ⟨a0, a1, a2, a3⟩ := blk4L HS4.out.2.1; obtain ⟨y0, y1, -⟩ := blk2 HS4.out.2.2.1; obtain ⟨z0, z1, z2, z3, z4, z5, z6, z7⟩ := blk4P HS4.out.2.2.2.1; obtain ⟨g0, g1, g2, g3⟩ := blk2 HS4.out.2.2.2.2; have l0 := lt_of_block HS4.out.2.1; have l1 := lt_of_block HS4.out.2.2.1; have l2 := lt_of_block HS4.out.2.2.2.1; have l3 := lt_of_block HS4.out.2.2.2.2
           clear hb4)
        | fail)
    go_region
    all_goals go_wp2_with fail
    obtain ⟨r1, r2, r3, r4⟩ := put_end (e0 := .int .i64 0) (e1 := .string ⟨#[]⟩) (e2 := .slice none 0 0) (e3 := .slice none 0 0) (f0 := .int .i64 cc) (f1 := .int .i64 ca) HS4.out; generalize hF : ((((((w4.setCell ⟨w.heap.size + 1 + 1, 0, none⟩ (.int .i64 0)).setCell ⟨w.heap.size + 1 + 1, 1, none⟩ (.string ⟨#[]⟩)).setCell ⟨w.heap.size + 1 + 1, 2, none⟩ (.slice none 0 0)).setCell ⟨w.heap.size + 1 + 1, 3, none⟩ (.slice none 0 0)).setCell ⟨w.heap.size + 1 + 1 + 1, 0, none⟩ (.int .i64 cc)).setCell ⟨w.heap.size + 1 + 1 + 1, 1, none⟩ (.int .i64 ca)) = F at r1 r2 r3 r4 ⊢; have hS : Below F.heap.size F (F.alloc (.cells #[.int .i64 cc, .int .i64 ca] 32 (0, 0))).drew := (below_more (Below.refl _ F) _).drew; have s1 := below_join r1 hS; have s2 := below_keep hS r2; have s3 := below_keep hS r3; generalize hW : (F.alloc (.cells #[.int .i64 cc, .int .i64 ca] 32 (0, 0))).drew = Wf at hS s1 s2 s3 ⊢; obtain ⟨k0, k1, k2, k3⟩ := blk4L s2; obtain ⟨m0, m1, -⟩ := blk2 s3; (exact bodyPost_ret (v := .tuple #[.agg #[.int .i64 0, .string ⟨#[]⟩, .slice none 0 0, .slice none 0 0], .agg #[.int .i64 cc, .int .i64 ca]]) (by simp [results, Tryz.results11, go_sem, k0, k1, k2, k3, m0, m1]) rfl ⟨(nm, yn, .slice sy yl cy), _, rfl, HG.out, by rw [HP.out], s1, fun h => by rw [HP.out] at h; exact absurd h HNe.out, fun _ => rfl⟩)
  (obtain ⟨hwc0, hys, hym, -⟩ := pwcode_ok (y := y) (by rw [hwc]; simpa using hc2)); have hW0 : (cc, ca) = ((0, 0) : Int × Int) := hwc.symm.trans hwc0; (obtain ⟨rfl, rfl⟩ : cc = 0 ∧ ca = 0 := by simpa using hW0); have HWc : Hid (pwcode y = (0, 0) ∧ y.size ≤ 200 ∧ Wsm y) := ⟨hwc0, hys, hym⟩; (have HSw : Hid (∀ W, Below w.heap.size w W → Calls Tryz.prog 51 #[.agg #[.int .i64 kd, .string n, .slice sw wl cw, .slice sk kl ck], .string nm, .agg #[.string yn, .slice sy yl cy]] W fun e w' => e = .returned (.int .i64 (szW x nm.data.toList y : Nat)) ∧ Below W.heap.size W w') := fun W h => sizeWith_any x nm y _ _ W (ERp.up h _ _ HXx.out) (HYy.out.up h) HEc.out.2.1 HWc.out.2.1); clear hwc hc2 hwc0 hys hym hW0; by_cases hsz : 200 < szW x nm.data.toList y
  · have hszI : (200 : Int) < ((szW x nm.data.toList y : Nat) : Int) := by omega
    (have HP : Hid (∀ z, putC x nm y z = (10, 0)) := fun z => by unfold putC; rw [HEc.out.1, if_neg (by simp), if_neg (by rw [HNb.out]; decide), HWc.out.1, if_neg (by simp), if_pos hsz]); (have HNe : Hid ((10 : Int) ≠ 0) := by show _ ≠ _; decide); generalize szW x nm.data.toList y = sz at *; clear hsz
    go_enter Tryz.func11, Tryz.ntmps11
    go_wp2_with (first
        | (go_at_call 45
           refine (HC.out _ HS0.out.1).mono ?_; rintro e w1 ⟨rfl, hb1⟩; have HS1 : Hid (Bx4 w w1 (.cells #[.int .i64 kd, .string n, .slice sw wl cw, .slice sk kl ck] 25 (0, 0)) (.cells #[.string yn, .slice sy yl cy] 27 (0, 0)) (.cells #[.int .i64 0, .string ⟨#[]⟩, .slice none 0 0, .slice none 0 0] 25 (0, 0)) (.cells #[.int .i64 0, .int .i64 0] 32 (0, 0))) := HS0.out.up hb1; obtain ⟨a0, a1, a2, a3⟩ := blk4L HS1.out.2.1; obtain ⟨z0, z1, z2, z3, z4, z5, z6, z7⟩ := blk4P HS1.out.2.2.2.1; obtain ⟨g0, g1, g2, g3⟩ := blk2 HS1.out.2.2.2.2; have l2 := lt_of_block HS1.out.2.2.2.1; have l3 := lt_of_block HS1.out.2.2.2.2
           clear hb1)
        | (go_at_call 46
           refine (HVr.out _).mono ?_; rintro e w3 ⟨rfl, hb3⟩; have HS3 : Hid (Bx4 w w3 (.cells #[.int .i64 kd, .string n, .slice sw wl cw, .slice sk kl ck] 25 (0, 0)) (.cells #[.string yn, .slice sy yl cy] 27 (0, 0)) (.cells #[.int .i64 0, .string ⟨#[]⟩, .slice none 0 0, .slice none 0 0] 25 (0, 0)) (.cells #[.int .i64 0, .int .i64 0] 32 (0, 0))) := (HS1.out.up (below_more (Below.refl _ _) _)).up hb3; clear a0 a1 a2 a3 z0 z1 z2 z3 z4 z5 z6 z7 g0 g1 g2 g3 l2 l3; obtain ⟨a0, a1, a2, a3⟩ := blk4L HS3.out.2.1; obtain ⟨y0, y1, -⟩ := blk2 HS3.out.2.2.1; obtain ⟨z0, z1, z2, z3, z4, z5, z6, z7⟩ := blk4P HS3.out.2.2.2.1; obtain ⟨g0, g1, g2, g3⟩ := blk2 HS3.out.2.2.2.2; have l0 := lt_of_block HS3.out.2.1; have l1 := lt_of_block HS3.out.2.2.1; have l2 := lt_of_block HS3.out.2.2.2.1; have l3 := lt_of_block HS3.out.2.2.2.2
           clear hb3)
        | (go_at_call 47
           refine (HCa.out _ _ HS3.out.1 HS3.out.2.2.1).mono ?_; rintro e w4 ⟨rfl, hb4⟩; have HS4 : Hid (Bx4 w w4 (.cells #[.int .i64 kd, .string n, .slice sw wl cw, .slice sk kl ck] 25 (0, 0)) (.cells #[.string yn, .slice sy yl cy] 27 (0, 0)) (.cells #[.int .i64 0, .string ⟨#[]⟩, .slice none 0 0, .slice none 0 0] 25 (0, 0)) (.cells #[.int .i64 0, .int .i64 0] 32 (0, 0))) := HS3.out.up hb4; clear a0 a1 a2 a3 y0 y1 z0 z1 z2 z3 z4 z5 z6 z7 g0 g1 g2 g3 l0 l1 l2 l3; obtain ⟨a0, a1, a2, a3⟩ := blk4L HS4.out.2.1; obtain ⟨y0, y1, -⟩ := blk2 HS4.out.2.2.1; obtain ⟨z0, z1, z2, z3, z4, z5, z6, z7⟩ := blk4P HS4.out.2.2.2.1; obtain ⟨g0, g1, g2, g3⟩ := blk2 HS4.out.2.2.2.2; have l0 := lt_of_block HS4.out.2.1; have l1 := lt_of_block HS4.out.2.2.1; have l2 := lt_of_block HS4.out.2.2.2.1; have l3 := lt_of_block HS4.out.2.2.2.2
           clear hb4)
        | (go_at_call 51
           refine (HSw.out _ (HS4.out.up (below_more (Below.refl _ _) _)).1).mono ?_; rintro e w5 ⟨rfl, hb5⟩; have HS5 : Hid (Bx4 w w5 (.cells #[.int .i64 kd, .string n, .slice sw wl cw, .slice sk kl ck] 25 (0, 0)) (.cells #[.string yn, .slice sy yl cy] 27 (0, 0)) (.cells #[.int .i64 0, .string ⟨#[]⟩, .slice none 0 0, .slice none 0 0] 25 (0, 0)) (.cells #[.int .i64 0, .int .i64 0] 32 (0, 0))) := (HS4.out.up (below_more (Below.refl _ _) _)).up hb5; clear a0 a1 a2 a3 y0 y1 z0 z1 z2 z3 z4 z5 z6 z7 g0 g1 g2 g3 l0 l1 l2 l3; obtain ⟨a0, a1, a2, a3⟩ := blk4L HS5.out.2.1; obtain ⟨y0, y1, -⟩ := blk2 HS5.out.2.2.1; obtain ⟨z0, z1, z2, z3, z4, z5, z6, z7⟩ := blk4P HS5.out.2.2.2.1; obtain ⟨g0, g1, g2, g3⟩ := blk2 HS5.out.2.2.2.2; have l0 := lt_of_block HS5.out.2.1; have l1 := lt_of_block HS5.out.2.2.1; have l2 := lt_of_block HS5.out.2.2.2.1; have l3 := lt_of_block HS5.out.2.2.2.2
           clear hb5)
        | fail)
    obtain ⟨r1, r2, r3, r4⟩ := put_end (e0 := .int .i64 0) (e1 := .string ⟨#[]⟩) (e2 := .slice none 0 0) (e3 := .slice none 0 0) (f0 := .int .i64 10) (f1 := .int .i64 0) HS5.out; generalize hF : ((((((w5.setCell ⟨w.heap.size + 1 + 1, 0, none⟩ (.int .i64 0)).setCell ⟨w.heap.size + 1 + 1, 1, none⟩ (.string ⟨#[]⟩)).setCell ⟨w.heap.size + 1 + 1, 2, none⟩ (.slice none 0 0)).setCell ⟨w.heap.size + 1 + 1, 3, none⟩ (.slice none 0 0)).setCell ⟨w.heap.size + 1 + 1 + 1, 0, none⟩ (.int .i64 10)).setCell ⟨w.heap.size + 1 + 1 + 1, 1, none⟩ (.int .i64 0)) = F at r1 r2 r3 r4 ⊢; have hS : Below F.heap.size F F := Below.refl _ F; have s1 := below_join r1 hS; have s2 := below_keep hS r2; have s3 := below_keep hS r3; obtain ⟨k0, k1, k2, k3⟩ := blk4L s2; obtain ⟨m0, m1, -⟩ := blk2 s3; (exact bodyPost_ret (v := .tuple #[.agg #[.int .i64 0, .string ⟨#[]⟩, .slice none 0 0, .slice none 0 0], .agg #[.int .i64 10, .int .i64 0]]) (by simp [results, Tryz.results11, go_sem, k0, k1, k2, k3, m0, m1]) rfl ⟨(nm, yn, .slice sy yl cy), _, rfl, HG.out, by rw [HP.out], s1, fun h => by rw [HP.out] at h; exact absurd h HNe.out, fun _ => rfl⟩)
  (have hszI : ¬ (200 : Int) < ((szW x nm.data.toList y : Nat) : Int) := by omega); (have HP : Hid (∀ z, putC x nm y z = if (ecode z).1 ≠ 0 then (5, 0) else (0, 0)) := fun z => by unfold putC; rw [HEc.out.1, if_neg (by simp), if_neg (by rw [HNb.out]; decide), HWc.out.1, if_neg (by simp), if_neg hsz]); generalize szW x nm.data.toList y = sz at *; clear hsz
  have HXs : Hid ((avs (prE [] x) ++ vrs (prWs [y])).length ≤ 1000) := by
    have h1 := avs_len (prE [] x); have h2 := vrs_len (prWs [y]); rw [prE_own] at h1; rw [prWs_len, Wd.sizes, Wd.sizes] at h2; have h3 := HEc.out.2.1; have h4 := HWc.out.2.1; show _ ≤ _; rw [List.length_append]; omega
  (have HNp : Hid (∀ W, Below w.heap.size w W → Calls Tryz.prog 52 #[.agg #[.int .i64 kd, .string n, .slice sw wl cw, .slice sk kl ck], .string nm, .agg #[.string yn, .slice sy yl cy]] W fun e w' => ∃ pb nb V, e = .returned (.pointer (some ⟨pb, 0, none⟩)) ∧ Below w.heap.size w V ∧ W.heap.size ≤ V.heap.size ∧ PtR V w' pb nb nm y (vrs (prWs [y])) (avs (prE [] x) ++ vrs (prWs [y])) 0 ∧ Below W.heap.size W w') := fun W h => (newPutter_any W x _ (by have := HEc.out.2.1; omega) (ERp.up h _ _ HXx.out) nm y _ (by have := HWc.out.2.1; omega) (HYy.out.up h)).mono fun e w' ⟨pb, nb, g1, g2, _, g4⟩ => ⟨pb, nb, W, g1, h, Nat.le_refl _, g2, g4⟩); (have HWh : Hid (∀ V W' w5 pb nb, Below w.heap.size w V → PtR V W' pb nb nm y (vrs (prWs [y])) (avs (prE [] x) ++ vrs (prWs [y])) 0 → w5.heap.size ≤ nb → Below w5.heap.size w5 W' → Calls Tryz.prog 53 #[.pointer (some ⟨pb, 0, none⟩), .agg #[.int .i64 kd, .string n, .slice sw wl cw, .slice sk kl ck]] W' _) := fun V W' w5 pb nb h h2 h3 h4 => whole_box h2 HXs.out (ERp.up h _ _ HXx.out) HEc.out.2.1 HEc.out.2.2 HWc.out.2.1 HWc.out.2.2 h3 h4)
  go_enter Tryz.func11, Tryz.ntmps11
  go_wp2_with (first
      | (go_at_call 45
         refine (HC.out _ HS0.out.1).mono ?_; rintro e w1 ⟨rfl, hb1⟩; have HS1 : Hid (Bx4 w w1 (.cells #[.int .i64 kd, .string n, .slice sw wl cw, .slice sk kl ck] 25 (0, 0)) (.cells #[.string yn, .slice sy yl cy] 27 (0, 0)) (.cells #[.int .i64 0, .string ⟨#[]⟩, .slice none 0 0, .slice none 0 0] 25 (0, 0)) (.cells #[.int .i64 0, .int .i64 0] 32 (0, 0))) := HS0.out.up hb1; obtain ⟨a0, a1, a2, a3⟩ := blk4L HS1.out.2.1; obtain ⟨z0, z1, z2, z3, z4, z5, z6, z7⟩ := blk4P HS1.out.2.2.2.1; obtain ⟨g0, g1, g2, g3⟩ := blk2 HS1.out.2.2.2.2; have l2 := lt_of_block HS1.out.2.2.2.1; have l3 := lt_of_block HS1.out.2.2.2.2
         clear hb1)
      | (go_at_call 46
         refine (HVr.out _).mono ?_; rintro e w3 ⟨rfl, hb3⟩; have HS3 : Hid (Bx4 w w3 (.cells #[.int .i64 kd, .string n, .slice sw wl cw, .slice sk kl ck] 25 (0, 0)) (.cells #[.string yn, .slice sy yl cy] 27 (0, 0)) (.cells #[.int .i64 0, .string ⟨#[]⟩, .slice none 0 0, .slice none 0 0] 25 (0, 0)) (.cells #[.int .i64 0, .int .i64 0] 32 (0, 0))) := (HS1.out.up (below_more (Below.refl _ _) _)).up hb3; clear a0 a1 a2 a3 z0 z1 z2 z3 z4 z5 z6 z7 g0 g1 g2 g3 l2 l3; obtain ⟨a0, a1, a2, a3⟩ := blk4L HS3.out.2.1; obtain ⟨y0, y1, -⟩ := blk2 HS3.out.2.2.1; obtain ⟨z0, z1, z2, z3, z4, z5, z6, z7⟩ := blk4P HS3.out.2.2.2.1; obtain ⟨g0, g1, g2, g3⟩ := blk2 HS3.out.2.2.2.2; have l0 := lt_of_block HS3.out.2.1; have l1 := lt_of_block HS3.out.2.2.1; have l2 := lt_of_block HS3.out.2.2.2.1; have l3 := lt_of_block HS3.out.2.2.2.2
         clear hb3)
      | (go_at_call 47
         refine (HCa.out _ _ HS3.out.1 HS3.out.2.2.1).mono ?_; rintro e w4 ⟨rfl, hb4⟩; have HS4 : Hid (Bx4 w w4 (.cells #[.int .i64 kd, .string n, .slice sw wl cw, .slice sk kl ck] 25 (0, 0)) (.cells #[.string yn, .slice sy yl cy] 27 (0, 0)) (.cells #[.int .i64 0, .string ⟨#[]⟩, .slice none 0 0, .slice none 0 0] 25 (0, 0)) (.cells #[.int .i64 0, .int .i64 0] 32 (0, 0))) := HS3.out.up hb4; clear a0 a1 a2 a3 y0 y1 z0 z1 z2 z3 z4 z5 z6 z7 g0 g1 g2 g3 l0 l1 l2 l3; obtain ⟨a0, a1, a2, a3⟩ := blk4L HS4.out.2.1; obtain ⟨y0, y1, -⟩ := blk2 HS4.out.2.2.1; obtain ⟨z0, z1, z2, z3, z4, z5, z6, z7⟩ := blk4P HS4.out.2.2.2.1; obtain ⟨g0, g1, g2, g3⟩ := blk2 HS4.out.2.2.2.2; have l0 := lt_of_block HS4.out.2.1; have l1 := lt_of_block HS4.out.2.2.1; have l2 := lt_of_block HS4.out.2.2.2.1; have l3 := lt_of_block HS4.out.2.2.2.2
         clear hb4)
      | (go_at_call 51
         refine (HSw.out _ (HS4.out.up (below_more (Below.refl _ _) _)).1).mono ?_; rintro e w5 ⟨rfl, hb5⟩; have HS5 : Hid (Bx4 w w5 (.cells #[.int .i64 kd, .string n, .slice sw wl cw, .slice sk kl ck] 25 (0, 0)) (.cells #[.string yn, .slice sy yl cy] 27 (0, 0)) (.cells #[.int .i64 0, .string ⟨#[]⟩, .slice none 0 0, .slice none 0 0] 25 (0, 0)) (.cells #[.int .i64 0, .int .i64 0] 32 (0, 0))) := (HS4.out.up (below_more (Below.refl _ _) _)).up hb5; clear a0 a1 a2 a3 y0 y1 z0 z1 z2 z3 z4 z5 z6 z7 g0 g1 g2 g3 l0 l1 l2 l3; obtain ⟨a0, a1, a2, a3⟩ := blk4L HS5.out.2.1; obtain ⟨y0, y1, -⟩ := blk2 HS5.out.2.2.1; obtain ⟨z0, z1, z2, z3, z4, z5, z6, z7⟩ := blk4P HS5.out.2.2.2.1; obtain ⟨g0, g1, g2, g3⟩ := blk2 HS5.out.2.2.2.2; have l0 := lt_of_block HS5.out.2.1; have l1 := lt_of_block HS5.out.2.2.1; have l2 := lt_of_block HS5.out.2.2.2.1; have l3 := lt_of_block HS5.out.2.2.2.2
         clear hb5)
      | fail)
  have HS5 : Hid (Bx4 w w5 (.cells #[.int .i64 kd, .string n, .slice sw wl cw, .slice sk kl ck] 25 (0, 0)) (.cells #[.string yn, .slice sy yl cy] 27 (0, 0)) (.cells #[.int .i64 0, .string ⟨#[]⟩, .slice none 0 0, .slice none 0 0] 25 (0, 0)) (.cells #[.int .i64 0, .int .i64 0] 32 (0, 0))) := HS5; have HB5 : Hid (Below w.heap.size w w5) := HS5.out.1
  go_cut [10] from 37 (fun v wc => ∃ (ob : Nat) (t0 : BT) (c0 c1 c2 c3 : Value), v = .pointer (some ⟨ob, 0, none⟩) ∧ t0.1 = nm ∧ gY y t0 = y ∧ Hid (Below w5.heap.size w5 wc) ∧ Hid (wc.heap[ob]? = some (.cells #[c0, c1, c2, c3] 25 (0, 0))) ∧ Hid (EQ wc (w5.heap.size ≤ ·) (putX nm y t0 x) (.agg #[c0, c1, c2, c3])))
  case first =>
    (have d0 : ¬ w5.heap.size = w.heap.size := by omega); (have d1 : ¬ w5.heap.size = w.heap.size + 1 := by omega)
    go_region_held3 (fun w' => w'.cell? ⟨w.heap.size, 0, none⟩ = some (.int .i64 kd) ∧ w'.cell? ⟨w.heap.size, 1, none⟩ = some (.string n) ∧ w'.cell? ⟨w.heap.size, 2, none⟩ = some (.slice sw wl cw) ∧ w'.cell? ⟨w.heap.size, 3, none⟩ = some (.slice sk kl ck) ∧ w'.cell? ⟨w.heap.size + 1, 0, none⟩ = some (.string yn) ∧ w'.cell? ⟨w.heap.size + 1, 1, none⟩ = some (.slice sy yl cy)) (go_keep)
      (first
       | (go_at_call 52
          (refine (HNp.out _ (by first | exact (HB5.out).drew | exact (below_more HB5.out _).drew | exact below_more HB5.out _ | exact HB5.out)).mono ?_); rintro e w6 ⟨pb, nb, V, rfl, hwv, hvs, hp6, hb6⟩; (have HB6 : Hid (Below w5.heap.size w5 w6) := (by first | exact below_join (Below.refl _ w5).drew hb6 | exact below_join (below_more (Below.refl _ w5) _).drew hb6)); have HP6 : Hid (PtR V w6 pb nb nm y (vrs (prWs [y])) (avs (prE [] x) ++ vrs (prWs [y])) 0) := hp6; have HW6 : Hid (Below w.heap.size w V) := hwv; (have HN6 : Hid (w5.heap.size ≤ nb ∧ nb < w6.heap.size) := ⟨by have := hp6.nb; simp at hvs; omega, by obtain ⟨_, _, h4, -⟩ := hp6.nx; exact lt_of_block h4⟩); (have e1 : ¬ w6.heap.size = w.heap.size := by have := HB6.out.size; omega); (have e2 : ¬ w6.heap.size = w.heap.size + 1 := by have := HB6.out.size; omega); obtain ⟨x0, x1, x2, x3⟩ := blk4L (below_keep HB6.out HS5.out.2.1); obtain ⟨x4, x5, -⟩ := blk2 (below_keep HB6.out HS5.out.2.2.1)
          try (have HY6 : Hid (w6.heap[w5.heap.size]? = some (.cells #[.int .i64 0, .string ⟨#[]⟩, .slice none 0 0, .slice none 0 0] 25 (0, 0))) := below_keep hb6 (blk_new_drew w5 (.cells #[.int .i64 0, .string ⟨#[]⟩, .slice none 0 0, .slice none 0 0] 25 (0, 0)))
               obtain ⟨q0, q1, q2, q3, q4, q5, q6, q7⟩ := blk4P HY6.out
               have q8 := lt_of_block HY6.out)
          clear hp6 hb6 hwv hvs)
       | (go_at_call 53
          (refine (HWh.out _ _ w5 pb nb HW6.out (by first | exact HP6.out | exact HP6.out.up (below_more (Below.refl _ _) _)) HN6.out.1 (by first | exact HB6.out | exact below_more HB6.out _)).mono ?_); rintro e w7 ⟨t0, k9, n9, ws9, ks9, sw9, cw9, sk9, ck9, rfl, hx5, ht0, hg0, hsz7, hq8, hb7, hk7⟩; have HB7 : Hid (Below w5.heap.size w5 w7) := hb7; (have e3 : ¬ w7.heap.size = w.heap.size := by have := HB7.out.size; omega); (have e4 : ¬ w7.heap.size = w.heap.size + 1 := by have := HB7.out.size; omega); obtain ⟨v0, v1, v2, v3⟩ := blk4L (below_keep HB7.out HS5.out.2.1); obtain ⟨v4, v5, -⟩ := blk2 (below_keep HB7.out HS5.out.2.2.1); have HX5 : Hid (putX nm y t0 x = .mk k9 n9 ws9 ks9 ∧ t0.1 = nm ∧ gY y t0 = y) := ⟨hx5, ht0, hg0⟩; have HQ8 : Hid (_ ≤ w7.heap.size ∧ EQ w7 _ (.mk k9 n9 ws9 ks9) (.agg #[.int .i64 k9, .string n9, .slice sw9 ws9.length cw9, .slice sk9 ks9.length ck9])) := ⟨hsz7, hq8⟩
          first
          | (have HY7 : Hid (w7.heap[w6.heap.size]? = some (.cells #[.int .i64 0, .string ⟨#[]⟩, .slice none 0 0, .slice none 0 0] 25 (0, 0))) := (hk7.block _ (by simp) (by have := HN6.out.2; omega)).trans (blk_new w6 (.cells #[.int .i64 0, .string ⟨#[]⟩, .slice none 0 0, .slice none 0 0] 25 (0, 0)))
             obtain ⟨p0, p1, p2, p3, p4, p5, p6, p7⟩ := blk4P HY7.out
             have p8 := lt_of_block HY7.out)
          | (have HY7 : Hid (w7.heap[w5.heap.size]? = some (.cells #[.int .i64 0, .string ⟨#[]⟩, .slice none 0 0, .slice none 0 0] 25 (0, 0))) := (hk7.block _ (lt_of_block HY6.out) (fun e => by have h9 := HY6.out; obtain ⟨_, _, h4, -⟩ := HP6.out.nx; rw [e, h4] at h9; simp at h9)).trans HY6.out
             obtain ⟨p0, p1, p2, p3, p4, p5, p6, p7⟩ := blk4P HY7.out
             have p8 := lt_of_block HY7.out)
          | skip
          clear hk7 ht0 hg0 hx5 hq8 hsz7 hb7)
       | fail)
    all_goals (go_wp2_with fail)
    all_goals go_meet
    all_goals
      have hs6 := HB6.out.size; have hs7 := HB7.out.size; obtain ⟨hx9, ht9, hg9⟩ := HX5.out
      first
      | exact ⟨w7.heap.size, t0, _, _, _, _, rfl, ht9, hg9, below_more HB7.out _, blk_new _ _, by rw [hx9]; exact EQ.move (fun b hb hok => ⟨Below.heap_alloc _ _ _ hb, by omega⟩) _ _ HQ8.out.2⟩
      | exact ⟨w6.heap.size, t0, _, _, _, _, rfl, ht9, hg9, (out_made2 HB7.out HY7.out hs6 HQ8.out.2 (by simp) (by simp; omega)).1, (out_made2 HB7.out HY7.out hs6 HQ8.out.2 (by simp) (by simp; omega)).2.1, by rw [hx9]; exact (out_made2 HB7.out HY7.out hs6 HQ8.out.2 (by simp) (by simp; omega)).2.2⟩
      | exact ⟨w5.heap.size, t0, _, _, _, _, rfl, ht9, hg9, (out_made2 HB7.out HY7.out (Nat.le_refl _) HQ8.out.2 (lt_of_block HY6.out) hs6).1, (out_made2 HB7.out HY7.out (Nat.le_refl _) HQ8.out.2 (lt_of_block HY6.out) hs6).2.1, by rw [hx9]; exact (out_made2 HB7.out HY7.out (Nat.le_refl _) HQ8.out.2 (lt_of_block HY6.out) hs6).2.2⟩
  case rest =>
    obtain ⟨ob, t0, c0, c1, c2, c3, rfl, ht0, hg0, HBc, HOc, HQc⟩ := hcut; obtain ⟨k9, n9, x9, l9, y9, x8, l8, y8, rfl, rfl, rfl, rfl⟩ := eq_shape HQc.out; have HTg : Hid (t0.1 = nm ∧ gY y t0 = y) := ⟨ht0, hg0⟩; (have HC2 : Hid (∀ W, Below wc.heap.size wc W → Calls Tryz.prog 45 #[.agg #[.int .i64 k9, .string n9, .slice x9 l9 y9, .slice x8 l8 y8]] W fun e w' => e = .returned (.agg #[.int .i64 (ecode (putX nm y t0 x)).1, .int .i64 (ecode (putX nm y t0 x)).2]) ∧ Below W.heap.size W w') := fun W h => echeck_any _ _ W (ERp.up h _ _ (EQ.rep _ _ HQc.out))); have HSc : Hid (Bx4 w wc (.cells #[.int .i64 kd, .string n, .slice sw wl cw, .slice sk kl ck] 25 (0, 0)) (.cells #[.string yn, .slice sy yl cy] 27 (0, 0)) (.cells #[.int .i64 0, .string ⟨#[]⟩, .slice none 0 0, .slice none 0 0] 25 (0, 0)) (.cells #[.int .i64 0, .int .i64 0] 32 (0, 0))) := HS5.out.up HBc.out; clear a0 a1 a2 a3 y0 y1 z0 z1 z2 z3 z4 z5 z6 z7 g0 g1 g2 g3 l0 l1 l2 l3 ht0 hg0; obtain ⟨o0, o1, o2, o3⟩ := blk4L HOc.out; (have hfc := fun a b w => fault_code a b w)
    rcases hz : ecode (putX nm y t0 x) with ⟨c9, a9⟩
    rw [hz] at HC2; (have HPz : Hid (putC x nm y (putX nm y t0 x) = if c9 ≠ 0 then (5, 0) else (0, 0)) := by show _ = _; rw [HP.out, hz]); by_cases hc9 : c9 ≠ 0
    · have hne9 : (c9 != 0) = true := by simpa using hc9
      (have HPy : Hid (putC x nm y (putX nm y t0 x) = (5, 0)) := by show _ = _; rw [HPz.out, if_pos hc9]); clear hz hc9
      go_wp2_with (first
          | (go_at_call 45
             refine (HC2.out _ (Below.refl _ _)).mono ?_; rintro e w8 ⟨rfl, hb8⟩; have HS8 : Hid (Bx4 w w8 (.cells #[.int .i64 kd, .string n, .slice sw wl cw, .slice sk kl ck] 25 (0, 0)) (.cells #[.string yn, .slice sy yl cy] 27 (0, 0)) (.cells #[.int .i64 0, .string ⟨#[]⟩, .slice none 0 0, .slice none 0 0] 25 (0, 0)) (.cells #[.int .i64 0, .int .i64 0] 32 (0, 0))) := HSc.out.up hb8; have HO8 : Hid (w8.heap[ob]? = _ ∧ Below wc.heap.size wc w8) := ⟨below_keep hb8 HOc.out, hb8⟩; obtain ⟨v0, v1, v2, v3⟩ := blk4L HO8.out.1; obtain ⟨z0, z1, z2, z3, z4, z5, z6, z7⟩ := blk4P HS8.out.2.2.2.1; obtain ⟨g0, g1, g2, g3⟩ := blk2 HS8.out.2.2.2.2; have l2 := lt_of_block HS8.out.2.2.2.1; have l3 := lt_of_block HS8.out.2.2.2.2
             clear hb8)
          | fail)
      obtain ⟨r1, r2, r3, r4⟩ := put_end (e0 := .int .i64 0) (e1 := .string ⟨#[]⟩) (e2 := .slice none 0 0) (e3 := .slice none 0 0) (f0 := .int .i64 5) (f1 := .int .i64 0) HS8.out; generalize hF : ((((((w8.setCell ⟨w.heap.size + 1 + 1, 0, none⟩ (.int .i64 0)).setCell ⟨w.heap.size + 1 + 1, 1, none⟩ (.string ⟨#[]⟩)).setCell ⟨w.heap.size + 1 + 1, 2, none⟩ (.slice none 0 0)).setCell ⟨w.heap.size + 1 + 1, 3, none⟩ (.slice none 0 0)).setCell ⟨w.heap.size + 1 + 1 + 1, 0, none⟩ (.int .i64 5)).setCell ⟨w.heap.size + 1 + 1 + 1, 1, none⟩ (.int .i64 0)) = F at r1 r2 r3 r4 ⊢; have hS : Below F.heap.size F F := Below.refl _ F; have s1 := below_join r1 hS; have s2 := below_keep hS r2; have s3 := below_keep hS r3; obtain ⟨k0, k1, k2, k3⟩ := blk4L s2; obtain ⟨m0, m1, -⟩ := blk2 s3; (exact bodyPost_ret (v := .tuple #[.agg #[.int .i64 0, .string ⟨#[]⟩, .slice none 0 0, .slice none 0 0], .agg #[.int .i64 5, .int .i64 0]]) (by simp [results, Tryz.results11, go_sem, k0, k1, k2, k3, m0, m1]) rfl ⟨t0, _, HTg.out.1, HTg.out.2, by rw [HPy.out], s1, fun h => by rw [HPy.out] at h; exact absurd h (by decide), fun _ => rfl⟩)
    · obtain rfl : c9 = 0 := by simpa using hc9
      (have HPy : Hid (putC x nm y (putX nm y t0 x) = (0, 0)) := by show _ = _; rw [HPz.out, if_neg hc9]); clear hz hc9
      go_wp2_with (first
          | (go_at_call 45
             refine (HC2.out _ (Below.refl _ _)).mono ?_; rintro e w8 ⟨rfl, hb8⟩; have HS8 : Hid (Bx4 w w8 (.cells #[.int .i64 kd, .string n, .slice sw wl cw, .slice sk kl ck] 25 (0, 0)) (.cells #[.string yn, .slice sy yl cy] 27 (0, 0)) (.cells #[.int .i64 0, .string ⟨#[]⟩, .slice none 0 0, .slice none 0 0] 25 (0, 0)) (.cells #[.int .i64 0, .int .i64 0] 32 (0, 0))) := HSc.out.up hb8; have HO8 : Hid (w8.heap[ob]? = _ ∧ Below wc.heap.size wc w8) := ⟨below_keep hb8 HOc.out, hb8⟩; obtain ⟨v0, v1, v2, v3⟩ := blk4L HO8.out.1; obtain ⟨z0, z1, z2, z3, z4, z5, z6, z7⟩ := blk4P HS8.out.2.2.2.1; obtain ⟨g0, g1, g2, g3⟩ := blk2 HS8.out.2.2.2.2; have l2 := lt_of_block HS8.out.2.2.2.1; have l3 := lt_of_block HS8.out.2.2.2.2
             clear hb8)
          | fail)
      obtain ⟨r1, r2, r3, r4⟩ := put_end (e0 := .int .i64 k9) (e1 := .string n9) (e2 := .slice x9 l9 y9) (e3 := .slice x8 l8 y8) (f0 := .int .i64 0) (f1 := .int .i64 0) HS8.out; have hz5 := HB5.out.size; have hl5 := lt_of_block HS5.out.2.2.2.1; have hl6 := lt_of_block HS5.out.2.2.2.2; generalize hF : ((((((w8.setCell ⟨w.heap.size + 1 + 1, 0, none⟩ (.int .i64 k9)).setCell ⟨w.heap.size + 1 + 1, 1, none⟩ (.string n9)).setCell ⟨w.heap.size + 1 + 1, 2, none⟩ (.slice x9 l9 y9)).setCell ⟨w.heap.size + 1 + 1, 3, none⟩ (.slice x8 l8 y8)).setCell ⟨w.heap.size + 1 + 1 + 1, 0, none⟩ (.int .i64 0)).setCell ⟨w.heap.size + 1 + 1 + 1, 1, none⟩ (.int .i64 0)) = F at r1 r2 r3 r4 ⊢; have hS : Below F.heap.size F F := Below.refl _ F; have s1 := below_join r1 hS; have s2 := below_keep hS r2; have s3 := below_keep hS r3; (have hE : EQ F (w.heap.size ≤ ·) (putX nm y t0 x) (.agg #[.int .i64 k9, .string n9, .slice x9 l9 y9, .slice x8 l8 y8]) := EQ.move (fun b hb hok => ⟨(r4 b (by omega) (by omega)).trans (HO8.out.2.block b hb), by omega⟩) _ _ HQc.out); obtain ⟨k0, k1, k2, k3⟩ := blk4L s2; obtain ⟨m0, m1, -⟩ := blk2 s3; (exact bodyPost_ret (v := .tuple #[.agg #[.int .i64 k9, .string n9, .slice x9 l9 y9, .slice x8 l8 y8], .agg #[.int .i64 0, .int .i64 0]]) (by simp [results, Tryz.results11, go_sem, k0, k1, k2, k3, m0, m1]) rfl ⟨t0, _, HTg.out.1, HTg.out.2, by rw [HPy.out], s1, fun _ => hE, fun h => by rw [HPy.out] at h; exact absurd rfl h⟩)
end Go.Proofs.YtheiikkeelbjnajGreat
