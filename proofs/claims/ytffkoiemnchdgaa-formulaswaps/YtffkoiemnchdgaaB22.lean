/- Texts of one proof, one behind the other: Put1. -/
import Derived.Test.YtffkoiemnchdgaaB20
import Derived.Test.YtffkoiemnchdgaaB21
/- Walks: copies, and a formula for a name. -/
namespace Go.Proofs.Ytffkoiemnchdgaa
open Go.RowKit

mutual
def putF (nm : ByteArray) (g : Fm) : Fm → Fm
  | .mk k n ks => if hasN nm (.mk k n []) = true then g else .mk k n (putFs nm g ks)
def putFs (nm : ByteArray) (g : Fm) : List Fm → List Fm
  | [] => []
  | f :: fs => putF nm g f :: putFs nm g fs
end
theorem putFs_map (nm : ByteArray) (g : Fm) : ∀ ks : List Fm, putFs nm g ks = ks.map (putF nm g)
  | [] => by rw [putFs]; rfl
  | f :: fs => by rw [putFs, putFs_map nm g fs]; rfl
theorem hasN_kids (nm : ByteArray) (k : Int) (n : ByteArray) (a b : List Fm) : hasN nm (.mk k n a) = hasN nm (.mk k n b) := rfl

def Copies (m : Nat) : Prop := ∀ (f : Fm) (v : Value) (w : World), f.size < m → Fine f → Rep w (fun _ => True) f v →
  Calls Try.prog 59 #[v] w fun e w' => ∃ u, e = .returned u ∧ Rep w' (w.heap.size ≤ ·) f u ∧ Below w.heap.size w w'

theorem copy_in (cap : Array Value) (w : World) : (callFunc 59 cap).run Try.prog w = .ok (.enter 59 cap) w := by
  simp [go_sem]

set_option maxHeartbeats 1000000 in
theorem copy_step (m : Nat) (ih : Copies m) : Copies (m + 1) := by
  intro f v w hm hf hrep; obtain ⟨k, n, ks⟩ := f; have hsm := hf.small
  have hre : ∀ v wx, Rep wx (fun _ => True) (.mk k n ks) v → Calls Try.prog 90 #[v, .func (.func 59) #[] #[]] wx fun e w' => ∃ u, e = .returned u ∧ Rep w' (wx.heap.size ≤ ·) (.mk k n ks) u ∧ Below wx.heap.size wx w' := fun v wx h => by
    (have := rebuilt_any 59 #[] (fun v w => copy_in _ w) (fun f => f) k n ks hsm.1 hsm.2 v wx h (fun i kid v wy hki _ hr => ih kid v wy (by have := sizes_get hki; rw [Fm.size] at hm; omega) (hf.kid i kid hki) hr)); rw [List.map_id'] at this; exact this
  have HRe : Hid (∀ v wx, _ → Calls Try.prog 90 _ wx _) := hre; obtain ⟨sl, cap, rfl⟩ := slice_shape hrep; clear hre
  go_enter Try.func59, Try.ntmps59
  go_wp2_with (first
    | (go_at_call 90
       refine (HRe.out _ _ ((hrep.more _).more _)).mono ?_; rintro e w1 ⟨u, rfl, hrep1, hb1⟩; obtain ⟨sl1, cap1, rfl⟩ := slice_shape hrep1; have q1 := below_keep hb1 (blk_new (w.alloc _) _); (rw [show (w.alloc _).heap.size = w.heap.size + 1 by simp] at q1); have B1 := below_join (below_more (below_more (Below.refl _ w) _) _) hb1
       obtain ⟨o0, o1, o2, o3, o4, o5⟩ := blk3 q1)
    | fail)
  have f3 := set3 q1 (.int .i64 k) (.string n) (.slice sl1 ks.length cap1); (have BF : Below w.heap.size w (((w1.setCell ⟨w.heap.size + 1, 0, none⟩ (.int .i64 k)).setCell ⟨w.heap.size + 1, 1, none⟩ (.string n)).setCell ⟨w.heap.size + 1, 2, none⟩ (.slice sl1 ks.length cap1)) := ((B1.setCell (by simp) _).setCell (by simp) _).setCell (by simp) _)
  have RF := hrep1.move (ok' := (w.heap.size ≤ ·)) (w' := ((w1.setCell ⟨w.heap.size + 1, 0, none⟩ (.int .i64 k)).setCell ⟨w.heap.size + 1, 1, none⟩ (.string n)).setCell ⟨w.heap.size + 1, 2, none⟩ (.slice sl1 ks.length cap1)) fun b _ hb => by
    (have hb' : w.heap.size + 2 ≤ b := by simpa using hb); (refine ⟨?_, by omega⟩); (rw [Below.heap_setCell _ _ _ _ (by simp; omega), Below.heap_setCell _ _ _ _ (by simp; omega), Below.heap_setCell _ _ _ _ (by simp; omega)])
  generalize World.setCell _ _ _ = F at f3 BF RF ⊢; clear o0 o1 o2 o3 o4 o5; obtain ⟨o0, o1, o2, -⟩ := blk3 f3; (exact bodyPost_ret (v := .agg #[.int .i64 k, .string n, .slice sl1 ks.length cap1]) (by simp [results, Try.results59, go_sem, o0, o1, o2]) rfl ⟨_, rfl, RF, BF⟩)

theorem copies_all : ∀ m, Copies m
  | 0 => fun _ _ _ h => absurd h (Nat.not_lt_zero _)
  | m + 1 => copy_step m (copies_all m)

theorem copyOf_any (f : Fm) (v : Value) (w : World) (hf : Fine f) (hrep : Rep w (fun _ => True) f v) :
    Calls Try.prog 59 #[v] w fun e w' => ∃ u, e = .returned u ∧ Rep w' (w.heap.size ≤ ·) f u ∧ Below w.heap.size w w' :=
  copies_all (f.size + 1) f v w (Nat.lt_succ_self _) hf hrep

def Repls (nm : ByteArray) (g : Fm) (m : Nat) : Prop := ∀ (f : Fm) (v u : Value) (w : World), f.size < m → Fine f → Rep w (fun _ => True) f v → Rep w (fun _ => True) g u →
  Calls Try.prog 63 #[v, .string nm, u] w fun e w' => ∃ x, e = .returned x ∧ Rep w' (w.heap.size ≤ ·) (putF nm g f) x ∧ Below w.heap.size w w'

theorem repl1_in (cap : Array Value) (w : World) : (callFunc 95 cap).run Try.prog w = .ok (.enter 95 cap) w := by
  simp [go_sem]

/-- A result's block is written last. -/
theorem out3 {W w : World} {bt : Nat} (hW : W.heap.size ≤ bt) {x0 x1 x2 : Value} {T : TypeId} (q : w.heap[bt]? = some (.cells #[x0, x1, x2] T (0, 0))) (B : Below W.heap.size W w) {f : Fm} {v : Value} {m : Nat} (hm : bt < m) (hrep : Rep w (m ≤ ·) f v) (y0 y1 y2 : Value) :
    (((w.setCell ⟨bt, 0, none⟩ y0).setCell ⟨bt, 1, none⟩ y1).setCell ⟨bt, 2, none⟩ y2).heap[bt]? = some (.cells #[y0, y1, y2] T (0, 0)) ∧ Below W.heap.size W (((w.setCell ⟨bt, 0, none⟩ y0).setCell ⟨bt, 1, none⟩ y1).setCell ⟨bt, 2, none⟩ y2) ∧ Rep (((w.setCell ⟨bt, 0, none⟩ y0).setCell ⟨bt, 1, none⟩ y1).setCell ⟨bt, 2, none⟩ y2) (W.heap.size ≤ ·) f v := by
  (refine ⟨set3 q _ _ _, ((B.setCell hW _).setCell hW _).setCell hW _, hrep.move fun b _ hb => ?_⟩); have hb' : m ≤ b := hb; (refine ⟨?_, by show W.heap.size ≤ b; omega⟩); (rw [Below.heap_setCell _ _ _ _ (by simp; omega), Below.heap_setCell _ _ _ _ (by simp; omega), Below.heap_setCell _ _ _ _ (by simp; omega)])

set_option maxHeartbeats 1000000 in
theorem repl1_any (nm : ByteArray) (g h : Fm) (nb gb : Nat) (kid : Fm) (v : Value) (w : World) (u : Value) (hu : Rep w (fun _ => True) g u) (c0 c1 c2 : Value) (hcu : u = .agg #[c0, c1, c2]) (h0 : w.heap[nb]? = some (.cells #[.string nm] 9 (0, 0))) (h1 : w.heap[gb]? = some (.cells #[c0, c1, c2] 24 (0, 0))) (hrep : Rep w (fun _ => True) kid v)
    (hr : ∀ v u wx, Rep wx (fun _ => True) kid v → Rep wx (fun _ => True) g u → Calls Try.prog 63 #[v, .string nm, u] wx fun e w' => ∃ x, e = .returned x ∧ Rep w' (wx.heap.size ≤ ·) h x ∧ Below wx.heap.size wx w') :
    Calls Try.prog 95 #[v, .pointer (some ⟨nb, 0, none⟩), .pointer (some ⟨gb, 0, none⟩)] w fun e w' => ∃ x, e = .returned x ∧ Rep w' (w.heap.size ≤ ·) h x ∧ Below w.heap.size w w' := by
  obtain ⟨k, n, ks⟩ := kid; obtain ⟨sl, cap, rfl⟩ := slice_shape hrep; obtain ⟨k3, n3, ks3⟩ := h; obtain ⟨kg, ng, ksg⟩ := g; obtain ⟨slg, capg, hug⟩ := slice_shape hu; rw [hug] at hcu; simp only [Value.agg.injEq, Array.mk.injEq, List.cons.injEq, and_true] at hcu; obtain ⟨rfl, rfl, rfl⟩ := hcu; subst hug; have HR : Hid (∀ v u wx, _ → _ → Calls Try.prog 63 _ wx _) := hr; have k0 := alloc_keep (alloc_keep h0 (.cells #[.int .i64 k, .string n, .slice sl ks.length cap] 24 (0, 0))) (.cells #[.int .i64 0, .string ⟨#[]⟩, .slice none 0 0] 24 (0, 0)); have k1 := alloc_keep (alloc_keep h1 (.cells #[.int .i64 k, .string n, .slice sl ks.length cap] 24 (0, 0))) (.cells #[.int .i64 0, .string ⟨#[]⟩, .slice none 0 0] 24 (0, 0)); obtain ⟨a0, -⟩ := blk1 k0; obtain ⟨a1, a2, a3, -⟩ := blk3 k1; clear hr
  go_enter Try.func95, Try.ntmps95
  go_wp2_with (first
    | (go_at_call 63
       refine (HR.out _ _ _ ((hrep.more _).more _) ((hu.more _).more _)).mono ?_; rintro e w1 ⟨x, rfl, hrep1, hb1⟩; obtain ⟨sl1, cap1, rfl⟩ := slice_shape hrep1; have q1 := below_keep hb1 (blk_new (w.alloc _) _); (rw [show (w.alloc _).heap.size = w.heap.size + 1 by simp] at q1); have B1 := below_join (below_more (below_more (Below.refl _ w) _) _) hb1; (have O := out3 (W := w) (bt := w.heap.size + 1) (by omega) q1 B1 (by simp) hrep1 (.int .i64 k3) (.string n3) (.slice sl1 ks3.length cap1))
       obtain ⟨o0, o1, o2, o3, o4, o5⟩ := blk3 q1)
    | fail)
  obtain ⟨f3, BF, RF⟩ := O; generalize World.setCell _ _ _ = F at f3 BF RF ⊢; clear o0 o1 o2 o3 o4 o5; obtain ⟨o0, o1, o2, -⟩ := blk3 f3; (exact bodyPost_ret (v := .agg #[.int .i64 k3, .string n3, .slice sl1 ks3.length cap1]) (by simp [results, Try.results95, go_sem, o0, o1, o2]) rfl ⟨_, rfl, RF, BF⟩)

set_option maxHeartbeats 2000000 in
theorem repl_step (nm : ByteArray) (g : Fm) (hg : Fine g) (m : Nat) (ih : Repls nm g m) : Repls nm g (m + 1) := by
  intro f v u w hm hf hrep hu; (have hhn := fun v w h => hasName_any f v nm w h); (have hcp := fun v w h => copyOf_any g v w hg h); obtain ⟨k, n, ks⟩ := f; have hsm := hf.small; (have hkid : ∀ (i : Nat) (kid : Fm), ks[i]? = some kid → kid.size < m ∧ Fine kid := fun i kid hki => ⟨by have := sizes_get hki; rw [Fm.size] at hm; omega, hf.kid i kid hki⟩); obtain ⟨kg, ng, ksg⟩ := g; obtain ⟨sl, cap, rfl⟩ := slice_shape hrep; obtain ⟨slg, capg, rfl⟩ := slice_shape hu; have N0 := (three (w := w) (o0 := .cells #[.int .i64 k, .string n, .slice sl ks.length cap] 24 (0, 0)) (o1 := .cells #[.string nm] 9 (0, 0)) (o2 := .cells #[.int .i64 kg, .string ng, .slice slg ksg.length capg] 24 (0, 0)) (o3 := .cells #[.int .i64 0, .string ⟨#[]⟩, .slice none 0 0] 24 (0, 0))); have BN : Below w.heap.size w ((((w.alloc (.cells #[.int .i64 k, .string n, .slice sl ks.length cap] 24 (0, 0))).alloc (.cells #[.string nm] 9 (0, 0))).alloc (.cells #[.int .i64 kg, .string ng, .slice slg ksg.length capg] 24 (0, 0))).alloc (.cells #[.int .i64 0, .string ⟨#[]⟩, .slice none 0 0] 24 (0, 0))) := below_more (below_more (below_more (below_more (Below.refl _ w) _) _) _) _; (have SN : w.heap.size + 4 ≤ ((((w.alloc (.cells #[.int .i64 k, .string n, .slice sl ks.length cap] 24 (0, 0))).alloc (.cells #[.string nm] 9 (0, 0))).alloc (.cells #[.int .i64 kg, .string ng, .slice slg ksg.length capg] 24 (0, 0))).alloc (.cells #[.int .i64 0, .string ⟨#[]⟩, .slice none 0 0] 24 (0, 0))).heap.size := by simp); have HH : Hid (∀ v w, _ → Calls Try.prog 93 _ w _) := hhn; have HC : Hid (∀ v w, _ → Calls Try.prog 59 _ w _) := hcp; (have hmf : ∀ (fn : Fn) (first cap : Array Value) (w : World), (Instr.makeFunc fn first cap).run Try.prog w = .ok (.func fn first cap) w := fun _ _ _ _ => rfl)
  rcases hb : hasN nm (.mk k n ks) with _ | _
  · have hphi : putF nm (.mk kg ng ksg) (.mk k n ks) = .mk k n (ks.map (putF nm (.mk kg ng ksg))) := by
      rw [putF, hasN_kids nm k n [] ks, hb, putFs_map]; rfl
    have hre : ∀ (v : Value) (wx : World), wx.heap[w.heap.size + 1]? = some (.cells #[.string nm] 9 (0, 0)) → wx.heap[w.heap.size + 2]? = some (.cells #[.int .i64 kg, .string ng, .slice slg ksg.length capg] 24 (0, 0)) → Rep wx (fun _ => True) (.mk kg ng ksg) (.agg #[.int .i64 kg, .string ng, .slice slg ksg.length capg]) → Rep wx (fun _ => True) (.mk k n ks) v → Calls Try.prog 90 #[v, .func (.func 95) #[] #[.pointer (some ⟨w.heap.size + 1, 0, none⟩), .pointer (some ⟨w.heap.size + 1 + 1, 0, none⟩)]] wx fun e w' => ∃ u, e = .returned u ∧ Rep w' (wx.heap.size ≤ ·) (.mk k n (ks.map (putF nm (.mk kg ng ksg)))) u ∧ Below wx.heap.size wx w' := fun v wx h1 h2 h3 h => by
      (refine rebuilt_any 95 #[.pointer (some ⟨w.heap.size + 1, 0, none⟩), .pointer (some ⟨w.heap.size + 1 + 1, 0, none⟩)] (fun v w => repl1_in _ w) (putF nm (.mk kg ng ksg)) k n ks hsm.1 hsm.2 v wx h (fun i kid v wy hki hby hr => ?_)); (exact repl1_any nm (.mk kg ng ksg) (putF nm (.mk kg ng ksg) kid) (w.heap.size + 1) (w.heap.size + 1 + 1) kid v wy _ (h3.up hby) _ _ _ rfl (below_keep hby h1) (below_keep hby h2) hr (fun v u wz hv hu => ih kid v u wz (hkid i kid hki).1 (hkid i kid hki).2 hv hu))
    have HRe : Hid (∀ (v : Value) (wx : World), _ → _ → _ → _ → Calls Try.prog 90 _ wx _) := hre; rw [hphi]; rw [hb] at HH; clear hre hphi hb hhn hcp; generalize (ks.map (putF nm (.mk kg ng ksg))) = ks3 at *
    go_enter Try.func63, Try.ntmps63
    go_wp2_with (first
      | (go_at_call 93
         refine (HH.out _ _ (hrep.up BN)).mono ?_; rintro e w1 ⟨rfl, hb1⟩; have B1 := below_join BN hb1; have q0 := below_keep hb1 N0.1; have q1 := below_keep hb1 N0.2.1; have q2 := below_keep hb1 N0.2.2.1; have q3 := below_keep hb1 N0.2.2.2; have R1 := hrep.up B1; have U1 := hu.up B1; have z1 := hb1.size; obtain ⟨a0, a1, a2, -⟩ := blk3 q0
         obtain ⟨d0, d1, d2, -⟩ := blk3 q2)
      | (go_at_call 90
         refine (HRe.out _ _ q1 q2 U1 R1).mono ?_; rintro e w2 ⟨x, rfl, hrep2, hb2⟩; obtain ⟨sl1, cap1, rfl⟩ := slice_shape hrep2; have B2 := below_join B1 hb2; have p3 := below_keep hb2 q3; (have O := out3 (W := w) (bt := w.heap.size + 1 + 1 + 1) (by omega) p3 B2 (by omega) hrep2 (.int .i64 k) (.string n) (.slice sl1 ks3.length cap1))
         obtain ⟨o0, o1, o2, o3, o4, o5⟩ := blk3 p3)
      | fail)
    obtain ⟨f3, BF, RF⟩ := O; generalize World.setCell _ _ _ = F at f3 BF RF ⊢; clear o0 o1 o2 o3 o4 o5; obtain ⟨o0, o1, o2, -⟩ := blk3 f3; (exact bodyPost_ret (v := .agg #[.int .i64 k, .string n, .slice sl1 ks3.length cap1]) (by simp [results, Try.results63, go_sem, o0, o1, o2]) rfl ⟨_, rfl, RF, BF⟩)
  · have hphi : putF nm (.mk kg ng ksg) (.mk k n ks) = .mk kg ng ksg := by
      rw [putF, hasN_kids nm k n [] ks, hb]; rfl
    rw [hphi]; rw [hb] at HH; clear hphi hb hhn hcp
    go_enter Try.func63, Try.ntmps63
    go_wp2_with (first
      | (go_at_call 93
         refine (HH.out _ _ (hrep.up BN)).mono ?_; rintro e w1 ⟨rfl, hb1⟩; have B1 := below_join BN hb1; have q0 := below_keep hb1 N0.1; have q1 := below_keep hb1 N0.2.1; have q2 := below_keep hb1 N0.2.2.1; have q3 := below_keep hb1 N0.2.2.2; have R1 := hrep.up B1; have U1 := hu.up B1; have z1 := hb1.size; obtain ⟨a0, a1, a2, -⟩ := blk3 q0
         obtain ⟨d0, d1, d2, -⟩ := blk3 q2)
      | (go_at_call 59
         refine (HC.out _ _ U1).mono ?_; rintro e w2 ⟨x, rfl, hrep2, hb2⟩; obtain ⟨sl1, cap1, rfl⟩ := slice_shape hrep2; have B2 := below_join B1 hb2; have p3 := below_keep hb2 q3; (have O := out3 (W := w) (bt := w.heap.size + 1 + 1 + 1) (by omega) p3 B2 (by omega) hrep2 (.int .i64 kg) (.string ng) (.slice sl1 ksg.length cap1))
         obtain ⟨o0, o1, o2, o3, o4, o5⟩ := blk3 p3)
      | fail)
    obtain ⟨f3, BF, RF⟩ := O; generalize World.setCell _ _ _ = F at f3 BF RF ⊢; clear o0 o1 o2 o3 o4 o5; obtain ⟨o0, o1, o2, -⟩ := blk3 f3; (exact bodyPost_ret (v := .agg #[.int .i64 kg, .string ng, .slice sl1 ksg.length cap1]) (by simp [results, Try.results63, go_sem, o0, o1, o2]) rfl ⟨_, rfl, RF, BF⟩)

theorem repls_all (nm : ByteArray) (g : Fm) (hg : Fine g) : ∀ m, Repls nm g m
  | 0 => fun _ _ _ _ h => absurd h (Nat.not_lt_zero _)
  | m + 1 => repl_step nm g hg m (repls_all nm g hg m)

theorem repl_any (f g : Fm) (v u : Value) (nm : ByteArray) (w : World) (hf : Fine f) (hg : Fine g) (hrep : Rep w (fun _ => True) f v) (hu : Rep w (fun _ => True) g u) :
    Calls Try.prog 63 #[v, .string nm, u] w fun e w' => ∃ x, e = .returned x ∧ Rep w' (w.heap.size ≤ ·) (putF nm g f) x ∧ Below w.heap.size w w' :=
  repls_all nm g hg (f.size + 1) f v u w (Nat.lt_succ_self _) hf hrep hu
end Go.Proofs.Ytffkoiemnchdgaa
