/- Texts of one proof, one behind the other: FT5. -/
import Derived.Test.YtheiikkeelbjnajGreatB38
import Derived.Test.YtheiikkeelbjnajGreatB23
/- Walks: first.Alike. -/
namespace Go.Proofs.YtheiikkeelbjnajGreat
open Go.RowKit Go.Sort

/-- What is wrong with one of two expressions, the first one first. -/
def alC (x y : Ex) : Int × Int := if (ecode x).1 ≠ 0 then ecode x else ecode y
theorem blkL8 {w : World} {b : Nat} {c0 c1 c2 c3 c4 c5 c6 c7 : Value} {T : TypeId} (h : w.heap[b]? = some (.cells #[c0, c1, c2, c3, c4, c5, c6, c7] T (0, 0))) : w.cell? ⟨b, 0, none⟩ = some c0 ∧ w.cell? ⟨b, 1, none⟩ = some c1 ∧ w.cell? ⟨b, 2, none⟩ = some c2 ∧ w.cell? ⟨b, 3, none⟩ = some c3 ∧ w.cell? ⟨b, 4, none⟩ = some c4 ∧ w.cell? ⟨b, 5, none⟩ = some c5 ∧ w.cell? ⟨b, 6, none⟩ = some c6 ∧ w.cell? ⟨b, 7, none⟩ = some c7 := ⟨blk_cell h 0, blk_cell h 1, blk_cell h 2, blk_cell h 3, blk_cell h 4, blk_cell h 5, blk_cell h 6, blk_cell h 7⟩
/-- Four boxes. -/
structure Bx4A (w W : World) (o0 o1 o2 o3 : Obj) : Prop where
  below : Below w.heap.size w W
  q0 : W.heap[w.heap.size]? = some o0
  q1 : W.heap[w.heap.size + 1]? = some o1
  q2 : W.heap[w.heap.size + 1 + 1]? = some o2
  q3 : W.heap[w.heap.size + 1 + 1 + 1]? = some o3
theorem Bx4A.up {w W W' : World} {o0 o1 o2 o3 : Obj} (h : Bx4A w W o0 o1 o2 o3) (hb : Below W.heap.size W W') : Bx4A w W' o0 o1 o2 o3 := ⟨below_join h.below hb, below_keep hb h.q0, below_keep hb h.q1, below_keep hb h.q2, below_keep hb h.q3⟩
theorem Bx4A.start (w : World) (o0 o1 o2 o3 : Obj) : Bx4A w ((((w.alloc o0).alloc o1).alloc o2).alloc o3) o0 o1 o2 o3 := by
  (have e1 : (w.alloc o0).heap.size = w.heap.size + 1 := by simp); (have e2 : ((w.alloc o0).alloc o1).heap.size = w.heap.size + 1 + 1 := by simp); (have e3 : (((w.alloc o0).alloc o1).alloc o2).heap.size = w.heap.size + 1 + 1 + 1 := by simp); refine ⟨below_more (below_more (below_more (below_more (Below.refl _ _) _) _) _) _, alloc_keep (alloc_keep (alloc_keep (blk_new w _) _) _) _, ?_, ?_, ?_⟩
  · have := alloc_keep (alloc_keep (blk_new (w.alloc o0) o1) o2) o3
    rwa [e1] at this
  · have := alloc_keep (blk_new ((w.alloc o0).alloc o1) o2) o3
    rwa [e2] at this
  · have := blk_new (((w.alloc o0).alloc o1).alloc o2) o3
    rwa [e3] at this
theorem ecode_sh {x : Ex} (h : (ecode x).1 = 0) : ESh x ∧ x.size ≤ 200 := by
  obtain ⟨s, p, f, h1, -, h3⟩ := ecode_ok h; exact ⟨echk_esh x _ _ _ _ _ _ h1, h3⟩
set_option maxRecDepth 10000 in
set_option maxHeartbeats 8000000 in
theorem alike_anyT (x y : Ex) (v u : Value) (w : World) (hx : ERp w x v) (hy : ERp w y u) :
    Calls Tryz.prog 24 #[v, u] w fun e w' => e = .returned (.tuple #[.bool (decide ((alC x y).1 = 0) && alE [] [] x y), .agg #[.int .i64 (alC x y).1, .int .i64 (alC x y).2]]) ∧ Below w.heap.size w w' := by
  have HRx : Hid (ERp w x v) := hx; have HRy : Hid (ERp w y u) := hy; have HSx : Hid ((ecode x).1 = 0 → ESh x ∧ x.size ≤ 200) := ecode_sh; have HSy : Hid ((ecode y).1 = 0 → ESh y ∧ y.size ≤ 200) := ecode_sh; (have HCh : Hid (∀ z v W, ERp W z v → Calls Tryz.prog 45 #[v] W fun e w' => e = .returned (.agg #[.int .i64 (ecode z).1, .int .i64 (ecode z).2]) ∧ Below W.heap.size W w') := fun z v W h => echeck_any z v W h); (have HCx : Hid ((ecode x).1 ≠ 0 → alC x y = ecode x) := fun h => by unfold alC; rw [if_pos h]); (have HCy : Hid ((ecode x).1 = 0 → alC x y = ecode y) := fun h => by unfold alC; rw [if_neg (by simpa using h)]); generalize hC : alC x y = C at *; generalize hA : alE [] [] x y = A at *
  have HAe : Hid (∀ W, Below w.heap.size w W → ESh x → ESh y → x.size ≤ 200 → Calls Tryz.prog 60 #[.agg #[.slice none 0 0, .slice none 0 0], v, u] W fun e w' => e = .returned (.bool A) ∧ Below W.heap.size W w') := fun W hb h1 h2 h3 => by
    (have h9 := alikeE_any W [] [] x y none none 0 0 v u W (by simp; omega) (by simp; omega) h1 h2 (ERp.up hb _ _ hx) (ERp.up hb _ _ hy) Rw2.nil (Below.refl _ _)); rw [hA] at h9; (exact h9.mono fun e w' h => ⟨h.1, h.2.below Rw2.nil (Nat.le_refl _)⟩)
  clear hC hA hx hy; obtain ⟨k, n, ws, ks⟩ := x; obtain ⟨j, m, us, js⟩ := y; obtain ⟨sw, cw, sk, ck, rfl, -⟩ := ERp.def.1 HRx.out; obtain ⟨su, cu, sj, cj, rfl, -⟩ := ERp.def.1 HRy.out; obtain ⟨W4, hW4⟩ : ∃ W4, W4 = ((((w.alloc (.cells #[.int .i64 k, .string n, .slice sw ws.length cw, .slice sk ks.length ck] 25 (0, 0))).alloc (.cells #[.int .i64 j, .string m, .slice su us.length cu, .slice sj js.length cj] 25 (0, 0))).alloc (.cells #[.int .i64 0, .int .i64 0] 32 (0, 0))).alloc (.cells #[.int .i64 k, .string n, .slice sw ws.length cw, .slice sk ks.length ck, .int .i64 j, .string m, .slice su us.length cu, .slice sj js.length cj] 25 (0, 0))) := ⟨_, rfl⟩; (have HX4 : Hid (Bx4A w W4 (.cells #[.int .i64 k, .string n, .slice sw ws.length cw, .slice sk ks.length ck] 25 (0, 0)) (.cells #[.int .i64 j, .string m, .slice su us.length cu, .slice sj js.length cj] 25 (0, 0)) (.cells #[.int .i64 0, .int .i64 0] 32 (0, 0)) (.cells #[.int .i64 k, .string n, .slice sw ws.length cw, .slice sk ks.length ck, .int .i64 j, .string m, .slice su us.length cu, .slice sj js.length cj] 25 (0, 0))) := by show Bx4A _ _ _ _ _ _; rw [hW4]; exact Bx4A.start w _ _ _ _)
  go_enter Tryz.func24, Tryz.ntmps24
  go_wp2_with fail; rw [← hW4]; clear hW4
  go_loopg [13, 7, 8] 2 (fun g c t s wr => ∃ i : Nat, i ≤ 2 ∧ g = 2 - i ∧ c = .int .i64 (i : Nat) ∧ Hid (Bx4A w wr (.cells #[.int .i64 k, .string n, .slice sw ws.length cw, .slice sk ks.length ck] 25 (0, 0)) (.cells #[.int .i64 j, .string m, .slice su us.length cu, .slice sj js.length cj] 25 (0, 0)) (.cells #[.int .i64 0, .int .i64 0] 32 (0, 0)) (.cells #[.int .i64 k, .string n, .slice sw ws.length cw, .slice sk ks.length ck, .int .i64 j, .string m, .slice su us.length cu, .slice sj js.length cj] 25 (0, 0))) ∧ Hid ((1 ≤ i → (ecode (.mk k n ws ks)).1 = 0) ∧ (2 ≤ i → (ecode (.mk j m us js)).1 = 0)))
  case atStart => exact ⟨0, by omega, by omega, rfl, HX4, ⟨fun h => by omega, fun h => by omega⟩⟩
  case round =>
    obtain ⟨i, hi, hg, rfl, HXr, HOk⟩ := hrel; have HG : Hid (gk = 2 - i) := hg; clear hg HX4; obtain ⟨a0, a1, a2, a3, a4, a5, a6, a7⟩ := blkL8 HXr.out.q3; have la := lt_of_block HXr.out.q3; by_cases h2 : i = 2
    · subst h2
      (have hox := HSx.out (HOk.out.1 (by omega))); (have hoy := HSy.out (HOk.out.2 (by omega))); have HAw : Hid (Calls Tryz.prog 60 _ wr _) := HAe.out wr HXr.out.below hox.1 hoy.1 hox.2
      have HC0 : Hid (C.1 = 0 ∧ C.2 = 0) := by
        (have e := HCy.out (HOk.out.1 (by omega))); (obtain ⟨-, -, -, -, h5, -⟩ := ecode_ok (HOk.out.2 (by omega))); rw [e, h5]; exact ⟨rfl, rfl⟩
      obtain ⟨C1, C2⟩ := C; obtain ⟨rfl, rfl⟩ : C1 = 0 ∧ C2 = 0 := HC0.out; clear hox hoy HC0 HCx HCy HAe HCh HSx HSy; obtain ⟨x0, x1, x2, x3⟩ := blk4L HXr.out.q0; have lx := lt_of_block HXr.out.q0; obtain ⟨y0, y1, y2, y3⟩ := blk4L HXr.out.q1; have ly := lt_of_block HXr.out.q1; clear a0 a1 a2 a3 a4 a5 a6 a7; go_wp2_with fail; refine HAw.out.mono ?_; rintro _ w5 ⟨rfl, hb5⟩; have HX5 := HXr.out.up hb5; obtain ⟨f0, f1, f2, f3⟩ := blk2 HX5.q2; have lf := lt_of_block HX5.q2; clear hb5 HAw; go_wp2_with fail; have g2 := set2 HX5.q2 (.int .i64 0) (.int .i64 0); (have b2 := (HX5.below.setCell (p := ⟨w.heap.size + 1 + 1, 0, none⟩) (by simp; omega) (.int .i64 0)).setCell (p := ⟨w.heap.size + 1 + 1, 1, none⟩) (by simp; omega) (.int .i64 0)); generalize World.setCell _ _ _ = F at g2 b2 ⊢; clear f0 f1 f2 f3; obtain ⟨f0, f1, -⟩ := blk2 g2; (exact bodyPost_ret (v := .tuple #[.bool A, .agg #[.int .i64 0, .int .i64 0]]) (by simp [results, Tryz.results24, go_sem, f0, f1]) rfl ⟨by simp, b2⟩)
    have hz : ∃ kz nz wz kkz swz cwz skz ckz, (ERp w (.mk kz nz wz kkz) (.agg #[.int .i64 kz, .string nz, .slice swz wz.length cwz, .slice skz kkz.length ckz]) ∧ ((i = 0 ∧ Ex.mk kz nz wz kkz = .mk k n ws ks) ∨ (i = 1 ∧ Ex.mk kz nz wz kkz = .mk j m us js))) ∧ wr.cell? ⟨w.heap.size + 1 + 1 + 1, i * 4, none⟩ = some (.int .i64 kz) ∧ wr.cell? ⟨w.heap.size + 1 + 1 + 1, i * 4 + 1, none⟩ = some (.string nz) ∧ wr.cell? ⟨w.heap.size + 1 + 1 + 1, i * 4 + 2, none⟩ = some (.slice swz wz.length cwz) ∧ wr.cell? ⟨w.heap.size + 1 + 1 + 1, i * 4 + 3, none⟩ = some (.slice skz kkz.length ckz) := by
      rcases i with _ | _ | i
      · exact ⟨k, n, ws, ks, sw, cw, sk, ck, ⟨HRx.out, Or.inl ⟨rfl, rfl⟩⟩, a0, a1, a2, a3⟩
      · exact ⟨j, m, us, js, su, cu, sj, cj, ⟨HRy.out, Or.inr ⟨rfl, rfl⟩⟩, a4, a5, a6, a7⟩
      · omega
    clear a0 a1 a2 a3 a4 a5 a6 a7; obtain ⟨kz, nz, wz, kkz, swz, cwz, skz, ckz, hzz, z0, z1, z2, z3⟩ := hz; have HZz : Hid _ := hzz; (have hiI : (i : Int) < 2 := by omega); (have HIi : Hid (i < 2) := by show i < 2; omega); (have HCz : Hid (∀ W, Below wr.heap.size wr W → Calls Tryz.prog 45 #[.agg #[.int .i64 kz, .string nz, .slice swz wz.length cwz, .slice skz kkz.length ckz]] W fun e w' => e = .returned (.agg #[.int .i64 (ecode (.mk kz nz wz kkz)).1, .int .i64 (ecode (.mk kz nz wz kkz)).2]) ∧ Below W.heap.size W w') := fun W hb => HCh.out _ _ W (ERp.up (below_join HXr.out.below hb) _ _ HZz.out.1)); clear hzz hi h2; go_wp2_with fail; refine (HCz.out _ (below_more (Below.refl _ _) _)).mono ?_; rintro _ w6 ⟨rfl, hb6⟩; have HX6 : Hid (Bx4A w w6 _ _ _ _) := HXr.out.up (below_join (below_more (Below.refl _ _) _) hb6); clear hb6 z0 z1 z2 z3 HCz la; by_cases hc : (ecode (.mk kz nz wz kkz)).1 = 0
    · have HC9 : Hid ((ecode (.mk kz nz wz kkz)).1 = 0) := hc
      have HX7 : Hid (Bx4A w (w6.alloc (.cells #[.int .i64 0, .int .i64 (ecode (.mk kz nz wz kkz)).2] 32 (0, 0))) _ _ _ _) := HX6.out.up (below_more (Below.refl _ _) _); rw [hc]; clear hc; go_wp2_with fail
      go_roundg (2 - (i + 1))
      case measure => have := HG.out; have := HIi.out; omega
      case rel =>
        (refine ⟨i + 1, HIi.out, rfl, by go_num, HX7, ⟨fun _ => ?_, fun h => ?_⟩⟩)
        · rcases HZz.out.2 with ⟨h1, h2⟩ | ⟨h1, h2⟩
          · exact h2 ▸ HC9.out
          · exact HOk.out.1 (by omega)
        · rcases HZz.out.2 with ⟨h1, h2⟩ | ⟨h1, h2⟩
          · omega
          · exact h2 ▸ HC9.out
    · have HCd : Hid (C = ecode (.mk kz nz wz kkz)) := by
        rcases HZz.out.2 with ⟨h1, h2⟩ | ⟨h1, h2⟩
        · show _ = _
          rw [h2] at hc ⊢; exact HCx.out hc
        · show _ = _
          rw [h2]; (exact HCy.out (HOk.out.1 (by omega)))
      have HCn : Hid (¬ (ecode (.mk kz nz wz kkz)).1 = 0) := hc; generalize ecode (.mk kz nz wz kkz) = ec at *; obtain ⟨c, d⟩ := ec; obtain ⟨C1, C2⟩ := C; obtain ⟨rfl, rfl⟩ : C1 = c ∧ C2 = d := ⟨congrArg Prod.fst HCd.out, congrArg Prod.snd HCd.out⟩; (have hne : (C1 != 0) = true := by simpa using hc); obtain ⟨f0, f1, f2, f3⟩ := blk2 HX6.out.q2; have lf := lt_of_block HX6.out.q2; (have HNF : Hid (¬ w.heap.size + 1 + 1 = w6.heap.size ∧ w.heap.size + 1 + 1 < w6.heap.size) := ⟨by omega, lf⟩); (have d1 : ¬ w.heap.size + 1 + 1 = w6.heap.size := by omega); (have d2 : ¬ w6.heap.size = w.heap.size + 1 + 1 := by omega); clear hc HCd HCx HCy; go_wp2_with fail
      go_region
      all_goals go_wp2
      have g2 := set2 HX6.out.q2 (.int .i64 C1) (.int .i64 C2); (have b2 := (HX6.out.below.setCell (p := ⟨w.heap.size + 1 + 1, 0, none⟩) (by simp; omega) (.int .i64 C1)).setCell (p := ⟨w.heap.size + 1 + 1, 1, none⟩) (by simp; omega) (.int .i64 C2)); (have hsz : ((w6.setCell ⟨w.heap.size + 1 + 1, 0, none⟩ (.int .i64 C1)).setCell ⟨w.heap.size + 1 + 1, 1, none⟩ (.int .i64 C2)).heap.size = w6.heap.size := by simp [World.setCell]); generalize World.setCell _ _ _ = F at g2 b2 hsz ⊢; clear f0 f1 f2 f3; obtain ⟨f0, f1, -⟩ := blk2 g2; (have d4 : w.heap.size + 1 + 1 < F.heap.size := by omega); (exact bodyPost_ret (v := .tuple #[.bool false, .agg #[.int .i64 C1, .int .i64 C2]]) (by simp [results, Tryz.results24, go_sem, f0, f1, d4]) rfl ⟨by simp [HCn.out], (b2.alloc (by omega) _).drew⟩)
end Go.Proofs.YtheiikkeelbjnajGreat
