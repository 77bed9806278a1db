/- Texts of one proof, one behind the other: Parts4, PartsIn1. -/
import Derived.Test.YtfhbpfgbnfcdaaaB20
import Derived.Test.YtfhbpfgbnfcdaaaB21
import Derived.Test.YtfhbpfgbnfcdaaaB19
/- Walks: Parts, whole. -/
namespace Go.Proofs.Ytfhbpfgbnfcdaaa
open Go.RowKit

theorem parts_visit (B cb : Nat) (h : B ≤ cb) : Visit 57 #[.pointer (some ⟨cb, 0, none⟩)] B cb (InvP cb) where
  hB := h
  lt := fun hi => by
    obtain ⟨ad, cp, h1, h2, h3⟩ := hi; (refine ⟨lt_of_block h1, fun g e => ?_⟩); rw [h2] at e; obtain ⟨cs, ho, -⟩ := h3; have := ho.lt g e; omega
  alloc := fun o hi => by
    obtain ⟨ad, cp, h1, h2, h3⟩ := hi; exact ⟨ad, cp, alloc_keep h1 o, h2, h3.up ((Below.refl _ _).alloc (Nat.le_refl _) _)⟩
  ent := fun v w => parts1_in _ w
  call := fun done ob f v w hl hf hrep hi => by
    obtain ⟨ad, cp, h1, h2, h3⟩ := hi; have hL := partsL_len done []; simp only [List.length_nil, Nat.zero_add] at hL
    have e1 : partsL [] (done ++ [f]) = if hasF f (partsL [] done) = true then partsL [] done else partsL [] done ++ [f] := by
      rw [partsL_append, partsL, partsL]
    rcases hh : hasF f (partsL [] done) with _ | _
    · rw [hh] at e1
      (refine (parts1_yes cb f hf v w hrep.all (partsL [] done) (by omega) hh ad cp h1 h3).mono ?_); rintro e w' ⟨rfl, g, cp', q1, q2, q3, q4⟩; (refine ⟨rfl, some g, ⟨some ⟨g, 0, none⟩, cp', ?_⟩, by rw [h2]; exact q3, ?_⟩)
      · rw [e1, if_neg (by decide), List.length_append]
        exact ⟨q1, rfl, q2⟩
      · rcases q4 with h | h
        · exact Or.inl (by rw [h2, h])
        · exact Or.inr ⟨g, rfl, h⟩
    · rw [hh] at e1
      refine (parts1_no cb f v w hrep.all (partsL [] done) hh ad cp h1 h3).mono ?_; rintro e w' ⟨rfl, hb⟩; (refine ⟨rfl, ob, ⟨ad, cp, ?_⟩, kept_of_below hb (fun _ h _ => h), Or.inl rfl⟩); rw [e1, if_pos rfl]; exact ⟨below_keep hb h1, h2, h3.up hb⟩

set_option maxHeartbeats 2000000 in
theorem parts_bad (f : Fm) (v : Value) (w : World) (hrep : Rep w (fun _ => True) f v) (c a : Int) (hc : c ≠ 0) (hcf : f.code = (c, a)) :
    Calls Try.prog 21 #[v] w fun e w' => e = .returned (.tuple #[.slice none 0 0, .agg #[.int .i64 c, .int .i64 a]]) ∧ Below w.heap.size w w' := by
  (have hck := fun v (w : World) h => check_any f v w h); rw [hcf] at hck; (have hne' : (c != 0) = true := by simpa using hc); obtain ⟨k, n, ks⟩ := f; obtain ⟨sl, cap, rfl⟩ := slice_shape hrep; have HC : Hid (∀ v w, _ → Calls Try.prog 12 #[v] w _) := hck; clear hck hcf hc
  go_enter Try.func21, Try.ntmps21
  go_wp2_with (first
    | (go_at_call 12
       refine (HC.out _ _ ((hrep.more _).more _)).mono ?_; rintro e w1 ⟨rfl, hb1⟩; have z1 := hb1.size; simp at z1; have q1 := below_keep hb1 (blk_new (w.alloc _) _); (rw [show (w.alloc _).heap.size = w.heap.size + 1 by simp] at q1); have B1 := below_join (below_more (below_more (Below.refl _ w) _) _) hb1; obtain ⟨k1, k2, k3, k4⟩ := blk2 q1; (have d1 : ¬ w.heap.size + 1 = w1.heap.size := by omega); (have d2 : ¬ w1.heap.size = w.heap.size + 1 := by omega)
       have d3 : w.heap.size + 1 < w1.heap.size := by omega)
    | fail)
  go_region
  all_goals go_wp2
  have f2 := set2 q1 (.int .i64 c) (.int .i64 a); (have b2 := (B1.setCell (p := ⟨w.heap.size + 1, 0, none⟩) (by simp) (.int .i64 c)).setCell (p := ⟨w.heap.size + 1, 1, none⟩) (by simp) (.int .i64 a)); (have hsz : ((w1.setCell ⟨w.heap.size + 1, 0, none⟩ (.int .i64 c)).setCell ⟨w.heap.size + 1, 1, none⟩ (.int .i64 a)).heap.size = w1.heap.size := by simp [World.setCell]); generalize World.setCell _ _ _ = F at f2 b2 hsz ⊢; clear k1 k2 k3 k4; obtain ⟨k1, k2, -⟩ := blk2 f2; (have d4 : w.heap.size + 1 < F.heap.size := by omega); (exact bodyPost_ret (v := .tuple #[.slice none 0 0, .agg #[.int .i64 c, .int .i64 a]]) (by simp [results, Try.results21, go_sem, k1, k2, d4]) rfl ⟨rfl, (b2.alloc (by omega) _).drew⟩)

set_option maxHeartbeats 4000000 in
theorem parts_ok (f : Fm) (v : Value) (w : World) (hrep : Rep w (fun _ => True) f v) (s : Nat) (hc : chk f 0 = .ok s) :
    Calls Try.prog 21 #[v] w fun e w' => ∃ x, e = .returned (.tuple #[x, .agg #[.int .i64 0, .int .i64 0]]) ∧ FL w' x (partsL [] (allN f)) ∧ Below w.heap.size w w' := by
  (have hck := fun v (w : World) h => check_any f v w h); (have hcode : f.code = (0, 0) := by simp only [Fm.code, hc]); rw [hcode] at hck; have hsz := chk_size hc; have hfi := fine_of_chk f 0 s hc; (have hea := fun cb hcb v wx h hi => each_any (parts_visit w.heap.size cb hcb) none f v wx hsz hfi h hi); (have hm := hrep.move (ok' := (· < w.heap.size)) fun b hb _ => ⟨rfl, hb⟩); obtain ⟨k, n, ks⟩ := f; obtain ⟨sl, cap, rfl⟩ := slice_shape hrep; have HC : Hid (∀ v w, _ → Calls Try.prog 12 #[v] w _) := hck; have HE : Hid (∀ (cb : Nat) (hcb : w.heap.size ≤ cb) (v : Value) (wx : World), Rep wx (· < w.heap.size) (.mk k n ks) v → InvP cb [] none wx → Calls Try.prog 52 _ wx _) := hea; have HM : Hid (Rep w (· < w.heap.size) (.mk k n ks) (.agg #[.int .i64 k, .string n, .slice sl ks.length cap])) := hm; (have hmf : ∀ (fn : Fn) (first cap : Array Value) (w : World), (Instr.makeFunc fn first cap).run Try.prog w = .ok (.func fn first cap) w := fun _ _ _ _ => rfl); clear hck hcode hc hea hm; generalize allN (.mk k n ks) = nodes at *
  go_enter Try.func21, Try.ntmps21
  go_wp2_with (first
    | (go_at_call 12
       refine (HC.out _ _ ((hrep.more _).more _)).mono ?_; rintro e w1 ⟨rfl, hb1⟩; have z1 := hb1.size; simp at z1; have q0 := below_keep hb1 (alloc_keep (blk_new w _) _); have q1 := below_keep hb1 (blk_new (w.alloc _) _); (rw [show (w.alloc _).heap.size = w.heap.size + 1 by simp] at q1); have B1 := below_join (below_more (below_more (Below.refl _ w) _) _) hb1; have M1 : Hid (Rep w1 (· < w.heap.size) (.mk k n ks) (.agg #[.int .i64 k, .string n, .slice sl ks.length cap])) := HM.out.low B1; obtain ⟨a0, a1, a2, -⟩ := blk3 q0; have y0 : w.heap.size < w1.heap.size := lt_of_block q0
       have y1 : w.heap.size + 1 < w1.heap.size := lt_of_block q1)
    | (go_at_call 52
       have nb := blk_new (w1.alloc (.cells #[.int .i64 0, .int .i64 0] 29 (0, 0))) (.cells #[.slice none 0 0] 22 (0, 0)); (rw [show (w1.alloc (.cells #[.int .i64 0, .int .i64 0] 29 (0, 0))).heap.size = w1.heap.size + 1 by simp] at nb); (refine (HE.out (w1.heap.size + 1) (by omega) _ _ (M1.out.low (((Below.refl _ w1).alloc (by omega) _).alloc (by simp; omega) _)) ⟨none, 0, nb, rfl, KO.nil⟩).mono ?_); rintro e w2 ⟨rfl, ob', ⟨ad, cp, c1, c2, c3⟩, hk2, -⟩; (have r1 : w2.heap[w.heap.size + 1]? = some (.cells #[.int .i64 0, .int .i64 0] 29 (0, 0)) := (hk2.block _ (by simp; omega) ⟨by omega, by simp⟩).trans (alloc_keep (alloc_keep q1 _) _)); (have B2 : Below w.heap.size w w2 := (below_more (below_more B1 _) _).trans (hk2.below (by simp; omega) (fun b hb => ⟨by omega, by simp⟩))); have HL : Hid (KO (w1.heap.size + 1 + 1) w2 ad cp (partsL [] nodes)) := c3; clear c2 c3 hk2 nb; obtain ⟨k1, k2⟩ := blk1 c1
       obtain ⟨p0, p1, p2, p3⟩ := blk2 r1)
    | fail)
  have f2 := set2 r1 (.int .i64 0) (.int .i64 0); (have b2 := (B2.setCell (p := ⟨w.heap.size + 1, 0, none⟩) (by simp) (.int .i64 0)).setCell (p := ⟨w.heap.size + 1, 1, none⟩) (by simp) (.int .i64 0))
  have LF := (HL.out.same (w' := (w2.setCell ⟨w.heap.size + 1, 0, none⟩ (.int .i64 0)).setCell ⟨w.heap.size + 1, 1, none⟩ (.int .i64 0)) fun b hb _ => by
    rw [Below.heap_setCell _ _ _ _ (by simp; omega), Below.heap_setCell _ _ _ _ (by simp; omega)]).list
  generalize World.setCell _ _ _ = F at f2 b2 LF ⊢; clear p0 p1 p2 p3; obtain ⟨p0, p1, -⟩ := blk2 f2; (exact bodyPost_ret (v := .tuple #[.slice ad (partsL [] nodes).length cp, .agg #[.int .i64 0, .int .i64 0]]) (by simp [results, Try.results21, go_sem, p0, p1]) rfl ⟨_, rfl, LF, b2⟩)
end Go.Proofs.Ytfhbpfgbnfcdaaa
/- Walks: the parts of a formula, as the yardstick tells them. -/
namespace Go.Proofs.Ytfhbpfgbnfcdaaa
open Go.RowKit

theorem KP.list {P : Nat → Prop} {B : Nat} {w : World} {ad : Option Addr} {cap : Nat} {fs : List Fm} (h : KP P B w ad cap fs) (hPB : ∀ b, B ≤ b → P b) : FL w (.slice ad fs.length cap) fs :=
  (h.rep hPB 0 e0 (by decide)).all.kids

theorem LR.repsA {A : Nat} {w : World} {b : Nat} : ∀ {cs : List Value} {fs : List Fm} (off : Nat), LR A w cs fs → (∀ (j : Nat) (u : Value), cs[j]? = some u → w.cell? ⟨b, off + j, none⟩ = some u) → Reps w (· < A) b off fs
  | [], [], _, _, _ => Reps.nil
  | c0 :: c1 :: c2 :: cs, f :: fs, off, h, hc => Reps.cons.2 ⟨⟨c0, c1, c2, hc 0 c0 rfl, hc 1 c1 rfl, hc 2 c2 rfl, h.1⟩, LR.repsA (off + 3) h.2 fun j u hu => by
      (have := hc (j + 3) u (by simpa using hu))
      rwa [show off + (j + 3) = off + 3 + j by omega] at this⟩

theorem walk_all (f : Fm) (h : f.size ≤ 20000) : walkL f 100000 = allN f := by
  (rw [walkL_take, List.take_of_length_le (by rw [allN_len]; omega)])

set_option maxHeartbeats 4000000 in
theorem partsIn_any (f : Fm) (hs : f.size ≤ 200) (v : Value) (w : World) (hv : FL w v [f]) :
    Calls Try.prog 26 #[v] w fun e w' => ∃ x, e = .returned x ∧ FL w' x (partsL [] (allN f)) ∧ Below w.heap.size w w' := by
  obtain ⟨ad0, cap0, rfl, h1, h2, h3⟩ := hv; (obtain ⟨b0, off0, rfl, hrs0⟩ := h3 (by simp)); (have hwk := fun v w h => walk_any f v 100000 w (by omega) h); (rw [walk_all f (by omega)] at hwk); (have hNl : (allN f).length ≤ 200 := by rw [allN_len]; exact hs); obtain ⟨k, n, ks⟩ := f; obtain ⟨sl, cap, g0, g1, g2, hrep0⟩ := hrs0.at 0 k n ks rfl; simp only [Nat.zero_mul, Nat.add_zero] at g0 g1 g2; have HW : Hid (∀ v w, _ → Calls Try.prog 30 _ w _) := hwk; (have hl1 : (1 : Int) ≤ (cap0 : Int) := by simp at h1; omega); obtain ⟨i0, hi, hz0, hz1, hz2⟩ := infoFormula; have HIo : Hid (Try.prog.info? 24 = some i0 ∧ i0.zero = some (.agg #[.int .i64 0, .string ⟨#[]⟩, .slice none 0 0]) ∧ i0.size = 3 ∧ i0.bytes = 48) := ⟨hi, hz0, hz1, hz2⟩; clear hwk h3 hrs0 hi hz0 hz1 hz2 hs; generalize allN (.mk k n ks) = nodes at *
  go_enter Try.func26, Try.ntmps26
  go_wp2_with fail
  go_loopg [4, 3] 1 (fun g c o wr => (g = 1 ∧ c = .int .i64 0 ∧ o = .slice none 0 0 ∧ wr = w) ∨ (g = 0 ∧ c = .int .i64 1 ∧ FL wr o (partsL [] nodes) ∧ Below w.heap.size w wr))
  case atStart => exact Or.inl ⟨rfl, rfl, rfl, rfl⟩
  case round =>
    rcases hrel with ⟨rfl, rfl, rfl, hw⟩ | ⟨rfl, rfl, hfl, hbr⟩
    · have hw' := hw.symm
      subst hw'
      go_wp2_with (first
        | (go_at_call 30
           refine (HW.out _ _ hrep0).mono ?_; rintro e w1 ⟨x, rfl, hlo, hb1⟩; obtain ⟨g, cp, rfl, hc1, hc2, hrs⟩ := hlo.reps; have HL : Hid (LO w.heap.size w.heap.size w1 (.slice (some ⟨g, 0, none⟩) nodes.length cp) nodes) := hlo; (have HS : Hid (Reps w1 (fun _ => True) g 0 nodes) := hrs); have z1 := hb1.size
           clear hlo hrs)
        | fail)
      obtain ⟨hi, hz0, hz1, hz2⟩ := HIo.out; (have hNI : (nodes.length : Int) ≤ 200 := by omega); clear hrep0 g0 g1 g2 HW
      go_loopg [6, 3] nodes.length (fun g c o wz => ∃ j ad cy, j ≤ nodes.length ∧ g = nodes.length - j ∧ c = .int .i64 (j : Nat) ∧ o = .slice ad (partsL [] (nodes.take j)).length cy ∧ Below w1.heap.size w1 wz ∧ Hid (KP (fun b => b < w.heap.size ∨ w1.heap.size ≤ b) w1.heap.size wz ad cy (partsL [] (nodes.take j))))
      case atStart => exact ⟨0, none, 0, by omega, by omega, rfl, rfl, Below.refl _ _, KP.nil⟩
      case round =>
        obtain ⟨j, ad, cy, hj, hg, rfl, rfl, hby, HK⟩ := hrel; have HG : Hid (gk = nodes.length - j) := hg; clear hg; have zy := hby.size; by_cases hlt : j < nodes.length
        · obtain ⟨⟨k2, n2, ks2⟩, hki⟩ : ∃ f, nodes[j]? = some f := ⟨_, List.getElem?_eq_getElem hlt⟩
          obtain ⟨sl2, cap2, p0, p1, p2, hrep2⟩ := (HS.out.up hby).at j k2 n2 ks2 hki; rw [Nat.zero_add] at p0 p1 p2; (have hltI : (j : Int) < (nodes.length : Int) := by omega); (have hlc : (j : Int) < (cp : Int) := by omega)
          have hT : partsL [] (nodes.take (j + 1)) = if hasF (.mk k2 n2 ks2) (partsL [] (nodes.take j)) = true then partsL [] (nodes.take j) else partsL [] (nodes.take j) ++ [.mk k2 n2 ks2] := by
            rw [List.take_add_one, hki, partsL_append]; show partsL (partsL [] (nodes.take j)) [Fm.mk k2 n2 ks2] = _; rw [partsL, partsL]
          have hLn : (partsL [] (nodes.take j)).length ≤ 200 := by
            have := partsL_len (nodes.take j) []; simp only [List.length_nil, Nat.zero_add, List.length_take] at this; omega
          have hrepA : Rep wr (fun b => b < w.heap.size) (.mk k2 n2 ks2) (.agg #[.int .i64 k2, .string n2, .slice sl2 ks2.length cap2]) := by
            obtain ⟨g', cp', cs, hv, hown, hlr⟩ := HL.out; simp only [Value.slice.injEq, Option.some.injEq, Addr.mk.injEq, and_true, true_and] at hv; obtain ⟨rfl, rfl⟩ := hv
            have hr := LR.repsA (b := g) 0 hlr fun j u hu => by
              have := hown.cells (g := g) rfl j u hu; rw [add_none] at this; exact this
            obtain ⟨sl', cap', q0, q1, q2, hr2⟩ := hr.at j k2 n2 ks2 hki; rw [Nat.zero_add] at q2; have e := (hby.cell (p := ⟨g, j * 3 + 2, none⟩) (lt_of_cell q2)).trans q2; rw [p2] at e; simp only [Option.some.injEq, Value.slice.injEq, true_and] at e; obtain ⟨rfl, rfl⟩ := e; (exact hr2.low (hby.mono (by omega)))
          (have hha := has_any (partsL [] (nodes.take j)) (.mk k2 n2 ks2) _ _ wr (HK.out.list (fun b hb => Or.inr hb)) hrep2); generalize hfs : partsL [] (nodes.take j) = fs at *; clear hfs; (have HRA : Hid (Rep wr (fun b => b < w.heap.size) (.mk k2 n2 ks2) (.agg #[.int .i64 k2, .string n2, .slice sl2 ks2.length cap2])) := hrepA)
          rcases hh : hasF (.mk k2 n2 ks2) fs with _ | _
          · rw [hh] at hha hT
            have HT : Hid (partsL [] (nodes.take (j + 1)) = fs ++ [.mk k2 n2 ks2]) := hT; have HA : Hid (Calls Try.prog 64 _ wr _) := hha; have zg := lt_of_cell p0; simp only at zg; clear hki hha hT hh hrep2 hrepA
            go_wp2_with (first
              | (go_at_call 64
                 refine HA.out.mono ?_; rintro e w2 ⟨rfl, hb2⟩; have c0 := (hb2.cell (p := ⟨g, j * 3, none⟩) zg).trans p0; have c1 := (hb2.cell (p := ⟨g, j * 3 + 1, none⟩) zg).trans p1; have c2 := (hb2.cell (p := ⟨g, j * 3 + 2, none⟩) zg).trans p2
                 have z2 := hb2.size)
              | (at_builtin
                 have hownA := (HK.out.up hb2).up ((Below.refl _ w2).alloc (Nat.le_refl _) (.cells #[.int .i64 k2, .string n2, .slice sl2 ks2.length cap2] 24 (0, 0))); obtain ⟨cs, hown, hlq⟩ := hownA; (refine wpList_append_lies _ rfl _ _ 22 rfl w1.heap.size 24 i0 (.agg #[.int .i64 0, .string ⟨#[]⟩, .slice none 0 0]) 3 48 Try.underlying22 hi hz0 hz1 hz2 rfl (by decide) _ _ _ rfl hown ⟨w2.heap.size, 0, none⟩ 1 1 [.int .i64 k2, .string n2, .slice sl2 ks2.length cap2] rfl rfl ?_ ?_ (by omega) (by unfold maxLen; omega) (by omega) (by simp; omega) _ rfl ?_)
                 · intro j u hu
                   rw [add_none, Nat.zero_add, blk_cell (blk_new w2 _)]; simpa using hu
                 · intro u hu
                   simp at hu
                   rcases hu with rfl | rfl | rfl <;> rfl
                 intro g3 cp3 w3 hown3 hgrow hat hlt3; have hgrow' : (w2.alloc (.cells #[.int .i64 k2, .string n2, .slice sl2 ks2.length cap2] 24 (0, 0))).grownBy w3 (Value.slice ad fs.length cy).ownBlock := hgrow; have hat' : (Value.slice ad fs.length cy).ownBlock = some g3 ∨ g3 = (w2.alloc (.cells #[.int .i64 k2, .string n2, .slice sl2 ks2.length cap2] 24 (0, 0))).heap.size := hat; clear hgrow hat; (obtain ⟨hbB, hko⟩ := KP.app rfl (by omega) hown hlq ((HRA.out.up' hb2).move fun b _ hb => ⟨rfl, Or.inl hb, fun e => by have := (hown.lt b e).1; have : b < w.heap.size := hb; omega⟩) hown3 hgrow' hat'); (have HKO : Hid (KP (fun b => b < w.heap.size ∨ w1.heap.size ≤ b) w1.heap.size w3 (some ⟨g3, 0, none⟩) cp3 (fs ++ [.mk k2 n2 ks2])) := hko)
                 clear hgrow' hat' hown3 hown hlq hko)
              | fail)
            go_roundg (nodes.length - (j + 1))
            case measure => have := HG.out; omega
            case rel =>
              (refine ⟨j + 1, some ⟨g3, 0, none⟩, cp3, by omega, rfl, by go_num, ?_, (hby.trans (hb2.mono zy)).trans hbB, ?_⟩)
              · rw [HT.out, List.length_append]; rfl
              · show KP _ _ _ _ _ _
                rw [HT.out]; exact HKO.out
          · rw [hh] at hha hT
            have HT : Hid (partsL [] (nodes.take (j + 1)) = fs) := hT; have HA : Hid (Calls Try.prog 64 _ wr _) := hha; clear hki hha hT hh hrep2 hrepA
            go_wp2_with (first
              | (go_at_call 64
                 refine HA.out.mono ?_
                 rintro e w2 ⟨rfl, hb2⟩)
              | fail)
            go_roundg (nodes.length - (j + 1))
            case measure => have := HG.out; omega
            case rel =>
              (refine ⟨j + 1, ad, cy, by omega, rfl, by go_num, by rw [HT.out], hby.trans (hb2.mono zy), ?_⟩); show KP _ _ _ _ _ _; rw [HT.out]; exact HK.out.up hb2
        · have HKE : Hid (KP (fun b => b < w.heap.size ∨ w1.heap.size ≤ b) w1.heap.size wr ad cy (partsL [] nodes)) := by
            have := HK.out; (rw [List.take_of_length_le (by omega)] at this); exact this
          (have hTE : partsL [] (nodes.take j) = partsL [] nodes := by rw [List.take_of_length_le (by omega)]); (have hge : ¬ (j : Int) < (nodes.length : Int) := by omega); clear HK; rw [hTE]; go_wp2_with fail
          go_roundg 0
          case measure => omega
          case rel => exact Or.inr ⟨rfl, rfl, HKE.out.list (fun b hb => Or.inr hb), below_join hb1 (hby.mono (Nat.le_refl _))⟩
    · have HF : Hid (FL wr _ (partsL [] nodes)) := hfl
      obtain ⟨ad, cp, rfl, -⟩ := hfl; go_wp2_with fail; go_ret; exact ⟨_, rfl, HF.out, hbr⟩
end Go.Proofs.Ytfhbpfgbnfcdaaa
