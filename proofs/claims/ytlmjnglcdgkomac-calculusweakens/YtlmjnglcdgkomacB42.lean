/- Texts of one proof, one behind the other: CG3, CH1, CH3, CH4, CH5. -/
import Derived.Test.YtlmjnglcdgkomacB40
import Derived.Test.YtlmjnglcdgkomacB17
import Derived.Test.YtlmjnglcdgkomacB11
import Derived.Test.YtlmjnglcdgkomacB12
import Derived.Shelf.Sort.Plain
import Derived.Shelf.Slices.CompactS
import Derived.Shelf.Slices.In.SortNone
import Derived.Test.YtlmjnglcdgkomacProg
import Derived.Sort.OwnSorted
import Derived.Deep.DeepCutAuto
/- Walks: Cuts, Check. -/
namespace Go.Proofs.Ytlmjnglcdgkomac
open Go.RowKit Go.Maps Go.WideMaps

/-- What Cuts answers. -/
def cutsL (i : Bool) (p : Pf) : Int × Int × Int := if (look i p 1 0 0).1.1 ≠ 0 then (0, (look i p 1 0 0).1.1, (look i p 1 0 0).1.2) else (((look i p 1 0 0).2.2 : Nat), 0, 0)

set_option maxRecDepth 10000 in
set_option maxHeartbeats 8000000 in
theorem cuts_any (i : Bool) (p : Pf) (hsm : SmallP p) (v : Value) (w : World) (hv : PRep w p v) :
    Calls Try.prog 19 #[v, .bool i] w fun e w' => e = .returned (.tuple #[.int .i64 (cutsL i p).1, .agg #[.int .i64 (cutsL i p).2.1, .int .i64 (cutsL i p).2.2]]) ∧ Below w.heap.size w w' := by
  (have hlk := fun (v : Value) (w0 w : World) (bc mm : Nat) h1 h2 h3 h4 h5 => plook_all i (p.size + 1) p v w0 w bc mm 1 0 0 (Nat.lt_succ_self _) hsm h1 h2 h3 h4 h5 (by omega) (by omega) (by omega)); (have hcl : cutsL i p = if (look i p 1 0 0).1.1 ≠ 0 then (0, (look i p 1 0 0).1.1, (look i p 1 0 0).1.2) else ((((look i p 1 0 0).2.2 : Nat) : Int), 0, 0) := rfl); (have hle := look_le i p 1 0 0 (by omega) (by omega)); generalize look i p 1 0 0 = lk at *; generalize cutsL i p = cl at *; obtain ⟨⟨lc, la⟩, ls, lcu⟩ := lk; (have HLK : Hid (∀ (v : Value) (w0 w : World) (bc mm : Nat), PRep w0 p v → RulesAt i w0 mm → Below w0.heap.size w0 w → w0.heap.size ≤ bc → Ck w bc i mm 0 0 → Calls Try.prog 28 #[.pointer (some ⟨bc, 0, none⟩), v, .int .i64 1] w fun e w' => e = .returned (.agg #[.int .i64 lc, .int .i64 la]) ∧ Ck w' bc i mm ls lcu ∧ KB1 bc w w') := hlk); obtain ⟨a, ⟨k, n, kf⟩, l, r, ks⟩ := p; have HV : Hid (PRep w (.mk a (.mk k n kf) l r ks) v) := hv; obtain ⟨sf, cf, al, cl', ar, cr, sl, cap, rfl, -⟩ := hv.parts; clear hlk hv hsm hle; obtain ⟨O, hO⟩ : ∃ O, O = Obj.cells #[.string a, .int .i64 k, .string n, .slice sf kf.length cf, .slice al l.length cl', .slice ar r.length cr, .slice sl ks.length cap] 29 (0, 0) := ⟨_, rfl⟩; have B0 : Below w.heap.size w ((w.alloc O).alloc (.cells #[.int .i64 0, .int .i64 0] 34 (0, 0))) := below_more (below_more (Below.refl _ w) _) _
  go_enter Try.func19, Try.ntmps19
  go_wp2_with fail; rw [← hO]; refine (rules_any i _).mono ?_; rintro e w1 ⟨mm, rfl, hru, hb1⟩; have B1 := below_join B0 hb1; have HRU : Hid (RulesAt i w1 mm) := hru; have q0 := below_keep hb1 (alloc_keep (blk_new w O) (.cells #[.int .i64 0, .int .i64 0] 34 (0, 0))); rw [hO] at q0; have q1 := below_keep hb1 (blk_two w O (.cells #[.int .i64 0, .int .i64 0] 34 (0, 0))); have HQ0 : Hid (w1.heap[w.heap.size]? = some _) := q0; have HQ1 : Hid (w1.heap[w.heap.size + 1]? = some _) := q1; obtain ⟨j0, j1, j2, j3, j4, j5, j6⟩ := blk7 q0; have z1 := lt_of_block q1; have z0 := lt_of_block q0; (have e0 : ¬ w.heap.size = w1.heap.size := by omega); (have e00 : ¬ w1.heap.size = w.heap.size := by omega); clear hru q0 q1 hb1 hO; go_wp2_with fail; refine (HLK.out _ w1 _ w1.heap.size mm (PRep.up B1 _ _ HV.out) HRU.out (below_more (Below.refl _ w1) _) (Nat.le_refl _) (blk_new w1 _)).mono ?_; rintro e w2 ⟨rfl, hck2, hkb2⟩; have HC2 : Hid (Ck w2 w1.heap.size i mm ls lcu) := hck2; have hB2 : Below w1.heap.size w1 w2 := kb_base (below_more (Below.refl _ w1) _) (Nat.le_refl _) hkb2; have HB2 : Hid (Below w.heap.size w w2) := below_join B1 hB2; have q1 := below_keep hB2 HQ1.out; have HR1 : Hid (w2.heap[w.heap.size + 1]? = some _) := q1; obtain ⟨y0, y1, y2, y3⟩ := blk2 q1; obtain ⟨i0, i1, i2, i3, -⟩ := blk4 (show w2.heap[w1.heap.size]? = _ from hck2); have z2 := lt_of_block q1; have z3 := ck_lt hck2; (have e1 : ¬ w2.heap.size = w.heap.size + 1 := by omega); (have e2 : ¬ w.heap.size + 1 = w2.heap.size := by omega); (have e3 : ¬ w2.heap.size = w1.heap.size := by omega); (have e4 : ¬ w1.heap.size = w.heap.size + 1 := by omega); (have e5 : ¬ w1.heap.size = w2.heap.size := by omega); clear hck2 hkb2 j0 j1 j2 j3 j4 j5 j6 hB2 q1; by_cases hl0 : lc = 0
  · subst hl0
    (rw [if_neg (fun h => h rfl)] at hcl); have HE : Hid (cl = _) := hcl; clear hcl; go_wp2_with fail; have f2 := set2 HR1.out (.int .i64 0) (.int .i64 0); (have b2 := (HB2.out.setCell (p := ⟨w.heap.size + 1, 0, none⟩) (by simp) (.int .i64 0)).setCell (p := ⟨w.heap.size + 1, 1, none⟩) (by simp) (.int .i64 0)); (have hsz : ((w2.setCell ⟨w.heap.size + 1, 0, none⟩ (.int .i64 0)).setCell ⟨w.heap.size + 1, 1, none⟩ (.int .i64 0)).heap.size = w2.heap.size := by simp [World.setCell]); generalize World.setCell _ _ _ = F at f2 b2 hsz ⊢; clear y0 y1 y2 y3; obtain ⟨k1, k2, -⟩ := blk2 f2; have d9 : w.heap.size + 1 < F.heap.size := lt_of_block f2; (exact bodyPost_ret (v := .tuple #[.int .i64 (lcu : Nat), .agg #[.int .i64 0, .int .i64 0]]) (by simp [results, Try.results19, go_sem, k1, k2, d9]) rfl ⟨by rw [HE.out], below_more b2 _⟩)
  · rw [if_pos hl0] at hcl
    have HE : Hid (cl = _) := hcl; (have hlJ : (lc != 0) = true := by simpa using hl0); clear hcl; go_wp2_with fail
    go_region
    go_wp2_with fail; have f2 := set2 HR1.out (.int .i64 lc) (.int .i64 la); (have b2 := (HB2.out.setCell (p := ⟨w.heap.size + 1, 0, none⟩) (by simp) (.int .i64 lc)).setCell (p := ⟨w.heap.size + 1, 1, none⟩) (by simp) (.int .i64 la)); (have hsz : ((w2.setCell ⟨w.heap.size + 1, 0, none⟩ (.int .i64 lc)).setCell ⟨w.heap.size + 1, 1, none⟩ (.int .i64 la)).heap.size = w2.heap.size := by simp [World.setCell]); generalize World.setCell _ _ _ = F at f2 b2 hsz ⊢; clear y0 y1 y2 y3; obtain ⟨k1, k2, -⟩ := blk2 f2; have d9 : w.heap.size + 1 < F.heap.size := lt_of_block f2; (exact bodyPost_ret (v := .tuple #[.int .i64 0, .agg #[.int .i64 lc, .int .i64 la]]) (by simp [results, Try.results19, go_sem, k1, k2, d9]) rfl ⟨by rw [HE.out], (below_more b2 _).drew⟩)

set_option maxHeartbeats 2000000 in
theorem pcheck_any (i : Bool) (p : Pf) (hsm : SmallP p) (v : Value) (w : World) (hv : PRep w p v) :
    Calls Try.prog 9 #[v, .bool i] w fun e w' => e = .returned (.agg #[.int .i64 (look i p 1 0 0).1.1, .int .i64 (if (look i p 1 0 0).1.1 ≠ 0 then (look i p 1 0 0).1.2 else 0)]) ∧ Below w.heap.size w w' := by
  (have hcu := fun v (w : World) h => cuts_any i p hsm v w h)
  have hcl : (cutsL i p).2 = ((look i p 1 0 0).1.1, if (look i p 1 0 0).1.1 ≠ 0 then (look i p 1 0 0).1.2 else 0) := by
    unfold cutsL; by_cases h : (look i p 1 0 0).1.1 = 0
    · rw [if_neg (fun h' => h' h), if_neg (fun h' => h' h), h]
    · rw [if_pos h, if_pos h]
  generalize cutsL i p = cl at *; obtain ⟨x1, x2, x3⟩ := cl; generalize (look i p 1 0 0).1.1 = lc at *; (generalize (if lc ≠ 0 then (look i p 1 0 0).1.2 else 0) = la at *); simp only [Prod.mk.injEq] at hcl; obtain ⟨rfl, rfl⟩ := hcl; obtain ⟨a, ⟨k, n, kf⟩, l, r, ks⟩ := p; have HV : Hid (PRep w (.mk a (.mk k n kf) l r ks) v) := hv; obtain ⟨sf, cf, al, cl', ar, cr, sl, cap, rfl, -⟩ := hv.parts; have HCU : Hid (∀ v w, PRep w (.mk a (.mk k n kf) l r ks) v → Calls Try.prog 19 #[v, .bool i] w _) := hcu; clear hcu hv hsm
  go_enter Try.func9, Try.ntmps9
  go_wp2_with fail; refine (HCU.out _ _ (PRep.up (below_more (below_more (Below.refl _ w) _) _) _ _ HV.out)).mono ?_; rintro e w1 ⟨rfl, hb1⟩; have B1 := below_join (below_more (below_more (Below.refl _ w) _) _) hb1; have q1 := below_keep hb1 (blk_two w _ _); obtain ⟨y0, y1, y2, y3⟩ := blk2 q1; have z1 := lt_of_block q1; (have e1 : ¬ w1.heap.size = w.heap.size + 1 := by omega); (have e2 : ¬ w.heap.size + 1 = w1.heap.size := by omega); go_wp2_with fail; have f2 := set2 q1 (.int .i64 x2) (.int .i64 x3); (have b2 := (B1.setCell (p := ⟨w.heap.size + 1, 0, none⟩) (by simp) (.int .i64 x2)).setCell (p := ⟨w.heap.size + 1, 1, none⟩) (by simp) (.int .i64 x3)); (have hsz : ((w1.setCell ⟨w.heap.size + 1, 0, none⟩ (.int .i64 x2)).setCell ⟨w.heap.size + 1, 1, none⟩ (.int .i64 x3)).heap.size = w1.heap.size := by simp [World.setCell]); generalize World.setCell _ _ _ = F at f2 b2 hsz ⊢; clear y0 y1 y2 y3; obtain ⟨k1, k2, -⟩ := blk2 f2; have d9 : w.heap.size + 1 < F.heap.size := lt_of_block f2; (exact bodyPost_ret (v := .agg #[.int .i64 x2, .int .i64 x3]) (by simp [results, Try.results9, go_sem, k1, k2, d9]) rfl ⟨rfl, below_more b2 _⟩)
end Go.Proofs.Ytlmjnglcdgkomac
/- Walks: VastProof. -/
namespace Go.Proofs.Ytlmjnglcdgkomac
open Go.RowKit

theorem SmallP.mk {a : ByteArray} {f : Fm} {l r : List Fm} {ks : List Pf} (h1 : l.length ≤ 300) (h2 : r.length ≤ 300) (h3 : ks.length ≤ 1200) (h4 : ∀ k ∈ ks, SmallP k) : SmallP (.mk a f l r ks) := fun n => by
  cases n with
  | zero => trivial
  | succ n => exact ⟨h1, h2, h3, fun k hk => h4 k hk n⟩

def IsVP (p : Pf) (e : Ending) : Prop := ∃ b, e = .returned (.bool b) ∧ (b = false → SmallP p)
def PVastP (m : Nat) : Prop := ∀ (p : Pf) (d : Nat) (v : Value) (w : World), p.size < m → d ≤ 1201 → PRep w p v → Calls Try.prog 6 #[v, .int .i64 (d : Nat)] w fun e w' => IsVP p e ∧ Below w.heap.size w w'

set_option maxRecDepth 10000 in
set_option maxHeartbeats 8000000 in
theorem pvast_step (m : Nat) (ih : PVastP m) : PVastP (m + 1) := by
  intro p d v w hm hd hv; obtain ⟨a, ⟨k, n, kf⟩, l, r, ks⟩ := p; obtain ⟨sf, cf, al, cl, ar, cr, sl, cap, rfl, ha, hf, hl, hr, hkc, hcm, hks⟩ := hv.parts; (have HF : Hid (Rep w (fun _ => True) (.mk k n kf) _) := hf); obtain ⟨_, _, hve, hl1, hl2, hl3⟩ := hl; simp only [Value.slice.injEq, true_and] at hve; obtain ⟨rfl, rfl⟩ := hve; obtain ⟨_, _, hve, hr1, hr2, hr3⟩ := hr; simp only [Value.slice.injEq, true_and] at hve; obtain ⟨rfl, rfl⟩ := hve; (have HL3 : Hid (l ≠ [] → ∃ b off, al = some ⟨b, off, none⟩ ∧ Reps w (fun _ => True) b off l) := hl3); (have HR3 : Hid (r ≠ [] → ∃ b off, ar = some ⟨b, off, none⟩ ∧ Reps w (fun _ => True) b off r) := hr3); have HKS : Hid (ks ≠ [] → ∃ b off, sl = some ⟨b, off, none⟩ ∧ PReps w b off ks) := hks; (have hlI : (l.length : Int) ≤ 9223372036854775807 := by unfold maxLen at hl2; omega); (have hrI : (r.length : Int) ≤ 9223372036854775807 := by unfold maxLen at hr2; omega); (have hkI : (ks.length : Int) ≤ 9223372036854775807 := by unfold maxLen at hcm; omega); (have hdI : (d : Int) ≤ 1201 := by omega); have HIH : Hid (PVastP m) := ih; (have HM : Hid (Pf.sizes ks < m) := by have : Pf.sizes ks + 1 < m + 1 := hm; show _ < _; omega); obtain ⟨O, hO⟩ : ∃ O, O = Obj.cells #[.string a, .int .i64 k, .string n, .slice sf kf.length cf, .slice al l.length cl, .slice ar r.length cr, .slice sl ks.length cap] 29 (0, 0) := ⟨_, rfl⟩; have B0 := below_more (Below.refl _ w) O; (have hva := fun v (w : World) h => vast2_any (.mk k n kf) v w h); (have HVA : Hid (∀ v w, Rep w (fun _ => True) (.mk k n kf) v → Calls Try.prog 7 #[v, .int .i64 0] w _) := hva)
  have HVX : Hid (∀ (f : Fm) v w, Rep w (fun _ => True) f v → Calls Try.prog 7 #[v, .int .i64 0] w fun e w' => ∃ b, e = .returned (.bool b) ∧ Below w.heap.size w w') := fun f v w h => by
    refine (vast2_any f v w h).mono ?_; rintro e w' ⟨⟨b, rfl, -⟩, hb⟩; exact ⟨b, rfl, hb⟩
  clear hf hl3 hr3 hks hv ih hm hva hl2 hr2 hcm ha; by_cases h1 : 1200 < d
  · have h1I : (1200 : Int) < (d : Int) := by omega
    subst hO
    go_enter Try.func6, Try.ntmps6
    go_wp2_with fail; go_ret; (exact ⟨⟨true, rfl, fun h => (by cases h)⟩, B0⟩)
  (have h1I : ¬ (1200 : Int) < (d : Int) := by omega); by_cases h2 : 1200 < ks.length
  · have h2I : (1200 : Int) < (ks.length : Int) := by omega
    subst hO
    go_enter Try.func6, Try.ntmps6
    go_wp2_with fail; go_ret; (exact ⟨⟨true, rfl, fun h => (by cases h)⟩, B0⟩)
  (have h2I : ¬ (1200 : Int) < (ks.length : Int) := by omega); by_cases h3 : 300 < l.length
  · have h3I : (300 : Int) < (l.length : Int) := by omega
    subst hO
    go_enter Try.func6, Try.ntmps6
    go_wp2_with fail; go_ret; (exact ⟨⟨true, rfl, fun h => (by cases h)⟩, B0⟩)
  (have h3I : ¬ (300 : Int) < (l.length : Int) := by omega); by_cases h4 : 300 < r.length
  · have h4I : (300 : Int) < (r.length : Int) := by omega
    subst hO
    go_enter Try.func6, Try.ntmps6
    go_wp2_with fail; go_ret; (exact ⟨⟨true, rfl, fun h => (by cases h)⟩, B0⟩)
  (have h4I : ¬ (300 : Int) < (r.length : Int) := by omega); (have HSM : Hid ((∀ k ∈ ks, SmallP k) → SmallP (.mk a (.mk k n kf) l r ks)) := fun h => SmallP.mk (by omega) (by omega) (by omega) h); (have hd2 : d + 1 ≤ 1201 := by omega); have P0 := blk_new w O; (have HP0 : Hid ((w.alloc O).heap[w.heap.size]? = some (.cells #[.string a, .int .i64 k, .string n, .slice sf kf.length cf, .slice al l.length cl, .slice ar r.length cr, .slice sl ks.length cap] 29 (0, 0))) := by rw [← hO]; exact P0); clear P0 h1 h2 h3 h4
  go_enter Try.func6, Try.ntmps6
  go_wp2_with fail; rw [← hO]; refine (HVX.out _ _ _ (HF.out.up B0)).mono ?_; rintro e w1 ⟨b1, rfl, hb1⟩; have HB1 : Hid (Below w.heap.size w w1) := below_join B0 hb1; have HQ1 : Hid (w1.heap[w.heap.size]? = some _) := below_keep hb1 HP0.out; clear hb1 hO HP0
  cases b1
  case true =>
    go_wp2_with fail; go_ret; (exact ⟨⟨true, rfl, fun h => (by cases h)⟩, HB1.out⟩)
  case false =>
    go_wp2_with fail
    go_loopg [5] l.length (fun g cc wr => ∃ j, j ≤ l.length ∧ g = l.length - j ∧ cc = .int .i64 (j : Nat) ∧ Hid (Below w.heap.size w wr) ∧ Hid (Below w1.heap.size w1 wr))
    case atStart => exact ⟨0, by omega, by omega, rfl, HB1, Below.refl _ _⟩
    case round =>
      obtain ⟨j, hj, hg, rfl, HBr, HBr1⟩ := hrel; have HG : Hid (gk = l.length - j) := hg; clear hg; obtain ⟨j0, j1, j2, j3, j4, j5, j6⟩ := blk7 (below_keep HBr1.out HQ1.out); by_cases hlt : j < l.length
      · obtain ⟨⟨k2, n2, ks2⟩, hki⟩ : ∃ f, l[j]? = some f := ⟨_, List.getElem?_eq_getElem hlt⟩
        (obtain ⟨b, off, rfl, hrs⟩ := HL3.out (fun e => by rw [e] at hlt; simp at hlt)); obtain ⟨sl2, cap2, g0, g1, g2, hrep2⟩ := (hrs.up HBr.out).at j k2 n2 ks2 hki; (have hltI : (j : Int) < (l.length : Int) := by omega); (have hlc : (j : Int) < (cl : Int) := by omega); clear hki hrs; go_wp2_with fail; refine (HVX.out _ _ _ hrep2).mono ?_; rintro e w2 ⟨b2, rfl, hb2⟩; have HB2 : Hid (Below w.heap.size w w2) := below_join HBr.out hb2; have HB3 : Hid (Below w1.heap.size w1 w2) := below_join HBr1.out hb2; clear g0 g1 g2 hb2 hrep2 j0 j1 j2 j3 j4 j5 j6
        cases b2
        · go_wp2_with fail
          go_roundg (l.length - (j + 1))
          case measure => have := HG.out; omega
          case rel => exact ⟨j + 1, by omega, rfl, by go_num, HB2, HB3⟩
        · go_wp2_with fail
          go_ret; (exact ⟨⟨true, rfl, fun h => (by cases h)⟩, HB2.out⟩)
      · have hge : ¬ (j : Int) < (l.length : Int) := by omega
        go_wp2_with fail; have HBA : Hid (Below w.heap.size w wr) := HBr; obtain ⟨wA, hwA⟩ : ∃ wA, wA = wr := ⟨_, rfl⟩; subst hwA; have HQA : Hid (wA.heap[w.heap.size]? = some _) := below_keep HBr1.out HQ1.out; clear HBr HBr1 j0 j1 j2 j3 j4 j5 j6 hge
        go_loopg [6] r.length (fun g cc wr => ∃ j, j ≤ r.length ∧ g = r.length - j ∧ cc = .int .i64 (j : Nat) ∧ Hid (Below w.heap.size w wr) ∧ Hid (Below wA.heap.size wA wr))
        case atStart => exact ⟨0, by omega, by omega, rfl, HBA, Below.refl _ _⟩
        case round =>
          obtain ⟨j, hj, hg, rfl, HBr, HBr1⟩ := hrel; have HG : Hid (gk = r.length - j) := hg; clear hg; obtain ⟨j0, j1, j2, j3, j4, j5, j6⟩ := blk7 (below_keep HBr1.out HQA.out); by_cases hlt : j < r.length
          · obtain ⟨⟨k2, n2, ks2⟩, hki⟩ : ∃ f, r[j]? = some f := ⟨_, List.getElem?_eq_getElem hlt⟩
            (obtain ⟨b, off, rfl, hrs⟩ := HR3.out (fun e => by rw [e] at hlt; simp at hlt)); obtain ⟨sl2, cap2, g0, g1, g2, hrep2⟩ := (hrs.up HBr.out).at j k2 n2 ks2 hki; (have hltI : (j : Int) < (r.length : Int) := by omega); (have hlc : (j : Int) < (cr : Int) := by omega); clear hki hrs; go_wp2_with fail; refine (HVX.out _ _ _ hrep2).mono ?_; rintro e w2 ⟨b2, rfl, hb2⟩; have HB2 : Hid (Below w.heap.size w w2) := below_join HBr.out hb2; have HB3 : Hid (Below wA.heap.size wA w2) := below_join HBr1.out hb2; clear g0 g1 g2 hb2 hrep2 j0 j1 j2 j3 j4 j5 j6
            cases b2
            · go_wp2_with fail
              go_roundg (r.length - (j + 1))
              case measure => have := HG.out; omega
              case rel => exact ⟨j + 1, by omega, rfl, by go_num, HB2, HB3⟩
            · go_wp2_with fail
              go_ret; (exact ⟨⟨true, rfl, fun h => (by cases h)⟩, HB2.out⟩)
          · have hge : ¬ (j : Int) < (r.length : Int) := by omega
            go_wp2_with fail; have HBB : Hid (Below w.heap.size w wr) := HBr; obtain ⟨wB, hwB⟩ : ∃ wB, wB = wr := ⟨_, rfl⟩; subst hwB; have HQB : Hid (wB.heap[w.heap.size]? = some _) := below_keep HBr1.out HQA.out; clear HBr HBr1 j0 j1 j2 j3 j4 j5 j6 hge
            go_loopg [7] ks.length (fun g cc wr => ∃ j, j ≤ ks.length ∧ g = ks.length - j ∧ cc = .int .i64 (j : Nat) ∧ Hid (Below w.heap.size w wr) ∧ Hid (Below wB.heap.size wB wr) ∧ Hid (∀ k ∈ ks.take j, SmallP k))
            case atStart => exact ⟨0, by omega, by omega, rfl, HBB, Below.refl _ _, fun k hk => by simp at hk⟩
            case round =>
              obtain ⟨j, hj, hg, rfl, HBr, HBr1, HN⟩ := hrel; have HG : Hid (gk = ks.length - j) := hg; clear hg; obtain ⟨j0, j1, j2, j3, j4, j5, j6⟩ := blk7 (below_keep HBr1.out HQB.out); by_cases hlt : j < ks.length
              · obtain ⟨⟨ka, ⟨kk, kn, kkf⟩, kl, kr, kks⟩, hki⟩ : ∃ f, ks[j]? = some f := ⟨_, List.getElem?_eq_getElem hlt⟩
                (obtain ⟨b, off, rfl, hrs⟩ := HKS.out (fun e => by rw [e] at hlt; simp at hlt)); obtain ⟨sf2, cf2, al2, cl2, ar2, cr2, sl2, cap2, x0, x1, x2, x3, x4, x5, x6, hrep⟩ := (PReps.up HBr.out b off ks hrs).at j ka kk kn kkf kl kr kks hki; (have hltI : (j : Int) < (ks.length : Int) := by omega); (have hlc : (j : Int) < (cap : Int) := by omega); (have hih := fun (v : Value) (wx : World) h => HIH.out (.mk ka (.mk kk kn kkf) kl kr kks) (d + 1) v wx (Nat.lt_of_le_of_lt (pfsizes_get hki) HM.out) hd2 h); have HI : Hid (∀ v wx, PRep wx (.mk ka (.mk kk kn kkf) kl kr kks) v → Calls Try.prog 6 #[v, .int .i64 ((d + 1 : Nat) : Int)] wx _) := hih
                have HTk : Hid (SmallP (.mk ka (.mk kk kn kkf) kl kr kks) → ∀ k ∈ ks.take (j + 1), SmallP k) := fun hs k hk => by
                  rw [List.take_add_one, hki] at hk
                  rcases List.mem_append.1 hk with h | h
                  · exact HN.out k h
                  · simp at h; subst h; exact hs
                have HRp : Hid (PRep wr _ _) := hrep; clear hki hrs hih hrep HN; go_wp2_with fail; refine (HI.out _ _ HRp.out).mono ?_; rintro e w2 ⟨⟨b2, rfl, hs2⟩, hb2⟩; have HB2 : Hid (Below w.heap.size w w2) := below_join HBr.out hb2; have HB3 : Hid (Below wB.heap.size wB w2) := below_join HBr1.out hb2; have HS2 : Hid (b2 = false → SmallP _) := hs2; clear x0 x1 x2 x3 x4 x5 x6 hb2 hs2 j0 j1 j2 j3 j4 j5 j6
                cases b2
                · have HX := HTk.out (HS2.out rfl)
                  have HX' : Hid (∀ k ∈ ks.take (j + 1), SmallP k) := HX; clear HX HTk HS2; go_wp2_with fail
                  go_roundg (ks.length - (j + 1))
                  case measure => have := HG.out; omega
                  case rel => exact ⟨j + 1, by omega, rfl, by go_num, HB2, HB3, HX'⟩
                · clear HTk HS2
                  go_wp2_with fail; go_ret; (exact ⟨⟨true, rfl, fun h => (by cases h)⟩, HB2.out⟩)
              · have hge : ¬ (j : Int) < (ks.length : Int) := by omega
                have HX : Hid (SmallP (.mk a (.mk k n kf) l r ks)) := HSM.out (by
                  have := HN.out
                  rwa [List.take_of_length_le (by omega)] at this)
                clear HN; go_wp2_with fail; go_ret; (exact ⟨⟨false, rfl, fun _ => HX.out⟩, HBr.out⟩)
theorem pvast_all : ∀ m, PVastP m
  | 0 => fun _ _ _ _ h => absurd h (Nat.not_lt_zero _)
  | m + 1 => pvast_step m (pvast_all m)
theorem pvast_any (p : Pf) (v : Value) (w : World) (hv : PRep w p v) : Calls Try.prog 6 #[v, .int .i64 0] w fun e w' => IsVP p e ∧ Below w.heap.size w w' :=
  pvast_all (p.size + 1) p 0 v w (Nat.lt_succ_self _) (by omega) hv
end Go.Proofs.Ytlmjnglcdgkomac
/- A sequent as a formula, plain; walks: Tautology, InAll. -/
namespace Go.Proofs.Ytlmjnglcdgkomac
open Go.RowKit

theorem firstBad_fine {l : List Fm} {i : Nat} (h : (firstBad l i).1 = 0) : ∀ f ∈ l, f.pcode.1 = 0 := by
  induction l generalizing i with
  | nil => intro f hf; cases hf
  | cons x l ih =>
    rw [firstBad] at h; by_cases hx : x.pcode.1 = 0
    · rw [if_pos hx] at h
      intro f hf
      rcases List.mem_cons.1 hf with rfl | hf
      · exact hx
      · exact ih h f hf
    · rw [if_neg hx] at h
      exact absurd h hx
theorem seqCode_fine {l r : List Fm} (h : (seqCode l r).1 = 0) : l.length + r.length ≤ 60 ∧ (∀ f ∈ l, f.pcode.1 = 0) ∧ ∀ f ∈ r, f.pcode.1 = 0 := by
  unfold seqCode at h; by_cases h60 : 60 < l.length + r.length
  · rw [if_pos h60] at h; cases h
  · rw [if_neg h60] at h
    have := firstBad_fine h; (exact ⟨by omega, fun f hf => this f (List.mem_append_left _ hf), fun f hf => this f (List.mem_append_right _ hf)⟩)
theorem pcode_fine {f : Fm} (h : f.pcode.1 = 0) : Fine f ∧ f.size ≤ 200 := by
  obtain ⟨s, hs⟩ := (pcode_ok h).1; exact ⟨fine_of_chk _ 0 s hs, chk_size hs⟩

end Go.Proofs.Ytlmjnglcdgkomac
/- Walks: the proof of p | ~p; calculusBegun. -/
namespace Go.Proofs.Ytlmjnglcdgkomac
open Go.RowKit

def mP : Fm := .mk 1 ⟨#[112]⟩ []
def mN : Fm := .mk 4 ⟨#[]⟩ [mP]
def mO : Fm := .mk 6 ⟨#[]⟩ [mP, mN]
def midA : Pf := .mk ⟨#[97, 120]⟩ mP [mP] [mP] []
def midN : Pf := .mk ⟨#[110, 111, 116, 45, 114]⟩ mN [] [mP, mN] [midA]
def midO : Pf := .mk ⟨#[111, 114, 45, 114]⟩ mO [] [mO] [midN]

theorem blk_at {X : World} {o : Obj} {n : Nat} (h : X.heap.size = n) : (X.alloc o).heap[n]? = some o := by rw [← h]; exact blk_new X o
theorem seven (X : World) (a0 a1 a2 a3 a4 a5 a6 : Obj) : (∀ b, b < X.heap.size → (((((((X.alloc a0).alloc a1).alloc a2).alloc a3).alloc a4).alloc a5).alloc a6).heap[b]? = X.heap[b]?) ∧ (((((((X.alloc a0).alloc a1).alloc a2).alloc a3).alloc a4).alloc a5).alloc a6).heap[X.heap.size]? = some a0 ∧ (((((((X.alloc a0).alloc a1).alloc a2).alloc a3).alloc a4).alloc a5).alloc a6).heap[X.heap.size + 1]? = some a1 ∧ (((((((X.alloc a0).alloc a1).alloc a2).alloc a3).alloc a4).alloc a5).alloc a6).heap[X.heap.size + 1 + 1]? = some a2 ∧ (((((((X.alloc a0).alloc a1).alloc a2).alloc a3).alloc a4).alloc a5).alloc a6).heap[X.heap.size + 1 + 1 + 1]? = some a3 ∧ (((((((X.alloc a0).alloc a1).alloc a2).alloc a3).alloc a4).alloc a5).alloc a6).heap[X.heap.size + 1 + 1 + 1 + 1]? = some a4 ∧ (((((((X.alloc a0).alloc a1).alloc a2).alloc a3).alloc a4).alloc a5).alloc a6).heap[X.heap.size + 1 + 1 + 1 + 1 + 1]? = some a5 ∧ (((((((X.alloc a0).alloc a1).alloc a2).alloc a3).alloc a4).alloc a5).alloc a6).heap[X.heap.size + 1 + 1 + 1 + 1 + 1 + 1]? = some a6 := by
  (have s1 : (X.alloc a0).heap.size = X.heap.size + 1 := by simp); (have s2 : ((X.alloc a0).alloc a1).heap.size = X.heap.size + 1 + 1 := by simp); (have s3 : (((X.alloc a0).alloc a1).alloc a2).heap.size = X.heap.size + 1 + 1 + 1 := by simp); (have s4 : ((((X.alloc a0).alloc a1).alloc a2).alloc a3).heap.size = X.heap.size + 1 + 1 + 1 + 1 := by simp); (have s5 : (((((X.alloc a0).alloc a1).alloc a2).alloc a3).alloc a4).heap.size = X.heap.size + 1 + 1 + 1 + 1 + 1 := by simp); (have s6 : ((((((X.alloc a0).alloc a1).alloc a2).alloc a3).alloc a4).alloc a5).heap.size = X.heap.size + 1 + 1 + 1 + 1 + 1 + 1 := by simp); (refine ⟨fun b hb => ?_, ?_, ?_, ?_, ?_, ?_, ?_, ?_⟩)
  · rw [Below.heap_alloc _ _ _ (by omega), Below.heap_alloc _ _ _ (by omega), Below.heap_alloc _ _ _ (by omega), Below.heap_alloc _ _ _ (by omega), Below.heap_alloc _ _ _ (by omega), Below.heap_alloc _ _ _ (by omega), Below.heap_alloc _ _ _ hb]
  · exact alloc_keep (alloc_keep (alloc_keep (alloc_keep (alloc_keep (alloc_keep (blk_new X a0) _) _) _) _) _) _
  · exact alloc_keep (alloc_keep (alloc_keep (alloc_keep (alloc_keep (blk_at s1) _) _) _) _) _
  · exact alloc_keep (alloc_keep (alloc_keep (alloc_keep (blk_at s2) _) _) _) _
  · exact alloc_keep (alloc_keep (alloc_keep (blk_at s3) _) _) _
  · exact alloc_keep (alloc_keep (blk_at s4) _) _
  · exact alloc_keep (blk_at s5) _
  · exact blk_at s6

set_option maxRecDepth 10000 in
set_option maxHeartbeats 8000000 in
theorem middle_any (w : World) : Calls Try.prog 15 #[] w fun e w' => ∃ x, e = .returned x ∧ PRep w' midO x ∧ Below w.heap.size w w' := by
  go_enter Try.func15, Try.ntmps15
  go_wp2_with fail; refine (named_any _ _).mono ?_; rintro e w1 ⟨rfl, hb1⟩; have p1 := below_keep hb1 (blk_new w (.cells #[.string ⟨#[]⟩, .int .i64 0, .string ⟨#[]⟩, .slice none 0 0, .slice none 0 0, .slice none 0 0, .slice none 0 0] 29 (0, 0))); have P1 : Hid (w1.heap[w.heap.size]? = some _) := p1; have HB1 : Hid (Below w.heap.size w w1) := below_join (below_more (Below.refl _ w) _) hb1; have z1 := lt_of_block p1; clear hb1 p1; go_wp2_with fail; (refine (ofP_any (fun b => b ≠ w.heap.size) 4 mP _ _ (fun b hb => by simp at hb; omega) (Rep.leaf (by decide))).mono ?_); rintro e w2 ⟨xn, rfl, hn, hb2⟩; obtain ⟨sn, cn, rfl⟩ := slice_shape hn; (have HN : Hid (Rep w2 (fun b => b ≠ w.heap.size) mN _) := hn); have HB2 : Hid (Below w.heap.size w w2) := below_join (below_more HB1.out _) hb2; have P2 : Hid (w2.heap[w.heap.size]? = some _) := below_keep hb2 (alloc_keep P1.out _); have Q1 : Hid (w2.heap[w1.heap.size]? = some (.cells #[.int .i64 1, .string ⟨#[112]⟩, .slice none 0 0] 24 (0, 0))) := below_keep hb2 (blk_new w1 _); have z2 := lt_of_block Q1.out; obtain ⟨a0, a1, a2, -⟩ := blk3 Q1.out; (have d1 : ¬ w1.heap.size = w2.heap.size := by omega); clear hb2 hn; go_wp2_with fail; (refine (bothP_any (fun b => b ≠ w.heap.size) 6 mP mN _ _ _ (fun b hb => by simp at hb; omega) (Rep.leaf (by decide)) (HN.out.up' (below_more (Below.refl _ w2) _))).mono ?_); rintro e w3 ⟨xo, rfl, ho, hb3⟩; obtain ⟨so, co, rfl⟩ := slice_shape ho; (have HO : Hid (Rep w3 (fun b => b ≠ w.heap.size) mO _) := ho); (have HN3 : Hid (Rep w3 (fun b => b ≠ w.heap.size) mN _) := (HN.out.up' (below_more (Below.refl _ w2) _)).up' hb3); have HB3 : Hid (Below w.heap.size w w3) := below_join (below_more HB2.out _) hb3; have P3 : Hid (w3.heap[w.heap.size]? = some _) := below_keep hb3 (alloc_keep P2.out _); have Q2 : Hid (w3.heap[w2.heap.size]? = some _) := below_keep hb3 (blk_new w2 _); have R2 : Hid (w3.heap[w1.heap.size]? = some _) := below_keep hb3 (alloc_keep Q1.out _); have z3 := lt_of_block Q2.out; have z4 := lt_of_block R2.out; have z5 := lt_of_block P3.out; clear a0 a1 a2 hb3 ho; obtain ⟨a0, a1, a2, -⟩ := blk3 R2.out; obtain ⟨b0, b1, b2, -⟩ := blk3 Q2.out; obtain ⟨j0, j1, j2, j3, j4, j5, j6⟩ := blk7 P3.out; obtain ⟨m0, m1, m2, m3, m4, m5, m6⟩ := blk7f P3.out; (have la0 : w.heap.size < w3.heap.size := by omega); (have na0 : ¬ w.heap.size = w3.heap.size := by omega); (have la1 : w.heap.size < w3.heap.size + 1 := by omega); (have na1 : ¬ w.heap.size = w3.heap.size + 1 := by omega); (have la2 : w.heap.size < w3.heap.size + 1 + 1 := by omega); (have na2 : ¬ w.heap.size = w3.heap.size + 1 + 1 := by omega); (have la3 : w.heap.size < w3.heap.size + 1 + 1 + 1 := by omega); (have na3 : ¬ w.heap.size = w3.heap.size + 1 + 1 + 1 := by omega); (have la4 : w.heap.size < w3.heap.size + 1 + 1 + 1 + 1 := by omega); (have na4 : ¬ w.heap.size = w3.heap.size + 1 + 1 + 1 + 1 := by omega); (have la5 : w.heap.size < w3.heap.size + 1 + 1 + 1 + 1 + 1 := by omega); (have na5 : ¬ w.heap.size = w3.heap.size + 1 + 1 + 1 + 1 + 1 := by omega); (have la6 : w.heap.size < w3.heap.size + 1 + 1 + 1 + 1 + 1 + 1 := by omega); (have na6 : ¬ w.heap.size = w3.heap.size + 1 + 1 + 1 + 1 + 1 + 1 := by omega); (have la7 : w.heap.size < w3.heap.size + 1 + 1 + 1 + 1 + 1 + 1 + 1 := by omega); (have na7 : ¬ w.heap.size = w3.heap.size + 1 + 1 + 1 + 1 + 1 + 1 + 1 := by omega); (have lb0 : w1.heap.size < w3.heap.size := by omega); (have nb0 : ¬ w1.heap.size = w3.heap.size := by omega); (have lb1 : w1.heap.size < w3.heap.size + 1 := by omega); (have nb1 : ¬ w1.heap.size = w3.heap.size + 1 := by omega); (have lb2 : w1.heap.size < w3.heap.size + 1 + 1 := by omega); (have nb2 : ¬ w1.heap.size = w3.heap.size + 1 + 1 := by omega); (have lb3 : w1.heap.size < w3.heap.size + 1 + 1 + 1 := by omega); (have nb3 : ¬ w1.heap.size = w3.heap.size + 1 + 1 + 1 := by omega); (have lb4 : w1.heap.size < w3.heap.size + 1 + 1 + 1 + 1 := by omega); (have nb4 : ¬ w1.heap.size = w3.heap.size + 1 + 1 + 1 + 1 := by omega); (have lb5 : w1.heap.size < w3.heap.size + 1 + 1 + 1 + 1 + 1 := by omega); (have nb5 : ¬ w1.heap.size = w3.heap.size + 1 + 1 + 1 + 1 + 1 := by omega); (have lb6 : w1.heap.size < w3.heap.size + 1 + 1 + 1 + 1 + 1 + 1 := by omega)
  (have nb6 : ¬ w1.heap.size = w3.heap.size + 1 + 1 + 1 + 1 + 1 + 1 := by omega); (have lb7 : w1.heap.size < w3.heap.size + 1 + 1 + 1 + 1 + 1 + 1 + 1 := by omega); (have nb7 : ¬ w1.heap.size = w3.heap.size + 1 + 1 + 1 + 1 + 1 + 1 + 1 := by omega); (have lc0 : w2.heap.size < w3.heap.size := by omega); (have nc0 : ¬ w2.heap.size = w3.heap.size := by omega); (have lc1 : w2.heap.size < w3.heap.size + 1 := by omega); (have nc1 : ¬ w2.heap.size = w3.heap.size + 1 := by omega); (have lc2 : w2.heap.size < w3.heap.size + 1 + 1 := by omega); (have nc2 : ¬ w2.heap.size = w3.heap.size + 1 + 1 := by omega); (have lc3 : w2.heap.size < w3.heap.size + 1 + 1 + 1 := by omega); (have nc3 : ¬ w2.heap.size = w3.heap.size + 1 + 1 + 1 := by omega); (have lc4 : w2.heap.size < w3.heap.size + 1 + 1 + 1 + 1 := by omega); (have nc4 : ¬ w2.heap.size = w3.heap.size + 1 + 1 + 1 + 1 := by omega); (have lc5 : w2.heap.size < w3.heap.size + 1 + 1 + 1 + 1 + 1 := by omega); (have nc5 : ¬ w2.heap.size = w3.heap.size + 1 + 1 + 1 + 1 + 1 := by omega); (have lc6 : w2.heap.size < w3.heap.size + 1 + 1 + 1 + 1 + 1 + 1 := by omega); (have nc6 : ¬ w2.heap.size = w3.heap.size + 1 + 1 + 1 + 1 + 1 + 1 := by omega); (have lc7 : w2.heap.size < w3.heap.size + 1 + 1 + 1 + 1 + 1 + 1 + 1 := by omega); (have nc7 : ¬ w2.heap.size = w3.heap.size + 1 + 1 + 1 + 1 + 1 + 1 + 1 := by omega); (have ld1 : w3.heap.size < w3.heap.size + 1 := by omega); (have nd1 : ¬ w3.heap.size = w3.heap.size + 1 := by omega); (have ld2 : w3.heap.size < w3.heap.size + 1 + 1 := by omega); (have nd2 : ¬ w3.heap.size = w3.heap.size + 1 + 1 := by omega); (have ld3 : w3.heap.size < w3.heap.size + 1 + 1 + 1 := by omega); (have nd3 : ¬ w3.heap.size = w3.heap.size + 1 + 1 + 1 := by omega); (have ld4 : w3.heap.size < w3.heap.size + 1 + 1 + 1 + 1 := by omega); (have nd4 : ¬ w3.heap.size = w3.heap.size + 1 + 1 + 1 + 1 := by omega); (have ld5 : w3.heap.size < w3.heap.size + 1 + 1 + 1 + 1 + 1 := by omega); (have nd5 : ¬ w3.heap.size = w3.heap.size + 1 + 1 + 1 + 1 + 1 := by omega); (have ld6 : w3.heap.size < w3.heap.size + 1 + 1 + 1 + 1 + 1 + 1 := by omega); (have nd6 : ¬ w3.heap.size = w3.heap.size + 1 + 1 + 1 + 1 + 1 + 1 := by omega); (have ld7 : w3.heap.size < w3.heap.size + 1 + 1 + 1 + 1 + 1 + 1 + 1 := by omega); (have nd7 : ¬ w3.heap.size = w3.heap.size + 1 + 1 + 1 + 1 + 1 + 1 + 1 := by omega); go_wp2_with fail; obtain ⟨X, hX⟩ : ∃ X, X = put7 w3 w.heap.size (.string ⟨#[111, 114, 45, 114]⟩) (.int .i64 6) (.string ⟨#[]⟩) (.slice so 2 co) (.slice none 0 0) (.slice (some ⟨w3.heap.size + 1, 0, none⟩) 1 1) (.slice (some ⟨w3.heap.size + 1 + 1 + 1 + 1 + 1 + 1, 0, none⟩) 1 1) := ⟨_, rfl⟩; (have hXs : X.heap.size = w3.heap.size := by rw [hX]; simp [put7, World.setCell]); (have hXp : X.heap[w.heap.size]? = some (.cells #[.string ⟨#[111, 114, 45, 114]⟩, .int .i64 6, .string ⟨#[]⟩, .slice so 2 co, .slice none 0 0, .slice (some ⟨w3.heap.size + 1, 0, none⟩) 1 1, .slice (some ⟨w3.heap.size + 1 + 1 + 1 + 1 + 1 + 1, 0, none⟩) 1 1] 29 (0, 0)) := by rw [hX]; exact put7_blk P3.out _ _ _ _ _ _ _); (have hXo : ∀ b, b ≠ w.heap.size → X.heap[b]? = w3.heap[b]? := fun b hb => by rw [hX]; exact put7_other hb _ _ _ _ _ _ _); (have hXb : Below w.heap.size w X := by rw [hX]; exact put7_below HB3.out (Nat.le_refl _) _ _ _ _ _ _ _); show bodyPost _ _ _ _ _ (((((((((put7 w3 w.heap.size _ _ _ _ _ _ _).alloc _).alloc _).alloc _).alloc _).alloc _).alloc _).alloc _)); rw [← hX]; obtain ⟨g0, f0, f1, f2, f3, f4, f5, f6⟩ := seven X (.cells #[.int .i64 6, .string ⟨#[]⟩, .slice so 2 co] 24 (0, 0)) (.cells #[.int .i64 6, .string ⟨#[]⟩, .slice so 2 co] 24 (0, 0)) (.cells #[.int .i64 1, .string ⟨#[112]⟩, .slice none 0 0, .int .i64 4, .string ⟨#[]⟩, .slice sn 1 cn] 24 (0, 0)) (.cells #[.int .i64 1, .string ⟨#[112]⟩, .slice none 0 0] 24 (0, 0)) (.cells #[.int .i64 1, .string ⟨#[112]⟩, .slice none 0 0] 24 (0, 0)) (.cells #[.string ⟨#[97, 120]⟩, .int .i64 1, .string ⟨#[112]⟩, .slice none 0 0, .slice (some ⟨w3.heap.size + 1 + 1 + 1, 0, none⟩) 1 1, .slice (some ⟨w3.heap.size + 1 + 1 + 1 + 1, 0, none⟩) 1 1, .slice none 0 0] 29 (0, 0)) (.cells #[.string ⟨#[110, 111, 116, 45, 114]⟩, .int .i64 4, .string ⟨#[]⟩, .slice sn 1 cn, .slice none 0 0, .slice (some ⟨w3.heap.size + 1 + 1, 0, none⟩) 2 2, .slice (some ⟨w3.heap.size + 1 + 1 + 1 + 1 + 1, 0, none⟩) 1 1] 29 (0, 0))
  have hBF := below_more (below_more (below_more (below_more (below_more (below_more (below_more hXb (.cells #[.int .i64 6, .string ⟨#[]⟩, .slice so 2 co] 24 (0, 0))) (.cells #[.int .i64 6, .string ⟨#[]⟩, .slice so 2 co] 24 (0, 0))) (.cells #[.int .i64 1, .string ⟨#[112]⟩, .slice none 0 0, .int .i64 4, .string ⟨#[]⟩, .slice sn 1 cn] 24 (0, 0))) (.cells #[.int .i64 1, .string ⟨#[112]⟩, .slice none 0 0] 24 (0, 0))) (.cells #[.int .i64 1, .string ⟨#[112]⟩, .slice none 0 0] 24 (0, 0))) (.cells #[.string ⟨#[97, 120]⟩, .int .i64 1, .string ⟨#[112]⟩, .slice none 0 0, .slice (some ⟨w3.heap.size + 1 + 1 + 1, 0, none⟩) 1 1, .slice (some ⟨w3.heap.size + 1 + 1 + 1 + 1, 0, none⟩) 1 1, .slice none 0 0] 29 (0, 0))) (.cells #[.string ⟨#[110, 111, 116, 45, 114]⟩, .int .i64 4, .string ⟨#[]⟩, .slice sn 1 cn, .slice none 0 0, .slice (some ⟨w3.heap.size + 1 + 1, 0, none⟩) 2 2, .slice (some ⟨w3.heap.size + 1 + 1 + 1 + 1 + 1, 0, none⟩) 1 1] 29 (0, 0)); generalize World.alloc _ _ = F at *; rw [hXs] at f0 f1 f2 f3 f4 f5 f6 g0; have hp := (g0 w.heap.size z5).trans hXp; (have mvO := HO.out.move (w' := F) (ok' := fun _ => True) fun b hb ho => ⟨(g0 b hb).trans (hXo b ho), trivial⟩); (have mvN := HN3.out.move (w' := F) (ok' := fun _ => True) fun b hb ho => ⟨(g0 b hb).trans (hXo b ho), trivial⟩); (have rP : Rep F (fun _ => True) mP (.agg #[.int .i64 1, .string ⟨#[112]⟩, .slice none 0 0]) := Rep.leaf (by decide)); (have pA : PRep F midA (.agg #[.string ⟨#[97, 120]⟩, .int .i64 1, .string ⟨#[112]⟩, .slice none 0 0, .slice (some ⟨w3.heap.size + 1 + 1 + 1, 0, none⟩) 1 1, .slice (some ⟨w3.heap.size + 1 + 1 + 1 + 1, 0, none⟩) 1 1, .slice none 0 0]) := PRep.def.2 ⟨_, _, _, _, _, none, 0, rfl, by decide, rP, FL.sing f3 rP, FL.sing f4 rP, Nat.le_refl _, by simp, fun h => absurd rfl h⟩); (have pN : PRep F midN (.agg #[.string ⟨#[110, 111, 116, 45, 114]⟩, .int .i64 4, .string ⟨#[]⟩, .slice sn 1 cn, .slice none 0 0, .slice (some ⟨w3.heap.size + 1 + 1, 0, none⟩) 2 2, .slice (some ⟨w3.heap.size + 1 + 1 + 1 + 1 + 1, 0, none⟩) 1 1]) := PRep.def.2 ⟨_, _, _, _, _, _, 1, rfl, by decide, mvN, FL.none, FL.duo f2 rP mvN, Nat.le_refl _, by simp [maxLen], fun _ => ⟨_, 0, rfl, PReps.cons.2 ⟨⟨_, _, _, _, _, _, _, blk_cell f5 0, blk_cell f5 1, blk_cell f5 2, blk_cell f5 3, blk_cell f5 4, blk_cell f5 5, blk_cell f5 6, pA⟩, PReps.nil⟩⟩⟩); (have pO : PRep F midO (.agg #[.string ⟨#[111, 114, 45, 114]⟩, .int .i64 6, .string ⟨#[]⟩, .slice so 2 co, .slice none 0 0, .slice (some ⟨w3.heap.size + 1, 0, none⟩) 1 1, .slice (some ⟨w3.heap.size + 1 + 1 + 1 + 1 + 1 + 1, 0, none⟩) 1 1]) := PRep.def.2 ⟨_, _, _, _, _, _, 1, rfl, by decide, mvO, FL.none, FL.sing f1 mvO, Nat.le_refl _, by simp [maxLen], fun _ => ⟨_, 0, rfl, PReps.cons.2 ⟨⟨_, _, _, _, _, _, _, blk_cell f6 0, blk_cell f6 1, blk_cell f6 2, blk_cell f6 3, blk_cell f6 4, blk_cell f6 5, blk_cell f6 6, pN⟩, PReps.nil⟩⟩⟩); have HPO : Hid (PRep F midO _) := pO; obtain ⟨y0, y1, y2, y3, y4, y5, y6⟩ := blk7 hp; (exact bodyPost_ret (v := .agg #[.string ⟨#[111, 114, 45, 114]⟩, .int .i64 6, .string ⟨#[]⟩, .slice so 2 co, .slice none 0 0, .slice (some ⟨w3.heap.size + 1, 0, none⟩) 1 1, .slice (some ⟨w3.heap.size + 1 + 1 + 1 + 1 + 1 + 1, 0, none⟩) 1 1]) (by simp [results, Try.results15, go_sem, y0, y1, y2, y3, y4, y5, y6]) rfl ⟨_, rfl, HPO.out, hBF⟩)
end Go.Proofs.Ytlmjnglcdgkomac
/- Walks: calculusBegun. -/
namespace Go.Proofs.Ytlmjnglcdgkomac
open Go.RowKit
theorem mid_no : (look false midO 1 0 0).1 = (0, 0) := by decide +kernel
theorem mid_yes : (look true midO 1 0 0).1 = (4, 0) := by decide +kernel
theorem mid_small : SmallP midO := SmallP.mk (by decide) (by decide) (by decide) fun k hk => by
  simp only [List.mem_cons, List.not_mem_nil, or_false] at hk; subst hk; (refine SmallP.mk (by decide) (by decide) (by decide) fun k hk => ?_); simp only [List.mem_cons, List.not_mem_nil, or_false] at hk; subst hk; (exact SmallP.mk (by decide) (by decide) (by decide) fun k hk => by cases hk)

set_option maxRecDepth 10000 in
set_option maxHeartbeats 4000000 in
theorem calculusBegun_any (w : World) : Calls Try.prog 5 #[] w fun e w' => e = .returned (.bool true) ∧ Below w.heap.size w w' := by
  (have hc1 := fun v (w : World) h => pcheck_any false midO mid_small v w h); (have hc2 := fun v (w : World) h => pcheck_any true midO mid_small v w h); simp only [mid_no, mid_yes] at hc1 hc2; (have HC1 : Hid (∀ v w, PRep w midO v → Calls Try.prog 9 #[v, .bool false] w fun e w' => e = .returned (.agg #[.int .i64 0, .int .i64 0]) ∧ Below w.heap.size w w') := hc1); (have HC2 : Hid (∀ v w, PRep w midO v → Calls Try.prog 9 #[v, .bool true] w fun e w' => e = .returned (.agg #[.int .i64 4, .int .i64 0]) ∧ Below w.heap.size w w') := hc2); clear hc1 hc2
  go_enter Try.func5, Try.ntmps5
  go_wp2_with fail; refine (middle_any w).mono ?_; rintro e w1 ⟨x, rfl, hx, hb1⟩; have HX : Hid (PRep w1 midO x) := hx; clear hx; go_wp2_with fail; refine (HC1.out _ _ HX.out).mono ?_; rintro e w2 ⟨rfl, hb2⟩; have B2 := below_join hb1 hb2; clear hb1 hb2; go_wp2_with fail; refine (middle_any _).mono ?_; rintro e w3 ⟨y, rfl, hy, hb3⟩; have HY : Hid (PRep w3 midO y) := hy; have B3 := below_join (below_more B2 _) hb3; have Q3 : Hid (w3.heap[w2.heap.size]? = some _) := below_keep hb3 (blk_new w2 _); clear hy hb3; go_wp2_with fail; refine (HC2.out _ _ HY.out).mono ?_; rintro e w4 ⟨rfl, hb4⟩; have B4 := below_join B3 hb4; have Q4 : Hid (w4.heap[w2.heap.size]? = some _) := below_keep hb4 Q3.out; have z4 := lt_of_block Q4.out; obtain ⟨a0, a1, -⟩ := blk2 Q4.out; (have d1 : ¬ w2.heap.size = w4.heap.size := by omega); (have d2 : ¬ w4.heap.size = w2.heap.size := by omega); clear hb4; go_wp2_with fail; have hp0 := blk_new w4 (.cells #[.int .i64 4, .int .i64 0] 34 (0, 0)); obtain ⟨b0, b1, -⟩ := blk2 hp0; obtain ⟨c0, c1, -⟩ := blk2 (alloc_keep Q4.out (.cells #[.int .i64 4, .int .i64 0] 34 (0, 0)))
  go_region_held3 (fun w' => w'.cell? ⟨w2.heap.size, 0, none⟩ = some (.int .i64 0) ∧ w'.cell? ⟨w4.heap.size, 0, none⟩ = some (.int .i64 4) ∧ w'.cell? ⟨w4.heap.size, 1, none⟩ = some (.int .i64 0)) (go_keep)
    (first
     | (go_at_call 16
        refine (mkF_any 4 0 _).mono ?_; rintro e w5 ⟨rfl, hb5⟩; have B5 := below_join (below_more B4 _).drew hb5; obtain ⟨e0, e1, -⟩ := blk2 (below_keep hb5 (show ((w4.alloc (.cells #[.int .i64 4, .int .i64 0] 34 (0, 0))).drew).heap[w4.heap.size]? = _ from hp0)); obtain ⟨f0, f1, -⟩ := blk2 (below_keep hb5 (show ((w4.alloc (.cells #[.int .i64 4, .int .i64 0] 34 (0, 0))).drew).heap[w2.heap.size]? = _ from alloc_keep Q4.out _))
        clear hb5)
     | fail)
  all_goals
    go_wp2_with fail; go_ret; exact ⟨rfl, B5⟩
end Go.Proofs.Ytlmjnglcdgkomac
