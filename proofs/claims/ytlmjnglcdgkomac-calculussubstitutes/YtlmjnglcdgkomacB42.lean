/- Texts of one proof, one behind the other: CG3, CH1, CH3, CH4, CH5, CW7, CS2, CS4, CS5. -/
import Derived.Test.YtlmjnglcdgkomacB39
import Derived.Test.YtlmjnglcdgkomacB18
import Derived.Test.YtlmjnglcdgkomacB11
import Derived.Test.YtlmjnglcdgkomacB09
import Derived.Test.YtlmjnglcdgkomacB10
import Derived.Deep.RegionLaw
import Derived.Shelf.Sort.Plain
import Derived.Shelf.Slices.CompactS
import Derived.Shelf.Slices.In.SortNone
import Derived.Test.YtlmjnglcdgkomacProg
import Derived.Sort.OwnSorted
import Derived.Test.YtlmjnglcdgkomacB12
import Derived.Test.YtlmjnglcdgkomacB41
import Derived.Test.YtlmjnglcdgkomacB20
import Derived.Test.YtlmjnglcdgkomacB40
import Derived.Test.YtlmjnglcdgkomacB22
import Derived.Test.YtlmjnglcdgkomacB38
import Derived.Test.YtlmjnglcdgkomacB32
import Derived.Test.YtlmjnglcdgkomacB08
/- Walks: Cuts, Check. -/
namespace Go.Proofs.Ytlmjnglcdgkomac
open Go.RowKit Go.Maps Go.WideMaps

/-- What Cuts answers. -/
def cutsL (i : Bool) (p : Pf) : Int × Int × Int := if (look i p 1 0 0).1.1 ≠ 0 then (0, (look i p 1 0 0).1.1, (look i p 1 0 0).1.2) else (((look i p 1 0 0).2.2 : Nat), 0, 0)

set_option maxRecDepth 10000 in
set_option maxHeartbeats 8000000 in
theorem cuts_any (i : Bool) (p : Pf) (hsm : SmallP p) (v : Value) (w : World) (hv : PRep w p v) :
    Calls Try.prog 19 #[v, .bool i] w fun e w' => e = .returned (.tuple #[.int .i64 (cutsL i p).1, .agg #[.int .i64 (cutsL i p).2.1, .int .i64 (cutsL i p).2.2]]) ∧ Below w.heap.size w w' := by
  (have hlk := fun (v : Value) (w0 w : World) (bc mm : Nat) h1 h2 h3 h4 h5 => plook_all i (p.size + 1) p v w0 w bc mm 1 0 0 (Nat.lt_succ_self _) hsm h1 h2 h3 h4 h5 (by omega) (by omega) (by omega)); (have hcl : cutsL i p = if (look i p 1 0 0).1.1 ≠ 0 then (0, (look i p 1 0 0).1.1, (look i p 1 0 0).1.2) else ((((look i p 1 0 0).2.2 : Nat) : Int), 0, 0) := rfl); (have hle := look_le i p 1 0 0 (by omega) (by omega)); generalize look i p 1 0 0 = lk at *; generalize cutsL i p = cl at *; obtain ⟨⟨lc, la⟩, ls, lcu⟩ := lk; (have HLK : Hid (∀ (v : Value) (w0 w : World) (bc mm : Nat), PRep w0 p v → RulesAt i w0 mm → Below w0.heap.size w0 w → w0.heap.size ≤ bc → Ck w bc i mm 0 0 → Calls Try.prog 28 #[.pointer (some ⟨bc, 0, none⟩), v, .int .i64 1] w fun e w' => e = .returned (.agg #[.int .i64 lc, .int .i64 la]) ∧ Ck w' bc i mm ls lcu ∧ KB1 bc w w') := hlk); obtain ⟨a, ⟨k, n, kf⟩, l, r, ks⟩ := p; have HV : Hid (PRep w (.mk a (.mk k n kf) l r ks) v) := hv; obtain ⟨sf, cf, al, cl', ar, cr, sl, cap, rfl, -⟩ := hv.parts; clear hlk hv hsm hle; obtain ⟨O, hO⟩ : ∃ O, O = Obj.cells #[.string a, .int .i64 k, .string n, .slice sf kf.length cf, .slice al l.length cl', .slice ar r.length cr, .slice sl ks.length cap] 29 (0, 0) := ⟨_, rfl⟩; have B0 : Below w.heap.size w ((w.alloc O).alloc (.cells #[.int .i64 0, .int .i64 0] 34 (0, 0))) := below_more (below_more (Below.refl _ w) _) _
  go_enter Try.func19, Try.ntmps19
  go_wp2_with fail; rw [← hO]; refine (rules_any i _).mono ?_; rintro e w1 ⟨mm, rfl, hru, hb1⟩; have B1 := below_join B0 hb1; have HRU : Hid (RulesAt i w1 mm) := hru; have q0 := below_keep hb1 (alloc_keep (blk_new w O) (.cells #[.int .i64 0, .int .i64 0] 34 (0, 0))); rw [hO] at q0; have q1 := below_keep hb1 (blk_two w O (.cells #[.int .i64 0, .int .i64 0] 34 (0, 0))); have HQ0 : Hid (w1.heap[w.heap.size]? = some _) := q0; have HQ1 : Hid (w1.heap[w.heap.size + 1]? = some _) := q1; obtain ⟨j0, j1, j2, j3, j4, j5, j6⟩ := blk7 q0; have z1 := lt_of_block q1; have z0 := lt_of_block q0; (have e0 : ¬ w.heap.size = w1.heap.size := by omega); (have e00 : ¬ w1.heap.size = w.heap.size := by omega); clear hru q0 q1 hb1 hO; go_wp2_with fail; refine (HLK.out _ w1 _ w1.heap.size mm (PRep.up B1 _ _ HV.out) HRU.out (below_more (Below.refl _ w1) _) (Nat.le_refl _) (blk_new w1 _)).mono ?_; rintro e w2 ⟨rfl, hck2, hkb2⟩; have HC2 : Hid (Ck w2 w1.heap.size i mm ls lcu) := hck2; have hB2 : Below w1.heap.size w1 w2 := kb_base (below_more (Below.refl _ w1) _) (Nat.le_refl _) hkb2; have HB2 : Hid (Below w.heap.size w w2) := below_join B1 hB2; have q1 := below_keep hB2 HQ1.out; have HR1 : Hid (w2.heap[w.heap.size + 1]? = some _) := q1; obtain ⟨y0, y1, y2, y3⟩ := blk2 q1; obtain ⟨i0, i1, i2, i3, -⟩ := blk4 (show w2.heap[w1.heap.size]? = _ from hck2); have z2 := lt_of_block q1; have z3 := ck_lt hck2; (have e1 : ¬ w2.heap.size = w.heap.size + 1 := by omega); (have e2 : ¬ w.heap.size + 1 = w2.heap.size := by omega); (have e3 : ¬ w2.heap.size = w1.heap.size := by omega); (have e4 : ¬ w1.heap.size = w.heap.size + 1 := by omega); (have e5 : ¬ w1.heap.size = w2.heap.size := by omega); clear hck2 hkb2 j0 j1 j2 j3 j4 j5 j6 hB2 q1; by_cases hl0 : lc = 0
  · subst hl0
    (rw [if_neg (fun h => h rfl)] at hcl); have HE : Hid (cl = _) := hcl; clear hcl; go_wp2_with fail; have f2 := set2 HR1.out (.int .i64 0) (.int .i64 0); (have b2 := (HB2.out.setCell (p := ⟨w.heap.size + 1, 0, none⟩) (by simp) (.int .i64 0)).setCell (p := ⟨w.heap.size + 1, 1, none⟩) (by simp) (.int .i64 0)); (have hsz : ((w2.setCell ⟨w.heap.size + 1, 0, none⟩ (.int .i64 0)).setCell ⟨w.heap.size + 1, 1, none⟩ (.int .i64 0)).heap.size = w2.heap.size := by simp [World.setCell]); generalize World.setCell _ _ _ = F at f2 b2 hsz ⊢; clear y0 y1 y2 y3; obtain ⟨k1, k2, -⟩ := blk2 f2; have d9 : w.heap.size + 1 < F.heap.size := lt_of_block f2; (exact bodyPost_ret (v := .tuple #[.int .i64 (lcu : Nat), .agg #[.int .i64 0, .int .i64 0]]) (by simp [results, Try.results19, go_sem, k1, k2, d9]) rfl ⟨by rw [HE.out], below_more b2 _⟩)
  · rw [if_pos hl0] at hcl
    have HE : Hid (cl = _) := hcl; (have hlJ : (lc != 0) = true := by simpa using hl0); clear hcl; go_wp2_with fail
    go_region
    go_wp2_with fail; have f2 := set2 HR1.out (.int .i64 lc) (.int .i64 la); (have b2 := (HB2.out.setCell (p := ⟨w.heap.size + 1, 0, none⟩) (by simp) (.int .i64 lc)).setCell (p := ⟨w.heap.size + 1, 1, none⟩) (by simp) (.int .i64 la)); (have hsz : ((w2.setCell ⟨w.heap.size + 1, 0, none⟩ (.int .i64 lc)).setCell ⟨w.heap.size + 1, 1, none⟩ (.int .i64 la)).heap.size = w2.heap.size := by simp [World.setCell]); generalize World.setCell _ _ _ = F at f2 b2 hsz ⊢; clear y0 y1 y2 y3; obtain ⟨k1, k2, -⟩ := blk2 f2; have d9 : w.heap.size + 1 < F.heap.size := lt_of_block f2; (exact bodyPost_ret (v := .tuple #[.int .i64 0, .agg #[.int .i64 lc, .int .i64 la]]) (by simp [results, Try.results19, go_sem, k1, k2, d9]) rfl ⟨by rw [HE.out], (below_more b2 _).drew⟩)

set_option maxHeartbeats 2000000 in
theorem pcheck_any (i : Bool) (p : Pf) (hsm : SmallP p) (v : Value) (w : World) (hv : PRep w p v) :
    Calls Try.prog 9 #[v, .bool i] w fun e w' => e = .returned (.agg #[.int .i64 (look i p 1 0 0).1.1, .int .i64 (if (look i p 1 0 0).1.1 ≠ 0 then (look i p 1 0 0).1.2 else 0)]) ∧ Below w.heap.size w w' := by
  (have hcu := fun v (w : World) h => cuts_any i p hsm v w h)
  have hcl : (cutsL i p).2 = ((look i p 1 0 0).1.1, if (look i p 1 0 0).1.1 ≠ 0 then (look i p 1 0 0).1.2 else 0) := by
    unfold cutsL; by_cases h : (look i p 1 0 0).1.1 = 0
    · rw [if_neg (fun h' => h' h), if_neg (fun h' => h' h), h]
    · rw [if_pos h, if_pos h]
  generalize cutsL i p = cl at *; obtain ⟨x1, x2, x3⟩ := cl; generalize (look i p 1 0 0).1.1 = lc at *; (generalize (if lc ≠ 0 then (look i p 1 0 0).1.2 else 0) = la at *); simp only [Prod.mk.injEq] at hcl; obtain ⟨rfl, rfl⟩ := hcl; obtain ⟨a, ⟨k, n, kf⟩, l, r, ks⟩ := p; have HV : Hid (PRep w (.mk a (.mk k n kf) l r ks) v) := hv; obtain ⟨sf, cf, al, cl', ar, cr, sl, cap, rfl, -⟩ := hv.parts; have HCU : Hid (∀ v w, PRep w (.mk a (.mk k n kf) l r ks) v → Calls Try.prog 19 #[v, .bool i] w _) := hcu; clear hcu hv hsm
  go_enter Try.func9, Try.ntmps9
  go_wp2_with fail; refine (HCU.out _ _ (PRep.up (below_more (below_more (Below.refl _ w) _) _) _ _ HV.out)).mono ?_; rintro e w1 ⟨rfl, hb1⟩; have B1 := below_join (below_more (below_more (Below.refl _ w) _) _) hb1; have q1 := below_keep hb1 (blk_two w _ _); obtain ⟨y0, y1, y2, y3⟩ := blk2 q1; have z1 := lt_of_block q1; (have e1 : ¬ w1.heap.size = w.heap.size + 1 := by omega); (have e2 : ¬ w.heap.size + 1 = w1.heap.size := by omega); go_wp2_with fail; have f2 := set2 q1 (.int .i64 x2) (.int .i64 x3); (have b2 := (B1.setCell (p := ⟨w.heap.size + 1, 0, none⟩) (by simp) (.int .i64 x2)).setCell (p := ⟨w.heap.size + 1, 1, none⟩) (by simp) (.int .i64 x3)); (have hsz : ((w1.setCell ⟨w.heap.size + 1, 0, none⟩ (.int .i64 x2)).setCell ⟨w.heap.size + 1, 1, none⟩ (.int .i64 x3)).heap.size = w1.heap.size := by simp [World.setCell]); generalize World.setCell _ _ _ = F at f2 b2 hsz ⊢; clear y0 y1 y2 y3; obtain ⟨k1, k2, -⟩ := blk2 f2; have d9 : w.heap.size + 1 < F.heap.size := lt_of_block f2; (exact bodyPost_ret (v := .agg #[.int .i64 x2, .int .i64 x3]) (by simp [results, Try.results9, go_sem, k1, k2, d9]) rfl ⟨rfl, below_more b2 _⟩)
end Go.Proofs.Ytlmjnglcdgkomac
/- Walks: VastProof. -/
namespace Go.Proofs.Ytlmjnglcdgkomac
open Go.RowKit

theorem SmallP.mk {a : ByteArray} {f : Fm} {l r : List Fm} {ks : List Pf} (h1 : l.length ≤ 300) (h2 : r.length ≤ 300) (h3 : ks.length ≤ 1200) (h4 : ∀ k ∈ ks, SmallP k) : SmallP (.mk a f l r ks) := fun n => by
  cases n with
  | zero => trivial
  | succ n => exact ⟨h1, h2, h3, fun k hk => h4 k hk n⟩

def IsVP (p : Pf) (e : Ending) : Prop := ∃ b, e = .returned (.bool b) ∧ (b = false → SmallP p)
def PVastP (m : Nat) : Prop := ∀ (p : Pf) (d : Nat) (v : Value) (w : World), p.size < m → d ≤ 1201 → PRep w p v → Calls Try.prog 6 #[v, .int .i64 (d : Nat)] w fun e w' => IsVP p e ∧ Below w.heap.size w w'

set_option maxRecDepth 10000 in
set_option maxHeartbeats 8000000 in
theorem pvast_step (m : Nat) (ih : PVastP m) : PVastP (m + 1) := by
  intro p d v w hm hd hv; obtain ⟨a, ⟨k, n, kf⟩, l, r, ks⟩ := p; obtain ⟨sf, cf, al, cl, ar, cr, sl, cap, rfl, ha, hf, hl, hr, hkc, hcm, hks⟩ := hv.parts; (have HF : Hid (Rep w (fun _ => True) (.mk k n kf) _) := hf); obtain ⟨_, _, hve, hl1, hl2, hl3⟩ := hl; simp only [Value.slice.injEq, true_and] at hve; obtain ⟨rfl, rfl⟩ := hve; obtain ⟨_, _, hve, hr1, hr2, hr3⟩ := hr; simp only [Value.slice.injEq, true_and] at hve; obtain ⟨rfl, rfl⟩ := hve; (have HL3 : Hid (l ≠ [] → ∃ b off, al = some ⟨b, off, none⟩ ∧ Reps w (fun _ => True) b off l) := hl3); (have HR3 : Hid (r ≠ [] → ∃ b off, ar = some ⟨b, off, none⟩ ∧ Reps w (fun _ => True) b off r) := hr3); have HKS : Hid (ks ≠ [] → ∃ b off, sl = some ⟨b, off, none⟩ ∧ PReps w b off ks) := hks; (have hlI : (l.length : Int) ≤ 9223372036854775807 := by unfold maxLen at hl2; omega); (have hrI : (r.length : Int) ≤ 9223372036854775807 := by unfold maxLen at hr2; omega); (have hkI : (ks.length : Int) ≤ 9223372036854775807 := by unfold maxLen at hcm; omega); (have hdI : (d : Int) ≤ 1201 := by omega); have HIH : Hid (PVastP m) := ih; (have HM : Hid (Pf.sizes ks < m) := by have : Pf.sizes ks + 1 < m + 1 := hm; show _ < _; omega); obtain ⟨O, hO⟩ : ∃ O, O = Obj.cells #[.string a, .int .i64 k, .string n, .slice sf kf.length cf, .slice al l.length cl, .slice ar r.length cr, .slice sl ks.length cap] 29 (0, 0) := ⟨_, rfl⟩; have B0 := below_more (Below.refl _ w) O; (have hva := fun v (w : World) h => vast2_any (.mk k n kf) v w h); (have HVA : Hid (∀ v w, Rep w (fun _ => True) (.mk k n kf) v → Calls Try.prog 7 #[v, .int .i64 0] w _) := hva)
  have HVX : Hid (∀ (f : Fm) v w, Rep w (fun _ => True) f v → Calls Try.prog 7 #[v, .int .i64 0] w fun e w' => ∃ b, e = .returned (.bool b) ∧ Below w.heap.size w w') := fun f v w h => by
    refine (vast2_any f v w h).mono ?_; rintro e w' ⟨⟨b, rfl, -⟩, hb⟩; exact ⟨b, rfl, hb⟩
  clear hf hl3 hr3 hks hv ih hm hva hl2 hr2 hcm ha; by_cases h1 : 1200 < d
  · have h1I : (1200 : Int) < (d : Int) := by omega
    subst hO
    go_enter Try.func6, Try.ntmps6
    go_wp2_with fail; go_ret; (exact ⟨⟨true, rfl, fun h => (by cases h)⟩, B0⟩)
  (have h1I : ¬ (1200 : Int) < (d : Int) := by omega); by_cases h2 : 1200 < ks.length
  · have h2I : (1200 : Int) < (ks.length : Int) := by omega
    subst hO
    go_enter Try.func6, Try.ntmps6
    go_wp2_with fail; go_ret; (exact ⟨⟨true, rfl, fun h => (by cases h)⟩, B0⟩)
  (have h2I : ¬ (1200 : Int) < (ks.length : Int) := by omega); by_cases h3 : 300 < l.length
  · have h3I : (300 : Int) < (l.length : Int) := by omega
    subst hO
    go_enter Try.func6, Try.ntmps6
    go_wp2_with fail; go_ret; (exact ⟨⟨true, rfl, fun h => (by cases h)⟩, B0⟩)
  (have h3I : ¬ (300 : Int) < (l.length : Int) := by omega); by_cases h4 : 300 < r.length
  · have h4I : (300 : Int) < (r.length : Int) := by omega
    subst hO
    go_enter Try.func6, Try.ntmps6
    go_wp2_with fail; go_ret; (exact ⟨⟨true, rfl, fun h => (by cases h)⟩, B0⟩)
  (have h4I : ¬ (300 : Int) < (r.length : Int) := by omega); (have HSM : Hid ((∀ k ∈ ks, SmallP k) → SmallP (.mk a (.mk k n kf) l r ks)) := fun h => SmallP.mk (by omega) (by omega) (by omega) h); (have hd2 : d + 1 ≤ 1201 := by omega); have P0 := blk_new w O; (have HP0 : Hid ((w.alloc O).heap[w.heap.size]? = some (.cells #[.string a, .int .i64 k, .string n, .slice sf kf.length cf, .slice al l.length cl, .slice ar r.length cr, .slice sl ks.length cap] 29 (0, 0))) := by rw [← hO]; exact P0); clear P0 h1 h2 h3 h4
  go_enter Try.func6, Try.ntmps6
  go_wp2_with fail; rw [← hO]; refine (HVX.out _ _ _ (HF.out.up B0)).mono ?_; rintro e w1 ⟨b1, rfl, hb1⟩; have HB1 : Hid (Below w.heap.size w w1) := below_join B0 hb1; have HQ1 : Hid (w1.heap[w.heap.size]? = some _) := below_keep hb1 HP0.out; clear hb1 hO HP0
  cases b1
  case true =>
    go_wp2_with fail; go_ret; (exact ⟨⟨true, rfl, fun h => (by cases h)⟩, HB1.out⟩)
  case false =>
    go_wp2_with fail
    go_loopg [5] l.length (fun g cc wr => ∃ j, j ≤ l.length ∧ g = l.length - j ∧ cc = .int .i64 (j : Nat) ∧ Hid (Below w.heap.size w wr) ∧ Hid (Below w1.heap.size w1 wr))
    case atStart => exact ⟨0, by omega, by omega, rfl, HB1, Below.refl _ _⟩
    case round =>
      obtain ⟨j, hj, hg, rfl, HBr, HBr1⟩ := hrel; have HG : Hid (gk = l.length - j) := hg; clear hg; obtain ⟨j0, j1, j2, j3, j4, j5, j6⟩ := blk7 (below_keep HBr1.out HQ1.out); by_cases hlt : j < l.length
      · obtain ⟨⟨k2, n2, ks2⟩, hki⟩ : ∃ f, l[j]? = some f := ⟨_, List.getElem?_eq_getElem hlt⟩
        (obtain ⟨b, off, rfl, hrs⟩ := HL3.out (fun e => by rw [e] at hlt; simp at hlt)); obtain ⟨sl2, cap2, g0, g1, g2, hrep2⟩ := (hrs.up HBr.out).at j k2 n2 ks2 hki; (have hltI : (j : Int) < (l.length : Int) := by omega); (have hlc : (j : Int) < (cl : Int) := by omega); clear hki hrs; go_wp2_with fail; refine (HVX.out _ _ _ hrep2).mono ?_; rintro e w2 ⟨b2, rfl, hb2⟩; have HB2 : Hid (Below w.heap.size w w2) := below_join HBr.out hb2; have HB3 : Hid (Below w1.heap.size w1 w2) := below_join HBr1.out hb2; clear g0 g1 g2 hb2 hrep2 j0 j1 j2 j3 j4 j5 j6
        cases b2
        · go_wp2_with fail
          go_roundg (l.length - (j + 1))
          case measure => have := HG.out; omega
          case rel => exact ⟨j + 1, by omega, rfl, by go_num, HB2, HB3⟩
        · go_wp2_with fail
          go_ret; (exact ⟨⟨true, rfl, fun h => (by cases h)⟩, HB2.out⟩)
      · have hge : ¬ (j : Int) < (l.length : Int) := by omega
        go_wp2_with fail; have HBA : Hid (Below w.heap.size w wr) := HBr; obtain ⟨wA, hwA⟩ : ∃ wA, wA = wr := ⟨_, rfl⟩; subst hwA; have HQA : Hid (wA.heap[w.heap.size]? = some _) := below_keep HBr1.out HQ1.out; clear HBr HBr1 j0 j1 j2 j3 j4 j5 j6 hge
        go_loopg [6] r.length (fun g cc wr => ∃ j, j ≤ r.length ∧ g = r.length - j ∧ cc = .int .i64 (j : Nat) ∧ Hid (Below w.heap.size w wr) ∧ Hid (Below wA.heap.size wA wr))
        case atStart => exact ⟨0, by omega, by omega, rfl, HBA, Below.refl _ _⟩
        case round =>
          obtain ⟨j, hj, hg, rfl, HBr, HBr1⟩ := hrel; have HG : Hid (gk = r.length - j) := hg; clear hg; obtain ⟨j0, j1, j2, j3, j4, j5, j6⟩ := blk7 (below_keep HBr1.out HQA.out); by_cases hlt : j < r.length
          · obtain ⟨⟨k2, n2, ks2⟩, hki⟩ : ∃ f, r[j]? = some f := ⟨_, List.getElem?_eq_getElem hlt⟩
            (obtain ⟨b, off, rfl, hrs⟩ := HR3.out (fun e => by rw [e] at hlt; simp at hlt)); obtain ⟨sl2, cap2, g0, g1, g2, hrep2⟩ := (hrs.up HBr.out).at j k2 n2 ks2 hki; (have hltI : (j : Int) < (r.length : Int) := by omega); (have hlc : (j : Int) < (cr : Int) := by omega); clear hki hrs; go_wp2_with fail; refine (HVX.out _ _ _ hrep2).mono ?_; rintro e w2 ⟨b2, rfl, hb2⟩; have HB2 : Hid (Below w.heap.size w w2) := below_join HBr.out hb2; have HB3 : Hid (Below wA.heap.size wA w2) := below_join HBr1.out hb2; clear g0 g1 g2 hb2 hrep2 j0 j1 j2 j3 j4 j5 j6
            cases b2
            · go_wp2_with fail
              go_roundg (r.length - (j + 1))
              case measure => have := HG.out; omega
              case rel => exact ⟨j + 1, by omega, rfl, by go_num, HB2, HB3⟩
            · go_wp2_with fail
              go_ret; (exact ⟨⟨true, rfl, fun h => (by cases h)⟩, HB2.out⟩)
          · have hge : ¬ (j : Int) < (r.length : Int) := by omega
            go_wp2_with fail; have HBB : Hid (Below w.heap.size w wr) := HBr; obtain ⟨wB, hwB⟩ : ∃ wB, wB = wr := ⟨_, rfl⟩; subst hwB; have HQB : Hid (wB.heap[w.heap.size]? = some _) := below_keep HBr1.out HQA.out; clear HBr HBr1 j0 j1 j2 j3 j4 j5 j6 hge
            go_loopg [7] ks.length (fun g cc wr => ∃ j, j ≤ ks.length ∧ g = ks.length - j ∧ cc = .int .i64 (j : Nat) ∧ Hid (Below w.heap.size w wr) ∧ Hid (Below wB.heap.size wB wr) ∧ Hid (∀ k ∈ ks.take j, SmallP k))
            case atStart => exact ⟨0, by omega, by omega, rfl, HBB, Below.refl _ _, fun k hk => by simp at hk⟩
            case round =>
              obtain ⟨j, hj, hg, rfl, HBr, HBr1, HN⟩ := hrel; have HG : Hid (gk = ks.length - j) := hg; clear hg; obtain ⟨j0, j1, j2, j3, j4, j5, j6⟩ := blk7 (below_keep HBr1.out HQB.out); by_cases hlt : j < ks.length
              · obtain ⟨⟨ka, ⟨kk, kn, kkf⟩, kl, kr, kks⟩, hki⟩ : ∃ f, ks[j]? = some f := ⟨_, List.getElem?_eq_getElem hlt⟩
                (obtain ⟨b, off, rfl, hrs⟩ := HKS.out (fun e => by rw [e] at hlt; simp at hlt)); obtain ⟨sf2, cf2, al2, cl2, ar2, cr2, sl2, cap2, x0, x1, x2, x3, x4, x5, x6, hrep⟩ := (PReps.up HBr.out b off ks hrs).at j ka kk kn kkf kl kr kks hki; (have hltI : (j : Int) < (ks.length : Int) := by omega); (have hlc : (j : Int) < (cap : Int) := by omega); (have hih := fun (v : Value) (wx : World) h => HIH.out (.mk ka (.mk kk kn kkf) kl kr kks) (d + 1) v wx (Nat.lt_of_le_of_lt (pfsizes_get hki) HM.out) hd2 h); have HI : Hid (∀ v wx, PRep wx (.mk ka (.mk kk kn kkf) kl kr kks) v → Calls Try.prog 6 #[v, .int .i64 ((d + 1 : Nat) : Int)] wx _) := hih
                have HTk : Hid (SmallP (.mk ka (.mk kk kn kkf) kl kr kks) → ∀ k ∈ ks.take (j + 1), SmallP k) := fun hs k hk => by
                  rw [List.take_add_one, hki] at hk
                  rcases List.mem_append.1 hk with h | h
                  · exact HN.out k h
                  · simp at h; subst h; exact hs
                have HRp : Hid (PRep wr _ _) := hrep; clear hki hrs hih hrep HN; go_wp2_with fail; refine (HI.out _ _ HRp.out).mono ?_; rintro e w2 ⟨⟨b2, rfl, hs2⟩, hb2⟩; have HB2 : Hid (Below w.heap.size w w2) := below_join HBr.out hb2; have HB3 : Hid (Below wB.heap.size wB w2) := below_join HBr1.out hb2; have HS2 : Hid (b2 = false → SmallP _) := hs2; clear x0 x1 x2 x3 x4 x5 x6 hb2 hs2 j0 j1 j2 j3 j4 j5 j6
                cases b2
                · have HX := HTk.out (HS2.out rfl)
                  have HX' : Hid (∀ k ∈ ks.take (j + 1), SmallP k) := HX; clear HX HTk HS2; go_wp2_with fail
                  go_roundg (ks.length - (j + 1))
                  case measure => have := HG.out; omega
                  case rel => exact ⟨j + 1, by omega, rfl, by go_num, HB2, HB3, HX'⟩
                · clear HTk HS2
                  go_wp2_with fail; go_ret; (exact ⟨⟨true, rfl, fun h => (by cases h)⟩, HB2.out⟩)
              · have hge : ¬ (j : Int) < (ks.length : Int) := by omega
                have HX : Hid (SmallP (.mk a (.mk k n kf) l r ks)) := HSM.out (by
                  have := HN.out
                  rwa [List.take_of_length_le (by omega)] at this)
                clear HN; go_wp2_with fail; go_ret; (exact ⟨⟨false, rfl, fun _ => HX.out⟩, HBr.out⟩)
theorem pvast_all : ∀ m, PVastP m
  | 0 => fun _ _ _ _ h => absurd h (Nat.not_lt_zero _)
  | m + 1 => pvast_step m (pvast_all m)
theorem pvast_any (p : Pf) (v : Value) (w : World) (hv : PRep w p v) : Calls Try.prog 6 #[v, .int .i64 0] w fun e w' => IsVP p e ∧ Below w.heap.size w w' :=
  pvast_all (p.size + 1) p 0 v w (Nat.lt_succ_self _) (by omega) hv
end Go.Proofs.Ytlmjnglcdgkomac
/- A sequent as a formula, plain; walks: Tautology, InAll. -/
namespace Go.Proofs.Ytlmjnglcdgkomac
open Go.RowKit

theorem firstBad_fine {l : List Fm} {i : Nat} (h : (firstBad l i).1 = 0) : ∀ f ∈ l, f.pcode.1 = 0 := by
  induction l generalizing i with
  | nil => intro f hf; cases hf
  | cons x l ih =>
    rw [firstBad] at h; by_cases hx : x.pcode.1 = 0
    · rw [if_pos hx] at h
      intro f hf
      rcases List.mem_cons.1 hf with rfl | hf
      · exact hx
      · exact ih h f hf
    · rw [if_neg hx] at h
      exact absurd h hx
theorem seqCode_fine {l r : List Fm} (h : (seqCode l r).1 = 0) : l.length + r.length ≤ 60 ∧ (∀ f ∈ l, f.pcode.1 = 0) ∧ ∀ f ∈ r, f.pcode.1 = 0 := by
  unfold seqCode at h; by_cases h60 : 60 < l.length + r.length
  · rw [if_pos h60] at h; cases h
  · rw [if_neg h60] at h
    have := firstBad_fine h; (exact ⟨by omega, fun f hf => this f (List.mem_append_left _ hf), fun f hf => this f (List.mem_append_right _ hf)⟩)
theorem pcode_fine {f : Fm} (h : f.pcode.1 = 0) : Fine f ∧ f.size ≤ 200 := by
  obtain ⟨s, hs⟩ := (pcode_ok h).1; exact ⟨fine_of_chk _ 0 s hs, chk_size hs⟩

end Go.Proofs.Ytlmjnglcdgkomac
/- Walks: the proof of p | ~p; calculusBegun. -/
namespace Go.Proofs.Ytlmjnglcdgkomac
open Go.RowKit

def mP : Fm := .mk 1 ⟨#[112]⟩ []
def mN : Fm := .mk 4 ⟨#[]⟩ [mP]
def mO : Fm := .mk 6 ⟨#[]⟩ [mP, mN]
def midA : Pf := .mk ⟨#[97, 120]⟩ mP [mP] [mP] []
def midN : Pf := .mk ⟨#[110, 111, 116, 45, 114]⟩ mN [] [mP, mN] [midA]
def midO : Pf := .mk ⟨#[111, 114, 45, 114]⟩ mO [] [mO] [midN]

theorem blk_at {X : World} {o : Obj} {n : Nat} (h : X.heap.size = n) : (X.alloc o).heap[n]? = some o := by rw [← h]; exact blk_new X o
theorem seven (X : World) (a0 a1 a2 a3 a4 a5 a6 : Obj) : (∀ b, b < X.heap.size → (((((((X.alloc a0).alloc a1).alloc a2).alloc a3).alloc a4).alloc a5).alloc a6).heap[b]? = X.heap[b]?) ∧ (((((((X.alloc a0).alloc a1).alloc a2).alloc a3).alloc a4).alloc a5).alloc a6).heap[X.heap.size]? = some a0 ∧ (((((((X.alloc a0).alloc a1).alloc a2).alloc a3).alloc a4).alloc a5).alloc a6).heap[X.heap.size + 1]? = some a1 ∧ (((((((X.alloc a0).alloc a1).alloc a2).alloc a3).alloc a4).alloc a5).alloc a6).heap[X.heap.size + 1 + 1]? = some a2 ∧ (((((((X.alloc a0).alloc a1).alloc a2).alloc a3).alloc a4).alloc a5).alloc a6).heap[X.heap.size + 1 + 1 + 1]? = some a3 ∧ (((((((X.alloc a0).alloc a1).alloc a2).alloc a3).alloc a4).alloc a5).alloc a6).heap[X.heap.size + 1 + 1 + 1 + 1]? = some a4 ∧ (((((((X.alloc a0).alloc a1).alloc a2).alloc a3).alloc a4).alloc a5).alloc a6).heap[X.heap.size + 1 + 1 + 1 + 1 + 1]? = some a5 ∧ (((((((X.alloc a0).alloc a1).alloc a2).alloc a3).alloc a4).alloc a5).alloc a6).heap[X.heap.size + 1 + 1 + 1 + 1 + 1 + 1]? = some a6 := by
  (have s1 : (X.alloc a0).heap.size = X.heap.size + 1 := by simp); (have s2 : ((X.alloc a0).alloc a1).heap.size = X.heap.size + 1 + 1 := by simp); (have s3 : (((X.alloc a0).alloc a1).alloc a2).heap.size = X.heap.size + 1 + 1 + 1 := by simp); (have s4 : ((((X.alloc a0).alloc a1).alloc a2).alloc a3).heap.size = X.heap.size + 1 + 1 + 1 + 1 := by simp); (have s5 : (((((X.alloc a0).alloc a1).alloc a2).alloc a3).alloc a4).heap.size = X.heap.size + 1 + 1 + 1 + 1 + 1 := by simp); (have s6 : ((((((X.alloc a0).alloc a1).alloc a2).alloc a3).alloc a4).alloc a5).heap.size = X.heap.size + 1 + 1 + 1 + 1 + 1 + 1 := by simp); (refine ⟨fun b hb => ?_, ?_, ?_, ?_, ?_, ?_, ?_, ?_⟩)
  · rw [Below.heap_alloc _ _ _ (by omega), Below.heap_alloc _ _ _ (by omega), Below.heap_alloc _ _ _ (by omega), Below.heap_alloc _ _ _ (by omega), Below.heap_alloc _ _ _ (by omega), Below.heap_alloc _ _ _ (by omega), Below.heap_alloc _ _ _ hb]
  · exact alloc_keep (alloc_keep (alloc_keep (alloc_keep (alloc_keep (alloc_keep (blk_new X a0) _) _) _) _) _) _
  · exact alloc_keep (alloc_keep (alloc_keep (alloc_keep (alloc_keep (blk_at s1) _) _) _) _) _
  · exact alloc_keep (alloc_keep (alloc_keep (alloc_keep (blk_at s2) _) _) _) _
  · exact alloc_keep (alloc_keep (alloc_keep (blk_at s3) _) _) _
  · exact alloc_keep (alloc_keep (blk_at s4) _) _
  · exact alloc_keep (blk_at s5) _
  · exact blk_at s6

set_option maxRecDepth 10000 in
set_option maxHeartbeats 8000000 in
theorem middle_any (w : World) : Calls Try.prog 15 #[] w fun e w' => ∃ x, e = .returned x ∧ PRep w' midO x ∧ Below w.heap.size w w' := by
  go_enter Try.func15, Try.ntmps15
  go_wp2_with fail; refine (named_any _ _).mono ?_; rintro e w1 ⟨rfl, hb1⟩; have p1 := below_keep hb1 (blk_new w (.cells #[.string ⟨#[]⟩, .int .i64 0, .string ⟨#[]⟩, .slice none 0 0, .slice none 0 0, .slice none 0 0, .slice none 0 0] 29 (0, 0))); have P1 : Hid (w1.heap[w.heap.size]? = some _) := p1; have HB1 : Hid (Below w.heap.size w w1) := below_join (below_more (Below.refl _ w) _) hb1; have z1 := lt_of_block p1; clear hb1 p1; go_wp2_with fail; (refine (ofP_any (fun b => b ≠ w.heap.size) 4 mP _ _ (fun b hb => by simp at hb; omega) (Rep.leaf (by decide))).mono ?_); rintro e w2 ⟨xn, rfl, hn, hb2⟩; obtain ⟨sn, cn, rfl⟩ := slice_shape hn; (have HN : Hid (Rep w2 (fun b => b ≠ w.heap.size) mN _) := hn); have HB2 : Hid (Below w.heap.size w w2) := below_join (below_more HB1.out _) hb2; have P2 : Hid (w2.heap[w.heap.size]? = some _) := below_keep hb2 (alloc_keep P1.out _); have Q1 : Hid (w2.heap[w1.heap.size]? = some (.cells #[.int .i64 1, .string ⟨#[112]⟩, .slice none 0 0] 24 (0, 0))) := below_keep hb2 (blk_new w1 _); have z2 := lt_of_block Q1.out; obtain ⟨a0, a1, a2, -⟩ := blk3 Q1.out; (have d1 : ¬ w1.heap.size = w2.heap.size := by omega); clear hb2 hn; go_wp2_with fail; (refine (bothP_any (fun b => b ≠ w.heap.size) 6 mP mN _ _ _ (fun b hb => by simp at hb; omega) (Rep.leaf (by decide)) (HN.out.up' (below_more (Below.refl _ w2) _))).mono ?_); rintro e w3 ⟨xo, rfl, ho, hb3⟩; obtain ⟨so, co, rfl⟩ := slice_shape ho; (have HO : Hid (Rep w3 (fun b => b ≠ w.heap.size) mO _) := ho); (have HN3 : Hid (Rep w3 (fun b => b ≠ w.heap.size) mN _) := (HN.out.up' (below_more (Below.refl _ w2) _)).up' hb3); have HB3 : Hid (Below w.heap.size w w3) := below_join (below_more HB2.out _) hb3; have P3 : Hid (w3.heap[w.heap.size]? = some _) := below_keep hb3 (alloc_keep P2.out _); have Q2 : Hid (w3.heap[w2.heap.size]? = some _) := below_keep hb3 (blk_new w2 _); have R2 : Hid (w3.heap[w1.heap.size]? = some _) := below_keep hb3 (alloc_keep Q1.out _); have z3 := lt_of_block Q2.out; have z4 := lt_of_block R2.out; have z5 := lt_of_block P3.out; clear a0 a1 a2 hb3 ho; obtain ⟨a0, a1, a2, -⟩ := blk3 R2.out; obtain ⟨b0, b1, b2, -⟩ := blk3 Q2.out; obtain ⟨j0, j1, j2, j3, j4, j5, j6⟩ := blk7 P3.out; obtain ⟨m0, m1, m2, m3, m4, m5, m6⟩ := blk7f P3.out; (have la0 : w.heap.size < w3.heap.size := by omega); (have na0 : ¬ w.heap.size = w3.heap.size := by omega); (have la1 : w.heap.size < w3.heap.size + 1 := by omega); (have na1 : ¬ w.heap.size = w3.heap.size + 1 := by omega); (have la2 : w.heap.size < w3.heap.size + 1 + 1 := by omega); (have na2 : ¬ w.heap.size = w3.heap.size + 1 + 1 := by omega); (have la3 : w.heap.size < w3.heap.size + 1 + 1 + 1 := by omega); (have na3 : ¬ w.heap.size = w3.heap.size + 1 + 1 + 1 := by omega); (have la4 : w.heap.size < w3.heap.size + 1 + 1 + 1 + 1 := by omega); (have na4 : ¬ w.heap.size = w3.heap.size + 1 + 1 + 1 + 1 := by omega); (have la5 : w.heap.size < w3.heap.size + 1 + 1 + 1 + 1 + 1 := by omega); (have na5 : ¬ w.heap.size = w3.heap.size + 1 + 1 + 1 + 1 + 1 := by omega); (have la6 : w.heap.size < w3.heap.size + 1 + 1 + 1 + 1 + 1 + 1 := by omega); (have na6 : ¬ w.heap.size = w3.heap.size + 1 + 1 + 1 + 1 + 1 + 1 := by omega); (have la7 : w.heap.size < w3.heap.size + 1 + 1 + 1 + 1 + 1 + 1 + 1 := by omega); (have na7 : ¬ w.heap.size = w3.heap.size + 1 + 1 + 1 + 1 + 1 + 1 + 1 := by omega); (have lb0 : w1.heap.size < w3.heap.size := by omega); (have nb0 : ¬ w1.heap.size = w3.heap.size := by omega); (have lb1 : w1.heap.size < w3.heap.size + 1 := by omega); (have nb1 : ¬ w1.heap.size = w3.heap.size + 1 := by omega); (have lb2 : w1.heap.size < w3.heap.size + 1 + 1 := by omega); (have nb2 : ¬ w1.heap.size = w3.heap.size + 1 + 1 := by omega); (have lb3 : w1.heap.size < w3.heap.size + 1 + 1 + 1 := by omega); (have nb3 : ¬ w1.heap.size = w3.heap.size + 1 + 1 + 1 := by omega); (have lb4 : w1.heap.size < w3.heap.size + 1 + 1 + 1 + 1 := by omega); (have nb4 : ¬ w1.heap.size = w3.heap.size + 1 + 1 + 1 + 1 := by omega); (have lb5 : w1.heap.size < w3.heap.size + 1 + 1 + 1 + 1 + 1 := by omega); (have nb5 : ¬ w1.heap.size = w3.heap.size + 1 + 1 + 1 + 1 + 1 := by omega); (have lb6 : w1.heap.size < w3.heap.size + 1 + 1 + 1 + 1 + 1 + 1 := by omega)
  (have nb6 : ¬ w1.heap.size = w3.heap.size + 1 + 1 + 1 + 1 + 1 + 1 := by omega); (have lb7 : w1.heap.size < w3.heap.size + 1 + 1 + 1 + 1 + 1 + 1 + 1 := by omega); (have nb7 : ¬ w1.heap.size = w3.heap.size + 1 + 1 + 1 + 1 + 1 + 1 + 1 := by omega); (have lc0 : w2.heap.size < w3.heap.size := by omega); (have nc0 : ¬ w2.heap.size = w3.heap.size := by omega); (have lc1 : w2.heap.size < w3.heap.size + 1 := by omega); (have nc1 : ¬ w2.heap.size = w3.heap.size + 1 := by omega); (have lc2 : w2.heap.size < w3.heap.size + 1 + 1 := by omega); (have nc2 : ¬ w2.heap.size = w3.heap.size + 1 + 1 := by omega); (have lc3 : w2.heap.size < w3.heap.size + 1 + 1 + 1 := by omega); (have nc3 : ¬ w2.heap.size = w3.heap.size + 1 + 1 + 1 := by omega); (have lc4 : w2.heap.size < w3.heap.size + 1 + 1 + 1 + 1 := by omega); (have nc4 : ¬ w2.heap.size = w3.heap.size + 1 + 1 + 1 + 1 := by omega); (have lc5 : w2.heap.size < w3.heap.size + 1 + 1 + 1 + 1 + 1 := by omega); (have nc5 : ¬ w2.heap.size = w3.heap.size + 1 + 1 + 1 + 1 + 1 := by omega); (have lc6 : w2.heap.size < w3.heap.size + 1 + 1 + 1 + 1 + 1 + 1 := by omega); (have nc6 : ¬ w2.heap.size = w3.heap.size + 1 + 1 + 1 + 1 + 1 + 1 := by omega); (have lc7 : w2.heap.size < w3.heap.size + 1 + 1 + 1 + 1 + 1 + 1 + 1 := by omega); (have nc7 : ¬ w2.heap.size = w3.heap.size + 1 + 1 + 1 + 1 + 1 + 1 + 1 := by omega); (have ld1 : w3.heap.size < w3.heap.size + 1 := by omega); (have nd1 : ¬ w3.heap.size = w3.heap.size + 1 := by omega); (have ld2 : w3.heap.size < w3.heap.size + 1 + 1 := by omega); (have nd2 : ¬ w3.heap.size = w3.heap.size + 1 + 1 := by omega); (have ld3 : w3.heap.size < w3.heap.size + 1 + 1 + 1 := by omega); (have nd3 : ¬ w3.heap.size = w3.heap.size + 1 + 1 + 1 := by omega); (have ld4 : w3.heap.size < w3.heap.size + 1 + 1 + 1 + 1 := by omega); (have nd4 : ¬ w3.heap.size = w3.heap.size + 1 + 1 + 1 + 1 := by omega); (have ld5 : w3.heap.size < w3.heap.size + 1 + 1 + 1 + 1 + 1 := by omega); (have nd5 : ¬ w3.heap.size = w3.heap.size + 1 + 1 + 1 + 1 + 1 := by omega); (have ld6 : w3.heap.size < w3.heap.size + 1 + 1 + 1 + 1 + 1 + 1 := by omega); (have nd6 : ¬ w3.heap.size = w3.heap.size + 1 + 1 + 1 + 1 + 1 + 1 := by omega); (have ld7 : w3.heap.size < w3.heap.size + 1 + 1 + 1 + 1 + 1 + 1 + 1 := by omega); (have nd7 : ¬ w3.heap.size = w3.heap.size + 1 + 1 + 1 + 1 + 1 + 1 + 1 := by omega); go_wp2_with fail; obtain ⟨X, hX⟩ : ∃ X, X = put7 w3 w.heap.size (.string ⟨#[111, 114, 45, 114]⟩) (.int .i64 6) (.string ⟨#[]⟩) (.slice so 2 co) (.slice none 0 0) (.slice (some ⟨w3.heap.size + 1, 0, none⟩) 1 1) (.slice (some ⟨w3.heap.size + 1 + 1 + 1 + 1 + 1 + 1, 0, none⟩) 1 1) := ⟨_, rfl⟩; (have hXs : X.heap.size = w3.heap.size := by rw [hX]; simp [put7, World.setCell]); (have hXp : X.heap[w.heap.size]? = some (.cells #[.string ⟨#[111, 114, 45, 114]⟩, .int .i64 6, .string ⟨#[]⟩, .slice so 2 co, .slice none 0 0, .slice (some ⟨w3.heap.size + 1, 0, none⟩) 1 1, .slice (some ⟨w3.heap.size + 1 + 1 + 1 + 1 + 1 + 1, 0, none⟩) 1 1] 29 (0, 0)) := by rw [hX]; exact put7_blk P3.out _ _ _ _ _ _ _); (have hXo : ∀ b, b ≠ w.heap.size → X.heap[b]? = w3.heap[b]? := fun b hb => by rw [hX]; exact put7_other hb _ _ _ _ _ _ _); (have hXb : Below w.heap.size w X := by rw [hX]; exact put7_below HB3.out (Nat.le_refl _) _ _ _ _ _ _ _); show bodyPost _ _ _ _ _ (((((((((put7 w3 w.heap.size _ _ _ _ _ _ _).alloc _).alloc _).alloc _).alloc _).alloc _).alloc _).alloc _)); rw [← hX]; obtain ⟨g0, f0, f1, f2, f3, f4, f5, f6⟩ := seven X (.cells #[.int .i64 6, .string ⟨#[]⟩, .slice so 2 co] 24 (0, 0)) (.cells #[.int .i64 6, .string ⟨#[]⟩, .slice so 2 co] 24 (0, 0)) (.cells #[.int .i64 1, .string ⟨#[112]⟩, .slice none 0 0, .int .i64 4, .string ⟨#[]⟩, .slice sn 1 cn] 24 (0, 0)) (.cells #[.int .i64 1, .string ⟨#[112]⟩, .slice none 0 0] 24 (0, 0)) (.cells #[.int .i64 1, .string ⟨#[112]⟩, .slice none 0 0] 24 (0, 0)) (.cells #[.string ⟨#[97, 120]⟩, .int .i64 1, .string ⟨#[112]⟩, .slice none 0 0, .slice (some ⟨w3.heap.size + 1 + 1 + 1, 0, none⟩) 1 1, .slice (some ⟨w3.heap.size + 1 + 1 + 1 + 1, 0, none⟩) 1 1, .slice none 0 0] 29 (0, 0)) (.cells #[.string ⟨#[110, 111, 116, 45, 114]⟩, .int .i64 4, .string ⟨#[]⟩, .slice sn 1 cn, .slice none 0 0, .slice (some ⟨w3.heap.size + 1 + 1, 0, none⟩) 2 2, .slice (some ⟨w3.heap.size + 1 + 1 + 1 + 1 + 1, 0, none⟩) 1 1] 29 (0, 0))
  have hBF := below_more (below_more (below_more (below_more (below_more (below_more (below_more hXb (.cells #[.int .i64 6, .string ⟨#[]⟩, .slice so 2 co] 24 (0, 0))) (.cells #[.int .i64 6, .string ⟨#[]⟩, .slice so 2 co] 24 (0, 0))) (.cells #[.int .i64 1, .string ⟨#[112]⟩, .slice none 0 0, .int .i64 4, .string ⟨#[]⟩, .slice sn 1 cn] 24 (0, 0))) (.cells #[.int .i64 1, .string ⟨#[112]⟩, .slice none 0 0] 24 (0, 0))) (.cells #[.int .i64 1, .string ⟨#[112]⟩, .slice none 0 0] 24 (0, 0))) (.cells #[.string ⟨#[97, 120]⟩, .int .i64 1, .string ⟨#[112]⟩, .slice none 0 0, .slice (some ⟨w3.heap.size + 1 + 1 + 1, 0, none⟩) 1 1, .slice (some ⟨w3.heap.size + 1 + 1 + 1 + 1, 0, none⟩) 1 1, .slice none 0 0] 29 (0, 0))) (.cells #[.string ⟨#[110, 111, 116, 45, 114]⟩, .int .i64 4, .string ⟨#[]⟩, .slice sn 1 cn, .slice none 0 0, .slice (some ⟨w3.heap.size + 1 + 1, 0, none⟩) 2 2, .slice (some ⟨w3.heap.size + 1 + 1 + 1 + 1 + 1, 0, none⟩) 1 1] 29 (0, 0)); generalize World.alloc _ _ = F at *; rw [hXs] at f0 f1 f2 f3 f4 f5 f6 g0; have hp := (g0 w.heap.size z5).trans hXp; (have mvO := HO.out.move (w' := F) (ok' := fun _ => True) fun b hb ho => ⟨(g0 b hb).trans (hXo b ho), trivial⟩); (have mvN := HN3.out.move (w' := F) (ok' := fun _ => True) fun b hb ho => ⟨(g0 b hb).trans (hXo b ho), trivial⟩); (have rP : Rep F (fun _ => True) mP (.agg #[.int .i64 1, .string ⟨#[112]⟩, .slice none 0 0]) := Rep.leaf (by decide)); (have pA : PRep F midA (.agg #[.string ⟨#[97, 120]⟩, .int .i64 1, .string ⟨#[112]⟩, .slice none 0 0, .slice (some ⟨w3.heap.size + 1 + 1 + 1, 0, none⟩) 1 1, .slice (some ⟨w3.heap.size + 1 + 1 + 1 + 1, 0, none⟩) 1 1, .slice none 0 0]) := PRep.def.2 ⟨_, _, _, _, _, none, 0, rfl, by decide, rP, FL.sing f3 rP, FL.sing f4 rP, Nat.le_refl _, by simp, fun h => absurd rfl h⟩); (have pN : PRep F midN (.agg #[.string ⟨#[110, 111, 116, 45, 114]⟩, .int .i64 4, .string ⟨#[]⟩, .slice sn 1 cn, .slice none 0 0, .slice (some ⟨w3.heap.size + 1 + 1, 0, none⟩) 2 2, .slice (some ⟨w3.heap.size + 1 + 1 + 1 + 1 + 1, 0, none⟩) 1 1]) := PRep.def.2 ⟨_, _, _, _, _, _, 1, rfl, by decide, mvN, FL.none, FL.duo f2 rP mvN, Nat.le_refl _, by simp [maxLen], fun _ => ⟨_, 0, rfl, PReps.cons.2 ⟨⟨_, _, _, _, _, _, _, blk_cell f5 0, blk_cell f5 1, blk_cell f5 2, blk_cell f5 3, blk_cell f5 4, blk_cell f5 5, blk_cell f5 6, pA⟩, PReps.nil⟩⟩⟩); (have pO : PRep F midO (.agg #[.string ⟨#[111, 114, 45, 114]⟩, .int .i64 6, .string ⟨#[]⟩, .slice so 2 co, .slice none 0 0, .slice (some ⟨w3.heap.size + 1, 0, none⟩) 1 1, .slice (some ⟨w3.heap.size + 1 + 1 + 1 + 1 + 1 + 1, 0, none⟩) 1 1]) := PRep.def.2 ⟨_, _, _, _, _, _, 1, rfl, by decide, mvO, FL.none, FL.sing f1 mvO, Nat.le_refl _, by simp [maxLen], fun _ => ⟨_, 0, rfl, PReps.cons.2 ⟨⟨_, _, _, _, _, _, _, blk_cell f6 0, blk_cell f6 1, blk_cell f6 2, blk_cell f6 3, blk_cell f6 4, blk_cell f6 5, blk_cell f6 6, pN⟩, PReps.nil⟩⟩⟩); have HPO : Hid (PRep F midO _) := pO; obtain ⟨y0, y1, y2, y3, y4, y5, y6⟩ := blk7 hp; (exact bodyPost_ret (v := .agg #[.string ⟨#[111, 114, 45, 114]⟩, .int .i64 6, .string ⟨#[]⟩, .slice so 2 co, .slice none 0 0, .slice (some ⟨w3.heap.size + 1, 0, none⟩) 1 1, .slice (some ⟨w3.heap.size + 1 + 1 + 1 + 1 + 1 + 1, 0, none⟩) 1 1]) (by simp [results, Try.results15, go_sem, y0, y1, y2, y3, y4, y5, y6]) rfl ⟨_, rfl, HPO.out, hBF⟩)
end Go.Proofs.Ytlmjnglcdgkomac
/- Walks: calculusBegun. -/
namespace Go.Proofs.Ytlmjnglcdgkomac
open Go.RowKit
theorem mid_no : (look false midO 1 0 0).1 = (0, 0) := by decide +kernel
theorem mid_yes : (look true midO 1 0 0).1 = (4, 0) := by decide +kernel
theorem mid_small : SmallP midO := SmallP.mk (by decide) (by decide) (by decide) fun k hk => by
  simp only [List.mem_cons, List.not_mem_nil, or_false] at hk; subst hk; (refine SmallP.mk (by decide) (by decide) (by decide) fun k hk => ?_); simp only [List.mem_cons, List.not_mem_nil, or_false] at hk; subst hk; (exact SmallP.mk (by decide) (by decide) (by decide) fun k hk => by cases hk)

set_option maxRecDepth 10000 in
set_option maxHeartbeats 4000000 in
theorem calculusBegun_any (w : World) : Calls Try.prog 5 #[] w fun e w' => e = .returned (.bool true) ∧ Below w.heap.size w w' := by
  (have hc1 := fun v (w : World) h => pcheck_any false midO mid_small v w h); (have hc2 := fun v (w : World) h => pcheck_any true midO mid_small v w h); simp only [mid_no, mid_yes] at hc1 hc2; (have HC1 : Hid (∀ v w, PRep w midO v → Calls Try.prog 9 #[v, .bool false] w fun e w' => e = .returned (.agg #[.int .i64 0, .int .i64 0]) ∧ Below w.heap.size w w') := hc1); (have HC2 : Hid (∀ v w, PRep w midO v → Calls Try.prog 9 #[v, .bool true] w fun e w' => e = .returned (.agg #[.int .i64 4, .int .i64 0]) ∧ Below w.heap.size w w') := hc2); clear hc1 hc2
  go_enter Try.func5, Try.ntmps5
  go_wp2_with fail; refine (middle_any w).mono ?_; rintro e w1 ⟨x, rfl, hx, hb1⟩; have HX : Hid (PRep w1 midO x) := hx; clear hx; go_wp2_with fail; refine (HC1.out _ _ HX.out).mono ?_; rintro e w2 ⟨rfl, hb2⟩; have B2 := below_join hb1 hb2; clear hb1 hb2; go_wp2_with fail; refine (middle_any _).mono ?_; rintro e w3 ⟨y, rfl, hy, hb3⟩; have HY : Hid (PRep w3 midO y) := hy; have B3 := below_join (below_more B2 _) hb3; have Q3 : Hid (w3.heap[w2.heap.size]? = some _) := below_keep hb3 (blk_new w2 _); clear hy hb3; go_wp2_with fail; refine (HC2.out _ _ HY.out).mono ?_; rintro e w4 ⟨rfl, hb4⟩; have B4 := below_join B3 hb4; have Q4 : Hid (w4.heap[w2.heap.size]? = some _) := below_keep hb4 Q3.out; have z4 := lt_of_block Q4.out; obtain ⟨a0, a1, -⟩ := blk2 Q4.out; (have d1 : ¬ w2.heap.size = w4.heap.size := by omega); (have d2 : ¬ w4.heap.size = w2.heap.size := by omega); clear hb4; go_wp2_with fail; have hp0 := blk_new w4 (.cells #[.int .i64 4, .int .i64 0] 34 (0, 0)); obtain ⟨b0, b1, -⟩ := blk2 hp0; obtain ⟨c0, c1, -⟩ := blk2 (alloc_keep Q4.out (.cells #[.int .i64 4, .int .i64 0] 34 (0, 0)))
  go_region_held3 (fun w' => w'.cell? ⟨w2.heap.size, 0, none⟩ = some (.int .i64 0) ∧ w'.cell? ⟨w4.heap.size, 0, none⟩ = some (.int .i64 4) ∧ w'.cell? ⟨w4.heap.size, 1, none⟩ = some (.int .i64 0)) (go_keep)
    (first
     | (go_at_call 16
        refine (mkF_any 4 0 _).mono ?_; rintro e w5 ⟨rfl, hb5⟩; have B5 := below_join (below_more B4 _).drew hb5; obtain ⟨e0, e1, -⟩ := blk2 (below_keep hb5 (show ((w4.alloc (.cells #[.int .i64 4, .int .i64 0] 34 (0, 0))).drew).heap[w4.heap.size]? = _ from hp0)); obtain ⟨f0, f1, -⟩ := blk2 (below_keep hb5 (show ((w4.alloc (.cells #[.int .i64 4, .int .i64 0] 34 (0, 0))).drew).heap[w2.heap.size]? = _ from alloc_keep Q4.out _))
        clear hb5)
     | fail)
  all_goals
    go_wp2_with fail; go_ret; exact ⟨rfl, B5⟩
end Go.Proofs.Ytlmjnglcdgkomac
/- Walks: CalculusWeakens. -/
namespace Go.Proofs.Ytlmjnglcdgkomac
open Go.RowKit

mutual
theorem nodes_small : ∀ (p : Pf), SmallP p → ∀ x ∈ p.nodes, x.l.length ≤ 300 ∧ x.r.length ≤ 300
  | .mk a g l r ks, h, x, hx => by
    obtain ⟨h1, h2, h3, h4⟩ := h.parts; rw [Pf.nodes] at hx
    rcases List.mem_cons.1 hx with e | hx
    · rw [e]; exact ⟨h1, h2⟩
    · exact nodesL_small ks h4 x hx
theorem nodesL_small : ∀ (ks : List Pf), (∀ k ∈ ks, SmallP k) → ∀ x ∈ Pf.nodesL ks, x.l.length ≤ 300 ∧ x.r.length ≤ 300
  | [], _, x, hx => by rw [Pf.nodesL] at hx; cases hx
  | k :: ks, h, x, hx => by
    rw [Pf.nodesL] at hx
    rcases List.mem_append.1 hx with hx | hx
    · exact nodes_small k (h k List.mem_cons_self) x hx
    · exact nodesL_small ks (fun y hy => h y (List.mem_cons_of_mem _ hy)) x hx
end

end Go.Proofs.Ytlmjnglcdgkomac
/- A proof with a formula for a name: what its steps tell, and its measures. -/
namespace Go.Proofs.Ytlmjnglcdgkomac
open Go.RowKit

mutual
theorem sub_size (nm : ByteArray) (g : Fm) : ∀ p : Pf, (p.sub nm g).size = p.size
  | .mk a f l r ks => by rw [Pf.sub, Pf.size, Pf.size, subs_size nm g ks]
theorem subs_size (nm : ByteArray) (g : Fm) : ∀ ks : List Pf, Pf.sizes (Pf.subs nm g ks) = Pf.sizes ks
  | [] => by rw [Pf.subs]
  | k :: ks => by rw [Pf.subs, Pf.sizes, Pf.sizes, sub_size nm g k, subs_size nm g ks]
end
mutual
theorem sub_deep (nm : ByteArray) (g : Fm) : ∀ p : Pf, (p.sub nm g).deep = p.deep
  | .mk a f l r ks => by rw [Pf.sub, Pf.deep, Pf.deep, subs_deep nm g ks]
theorem subs_deep (nm : ByteArray) (g : Fm) : ∀ ks : List Pf, Pf.deeps (Pf.subs nm g ks) = Pf.deeps ks
  | [] => by rw [Pf.subs]
  | k :: ks => by rw [Pf.subs, Pf.deeps, Pf.deeps, sub_deep nm g k, subs_deep nm g ks]
end
/-- A step that is well made. -/
def StepOkS (x : Pf) : Prop := (seqCode x.l x.r).1 = 0 ∧ (x.rule.data.toList ≠ weakT → x.f.pcode.1 = 0)
mutual
theorem sub_fits (nm : ByteArray) (g : Fm) : ∀ p : Pf, (∀ x ∈ (p.sub nm g).nodes, StepOkS x) → p.fits nm g
  | .mk a f l r ks, h => by
    rw [Pf.sub, Pf.nodes] at h; rw [Pf.fits]; have := h _ List.mem_cons_self; (exact ⟨this.1, this.2, subs_fits nm g ks fun x hx => h x (List.mem_cons_of_mem _ hx)⟩)
theorem subs_fits (nm : ByteArray) (g : Fm) : ∀ ks : List Pf, (∀ x ∈ Pf.nodesL (Pf.subs nm g ks), StepOkS x) → Pf.fitsL nm g ks
  | [], _ => by rw [Pf.fitsL]; trivial
  | k :: ks, h => by
    rw [Pf.subs, Pf.nodesL] at h; rw [Pf.fitsL]; (exact ⟨sub_fits nm g k fun x hx => h x (List.mem_append_left _ hx), subs_fits nm g ks fun x hx => h x (List.mem_append_right _ hx)⟩)
end
/-- Not too many at a place, and no formula too broad. -/
inductive GoodS : Pf → Prop
  | mk (a : ByteArray) (f : Fm) (l r : List Fm) (ks : List Pf) (h0 : Slim f) (h1 : l.length ≤ 300) (h2 : r.length ≤ 300) (hl : ∀ g ∈ l, Slim g) (hr : ∀ g ∈ r, Slim g) (h3 : ks.length ≤ 1200) (h4 : ∀ (i : Nat) (k : Pf), ks[i]? = some k → GoodS k) : GoodS (.mk a f l r ks)
theorem GoodS.parts {a : ByteArray} {f : Fm} {l r : List Fm} {ks : List Pf} (h : GoodS (.mk a f l r ks)) : Slim f ∧ l.length ≤ 300 ∧ r.length ≤ 300 ∧ (∀ g ∈ l, Slim g) ∧ (∀ g ∈ r, Slim g) ∧ ks.length ≤ 1200 ∧ ∀ (i : Nat) (k : Pf), ks[i]? = some k → GoodS k := by
  cases h with | mk _ _ _ _ _ h0 h1 h2 hl hr h3 h4 => exact ⟨h0, h1, h2, hl, hr, h3, h4⟩
theorem slim_plain {f : Fm} (h : f.pcode.1 = 0) : Slim f := slim_of f (by have := (pcode_fine h).2; omega)
mutual
theorem look_goodS (i : Bool) : ∀ (p : Pf) (d s c : Nat), (look i p d s c).1.1 = 0 → SmallP p → GoodS p ∧ ∀ nm g, SmallP (p.sub nm g)
  | .mk a f l r ks, d, s, c, h, hsm => by
    obtain ⟨h1, h2, h3, h4⟩ := hsm.parts; rw [look_def] at h
    split at h
    · cases h
    · split at h
      · rename_i h2
        exact absurd h h2
      · rename_i hn
        (have hs : stepC i (.mk a f l r ks) = 0 := Classical.byContradiction fun e => hn e); rw [stepC] at hs
        split at hs
        · cases hs
        · rename_i hn
          (have hq : (seqCode l r).1 = 0 := Classical.byContradiction fun e => hn (Or.inl e)); obtain ⟨h60, hfl, hfr⟩ := seqCode_fine hq
          have hf : Slim f := by
            split at hs
            · unfold weakC at hs
              split at hs
              · rename_i e
                rw [e]; (exact Slim.mk 0 _ [] (by simp) fun i f hf => by simp at hf)
              · cases hs
            · split at hs
              · cases hs
              · split at hs
                · cases hs
                · rename_i hp
                  (exact slim_plain (Classical.byContradiction fun e => hp e))
          have hk := looks_goodS i ks _ _ _ h h4; (refine ⟨GoodS.mk a f l r ks hf h1 h2 (fun x hx => slim_plain (hfl x hx)) (fun x hx => slim_plain (hfr x hx)) h3 fun j k hj => (hk k (List.mem_of_getElem? hj)).1, fun nm g => ?_⟩); rw [Pf.sub, subs_map]; (refine SmallP.mk (by rw [List.length_map]; exact h1) (by rw [List.length_map]; exact h2) (by rw [List.length_map]; exact h3) fun k hk' => ?_); obtain ⟨x, hx, rfl⟩ := List.mem_map.1 hk'; exact (hk x hx).2 nm g
theorem looks_goodS (i : Bool) : ∀ (ks : List Pf) (d s c : Nat), (looks i ks d s c).1.1 = 0 → (∀ k ∈ ks, SmallP k) → ∀ k ∈ ks, GoodS k ∧ ∀ nm g, SmallP (k.sub nm g)
  | [], _, _, _, _, _, k, hk => by cases hk
  | k :: ks, d, s, c, h, hsm, u, hu => by
    rw [looks] at h
    split at h
    · rename_i hn
      exact absurd h hn
    · rename_i hn
      (have hn' : (look i k d s c).1.1 = 0 := Classical.byContradiction fun e => hn e)
      rcases List.mem_cons.1 hu with e | hu
      · rw [e]
        exact look_goodS i k d s c hn' (hsm k List.mem_cons_self)
      · exact looks_goodS i ks _ _ _ h (fun x hx => hsm x (List.mem_cons_of_mem _ hx)) u hu
end
end Go.Proofs.Ytlmjnglcdgkomac
/- Walks: instead (made by gen/pfcopy.py). -/
namespace Go.Proofs.Ytlmjnglcdgkomac
open Go.RowKit

theorem frame51 (a : Array Value) (h : a.size = 51) : ∃ x0 x1 x2 x3 x4 x5 x6 x7 x8 x9 x10 x11 x12 x13 x14 x15 x16 x17 x18 x19 x20 x21 x22 x23 x24 x25 x26 x27 x28 x29 x30 x31 x32 x33 x34 x35 x36 x37 x38 x39 x40 x41 x42 x43 x44 x45 x46 x47 x48 x49 x50, a = #[x0, x1, x2, x3, x4, x5, x6, x7, x8, x9, x10, x11, x12, x13, x14, x15, x16, x17, x18, x19, x20, x21, x22, x23, x24, x25, x26, x27, x28, x29, x30, x31, x32, x33, x34, x35, x36, x37, x38, x39, x40, x41, x42, x43, x44, x45, x46, x47, x48, x49, x50] := by
  obtain ⟨l⟩ := a; have h0 : l.length = 51 := h; obtain ⟨x0, l1, e0, h1⟩ := cons_len h0; obtain ⟨x1, l2, e1, h2⟩ := cons_len h1; obtain ⟨x2, l3, e2, h3⟩ := cons_len h2; obtain ⟨x3, l4, e3, h4⟩ := cons_len h3; obtain ⟨x4, l5, e4, h5⟩ := cons_len h4; obtain ⟨x5, l6, e5, h6⟩ := cons_len h5; obtain ⟨x6, l7, e6, h7⟩ := cons_len h6; obtain ⟨x7, l8, e7, h8⟩ := cons_len h7; obtain ⟨x8, l9, e8, h9⟩ := cons_len h8; obtain ⟨x9, l10, e9, h10⟩ := cons_len h9; obtain ⟨x10, l11, e10, h11⟩ := cons_len h10; obtain ⟨x11, l12, e11, h12⟩ := cons_len h11; obtain ⟨x12, l13, e12, h13⟩ := cons_len h12; obtain ⟨x13, l14, e13, h14⟩ := cons_len h13; obtain ⟨x14, l15, e14, h15⟩ := cons_len h14; obtain ⟨x15, l16, e15, h16⟩ := cons_len h15; obtain ⟨x16, l17, e16, h17⟩ := cons_len h16; obtain ⟨x17, l18, e17, h18⟩ := cons_len h17; obtain ⟨x18, l19, e18, h19⟩ := cons_len h18; obtain ⟨x19, l20, e19, h20⟩ := cons_len h19; obtain ⟨x20, l21, e20, h21⟩ := cons_len h20; obtain ⟨x21, l22, e21, h22⟩ := cons_len h21; obtain ⟨x22, l23, e22, h23⟩ := cons_len h22; obtain ⟨x23, l24, e23, h24⟩ := cons_len h23; obtain ⟨x24, l25, e24, h25⟩ := cons_len h24; obtain ⟨x25, l26, e25, h26⟩ := cons_len h25; obtain ⟨x26, l27, e26, h27⟩ := cons_len h26; obtain ⟨x27, l28, e27, h28⟩ := cons_len h27; obtain ⟨x28, l29, e28, h29⟩ := cons_len h28; obtain ⟨x29, l30, e29, h30⟩ := cons_len h29; obtain ⟨x30, l31, e30, h31⟩ := cons_len h30; obtain ⟨x31, l32, e31, h32⟩ := cons_len h31; obtain ⟨x32, l33, e32, h33⟩ := cons_len h32; obtain ⟨x33, l34, e33, h34⟩ := cons_len h33; obtain ⟨x34, l35, e34, h35⟩ := cons_len h34; obtain ⟨x35, l36, e35, h36⟩ := cons_len h35; obtain ⟨x36, l37, e36, h37⟩ := cons_len h36; obtain ⟨x37, l38, e37, h38⟩ := cons_len h37; obtain ⟨x38, l39, e38, h39⟩ := cons_len h38; obtain ⟨x39, l40, e39, h40⟩ := cons_len h39; obtain ⟨x40, l41, e40, h41⟩ := cons_len h40; obtain ⟨x41, l42, e41, h42⟩ := cons_len h41; obtain ⟨x42, l43, e42, h43⟩ := cons_len h42; obtain ⟨x43, l44, e43, h44⟩ := cons_len h43; obtain ⟨x44, l45, e44, h45⟩ := cons_len h44; obtain ⟨x45, l46, e45, h46⟩ := cons_len h45; obtain ⟨x46, l47, e46, h47⟩ := cons_len h46; obtain ⟨x47, l48, e47, h48⟩ := cons_len h47; obtain ⟨x48, l49, e48, h49⟩ := cons_len h48; obtain ⟨x49, l50, e49, h50⟩ := cons_len h49; obtain ⟨x50, l51, e50, h51⟩ := cons_len h50; have e51 : l51 = [] := List.length_eq_zero_iff.1 h51; subst e51 e50 e49 e48 e47 e46 e45 e44 e43 e42 e41 e40 e39 e38 e37 e36 e35 e34 e33 e32 e31 e30 e29 e28 e27 e26 e25 e24 e23 e22 e21 e20 e19 e18 e17 e16 e15 e14 e13 e12 e11 e10 e9 e8 e7 e6 e5 e4 e3 e2 e1 e0; exact ⟨x0, x1, x2, x3, x4, x5, x6, x7, x8, x9, x10, x11, x12, x13, x14, x15, x16, x17, x18, x19, x20, x21, x22, x23, x24, x25, x26, x27, x28, x29, x30, x31, x32, x33, x34, x35, x36, x37, x38, x39, x40, x41, x42, x43, x44, x45, x46, x47, x48, x49, x50, rfl⟩
def InP (nm : ByteArray) (f : Fm) (A : Nat) (m : Nat) : Prop := ∀ (p : Pf) (v u : Value) (w : World), p.size < m → GoodS p → A ≤ w.heap.size → PRp (· < A) w p v → Rep w (· < A) f u →
  Calls Try.prog 13 #[v, .string nm, u] w fun e w' => ∃ x, e = .returned x ∧ PRp (fun b => b < A ∨ w.heap.size ≤ b) w' (p.sub nm f) x ∧ Below w.heap.size w w'

set_option maxRecDepth 10000 in
set_option maxHeartbeats 8000000 in
theorem instead_step (nm : ByteArray) (f : Fm) (A : Nat) (m : Nat) (ih : InP nm f A m) : InP nm f A (m + 1) := by
  intro p v u w hm hgood hAw hv hu; obtain ⟨kg, ng, ksg⟩ := f; obtain ⟨a0, ⟨k, n, kf⟩, l, r, ks⟩ := p; obtain ⟨hsf, hl3, hr3, hsl, hsr, hk3, hgk⟩ := hgood.parts; have HV : Hid (PRp (· < A) w (.mk a0 (.mk k n kf) l r ks) v) := hv; obtain ⟨sf, cf, al, cl, ar, cr, sl, cap, rfl, ha, hf, hl, hr, hkc, hcm, hks⟩ := hv.parts; obtain ⟨sg, cg, rfl⟩ := slice_shape hu; have HG : Hid (Rep w (· < A) (.mk kg ng ksg) _) := hu
  obtain ⟨k5, n5, kf5, h5⟩ : ∃ k' n' ks', putF nm (.mk kg ng ksg) (.mk k n kf) = .mk k' n' ks' := by
    cases putF nm (.mk kg ng ksg) (.mk k n kf)
    exact ⟨_, _, _, rfl⟩
  obtain ⟨L5, hL5⟩ : ∃ L, L = l.map (putF nm (.mk kg ng ksg)) := ⟨_, rfl⟩; obtain ⟨R5, hR5⟩ : ∃ L, L = r.map (putF nm (.mk kg ng ksg)) := ⟨_, rfl⟩
  have H5 : Hid (Pf.sub nm (.mk kg ng ksg) (.mk a0 (.mk k n kf) l r ks) = .mk a0 (.mk k5 n5 kf5) L5 R5 (Pf.subs nm (.mk kg ng ksg) ks)) := by
    show _ = _; rw [Pf.sub, h5, hL5, hR5]
  obtain ⟨O1, hO1⟩ : ∃ O, O = Obj.cells #[.string a0, .int .i64 k, .string n, .slice sf kf.length cf, .slice al l.length cl, .slice ar r.length cr, .slice sl ks.length cap] 29 (0, 0) := ⟨_, rfl⟩; obtain ⟨O2, hO2⟩ : ∃ O, O = Obj.cells #[.int .i64 kg, .string ng, .slice sg ksg.length cg] 24 (0, 0) := ⟨_, rfl⟩; obtain ⟨O3, hO3⟩ : ∃ O, O = Obj.cells #[.string ⟨#[]⟩, .int .i64 0, .string ⟨#[]⟩, .slice none 0 0, .slice none 0 0, .slice none 0 0, .slice none 0 0] 29 (0, 0) := ⟨_, rfl⟩; obtain ⟨W, hW⟩ : ∃ W, W = ((w.alloc O1).alloc O2).alloc O3 := ⟨_, rfl⟩; (have B0 : Below w.heap.size w W := by rw [hW]; exact below_more (below_more (below_more (Below.refl _ w) _) _) _); (have z0 : W.heap.size = w.heap.size + 3 := by rw [hW]; simp); (have p1 : W.heap[w.heap.size]? = some O1 := by rw [hW]; exact alloc_keep (alloc_keep (blk_new w O1) _) _); (have p2 : W.heap[w.heap.size + 1]? = some O2 := by rw [hW]; exact alloc_keep (blk_two w O1 O2) _); (have p3 : W.heap[w.heap.size + 1 + 1]? = some O3 := by rw [hW]; have := blk_new ((w.alloc O1).alloc O2) O3; simpa using this); rw [hO2] at p2; have P2 : Hid (W.heap[w.heap.size + 1]? = some _) := p2; (have HA : Hid (A ≤ W.heap.size) := by show _ ≤ _; omega); rw [hO1] at p1; rw [hO3] at p3; have P1 : Hid (W.heap[w.heap.size]? = some _) := p1; have P3 : Hid (W.heap[w.heap.size + 1 + 1]? = some _) := p3
  have HWI : Hid (∀ wx, Below W.heap.size W wx → Calls Try.prog 21 #[.agg #[.int .i64 k, .string n, .slice sf kf.length cf], .string nm, .agg #[.int .i64 kg, .string ng, .slice sg ksg.length cg]] wx fun e w' => ∃ x, e = .returned x ∧ Rep w' (fun b => b < A ∨ wx.heap.size ≤ b) (.mk k5 n5 kf5) x ∧ Below wx.heap.size wx w') := fun wx hb => by
    have hbx := below_join B0 hb; (have hc := withs_all nm (.mk kg ng ksg) A _ (.mk k n kf) _ _ wx (Nat.lt_succ_self _) hsf (by have := hbx.size; omega) (hf.all.up hbx) (HG.out.low (hbx.mono hAw))); rw [h5] at hc; exact hc
  have HWL : Hid (∀ wx, Below W.heap.size W wx → Calls Try.prog 22 #[.slice al l.length cl, .string nm, .agg #[.int .i64 kg, .string ng, .slice sg ksg.length cg]] wx fun e w' => ∃ x, e = .returned x ∧ FLp (fun b => b < A ∨ wx.heap.size ≤ b) w' x L5 ∧ Below wx.heap.size wx w') := fun wx hb => by
    have hbx := below_join B0 hb; rw [hL5]; (exact withAll_any nm (.mk kg ng ksg) A l hl3 hsl _ _ wx (by have := hbx.size; omega) (hl.list.up hbx) (HG.out.low (hbx.mono hAw)))
  have HWR : Hid (∀ wx, Below W.heap.size W wx → Calls Try.prog 22 #[.slice ar r.length cr, .string nm, .agg #[.int .i64 kg, .string ng, .slice sg ksg.length cg]] wx fun e w' => ∃ x, e = .returned x ∧ FLp (fun b => b < A ∨ wx.heap.size ≤ b) w' x R5 ∧ Below wx.heap.size wx w') := fun wx hb => by
    have hbx := below_join B0 hb; rw [hR5]; (exact withAll_any nm (.mk kg ng ksg) A r hr3 hsr _ _ wx (by have := hbx.size; omega) (hr.list.up hbx) (HG.out.low (hbx.mono hAw)))
  clear hf hl hr hu h5 hL5 hR5
  go_enter Try.func13, Try.ntmps13
  go_wp2_with fail; rw [← hO1, ← hO2, ← hO3, ← hW]; clear p1 p2 p3; (refine wp_region_one (by kernel_rfl) [tEq (.pointer (some ⟨w.heap.size, 0, none⟩)), tEq (.string a0), tEq (.pointer (some ⟨w.heap.size, 1, none⟩)), tEq (.agg #[.int .i64 k, .string n, .slice sf kf.length cf]), tEq (.string nm), tEq (.agg #[.int .i64 kg, .string ng, .slice sg ksg.length cg]), tRp A W.heap.size [6] k5 n5 kf5, tEq (.pointer (some ⟨w.heap.size, 4, none⟩)), tEq (.pointer (some ⟨w.heap.size, 4, none⟩)), tEq (.slice al l.length cl), tEq (.string nm), tEq (.agg #[.int .i64 kg, .string ng, .slice sg ksg.length cg]), tFL A W.heap.size [12] L5, tEq (.pointer (some ⟨w.heap.size, 4, none⟩)), tEq (.pointer (some ⟨w.heap.size, 5, none⟩)), tEq (.slice ar r.length cr), tEq (.string nm), tEq (.agg #[.int .i64 kg, .string ng, .slice sg ksg.length cg]), tFL A W.heap.size [18] R5, tSq2 A W.heap.size [12] [18] L5 R5, tPf2 A W.heap.size [6] [12] [18] (.string a0) k5 n5 kf5 L5 R5, tPtr W.heap.size 21 #[.string ⟨#[]⟩, .int .i64 0, .string ⟨#[]⟩, .slice none 0 0, .slice none 0 0, .slice none 0 0, .slice none 0 0] 29] ?_ (by kernel_rfl) (by kernel_rfl) 51 rfl (by kernel_rfl) 22 _ rfl rfl (by kernel_rfl) [] 0 (by decide) (fun w1 _ w2 => Below w1.heap.size w1 w2) (fun _ wx => Below W.heap.size W wx) (Below.refl _ W) (fun _ w1 w2 h1 h2 => below_join h1 h2) (fun w1 t w2 h1 h2 => below_join h1 h2) [] (by kernel_rfl) ?_ ?_ ?_)
  · intro p hp
    simp only [List.mem_cons, List.not_mem_nil, or_false] at hp
    rcases hp with rfl | rfl | rfl | rfl | rfl | rfl | rfl | rfl | rfl | rfl | rfl | rfl | rfl | rfl | rfl | rfl | rfl | rfl | rfl | rfl | rfl | rfl
    all_goals first | exact tEq_stays _ | exact tRp_stays _ _ _ _ _ _ | exact tFL_stays _ _ _ _ | exact tSq2_stays _ _ _ _ _ _ | exact tPf2_stays _ _ _ _ _ _ _ _ _ _ _ | exact tPtr_stays _ _ _ _
  · refine ⟨fun _ => tEq_stays _, fun _ => tEq_stays _, fun _ => tEq_stays _, fun _ => tEq_stays _, fun _ => tEq_stays _, fun _ => tEq_stays _, fun _ => tRp_stays _ _ _ _ _ _, fun _ => tEq_stays _, fun _ => tEq_stays _, fun _ => tEq_stays _, fun _ => tEq_stays _, fun _ => tEq_stays _, fun _ => tFL_stays _ _ _ _, fun _ => tEq_stays _, fun _ => tEq_stays _, fun _ => tEq_stays _, fun _ => tEq_stays _, fun _ => tEq_stays _, fun _ => tFL_stays _ _ _ _, fun _ => tSq2_stays _ _ _ _ _ _, fun _ => tPf2_stays _ _ _ _ _ _ _ _ _ _ _, fun _ => tPtr_stays _ _ _ _, trivial⟩
  · refine ⟨?_, ?_, ?_, ?_, ?_, ?_, ?_, ?_, ?_, ?_, ?_, ?_, ?_, ?_, ?_, ?_, ?_, ?_, ?_, ?_, ?_, ?_, trivial⟩
    · intro a wx t _ hB _ hold hdep K hK
      have t3 : a.tmps[3]? = some (.pointer (some ⟨w.heap.size, 0, none⟩)) := hold.2.2 3 rfl; clear hold hdep; go_simp; exact hK.out _ _ rfl (Below.refl _ _)
    · intro a wx t _ hB _ hold hdep K hK
      obtain ⟨v9, t9, p9⟩ := hdep 0 rfl _ 9 rfl rfl; have e9 : v9 = (.pointer (some ⟨w.heap.size, 0, none⟩)) := p9; subst e9; obtain ⟨k0, k1, k2, k3, k4, k5', k6⟩ := blk7 (below_keep hB P1.out); clear hold hdep; go_simp; exact hK.out _ _ rfl (Below.refl _ _)
    · intro a wx t _ hB _ hold hdep K hK
      have t3 : a.tmps[3]? = some (.pointer (some ⟨w.heap.size, 0, none⟩)) := hold.2.2 3 rfl; clear hold hdep; go_simp; exact hK.out _ _ rfl (Below.refl _ _)
    · intro a wx t _ hB _ hold hdep K hK
      obtain ⟨v11, t11, p11⟩ := hdep 2 rfl _ 11 rfl rfl; have e11 : v11 = (.pointer (some ⟨w.heap.size, 1, none⟩)) := p11; subst e11; obtain ⟨k0, k1, k2, k3, k4, k5', k6⟩ := blk7 (below_keep hB P1.out); clear hold hdep; go_simp; exact hK.out _ _ rfl (Below.refl _ _)
    · intro a wx t _ hB _ hold hdep K hK
      have t1 : a.tmps[1]? = some (.string nm) := hold.2.2 1 rfl; clear hold hdep; go_simp; exact hK.out _ _ rfl (Below.refl _ _)
    · intro a wx t _ hB _ hold hdep K hK
      have t5 : a.tmps[5]? = some (.pointer (some ⟨w.heap.size + 1, 0, none⟩)) := hold.2.2 5 rfl; obtain ⟨k0, k1, k2, -⟩ := blk3 (below_keep hB P2.out); clear hold hdep; go_simp; exact hK.out _ _ rfl (Below.refl _ _)
    · intro a wx t _ hB _ hold hdep K hK
      obtain ⟨v12, t12, p12⟩ := hdep 3 rfl _ 12 rfl rfl; have e12 : v12 = (.agg #[.int .i64 k, .string n, .slice sf kf.length cf]) := p12; subst e12; obtain ⟨v13, t13, p13⟩ := hdep 4 rfl _ 13 rfl rfl; have e13 : v13 = (.string nm) := p13; subst e13; obtain ⟨v14, t14, p14⟩ := hdep 5 rfl _ 14 rfl rfl; have e14 : v14 = (.agg #[.int .i64 kg, .string ng, .slice sg ksg.length cg]) := p14; subst e14; clear hold hdep; go_simp; refine (HWI.out wx hB).mono ?_; rintro e w1 ⟨x, rfl, hr, hb⟩; obtain ⟨s9, c9, rfl⟩ := slice_shape hr; have hz := hB.size; (exact hK.out _ _ ⟨_, _, rfl, hr.move fun b _ hp => ⟨rfl, hp.imp id fun h => ⟨by omega, by simp [mark, Nat.not_lt.2 h]⟩⟩⟩ hb)
    · intro a wx t _ hB _ hold hdep K hK
      have t3 : a.tmps[3]? = some (.pointer (some ⟨w.heap.size, 0, none⟩)) := hold.2.2 3 rfl; clear hold hdep; go_simp; exact hK.out _ _ rfl (Below.refl _ _)
    · intro a wx t _ hB _ hold hdep K hK
      obtain ⟨v16, t16, p16⟩ := hdep 7 rfl _ 16 rfl rfl; have e16 : v16 = (.pointer (some ⟨w.heap.size, 4, none⟩)) := p16; subst e16; clear hold hdep; go_simp; exact hK.out _ _ rfl (Below.refl _ _)
    · intro a wx t _ hB _ hold hdep K hK
      obtain ⟨v17, t17, p17⟩ := hdep 8 rfl _ 17 rfl rfl; have e17 : v17 = (.pointer (some ⟨w.heap.size, 4, none⟩)) := p17; subst e17; obtain ⟨k0, k1, k2, k3, k4, k5', k6⟩ := blk7 (below_keep hB P1.out); clear hold hdep; go_simp; exact hK.out _ _ rfl (Below.refl _ _)
    · intro a wx t _ hB _ hold hdep K hK
      have t1 : a.tmps[1]? = some (.string nm) := hold.2.2 1 rfl; clear hold hdep; go_simp; exact hK.out _ _ rfl (Below.refl _ _)
    · intro a wx t _ hB _ hold hdep K hK
      have t5 : a.tmps[5]? = some (.pointer (some ⟨w.heap.size + 1, 0, none⟩)) := hold.2.2 5 rfl; obtain ⟨k0, k1, k2, -⟩ := blk3 (below_keep hB P2.out); clear hold hdep; go_simp; exact hK.out _ _ rfl (Below.refl _ _)
    · intro a wx t _ hB _ hold hdep K hK
      obtain ⟨v18, t18, p18⟩ := hdep 9 rfl _ 18 rfl rfl; have e18 : v18 = (.slice al l.length cl) := p18; subst e18; obtain ⟨v19, t19, p19⟩ := hdep 10 rfl _ 19 rfl rfl; have e19 : v19 = (.string nm) := p19; subst e19; obtain ⟨v20, t20, p20⟩ := hdep 11 rfl _ 20 rfl rfl; have e20 : v20 = (.agg #[.int .i64 kg, .string ng, .slice sg ksg.length cg]) := p20; subst e20; clear hold hdep; go_simp; refine (HWL.out wx hB).mono ?_; rintro e w1 ⟨x, rfl, hr, hb⟩; have hr' := hr; obtain ⟨a9, c9, rfl, -⟩ := hr'; have hz := hB.size; (exact hK.out _ _ ⟨_, _, _, rfl, hr.move fun b _ hp => ⟨rfl, hp.imp id fun h => ⟨by omega, by simp [mark, Nat.not_lt.2 h]⟩⟩⟩ hb)
    · intro a wx t _ hB _ hold hdep K hK
      have t3 : a.tmps[3]? = some (.pointer (some ⟨w.heap.size, 0, none⟩)) := hold.2.2 3 rfl; clear hold hdep; go_simp; exact hK.out _ _ rfl (Below.refl _ _)
    · intro a wx t _ hB _ hold hdep K hK
      obtain ⟨v22, t22, p22⟩ := hdep 13 rfl _ 22 rfl rfl; have e22 : v22 = (.pointer (some ⟨w.heap.size, 4, none⟩)) := p22; subst e22; clear hold hdep; go_simp; exact hK.out _ _ rfl (Below.refl _ _)
    · intro a wx t _ hB _ hold hdep K hK
      obtain ⟨v23, t23, p23⟩ := hdep 14 rfl _ 23 rfl rfl; have e23 : v23 = (.pointer (some ⟨w.heap.size, 5, none⟩)) := p23; subst e23; obtain ⟨k0, k1, k2, k3, k4, k5', k6⟩ := blk7 (below_keep hB P1.out); clear hold hdep; go_simp; exact hK.out _ _ rfl (Below.refl _ _)
    · intro a wx t _ hB _ hold hdep K hK
      have t1 : a.tmps[1]? = some (.string nm) := hold.2.2 1 rfl; clear hold hdep; go_simp; exact hK.out _ _ rfl (Below.refl _ _)
    · intro a wx t _ hB _ hold hdep K hK
      have t5 : a.tmps[5]? = some (.pointer (some ⟨w.heap.size + 1, 0, none⟩)) := hold.2.2 5 rfl; obtain ⟨k0, k1, k2, -⟩ := blk3 (below_keep hB P2.out); clear hold hdep; go_simp; exact hK.out _ _ rfl (Below.refl _ _)
    · intro a wx t _ hB _ hold hdep K hK
      obtain ⟨v24, t24, p24⟩ := hdep 15 rfl _ 24 rfl rfl; have e24 : v24 = (.slice ar r.length cr) := p24; subst e24; obtain ⟨v25, t25, p25⟩ := hdep 16 rfl _ 25 rfl rfl; have e25 : v25 = (.string nm) := p25; subst e25; obtain ⟨v26, t26, p26⟩ := hdep 17 rfl _ 26 rfl rfl; have e26 : v26 = (.agg #[.int .i64 kg, .string ng, .slice sg ksg.length cg]) := p26; subst e26; clear hold hdep; go_simp; refine (HWR.out wx hB).mono ?_; rintro e w1 ⟨x, rfl, hr, hb⟩; have hr' := hr; obtain ⟨a9, c9, rfl, -⟩ := hr'; have hz := hB.size; (exact hK.out _ _ ⟨_, _, _, rfl, hr.move fun b _ hp => ⟨rfl, hp.imp id fun h => ⟨by omega, by simp [mark, Nat.not_lt.2 h]⟩⟩⟩ hb)
    · intro a wx t _ hB _ hold hdep K hK
      obtain ⟨v21, t21, a1, m1, c1, e21, hf1⟩ := hdep 12 rfl _ 21 rfl rfl; obtain ⟨v27, t27, a2, m2, c2, e27, hf2⟩ := hdep 18 rfl _ 27 rfl rfl; subst e21 e27; have H1 : Hid (FLp _ wx _ _) := hf1; have H2 : Hid (FLp _ wx _ _) := hf2; clear hold hdep hf1 hf2; go_simp; (exact hK.out _ _ ⟨_, _, _, _, _, _, rfl, H1.out.move fun b hb hp => ⟨rfl, hp.up (fun b hb => if_pos hb) hb⟩, H2.out.move fun b hb hp => ⟨rfl, hp.up (fun b hb => if_pos hb) hb⟩⟩ (Below.refl _ _))
    · intro a wx t _ hB _ hold hdep K hK
      obtain ⟨vq, tq, a1, m1, c1, a2, m2, c2, eq', hf1, hf2⟩ := hdep 19 rfl _ 28 rfl rfl; obtain ⟨vf, tf, s3, c3, ef, hf3⟩ := hdep 6 rfl _ 15 rfl rfl; subst eq' ef; obtain ⟨v10, t10, p10⟩ := hdep 1 rfl _ 10 rfl rfl; have e10 : v10 = (.string a0) := p10; subst e10; have H1 : Hid (FLp _ wx _ _) := hf1; have H2 : Hid (FLp _ wx _ _) := hf2; have H3 : Hid (Rep wx _ _ _) := hf3; clear hold hdep hf1 hf2 hf3; go_simp; (exact hK.out _ _ ⟨_, _, _, _, _, _, _, _, rfl, H3.out.move fun b hb hp => ⟨rfl, hp.up (fun b hb => if_pos hb) hb⟩, H1.out.move fun b hb hp => ⟨rfl, hp.up (fun b hb => if_pos hb) hb⟩, H2.out.move fun b hb hp => ⟨rfl, hp.up (fun b hb => if_pos hb) hb⟩⟩ (Below.refl _ _))
    · intro a wx t _ hB _ hold hdep K hK
      have hz := hB.size; clear hold hdep; go_simp; (exact hK.out _ _ ⟨_, rfl, blk_new wx _, hz, by simp [mark]⟩ (below_more (Below.refl _ wx) _))
  · intro a wx t hB hold hgot K hK
    (obtain ⟨vb, tb, sf5, cf5, ad, mm, cp, ad1, mm1, cp1, eb, hfF, hfL, hfR⟩ := hgot 20 _ 29 (by omega) (by kernel_rfl) rfl rfl); (obtain ⟨vq, tq, g, eq', hgb, hgS, hgt⟩ := hgot 21 _ 7 (by omega) (by kernel_rfl) rfl rfl); subst eb eq'; obtain ⟨tm, df⟩ := a; obtain ⟨x0, x1, x2, x3, x4, x5, x6, x7, x8, x9, x10, x11, x12, x13, x14, x15, x16, x17, x18, x19, x20, x21, x22, x23, x24, x25, x26, x27, x28, x29, x30, x31, x32, x33, x34, x35, x36, x37, x38, x39, x40, x41, x42, x43, x44, x45, x46, x47, x48, x49, x50, htm⟩ := frame51 tm hold.1; subst htm; obtain rfl : df = [] := hold.2.1; obtain rfl : x0 = _ := Option.some.inj (hold.2.2 0 rfl); obtain rfl : x1 = _ := Option.some.inj (hold.2.2 1 rfl); obtain rfl : x2 = _ := Option.some.inj (hold.2.2 2 rfl); obtain rfl : x3 = _ := Option.some.inj (hold.2.2 3 rfl); obtain rfl : x4 = _ := Option.some.inj (hold.2.2 4 rfl); obtain rfl : x5 = _ := Option.some.inj (hold.2.2 5 rfl); obtain rfl : x6 = _ := Option.some.inj (hold.2.2 6 rfl); obtain rfl : x8 = _ := Option.some.inj (hold.2.2 8 rfl); obtain rfl : x30 = _ := Option.some.inj (hold.2.2 30 rfl); obtain rfl : x31 = _ := Option.some.inj (hold.2.2 31 rfl); obtain rfl : x32 = _ := Option.some.inj (hold.2.2 32 rfl); obtain rfl : x33 = _ := Option.some.inj (hold.2.2 33 rfl); obtain rfl : x34 = _ := Option.some.inj (hold.2.2 34 rfl); obtain rfl : x35 = _ := Option.some.inj (hold.2.2 35 rfl); obtain rfl : x36 = _ := Option.some.inj (hold.2.2 36 rfl); obtain rfl : x37 = _ := Option.some.inj (hold.2.2 37 rfl); obtain rfl : x38 = _ := Option.some.inj (hold.2.2 38 rfl); obtain rfl : x39 = _ := Option.some.inj (hold.2.2 39 rfl); obtain rfl : x40 = _ := Option.some.inj (hold.2.2 40 rfl); obtain rfl : x41 = _ := Option.some.inj (hold.2.2 41 rfl); obtain rfl : x42 = _ := Option.some.inj (hold.2.2 42 rfl); obtain rfl : x43 = _ := Option.some.inj (hold.2.2 43 rfl); obtain rfl : x44 = _ := Option.some.inj (hold.2.2 44 rfl); obtain rfl : x45 = _ := Option.some.inj (hold.2.2 45 rfl); obtain rfl : x46 = _ := Option.some.inj (hold.2.2 46 rfl); obtain rfl : x47 = _ := Option.some.inj (hold.2.2 47 rfl); obtain rfl : x48 = _ := Option.some.inj (hold.2.2 48 rfl); obtain rfl : x49 = _ := Option.some.inj (hold.2.2 49 rfl); obtain rfl : x50 = _ := Option.some.inj (hold.2.2 50 rfl); obtain rfl : x29 = _ := Option.some.inj tb; obtain rfl : x7 = _ := Option.some.inj tq; have HQ : Hid (wx.heap[g]? = some _) := hgb; obtain ⟨j0, j1, j2, j3, j4, j5, j6⟩ := blk7 hgb; obtain ⟨m0, m1, m2, m3, m4, m5, m6⟩ := blk7f hgb
    have hfree : ∀ ns : List Nat, 21 ∉ ns → ∀ b, tP A W.heap.size t ns b → b < A ∨ (W.heap.size ≤ b ∧ b ≠ g) := fun ns hn b hp => hp.imp id fun h => ⟨h.1, fun e => by
      rw [e, hgt] at h
      exact hn h.2⟩
    (have HFF : Hid (Rep wx (fun b => b < A ∨ (W.heap.size ≤ b ∧ b ≠ g)) (.mk k5 n5 kf5) _) := hfF.move fun b _ hp => ⟨rfl, hfree _ (by decide) b hp⟩); (have HFL : Hid (FLp (fun b => b < A ∨ (W.heap.size ≤ b ∧ b ≠ g)) wx (.slice ad mm cp) L5) := hfL.move fun b _ hp => ⟨rfl, hfree _ (by decide) b hp⟩); (have HFR : Hid (FLp (fun b => b < A ∨ (W.heap.size ≤ b ∧ b ≠ g)) wx (.slice ad1 mm1 cp1) R5) := hfR.move fun b _ hp => ⟨rfl, hfree _ (by decide) b hp⟩); clear hold hgot hfF hfL hfR hfree tb tq hgb hgt; go_simp; refine hK.out _ _ ?_; clear hK K; have f7 := put7_blk HQ.out (.string a0) (.int .i64 k5) (.string n5) (.slice sf5 kf5.length cf5) (.slice ad mm cp) (.slice ad1 mm1 cp1) (.slice none 0 0); have b7 := put7_below (b := g) hB hgS (.string a0) (.int .i64 k5) (.string n5) (.slice sf5 kf5.length cf5) (.slice ad mm cp) (.slice ad1 mm1 cp1) (.slice none 0 0); (have oth : ∀ b, b < A ∨ (W.heap.size ≤ b ∧ b ≠ g) → (put7 wx g (.string a0) (.int .i64 k5) (.string n5) (.slice sf5 kf5.length cf5) (.slice ad mm cp) (.slice ad1 mm1 cp1) (.slice none 0 0)).heap[b]? = wx.heap[b]? := fun b hp => put7_other (by have := HA.out; omega) _ _ _ _ _ _ _); (have hFF := HFF.out.move (w' := put7 wx g (.string a0) (.int .i64 k5) (.string n5) (.slice sf5 kf5.length cf5) (.slice ad mm cp) (.slice ad1 mm1 cp1) (.slice none 0 0)) (ok' := fun b => b < A ∨ (W.heap.size ≤ b ∧ b ≠ g)) fun b _ hp => ⟨oth b hp, hp⟩); (have hFL := HFL.out.move (w' := put7 wx g (.string a0) (.int .i64 k5) (.string n5) (.slice sf5 kf5.length cf5) (.slice ad mm cp) (.slice ad1 mm1 cp1) (.slice none 0 0)) (P' := fun b => b < A ∨ (W.heap.size ≤ b ∧ b ≠ g)) fun b _ hp => ⟨oth b hp, hp⟩); (have hFR := HFR.out.move (w' := put7 wx g (.string a0) (.int .i64 k5) (.string n5) (.slice sf5 kf5.length cf5) (.slice ad mm cp) (.slice ad1 mm1 cp1) (.slice none 0 0)) (P' := fun b => b < A ∨ (W.heap.size ≤ b ∧ b ≠ g)) fun b _ hp => ⟨oth b hp, hp⟩); show Exit.then _ _ _ _ (put7 wx g _ _ _ _ _ _ _); clear oth; generalize put7 wx g _ _ _ _ _ _ _ = F at *; have HF5 : Hid (Rep F _ (.mk k5 n5 kf5) _) := hFF; have HL5 : Hid (FLp _ F (.slice ad mm cp) L5) := hFL; have HR5 : Hid (FLp _ F (.slice ad1 mm1 cp1) R5) := hFR; have HB7 : Hid (Below W.heap.size W F) := b7; clear j0 j1 j2 j3 j4 j5 j6 m0 m1 m2 m3 m4 m5 m6 hFF hFL hFR HFF HFL HFR HQ hB wx; have zF := HB7.out.size; have zg := lt_of_block f7; have HHK : Hid (∀ (i : Nat) (k : Pf), ks[i]? = some k → GoodS k) := hgk; have HIH : Hid (InP nm (.mk kg ng ksg) A m) := ih
    have HM : Hid (Pf.sizes ks < m) := by
      show _ < _; rw [Pf.size] at hm; omega
    have HKS : Hid (ks ≠ [] → ∃ b off, sl = some ⟨b, off, none⟩ ∧ b < A ∧ PRps (· < A) w b off ks) := hks; (have hkI : (ks.length : Int) ≤ 1200 := by omega); obtain ⟨i1, hi1, hz10, hz11, hz12⟩ := infoPf; have HI1 : Hid (Try.prog.info? 29 = some i1 ∧ i1.zero = some (.agg #[.string ⟨#[]⟩, .int .i64 0, .string ⟨#[]⟩, .slice none 0 0, .slice none 0 0, .slice none 0 0, .slice none 0 0]) ∧ i1.size = 7 ∧ i1.bytes = 136) := ⟨hi1, hz10, hz11, hz12⟩; have HF7' : Hid (F.heap[g]? = some _) := f7; obtain ⟨-, -, -, -, -, -, c6⟩ := blk7 (below_keep HB7.out P1.out); clear hi1 hz10 hz11 hz12 hks ih hm hgk hgood HWL HWR HWI hl3 hr3 hsl hsr hsf hk3 b7; go_wp2_with fail; clear c6
    go_loopg [8] ks.length (fun gg c wr => ∃ i ad2 cp2, i ≤ ks.length ∧ gg = ks.length - i ∧ c = .int .i64 (i : Nat) ∧ Hid (Below W.heap.size W wr) ∧ F.heap.size ≤ wr.heap.size ∧ wr.heap[g]? = some (.cells #[.string a0, .int .i64 k5, .string n5, .slice sf5 kf5.length cf5, .slice ad mm cp, .slice ad1 mm1 cp1, .slice ad2 i cp2] 29 (0, 0)) ∧ Hid (∀ b, b < F.heap.size → b ≠ g → wr.heap[b]? = F.heap[b]?) ∧ Hid (KF (fun b => b < A ∨ F.heap.size ≤ b) F.heap.size wr ad2 cp2 (Pf.subs nm (.mk kg ng ksg) (ks.take i))))
    case atStart =>
      (refine ⟨0, none, 0, by omega, by omega, rfl, HB7, Nat.le_refl _, f7, fun _ _ _ => rfl, ?_⟩); show KF _ _ _ _ _ _; rw [List.take_zero, Pf.subs]; exact KF.nil
    case round =>
      obtain ⟨i, ad2, cp2, hile, hg, rfl, HBr, hFr, q0, HFr, HK⟩ := hrel; have HG2 : Hid (gk = ks.length - i) := hg; have HQ0 : Hid (wr.heap[g]? = some _) := q0; clear hg f7; have hBwr : Below w.heap.size w wr := below_join B0 HBr.out; have HBW : Hid (Below w.heap.size w wr) := hBwr; have Q1 : Hid (wr.heap[w.heap.size]? = some _) := below_keep HBr.out P1.out; have Q2 : Hid (wr.heap[w.heap.size + 1]? = some _) := below_keep HBr.out P2.out; have Q3 : Hid (wr.heap[w.heap.size + 1 + 1]? = some _) := below_keep HBr.out P3.out; have hzw := hBwr.size; have hgr := lt_of_block q0; (have hti : (Pf.subs nm (.mk kg ng ksg) (ks.take i)).length = i := by rw [subs_len, List.length_take]; omega); have HTI : Hid ((Pf.subs nm (.mk kg ng ksg) (ks.take i)).length = i) := hti; obtain ⟨-, -, -, -, -, -, c6⟩ := blk7 Q1.out; by_cases hlt : i < ks.length
      · obtain ⟨⟨ka, ⟨kk, kn, kkf⟩, kl, kr, kks⟩, hki⟩ : ∃ f, ks[i]? = some f := ⟨_, List.getElem?_eq_getElem hlt⟩
        (have hltI : (i : Int) < (ks.length : Int) := by omega); (obtain ⟨b, off, hsl, hbA, hrs⟩ := HKS.out (fun e => by rw [e] at hlt; simp at hlt)); subst hsl; (have hrs' : PRps (· < A) wr b off ks := hrs.move hbA fun q hq hp => ⟨hBwr.block q hq, hp⟩); obtain ⟨sf2, cf2, al2, cl2, ar2, cr2, sl2, cap2, y0, y1, y2, y3, y4, y5, y6, hrep2⟩ := hrs'.at i ka kk kn kkf kl kr kks hki; have HY : Hid (wr.cell? ⟨b, off + i * 7, none⟩ = some _ ∧ wr.cell? ⟨b, off + i * 7 + 1, none⟩ = some _ ∧ wr.cell? ⟨b, off + i * 7 + 2, none⟩ = some _ ∧ wr.cell? ⟨b, off + i * 7 + 3, none⟩ = some _ ∧ wr.cell? ⟨b, off + i * 7 + 4, none⟩ = some _ ∧ wr.cell? ⟨b, off + i * 7 + 5, none⟩ = some _ ∧ wr.cell? ⟨b, off + i * 7 + 6, none⟩ = some _) := ⟨y0, y1, y2, y3, y4, y5, y6⟩; (have hlc : ((i : Nat) : Int) < ((cap : Nat) : Int) := by omega); have HSZ : Hid ((Pf.mk ka (.mk kk kn kkf) kl kr kks).size < m) := Nat.lt_of_le_of_lt (pfsizes_get hki) HM.out; have HGK : Hid (GoodS (.mk ka (.mk kk kn kkf) kl kr kks)) := HHK.out i _ hki; have HRK : Hid (PRp (· < A) wr (.mk ka (.mk kk kn kkf) kl kr kks) _) := hrep2
        obtain ⟨k6, n6, kf6, L6, R6, K6, h6⟩ : ∃ k' n' ks' L R K, Pf.sub nm (.mk kg ng ksg) (.mk ka (.mk kk kn kkf) kl kr kks) = .mk ka (.mk k' n' ks') L R K := by
          rw [Pf.sub]
          cases putF nm (.mk kg ng ksg) (.mk kk kn kkf)
          exact ⟨_, _, _, _, _, _, rfl⟩
        have HT : Hid (Pf.subs nm (.mk kg ng ksg) (ks.take (i + 1)) = Pf.subs nm (.mk kg ng ksg) (ks.take i) ++ [.mk ka (.mk k6 n6 kf6) L6 R6 K6]) := by
          show _ = _; rw [subs_map, subs_map, List.take_add_one, hki, List.map_append]; show _ ++ [Pf.sub _ _ _] = _; rw [h6]
        have H6 : Hid (Pf.sub nm (.mk kg ng ksg) (.mk ka (.mk kk kn kkf) kl kr kks) = .mk ka (.mk k6 n6 kf6) L6 R6 K6) := h6; clear h6
        have HOW : Hid (∀ q, (Value.slice ad2 i cp2).ownBlock = some q → F.heap.size ≤ q ∧ q < wr.heap.size) := fun q e => by
          obtain ⟨cs, ho, -⟩ := HK.out; rw [hti] at ho; exact ho.lt q e
        (have hbF : b < F.heap.size := by have := HA.out; omega); have HBF : Hid (b < F.heap.size) := hbF; clear hki hrs hrs' hrep2 y0 y1 y2 y3 y4 y5 y6 HKS hti hbA hbF; go_wp2_with fail; clear c6; (refine wp_region_one (by kernel_rfl) [tEq (.pointer (some ⟨g, 6, none⟩)), tKF (fun b => b < A ∨ F.heap.size ≤ b) F.heap.size ad2 cp2 i (Pf.subs nm (.mk kg ng ksg) (ks.take i)), tEq (.pointer (some ⟨w.heap.size, 6, none⟩)), tEq (.slice (some ⟨b, off, none⟩) ks.length cap), tEq (.int .i64 (i : Nat)), tEq (.pointer (some ⟨b, off + i * 7, none⟩)), tEq (.agg #[.string ka, .int .i64 kk, .string kn, .slice sf2 kkf.length cf2, .slice al2 kl.length cl2, .slice ar2 kr.length cr2, .slice sl2 kks.length cap2]), tEq (.string nm), tEq (.agg #[.int .i64 kg, .string ng, .slice sg ksg.length cg]), tKid A wr.heap.size 9 (.mk ka (.mk k6 n6 kf6) L6 R6 K6), tNew A wr.heap.size 9 29 (.mk ka (.mk k6 n6 kf6) L6 R6 K6), tMade (fun b => b < A ∨ F.heap.size ≤ b) F.heap.size (i + 1) (Pf.subs nm (.mk kg ng ksg) (ks.take (i + 1))), tEq (.pointer (some ⟨g, 6, none⟩))] ?_ (by kernel_rfl) (by kernel_rfl) 51 rfl (by kernel_rfl) 13 _ rfl rfl (by kernel_rfl) [1, 10] 11 (by decide) (fun w1 _ w2 => w1.grownBy w2 (Value.slice ad2 i cp2).ownBlock) (fun s wx => wr.grownBy wx (Value.slice ad2 i cp2).ownBlock ∧ (s = false → Below wr.heap.size wr wx)) ⟨⟨rfl, rfl, rfl, Nat.le_refl _, fun _ _ _ => rfl⟩, fun _ => Below.refl _ wr⟩ (fun _ w1 w2 h1 h2 => ⟨⟨h2.os.trans h1.1.os, h2.tape.trans h1.1.tape, h2.output.trans h1.1.output, Nat.le_trans h1.1.size h2.size, fun q hq hn => (h2.block q (Nat.lt_of_lt_of_le hq h1.1.size)).trans (h1.1.block q hq hn)⟩, fun e => below_join (h1.2 e) h2⟩) (fun w1 _ w2 h1 h2 => ⟨⟨h2.os.trans h1.1.os, h2.tape.trans h1.1.tape, h2.output.trans h1.1.output, Nat.le_trans h1.1.size h2.size, fun q hq hn => (h2.block q (Nat.lt_of_lt_of_le hq h1.1.size) hn).trans (h1.1.block q hq hn)⟩, fun e => by cases e⟩) [] (by kernel_rfl) ?_ ?_ ?_)
        · intro p hp
          simp only [List.mem_cons, List.not_mem_nil, or_false] at hp
          rcases hp with rfl | rfl | rfl | rfl | rfl | rfl | rfl | rfl | rfl | rfl | rfl | rfl | rfl
          all_goals first | exact tEq_stays _ | exact tKF_stays _ _ _ _ _ _ | exact tKid_stays _ _ _ _ | exact tNew_stays _ _ _ _ _ | exact tMade_stays _ _ _ _
        · refine ⟨fun _ _ _ _ _ _ h _ _ => h, fun h => ?_, fun _ _ _ _ _ _ h _ _ => h, fun _ _ _ _ _ _ h _ _ => h, fun _ _ _ _ _ _ h _ _ => h, fun _ _ _ _ _ _ h _ _ => h, fun _ _ _ _ _ _ h _ _ => h, fun _ _ _ _ _ _ h _ _ => h, fun _ _ _ _ _ _ h _ _ => h, fun _ => tKid_live _ _ _ _ _ fun q e => by have := HOW.out q e; have := HA.out; exact ⟨by omega, by omega⟩, fun h => ?_, fun h => ?_, fun _ _ _ _ _ _ h _ _ => h, trivial⟩
          all_goals exact Bool.noConfusion (((by kernel_rfl : (_ : Bool) = true)).symm.trans h)
        · refine ⟨?_, ?_, ?_, ?_, ?_, ?_, ?_, ?_, ?_, ?_, ?_, ?_, ?_, trivial⟩
          · intro a wx t s hB hs hold hdep K hK
            have t7 : a.tmps[7]? = some (.pointer (some ⟨g, 0, none⟩)) := hold.2.2 7 rfl; clear hold hdep hs hB; go_simp; exact hK.out _ _ rfl (Below.refl _ _)
          · intro a wx t s hB hs hold hdep K hK
            obtain ⟨v37, t37, p37⟩ := hdep 0 rfl _ 37 rfl rfl; have e37 : v37 = (.pointer (some ⟨g, 6, none⟩)) := p37; subst e37; (have hb := hB.2 (hs (by kernel_rfl))); obtain ⟨-, -, -, -, -, -, k6'⟩ := blk7 (below_keep hb HQ0.out); have HX : Hid (KF _ _ wx _ _ _) := HK.out.up hb; clear hold hdep hs hB hb; go_simp; exact hK.out _ _ ⟨rfl, HX.out⟩ (Below.refl _ _)
          · intro a wx t s hB hs hold hdep K hK
            have t3 : a.tmps[3]? = some (.pointer (some ⟨w.heap.size, 0, none⟩)) := hold.2.2 3 rfl; clear hold hdep hs hB; go_simp; exact hK.out _ _ rfl (Below.refl _ _)
          · intro a wx t s hB hs hold hdep K hK
            obtain ⟨v39, t39, p39⟩ := hdep 2 rfl _ 39 rfl rfl; have e39 : v39 = (.pointer (some ⟨w.heap.size, 6, none⟩)) := p39; subst e39; (have kp : ∀ q, q < F.heap.size → wx.heap[q]? = wr.heap[q]? := fun q hq => hB.1.block q (by omega) fun e => by have := HOW.out q e.symm; omega); (obtain ⟨-, -, -, -, -, -, k6'⟩ := blk7 ((kp _ (by omega)).trans Q1.out)); clear kp; clear hold hdep hs hB; go_simp; exact hK.out _ _ rfl (Below.refl _ _)
          · intro a wx t s hB hs hold hdep K hK
            have t8 : a.tmps[8]? = some (.int .i64 (i : Nat)) := hold.2.2 8 rfl; clear hold hdep hs hB; go_simp; exact hK.out _ _ rfl (Below.refl _ _)
          · intro a wx t s hB hs hold hdep K hK
            obtain ⟨v40, t40, p40⟩ := hdep 3 rfl _ 40 rfl rfl; have e40 : v40 = (.slice (some ⟨b, off, none⟩) ks.length cap) := p40; subst e40; obtain ⟨v41, t41, p41⟩ := hdep 4 rfl _ 41 rfl rfl; have e41 : v41 = (.int .i64 (i : Nat)) := p41; subst e41; clear hold hdep hs hB; go_simp; exact hK.out _ _ rfl (Below.refl _ _)
          · intro a wx t s hB hs hold hdep K hK
            obtain ⟨v42, t42, p42⟩ := hdep 5 rfl _ 42 rfl rfl; have e42 : v42 = (.pointer (some ⟨b, off + i * 7, none⟩)) := p42; subst e42; (have kp : ∀ q, q < F.heap.size → wx.heap[q]? = wr.heap[q]? := fun q hq => hB.1.block q (by omega) fun e => by have := HOW.out q e.symm; omega); obtain ⟨y0, y1, y2, y3, y4, y5, y6⟩ := HY.out; (have c := fun (o : Nat) (u : Value) (h : wr.cell? ⟨b, o, none⟩ = some u) => (cell_of_block (a := ⟨b, o, none⟩) (kp b HBF.out)).trans h); have k0 := c _ _ y0; have k1 := c _ _ y1; have k2 := c _ _ y2; have k3 := c _ _ y3; have k4 := c _ _ y4; have k5' := c _ _ y5; have k6' := c _ _ y6; clear kp c y0 y1 y2 y3 y4 y5 y6; clear hold hdep hs hB; go_simp; exact hK.out _ _ rfl (Below.refl _ _)
          · intro a wx t s hB hs hold hdep K hK
            have t1 : a.tmps[1]? = some (.string nm) := hold.2.2 1 rfl; clear hold hdep hs hB; go_simp; exact hK.out _ _ rfl (Below.refl _ _)
          · intro a wx t s hB hs hold hdep K hK
            have t5 : a.tmps[5]? = some (.pointer (some ⟨w.heap.size + 1, 0, none⟩)) := hold.2.2 5 rfl; (have kp : ∀ q, q < F.heap.size → wx.heap[q]? = wr.heap[q]? := fun q hq => hB.1.block q (by omega) fun e => by have := HOW.out q e.symm; omega); (obtain ⟨k0, k1, k2, -⟩ := blk3 ((kp _ (by omega)).trans Q2.out)); clear kp; clear hold hdep hs hB; go_simp; exact hK.out _ _ rfl (Below.refl _ _)
          · intro a wx t s hB hs hold hdep K hK
            obtain ⟨v43, t43, p43⟩ := hdep 6 rfl _ 43 rfl rfl; have e43 : v43 = (.agg #[.string ka, .int .i64 kk, .string kn, .slice sf2 kkf.length cf2, .slice al2 kl.length cl2, .slice ar2 kr.length cr2, .slice sl2 kks.length cap2]) := p43; subst e43; obtain ⟨v44, t44, p44⟩ := hdep 7 rfl _ 44 rfl rfl; have e44 : v44 = (.string nm) := p44; subst e44; obtain ⟨v45, t45, p45⟩ := hdep 8 rfl _ 45 rfl rfl; have e45 : v45 = (.agg #[.int .i64 kg, .string ng, .slice sg ksg.length cg]) := p45; subst e45; (have kp : ∀ q, q < F.heap.size → wx.heap[q]? = wr.heap[q]? := fun q hq => hB.1.block q (by omega) fun e => by have := HOW.out q e.symm; omega); have hzx := hB.1.size; (have h1 : PRp (· < A) wx (.mk ka (.mk kk kn kkf) kl kr kks) _ := HRK.out.move fun q hq hp => ⟨kp q (by have := HA.out; omega), hp⟩); (have h2 : Rep wx (· < A) (.mk kg ng ksg) _ := (HG.out.low (HBW.out.mono hAw)).move fun q hq hp => ⟨kp q (by have := HA.out; omega), hp⟩); (have hc := HIH.out _ _ _ wx HSZ.out HGK.out (by have := HA.out; omega) h1 h2); rw [H6.out] at hc; clear h2; have HC : Hid (Calls Try.prog 13 _ wx _) := hc; clear hold hdep hs hB kp h1 hc; go_simp; refine HC.out.mono ?_; rintro e w1 ⟨x, rfl, hx, hb⟩; (exact hK.out _ _ (PRp.move hx fun q _ hp => ⟨rfl, hp.imp id fun h => ⟨by omega, by simp [mark, Nat.not_lt.2 h]⟩⟩) hb)
          · intro a wx t s hB hs hold hdep K hK
            obtain ⟨vk, tk, pk⟩ := hdep 9 rfl _ 46 rfl rfl; have pk' : PRp (tP A wr.heap.size t [9]) wx _ vk := pk; obtain ⟨sf3, cf3, al3, cl3, ar3, cr3, sl3, cap3, ek, -⟩ := pk'.parts; subst ek; have HP : Hid (PRp _ wx _ _) := pk'; clear hold hdep hs hB pk pk'; go_simp; (exact hK.out _ _ ⟨_, _, _, _, _, _, _, _, rfl, blk_new wx _, PRp.move (P := tP A wr.heap.size t [9]) HP.out fun q hq hp => ⟨Below.heap_alloc _ _ _ hq, hp.up (fun b hb => if_pos hb) hq⟩⟩ (below_more (Below.refl _ wx) _))
          · intro a wx t s hB hs hold hdep K hK
            obtain ⟨vo, tO, eo, cs, hown, hpq⟩ := hdep 1 rfl _ 38 rfl rfl; obtain ⟨vn, tn, g9, y0, y1, y2, y3, y4, y5, y6, en, hg9, hp9⟩ := hdep 10 rfl _ 47 rfl rfl; subst eo en; rw [HTI.out] at hown hpq; have hzx := hB.1.size; (have hq : PQ (fun q => (q < A ∨ F.heap.size ≤ q) ∧ (Value.slice ad2 i cp2).ownBlock ≠ some q) wx [y0, y1, y2, y3, y4, y5, y6] [(.mk ka (.mk k6 n6 kf6) L6 R6 K6)] := ⟨hp9.move fun q _ hp => ⟨rfl, hp.imp id fun h => by omega, fun e => by have := HOW.out q e; have := HA.out; rcases hp with hp | hp <;> omega⟩, trivial⟩); have hone := hq.one; obtain ⟨hi1, hz10, hz11, hz12⟩ := HI1.out; clear hold hdep hs; (refine step_append_lies _ rfl _ _ 27 rfl F.heap.size 29 i1 (.agg #[.string ⟨#[]⟩, .int .i64 0, .string ⟨#[]⟩, .slice none 0 0, .slice none 0 0, .slice none 0 0, .slice none 0 0]) 7 136 Try.underlying27 hi1 hz10 hz11 hz12 rfl (by decide) _ _ _ (eval_slot tO) hown ⟨g9, 0, none⟩ 1 1 [y0, y1, y2, y3, y4, y5, y6] (eval_slot tn) rfl (World.news_of_block hg9) hone (by omega) (by unfold maxLen; omega) (by omega) (by omega) _ rfl ?_); intro g3 cp3 w3 hown3 hgrow hat hlt3; (have hkf := KF.app (P := fun q => q < A ∨ F.heap.size ≤ q) HTI.out (j := 1) rfl hown hpq hq hown3 hgrow hat); rw [← HT.out] at hkf; exact hK.out _ _ ⟨_, _, rfl, hkf⟩ hgrow
          · intro a wx t s hB hs hold hdep K hK
            have t7 : a.tmps[7]? = some (.pointer (some ⟨g, 0, none⟩)) := hold.2.2 7 rfl; clear hold hdep hs hB; go_simp; exact hK.out _ _ rfl (Below.refl _ _)
        · intro a wx t hB hold hgot K hK
          (obtain ⟨vm, tmm, g3, cp3, em, hkf⟩ := hgot 11 _ 48 (by omega) (by kernel_rfl) rfl rfl); (obtain ⟨vp, tpp, pp⟩ := hgot 12 _ 49 (by omega) (by kernel_rfl) rfl rfl); have ep : vp = (.pointer (some ⟨g, 6, none⟩)) := pp; subst em ep; obtain ⟨tm, df⟩ := a; obtain ⟨z0, z1, z2, z3, z4, z5, z6, z7, z8, z9, z10, z11, z12, z13, z14, z15, z16, z17, z18, z19, z20, z21, z22, z23, z24, z25, z26, z27, z28, z29, z30, z31, z32, z33, z34, z35, z36, z37, z38, z39, z40, z41, z42, z43, z44, z45, z46, z47, z48, z49, z50, htm⟩ := frame51 tm hold.1; subst htm; obtain rfl : df = [] := hold.2.1; obtain rfl : z0 = _ := Option.some.inj (hold.2.2 0 rfl); obtain rfl : z1 = _ := Option.some.inj (hold.2.2 1 rfl); obtain rfl : z2 = _ := Option.some.inj (hold.2.2 2 rfl); obtain rfl : z3 = _ := Option.some.inj (hold.2.2 3 rfl); obtain rfl : z4 = _ := Option.some.inj (hold.2.2 4 rfl); obtain rfl : z5 = _ := Option.some.inj (hold.2.2 5 rfl); obtain rfl : z6 = _ := Option.some.inj (hold.2.2 6 rfl); obtain rfl : z7 = _ := Option.some.inj (hold.2.2 7 rfl); obtain rfl : z8 = _ := Option.some.inj (hold.2.2 8 rfl); obtain rfl : z9 = _ := Option.some.inj (hold.2.2 9 rfl); obtain rfl : z10 = _ := Option.some.inj (hold.2.2 10 rfl); obtain rfl : z11 = _ := Option.some.inj (hold.2.2 11 rfl); obtain rfl : z12 = _ := Option.some.inj (hold.2.2 12 rfl); obtain rfl : z13 = _ := Option.some.inj (hold.2.2 13 rfl); obtain rfl : z14 = _ := Option.some.inj (hold.2.2 14 rfl); obtain rfl : z15 = _ := Option.some.inj (hold.2.2 15 rfl); obtain rfl : z16 = _ := Option.some.inj (hold.2.2 16 rfl); obtain rfl : z17 = _ := Option.some.inj (hold.2.2 17 rfl); obtain rfl : z18 = _ := Option.some.inj (hold.2.2 18 rfl); obtain rfl : z19 = _ := Option.some.inj (hold.2.2 19 rfl); obtain rfl : z20 = _ := Option.some.inj (hold.2.2 20 rfl); obtain rfl : z21 = _ := Option.some.inj (hold.2.2 21 rfl); obtain rfl : z22 = _ := Option.some.inj (hold.2.2 22 rfl); obtain rfl : z23 = _ := Option.some.inj (hold.2.2 23 rfl); obtain rfl : z24 = _ := Option.some.inj (hold.2.2 24 rfl); obtain rfl : z25 = _ := Option.some.inj (hold.2.2 25 rfl); obtain rfl : z26 = _ := Option.some.inj (hold.2.2 26 rfl); obtain rfl : z27 = _ := Option.some.inj (hold.2.2 27 rfl); obtain rfl : z28 = _ := Option.some.inj (hold.2.2 28 rfl); obtain rfl : z29 = _ := Option.some.inj (hold.2.2 29 rfl); obtain rfl : z30 = _ := Option.some.inj (hold.2.2 30 rfl); obtain rfl : z31 = _ := Option.some.inj (hold.2.2 31 rfl); obtain rfl : z32 = _ := Option.some.inj (hold.2.2 32 rfl); obtain rfl : z33 = _ := Option.some.inj (hold.2.2 33 rfl); obtain rfl : z34 = _ := Option.some.inj (hold.2.2 34 rfl); obtain rfl : z35 = _ := Option.some.inj (hold.2.2 35 rfl); obtain rfl : z36 = _ := Option.some.inj (hold.2.2 36 rfl); obtain rfl : z50 = _ := Option.some.inj (hold.2.2 50 rfl); obtain rfl : z48 = _ := Option.some.inj tmm; obtain rfl : z49 = _ := Option.some.inj tpp; (have kp : ∀ q, q < F.heap.size → wx.heap[q]? = wr.heap[q]? := fun q hq => hB.1.block q (by omega) fun e => by have := HOW.out q e.symm; omega); have hgx := (kp g zg).trans HQ0.out; have HQX : Hid (wx.heap[g]? = some _) := hgx; have HKX : Hid (KF _ _ wx _ _ _) := hkf; have HKP : Hid (∀ q, q < F.heap.size → wx.heap[q]? = wr.heap[q]?) := kp; have HGW : Hid (wr.grownBy wx _) := hB.1; obtain ⟨j0, j1, j2, j3, j4, j5, j6⟩ := blk7 hgx; obtain ⟨m0, m1, m2, m3, m4, m5, m6⟩ := blk7f hgx; clear hold hgot hkf tmm tpp pp hgx kp hB; go_simp; refine hK.out _ _ ?_; clear hK K j0 j1 j2 j3 j4 j5 j6 m0 m1 m2 m3 m4 m5 m6
          have e1 : (wx.setCell ⟨g, 6, none⟩ (.slice (some ⟨g3, 0, none⟩) (i + 1) cp3)).heap[g]? = some (.cells #[.string a0, .int .i64 k5, .string n5, .slice sf5 kf5.length cf5, .slice ad mm cp, .slice ad1 mm1 cp1, .slice (some ⟨g3, 0, none⟩) (i + 1) cp3] 29 (0, 0)) := by
            simp [World.setCell, Array.getElem?_modify, HQX.out]
          (have e2 : ∀ q, q ≠ g → (wx.setCell ⟨g, 6, none⟩ (.slice (some ⟨g3, 0, none⟩) (i + 1) cp3)).heap[q]? = wx.heap[q]? := fun q hq => Below.heap_setCell _ _ _ _ hq); (have e3 : (wx.setCell ⟨g, 6, none⟩ (.slice (some ⟨g3, 0, none⟩) (i + 1) cp3)).heap.size = wx.heap.size := by simp [World.setCell])
          have e4 : Below W.heap.size W (wx.setCell ⟨g, 6, none⟩ (.slice (some ⟨g3, 0, none⟩) (i + 1) cp3)) := by
            (have hb : Below W.heap.size W wx := ⟨HGW.out.os.trans HBr.out.os, HGW.out.tape.trans HBr.out.tape, HGW.out.output.trans HBr.out.output, Nat.le_trans HBr.out.size HGW.out.size, fun j hj => (HKP.out j (by omega)).trans (HBr.out.block j hj)⟩); exact hb.setCell hgS _
          (have e5 : KF (fun b => b < A ∨ F.heap.size ≤ b) F.heap.size (wx.setCell ⟨g, 6, none⟩ (.slice (some ⟨g3, 0, none⟩) (i + 1) cp3)) (some ⟨g3, 0, none⟩) cp3 (Pf.subs nm (.mk kg ng ksg) (ks.take (i + 1))) := HKX.out.same fun q hq _ => e2 q (by have := HA.out; rcases hq with (hq | hq) | hq <;> omega)); generalize wx.setCell ⟨g, 6, none⟩ (.slice (some ⟨g3, 0, none⟩) (i + 1) cp3) = G at *; have E5 : Hid (KF _ _ G _ _ _) := e5; have E4 : Hid (Below W.heap.size W G) := e4; (have E2 : Hid (∀ q, q < F.heap.size → q ≠ g → G.heap[q]? = F.heap[q]?) := fun q h1 h2 => (e2 q h2).trans ((HKP.out q h1).trans (HFr.out q h1 h2))); (have hzG : F.heap.size ≤ G.heap.size := by have := HGW.out.size; omega); have E1 : Hid (G.heap[g]? = some _) := e1; clear e1 e2 e4 e5; go_wp2_with fail
          go_roundg (ks.length - (i + 1))
          case measure => have := HG2.out; omega
          case rel => exact ⟨i + 1, some ⟨g3, 0, none⟩, cp3, by omega, rfl, by go_num, E4, hzG, E1.out, E2, E5⟩
      · obtain rfl : i = ks.length := by omega
        (have hge : ¬ (ks.length : Int) < (ks.length : Int) := by omega)
        have HKE : Hid (KF (fun b => b < A ∨ F.heap.size ≤ b) F.heap.size wr ad2 cp2 (Pf.subs nm (.mk kg ng ksg) (ks))) := by
          have := HK.out; rw [List.take_length] at this; exact this
        obtain ⟨o0, o1, o2, o3, o4, o5, o6⟩ := blk7 q0; obtain ⟨r0, r1, r2, r3, r4, r5, r6⟩ := blk7 Q3.out; obtain ⟨m0, m1, m2, m3, m4, m5, m6⟩ := blk7f Q3.out; (have hdg : ¬ g = w.heap.size + 1 + 1 := by omega); (have hdg' : ¬ w.heap.size + 1 + 1 = g := by omega); clear HK HKS q0; go_wp2_with fail; have f7 := put7_blk Q3.out (.string a0) (.int .i64 k5) (.string n5) (.slice sf5 kf5.length cf5) (.slice ad mm cp) (.slice ad1 mm1 cp1) (.slice ad2 ks.length cp2); (have b7 := put7_below (b := w.heap.size + 1 + 1) HBW.out (by omega) (.string a0) (.int .i64 k5) (.string n5) (.slice sf5 kf5.length cf5) (.slice ad mm cp) (.slice ad1 mm1 cp1) (.slice ad2 ks.length cp2)); (have o7 : ∀ q, q ≠ w.heap.size + 1 + 1 → (put7 wr (w.heap.size + 1 + 1) (.string a0) (.int .i64 k5) (.string n5) (.slice sf5 kf5.length cf5) (.slice ad mm cp) (.slice ad1 mm1 cp1) (.slice ad2 ks.length cp2)).heap[q]? = wr.heap[q]? := fun q hq => put7_other hq _ _ _ _ _ _ _); unfold put7 at f7 b7 o7; generalize World.setCell _ _ _ = G at f7 b7 o7 ⊢; clear o0 o1 o2 o3 o4 o5 o6 r0 r1 r2 r3 r4 r5 r6 m0 m1 m2 m3 m4 m5 m6 c6; obtain ⟨k0, k1, k2, k3, k4, k5', k6'⟩ := blk7 f7; (refine bodyPost_ret (v := .agg #[.string a0, .int .i64 k5, .string n5, .slice sf5 kf5.length cf5, .slice ad mm cp, .slice ad1 mm1 cp1, .slice ad2 ks.length cp2]) (by simp [results, Try.results13, go_sem, k0, k1, k2, k3, k4, k5', k6']) rfl ⟨_, rfl, ?_, b7⟩); (obtain ⟨h1, h2, h3⟩ := HKE.out.rep (fun b hb => Or.inr hb)); have hAW := HA.out; rw [subs_len] at h1; rw [H5.out, PRp.def]; (refine ⟨_, _, _, _, _, ad2, cp2, by rw [subs_len], ha, HF5.out.move fun q hq hp => ⟨(o7 q (by omega)).trans (HFr.out q hq (by omega)), by omega⟩, HL5.out.move fun q hq hp => ⟨(o7 q (by omega)).trans (HFr.out q hq (by omega)), by omega⟩, HR5.out.move fun q hq hp => ⟨(o7 q (by omega)).trans (HFr.out q hq (by omega)), by omega⟩, by rw [subs_len]; exact h1, h2, fun hne => ?_⟩); obtain ⟨b', off', e, hPb, hps⟩ := h3 hne; (exact ⟨b', off', e, by omega, hps.move hPb fun q _ hp => ⟨o7 q (by omega), by omega⟩⟩)
theorem instead_all (nm : ByteArray) (f : Fm) (A : Nat) : ∀ m, InP nm f A m
  | 0 => fun _ _ _ _ h => absurd h (Nat.not_lt_zero _)
  | m + 1 => instead_step nm f A m (instead_all nm f A m)
end Go.Proofs.Ytlmjnglcdgkomac
/- Walks: CalculusSubstitutes. -/
namespace Go.Proofs.Ytlmjnglcdgkomac
open Go.RowKit

theorem prp_parts {P : Nat → Prop} {w : World} {a n : ByteArray} {k : Int} {kf l r : List Fm} {ks : List Pf} {sf al ar sl : Option Addr} {cf cl cr cap : Nat} (h : PRp P w (.mk a (.mk k n kf) l r ks) (.agg #[.string a, .int .i64 k, .string n, .slice sf kf.length cf, .slice al l.length cl, .slice ar r.length cr, .slice sl ks.length cap])) : Rep w (fun _ => True) (.mk k n kf) (.agg #[.int .i64 k, .string n, .slice sf kf.length cf]) ∧ FLp P w (.slice al l.length cl) l ∧ FLp P w (.slice ar r.length cr) r := by
  obtain ⟨sf', cf', al', cl', ar', cr', sl', cap', hv, -, hf, hl, hr, -⟩ := h.parts; simp only [Value.agg.injEq, Array.mk.injEq, List.cons.injEq, Value.slice.injEq, and_true, true_and] at hv; obtain ⟨⟨rfl, rfl⟩, ⟨rfl, rfl⟩, ⟨rfl, rfl⟩, rfl, rfl⟩ := hv; exact ⟨hf.all, hl, hr⟩

set_option maxRecDepth 10000 in
set_option maxHeartbeats 8000000 in
theorem psubst_any (i : Bool) (nm : ByteArray) (hnm : nm.size ≤ maxLen) (p : Pf) (f : Fm) (v u : Value) (w : World) (hv : PRep w p v) (hu : Rep w (fun _ => True) f u) :
    Calls Try.prog 4 #[v, .bool i, .string nm, u] w fun e w' => e = .returned (.bool true) ∧ Below w.heap.size w w' := by
  obtain ⟨a, ⟨k, n, kf⟩, l, r, ks⟩ := p; obtain ⟨kg, ng, ksg⟩ := f; obtain ⟨P, hP⟩ : ∃ P, P = Pf.mk a (.mk k n kf) l r ks := ⟨_, rfl⟩; (have HV : Hid (PRep w P v) := by rw [hP]; exact hv); have HP : Hid (P = Pf.mk a (.mk k n kf) l r ks) := hP; clear hP; obtain ⟨sf, cf, al, cl, ar, cr, sl, cap, rfl, -⟩ := hv.parts; obtain ⟨sg, cg, rfl⟩ := slice_shape hu; (have HU : Hid (Rep w (fun _ => True) (.mk kg ng ksg) _) := hu); (have hfc := fun a b w => fault_code a b w); (have hpf := fun v (w : World) h => plainR_any [.mk kg ng ksg] (by simp) v w h)
  have hpz : (pfirst [Fm.mk kg ng ksg]).1 = 0 → (Fm.mk kg ng ksg).pcode.1 = 0 := by
    rw [pfirst]
    split
    · rename_i h; exact fun _ => h
    · exact id
  have HPZ : Hid ((pfirst [Fm.mk kg ng ksg]).1 = 0 → (Fm.mk kg ng ksg).pcode.1 = 0) := hpz; (have HPF : Hid (∀ v w, FL w v [.mk kg ng ksg] → Calls Try.prog 8 #[v] w fun e w' => e = .returned (.agg #[.int .i64 (pfirst [Fm.mk kg ng ksg]).1, .int .i64 (pfirst [Fm.mk kg ng ksg]).2]) ∧ Below w.heap.size w w') := hpf); (have HCh : Hid (∀ v w, SmallP P → PRep w P v → Calls Try.prog 9 #[v, .bool i] w fun e w' => e = .returned (.agg #[.int .i64 (look i P 1 0 0).1.1, .int .i64 (if (look i P 1 0 0).1.1 ≠ 0 then (look i P 1 0 0).1.2 else 0)]) ∧ Below w.heap.size w w') := fun v w hs h => pcheck_any i _ hs v w h); (have HVa : Hid (∀ v w, PRep w P v → Calls Try.prog 6 #[v, .int .i64 0] w fun e w' => IsVP P e ∧ Below w.heap.size w w') := fun v w h => pvast_any _ v w h); (have HVf : Hid (∀ v w, Rep w (fun _ => True) (.mk kg ng ksg) v → Calls Try.prog 7 #[v, .int .i64 0] w fun e w' => IsV (.mk kg ng ksg) e ∧ Below w.heap.size w w') := fun v w h => vast2_any _ v w h)
  have HSo : Hid ((look i P 1 0 0).1.1 = 0 → SmallP P → (GoodS P ∧ SmallP (P.sub nm (.mk kg ng ksg))) ∧ (P.size ≤ 20000 ∧ 1 + P.deep ≤ 401) ∧ ((∀ x ∈ (P.sub nm (.mk kg ng ksg)).nodes, StepOkS x) → (look i (P.sub nm (.mk kg ng ksg)) 1 0 0).1.1 = 0)) := fun h1 h3 => by
    have h4 := look_goodS i P 1 0 0 h1 h3; have h5 := look_size i P 1 0 0 h1; (have h6 := look_le i P 1 0 0 (by omega) (by omega)); (refine ⟨⟨h4.1, h4.2 _ _⟩, ⟨by omega, h5.2⟩, fun h => ?_⟩); rw [look_sub i nm _ P 1 0 0 h1 (sub_fits nm _ P h)]; exact h1
  (have HNm : Hid (∀ w, Calls Try.prog 12 #[.string nm] w fun e w' => e = .returned (.bool (isNm nm.data.toList)) ∧ w' = w) := fun w => refName_any nm hnm w); generalize isNm nm.data.toList = bnm at HNm; (generalize (if (look i P 1 0 0).1.1 ≠ 0 then (look i P 1 0 0).1.2 else 0) = la at *); generalize (look i P 1 0 0).1.1 = lc at *; generalize (pfirst [Fm.mk kg ng ksg]).1 = pc at *; generalize (pfirst [Fm.mk kg ng ksg]).2 = pd at *; obtain ⟨O, hO⟩ : ∃ O, O = Obj.cells #[.string a, .int .i64 k, .string n, .slice sf kf.length cf, .slice al l.length cl, .slice ar r.length cr, .slice sl ks.length cap] 29 (0, 0) := ⟨_, rfl⟩; obtain ⟨O2, hO2⟩ : ∃ O, O = Obj.cells #[.int .i64 kg, .string ng, .slice sg ksg.length cg] 24 (0, 0) := ⟨_, rfl⟩; have B0 := below_more (below_more (Below.refl _ w) O) O2; (have P0 : Hid (((w.alloc O).alloc O2).heap[w.heap.size]? = some (.cells #[.string a, .int .i64 k, .string n, .slice sf kf.length cf, .slice al l.length cl, .slice ar r.length cr, .slice sl ks.length cap] 29 (0, 0))) := by rw [← hO]; exact alloc_keep (blk_new w O) _); (have R0 : Hid (((w.alloc O).alloc O2).heap[w.heap.size + 1]? = some (.cells #[.int .i64 kg, .string ng, .slice sg ksg.length cg] 24 (0, 0))) := by rw [← hO2]; exact blk_two w O O2); clear hv hu hpf hpz
  go_enter Try.func4, Try.ntmps4
  go_wp2_with fail; rw [← hO, ← hO2]; refine (calculusBegun_any _).mono ?_; rintro e w1 ⟨rfl, hb1⟩; have B1 := below_join B0 hb1; have P1 : Hid (w1.heap[w.heap.size]? = some _) := below_keep hb1 P0.out; have R1 : Hid (w1.heap[w.heap.size + 1]? = some _) := below_keep hb1 R0.out; obtain ⟨j0, j1, j2, j3, j4, j5, j6⟩ := blk7 P1.out; clear hO hO2 hb1 P0 R0 B0; go_wp2_with fail; refine (HVa.out _ _ (PRep.up B1 _ _ HV.out)).mono ?_; rintro e w2 ⟨⟨b1, rfl, hsm⟩, hb2⟩; have B2 := below_join B1 hb2; have P2 : Hid (w2.heap[w.heap.size]? = some _) := below_keep hb2 P1.out; have R2 : Hid (w2.heap[w.heap.size + 1]? = some _) := below_keep hb2 R1.out; have HSm : Hid (b1 = false → SmallP P) := hsm; clear j0 j1 j2 j3 j4 j5 j6 hb2 hsm P1 R1 B1
  cases b1
  case true =>
    go_wp2_with fail; go_ret; exact ⟨rfl, B2⟩
  case false =>
    have HSM : Hid (SmallP P) := HSm.out rfl; clear HSm; obtain ⟨m0, m1, m2, -⟩ := blk3 R2.out; go_wp2_with fail; refine (HVf.out _ _ (HU.out.up B2)).mono ?_; rintro e w3 ⟨⟨b2, rfl, hsl⟩, hb3⟩; have B3 := below_join B2 hb3; have P3 : Hid (w3.heap[w.heap.size]? = some _) := below_keep hb3 P2.out; have R3 : Hid (w3.heap[w.heap.size + 1]? = some _) := below_keep hb3 R2.out; clear m0 m1 m2 hb3 hsl P2 R2 B2
    cases b2
    case true =>
      go_wp2_with fail; go_ret; exact ⟨rfl, B3⟩
    case false =>
      obtain ⟨m0, m1, m2, -⟩ := blk3 R3.out; go_wp2_with fail; refine (HPF.out _ _ (FL.sing (blk_new w3 _) ((HU.out.up B3).more _))).mono ?_; rintro e w4 ⟨rfl, hb4⟩; have B4 := below_join (below_more B3 _) hb4; have P4 : Hid (w4.heap[w.heap.size]? = some _) := below_keep hb4 (alloc_keep P3.out _); have R4 : Hid (w4.heap[w.heap.size + 1]? = some _) := below_keep hb4 (alloc_keep R3.out _); clear m0 m1 m2 hb4 P3 R3 B3; by_cases hpc : pc = 0
      · subst hpc
        go_wp2_with fail; refine (HNm.out _).mono ?_; rintro e w4' ⟨rfl, hw4⟩; subst hw4
        cases bnm
        case false =>
          go_wp2_with fail; go_ret; exact ⟨rfl, B4⟩
        obtain ⟨j0, j1, j2, j3, j4, j5, j6⟩ := blk7 P4.out; go_wp2_with fail; refine (HCh.out _ _ HSM.out (PRep.up B4 _ _ HV.out)).mono ?_; rintro e w5 ⟨rfl, hb5⟩; have B5 := below_join B4 hb5; have P5 : Hid (w5.heap[w.heap.size]? = some _) := below_keep hb5 P4.out; have R5 : Hid (w5.heap[w.heap.size + 1]? = some _) := below_keep hb5 R4.out; clear j0 j1 j2 j3 j4 j5 j6 hb5 P4 R4 B4 HCh; by_cases hlc : lc = 0
        · subst hlc
          obtain ⟨⟨hgood, hsmq⟩, ⟨hsize, hdeep⟩, hlook⟩ := HSo.out rfl HSM.out; have HGO : Hid (GoodS P) := hgood; have HSQ : Hid (SmallP (P.sub nm (.mk kg ng ksg))) := hsmq; have HSZ : Hid (P.size ≤ 20000) := hsize; have HDP : Hid (1 + P.deep ≤ 401) := hdeep; have HLK : Hid ((∀ x ∈ (P.sub nm (.mk kg ng ksg)).nodes, StepOkS x) → (look i (P.sub nm (.mk kg ng ksg)) 1 0 0).1.1 = 0) := hlook; clear HSo hgood hsmq hsize hdeep hlook HSM; obtain ⟨j0, j1, j2, j3, j4, j5, j6⟩ := blk7 P5.out; obtain ⟨m0, m1, m2, -⟩ := blk3 R5.out; go_wp2_with fail; (have HEV : Hid (∀ wx, Below w.heap.size w wx → Calls Try.prog 13 #[.agg #[.string a, .int .i64 k, .string n, .slice sf kf.length cf, .slice al l.length cl, .slice ar r.length cr, .slice sl ks.length cap], .string nm, .agg #[.int .i64 kg, .string ng, .slice sg ksg.length cg]] wx fun e w' => ∃ x, e = .returned x ∧ PRp (fun b => b < w.heap.size ∨ wx.heap.size ≤ b) w' (P.sub nm (.mk kg ng ksg)) x ∧ Below wx.heap.size wx w') := fun wx hb => instead_all nm (.mk kg ng ksg) w.heap.size (P.size + 1) P _ _ wx (Nat.lt_succ_self _) HGO.out hb.size (PRp.move (PRep.low _ _ HV.out) fun b hb1 hp => ⟨hb.block b hb1, hp⟩) (HU.out.move fun b hb1 _ => ⟨hb.block b hb1, hb1⟩)); refine (HEV.out _ B5).mono ?_; rintro e w6 ⟨x, rfl, hx, hb6⟩
          obtain ⟨k5, n5, kf5, h5⟩ : ∃ k' n' ks', putF nm (.mk kg ng ksg) (.mk k n kf) = .mk k' n' ks' := by
            cases putF nm (.mk kg ng ksg) (.mk k n kf)
            exact ⟨_, _, _, rfl⟩
          (have hevq : P.sub nm (.mk kg ng ksg) = Pf.mk a (.mk k5 n5 kf5) (l.map (putF nm (.mk kg ng ksg))) (r.map (putF nm (.mk kg ng ksg))) (Pf.subs nm (.mk kg ng ksg) ks) := by rw [HP.out, Pf.sub, h5]); have HX : Hid (PRep w6 (P.sub nm (.mk kg ng ksg)) x) := PRp.rep _ _ hx; rw [hevq] at hx; obtain ⟨sf6, cf6, al6, cl6, ar6, cr6, sl6, cap6, rfl, -⟩ := hx.parts
          have HX6 : Hid (PRep w6 (P.sub nm (.mk kg ng ksg)) (.agg #[.string a, .int .i64 k5, .string n5, .slice sf6 kf5.length cf6, .slice al6 l.length cl6, .slice ar6 r.length cr6, .slice sl6 (Pf.subs nm (.mk kg ng ksg) ks).length cap6])) := by
            have h9 := HX.out; rw [List.length_map, List.length_map] at h9; exact h9
          clear HX; have B6 := below_join B5 hb6
          have HST : Hid (∀ v wx, PRep wx (P.sub nm (.mk kg ng ksg)) v → Calls Try.prog 11 #[v, .int .i64 1, .int .i64 20001] wx fun e w' => ∃ ad cp ad' cp', e = .returned (.tuple #[.slice ad (P.sub nm (.mk kg ng ksg)).nodes.length cp, .slice ad' (P.sub nm (.mk kg ng ksg)).nodes.length cp']) ∧ ((P.sub nm (.mk kg ng ksg)).nodes.length ≤ cp ∧ cp ≤ maxLen ∧ ((P.sub nm (.mk kg ng ksg)).nodes ≠ [] → ∃ b off, ad = some ⟨b, off, none⟩ ∧ True ∧ PRps (fun _ => True) w' b off (P.sub nm (.mk kg ng ksg)).nodes)) ∧ Below wx.heap.size wx w') := fun v wx h => by
            (have hc := steps_all wx.heap.size ((P.sub nm (.mk kg ng ksg)).size + 1) _ v wx 1 20001 (Nat.lt_succ_self _) (by rw [sub_deep]; have := HDP.out; omega) (by rw [sub_size]; have := HSZ.out; omega) (by omega) (Nat.le_refl _) (PRep.low _ _ h)); refine Calls.mono hc ?_; rintro e w' ⟨ad, cp, ad', cp', rfl, hkf, -, hb⟩
            have hkf' : KF (fun _ => True) wx.heap.size w' ad cp (P.sub nm (.mk kg ng ksg)).nodes := by
              obtain ⟨cs, ho, hp⟩ := hkf; (exact ⟨cs, ho, PQ.move (fun b _ h => ⟨rfl, trivial, h.2⟩) hp⟩)
            (exact ⟨ad, cp, ad', cp', rfl, hkf'.rep fun _ _ => trivial, hb⟩)
          have hns := nodes_small _ HSQ.out; (have hn20 : (P.sub nm (.mk kg ng ksg)).nodes.length ≤ 20000 := by rw [nodes_size, sub_size]; exact HSZ.out)
          have HCQ : Hid ((∀ x ∈ (P.sub nm (.mk kg ng ksg)).nodes, StepOkS x) → ∀ v wx, PRep wx (P.sub nm (.mk kg ng ksg)) v → Calls Try.prog 9 #[v, .bool i] wx fun e w' => e = .returned (.agg #[.int .i64 0, .int .i64 0]) ∧ Below wx.heap.size wx w') := fun hall v wx h => by
            have h0 := HLK.out hall; refine (pcheck_any i _ HSQ.out v wx h).mono ?_; rintro e w' ⟨rfl, hb⟩; refine ⟨?_, hb⟩; rw [h0]; rfl
          have HNS : Hid (∀ x ∈ (P.sub nm (.mk kg ng ksg)).nodes, x.l.length ≤ 300 ∧ x.r.length ≤ 300) := hns; generalize (P.sub nm (.mk kg ng ksg)).nodes = NS at *; (have hnI : (NS.length : Int) ≤ 20000 := by omega); clear hx hb6 hevq h5 hns j0 j1 j2 j3 j4 j5 j6 m0 m1 m2 HLK HSQ HSZ HDP HGO HEV; go_wp2_with fail; refine (HST.out _ _ (PRep.up (below_more (Below.refl _ w6) _) _ _ HX6.out)).mono ?_; rintro e w7 ⟨ad, cp, ad', cp', rfl, ⟨hc1, hc2, hc3⟩, hb7⟩; have B7 := below_join (below_more B6 _) hb7; have Q7 : Hid (w7.heap[w6.heap.size]? = some _) := below_keep hb7 (blk_new w6 _); have HX7 : Hid (PRep w7 (P.sub nm (.mk kg ng ksg)) _) := PRep.up (below_join (below_more (Below.refl _ w6) _) hb7) _ _ HX6.out; (have HC3 : Hid (NS ≠ [] → ∃ b off, ad = some ⟨b, off, none⟩ ∧ True ∧ PRps (fun _ => True) w7 b off NS) := hc3); clear hc3 hb7 HST HX6 B6; go_wp2_with fail
          go_loopg [12] NS.length (fun gg c wr => ∃ j, j ≤ NS.length ∧ gg = NS.length - j ∧ c = .int .i64 (j : Nat) ∧ Hid (Below w7.heap.size w7 wr) ∧ Hid (∀ x ∈ NS.take j, StepOkS x))
          case atStart => exact ⟨0, by omega, by omega, rfl, Below.refl _ _, fun x hx => by simp at hx⟩
          case round =>
            obtain ⟨j, hj, hg, rfl, HBr, HAL⟩ := hrel; have HG : Hid (gk = NS.length - j) := hg; clear hg; by_cases hlt : j < NS.length
            · obtain ⟨⟨ka, ⟨kk, kn, kkf⟩, kl, kr, kks⟩, hki⟩ : ∃ f, NS[j]? = some f := ⟨_, List.getElem?_eq_getElem hlt⟩
              (have hltI : (j : Int) < (NS.length : Int) := by omega); (obtain ⟨b, off, hsl, -, hrs⟩ := HC3.out (fun e => by rw [e] at hlt; simp at hlt)); subst hsl; (have hrs' : PRps (fun _ => True) wr b off NS := hrs.move trivial fun q hq hp => ⟨HBr.out.block q hq, hp⟩); obtain ⟨sf2, cf2, al2, cl2, ar2, cr2, sl2, cap2, y0, y1, y2, y3, y4, y5, y6, hrep2⟩ := hrs'.at j ka kk kn kkf kl kr kks hki; (have hlc : ((j : Nat) : Int) < ((cp : Nat) : Int) := by omega); obtain ⟨hl3, hr3⟩ := HNS.out _ (List.mem_of_getElem? hki); (have hl3I : (kl.length : Int) ≤ 300 := by have : kl.length ≤ 300 := hl3; omega); (have hr3I : (kr.length : Int) ≤ 300 := by have : kr.length ≤ 300 := hr3; omega)
              have HT : Hid (NS.take (j + 1) = NS.take j ++ [.mk ka (.mk kk kn kkf) kl kr kks]) := by
                show _ = _; rw [List.take_add_one, hki]; rfl
              have BR := below_join B7 HBr.out; obtain ⟨hrF, hrL, hrR⟩ := prp_parts hrep2; (have HRF : Hid (Rep wr (fun _ => True) (.mk kk kn kkf) (.agg #[.int .i64 kk, .string kn, .slice sf2 kkf.length cf2])) := hrF); (have HSQ2 : Hid (Calls Try.prog 14 #[.agg #[.slice al2 kl.length cl2, .slice ar2 kr.length cr2]] wr _) := seqFault_any kl kr (by omega) (by omega) _ _ wr hrL.list hrR.list); (have HPL : Hid (∀ v w, FL w v [.mk kk kn kkf] → Calls Try.prog 8 #[v] w _) := fun v (w : World) h => plainR_any [.mk kk kn kkf] (by simp) v w h)
              have HOKS : Hid ((seqCode kl kr).1 = 0 → (ka.data.toList ≠ weakT → (pfirst [Fm.mk kk kn kkf]).1 = 0) → StepOkS (.mk ka (.mk kk kn kkf) kl kr kks)) := fun h1 h2 => ⟨h1, fun h3 => by
                have h4 := h2 h3; rw [pfirst_one] at h4
                split at h4
                · rename_i h; exact h
                · exact h4⟩
              have zb := lt_of_cell y0; simp only at zb; generalize seqCode kl kr = sq at HSQ2 HOKS; generalize pfirst [Fm.mk kk kn kkf] = pz at HPL HOKS; obtain ⟨s1, s2⟩ := sq; obtain ⟨p1, p2⟩ := pz; (have hne : (NS.length : Int) ≤ 20000 := by omega); clear hki hrs hrs' hrep2 HC3 hl3 hr3 hrF hrL hrR hl3I hr3I; by_cases hs1 : s1 = 0
              · subst hs1
                have step : StepOkS (.mk ka (.mk kk kn kkf) kl kr kks) → ∀ wz, Below w7.heap.size w7 wz → ∃ j', j' ≤ NS.length ∧ NS.length - (j + 1) = NS.length - j' ∧ Value.int .i64 ((j : Int) + 1) = .int .i64 (j' : Nat) ∧ Hid (Below w7.heap.size w7 wz) ∧ Hid (∀ x ∈ NS.take j', StepOkS x) := fun h wz hz => ⟨j + 1, by omega, rfl, by go_num, hz, fun x hx => by
                  rw [HT.out] at hx
                  rcases List.mem_append.1 hx with hx | hx
                  · exact HAL.out x hx
                  · simp at hx
                    rw [hx]
                    exact h⟩
                have HSTEP : Hid (StepOkS (.mk ka (.mk kk kn kkf) kl kr kks) → ∀ wz, Below w7.heap.size w7 wz → _) := step; clear step; by_cases hwk : ka.data.toList = weakT
                · have hae : ka = ⟨#[119, 101, 97, 107]⟩ := by apply ByteArray.ext; apply Array.ext'; exact hwk
                  (have HOK2 : Hid (StepOkS (.mk ka (.mk kk kn kkf) kl kr kks)) := HOKS.out rfl fun h => absurd hwk h); clear HOKS hwk; subst hae; go_wp2_with fail; refine HSQ2.out.mono ?_; rintro e w9 ⟨rfl, hb9⟩; have B9 := below_join HBr.out hb9; have x0 := (hb9.cell (p := ⟨b, off + j * 7, none⟩) zb).trans y0; clear y0 y1 y2 y3 y4 y5 y6; go_wp2_with fail
                  go_roundg (NS.length - (j + 1))
                  case measure => have := HG.out; omega
                  case rel => exact HSTEP.out HOK2.out _ B9
                · have hwj : (ka.toList == ([119, 101, 97, 107] : List UInt8)) = false := by rw [ByteArray.toList_eq]; simpa [weakT] using hwk
                  by_cases hp1 : p1 = 0
                  · subst hp1
                    (have HOK2 : Hid (StepOkS (.mk ka (.mk kk kn kkf) kl kr kks)) := HOKS.out rfl fun _ => rfl); clear HOKS hwk; go_wp2_with fail; refine HSQ2.out.mono ?_; rintro e w9 ⟨rfl, hb9⟩; have x0 := (hb9.cell (p := ⟨b, off + j * 7, none⟩) zb).trans y0; have x1 := (hb9.cell (p := ⟨b, off + j * 7 + 1, none⟩) zb).trans y1; have x2 := (hb9.cell (p := ⟨b, off + j * 7 + 2, none⟩) zb).trans y2; have x3 := (hb9.cell (p := ⟨b, off + j * 7 + 3, none⟩) zb).trans y3; (have R9 : Hid (Rep w9 (fun _ => True) (.mk kk kn kkf) _) := HRF.out.up hb9); have B9 := below_join HBr.out hb9; clear y0 y1 y2 y3 y4 y5 y6; go_wp2_with fail; refine (HPL.out _ _ (FL.sing (blk_new w9 _) (R9.out.more _))).mono ?_; rintro e w10 ⟨rfl, hb10⟩; have B10 := below_join (below_more B9 _) hb10; clear x0 x1 x2 x3; go_wp2_with fail
                    go_roundg (NS.length - (j + 1))
                    case measure => have := HG.out; omega
                    case rel => exact HSTEP.out HOK2.out _ B10
                  · have hpJ : (p1 != 0) = true := by simpa using hp1
                    clear HOKS hwk HSTEP; go_wp2_with fail; refine HSQ2.out.mono ?_; rintro e w9 ⟨rfl, hb9⟩; have x0 := (hb9.cell (p := ⟨b, off + j * 7, none⟩) zb).trans y0; have x1 := (hb9.cell (p := ⟨b, off + j * 7 + 1, none⟩) zb).trans y1; have x2 := (hb9.cell (p := ⟨b, off + j * 7 + 2, none⟩) zb).trans y2; have x3 := (hb9.cell (p := ⟨b, off + j * 7 + 3, none⟩) zb).trans y3; (have R9 : Hid (Rep w9 (fun _ => True) (.mk kk kn kkf) _) := HRF.out.up hb9); have B9 := below_join BR hb9; clear y0 y1 y2 y3 y4 y5 y6; go_wp2_with fail; refine (HPL.out _ _ (FL.sing (blk_new w9 _) (R9.out.more _))).mono ?_; rintro e w10 ⟨rfl, hb10⟩; have B10 := below_join (below_more B9 _) hb10; clear x0 x1 x2 x3; go_wp2_with fail; go_ret; exact ⟨rfl, B10⟩
              · have hsJ : (s1 != 0) = true := by simpa using hs1
                clear HOKS; go_wp2_with fail; refine HSQ2.out.mono ?_; rintro e w9 ⟨rfl, hb9⟩; have B9 := below_join BR hb9; clear y0 y1 y2 y3 y4 y5 y6; go_wp2_with fail; go_ret; exact ⟨rfl, B9⟩
            · have hge : ¬ (j : Int) < (NS.length : Int) := by omega
              have HC9 : Hid (∀ v wx, PRep wx (P.sub nm (.mk kg ng ksg)) v → Calls Try.prog 9 #[v, .bool i] wx fun e w' => e = .returned (.agg #[.int .i64 0, .int .i64 0]) ∧ Below wx.heap.size wx w') := HCQ.out fun x hx => by
                have := HAL.out; (rw [List.take_of_length_le (by omega)] at this); exact this x hx
              obtain ⟨k0, k1, k2, k3, k4, k5, k6⟩ := blk7 (below_keep HBr.out Q7.out); have BR := below_join B7 HBr.out; clear HAL HC3 HCQ; go_wp2_with fail; refine (HC9.out _ _ (PRep.up HBr.out _ _ HX7.out)).mono ?_; rintro e w8 ⟨rfl, hb8⟩; go_wp2_with fail; go_ret; exact ⟨rfl, below_join BR hb8⟩
        · have hlJ : (lc != 0) = true := by simpa using hlc
          clear HSo; go_wp2_with fail; go_ret; exact ⟨rfl, B5⟩
      · have hpJ : (pc != 0) = true := by simpa using hpc
        clear HSo; go_wp2_with fail; go_ret; exact ⟨rfl, B4⟩
end Go.Proofs.Ytlmjnglcdgkomac
