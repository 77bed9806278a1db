/- Texts of one proof, one behind the other: YM1, YB0, YP0, YV1, KM1, KM2. -/
import Derived.Test.YtalnljnincnbdacGreatB09
import Derived.Test.YtalnljnincnbdacGreatB12
import Derived.Test.YtalnljnincnbdacGreatB10
import Derived.Deep.Upon
import Derived.Test.YtalnljnincnbdacGreatB05
import Derived.Deep.RegionLaw
import Derived.Test.YtalnljnincnbdacGreatB11
import Derived.Test.YtalnljnincnbdacGreatB13
/- The yardstick's premises, against the rules: plain. -/
namespace Go.Proofs.YtalnljnincnbdacGreat

def zeroF : Fm := .mk 0 ⟨#[]⟩ []
def Fm.kA : Fm → Fm
  | .mk _ _ ks => ks.headD zeroF
/-! Steps, as the yardstick lists them. -/
/-- Both go the same way as far as it matters: n steps, or one that is too deep. -/
def Agree (n : Nat) (L M : List (Pf × Nat)) : Prop := L = M ∨ ∃ P X Y, L = P ++ X ∧ M = P ++ Y ∧ (n ≤ P.length ∨ ∃ e ∈ P, 400 < e.2)
theorem Agree.cons {n : Nat} {L M : List (Pf × Nat)} (x : Pf × Nat) (h : Agree n L M) : Agree (n + 1) (x :: L) (x :: M) := by
  rcases h with rfl | ⟨P, X, Y, rfl, rfl, h⟩
  · exact Or.inl rfl
  · refine Or.inr ⟨x :: P, X, Y, rfl, rfl, h.imp (fun h => by simp; omega) fun ⟨e, he, hd⟩ => ⟨e, List.mem_cons_of_mem _ he, hd⟩⟩
theorem Agree.low {n n' : Nat} {L M : List (Pf × Nat)} (h : Agree n L M) (hn : n' ≤ n) : Agree n' L M := by
  rcases h with rfl | ⟨P, X, Y, rfl, rfl, h⟩
  · exact Or.inl rfl
  · exact Or.inr ⟨P, X, Y, rfl, rfl, h.imp (fun h => by omega) id⟩
theorem Agree.append {n : Nat} {L M L' M' : List (Pf × Nat)} (h : Agree n L M) (h' : L = M → Agree (n - L.length) L' M') : Agree n (L ++ L') (M ++ M') := by
  rcases h with rfl | ⟨P, X, Y, rfl, rfl, h⟩
  · rcases h' rfl with rfl | ⟨P, X, Y, rfl, rfl, h⟩
    · exact Or.inl rfl
    · exact Or.inr ⟨L ++ P, X, Y, by simp, by simp, h.imp (fun h => by simp; omega) fun ⟨e, he, hd⟩ => ⟨e, List.mem_append_right _ he, hd⟩⟩
  · exact Or.inr ⟨P, X ++ L', Y ++ M', by simp, by simp, h⟩
end Go.Proofs.YtalnljnincnbdacGreat
/- A list of formulas appended to one that is one's own, whatever it holds. -/
namespace Go.Proofs.YtalnljnincnbdacGreat
open Go.RowKit

theorem AppL.nil {A B : Nat} {w : World} : AppL A B [] none 0 w := ⟨[], ⟨rfl, Or.inl ⟨rfl, rfl⟩⟩, trivial⟩
theorem AppL.cap {A B : Nat} {fs : List Fm} {ad : Option Addr} {cp : Nat} {w : World} (h : AppL A B fs ad cp w) : fs.length ≤ cp := by
  rcases h.shape with ⟨-, rfl, rfl⟩ | ⟨g, -, h⟩
  · exact Nat.le_refl _
  · exact h
theorem AppL.up {A B : Nat} {fs : List Fm} {ad : Option Addr} {cp : Nat} {w w' : World} (h : AppL A B fs ad cp w) (hb : Below w.heap.size w w') : AppL A B fs ad cp w' := by
  obtain ⟨cs, ⟨h1, h2⟩, h3⟩ := h; (refine ⟨cs, ⟨h1, ?_⟩, h3.move fun b hb1 hp => ⟨hb.block b hb1, hp⟩⟩)
  rcases h2 with h2 | ⟨g, cap, cur, hv, hg, hh, r⟩
  · exact Or.inl h2
  · exact Or.inr ⟨g, cap, cur, hv, hg, (hb.block g (lt_of_block hh)).trans hh, r⟩
end Go.Proofs.YtalnljnincnbdacGreat
/- The yardstick's premises: what the rules' walks share. -/
namespace Go.Proofs.YtalnljnincnbdacGreat
open Go.RowKit

theorem dep_eq {o : Option Value} {c : Value} (w : World) (h : ∃ v, o = some v ∧ kEq c v w) : o = some c := by
  obtain ⟨v, h1, h2⟩ := h; have h3 : v = c := h2; rw [h1, h3]
theorem someInj {x y : Value} (h : some x = some y) : x = y := Option.some.inj h
end Go.Proofs.YtalnljnincnbdacGreat
/- Walks: VastProof: what is not vast is neither long nor broad. -/
namespace Go.Proofs.YtalnljnincnbdacGreat
open Go.RowKit

def IsVG (p : Pf) (e : Ending) : Prop := ∃ b, e = .returned (.bool b) ∧ (b = false → GoodS p)
def PVastG (m : Nat) : Prop := ∀ (p : Pf) (d : Nat) (v : Value) (w : World), p.size < m → d ≤ 1201 → PRep w p v → Calls Tryz.prog 18 #[v, .int .i64 (d : Nat)] w fun e w' => IsVG p e ∧ Below w.heap.size w w'

set_option maxRecDepth 10000 in
set_option maxHeartbeats 8000000 in
theorem pvastg_step (m : Nat) (ih : PVastG m) : PVastG (m + 1) := by
  intro p d v w hm hd hv; obtain ⟨a, ⟨k, n, kf⟩, l, r, ks⟩ := p; obtain ⟨sf, cf, al, cl, ar, cr, sl, cap, rfl, ha, hf, hl, hr, hkc, hcm, hks⟩ := hv.parts; (have HF : Hid (Rep w (fun _ => True) (.mk k n kf) _) := hf); obtain ⟨_, _, hve, hl1, hl2, hl3⟩ := hl; simp only [Value.slice.injEq, true_and] at hve; obtain ⟨rfl, rfl⟩ := hve; obtain ⟨_, _, hve, hr1, hr2, hr3⟩ := hr; simp only [Value.slice.injEq, true_and] at hve; obtain ⟨rfl, rfl⟩ := hve; (have HL3 : Hid (l ≠ [] → ∃ b off, al = some ⟨b, off, none⟩ ∧ Reps w (fun _ => True) b off l) := hl3); (have HR3 : Hid (r ≠ [] → ∃ b off, ar = some ⟨b, off, none⟩ ∧ Reps w (fun _ => True) b off r) := hr3); have HKS : Hid (ks ≠ [] → ∃ b off, sl = some ⟨b, off, none⟩ ∧ PReps w b off ks) := hks; (have hlI : (l.length : Int) ≤ 9223372036854775807 := by unfold maxLen at hl2; omega); (have hrI : (r.length : Int) ≤ 9223372036854775807 := by unfold maxLen at hr2; omega); (have hkI : (ks.length : Int) ≤ 9223372036854775807 := by unfold maxLen at hcm; omega); (have hdI : (d : Int) ≤ 1201 := by omega); have HIH : Hid (PVastG m) := ih; (have HM : Hid (Pf.sizes ks < m) := by have : Pf.sizes ks + 1 < m + 1 := hm; show _ < _; omega); obtain ⟨O, hO⟩ : ∃ O, O = Obj.cells #[.string a, .int .i64 k, .string n, .slice sf kf.length cf, .slice al l.length cl, .slice ar r.length cr, .slice sl ks.length cap] 32 (0, 0) := ⟨_, rfl⟩; have B0 := below_more (Below.refl _ w) O; (have hva := fun v (w : World) h => vast2_any (.mk k n kf) v w h); (have HVA : Hid (∀ v w, Rep w (fun _ => True) (.mk k n kf) v → Calls Tryz.prog 22 #[v, .int .i64 0] w _) := hva)
  have HVX : Hid (∀ (f : Fm) v w, Rep w (fun _ => True) f v → Calls Tryz.prog 22 #[v, .int .i64 0] w fun e w' => ∃ b, e = .returned (.bool b) ∧ (b = false → Slim f) ∧ Below w.heap.size w w') := fun f v w h => by
    refine (vast2_any f v w h).mono ?_; rintro e w' ⟨⟨b, rfl, hs⟩, hb⟩; exact ⟨b, rfl, hs, hb⟩
  clear hf hl3 hr3 hks hv ih hm hva hl2 hr2 hcm ha; by_cases h1 : 1200 < d
  · have h1I : (1200 : Int) < (d : Int) := by omega
    subst hO
    go_enter Tryz.func18, Tryz.ntmps18
    go_wp2_with fail; go_ret; (exact ⟨⟨true, rfl, fun h => (by cases h)⟩, B0⟩)
  (have h1I : ¬ (1200 : Int) < (d : Int) := by omega); by_cases h2 : 1200 < ks.length
  · have h2I : (1200 : Int) < (ks.length : Int) := by omega
    subst hO
    go_enter Tryz.func18, Tryz.ntmps18
    go_wp2_with fail; go_ret; (exact ⟨⟨true, rfl, fun h => (by cases h)⟩, B0⟩)
  (have h2I : ¬ (1200 : Int) < (ks.length : Int) := by omega); by_cases h3 : 300 < l.length
  · have h3I : (300 : Int) < (l.length : Int) := by omega
    subst hO
    go_enter Tryz.func18, Tryz.ntmps18
    go_wp2_with fail; go_ret; (exact ⟨⟨true, rfl, fun h => (by cases h)⟩, B0⟩)
  (have h3I : ¬ (300 : Int) < (l.length : Int) := by omega); by_cases h4 : 300 < r.length
  · have h4I : (300 : Int) < (r.length : Int) := by omega
    subst hO
    go_enter Tryz.func18, Tryz.ntmps18
    go_wp2_with fail; go_ret; (exact ⟨⟨true, rfl, fun h => (by cases h)⟩, B0⟩)
  (have h4I : ¬ (300 : Int) < (r.length : Int) := by omega); (have HSM : Hid (Slim (.mk k n kf) → (∀ x ∈ l, Slim x) → (∀ x ∈ r, Slim x) → (∀ k ∈ ks, GoodS k) → GoodS (.mk a (.mk k n kf) l r ks)) := fun h1 h2 h3 h => GoodS.mk a _ l r ks h1 (by omega) (by omega) h2 h3 (by omega) fun i k hk => h k (List.mem_of_getElem? hk)); (have hd2 : d + 1 ≤ 1201 := by omega); have P0 := blk_new w O; (have HP0 : Hid ((w.alloc O).heap[w.heap.size]? = some (.cells #[.string a, .int .i64 k, .string n, .slice sf kf.length cf, .slice al l.length cl, .slice ar r.length cr, .slice sl ks.length cap] 32 (0, 0))) := by rw [← hO]; exact P0); clear P0 h1 h2 h3 h4
  go_enter Tryz.func18, Tryz.ntmps18
  go_wp2_with fail; rw [← hO]; refine (HVX.out _ _ _ (HF.out.up B0)).mono ?_; rintro e w1 ⟨b1, rfl, hs1, hb1⟩; have HSF : Hid (b1 = false → Slim (.mk k n kf)) := hs1; have HB1 : Hid (Below w.heap.size w w1) := below_join B0 hb1; have HQ1 : Hid (w1.heap[w.heap.size]? = some _) := below_keep hb1 HP0.out; clear hb1 hO HP0 hs1
  cases b1
  case true =>
    go_wp2_with fail; go_ret; (exact ⟨⟨true, rfl, fun h => (by cases h)⟩, HB1.out⟩)
  case false =>
    have HSF1 : Hid (Slim (.mk k n kf)) := HSF.out rfl; clear HSF; go_wp2_with fail
    go_loopg [5] l.length (fun g cc wr => ∃ j, j ≤ l.length ∧ g = l.length - j ∧ cc = .int .i64 (j : Nat) ∧ Hid (Below w.heap.size w wr) ∧ Hid (Below w1.heap.size w1 wr) ∧ Hid (∀ x ∈ l.take j, Slim x))
    case atStart => exact ⟨0, by omega, by omega, rfl, HB1, Below.refl _ _, fun x hx => by simp at hx⟩
    case round =>
      obtain ⟨j, hj, hg, rfl, HBr, HBr1, HNx⟩ := hrel; have HG : Hid (gk = l.length - j) := hg; clear hg; obtain ⟨j0, j1, j2, j3, j4, j5, j6⟩ := blk7 (below_keep HBr1.out HQ1.out); by_cases hlt : j < l.length
      · obtain ⟨⟨k2, n2, ks2⟩, hki⟩ : ∃ f, l[j]? = some f := ⟨_, List.getElem?_eq_getElem hlt⟩
        (obtain ⟨b, off, rfl, hrs⟩ := HL3.out (fun e => by rw [e] at hlt; simp at hlt)); obtain ⟨sl2, cap2, g0, g1, g2, hrep2⟩ := (hrs.up HBr.out).at j k2 n2 ks2 hki; (have hltI : (j : Int) < (l.length : Int) := by omega); (have hlc : (j : Int) < (cl : Int) := by omega)
        have HTk : Hid (Slim (.mk k2 n2 ks2) → ∀ x ∈ l.take (j + 1), Slim x) := fun hs x hx => by
          rw [List.take_add_one, hki] at hx
          rcases List.mem_append.1 hx with h | h
          · exact HNx.out x h
          · simp at h; subst h; exact hs
        clear hki hrs HNx; go_wp2_with fail; refine (HVX.out _ _ _ hrep2).mono ?_; rintro e w2 ⟨b2, rfl, hs2, hb2⟩; have HS2 : Hid (b2 = false → Slim (.mk k2 n2 ks2)) := hs2; have HB2 : Hid (Below w.heap.size w w2) := below_join HBr.out hb2; have HB3 : Hid (Below w1.heap.size w1 w2) := below_join HBr1.out hb2; clear hs2 g0 g1 g2 hb2 hrep2 j0 j1 j2 j3 j4 j5 j6
        cases b2
        · have HX' : Hid (∀ x ∈ l.take (j + 1), Slim x) := HTk.out (HS2.out rfl)
          clear HTk HS2; go_wp2_with fail
          go_roundg (l.length - (j + 1))
          case measure => have := HG.out; omega
          case rel => exact ⟨j + 1, by omega, rfl, by go_num, HB2, HB3, HX'⟩
        · clear HTk HS2
          go_wp2_with fail; go_ret; (exact ⟨⟨true, rfl, fun h => (by cases h)⟩, HB2.out⟩)
      · have hge : ¬ (j : Int) < (l.length : Int) := by omega
        have HSl : Hid (∀ x ∈ l, Slim x) := by
          have := HNx.out
          rwa [List.take_of_length_le (by omega)] at this
        clear HNx; go_wp2_with fail; have HBA : Hid (Below w.heap.size w wr) := HBr; obtain ⟨wA, hwA⟩ : ∃ wA, wA = wr := ⟨_, rfl⟩; subst hwA; have HQA : Hid (wA.heap[w.heap.size]? = some _) := below_keep HBr1.out HQ1.out; clear HBr HBr1 j0 j1 j2 j3 j4 j5 j6 hge
        go_loopg [6] r.length (fun g cc wr => ∃ j, j ≤ r.length ∧ g = r.length - j ∧ cc = .int .i64 (j : Nat) ∧ Hid (Below w.heap.size w wr) ∧ Hid (Below wA.heap.size wA wr) ∧ Hid (∀ x ∈ r.take j, Slim x))
        case atStart => exact ⟨0, by omega, by omega, rfl, HBA, Below.refl _ _, fun x hx => by simp at hx⟩
        case round =>
          obtain ⟨j, hj, hg, rfl, HBr, HBr1, HNx⟩ := hrel; have HG : Hid (gk = r.length - j) := hg; clear hg; obtain ⟨j0, j1, j2, j3, j4, j5, j6⟩ := blk7 (below_keep HBr1.out HQA.out); by_cases hlt : j < r.length
          · obtain ⟨⟨k2, n2, ks2⟩, hki⟩ : ∃ f, r[j]? = some f := ⟨_, List.getElem?_eq_getElem hlt⟩
            (obtain ⟨b, off, rfl, hrs⟩ := HR3.out (fun e => by rw [e] at hlt; simp at hlt)); obtain ⟨sl2, cap2, g0, g1, g2, hrep2⟩ := (hrs.up HBr.out).at j k2 n2 ks2 hki; (have hltI : (j : Int) < (r.length : Int) := by omega); (have hlc : (j : Int) < (cr : Int) := by omega)
            have HTk : Hid (Slim (.mk k2 n2 ks2) → ∀ x ∈ r.take (j + 1), Slim x) := fun hs x hx => by
              rw [List.take_add_one, hki] at hx
              rcases List.mem_append.1 hx with h | h
              · exact HNx.out x h
              · simp at h; subst h; exact hs
            clear hki hrs HNx; go_wp2_with fail; refine (HVX.out _ _ _ hrep2).mono ?_; rintro e w2 ⟨b2, rfl, hs2, hb2⟩; have HS2 : Hid (b2 = false → Slim (.mk k2 n2 ks2)) := hs2; have HB2 : Hid (Below w.heap.size w w2) := below_join HBr.out hb2; have HB3 : Hid (Below wA.heap.size wA w2) := below_join HBr1.out hb2; clear hs2 g0 g1 g2 hb2 hrep2 j0 j1 j2 j3 j4 j5 j6
            cases b2
            · have HX' : Hid (∀ x ∈ r.take (j + 1), Slim x) := HTk.out (HS2.out rfl)
              clear HTk HS2; go_wp2_with fail
              go_roundg (r.length - (j + 1))
              case measure => have := HG.out; omega
              case rel => exact ⟨j + 1, by omega, rfl, by go_num, HB2, HB3, HX'⟩
            · clear HTk HS2
              go_wp2_with fail; go_ret; (exact ⟨⟨true, rfl, fun h => (by cases h)⟩, HB2.out⟩)
          · have hge : ¬ (j : Int) < (r.length : Int) := by omega
            have HSr : Hid (∀ x ∈ r, Slim x) := by
              have := HNx.out
              rwa [List.take_of_length_le (by omega)] at this
            clear HNx; go_wp2_with fail; have HBB : Hid (Below w.heap.size w wr) := HBr; obtain ⟨wB, hwB⟩ : ∃ wB, wB = wr := ⟨_, rfl⟩; subst hwB; have HQB : Hid (wB.heap[w.heap.size]? = some _) := below_keep HBr1.out HQA.out; clear HBr HBr1 j0 j1 j2 j3 j4 j5 j6 hge
            go_loopg [7] ks.length (fun g cc wr => ∃ j, j ≤ ks.length ∧ g = ks.length - j ∧ cc = .int .i64 (j : Nat) ∧ Hid (Below w.heap.size w wr) ∧ Hid (Below wB.heap.size wB wr) ∧ Hid (∀ k ∈ ks.take j, GoodS k))
            case atStart => exact ⟨0, by omega, by omega, rfl, HBB, Below.refl _ _, fun k hk => by simp at hk⟩
            case round =>
              obtain ⟨j, hj, hg, rfl, HBr, HBr1, HN⟩ := hrel; have HG : Hid (gk = ks.length - j) := hg; clear hg; obtain ⟨j0, j1, j2, j3, j4, j5, j6⟩ := blk7 (below_keep HBr1.out HQB.out); by_cases hlt : j < ks.length
              · obtain ⟨⟨ka, ⟨kk, kn, kkf⟩, kl, kr, kks⟩, hki⟩ : ∃ f, ks[j]? = some f := ⟨_, List.getElem?_eq_getElem hlt⟩
                (obtain ⟨b, off, rfl, hrs⟩ := HKS.out (fun e => by rw [e] at hlt; simp at hlt)); obtain ⟨sf2, cf2, al2, cl2, ar2, cr2, sl2, cap2, x0, x1, x2, x3, x4, x5, x6, hrep⟩ := (PReps.up HBr.out b off ks hrs).at j ka kk kn kkf kl kr kks hki; (have hltI : (j : Int) < (ks.length : Int) := by omega); (have hlc : (j : Int) < (cap : Int) := by omega); (have hih := fun (v : Value) (wx : World) h => HIH.out (.mk ka (.mk kk kn kkf) kl kr kks) (d + 1) v wx (Nat.lt_of_le_of_lt (pfsizes_get hki) HM.out) hd2 h); have HI : Hid (∀ v wx, PRep wx (.mk ka (.mk kk kn kkf) kl kr kks) v → Calls Tryz.prog 18 #[v, .int .i64 ((d + 1 : Nat) : Int)] wx _) := hih
                have HTk : Hid (GoodS (.mk ka (.mk kk kn kkf) kl kr kks) → ∀ k ∈ ks.take (j + 1), GoodS k) := fun hs k hk => by
                  rw [List.take_add_one, hki] at hk
                  rcases List.mem_append.1 hk with h | h
                  · exact HN.out k h
                  · simp at h; subst h; exact hs
                have HRp : Hid (PRep wr _ _) := hrep; clear hki hrs hih hrep HN; go_wp2_with fail; refine (HI.out _ _ HRp.out).mono ?_; rintro e w2 ⟨⟨b2, rfl, hs2⟩, hb2⟩; have HB2 : Hid (Below w.heap.size w w2) := below_join HBr.out hb2; have HB3 : Hid (Below wB.heap.size wB w2) := below_join HBr1.out hb2; have HS2 : Hid (b2 = false → GoodS _) := hs2; clear x0 x1 x2 x3 x4 x5 x6 hb2 hs2 j0 j1 j2 j3 j4 j5 j6
                cases b2
                · have HX := HTk.out (HS2.out rfl)
                  have HX' : Hid (∀ k ∈ ks.take (j + 1), GoodS k) := HX; clear HX HTk HS2; go_wp2_with fail
                  go_roundg (ks.length - (j + 1))
                  case measure => have := HG.out; omega
                  case rel => exact ⟨j + 1, by omega, rfl, by go_num, HB2, HB3, HX'⟩
                · clear HTk HS2
                  go_wp2_with fail; go_ret; (exact ⟨⟨true, rfl, fun h => (by cases h)⟩, HB2.out⟩)
              · have hge : ¬ (j : Int) < (ks.length : Int) := by omega
                have HX : Hid (GoodS (.mk a (.mk k n kf) l r ks)) := HSM.out HSF1.out HSl.out HSr.out (by
                  have := HN.out
                  rwa [List.take_of_length_le (by omega)] at this)
                clear HN; go_wp2_with fail; go_ret; (exact ⟨⟨false, rfl, fun _ => HX.out⟩, HBr.out⟩)
theorem pvastg_all : ∀ m, PVastG m
  | 0 => fun _ _ _ _ h => absurd h (Nat.not_lt_zero _)
  | m + 1 => pvastg_step m (pvastg_all m)
theorem pvastg_any (p : Pf) (v : Value) (w : World) (hv : PRep w p v) : Calls Tryz.prog 18 #[v, .int .i64 0] w fun e w' => IsVG p e ∧ Below w.heap.size w w' :=
  pvastg_all (p.size + 1) p 0 v w (Nat.lt_succ_self _) (by omega) hv
end Go.Proofs.YtalnljnincnbdacGreat
/- A table of formulas, sequents of numbers, and how a search takes them apart: plain. -/
namespace Go.Proofs.YtalnljnincnbdacGreat

/-- Plain formulas, by their form. -/
inductive Pl : Fm → Prop
  | var (n : ByteArray) (h : isNm n.data.toList = true) : Pl (.mk 1 n [])
  | tru : Pl (.mk 2 ⟨#[]⟩ [])
  | fls : Pl (.mk 3 ⟨#[]⟩ [])
  | not (f : Fm) (h : Pl f) : Pl (.mk 4 ⟨#[]⟩ [f])
  | bin (k : Int) (f g : Fm) (hk : k = 5 ∨ k = 6 ∨ k = 7) (h1 : Pl f) (h2 : Pl g) : Pl (.mk k ⟨#[]⟩ [f, g])
theorem pl_of : ∀ (n : Nat) (f : Fm), f.size < n → Fine f → (∀ g ∈ allN f, isM g.kind = false) → Pl f
  | 0, f, h, _, _ => by omega
  | n + 1, f, h, hf, hm => by
    rcases hf.forms with ⟨m, rfl, hn⟩ | rfl | rfl | ⟨k, g, hk, rfl, hg⟩ | ⟨k, g, g', hk, rfl, hg, hg'⟩
    · exact Pl.var m hn
    · exact Pl.tru
    · exact Pl.fls
    · have h0 := hm (.mk k ⟨#[]⟩ [g]) (by rw [allN]; exact List.mem_cons_self)
      rw [show isM (Fm.mk k ⟨#[]⟩ [g]).kind = (decide (k = 8) || decide (k = 9)) from rfl] at h0
      have hk4 : k = 4 := by
        rcases hk with rfl | rfl | rfl
        · rfl
        · cases h0
        · cases h0
      subst hk4; rw [Fm.size, Fm.sizes, Fm.sizes] at h; (exact Pl.not g (pl_of n g (by omega) hg fun x hx => hm x (by rw [allN, allNs, allNs, List.append_nil]; exact List.mem_cons_of_mem _ hx)))
    · rw [Fm.size, Fm.sizes, Fm.sizes, Fm.sizes] at h
      (exact Pl.bin k g g' hk (pl_of n g (by omega) hg fun x hx => hm x (by rw [allN, allNs, allNs, allNs, List.append_nil]; exact List.mem_cons_of_mem _ (List.mem_append_left _ hx))) (pl_of n g' (by omega) hg' fun x hx => hm x (by rw [allN, allNs, allNs, allNs, List.append_nil]; exact List.mem_cons_of_mem _ (List.mem_append_right _ hx))))
theorem pl_plain {f : Fm} (h : f.pcode.1 = 0) : Pl f := by
  obtain ⟨-, hp, -⟩ := pcode_ok h; exact pl_of (f.size + 1) f (Nat.lt_succ_self _) (pcode_fine h).1 ((mIdx_no _ _).1 hp)

/-- A part: a formula with the numbers of what is in it. -/
structure PartM where
  kind : Int
  name : ByteArray
  kids : List Nat
  deriving DecidableEq
def PartM.fm (fs : List Fm) (p : PartM) : Fm := .mk p.kind p.name (p.kids.map fun j => fs.getD j zeroF)
/-- The parts and the formulas that they are, each once, those in a formula ahead of it. -/
structure TabOk (ps : List PartM) (fs : List Fm) : Prop where
  len : ps.length = fs.length
  nodup : fs.Nodup
  at' : ∀ (n : Nat) (p : PartM), ps[n]? = some p → (∀ j ∈ p.kids, j < n) ∧ fs[n]? = some (p.fm fs)
theorem TabOk.nil : TabOk [] [] := ⟨rfl, List.nodup_nil, fun n p h => by simp at h⟩
theorem getD_lt {fs : List Fm} {j : Nat} (h : j < fs.length) : fs[j]? = some (fs.getD j zeroF) := by
  rw [List.getD_eq_getElem?_getD, List.getElem?_eq_getElem h]; rfl
theorem nodup_inj {fs : List Fm} (h : fs.Nodup) {i j : Nat} (hi : i < fs.length) (hj : j < fs.length) (e : fs.getD i zeroF = fs.getD j zeroF) : i = j := by
  have h1 := getD_lt hi; have h2 := getD_lt hj; rw [e, ← h2] at h1; exact (List.getElem?_inj hi h).1 h1
theorem kids_inj {fs : List Fm} (h : fs.Nodup) : ∀ {a b : List Nat}, (∀ j ∈ a, j < fs.length) → (∀ j ∈ b, j < fs.length) → (a.map fun j => fs.getD j zeroF) = (b.map fun j => fs.getD j zeroF) → a = b
  | [], [], _, _, _ => rfl
  | [], _ :: _, _, _, e => by simp at e
  | _ :: _, [], _, _, e => by simp at e
  | x :: a, y :: b, h1, h2, e => by
    rw [List.map_cons, List.map_cons] at e
    injection e with e1 e2
    (rw [nodup_inj h (h1 x List.mem_cons_self) (h2 y List.mem_cons_self) e1, kids_inj h (fun j hj => h1 j (List.mem_cons_of_mem _ hj)) (fun j hj => h2 j (List.mem_cons_of_mem _ hj)) e2])
/-- A part that is there is the formula's. -/
theorem TabOk.found {ps : List PartM} {fs : List Fm} (h : TabOk ps fs) {p : PartM} {n : Nat} (hn : ps[n]? = some p) : fs[n]? = some (p.fm fs) := (h.at' n p hn).2
/-- One that is not there is new. -/
theorem TabOk.fresh {ps : List PartM} {fs : List Fm} (h : TabOk ps fs) {p : PartM} (hk : ∀ j ∈ p.kids, j < fs.length) (hn : p ∉ ps) : p.fm fs ∉ fs := by
  intro hm; obtain ⟨n, hn'⟩ := List.getElem?_of_mem hm; (have hlt : n < ps.length := by rw [h.len]; exact (List.getElem?_eq_some_iff.1 hn').1); have hp := List.getElem?_eq_getElem hlt; obtain ⟨hq, hf⟩ := h.at' n _ hp; rw [hn'] at hf; have e := Option.some.inj hf; unfold PartM.fm at e
  injection e with e1 e2 e3
  (have e4 := kids_inj h.nodup hk (fun j hj => by have := hq j hj; rw [← h.len]; omega) e3)
  have e5 : p = ps[n] := by
    cases p
    cases hps : ps[n]
    rw [hps] at e1 e2 e4; simp only at e1 e2 e4; rw [e1, e2, e4]
  exact hn (e5 ▸ List.getElem_mem hlt)
theorem fm_grow {fs gs : List Fm} {p : PartM} (hk : ∀ j ∈ p.kids, j < fs.length) : p.fm (fs ++ gs) = p.fm fs := by
  unfold PartM.fm
  congr 1
  (refine List.map_congr_left fun j hj => ?_); rw [List.getD_eq_getElem?_getD, List.getD_eq_getElem?_getD, List.getElem?_append_left (hk j hj)]
theorem TabOk.snoc {ps : List PartM} {fs : List Fm} (h : TabOk ps fs) {p : PartM} (hk : ∀ j ∈ p.kids, j < fs.length) (hn : p ∉ ps) : TabOk (ps ++ [p]) (fs ++ [p.fm fs]) := by
  (refine ⟨by simp [h.len], ?_, fun n q hq => ?_⟩)
  · rw [List.nodup_append]
    (refine ⟨h.nodup, by simp, fun a ha b hb => ?_⟩); simp at hb; subst hb; (exact fun e => h.fresh hk hn (e ▸ ha))
  · rcases Nat.lt_or_ge n ps.length with hlt | hge
    · rw [List.getElem?_append_left hlt] at hq
      obtain ⟨h1, h2⟩ := h.at' n q hq; refine ⟨h1, ?_⟩; (rw [List.getElem?_append_left (by rw [← h.len]; exact hlt), h2, fm_grow fun j hj => by have := h1 j hj; rw [← h.len]; omega])
    · rw [List.getElem?_append_right hge] at hq
      have : n - ps.length = 0 := by
        rcases Nat.eq_zero_or_pos (n - ps.length) with h0 | h0
        · exact h0
        · rw [List.getElem?_eq_none (by simp; omega)] at hq; cases hq
      rw [this] at hq; simp at hq; subst hq; (have hn0 : n = ps.length := by omega); subst hn0; (refine ⟨fun j hj => by rw [h.len]; exact hk j hj, ?_⟩); rw [h.len, List.getElem?_append_right (Nat.le_refl _), Nat.sub_self, fm_grow hk]; rfl

/-! Items: a formula's number at a side: twice it at the left, one more at the right. -/
def itF (fs : List Fm) (i : Nat) : Fm := fs.getD (i / 2) zeroF
def itR (i : Nat) : Bool := i % 2 == 1
/-- Is it so, as its side asks, in a row? -/
def itH (t : List UInt8 → Bool) (fs : List Fm) (i : Nat) : Bool := if itR i then !tv t (itF fs i) else tv t (itF fs i)
def wayL (k : Int) (a b : Nat) : List UInt8 × List (List Nat) :=
  if k = 4 then (Ru.text .notL, [[2 * a + 1]]) else if k = 5 then (Ru.text .andL, [[2 * a, 2 * b]]) else if k = 6 then (Ru.text .orL, [[2 * a], [2 * b]]) else if k = 7 then (Ru.text .thenL, [[2 * a + 1], [2 * b]]) else ([], [])
def wayR (k : Int) (a b : Nat) : List UInt8 × List (List Nat) :=
  if k = 4 then (Ru.text .notR, [[2 * a]]) else if k = 5 then (Ru.text .andR, [[2 * a + 1], [2 * b + 1]]) else if k = 6 then (Ru.text .orR, [[2 * a + 1, 2 * b + 1]]) else if k = 7 then (Ru.text .thenR, [[2 * a, 2 * b + 1]]) else ([], [])
def PartM.k0 (p : PartM) : Nat := p.kids.getD 0 0
def PartM.k1 (p : PartM) : Nat := p.kids.getD 1 0
def wayOf (ps : List PartM) (i : Nat) : List UInt8 × List (List Nat) :=
  match ps[i / 2]? with
  | none => ([], [])
  | some p => if itR i then wayR p.kind p.k0 p.k1 else wayL p.kind p.k0 p.k1
theorem itF_two (fs : List Fm) (n : Nat) : itF fs (2 * n) = fs.getD n zeroF ∧ itF fs (2 * n + 1) = fs.getD n zeroF := by
  unfold itF; (rw [show 2 * n / 2 = n by omega, show (2 * n + 1) / 2 = n by omega]); exact ⟨rfl, rfl⟩
theorem itR_two (n : Nat) : itR (2 * n) = false ∧ itR (2 * n + 1) = true := by
  unfold itR; (rw [show 2 * n % 2 = 0 by omega, show (2 * n + 1) % 2 = 1 by omega]); exact ⟨rfl, rfl⟩
theorem itH_two (t : List UInt8 → Bool) (fs : List Fm) (n : Nat) : itH t fs (2 * n) = tv t (fs.getD n zeroF) ∧ itH t fs (2 * n + 1) = !tv t (fs.getD n zeroF) := by
  unfold itH; rw [(itF_two fs n).1, (itF_two fs n).2, (itR_two n).1, (itR_two n).2]; exact ⟨rfl, rfl⟩
/-- What a part that is plain looks like. -/
theorem part_forms {ps : List PartM} {fs : List Fm} (h : TabOk ps fs) {n : Nat} {p : PartM} (hp : ps[n]? = some p) (hpl : Pl (fs.getD n zeroF)) :
    (p.kind = 1 ∧ p.kids = [] ∧ fs.getD n zeroF = .mk 1 p.name []) ∨ (p.kind = 2 ∧ p.kids = [] ∧ fs.getD n zeroF = .mk 2 ⟨#[]⟩ []) ∨ (p.kind = 3 ∧ p.kids = [] ∧ fs.getD n zeroF = .mk 3 ⟨#[]⟩ []) ∨ (p.kind = 4 ∧ ∃ a, p.kids = [a] ∧ a < n ∧ fs.getD n zeroF = .mk 4 ⟨#[]⟩ [fs.getD a zeroF] ∧ Pl (fs.getD a zeroF)) ∨ ((p.kind = 5 ∨ p.kind = 6 ∨ p.kind = 7) ∧ ∃ a b, p.kids = [a, b] ∧ a < n ∧ b < n ∧ fs.getD n zeroF = .mk p.kind ⟨#[]⟩ [fs.getD a zeroF, fs.getD b zeroF] ∧ Pl (fs.getD a zeroF) ∧ Pl (fs.getD b zeroF)) := by
  obtain ⟨hk, hf⟩ := h.at' n p hp; have hlt : n < fs.length := (List.getElem?_eq_some_iff.1 hf).1; have e : fs.getD n zeroF = p.fm fs := Option.some.inj ((getD_lt hlt).symm.trans hf); rw [e] at hpl ⊢; obtain ⟨pk, pn, pks⟩ := p; unfold PartM.fm at *; simp only at *; (generalize hx : (Fm.mk pk pn (pks.map fun j => fs.getD j zeroF)) = x at hpl)
  cases hpl with
  | var m hm =>
    injection hx with h1 h2 h3
    have : pks = [] := List.map_eq_nil_iff.1 h3; subst h1 h2 this
    exact Or.inl ⟨rfl, rfl, rfl⟩
  | tru =>
    injection hx with h1 h2 h3
    have : pks = [] := List.map_eq_nil_iff.1 h3; subst h1 this
    exact Or.inr (Or.inl ⟨rfl, rfl, rfl⟩)
  | fls =>
    injection hx with h1 h2 h3
    have : pks = [] := List.map_eq_nil_iff.1 h3; subst h1 this
    exact Or.inr (Or.inr (Or.inl ⟨rfl, rfl, rfl⟩))
  | not f hf' =>
    injection hx with h1 h2 h3
    subst h1
    match pks, h3, hk with
    | [a], h3, hk =>
      simp at h3
      exact Or.inr (Or.inr (Or.inr (Or.inl ⟨rfl, a, rfl, hk a (by simp), by simp [h3], by simpa [h3] using hf'⟩)))
    | [], h3, _ => simp at h3
    | _ :: _ :: _, h3, _ => simp at h3
  | bin k' f g hk' hf' hg' =>
    injection hx with h1 h2 h3
    subst h1
    match pks, h3, hk with
    | [a, b], h3, hk =>
      simp at h3
      exact Or.inr (Or.inr (Or.inr (Or.inr ⟨hk', a, b, rfl, hk a (by simp), hk b (by simp), by simp [h3.1, h3.2], by simpa [h3.1] using hf', by simpa [h3.2] using hg'⟩)))
    | [], h3, _ => simp at h3
    | [_], h3, _ => simp at h3
    | _ :: _ :: _ :: _, h3, _ => simp at h3
end Go.Proofs.YtalnljnincnbdacGreat
/- What a search finds: plain. -/
namespace Go.Proofs.YtalnljnincnbdacGreat

theorem it_cases (i : Nat) : i = 2 * (i / 2) ∨ i = 2 * (i / 2) + 1 := by omega
/-- An item is so just if all of one of its premises are. -/
theorem way_holds {ps : List PartM} {fs : List Fm} (h : TabOk ps fs) {i : Nat} {p : PartM} (hp : ps[i / 2]? = some p) (hpl : Pl (fs.getD (i / 2) zeroF)) (t : List UInt8 → Bool) (hne : (wayOf ps i).2 ≠ []) : itH t fs i = true ↔ ∃ pr ∈ (wayOf ps i).2, ∀ j ∈ pr, itH t fs j = true := by
  have hw : wayOf ps i = if itR i then wayR p.kind p.k0 p.k1 else wayL p.kind p.k0 p.k1 := by
    unfold wayOf; rw [hp]
  rw [hw] at hne ⊢; obtain ⟨n, hn⟩ : ∃ n, n = i / 2 := ⟨_, rfl⟩; rw [← hn] at hp hpl; have hi := it_cases i; rw [← hn] at hi
  rcases part_forms h hp hpl with ⟨hk, -, -⟩ | ⟨hk, -, -⟩ | ⟨hk, -, -⟩ | ⟨hk, a, hks, -, hf, -⟩ | ⟨hk, a, b, hks, -, -, hf, -, -⟩
  · exfalso; apply hne; unfold wayL wayR; rw [hk]; simp
  · exfalso; apply hne; unfold wayL wayR; rw [hk]; simp
  · exfalso; apply hne; unfold wayL wayR; rw [hk]; simp
  · have hk0 : p.k0 = a := by unfold PartM.k0; rw [hks]; rfl
    rcases hi with e | e
    · rw [e, (itH_two t fs n).1, (itR_two n).1, hf, tv_not]
      unfold wayL; rw [hk, hk0]; simp [(itH_two t fs a).2]
    · rw [e, (itH_two t fs n).2, (itR_two n).2, hf, tv_not]
      unfold wayR; rw [hk, hk0]; simp [(itH_two t fs a).1]
  · have hk0 : p.k0 = a := by unfold PartM.k0; rw [hks]; rfl
    (have hk1 : p.k1 = b := by unfold PartM.k1; rw [hks]; rfl)
    rcases hi with e | e
    · rw [e, (itH_two t fs n).1, (itR_two n).1, hf]
      unfold wayL; rw [hk0, hk1]
      rcases hk with hk | hk | hk <;> rw [hk]
      · rw [tv_and]; simp [(itH_two t fs a).1, (itH_two t fs b).1]
      · rw [tv_or]; simp [(itH_two t fs a).1, (itH_two t fs b).1]
      · rw [tv_then]; simp [(itH_two t fs a).2, (itH_two t fs b).1]
    · rw [e, (itH_two t fs n).2, (itR_two n).2, hf]
      unfold wayR; rw [hk0, hk1]
      rcases hk with hk | hk | hk <;> rw [hk]
      · rw [tv_and]; simp [(itH_two t fs a).2, (itH_two t fs b).2]
      · rw [tv_or]; simp [(itH_two t fs a).2, (itH_two t fs b).2]
      · rw [tv_then]; simp [(itH_two t fs a).1, (itH_two t fs b).2]
/-- What stands in an item's premises: smaller parts. -/
theorem way_small {ps : List PartM} {fs : List Fm} (h : TabOk ps fs) {i : Nat} {p : PartM} (hp : ps[i / 2]? = some p) (hpl : Pl (fs.getD (i / 2) zeroF)) : ∀ pr ∈ (wayOf ps i).2, ∀ j ∈ pr, j / 2 < i / 2 ∧ Pl (fs.getD (j / 2) zeroF) := by
  have hw : wayOf ps i = if itR i then wayR p.kind p.k0 p.k1 else wayL p.kind p.k0 p.k1 := by
    unfold wayOf; rw [hp]
  rw [hw]; obtain ⟨n, hn⟩ : ∃ n, n = i / 2 := ⟨_, rfl⟩; rw [← hn] at hp hpl ⊢
  rcases part_forms h hp hpl with ⟨hk, -, -⟩ | ⟨hk, -, -⟩ | ⟨hk, -, -⟩ | ⟨hk, a, hks, ha, hf, pa⟩ | ⟨hk, a, b, hks, ha, hb, hf, pa, pb⟩
  · unfold wayL wayR; rw [hk]; simp
  · unfold wayL wayR; rw [hk]; simp
  · unfold wayL wayR; rw [hk]; simp
  · have hk0 : p.k0 = a := by unfold PartM.k0; rw [hks]; rfl
    (have e1 : 2 * a / 2 = a := by omega); (have e2 : (2 * a + 1) / 2 = a := by omega); unfold wayL wayR; rw [hk, hk0]; rw [List.getD_eq_getElem?_getD] at pa
    cases itR i <;> simp [e1, e2, ha, pa]
  · have hk0 : p.k0 = a := by unfold PartM.k0; rw [hks]; rfl
    (have hk1 : p.k1 = b := by unfold PartM.k1; rw [hks]; rfl); (have e1 : 2 * a / 2 = a := by omega); (have e2 : (2 * a + 1) / 2 = a := by omega); (have e3 : 2 * b / 2 = b := by omega); (have e4 : (2 * b + 1) / 2 = b := by omega); unfold wayL wayR; rw [hk0, hk1]; rw [List.getD_eq_getElem?_getD] at pa pb
    rcases hk with hk | hk | hk <;> rw [hk] <;> cases itR i <;> simp [e1, e2, e3, e4, ha, hb, pa, pb]

/-- A branch that is open makes a row. -/
theorem open_row {ps : List PartM} {fs : List Fm} (h : TabOk ps fs) (S : Nat → Prop) (hS : ∀ i, S i → i / 2 < fs.length ∧ Pl (fs.getD (i / 2) zeroF))
    (hw : ∀ i, S i → (wayOf ps i).2 ≠ [] → ∃ pr ∈ (wayOf ps i).2, ∀ j ∈ pr, S j)
    (hc : ∀ i p, S i → ps[i / 2]? = some p → ¬ (p.kind = 2 ∧ itR i = true) ∧ ¬ (p.kind = 3 ∧ itR i = false))
    (ha : ∀ n p, ps[n]? = some p → p.kind = 1 → ¬ (S (2 * n) ∧ S (2 * n + 1))) (t : List UInt8 → Bool)
    (ht : ∀ u, t u = true ↔ ∃ n p, ps[n]? = some p ∧ p.kind = 1 ∧ p.name.data.toList = u ∧ S (2 * n)) : ∀ (m i : Nat), i / 2 < m → S i → itH t fs i = true
  | 0, i, hm, _ => by omega
  | m + 1, i, hm, hi => by
    obtain ⟨hlt, hpl⟩ := hS i hi; (have hp := List.getElem?_eq_getElem (show i / 2 < ps.length by rw [h.len]; exact hlt)); (generalize ps[i / 2]'(by rw [h.len]; exact hlt) = p at hp); by_cases hne : (wayOf ps i).2 = []
    · obtain ⟨n, hn⟩ : ∃ n, n = i / 2 := ⟨_, rfl⟩
      have hcc := hc i p hi hp; have hi2 := it_cases i; rw [← hn] at hp hpl hi2 hlt
      have hwo : wayOf ps i = if itR i then wayR p.kind p.k0 p.k1 else wayL p.kind p.k0 p.k1 := by
        unfold wayOf; rw [← hn, hp]
      rw [hwo] at hne
      rcases part_forms h hp hpl with ⟨hk, -, hf⟩ | ⟨hk, -, hf⟩ | ⟨hk, -, hf⟩ | ⟨hk, -⟩ | ⟨hk, -⟩
      · rcases hi2 with e | e
        · rw [e, (itH_two t fs n).1, hf, tv_name, ht]
          (exact ⟨n, p, hp, hk, rfl, by rw [← e]; exact hi⟩)
        · rw [e, (itH_two t fs n).2, hf, tv_name, Bool.not_eq_true', Bool.eq_false_iff]
          intro h2; obtain ⟨n', p', hp', hk', hu, hs'⟩ := (ht _).1 h2; have hpl' := (hS _ hs').2; (rw [show 2 * n' / 2 = n' by omega] at hpl'); (have hlt' : n' < fs.length := by rw [← h.len]; exact (List.getElem?_eq_some_iff.1 hp').1)
          have hf' : fs.getD n' zeroF = .mk 1 p'.name [] := by
            rcases part_forms h hp' hpl' with ⟨-, -, hf⟩ | ⟨hk2, -⟩ | ⟨hk2, -⟩ | ⟨hk2, -⟩ | ⟨hk2, -⟩
            · exact hf
            all_goals omega
          (have hnn : p'.name = p.name := by apply ByteArray.ext; apply Array.ext'; exact hu); (have en : n' = n := nodup_inj h.nodup hlt' hlt (by rw [hf, hf', hnn])); subst en; (exact ha n' p hp hk ⟨hs', by rw [← e]; exact hi⟩)
      · rcases hi2 with e | e
        · rw [e, (itH_two t fs n).1, hf, tv_true]
        · exact absurd ⟨hk, by rw [e]; exact (itR_two n).2⟩ hcc.1
      · rcases hi2 with e | e
        · exact absurd ⟨hk, by rw [e]; exact (itR_two n).1⟩ hcc.2
        · rw [e, (itH_two t fs n).2, hf, tv_false]; rfl
      · exfalso
        unfold wayL wayR at hne; rw [hk] at hne
        revert hne
        cases itR i <;> simp
      · exfalso
        unfold wayL wayR at hne
        revert hne
        rcases hk with hk | hk | hk <;> rw [hk] <;> cases itR i <;> simp
    · obtain ⟨pr, hpr, hall⟩ := hw i hi hne
      (refine (way_holds h hp hpl t hne).2 ⟨pr, hpr, fun j hj => ?_⟩); have := (way_small h hp hpl pr hpr j hj).1; (exact open_row h S hS hw hc ha t ht m j (by omega) (hall j hj))

/-! Plans: steps of proofs, for whatever has what they need. -/
inductive Plan where
  | mk (rule : ByteArray) (of : Nat) (needs : List Nat) (kids : List Plan) : Plan
def Plan.rule : Plan → ByteArray
  | .mk a _ _ _ => a
def Plan.of : Plan → Nat
  | .mk _ a _ _ => a
def Plan.needs : Plan → List Nat
  | .mk _ _ a _ => a
def Plan.kids : Plan → List Plan
  | .mk _ _ _ a => a
inductive PlanOk (ps : List PartM) : Plan → Prop
  | ax (a : ByteArray) (ha : a.data.toList = Ru.ax.text) (i n : Nat) (hi : i / 2 = n) (hn : n < ps.length) : PlanOk ps (.mk a i [2 * n, 2 * n + 1] [])
  | tr (a : ByteArray) (ha : a.data.toList = Ru.tr.text) (i : Nat) (p : PartM) (hp : ps[i / 2]? = some p) (hk : p.kind = 2) (hr : itR i = true) : PlanOk ps (.mk a i [i] [])
  | fa (a : ByteArray) (ha : a.data.toList = Ru.fa.text) (i : Nat) (p : PartM) (hp : ps[i / 2]? = some p) (hk : p.kind = 3) (hr : itR i = false) : PlanOk ps (.mk a i [i] [])
  | step (a : ByteArray) (i : Nat) (needs : List Nat) (kids : List Plan) (hi : i / 2 < ps.length) (ha : a.data.toList = (wayOf ps i).1) (hin : i ∈ needs) (hne : (wayOf ps i).2 ≠ []) (hlen : kids.length = (wayOf ps i).2.length) (hk : ∀ (j : Nat) (k : Plan), kids[j]? = some k → PlanOk ps k) (hn : ∀ (j : Nat) (k : Plan) (pr : List Nat), kids[j]? = some k → (wayOf ps i).2[j]? = some pr → ∀ x ∈ k.needs, x ∈ pr ∨ x ∈ needs) : PlanOk ps (.mk a i needs kids)
/-- A plan leaves no row. -/
theorem plan_sound {ps : List PartM} {fs : List Fm} (h : TabOk ps fs) (hpl : ∀ n, n < fs.length → Pl (fs.getD n zeroF)) (t : List UInt8 → Bool) {p : Plan} (hp : PlanOk ps p) : ¬ ∀ x ∈ p.needs, itH t fs x = true := by
  induction hp with
  | ax a ha i n hi hn =>
    intro hall; (have h1 := hall (2 * n) (by simp [Plan.needs])); (have h2 := hall (2 * n + 1) (by simp [Plan.needs])); rw [(itH_two t fs n).1] at h1; rw [(itH_two t fs n).2, h1] at h2
    cases h2
  | tr a ha i p hp hk hr =>
    intro hall; (have h1 := hall i (by simp [Plan.needs])); (have hlt : i / 2 < fs.length := by rw [← h.len]; exact (List.getElem?_eq_some_iff.1 hp).1)
    rcases part_forms h hp (hpl _ hlt) with ⟨hk2, -⟩ | ⟨-, -, hf⟩ | ⟨hk2, -⟩ | ⟨hk2, -⟩ | ⟨hk2, -⟩
    · omega
    · unfold itH itF at h1
      rw [hr, hf, tv_true] at h1
      cases h1
    all_goals omega
  | fa a ha i p hp hk hr =>
    intro hall; (have h1 := hall i (by simp [Plan.needs])); (have hlt : i / 2 < fs.length := by rw [← h.len]; exact (List.getElem?_eq_some_iff.1 hp).1)
    rcases part_forms h hp (hpl _ hlt) with ⟨hk2, -⟩ | ⟨hk2, -⟩ | ⟨-, -, hf⟩ | ⟨hk2, -⟩ | ⟨hk2, -⟩
    · omega
    · omega
    · unfold itH itF at h1
      rw [hr, hf, tv_false] at h1
      cases h1
    all_goals omega
  | step a i needs kids hi ha hin hne hlen hk hn ih =>
    intro hall; have hp := List.getElem?_eq_getElem hi; (obtain ⟨pr, hpr, hj⟩ := (way_holds h hp (hpl _ (by rw [← h.len]; exact hi)) t hne).1 (hall i hin)); obtain ⟨j, hj'⟩ := List.getElem?_of_mem hpr; have hjl := (List.getElem?_eq_some_iff.1 hj').1; (have hkj := List.getElem?_eq_getElem (show j < kids.length by rw [hlen]; exact hjl)); (refine ih j _ hkj fun x hx => ?_)
    rcases hn j _ pr hkj hj' x hx with hx | hx
    · exact hj x hx
    · exact hall x hx
end Go.Proofs.YtalnljnincnbdacGreat
