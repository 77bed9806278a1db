/- Texts of one proof, one behind the other: CH1, CH2. -/
import Derived.Test.YtknngeojhiejnabB21
/- Walks: VastProof. -/
namespace Go.Proofs.Ytknngeojhiejnab
open Go.RowKit

theorem SmallP.mk {a : ByteArray} {f : Fm} {l r : List Fm} {ks : List Pf} (h1 : l.length ≤ 300) (h2 : r.length ≤ 300) (h3 : ks.length ≤ 1200) (h4 : ∀ k ∈ ks, SmallP k) : SmallP (.mk a f l r ks) := fun n => by
  cases n with
  | zero => trivial
  | succ n => exact ⟨h1, h2, h3, fun k hk => h4 k hk n⟩

def IsVP (p : Pf) (e : Ending) : Prop := ∃ b, e = .returned (.bool b) ∧ (b = false → SmallP p)
def PVastP (m : Nat) : Prop := ∀ (p : Pf) (d : Nat) (v : Value) (w : World), p.size < m → d ≤ 1201 → PRep w p v → Calls Try.prog 29 #[v, .int .i64 (d : Nat)] w fun e w' => IsVP p e ∧ Below w.heap.size w w'

set_option maxRecDepth 10000 in
set_option maxHeartbeats 8000000 in
theorem pvast_step (m : Nat) (ih : PVastP m) : PVastP (m + 1) := by
  intro p d v w hm hd hv
  obtain ⟨a, ⟨k, n, kf⟩, l, r, ks⟩ := p
  obtain ⟨sf, cf, al, cl, ar, cr, sl, cap, rfl, ha, hf, hl, hr, hkc, hcm, hks⟩ := hv.parts
  have HF : Hid (Rep w (fun _ => True) (.mk k n kf) _) := hf
  obtain ⟨_, _, hve, hl1, hl2, hl3⟩ := hl
  simp only [Value.slice.injEq, true_and] at hve
  obtain ⟨rfl, rfl⟩ := hve
  obtain ⟨_, _, hve, hr1, hr2, hr3⟩ := hr
  simp only [Value.slice.injEq, true_and] at hve
  obtain ⟨rfl, rfl⟩ := hve
  have HL3 : Hid (l ≠ [] → ∃ b off, al = some ⟨b, off, none⟩ ∧ Reps w (fun _ => True) b off l) := hl3
  have HR3 : Hid (r ≠ [] → ∃ b off, ar = some ⟨b, off, none⟩ ∧ Reps w (fun _ => True) b off r) := hr3
  have HKS : Hid (ks ≠ [] → ∃ b off, sl = some ⟨b, off, none⟩ ∧ PReps w b off ks) := hks
  have hlI : (l.length : Int) ≤ 9223372036854775807 := by unfold maxLen at hl2; omega
  have hrI : (r.length : Int) ≤ 9223372036854775807 := by unfold maxLen at hr2; omega
  have hkI : (ks.length : Int) ≤ 9223372036854775807 := by unfold maxLen at hcm; omega
  have hdI : (d : Int) ≤ 1201 := by omega
  have HIH : Hid (PVastP m) := ih
  have HM : Hid (Pf.sizes ks < m) := by have : Pf.sizes ks + 1 < m + 1 := hm; show _ < _; omega
  obtain ⟨O, hO⟩ : ∃ O, O = Obj.cells #[.string a, .int .i64 k, .string n, .slice sf kf.length cf, .slice al l.length cl, .slice ar r.length cr, .slice sl ks.length cap] 62 (0, 0) := ⟨_, rfl⟩
  have B0 := below_more (Below.refl _ w) O
  have hva := fun v (w : World) h => vast2_any (.mk k n kf) v w h
  have HVA : Hid (∀ v w, Rep w (fun _ => True) (.mk k n kf) v → Calls Try.prog 13 #[v, .int .i64 0] w _) := hva
  have HVX : Hid (∀ (f : Fm) v w, Rep w (fun _ => True) f v → Calls Try.prog 13 #[v, .int .i64 0] w fun e w' => ∃ b, e = .returned (.bool b) ∧ Below w.heap.size w w') := fun f v w h => by
    refine (vast2_any f v w h).mono ?_
    rintro e w' ⟨⟨b, rfl, -⟩, hb⟩
    exact ⟨b, rfl, hb⟩
  clear hf hl3 hr3 hks hv ih hm hva hl2 hr2 hcm ha
  by_cases h1 : 1200 < d
  · have h1I : (1200 : Int) < (d : Int) := by omega
    subst hO
    go_enter Try.func29, Try.ntmps29
    go_wp2_with fail
    go_ret
    exact ⟨⟨true, rfl, fun h => (by cases h)⟩, B0⟩
  have h1I : ¬ (1200 : Int) < (d : Int) := by omega
  by_cases h2 : 1200 < ks.length
  · have h2I : (1200 : Int) < (ks.length : Int) := by omega
    subst hO
    go_enter Try.func29, Try.ntmps29
    go_wp2_with fail
    go_ret
    exact ⟨⟨true, rfl, fun h => (by cases h)⟩, B0⟩
  have h2I : ¬ (1200 : Int) < (ks.length : Int) := by omega
  by_cases h3 : 300 < l.length
  · have h3I : (300 : Int) < (l.length : Int) := by omega
    subst hO
    go_enter Try.func29, Try.ntmps29
    go_wp2_with fail
    go_ret
    exact ⟨⟨true, rfl, fun h => (by cases h)⟩, B0⟩
  have h3I : ¬ (300 : Int) < (l.length : Int) := by omega
  by_cases h4 : 300 < r.length
  · have h4I : (300 : Int) < (r.length : Int) := by omega
    subst hO
    go_enter Try.func29, Try.ntmps29
    go_wp2_with fail
    go_ret
    exact ⟨⟨true, rfl, fun h => (by cases h)⟩, B0⟩
  have h4I : ¬ (300 : Int) < (r.length : Int) := by omega
  have HSM : Hid ((∀ k ∈ ks, SmallP k) → SmallP (.mk a (.mk k n kf) l r ks)) := fun h => SmallP.mk (by omega) (by omega) (by omega) h
  have hd2 : d + 1 ≤ 1201 := by omega
  have P0 := blk_new w O
  have HP0 : Hid ((w.alloc O).heap[w.heap.size]? = some (.cells #[.string a, .int .i64 k, .string n, .slice sf kf.length cf, .slice al l.length cl, .slice ar r.length cr, .slice sl ks.length cap] 62 (0, 0))) := by rw [← hO]; exact P0
  clear P0 h1 h2 h3 h4
  go_enter Try.func29, Try.ntmps29
  go_wp2_with fail
  rw [← hO]
  refine (HVX.out _ _ _ (HF.out.up B0)).mono ?_
  rintro e w1 ⟨b1, rfl, hb1⟩
  have HB1 : Hid (Below w.heap.size w w1) := below_join B0 hb1
  have HQ1 : Hid (w1.heap[w.heap.size]? = some _) := below_keep hb1 HP0.out
  clear hb1 hO HP0
  cases b1
  case true =>
    go_wp2_with fail
    go_ret
    exact ⟨⟨true, rfl, fun h => (by cases h)⟩, HB1.out⟩
  case false =>
    go_wp2_with fail
    go_loopg [5] l.length (fun g cc wr => ∃ j, j ≤ l.length ∧ g = l.length - j ∧ cc = .int .i64 (j : Nat) ∧ Hid (Below w.heap.size w wr) ∧ Hid (Below w1.heap.size w1 wr))
    case atStart => exact ⟨0, by omega, by omega, rfl, HB1, Below.refl _ _⟩
    case round =>
      obtain ⟨j, hj, hg, rfl, HBr, HBr1⟩ := hrel
      have HG : Hid (gk = l.length - j) := hg
      clear hg
      obtain ⟨j0, j1, j2, j3, j4, j5, j6⟩ := blk7 (below_keep HBr1.out HQ1.out)
      by_cases hlt : j < l.length
      · obtain ⟨⟨k2, n2, ks2⟩, hki⟩ : ∃ f, l[j]? = some f := ⟨_, List.getElem?_eq_getElem hlt⟩
        obtain ⟨b, off, rfl, hrs⟩ := HL3.out (fun e => by rw [e] at hlt; simp at hlt)
        obtain ⟨sl2, cap2, g0, g1, g2, hrep2⟩ := (hrs.up HBr.out).at j k2 n2 ks2 hki
        have hltI : (j : Int) < (l.length : Int) := by omega
        have hlc : (j : Int) < (cl : Int) := by omega
        clear hki hrs
        go_wp2_with fail
        refine (HVX.out _ _ _ hrep2).mono ?_
        rintro e w2 ⟨b2, rfl, hb2⟩
        have HB2 : Hid (Below w.heap.size w w2) := below_join HBr.out hb2
        have HB3 : Hid (Below w1.heap.size w1 w2) := below_join HBr1.out hb2
        clear g0 g1 g2 hb2 hrep2 j0 j1 j2 j3 j4 j5 j6
        cases b2
        · go_wp2_with fail
          go_roundg (l.length - (j + 1))
          case measure => have := HG.out; omega
          case rel => exact ⟨j + 1, by omega, rfl, by go_num, HB2, HB3⟩
        · go_wp2_with fail
          go_ret
          exact ⟨⟨true, rfl, fun h => (by cases h)⟩, HB2.out⟩
      · have hge : ¬ (j : Int) < (l.length : Int) := by omega
        go_wp2_with fail
        have HBA : Hid (Below w.heap.size w wr) := HBr
        obtain ⟨wA, hwA⟩ : ∃ wA, wA = wr := ⟨_, rfl⟩
        subst hwA
        have HQA : Hid (wA.heap[w.heap.size]? = some _) := below_keep HBr1.out HQ1.out
        clear HBr HBr1 j0 j1 j2 j3 j4 j5 j6 hge
        go_loopg [6] r.length (fun g cc wr => ∃ j, j ≤ r.length ∧ g = r.length - j ∧ cc = .int .i64 (j : Nat) ∧ Hid (Below w.heap.size w wr) ∧ Hid (Below wA.heap.size wA wr))
        case atStart => exact ⟨0, by omega, by omega, rfl, HBA, Below.refl _ _⟩
        case round =>
          obtain ⟨j, hj, hg, rfl, HBr, HBr1⟩ := hrel
          have HG : Hid (gk = r.length - j) := hg
          clear hg
          obtain ⟨j0, j1, j2, j3, j4, j5, j6⟩ := blk7 (below_keep HBr1.out HQA.out)
          by_cases hlt : j < r.length
          · obtain ⟨⟨k2, n2, ks2⟩, hki⟩ : ∃ f, r[j]? = some f := ⟨_, List.getElem?_eq_getElem hlt⟩
            obtain ⟨b, off, rfl, hrs⟩ := HR3.out (fun e => by rw [e] at hlt; simp at hlt)
            obtain ⟨sl2, cap2, g0, g1, g2, hrep2⟩ := (hrs.up HBr.out).at j k2 n2 ks2 hki
            have hltI : (j : Int) < (r.length : Int) := by omega
            have hlc : (j : Int) < (cr : Int) := by omega
            clear hki hrs
            go_wp2_with fail
            refine (HVX.out _ _ _ hrep2).mono ?_
            rintro e w2 ⟨b2, rfl, hb2⟩
            have HB2 : Hid (Below w.heap.size w w2) := below_join HBr.out hb2
            have HB3 : Hid (Below wA.heap.size wA w2) := below_join HBr1.out hb2
            clear g0 g1 g2 hb2 hrep2 j0 j1 j2 j3 j4 j5 j6
            cases b2
            · go_wp2_with fail
              go_roundg (r.length - (j + 1))
              case measure => have := HG.out; omega
              case rel => exact ⟨j + 1, by omega, rfl, by go_num, HB2, HB3⟩
            · go_wp2_with fail
              go_ret
              exact ⟨⟨true, rfl, fun h => (by cases h)⟩, HB2.out⟩
          · have hge : ¬ (j : Int) < (r.length : Int) := by omega
            go_wp2_with fail
            have HBB : Hid (Below w.heap.size w wr) := HBr
            obtain ⟨wB, hwB⟩ : ∃ wB, wB = wr := ⟨_, rfl⟩
            subst hwB
            have HQB : Hid (wB.heap[w.heap.size]? = some _) := below_keep HBr1.out HQA.out
            clear HBr HBr1 j0 j1 j2 j3 j4 j5 j6 hge
            go_loopg [7] ks.length (fun g cc wr => ∃ j, j ≤ ks.length ∧ g = ks.length - j ∧ cc = .int .i64 (j : Nat) ∧ Hid (Below w.heap.size w wr) ∧ Hid (Below wB.heap.size wB wr) ∧ Hid (∀ k ∈ ks.take j, SmallP k))
            case atStart => exact ⟨0, by omega, by omega, rfl, HBB, Below.refl _ _, fun k hk => by simp at hk⟩
            case round =>
              obtain ⟨j, hj, hg, rfl, HBr, HBr1, HN⟩ := hrel
              have HG : Hid (gk = ks.length - j) := hg
              clear hg
              obtain ⟨j0, j1, j2, j3, j4, j5, j6⟩ := blk7 (below_keep HBr1.out HQB.out)
              by_cases hlt : j < ks.length
              · obtain ⟨⟨ka, ⟨kk, kn, kkf⟩, kl, kr, kks⟩, hki⟩ : ∃ f, ks[j]? = some f := ⟨_, List.getElem?_eq_getElem hlt⟩
                obtain ⟨b, off, rfl, hrs⟩ := HKS.out (fun e => by rw [e] at hlt; simp at hlt)
                obtain ⟨sf2, cf2, al2, cl2, ar2, cr2, sl2, cap2, x0, x1, x2, x3, x4, x5, x6, hrep⟩ := (PReps.up HBr.out b off ks hrs).at j ka kk kn kkf kl kr kks hki
                have hltI : (j : Int) < (ks.length : Int) := by omega
                have hlc : (j : Int) < (cap : Int) := by omega
                have hih := fun (v : Value) (wx : World) h => HIH.out (.mk ka (.mk kk kn kkf) kl kr kks) (d + 1) v wx (Nat.lt_of_le_of_lt (pfsizes_get hki) HM.out) hd2 h
                have HI : Hid (∀ v wx, PRep wx (.mk ka (.mk kk kn kkf) kl kr kks) v → Calls Try.prog 29 #[v, .int .i64 ((d + 1 : Nat) : Int)] wx _) := hih
                have HTk : Hid (SmallP (.mk ka (.mk kk kn kkf) kl kr kks) → ∀ k ∈ ks.take (j + 1), SmallP k) := fun hs k hk => by
                  rw [List.take_add_one, hki] at hk
                  rcases List.mem_append.1 hk with h | h
                  · exact HN.out k h
                  · simp at h; subst h; exact hs
                have HRp : Hid (PRep wr _ _) := hrep
                clear hki hrs hih hrep HN
                go_wp2_with fail
                refine (HI.out _ _ HRp.out).mono ?_
                rintro e w2 ⟨⟨b2, rfl, hs2⟩, hb2⟩
                have HB2 : Hid (Below w.heap.size w w2) := below_join HBr.out hb2
                have HB3 : Hid (Below wB.heap.size wB w2) := below_join HBr1.out hb2
                have HS2 : Hid (b2 = false → SmallP _) := hs2
                clear x0 x1 x2 x3 x4 x5 x6 hb2 hs2 j0 j1 j2 j3 j4 j5 j6
                cases b2
                · have HX := HTk.out (HS2.out rfl)
                  have HX' : Hid (∀ k ∈ ks.take (j + 1), SmallP k) := HX
                  clear HX HTk HS2
                  go_wp2_with fail
                  go_roundg (ks.length - (j + 1))
                  case measure => have := HG.out; omega
                  case rel => exact ⟨j + 1, by omega, rfl, by go_num, HB2, HB3, HX'⟩
                · clear HTk HS2
                  go_wp2_with fail
                  go_ret
                  exact ⟨⟨true, rfl, fun h => (by cases h)⟩, HB2.out⟩
              · have hge : ¬ (j : Int) < (ks.length : Int) := by omega
                have HX : Hid (SmallP (.mk a (.mk k n kf) l r ks)) := HSM.out (by
                  have := HN.out
                  rwa [List.take_of_length_le (by omega)] at this)
                clear HN
                go_wp2_with fail
                go_ret
                exact ⟨⟨false, rfl, fun _ => HX.out⟩, HBr.out⟩
theorem pvast_all : ∀ m, PVastP m
  | 0 => fun _ _ _ _ h => absurd h (Nat.not_lt_zero _)
  | m + 1 => pvast_step m (pvast_all m)
theorem pvast_any (p : Pf) (v : Value) (w : World) (hv : PRep w p v) : Calls Try.prog 29 #[v, .int .i64 0] w fun e w' => IsVP p e ∧ Below w.heap.size w w' :=
  pvast_all (p.size + 1) p 0 v w (Nat.lt_succ_self _) (by omega) hv
end Go.Proofs.Ytknngeojhiejnab
/- Walks: As. -/
namespace Go.Proofs.Ytknngeojhiejnab
open Go.RowKit

def allF (l : List Fm) : Fm := l.foldl (fun a f => .mk 5 ⟨#[]⟩ [a, f]) (.mk 2 ⟨#[]⟩ [])
def someF (l : List Fm) : Fm := l.foldl (fun a f => .mk 6 ⟨#[]⟩ [a, f]) (.mk 3 ⟨#[]⟩ [])
def asF (l r : List Fm) : Fm := .mk 7 ⟨#[]⟩ [allF l, someF r]
theorem allF_snoc {l : List Fm} {i : Nat} {f : Fm} (h : l[i]? = some f) : allF (l.take (i + 1)) = .mk 5 ⟨#[]⟩ [allF (l.take i), f] := by
  unfold allF
  rw [List.take_add_one, h]
  simp
theorem someF_snoc {l : List Fm} {i : Nat} {f : Fm} (h : l[i]? = some f) : someF (l.take (i + 1)) = .mk 6 ⟨#[]⟩ [someF (l.take i), f] := by
  unfold someF
  rw [List.take_add_one, h]
  simp

/-- A formula in a block of its own. -/
def RepAt (w : World) (ok : Nat → Prop) (b : Nat) (f : Fm) : Prop := ∃ k n ks sl cap, f = .mk k n ks ∧ w.heap[b]? = some (.cells #[.int .i64 k, .string n, .slice sl ks.length cap] 37 (0, 0)) ∧ Rep w ok (.mk k n ks) (.agg #[.int .i64 k, .string n, .slice sl ks.length cap])
def put3 (w : World) (b : Nat) (y0 y1 y2 : Value) : World := ((w.setCell ⟨b, 0, none⟩ y0).setCell ⟨b, 1, none⟩ y1).setCell ⟨b, 2, none⟩ y2
theorem put3_blk {w : World} {b : Nat} {x0 x1 x2 : Value} {T : TypeId} (h : w.heap[b]? = some (.cells #[x0, x1, x2] T (0, 0))) (y0 y1 y2 : Value) : (put3 w b y0 y1 y2).heap[b]? = some (.cells #[y0, y1, y2] T (0, 0)) := by
  simp [put3, World.setCell, Array.getElem?_modify, h]
theorem put3_other {w : World} {b i : Nat} (h : i ≠ b) (y0 y1 y2 : Value) : (put3 w b y0 y1 y2).heap[i]? = w.heap[i]? := by
  unfold put3
  repeat rw [Below.heap_setCell _ _ _ _ h]
theorem put3_size (w : World) (b : Nat) (y0 y1 y2 : Value) : (put3 w b y0 y1 y2).heap.size = w.heap.size := by simp [put3, World.setCell]
/-- The world behind a round of As. -/
def asW (wr : World) (bL : Nat) (c : Int) (O : Obj) : World := ((put3 wr bL (.int .i64 c) (.string ⟨#[]⟩) (.slice (some ⟨wr.heap.size, 0, none⟩) 2 2)).alloc O).drew
theorem asW_old {wr : World} {bL : Nat} {c : Int} {O : Obj} {b : Nat} (hb : b < wr.heap.size) (hne : b ≠ bL) : (asW wr bL c O).heap[b]? = wr.heap[b]? := by
  show ((put3 wr bL _ _ _).alloc O).heap[b]? = _
  rw [Below.heap_alloc _ _ _ (by rw [put3_size]; exact hb), put3_other hne]
theorem asW_own {wr : World} {bL : Nat} {c : Int} {O : Obj} {x0 x1 x2 : Value} {T : TypeId} (h : wr.heap[bL]? = some (.cells #[x0, x1, x2] T (0, 0))) : (asW wr bL c O).heap[bL]? = some (.cells #[.int .i64 c, .string ⟨#[]⟩, .slice (some ⟨wr.heap.size, 0, none⟩) 2 2] T (0, 0)) := by
  show ((put3 wr bL _ _ _).alloc O).heap[bL]? = _
  exact alloc_keep (put3_blk h _ _ _) _
theorem asW_new {wr : World} {bL : Nat} {c : Int} {O : Obj} : (asW wr bL c O).heap[wr.heap.size]? = some O := by
  have := blk_new (put3 wr bL (.int .i64 c) (.string ⟨#[]⟩) (.slice (some ⟨wr.heap.size, 0, none⟩) 2 2)) O
  rw [put3_size] at this
  exact this
theorem asW_size {wr : World} {bL : Nat} {c : Int} {O : Obj} : (asW wr bL c O).heap.size = wr.heap.size + 1 := by
  show ((put3 wr bL _ _ _).alloc O).heap.size = _
  simp [put3_size]
theorem asW_below {w wr : World} {bL : Nat} {c : Int} {O : Obj} (h : Below w.heap.size w wr) (hb : w.heap.size ≤ bL) : Below w.heap.size w (asW wr bL c O) :=
  (below_more (((h.setCell (p := ⟨bL, 0, none⟩) hb _).setCell (p := ⟨bL, 1, none⟩) hb _).setCell (p := ⟨bL, 2, none⟩) hb _) O).drew

/-- A round of As: the formula in block bL, and one more, become one. -/
theorem as_round {ok : Nat → Prop} {wr : World} {bL : Nat} {kA : Int} {nA : ByteArray} {ksA : List Fm} {slA : Option Addr} {capA : Nat} {k2 : Int} {n2 : ByteArray} {ks2 : List Fm} {sl2 : Option Addr} {cap2 : Nat} {y0 y1 y2 : Value} (c : Int)
    (hL : wr.heap[bL]? = some (.cells #[y0, y1, y2] 37 (0, 0))) (hA : Rep wr ok (.mk kA nA ksA) (.agg #[.int .i64 kA, .string nA, .slice slA ksA.length capA])) (h2 : Rep wr ok (.mk k2 n2 ks2) (.agg #[.int .i64 k2, .string n2, .slice sl2 ks2.length cap2]))
    (hok : ¬ ok bL) (hnew : ok wr.heap.size) (T : TypeId) :
    RepAt (asW wr bL c (.cells #[.int .i64 kA, .string nA, .slice slA ksA.length capA, .int .i64 k2, .string n2, .slice sl2 ks2.length cap2] T (0, 0))) ok bL (.mk c ⟨#[]⟩ [.mk kA nA ksA, .mk k2 n2 ks2]) := by
  have hblk : ∀ b, b < wr.heap.size → ok b → (asW wr bL c (.cells #[.int .i64 kA, .string nA, .slice slA ksA.length capA, .int .i64 k2, .string n2, .slice sl2 ks2.length cap2] T (0, 0))).heap[b]? = wr.heap[b]? ∧ ok b := fun b hb ho => ⟨asW_old hb (fun e => hok (by rw [← e]; exact ho)), ho⟩
  have hq := asW_new (wr := wr) (bL := bL) (c := c) (O := .cells #[.int .i64 kA, .string nA, .slice slA ksA.length capA, .int .i64 k2, .string n2, .slice sl2 ks2.length cap2] T (0, 0))
  refine ⟨c, ⟨#[]⟩, _, some ⟨wr.heap.size, 0, none⟩, 2, rfl, asW_own hL, Rep.def.2 ⟨_, 2, rfl, by simp [maxLen, ByteArray.size], by simp, by simp [maxLen], fun _ => ⟨wr.heap.size, 0, rfl, hnew, ?_⟩⟩⟩
  exact Reps.cons.2 ⟨⟨_, _, _, blk_cell hq 0, blk_cell hq 1, blk_cell hq 2, hA.move hblk⟩, Reps.cons.2 ⟨⟨_, _, _, blk_cell hq 3, blk_cell hq 4, blk_cell hq 5, h2.move hblk⟩, Reps.nil⟩⟩

set_option maxRecDepth 10000 in
set_option maxHeartbeats 8000000 in
theorem as_any (l r : List Fm) (hl4 : l.length ≤ 400) (hr4 : r.length ≤ 400) (v u : Value) (w : World) (hv : FL w v l) (hu : FL w u r) :
    Calls Try.prog 31 #[.agg #[v, u]] w fun e w' => ∃ x, e = .returned x ∧ Rep w' (fun _ => True) (asF l r) x ∧ Below w.heap.size w w' := by
  have HL : Hid (FLp (· < w.heap.size) w v l) := hv.low
  have HR : Hid (FLp (· < w.heap.size) w u r) := hu.low
  obtain ⟨al, cl, rfl, hl1, -, hl3⟩ := hv
  obtain ⟨ar, cr, rfl, hr1, -, hr3⟩ := hu
  clear hl3 hr3
  have hlI : (l.length : Int) ≤ 400 := by omega
  have hrI : (r.length : Int) ≤ 400 := by omega
  obtain ⟨O, hO⟩ : ∃ O, O = Obj.cells #[.slice al l.length cl, .slice ar r.length cr] 59 (0, 0) := ⟨_, rfl⟩
  go_enter Try.func31, Try.ntmps31
  go_wp2_with fail
  have hb0 : (((w.alloc O).alloc (.cells #[.int .i64 0, .string ⟨#[]⟩, .slice none 0 0] 37 (0, 0))).alloc (.cells #[.int .i64 2, .string ⟨#[]⟩, .slice none 0 0] 37 (0, 0))).heap[w.heap.size]? = some (.cells #[.slice al l.length cl, .slice ar r.length cr] 59 (0, 0)) := by
    rw [← hO]; exact alloc_keep (alloc_keep (blk_new w _) _) _
  go_loopg [4] l.length (fun g cc wr => ∃ j, j ≤ l.length ∧ g = l.length - j ∧ cc = .int .i64 (j : Nat) ∧ Hid (Below w.heap.size w wr) ∧ Hid (wr.heap[w.heap.size]? = some (.cells #[.slice al l.length cl, .slice ar r.length cr] 59 (0, 0))) ∧ Hid (wr.heap[w.heap.size + 1]? = some (.cells #[.int .i64 0, .string ⟨#[]⟩, .slice none 0 0] 37 (0, 0))) ∧ Hid (RepAt wr (fun b => b < w.heap.size ∨ w.heap.size + 3 ≤ b) (w.heap.size + 1 + 1) (allF (l.take j))) ∧ w.heap.size + 3 ≤ wr.heap.size)
  case atStart =>
    rw [← hO]
    exact ⟨0, by omega, by omega, rfl, below_more (below_more (below_more (Below.refl _ w) _) _) _, by rw [hO] at hb0 ⊢; exact hb0, alloc_keep (blk_two w _ _) _, ⟨2, ⟨#[]⟩, [], none, 0, rfl, blk_three w _ _ _, Rep.leaf (by simp [maxLen, ByteArray.size])⟩, by simp⟩
  case round =>
    clear hb0 hO
    obtain ⟨j, hj, hg, rfl, HBr, H0, H1, HA, hzr⟩ := hrel
    have HG : Hid (gk = l.length - j) := hg
    clear hg
    obtain ⟨kA, nA, ksA, slA, capA, hAe, hL, hA⟩ := HA.out
    have HAe : Hid (allF (l.take j) = .mk kA nA ksA) := hAe
    have HLk : Hid (wr.heap[w.heap.size + 1 + 1]? = some _) := hL
    have HRA : Hid (Rep wr _ (.mk kA nA ksA) _) := hA
    obtain ⟨s0, s1, -⟩ := blk2 H0.out
    obtain ⟨q0, q1, q2, q3, q4, q5⟩ := blk3 hL
    have e1 : ¬ w.heap.size + 1 + 1 = wr.heap.size := by omega
    have e2 : ¬ wr.heap.size = w.heap.size + 1 + 1 := by omega
    have e3 : ¬ w.heap.size = wr.heap.size := by omega
    have e6 : w.heap.size + 1 + 1 < wr.heap.size := by omega
    have e7 : w.heap.size < wr.heap.size := by omega
    clear hAe hL hA HA
    by_cases hlt : j < l.length
    · obtain ⟨⟨k2, n2, ks2⟩, hki⟩ : ∃ f, l[j]? = some f := ⟨_, List.getElem?_eq_getElem hlt⟩
      obtain ⟨b, off, rfl, hbA, hrs⟩ : ∃ b off, al = some ⟨b, off, none⟩ ∧ b < w.heap.size ∧ Reps w (· < w.heap.size) b off l := by
        obtain ⟨al', cl', hve, -, -, h⟩ := HL.out
        simp only [Value.slice.injEq, true_and] at hve
        obtain ⟨rfl, rfl⟩ := hve
        exact h (fun e => by rw [e] at hlt; simp at hlt)
      obtain ⟨sl2, cap2, g0, g1, g2, hrep2⟩ := (reps_move (P' := (· < w.heap.size)) (fun k hk hp => ⟨HBr.out.block k hk, hp⟩) hbA hrs).at j k2 n2 ks2 hki
      have HR2 : Hid (Rep wr (· < w.heap.size) (.mk k2 n2 ks2) _) := hrep2
      have hltI : (j : Int) < (l.length : Int) := by omega
      have hlc : (j : Int) < (cl : Int) := by omega
      have HS : Hid (allF (l.take (j + 1)) = .mk 5 ⟨#[]⟩ [.mk kA nA ksA, .mk k2 n2 ks2]) := by
        show _ = _
        rw [allF_snoc hki, HAe.out]
      have e4 : ¬ b = wr.heap.size := by omega
      have e5 : ¬ b = w.heap.size + 1 + 1 := by omega
      have e8 : b < wr.heap.size := by omega
      clear hki hrs hrep2
      go_wp2_with fail
      go_region
      have hR := as_round 5 HLk.out HRA.out (HR2.out.move fun b hb ho => ⟨rfl, Or.inl ho⟩) (by omega) (Or.inr hzr) 37
      have hBF := asW_below (c := 5) (O := .cells #[.int .i64 kA, .string nA, .slice slA ksA.length capA, .int .i64 k2, .string n2, .slice sl2 ks2.length cap2] 37 (0, 0)) HBr.out (bL := w.heap.size + 1 + 1) (by omega)
      have h0F := (asW_old (wr := wr) (bL := w.heap.size + 1 + 1) (c := 5) (O := .cells #[.int .i64 kA, .string nA, .slice slA ksA.length capA, .int .i64 k2, .string n2, .slice sl2 ks2.length cap2] 37 (0, 0)) (b := w.heap.size) e7 (by omega)).trans H0.out
      have h1F := (asW_old (wr := wr) (bL := w.heap.size + 1 + 1) (c := 5) (O := .cells #[.int .i64 kA, .string nA, .slice slA ksA.length capA, .int .i64 k2, .string n2, .slice sl2 ks2.length cap2] 37 (0, 0)) (b := w.heap.size + 1) (by omega) (by omega)).trans H1.out
      have hzF := asW_size (wr := wr) (bL := w.heap.size + 1 + 1) (c := 5) (O := .cells #[.int .i64 kA, .string nA, .slice slA ksA.length capA, .int .i64 k2, .string n2, .slice sl2 ks2.length cap2] 37 (0, 0))
      show Exit.inBlock 1 _ _ _ (asW wr (w.heap.size + 1 + 1) 5 _)
      generalize asW wr (w.heap.size + 1 + 1) 5 _ = F at *
      have HRF : Hid (RepAt F _ _ _) := hR
      have HBF : Hid (Below w.heap.size w F) := hBF
      have H0F : Hid (F.heap[w.heap.size]? = some _) := h0F
      have H1F : Hid (F.heap[w.heap.size + 1]? = some _) := h1F
      clear hR hBF h0F h1F s0 s1 q0 q1 q2 q3 q4 q5 g0 g1 g2
      go_wp2_with fail
      go_roundg (l.length - (j + 1))
      case measure => have := HG.out; omega
      case rel => exact ⟨j + 1, by omega, rfl, by go_num, HBF, H0F, H1F, by rw [HS.out]; exact HRF.out, by omega⟩
    · have hge : ¬ (j : Int) < (l.length : Int) := by omega
      have HAl : Hid (allF l = .mk kA nA ksA) := by
        have := HAe.out
        rwa [List.take_of_length_le (by omega)] at this
      obtain ⟨wA, hwA⟩ : ∃ wA, wA = wr := ⟨_, rfl⟩
      subst hwA
      clear HAe HG hj hlt
      go_wp2_with fail
      clear s0 s1 q0 q1 q2 q3 q4 q5 hge
      go_loopg [6] r.length (fun g cc wr => ∃ j, j ≤ r.length ∧ g = r.length - j ∧ cc = .int .i64 (j : Nat) ∧ Hid (Below w.heap.size w wr) ∧ Hid (wr.heap[w.heap.size]? = some (.cells #[.slice al l.length cl, .slice ar r.length cr] 59 (0, 0))) ∧ Hid (wr.heap[w.heap.size + 1]? = some (.cells #[.int .i64 0, .string ⟨#[]⟩, .slice none 0 0] 37 (0, 0))) ∧ Hid (wr.heap[w.heap.size + 1 + 1]? = some (.cells #[.int .i64 kA, .string nA, .slice slA ksA.length capA] 37 (0, 0))) ∧ Hid (Rep wr (fun b => b < w.heap.size ∨ (w.heap.size + 3 ≤ b ∧ b < wA.heap.size)) (.mk kA nA ksA) (.agg #[.int .i64 kA, .string nA, .slice slA ksA.length capA])) ∧ Hid (RepAt wr (fun b => b < w.heap.size ∨ wA.heap.size < b) wA.heap.size (someF (r.take j))) ∧ wA.heap.size < wr.heap.size)
      case atStart =>
        exact ⟨0, by omega, by omega, rfl, below_more HBr.out _, alloc_keep H0.out _, alloc_keep H1.out _, alloc_keep HLk.out _, HRA.out.move fun b hb ho => ⟨Below.heap_alloc _ _ _ hb, ho.imp id fun h => ⟨h, hb⟩⟩, ⟨3, ⟨#[]⟩, [], none, 0, rfl, blk_new wA _, Rep.leaf (by simp [maxLen, ByteArray.size])⟩, by simp⟩
      case round =>
        clear HBr H0 H1 HLk HRA
        obtain ⟨j, hj, hg, rfl, HBr, H0, H1, HLk, HRA, HB, hzr⟩ := hrel
        have HG : Hid (gk = r.length - j) := hg
        clear hg
        obtain ⟨kB, nB, ksB, slB, capB, hBe, hLB, hB⟩ := HB.out
        have HBe : Hid (someF (r.take j) = .mk kB nB ksB) := hBe
        have HLB : Hid (wr.heap[wA.heap.size]? = some _) := hLB
        have HRB : Hid (Rep wr _ (.mk kB nB ksB) _) := hB
        obtain ⟨s0, s1, -⟩ := blk2 H0.out
        obtain ⟨q0, q1, q2, q3, q4, q5⟩ := blk3 hLB
        have f1 : ¬ wA.heap.size = wr.heap.size := by omega
        have f2 : ¬ wr.heap.size = wA.heap.size := by omega
        have f3 : ¬ w.heap.size = wr.heap.size := by omega
        have f4 : w.heap.size < wr.heap.size := by omega
        have f5 : ¬ w.heap.size = wA.heap.size := by omega
        clear hBe hLB hB HB
        by_cases hlt : j < r.length
        · obtain ⟨⟨k2, n2, ks2⟩, hki⟩ : ∃ f, r[j]? = some f := ⟨_, List.getElem?_eq_getElem hlt⟩
          obtain ⟨b, off, rfl, hbA, hrs⟩ : ∃ b off, ar = some ⟨b, off, none⟩ ∧ b < w.heap.size ∧ Reps w (· < w.heap.size) b off r := by
            obtain ⟨al', cl', hve, -, -, h⟩ := HR.out
            simp only [Value.slice.injEq, true_and] at hve
            obtain ⟨rfl, rfl⟩ := hve
            exact h (fun e => by rw [e] at hlt; simp at hlt)
          obtain ⟨sl2, cap2, g0, g1, g2, hrep2⟩ := (reps_move (P' := (· < w.heap.size)) (fun k hk hp => ⟨HBr.out.block k hk, hp⟩) hbA hrs).at j k2 n2 ks2 hki
          have HR2 : Hid (Rep wr (· < w.heap.size) (.mk k2 n2 ks2) _) := hrep2
          have hltI : (j : Int) < (r.length : Int) := by omega
          have hlc : (j : Int) < (cr : Int) := by omega
          have HS : Hid (someF (r.take (j + 1)) = .mk 6 ⟨#[]⟩ [.mk kB nB ksB, .mk k2 n2 ks2]) := by
            show _ = _
            rw [someF_snoc hki, HBe.out]
          have f6 : ¬ b = wr.heap.size := by omega
          have f7 : ¬ b = wA.heap.size := by omega
          have f8 : b < wr.heap.size := by omega
          clear hki hrs hrep2
          go_wp2_with fail
          go_region
          have hR := as_round 6 HLB.out HRB.out (HR2.out.move fun b hb ho => ⟨rfl, Or.inl ho⟩) (by omega) (Or.inr hzr) 37
          have hBF := asW_below (c := 6) (O := .cells #[.int .i64 kB, .string nB, .slice slB ksB.length capB, .int .i64 k2, .string n2, .slice sl2 ks2.length cap2] 37 (0, 0)) HBr.out (bL := wA.heap.size) (by omega)
          have hof := fun (b : Nat) (h1 : b < wr.heap.size) (h2 : b ≠ wA.heap.size) => asW_old (wr := wr) (bL := wA.heap.size) (c := 6) (O := .cells #[.int .i64 kB, .string nB, .slice slB ksB.length capB, .int .i64 k2, .string n2, .slice sl2 ks2.length cap2] 37 (0, 0)) h1 h2
          have h0F := (hof w.heap.size f4 f5).trans H0.out
          have h1F := (hof (w.heap.size + 1) (by omega) (by omega)).trans H1.out
          have h2F := (hof (w.heap.size + 1 + 1) (by omega) (by omega)).trans HLk.out
          have h3F := HRA.out.move (w' := asW wr wA.heap.size 6 (.cells #[.int .i64 kB, .string nB, .slice slB ksB.length capB, .int .i64 k2, .string n2, .slice sl2 ks2.length cap2] 37 (0, 0))) (ok' := fun b => b < w.heap.size ∨ (w.heap.size + 3 ≤ b ∧ b < wA.heap.size)) fun b hb ho => ⟨hof b hb (by omega), ho⟩
          have hzF := asW_size (wr := wr) (bL := wA.heap.size) (c := 6) (O := .cells #[.int .i64 kB, .string nB, .slice slB ksB.length capB, .int .i64 k2, .string n2, .slice sl2 ks2.length cap2] 37 (0, 0))
          show Exit.inBlock _ _ _ _ (asW wr wA.heap.size 6 _)
          clear hof
          generalize asW wr wA.heap.size 6 _ = F at *
          have HRF : Hid (RepAt F _ _ _) := hR
          have HBF : Hid (Below w.heap.size w F) := hBF
          have H0F : Hid (F.heap[w.heap.size]? = some _) := h0F
          have H1F : Hid (F.heap[w.heap.size + 1]? = some _) := h1F
          have H2F : Hid (F.heap[w.heap.size + 1 + 1]? = some _) := h2F
          have H3F : Hid (Rep F _ _ _) := h3F
          clear hR hBF h0F h1F h2F h3F s0 s1 q0 q1 q2 q3 q4 q5 g0 g1 g2
          go_wp2_with fail
          go_roundg (r.length - (j + 1))
          case measure => have := HG.out; omega
          case rel => exact ⟨j + 1, by omega, rfl, by go_num, HBF, H0F, H1F, H2F, H3F, by rw [HS.out]; exact HRF.out, by omega⟩
        · have hge : ¬ (j : Int) < (r.length : Int) := by omega
          have HBl : Hid (someF r = .mk kB nB ksB) := by
            have := HBe.out
            rwa [List.take_of_length_le (by omega)] at this
          obtain ⟨t0, t1, t2, -⟩ := blk3 HLk.out
          obtain ⟨u0, u1, u2, u3, u4, u5⟩ := blk3 H1.out
          have f6 : w.heap.size + 1 < wr.heap.size := by omega
          have f7 : w.heap.size + 1 + 1 < wr.heap.size := by omega
          have f8 : ¬ w.heap.size + 1 = wr.heap.size := by omega
          have f9 : ¬ wr.heap.size = w.heap.size + 1 := by omega
          go_wp2_with fail
          have hR := as_round (ok := fun b => b ≠ w.heap.size + 1) 7 H1.out (HRA.out.move fun b hb ho => ⟨rfl, by omega⟩) (HRB.out.move fun b hb ho => ⟨rfl, by omega⟩) (by simp) (by omega) 37
          have hBF := asW_below (c := 7) (O := .cells #[.int .i64 kA, .string nA, .slice slA ksA.length capA, .int .i64 kB, .string nB, .slice slB ksB.length capB] 37 (0, 0)) HBr.out (bL := w.heap.size + 1) (by omega)
          have hzF := asW_size (wr := wr) (bL := w.heap.size + 1) (c := 7) (O := .cells #[.int .i64 kA, .string nA, .slice slA ksA.length capA, .int .i64 kB, .string nB, .slice slB ksB.length capB] 37 (0, 0))
          obtain ⟨k7, n7, ks7, sl7, cap7, he7, hb7, hr7⟩ := hR
          obtain ⟨G, hG⟩ : ∃ G, G = (put3 wr (w.heap.size + 1) (.int .i64 7) (.string ⟨#[]⟩) (.slice (some ⟨wr.heap.size, 0, none⟩) 2 2)).alloc (.cells #[.int .i64 kA, .string nA, .slice slA ksA.length capA, .int .i64 kB, .string nB, .slice slB ksB.length capB] 37 (0, 0)) := ⟨_, rfl⟩
          have hGd : asW wr (w.heap.size + 1) 7 (.cells #[.int .i64 kA, .string nA, .slice slA ksA.length capA, .int .i64 kB, .string nB, .slice slB ksB.length capB] 37 (0, 0)) = G.drew := by rw [hG]; rfl
          rw [hGd] at hb7 hr7 hBF
          have hb7' : G.heap[w.heap.size + 1]? = _ := hb7
          have hr7' := hr7.move (w' := G) (ok' := fun _ => True) fun b hb ho => ⟨rfl, trivial⟩
          rw [← he7] at hr7'
          have hBG : Below w.heap.size w G := ⟨hBF.os, hBF.tape, hBF.output, hBF.size, hBF.block⟩
          show bodyPost _ _ _ _ _ ((put3 wr (w.heap.size + 1) _ _ _).alloc _)
          rw [← hG]
          obtain ⟨x0, x1, x2, -⟩ := blk3 hb7'
          exact bodyPost_ret (v := .agg #[.int .i64 k7, .string n7, .slice sl7 ks7.length cap7]) (by simp [results, Try.results31, go_sem, x0, x1, x2]) rfl ⟨_, rfl, by unfold asF; rw [HAl.out, HBl.out]; exact hr7', hBG⟩
end Go.Proofs.Ytknngeojhiejnab
