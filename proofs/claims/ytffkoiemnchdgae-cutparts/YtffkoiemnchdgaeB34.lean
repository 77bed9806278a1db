/- Texts of one proof, one behind the other: CG1, CG2. -/
import Derived.Test.YtffkoiemnchdgaeB32
/- What look says of a proof, plain. -/
namespace Go.Proofs.Ytffkoiemnchdgae
open Go.RowKit

mutual
def Pf.size : Pf → Nat
  | .mk _ _ _ _ ks => Pf.sizes ks + 1
def Pf.sizes : List Pf → Nat
  | [] => 0
  | k :: ks => k.size + Pf.sizes ks
end
theorem pfsizes_get : ∀ {ks : List Pf} {i : Nat} {k : Pf}, ks[i]? = some k → k.size ≤ Pf.sizes ks
  | [], i, k, h => by simp at h
  | x :: ks, 0, k, h => by simp at h; subst h; rw [Pf.sizes]; omega
  | x :: ks, i + 1, k, h => by
    (have := pfsizes_get (ks := ks) (i := i) (k := k) (by simpa using h)); rw [Pf.sizes]; omega
/-- Sides and kids are not too many. -/
def Small : Nat → Pf → Prop
  | 0, _ => True
  | n + 1, .mk _ _ l r ks => l.length ≤ 300 ∧ r.length ≤ 300 ∧ ks.length ≤ 1200 ∧ ∀ k ∈ ks, Small n k
def SmallP (p : Pf) : Prop := ∀ n, Small n p
theorem SmallP.parts {a : ByteArray} {f : Fm} {l r : List Fm} {ks : List Pf} (h : SmallP (.mk a f l r ks)) : l.length ≤ 300 ∧ r.length ≤ 300 ∧ ks.length ≤ 1200 ∧ ∀ k ∈ ks, SmallP k :=
  ⟨(h 1).1, (h 1).2.1, (h 1).2.2.1, fun k hk n => (h (n + 1)).2.2.2 k hk⟩

theorem look_def (i : Bool) (a : ByteArray) (f : Fm) (l r : List Fm) (ks : List Pf) (deep steps cuts : Nat) : look i (.mk a f l r ks) deep steps cuts =
    if steps = 20000 ∨ 400 < deep then ((2, 0), steps, cuts)
    else if stepC i (.mk a f l r ks) ≠ 0 then ((stepC i (.mk a f l r ks), ((steps : Nat) : Int)), steps + 1, cuts)
    else looks i ks (deep + 1) (steps + 1) (if a.data.toList = Ru.cut.text then cuts + 1 else cuts) := by rw [look]

mutual
theorem look_le (i : Bool) : ∀ (p : Pf) (d s c : Nat), s ≤ 20000 → c ≤ s → (look i p d s c).2.1 ≤ 20000 ∧ (look i p d s c).2.2 ≤ (look i p d s c).2.1
  | .mk a f l r ks, d, s, c, hs, hc => by
    rw [look_def]
    split
    · exact ⟨hs, hc⟩
    · split
      · exact ⟨by show s + 1 ≤ 20000; omega, by show c ≤ s + 1; omega⟩
      · exact looks_le i ks (d + 1) (s + 1) _ (by omega) (by split <;> omega)
theorem looks_le (i : Bool) : ∀ (ks : List Pf) (d s c : Nat), s ≤ 20000 → c ≤ s → (looks i ks d s c).2.1 ≤ 20000 ∧ (looks i ks d s c).2.2 ≤ (looks i ks d s c).2.1
  | [], d, s, c, hs, hc => by rw [looks]; exact ⟨hs, hc⟩
  | k :: ks, d, s, c, hs, hc => by
    have hk := look_le i k d s c hs hc; rw [looks]
    split
    · exact hk
    · exact looks_le i ks d _ _ hk.1 hk.2
end
theorem looks_drop {i : Bool} {ks : List Pf} {j : Nat} {k : Pf} (h : ks[j]? = some k) (d s c : Nat) : looks i (ks.drop j) d s c = if (look i k d s c).1.1 ≠ 0 then look i k d s c else looks i (ks.drop (j + 1)) d (look i k d s c).2.1 (look i k d s c).2.2 := by
  have hj : j < ks.length := (List.getElem?_eq_some_iff.1 h).1; rw [List.drop_eq_getElem_cons hj, looks]; rw [List.getElem?_eq_getElem hj] at h; rw [Option.some.inj h]

theorem ck_set2 {w : World} {bc m s c : Nat} {i : Bool} (h : Ck w bc i m s c) (s' : Nat) : Ck (w.setCell ⟨bc, 2, none⟩ (.int .i64 (s' : Nat))) bc i m s' c := by
  unfold Ck at *; simp [World.setCell, Array.getElem?_modify, h]
theorem ck_set3 {w : World} {bc m s c : Nat} {i : Bool} (h : Ck w bc i m s c) (c' : Nat) : Ck (w.setCell ⟨bc, 3, none⟩ (.int .i64 (c' : Nat))) bc i m s c' := by
  unfold Ck at *; simp [World.setCell, Array.getElem?_modify, h]
theorem ck_below {w w' : World} {bc m s c : Nat} {i : Bool} (h : Ck w bc i m s c) (hb : Below w.heap.size w w') : Ck w' bc i m s c := by
  unfold Ck at *; exact below_keep hb h
theorem ck_alloc {w : World} {bc m s c : Nat} {i : Bool} (h : Ck w bc i m s c) (o : Obj) : Ck (w.alloc o) bc i m s c := by
  unfold Ck at *; exact alloc_keep h o
theorem ck_lt {w : World} {bc m s c : Nat} {i : Bool} (h : Ck w bc i m s c) : bc < w.heap.size := lt_of_block h
theorem ck_other {w : World} {bc m s c : Nat} {i : Bool} (h : Ck w bc i m s c) {p : Addr} (hp : p.block ≠ bc) (v : Value) : Ck (w.setCell p v) bc i m s c := by
  unfold Ck at *; rw [Below.heap_setCell _ _ _ _ (Ne.symm hp)]; exact h
/-- All blocks but bc are as they were. -/
abbrev KB1 (bc : Nat) (w w' : World) : Prop := Kept (fun b => b ≠ bc) w w'
theorem kb_below {bc : Nat} {w w' : World} (h : Below w.heap.size w w') : KB1 bc w w' := kept_of_below h fun _ hk _ => hk
theorem kb_base {bc : Nat} {w0 w w' : World} (h : Below w0.heap.size w0 w) (hb : w0.heap.size ≤ bc) (k : KB1 bc w w') : Below w0.heap.size w0 w' :=
  ⟨k.os.trans h.os, k.tape.trans h.tape, k.output.trans h.output, Nat.le_trans h.size k.size, fun j hj => (k.block j (Nat.lt_of_lt_of_le hj h.size) (by omega)).trans (h.block j hj)⟩
theorem kb_keep {bc b : Nat} {w w' : World} {o : Obj} (k : KB1 bc w w') (hb : b ≠ bc) (h : w.heap[b]? = some o) : w'.heap[b]? = some o := (k.block b (lt_of_block h) hb).trans h
end Go.Proofs.Ytffkoiemnchdgae
/- Walks: look. -/
namespace Go.Proofs.Ytffkoiemnchdgae
open Go.RowKit Go.Maps Go.WideMaps

def PLookP (i : Bool) (m : Nat) : Prop := ∀ (p : Pf) (v : Value) (w0 w : World) (bc mm d s c : Nat), p.size < m → SmallP p → PRep w0 p v → RulesAt i w0 mm → Below w0.heap.size w0 w → w0.heap.size ≤ bc → Ck w bc i mm s c → s ≤ 20000 → c ≤ s → d ≤ 401 →
  Calls Try.prog 72 #[.pointer (some ⟨bc, 0, none⟩), v, .int .i64 (d : Nat)] w fun e w' => e = .returned (.agg #[.int .i64 (look i p d s c).1.1, .int .i64 (look i p d s c).1.2]) ∧ Ck w' bc i mm (look i p d s c).2.1 (look i p d s c).2.2 ∧ KB1 bc w w'

set_option maxRecDepth 10000 in
set_option maxHeartbeats 8000000 in
theorem plook_step (i : Bool) (m : Nat) (ih : PLookP i m) : PLookP i (m + 1) := by
  intro p v w0 w bc mm d s c hm hsm hv hru hB0 hbc hck hs hc hd; obtain ⟨a, ⟨k, n, kf⟩, l, r, ks⟩ := p; obtain ⟨hl4, hr4, hk4, hsk⟩ := hsm.parts; have hVw := PRep.up hB0 _ _ hv; obtain ⟨sf, cf, al, cl, ar, cr, sl, cap, rfl, ha, hf, hl, hr, hkc, hcm, hks⟩ := hVw.parts; have HV : Hid (PRep w (.mk a (.mk k n kf) l r ks) _) := hVw; have HRU : Hid (RulesAt i w0 mm) := hru; have HB0 : Hid (Below w0.heap.size w0 w) := hB0; have HCK : Hid (Ck w bc i mm s c) := hck; obtain ⟨i0, i1, i2, i3, f2, f3⟩ := blk4 (show w.heap[bc]? = _ from hck); have zbc := ck_lt hck; (have d1 : ¬ bc = w.heap.size := by omega); (have d2 : ¬ bc = w.heap.size + 1 := by omega); (have d3 : ¬ w.heap.size = bc := by omega); (have d4 : ¬ w.heap.size + 1 = bc := by omega); (have hsI : (s : Int) ≤ 20000 := by omega); (have hdI : (d : Int) ≤ 401 := by omega); (have hcI : (c : Int) ≤ 20000 := by omega); have hld := look_def i a (.mk k n kf) l r ks d s c; clear hf hl hr hVw; by_cases h1 : s = 20000 ∨ 400 < d
  · rw [if_pos h1] at hld
    rw [hld]; clear hv hks; by_cases hs2 : s = 20000
    · subst hs2
      go_enter Try.func72, Try.ntmps72
      go_wp2_with fail; (exact bodyPost_ret (v := .agg #[.int .i64 2, .int .i64 0]) (by simp [results, Try.results72, go_sem]) rfl ⟨rfl, ck_alloc (ck_alloc HCK.out _) _, kb_below (below_more (below_more (Below.refl _ w) _) _)⟩)
    · have hs3 : ((s : Int) == 20000) = false := by simp; omega
      (have hs4 : ¬ (s : Int) = 20000 := by omega); (have hd3 : (400 : Int) < (d : Int) := by omega); clear h1
      go_enter Try.func72, Try.ntmps72
      go_wp2_with fail; (exact bodyPost_ret (v := .agg #[.int .i64 2, .int .i64 0]) (by simp [results, Try.results72, go_sem]) rfl ⟨rfl, ck_alloc (ck_alloc HCK.out _) _, kb_below (below_more (below_more (Below.refl _ w) _) _)⟩)
  · rw [if_neg h1] at hld
    (have hs3 : ((s : Int) == 20000) = false := by simp; omega); (have hs4 : ¬ (s : Int) = 20000 := by omega); (have hd3 : ¬ (400 : Int) < (d : Int) := by omega); (have hs5 : s + 1 ≤ 20000 := by omega); (have hd5 : d + 1 ≤ 401 := by omega); (have HM : Hid (Pf.sizes ks < m) := by have : Pf.sizes ks + 1 < m + 1 := hm; show _ < _; omega); have HIH : Hid (PLookP i m) := ih; have HSK : Hid (∀ k ∈ ks, SmallP k) := hsk
    have HKS : Hid (ks ≠ [] → ∃ b off, sl = some ⟨b, off, none⟩ ∧ PReps w0 b off ks) := by
      obtain ⟨_, _, _, _, _, _, sl', cap', hpe, -, -, -, -, -, -, h⟩ := hv.parts; simp only [Value.agg.injEq, Array.mk.injEq, List.cons.injEq, Value.slice.injEq, and_true, true_and] at hpe; obtain ⟨-, -, -, h1, -⟩ := hpe; rw [h1]; exact h
    have HV0 : Hid (PRep w0 (.mk a (.mk k n kf) l r ks) _) := hv; (have hkI : (ks.length : Int) ≤ 1200 := by omega); clear h1 hks hv ih hsk hsm hm hru hB0; obtain ⟨O, hO⟩ : ∃ O, O = Obj.cells #[.string a, .int .i64 k, .string n, .slice sf kf.length cf, .slice al l.length cl, .slice ar r.length cr, .slice sl ks.length cap] 29 (0, 0) := ⟨_, rfl⟩; obtain ⟨W, hW⟩ : ∃ W, W = ((w.alloc O).alloc (.cells #[.int .i64 0, .int .i64 0] 33 (0, 0))).setCell ⟨bc, 2, none⟩ (.int .i64 ((s + 1 : Nat) : Int)) := ⟨_, rfl⟩
    have hKW : KB1 bc w W := by
      rw [hW]; (exact (kb_below (below_more (below_more (Below.refl _ w) _) _)).setCell (p := ⟨bc, 2, none⟩) (fun _ h => h rfl) _)
    have hCW : Ck W bc i mm (s + 1) c := by
      rw [hW]; exact ck_set2 (ck_alloc (ck_alloc HCK.out _) _) (s + 1)
    have hW0 : W.heap[w.heap.size]? = some O := by
      (rw [hW, Below.heap_setCell _ _ _ _ (by simpa using d3)]); exact alloc_keep (blk_new w _) _
    have hW1 : W.heap[w.heap.size + 1]? = some (.cells #[.int .i64 0, .int .i64 0] 33 (0, 0)) := by
      (rw [hW, Below.heap_setCell _ _ _ _ (by simpa using d4)]); exact blk_two w _ _
    rw [hO] at hW0; have HKW : Hid (KB1 bc w W) := hKW; have HCW : Hid (Ck W bc i mm (s + 1) c) := hCW; have HW0 : Hid (W.heap[w.heap.size]? = some _) := hW0; have HW1 : Hid (W.heap[w.heap.size + 1]? = some _) := hW1; have hBW := kb_base HB0.out hbc hKW; have HBW : Hid (Below w0.heap.size w0 W) := hBW; have hsc := stepCode_any i bc mm (s + 1) c a (.mk k n kf) l r ks hl4 hr4 _ W (PRep.up hBW _ _ HV0.out) hCW (HRU.out.up hBW); have HSC : Hid (Calls Try.prog 92 _ W _) := hsc; (have hWe : ((w.alloc O).alloc (.cells #[.int .i64 0, .int .i64 0] 33 (0, 0))).setCell ⟨bc, 2, none⟩ (.int .i64 ((s : Int) + 1)) = W := by rw [hW]; congr 2); rw [hO] at hWe; clear hKW hCW hW0 hW1 hBW hsc hW; generalize stepC i (.mk a (.mk k n kf) l r ks) = sc at *; obtain ⟨j0, j1, j2, j3, j4, j5, j6⟩ := blk7 HW0.out; by_cases hsc0 : sc = 0
    · subst hsc0
      (rw [if_neg (fun h => h rfl)] at hld); by_cases hcut : a.data.toList = Ru.cut.text
      · rw [if_pos hcut] at hld
        obtain ⟨c1, hc1⟩ : ∃ c1, c1 = c + 1 := ⟨_, rfl⟩; rw [← hc1] at hld; obtain ⟨T, hT⟩ : ∃ T, T = looks i ks (d + 1) (s + 1) c1 := ⟨_, rfl⟩; rw [← hT] at hld; rw [hld]; have HT : Hid (looks i ks (d + 1) (s + 1) c1 = T) := hT.symm; (have HC1b : Hid (c1 ≤ s + 1) := by show _ ≤ _; omega); (have hae : a = ⟨#[99, 117, 116]⟩ := by apply ByteArray.ext; apply Array.ext'; exact hcut); subst hae; (have hc1I : (c : Int) + 1 = (c1 : Int) := by omega); (have hc1w : IntKind.i64.wrap (c1 : Int) = (c1 : Int) := wrap_small c1 (by omega)); clear hcut hT hld hc1
        go_enter Try.func72, Try.ntmps72
        go_wp2_with fail; refine HSC.out.mono ?_; rintro e w3 ⟨rfl, hb3⟩; have hC3 := ck_below HCW.out hb3; obtain ⟨W4, hW4⟩ : ∃ W4, W4 = w3.setCell ⟨bc, 3, none⟩ (.int .i64 (c1 : Nat)) := ⟨_, rfl⟩; (have hC4 : Ck W4 bc i mm (s + 1) c1 := by rw [hW4]; exact ck_set3 hC3 c1); (have hK4 : KB1 bc w W4 := by rw [hW4]; exact (HKW.out.trans (kb_below hb3)).setCell (p := ⟨bc, 3, none⟩) (fun _ h => h rfl) _); (have hQa : W4.heap[w.heap.size]? = w3.heap[w.heap.size]? := by rw [hW4, Below.heap_setCell _ _ _ _ (by simpa using d3)]); (have hQb : W4.heap[w.heap.size + 1]? = w3.heap[w.heap.size + 1]? := by rw [hW4, Below.heap_setCell _ _ _ _ (by simpa using d4)]); have hQ0 := hQa.trans (below_keep hb3 HW0.out); have hQ1 := hQb.trans (below_keep hb3 HW1.out); clear hQa hQb; have HQ1 : Hid (W4.heap[w.heap.size + 1]? = some _) := hQ1; have HC4 : Hid (Ck W4 bc i mm (s + 1) c1) := hC4; have HKw4 : Hid (KB1 bc w W4) := hK4; have HB4 : Hid (Below w0.heap.size w0 W4) := kb_base HB0.out hbc hK4; clear i0 i1 i2 i3 f2 f3 j0 j1 j2 j3 j4 j5 j6; obtain ⟨i0, i1, i2, i3, f2, f3⟩ := blk4 (show w3.heap[bc]? = _ from hC3); obtain ⟨j0, -⟩ := blk7 (below_keep hb3 HW0.out); obtain ⟨-, j1, j2, j3, j4, j5, j6⟩ := blk7 hQ0; have hWe4 := hW4.symm; clear hW4 hC3 hC4 hK4 hQ0 hQ1; go_wp2_with fail; clear hWe4 i0 i1 i2 i3 f2 f3; clear j0 j1 j2 j3 j4 j5 j6; have zW4 : w.heap.size + 1 < W4.heap.size := lt_of_block HQ1.out
        go_loopg [51] ks.length (fun g cc wr => ∃ j s' c', j ≤ ks.length ∧ g = ks.length - j ∧ cc = .int .i64 (j : Nat) ∧ Hid (KB1 bc W4 wr) ∧ Hid (Ck wr bc i mm s' c') ∧ s' ≤ 20000 ∧ c' ≤ s' ∧ Hid (looks i (ks.drop j) (d + 1) s' c' = T))
        case atStart => exact ⟨0, s + 1, c1, by omega, by omega, rfl, Kept.refl _ _, HC4, hs5, HC1b.out, by show _ = _; rw [List.drop_zero]; exact HT.out⟩
        case round =>
          obtain ⟨j, s', c', hj, hg, rfl, HKr, HCr, hs', hc', HN⟩ := hrel; have HG : Hid (gk = ks.length - j) := hg; clear hg; have HBr : Hid (Below w0.heap.size w0 wr) := kb_base HB4.out hbc HKr.out; have HKwr : Hid (KB1 bc w wr) := HKw4.out.trans HKr.out; have zr := HKr.out.size; by_cases hlt : j < ks.length
          · obtain ⟨⟨ka, ⟨kk, kn, kkf⟩, kl, kr, kks⟩, hki⟩ : ∃ f, ks[j]? = some f := ⟨_, List.getElem?_eq_getElem hlt⟩
            (obtain ⟨b, off, rfl, hrs⟩ := HKS.out (fun e => by rw [e] at hlt; simp at hlt)); obtain ⟨sf2, cf2, al2, cl2, ar2, cr2, sl2, cap2, x0, x1, x2, x3, x4, x5, x6, hrep⟩ := (PReps.up HBr.out b off ks hrs).at j ka kk kn kkf kl kr kks hki; obtain ⟨sf3, cf3, al3, cl3, ar3, cr3, sl3, cap3, z0, z1, z2, z3, z4, z5, z6, hrep0⟩ := hrs.at j ka kk kn kkf kl kr kks hki; have e3 := (HBr.out.cell (p := ⟨b, off + j * 7 + 3, none⟩) (lt_of_cell z3)).trans z3; have e4 := (HBr.out.cell (p := ⟨b, off + j * 7 + 4, none⟩) (lt_of_cell z4)).trans z4; have e5 := (HBr.out.cell (p := ⟨b, off + j * 7 + 5, none⟩) (lt_of_cell z5)).trans z5; have e6 := (HBr.out.cell (p := ⟨b, off + j * 7 + 6, none⟩) (lt_of_cell z6)).trans z6; rw [x3] at e3; rw [x4] at e4; rw [x5] at e5; rw [x6] at e6; simp only [Option.some.injEq, Value.slice.injEq, true_and] at e3 e4 e5 e6; obtain ⟨rfl, rfl⟩ := e3; obtain ⟨rfl, rfl⟩ := e4; obtain ⟨rfl, rfl⟩ := e5; obtain ⟨rfl, rfl⟩ := e6; (have hltI : (j : Int) < (ks.length : Int) := by omega); (have hlc : (j : Int) < (cap : Int) := by omega); have hds := HN.out; rw [looks_drop hki] at hds; have hll := look_le i (.mk ka (.mk kk kn kkf) kl kr kks) (d + 1) s' c' hs' hc'; (have hih := fun (wx : World) (hb : Below w0.heap.size w0 wx) (hck : Ck wx bc i mm s' c') => HIH.out (.mk ka (.mk kk kn kkf) kl kr kks) _ w0 wx bc mm (d + 1) s' c' (Nat.lt_of_le_of_lt (pfsizes_get hki) HM.out) (HSK.out _ (List.mem_of_getElem? hki)) hrep0 HRU.out hb hbc hck hs' hc' hd5); generalize look i (.mk ka (.mk kk kn kkf) kl kr kks) (d + 1) s' c' = lk at *; obtain ⟨⟨lc, la⟩, ls, lcu⟩ := lk; (have HI : Hid (∀ (wx : World), Below w0.heap.size w0 wx → Ck wx bc i mm s' c' → Calls Try.prog 72 _ wx fun e w' => e = .returned (.agg #[.int .i64 lc, .int .i64 la]) ∧ Ck w' bc i mm ls lcu ∧ KB1 bc wx w') := hih); (have HD : Hid ((if lc ≠ 0 then ((lc, la), ls, lcu) else looks i (ks.drop (j + 1)) (d + 1) ls lcu) = T) := hds); have hll1 : ls ≤ 20000 := hll.1; have hll2 : lcu ≤ ls := hll.2; have zb : b < wr.heap.size := lt_of_cell x0; (have e1 : ¬ b = wr.heap.size := by omega); clear hki hrs hds hih hrep hrep0 z0 z1 z2 z3 z4 z5 z6 hll HN; go_wp2_with fail; refine (HI.out _ (below_more HBr.out _) (ck_alloc HCr.out _)).mono ?_; rintro e w5 ⟨rfl, hck5, hkb5⟩; have HK5 : Hid (KB1 bc wr w5) := (kb_below (below_more (Below.refl _ wr) _)).trans hkb5; have HC5 : Hid (Ck w5 bc i mm ls lcu) := hck5; have q5 := kb_keep HK5.out d4 (kb_keep HKr.out d4 HQ1.out); have HQ5 : Hid (w5.heap[w.heap.size + 1]? = some _) := q5; obtain ⟨y0, y1, y2, y3⟩ := blk2 q5; have z5 : w.heap.size + 1 < w5.heap.size := lt_of_block q5; (have e2 : ¬ w5.heap.size = w.heap.size + 1 := by omega); (have e3 : ¬ w.heap.size + 1 = w5.heap.size := by omega); clear hck5 hkb5 x0 x1 x2 x3 x4 x5 x6; by_cases hl0 : lc = 0
            · subst hl0
              have HT2 : Hid (looks i (ks.drop (j + 1)) (d + 1) ls lcu = T) := by
                have := HD.out
                rwa [if_neg (fun h => h rfl)] at this
              clear HD; go_wp2_with fail
              go_roundg (ks.length - (j + 1))
              case measure => have := HG.out; omega
              case rel => exact ⟨j + 1, ls, lcu, by omega, rfl, by go_num, (HKr.out.trans HK5.out).trans (kb_below (below_more (Below.refl _ w5) _)), ck_alloc HC5.out _, hll1, hll2, HT2⟩
            · have HT2 : Hid (T = ((lc, la), ls, lcu)) := by
                have := HD.out; rw [if_pos hl0] at this; exact this.symm
              (have hlJ : (lc != 0) = true := by simpa using hl0); clear HD; go_wp2_with fail; have f2 := set2 q5 (.int .i64 lc) (.int .i64 la); (have hC3 := ck_other (ck_other HC5.out (p := ⟨w.heap.size + 1, 0, none⟩) (by simpa using d4) (.int .i64 lc)) (p := ⟨w.heap.size + 1, 1, none⟩) (by simpa using d4) (.int .i64 la)); (have b2 : KB1 bc w ((w5.setCell ⟨w.heap.size + 1, 0, none⟩ (.int .i64 lc)).setCell ⟨w.heap.size + 1, 1, none⟩ (.int .i64 la)) := ((HKwr.out.trans HK5.out).setCell (p := ⟨w.heap.size + 1, 0, none⟩) (fun h => absurd h (Nat.not_lt.2 (Nat.le_succ _))) _).setCell (p := ⟨w.heap.size + 1, 1, none⟩) (fun h => absurd h (Nat.not_lt.2 (Nat.le_succ _))) _); (have hsz : ((w5.setCell ⟨w.heap.size + 1, 0, none⟩ (.int .i64 lc)).setCell ⟨w.heap.size + 1, 1, none⟩ (.int .i64 la)).heap.size = w5.heap.size := by simp [World.setCell]); generalize World.setCell _ _ _ = F at f2 b2 hC3 hsz ⊢; clear y0 y1 y2 y3; obtain ⟨k1, k2, -⟩ := blk2 f2; have d9 : w.heap.size + 1 < F.heap.size := lt_of_block f2; (exact bodyPost_ret (v := .agg #[.int .i64 lc, .int .i64 la]) (by simp [results, Try.results72, go_sem, k1, k2, d9]) rfl ⟨by rw [HT2.out], by rw [HT2.out]; exact ck_alloc hC3 _, b2.trans (kb_below (below_more (Below.refl _ F) _))⟩)
          · have HT2 : Hid (T = ((0, 0), s', c')) := by
              have := HN.out; (rw [List.drop_of_length_le (by omega), looks] at this); exact this.symm
            (have hge : ¬ (j : Int) < (ks.length : Int) := by omega); have q5 := kb_keep HKr.out d4 HQ1.out; obtain ⟨y0, y1, y2, y3⟩ := blk2 q5; clear HN; go_wp2_with fail; have f2 := set2 q5 (.int .i64 0) (.int .i64 0); (have hC3 := ck_other (ck_other HCr.out (p := ⟨w.heap.size + 1, 0, none⟩) (by simpa using d4) (.int .i64 0)) (p := ⟨w.heap.size + 1, 1, none⟩) (by simpa using d4) (.int .i64 0)); (have b2 : KB1 bc w ((wr.setCell ⟨w.heap.size + 1, 0, none⟩ (.int .i64 0)).setCell ⟨w.heap.size + 1, 1, none⟩ (.int .i64 0)) := (HKwr.out.setCell (p := ⟨w.heap.size + 1, 0, none⟩) (fun h => absurd h (Nat.not_lt.2 (Nat.le_succ _))) _).setCell (p := ⟨w.heap.size + 1, 1, none⟩) (fun h => absurd h (Nat.not_lt.2 (Nat.le_succ _))) _); generalize World.setCell _ _ _ = F at f2 b2 hC3 ⊢; clear y0 y1 y2 y3; obtain ⟨k1, k2, -⟩ := blk2 f2; (exact bodyPost_ret (v := .agg #[.int .i64 0, .int .i64 0]) (by simp [results, Try.results72, go_sem, k1, k2]) rfl ⟨by rw [HT2.out], by rw [HT2.out]; exact hC3, b2⟩)
      · rw [if_neg hcut] at hld
        obtain ⟨T, hT⟩ : ∃ T, T = looks i ks (d + 1) (s + 1) c := ⟨_, rfl⟩; rw [← hT] at hld; rw [hld]; have HT : Hid (looks i ks (d + 1) (s + 1) c = T) := hT.symm; (have HC1b : Hid (c ≤ s + 1) := by show _ ≤ _; omega); (have hcj : (a.toList == ([99, 117, 116] : List UInt8)) = false := by rw [ByteArray.toList_eq]; simpa [Ru.text] using hcut); clear hcut hT hld
        go_enter Try.func72, Try.ntmps72
        go_wp2_with fail; refine HSC.out.mono ?_; rintro e W4 ⟨rfl, hb3⟩; have hC3 := ck_below HCW.out hb3; have HQ1 : Hid (W4.heap[w.heap.size + 1]? = some _) := below_keep hb3 HW1.out; have HC4 : Hid (Ck W4 bc i mm (s + 1) c) := hC3; have HKw4 : Hid (KB1 bc w W4) := HKW.out.trans (kb_below hb3); have HB4 : Hid (Below w0.heap.size w0 W4) := kb_base HB0.out hbc HKw4.out; clear i0 i1 i2 i3 f2 f3 j0 j1 j2 j3 j4 j5 j6 hC3; obtain ⟨j0, j1, j2, j3, j4, j5, j6⟩ := blk7 (below_keep hb3 HW0.out); go_wp2_with fail; clear j0 j1 j2 j3 j4 j5 j6; have zW4 : w.heap.size + 1 < W4.heap.size := lt_of_block HQ1.out
        go_loopg [51] ks.length (fun g cc wr => ∃ j s' c', j ≤ ks.length ∧ g = ks.length - j ∧ cc = .int .i64 (j : Nat) ∧ Hid (KB1 bc W4 wr) ∧ Hid (Ck wr bc i mm s' c') ∧ s' ≤ 20000 ∧ c' ≤ s' ∧ Hid (looks i (ks.drop j) (d + 1) s' c' = T))
        case atStart => exact ⟨0, s + 1, c, by omega, by omega, rfl, Kept.refl _ _, HC4, hs5, HC1b.out, by show _ = _; rw [List.drop_zero]; exact HT.out⟩
        case round =>
          obtain ⟨j, s', c', hj, hg, rfl, HKr, HCr, hs', hc', HN⟩ := hrel; have HG : Hid (gk = ks.length - j) := hg; clear hg; have HBr : Hid (Below w0.heap.size w0 wr) := kb_base HB4.out hbc HKr.out; have HKwr : Hid (KB1 bc w wr) := HKw4.out.trans HKr.out; have zr := HKr.out.size; by_cases hlt : j < ks.length
          · obtain ⟨⟨ka, ⟨kk, kn, kkf⟩, kl, kr, kks⟩, hki⟩ : ∃ f, ks[j]? = some f := ⟨_, List.getElem?_eq_getElem hlt⟩
            (obtain ⟨b, off, rfl, hrs⟩ := HKS.out (fun e => by rw [e] at hlt; simp at hlt)); obtain ⟨sf2, cf2, al2, cl2, ar2, cr2, sl2, cap2, x0, x1, x2, x3, x4, x5, x6, hrep⟩ := (PReps.up HBr.out b off ks hrs).at j ka kk kn kkf kl kr kks hki; obtain ⟨sf3, cf3, al3, cl3, ar3, cr3, sl3, cap3, z0, z1, z2, z3, z4, z5, z6, hrep0⟩ := hrs.at j ka kk kn kkf kl kr kks hki; have e3 := (HBr.out.cell (p := ⟨b, off + j * 7 + 3, none⟩) (lt_of_cell z3)).trans z3; have e4 := (HBr.out.cell (p := ⟨b, off + j * 7 + 4, none⟩) (lt_of_cell z4)).trans z4; have e5 := (HBr.out.cell (p := ⟨b, off + j * 7 + 5, none⟩) (lt_of_cell z5)).trans z5; have e6 := (HBr.out.cell (p := ⟨b, off + j * 7 + 6, none⟩) (lt_of_cell z6)).trans z6; rw [x3] at e3; rw [x4] at e4; rw [x5] at e5; rw [x6] at e6; simp only [Option.some.injEq, Value.slice.injEq, true_and] at e3 e4 e5 e6; obtain ⟨rfl, rfl⟩ := e3; obtain ⟨rfl, rfl⟩ := e4; obtain ⟨rfl, rfl⟩ := e5; obtain ⟨rfl, rfl⟩ := e6; (have hltI : (j : Int) < (ks.length : Int) := by omega); (have hlc : (j : Int) < (cap : Int) := by omega); have hds := HN.out; rw [looks_drop hki] at hds; have hll := look_le i (.mk ka (.mk kk kn kkf) kl kr kks) (d + 1) s' c' hs' hc'; (have hih := fun (wx : World) (hb : Below w0.heap.size w0 wx) (hck : Ck wx bc i mm s' c') => HIH.out (.mk ka (.mk kk kn kkf) kl kr kks) _ w0 wx bc mm (d + 1) s' c' (Nat.lt_of_le_of_lt (pfsizes_get hki) HM.out) (HSK.out _ (List.mem_of_getElem? hki)) hrep0 HRU.out hb hbc hck hs' hc' hd5); generalize look i (.mk ka (.mk kk kn kkf) kl kr kks) (d + 1) s' c' = lk at *; obtain ⟨⟨lc, la⟩, ls, lcu⟩ := lk; (have HI : Hid (∀ (wx : World), Below w0.heap.size w0 wx → Ck wx bc i mm s' c' → Calls Try.prog 72 _ wx fun e w' => e = .returned (.agg #[.int .i64 lc, .int .i64 la]) ∧ Ck w' bc i mm ls lcu ∧ KB1 bc wx w') := hih); (have HD : Hid ((if lc ≠ 0 then ((lc, la), ls, lcu) else looks i (ks.drop (j + 1)) (d + 1) ls lcu) = T) := hds); have hll1 : ls ≤ 20000 := hll.1; have hll2 : lcu ≤ ls := hll.2; have zb : b < wr.heap.size := lt_of_cell x0; (have e1 : ¬ b = wr.heap.size := by omega); clear hki hrs hds hih hrep hrep0 z0 z1 z2 z3 z4 z5 z6 hll HN; go_wp2_with fail; refine (HI.out _ (below_more HBr.out _) (ck_alloc HCr.out _)).mono ?_; rintro e w5 ⟨rfl, hck5, hkb5⟩; have HK5 : Hid (KB1 bc wr w5) := (kb_below (below_more (Below.refl _ wr) _)).trans hkb5; have HC5 : Hid (Ck w5 bc i mm ls lcu) := hck5; have q5 := kb_keep HK5.out d4 (kb_keep HKr.out d4 HQ1.out); have HQ5 : Hid (w5.heap[w.heap.size + 1]? = some _) := q5; obtain ⟨y0, y1, y2, y3⟩ := blk2 q5; have z5 : w.heap.size + 1 < w5.heap.size := lt_of_block q5; (have e2 : ¬ w5.heap.size = w.heap.size + 1 := by omega); (have e3 : ¬ w.heap.size + 1 = w5.heap.size := by omega); clear hck5 hkb5 x0 x1 x2 x3 x4 x5 x6; by_cases hl0 : lc = 0
            · subst hl0
              have HT2 : Hid (looks i (ks.drop (j + 1)) (d + 1) ls lcu = T) := by
                have := HD.out
                rwa [if_neg (fun h => h rfl)] at this
              clear HD; go_wp2_with fail
              go_roundg (ks.length - (j + 1))
              case measure => have := HG.out; omega
              case rel => exact ⟨j + 1, ls, lcu, by omega, rfl, by go_num, (HKr.out.trans HK5.out).trans (kb_below (below_more (Below.refl _ w5) _)), ck_alloc HC5.out _, hll1, hll2, HT2⟩
            · have HT2 : Hid (T = ((lc, la), ls, lcu)) := by
                have := HD.out; rw [if_pos hl0] at this; exact this.symm
              (have hlJ : (lc != 0) = true := by simpa using hl0); clear HD; go_wp2_with fail; have f2 := set2 q5 (.int .i64 lc) (.int .i64 la); (have hC3 := ck_other (ck_other HC5.out (p := ⟨w.heap.size + 1, 0, none⟩) (by simpa using d4) (.int .i64 lc)) (p := ⟨w.heap.size + 1, 1, none⟩) (by simpa using d4) (.int .i64 la)); (have b2 : KB1 bc w ((w5.setCell ⟨w.heap.size + 1, 0, none⟩ (.int .i64 lc)).setCell ⟨w.heap.size + 1, 1, none⟩ (.int .i64 la)) := ((HKwr.out.trans HK5.out).setCell (p := ⟨w.heap.size + 1, 0, none⟩) (fun h => absurd h (Nat.not_lt.2 (Nat.le_succ _))) _).setCell (p := ⟨w.heap.size + 1, 1, none⟩) (fun h => absurd h (Nat.not_lt.2 (Nat.le_succ _))) _); (have hsz : ((w5.setCell ⟨w.heap.size + 1, 0, none⟩ (.int .i64 lc)).setCell ⟨w.heap.size + 1, 1, none⟩ (.int .i64 la)).heap.size = w5.heap.size := by simp [World.setCell]); generalize World.setCell _ _ _ = F at f2 b2 hC3 hsz ⊢; clear y0 y1 y2 y3; obtain ⟨k1, k2, -⟩ := blk2 f2; have d9 : w.heap.size + 1 < F.heap.size := lt_of_block f2; (exact bodyPost_ret (v := .agg #[.int .i64 lc, .int .i64 la]) (by simp [results, Try.results72, go_sem, k1, k2, d9]) rfl ⟨by rw [HT2.out], by rw [HT2.out]; exact ck_alloc hC3 _, b2.trans (kb_below (below_more (Below.refl _ F) _))⟩)
          · have HT2 : Hid (T = ((0, 0), s', c')) := by
              have := HN.out; (rw [List.drop_of_length_le (by omega), looks] at this); exact this.symm
            (have hge : ¬ (j : Int) < (ks.length : Int) := by omega); have q5 := kb_keep HKr.out d4 HQ1.out; obtain ⟨y0, y1, y2, y3⟩ := blk2 q5; clear HN; go_wp2_with fail; have f2 := set2 q5 (.int .i64 0) (.int .i64 0); (have hC3 := ck_other (ck_other HCr.out (p := ⟨w.heap.size + 1, 0, none⟩) (by simpa using d4) (.int .i64 0)) (p := ⟨w.heap.size + 1, 1, none⟩) (by simpa using d4) (.int .i64 0)); (have b2 : KB1 bc w ((wr.setCell ⟨w.heap.size + 1, 0, none⟩ (.int .i64 0)).setCell ⟨w.heap.size + 1, 1, none⟩ (.int .i64 0)) := (HKwr.out.setCell (p := ⟨w.heap.size + 1, 0, none⟩) (fun h => absurd h (Nat.not_lt.2 (Nat.le_succ _))) _).setCell (p := ⟨w.heap.size + 1, 1, none⟩) (fun h => absurd h (Nat.not_lt.2 (Nat.le_succ _))) _); generalize World.setCell _ _ _ = F at f2 b2 hC3 ⊢; clear y0 y1 y2 y3; obtain ⟨k1, k2, -⟩ := blk2 f2; (exact bodyPost_ret (v := .agg #[.int .i64 0, .int .i64 0]) (by simp [results, Try.results72, go_sem, k1, k2]) rfl ⟨by rw [HT2.out], by rw [HT2.out]; exact hC3, b2⟩)
    · rw [if_pos hsc0] at hld
      rw [hld]; (have hscJ : (sc != 0) = true := by simpa using hsc0)
      go_enter Try.func72, Try.ntmps72
      go_wp2_with fail; refine HSC.out.mono ?_; rintro e w3 ⟨rfl, hb3⟩; have q1 := below_keep hb3 HW1.out; obtain ⟨y0, y1, y2, y3⟩ := blk2 q1; clear i0 i1 i2 i3 f2 f3 j0 j1 j2 j3 j4 j5 j6; go_wp2_with fail; have f2 := set2 q1 (.int .i64 sc) (.int .i64 (s : Nat)); (have hC3 := ck_other (ck_other (ck_below HCW.out hb3) (p := ⟨w.heap.size + 1, 0, none⟩) (by simpa using d4) (.int .i64 sc)) (p := ⟨w.heap.size + 1, 1, none⟩) (by simpa using d4) (.int .i64 (s : Nat))); (have b2 : KB1 bc w ((w3.setCell ⟨w.heap.size + 1, 0, none⟩ (.int .i64 sc)).setCell ⟨w.heap.size + 1, 1, none⟩ (.int .i64 (s : Nat))) := ((HKW.out.trans (kb_below hb3)).setCell (p := ⟨w.heap.size + 1, 0, none⟩) (fun h => absurd h (Nat.not_lt.2 (Nat.le_succ _))) _).setCell (p := ⟨w.heap.size + 1, 1, none⟩) (fun h => absurd h (Nat.not_lt.2 (Nat.le_succ _))) _); generalize World.setCell _ _ _ = F at f2 b2 hC3 ⊢; clear y0 y1 y2 y3; obtain ⟨k1, k2, -⟩ := blk2 f2; (exact bodyPost_ret (v := .agg #[.int .i64 sc, .int .i64 (s : Nat)]) (by simp [results, Try.results72, go_sem, k1, k2]) rfl ⟨rfl, hC3, b2⟩)
theorem plook_all (i : Bool) : ∀ m, PLookP i m
  | 0 => fun _ _ _ _ _ _ _ _ _ h => absurd h (Nat.not_lt_zero _)
  | m + 1 => plook_step i m (plook_all i m)
end Go.Proofs.Ytffkoiemnchdgae
