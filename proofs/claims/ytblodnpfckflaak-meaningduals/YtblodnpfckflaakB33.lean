/- Texts of one proof, one behind the other: SN7. -/
import Derived.Test.YtblodnpfckflaakB32
/- Walks: the lists of a structure, looked at. -/
namespace Go.Proofs.Ytblodnpfckflaak
open Go.RowKit Go.Sort Go.Maps Go.WideMaps

/-- Names that came so far, in a map. -/
def GSeen (w : World) (b : Nat) (seen : List (List UInt8)) (c : Nat) : Prop := ∃ mu, GMap w b mu c ∧ (∀ s v, mu s = some v → ∃ x : Int, v = .int .i64 x) ∧ ∀ s, (mu s).isSome = decide (s ∈ seen)
theorem GSeen.same {w w' : World} {b c : Nat} {seen : List (List UInt8)} (h : GSeen w b seen c) (e : w'.heap[b]? = w.heap[b]?) : GSeen w' b seen c := by
  obtain ⟨mu, h1, h2⟩ := h; exact ⟨mu, h1.same e, h2⟩
theorem GSeen.lt {w : World} {b c : Nat} {seen : List (List UInt8)} (h : GSeen w b seen c) : b < w.heap.size := by
  obtain ⟨mu, h1, h2⟩ := h; exact h1.lt
theorem GSeen.noCells {w : World} {b c : Nat} {seen : List (List UInt8)} (h : GSeen w b seen c) (cs : Array Value) (T : TypeId) (f : Nat × Nat) : w.heap[b]? ≠ some (.cells cs T f) := by
  obtain ⟨mu, h1, h2⟩ := h; exact h1.noCells cs T f
theorem GSeen.up {w w' : World} {b c : Nat} {seen : List (List UInt8)} (h : GSeen w b seen c) (hb : Below w.heap.size w w') : GSeen w' b seen c := h.same (hb.block _ h.lt)
def LsPost (o : Option Int) (bm c : Nat) (seen : List (List UInt8)) (nm : List UInt8) (at_ : Nat) (w : World) (e : Ending) (w' : World) : Prop := match o with
  | some code => e = .panicked (stopC code (at_ : Nat)) ∧ Below w.heap.size w w'
  | none => e = .returned (.tuple #[]) ∧ GSeen w' bm (nm :: seen) (c + 1) ∧ Kept (· ≠ bm) w w'
theorem lookS_any (N : Nat) (hN : N ≤ 8) (bm c : Nat) (hc : c ≤ 1000) (seen : List (List UInt8)) (nm : ByteArray) (hn : nm.size ≤ maxLen) (ar : Int) (filled at_ : Nat) (w : World) (hg : GSeen w bm seen c) :
    Calls Try.prog 52 #[.agg #[.int .i64 (N : Nat), .map (some bm)], .string nm, .int .i64 ar, .int .i64 (filled : Nat), .int .i64 (at_ : Nat)] w (LsPost (lkF N (decide (nm.data.toList ∈ seen)) nm.data.toList ar filled) bm c seen nm.data.toList at_ w) := by
  obtain ⟨mu, h1, h2, h3⟩ := hg; refine (look_nm N hN bm c hc mu nm hn ar filled at_ w h1 h2).mono ?_; rw [h3]; intro e w' h; unfold LkPost at h; unfold LsPost
  revert h
  rcases lkF N (decide (nm.data.toList ∈ seen)) nm.data.toList ar filled with _ | code
  · intro h
    obtain ⟨g1, g2, g3⟩ := h; (refine ⟨g1, ⟨_, g2, fun s v hv => ?_, fun s => ?_⟩, g3⟩)
    · unfold gPut at hv
      split at hv
      · cases hv; exact ⟨_, rfl⟩
      · exact h2 s v hv
    · unfold gPut
      by_cases e : s = nm.data.toList
      · simp [e]
      · rw [if_neg e, h3]; simp [e]
  · exact fun h => h
def cfF (N : Nat) : Nat → List (List UInt8) → List FnD → Option (Int × Nat)
  | _, _, [] => none
  | i, seen, f :: fs => match lkF N (decide (f.nm.data.toList ∈ seen)) f.nm.data.toList f.ar f.tab.length with
    | some c => some (c, i)
    | none => if (f.tab.any fun y => !thingB N y) = true then some (5, i) else cfF N (i + 1) (f.nm.data.toList :: seen) fs
def pfF (N : Nat) : Nat → List (List UInt8) → List PdD → Option (Int × Nat)
  | _, _, [] => none
  | i, seen, f :: fs => match lkF N (decide (f.nm.data.toList ∈ seen)) f.nm.data.toList f.ar f.bits.length with
    | some c => some (c, i)
    | none => pfF N (i + 1) (f.nm.data.toList :: seen) fs
theorem cfF_drop {N i a : Nat} {seen : List (List UInt8)} {l : List FnD} {f : FnD} (h : l[i]? = some f) : cfF N a seen (l.drop i) = match lkF N (decide (f.nm.data.toList ∈ seen)) f.nm.data.toList f.ar f.tab.length with | some c => some (c, a) | none => if (f.tab.any fun y => !thingB N y) = true then some (5, a) else cfF N (a + 1) (f.nm.data.toList :: seen) (l.drop (i + 1)) := by
  have hi := (List.getElem?_eq_some_iff.1 h).1; rw [List.drop_eq_getElem_cons hi, cfF]; rw [List.getElem?_eq_getElem hi] at h; rw [Option.some.inj h]
theorem pfF_drop {N i a : Nat} {seen : List (List UInt8)} {l : List PdD} {f : PdD} (h : l[i]? = some f) : pfF N a seen (l.drop i) = match lkF N (decide (f.nm.data.toList ∈ seen)) f.nm.data.toList f.ar f.bits.length with | some c => some (c, a) | none => pfF N (a + 1) (f.nm.data.toList :: seen) (l.drop (i + 1)) := by
  have hi := (List.getElem?_eq_some_iff.1 h).1; rw [List.drop_eq_getElem_cons hi, pfF]; rw [List.getElem?_eq_getElem hi] at h; rw [Option.some.inj h]
/-- What is said of the lists. -/
def lsF (N : Nat) (s : StD) : Option (Int × Nat) := match cfF N 0 [] s.funs with
  | some c => some c
  | none => pfF N s.funs.length [] s.preds
def LsEnd (o : Option (Int × Nat)) (e : Ending) : Prop := match o with
  | none => e = .returned (.tuple #[])
  | some p => e = .panicked (stopC p.1 (p.2 : Nat))
theorem two_below {w0 w w' : World} {m1 m2 : Nat} (hb : Below w0.heap.size w0 w) (h1 : w0.heap.size ≤ m1) (h2 : w0.heap.size ≤ m2) (hk : Kept (fun b => b ≠ m1 ∧ b ≠ m2) w w') : Below w0.heap.size w0 w' :=
  hb.trans (hk.below hb.size fun b hb2 => ⟨by omega, by omega⟩)
set_option maxRecDepth 10000 in
set_option maxHeartbeats 16000000 in
theorem lists2_any (N : Nat) (hN : N ≤ 8) (s : StD) (w0 w : World) (af ap : Option Addr) (cf cp : Nat) (sb cb1 cb2 nb m1 m2 : Nat) (hF : FnL w0 (.slice af s.funs.length cf) s.funs) (hP : PdL w0 (.slice ap s.preds.length cp) s.preds) (hf10 : s.funs.length ≤ 10) (hp10 : s.preds.length ≤ 10) (hb : Below w0.heap.size w0 w) (hm1 : w0.heap.size ≤ m1) (hm2 : w0.heap.size ≤ m2) (hne : m1 ≠ m2)
    (hsb : w.heap[sb]? = some (.cells #[.int .i64 (N : Nat), .slice af s.funs.length cf, .slice ap s.preds.length cp] 25 (0, 0))) (hc1 : w.heap[cb1]? = some (.cells #[.int .i64 (N : Nat), .map (some m1)] 90 (0, 0))) (hc2 : w.heap[cb2]? = some (.cells #[.int .i64 (N : Nat), .map (some m2)] 90 (0, 0))) (hnb : w.heap[nb]? = some (.cells #[.func (.func 49) #[] #[.pointer (some ⟨sb, 0, none⟩)]] 92 (0, 0))) (hg1 : GSeen w m1 [] 0) (hg2 : GSeen w m2 [] 0) :
    Calls Try.prog 51 #[.pointer (some ⟨sb, 0, none⟩), .pointer (some ⟨cb1, 0, none⟩), .pointer (some ⟨nb, 0, none⟩), .pointer (some ⟨cb2, 0, none⟩)] w fun e w' => LsEnd (lsF N s) e ∧ Kept (fun b => b ≠ m1 ∧ b ≠ m2) w w' := by
  obtain ⟨af', cf', e, f1, f2, f3⟩ := hF; simp only [Value.slice.injEq, true_and] at e; obtain ⟨rfl, rfl⟩ := e; obtain ⟨ap', cp', e, p1, p2, p3⟩ := hP; simp only [Value.slice.injEq, true_and] at e; obtain ⟨rfl, rfl⟩ := e; have HF : Hid (s.funs ≠ [] → ∃ g off, af = some ⟨g, off, none⟩ ∧ ∀ (i : Nat) (f : FnD), s.funs[i]? = some f → ∃ sl cp, w0.cell? ⟨g, off + i * 3, none⟩ = some (.string f.nm) ∧ w0.cell? ⟨g, off + i * 3 + 1, none⟩ = some (.int .i64 f.ar) ∧ w0.cell? ⟨g, off + i * 3 + 2, none⟩ = some (.slice sl f.tab.length cp) ∧ FnR w0 f (.agg #[.string f.nm, .int .i64 f.ar, .slice sl f.tab.length cp])) := f3; have HP : Hid (s.preds ≠ [] → ∃ g off, ap = some ⟨g, off, none⟩ ∧ ∀ (i : Nat) (f : PdD), s.preds[i]? = some f → ∃ sl cp, w0.cell? ⟨g, off + i * 3, none⟩ = some (.string f.nm) ∧ w0.cell? ⟨g, off + i * 3 + 1, none⟩ = some (.int .i64 f.ar) ∧ w0.cell? ⟨g, off + i * 3 + 2, none⟩ = some (.slice sl f.bits.length cp) ∧ PdR w0 f (.agg #[.string f.nm, .int .i64 f.ar, .slice sl f.bits.length cp])) := p3; (have nc : ∀ b cs T f, w.heap[b]? = some (.cells cs T f) → b ≠ m1 ∧ b ≠ m2 := fun b cs T f h => ⟨fun e => hg1.noCells cs T f (by rw [← e]; exact h), fun e => hg2.noCells cs T f (by rw [← e]; exact h)⟩); have HSb : Hid (w.heap[sb]? = some (.cells #[.int .i64 (N : Nat), .slice af s.funs.length cf, .slice ap s.preds.length cp] 25 (0, 0)) ∧ sb ≠ m1 ∧ sb ≠ m2) := ⟨hsb, nc _ _ _ _ hsb⟩; have HC1 : Hid (w.heap[cb1]? = some (.cells #[.int .i64 (N : Nat), .map (some m1)] 90 (0, 0)) ∧ cb1 ≠ m1 ∧ cb1 ≠ m2) := ⟨hc1, nc _ _ _ _ hc1⟩; have HC2 : Hid (w.heap[cb2]? = some (.cells #[.int .i64 (N : Nat), .map (some m2)] 90 (0, 0)) ∧ cb2 ≠ m1 ∧ cb2 ≠ m2) := ⟨hc2, nc _ _ _ _ hc2⟩; have HNb : Hid (w.heap[nb]? = some (.cells #[.func (.func 49) #[] #[.pointer (some ⟨sb, 0, none⟩)]] 92 (0, 0)) ∧ nb ≠ m1 ∧ nb ≠ m2) := ⟨hnb, nc _ _ _ _ hnb⟩; have HO : Hid (s.funs.length ≤ 10 ∧ s.preds.length ≤ 10 ∧ w0.heap.size ≤ m1 ∧ w0.heap.size ≤ m2 ∧ m1 ≠ m2 ∧ N ≤ 8) := ⟨hf10, hp10, hm1, hm2, hne, hN⟩; have HB : Hid (Below w0.heap.size w0 w) := hb; have HG1 : Hid (GSeen w m1 [] 0 ∧ GSeen w m2 [] 0) := ⟨hg1, hg2⟩; (have HL : Hid (lsF N s = match cfF N 0 [] s.funs with | some c => some c | none => pfF N s.funs.length [] s.preds) := rfl); (have hfI : ((s.funs.length : Nat) : Int) ≤ 10 := by omega); (have hpI : ((s.preds.length : Nat) : Int) ≤ 10 := by omega); (have hNI : ((N : Nat) : Int) ≤ 8 := by omega); have HE0 : Hid (cfF N 0 [] (s.funs.drop 0) = cfF N 0 [] s.funs) := rfl; obtain ⟨a0, a1, a2, -⟩ := blk3 hsb; clear f1 f2 f3 p1 p2 p3 nc hsb hc1 hc2 hnb hf10 hp10 hm1 hm2 hne hb hg1 hg2 hN
  go_enter Try.func51, Try.ntmps51
  go_wp2_with fail; clear a0 a1 a2
  go_loopg [11, 4] s.funs.length (fun g c b wr => ∃ i seen, i ≤ s.funs.length ∧ g = s.funs.length - i ∧ c = .int .i64 (i : Nat) ∧ Hid (cfF N i seen (s.funs.drop i) = cfF N 0 [] s.funs) ∧ Hid (GSeen wr m1 seen i) ∧ Hid (Kept (fun b => b ≠ m1 ∧ b ≠ m2) w wr) ∧ Hid (GSeen wr m2 [] 0))
  case atStart => exact ⟨0, [], by omega, by omega, rfl, HE0, HG1.out.1, Kept.refl _ _, HG1.out.2⟩
  case round =>
    obtain ⟨i, seen, hile, hg, rfl, HE, HS, HK, HS2⟩ := hrel; have HG : Hid (gk = s.funs.length - i) := hg; have HBr : Hid (Below w0.heap.size w0 wr) := two_below HB.out HO.out.2.2.1 HO.out.2.2.2.1 HK.out; clear hg; have qsb := (HK.out.block _ (lt_of_block HSb.out.1) HSb.out.2).trans HSb.out.1; have hs1 := lt_of_block qsb; by_cases hlt : i < s.funs.length
    · obtain ⟨f, hfi⟩ : ∃ x, s.funs[i]? = some x := ⟨_, List.getElem?_eq_getElem hlt⟩
      (obtain ⟨g, off, rfl, hc⟩ := HF.out (fun e => by rw [e] at hlt; simp at hlt)); obtain ⟨sl, cq, z0, z1, z2, hfr⟩ := hc i f hfi; have y0 := (HBr.out.cell (lt_of_cell z0)).trans z0; have y1 := (HBr.out.cell (lt_of_cell z1)).trans z1; have y2 := (HBr.out.cell (lt_of_cell z2)).trans z2; (have hltI : (i : Int) < (s.funs.length : Int) := by omega); have hd := HE.out; rw [cfF_drop hfi] at hd; obtain ⟨sl', cq', e, hnm, hil⟩ := hfr; simp only [Value.agg.injEq, Array.mk.injEq, List.cons.injEq, Value.slice.injEq, and_true, true_and] at e; obtain ⟨rfl, rfl⟩ := e
      have htl : ((f.tab.length : Nat) : Int) ≤ 9223372036854775807 := by
        obtain ⟨_, _, _, h1, h2, _⟩ := hil; unfold maxLen at h2; omega
      (have HLk : Hid (∀ W, GSeen W m1 seen i → Calls Try.prog 52 #[.agg #[.int .i64 (N : Nat), .map (some m1)], .string f.nm, .int .i64 f.ar, .int .i64 (f.tab.length : Nat), .int .i64 (i : Nat)] W (LsPost (lkF N (decide (f.nm.data.toList ∈ seen)) f.nm.data.toList f.ar f.tab.length) m1 i seen f.nm.data.toList i W)) := fun W h => lookS_any N HO.out.2.2.2.2.2 m1 i (by have := HO.out.1; omega) seen f.nm hnm f.ar f.tab.length i W h); have HIl : Hid (IL w0 (.slice sl f.tab.length cq) f.tab) := hil; have HLt : Hid (i < s.funs.length) := hlt; have qc1 := (HK.out.block _ (lt_of_block HC1.out.1) HC1.out.2).trans HC1.out.1; have HQn : Hid (wr.heap[nb]? = some (.cells #[.func (.func 49) #[] #[.pointer (some ⟨sb, 0, none⟩)]] 92 (0, 0))) := (HK.out.block _ (lt_of_block HNb.out.1) HNb.out.2).trans HNb.out.1; have HQs : Hid (wr.heap[sb]? = some (.cells #[.int .i64 (N : Nat), .slice (some ⟨g, off, none⟩) s.funs.length cf, .slice ap s.preds.length cp] 25 (0, 0))) := qsb; obtain ⟨b0, b1, -⟩ := blk2 qc1; have hs2 := lt_of_block qc1; clear hfi hc z0 z1 z2 hlt hile HF hnm hil qsb qc1
      rcases hlk : lkF N (decide (f.nm.data.toList ∈ seen)) f.nm.data.toList f.ar f.tab.length with _ | code
      · rw [hlk] at HLk hd
        simp only at hd; clear hlk
        rcases htb : (f.tab.any fun y => !thingB N y) with _ | _
        · rw [htb] at hd
          simp only [Bool.false_eq_true, if_false] at hd; have HD : Hid (cfF N (i + 1) (f.nm.data.toList :: seen) (s.funs.drop (i + 1)) = cfF N 0 [] s.funs) := hd; (have HCn : Hid (∀ W, Below w0.heap.size w0 W → W.heap[sb]? = some (.cells #[.int .i64 (N : Nat), .slice (some ⟨g, off, none⟩) s.funs.length cf, .slice ap s.preds.length cp] 25 (0, 0)) → Calls Try.prog 53 #[.slice sl f.tab.length cq, .func (.func 49) #[] #[.pointer (some ⟨sb, 0, none⟩)]] W fun e w' => e = .returned (.bool false) ∧ w' = W) := fun W h1 h2 => by rw [← htb]; exact containsNo_any N f.tab _ sb _ _ W (HIl.out.up h1) h2); clear htb hd
          go_wp2_with (first
            | (go_at_call 52
               refine (HLk.out _ (HS.out.up (below_more (Below.refl _ _) _))).mono ?_; rintro e w4 ⟨rfl, hg4, hk4⟩; (have hk5 : Kept (fun b => b ≠ m1 ∧ b ≠ m2) wr w4 := ((Kept.refl _ _).alloc _).trans (hk4.mono fun _ _ h => h.1)); (have HK4 : Hid (GSeen w4 m1 (f.nm.data.toList :: seen) (i + 1) ∧ Kept (fun b => b ≠ m1 ∧ b ≠ m2) w w4 ∧ GSeen w4 m2 [] 0) := ⟨hg4, HK.out.trans hk5, HS2.out.same ((hk4.block m2 (by have := HS2.out.lt; simp; omega) HO.out.2.2.2.2.1.symm).trans (Below.heap_alloc _ _ _ HS2.out.lt))⟩); (have q4 := (hk4.block wr.heap.size (by simp) (by have := HS.out.lt; omega)).trans (blk_new wr _)); have n4 := (hk5.block _ (lt_of_block HQn.out) HNb.out.2).trans HQn.out; have HS4 : Hid (w4.heap[sb]? = some (.cells #[.int .i64 (N : Nat), .slice (some ⟨g, off, none⟩) s.funs.length cf, .slice ap s.preds.length cp] 25 (0, 0))) := (hk5.block _ (lt_of_block HQs.out) HSb.out.2).trans HQs.out; obtain ⟨d0, d1, d2, -⟩ := blk3 q4; obtain ⟨l0, l1⟩ := blk1 n4
               clear hg4 hk4 hk5 q4 n4)
            | (go_at_call 53
               refine (HCn.out _ (two_below HB.out HO.out.2.2.1 HO.out.2.2.2.1 HK4.out.2.1) HS4.out).mono ?_; rintro e w5 ⟨rfl, h5⟩
               obtain rfl : w4 = w5 := h5.symm)
            | fail)
          go_roundg (s.funs.length - (i + 1))
          case measure => have := HG.out; have := HLt.out; omega
          case rel => exact ⟨i + 1, _, HLt.out, rfl, by go_num, HD, HK4.out.1, HK4.out.2.1, HK4.out.2.2⟩
        · rw [htb] at hd
          simp only [if_true] at hd; have HD : Hid (some ((5 : Int), i) = cfF N 0 [] s.funs) := hd; (have HCn : Hid (∀ W, Below w0.heap.size w0 W → W.heap[sb]? = some (.cells #[.int .i64 (N : Nat), .slice (some ⟨g, off, none⟩) s.funs.length cf, .slice ap s.preds.length cp] 25 (0, 0)) → Calls Try.prog 53 #[.slice sl f.tab.length cq, .func (.func 49) #[] #[.pointer (some ⟨sb, 0, none⟩)]] W fun e w' => e = .returned (.bool true) ∧ w' = W) := fun W h1 h2 => by rw [← htb]; exact containsNo_any N f.tab _ sb _ _ W (HIl.out.up h1) h2); clear htb hd
          go_wp2_with (first
            | (go_at_call 52
               refine (HLk.out _ (HS.out.up (below_more (Below.refl _ _) _))).mono ?_; rintro e w4 ⟨rfl, hg4, hk4⟩; (have hk5 : Kept (fun b => b ≠ m1 ∧ b ≠ m2) wr w4 := ((Kept.refl _ _).alloc _).trans (hk4.mono fun _ _ h => h.1)); (have HK4 : Hid (Kept (fun b => b ≠ m1 ∧ b ≠ m2) w w4) := HK.out.trans hk5); (have q4 := (hk4.block wr.heap.size (by simp) (by have := HS.out.lt; omega)).trans (blk_new wr _)); have n4 := (hk5.block _ (lt_of_block HQn.out) HNb.out.2).trans HQn.out; have HS4 : Hid (w4.heap[sb]? = some (.cells #[.int .i64 (N : Nat), .slice (some ⟨g, off, none⟩) s.funs.length cf, .slice ap s.preds.length cp] 25 (0, 0))) := (hk5.block _ (lt_of_block HQs.out) HSb.out.2).trans HQs.out; obtain ⟨d0, d1, d2, -⟩ := blk3 q4; obtain ⟨l0, l1⟩ := blk1 n4
               clear hg4 hk4 hk5 q4 n4)
            | (go_at_call 53
               refine (HCn.out _ (two_below HB.out HO.out.2.2.1 HO.out.2.2.2.1 HK4.out) HS4.out).mono ?_; rintro e w5 ⟨rfl, h5⟩
               obtain rfl : w4 = w5 := h5.symm)
            | (go_at_call 54; refine (stop_any _ _ _).mono ?_; rintro e w6 ⟨rfl, rfl⟩)
            | fail)
          (exact ⟨rfl, by rw [HL.out, ← HD.out]; rfl, HK4.out⟩)
      · rw [hlk] at HLk hd
        simp only at hd; have HD : Hid (some (code, i) = cfF N 0 [] s.funs) := hd; clear hlk hd
        go_wp2_with (first
          | (go_at_call 52
             refine (HLk.out _ (HS.out.up (below_more (Below.refl _ _) _))).mono ?_; rintro e w4 ⟨he4, hb4⟩
             obtain rfl : e = _ := he4)
          | fail)
        (exact ⟨rfl, by rw [HL.out, ← HD.out]; rfl, (HK.out.alloc _).trans (kept_of_below hb4 fun _ h _ => h)⟩)
    · have hge : ¬ (i : Int) < (s.funs.length : Int) := by omega
      have hd := HE.out; (rw [List.drop_of_length_le (by omega), cfF] at hd); (have HL2 : Hid (lsF N s = pfF N s.funs.length [] s.preds) := by show _ = _; rw [HL.out, ← hd]); have HE2 : Hid (pfF N s.funs.length [] (s.preds.drop 0) = pfF N s.funs.length [] s.preds) := rfl; obtain ⟨a0, a1, a2, -⟩ := blk3 qsb; clear hlt hile HF HE HE0 hd qsb HL; go_wp2_with fail; clear a0 a1 a2
      go_loopg [36, 6] s.preds.length (fun g c b wq => ∃ j seen2, j ≤ s.preds.length ∧ g = s.preds.length - j ∧ c = .int .i64 (j : Nat) ∧ Hid (pfF N (s.funs.length + j) seen2 (s.preds.drop j) = pfF N s.funs.length [] s.preds) ∧ Hid (GSeen wq m2 seen2 j) ∧ Hid (Kept (fun b => b ≠ m1 ∧ b ≠ m2) w wq))
      case atStart => exact ⟨0, [], by omega, by omega, rfl, HE2, HS2, HK⟩
      case round =>
        obtain ⟨j, seen2, hjle, hg, rfl, HE3, HS3, HK3⟩ := hrel; have HG3 : Hid (gk = s.preds.length - j) := hg; have HBq : Hid (Below w0.heap.size w0 wr) := two_below HB.out HO.out.2.2.1 HO.out.2.2.2.1 HK3.out; clear hg; by_cases hlt : j < s.preds.length
        · obtain ⟨f, hfi⟩ : ∃ x, s.preds[j]? = some x := ⟨_, List.getElem?_eq_getElem hlt⟩
          (obtain ⟨g, off, rfl, hc⟩ := HP.out (fun e => by rw [e] at hlt; simp at hlt)); obtain ⟨sl, cq, z0, z1, z2, hfr⟩ := hc j f hfi; have y0 := (HBq.out.cell (lt_of_cell z0)).trans z0; have y1 := (HBq.out.cell (lt_of_cell z1)).trans z1; have y2 := (HBq.out.cell (lt_of_cell z2)).trans z2; (have hltI : (j : Int) < (s.preds.length : Int) := by omega); have hd := HE3.out; rw [pfF_drop hfi] at hd; obtain ⟨sl', cq', e, hnm, hil⟩ := hfr; simp only [Value.agg.injEq, Array.mk.injEq, List.cons.injEq, Value.slice.injEq, and_true, true_and] at e; obtain ⟨rfl, rfl⟩ := e
          have htl : ((f.bits.length : Nat) : Int) ≤ 9223372036854775807 := by
            obtain ⟨_, _, _, h1, h2, _⟩ := hil; unfold maxLen at h2; omega
          have HLk : Hid (∀ W, GSeen W m2 seen2 j → Calls Try.prog 52 #[.agg #[.int .i64 (N : Nat), .map (some m2)], .string f.nm, .int .i64 f.ar, .int .i64 (f.bits.length : Nat), .int .i64 ((s.funs.length : Int) + (j : Int))] W (LsPost (lkF N (decide (f.nm.data.toList ∈ seen2)) f.nm.data.toList f.ar f.bits.length) m2 j seen2 f.nm.data.toList (s.funs.length + j) W)) := fun W h => by
            (have h9 := lookS_any N HO.out.2.2.2.2.2 m2 j (by have := HO.out.2.1; omega) seen2 f.nm hnm f.ar f.bits.length (s.funs.length + j) W h); rw [Int.natCast_add] at h9; exact h9
          have r1 : IntKind.i64.wrap ((s.funs.length : Int) + (j : Int)) = (s.funs.length : Int) + (j : Int) := by
            (have h9 := wrap_small (s.funs.length + j) (by have := HO.out.1; have := HO.out.2.1; omega))
            rwa [Int.natCast_add] at h9
          have HLt : Hid (j < s.preds.length) := hlt; have qsb := (HK3.out.block _ (lt_of_block HSb.out.1) HSb.out.2).trans HSb.out.1; have qc2 := (HK3.out.block _ (lt_of_block HC2.out.1) HC2.out.2).trans HC2.out.1; obtain ⟨a0, a1, a2, -⟩ := blk3 qsb; obtain ⟨b0, b1, -⟩ := blk2 qc2; have hs2 := lt_of_block qc2; have hs3 := lt_of_block qsb; clear hfi hc z0 z1 z2 hlt hjle HP hnm hil qsb qc2
          rcases hlk : lkF N (decide (f.nm.data.toList ∈ seen2)) f.nm.data.toList f.ar f.bits.length with _ | code
          · rw [hlk] at HLk hd
            simp only at hd; have HD : Hid (pfF N (s.funs.length + (j + 1)) (f.nm.data.toList :: seen2) (s.preds.drop (j + 1)) = pfF N s.funs.length [] s.preds) := hd; clear hlk hd
            go_wp2_with (first
              | (go_at_call 52
                 refine (HLk.out _ (HS3.out.up (below_more (Below.refl _ _) _))).mono ?_; rintro e w4 ⟨rfl, hg4, hk4⟩; (have HK4 : Hid (GSeen w4 m2 (f.nm.data.toList :: seen2) (j + 1) ∧ Kept (fun b => b ≠ m1 ∧ b ≠ m2) w w4) := ⟨hg4, HK3.out.trans (((Kept.refl _ _).alloc _).trans (hk4.mono fun _ _ h => h.2))⟩)
                 clear hg4 hk4)
              | fail)
            go_roundg (s.preds.length - (j + 1))
            case measure => have := HG3.out; have := HLt.out; omega
            case rel => exact ⟨j + 1, _, HLt.out, rfl, by go_num, HD, HK4.out.1, HK4.out.2⟩
          · rw [hlk] at HLk hd
            simp only at hd; have HD : Hid (some (code, s.funs.length + j) = pfF N s.funs.length [] s.preds) := hd; clear hlk hd
            go_wp2_with (first
              | (go_at_call 52
                 refine (HLk.out _ (HS3.out.up (below_more (Below.refl _ _) _))).mono ?_; rintro e w4 ⟨he4, hb4⟩
                 obtain rfl : e = _ := he4)
              | fail)
            (exact ⟨rfl, by rw [HL2.out, ← HD.out]; rfl, (HK3.out.alloc _).trans (kept_of_below hb4 fun _ h _ => h)⟩)
        · have hge2 : ¬ (j : Int) < (s.preds.length : Int) := by omega
          have hd := HE3.out; (rw [List.drop_of_length_le (by omega), pfF] at hd); have HD : Hid (none = pfF N s.funs.length [] s.preds) := hd; clear hlt hjle hd HP; go_wp2_with fail
          go_end0
          (exact ⟨by rw [HL2.out, ← HD.out]; rfl, HK3.out⟩)
end Go.Proofs.Ytblodnpfckflaak
