/- Texts of one proof, one behind the other: Ref2, Law1, Back1, Open1. -/
import Derived.Test.YtfhbpfgbnfcdaaaB12
import Derived.Test.YtfhbpfgbnfcdaaaB04
import Derived.ProofKit
import Derived.Deep.Strs
import Derived.Deep.Slices
import Derived.Lib.SmallJoins
/- Walks: Same. -/
namespace Go.Proofs.Ytfhbpfgbnfcdaaa
open Go.RowKit

mutual
def sameB : Fm → Fm → Bool
  | .mk k n ks, g => decide (k = g.kind) && decide (n.data.toList = g.name.data.toList) && decide (ks.length = g.kids.length) && sameBs ks g.kids
def sameBs : List Fm → List Fm → Bool
  | [], _ => true
  | _ :: _, [] => true
  | f :: fs, g :: gs => sameB f g && sameBs fs gs
end

mutual
theorem sameB_refl : ∀ f : Fm, sameB f f = true
  | .mk k n ks => by rw [sameB]; simp [Fm.kind, Fm.name, Fm.kids, sameBs_refl ks]
theorem sameBs_refl : ∀ fs : List Fm, sameBs fs fs = true
  | [] => by rw [sameBs]
  | f :: fs => by rw [sameBs, sameB_refl f, sameBs_refl fs]; rfl
end

mutual
theorem sameB_eq : ∀ f g : Fm, sameB f g = true → f = g
  | .mk k n ks, .mk k' n' ks', h => by
    rw [sameB] at h; simp only [Fm.kind, Fm.name, Fm.kids, Bool.and_eq_true] at h; obtain ⟨⟨⟨h1, h2⟩, h3⟩, h4⟩ := h
    replace h1 := of_decide_eq_true h1
    replace h2 := of_decide_eq_true h2
    replace h3 := of_decide_eq_true h3
    have h5 := sameBs_eq ks ks' h3 h4; subst h1 h5; (have h6 : n = n' := by apply ByteArray.ext; apply Array.ext'; exact h2); rw [h6]
theorem sameBs_eq : ∀ fs gs : List Fm, fs.length = gs.length → sameBs fs gs = true → fs = gs
  | [], [], _, _ => rfl
  | [], _ :: _, h, _ => by simp at h
  | _ :: _, [], h, _ => by simp at h
  | f :: fs, g :: gs, h, h' => by
    rw [sameBs, Bool.and_eq_true] at h'; (rw [sameB_eq f g h'.1, sameBs_eq fs gs (by simpa using h) h'.2])
end

theorem sameBs_drop {fs gs : List Fm} {i : Nat} {f g : Fm} (hf : fs[i]? = some f) (hg : gs[i]? = some g) : sameBs (fs.drop i) (gs.drop i) = (sameB f g && sameBs (fs.drop (i + 1)) (gs.drop (i + 1))) := by
  have aux : ∀ {l : List Fm} {x : Fm}, l[i]? = some x → l.drop i = x :: l.drop (i + 1) := fun {l x} h => by
    have hi : i < l.length := by
      rcases Nat.lt_or_ge i l.length with h' | h'
      · exact h'
      · rw [List.getElem?_eq_none h'] at h; cases h
    rw [List.drop_eq_getElem_cons hi]; rw [List.getElem?_eq_getElem hi] at h; rw [Option.some.inj h]
  rw [aux hf, aux hg, sameBs]

def Sames (m : Nat) : Prop := ∀ (f g : Fm) (v u : Value) (w : World), f.size < m → Rep w (fun _ => True) f v → Rep w (fun _ => True) g u →
  Calls Try.prog 15 #[v, u] w fun e w' => e = .returned (.bool (sameB f g)) ∧ Below w.heap.size w w'

set_option maxHeartbeats 1000000 in
theorem same_step (m : Nat) (ih : Sames m) : Sames (m + 1) := by
  intro f g v u w hm hrep hrep'; obtain ⟨k, n, ks⟩ := f; obtain ⟨k', n', ks'⟩ := g; obtain ⟨sl, cap, rfl, hx1, hx2, hx3, hx4⟩ := Rep.def.1 hrep; obtain ⟨sl', cap', rfl, hy1, hy2, hy3, hy4⟩ := Rep.def.1 hrep'; (have HX : Hid (ks ≠ [] → ∃ b off, sl = some ⟨b, off, none⟩ ∧ True ∧ Reps w (fun _ => True) b off ks) := hx4); (have HY : Hid (ks' ≠ [] → ∃ b off, sl' = some ⟨b, off, none⟩ ∧ True ∧ Reps w (fun _ => True) b off ks') := hy4); clear hx4 hy4; (have hb0 : Below w.heap.size w ((w.alloc (.cells #[.int .i64 k, .string n, .slice sl ks.length cap] 24 (0, 0))).alloc (.cells #[.int .i64 k', .string n', .slice sl' ks'.length cap'] 24 (0, 0))) := ((Below.refl _ _).alloc (Nat.le_refl _) _).alloc (by simp) _); (have hlen : ((ks.length : Nat) : Int) ≤ 9223372036854775807 := by unfold maxLen at hx3; omega); by_cases h1 : k = k'
  · by_cases h2 : n.data.toList = n'.data.toList
    · by_cases h3 : ks.length = ks'.length
      · have hE : sameB (.mk k n ks) (.mk k' n' ks') = sameBs ks ks' := by rw [sameB]; simp [Fm.kind, Fm.name, Fm.kids, h1, h2, h3]
        rw [hE]; subst h1; (have h2' : n = n' := by apply ByteArray.ext; apply Array.ext'; exact h2); subst h2'; clear hE h2; have q1 := blk_new (w.alloc (.cells #[.int .i64 k, .string n, .slice sl ks.length cap] 24 (0, 0))) (.cells #[.int .i64 k, .string n, .slice sl' ks'.length cap'] 24 (0, 0)); (rw [show (w.alloc (.cells #[.int .i64 k, .string n, .slice sl ks.length cap] 24 (0, 0))).heap.size = w.heap.size + 1 by simp] at q1); have q0 := blk_new w (.cells #[.int .i64 k, .string n, .slice sl ks.length cap] 24 (0, 0)); (rw [← Below.heap_alloc _ (.cells #[.int .i64 k, .string n, .slice sl' ks'.length cap'] 24 (0, 0)) _ (by simp)] at q0); have QQ : Hid (_ ∧ _) := ⟨q0, q1⟩; clear q0 q1; rw [← h3] at QQ hb0 ⊢; have HE : Hid (ks.length = ks'.length) := h3; clear h3
        go_enter Try.func15, Try.ntmps15
        go_wp2_with fail
        go_loopg [5] ks.length (fun g c wr => ∃ i, i ≤ ks.length ∧ g = ks.length - i ∧ c = .int .i64 (i : Nat) ∧ Below w.heap.size w wr ∧ wr.heap[w.heap.size]? = some (.cells #[.int .i64 k, .string n, .slice sl ks.length cap] 24 (0, 0)) ∧ wr.heap[w.heap.size + 1]? = some (.cells #[.int .i64 k, .string n, .slice sl' ks.length cap'] 24 (0, 0)) ∧ Hid (sameBs (ks.drop i) (ks'.drop i) = sameBs ks ks'))
        case atStart => exact ⟨0, by omega, by omega, rfl, hb0, QQ.out.1, QQ.out.2, by show _ = _; simp⟩
        case round =>
          obtain ⟨i, hi, hg, rfl, hbr, q0, q1, HS⟩ := hrel; have HG : Hid (gk = ks.length - i) := hg; clear hg QQ hb0; obtain ⟨e0, e1, e2, -⟩ := blk3 q0; obtain ⟨i0, i1, i2, -⟩ := blk3 q1; by_cases hlt : i < ks.length
          · obtain ⟨b, off, hsl, -, hrs⟩ := HX.out (fun e => by rw [e] at hlt; simp at hlt)
            (obtain ⟨b', off', hsl', -, hrs'⟩ := HY.out (fun e => by have := HE.out; rw [e] at this; simp at this; rw [this] at hlt; simp at hlt)); subst hsl hsl'; obtain ⟨⟨k2, n2, ks2⟩, hki⟩ : ∃ f, ks[i]? = some f := ⟨_, List.getElem?_eq_getElem hlt⟩; (obtain ⟨⟨k3, n3, ks3⟩, hki'⟩ : ∃ f, ks'[i]? = some f := ⟨_, List.getElem?_eq_getElem (by have := HE.out; omega)⟩); obtain ⟨sl2, cap2, g0, g1, g2, hrep2⟩ := (hrs.up hbr).at i k2 n2 ks2 hki; obtain ⟨sl3, cap3, p0, p1, p2, hrep3⟩ := (hrs'.up hbr).at i k3 n3 ks3 hki'; (have hlt2 : (i : Int) < (ks.length : Int) := by omega); (have hsz : (Fm.mk k2 n2 ks2).size < m := by have := sizes_get hki; rw [Fm.size] at hm; omega); have z0 := lt_of_block q0; have z1 := lt_of_block q1; have zz := hbr.size; have hds := HS.out; rw [sameBs_drop hki hki'] at hds; have HD : Hid (_ = sameBs ks ks') := hds; (have HI : Hid (∀ w, Rep w (fun _ => True) (.mk k2 n2 ks2) (.agg #[.int .i64 k2, .string n2, .slice sl2 ks2.length cap2]) → Rep w (fun _ => True) (.mk k3 n3 ks3) (.agg #[.int .i64 k3, .string n3, .slice sl3 ks3.length cap3]) → Calls Try.prog 15 #[.agg #[.int .i64 k2, .string n2, .slice sl2 ks2.length cap2], .agg #[.int .i64 k3, .string n3, .slice sl3 ks3.length cap3]] w fun e w' => e = .returned (.bool (sameB (.mk k2 n2 ks2) (.mk k3 n3 ks3))) ∧ Below w.heap.size w w') := fun w h1 h2 => ih _ _ _ _ w hsz h1 h2); (have hlc : ((i : Nat) : Int) < ((cap : Nat) : Int) := by omega); clear hki hki' hrs hrs' hrep hrep' HX HY hds HS; have zb := lt_of_cell g0; have zb' := lt_of_cell p0; simp only at zb zb'; go_wp2_with fail
            go_region_held3 (fun w' => w'.cell? ⟨w.heap.size, 2, none⟩ = some (.slice (some ⟨b, off, none⟩) ks.length cap) ∧ w'.cell? ⟨w.heap.size + 1, 2, none⟩ = some (.slice (some ⟨b', off', none⟩) ks.length cap') ∧ w'.cell? ⟨b, off + i * 3, none⟩ = some (.int .i64 k2) ∧ w'.cell? ⟨b, off + i * 3 + 1, none⟩ = some (.string n2) ∧ w'.cell? ⟨b, off + i * 3 + 2, none⟩ = some (.slice sl2 ks2.length cap2) ∧ w'.cell? ⟨b', off' + i * 3, none⟩ = some (.int .i64 k3) ∧ w'.cell? ⟨b', off' + i * 3 + 1, none⟩ = some (.string n3) ∧ w'.cell? ⟨b', off' + i * 3 + 2, none⟩ = some (.slice sl3 ks3.length cap3)) (go_keep)
              (first
               | (go_at_call 15
                  refine (HI.out _ (hrep2.up (Below.refl _ _).drew) (hrep3.up (Below.refl _ _).drew)).mono ?_; rintro e w1 ⟨rfl, hb1⟩; have c1 := (hb1.cell (p := ⟨w.heap.size, 2, none⟩) z0).trans e2; have c2 := (hb1.cell (p := ⟨w.heap.size + 1, 2, none⟩) z1).trans i2; have c3 := (hb1.cell (p := ⟨b, off + i * 3, none⟩) zb).trans g0; have c4 := (hb1.cell (p := ⟨b, off + i * 3 + 1, none⟩) zb).trans g1; have c5 := (hb1.cell (p := ⟨b, off + i * 3 + 2, none⟩) zb).trans g2; have c6 := (hb1.cell (p := ⟨b', off' + i * 3, none⟩) zb').trans p0; have c7 := (hb1.cell (p := ⟨b', off' + i * 3 + 1, none⟩) zb').trans p1
                  have c8 := (hb1.cell (p := ⟨b', off' + i * 3 + 2, none⟩) zb').trans p2)
               | fail)
            have hbb : Below w.heap.size w w1 := hbr.drew.trans (hb1.mono zz); have q2 := (hb1.block _ z0).trans q0; have q3 := (hb1.block _ z1).trans q1; clear c1 c2 c3 c4 c5 c6 c7 c8
            rcases hsm : sameB (.mk k2 n2 ks2) (.mk k3 n3 ks3) with _ | _
            · rw [hsm] at HD
              have HF : Hid (false = sameBs ks ks') := HD; clear hsm HD; go_wp2_with fail; go_ret; exact ⟨ret_bool HF.out, hbb⟩
            · rw [hsm, Bool.true_and] at HD
              clear hsm; go_wp2_with fail
              go_roundg (ks.length - (i + 1))
              case measure => have := HG.out; omega
              case rel => exact ⟨i + 1, by omega, rfl, by go_num, hbb, q2, q3, HD⟩
          · go_wp2_with fail
            go_ret; refine ⟨ret_bool ?_, hbr⟩; (rw [← HS.out, List.drop_of_length_le (by omega), sameBs])
      · have hE : sameB (.mk k n ks) (.mk k' n' ks') = false := by rw [sameB]; simp [Fm.kids, h3]
        rw [hE]; subst h1; (have h2' : n = n' := by apply ByteArray.ext; apply Array.ext'; exact h2); subst h2'; (have h3' : ((ks.length : Int) != (ks'.length : Int)) = true := by simp; omega); clear hE h2
        go_enter Try.func15, Try.ntmps15
        go_wp2_with fail; go_ret; exact ⟨rfl, hb0⟩
    · have hE : sameB (.mk k n ks) (.mk k' n' ks') = false := by rw [sameB]; simp only [Fm.kind, Fm.name, h2, decide_false, Bool.and_false, Bool.false_and]
      rw [hE]; subst h1; (have h2' : ¬ n.toList = n'.toList := by rw [ByteArray.toList_eq, ByteArray.toList_eq]; exact h2); clear hE h2
      go_enter Try.func15, Try.ntmps15
      go_wp2_with fail; go_ret; exact ⟨rfl, hb0⟩
  · have hE : sameB (.mk k n ks) (.mk k' n' ks') = false := by rw [sameB]; simp [Fm.kind, h1]
    rw [hE]; (have h1' : (k != k') = true := by simpa using h1)
    go_enter Try.func15, Try.ntmps15
    go_wp2_with fail; go_ret; exact ⟨rfl, hb0⟩

theorem sames_all : ∀ m, Sames m
  | 0 => fun _ _ _ _ _ h => absurd h (Nat.not_lt_zero _)
  | m + 1 => same_step m (sames_all m)

theorem same_any (f g : Fm) (v u : Value) (w : World) (hv : Rep w (fun _ => True) f v) (hu : Rep w (fun _ => True) g u) :
    Calls Try.prog 15 #[v, u] w fun e w' => e = .returned (.bool (sameB f g)) ∧ Below w.heap.size w w' :=
  sames_all (f.size + 1) f g v u w (Nat.lt_succ_self _) hv hu
end Go.Proofs.Ytfhbpfgbnfcdaaa
/- Walks: what the laws lean on. -/
namespace Go.Proofs.Ytfhbpfgbnfcdaaa
open Go.RowKit

theorem parse_back (f : Fm) (s : Nat) (hc : chk f 0 = .ok s) (w : World) :
    Calls Try.prog 17 #[.string ⟨(pr 0 f).toArray⟩] w fun e w' => ∃ v, e = .returned (.tuple #[v, .agg #[.int .i64 0, .int .i64 0]]) ∧ Rep w' (w.heap.size ≤ ·) f v ∧ Below w.heap.size w w' := by
  have hf := fine_of_chk f 0 s hc; have hs := chk_size hc; have hl := pr_len 200 f 0 hs hf; have hsz : (⟨(pr 0 f).toArray⟩ : ByteArray).size = (pr 0 f).length := rfl; (refine parse_ok ⟨(pr 0 f).toArray⟩ (by omega) w (.ok f []) (read_back hf) f ?_); (have h2 : ¬ 200 < f.size := by omega); simp [outOf, skipB, h2]

/-- The document's example. -/
def f0 : Fm := .mk 7 e0 [.mk 7 e0 [nmF [112], nmF [113]], .mk 5 e0 [nmF [112], .mk 4 e0 [.mk 2 e0 []]]]
theorem f0_fine : Fine f0 := fine_two 7 _ _ (by simp) (fine_two 7 _ _ (by simp) (fine_name (by decide)) (fine_name (by decide))) (fine_two 5 _ _ (by simp) (fine_name (by decide)) (fine_one 4 _ (by simp) (fine_leaf 2 (by simp))))
theorem f0_size : f0.size = 8 := by simp [f0, nmF, Fm.size, Fm.sizes]
theorem f0_pr : pr 0 f0 = [40, 112, 32, 45, 62, 32, 113, 41, 32, 45, 62, 32, 112, 32, 38, 32, 126, 49] := by
  simp [f0, nmF, pr, brk, bindI, sign1, sign2, leftB, rightB, leafS]
theorem f0_chk : chk f0 0 = .ok 8 := by
  (have := chk_fine f0 0 f0_fine (by rw [f0_size]; omega))
  rwa [f0_size] at this

set_option maxHeartbeats 1000000 in
theorem begun_any (w : World) : Calls Try.prog 9 #[] w fun e w' => e = .returned (.bool true) ∧ Below w.heap.size w w' := by
  have hp := parse_back f0 8 f0_chk; rw [f0_pr] at hp; (have hq := fun v w h => print_ok f0 v w h 8 f0_chk); rw [f0_pr] at hq; obtain ⟨k, n, ks, hf0⟩ : ∃ k n ks, f0 = .mk k n ks := ⟨_, _, _, rfl⟩; rw [hf0] at hp hq; have HP : Hid (∀ w, Calls Try.prog 17 _ w _) := hp; have HQ : Hid (∀ v w, _ → Calls Try.prog 13 #[v] w _) := hq; clear hp hq hf0
  go_enter Try.func9, Try.ntmps9
  go_wp2_with (first
    | (go_at_call 17
       refine (HP.out _).mono ?_; rintro e w1 ⟨v, rfl, hrep, hb1⟩
       obtain ⟨sl, cap, rfl⟩ := slice_shape hrep)
    | (go_at_call 13
       (refine (HQ.out _ _ (hrep.move fun b hb _ => ⟨by rw [Below.heap_alloc _ _ _ (by simp; omega), Below.heap_alloc _ _ _ hb], trivial⟩)).mono ?_); rintro e w2 ⟨rfl, hb2⟩; have z1 := hb1.size; have z2 := hb2.size; simp at z2
       have q1 : w2.heap[w1.heap.size + 1]? = some (.cells #[.int .i64 0, .int .i64 0] 29 (0, 0)) := by
         (rw [hb2.block _ (by simp)]); have := blk_new (w1.alloc (.cells #[.int .i64 k, .string n, .slice sl ks.length cap] 24 (0, 0))) (.cells #[.int .i64 0, .int .i64 0] 29 (0, 0)); simpa using this
       obtain ⟨k1, k2, k3, k4⟩ := blk2 q1
       have d3 : w1.heap.size + 1 < w2.heap.size := by omega)
    | fail)
  go_ret; (exact ⟨rfl, (((hb1.alloc z1 _).alloc (by simp; omega) _).trans (hb2.mono (by simp; omega))).alloc (by omega) _⟩)
end Go.Proofs.Ytfhbpfgbnfcdaaa
/- Walks: FormulaBack. -/
namespace Go.Proofs.Ytfhbpfgbnfcdaaa
open Go.RowKit

theorem below_keep {w w' : World} {k : Nat} {o : Obj} (hb : Below w.heap.size w w') (h : w.heap[k]? = some o) : w'.heap[k]? = some o := (hb.block k (lt_of_block h)).trans h
theorem alloc_keep {w : World} {k : Nat} {o : Obj} (h : w.heap[k]? = some o) (o' : Obj) : (w.alloc o').heap[k]? = some o := (Below.heap_alloc _ _ _ (lt_of_block h)).trans h
theorem below_join {W w w' : World} (h : Below W.heap.size W w) (hb : Below w.heap.size w w') : Below W.heap.size W w' := h.trans (hb.mono h.size)
theorem below_more {W w : World} (h : Below W.heap.size W w) (o : Obj) : Below W.heap.size W (w.alloc o) := h.alloc h.size o

theorem same_self (f : Fm) (v u : Value) (w : World) (hv : Rep w (fun _ => True) f v) (hu : Rep w (fun _ => True) f u) :
    Calls Try.prog 15 #[v, u] w fun e w' => e = .returned (.bool true) ∧ Below w.heap.size w w' := by
  have := same_any f f v u w hv hu
  rwa [sameB_refl] at this

theorem Rep.all {w : World} {ok : Nat → Prop} {f : Fm} {v : Value} (h : Rep w ok f v) : Rep w (fun _ => True) f v := h.move fun _ _ _ => ⟨rfl, trivial⟩
theorem Rep.more {w : World} {f : Fm} {v : Value} (h : Rep w (fun _ => True) f v) (o : Obj) : Rep (w.alloc o) (fun _ => True) f v := h.up ((Below.refl _ _).alloc (Nat.le_refl _) _)

end Go.Proofs.Ytfhbpfgbnfcdaaa
/- A formula that came in, as data. -/
namespace Go.Proofs.Ytfhbpfgbnfcdaaa
open Go.RowKit

theorem cells24 : Try.prog.cellsOf 24 = 3 := by kernel_rfl
theorem cells3 : Try.prog.cellsOf 3 = 1 := by kernel_rfl
theorem cells9 : Try.prog.cellsOf 9 = 1 := by kernel_rfl
theorem cells22 : Try.prog.cellsOf 22 = 1 := by kernel_rfl

theorem add_none (b off n : Nat) : (⟨b, off, none⟩ : Addr).add n = ⟨b, off + n, none⟩ := by
  (by_cases h : n = 0 <;> simp [Addr.add, h])

section
variable {H : Type} {enc : TypeId × Value → H} {W : World} {spare : Nat → Bool} {held : Bool}

/-- Cells that read as formulas, one behind the other. -/
theorem reps_of {b off len : Nat} (rd : ∀ i, i < len → ∃ c0 c1 c2 f, W.cell? ⟨b, off + i * 3, none⟩ = some c0 ∧ W.cell? ⟨b, off + i * 3 + 1, none⟩ = some c1 ∧ W.cell? ⟨b, off + i * 3 + 2, none⟩ = some c2 ∧ Rep W (fun _ => True) f (.agg #[c0, c1, c2])) :
    ∃ fs : List Fm, fs.length = len ∧ Reps W (fun _ => True) b off fs := by
  induction len generalizing off with
  | zero => exact ⟨[], rfl, Reps.nil⟩
  | succ len ih =>
    (obtain ⟨c0, c1, c2, f, h0, h1, h2, hr⟩ := rd 0 (by omega))
    obtain ⟨fs, hl, hrs⟩ := ih (off := off + 3) (fun i hi => by
      (obtain ⟨d0, d1, d2, g, k0, k1, k2, kr⟩ := rd (i + 1) (by omega)); (have e : off + (i + 1) * 3 = off + 3 + i * 3 := by omega); rw [e] at k0 k1 k2
      exact ⟨d0, d1, d2, g, k0, k1, k2, kr⟩)
    (exact ⟨f :: fs, by simp [hl], Reps.cons.2 ⟨⟨c0, c1, c2, by simpa using h0, by simpa using h1, by simpa using h2, hr⟩, hrs⟩⟩)

set_option maxRecDepth 100000 in
theorem rep_of_trod : ∀ (fuel : Nat) (cs : List Value) (x : DataW H × List MemPlace), DataW.trod enc Try.prog W 0 spare held fuel 24 cs = some x →
    ∃ c0 c1 c2 f, cs = [c0, c1, c2] ∧ Rep W (fun _ => True) f (.agg #[c0, c1, c2]) := by
  intro fuel
  induction fuel using Nat.strongRecOn with
  | _ fuel ih =>
    intro cs x h; obtain ⟨xs, n, hfu, -, hl, hlen, hf⟩ := DataW.trod_struct Try.underlying24 h; rw [cells24] at hl
    match cs, hl with
    | [c0, c1, c2], _ =>
      have h0 := hf 0 _ rfl; have h1 := hf 1 _ rfl; have h2 := hf 2 _ rfl; simp at hlen
      match xs, hlen with
      | [y0, y1, y2], _ =>
        simp [cells3, cells9, cells22] at h0 h1 h2; obtain ⟨k, e0, -, -⟩ := DataW.trod_int Try.underlying3 h0; obtain ⟨s, e1, -, hs⟩ := DataW.trod_string Try.underlying9 h1; simp at e0 e1; subst e0 e1
        rcases DataW.trod_slice Try.underlying22 h2 with ⟨e2, -⟩ | ⟨a, len, cap, elems, rest, m, hm, e2, -, -, hlc, hcm, hel, hall, -⟩
        · simp at e2
          subst e2; exact ⟨_, _, _, .mk k s [], rfl, Rep.leaf hs⟩
        · simp at e2
          subst e2; obtain ⟨b, off, spot⟩ := a; by_cases hz : len = 0
          · subst hz
            (exact ⟨_, _, _, .mk k s [], rfl, Rep.def.2 ⟨_, cap, rfl, hs, Nat.zero_le _, hcm, fun h => absurd rfl h⟩⟩)
          · have hsp : spot = none := by
              (have hh := hall 0 (by omega)); (rw [cells24, List.getElem?_eq_getElem (by omega)] at hh); obtain ⟨cs', hcs, htr⟩ := Option.bind_eq_some_iff.1 hh; obtain ⟨-, hl3, hcell⟩ := World.cells?_some hcs; (obtain ⟨d0, d1, d2, f, rfl, -⟩ := ih m (by omega) cs' _ htr); (have g0 := hcell 0 (by omega)); simp [Addr.add] at g0; simpa using World.cell?_spot g0
            subst hsp
            obtain ⟨fs, hfl, hrs⟩ := reps_of (W := W) (b := b) (off := off) (len := len) (fun i hi => by
              have hh := hall i hi; (rw [cells24, List.getElem?_eq_getElem (by omega), add_none] at hh); obtain ⟨cs', hcs, htr⟩ := Option.bind_eq_some_iff.1 hh; obtain ⟨-, hl3, hcell⟩ := World.cells?_some hcs; (obtain ⟨d0, d1, d2, f, rfl, hr⟩ := ih m (by omega) cs' _ htr); (have g0 := hcell 0 (by omega)); (have g1 := hcell 1 (by omega)); (have g2 := hcell 2 (by omega)); rw [add_none] at g0 g1 g2
              exact ⟨d0, d1, d2, f, g0, g1, g2, hr⟩)
            subst hfl; (exact ⟨_, _, _, .mk k s fs, rfl, Rep.def.2 ⟨_, cap, rfl, hs, hlc, hcm, fun _ => ⟨b, off, rfl, trivial, hrs⟩⟩⟩)
end
end Go.Proofs.Ytfhbpfgbnfcdaaa
