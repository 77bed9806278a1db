/- Texts of one proof, one behind the other: Open4, CW1, CW2, CW3, CW4, Free4. -/
import Derived.Test.YtalnljnincnbdacGreatB04
import Derived.Test.YtalnljnincnbdacGreatB10
import Derived.Test.YtalnljnincnbdacGreatB11
import Derived.Test.YtalnljnincnbdacGreatB05
import Derived.Test.YtalnljnincnbdacGreatB09
import Derived.Test.YtalnljnincnbdacGreatB02
/- A proof that came in, as data. -/
namespace Go.Proofs.YtalnljnincnbdacGreat
open Go.RowKit

theorem cellsPf : Tryz.prog.cellsOf 32 = 7 := by kernel_rfl
theorem cellsSq : Tryz.prog.cellsOf 24 = 2 := by kernel_rfl
theorem cellsPs : Tryz.prog.cellsOf 30 = 1 := by kernel_rfl

section
variable {H : Type} {enc : TypeId × Value → H} {W : World} {spare : Nat → Bool} {held : Bool}

set_option maxRecDepth 100000 in
theorem fl_of_trod (fuel : Nat) (cs : List Value) (x : DataW H × List MemPlace) (h : DataW.trod enc Tryz.prog W 0 spare held fuel 22 cs = some x) : ∃ v l, cs = [v] ∧ FL W v l := by
  rcases DataW.trod_slice Tryz.underlying22 h with ⟨rfl, -⟩ | ⟨a, len, cap, elems, rest, m, hm, rfl, -, -, hlc, hcm, hel, hall, -⟩
  · exact ⟨_, [], rfl, none, 0, rfl, Nat.le_refl _, by simp, fun h => absurd rfl h⟩
  · obtain ⟨b, off, spot⟩ := a
    by_cases hz : len = 0
    · subst hz
      (exact ⟨_, [], rfl, _, cap, rfl, Nat.zero_le _, hcm, fun h => absurd rfl h⟩)
    · have hsp : spot = none := by
        (have hh := hall 0 (by omega)); (rw [cells24, List.getElem?_eq_getElem (by omega)] at hh); obtain ⟨cs', hcs, htr⟩ := Option.bind_eq_some_iff.1 hh; obtain ⟨-, hl3, hcell⟩ := World.cells?_some hcs; obtain ⟨d0, d1, d2, f, rfl, -⟩ := rep_of_trod m cs' _ htr; (have g0 := hcell 0 (by omega)); simp [Addr.add] at g0; simpa using World.cell?_spot g0
      subst hsp
      obtain ⟨fs, hfl, hrs⟩ := reps_of (W := W) (b := b) (off := off) (len := len) (fun i hi => by
        have hh := hall i hi; (rw [cells24, List.getElem?_eq_getElem (by omega), add_none] at hh); obtain ⟨cs', hcs, htr⟩ := Option.bind_eq_some_iff.1 hh; obtain ⟨-, hl3, hcell⟩ := World.cells?_some hcs; obtain ⟨d0, d1, d2, f, rfl, hr⟩ := rep_of_trod m cs' _ htr; (have g0 := hcell 0 (by omega)); (have g1 := hcell 1 (by omega)); (have g2 := hcell 2 (by omega)); rw [add_none] at g0 g1 g2
        exact ⟨d0, d1, d2, f, g0, g1, g2, hr⟩)
      subst hfl; (exact ⟨_, fs, rfl, _, cap, rfl, hlc, hcm, fun _ => ⟨b, off, rfl, hrs⟩⟩)

theorem preps_of {b off len : Nat} (rd : ∀ i, i < len → ∃ c0 c1 c2 c3 c4 c5 c6 p, W.cell? ⟨b, off + i * 7, none⟩ = some c0 ∧ W.cell? ⟨b, off + i * 7 + 1, none⟩ = some c1 ∧ W.cell? ⟨b, off + i * 7 + 2, none⟩ = some c2 ∧ W.cell? ⟨b, off + i * 7 + 3, none⟩ = some c3 ∧ W.cell? ⟨b, off + i * 7 + 4, none⟩ = some c4 ∧ W.cell? ⟨b, off + i * 7 + 5, none⟩ = some c5 ∧ W.cell? ⟨b, off + i * 7 + 6, none⟩ = some c6 ∧ PRep W p (.agg #[c0, c1, c2, c3, c4, c5, c6])) :
    ∃ ps : List Pf, ps.length = len ∧ PReps W b off ps := by
  induction len generalizing off with
  | zero => exact ⟨[], rfl, PReps.nil⟩
  | succ len ih =>
    (obtain ⟨c0, c1, c2, c3, c4, c5, c6, p, h0, h1, h2, h3, h4, h5, h6, hr⟩ := rd 0 (by omega))
    obtain ⟨ps, hl, hrs⟩ := ih (off := off + 7) (fun i hi => by
      (obtain ⟨d0, d1, d2, d3, d4, d5, d6, q, k0, k1, k2, k3, k4, k5, k6, kr⟩ := rd (i + 1) (by omega)); (have e : off + (i + 1) * 7 = off + 7 + i * 7 := by omega); rw [e] at k0 k1 k2 k3 k4 k5 k6
      exact ⟨d0, d1, d2, d3, d4, d5, d6, q, k0, k1, k2, k3, k4, k5, k6, kr⟩)
    (exact ⟨p :: ps, by simp [hl], PReps.cons.2 ⟨⟨c0, c1, c2, c3, c4, c5, c6, by simpa using h0, by simpa using h1, by simpa using h2, by simpa using h3, by simpa using h4, by simpa using h5, by simpa using h6, hr⟩, hrs⟩⟩)

set_option maxRecDepth 100000 in
theorem prep_of_trod : ∀ (fuel : Nat) (cs : List Value) (x : DataW H × List MemPlace), DataW.trod enc Tryz.prog W 0 spare held fuel 32 cs = some x →
    ∃ c0 c1 c2 c3 c4 c5 c6 p, cs = [c0, c1, c2, c3, c4, c5, c6] ∧ PRep W p (.agg #[c0, c1, c2, c3, c4, c5, c6]) := by
  intro fuel
  induction fuel using Nat.strongRecOn with
  | _ fuel ih =>
    intro cs x h; obtain ⟨xs, n, hfu, -, hl, hlen, hf⟩ := DataW.trod_struct Tryz.underlying32 h; rw [cellsPf] at hl
    match cs, hl with
    | [c0, c1, c2, c3, c4, c5, c6], _ =>
      have h0 := hf 0 _ rfl; have h1 := hf 1 _ rfl; have h2 := hf 2 _ rfl; have h3 := hf 3 _ rfl; simp at hlen
      match xs, hlen with
      | [y0, y1, y2, y3], _ =>
        simp [cells24, cells9, cellsSq, cellsPs] at h0 h1 h2 h3; obtain ⟨s, e0, -, hs⟩ := DataW.trod_string Tryz.underlying9 h0; simp at e0; subst e0; obtain ⟨f0, f1, f2, f, hfe, hfr⟩ := rep_of_trod _ _ _ h1; simp at hfe; obtain ⟨rfl, rfl, rfl⟩ := hfe; obtain ⟨zs, n2, hfu2, -, hl2, hlen2, hf2⟩ := DataW.trod_struct Tryz.underlying24 h2; have g0 := hf2 0 _ rfl; have g1 := hf2 1 _ rfl; simp at hlen2
        match zs, hlen2 with
        | [z0, z1], _ =>
          simp [cells22] at g0 g1; obtain ⟨vl, l, hle, hlf⟩ := fl_of_trod _ _ _ g0; obtain ⟨vr, r, hre, hrf⟩ := fl_of_trod _ _ _ g1; simp at hle hre; subst hle hre
          rcases DataW.trod_slice Tryz.underlying30 h3 with ⟨e2, -⟩ | ⟨a, len, cap, elems, rest, m, hm, e2, -, -, hlc, hcm, hel, hall, -⟩
          · simp at e2
            subst e2; (exact ⟨_, _, _, _, _, _, _, .mk s f l r [], rfl, PRep.def.2 ⟨_, _, _, _, _, none, 0, rfl, hs, hfr, hlf, hrf, Nat.le_refl _, by simp, fun h => absurd rfl h⟩⟩)
          · simp at e2
            subst e2; obtain ⟨b, off, spot⟩ := a; by_cases hz : len = 0
            · subst hz
              (exact ⟨_, _, _, _, _, _, _, .mk s f l r [], rfl, PRep.def.2 ⟨_, _, _, _, _, _, cap, rfl, hs, hfr, hlf, hrf, Nat.zero_le _, hcm, fun h => absurd rfl h⟩⟩)
            · have hsp : spot = none := by
                (have hh := hall 0 (by omega)); (rw [cellsPf, List.getElem?_eq_getElem (by omega)] at hh); obtain ⟨cs', hcs, htr⟩ := Option.bind_eq_some_iff.1 hh; obtain ⟨-, hl3, hcell⟩ := World.cells?_some hcs; (obtain ⟨d0, d1, d2, d3, d4, d5, d6, q, rfl, -⟩ := ih m (by omega) cs' _ htr); (have k0 := hcell 0 (by omega)); simp [Addr.add] at k0; simpa using World.cell?_spot k0
              subst hsp
              obtain ⟨ps, hpl, hps⟩ := preps_of (W := W) (b := b) (off := off) (len := len) (fun i hi => by
                have hh := hall i hi; (rw [cellsPf, List.getElem?_eq_getElem (by omega), add_none] at hh); obtain ⟨cs', hcs, htr⟩ := Option.bind_eq_some_iff.1 hh; obtain ⟨-, hl3, hcell⟩ := World.cells?_some hcs; (obtain ⟨d0, d1, d2, d3, d4, d5, d6, q, rfl, hr⟩ := ih m (by omega) cs' _ htr); (have k0 := hcell 0 (by omega)); (have k1 := hcell 1 (by omega)); (have k2 := hcell 2 (by omega)); (have k3 := hcell 3 (by omega)); (have k4 := hcell 4 (by omega)); (have k5 := hcell 5 (by omega)); (have k6 := hcell 6 (by omega)); rw [add_none] at k0 k1 k2 k3 k4 k5 k6
                exact ⟨d0, d1, d2, d3, d4, d5, d6, q, k0, k1, k2, k3, k4, k5, k6, hr⟩)
              subst hpl; (exact ⟨_, _, _, _, _, _, _, .mk s f l r ps, rfl, PRep.def.2 ⟨_, _, _, _, _, _, cap, rfl, hs, hfr, hlf, hrf, hlc, hcm, fun _ => ⟨b, off, rfl, hps⟩⟩⟩)
end
end Go.Proofs.YtalnljnincnbdacGreat
/- A proof with a formula more at the left of each step: plain. -/
namespace Go.Proofs.YtalnljnincnbdacGreat
open Go.RowKit

mutual
/-- All steps, each ahead of those in it. -/
def Pf.nodes : Pf → List Pf
  | .mk a g l r ks => .mk a g l r ks :: Pf.nodesL ks
def Pf.nodesL : List Pf → List Pf
  | [] => []
  | k :: ks => k.nodes ++ Pf.nodesL ks
end
mutual
def Pf.deep : Pf → Nat
  | .mk _ _ _ _ ks => Pf.deeps ks + 1
def Pf.deeps : List Pf → Nat
  | [] => 0
  | k :: ks => max k.deep (Pf.deeps ks)
end
mutual
/-- Room for one more at each step. -/
def Pf.short : Pf → Prop
  | .mk _ _ l r ks => l.length + r.length < 60 ∧ Pf.shorts ks
def Pf.shorts : List Pf → Prop
  | [] => True
  | k :: ks => k.short ∧ Pf.shorts ks
end

theorem firstBad_zero : ∀ (l : List Fm) (i : Nat), (∀ f ∈ l, f.pcode.1 = 0) → firstBad l i = (0, 0)
  | [], _, _ => rfl
  | f :: l, i, h => by
    rw [firstBad, if_pos (h f List.mem_cons_self)]; (exact firstBad_zero l (i + 1) fun g hg => h g (List.mem_cons_of_mem _ hg))
theorem firstBad_all : ∀ (l : List Fm) (i : Nat), (firstBad l i).1 = 0 → ∀ f ∈ l, f.pcode.1 = 0
  | [], _, _, f, hf => by cases hf
  | g :: l, i, h, f, hf => by
    rw [firstBad] at h
    split at h
    · rename_i hg
      rcases List.mem_cons.1 hf with rfl | hf
      · exact hg
      · exact firstBad_all l (i + 1) h f hf
    · rename_i hg
      exact absurd h hg
theorem seqCode_zero {l r : List Fm} (h : (seqCode l r).1 = 0) : l.length + r.length ≤ 60 ∧ ∀ f ∈ l ++ r, f.pcode.1 = 0 := by
  unfold seqCode at h
  split at h
  · cases h
  · exact ⟨by omega, firstBad_all _ _ h⟩
/-- Premises with a formula more. -/
def EvR (f : Fm) : List (List Fm × List Fm) → List (List Fm × List Fm) → Prop
  | [], [] => True
  | s :: ss, t :: ts => t.1.Perm (s.1 ++ [f]) ∧ t.2 = s.2 ∧ EvR f ss ts
  | _, _ => False
theorem EvR.len {f : Fm} : ∀ {ss ts : List (List Fm × List Fm)}, EvR f ss ts → ts.length = ss.length
  | [], [], _ => rfl
  | s :: ss, t :: ts, h => by rw [List.length_cons, List.length_cons, EvR.len h.2.2]
  | [], _ :: _, h => h.elim
  | _ :: _, [], h => h.elim
end Go.Proofs.YtalnljnincnbdacGreat
/- Walks: a copy of a list of formulas. -/
namespace Go.Proofs.YtalnljnincnbdacGreat
open Go.RowKit

set_option maxHeartbeats 4000000 in
theorem ownList_any (fs : List Fm) (hl : fs.length ≤ 300) (hslim : ∀ f ∈ fs, Slim f) (v : Value) (w : World) (hv : FL w v fs) :
    Calls Tryz.prog 23 #[v] w fun e w' => ∃ ad cp, e = .returned (.slice ad fs.length cp) ∧ KO w.heap.size w' ad cp fs ∧ Below w.heap.size w w' := by
  obtain ⟨adv, cap, rfl, hx1, hx2, hx3⟩ := hv; (have HX : Hid (fs ≠ [] → ∃ b off, adv = some ⟨b, off, none⟩ ∧ Reps w (fun _ => True) b off fs) := hx3); have HSl : Hid (∀ f ∈ fs, Slim f) := hslim; obtain ⟨i0, hi, hz0, hz1, hz2⟩ := infoFormula; (have hlI : (fs.length : Int) ≤ 300 := by omega); clear hx3 hslim
  go_enter Tryz.func23, Tryz.ntmps23
  go_wp2_with fail
  go_loopg [3, 4] fs.length (fun g u c wr => ∃ i ad cp, i ≤ fs.length ∧ g = fs.length - i ∧ c = .int .i64 (i : Nat) ∧ u = .slice ad i cp ∧ Below w.heap.size w wr ∧ Hid (KO w.heap.size wr ad cp (fs.take i)))
  case atStart => exact ⟨0, none, 0, by omega, by omega, rfl, rfl, Below.refl _ w, KO.nil⟩
  case round =>
    obtain ⟨i, ad, cp, hile, hg, rfl, rfl, hbr, HK⟩ := hrel; have HG : Hid (gk = fs.length - i) := hg; clear hg; have zz := hbr.size; by_cases hlt : i < fs.length
    · obtain ⟨⟨k2, n2, ks2⟩, hki⟩ : ∃ f, fs[i]? = some f := ⟨_, List.getElem?_eq_getElem hlt⟩
      (have hltI : (i : Int) < (fs.length : Int) := by omega); (obtain ⟨b, off, hsl, hrs⟩ := HX.out (fun e => by rw [e] at hlt; simp at hlt)); subst hsl; obtain ⟨sl2, cap2, g0, g1, g2, hrep2⟩ := (hrs.up hbr).at i k2 n2 ks2 hki; (have hlc : ((i : Nat) : Int) < ((cap : Nat) : Int) := by omega); have HIH : Hid (Calls Tryz.prog 61 #[.agg #[.int .i64 k2, .string n2, .slice sl2 ks2.length cap2]] wr _) := own_any _ _ wr (HSl.out _ (List.mem_of_getElem? hki)) hrep2
      have HT : Hid (fs.take (i + 1) = fs.take i ++ [.mk k2 n2 ks2]) := by
        show _ = _; rw [List.take_add_one, hki]; rfl
      (have hti : (fs.take i).length = i := by rw [List.length_take]; omega); have HTI : Hid ((fs.take i).length = i) := hti
      have HOB : Hid (∀ b, wr.heap.size ≤ b → w.heap.size ≤ b ∧ (Value.slice ad i cp).ownBlock ≠ some b) := fun b hb => by
        obtain ⟨cs, ho, -⟩ := HK.out; rw [hti] at ho; (exact ⟨by omega, fun e => by have := (ho.lt b e).2; omega⟩)
      clear hki hrs HX hrep2 hti
      go_wp2_with (first
        | (go_at_call 61
           refine HIH.out.mono ?_; rintro e w1 ⟨u, rfl, hrep3, hb1⟩; obtain ⟨sl3, cap3, rfl⟩ := slice_shape hrep3; have HR3 : Hid (Rep w1 (wr.heap.size ≤ ·) (.mk k2 n2 ks2) _) := hrep3; have zw1 := hb1.size
           clear hrep3)
        | (at_builtin
           obtain ⟨cs, hown, hlq⟩ := (HK.out.up hb1).up ((Below.refl _ w1).alloc (Nat.le_refl _) (.cells #[.int .i64 k2, .string n2, .slice sl3 ks2.length cap3] 29 (0, 0))); rw [HTI.out] at hown hlq; (refine wpList_append_lies _ rfl _ _ 22 rfl w.heap.size 29 i0 (.agg #[.int .i64 0, .string ⟨#[]⟩, .slice none 0 0]) 3 48 Tryz.underlying22 hi hz0 hz1 hz2 rfl (by decide) _ _ _ rfl hown ⟨w1.heap.size, 0, none⟩ 1 1 [.int .i64 k2, .string n2, .slice sl3 ks2.length cap3] rfl rfl ?_ ?_ (by omega) (by unfold maxLen; omega) (by omega) (by simp; omega) _ rfl ?_)
           · intro j u hu
             rw [add_none, Nat.zero_add, blk_cell (blk_new w1 _)]; simpa using hu
           · intro u hu
             simp at hu
             rcases hu with rfl | rfl | rfl <;> rfl
           intro g3 cp3 w3 hown3 hgrow hat hlt3; have hgrow' : (w1.alloc (.cells #[.int .i64 k2, .string n2, .slice sl3 ks2.length cap3] 29 (0, 0))).grownBy w3 (Value.slice ad i cp).ownBlock := hgrow; have hat' : (Value.slice ad i cp).ownBlock = some g3 ∨ g3 = (w1.alloc (.cells #[.int .i64 k2, .string n2, .slice sl3 ks2.length cap3] 29 (0, 0))).heap.size := hat; clear hgrow hat; (obtain ⟨hbB, hko⟩ := KO.app HTI.out (by omega) hown hlq (HR3.out.move fun b hb1 hb2 => ⟨rfl, (HOB.out b hb2).1, (HOB.out b hb2).2⟩) hown3 hgrow' hat'); have HKO : Hid (KO w.heap.size w3 (some ⟨g3, 0, none⟩) cp3 (fs.take i ++ [.mk k2 n2 ks2])) := hko
           clear hgrow' hat' hown3 hown hlq hko)
        | fail)
      go_roundg (fs.length - (i + 1))
      case measure => have := HG.out; omega
      case rel =>
        (refine ⟨i + 1, some ⟨g3, 0, none⟩, cp3, by omega, rfl, by go_num, rfl, (hbr.trans (hb1.mono zz)).trans hbB, ?_⟩); show KO _ _ _ _ _; rw [HT.out]; exact HKO.out
    · obtain rfl : i = fs.length := by omega
      have HKE : Hid (KO w.heap.size wr ad cp fs) := by
        have := HK.out; rw [List.take_length] at this; exact this
      (have hge : ¬ (fs.length : Int) < (fs.length : Int) := by omega); clear HK HX; go_wp2_with fail; go_ret; exact ⟨ad, cp, rfl, HKE.out, hbr⟩
end Go.Proofs.YtalnljnincnbdacGreat
/- Proofs in memory, and where they lie. -/
namespace Go.Proofs.YtalnljnincnbdacGreat
open Go.RowKit

mutual
/-- A proof, in blocks for which P holds. -/
def PRp (P : Nat → Prop) (w : World) : Pf → Value → Prop
  | .mk a f l r ks, v => ∃ c0 c1 c2 vl vr sl cap, v = .agg #[.string a, c0, c1, c2, vl, vr, .slice sl ks.length cap] ∧ a.size ≤ maxLen ∧ Rep w P f (.agg #[c0, c1, c2]) ∧ FLp P w vl l ∧ FLp P w vr r ∧ ks.length ≤ cap ∧ cap ≤ maxLen ∧ (ks ≠ [] → ∃ b off, sl = some ⟨b, off, none⟩ ∧ P b ∧ PRps P w b off ks)
def PRps (P : Nat → Prop) (w : World) (b : Nat) : Nat → List Pf → Prop
  | _, [] => True
  | off, p :: ps => (∃ c0 c1 c2 c3 c4 c5 c6, w.cell? ⟨b, off, none⟩ = some c0 ∧ w.cell? ⟨b, off + 1, none⟩ = some c1 ∧ w.cell? ⟨b, off + 2, none⟩ = some c2 ∧ w.cell? ⟨b, off + 3, none⟩ = some c3 ∧ w.cell? ⟨b, off + 4, none⟩ = some c4 ∧ w.cell? ⟨b, off + 5, none⟩ = some c5 ∧ w.cell? ⟨b, off + 6, none⟩ = some c6 ∧ PRp P w p (.agg #[c0, c1, c2, c3, c4, c5, c6])) ∧ PRps P w b (off + 7) ps
end
theorem PRp.def {P : Nat → Prop} {w : World} {a : ByteArray} {f : Fm} {l r : List Fm} {ks : List Pf} {v : Value} : PRp P w (.mk a f l r ks) v ↔ ∃ c0 c1 c2 vl vr sl cap, v = .agg #[.string a, c0, c1, c2, vl, vr, .slice sl ks.length cap] ∧ a.size ≤ maxLen ∧ Rep w P f (.agg #[c0, c1, c2]) ∧ FLp P w vl l ∧ FLp P w vr r ∧ ks.length ≤ cap ∧ cap ≤ maxLen ∧ (ks ≠ [] → ∃ b off, sl = some ⟨b, off, none⟩ ∧ P b ∧ PRps P w b off ks) := by
  rw [PRp]
theorem PRps.nil {P : Nat → Prop} {w : World} {b off : Nat} : PRps P w b off [] := by rw [PRps]; trivial
theorem PRps.cons {P : Nat → Prop} {w : World} {b off : Nat} {p : Pf} {ps : List Pf} : PRps P w b off (p :: ps) ↔ (∃ c0 c1 c2 c3 c4 c5 c6, w.cell? ⟨b, off, none⟩ = some c0 ∧ w.cell? ⟨b, off + 1, none⟩ = some c1 ∧ w.cell? ⟨b, off + 2, none⟩ = some c2 ∧ w.cell? ⟨b, off + 3, none⟩ = some c3 ∧ w.cell? ⟨b, off + 4, none⟩ = some c4 ∧ w.cell? ⟨b, off + 5, none⟩ = some c5 ∧ w.cell? ⟨b, off + 6, none⟩ = some c6 ∧ PRp P w p (.agg #[c0, c1, c2, c3, c4, c5, c6])) ∧ PRps P w b (off + 7) ps := by
  rw [PRps]
mutual
theorem PRp.keep {P P' : Nat → Prop} {w w' : World} (h : ∀ k, k < w.heap.size → P k → w'.heap[k]? = w.heap[k]? ∧ P' k) : ∀ (p : Pf) (v : Value), PRp P w p v → PRp P' w' p v
  | .mk a f l r ks, v, hp => by
    rw [PRp.def] at hp ⊢; obtain ⟨c0, c1, c2, vl, vr, sl, cap, hv, ha, hf, hl, hr, h1, h2, h3⟩ := hp; (refine ⟨c0, c1, c2, vl, vr, sl, cap, hv, ha, hf.move h, hl.move h, hr.move h, h1, h2, fun hne => ?_⟩); obtain ⟨b, off, hs, hb, hps⟩ := h3 hne
    have hlt : b < w.heap.size := by
      cases ks with
      | nil => exact absurd rfl hne
      | cons k ks =>
        obtain ⟨⟨c0, _, _, _, _, _, _, h0, _⟩, _⟩ := PRps.cons.1 hps; exact lt_of_cell h0
    exact ⟨b, off, hs, (h b hlt hb).2, PRps.keep h b (h b hlt hb).1 off ks hps⟩
theorem PRps.keep {P P' : Nat → Prop} {w w' : World} (h : ∀ k, k < w.heap.size → P k → w'.heap[k]? = w.heap[k]? ∧ P' k) (b : Nat) (hb : w'.heap[b]? = w.heap[b]?) : ∀ (off : Nat) (ps : List Pf), PRps P w b off ps → PRps P' w' b off ps
  | _, [], _ => PRps.nil
  | off, p :: ps, hp => by
    rw [PRps.cons] at hp ⊢; obtain ⟨⟨c0, c1, c2, c3, c4, c5, c6, h0, h1, h2, h3, h4, h5, h6, hr⟩, hs⟩ := hp; (have k := fun (o : Nat) (c : Value) (h : w.cell? ⟨b, o, none⟩ = some c) => (cell_of_block (a := ⟨b, o, none⟩) hb).trans h); exact ⟨⟨c0, c1, c2, c3, c4, c5, c6, k _ _ h0, k _ _ h1, k _ _ h2, k _ _ h3, k _ _ h4, k _ _ h5, k _ _ h6, PRp.keep h p _ hr⟩, PRps.keep h b hb (off + 7) ps hs⟩
end
theorem PRp.move {P P' : Nat → Prop} {w w' : World} {p : Pf} {v : Value} (hp : PRp P w p v) (h : ∀ k, k < w.heap.size → P k → w'.heap[k]? = w.heap[k]? ∧ P' k) : PRp P' w' p v := PRp.keep h p v hp
theorem PRps.move {P P' : Nat → Prop} {w w' : World} {b off : Nat} {ps : List Pf} (hp : PRps P w b off ps) (hb : P b) (h : ∀ k, k < w.heap.size → P k → w'.heap[k]? = w.heap[k]? ∧ P' k) : PRps P' w' b off ps := by
  cases ps with
  | nil => exact PRps.nil
  | cons k ks =>
    obtain ⟨⟨c0, _, _, _, _, _, _, h0, _⟩, _⟩ := PRps.cons.1 hp; exact PRps.keep h b (h b (lt_of_cell h0) hb).1 off _ hp
theorem PRp.up {P : Nat → Prop} {w w' : World} {p : Pf} {v : Value} (hp : PRp P w p v) (hb : Below w.heap.size w w') : PRp P w' p v := hp.move fun k hk h => ⟨hb.block k hk, h⟩
mutual
theorem PRp.rep {P : Nat → Prop} {w : World} : ∀ (p : Pf) (v : Value), PRp P w p v → PRep w p v
  | .mk a f l r ks, v, hp => by
    rw [PRp.def] at hp; rw [PRep.def]; obtain ⟨c0, c1, c2, vl, vr, sl, cap, hv, ha, hf, hl, hr, h1, h2, h3⟩ := hp; (refine ⟨c0, c1, c2, vl, vr, sl, cap, hv, ha, hf.move fun b _ _ => ⟨rfl, trivial⟩, hl.list, hr.list, h1, h2, fun hne => ?_⟩); obtain ⟨b, off, hs, -, hps⟩ := h3 hne; exact ⟨b, off, hs, PRps.reps b off ks hps⟩
theorem PRps.reps {P : Nat → Prop} {w : World} (b : Nat) : ∀ (off : Nat) (ps : List Pf), PRps P w b off ps → PReps w b off ps
  | _, [], _ => PReps.nil
  | off, p :: ps, hp => by
    rw [PRps.cons] at hp; rw [PReps.cons]; obtain ⟨⟨c0, c1, c2, c3, c4, c5, c6, h0, h1, h2, h3, h4, h5, h6, hr⟩, hs⟩ := hp; exact ⟨⟨c0, c1, c2, c3, c4, c5, c6, h0, h1, h2, h3, h4, h5, h6, PRp.rep p _ hr⟩, PRps.reps b (off + 7) ps hs⟩
end
mutual
theorem PRep.low {w : World} : ∀ (p : Pf) (v : Value), PRep w p v → PRp (· < w.heap.size) w p v
  | .mk a f l r ks, v, hp => by
    rw [PRep.def] at hp; rw [PRp.def]; obtain ⟨c0, c1, c2, vl, vr, sl, cap, hv, ha, hf, hl, hr, h1, h2, h3⟩ := hp; (refine ⟨c0, c1, c2, vl, vr, sl, cap, hv, ha, hf.move fun b hb _ => ⟨rfl, hb⟩, hl.low, hr.low, h1, h2, fun hne => ?_⟩); obtain ⟨b, off, hs, hps⟩ := h3 hne
    have hlt : b < w.heap.size := by
      cases ks with
      | nil => exact absurd rfl hne
      | cons k ks =>
        obtain ⟨⟨c0, _, _, _, _, _, _, h0, _⟩, _⟩ := PReps.cons.1 hps; exact lt_of_cell h0
    exact ⟨b, off, hs, hlt, PReps.low b off ks hps⟩
theorem PReps.low {w : World} (b : Nat) : ∀ (off : Nat) (ps : List Pf), PReps w b off ps → PRps (· < w.heap.size) w b off ps
  | _, [], _ => PRps.nil
  | off, p :: ps, hp => by
    rw [PReps.cons] at hp; rw [PRps.cons]; obtain ⟨⟨c0, c1, c2, c3, c4, c5, c6, h0, h1, h2, h3, h4, h5, h6, hr⟩, hs⟩ := hp; exact ⟨⟨c0, c1, c2, c3, c4, c5, c6, h0, h1, h2, h3, h4, h5, h6, PRep.low p _ hr⟩, PReps.low b (off + 7) ps hs⟩
end
theorem PRp.parts {P : Nat → Prop} {w : World} {a : ByteArray} {k : Int} {n : ByteArray} {kf : List Fm} {l r : List Fm} {ks : List Pf} {v : Value} (h : PRp P w (.mk a (.mk k n kf) l r ks) v) :
    ∃ sf cf al cl ar cr sl cap, v = .agg #[.string a, .int .i64 k, .string n, .slice sf kf.length cf, .slice al l.length cl, .slice ar r.length cr, .slice sl ks.length cap] ∧ a.size ≤ maxLen ∧ Rep w P (.mk k n kf) (.agg #[.int .i64 k, .string n, .slice sf kf.length cf]) ∧ FLp P w (.slice al l.length cl) l ∧ FLp P w (.slice ar r.length cr) r ∧ ks.length ≤ cap ∧ cap ≤ maxLen ∧ (ks ≠ [] → ∃ b off, sl = some ⟨b, off, none⟩ ∧ P b ∧ PRps P w b off ks) := by
  obtain ⟨c0, c1, c2, vl, vr, sl, cap, hv, ha, hf, hl, hr, h1, h2, h3⟩ := PRp.def.1 h; obtain ⟨sf, cf, hfv⟩ := slice_shape hf; simp only [Value.agg.injEq, Array.mk.injEq, List.cons.injEq, and_true] at hfv; obtain ⟨rfl, rfl, rfl⟩ := hfv; have hl' := hl; have hr' := hr; obtain ⟨al, cl, rfl, -⟩ := hl; obtain ⟨ar, cr, rfl, -⟩ := hr; exact ⟨sf, cf, al, cl, ar, cr, sl, cap, hv, ha, hf, hl', hr', h1, h2, h3⟩
theorem PRps.get {P : Nat → Prop} {w : World} {b : Nat} : ∀ {off : Nat} {ps : List Pf} (_ : PRps P w b off ps) (i : Nat) (p : Pf) (_ : ps[i]? = some p),
    ∃ c0 c1 c2 c3 c4 c5 c6, w.cell? ⟨b, off + i * 7, none⟩ = some c0 ∧ w.cell? ⟨b, off + i * 7 + 1, none⟩ = some c1 ∧ w.cell? ⟨b, off + i * 7 + 2, none⟩ = some c2 ∧ w.cell? ⟨b, off + i * 7 + 3, none⟩ = some c3 ∧ w.cell? ⟨b, off + i * 7 + 4, none⟩ = some c4 ∧ w.cell? ⟨b, off + i * 7 + 5, none⟩ = some c5 ∧ w.cell? ⟨b, off + i * 7 + 6, none⟩ = some c6 ∧ PRp P w p (.agg #[c0, c1, c2, c3, c4, c5, c6])
  | off, [], _, i, p, hp => by simp at hp
  | off, q :: qs, h, i, p, hp => by
    obtain ⟨h1, h2⟩ := PRps.cons.1 h
    cases i with
    | zero => simp at hp; subst hp; simpa using h1
    | succ i =>
      (have := PRps.get h2 i p (by simpa using hp)); (have e : off + 7 + i * 7 = off + (i + 1) * 7 := by omega)
      rwa [e] at this
theorem PRps.at {P : Nat → Prop} {w : World} {b off : Nat} {ps : List Pf} (h : PRps P w b off ps) (i : Nat) (a : ByteArray) (k : Int) (n : ByteArray) (kf : List Fm) (l r : List Fm) (ks : List Pf) (hp : ps[i]? = some (.mk a (.mk k n kf) l r ks)) :
    ∃ sf cf al cl ar cr sl cap, w.cell? ⟨b, off + i * 7, none⟩ = some (.string a) ∧ w.cell? ⟨b, off + i * 7 + 1, none⟩ = some (.int .i64 k) ∧ w.cell? ⟨b, off + i * 7 + 2, none⟩ = some (.string n) ∧ w.cell? ⟨b, off + i * 7 + 3, none⟩ = some (.slice sf kf.length cf) ∧ w.cell? ⟨b, off + i * 7 + 4, none⟩ = some (.slice al l.length cl) ∧ w.cell? ⟨b, off + i * 7 + 5, none⟩ = some (.slice ar r.length cr) ∧ w.cell? ⟨b, off + i * 7 + 6, none⟩ = some (.slice sl ks.length cap) ∧
      PRp P w (.mk a (.mk k n kf) l r ks) (.agg #[.string a, .int .i64 k, .string n, .slice sf kf.length cf, .slice al l.length cl, .slice ar r.length cr, .slice sl ks.length cap]) := by
  obtain ⟨c0, c1, c2, c3, c4, c5, c6, h0, h1, h2, h3, h4, h5, h6, hr⟩ := h.get i _ hp; obtain ⟨sf, cf, al, cl, ar, cr, sl, cap, hv, -⟩ := hr.parts; simp only [Value.agg.injEq, Array.mk.injEq, List.cons.injEq, and_true] at hv; obtain ⟨rfl, rfl, rfl, rfl, rfl, rfl, rfl⟩ := hv; exact ⟨sf, cf, al, cl, ar, cr, sl, cap, h0, h1, h2, h3, h4, h5, h6, hr⟩

/-- Cells that are proofs. -/
def PQ (P : Nat → Prop) (w : World) : List Value → List Pf → Prop
  | [], [] => True
  | c0 :: c1 :: c2 :: c3 :: c4 :: c5 :: c6 :: cs, p :: ps => PRp P w p (.agg #[c0, c1, c2, c3, c4, c5, c6]) ∧ PQ P w cs ps
  | _, _ => False
theorem PQ.len {P : Nat → Prop} {w : World} : ∀ {cs : List Value} {ps : List Pf}, PQ P w cs ps → cs.length = ps.length * 7
  | [], [], _ => rfl
  | _ :: _ :: _ :: _ :: _ :: _ :: _ :: _, _ :: _, h => by
    have := PQ.len h.2; simp only [List.length_cons]; omega
theorem PQ.move {P P' : Nat → Prop} {w w' : World} (h : ∀ k, k < w.heap.size → P k → w'.heap[k]? = w.heap[k]? ∧ P' k) : ∀ {cs : List Value} {ps : List Pf}, PQ P w cs ps → PQ P' w' cs ps
  | [], [], _ => trivial
  | _ :: _ :: _ :: _ :: _ :: _ :: _ :: _, _ :: _, hp => ⟨hp.1.move h, PQ.move h hp.2⟩
theorem PQ.append {P : Nat → Prop} {w : World} {ds : List Value} {qs : List Pf} (hd : PQ P w ds qs) : ∀ {cs : List Value} {ps : List Pf}, PQ P w cs ps → PQ P w (cs ++ ds) (ps ++ qs)
  | [], [], _ => hd
  | _ :: _ :: _ :: _ :: _ :: _ :: _ :: _, _ :: _, hp => ⟨hp.1, PQ.append hd hp.2⟩
theorem PQ.reps {P : Nat → Prop} {w : World} {b : Nat} : ∀ {cs : List Value} {ps : List Pf} (off : Nat), PQ P w cs ps → (∀ (j : Nat) (u : Value), cs[j]? = some u → w.cell? ⟨b, off + j, none⟩ = some u) → PRps P w b off ps
  | [], [], _, _, _ => PRps.nil
  | c0 :: c1 :: c2 :: c3 :: c4 :: c5 :: c6 :: cs, p :: ps, off, hp, hc => by
    rw [PRps.cons]; (refine ⟨⟨c0, c1, c2, c3, c4, c5, c6, hc 0 _ rfl, hc 1 _ rfl, hc 2 _ rfl, hc 3 _ rfl, hc 4 _ rfl, hc 5 _ rfl, hc 6 _ rfl, hp.1⟩, PQ.reps (off + 7) hp.2 fun j u hu => ?_⟩); (have := hc (j + 7) u (by simpa using hu))
    rwa [show off + (j + 7) = off + 7 + j by omega] at this
theorem PQ.one {P : Nat → Prop} {w : World} : ∀ {cs : List Value} {ps : List Pf}, PQ P w cs ps → ∀ u ∈ cs, u.oneCell' = true
  | [], [], _, u, hu => by cases hu
  | c0 :: c1 :: c2 :: c3 :: c4 :: c5 :: c6 :: cs, ⟨a, ⟨k, n, kf⟩, l, r, ks⟩ :: ps, hp, u, hu => by
    obtain ⟨sf, cf, al, cl, ar, cr, sl, cap, hv, -⟩ := hp.1.parts; simp only [Value.agg.injEq, Array.mk.injEq, List.cons.injEq, and_true] at hv; obtain ⟨rfl, rfl, rfl, rfl, rfl, rfl, rfl⟩ := hv; simp only [List.mem_cons] at hu
    rcases hu with rfl | rfl | rfl | rfl | rfl | rfl | rfl | hu
    iterate 7 rfl
    exact PQ.one hp.2 u hu
/-- A list of proofs being made. -/
def KF (P : Nat → Prop) (B : Nat) (w : World) (ad : Option Addr) (cap : Nat) (ps : List Pf) : Prop := ∃ cs, w.ownsRow B 32 7 (.slice ad ps.length cap) ps.length cs ∧ PQ (fun b => P b ∧ (Value.slice ad ps.length cap).ownBlock ≠ some b) w cs ps
theorem KF.nil {P : Nat → Prop} {B : Nat} {w : World} : KF P B w none 0 [] := ⟨[], ⟨rfl, Or.inl ⟨rfl, rfl⟩⟩, trivial⟩
theorem KF.same {P : Nat → Prop} {B : Nat} {w w' : World} {ad : Option Addr} {cap : Nat} {ps : List Pf} (h : KF P B w ad cap ps) (hb : ∀ b, P b ∨ B ≤ b → b < w.heap.size → w'.heap[b]? = w.heap[b]?) : KF P B w' ad cap ps := by
  obtain ⟨cs, ⟨h1, h2⟩, h3⟩ := h; (refine ⟨cs, ⟨h1, ?_⟩, PQ.move (fun b hb1 hb2 => ⟨hb b (Or.inl hb2.1) hb1, hb2⟩) h3⟩)
  rcases h2 with h2 | ⟨g, cap, cur, hv, hg, hh, r⟩
  · exact Or.inl h2
  · exact Or.inr ⟨g, cap, cur, hv, hg, (hb g (Or.inr hg) (lt_of_block hh)).trans hh, r⟩
theorem KF.up {P : Nat → Prop} {B : Nat} {w w' : World} {ad : Option Addr} {cap : Nat} {ps : List Pf} (h : KF P B w ad cap ps) (hb : Below w.heap.size w w') : KF P B w' ad cap ps := h.same fun b _ hb1 => hb.block b hb1
/-- More proofs. -/
theorem KF.app {P : Nat → Prop} {B : Nat} {w1 w3 : World} {ad : Option Addr} {cp : Nat} {ps qs : List Pf} {cs ds : List Value} {g3 cp3 i j : Nat} (hi : ps.length = i) (hj : qs.length = j)
    (hown : w1.ownsRow B 32 7 (.slice ad i cp) i cs) (hpq : PQ (fun b => P b ∧ (Value.slice ad i cp).ownBlock ≠ some b) w1 cs ps)
    (hqq : PQ (fun b => P b ∧ (Value.slice ad i cp).ownBlock ≠ some b) w1 ds qs)
    (hown3 : w3.ownsRow B 32 7 (.slice (some ⟨g3, 0, none⟩) (i + j) cp3) (i + j) (cs ++ ds))
    (hgrow : w1.grownBy w3 (Value.slice ad i cp).ownBlock) (hat : (Value.slice ad i cp).ownBlock = some g3 ∨ g3 = w1.heap.size) :
    KF P B w3 (some ⟨g3, 0, none⟩) cp3 (ps ++ qs) := by
  subst hi hj; refine ⟨cs ++ ds, ?_, ?_⟩
  · rw [List.length_append]; exact hown3
  · refine PQ.move (fun b hb hok => ⟨hgrow.block b hb (fun e => hok.2 e.symm), hok.1, fun e => ?_⟩) (PQ.append hqq hpq)
    (have e : g3 = b := by simpa [Value.ownBlock] using e)
    rcases hat with h | h
    · exact hok.2 (by rw [h, e])
    · omega
end Go.Proofs.YtalnljnincnbdacGreat
/- Walks: everywhere. -/
namespace Go.Proofs.YtalnljnincnbdacGreat
open Go.RowKit

theorem cons_len {n : Nat} {l : List Value} (h : l.length = n + 1) : ∃ v t, l = v :: t ∧ t.length = n := by
  cases l with
  | nil => cases h
  | cons v t => exact ⟨v, t, rfl, by simpa using h⟩
/-! Facts on the way through a region, with the blocks' makers. -/
def tEq (x : Value) : Fact := fun v _ _ => v = x
theorem tEq_stays (x : Value) : Stays3 (tEq x) := fun _ _ _ _ _ h _ _ => h
/-- Old blocks, and those that the operations ns made. -/
def tP (A S : Nat) (t : Nat → Nat) (ns : List Nat) : Nat → Prop := fun b => b < A ∨ (S ≤ b ∧ t b ∈ ns)
def tPtr (S n : Nat) (cs : Array Value) (T : TypeId) : Fact := fun v w t => ∃ g, v = .pointer (some ⟨g, 0, none⟩) ∧ w.heap[g]? = some (.cells cs T (0, 0)) ∧ S ≤ g ∧ t g = n
theorem tP.up {A S : Nat} {t t' : Nat → Nat} {ns : List Nat} {b N : Nat} (h : tP A S t ns b) (ht : ∀ b, b < N → t' b = t b) (hb : b < N) : tP A S t' ns b := h.imp id fun h => ⟨h.1, by rw [ht b hb]; exact h.2⟩
theorem KP.move {P P' : Nat → Prop} {B : Nat} {w w' : World} {ad : Option Addr} {cap : Nat} {fs : List Fm} (h : KP P B w ad cap fs) (hb : ∀ b, b < w.heap.size → w'.heap[b]? = w.heap[b]?) (hp : ∀ b, b < w.heap.size → P b → P' b) : KP P' B w' ad cap fs := by
  obtain ⟨cs, ⟨h1, h2⟩, h3⟩ := h; (refine ⟨cs, ⟨h1, ?_⟩, h3.move fun b hb1 hb2 => ⟨hb b hb1, hp b hb1 hb2.1, hb2.2⟩⟩)
  rcases h2 with h2 | ⟨g, cap, cur, hv, hg, hh, r⟩
  · exact Or.inl h2
  · exact Or.inr ⟨g, cap, cur, hv, hg, (hb g (lt_of_block hh)).trans hh, r⟩
theorem tPtr_stays (S n : Nat) (cs : Array Value) (T : TypeId) : Stays3 (tPtr S n cs T) := fun _ w _ _ _ h hb ht => by
  obtain ⟨g, hv, hh, h1, h2⟩ := h; (exact ⟨g, hv, below_keep hb hh, h1, by rw [ht g (lt_of_block hh)]; exact h2⟩)
/-! The same for lists of proofs. -/
theorem KF.rep {P : Nat → Prop} {B : Nat} {w : World} {ad : Option Addr} {cap : Nat} {ps : List Pf} (h : KF P B w ad cap ps) (hPB : ∀ b, B ≤ b → P b) : ps.length ≤ cap ∧ cap ≤ maxLen ∧ (ps ≠ [] → ∃ b off, ad = some ⟨b, off, none⟩ ∧ P b ∧ PRps P w b off ps) := by
  obtain ⟨cs, hown, hlq⟩ := h
  rcases hown.2 with ⟨hv, h0⟩ | ⟨g, cp, cur, hv, hg, hh, h1, h2, -⟩
  · simp only [Value.slice.injEq] at hv
    obtain ⟨rfl, -, rfl⟩ := hv; (exact ⟨by omega, by simp, fun hne => absurd (List.length_eq_zero_iff.1 h0) hne⟩)
  · simp only [Value.slice.injEq, true_and] at hv
    obtain ⟨rfl, rfl⟩ := hv; (refine ⟨h1, h2, fun _ => ⟨g, 0, rfl, hPB g hg, ?_⟩⟩)
    exact (PQ.move (P' := P) (fun b _ hb => ⟨rfl, hb.1⟩) hlq).reps (b := g) 0 fun j u hu => by
      have := hown.cells (g := g) rfl j u hu; rw [add_none] at this; exact this
theorem infoPf : ∃ i, Tryz.prog.info? 32 = some i ∧ i.zero = some (.agg #[.string ⟨#[]⟩, .int .i64 0, .string ⟨#[]⟩, .slice none 0 0, .slice none 0 0, .slice none 0 0, .slice none 0 0]) ∧ i.size = 7 ∧ i.bytes = 136 := by
  (obtain ⟨i, hi, h⟩ := Option.map_eq_some_iff.1 (show (Tryz.prog.info? 32).map (fun i => (i.zero, i.size, i.bytes)) = some (some (.agg #[.string ⟨#[]⟩, .int .i64 0, .string ⟨#[]⟩, .slice none 0 0, .slice none 0 0, .slice none 0 0, .slice none 0 0]), 7, 136) by kernel_rfl)); simp only [Prod.mk.injEq] at h; exact ⟨i, hi, h.1, h.2.1, h.2.2⟩
end Go.Proofs.YtalnljnincnbdacGreat
/- A frame behind a drawn region whose slots lie in a row. -/
namespace Go.Proofs.YtalnljnincnbdacGreat
open Go.RowKit

theorem frame_mid2 {ops : Array Oper} {tm : Array Value} {df : List Deferred} {a0 : Act} (lo n : Nat) (hin : (ops.toList.all fun o => match o.dst with | some d => decide (lo ≤ d ∧ lo + n > d) | none => true) = true) (hlen : lo + n ≤ a0.tmps.size) (h : OldSlots ops a0 ⟨tm, df⟩) : ∃ ys : List Value, ys.length = n ∧ tm = ⟨a0.tmps.toList.take lo ++ (ys ++ a0.tmps.toList.drop (lo + n))⟩ ∧ df = a0.defers := by
  obtain ⟨h1, h2, h3⟩ := h; have h1' : tm.toList.length = a0.tmps.toList.length := h1; have hl : lo + n ≤ a0.tmps.toList.length := hlen
  have old : ∀ t, (t < lo ∨ lo + n ≤ t) → tm.toList[t]? = a0.tmps.toList[t]? := fun t ht => by
    have := h3 t (by
      rw [List.all_eq_true] at hin ⊢; intro o ho; have := hin o ho
      cases hd : o.dst with
      | none => rfl
      | some d =>
        rw [hd] at this; have := of_decide_eq_true this; (refine bne_iff_ne.2 fun e => ?_); have e2 : d = t := Option.some.inj e; subst e2
        omega)
    simpa using this
  (refine ⟨(tm.toList.drop lo).take n, by rw [List.length_take, List.length_drop]; omega, ?_, h2⟩); apply Array.ext'; apply List.ext_getElem?; intro t
  rcases Nat.lt_or_ge t lo with ht | ht
  · rw [List.getElem?_append_left (by rw [List.length_take]; omega), List.getElem?_take_of_lt ht]
    exact old t (Or.inl ht)
  · rw [List.getElem?_append_right (by rw [List.length_take]; omega), List.length_take, Nat.min_eq_left (by omega)]
    rcases Nat.lt_or_ge t (lo + n) with ht2 | ht2
    · rw [List.getElem?_append_left (by rw [List.length_take, List.length_drop]; omega), List.getElem?_take_of_lt (by omega), List.getElem?_drop]
      congr 1
      omega
    · rw [List.getElem?_append_right (by rw [List.length_take, List.length_drop]; omega), List.length_take, List.length_drop, Nat.min_eq_left (by omega), List.getElem?_drop, old t (Or.inr ht2)]
      congr 1
      omega
theorem rowOf6 (l : List Value) (h0 : l.length = 6) : ∃ x0 x1 x2 x3 x4 x5, l = [x0, x1, x2, x3, x4, x5] := by
  obtain ⟨x0, l1, e0, h1⟩ := cons_len h0; obtain ⟨x1, l2, e1, h2⟩ := cons_len h1; obtain ⟨x2, l3, e2, h3⟩ := cons_len h2; obtain ⟨x3, l4, e3, h4⟩ := cons_len h3; obtain ⟨x4, l5, e4, h5⟩ := cons_len h4; obtain ⟨x5, l6, e5, h6⟩ := cons_len h5; have e6 : l6 = [] := List.length_eq_zero_iff.1 h6; subst e6 e5 e4 e3 e2 e1 e0; exact ⟨x0, x1, x2, x3, x4, x5, rfl⟩
end Go.Proofs.YtalnljnincnbdacGreat
