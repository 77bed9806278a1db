/- Texts of one proof, one behind the other: Own1, Fault1, Each1, Count1, Shelf2, Put1, Names1, Names2, Math12, Swaps1, Parts1, Parts2, Parts3. -/
import Derived.Test.YtalnljnincnbdacGreatB04
import Derived.Deep.RegionLaw
import Derived.Test.YtalnljnincnbdacGreatB03
import Derived.Shelf.Sort.Plain
import Derived.Shelf.Slices.CompactS
import Derived.Shelf.Slices.In.SortNone
import Derived.Test.YtalnljnincnbdacGreatProg
import Derived.Deep.DeepCutAuto
import Derived.Sort.OwnSorted
/- Walks: a copy of a formula. -/
namespace Go.Proofs.YtalnljnincnbdacGreat
open Go.RowKit

def Owns (m : Nat) : Prop := ∀ (f : Fm) (v : Value) (w : World), f.size < m → Slim f → Rep w (fun _ => True) f v →
  Calls Tryz.prog 61 #[v] w fun e w' => ∃ u, e = .returned u ∧ Rep w' (w.heap.size ≤ ·) f u ∧ Below w.heap.size w w'

/-- What a copy has made so far: the list of its kids. -/
def KO (B : Nat) (w : World) (ad : Option Addr) (cap : Nat) (fs : List Fm) : Prop := ∃ cs, w.ownsRow B 29 3 (.slice ad fs.length cap) fs.length cs ∧ LQ (fun b => B ≤ b ∧ (Value.slice ad fs.length cap).ownBlock ≠ some b) w cs fs

theorem KO.nil {B : Nat} {w : World} : KO B w none 0 [] := ⟨[], ⟨rfl, Or.inl ⟨rfl, rfl⟩⟩, trivial⟩
theorem KO.same {B : Nat} {w w' : World} {ad : Option Addr} {cap : Nat} {fs : List Fm} (h : KO B w ad cap fs) (hb : ∀ b, B ≤ b → b < w.heap.size → w'.heap[b]? = w.heap[b]?) : KO B w' ad cap fs := by
  obtain ⟨cs, ⟨h1, h2⟩, h3⟩ := h; (refine ⟨cs, ⟨h1, ?_⟩, h3.move fun b hb1 hb2 => ⟨hb b hb2.1 hb1, hb2⟩⟩)
  rcases h2 with h2 | ⟨g, cap, cur, hv, hg, hh, r⟩
  · exact Or.inl h2
  · exact Or.inr ⟨g, cap, cur, hv, hg, (hb g hg (lt_of_block hh)).trans hh, r⟩
theorem KO.up {B : Nat} {w w' : World} {ad : Option Addr} {cap : Nat} {fs : List Fm} (h : KO B w ad cap fs) (hb : Below w.heap.size w w') : KO B w' ad cap fs := h.same fun b _ hb1 => hb.block b hb1

/-- One kid more. -/
theorem KO.app {B : Nat} {w1 w3 : World} {o : Obj} {ad : Option Addr} {cp : Nat} {fs : List Fm} {kid : Fm} {c0 c1 c2 : Value} {cs : List Value} {g3 cp3 i : Nat} (hi : fs.length = i) (hB : B ≤ w1.heap.size)
    (hown : (w1.alloc o).ownsRow B 29 3 (.slice ad i cp) i cs) (hlq : LQ (fun b => B ≤ b ∧ (Value.slice ad i cp).ownBlock ≠ some b) (w1.alloc o) cs fs)
    (hrep : Rep w1 (fun b => B ≤ b ∧ (Value.slice ad i cp).ownBlock ≠ some b) kid (.agg #[c0, c1, c2]))
    (hown3 : w3.ownsRow B 29 3 (.slice (some ⟨g3, 0, none⟩) (i + 1) cp3) (i + 1) (cs ++ [c0, c1, c2]))
    (hgrow : (w1.alloc o).grownBy w3 (Value.slice ad i cp).ownBlock) (hat : (Value.slice ad i cp).ownBlock = some g3 ∨ g3 = (w1.alloc o).heap.size) :
    Below B w1 w3 ∧ KO B w3 (some ⟨g3, 0, none⟩) cp3 (fs ++ [kid]) := by
  subst hi; (have hs : (w1.alloc o).heap.size = w1.heap.size + 1 := by simp); have hs2 := hgrow.size; (refine ⟨⟨hgrow.os, hgrow.tape, hgrow.output, by omega, fun j hj => ?_⟩, cs ++ [c0, c1, c2], ?_, ?_⟩)
  · rw [hgrow.block j (by omega) (fun e => by have := (hown.lt j e.symm).1; omega), Below.heap_alloc _ _ _ (by omega)]
  · rw [List.length_append]; exact hown3
  · refine (hlq.append (ds := [c0, c1, c2]) (gs := [kid]) ⟨hrep.move fun b hb hok => ⟨Below.heap_alloc _ _ _ hb, hok⟩, trivial⟩).move fun b hb hok => ⟨hgrow.block b hb (fun e => hok.2 e.symm), hok.1, fun e => ?_⟩
    (have e : g3 = b := by simpa [Value.ownBlock] using e)
    rcases hat with h | h
    · exact hok.2 (by rw [h, e])
    · omega

/-- The list is a formula's kids. -/
theorem KO.rep {B : Nat} {w : World} {ad : Option Addr} {cap : Nat} {ks : List Fm} (h : KO B w ad cap ks) (k : Int) (n : ByteArray) (hn : n.size ≤ maxLen) : Rep w (B ≤ ·) (.mk k n ks) (.agg #[.int .i64 k, .string n, .slice ad ks.length cap]) := by
  obtain ⟨cs, hown, hlq⟩ := h
  rcases hown.2 with ⟨hv, h0⟩ | ⟨g, cp, cur, hv, hg, hh, h1, h2, -⟩
  · simp only [Value.slice.injEq] at hv
    obtain ⟨rfl, -, rfl⟩ := hv; (exact Rep.def.2 ⟨none, 0, rfl, hn, by omega, by simp, fun hne => absurd (List.length_eq_zero_iff.1 h0) hne⟩)
  · simp only [Value.slice.injEq, true_and] at hv
    obtain ⟨rfl, rfl⟩ := hv; (refine Rep.def.2 ⟨_, cap, rfl, hn, h1, h2, fun _ => ⟨g, 0, rfl, hg, ?_⟩⟩)
    have := (hlq.move (ok' := (B ≤ ·)) fun b _ hb => ⟨rfl, hb.1⟩).reps (b := g) 0 fun j u hu => by
      have := hown.cells (g := g) rfl j u hu; rw [add_none] at this; exact this
    exact this

set_option maxHeartbeats 4000000 in
theorem own_step (m : Nat) (ih : Owns m) : Owns (m + 1) := by
  intro f v w hm hslim hrep; obtain ⟨k, n, ks⟩ := f; obtain ⟨sl, cap, rfl, hx1, hx2, hx3, hx4⟩ := Rep.def.1 hrep; (have HX : Hid (ks ≠ [] → ∃ b off, sl = some ⟨b, off, none⟩ ∧ True ∧ Reps w (fun _ => True) b off ks) := hx4); have HSl : Hid (Slim (.mk k n ks)) := hslim; have hl25 := hslim.len; clear hx4 hslim; obtain ⟨i0, hi, hz0, hz1, hz2⟩ := infoFormula; (have hlenI : ((ks.length : Nat) : Int) ≤ 25000 := by omega); have HIo : Hid (Tryz.prog.info? 29 = some i0 ∧ i0.zero = some (.agg #[.int .i64 0, .string ⟨#[]⟩, .slice none 0 0]) ∧ i0.size = 3 ∧ i0.bytes = 48) := ⟨hi, hz0, hz1, hz2⟩; clear hi hz0 hz1 hz2
  go_enter Tryz.func61, Tryz.ntmps61
  go_wp2_with fail
  go_loopg [4] ks.length (fun g c wr => ∃ i ad cp, i ≤ ks.length ∧ g = ks.length - i ∧ c = .int .i64 (i : Nat) ∧ Below w.heap.size w wr ∧ wr.heap[w.heap.size]? = some (.cells #[.int .i64 k, .string n, .slice sl ks.length cap] 29 (0, 0)) ∧ wr.heap[w.heap.size + 1]? = some (.cells #[.int .i64 0, .string ⟨#[]⟩, .slice none 0 0] 29 (0, 0)) ∧ wr.heap[w.heap.size + 1 + 1]? = some (.cells #[.int .i64 k, .string n, .slice ad i cp] 29 (0, 0)) ∧ Hid (KO (w.heap.size + 3) wr ad cp (ks.take i)))
  case atStart =>
    (refine ⟨0, none, 0, by omega, by omega, rfl, (((Below.refl _ w).alloc (Nat.le_refl _) _).alloc (by simp) _).alloc (by simp; omega) _, two_new.1, two_new.2, ?_, KO.nil⟩); have := blk_new ((w.alloc (.cells #[.int .i64 k, .string n, .slice sl ks.length cap] 29 (0, 0))).alloc (.cells #[.int .i64 0, .string ⟨#[]⟩, .slice none 0 0] 29 (0, 0))) (.cells #[.int .i64 k, .string n, .slice none 0 0] 29 (0, 0)); simpa using this
  case round =>
    obtain ⟨i, ad, cp, hile, hg, rfl, hbr, q0, q1, q2, HK⟩ := hrel; have HG : Hid (gk = ks.length - i) := hg; clear hg; obtain ⟨e0, e1, e2, -⟩ := blk3 q0; obtain ⟨p0, p1, p2, p3, p4, p5⟩ := blk3 q2; have z0 := lt_of_block q0; have z2 := lt_of_block q2; have zz := hbr.size; by_cases hlt : i < ks.length
    · obtain ⟨⟨k2, n2, ks2⟩, hki⟩ : ∃ f, ks[i]? = some f := ⟨_, List.getElem?_eq_getElem hlt⟩
      (have hltI : (i : Int) < (ks.length : Int) := by omega); (obtain ⟨b, off, hsl, -, hrs⟩ := HX.out (fun e => by rw [e] at hlt; simp at hlt)); subst hsl; obtain ⟨sl2, cap2, g0, g1, g2, hrep2⟩ := (hrs.up hbr).at i k2 n2 ks2 hki; (have hsz : (Fm.mk k2 n2 ks2).size < m := by have := sizes_get hki; rw [Fm.size] at hm; omega); (have HIH : Hid (∀ wx, Rep wx (fun _ => True) (.mk k2 n2 ks2) (.agg #[.int .i64 k2, .string n2, .slice sl2 ks2.length cap2]) → Calls Tryz.prog 61 #[.agg #[.int .i64 k2, .string n2, .slice sl2 ks2.length cap2]] wx fun e w' => ∃ u, e = .returned u ∧ Rep w' (wx.heap.size ≤ ·) (.mk k2 n2 ks2) u ∧ Below wx.heap.size wx w') := fun wx h => ih _ _ wx hsz (HSl.out.kid i _ hki) h)
      have zb0 : b < w.heap.size := by
        obtain ⟨c0, _, _, h0, _⟩ := hrs.get i _ hki; exact lt_of_cell h0
      (have hlc : ((i : Nat) : Int) < ((cap : Nat) : Int) := by omega); have zb := lt_of_cell g0; simp only at zb
      have HT : Hid (ks.take (i + 1) = ks.take i ++ [.mk k2 n2 ks2]) := by
        show _ = _; rw [List.take_add_one, hki]; rfl
      (have hti : (ks.take i).length = i := by rw [List.length_take]; omega)
      have HOB : Hid (∀ b, wr.heap.size ≤ b → w.heap.size + 3 ≤ b ∧ (Value.slice ad i cp).ownBlock ≠ some b) := fun b hb => by
        obtain ⟨cs, ho, -⟩ := HK.out; rw [hti] at ho; (exact ⟨by omega, fun e => by have := (ho.lt b e).2; omega⟩)
      clear hki hrs hrep HX; obtain ⟨hi, hz0, hz1, hz2⟩ := HIo.out; go_wp2_with fail
      go_region_law
        (first
         | (have hown := (HK.out.up hb1').up ((Below.refl _ w1).alloc (Nat.le_refl _) (.cells #[.int .i64 k2, .string n2, .slice sl3 ks2.length cap3] 29 (0, 0)))
            obtain ⟨cs, hown, hlq⟩ := hown; rw [hti] at hown hlq; (refine step_append_lies _ rfl _ _ 22 rfl (w.heap.size + 3) 29 i0 (.agg #[.int .i64 0, .string ⟨#[]⟩, .slice none 0 0]) 3 48 Tryz.underlying22 hi hz0 hz1 hz2 rfl (by decide) _ _ _ rfl hown ⟨w1.heap.size, 0, none⟩ 1 1 [.int .i64 k2, .string n2, .slice sl3 ks2.length cap3] rfl rfl ?_ ?_ (by omega) (by unfold maxLen; omega) (by omega) (by simp; omega) _ rfl ?_)
            · intro j u hu
              rw [add_none, Nat.zero_add, blk_cell (blk_new w1 _)]; simpa using hu
            · intro u hu
              simp at hu
              rcases hu with rfl | rfl | rfl <;> rfl
            intro g3 cp3 w3 hown3 hgrow hat hlt3; have hgrow' : (w1.alloc (.cells #[.int .i64 k2, .string n2, .slice sl3 ks2.length cap3] 29 (0, 0))).grownBy w3 (Value.slice ad i cp).ownBlock := hgrow; have hat' : (Value.slice ad i cp).ownBlock = some g3 ∨ g3 = (w1.alloc (.cells #[.int .i64 k2, .string n2, .slice sl3 ks2.length cap3] 29 (0, 0))).heap.size := hat; clear hgrow hat; (obtain ⟨hbB, hko⟩ := KO.app hti (by omega) hown hlq (hrep3.move fun b hb1 hb2 => ⟨rfl, (HOB.out b hb2).1, (HOB.out b hb2).2⟩) hown3 hgrow' hat'); have HKO : Hid (KO (w.heap.size + 3) w3 (some ⟨g3, 0, none⟩) cp3 (ks.take i ++ [.mk k2 n2 ks2])) := hko; clear hgrow' hat' hown3 hown hlq hko c1 c2 c3 c4; (have t1 := (hbB.cell (p := ⟨w.heap.size, 2, none⟩) (show w.heap.size < w.heap.size + 3 by omega)).trans (cell_of_block (hb1'.block _ z0) |>.trans e2)); (have t2 := (hbB.cell (p := ⟨b, off + i * 3, none⟩) (show b < w.heap.size + 3 by omega)).trans (cell_of_block (hb1'.block _ zb) |>.trans g0)); (have t3 := (hbB.cell (p := ⟨b, off + i * 3 + 1, none⟩) (show b < w.heap.size + 3 by omega)).trans (cell_of_block (hb1'.block _ zb) |>.trans g1)); (have t4 := (hbB.cell (p := ⟨b, off + i * 3 + 2, none⟩) (show b < w.heap.size + 3 by omega)).trans (cell_of_block (hb1'.block _ zb) |>.trans g2)); (have t0 := (hbB.block (w.heap.size + 1 + 1) (by omega)).trans r2); clear s0 s1 s2 s3 s4 s5; obtain ⟨s0, s1, s2, s3, s4, s5⟩ := blk3 t0
            have y3 := hbB.size)
         | (go_simp
            go_at_call 61
            refine (HIH.out _ (hrep2.up (Below.refl _ _).drew)).mono ?_; rintro e w1 ⟨u, rfl, hrep3, hb1⟩; obtain ⟨sl3, cap3, rfl⟩ := slice_shape hrep3; have hb1' : Below wr.heap.size wr w1 := (Below.refl _ wr).drew.trans hb1; clear hb1; have c1 := (hb1'.cell (p := ⟨w.heap.size, 2, none⟩) z0).trans e2; have c2 := (hb1'.cell (p := ⟨b, off + i * 3, none⟩) zb).trans g0; have c3 := (hb1'.cell (p := ⟨b, off + i * 3 + 1, none⟩) zb).trans g1; have c4 := (hb1'.cell (p := ⟨b, off + i * 3 + 2, none⟩) zb).trans g2; have r2 := below_keep hb1' q2; obtain ⟨s0, s1, s2, s3, s4, s5⟩ := blk3 r2; have y0 : w.heap.size < w1.heap.size := Nat.lt_of_lt_of_le z0 hb1'.size; have yb : b < w1.heap.size := Nat.lt_of_lt_of_le zb hb1'.size; have y2 : w.heap.size + 1 + 1 < w1.heap.size := lt_of_block r2
            dsimp only)
         | fail)
      all_goals
        go_wp2_with fail
        have t5 : (w3.setCell ⟨w.heap.size + 1 + 1, 2, none⟩ (.slice (some ⟨g3, 0, none⟩) (i + 1) cp3)).heap[w.heap.size + 1 + 1]? = some (.cells #[.int .i64 k, .string n, .slice (some ⟨g3, 0, none⟩) (i + 1) cp3] 29 (0, 0)) := by
          simp [World.setCell, Array.getElem?_modify, t0]
        (have t6 := (Below.heap_setCell w3 ⟨w.heap.size + 1 + 1, 2, none⟩ (.slice (some ⟨g3, 0, none⟩) (i + 1) cp3) w.heap.size (by simp; omega)).trans ((hbB.block w.heap.size (by omega)).trans (below_keep hb1' q0))); (have t7 := (Below.heap_setCell w3 ⟨w.heap.size + 1 + 1, 2, none⟩ (.slice (some ⟨g3, 0, none⟩) (i + 1) cp3) (w.heap.size + 1) (by simp)).trans ((hbB.block (w.heap.size + 1) (by omega)).trans (below_keep hb1' q1))); (have BB : Below w.heap.size w (w3.setCell ⟨w.heap.size + 1 + 1, 2, none⟩ (.slice (some ⟨g3, 0, none⟩) (i + 1) cp3)) := ((hbr.trans (hb1'.mono zz)).trans (hbB.mono (by omega))).setCell (by simp; omega) _)
        have HKN : Hid (KO (w.heap.size + 3) (w3.setCell ⟨w.heap.size + 1 + 1, 2, none⟩ (.slice (some ⟨g3, 0, none⟩) (i + 1) cp3)) (some ⟨g3, 0, none⟩) cp3 (ks.take (i + 1))) := by
          show KO _ _ _ _ _; rw [HT.out]; (exact HKO.out.same fun b hb _ => Below.heap_setCell _ _ _ _ (by simp; omega))
        go_roundg (ks.length - (i + 1))
        case measure => have := HG.out; omega
        case rel => exact ⟨i + 1, some ⟨g3, 0, none⟩, cp3, by omega, rfl, by go_num, BB, t6, t7, t5, HKN⟩
    · obtain rfl : i = ks.length := by omega
      have HKE : Hid (KO (w.heap.size + 3) wr ad cp ks) := by
        have := HK.out; rw [List.take_length] at this; exact this
      clear HK HX hrep; obtain ⟨o0, o1, o2, o3, o4, o5⟩ := blk3 q1; go_wp2_with fail; have f3 := set3 q1 (.int .i64 k) (.string n) (.slice ad ks.length cp); (have BF : Below w.heap.size w (((wr.setCell ⟨w.heap.size + 1, 0, none⟩ (.int .i64 k)).setCell ⟨w.heap.size + 1, 1, none⟩ (.string n)).setCell ⟨w.heap.size + 1, 2, none⟩ (.slice ad ks.length cp)) := ((hbr.setCell (by simp) _).setCell (by simp) _).setCell (by simp) _)
      have RF := (HKE.out.same (w' := ((wr.setCell ⟨w.heap.size + 1, 0, none⟩ (.int .i64 k)).setCell ⟨w.heap.size + 1, 1, none⟩ (.string n)).setCell ⟨w.heap.size + 1, 2, none⟩ (.slice ad ks.length cp)) fun b hb _ => by
        rw [Below.heap_setCell _ _ _ _ (by simp; omega), Below.heap_setCell _ _ _ _ (by simp; omega), Below.heap_setCell _ _ _ _ (by simp; omega)]).rep k n hx1
      generalize World.setCell _ _ _ = F at f3 BF RF ⊢; clear o0 o1 o2 o3 o4 o5; obtain ⟨o0, o1, o2, -⟩ := blk3 f3; (exact bodyPost_ret (v := .agg #[.int .i64 k, .string n, .slice ad ks.length cp]) (by simp [results, Tryz.results61, go_sem, o0, o1, o2]) rfl ⟨_, rfl, RF.move fun b _ hb => ⟨rfl, by omega⟩, BF⟩)

theorem owns_all : ∀ m, Owns m
  | 0 => fun _ _ _ h => absurd h (Nat.not_lt_zero _)
  | m + 1 => own_step m (owns_all m)

theorem own_any (f : Fm) (v : Value) (w : World) (hs : Slim f) (hrep : Rep w (fun _ => True) f v) :
    Calls Tryz.prog 61 #[v] w fun e w' => ∃ u, e = .returned u ∧ Rep w' (w.heap.size ≤ ·) f u ∧ Below w.heap.size w w' :=
  owns_all (f.size + 1) f v w (Nat.lt_succ_self _) hs hrep
end Go.Proofs.YtalnljnincnbdacGreat
/- Walks: FormulaFault of the yardstick. -/
namespace Go.Proofs.YtalnljnincnbdacGreat
open Go.RowKit

theorem LR.reps {A : Nat} {w : World} {b : Nat} : ∀ {cs : List Value} {fs : List Fm} (off : Nat), LR A w cs fs → (∀ (j : Nat) (u : Value), cs[j]? = some u → w.cell? ⟨b, off + j, none⟩ = some u) → Reps w (fun _ => True) b off fs
  | [], [], _, _, _ => Reps.nil
  | c0 :: c1 :: c2 :: cs, f :: fs, off, h, hc => Reps.cons.2 ⟨⟨c0, c1, c2, hc 0 c0 rfl, hc 1 c1 rfl, hc 2 c2 rfl, h.1.all⟩, LR.reps (off + 3) h.2 fun j u hu => by
      (have := hc (j + 3) u (by simpa using hu))
      rwa [show off + (j + 3) = off + 3 + j by omega] at this⟩

/-- A list that a call has made, as kids are. -/
theorem LO.reps {A B : Nat} {w : World} {v : Value} {fs : List Fm} (h : LO A B w v fs) : ∃ g cap, v = .slice (some ⟨g, 0, none⟩) fs.length cap ∧ fs.length ≤ cap ∧ cap ≤ maxLen ∧ Reps w (fun _ => True) g 0 fs := by
  obtain ⟨g, cap, cs, rfl, hown, hlr⟩ := h
  rcases hown.2 with ⟨hv, h0⟩ | ⟨g', cp, cur, hv, hg, hh, h1, h2, -⟩
  · cases hv
  · simp only [Value.slice.injEq, true_and] at hv
    obtain ⟨-, rfl⟩ := hv; (refine ⟨g, cap, rfl, h1, h2, hlr.reps 0 fun j u hu => ?_⟩); have := hown.cells (g := g) rfl j u hu; rw [add_none] at this; exact this

theorem Rep.name {w : World} {ok : Nat → Prop} {k : Int} {n : ByteArray} {ks : List Fm} {v : Value} (h : Rep w ok (.mk k n ks) v) : n.size ≤ maxLen ∧ ks.length ≤ maxLen := by
  obtain ⟨sl, cap, -, h1, h2, h3, -⟩ := Rep.def.1 h; (exact ⟨h1, by omega⟩)

def Chk.code : Chk → Int × Int
  | .ok _ => (0, 0)
  | .bad c a => (c, a)
end Go.Proofs.YtalnljnincnbdacGreat
/- Walks: eachNode, whatever visits. -/
namespace Go.Proofs.YtalnljnincnbdacGreat
open Go.RowKit

theorem Fine.small {k : Int} {n : ByteArray} {ks : List Fm} (h : Fine (.mk k n ks)) : n.size ≤ 8 ∧ ks.length ≤ 2 := by
  rcases h.forms with ⟨m, e, hn⟩ | e | e | ⟨c, g, hk, e, hg⟩ | ⟨c, g, g', hk, e, hg, hg'⟩ <;> cases e
  · have := isNm_bd hn
    have e2 : n.data.toList.length = n.size := Array.length_toList; (exact ⟨by omega, by simp⟩)
  · exact ⟨by decide, by simp⟩
  · exact ⟨by decide, by simp⟩
  · exact ⟨by decide, by simp⟩
  · exact ⟨by decide, by simp⟩

theorem sizes_take : ∀ (ks : List Fm) (i : Nat) (f : Fm), ks[i]? = some f → Fm.sizes (ks.take i) + f.size ≤ Fm.sizes ks
  | [], i, f, h => by simp at h
  | k :: ks, 0, f, h => by simp at h; subst h; simp [Fm.sizes]
  | k :: ks, i + 1, f, h => by
    (have := sizes_take ks i f (by simpa using h)); simp only [List.take_succ_cons, Fm.sizes]; omega

end Go.Proofs.YtalnljnincnbdacGreat
/- Walks: how many nodes there are. -/
namespace Go.Proofs.YtalnljnincnbdacGreat
open Go.RowKit

def hasN (nm : ByteArray) : Fm → Bool
  | .mk k n _ => decide (k = 1) && decide (n.data.toList = nm.data.toList)

theorem blk1 {w : World} {b : Nat} {c0 : Value} {T : TypeId} (h : w.heap[b]? = some (.cells #[c0] T (0, 0))) : w.cell? ⟨b, 0, none⟩ = some c0 ∧ w.frozen? ⟨b, 0, none⟩ = false := ⟨blk_cell h 0, blk_fz h 0⟩
/-! With a formula of s nodes for a name. -/
def cntW (nm : ByteArray) (s : Nat) : List Fm → Nat
  | [] => 0
  | f :: fs => (if hasN nm f = true then s else 1) + cntW nm s fs
end Go.Proofs.YtalnljnincnbdacGreat
/- Two contracts of the library, laid at this program: slices.Sort and slices.Compact at []string. -/
namespace Go.Proofs
open Go.Shelf
def Tryz.lays190_ren : Go.Shelf.Ren := ⟨fun | 190 => 102 | 125 => 143 | 258 => 142 | 128 => 190 | 129 => 191 | 302 => 181 | 303 => 182 | 304 => 183 | 305 => 184 | 306 => 185 | 307 => 186 | 308 => 187 | 309 => 188 | 310 => 189 | 333 => 208 | 329 => 209 | 330 => 210 | 334 => 211 | 335 => 212 | 336 => 213 | 344 => 229 | n => n, fun | 31 => 33 | 9 => 9 | 3 => 3 | 46 => 219 | 0 => 0 | 51 => 265 | 53 => 117 | 4 => 4 | 183 => 258 | 182 => 257 | 131 => 175 | 5 => 5 | 218 => 284 | 222 => 288 | 228 => 303 | 229 => 304 | n => n, fun | n => n⟩
theorem Tryz.lays190 : Go.Proofs.Lays.n190 Tryz.prog Tryz.lays190_ren := {
  mixed := by kernel_rfl
  f125 := Tryz.func143.trans (congrArg some (by kernel_rfl))
  f128 := Tryz.func190.trans (congrArg some (by kernel_rfl))
  f129 := Tryz.func191.trans (congrArg some (by kernel_rfl))
  f190 := Tryz.func102.trans (congrArg some (by kernel_rfl))
  f258 := Tryz.func142.trans (congrArg some (by kernel_rfl))
  f302 := Tryz.func181.trans (congrArg some (by kernel_rfl))
  f303 := Tryz.func182.trans (congrArg some (by kernel_rfl))
  f304 := Tryz.func183.trans (congrArg some (by kernel_rfl))
  f305 := Tryz.func184.trans (congrArg some (by kernel_rfl))
  f306 := Tryz.func185.trans (congrArg some (by kernel_rfl))
  f307 := Tryz.func186.trans (congrArg some (by kernel_rfl))
  f308 := Tryz.func187.trans (congrArg some (by kernel_rfl))
  f309 := Tryz.func188.trans (congrArg some (by kernel_rfl))
  f310 := Tryz.func189.trans (congrArg some (by kernel_rfl))
  f329 := Tryz.func209.trans (congrArg some (by kernel_rfl))
  f330 := Tryz.func210.trans (congrArg some (by kernel_rfl))
  f333 := Tryz.func208.trans (congrArg some (by kernel_rfl))
  f334 := Tryz.func211.trans (congrArg some (by kernel_rfl))
  f335 := Tryz.func212.trans (congrArg some (by kernel_rfl))
  f336 := Tryz.func213.trans (congrArg some (by kernel_rfl))
  f344 := Tryz.func229.trans (congrArg some (by kernel_rfl))
  t0 := Tryz.underlying0
  a0 := Tryz.isAgg0
  z0 := Tryz.sizeOf0
  v0 := Tryz.zeroValue0
  t3 := Tryz.underlying3
  a3 := Tryz.isAgg3
  z3 := Tryz.sizeOf3
  v3 := Tryz.zeroValue3
  t4 := Tryz.underlying4
  a4 := Tryz.isAgg4
  z4 := Tryz.sizeOf4
  v4 := Tryz.zeroValue4
  t5 := Tryz.underlying5
  a5 := Tryz.isAgg5
  z5 := Tryz.sizeOf5
  v5 := Tryz.zeroValue5
  t9 := Tryz.underlying9
  a9 := Tryz.isAgg9
  z9 := Tryz.sizeOf9
  v9 := Tryz.zeroValue9
  t31 := Tryz.underlying33
  a31 := Tryz.isAgg33
  z31 := Tryz.sizeOf33
  v31 := Tryz.zeroValue33
  t46 := Tryz.underlying219
  a46 := Tryz.isAgg219
  z46 := Tryz.sizeOf219
  v46 := Tryz.zeroValue219
  t51 := Tryz.underlying265
  a51 := Tryz.isAgg265
  z51 := Tryz.sizeOf265
  v51 := Tryz.zeroValue265
  t53 := Tryz.underlying117
  a53 := Tryz.isAgg117
  z53 := Tryz.sizeOf117
  v53 := Tryz.zeroValue117
  t131 := Tryz.underlying175
  a131 := Tryz.isAgg175
  z131 := Tryz.sizeOf175
  v131 := Tryz.zeroValue175
  t182 := Tryz.underlying257
  a182 := Tryz.isAgg257
  z182 := Tryz.sizeOf257
  v182 := Tryz.zeroValue257
  t183 := Tryz.underlying258
  a183 := Tryz.isAgg258
  z183 := Tryz.sizeOf258
  v183 := Tryz.zeroValue258
  t218 := Tryz.underlying284
  a218 := Tryz.isAgg284
  z218 := Tryz.sizeOf284
  v218 := Tryz.zeroValue284
  t222 := Tryz.underlying288
  a222 := Tryz.isAgg288
  z222 := Tryz.sizeOf288
  v222 := Tryz.zeroValue288
  t228 := Tryz.underlying303
  a228 := Tryz.isAgg303
  z228 := Tryz.sizeOf303
  v228 := Tryz.zeroValue303
  t229 := Tryz.underlying304
  a229 := Tryz.isAgg304
  z229 := Tryz.sizeOf304
  v229 := Tryz.zeroValue304 }
open Go.Sort Go.RowKit in
theorem Tryz.slices_Sort_string (blk off cap : Nat) (ss : List (List UInt8)) (w : World) (hH : Holds encStr w blk off ss.toArray) (hblk : blk < w.heap.size) (hsz : ss.length < 4611686018427387904) :
    Calls Tryz.prog 102 #[.slice (some ⟨blk, off, none⟩) ss.length cap] w fun e w' =>
      e = .returned (.tuple #[]) ∧ ∃ n os, w' = grow (putRow encStr (Sort.ahead w n) blk off (ss.mergeSort fun x y => decide (x ≤ y)).toArray) os := Any.slices_Sort_string Tryz.lays190 blk off cap ss w hH hblk hsz
open Go.RowKit Go.Sort in
theorem Tryz.slices_Sort_string_none (p : Option Addr) (cap : Nat) (w : World) :
    Calls Tryz.prog 102 #[.slice p 0 cap] w fun e w' => e = .returned (.tuple #[]) ∧ w' = w := Any.slices_Sort_string_none Tryz.lays190 p cap w

end Go.Proofs
/- Walks: copies, and a formula for a name. -/
namespace Go.Proofs.YtalnljnincnbdacGreat
open Go.RowKit

mutual
def putF (nm : ByteArray) (g : Fm) : Fm → Fm
  | .mk k n ks => if hasN nm (.mk k n []) = true then g else .mk k n (putFs nm g ks)
def putFs (nm : ByteArray) (g : Fm) : List Fm → List Fm
  | [] => []
  | f :: fs => putF nm g f :: putFs nm g fs
end
end Go.Proofs.YtalnljnincnbdacGreat
/- Walks: the names in a formula, as they come. -/
namespace Go.Proofs.YtalnljnincnbdacGreat
open Go.RowKit

theorem infoText : ∃ i, Tryz.prog.info? 9 = some i ∧ i.zero = some (.string ⟨#[]⟩) ∧ i.size = 1 ∧ i.bytes = 16 := by
  (obtain ⟨i, hi, h⟩ := Option.map_eq_some_iff.1 (show (Tryz.prog.info? 9).map (fun i => (i.zero, i.size, i.bytes)) = some (some (.string ⟨#[]⟩), 1, 16) by kernel_rfl)); simp only [Prod.mk.injEq] at h; exact ⟨i, hi, h.1, h.2.1, h.2.2⟩

def nmsOf : List Fm → List ByteArray
  | [] => []
  | .mk k n _ :: fs => if k = 1 then n :: nmsOf fs else nmsOf fs
theorem nmsOf_append : ∀ a b : List Fm, nmsOf (a ++ b) = nmsOf a ++ nmsOf b
  | [], b => rfl
  | .mk k n ks :: a, b => by
    rw [List.cons_append, nmsOf, nmsOf, nmsOf_append a b]
    split <;> rfl
theorem kept_grown {ok : Nat → Prop} {w w' : World} {ob : Option Nat} (h : w.grownBy w' ob) (hi : ∀ k, ok k → ob ≠ some k) : Kept ok w w' :=
  ⟨h.os, h.tape, h.output, h.size, fun k hk ho => h.block k hk (fun e => hi k ho e.symm)⟩

end Go.Proofs.YtalnljnincnbdacGreat
/- Walks: Names. -/
namespace Go.Proofs.YtalnljnincnbdacGreat
open Go.RowKit Go.Sort

abbrev srt (ss : List (List UInt8)) : List (List UInt8) := ss.mergeSort fun x y => decide (x ≤ y)

theorem compact_mem (zs : List (List UInt8)) (t : List UInt8) : t ∈ Lib.compact zs ↔ t ∈ zs := by
  unfold Lib.compact Lib.compactUpTo
  constructor
  · intro h
    obtain ⟨j, hj, rfl⟩ := List.mem_map.1 h; have hj := List.mem_range.1 (List.mem_filter.1 hj).1; (rw [getElem!_pos _ j (by simpa using hj)])
    simp
  · intro h
    obtain ⟨j, hj, rfl⟩ := List.getElem_of_mem h
    have key : ∀ j, j < zs.length → zs.toArray[j]! ∈ ((List.range zs.length).filter (Lib.keeps zs.toArray)).map (zs.toArray[·]!) := by
      intro j
      induction j with
      | zero => intro hj; exact List.mem_map.2 ⟨0, List.mem_filter.2 ⟨List.mem_range.2 hj, by simp [Lib.keeps]⟩, rfl⟩
      | succ j ih =>
        intro hj; by_cases hk : Lib.keeps zs.toArray (j + 1) = true
        · exact List.mem_map.2 ⟨j + 1, List.mem_filter.2 ⟨List.mem_range.2 hj, hk⟩, rfl⟩
        · have e : zs.toArray[j + 1]! = zs.toArray[j]! := by
            simpa [Lib.keeps] using hk
          rw [e]; (exact ih (by omega))
    have := key j hj; (rw [getElem!_pos _ j (by simpa using hj)] at this); simpa using this

/-- A list of texts in memory. -/
def TL (w : World) (v : Value) (l : List (List UInt8)) : Prop := ∃ ad cap, v = .slice ad l.length cap ∧ l.length ≤ cap ∧ cap ≤ maxLen ∧ (l ≠ [] → ∃ g, ad = some ⟨g, 0, none⟩ ∧ ∀ (j : Nat) (t : List UInt8), l[j]? = some t → w.cell? ⟨g, j, none⟩ = some (.string ⟨t.toArray⟩))
theorem TL.up {w w' : World} {v : Value} {l : List (List UInt8)} (h : TL w v l) (hb : Below w.heap.size w w') : TL w' v l := by
  obtain ⟨ad, cap, h1, h2, h3, h4⟩ := h; (refine ⟨ad, cap, h1, h2, h3, fun hne => ?_⟩); obtain ⟨g, h5, h6⟩ := h4 hne
  exact ⟨g, h5, fun j t ht => by
    have := h6 j t ht; rw [hb.cell (p := ⟨g, j, none⟩) (lt_of_cell this)]
    exact this⟩
theorem TL.nil {w : World} : TL w (.slice none 0 0) [] := ⟨none, 0, rfl, by simp, by simp, fun h => absurd rfl h⟩

/-- The names in a formula, each once, rising. -/
def nmsT (f : Fm) : List (List UInt8) := (nmsOf (allN f)).map (·.data.toList)
def nmsU (f : Fm) : List (List UInt8) := Lib.compact (srt (nmsT f))
theorem nmsU_mem (f : Fm) (t : List UInt8) : t ∈ nmsU f ↔ t ∈ nmsT f := by
  unfold nmsU; rw [compact_mem]; exact List.mem_mergeSort

end Go.Proofs.YtalnljnincnbdacGreat
/- What a formula for a name does to names and sizes. -/
namespace Go.Proofs.YtalnljnincnbdacGreat

theorem allN_leaf (k : Int) (n : ByteArray) : allN (.mk k n []) = [.mk k n []] := by rw [allN, allNs]
theorem allN_one (k : Int) (n : ByteArray) (f : Fm) : allN (.mk k n [f]) = .mk k n [f] :: allN f := by rw [allN, allNs, allNs, List.append_nil]
theorem allN_two (k : Int) (n : ByteArray) (f g : Fm) : allN (.mk k n [f, g]) = .mk k n [f, g] :: (allN f ++ allN g) := by rw [allN, allNs, allNs, allNs, List.append_nil]

end Go.Proofs.YtalnljnincnbdacGreat
/- Walks: what FormulaSwaps calls. -/
namespace Go.Proofs.YtalnljnincnbdacGreat
open Go.RowKit

theorem txt_eq (a b : List UInt8) : ((⟨a.toArray⟩ : ByteArray).toList = (⟨b.toArray⟩ : ByteArray).toList) ↔ a = b := by
  rw [ByteArray.toList_eq, ByteArray.toList_eq]

set_option maxHeartbeats 1000000 in
theorem hasText_any (l : List (List UInt8)) (t : List UInt8) (v : Value) (w : World) (h : TL w v l) :
    Calls Tryz.prog 62 #[v, .string ⟨t.toArray⟩] w fun e w' => e = .returned (.bool (decide (t ∈ l))) ∧ w' = w := by
  obtain ⟨ad, cap, rfl, h1, h2, h3⟩ := h; (have hlI : (l.length : Int) ≤ 9223372036854775807 := by unfold maxLen at h2; omega); have H3 : Hid (l ≠ [] → ∃ g, ad = some ⟨g, 0, none⟩ ∧ ∀ (j : Nat) (t : List UInt8), l[j]? = some t → w.cell? ⟨g, j, none⟩ = some (.string ⟨t.toArray⟩)) := h3; clear h3
  go_enter Tryz.func62, Tryz.ntmps62
  go_wp2_with fail
  go_loopg [5] l.length (fun g c wr => ∃ i, i ≤ l.length ∧ g = l.length - i ∧ c = .int .i64 (i : Nat) ∧ wr = w ∧ Hid (t ∉ l.take i))
  case atStart => exact ⟨0, by omega, by omega, rfl, rfl, by show _ ∉ _; simp⟩
  case round =>
    obtain ⟨i, hi, hg, rfl, rfl, HN⟩ := hrel; have HG : Hid (gk = l.length - i) := hg; clear hg; by_cases hlt : i < l.length
    · obtain ⟨x, hx⟩ : ∃ x, l[i]? = some x := ⟨_, List.getElem?_eq_getElem hlt⟩
      (obtain ⟨g, rfl, hc⟩ := H3.out (fun e => by rw [e] at hlt; simp at hlt)); have g0 := hc i x hx; (have hltI : (i : Int) < (l.length : Int) := by omega); (have hlc : (i : Int) < (cap : Int) := by omega); have HX : Hid (l[i]? = some x) := hx; clear hc hx H3; by_cases hxt : x = t
      · subst hxt
        have HD : Hid (decide (x ∈ l) = true) := by
          show _ = _; exact decide_eq_true (List.mem_of_getElem? HX.out)
        go_wp2_with fail; go_ret; (exact ⟨by rw [HD.out]; rfl, rfl⟩)
      · have hne : ((⟨x.toArray⟩ : ByteArray).toList == (⟨t.toArray⟩ : ByteArray).toList) = false := by
          rw [beq_eq_false_iff_ne, Ne, txt_eq]; exact hxt
        have HNN : Hid (t ∉ l.take (i + 1)) := by
          show _ ∉ _; rw [List.take_add_one, HX.out]; intro hm
          rcases List.mem_append.1 hm with h | h
          · exact HN.out h
          · simp at h; exact hxt h.symm
        generalize hb : (⟨x.toArray⟩ : ByteArray) = X at *; generalize hb2 : (⟨t.toArray⟩ : ByteArray) = Y at *; clear hb hb2 HX; go_wp2_with fail
        go_roundg (l.length - (i + 1))
        case measure => have := HG.out; omega
        case rel => exact ⟨i + 1, by omega, rfl, by go_num, rfl, HNN⟩
    · have HD : Hid (decide (t ∈ l) = false) := by
        show _ = _; have := HN.out; (rw [List.take_of_length_le (by omega)] at this); exact decide_eq_false this
      (have hge : ¬ (i : Int) < (l.length : Int) := by omega); clear H3 HN; go_wp2_with fail; go_ret; (exact ⟨by rw [HD.out]; rfl, rfl⟩)

set_option maxHeartbeats 1000000 in
theorem named_any (n : ByteArray) (w : World) :
    Calls Tryz.prog 42 #[.string n] w fun e w' => e = .returned (.agg #[.int .i64 1, .string n, .slice none 0 0]) ∧ Below w.heap.size w w' := by
  have B := (Below.refl w.heap.size w).alloc (Nat.le_refl _)
  go_enter Tryz.func42, Tryz.ntmps42
  go_wp2_with fail; (exact bodyPost_ret (v := .agg #[.int .i64 1, .string n, .slice none 0 0]) (by simp [results, Tryz.results42, go_sem]) rfl ⟨rfl, B _⟩)

theorem code_zero {f : Fm} (h : f.code.1 = 0) : f.code = (0, 0) := by
  rcases hx : chk f 0 with s | ⟨c, a⟩
  · simp only [Fm.code, hx]
  · have := chk_code f 0 c a hx
    simp only [Fm.code, hx] at h; exact absurd h this
theorem code_chk {f : Fm} (h : f.code = (0, 0)) : ∃ s, chk f 0 = .ok s := by
  rcases hx : chk f 0 with s | ⟨c, a⟩
  · exact ⟨s, rfl⟩
  · have := chk_code f 0 c a hx
    simp only [Fm.code, hx] at h; exact absurd (Prod.mk.inj h).1 this

/-- What Put answers. -/
inductive PutR (f : Fm) (nm : ByteArray) (g : Fm) : Fm → Int → Int → Prop
  | ok (h1 : f.code = (0, 0)) (h2 : g.code = (0, 0)) (h3 : isNm nm.data.toList = true) (h4 : cntW nm g.size (allN f) ≤ 200) : PutR f nm g (putF nm g f) 0 0
  | bad1 (c a : Int) (hc : c ≠ 0) (h1 : f.code = (c, a)) : PutR f nm g (.mk 0 e0 []) c a
  | bad2 (c a : Int) (hc : c ≠ 0) (h1 : f.code = (0, 0)) (h2 : g.code = (c, a)) : PutR f nm g (.mk 0 e0 []) c a
  | bad3 (h1 : f.code = (0, 0)) (h2 : g.code = (0, 0)) (h3 : isNm nm.data.toList = false) : PutR f nm g (.mk 0 e0 []) 8 0
  | bad4 (h1 : f.code = (0, 0)) (h2 : g.code = (0, 0)) (h3 : isNm nm.data.toList = true) (h4 : 200 < cntW nm g.size (allN f)) : PutR f nm g (.mk 0 e0 []) 10 0

theorem PutR.zero {f : Fm} {nm : ByteArray} {g r : Fm} {a : Int} (h : PutR f nm g r 0 a) : a = 0 ∧ r = putF nm g f ∧ f.code = (0, 0) ∧ g.code = (0, 0) ∧ isNm nm.data.toList = true ∧ cntW nm g.size (allN f) ≤ 200 := by
  cases h with
  | ok h1 h2 h3 h4 => exact ⟨rfl, rfl, h1, h2, h3, h4⟩
  | bad1 _ _ hc _ => exact absurd rfl hc
  | bad2 _ _ hc _ _ => exact absurd rfl hc

end Go.Proofs.YtalnljnincnbdacGreat
/- Walks: lists of texts and of formulas, as the yardstick compares them. -/
namespace Go.Proofs.YtalnljnincnbdacGreat
open Go.RowKit

set_option maxHeartbeats 1000000 in
theorem texts_same (l : List (List UInt8)) (v u : Value) (w : World) (h : TL w v l) (h' : TL w u l) :
    Calls Tryz.prog 44 #[v, u] w fun e w' => e = .returned (.bool true) ∧ Below w.heap.size w w' := by
  obtain ⟨ad, cap, rfl, h1, h2, h3⟩ := h; obtain ⟨ad', cap', rfl, h1', h2', h3'⟩ := h'; (have hlI : (l.length : Int) ≤ 9223372036854775807 := by unfold maxLen at h2; omega); have H3 : Hid (l ≠ [] → ∃ g, ad = some ⟨g, 0, none⟩ ∧ ∀ (j : Nat) (t : List UInt8), l[j]? = some t → w.cell? ⟨g, j, none⟩ = some (.string ⟨t.toArray⟩)) := h3; have H4 : Hid (l ≠ [] → ∃ g, ad' = some ⟨g, 0, none⟩ ∧ ∀ (j : Nat) (t : List UInt8), l[j]? = some t → w.cell? ⟨g, j, none⟩ = some (.string ⟨t.toArray⟩)) := h3'; clear h3 h3'
  go_enter Tryz.func44, Tryz.ntmps44
  go_wp2_with fail
  go_loopg [5] l.length (fun g c wr => ∃ i, i ≤ l.length ∧ g = l.length - i ∧ c = .int .i64 (i : Nat) ∧ Below w.heap.size w wr ∧ (∀ a : Addr, wr.cell? a = w.cell? a))
  case atStart => exact ⟨0, by omega, by omega, rfl, Below.refl _ _, fun _ => rfl⟩
  case round =>
    obtain ⟨i, hi, hg, rfl, hbr, hce⟩ := hrel; have HG : Hid (gk = l.length - i) := hg; have HCe : Hid (∀ a : Addr, wr.cell? a = w.cell? a) := hce; clear hg hce; by_cases hlt : i < l.length
    · obtain ⟨x, hx⟩ : ∃ x, l[i]? = some x := ⟨_, List.getElem?_eq_getElem hlt⟩
      (obtain ⟨g, rfl, hc⟩ := H3.out (fun e => by rw [e] at hlt; simp at hlt)); (obtain ⟨g', rfl, hc'⟩ := H4.out (fun e => by rw [e] at hlt; simp at hlt)); have g0 := (HCe.out _).trans (hc i x hx); have g1 := (HCe.out _).trans (hc' i x hx); (have hltI : (i : Int) < (l.length : Int) := by omega); (have hlc : (i : Int) < (cap : Int) := by omega); (have hlc' : (i : Int) < (cap' : Int) := by omega); clear hc hc' hx H3 H4; generalize (⟨x.toArray⟩ : ByteArray) = X at *; go_wp2_with fail
      go_quiet (fail)
      go_wp2_with fail
      go_roundg (l.length - (i + 1))
      case measure => have := HG.out; omega
      case rel => exact ⟨i + 1, by omega, rfl, by go_num, ⟨hbr.os, hbr.tape, hbr.output, hbr.size, hbr.block⟩, fun a => HCe.out a⟩
    · have hge : ¬ (i : Int) < (l.length : Int) := by omega
      clear H3 H4; go_wp2_with fail; go_ret; exact ⟨rfl, hbr⟩

/-- A list of formulas in memory. -/
def FL (w : World) (v : Value) (fs : List Fm) : Prop := ∃ ad cap, v = .slice ad fs.length cap ∧ fs.length ≤ cap ∧ cap ≤ maxLen ∧ (fs ≠ [] → ∃ b off, ad = some ⟨b, off, none⟩ ∧ Reps w (fun _ => True) b off fs)
theorem FL.up {w w' : World} {v : Value} {fs : List Fm} (h : FL w v fs) (hb : Below w.heap.size w w') : FL w' v fs := by
  obtain ⟨ad, cap, h1, h2, h3, h4⟩ := h; (refine ⟨ad, cap, h1, h2, h3, fun hne => ?_⟩); obtain ⟨b, off, h5, h6⟩ := h4 hne; exact ⟨b, off, h5, h6.up hb⟩

end Go.Proofs.YtalnljnincnbdacGreat
/- Walks: the program's own comparison of formulas. -/
namespace Go.Proofs.YtalnljnincnbdacGreat
open Go.RowKit

theorem Rep.kids {w : World} {k : Int} {n : ByteArray} {ks : List Fm} {sl : Option Addr} {cap : Nat} (h : Rep w (fun _ => True) (.mk k n ks) (.agg #[.int .i64 k, .string n, .slice sl ks.length cap])) : FL w (.slice sl ks.length cap) ks := by
  obtain ⟨sl', cap', hv, -, h1, h2, h3⟩ := Rep.def.1 h; simp only [Value.agg.injEq, Array.mk.injEq, List.cons.injEq, Value.slice.injEq, true_and, and_true] at hv; obtain ⟨rfl, rfl⟩ := hv; (refine ⟨sl, cap, rfl, h1, h2, fun hne => ?_⟩); obtain ⟨b, off, hs, -, hr⟩ := h3 hne; exact ⟨b, off, hs, hr⟩

/-! Where a formula is in a list. -/
end Go.Proofs.YtalnljnincnbdacGreat
/- Walks: Parts. -/
namespace Go.Proofs.YtalnljnincnbdacGreat
open Go.RowKit

theorem KO.list {B : Nat} {w : World} {ad : Option Addr} {cap : Nat} {fs : List Fm} (h : KO B w ad cap fs) : FL w (.slice ad fs.length cap) fs :=
  (h.rep 0 e0 (by decide)).all.kids

end Go.Proofs.YtalnljnincnbdacGreat
