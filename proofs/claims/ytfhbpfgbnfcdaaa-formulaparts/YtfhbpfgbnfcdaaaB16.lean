/- Texts of one proof, one behind the other: Own1, Names1. -/
import Derived.Test.YtfhbpfgbnfcdaaaB13
import Derived.Test.YtfhbpfgbnfcdaaaB15
import Derived.Deep.RegionLaw
import Derived.Test.YtfhbpfgbnfcdaaaB14
/- Walks: a copy of a formula. -/
namespace Go.Proofs.Ytfhbpfgbnfcdaaa
open Go.RowKit

def Owns (m : Nat) : Prop := ∀ (f : Fm) (v : Value) (w : World), f.size < m → Slim f → Rep w (fun _ => True) f v →
  Calls Try.prog 11 #[v] w fun e w' => ∃ u, e = .returned u ∧ Rep w' (w.heap.size ≤ ·) f u ∧ Below w.heap.size w w'

/-- What a copy has made so far: the list of its kids. -/
def KO (B : Nat) (w : World) (ad : Option Addr) (cap : Nat) (fs : List Fm) : Prop := ∃ cs, w.ownsRow B 24 3 (.slice ad fs.length cap) fs.length cs ∧ LQ (fun b => B ≤ b ∧ (Value.slice ad fs.length cap).ownBlock ≠ some b) w cs fs

theorem KO.nil {B : Nat} {w : World} : KO B w none 0 [] := ⟨[], ⟨rfl, Or.inl ⟨rfl, rfl⟩⟩, trivial⟩
theorem KO.same {B : Nat} {w w' : World} {ad : Option Addr} {cap : Nat} {fs : List Fm} (h : KO B w ad cap fs) (hb : ∀ b, B ≤ b → b < w.heap.size → w'.heap[b]? = w.heap[b]?) : KO B w' ad cap fs := by
  obtain ⟨cs, ⟨h1, h2⟩, h3⟩ := h; (refine ⟨cs, ⟨h1, ?_⟩, h3.move fun b hb1 hb2 => ⟨hb b hb2.1 hb1, hb2⟩⟩)
  rcases h2 with h2 | ⟨g, cap, cur, hv, hg, hh, r⟩
  · exact Or.inl h2
  · exact Or.inr ⟨g, cap, cur, hv, hg, (hb g hg (lt_of_block hh)).trans hh, r⟩
theorem KO.up {B : Nat} {w w' : World} {ad : Option Addr} {cap : Nat} {fs : List Fm} (h : KO B w ad cap fs) (hb : Below w.heap.size w w') : KO B w' ad cap fs := h.same fun b _ hb1 => hb.block b hb1

/-- One kid more. -/
theorem KO.app {B : Nat} {w1 w3 : World} {o : Obj} {ad : Option Addr} {cp : Nat} {fs : List Fm} {kid : Fm} {c0 c1 c2 : Value} {cs : List Value} {g3 cp3 i : Nat} (hi : fs.length = i) (hB : B ≤ w1.heap.size)
    (hown : (w1.alloc o).ownsRow B 24 3 (.slice ad i cp) i cs) (hlq : LQ (fun b => B ≤ b ∧ (Value.slice ad i cp).ownBlock ≠ some b) (w1.alloc o) cs fs)
    (hrep : Rep w1 (fun b => B ≤ b ∧ (Value.slice ad i cp).ownBlock ≠ some b) kid (.agg #[c0, c1, c2]))
    (hown3 : w3.ownsRow B 24 3 (.slice (some ⟨g3, 0, none⟩) (i + 1) cp3) (i + 1) (cs ++ [c0, c1, c2]))
    (hgrow : (w1.alloc o).grownBy w3 (Value.slice ad i cp).ownBlock) (hat : (Value.slice ad i cp).ownBlock = some g3 ∨ g3 = (w1.alloc o).heap.size) :
    Below B w1 w3 ∧ KO B w3 (some ⟨g3, 0, none⟩) cp3 (fs ++ [kid]) := by
  subst hi; (have hs : (w1.alloc o).heap.size = w1.heap.size + 1 := by simp); have hs2 := hgrow.size; (refine ⟨⟨hgrow.os, hgrow.tape, hgrow.output, by omega, fun j hj => ?_⟩, cs ++ [c0, c1, c2], ?_, ?_⟩)
  · rw [hgrow.block j (by omega) (fun e => by have := (hown.lt j e.symm).1; omega), Below.heap_alloc _ _ _ (by omega)]
  · rw [List.length_append]; exact hown3
  · refine (hlq.append (ds := [c0, c1, c2]) (gs := [kid]) ⟨hrep.move fun b hb hok => ⟨Below.heap_alloc _ _ _ hb, hok⟩, trivial⟩).move fun b hb hok => ⟨hgrow.block b hb (fun e => hok.2 e.symm), hok.1, fun e => ?_⟩
    (have e : g3 = b := by simpa [Value.ownBlock] using e)
    rcases hat with h | h
    · exact hok.2 (by rw [h, e])
    · omega

/-- The list is a formula's kids. -/
theorem KO.rep {B : Nat} {w : World} {ad : Option Addr} {cap : Nat} {ks : List Fm} (h : KO B w ad cap ks) (k : Int) (n : ByteArray) (hn : n.size ≤ maxLen) : Rep w (B ≤ ·) (.mk k n ks) (.agg #[.int .i64 k, .string n, .slice ad ks.length cap]) := by
  obtain ⟨cs, hown, hlq⟩ := h
  rcases hown.2 with ⟨hv, h0⟩ | ⟨g, cp, cur, hv, hg, hh, h1, h2, -⟩
  · simp only [Value.slice.injEq] at hv
    obtain ⟨rfl, -, rfl⟩ := hv; (exact Rep.def.2 ⟨none, 0, rfl, hn, by omega, by simp, fun hne => absurd (List.length_eq_zero_iff.1 h0) hne⟩)
  · simp only [Value.slice.injEq, true_and] at hv
    obtain ⟨rfl, rfl⟩ := hv; (refine Rep.def.2 ⟨_, cap, rfl, hn, h1, h2, fun _ => ⟨g, 0, rfl, hg, ?_⟩⟩)
    have := (hlq.move (ok' := (B ≤ ·)) fun b _ hb => ⟨rfl, hb.1⟩).reps (b := g) 0 fun j u hu => by
      have := hown.cells (g := g) rfl j u hu; rw [add_none] at this; exact this
    exact this

set_option maxHeartbeats 4000000 in
theorem own_step (m : Nat) (ih : Owns m) : Owns (m + 1) := by
  intro f v w hm hslim hrep; obtain ⟨k, n, ks⟩ := f; obtain ⟨sl, cap, rfl, hx1, hx2, hx3, hx4⟩ := Rep.def.1 hrep; (have HX : Hid (ks ≠ [] → ∃ b off, sl = some ⟨b, off, none⟩ ∧ True ∧ Reps w (fun _ => True) b off ks) := hx4); have HSl : Hid (Slim (.mk k n ks)) := hslim; have hl25 := hslim.len; clear hx4 hslim; obtain ⟨i0, hi, hz0, hz1, hz2⟩ := infoFormula; (have hlenI : ((ks.length : Nat) : Int) ≤ 25000 := by omega); have HIo : Hid (Try.prog.info? 24 = some i0 ∧ i0.zero = some (.agg #[.int .i64 0, .string ⟨#[]⟩, .slice none 0 0]) ∧ i0.size = 3 ∧ i0.bytes = 48) := ⟨hi, hz0, hz1, hz2⟩; clear hi hz0 hz1 hz2
  go_enter Try.func11, Try.ntmps11
  go_wp2_with fail
  go_loopg [4] ks.length (fun g c wr => ∃ i ad cp, i ≤ ks.length ∧ g = ks.length - i ∧ c = .int .i64 (i : Nat) ∧ Below w.heap.size w wr ∧ wr.heap[w.heap.size]? = some (.cells #[.int .i64 k, .string n, .slice sl ks.length cap] 24 (0, 0)) ∧ wr.heap[w.heap.size + 1]? = some (.cells #[.int .i64 0, .string ⟨#[]⟩, .slice none 0 0] 24 (0, 0)) ∧ wr.heap[w.heap.size + 1 + 1]? = some (.cells #[.int .i64 k, .string n, .slice ad i cp] 24 (0, 0)) ∧ Hid (KO (w.heap.size + 3) wr ad cp (ks.take i)))
  case atStart =>
    (refine ⟨0, none, 0, by omega, by omega, rfl, (((Below.refl _ w).alloc (Nat.le_refl _) _).alloc (by simp) _).alloc (by simp; omega) _, two_new.1, two_new.2, ?_, KO.nil⟩); have := blk_new ((w.alloc (.cells #[.int .i64 k, .string n, .slice sl ks.length cap] 24 (0, 0))).alloc (.cells #[.int .i64 0, .string ⟨#[]⟩, .slice none 0 0] 24 (0, 0))) (.cells #[.int .i64 k, .string n, .slice none 0 0] 24 (0, 0)); simpa using this
  case round =>
    obtain ⟨i, ad, cp, hile, hg, rfl, hbr, q0, q1, q2, HK⟩ := hrel; have HG : Hid (gk = ks.length - i) := hg; clear hg; obtain ⟨e0, e1, e2, -⟩ := blk3 q0; obtain ⟨p0, p1, p2, p3, p4, p5⟩ := blk3 q2; have z0 := lt_of_block q0; have z2 := lt_of_block q2; have zz := hbr.size; by_cases hlt : i < ks.length
    · obtain ⟨⟨k2, n2, ks2⟩, hki⟩ : ∃ f, ks[i]? = some f := ⟨_, List.getElem?_eq_getElem hlt⟩
      (have hltI : (i : Int) < (ks.length : Int) := by omega); (obtain ⟨b, off, hsl, -, hrs⟩ := HX.out (fun e => by rw [e] at hlt; simp at hlt)); subst hsl; obtain ⟨sl2, cap2, g0, g1, g2, hrep2⟩ := (hrs.up hbr).at i k2 n2 ks2 hki; (have hsz : (Fm.mk k2 n2 ks2).size < m := by have := sizes_get hki; rw [Fm.size] at hm; omega); (have HIH : Hid (∀ wx, Rep wx (fun _ => True) (.mk k2 n2 ks2) (.agg #[.int .i64 k2, .string n2, .slice sl2 ks2.length cap2]) → Calls Try.prog 11 #[.agg #[.int .i64 k2, .string n2, .slice sl2 ks2.length cap2]] wx fun e w' => ∃ u, e = .returned u ∧ Rep w' (wx.heap.size ≤ ·) (.mk k2 n2 ks2) u ∧ Below wx.heap.size wx w') := fun wx h => ih _ _ wx hsz (HSl.out.kid i _ hki) h)
      have zb0 : b < w.heap.size := by
        obtain ⟨c0, _, _, h0, _⟩ := hrs.get i _ hki; exact lt_of_cell h0
      (have hlc : ((i : Nat) : Int) < ((cap : Nat) : Int) := by omega); have zb := lt_of_cell g0; simp only at zb
      have HT : Hid (ks.take (i + 1) = ks.take i ++ [.mk k2 n2 ks2]) := by
        show _ = _; rw [List.take_add_one, hki]; rfl
      (have hti : (ks.take i).length = i := by rw [List.length_take]; omega)
      have HOB : Hid (∀ b, wr.heap.size ≤ b → w.heap.size + 3 ≤ b ∧ (Value.slice ad i cp).ownBlock ≠ some b) := fun b hb => by
        obtain ⟨cs, ho, -⟩ := HK.out; rw [hti] at ho; (exact ⟨by omega, fun e => by have := (ho.lt b e).2; omega⟩)
      clear hki hrs hrep HX; obtain ⟨hi, hz0, hz1, hz2⟩ := HIo.out; go_wp2_with fail
      go_region_law
        (first
         | (have hown := (HK.out.up hb1').up ((Below.refl _ w1).alloc (Nat.le_refl _) (.cells #[.int .i64 k2, .string n2, .slice sl3 ks2.length cap3] 24 (0, 0)))
            obtain ⟨cs, hown, hlq⟩ := hown; rw [hti] at hown hlq; (refine step_append_lies _ rfl _ _ 22 rfl (w.heap.size + 3) 24 i0 (.agg #[.int .i64 0, .string ⟨#[]⟩, .slice none 0 0]) 3 48 Try.underlying22 hi hz0 hz1 hz2 rfl (by decide) _ _ _ rfl hown ⟨w1.heap.size, 0, none⟩ 1 1 [.int .i64 k2, .string n2, .slice sl3 ks2.length cap3] rfl rfl ?_ ?_ (by omega) (by unfold maxLen; omega) (by omega) (by simp; omega) _ rfl ?_)
            · intro j u hu
              rw [add_none, Nat.zero_add, blk_cell (blk_new w1 _)]; simpa using hu
            · intro u hu
              simp at hu
              rcases hu with rfl | rfl | rfl <;> rfl
            intro g3 cp3 w3 hown3 hgrow hat hlt3; have hgrow' : (w1.alloc (.cells #[.int .i64 k2, .string n2, .slice sl3 ks2.length cap3] 24 (0, 0))).grownBy w3 (Value.slice ad i cp).ownBlock := hgrow; have hat' : (Value.slice ad i cp).ownBlock = some g3 ∨ g3 = (w1.alloc (.cells #[.int .i64 k2, .string n2, .slice sl3 ks2.length cap3] 24 (0, 0))).heap.size := hat; clear hgrow hat; (obtain ⟨hbB, hko⟩ := KO.app hti (by omega) hown hlq (hrep3.move fun b hb1 hb2 => ⟨rfl, (HOB.out b hb2).1, (HOB.out b hb2).2⟩) hown3 hgrow' hat'); have HKO : Hid (KO (w.heap.size + 3) w3 (some ⟨g3, 0, none⟩) cp3 (ks.take i ++ [.mk k2 n2 ks2])) := hko; clear hgrow' hat' hown3 hown hlq hko c1 c2 c3 c4; (have t1 := (hbB.cell (p := ⟨w.heap.size, 2, none⟩) (show w.heap.size < w.heap.size + 3 by omega)).trans (cell_of_block (hb1'.block _ z0) |>.trans e2)); (have t2 := (hbB.cell (p := ⟨b, off + i * 3, none⟩) (show b < w.heap.size + 3 by omega)).trans (cell_of_block (hb1'.block _ zb) |>.trans g0)); (have t3 := (hbB.cell (p := ⟨b, off + i * 3 + 1, none⟩) (show b < w.heap.size + 3 by omega)).trans (cell_of_block (hb1'.block _ zb) |>.trans g1)); (have t4 := (hbB.cell (p := ⟨b, off + i * 3 + 2, none⟩) (show b < w.heap.size + 3 by omega)).trans (cell_of_block (hb1'.block _ zb) |>.trans g2)); (have t0 := (hbB.block (w.heap.size + 1 + 1) (by omega)).trans r2); clear s0 s1 s2 s3 s4 s5; obtain ⟨s0, s1, s2, s3, s4, s5⟩ := blk3 t0
            have y3 := hbB.size)
         | (go_simp
            go_at_call 11
            refine (HIH.out _ (hrep2.up (Below.refl _ _).drew)).mono ?_; rintro e w1 ⟨u, rfl, hrep3, hb1⟩; obtain ⟨sl3, cap3, rfl⟩ := slice_shape hrep3; have hb1' : Below wr.heap.size wr w1 := (Below.refl _ wr).drew.trans hb1; clear hb1; have c1 := (hb1'.cell (p := ⟨w.heap.size, 2, none⟩) z0).trans e2; have c2 := (hb1'.cell (p := ⟨b, off + i * 3, none⟩) zb).trans g0; have c3 := (hb1'.cell (p := ⟨b, off + i * 3 + 1, none⟩) zb).trans g1; have c4 := (hb1'.cell (p := ⟨b, off + i * 3 + 2, none⟩) zb).trans g2; have r2 := below_keep hb1' q2; obtain ⟨s0, s1, s2, s3, s4, s5⟩ := blk3 r2; have y0 : w.heap.size < w1.heap.size := Nat.lt_of_lt_of_le z0 hb1'.size; have yb : b < w1.heap.size := Nat.lt_of_lt_of_le zb hb1'.size; have y2 : w.heap.size + 1 + 1 < w1.heap.size := lt_of_block r2
            dsimp only)
         | fail)
      all_goals
        go_wp2_with fail
        have t5 : (w3.setCell ⟨w.heap.size + 1 + 1, 2, none⟩ (.slice (some ⟨g3, 0, none⟩) (i + 1) cp3)).heap[w.heap.size + 1 + 1]? = some (.cells #[.int .i64 k, .string n, .slice (some ⟨g3, 0, none⟩) (i + 1) cp3] 24 (0, 0)) := by
          simp [World.setCell, Array.getElem?_modify, t0]
        (have t6 := (Below.heap_setCell w3 ⟨w.heap.size + 1 + 1, 2, none⟩ (.slice (some ⟨g3, 0, none⟩) (i + 1) cp3) w.heap.size (by simp; omega)).trans ((hbB.block w.heap.size (by omega)).trans (below_keep hb1' q0))); (have t7 := (Below.heap_setCell w3 ⟨w.heap.size + 1 + 1, 2, none⟩ (.slice (some ⟨g3, 0, none⟩) (i + 1) cp3) (w.heap.size + 1) (by simp)).trans ((hbB.block (w.heap.size + 1) (by omega)).trans (below_keep hb1' q1))); (have BB : Below w.heap.size w (w3.setCell ⟨w.heap.size + 1 + 1, 2, none⟩ (.slice (some ⟨g3, 0, none⟩) (i + 1) cp3)) := ((hbr.trans (hb1'.mono zz)).trans (hbB.mono (by omega))).setCell (by simp; omega) _)
        have HKN : Hid (KO (w.heap.size + 3) (w3.setCell ⟨w.heap.size + 1 + 1, 2, none⟩ (.slice (some ⟨g3, 0, none⟩) (i + 1) cp3)) (some ⟨g3, 0, none⟩) cp3 (ks.take (i + 1))) := by
          show KO _ _ _ _ _; rw [HT.out]; (exact HKO.out.same fun b hb _ => Below.heap_setCell _ _ _ _ (by simp; omega))
        go_roundg (ks.length - (i + 1))
        case measure => have := HG.out; omega
        case rel => exact ⟨i + 1, some ⟨g3, 0, none⟩, cp3, by omega, rfl, by go_num, BB, t6, t7, t5, HKN⟩
    · obtain rfl : i = ks.length := by omega
      have HKE : Hid (KO (w.heap.size + 3) wr ad cp ks) := by
        have := HK.out; rw [List.take_length] at this; exact this
      clear HK HX hrep; obtain ⟨o0, o1, o2, o3, o4, o5⟩ := blk3 q1; go_wp2_with fail; have f3 := set3 q1 (.int .i64 k) (.string n) (.slice ad ks.length cp); (have BF : Below w.heap.size w (((wr.setCell ⟨w.heap.size + 1, 0, none⟩ (.int .i64 k)).setCell ⟨w.heap.size + 1, 1, none⟩ (.string n)).setCell ⟨w.heap.size + 1, 2, none⟩ (.slice ad ks.length cp)) := ((hbr.setCell (by simp) _).setCell (by simp) _).setCell (by simp) _)
      have RF := (HKE.out.same (w' := ((wr.setCell ⟨w.heap.size + 1, 0, none⟩ (.int .i64 k)).setCell ⟨w.heap.size + 1, 1, none⟩ (.string n)).setCell ⟨w.heap.size + 1, 2, none⟩ (.slice ad ks.length cp)) fun b hb _ => by
        rw [Below.heap_setCell _ _ _ _ (by simp; omega), Below.heap_setCell _ _ _ _ (by simp; omega), Below.heap_setCell _ _ _ _ (by simp; omega)]).rep k n hx1
      generalize World.setCell _ _ _ = F at f3 BF RF ⊢; clear o0 o1 o2 o3 o4 o5; obtain ⟨o0, o1, o2, -⟩ := blk3 f3; (exact bodyPost_ret (v := .agg #[.int .i64 k, .string n, .slice ad ks.length cp]) (by simp [results, Try.results11, go_sem, o0, o1, o2]) rfl ⟨_, rfl, RF.move fun b _ hb => ⟨rfl, by omega⟩, BF⟩)

theorem owns_all : ∀ m, Owns m
  | 0 => fun _ _ _ h => absurd h (Nat.not_lt_zero _)
  | m + 1 => own_step m (owns_all m)

theorem own_any (f : Fm) (v : Value) (w : World) (hs : Slim f) (hrep : Rep w (fun _ => True) f v) :
    Calls Try.prog 11 #[v] w fun e w' => ∃ u, e = .returned u ∧ Rep w' (w.heap.size ≤ ·) f u ∧ Below w.heap.size w w' :=
  owns_all (f.size + 1) f v w (Nat.lt_succ_self _) hs hrep
end Go.Proofs.Ytfhbpfgbnfcdaaa
/- Walks: the names in a formula, as they come. -/
namespace Go.Proofs.Ytfhbpfgbnfcdaaa
open Go.RowKit

theorem infoText : ∃ i, Try.prog.info? 9 = some i ∧ i.zero = some (.string ⟨#[]⟩) ∧ i.size = 1 ∧ i.bytes = 16 := by
  (obtain ⟨i, hi, h⟩ := Option.map_eq_some_iff.1 (show (Try.prog.info? 9).map (fun i => (i.zero, i.size, i.bytes)) = some (some (.string ⟨#[]⟩), 1, 16) by kernel_rfl)); simp only [Prod.mk.injEq] at h; exact ⟨i, hi, h.1, h.2.1, h.2.2⟩

def nmsOf : List Fm → List ByteArray
  | [] => []
  | .mk k n _ :: fs => if k = 1 then n :: nmsOf fs else nmsOf fs
theorem nmsOf_append : ∀ a b : List Fm, nmsOf (a ++ b) = nmsOf a ++ nmsOf b
  | [], b => rfl
  | .mk k n ks :: a, b => by
    rw [List.cons_append, nmsOf, nmsOf, nmsOf_append a b]
    split <;> rfl
theorem nmsOf_len : ∀ a : List Fm, (nmsOf a).length ≤ a.length
  | [] => Nat.le_refl _
  | .mk k n ks :: a => by
    have := nmsOf_len a; rw [nmsOf]
    split <;> simp <;> omega

/-- The list of names that have come so far. -/
def InvN (cb : Nat) (done : List Fm) (ob : Option Nat) (w : World) : Prop := ∃ ad cp, w.heap[cb]? = some (.cells #[.slice ad (nmsOf done).length cp] 39 (0, 0)) ∧ ob = (Value.slice ad (nmsOf done).length cp).ownBlock ∧ w.ownsRow (cb + 1) 9 1 (.slice ad (nmsOf done).length cp) (nmsOf done).length ((nmsOf done).map Value.string)

set_option maxHeartbeats 2000000 in
theorem names1_no (cb : Nat) (k : Int) (hk : k ≠ 1) (n : ByteArray) (ks : List Fm) (v : Value) (w : World) (hrep : Rep w (fun _ => True) (.mk k n ks) v) :
    Calls Try.prog 53 #[v, .pointer (some ⟨cb, 0, none⟩)] w fun e w' => e = .returned (.tuple #[]) ∧ Below w.heap.size w w' := by
  obtain ⟨sl, cap, rfl⟩ := slice_shape hrep; (have hkJ : (k == 1) = false := by simpa using hk); have B := (Below.refl w.heap.size w).alloc (Nat.le_refl _); clear hrep
  go_enter Try.func53, Try.ntmps53
  go_wp2_with fail
  go_end0
  exact ⟨rfl, B _⟩

theorem owns_set {w : World} {cb : Nat} {T : TypeId} {sz : Nat} {v : Value} {n : Nat} {xs : List Value} (h : w.ownsRow (cb + 1) T sz v n xs) (u : Value) : (w.setCell ⟨cb, 0, none⟩ u).ownsRow (cb + 1) T sz v n xs := by
  obtain ⟨h1, h2⟩ := h; refine ⟨h1, ?_⟩
  rcases h2 with h2 | ⟨g, cap, cur, hv, hg, hh, r⟩
  · exact Or.inl h2
  · exact Or.inr ⟨g, cap, cur, hv, hg, (Below.heap_setCell _ _ _ _ (by simp; omega)).trans hh, r⟩
theorem kept_grown {ok : Nat → Prop} {w w' : World} {ob : Option Nat} (h : w.grownBy w' ob) (hi : ∀ k, ok k → ob ≠ some k) : Kept ok w w' :=
  ⟨h.os, h.tape, h.output, h.size, fun k hk ho => h.block k hk (fun e => hi k ho e.symm)⟩

set_option maxHeartbeats 4000000 in
theorem names1_yes (cb : Nat) (n : ByteArray) (hn : n.size ≤ 8) (ks : List Fm) (v : Value) (w : World) (hrep : Rep w (fun _ => True) (.mk 1 n ks) v) (L : Nat) (hL : L ≤ 200) (ad : Option Addr) (cp : Nat) (xs : List Value) (h1 : w.heap[cb]? = some (.cells #[.slice ad L cp] 39 (0, 0))) (h2 : w.ownsRow (cb + 1) 9 1 (.slice ad L cp) L xs) :
    Calls Try.prog 53 #[v, .pointer (some ⟨cb, 0, none⟩)] w fun e w' => e = .returned (.tuple #[]) ∧ ∃ g cp', w'.heap[cb]? = some (.cells #[.slice (some ⟨g, 0, none⟩) (L + 1) cp'] 39 (0, 0)) ∧ w'.ownsRow (cb + 1) 9 1 (.slice (some ⟨g, 0, none⟩) (L + 1) cp') (L + 1) (xs ++ [.string n]) ∧ Kept (fun b => b ≠ cb ∧ (Value.slice ad L cp).ownBlock ≠ some b) w w' ∧ ((Value.slice ad L cp).ownBlock = some g ∨ w.heap.size ≤ g) := by
  obtain ⟨sl, cap, rfl⟩ := slice_shape hrep; clear hrep; obtain ⟨i0, hi, hz0, hz1, hz2⟩ := infoText; (have hcl : ∀ w, Calls Try.prog 54 #[.string n] w fun e w' => e = .returned (.string n) ∧ Below w.heap.size w w' := fun w => clone_any n w (by omega)); have HCl : Hid (∀ w, Calls Try.prog 54 #[.string n] w _) := hcl; have HO : Hid (w.ownsRow (cb + 1) 9 1 (.slice ad L cp) L xs) := h2; have zc := lt_of_block h1; clear hcl h2
  go_enter Try.func53, Try.ntmps53
  go_wp2_with fail; have p0 := blk_new w (.cells #[.int .i64 1, .string n, .slice sl ks.length cap] 24 (0, 0)); have p1 := alloc_keep h1 (.cells #[.int .i64 1, .string n, .slice sl ks.length cap] 24 (0, 0)); have HO0 : Hid ((w.alloc (.cells #[.int .i64 1, .string n, .slice sl ks.length cap] 24 (0, 0))).ownsRow (cb + 1) 9 1 (.slice ad L cp) L xs) := owns_up HO.out ((Below.refl _ w).alloc (Nat.le_refl _) _); (have HK0 : Hid (Kept (fun b => b ≠ cb ∧ (Value.slice ad L cp).ownBlock ≠ some b) w (w.alloc (.cells #[.int .i64 1, .string n, .slice sl ks.length cap] 24 (0, 0)))) := (Kept.refl _ w).alloc _); (have hs0 : w.heap.size ≤ (w.alloc (.cells #[.int .i64 1, .string n, .slice sl ks.length cap] 24 (0, 0))).heap.size := by simp); generalize w.alloc (.cells #[.int .i64 1, .string n, .slice sl ks.length cap] 24 (0, 0)) = w0 at *; obtain ⟨a0, a1, a2, -⟩ := blk3 p0; obtain ⟨c0, c1⟩ := blk1 p1; have z0 := lt_of_block p0; have z1 := lt_of_block p1
  go_region_law
    (first
     | (have hown := owns_up (owns_up HO0.out hb1') ((Below.refl _ w1).alloc (Nat.le_refl _) (.cells #[.string n] 9 (0, 0)))
        (refine step_append_lies _ rfl _ _ 39 rfl (cb + 1) 9 i0 (.string ⟨#[]⟩) 1 16 Try.underlying39 hi hz0 hz1 hz2 rfl (by decide) _ _ _ rfl hown ⟨w1.heap.size, 0, none⟩ 1 1 [.string n] rfl rfl ?_ ?_ (by omega) (by unfold maxLen; omega) (by omega) (by simp; omega) _ rfl ?_)
        · intro j u hu
          rw [add_none, Nat.zero_add, blk_cell (blk_new w1 _)]; simpa using hu
        · intro u hu
          simp at hu
          rcases hu with rfl; rfl
        intro g3 cp3 w3 hown3 hgrow hat hlt3; have hgrow' : (w1.alloc (.cells #[.string n] 9 (0, 0))).grownBy w3 (Value.slice ad L cp).ownBlock := hgrow; have hat' : (Value.slice ad L cp).ownBlock = some g3 ∨ g3 = (w1.alloc (.cells #[.string n] 9 (0, 0))).heap.size := hat; clear hgrow hat; have HG3 : Hid ((w1.alloc (.cells #[.string n] 9 (0, 0))).grownBy w3 (Value.slice ad L cp).ownBlock) := hgrow'; have HA3 : Hid ((Value.slice ad L cp).ownBlock = some g3 ∨ g3 = (w1.alloc (.cells #[.string n] 9 (0, 0))).heap.size) := hat'; have HW3 : Hid (w3.ownsRow (cb + 1) 9 1 (.slice (some ⟨g3, 0, none⟩) (L + 1) cp3) (L + 1) (xs ++ [.string n])) := hown3; (have r3 := (hgrow'.block cb (by simp; omega) (fun e => by have := (hown.lt cb e.symm).1; omega)).trans (alloc_keep r2 _)); clear hgrow' hat' hown3 hown; clear c0 c1; obtain ⟨c0, c1⟩ := blk1 r3
        have y5 := HG3.out.size)
     | (go_simp
        refine (HCl.out _).mono ?_; rintro e w1 ⟨rfl, hb1⟩; have hb1' : Below w0.heap.size w0 w1 := (Below.refl _ w0).drew.trans hb1; clear hb1; have r2 := below_keep hb1' p1; clear c0 c1; obtain ⟨c0, c1⟩ := blk1 r2; have y4 : cb < w1.heap.size := lt_of_block r2; have y6 := hb1'.size
        dsimp only)
     | fail)
  all_goals
    go_end0
    refine ⟨rfl, g3, cp3, set1 r3 _, owns_set HW3.out _, ?_, ?_⟩
    · exact ((((HK0.out.trans (kept_of_below hb1' fun _ h _ => h)).alloc _).trans (kept_grown HG3.out fun k h => h.2))).setCell (fun _ h => h.1 rfl) _
    · rcases HA3.out with h | h
      · exact Or.inl h
      · refine Or.inr ?_
        simp at h; omega

theorem names1_in (cap : Array Value) (w : World) : (callFunc 53 cap).run Try.prog w = .ok (.enter 53 cap) w := by
  simp [go_sem]

theorem names_visit (B cb : Nat) (h : B ≤ cb) : Visit 53 #[.pointer (some ⟨cb, 0, none⟩)] B cb (InvN cb) where
  hB := h
  lt := fun hi => by
    obtain ⟨ad, cp, h1, h2, h3⟩ := hi; (refine ⟨lt_of_block h1, fun g e => ?_⟩); rw [h2] at e; have := h3.lt g e; omega
  alloc := fun o hi => by
    obtain ⟨ad, cp, h1, h2, h3⟩ := hi; exact ⟨ad, cp, alloc_keep h1 o, h2, owns_up h3 ((Below.refl _ _).alloc (Nat.le_refl _) _)⟩
  ent := fun v w => names1_in _ w
  call := fun done ob f v w hl hf hrep hi => by
    obtain ⟨ad, cp, h1, h2, h3⟩ := hi; have hL := nmsOf_len done; obtain ⟨k, n, ks⟩ := f; by_cases hk : k = 1
    · subst hk
      (refine (names1_yes cb n hf.small.1 ks v w hrep.all (nmsOf done).length (by omega) ad cp _ h1 h3).mono ?_); rintro e w' ⟨rfl, g, cp', q1, q2, q3, q4⟩; (have e1 : nmsOf (done ++ [Fm.mk 1 n ks]) = nmsOf done ++ [n] := by rw [nmsOf_append]; rfl); (refine ⟨rfl, some g, ⟨some ⟨g, 0, none⟩, cp', ?_⟩, by rw [h2]; exact q3, ?_⟩)
      · rw [e1, List.length_append, List.map_append]
        exact ⟨q1, rfl, q2⟩
      · rcases q4 with h | h
        · exact Or.inl (by rw [h2, h])
        · exact Or.inr ⟨g, rfl, h⟩
    · refine (names1_no cb k hk n ks v w hrep.all).mono ?_
      rintro e w' ⟨rfl, hb⟩
      have e1 : nmsOf (done ++ [Fm.mk k n ks]) = nmsOf done := by
        rw [nmsOf_append, nmsOf, if_neg hk, nmsOf, List.append_nil]
      (refine ⟨rfl, ob, ⟨ad, cp, ?_⟩, kept_of_below hb (fun _ h _ => h), Or.inl rfl⟩); rw [e1]; exact ⟨below_keep hb h1, h2, owns_up h3 hb⟩
end Go.Proofs.Ytfhbpfgbnfcdaaa
