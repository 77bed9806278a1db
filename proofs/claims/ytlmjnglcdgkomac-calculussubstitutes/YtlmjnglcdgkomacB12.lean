/- Texts of one proof, one behind the other: Put1, With1. -/
import Derived.Test.YtlmjnglcdgkomacB09
import Derived.Test.YtlmjnglcdgkomacB10
import Derived.Deep.RegionLaw
import Derived.Deep.DeepCutAuto
import Derived.Test.YtlmjnglcdgkomacB11
/- Walks: copies, and a formula for a name. -/
namespace Go.Proofs.Ytlmjnglcdgkomac
open Go.RowKit

mutual
def putF (nm : ByteArray) (g : Fm) : Fm → Fm
  | .mk k n ks => if hasN nm (.mk k n []) = true then g else .mk k n (putFs nm g ks)
def putFs (nm : ByteArray) (g : Fm) : List Fm → List Fm
  | [] => []
  | f :: fs => putF nm g f :: putFs nm g fs
end
theorem putFs_map (nm : ByteArray) (g : Fm) : ∀ ks : List Fm, putFs nm g ks = ks.map (putF nm g)
  | [] => by rw [putFs]; rfl
  | f :: fs => by rw [putFs, putFs_map nm g fs]; rfl
theorem hasN_kids (nm : ByteArray) (k : Int) (n : ByteArray) (a b : List Fm) : hasN nm (.mk k n a) = hasN nm (.mk k n b) := rfl

end Go.Proofs.Ytlmjnglcdgkomac
/- Walks: a formula for a name, as the yardstick has it. -/
namespace Go.Proofs.Ytlmjnglcdgkomac
open Go.RowKit

/-- What has been made so far: a list whose formulas lie where P holds. -/
def KP (P : Nat → Prop) (B : Nat) (w : World) (ad : Option Addr) (cap : Nat) (fs : List Fm) : Prop := ∃ cs, w.ownsRow B 24 3 (.slice ad fs.length cap) fs.length cs ∧ LQ (fun b => P b ∧ (Value.slice ad fs.length cap).ownBlock ≠ some b) w cs fs

theorem KP.nil {P : Nat → Prop} {B : Nat} {w : World} : KP P B w none 0 [] := ⟨[], ⟨rfl, Or.inl ⟨rfl, rfl⟩⟩, trivial⟩
theorem KP.same {P : Nat → Prop} {B : Nat} {w w' : World} {ad : Option Addr} {cap : Nat} {fs : List Fm} (h : KP P B w ad cap fs) (hb : ∀ b, P b ∨ B ≤ b → b < w.heap.size → w'.heap[b]? = w.heap[b]?) : KP P B w' ad cap fs := by
  obtain ⟨cs, ⟨h1, h2⟩, h3⟩ := h; (refine ⟨cs, ⟨h1, ?_⟩, h3.move fun b hb1 hb2 => ⟨hb b (Or.inl hb2.1) hb1, hb2⟩⟩)
  rcases h2 with h2 | ⟨g, cap, cur, hv, hg, hh, r⟩
  · exact Or.inl h2
  · exact Or.inr ⟨g, cap, cur, hv, hg, (hb g (Or.inr hg) (lt_of_block hh)).trans hh, r⟩
theorem KP.up {P : Nat → Prop} {B : Nat} {w w' : World} {ad : Option Addr} {cap : Nat} {fs : List Fm} (h : KP P B w ad cap fs) (hb : Below w.heap.size w w') : KP P B w' ad cap fs := h.same fun b _ hb1 => hb.block b hb1

theorem KP.app {P : Nat → Prop} {B : Nat} {w1 w3 : World} {o : Obj} {ad : Option Addr} {cp : Nat} {fs : List Fm} {kid : Fm} {c0 c1 c2 : Value} {cs : List Value} {g3 cp3 i : Nat} (hi : fs.length = i) (hB : B ≤ w1.heap.size)
    (hown : (w1.alloc o).ownsRow B 24 3 (.slice ad i cp) i cs) (hlq : LQ (fun b => P b ∧ (Value.slice ad i cp).ownBlock ≠ some b) (w1.alloc o) cs fs)
    (hrep : Rep w1 (fun b => P b ∧ (Value.slice ad i cp).ownBlock ≠ some b) kid (.agg #[c0, c1, c2]))
    (hown3 : w3.ownsRow B 24 3 (.slice (some ⟨g3, 0, none⟩) (i + 1) cp3) (i + 1) (cs ++ [c0, c1, c2]))
    (hgrow : (w1.alloc o).grownBy w3 (Value.slice ad i cp).ownBlock) (hat : (Value.slice ad i cp).ownBlock = some g3 ∨ g3 = (w1.alloc o).heap.size) :
    Below B w1 w3 ∧ KP P B w3 (some ⟨g3, 0, none⟩) cp3 (fs ++ [kid]) := by
  subst hi; (have hs : (w1.alloc o).heap.size = w1.heap.size + 1 := by simp); have hs2 := hgrow.size; (refine ⟨⟨hgrow.os, hgrow.tape, hgrow.output, by omega, fun j hj => ?_⟩, cs ++ [c0, c1, c2], ?_, ?_⟩)
  · rw [hgrow.block j (by omega) (fun e => by have := (hown.lt j e.symm).1; omega), Below.heap_alloc _ _ _ (by omega)]
  · rw [List.length_append]; exact hown3
  · refine (hlq.append (ds := [c0, c1, c2]) (gs := [kid]) ⟨hrep.move fun b hb hok => ⟨Below.heap_alloc _ _ _ hb, hok⟩, trivial⟩).move fun b hb hok => ⟨hgrow.block b hb (fun e => hok.2 e.symm), hok.1, fun e => ?_⟩
    (have e : g3 = b := by simpa [Value.ownBlock] using e)
    rcases hat with h | h
    · exact hok.2 (by rw [h, e])
    · omega

theorem KP.rep {P : Nat → Prop} {B : Nat} {w : World} {ad : Option Addr} {cap : Nat} {ks : List Fm} (h : KP P B w ad cap ks) (hPB : ∀ b, B ≤ b → P b) (k : Int) (n : ByteArray) (hn : n.size ≤ maxLen) : Rep w P (.mk k n ks) (.agg #[.int .i64 k, .string n, .slice ad ks.length cap]) := by
  obtain ⟨cs, hown, hlq⟩ := h
  rcases hown.2 with ⟨hv, h0⟩ | ⟨g, cp, cur, hv, hg, hh, h1, h2, -⟩
  · simp only [Value.slice.injEq] at hv
    obtain ⟨rfl, -, rfl⟩ := hv; (exact Rep.def.2 ⟨none, 0, rfl, hn, by omega, by simp, fun hne => absurd (List.length_eq_zero_iff.1 h0) hne⟩)
  · simp only [Value.slice.injEq, true_and] at hv
    obtain ⟨rfl, rfl⟩ := hv; (refine Rep.def.2 ⟨_, cap, rfl, hn, h1, h2, fun _ => ⟨g, 0, rfl, hPB g hg, ?_⟩⟩)
    exact (hlq.move (ok' := P) fun b _ hb => ⟨rfl, hb.1⟩).reps (b := g) 0 fun j u hu => by
      have := hown.cells (g := g) rfl j u hu; rw [add_none] at this; rw [Nat.zero_add] at this ⊢; exact this

def Withs (nm : ByteArray) (g : Fm) (A : Nat) (m : Nat) : Prop := ∀ (f : Fm) (v u : Value) (w : World), f.size < m → Slim f → A ≤ w.heap.size → Rep w (fun _ => True) f v → Rep w (· < A) g u →
  Calls Try.prog 21 #[v, .string nm, u] w fun e w' => ∃ x, e = .returned x ∧ Rep w' (fun b => b < A ∨ w.heap.size ≤ b) (putF nm g f) x ∧ Below w.heap.size w w'

set_option maxHeartbeats 8000000 in
theorem with_step (nm : ByteArray) (g : Fm) (A : Nat) (m : Nat) (ih : Withs nm g A m) : Withs nm g A (m + 1) := by
  intro f v u w hm hf hA hrep hu; obtain ⟨k, n, ks⟩ := f; obtain ⟨kg, ng, ksg⟩ := g; obtain ⟨sl, cap, rfl, hx1, hx2, hx3, hx4⟩ := Rep.def.1 hrep; obtain ⟨slg, capg, rfl⟩ := slice_shape hu; (have HX : Hid (ks ≠ [] → ∃ b off, sl = some ⟨b, off, none⟩ ∧ True ∧ Reps w (fun _ => True) b off ks) := hx4); have HF : Hid (∀ (i : Nat) (kid : Fm), ks[i]? = some kid → Slim kid) := hf.kid; have HU : Hid (Rep w (· < A) (.mk kg ng ksg) (.agg #[.int .i64 kg, .string ng, .slice slg ksg.length capg])) := hu; have hl2 := hf.len; obtain ⟨i0, hi, hz0, hz1, hz2⟩ := infoFormula; (have hlenI : ((ks.length : Nat) : Int) ≤ 25000 := by omega); have HIo : Hid (Try.prog.info? 24 = some i0 ∧ i0.zero = some (.agg #[.int .i64 0, .string ⟨#[]⟩, .slice none 0 0]) ∧ i0.size = 3 ∧ i0.bytes = 48) := ⟨hi, hz0, hz1, hz2⟩; have N0 := (three (w := w) (o0 := .cells #[.int .i64 k, .string n, .slice sl ks.length cap] 24 (0, 0)) (o1 := .cells #[.int .i64 kg, .string ng, .slice slg ksg.length capg] 24 (0, 0)) (o2 := .cells #[.int .i64 0, .string ⟨#[]⟩, .slice none 0 0] 24 (0, 0)) (o3 := .cells #[.int .i64 k, .string n, .slice none 0 0] 24 (0, 0))); have HN0 : Hid (_ ∧ _ ∧ _ ∧ _) := N0; clear hx4 hi hz0 hz1 hz2 hf hu N0
  rcases hb : hasN nm (.mk k n ks) with _ | _
  · have hphi : putF nm (.mk kg ng ksg) (.mk k n ks) = .mk k n (ks.map (putF nm (.mk kg ng ksg))) := by
      rw [putF, hasN_kids nm k n [] ks, hb, putFs_map]; rfl
    rw [hphi]; clear hphi; by_cases h1 : k = 1
    · subst h1
      have hq : (n.toList == nm.toList) = false := by
        rw [ByteArray.toList_eq, ByteArray.toList_eq]; simpa [hasN] using hb
      clear hb
      go_enter Try.func21, Try.ntmps21
      go_wp2_with fail
      go_loopg [8] ks.length (fun gg c wr => ∃ i ad cp, i ≤ ks.length ∧ gg = ks.length - i ∧ c = .int .i64 (i : Nat) ∧ Below w.heap.size w wr ∧ wr.heap[w.heap.size]? = some (.cells #[.int .i64 1, .string n, .slice sl ks.length cap] 24 (0, 0)) ∧ wr.heap[w.heap.size + 1]? = some (.cells #[.int .i64 kg, .string ng, .slice slg ksg.length capg] 24 (0, 0)) ∧ wr.heap[w.heap.size + 1 + 1]? = some (.cells #[.int .i64 0, .string ⟨#[]⟩, .slice none 0 0] 24 (0, 0)) ∧ wr.heap[w.heap.size + 1 + 1 + 1]? = some (.cells #[.int .i64 1, .string n, .slice ad i cp] 24 (0, 0)) ∧ Hid (KP (fun b => b < A ∨ w.heap.size + 4 ≤ b) (w.heap.size + 4) wr ad cp ((ks.take i).map (putF nm (.mk kg ng ksg)))))
      case atStart =>
        have N0 := HN0.out; (exact ⟨0, none, 0, by omega, by omega, rfl, below_more (below_more (below_more (below_more (Below.refl _ w) _) _) _) _, N0.1, N0.2.1, N0.2.2.1, N0.2.2.2, KP.nil⟩)
      case round =>
        obtain ⟨i, ad, cp, hile, hg, rfl, hbr, q0, q1, q2, q3, HK⟩ := hrel; have HG : Hid (gk = ks.length - i) := hg; clear hg; obtain ⟨e0, e1, e2, -⟩ := blk3 q0; obtain ⟨j0, j1, j2, -⟩ := blk3 q1; obtain ⟨s0, s1, s2, s3, s4, s5⟩ := blk3 q3; have z0 := lt_of_block q0; have z1 := lt_of_block q1; have z3 := lt_of_block q3; have zz := hbr.size; by_cases hlt : i < ks.length
        · obtain ⟨⟨k2, n2, ks2⟩, hki⟩ : ∃ f, ks[i]? = some f := ⟨_, List.getElem?_eq_getElem hlt⟩
          (have hltI : (i : Int) < (ks.length : Int) := by omega); (obtain ⟨b, off, hsl, -, hrs⟩ := HX.out (fun e => by rw [e] at hlt; simp at hlt)); subst hsl; obtain ⟨sl2, cap2, g0, g1, g2, hrep2⟩ := (hrs.up hbr).at i k2 n2 ks2 hki; (have hsz : (Fm.mk k2 n2 ks2).size < m := by have := sizes_get hki; rw [Fm.size] at hm; omega); have hfk := HF.out i _ hki; (have HIH : Hid (∀ wx, Below w.heap.size w wx → Rep wx (fun _ => True) (.mk k2 n2 ks2) (.agg #[.int .i64 k2, .string n2, .slice sl2 ks2.length cap2]) → Calls Try.prog 21 #[.agg #[.int .i64 k2, .string n2, .slice sl2 ks2.length cap2], .string nm, .agg #[.int .i64 kg, .string ng, .slice slg ksg.length capg]] wx fun e w' => ∃ x, e = .returned x ∧ Rep w' (fun b => b < A ∨ wx.heap.size ≤ b) (putF nm (.mk kg ng ksg) (.mk k2 n2 ks2)) x ∧ Below wx.heap.size wx w') := fun wx hbx h => ih _ _ _ wx hsz hfk (by have := hbx.size; omega) h (HU.out.low (hbx.mono hA)))
          have zb0 : b < w.heap.size := by
            obtain ⟨c0, _, _, h0, _⟩ := hrs.get i _ hki; exact lt_of_cell h0
          (have hlc : ((i : Nat) : Int) < ((cap : Nat) : Int) := by omega); have zb := lt_of_cell g0; simp only at zb
          have HT : Hid ((ks.take (i + 1)).map (putF nm (.mk kg ng ksg)) = (ks.take i).map (putF nm (.mk kg ng ksg)) ++ [putF nm (.mk kg ng ksg) (.mk k2 n2 ks2)]) := by
            show _ = _; rw [List.take_add_one, hki]; simp
          (have hti : ((ks.take i).map (putF nm (.mk kg ng ksg))).length = i := by rw [List.length_map, List.length_take]; omega)
          have HOB : Hid (∀ b, b < A ∨ wr.heap.size ≤ b → (b < A ∨ w.heap.size + 4 ≤ b) ∧ (Value.slice ad i cp).ownBlock ≠ some b) := fun b hb => by
            obtain ⟨cs, ho, -⟩ := HK.out; rw [hti] at ho; (refine ⟨by omega, fun e => ?_⟩); have := ho.lt b e; omega
          (have HR2 : Hid (Rep wr (fun _ => True) (.mk k2 n2 ks2) (.agg #[.int .i64 k2, .string n2, .slice sl2 ks2.length cap2])) := hrep2); clear hki hrs hrep HX hrep2 hfk; obtain ⟨hi, hz0, hz1, hz2⟩ := HIo.out; generalize (ks.take i).map (putF nm (.mk kg ng ksg)) = done at *; generalize putF nm (.mk kg ng ksg) (.mk k2 n2 ks2) = kid3 at HIH HT; obtain ⟨k3, n3, ks3⟩ := kid3; go_wp2_with fail
          go_region_law
            (first
             | (have hown := (HK.out.up hb1').up ((Below.refl _ w1).alloc (Nat.le_refl _) (.cells #[.int .i64 k3, .string n3, .slice sl3 ks3.length cap3] 24 (0, 0)))
                obtain ⟨cs, hown, hlq⟩ := hown; rw [hti] at hown hlq; (refine step_append_lies _ rfl _ _ 22 rfl (w.heap.size + 4) 24 i0 (.agg #[.int .i64 0, .string ⟨#[]⟩, .slice none 0 0]) 3 48 Try.underlying22 hi hz0 hz1 hz2 rfl (by decide) _ _ _ rfl hown ⟨w1.heap.size, 0, none⟩ 1 1 [.int .i64 k3, .string n3, .slice sl3 ks3.length cap3] rfl rfl ?_ ?_ (by omega) (by unfold maxLen; omega) (by omega) (by simp; omega) _ rfl ?_)
                · intro j u hu
                  rw [add_none, Nat.zero_add, blk_cell (blk_new w1 _)]; simpa using hu
                · intro u hu
                  simp at hu
                  rcases hu with rfl | rfl | rfl <;> rfl
                intro g3 cp3 w3 hown3 hgrow hat hlt3; have hgrow' : (w1.alloc (.cells #[.int .i64 k3, .string n3, .slice sl3 ks3.length cap3] 24 (0, 0))).grownBy w3 (Value.slice ad i cp).ownBlock := hgrow; have hat' : (Value.slice ad i cp).ownBlock = some g3 ∨ g3 = (w1.alloc (.cells #[.int .i64 k3, .string n3, .slice sl3 ks3.length cap3] 24 (0, 0))).heap.size := hat; clear hgrow hat; (obtain ⟨hbB, hko⟩ := KP.app hti (by omega) hown hlq (hrep3.move fun b hb1 hb2 => ⟨rfl, (HOB.out b hb2).1, (HOB.out b hb2).2⟩) hown3 hgrow' hat'); (have HKO : Hid (KP (fun b => b < A ∨ w.heap.size + 4 ≤ b) (w.heap.size + 4) w3 (some ⟨g3, 0, none⟩) cp3 (done ++ [.mk k3 n3 ks3])) := hko); clear hgrow' hat' hown3 hown hlq hko; (have t3 := (hbB.block (w.heap.size + 1 + 1 + 1) (by omega)).trans r3); (have t0 := (hbB.block w.heap.size (by omega)).trans (below_keep hb1' q0)); (have t1 := (hbB.block (w.heap.size + 1) (by omega)).trans (below_keep hb1' q1)); (have t2 := (hbB.block (w.heap.size + 1 + 1) (by omega)).trans (below_keep hb1' q2)); clear s0 s1 s2 s3 s4 s5; obtain ⟨s0, s1, s2, s3, s4, s5⟩ := blk3 t3
                have y5 := hbB.size)
             | (go_simp
                refine (HIH.out _ (hbr.drew) (HR2.out.up (Below.refl _ _).drew)).mono ?_; rintro e w1 ⟨x, rfl, hrep3, hb1⟩; obtain ⟨sl3, cap3, rfl⟩ := slice_shape hrep3; have hb1' : Below wr.heap.size wr w1 := (Below.refl _ wr).drew.trans hb1; clear hb1; have r3 := below_keep hb1' q3; clear s0 s1 s2 s3 s4 s5; obtain ⟨s0, s1, s2, s3, s4, s5⟩ := blk3 r3; have y2 : w.heap.size + 1 + 1 + 1 < w1.heap.size := lt_of_block r3; have y6 := hb1'.size
                dsimp only)
             | fail)
          all_goals
            go_wp2_with fail
            have t5 : (w3.setCell ⟨w.heap.size + 1 + 1 + 1, 2, none⟩ (.slice (some ⟨g3, 0, none⟩) (i + 1) cp3)).heap[w.heap.size + 1 + 1 + 1]? = some (.cells #[.int .i64 1, .string n, .slice (some ⟨g3, 0, none⟩) (i + 1) cp3] 24 (0, 0)) := by
              simp [World.setCell, Array.getElem?_modify, t3]
            (have BB : Below w.heap.size w (w3.setCell ⟨w.heap.size + 1 + 1 + 1, 2, none⟩ (.slice (some ⟨g3, 0, none⟩) (i + 1) cp3)) := ((hbr.trans (hb1'.mono zz)).trans (hbB.mono (by omega))).setCell (by simp; omega) _)
            have HKN : Hid (KP (fun b => b < A ∨ w.heap.size + 4 ≤ b) (w.heap.size + 4) (w3.setCell ⟨w.heap.size + 1 + 1 + 1, 2, none⟩ (.slice (some ⟨g3, 0, none⟩) (i + 1) cp3)) (some ⟨g3, 0, none⟩) cp3 ((ks.take (i + 1)).map (putF nm (.mk kg ng ksg)))) := by
              show KP _ _ _ _ _ _; rw [HT.out]; (exact HKO.out.same fun b hb _ => Below.heap_setCell _ _ _ _ (by simp; omega))
            go_roundg (ks.length - (i + 1))
            case measure => have := HG.out; omega
            case rel => exact ⟨i + 1, some ⟨g3, 0, none⟩, cp3, by omega, rfl, by go_num, BB, (Below.heap_setCell _ _ _ _ (by simp; omega)).trans t0, (Below.heap_setCell _ _ _ _ (by simp)).trans t1, (Below.heap_setCell _ _ _ _ (by simp)).trans t2, t5, HKN⟩
        · obtain rfl : i = ks.length := by omega
          have HKE : Hid (KP (fun b => b < A ∨ w.heap.size + 4 ≤ b) (w.heap.size + 4) wr ad cp (ks.map (putF nm (.mk kg ng ksg)))) := by
            have := HK.out; rw [List.take_length] at this; exact this
          have hml : (ks.map (putF nm (.mk kg ng ksg))).length = ks.length := List.length_map ..; clear HK HX hrep; obtain ⟨o0, o1, o2, o3, o4, o5⟩ := blk3 q2; go_wp2_with fail; have f3 := set3 q2 (.int .i64 1) (.string n) (.slice ad ks.length cp); (have BF : Below w.heap.size w (((wr.setCell ⟨w.heap.size + 1 + 1, 0, none⟩ (.int .i64 1)).setCell ⟨w.heap.size + 1 + 1, 1, none⟩ (.string n)).setCell ⟨w.heap.size + 1 + 1, 2, none⟩ (.slice ad ks.length cp)) := ((hbr.setCell (by simp; omega) _).setCell (by simp; omega) _).setCell (by simp; omega) _)
          have RF := (HKE.out.same (w' := ((wr.setCell ⟨w.heap.size + 1 + 1, 0, none⟩ (.int .i64 1)).setCell ⟨w.heap.size + 1 + 1, 1, none⟩ (.string n)).setCell ⟨w.heap.size + 1 + 1, 2, none⟩ (.slice ad ks.length cp)) fun b hb _ => by
            rw [Below.heap_setCell _ _ _ _ (by simp; omega), Below.heap_setCell _ _ _ _ (by simp; omega), Below.heap_setCell _ _ _ _ (by simp; omega)]).rep (fun b hb => Or.inr hb) 1 n hx1
          rw [hml] at RF; generalize World.setCell _ _ _ = F at f3 BF RF ⊢; clear o0 o1 o2 o3 o4 o5; obtain ⟨o0, o1, o2, -⟩ := blk3 f3; (exact bodyPost_ret (v := .agg #[.int .i64 1, .string n, .slice ad ks.length cp]) (by simp [results, Try.results21, go_sem, o0, o1, o2]) rfl ⟨_, rfl, RF.move fun b _ hb => ⟨rfl, by rcases hb with h | h <;> omega⟩, BF⟩)
    · have hq : (k == 1) = false := by simpa using h1
      clear hb h1
      go_enter Try.func21, Try.ntmps21
      go_wp2_with fail; clear hq
      go_loopg [8] ks.length (fun gg c wr => ∃ i ad cp, i ≤ ks.length ∧ gg = ks.length - i ∧ c = .int .i64 (i : Nat) ∧ Below w.heap.size w wr ∧ wr.heap[w.heap.size]? = some (.cells #[.int .i64 k, .string n, .slice sl ks.length cap] 24 (0, 0)) ∧ wr.heap[w.heap.size + 1]? = some (.cells #[.int .i64 kg, .string ng, .slice slg ksg.length capg] 24 (0, 0)) ∧ wr.heap[w.heap.size + 1 + 1]? = some (.cells #[.int .i64 0, .string ⟨#[]⟩, .slice none 0 0] 24 (0, 0)) ∧ wr.heap[w.heap.size + 1 + 1 + 1]? = some (.cells #[.int .i64 k, .string n, .slice ad i cp] 24 (0, 0)) ∧ Hid (KP (fun b => b < A ∨ w.heap.size + 4 ≤ b) (w.heap.size + 4) wr ad cp ((ks.take i).map (putF nm (.mk kg ng ksg)))))
      case atStart =>
        have N0 := HN0.out; (exact ⟨0, none, 0, by omega, by omega, rfl, below_more (below_more (below_more (below_more (Below.refl _ w) _) _) _) _, N0.1, N0.2.1, N0.2.2.1, N0.2.2.2, KP.nil⟩)
      case round =>
        obtain ⟨i, ad, cp, hile, hg, rfl, hbr, q0, q1, q2, q3, HK⟩ := hrel; have HG : Hid (gk = ks.length - i) := hg; clear hg; obtain ⟨e0, e1, e2, -⟩ := blk3 q0; obtain ⟨j0, j1, j2, -⟩ := blk3 q1; obtain ⟨s0, s1, s2, s3, s4, s5⟩ := blk3 q3; have z0 := lt_of_block q0; have z1 := lt_of_block q1; have z3 := lt_of_block q3; have zz := hbr.size; by_cases hlt : i < ks.length
        · obtain ⟨⟨k2, n2, ks2⟩, hki⟩ : ∃ f, ks[i]? = some f := ⟨_, List.getElem?_eq_getElem hlt⟩
          (have hltI : (i : Int) < (ks.length : Int) := by omega); (obtain ⟨b, off, hsl, -, hrs⟩ := HX.out (fun e => by rw [e] at hlt; simp at hlt)); subst hsl; obtain ⟨sl2, cap2, g0, g1, g2, hrep2⟩ := (hrs.up hbr).at i k2 n2 ks2 hki; (have hsz : (Fm.mk k2 n2 ks2).size < m := by have := sizes_get hki; rw [Fm.size] at hm; omega); have hfk := HF.out i _ hki; (have HIH : Hid (∀ wx, Below w.heap.size w wx → Rep wx (fun _ => True) (.mk k2 n2 ks2) (.agg #[.int .i64 k2, .string n2, .slice sl2 ks2.length cap2]) → Calls Try.prog 21 #[.agg #[.int .i64 k2, .string n2, .slice sl2 ks2.length cap2], .string nm, .agg #[.int .i64 kg, .string ng, .slice slg ksg.length capg]] wx fun e w' => ∃ x, e = .returned x ∧ Rep w' (fun b => b < A ∨ wx.heap.size ≤ b) (putF nm (.mk kg ng ksg) (.mk k2 n2 ks2)) x ∧ Below wx.heap.size wx w') := fun wx hbx h => ih _ _ _ wx hsz hfk (by have := hbx.size; omega) h (HU.out.low (hbx.mono hA)))
          have zb0 : b < w.heap.size := by
            obtain ⟨c0, _, _, h0, _⟩ := hrs.get i _ hki; exact lt_of_cell h0
          (have hlc : ((i : Nat) : Int) < ((cap : Nat) : Int) := by omega); have zb := lt_of_cell g0; simp only at zb
          have HT : Hid ((ks.take (i + 1)).map (putF nm (.mk kg ng ksg)) = (ks.take i).map (putF nm (.mk kg ng ksg)) ++ [putF nm (.mk kg ng ksg) (.mk k2 n2 ks2)]) := by
            show _ = _; rw [List.take_add_one, hki]; simp
          (have hti : ((ks.take i).map (putF nm (.mk kg ng ksg))).length = i := by rw [List.length_map, List.length_take]; omega)
          have HOB : Hid (∀ b, b < A ∨ wr.heap.size ≤ b → (b < A ∨ w.heap.size + 4 ≤ b) ∧ (Value.slice ad i cp).ownBlock ≠ some b) := fun b hb => by
            obtain ⟨cs, ho, -⟩ := HK.out; rw [hti] at ho; (refine ⟨by omega, fun e => ?_⟩); have := ho.lt b e; omega
          (have HR2 : Hid (Rep wr (fun _ => True) (.mk k2 n2 ks2) (.agg #[.int .i64 k2, .string n2, .slice sl2 ks2.length cap2])) := hrep2); clear hki hrs hrep HX hrep2 hfk; obtain ⟨hi, hz0, hz1, hz2⟩ := HIo.out; generalize (ks.take i).map (putF nm (.mk kg ng ksg)) = done at *; generalize putF nm (.mk kg ng ksg) (.mk k2 n2 ks2) = kid3 at HIH HT; obtain ⟨k3, n3, ks3⟩ := kid3; go_wp2_with fail
          go_region_law
            (first
             | (have hown := (HK.out.up hb1').up ((Below.refl _ w1).alloc (Nat.le_refl _) (.cells #[.int .i64 k3, .string n3, .slice sl3 ks3.length cap3] 24 (0, 0)))
                obtain ⟨cs, hown, hlq⟩ := hown; rw [hti] at hown hlq; (refine step_append_lies _ rfl _ _ 22 rfl (w.heap.size + 4) 24 i0 (.agg #[.int .i64 0, .string ⟨#[]⟩, .slice none 0 0]) 3 48 Try.underlying22 hi hz0 hz1 hz2 rfl (by decide) _ _ _ rfl hown ⟨w1.heap.size, 0, none⟩ 1 1 [.int .i64 k3, .string n3, .slice sl3 ks3.length cap3] rfl rfl ?_ ?_ (by omega) (by unfold maxLen; omega) (by omega) (by simp; omega) _ rfl ?_)
                · intro j u hu
                  rw [add_none, Nat.zero_add, blk_cell (blk_new w1 _)]; simpa using hu
                · intro u hu
                  simp at hu
                  rcases hu with rfl | rfl | rfl <;> rfl
                intro g3 cp3 w3 hown3 hgrow hat hlt3; have hgrow' : (w1.alloc (.cells #[.int .i64 k3, .string n3, .slice sl3 ks3.length cap3] 24 (0, 0))).grownBy w3 (Value.slice ad i cp).ownBlock := hgrow; have hat' : (Value.slice ad i cp).ownBlock = some g3 ∨ g3 = (w1.alloc (.cells #[.int .i64 k3, .string n3, .slice sl3 ks3.length cap3] 24 (0, 0))).heap.size := hat; clear hgrow hat; (obtain ⟨hbB, hko⟩ := KP.app hti (by omega) hown hlq (hrep3.move fun b hb1 hb2 => ⟨rfl, (HOB.out b hb2).1, (HOB.out b hb2).2⟩) hown3 hgrow' hat'); (have HKO : Hid (KP (fun b => b < A ∨ w.heap.size + 4 ≤ b) (w.heap.size + 4) w3 (some ⟨g3, 0, none⟩) cp3 (done ++ [.mk k3 n3 ks3])) := hko); clear hgrow' hat' hown3 hown hlq hko; (have t3 := (hbB.block (w.heap.size + 1 + 1 + 1) (by omega)).trans r3); (have t0 := (hbB.block w.heap.size (by omega)).trans (below_keep hb1' q0)); (have t1 := (hbB.block (w.heap.size + 1) (by omega)).trans (below_keep hb1' q1)); (have t2 := (hbB.block (w.heap.size + 1 + 1) (by omega)).trans (below_keep hb1' q2)); clear s0 s1 s2 s3 s4 s5; obtain ⟨s0, s1, s2, s3, s4, s5⟩ := blk3 t3
                have y5 := hbB.size)
             | (go_simp
                refine (HIH.out _ (hbr.drew) (HR2.out.up (Below.refl _ _).drew)).mono ?_; rintro e w1 ⟨x, rfl, hrep3, hb1⟩; obtain ⟨sl3, cap3, rfl⟩ := slice_shape hrep3; have hb1' : Below wr.heap.size wr w1 := (Below.refl _ wr).drew.trans hb1; clear hb1; have r3 := below_keep hb1' q3; clear s0 s1 s2 s3 s4 s5; obtain ⟨s0, s1, s2, s3, s4, s5⟩ := blk3 r3; have y2 : w.heap.size + 1 + 1 + 1 < w1.heap.size := lt_of_block r3; have y6 := hb1'.size
                dsimp only)
             | fail)
          all_goals
            go_wp2_with fail
            have t5 : (w3.setCell ⟨w.heap.size + 1 + 1 + 1, 2, none⟩ (.slice (some ⟨g3, 0, none⟩) (i + 1) cp3)).heap[w.heap.size + 1 + 1 + 1]? = some (.cells #[.int .i64 k, .string n, .slice (some ⟨g3, 0, none⟩) (i + 1) cp3] 24 (0, 0)) := by
              simp [World.setCell, Array.getElem?_modify, t3]
            (have BB : Below w.heap.size w (w3.setCell ⟨w.heap.size + 1 + 1 + 1, 2, none⟩ (.slice (some ⟨g3, 0, none⟩) (i + 1) cp3)) := ((hbr.trans (hb1'.mono zz)).trans (hbB.mono (by omega))).setCell (by simp; omega) _)
            have HKN : Hid (KP (fun b => b < A ∨ w.heap.size + 4 ≤ b) (w.heap.size + 4) (w3.setCell ⟨w.heap.size + 1 + 1 + 1, 2, none⟩ (.slice (some ⟨g3, 0, none⟩) (i + 1) cp3)) (some ⟨g3, 0, none⟩) cp3 ((ks.take (i + 1)).map (putF nm (.mk kg ng ksg)))) := by
              show KP _ _ _ _ _ _; rw [HT.out]; (exact HKO.out.same fun b hb _ => Below.heap_setCell _ _ _ _ (by simp; omega))
            go_roundg (ks.length - (i + 1))
            case measure => have := HG.out; omega
            case rel => exact ⟨i + 1, some ⟨g3, 0, none⟩, cp3, by omega, rfl, by go_num, BB, (Below.heap_setCell _ _ _ _ (by simp; omega)).trans t0, (Below.heap_setCell _ _ _ _ (by simp)).trans t1, (Below.heap_setCell _ _ _ _ (by simp)).trans t2, t5, HKN⟩
        · obtain rfl : i = ks.length := by omega
          have HKE : Hid (KP (fun b => b < A ∨ w.heap.size + 4 ≤ b) (w.heap.size + 4) wr ad cp (ks.map (putF nm (.mk kg ng ksg)))) := by
            have := HK.out; rw [List.take_length] at this; exact this
          have hml : (ks.map (putF nm (.mk kg ng ksg))).length = ks.length := List.length_map ..; clear HK HX hrep; obtain ⟨o0, o1, o2, o3, o4, o5⟩ := blk3 q2; go_wp2_with fail; have f3 := set3 q2 (.int .i64 k) (.string n) (.slice ad ks.length cp); (have BF : Below w.heap.size w (((wr.setCell ⟨w.heap.size + 1 + 1, 0, none⟩ (.int .i64 k)).setCell ⟨w.heap.size + 1 + 1, 1, none⟩ (.string n)).setCell ⟨w.heap.size + 1 + 1, 2, none⟩ (.slice ad ks.length cp)) := ((hbr.setCell (by simp; omega) _).setCell (by simp; omega) _).setCell (by simp; omega) _)
          have RF := (HKE.out.same (w' := ((wr.setCell ⟨w.heap.size + 1 + 1, 0, none⟩ (.int .i64 k)).setCell ⟨w.heap.size + 1 + 1, 1, none⟩ (.string n)).setCell ⟨w.heap.size + 1 + 1, 2, none⟩ (.slice ad ks.length cp)) fun b hb _ => by
            rw [Below.heap_setCell _ _ _ _ (by simp; omega), Below.heap_setCell _ _ _ _ (by simp; omega), Below.heap_setCell _ _ _ _ (by simp; omega)]).rep (fun b hb => Or.inr hb) k n hx1
          rw [hml] at RF; generalize World.setCell _ _ _ = F at f3 BF RF ⊢; clear o0 o1 o2 o3 o4 o5; obtain ⟨o0, o1, o2, -⟩ := blk3 f3; (exact bodyPost_ret (v := .agg #[.int .i64 k, .string n, .slice ad ks.length cp]) (by simp [results, Try.results21, go_sem, o0, o1, o2]) rfl ⟨_, rfl, RF.move fun b _ hb => ⟨rfl, by rcases hb with h | h <;> omega⟩, BF⟩)
  · have hphi : putF nm (.mk kg ng ksg) (.mk k n ks) = .mk kg ng ksg := by
      rw [putF, hasN_kids nm k n [] ks, hb]; rfl
    rw [hphi]
    have h1 : k = 1 := by
      by_cases h : k = 1
      · exact h
      · simp [hasN, h] at hb
    subst h1
    have h2 : n = nm := by
      apply ByteArray.ext; apply Array.ext'; simpa [hasN] using hb
    subst h2; clear hphi hb HX HF HIo HN0 hlenI hl2; have B2 := below_more (below_more (below_more (Below.refl _ w) (.cells #[.int .i64 1, .string n, .slice sl ks.length cap] 24 (0, 0))) (.cells #[.int .i64 kg, .string ng, .slice slg ksg.length capg] 24 (0, 0))) (.cells #[.int .i64 kg, .string ng, .slice slg ksg.length capg] 24 (0, 0)); (have RF := (HU.out.low (B2.mono hA)).move (ok' := fun b => b < A ∨ w.heap.size ≤ b) fun b _ hb => ⟨rfl, Or.inl hb⟩)
    go_enter Try.func21, Try.ntmps21
    go_wp2_with fail; (exact bodyPost_ret (v := .agg #[.int .i64 kg, .string ng, .slice slg ksg.length capg]) (by simp [results, Try.results21, go_sem]) rfl ⟨_, rfl, RF, B2⟩)

theorem withs_all (nm : ByteArray) (g : Fm) (A : Nat) : ∀ m, Withs nm g A m
  | 0 => fun _ _ _ _ h => absurd h (Nat.not_lt_zero _)
  | m + 1 => with_step nm g A m (withs_all nm g A m)

end Go.Proofs.Ytlmjnglcdgkomac
