/- Texts of one proof, one behind the other: Own1, Rebuilt1. -/
import Derived.Test.YtffkoiemnchdgaaB17
import Derived.Test.YtffkoiemnchdgaaB18
import Derived.Deep.RegionLaw
import Derived.Deep.DeepCutAuto
/- Walks: a copy of a formula. -/
namespace Go.Proofs.Ytffkoiemnchdgaa
open Go.RowKit

/-- What a copy has made so far: the list of its kids. -/
def KO (B : Nat) (w : World) (ad : Option Addr) (cap : Nat) (fs : List Fm) : Prop := ∃ cs, w.ownsRow B 24 3 (.slice ad fs.length cap) fs.length cs ∧ LQ (fun b => B ≤ b ∧ (Value.slice ad fs.length cap).ownBlock ≠ some b) w cs fs

theorem KO.nil {B : Nat} {w : World} : KO B w none 0 [] := ⟨[], ⟨rfl, Or.inl ⟨rfl, rfl⟩⟩, trivial⟩
theorem KO.same {B : Nat} {w w' : World} {ad : Option Addr} {cap : Nat} {fs : List Fm} (h : KO B w ad cap fs) (hb : ∀ b, B ≤ b → b < w.heap.size → w'.heap[b]? = w.heap[b]?) : KO B w' ad cap fs := by
  obtain ⟨cs, ⟨h1, h2⟩, h3⟩ := h; (refine ⟨cs, ⟨h1, ?_⟩, h3.move fun b hb1 hb2 => ⟨hb b hb2.1 hb1, hb2⟩⟩)
  rcases h2 with h2 | ⟨g, cap, cur, hv, hg, hh, r⟩
  · exact Or.inl h2
  · exact Or.inr ⟨g, cap, cur, hv, hg, (hb g hg (lt_of_block hh)).trans hh, r⟩
theorem KO.up {B : Nat} {w w' : World} {ad : Option Addr} {cap : Nat} {fs : List Fm} (h : KO B w ad cap fs) (hb : Below w.heap.size w w') : KO B w' ad cap fs := h.same fun b _ hb1 => hb.block b hb1

/-- One kid more. -/
theorem KO.app {B : Nat} {w1 w3 : World} {o : Obj} {ad : Option Addr} {cp : Nat} {fs : List Fm} {kid : Fm} {c0 c1 c2 : Value} {cs : List Value} {g3 cp3 i : Nat} (hi : fs.length = i) (hB : B ≤ w1.heap.size)
    (hown : (w1.alloc o).ownsRow B 24 3 (.slice ad i cp) i cs) (hlq : LQ (fun b => B ≤ b ∧ (Value.slice ad i cp).ownBlock ≠ some b) (w1.alloc o) cs fs)
    (hrep : Rep w1 (fun b => B ≤ b ∧ (Value.slice ad i cp).ownBlock ≠ some b) kid (.agg #[c0, c1, c2]))
    (hown3 : w3.ownsRow B 24 3 (.slice (some ⟨g3, 0, none⟩) (i + 1) cp3) (i + 1) (cs ++ [c0, c1, c2]))
    (hgrow : (w1.alloc o).grownBy w3 (Value.slice ad i cp).ownBlock) (hat : (Value.slice ad i cp).ownBlock = some g3 ∨ g3 = (w1.alloc o).heap.size) :
    Below B w1 w3 ∧ KO B w3 (some ⟨g3, 0, none⟩) cp3 (fs ++ [kid]) := by
  subst hi; (have hs : (w1.alloc o).heap.size = w1.heap.size + 1 := by simp); have hs2 := hgrow.size; (refine ⟨⟨hgrow.os, hgrow.tape, hgrow.output, by omega, fun j hj => ?_⟩, cs ++ [c0, c1, c2], ?_, ?_⟩)
  · rw [hgrow.block j (by omega) (fun e => by have := (hown.lt j e.symm).1; omega), Below.heap_alloc _ _ _ (by omega)]
  · rw [List.length_append]; exact hown3
  · refine (hlq.append (ds := [c0, c1, c2]) (gs := [kid]) ⟨hrep.move fun b hb hok => ⟨Below.heap_alloc _ _ _ hb, hok⟩, trivial⟩).move fun b hb hok => ⟨hgrow.block b hb (fun e => hok.2 e.symm), hok.1, fun e => ?_⟩
    (have e : g3 = b := by simpa [Value.ownBlock] using e)
    rcases hat with h | h
    · exact hok.2 (by rw [h, e])
    · omega

/-- The list is a formula's kids. -/
theorem KO.rep {B : Nat} {w : World} {ad : Option Addr} {cap : Nat} {ks : List Fm} (h : KO B w ad cap ks) (k : Int) (n : ByteArray) (hn : n.size ≤ maxLen) : Rep w (B ≤ ·) (.mk k n ks) (.agg #[.int .i64 k, .string n, .slice ad ks.length cap]) := by
  obtain ⟨cs, hown, hlq⟩ := h
  rcases hown.2 with ⟨hv, h0⟩ | ⟨g, cp, cur, hv, hg, hh, h1, h2, -⟩
  · simp only [Value.slice.injEq] at hv
    obtain ⟨rfl, -, rfl⟩ := hv; (exact Rep.def.2 ⟨none, 0, rfl, hn, by omega, by simp, fun hne => absurd (List.length_eq_zero_iff.1 h0) hne⟩)
  · simp only [Value.slice.injEq, true_and] at hv
    obtain ⟨rfl, rfl⟩ := hv; (refine Rep.def.2 ⟨_, cap, rfl, hn, h1, h2, fun _ => ⟨g, 0, rfl, hg, ?_⟩⟩)
    have := (hlq.move (ok' := (B ≤ ·)) fun b _ hb => ⟨rfl, hb.1⟩).reps (b := g) 0 fun j u hu => by
      have := hown.cells (g := g) rfl j u hu; rw [add_none] at this; exact this
    exact this

end Go.Proofs.Ytffkoiemnchdgaa
/- Walks: a node made anew, its kids by a function. -/
namespace Go.Proofs.Ytffkoiemnchdgaa
open Go.RowKit

/-- What makes a kid anew. -/
def Maker (fn : Nat) (cap : Array Value) (φ : Fm → Fm) (ks : List Fm) (w : World) : Prop := ∀ (i : Nat) (kid : Fm) (v : Value) (wx : World), ks[i]? = some kid → Below w.heap.size w wx → Rep wx (fun _ => True) kid v →
  Calls Try.prog fn (#[v] ++ cap) wx fun e w' => ∃ u, e = .returned u ∧ Rep w' (wx.heap.size ≤ ·) (φ kid) u ∧ Below wx.heap.size wx w'

set_option maxHeartbeats 4000000 in
theorem rebuilt_any (fn : Nat) (cap : Array Value) (hin : ∀ (v : Value) (w : World), (callFunc fn (#[v] ++ cap)).run Try.prog w = .ok (.enter fn (#[v] ++ cap)) w) (φ : Fm → Fm) (k : Int) (n : ByteArray) (ks : List Fm) (hn : n.size ≤ 8) (hl : ks.length ≤ 2) (v : Value) (w : World) (hrep : Rep w (fun _ => True) (.mk k n ks) v) (hmk : Maker fn cap φ ks w) :
    Calls Try.prog 90 #[v, .func (.func fn) #[] cap] w fun e w' => ∃ u, e = .returned u ∧ Rep w' (w.heap.size ≤ ·) (.mk k n (ks.map φ)) u ∧ Below w.heap.size w w' := by
  obtain ⟨sl, cp, rfl, hx1, hx2, hx3, hx4⟩ := Rep.def.1 hrep; (have HX : Hid (ks ≠ [] → ∃ b off, sl = some ⟨b, off, none⟩ ∧ True ∧ Reps w (fun _ => True) b off ks) := hx4); have HMk : Hid (Maker fn cap φ ks w) := hmk; clear hx4 hmk; obtain ⟨i0, hi, hz0, hz1, hz2⟩ := infoFormula; (have hlenI : ((ks.length : Nat) : Int) ≤ 2 := by omega); have HIo : Hid (Try.prog.info? 24 = some i0 ∧ i0.zero = some (.agg #[.int .i64 0, .string ⟨#[]⟩, .slice none 0 0]) ∧ i0.size = 3 ∧ i0.bytes = 48) := ⟨hi, hz0, hz1, hz2⟩; clear hi hz0 hz1 hz2; (have hcl : ∀ w, Calls Try.prog 54 #[.string n] w fun e w' => e = .returned (.string n) ∧ Below w.heap.size w w' := fun w => clone_any n w (by omega)); have HCl : Hid (∀ w, Calls Try.prog 54 #[.string n] w _) := hcl; clear hcl
  go_enter Try.func90, Try.ntmps90
  go_wp2_with fail; have q0 : ((w.alloc (.cells #[.int .i64 k, .string n, .slice sl ks.length cp] 24 (0, 0))).alloc (.cells #[.int .i64 0, .string ⟨#[]⟩, .slice none 0 0] 24 (0, 0))).heap[w.heap.size]? = some (.cells #[.int .i64 k, .string n, .slice sl ks.length cp] 24 (0, 0)) := alloc_keep (blk_new _ _) _
  have q1 : ((w.alloc (.cells #[.int .i64 k, .string n, .slice sl ks.length cp] 24 (0, 0))).alloc (.cells #[.int .i64 0, .string ⟨#[]⟩, .slice none 0 0] 24 (0, 0))).heap[w.heap.size + 1]? = some (.cells #[.int .i64 0, .string ⟨#[]⟩, .slice none 0 0] 24 (0, 0)) := by
    have := blk_new (w.alloc (.cells #[.int .i64 k, .string n, .slice sl ks.length cp] 24 (0, 0))) (.cells #[.int .i64 0, .string ⟨#[]⟩, .slice none 0 0] 24 (0, 0)); simpa using this
  have B0 : Below w.heap.size w ((w.alloc (.cells #[.int .i64 k, .string n, .slice sl ks.length cp] 24 (0, 0))).alloc (.cells #[.int .i64 0, .string ⟨#[]⟩, .slice none 0 0] 24 (0, 0))) := below_more (below_more (Below.refl _ w) _) _; (have hs0 : w.heap.size + 2 ≤ ((w.alloc (.cells #[.int .i64 k, .string n, .slice sl ks.length cp] 24 (0, 0))).alloc (.cells #[.int .i64 0, .string ⟨#[]⟩, .slice none 0 0] 24 (0, 0))).heap.size := by simp); generalize (w.alloc (.cells #[.int .i64 k, .string n, .slice sl ks.length cp] 24 (0, 0))).alloc (.cells #[.int .i64 0, .string ⟨#[]⟩, .slice none 0 0] 24 (0, 0)) = w0 at *; obtain ⟨e0, e1, e2, -⟩ := blk3 q0; have z0 := lt_of_block q0; have z1 := lt_of_block q1
  go_cut [5] from 8 (fun v wc => (∃ bt : Nat, v = .pointer (some ⟨bt, 0, none⟩) ∧ w.heap.size + 2 ≤ bt ∧ Below w.heap.size w wc ∧ wc.heap[w.heap.size]? = some (.cells #[.int .i64 k, .string n, .slice sl ks.length cp] 24 (0, 0)) ∧ wc.heap[w.heap.size + 1]? = some (.cells #[.int .i64 0, .string ⟨#[]⟩, .slice none 0 0] 24 (0, 0)) ∧ wc.heap[bt]? = some (.cells #[.int .i64 k, .string n, .slice none 0 0] 24 (0, 0))))
  case first =>
    (have d1 : ¬ w0.heap.size = w.heap.size := by omega); have B1' : Below w0.heap.size w0 w0.drew := (Below.refl _ _).drew
    go_region_held3 (fun w' => w'.cell? ⟨w.heap.size, 0, none⟩ = some (.int .i64 k) ∧ w'.cell? ⟨w.heap.size, 1, none⟩ = some (.string n)) (go_keep)
      (first
       | (go_at_call 54
          refine (HCl.out _).mono ?_; rintro e w1 ⟨rfl, hb1⟩; (have p0 := below_keep hb1 (by first | exact q0 | exact alloc_keep q0 _)); (have p1 := below_keep hb1 (by first | exact q1 | exact alloc_keep q1 _)); have zs := hb1.size; obtain ⟨c0, c1, c2, -⟩ := blk3 p0
          try (have pz := below_keep hb1 (blk_new_drew w0 (.cells #[.int .i64 0, .string ⟨#[]⟩, .slice none 0 0] 24 (0, 0)))
               obtain ⟨x0, x1, x2, x3, x4, x5⟩ := blk3 pz)
          have d2 : ¬ w1.heap.size = w.heap.size := by have := lt_of_block p0; omega)
       | fail)
    · go_wp2_with fail
      go_meet; have zz : w0.heap.size ≤ w1.heap.size := zs; have B2 : Below w.heap.size w w1 := below_join B0 (B1'.trans hb1); (exact ⟨w1.heap.size, rfl, by omega, below_more B2 _, alloc_keep p0 _, alloc_keep p1 _, blk_new _ _⟩)
    · go_wp2_with fail
      go_meet; have B2 : Below w.heap.size w w1 := below_join (below_more B0 (.cells #[.int .i64 0, .string ⟨#[]⟩, .slice none 0 0] 24 (0, 0))) (((Below.refl _ _).drew).trans hb1); (refine ⟨w0.heap.size, rfl, by omega, ((B2.setCell (by simp; omega) _).setCell (by simp; omega) _).setCell (by simp; omega) _, ?_, ?_, set3 pz _ _ _⟩)
      · rw [Below.heap_setCell _ _ _ _ (by simp; omega), Below.heap_setCell _ _ _ _ (by simp; omega), Below.heap_setCell _ _ _ _ (by simp; omega)]
        exact p0
      · rw [Below.heap_setCell _ _ _ _ (by simp; omega), Below.heap_setCell _ _ _ _ (by simp; omega), Below.heap_setCell _ _ _ _ (by simp; omega)]
        exact p1
  case rest =>
    obtain ⟨bt, rfl, hbt, hbc, qc0, qc1, qc2⟩ := hcut; clear q0 q1 B0 hs0 e0 e1 e2 z0 z1 w0 HCl; obtain ⟨e0, e1, e2, -⟩ := blk3 qc0; have zt := lt_of_block qc2; have zc1 := lt_of_block qc1; go_wp2_with fail
    go_loopg [17] ks.length (fun g c wr => ∃ i ad cpr, i ≤ ks.length ∧ g = ks.length - i ∧ c = .int .i64 (i : Nat) ∧ Below w.heap.size w wr ∧ wc.heap.size ≤ wr.heap.size ∧ wr.heap[w.heap.size + 1]? = some (.cells #[.int .i64 0, .string ⟨#[]⟩, .slice none 0 0] 24 (0, 0)) ∧ wr.heap[bt]? = some (.cells #[.int .i64 k, .string n, .slice ad i cpr] 24 (0, 0)) ∧ Hid (KO wc.heap.size wr ad cpr ((ks.take i).map φ)))
    case atStart => exact ⟨0, none, 0, by omega, by omega, rfl, hbc, Nat.le_refl _, qc1, qc2, KO.nil⟩
    case round =>
      obtain ⟨i, ad, cpr, hile, hg, rfl, hbr, hwr, q1, q2, HK⟩ := hrel; have HG : Hid (gk = ks.length - i) := hg; clear hg; have zz := hbr.size; by_cases hlt : i < ks.length
      · obtain ⟨⟨k2, n2, ks2⟩, hki⟩ : ∃ f, ks[i]? = some f := ⟨_, List.getElem?_eq_getElem hlt⟩
        (have hltI : (i : Int) < (ks.length : Int) := by omega); (obtain ⟨b, off, hsl, -, hrs⟩ := HX.out (fun e => by rw [e] at hlt; simp at hlt)); subst hsl; obtain ⟨sl2, cap2, g0, g1, g2, hrep2⟩ := (hrs.up hbr).at i k2 n2 ks2 hki; (have HM : Hid (∀ wx, Below w.heap.size w wx → Rep wx (fun _ => True) (.mk k2 n2 ks2) (.agg #[.int .i64 k2, .string n2, .slice sl2 ks2.length cap2]) → Calls Try.prog fn (#[.agg #[.int .i64 k2, .string n2, .slice sl2 ks2.length cap2]] ++ cap) wx fun e w' => ∃ u, e = .returned u ∧ Rep w' (wx.heap.size ≤ ·) (φ (.mk k2 n2 ks2)) u ∧ Below wx.heap.size wx w') := fun wx h1 h2 => HMk.out i _ _ wx hki h1 h2); (have hlc : ((i : Nat) : Int) < ((cp : Nat) : Int) := by omega)
        have HT : Hid ((ks.take (i + 1)).map φ = (ks.take i).map φ ++ [φ (.mk k2 n2 ks2)]) := by
          show _ = _; rw [List.take_add_one, hki]; simp
        (have hti : ((ks.take i).map φ).length = i := by rw [List.length_map, List.length_take]; omega); (have HR2 : Hid (Rep wr (fun _ => True) (.mk k2 n2 ks2) (.agg #[.int .i64 k2, .string n2, .slice sl2 ks2.length cap2])) := hrep2); clear hki hrs hrep HX hrep2; go_wp2_with fail; have p3 := blk_new wr (.cells #[.int .i64 k2, .string n2, .slice sl2 ks2.length cap2] 24 (0, 0)); have p2 := alloc_keep q2 (.cells #[.int .i64 k2, .string n2, .slice sl2 ks2.length cap2] 24 (0, 0)); have p1 := alloc_keep q1 (.cells #[.int .i64 k2, .string n2, .slice sl2 ks2.length cap2] 24 (0, 0)); have bk := below_more hbr (.cells #[.int .i64 k2, .string n2, .slice sl2 ks2.length cap2] 24 (0, 0)); have HKk : Hid (KO wc.heap.size (wr.alloc (.cells #[.int .i64 k2, .string n2, .slice sl2 ks2.length cap2] 24 (0, 0))) ad cpr ((ks.take i).map φ)) := HK.out.up ((Below.refl _ wr).alloc (Nat.le_refl _) _); (have HRk : Hid (Rep (wr.alloc (.cells #[.int .i64 k2, .string n2, .slice sl2 ks2.length cap2] 24 (0, 0))) (fun _ => True) (.mk k2 n2 ks2) (.agg #[.int .i64 k2, .string n2, .slice sl2 ks2.length cap2])) := HR2.out.more _); (have hwk : wc.heap.size ≤ (wr.alloc (.cells #[.int .i64 k2, .string n2, .slice sl2 ks2.length cap2] 24 (0, 0))).heap.size := by simp; omega); clear HK HR2 g0 g1 g2; generalize hwkk : wr.alloc (.cells #[.int .i64 k2, .string n2, .slice sl2 ks2.length cap2] 24 (0, 0)) = wk at *; clear hwkk; obtain ⟨s0, s1, s2, s3, s4, s5⟩ := blk3 p2; obtain ⟨m0, m1, m2, -⟩ := blk3 p3; have y2 := lt_of_block p2; have y3 := lt_of_block p3
        have HOB : Hid (∀ b, wk.heap.size ≤ b → wc.heap.size ≤ b ∧ (Value.slice ad i cpr).ownBlock ≠ some b) := fun b hb => by
          obtain ⟨cs, ho, -⟩ := HKk.out; rw [hti] at ho; (exact ⟨by omega, fun e => by have := (ho.lt b e).2; omega⟩)
        obtain ⟨hi, hz0, hz1, hz2⟩ := HIo.out; generalize φ (.mk k2 n2 ks2) = kid3 at HM HT; obtain ⟨k3, n3, ks3⟩ := kid3
        go_region_law
          (first
           | (have hown := (HKk.out.up hb1').up ((Below.refl _ w1).alloc (Nat.le_refl _) (.cells #[.int .i64 k3, .string n3, .slice sl3 ks3.length cap3] 24 (0, 0)))
              obtain ⟨cs, hown, hlq⟩ := hown; rw [hti] at hown hlq; (refine step_append_lies _ rfl _ _ 22 rfl wc.heap.size 24 i0 (.agg #[.int .i64 0, .string ⟨#[]⟩, .slice none 0 0]) 3 48 Try.underlying22 hi hz0 hz1 hz2 rfl (by decide) _ _ _ rfl hown ⟨w1.heap.size, 0, none⟩ 1 1 [.int .i64 k3, .string n3, .slice sl3 ks3.length cap3] rfl rfl ?_ ?_ (by omega) (by unfold maxLen; omega) (by omega) (by simp; omega) _ rfl ?_)
              · intro j u hu
                rw [add_none, Nat.zero_add, blk_cell (blk_new w1 _)]; simpa using hu
              · intro u hu
                simp at hu
                rcases hu with rfl | rfl | rfl <;> rfl
              intro g3 cp3 w3 hown3 hgrow hat hlt3; have hgrow' : (w1.alloc (.cells #[.int .i64 k3, .string n3, .slice sl3 ks3.length cap3] 24 (0, 0))).grownBy w3 (Value.slice ad i cpr).ownBlock := hgrow; have hat' : (Value.slice ad i cpr).ownBlock = some g3 ∨ g3 = (w1.alloc (.cells #[.int .i64 k3, .string n3, .slice sl3 ks3.length cap3] 24 (0, 0))).heap.size := hat; clear hgrow hat; (obtain ⟨hbB, hko⟩ := KO.app hti (by omega) hown hlq (hrep3.move fun b hb1 hb2 => ⟨rfl, (HOB.out b hb2).1, (HOB.out b hb2).2⟩) hown3 hgrow' hat'); have HKO : Hid (KO wc.heap.size w3 (some ⟨g3, 0, none⟩) cp3 ((ks.take i).map φ ++ [.mk k3 n3 ks3])) := hko; clear hgrow' hat' hown3 hown hlq hko; have t0 := (hbB.block bt zt).trans r2; have t1 := (hbB.block (w.heap.size + 1) zc1).trans (below_keep hb1' p1); clear s0 s1 s2 s3 s4 s5; obtain ⟨s0, s1, s2, s3, s4, s5⟩ := blk3 t0
              have y5 := hbB.size)
           | (go_simp
              (refine (HM.out _ (bk.trans ((Below.refl _ wk).drew.mono (by omega))) (HRk.out.up (Below.refl _ _).drew)).mono ?_); rintro e w1 ⟨u, rfl, hrep3, hb1⟩; obtain ⟨sl3, cap3, rfl⟩ := slice_shape hrep3; have hb1' : Below wk.heap.size wk w1 := (Below.refl _ wk).drew.trans hb1; clear hb1; have r2 := below_keep hb1' p2; clear s0 s1 s2 s3 s4 s5; obtain ⟨s0, s1, s2, s3, s4, s5⟩ := blk3 r2; have y4 : bt < w1.heap.size := lt_of_block r2; have y6 := hb1'.size
              dsimp only)
           | fail)
        all_goals
          go_wp2_with fail
          have t5 : (w3.setCell ⟨bt, 2, none⟩ (.slice (some ⟨g3, 0, none⟩) (i + 1) cp3)).heap[bt]? = some (.cells #[.int .i64 k, .string n, .slice (some ⟨g3, 0, none⟩) (i + 1) cp3] 24 (0, 0)) := by
            simp [World.setCell, Array.getElem?_modify, t0]
          (have t7 := (Below.heap_setCell w3 ⟨bt, 2, none⟩ (.slice (some ⟨g3, 0, none⟩) (i + 1) cp3) (w.heap.size + 1) (by simp; omega)).trans t1); (have BB : Below w.heap.size w (w3.setCell ⟨bt, 2, none⟩ (.slice (some ⟨g3, 0, none⟩) (i + 1) cp3)) := (((bk.trans (hb1'.mono (by omega))).trans (hbB.mono (by omega)))).setCell (by simp; omega) _); (have zw : wc.heap.size ≤ (w3.setCell ⟨bt, 2, none⟩ (.slice (some ⟨g3, 0, none⟩) (i + 1) cp3)).heap.size := by simp [World.setCell]; omega)
          have HKN : Hid (KO wc.heap.size (w3.setCell ⟨bt, 2, none⟩ (.slice (some ⟨g3, 0, none⟩) (i + 1) cp3)) (some ⟨g3, 0, none⟩) cp3 ((ks.take (i + 1)).map φ)) := by
            show KO _ _ _ _ _; rw [HT.out]; (exact HKO.out.same fun b hb _ => Below.heap_setCell _ _ _ _ (by simp; omega))
          go_roundg (ks.length - (i + 1))
          case measure => have := HG.out; omega
          case rel => exact ⟨i + 1, some ⟨g3, 0, none⟩, cp3, by omega, rfl, by go_num, BB, zw, t7, t5, HKN⟩
      · obtain rfl : i = ks.length := by omega
        have HKE : Hid (KO wc.heap.size wr ad cpr (ks.map φ)) := by
          have := HK.out; rw [List.take_length] at this; exact this
        have hml : (ks.map φ).length = ks.length := List.length_map ..; clear HK HX hrep; obtain ⟨o0, o1, o2, o3, o4, o5⟩ := blk3 q1; obtain ⟨s0, s1, s2, -⟩ := blk3 q2; go_wp2_with fail; have f3 := set3 q1 (.int .i64 k) (.string n) (.slice ad ks.length cpr); (have BF : Below w.heap.size w (((wr.setCell ⟨w.heap.size + 1, 0, none⟩ (.int .i64 k)).setCell ⟨w.heap.size + 1, 1, none⟩ (.string n)).setCell ⟨w.heap.size + 1, 2, none⟩ (.slice ad ks.length cpr)) := ((hbr.setCell (by simp) _).setCell (by simp) _).setCell (by simp) _)
        have RF := (HKE.out.same (w' := ((wr.setCell ⟨w.heap.size + 1, 0, none⟩ (.int .i64 k)).setCell ⟨w.heap.size + 1, 1, none⟩ (.string n)).setCell ⟨w.heap.size + 1, 2, none⟩ (.slice ad ks.length cpr)) fun b hb _ => by
          rw [Below.heap_setCell _ _ _ _ (by simp; omega), Below.heap_setCell _ _ _ _ (by simp; omega), Below.heap_setCell _ _ _ _ (by simp; omega)]).rep k n hx1
        rw [hml] at RF; generalize World.setCell _ _ _ = F at f3 BF RF ⊢; clear o0 o1 o2 o3 o4 o5; obtain ⟨o0, o1, o2, -⟩ := blk3 f3; (exact bodyPost_ret (v := .agg #[.int .i64 k, .string n, .slice ad ks.length cpr]) (by simp [results, Try.results90, go_sem, o0, o1, o2]) rfl ⟨_, rfl, RF.move fun b _ hb => ⟨rfl, by omega⟩, BF⟩)
end Go.Proofs.Ytffkoiemnchdgaa
