/- Texts of one proof, one behind the other: Rebuilt1, Put1. -/
import Derived.Test.YtfhbpfgbnfcdaaaB16
import Derived.Deep.DeepCutAuto
import Derived.Test.YtfhbpfgbnfcdaaaB14
/- Walks: a node made anew, its kids by a function. -/
namespace Go.Proofs.Ytfhbpfgbnfcdaaa
open Go.RowKit

/-- What makes a kid anew. -/
def Maker (fn : Nat) (cap : Array Value) (φ : Fm → Fm) (ks : List Fm) (w : World) : Prop := ∀ (i : Nat) (kid : Fm) (v : Value) (wx : World), ks[i]? = some kid → Below w.heap.size w wx → Rep wx (fun _ => True) kid v →
  Calls Try.prog fn (#[v] ++ cap) wx fun e w' => ∃ u, e = .returned u ∧ Rep w' (wx.heap.size ≤ ·) (φ kid) u ∧ Below wx.heap.size wx w'

set_option maxHeartbeats 4000000 in
theorem rebuilt_any (fn : Nat) (cap : Array Value) (hin : ∀ (v : Value) (w : World), (callFunc fn (#[v] ++ cap)).run Try.prog w = .ok (.enter fn (#[v] ++ cap)) w) (φ : Fm → Fm) (k : Int) (n : ByteArray) (ks : List Fm) (hn : n.size ≤ 8) (hl : ks.length ≤ 2) (v : Value) (w : World) (hrep : Rep w (fun _ => True) (.mk k n ks) v) (hmk : Maker fn cap φ ks w) :
    Calls Try.prog 90 #[v, .func (.func fn) #[] cap] w fun e w' => ∃ u, e = .returned u ∧ Rep w' (w.heap.size ≤ ·) (.mk k n (ks.map φ)) u ∧ Below w.heap.size w w' := by
  obtain ⟨sl, cp, rfl, hx1, hx2, hx3, hx4⟩ := Rep.def.1 hrep; (have HX : Hid (ks ≠ [] → ∃ b off, sl = some ⟨b, off, none⟩ ∧ True ∧ Reps w (fun _ => True) b off ks) := hx4); have HMk : Hid (Maker fn cap φ ks w) := hmk; clear hx4 hmk; obtain ⟨i0, hi, hz0, hz1, hz2⟩ := infoFormula; (have hlenI : ((ks.length : Nat) : Int) ≤ 2 := by omega); have HIo : Hid (Try.prog.info? 24 = some i0 ∧ i0.zero = some (.agg #[.int .i64 0, .string ⟨#[]⟩, .slice none 0 0]) ∧ i0.size = 3 ∧ i0.bytes = 48) := ⟨hi, hz0, hz1, hz2⟩; clear hi hz0 hz1 hz2; (have hcl : ∀ w, Calls Try.prog 54 #[.string n] w fun e w' => e = .returned (.string n) ∧ Below w.heap.size w w' := fun w => clone_any n w (by omega)); have HCl : Hid (∀ w, Calls Try.prog 54 #[.string n] w _) := hcl; clear hcl
  go_enter Try.func90, Try.ntmps90
  go_wp2_with fail; have q0 : ((w.alloc (.cells #[.int .i64 k, .string n, .slice sl ks.length cp] 24 (0, 0))).alloc (.cells #[.int .i64 0, .string ⟨#[]⟩, .slice none 0 0] 24 (0, 0))).heap[w.heap.size]? = some (.cells #[.int .i64 k, .string n, .slice sl ks.length cp] 24 (0, 0)) := alloc_keep (blk_new _ _) _
  have q1 : ((w.alloc (.cells #[.int .i64 k, .string n, .slice sl ks.length cp] 24 (0, 0))).alloc (.cells #[.int .i64 0, .string ⟨#[]⟩, .slice none 0 0] 24 (0, 0))).heap[w.heap.size + 1]? = some (.cells #[.int .i64 0, .string ⟨#[]⟩, .slice none 0 0] 24 (0, 0)) := by
    have := blk_new (w.alloc (.cells #[.int .i64 k, .string n, .slice sl ks.length cp] 24 (0, 0))) (.cells #[.int .i64 0, .string ⟨#[]⟩, .slice none 0 0] 24 (0, 0)); simpa using this
  have B0 : Below w.heap.size w ((w.alloc (.cells #[.int .i64 k, .string n, .slice sl ks.length cp] 24 (0, 0))).alloc (.cells #[.int .i64 0, .string ⟨#[]⟩, .slice none 0 0] 24 (0, 0))) := below_more (below_more (Below.refl _ w) _) _; (have hs0 : w.heap.size + 2 ≤ ((w.alloc (.cells #[.int .i64 k, .string n, .slice sl ks.length cp] 24 (0, 0))).alloc (.cells #[.int .i64 0, .string ⟨#[]⟩, .slice none 0 0] 24 (0, 0))).heap.size := by simp); generalize (w.alloc (.cells #[.int .i64 k, .string n, .slice sl ks.length cp] 24 (0, 0))).alloc (.cells #[.int .i64 0, .string ⟨#[]⟩, .slice none 0 0] 24 (0, 0)) = w0 at *; obtain ⟨e0, e1, e2, -⟩ := blk3 q0; have z0 := lt_of_block q0; have z1 := lt_of_block q1
  go_cut [5] from 8 (fun v wc => (∃ bt : Nat, v = .pointer (some ⟨bt, 0, none⟩) ∧ w.heap.size + 2 ≤ bt ∧ Below w.heap.size w wc ∧ wc.heap[w.heap.size]? = some (.cells #[.int .i64 k, .string n, .slice sl ks.length cp] 24 (0, 0)) ∧ wc.heap[w.heap.size + 1]? = some (.cells #[.int .i64 0, .string ⟨#[]⟩, .slice none 0 0] 24 (0, 0)) ∧ wc.heap[bt]? = some (.cells #[.int .i64 k, .string n, .slice none 0 0] 24 (0, 0))))
  case first =>
    (have d1 : ¬ w0.heap.size = w.heap.size := by omega); have B1' : Below w0.heap.size w0 w0.drew := (Below.refl _ _).drew
    go_region_held3 (fun w' => w'.cell? ⟨w.heap.size, 0, none⟩ = some (.int .i64 k) ∧ w'.cell? ⟨w.heap.size, 1, none⟩ = some (.string n)) (go_keep)
      (first
       | (go_at_call 54
          refine (HCl.out _).mono ?_; rintro e w1 ⟨rfl, hb1⟩; (have p0 := below_keep hb1 (by first | exact q0 | exact alloc_keep q0 _)); (have p1 := below_keep hb1 (by first | exact q1 | exact alloc_keep q1 _)); have zs := hb1.size; obtain ⟨c0, c1, c2, -⟩ := blk3 p0
          try (have pz := below_keep hb1 (blk_new_drew w0 (.cells #[.int .i64 0, .string ⟨#[]⟩, .slice none 0 0] 24 (0, 0)))
               obtain ⟨x0, x1, x2, x3, x4, x5⟩ := blk3 pz)
          have d2 : ¬ w1.heap.size = w.heap.size := by have := lt_of_block p0; omega)
       | fail)
    · go_wp2_with fail
      go_meet; have zz : w0.heap.size ≤ w1.heap.size := zs; have B2 : Below w.heap.size w w1 := below_join B0 (B1'.trans hb1); (exact ⟨w1.heap.size, rfl, by omega, below_more B2 _, alloc_keep p0 _, alloc_keep p1 _, blk_new _ _⟩)
    · go_wp2_with fail
      go_meet; have B2 : Below w.heap.size w w1 := below_join (below_more B0 (.cells #[.int .i64 0, .string ⟨#[]⟩, .slice none 0 0] 24 (0, 0))) (((Below.refl _ _).drew).trans hb1); (refine ⟨w0.heap.size, rfl, by omega, ((B2.setCell (by simp; omega) _).setCell (by simp; omega) _).setCell (by simp; omega) _, ?_, ?_, set3 pz _ _ _⟩)
      · rw [Below.heap_setCell _ _ _ _ (by simp; omega), Below.heap_setCell _ _ _ _ (by simp; omega), Below.heap_setCell _ _ _ _ (by simp; omega)]
        exact p0
      · rw [Below.heap_setCell _ _ _ _ (by simp; omega), Below.heap_setCell _ _ _ _ (by simp; omega), Below.heap_setCell _ _ _ _ (by simp; omega)]
        exact p1
  case rest =>
    obtain ⟨bt, rfl, hbt, hbc, qc0, qc1, qc2⟩ := hcut; clear q0 q1 B0 hs0 e0 e1 e2 z0 z1 w0 HCl; obtain ⟨e0, e1, e2, -⟩ := blk3 qc0; have zt := lt_of_block qc2; have zc1 := lt_of_block qc1; go_wp2_with fail
    go_loopg [17] ks.length (fun g c wr => ∃ i ad cpr, i ≤ ks.length ∧ g = ks.length - i ∧ c = .int .i64 (i : Nat) ∧ Below w.heap.size w wr ∧ wc.heap.size ≤ wr.heap.size ∧ wr.heap[w.heap.size + 1]? = some (.cells #[.int .i64 0, .string ⟨#[]⟩, .slice none 0 0] 24 (0, 0)) ∧ wr.heap[bt]? = some (.cells #[.int .i64 k, .string n, .slice ad i cpr] 24 (0, 0)) ∧ Hid (KO wc.heap.size wr ad cpr ((ks.take i).map φ)))
    case atStart => exact ⟨0, none, 0, by omega, by omega, rfl, hbc, Nat.le_refl _, qc1, qc2, KO.nil⟩
    case round =>
      obtain ⟨i, ad, cpr, hile, hg, rfl, hbr, hwr, q1, q2, HK⟩ := hrel; have HG : Hid (gk = ks.length - i) := hg; clear hg; have zz := hbr.size; by_cases hlt : i < ks.length
      · obtain ⟨⟨k2, n2, ks2⟩, hki⟩ : ∃ f, ks[i]? = some f := ⟨_, List.getElem?_eq_getElem hlt⟩
        (have hltI : (i : Int) < (ks.length : Int) := by omega); (obtain ⟨b, off, hsl, -, hrs⟩ := HX.out (fun e => by rw [e] at hlt; simp at hlt)); subst hsl; obtain ⟨sl2, cap2, g0, g1, g2, hrep2⟩ := (hrs.up hbr).at i k2 n2 ks2 hki; (have HM : Hid (∀ wx, Below w.heap.size w wx → Rep wx (fun _ => True) (.mk k2 n2 ks2) (.agg #[.int .i64 k2, .string n2, .slice sl2 ks2.length cap2]) → Calls Try.prog fn (#[.agg #[.int .i64 k2, .string n2, .slice sl2 ks2.length cap2]] ++ cap) wx fun e w' => ∃ u, e = .returned u ∧ Rep w' (wx.heap.size ≤ ·) (φ (.mk k2 n2 ks2)) u ∧ Below wx.heap.size wx w') := fun wx h1 h2 => HMk.out i _ _ wx hki h1 h2); (have hlc : ((i : Nat) : Int) < ((cp : Nat) : Int) := by omega)
        have HT : Hid ((ks.take (i + 1)).map φ = (ks.take i).map φ ++ [φ (.mk k2 n2 ks2)]) := by
          show _ = _; rw [List.take_add_one, hki]; simp
        (have hti : ((ks.take i).map φ).length = i := by rw [List.length_map, List.length_take]; omega); (have HR2 : Hid (Rep wr (fun _ => True) (.mk k2 n2 ks2) (.agg #[.int .i64 k2, .string n2, .slice sl2 ks2.length cap2])) := hrep2); clear hki hrs hrep HX hrep2; go_wp2_with fail; have p3 := blk_new wr (.cells #[.int .i64 k2, .string n2, .slice sl2 ks2.length cap2] 24 (0, 0)); have p2 := alloc_keep q2 (.cells #[.int .i64 k2, .string n2, .slice sl2 ks2.length cap2] 24 (0, 0)); have p1 := alloc_keep q1 (.cells #[.int .i64 k2, .string n2, .slice sl2 ks2.length cap2] 24 (0, 0)); have bk := below_more hbr (.cells #[.int .i64 k2, .string n2, .slice sl2 ks2.length cap2] 24 (0, 0)); have HKk : Hid (KO wc.heap.size (wr.alloc (.cells #[.int .i64 k2, .string n2, .slice sl2 ks2.length cap2] 24 (0, 0))) ad cpr ((ks.take i).map φ)) := HK.out.up ((Below.refl _ wr).alloc (Nat.le_refl _) _); (have HRk : Hid (Rep (wr.alloc (.cells #[.int .i64 k2, .string n2, .slice sl2 ks2.length cap2] 24 (0, 0))) (fun _ => True) (.mk k2 n2 ks2) (.agg #[.int .i64 k2, .string n2, .slice sl2 ks2.length cap2])) := HR2.out.more _); (have hwk : wc.heap.size ≤ (wr.alloc (.cells #[.int .i64 k2, .string n2, .slice sl2 ks2.length cap2] 24 (0, 0))).heap.size := by simp; omega); clear HK HR2 g0 g1 g2; generalize hwkk : wr.alloc (.cells #[.int .i64 k2, .string n2, .slice sl2 ks2.length cap2] 24 (0, 0)) = wk at *; clear hwkk; obtain ⟨s0, s1, s2, s3, s4, s5⟩ := blk3 p2; obtain ⟨m0, m1, m2, -⟩ := blk3 p3; have y2 := lt_of_block p2; have y3 := lt_of_block p3
        have HOB : Hid (∀ b, wk.heap.size ≤ b → wc.heap.size ≤ b ∧ (Value.slice ad i cpr).ownBlock ≠ some b) := fun b hb => by
          obtain ⟨cs, ho, -⟩ := HKk.out; rw [hti] at ho; (exact ⟨by omega, fun e => by have := (ho.lt b e).2; omega⟩)
        obtain ⟨hi, hz0, hz1, hz2⟩ := HIo.out; generalize φ (.mk k2 n2 ks2) = kid3 at HM HT; obtain ⟨k3, n3, ks3⟩ := kid3
        go_region_law
          (first
           | (have hown := (HKk.out.up hb1').up ((Below.refl _ w1).alloc (Nat.le_refl _) (.cells #[.int .i64 k3, .string n3, .slice sl3 ks3.length cap3] 24 (0, 0)))
              obtain ⟨cs, hown, hlq⟩ := hown; rw [hti] at hown hlq; (refine step_append_lies _ rfl _ _ 22 rfl wc.heap.size 24 i0 (.agg #[.int .i64 0, .string ⟨#[]⟩, .slice none 0 0]) 3 48 Try.underlying22 hi hz0 hz1 hz2 rfl (by decide) _ _ _ rfl hown ⟨w1.heap.size, 0, none⟩ 1 1 [.int .i64 k3, .string n3, .slice sl3 ks3.length cap3] rfl rfl ?_ ?_ (by omega) (by unfold maxLen; omega) (by omega) (by simp; omega) _ rfl ?_)
              · intro j u hu
                rw [add_none, Nat.zero_add, blk_cell (blk_new w1 _)]; simpa using hu
              · intro u hu
                simp at hu
                rcases hu with rfl | rfl | rfl <;> rfl
              intro g3 cp3 w3 hown3 hgrow hat hlt3; have hgrow' : (w1.alloc (.cells #[.int .i64 k3, .string n3, .slice sl3 ks3.length cap3] 24 (0, 0))).grownBy w3 (Value.slice ad i cpr).ownBlock := hgrow; have hat' : (Value.slice ad i cpr).ownBlock = some g3 ∨ g3 = (w1.alloc (.cells #[.int .i64 k3, .string n3, .slice sl3 ks3.length cap3] 24 (0, 0))).heap.size := hat; clear hgrow hat; (obtain ⟨hbB, hko⟩ := KO.app hti (by omega) hown hlq (hrep3.move fun b hb1 hb2 => ⟨rfl, (HOB.out b hb2).1, (HOB.out b hb2).2⟩) hown3 hgrow' hat'); have HKO : Hid (KO wc.heap.size w3 (some ⟨g3, 0, none⟩) cp3 ((ks.take i).map φ ++ [.mk k3 n3 ks3])) := hko; clear hgrow' hat' hown3 hown hlq hko; have t0 := (hbB.block bt zt).trans r2; have t1 := (hbB.block (w.heap.size + 1) zc1).trans (below_keep hb1' p1); clear s0 s1 s2 s3 s4 s5; obtain ⟨s0, s1, s2, s3, s4, s5⟩ := blk3 t0
              have y5 := hbB.size)
           | (go_simp
              (refine (HM.out _ (bk.trans ((Below.refl _ wk).drew.mono (by omega))) (HRk.out.up (Below.refl _ _).drew)).mono ?_); rintro e w1 ⟨u, rfl, hrep3, hb1⟩; obtain ⟨sl3, cap3, rfl⟩ := slice_shape hrep3; have hb1' : Below wk.heap.size wk w1 := (Below.refl _ wk).drew.trans hb1; clear hb1; have r2 := below_keep hb1' p2; clear s0 s1 s2 s3 s4 s5; obtain ⟨s0, s1, s2, s3, s4, s5⟩ := blk3 r2; have y4 : bt < w1.heap.size := lt_of_block r2; have y6 := hb1'.size
              dsimp only)
           | fail)
        all_goals
          go_wp2_with fail
          have t5 : (w3.setCell ⟨bt, 2, none⟩ (.slice (some ⟨g3, 0, none⟩) (i + 1) cp3)).heap[bt]? = some (.cells #[.int .i64 k, .string n, .slice (some ⟨g3, 0, none⟩) (i + 1) cp3] 24 (0, 0)) := by
            simp [World.setCell, Array.getElem?_modify, t0]
          (have t7 := (Below.heap_setCell w3 ⟨bt, 2, none⟩ (.slice (some ⟨g3, 0, none⟩) (i + 1) cp3) (w.heap.size + 1) (by simp; omega)).trans t1); (have BB : Below w.heap.size w (w3.setCell ⟨bt, 2, none⟩ (.slice (some ⟨g3, 0, none⟩) (i + 1) cp3)) := (((bk.trans (hb1'.mono (by omega))).trans (hbB.mono (by omega)))).setCell (by simp; omega) _); (have zw : wc.heap.size ≤ (w3.setCell ⟨bt, 2, none⟩ (.slice (some ⟨g3, 0, none⟩) (i + 1) cp3)).heap.size := by simp [World.setCell]; omega)
          have HKN : Hid (KO wc.heap.size (w3.setCell ⟨bt, 2, none⟩ (.slice (some ⟨g3, 0, none⟩) (i + 1) cp3)) (some ⟨g3, 0, none⟩) cp3 ((ks.take (i + 1)).map φ)) := by
            show KO _ _ _ _ _; rw [HT.out]; (exact HKO.out.same fun b hb _ => Below.heap_setCell _ _ _ _ (by simp; omega))
          go_roundg (ks.length - (i + 1))
          case measure => have := HG.out; omega
          case rel => exact ⟨i + 1, some ⟨g3, 0, none⟩, cp3, by omega, rfl, by go_num, BB, zw, t7, t5, HKN⟩
      · obtain rfl : i = ks.length := by omega
        have HKE : Hid (KO wc.heap.size wr ad cpr (ks.map φ)) := by
          have := HK.out; rw [List.take_length] at this; exact this
        have hml : (ks.map φ).length = ks.length := List.length_map ..; clear HK HX hrep; obtain ⟨o0, o1, o2, o3, o4, o5⟩ := blk3 q1; obtain ⟨s0, s1, s2, -⟩ := blk3 q2; go_wp2_with fail; have f3 := set3 q1 (.int .i64 k) (.string n) (.slice ad ks.length cpr); (have BF : Below w.heap.size w (((wr.setCell ⟨w.heap.size + 1, 0, none⟩ (.int .i64 k)).setCell ⟨w.heap.size + 1, 1, none⟩ (.string n)).setCell ⟨w.heap.size + 1, 2, none⟩ (.slice ad ks.length cpr)) := ((hbr.setCell (by simp) _).setCell (by simp) _).setCell (by simp) _)
        have RF := (HKE.out.same (w' := ((wr.setCell ⟨w.heap.size + 1, 0, none⟩ (.int .i64 k)).setCell ⟨w.heap.size + 1, 1, none⟩ (.string n)).setCell ⟨w.heap.size + 1, 2, none⟩ (.slice ad ks.length cpr)) fun b hb _ => by
          rw [Below.heap_setCell _ _ _ _ (by simp; omega), Below.heap_setCell _ _ _ _ (by simp; omega), Below.heap_setCell _ _ _ _ (by simp; omega)]).rep k n hx1
        rw [hml] at RF; generalize World.setCell _ _ _ = F at f3 BF RF ⊢; clear o0 o1 o2 o3 o4 o5; obtain ⟨o0, o1, o2, -⟩ := blk3 f3; (exact bodyPost_ret (v := .agg #[.int .i64 k, .string n, .slice ad ks.length cpr]) (by simp [results, Try.results90, go_sem, o0, o1, o2]) rfl ⟨_, rfl, RF.move fun b _ hb => ⟨rfl, by omega⟩, BF⟩)
end Go.Proofs.Ytfhbpfgbnfcdaaa
/- Walks: copies, and a formula for a name. -/
namespace Go.Proofs.Ytfhbpfgbnfcdaaa
open Go.RowKit

mutual
def putF (nm : ByteArray) (g : Fm) : Fm → Fm
  | .mk k n ks => if hasN nm (.mk k n []) = true then g else .mk k n (putFs nm g ks)
def putFs (nm : ByteArray) (g : Fm) : List Fm → List Fm
  | [] => []
  | f :: fs => putF nm g f :: putFs nm g fs
end
theorem putFs_map (nm : ByteArray) (g : Fm) : ∀ ks : List Fm, putFs nm g ks = ks.map (putF nm g)
  | [] => by rw [putFs]; rfl
  | f :: fs => by rw [putFs, putFs_map nm g fs]; rfl
theorem hasN_kids (nm : ByteArray) (k : Int) (n : ByteArray) (a b : List Fm) : hasN nm (.mk k n a) = hasN nm (.mk k n b) := rfl

def Copies (m : Nat) : Prop := ∀ (f : Fm) (v : Value) (w : World), f.size < m → Fine f → Rep w (fun _ => True) f v →
  Calls Try.prog 59 #[v] w fun e w' => ∃ u, e = .returned u ∧ Rep w' (w.heap.size ≤ ·) f u ∧ Below w.heap.size w w'

theorem copy_in (cap : Array Value) (w : World) : (callFunc 59 cap).run Try.prog w = .ok (.enter 59 cap) w := by
  simp [go_sem]

set_option maxHeartbeats 1000000 in
theorem copy_step (m : Nat) (ih : Copies m) : Copies (m + 1) := by
  intro f v w hm hf hrep; obtain ⟨k, n, ks⟩ := f; have hsm := hf.small
  have hre : ∀ v wx, Rep wx (fun _ => True) (.mk k n ks) v → Calls Try.prog 90 #[v, .func (.func 59) #[] #[]] wx fun e w' => ∃ u, e = .returned u ∧ Rep w' (wx.heap.size ≤ ·) (.mk k n ks) u ∧ Below wx.heap.size wx w' := fun v wx h => by
    (have := rebuilt_any 59 #[] (fun v w => copy_in _ w) (fun f => f) k n ks hsm.1 hsm.2 v wx h (fun i kid v wy hki _ hr => ih kid v wy (by have := sizes_get hki; rw [Fm.size] at hm; omega) (hf.kid i kid hki) hr)); rw [List.map_id'] at this; exact this
  have HRe : Hid (∀ v wx, _ → Calls Try.prog 90 _ wx _) := hre; obtain ⟨sl, cap, rfl⟩ := slice_shape hrep; clear hre
  go_enter Try.func59, Try.ntmps59
  go_wp2_with (first
    | (go_at_call 90
       refine (HRe.out _ _ ((hrep.more _).more _)).mono ?_; rintro e w1 ⟨u, rfl, hrep1, hb1⟩; obtain ⟨sl1, cap1, rfl⟩ := slice_shape hrep1; have q1 := below_keep hb1 (blk_new (w.alloc _) _); (rw [show (w.alloc _).heap.size = w.heap.size + 1 by simp] at q1); have B1 := below_join (below_more (below_more (Below.refl _ w) _) _) hb1
       obtain ⟨o0, o1, o2, o3, o4, o5⟩ := blk3 q1)
    | fail)
  have f3 := set3 q1 (.int .i64 k) (.string n) (.slice sl1 ks.length cap1); (have BF : Below w.heap.size w (((w1.setCell ⟨w.heap.size + 1, 0, none⟩ (.int .i64 k)).setCell ⟨w.heap.size + 1, 1, none⟩ (.string n)).setCell ⟨w.heap.size + 1, 2, none⟩ (.slice sl1 ks.length cap1)) := ((B1.setCell (by simp) _).setCell (by simp) _).setCell (by simp) _)
  have RF := hrep1.move (ok' := (w.heap.size ≤ ·)) (w' := ((w1.setCell ⟨w.heap.size + 1, 0, none⟩ (.int .i64 k)).setCell ⟨w.heap.size + 1, 1, none⟩ (.string n)).setCell ⟨w.heap.size + 1, 2, none⟩ (.slice sl1 ks.length cap1)) fun b _ hb => by
    (have hb' : w.heap.size + 2 ≤ b := by simpa using hb); (refine ⟨?_, by omega⟩); (rw [Below.heap_setCell _ _ _ _ (by simp; omega), Below.heap_setCell _ _ _ _ (by simp; omega), Below.heap_setCell _ _ _ _ (by simp; omega)])
  generalize World.setCell _ _ _ = F at f3 BF RF ⊢; clear o0 o1 o2 o3 o4 o5; obtain ⟨o0, o1, o2, -⟩ := blk3 f3; (exact bodyPost_ret (v := .agg #[.int .i64 k, .string n, .slice sl1 ks.length cap1]) (by simp [results, Try.results59, go_sem, o0, o1, o2]) rfl ⟨_, rfl, RF, BF⟩)

theorem copies_all : ∀ m, Copies m
  | 0 => fun _ _ _ h => absurd h (Nat.not_lt_zero _)
  | m + 1 => copy_step m (copies_all m)

theorem copyOf_any (f : Fm) (v : Value) (w : World) (hf : Fine f) (hrep : Rep w (fun _ => True) f v) :
    Calls Try.prog 59 #[v] w fun e w' => ∃ u, e = .returned u ∧ Rep w' (w.heap.size ≤ ·) f u ∧ Below w.heap.size w w' :=
  copies_all (f.size + 1) f v w (Nat.lt_succ_self _) hf hrep

def Repls (nm : ByteArray) (g : Fm) (m : Nat) : Prop := ∀ (f : Fm) (v u : Value) (w : World), f.size < m → Fine f → Rep w (fun _ => True) f v → Rep w (fun _ => True) g u →
  Calls Try.prog 63 #[v, .string nm, u] w fun e w' => ∃ x, e = .returned x ∧ Rep w' (w.heap.size ≤ ·) (putF nm g f) x ∧ Below w.heap.size w w'

theorem repl1_in (cap : Array Value) (w : World) : (callFunc 95 cap).run Try.prog w = .ok (.enter 95 cap) w := by
  simp [go_sem]

/-- A result's block is written last. -/
theorem out3 {W w : World} {bt : Nat} (hW : W.heap.size ≤ bt) {x0 x1 x2 : Value} {T : TypeId} (q : w.heap[bt]? = some (.cells #[x0, x1, x2] T (0, 0))) (B : Below W.heap.size W w) {f : Fm} {v : Value} {m : Nat} (hm : bt < m) (hrep : Rep w (m ≤ ·) f v) (y0 y1 y2 : Value) :
    (((w.setCell ⟨bt, 0, none⟩ y0).setCell ⟨bt, 1, none⟩ y1).setCell ⟨bt, 2, none⟩ y2).heap[bt]? = some (.cells #[y0, y1, y2] T (0, 0)) ∧ Below W.heap.size W (((w.setCell ⟨bt, 0, none⟩ y0).setCell ⟨bt, 1, none⟩ y1).setCell ⟨bt, 2, none⟩ y2) ∧ Rep (((w.setCell ⟨bt, 0, none⟩ y0).setCell ⟨bt, 1, none⟩ y1).setCell ⟨bt, 2, none⟩ y2) (W.heap.size ≤ ·) f v := by
  (refine ⟨set3 q _ _ _, ((B.setCell hW _).setCell hW _).setCell hW _, hrep.move fun b _ hb => ?_⟩); have hb' : m ≤ b := hb; (refine ⟨?_, by show W.heap.size ≤ b; omega⟩); (rw [Below.heap_setCell _ _ _ _ (by simp; omega), Below.heap_setCell _ _ _ _ (by simp; omega), Below.heap_setCell _ _ _ _ (by simp; omega)])

set_option maxHeartbeats 1000000 in
theorem repl1_any (nm : ByteArray) (g h : Fm) (nb gb : Nat) (kid : Fm) (v : Value) (w : World) (u : Value) (hu : Rep w (fun _ => True) g u) (c0 c1 c2 : Value) (hcu : u = .agg #[c0, c1, c2]) (h0 : w.heap[nb]? = some (.cells #[.string nm] 9 (0, 0))) (h1 : w.heap[gb]? = some (.cells #[c0, c1, c2] 24 (0, 0))) (hrep : Rep w (fun _ => True) kid v)
    (hr : ∀ v u wx, Rep wx (fun _ => True) kid v → Rep wx (fun _ => True) g u → Calls Try.prog 63 #[v, .string nm, u] wx fun e w' => ∃ x, e = .returned x ∧ Rep w' (wx.heap.size ≤ ·) h x ∧ Below wx.heap.size wx w') :
    Calls Try.prog 95 #[v, .pointer (some ⟨nb, 0, none⟩), .pointer (some ⟨gb, 0, none⟩)] w fun e w' => ∃ x, e = .returned x ∧ Rep w' (w.heap.size ≤ ·) h x ∧ Below w.heap.size w w' := by
  obtain ⟨k, n, ks⟩ := kid; obtain ⟨sl, cap, rfl⟩ := slice_shape hrep; obtain ⟨k3, n3, ks3⟩ := h; obtain ⟨kg, ng, ksg⟩ := g; obtain ⟨slg, capg, hug⟩ := slice_shape hu; rw [hug] at hcu; simp only [Value.agg.injEq, Array.mk.injEq, List.cons.injEq, and_true] at hcu; obtain ⟨rfl, rfl, rfl⟩ := hcu; subst hug; have HR : Hid (∀ v u wx, _ → _ → Calls Try.prog 63 _ wx _) := hr; have k0 := alloc_keep (alloc_keep h0 (.cells #[.int .i64 k, .string n, .slice sl ks.length cap] 24 (0, 0))) (.cells #[.int .i64 0, .string ⟨#[]⟩, .slice none 0 0] 24 (0, 0)); have k1 := alloc_keep (alloc_keep h1 (.cells #[.int .i64 k, .string n, .slice sl ks.length cap] 24 (0, 0))) (.cells #[.int .i64 0, .string ⟨#[]⟩, .slice none 0 0] 24 (0, 0)); obtain ⟨a0, -⟩ := blk1 k0; obtain ⟨a1, a2, a3, -⟩ := blk3 k1; clear hr
  go_enter Try.func95, Try.ntmps95
  go_wp2_with (first
    | (go_at_call 63
       refine (HR.out _ _ _ ((hrep.more _).more _) ((hu.more _).more _)).mono ?_; rintro e w1 ⟨x, rfl, hrep1, hb1⟩; obtain ⟨sl1, cap1, rfl⟩ := slice_shape hrep1; have q1 := below_keep hb1 (blk_new (w.alloc _) _); (rw [show (w.alloc _).heap.size = w.heap.size + 1 by simp] at q1); have B1 := below_join (below_more (below_more (Below.refl _ w) _) _) hb1; (have O := out3 (W := w) (bt := w.heap.size + 1) (by omega) q1 B1 (by simp) hrep1 (.int .i64 k3) (.string n3) (.slice sl1 ks3.length cap1))
       obtain ⟨o0, o1, o2, o3, o4, o5⟩ := blk3 q1)
    | fail)
  obtain ⟨f3, BF, RF⟩ := O; generalize World.setCell _ _ _ = F at f3 BF RF ⊢; clear o0 o1 o2 o3 o4 o5; obtain ⟨o0, o1, o2, -⟩ := blk3 f3; (exact bodyPost_ret (v := .agg #[.int .i64 k3, .string n3, .slice sl1 ks3.length cap1]) (by simp [results, Try.results95, go_sem, o0, o1, o2]) rfl ⟨_, rfl, RF, BF⟩)

set_option maxHeartbeats 2000000 in
theorem repl_step (nm : ByteArray) (g : Fm) (hg : Fine g) (m : Nat) (ih : Repls nm g m) : Repls nm g (m + 1) := by
  intro f v u w hm hf hrep hu; (have hhn := fun v w h => hasName_any f v nm w h); (have hcp := fun v w h => copyOf_any g v w hg h); obtain ⟨k, n, ks⟩ := f; have hsm := hf.small; (have hkid : ∀ (i : Nat) (kid : Fm), ks[i]? = some kid → kid.size < m ∧ Fine kid := fun i kid hki => ⟨by have := sizes_get hki; rw [Fm.size] at hm; omega, hf.kid i kid hki⟩); obtain ⟨kg, ng, ksg⟩ := g; obtain ⟨sl, cap, rfl⟩ := slice_shape hrep; obtain ⟨slg, capg, rfl⟩ := slice_shape hu; have N0 := (three (w := w) (o0 := .cells #[.int .i64 k, .string n, .slice sl ks.length cap] 24 (0, 0)) (o1 := .cells #[.string nm] 9 (0, 0)) (o2 := .cells #[.int .i64 kg, .string ng, .slice slg ksg.length capg] 24 (0, 0)) (o3 := .cells #[.int .i64 0, .string ⟨#[]⟩, .slice none 0 0] 24 (0, 0))); have BN : Below w.heap.size w ((((w.alloc (.cells #[.int .i64 k, .string n, .slice sl ks.length cap] 24 (0, 0))).alloc (.cells #[.string nm] 9 (0, 0))).alloc (.cells #[.int .i64 kg, .string ng, .slice slg ksg.length capg] 24 (0, 0))).alloc (.cells #[.int .i64 0, .string ⟨#[]⟩, .slice none 0 0] 24 (0, 0))) := below_more (below_more (below_more (below_more (Below.refl _ w) _) _) _) _; (have SN : w.heap.size + 4 ≤ ((((w.alloc (.cells #[.int .i64 k, .string n, .slice sl ks.length cap] 24 (0, 0))).alloc (.cells #[.string nm] 9 (0, 0))).alloc (.cells #[.int .i64 kg, .string ng, .slice slg ksg.length capg] 24 (0, 0))).alloc (.cells #[.int .i64 0, .string ⟨#[]⟩, .slice none 0 0] 24 (0, 0))).heap.size := by simp); have HH : Hid (∀ v w, _ → Calls Try.prog 93 _ w _) := hhn; have HC : Hid (∀ v w, _ → Calls Try.prog 59 _ w _) := hcp; (have hmf : ∀ (fn : Fn) (first cap : Array Value) (w : World), (Instr.makeFunc fn first cap).run Try.prog w = .ok (.func fn first cap) w := fun _ _ _ _ => rfl)
  rcases hb : hasN nm (.mk k n ks) with _ | _
  · have hphi : putF nm (.mk kg ng ksg) (.mk k n ks) = .mk k n (ks.map (putF nm (.mk kg ng ksg))) := by
      rw [putF, hasN_kids nm k n [] ks, hb, putFs_map]; rfl
    have hre : ∀ (v : Value) (wx : World), wx.heap[w.heap.size + 1]? = some (.cells #[.string nm] 9 (0, 0)) → wx.heap[w.heap.size + 2]? = some (.cells #[.int .i64 kg, .string ng, .slice slg ksg.length capg] 24 (0, 0)) → Rep wx (fun _ => True) (.mk kg ng ksg) (.agg #[.int .i64 kg, .string ng, .slice slg ksg.length capg]) → Rep wx (fun _ => True) (.mk k n ks) v → Calls Try.prog 90 #[v, .func (.func 95) #[] #[.pointer (some ⟨w.heap.size + 1, 0, none⟩), .pointer (some ⟨w.heap.size + 1 + 1, 0, none⟩)]] wx fun e w' => ∃ u, e = .returned u ∧ Rep w' (wx.heap.size ≤ ·) (.mk k n (ks.map (putF nm (.mk kg ng ksg)))) u ∧ Below wx.heap.size wx w' := fun v wx h1 h2 h3 h => by
      (refine rebuilt_any 95 #[.pointer (some ⟨w.heap.size + 1, 0, none⟩), .pointer (some ⟨w.heap.size + 1 + 1, 0, none⟩)] (fun v w => repl1_in _ w) (putF nm (.mk kg ng ksg)) k n ks hsm.1 hsm.2 v wx h (fun i kid v wy hki hby hr => ?_)); (exact repl1_any nm (.mk kg ng ksg) (putF nm (.mk kg ng ksg) kid) (w.heap.size + 1) (w.heap.size + 1 + 1) kid v wy _ (h3.up hby) _ _ _ rfl (below_keep hby h1) (below_keep hby h2) hr (fun v u wz hv hu => ih kid v u wz (hkid i kid hki).1 (hkid i kid hki).2 hv hu))
    have HRe : Hid (∀ (v : Value) (wx : World), _ → _ → _ → _ → Calls Try.prog 90 _ wx _) := hre; rw [hphi]; rw [hb] at HH; clear hre hphi hb hhn hcp; generalize (ks.map (putF nm (.mk kg ng ksg))) = ks3 at *
    go_enter Try.func63, Try.ntmps63
    go_wp2_with (first
      | (go_at_call 93
         refine (HH.out _ _ (hrep.up BN)).mono ?_; rintro e w1 ⟨rfl, hb1⟩; have B1 := below_join BN hb1; have q0 := below_keep hb1 N0.1; have q1 := below_keep hb1 N0.2.1; have q2 := below_keep hb1 N0.2.2.1; have q3 := below_keep hb1 N0.2.2.2; have R1 := hrep.up B1; have U1 := hu.up B1; have z1 := hb1.size; obtain ⟨a0, a1, a2, -⟩ := blk3 q0
         obtain ⟨d0, d1, d2, -⟩ := blk3 q2)
      | (go_at_call 90
         refine (HRe.out _ _ q1 q2 U1 R1).mono ?_; rintro e w2 ⟨x, rfl, hrep2, hb2⟩; obtain ⟨sl1, cap1, rfl⟩ := slice_shape hrep2; have B2 := below_join B1 hb2; have p3 := below_keep hb2 q3; (have O := out3 (W := w) (bt := w.heap.size + 1 + 1 + 1) (by omega) p3 B2 (by omega) hrep2 (.int .i64 k) (.string n) (.slice sl1 ks3.length cap1))
         obtain ⟨o0, o1, o2, o3, o4, o5⟩ := blk3 p3)
      | fail)
    obtain ⟨f3, BF, RF⟩ := O; generalize World.setCell _ _ _ = F at f3 BF RF ⊢; clear o0 o1 o2 o3 o4 o5; obtain ⟨o0, o1, o2, -⟩ := blk3 f3; (exact bodyPost_ret (v := .agg #[.int .i64 k, .string n, .slice sl1 ks3.length cap1]) (by simp [results, Try.results63, go_sem, o0, o1, o2]) rfl ⟨_, rfl, RF, BF⟩)
  · have hphi : putF nm (.mk kg ng ksg) (.mk k n ks) = .mk kg ng ksg := by
      rw [putF, hasN_kids nm k n [] ks, hb]; rfl
    rw [hphi]; rw [hb] at HH; clear hphi hb hhn hcp
    go_enter Try.func63, Try.ntmps63
    go_wp2_with (first
      | (go_at_call 93
         refine (HH.out _ _ (hrep.up BN)).mono ?_; rintro e w1 ⟨rfl, hb1⟩; have B1 := below_join BN hb1; have q0 := below_keep hb1 N0.1; have q1 := below_keep hb1 N0.2.1; have q2 := below_keep hb1 N0.2.2.1; have q3 := below_keep hb1 N0.2.2.2; have R1 := hrep.up B1; have U1 := hu.up B1; have z1 := hb1.size; obtain ⟨a0, a1, a2, -⟩ := blk3 q0
         obtain ⟨d0, d1, d2, -⟩ := blk3 q2)
      | (go_at_call 59
         refine (HC.out _ _ U1).mono ?_; rintro e w2 ⟨x, rfl, hrep2, hb2⟩; obtain ⟨sl1, cap1, rfl⟩ := slice_shape hrep2; have B2 := below_join B1 hb2; have p3 := below_keep hb2 q3; (have O := out3 (W := w) (bt := w.heap.size + 1 + 1 + 1) (by omega) p3 B2 (by omega) hrep2 (.int .i64 kg) (.string ng) (.slice sl1 ksg.length cap1))
         obtain ⟨o0, o1, o2, o3, o4, o5⟩ := blk3 p3)
      | fail)
    obtain ⟨f3, BF, RF⟩ := O; generalize World.setCell _ _ _ = F at f3 BF RF ⊢; clear o0 o1 o2 o3 o4 o5; obtain ⟨o0, o1, o2, -⟩ := blk3 f3; (exact bodyPost_ret (v := .agg #[.int .i64 kg, .string ng, .slice sl1 ksg.length cap1]) (by simp [results, Try.results63, go_sem, o0, o1, o2]) rfl ⟨_, rfl, RF, BF⟩)

theorem repls_all (nm : ByteArray) (g : Fm) (hg : Fine g) : ∀ m, Repls nm g m
  | 0 => fun _ _ _ _ h => absurd h (Nat.not_lt_zero _)
  | m + 1 => repl_step nm g hg m (repls_all nm g hg m)

theorem repl_any (f g : Fm) (v u : Value) (nm : ByteArray) (w : World) (hf : Fine f) (hg : Fine g) (hrep : Rep w (fun _ => True) f v) (hu : Rep w (fun _ => True) g u) :
    Calls Try.prog 63 #[v, .string nm, u] w fun e w' => ∃ x, e = .returned x ∧ Rep w' (w.heap.size ≤ ·) (putF nm g f) x ∧ Below w.heap.size w w' :=
  repls_all nm g hg (f.size + 1) f v u w (Nat.lt_succ_self _) hf hrep hu
end Go.Proofs.Ytfhbpfgbnfcdaaa
