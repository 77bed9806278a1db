/- Texts of one proof, one behind the other: KY9. -/
import Derived.Test.YtalnljnincnbdacGreatB40
import Derived.Test.YtalnljnincnbdacGreatB14
import Derived.Test.YtalnljnincnbdacGreatB09
import Derived.Test.YtalnljnincnbdacGreatB11
import Derived.Test.YtalnljnincnbdacGreatB04
import Derived.Test.YtalnljnincnbdacGreatB31
import Derived.Test.YtalnljnincnbdacGreatB13
/- A list of one's own with a formula more; Prove in short; a large sequent. -/
namespace Go.Proofs.YtalnljnincnbdacGreat
open Go.RowKit

set_option maxRecDepth 10000 in
set_option maxHeartbeats 4000000 in
theorem vastSeqG_any (l r : List Fm) (v v' : Value) (w : World) (h : FL w v l) (h' : FL w v' r) : Calls Tryz.prog 8 #[.agg #[v, v']] w fun e w' => IsVG (.mk ⟨#[]⟩ (.mk 0 ⟨#[]⟩ []) l r []) e ∧ Below w.heap.size w w' := by
  have HL : Hid (FL w v l) := h; have HR : Hid (FL w v' r) := h'; obtain ⟨aL, cL, rfl, -⟩ := h; obtain ⟨aR, cR, rfl, -⟩ := h'
  have HC : Hid (∀ W, Below w.heap.size w W → Calls Tryz.prog 18 #[.agg #[.string ⟨#[]⟩, .int .i64 0, .string ⟨#[]⟩, .slice none 0 0, .slice aL l.length cL, .slice aR r.length cR, .slice none 0 0], .int .i64 0] W fun e w' => IsVG (.mk ⟨#[]⟩ (.mk 0 ⟨#[]⟩ []) l r []) e ∧ Below W.heap.size W w') := fun W hb =>
    pvastg_any _ _ W (PRep.def.2 ⟨_, _, _, _, _, none, 0, rfl, by simp [ByteArray.size, maxLen], Rep.def.2 ⟨none, 0, rfl, by simp [ByteArray.size, maxLen], Nat.le_refl _, by simp [maxLen], fun h => absurd rfl h⟩, HL.out.up hb, HR.out.up hb, Nat.le_refl _, by simp [maxLen], fun h => absurd rfl h⟩)
  have HB0 : Hid (Below w.heap.size w (w.alloc (.cells #[.slice aL l.length cL, .slice aR r.length cR] 24 (0, 0)))) := below_more (Below.refl _ w) _
  go_enter Tryz.func8, Tryz.ntmps8
  go_wp2_with fail; refine (HC.out _ HB0.out).mono ?_; rintro e w1 ⟨hvp, hb1⟩; have HB1 : Hid (Below w.heap.size w w1) := below_join HB0.out hb1; clear hb1; obtain ⟨bb, rfl, hbb⟩ := hvp; have HV : Hid _ := hbb; clear hbb; go_wp2_with fail; go_ret; exact ⟨⟨bb, rfl, HV.out⟩, HB1.out⟩
/-- What Prove answers, in short. -/
def PvSum (l r : List Fm) (w : World) (e : Ending) (w' : World) : Prop :=
  ∃ a k n sf m cf al ml cl ar mr cr sl mk cap c val code at', e = .returned (.tuple #[.agg #[.string a, .int .i64 k, .string n, .slice sf m cf, .slice al ml cl, .slice ar mr cr, .slice sl mk cap], c, .bool val, .agg #[.int .i64 code, .int .i64 at']]) ∧ Below w.heap.size w w' ∧ (code = 0 → (seqCode l r).1 = 0 ∧ (val = true ↔ Valid l r))
theorem prove_sum (l r : List Fm) (hl3 : l.length ≤ 400) (hr3 : r.length ≤ 400) (vl vr : Value) (w : World) (hl : FL w vl l) (hr : FL w vr r) : Calls Tryz.prog 10 #[.agg #[vl, vr]] w (PvSum l r w) := by
  refine (prove_any l r hl3 hr3 vl vr w hl hr).mono ?_; rintro e w' ⟨pv, c, val, code, at', rfl, hb, hc⟩
  cases hc with
  | fault h => exact ⟨_, _, _, _, _, _, _, _, _, _, _, _, _, _, _, _, _, _, _, rfl, hb, fun e => absurd e h⟩
  | much h hm => exact ⟨_, _, _, _, _, _, _, _, _, _, _, _, _, _, _, _, _, _, _, rfl, hb, fun e => (by cases e)⟩
  | no h c L hc ha hn => exact ⟨_, _, _, _, _, _, _, _, _, _, _, _, _, _, _, _, _, _, _, rfl, hb, fun _ => ⟨h, fun e => (by cases e), fun hv => absurd hv ha.invalid⟩⟩
  | yes h P pv hp hf hs hl hr hv ht =>
    obtain ⟨a, ⟨k, n, kf⟩, l', r', ks⟩ := P; obtain ⟨sf, cf, al, cl, ar, cr, sl, cap, rfl, -⟩ := hp.parts; (exact ⟨_, _, _, _, _, _, _, _, _, _, _, _, _, _, _, _, _, _, _, rfl, hb, fun _ => ⟨h, fun _ => hv, fun _ => rfl⟩⟩)
/-- A list of one's own, then with a formula more, and the box of a sequent. -/
structure GC where
  ad : Option Addr
  cp : Nat
  ad' : Option Addr
  cp' : Nat
  g : Nat
def GC.none0 : GC := ⟨none, 0, none, 0, 0⟩
structure StC (W : World) (ls : List Fm) (f : Fm) (bx : GC → Array Value) (l4 l7 l9 l10 : Bool) (y : GC) (w : World) : Prop where
  below : Below W.heap.size W w
  own : l4 = true → l7 = false → KP (fun b => l9 = true → b ≠ y.g) W.heap.size w y.ad y.cp ls ∧ (l9 = true → (Value.slice y.ad ls.length y.cp).ownBlock ≠ some y.g)
  app : l7 = true → FLp (fun b => l9 = true → b ≠ y.g) w (.slice y.ad' (ls.length + 1) y.cp') (ls ++ [f])
  box : l9 = true → W.heap.size ≤ y.g ∧ w.heap[y.g]? = some (.cells (cond l10 (bx y) #[.slice none 0 0, .slice none 0 0]) 24 (0, 0))
theorem StC.up {W w w' : World} {ls : List Fm} {f : Fm} {bx : GC → Array Value} {l4 l7 l9 l10 : Bool} {y : GC} (h : StC W ls f bx l4 l7 l9 l10 y w) (hb : Below w.heap.size w w') : StC W ls f bx l4 l7 l9 l10 y w' :=
  ⟨below_join h.below hb, fun e1 e2 => ⟨(h.own e1 e2).1.up hb, (h.own e1 e2).2⟩, fun e => (h.app e).up hb, fun e => ⟨(h.box e).1, below_keep hb (h.box e).2⟩⟩
theorem StC.mine {W w w' : World} {ls : List Fm} {f : Fm} {bx : GC → Array Value} {l4 l7 l9 l10 : Bool} {y : GC} (h : StC W ls f bx l4 l7 l9 l10 y w) (e7 : l7 = false) (e10 : l10 = false) (hb : Below w.heap.size w w') {ad : Option Addr} {cp : Nat} (hk : KO w.heap.size w' ad cp ls) : StC W ls f bx true l7 l9 l10 { y with ad := ad, cp := cp } w' := by
  subst e10; have hs := h.below.size; (refine ⟨below_join h.below hb, fun _ _ => ?_, fun e => (by rw [e7] at e; cases e), fun e => ⟨(h.box e).1, below_keep hb (h.box e).2⟩⟩); obtain ⟨cs, ⟨h1, h2⟩, h3⟩ := hk; (refine ⟨⟨cs, ⟨h1, ?_⟩, h3.move fun b _ hp => ⟨rfl, fun e9 => ?_, hp.2⟩⟩, fun e9 he => ?_⟩)
  · rcases h2 with h2 | ⟨g, cap, cur, hv, hg, hh, r⟩
    · exact Or.inl h2
    · exact Or.inr ⟨g, cap, cur, hv, by omega, hh, r⟩
  · have h5 := lt_of_block (h.box e9).2
    have h6 : w'.ownsRow w.heap.size 29 3 (.slice ad ls.length cp) ls.length cs := ⟨h1, h2⟩; have h7 := (h6.lt _ he).1; simp only at h7; omega
  · have := lt_of_block (h.box e9).2
    have := hp.1; show b ≠ y.g; omega
theorem StC.alloc {W w : World} {ls : List Fm} {f : Fm} {bx : GC → Array Value} {l4 l7 l9 l10 : Bool} {y : GC} (h : StC W ls f bx l4 l7 l9 l10 y w) (e10 : l10 = false) : StC W ls f bx l4 l7 true l10 { y with g := w.heap.size } (w.alloc (.cells #[.slice none 0 0, .slice none 0 0] 24 (0, 0))) := by
  subst e10; have hb := below_more (Below.refl w.heap.size w) (.cells #[.slice none 0 0, .slice none 0 0] 24 (0, 0)); (refine ⟨below_join h.below hb, fun e1 e2 => ?_, fun e => (h.app e).move fun b hl _ => ⟨hb.block b hl, fun _ e => by simp only at e; omega⟩, fun _ => ⟨h.below.size, blk_new w _⟩⟩); obtain ⟨h1, h2⟩ := h.own e1 e2; (refine ⟨h1.move (fun b hl => hb.block b hl) fun b hl _ _ e => by simp only at e; omega, fun _ he => ?_⟩); obtain ⟨cs, ho, -⟩ := h1; have := (ho.lt _ he).2; simp only at this; omega
theorem StC.append {W w w3 : World} {ls : List Fm} {f : Fm} {bx : GC → Array Value} {l4 l7 l9 l10 : Bool} {y : GC} (h : StC W ls f bx l4 l7 l9 l10 y w) (e4 : l4 = true) (e7 : l7 = false) (e10 : l10 = false) {c0 c1 c2 : Value} (hr : Rep w (· < W.heap.size) f (.agg #[c0, c1, c2])) {cs : List Value} {g3 cp3 : Nat} (hown : w.ownsRow W.heap.size 29 3 (.slice y.ad ls.length y.cp) ls.length cs) (hlq : LQ (fun b => (l9 = true → b ≠ y.g) ∧ (Value.slice y.ad ls.length y.cp).ownBlock ≠ some b) w cs ls)
    (hown3 : w3.ownsRow W.heap.size 29 3 (.slice (some ⟨g3, 0, none⟩) (ls.length + 1) cp3) (ls.length + 1) (cs ++ [c0, c1, c2])) (hgrow : w.grownBy w3 (Value.slice y.ad ls.length y.cp).ownBlock) (hat : (Value.slice y.ad ls.length y.cp).ownBlock = some g3 ∨ g3 = w.heap.size) :
    StC W ls f bx l4 true l9 l10 { y with ad' := some ⟨g3, 0, none⟩, cp' := cp3 } w3 := by
  subst e10; have hs := h.below.size; have hs3 := hgrow.size; have hne := (h.own e4 e7).2; (have hbx : l9 = true → W.heap.size ≤ y.g ∧ w3.heap[y.g]? = some (.cells #[.slice none 0 0, .slice none 0 0] 24 (0, 0)) := fun e => ⟨(h.box e).1, (hgrow.block _ (lt_of_block (h.box e).2) fun e2 => hne e e2.symm).trans (h.box e).2⟩); (refine ⟨h.below.grown hgrow hs fun k hk => (hown.lt k hk).1, fun _ e => (by cases e), fun _ => ?_, hbx⟩)
  have hkp : KP (fun b => l9 = true → b ≠ y.g) W.heap.size w3 (some ⟨g3, 0, none⟩) cp3 (ls ++ [f]) := by
    (refine ⟨cs ++ [c0, c1, c2], by rw [List.length_append]; exact hown3, ?_⟩); (refine (hlq.append (ds := [c0, c1, c2]) (gs := [f]) ⟨hr.move fun b hb hok => ⟨rfl, fun e9 e => by have := (h.box e9).1; have : b < W.heap.size := hok; omega, fun e => by have := (hown.lt b e).1; have : b < W.heap.size := hok; omega⟩, trivial⟩).move fun b hb hok => ⟨hgrow.block b hb (fun e => hok.2 e.symm), hok.1, fun e => ?_⟩); (have e : g3 = b := by simpa [Value.ownBlock] using e)
    rcases hat with h | h
    · exact hok.2 (by rw [h, e])
    · omega
  have hg3 : l9 = true → g3 ≠ y.g := fun e9 e => by
    rcases hat with h5 | h5
    · exact hne e9 (by rw [h5, e])
    · have := lt_of_block (h.box e9).2
      omega
  obtain ⟨cs', ho', hl'⟩ := hkp; (have hb : (ls ++ [f]).length = ls.length + 1 := by rw [List.length_append]; rfl)
  rcases ho'.2 with ⟨hv, -⟩ | ⟨g, cp', cur, hv, hg', hh, h1, h2, -⟩
  · simp at hv
  · simp only [Value.slice.injEq, Option.some.injEq, Addr.mk.injEq, and_true, true_and] at hv
    obtain ⟨rfl, rfl⟩ := hv; (refine ⟨_, cp3, ?_, h1, h2, fun _ => ⟨g3, 0, rfl, hg3, ?_⟩⟩)
    · rw [hb]
    · exact (hl'.move (ok' := fun b => l9 = true → b ≠ y.g) fun b _ hb => ⟨rfl, hb.1⟩).reps (b := g3) 0 fun j u hu => by
        have := ho'.cells (g := g3) rfl j u hu; rw [add_none] at this; exact this
theorem StC.store {W w : World} {ls : List Fm} {f : Fm} {bx : GC → Array Value} {l4 l7 l9 l10 : Bool} {y : GC} {c d : Value} (h : StC W ls f bx l4 l7 l9 l10 y w) (e7 : l7 = true) (e9 : l9 = true) (e10 : l10 = false) (hbx : bx y = #[c, d]) : StC W ls f bx l4 l7 l9 true y ((w.setCell ⟨y.g, 0, none⟩ c).setCell ⟨y.g, 1, none⟩ d) := by
  subst e7 e9 e10; obtain ⟨h1, h2⟩ := h.box rfl; (refine ⟨(h.below.setCell (p := ⟨y.g, 0, none⟩) h1 _).setCell (p := ⟨y.g, 1, none⟩) h1 _, fun _ e => (by cases e), fun _ => (h.app rfl).move fun b hl hp => ⟨(blk_other _ (hp rfl)).trans (blk_other _ (hp rfl)), hp⟩, fun _ => ⟨h1, ?_⟩⟩); rw [blk_set (blk_set h2 _) _, hbx]; rfl
end Go.Proofs.YtalnljnincnbdacGreat
