/- Texts of one proof, one behind the other: NT6, NTM. -/
import Derived.Test.YtealalhgkdlmkaiB14
import Derived.Test.YtealalhgkdlmkaiB07
import Derived.Test.YtealalhgkdlmkaiB13
/- Walks: the plan of linear formulas: planOf. -/
namespace Go.Proofs.Ytealalhgkdlmkai
open Go.RowKit Go.Sort

theorem adds_all : ∀ m, AddS m
  | 0 => fun _ _ _ _ _ _ _ _ _ h => absurd h (Nat.not_lt_zero _)
  | m + 1 => add_step m (adds_all m)
def rtsL : List Lm → Nat → List Nat
  | [], _ => []
  | f :: fs, s => s :: rtsL fs (s + f.size)
theorem rtsL_len (l : List Lm) (s : Nat) : (rtsL l s).length = l.length := by
  induction l generalizing s with
  | nil => rfl
  | cons f fs ih => rw [rtsL, List.length_cons, ih, List.length_cons]
theorem ndsL_app : ∀ (l m : List Lm) (s : Nat), ndsL (l ++ m) s = ndsL l s ++ ndsL m (s + Lm.sizes l)
  | [], m, s => by rw [List.nil_append, ndsL, List.nil_append, Lm.sizes, Nat.add_zero]
  | f :: fs, m, s => by rw [List.cons_append, ndsL, ndsL, ndsL_app fs m, Lm.sizes, List.append_assoc, Nat.add_assoc]
theorem lvsL_app : ∀ (l m : List Lm) (s : Nat), lvsL (l ++ m) s = lvsL l s ++ lvsL m (s + Lm.sizes l)
  | [], m, s => by rw [List.nil_append, lvsL, List.nil_append, Lm.sizes, Nat.add_zero]
  | f :: fs, m, s => by rw [List.cons_append, lvsL, lvsL, lvsL_app fs m, Lm.sizes, List.append_assoc, Nat.add_assoc]
theorem rtsL_app : ∀ (l m : List Lm) (s : Nat), rtsL (l ++ m) s = rtsL l s ++ rtsL m (s + Lm.sizes l)
  | [], m, s => by rw [List.nil_append, rtsL, List.nil_append, Lm.sizes, Nat.add_zero]
  | f :: fs, m, s => by rw [List.cons_append, rtsL, rtsL, rtsL_app fs m, Lm.sizes, List.cons_append, Nat.add_assoc]
theorem take_snocL {α : Type} {l : List α} {i : Nat} {f : α} (h : l[i]? = some f) : l.take (i + 1) = l.take i ++ [f] := by rw [List.take_add_one, h]; rfl
theorem sizes_take_le (l : List Lm) (i : Nat) : Lm.sizes (l.take i) ≤ Lm.sizes l := by
  have := Lm.sizes_app (l.take i) (l.drop i); rw [List.take_append_drop] at this; omega
theorem PlanA.root {w : World} {T : Nat → Prop} {bp : Nat} {rv : Value} {nds : List Nd} {lvs : List Nat} (h : PlanA w T bp rv nds lvs) (u : Value) : PlanA (w.setCell ⟨bp, 1, none⟩ u) T bp u nds lvs := by
  obtain ⟨an, cn, al, cl, h1, h2, h3, h4, h5, h6⟩ := h
  have far : ∀ (b : Nat) (c : Array Value) (T : TypeId), w.heap[b]? = some (.cells c T (0, 0)) → T ≠ 72 → (w.setCell ⟨bp, 1, none⟩ u).heap[b]? = w.heap[b]? := fun b c T9 hb hT => Below.heap_setCell _ _ _ _ (fun e => by
    have e2 : b = bp := e; rw [e2, h1] at hb; simp only [Option.some.injEq, Obj.cells.injEq] at hb
    exact hT hb.2.1.symm)
  (exact ⟨an, cn, al, cl, set3N_1 h1 u, rowM_move h2 fun b c _ hh => far b c _ hh (by decide), rowM_move h3 fun b c _ hh => far b c _ hh (by decide), h4, h5, h6⟩)
theorem row_raise {B : Nat} {w : World} {T : TypeId} {sz n : Nat} {v : Value} {cs : List Value} (h : w.ownsRow 0 T sz v n cs) (hB : ∀ b, v.ownBlock = some b → B ≤ b) : w.ownsRow B T sz v n cs := by
  refine ⟨h.1, ?_⟩
  rcases h.2 with h2 | ⟨g, cap, cur, h3, h4, h5⟩
  · exact Or.inl h2
  · exact Or.inr ⟨g, cap, cur, h3, hB g (by rw [h3]; rfl), h5⟩
structure GPn where
  T : Nat → Prop
  q : Nat
  g : Nat
  cp : Nat
/-- A formula being added. -/
structure StPn (W w : World) (T : Nat → Prop) (bp : Nat) (ar : Option Addr) (cr : Nat) (rts : List Nat) (nds nds2 : List Nd) (lvs lvs2 : List Nat) (num : Nat) (l7 l8 l9 l12 : Bool) (y : GPn) (wx : World) : Prop where
  below : Below w.heap.size w wx
  sz : W.heap.size ≤ wx.heap.size
  box : l7 = false → Below W.heap.size W wx
  tlo : ∀ b, y.T b → w.heap.size ≤ b ∧ b < wx.heap.size
  pl0 : l7 = false → y.T = T
  pl : PlanA wx y.T bp (cond l12 (.slice (some ⟨y.g, 0, none⟩) (rts.length + 1) y.cp) (.slice ar rts.length cr)) (cond l7 nds2 nds) (cond l7 lvs2 lvs)
  r0 : l9 = false → wx.ownsRow 0 3 1 (.slice ar rts.length cr) rts.length (rts.map encI) ∧ ∀ b, (Value.slice ar rts.length cr).ownBlock = some b → ¬ y.T b ∧ w.heap.size ≤ b
  blt : l8 = true → l9 = false → wx.heap[y.q]? = some (.cells #[.int .i64 (num : Nat)] 3 (0, 0))
  r1 : l9 = true → wx.ownsRow 0 3 1 (.slice (some ⟨y.g, 0, none⟩) (rts.length + 1) y.cp) (rts.length + 1) (rts.map encI ++ [.int .i64 (num : Nat)]) ∧ ¬ y.T y.g ∧ w.heap.size ≤ y.g
section
variable {W w : World} {T : Nat → Prop} {bp : Nat} {ar : Option Addr} {cr : Nat} {rts : List Nat} {nds nds2 : List Nd} {lvs lvs2 : List Nat} {num : Nat} {l7 l8 l9 l12 : Bool} {y : GPn} {wx w' : World}
theorem StPn.call (h : StPn W w T bp ar cr rts nds nds2 lvs lvs2 num false false false false y wx) {T2 : Nat → Prop} (hT2 : ∀ b, T2 b ↔ T b ∨ (wx.heap.size ≤ b ∧ b < w'.heap.size)) (hp : PlanA w' T2 bp (.slice ar rts.length cr) nds2 lvs2) (hk : Kept (fun b => ¬ T b) wx w') : StPn W w T bp ar cr rts nds nds2 lvs lvs2 num true false false false { y with T := T2 } w' := by
  have hy := h.pl0 rfl; have ht := h.tlo; rw [hy] at ht; have hs := h.below.size; (refine ⟨h.below.trans (hk.below hs fun b hb hT => by have := ht b hT; omega), Nat.le_trans h.sz hk.size, (fun e => by cases e), fun b hb => ?_, (fun e => by cases e), hp, fun _ => ?_, (fun e => by cases e), (fun e => by cases e)⟩)
  · rcases (hT2 b).1 hb with h1 | h1
    · have := ht b h1
      have := hk.size; omega
    · omega
  · obtain ⟨h1, h2⟩ := h.r0 rfl
    rw [hy] at h2; (refine ⟨rowM_move h1 fun g cur e hg => hk.block g (lt_of_block hg) (h2 g e).1, fun b e => ⟨fun hb => ?_, (h2 b e).2⟩⟩)
    rcases (hT2 b).1 hb with h3 | h3
    · exact (h2 b e).1 h3
    · have := (h1.lt b e).2
      omega
theorem StPn.up (h : StPn W w T bp ar cr rts nds nds2 lvs lvs2 num l7 l8 l9 l12 y wx) (hb : Below wx.heap.size wx w') : StPn W w T bp ar cr rts nds nds2 lvs lvs2 num l7 l8 l9 l12 y w' :=
  ⟨below_join h.below hb, Nat.le_trans h.sz hb.size, fun e => below_join (h.box e) hb, (fun b hT => by have := h.tlo b hT; have := hb.size; omega), h.pl0, h.pl.up hb, fun e => ⟨rowM_up (h.r0 e).1 hb, (h.r0 e).2⟩, fun e e' => below_keep hb (h.blt e e'), fun e => ⟨rowM_up (h.r1 e).1 hb, (h.r1 e).2⟩⟩
theorem StPn.built (h : StPn W w T bp ar cr rts nds nds2 lvs lvs2 num true false false false y wx) : StPn W w T bp ar cr rts nds nds2 lvs lvs2 num true true false false { y with q := wx.heap.size } (wx.alloc (.cells #[.int .i64 (num : Nat)] 3 (0, 0))) := by
  have hb : Below wx.heap.size wx (wx.alloc (.cells #[.int .i64 (num : Nat)] 3 (0, 0))) := below_more (Below.refl _ _) _; have h' := h.up hb; (exact ⟨h'.below, h'.sz, h'.box, h'.tlo, h'.pl0, h'.pl, h'.r0, fun _ _ => blk_new _ _, h'.r1⟩)
theorem StPn.app (h : StPn W w T bp ar cr rts nds nds2 lvs lvs2 num true true false false y wx) {g3 cp3 : Nat} (ho : w'.ownsRow 0 3 1 (.slice (some ⟨g3, 0, none⟩) (rts.length + 1) cp3) (rts.length + 1) (rts.map encI ++ [.int .i64 (num : Nat)])) (hg : wx.grownBy w' (Value.slice ar rts.length cr).ownBlock) (hat : (Value.slice ar rts.length cr).ownBlock = some g3 ∨ g3 = wx.heap.size) : StPn W w T bp ar cr rts nds nds2 lvs lvs2 num true true true false { y with g := g3, cp := cp3 } w' := by
  obtain ⟨h1, h2⟩ := h.r0 rfl; (refine ⟨h.below.grown hg h.below.size fun k hk => (h2 k hk).2, Nat.le_trans h.sz hg.size, (fun e => by cases e), fun b hb => ?_, (fun e => by cases e), h.pl.move (fun b hT hlt => hg.block b hlt fun e => (h2 b e.symm).1 hT) (fun _ h => h), (fun e => by cases e), (fun _ e => by cases e), fun _ => ⟨ho, ?_, ?_⟩⟩)
  · have := h.tlo b hb
    have := hg.size; omega
  · rcases hat with e | e
    · exact (h2 g3 e).1
    · intro hT
      have := h.tlo g3 hT; omega
  · rcases hat with e | e
    · exact (h2 g3 e).2
    · have := h.below.size
      show w.heap.size ≤ g3; omega
theorem StPn.store (h : StPn W w T bp ar cr rts nds nds2 lvs lvs2 num true true true false y wx) : StPn W w T bp ar cr rts nds nds2 lvs lvs2 num true true true true y (wx.setCell ⟨bp, 1, none⟩ (.slice (some ⟨y.g, 0, none⟩) (rts.length + 1) y.cp)) := by
  obtain ⟨an, cn, al, cl, hbp, -, -, hTp, -⟩ := h.pl; (have hz : (wx.setCell ⟨bp, 1, none⟩ (.slice (some ⟨y.g, 0, none⟩) (rts.length + 1) y.cp)).heap.size = wx.heap.size := by simp [World.setCell]); obtain ⟨h1, h2, h3⟩ := h.r1 rfl; (refine ⟨h.below.setCell (p := ⟨bp, 1, none⟩) (h.tlo bp hTp).1 _, by rw [hz]; exact h.sz, (fun e => by cases e), by rw [hz]; exact h.tlo, (fun e => by cases e), h.pl.root _, (fun e => by cases e), (fun _ e => by cases e), fun _ => ⟨rowM_move h1 fun g cur e hg => Below.heap_setCell _ _ _ _ (fun e2 => ?_), h2, h3⟩⟩); have e3 : g = bp := e2; rw [e3, hbp] at hg; simp only [Option.some.injEq, Obj.cells.injEq] at hg; (exact absurd hg.2.1 (by decide))
end
theorem rowP12 (l : List Value) (h0 : l.length = 12) : ∃ x0 x1 x2 x3 x4 x5 x6 x7 x8 x9 x10 x11, l = [x0, x1, x2, x3, x4, x5, x6, x7, x8, x9, x10, x11] := by
  obtain ⟨x0, l1, e0, h1⟩ := cons_lenM h0; obtain ⟨x1, l2, e1, h2⟩ := cons_lenM h1; obtain ⟨x2, l3, e2, h3⟩ := cons_lenM h2; obtain ⟨x3, l4, e3, h4⟩ := cons_lenM h3; obtain ⟨x4, l5, e4, h5⟩ := cons_lenM h4; obtain ⟨x5, l6, e5, h6⟩ := cons_lenM h5; obtain ⟨x6, l7, e6, h7⟩ := cons_lenM h6; obtain ⟨x7, l8, e7, h8⟩ := cons_lenM h7; obtain ⟨x8, l9, e8, h9⟩ := cons_lenM h8; obtain ⟨x9, l10, e9, h10⟩ := cons_lenM h9; obtain ⟨x10, l11, e10, h11⟩ := cons_lenM h10; obtain ⟨x11, l12, e11, h12⟩ := cons_lenM h11; have e12 : l12 = [] := List.length_eq_zero_iff.1 h12; subst e12 e11 e10 e9 e8 e7 e6 e5 e4 e3 e2 e1 e0; exact ⟨x0, x1, x2, x3, x4, x5, x6, x7, x8, x9, x10, x11, rfl⟩
set_option maxRecDepth 10000 in
set_option maxHeartbeats 8000000 in
theorem planOf_any (l : List Lm) (hf : ∀ f ∈ l, LFine f) (hl : l.length ≤ 20) (hs : Lm.sizes l ≤ 200) (v : Value) (w : World) (hv : LL w v l) :
    Calls Try.prog 46 #[v] w fun e w' => ∃ T ar cr, e = .returned (.pointer (some ⟨w.heap.size, 0, none⟩)) ∧ PlanA w' T w.heap.size (.slice ar l.length cr) (ndsL l 0) (lvsL l 0) ∧ OwnN w.heap.size w' ar cr (rtsL l 0) ∧ (∀ b, T b → w.heap.size ≤ b ∧ b < w'.heap.size) ∧ Below w.heap.size w w' := by
  have HX : Hid (LL w v l) := hv; obtain ⟨sl, cap, rfl, hx2, hx3, -⟩ := hv; (have hlen : ((l.length : Nat) : Int) ≤ 20 := by omega); have HF : Hid (∀ f ∈ l, LFine f) := hf; have HS : Hid (l.length ≤ 20 ∧ Lm.sizes l ≤ 200) := ⟨hl, hs⟩; obtain ⟨X, hX⟩ : ∃ X, X = w.alloc (.cells #[.slice none 0 0, .slice none 0 0, .slice none 0 0] 72 (0, 0)) := ⟨_, rfl⟩; (have HBX : Hid (Below w.heap.size w X) := by rw [hX]; exact below_more (Below.refl _ _) _); (have HXq : Hid (X.heap[w.heap.size]? = some (.cells #[.slice none 0 0, .slice none 0 0, .slice none 0 0] 72 (0, 0))) := by rw [hX]; exact blk_new _ _); (have HPX : Hid (PlanA X (fun b => b = w.heap.size) w.heap.size (.slice none 0 0) [] []) := ⟨none, 0, none, 0, HXq.out, ⟨rfl, Or.inl ⟨rfl, rfl⟩⟩, ⟨rfl, Or.inl ⟨rfl, rfl⟩⟩, rfl, (fun b e => by cases e), (fun b e => by cases e)⟩); (have HXs : Hid (X.heap.size = w.heap.size + 1) := by rw [hX]; show _ = _; simp); clear hf hl hs hx2 hx3
  go_enter Try.func46, Try.ntmps46
  go_wp2_with fail; rw [← hX]; clear hX
  go_loopg [10] l.length (fun gg cc wr => ∃ i T ar cr, i ≤ l.length ∧ gg = l.length - i ∧ cc = .int .i64 (i : Nat) ∧ Hid (PlanA wr T w.heap.size (.slice ar (rtsL (l.take i) 0).length cr) (ndsL (l.take i) 0) (lvsL (l.take i) 0)) ∧ Hid (wr.ownsRow 0 3 1 (.slice ar (rtsL (l.take i) 0).length cr) (rtsL (l.take i) 0).length ((rtsL (l.take i) 0).map encI)) ∧ Hid (∀ b, (Value.slice ar (rtsL (l.take i) 0).length cr).ownBlock = some b → ¬ T b ∧ w.heap.size ≤ b) ∧ Hid (∀ b, T b → w.heap.size ≤ b ∧ b < wr.heap.size) ∧ Hid (Below w.heap.size w wr))
  case atStart => exact ⟨0, fun b => b = w.heap.size, none, 0, by omega, by omega, rfl, HPX, ⟨rfl, Or.inl ⟨rfl, rfl⟩⟩, fun b e => (by cases e), fun b hb => (by subst hb; have := HXs.out; omega), HBX⟩
  case round =>
    obtain ⟨i, T, ar, cr, hi, hg, rfl, HP, HR, HRn, HTt, HB⟩ := hrel; have HGk : Hid (gk = l.length - i) := hg; clear hg; by_cases hlt : i < l.length
    · obtain ⟨⟨k, n, g, ks⟩, hki⟩ : ∃ f, l[i]? = some f := ⟨_, List.getElem?_eq_getElem hlt⟩
      obtain ⟨b9, o9, sl2, cap2, rfl, y0, y1, y2, y3, hr9⟩ := HX.out.at i k n g ks hki; have x0 := (HB.out.cell (lt_of_cell y0)).trans y0; have x1 := (HB.out.cell (lt_of_cell y1)).trans y1; have x2 := (HB.out.cell (lt_of_cell y2)).trans y2; have x3 := (HB.out.cell (lt_of_cell y3)).trans y3; (have hltI : (i : Int) < (l.length : Int) := by omega); have HI : Hid (i < l.length) := hlt; obtain ⟨nds, hnds⟩ : ∃ nds, nds = ndsL (l.take i) 0 := ⟨_, rfl⟩; obtain ⟨lvs, hlvs⟩ : ∃ lvs, lvs = lvsL (l.take i) 0 := ⟨_, rfl⟩; obtain ⟨rts, hrts⟩ : ∃ rts, rts = rtsL (l.take i) 0 := ⟨_, rfl⟩; obtain ⟨nds2, hnds2⟩ : ∃ nds2, nds2 = ndsL (l.take (i + 1)) 0 := ⟨_, rfl⟩; obtain ⟨lvs2, hlvs2⟩ : ∃ lvs2, lvs2 = lvsL (l.take (i + 1)) 0 := ⟨_, rfl⟩; obtain ⟨num, hnum⟩ : ∃ num, num = nds.length := ⟨_, rfl⟩
      have hsz : Lm.sizes (l.take i) + (Lm.mk k n g ks).size ≤ 200 := by
        have h1 := sizes_take_le l (i + 1); rw [take_snocL hki, Lm.sizes_app] at h1; (have h2 : Lm.sizes [Lm.mk k n g ks] = (Lm.mk k n g ks).size := by simp [Lm.sizes]); have := HS.out; omega
      (have hnl : nds.length = Lm.sizes (l.take i) := by rw [hnds, ndsL_len]); (have hd2 : nds2 = nds ++ ndsF (.mk k n g ks) nds.length := by rw [hnds2, take_snocL hki, ndsL_app, hnl, hnds, Nat.zero_add, ndsL, ndsL, List.append_nil]); (have hl2 : lvs2 = lvs ++ lvsF (.mk k n g ks) nds.length := by rw [hlvs2, take_snocL hki, lvsL_app, hnl, hlvs, Nat.zero_add, lvsL, lvsL, List.append_nil]); (have hr2 : rtsL (l.take (i + 1)) 0 = rts ++ [num] := by rw [take_snocL hki, rtsL_app, hrts, hnum, hnl, Nat.zero_add, rtsL, rtsL]); (have HEn : Hid (ndsL (l.take (i + 1)) 0 = nds2 ∧ lvsL (l.take (i + 1)) 0 = lvs2 ∧ rtsL (l.take (i + 1)) 0 = rts ++ [num] ∧ (rtsL (l.take (i + 1)) 0).length = rts.length + 1) := ⟨hnds2.symm, hlvs2.symm, hr2, by rw [hr2]; simp⟩)
      have HAd : Hid (∀ W, Below w.heap.size w W → PlanA W T w.heap.size (.slice ar rts.length cr) nds lvs → Calls Try.prog 76 #[.pointer (some ⟨w.heap.size, 0, none⟩), .agg #[.int .i64 k, .string n, .bool g, .slice sl2 ks.length cap2]] W fun e w' => e = .returned (.int .i64 (num : Nat)) ∧ PlanA w' (fun b => T b ∨ (W.heap.size ≤ b ∧ b < w'.heap.size)) w.heap.size (.slice ar rts.length cr) nds2 lvs2 ∧ Kept (fun b => ¬ T b) W w') := fun W h1 h2 => by
        have hlv := lvsL_len (l.take i) 0; (have h5 := adds_all _ (.mk k n g ks) _ w T w.heap.size _ nds lvs W (Nat.lt_succ_self _) (HF.out _ (List.mem_of_getElem? hki)) hr9 h1 (fun b hb => (HTt.out b hb).1) h2 (by omega) (by rw [hlvs, hnl]; exact hlv)); rw [hd2, hl2, hnum]; exact h5
      have HRl : Hid (rts.length ≤ 20) := by
        rw [hrts, rtsL_len]; have := HS.out; (have : (l.take i).length ≤ l.length := by rw [List.length_take]; omega); show _ ≤ _; omega
      rw [← hnds, ← hlvs, ← hrts] at HP; rw [← hrts] at HR HRn; obtain ⟨bp, hbp⟩ : ∃ bp, bp = w.heap.size := ⟨_, rfl⟩; rw [← hbp] at HAd HP; clear hki y0 y1 y2 y3 hr9 hsz hnl hd2 hl2 hr2 hnds hlvs hrts hnds2 hlvs2 hnum hlt hi; obtain ⟨W, hW⟩ : ∃ W, W = wr.alloc (.cells #[.int .i64 k, .string n, .bool g, .slice sl2 ks.length cap2] 52 (0, 0)) := ⟨_, rfl⟩; (have hbW : Below wr.heap.size wr W := by rw [hW]; exact below_more (Below.refl _ _) _); obtain ⟨bx, hbx⟩ : ∃ bx, bx = wr.heap.size := ⟨_, rfl⟩; (have HBx : Hid (W.heap[bx]? = some (.cells #[.int .i64 k, .string n, .bool g, .slice sl2 ks.length cap2] 52 (0, 0))) := by rw [hW, hbx]; exact blk_new _ _); have HWs : Hid (Below w.heap.size w W) := below_join HB.out hbW; have HWp : Hid (PlanA W T bp (.slice ar rts.length cr) nds lvs) := HP.out.up hbW; have HWr : Hid (W.ownsRow 0 3 1 (.slice ar rts.length cr) rts.length (rts.map encI)) := rowM_up HR.out hbW; have HWn : Hid (∀ b, (Value.slice ar rts.length cr).ownBlock = some b → ¬ T b ∧ w.heap.size ≤ b) := HRn.out; (have HTl : Hid (∀ b, T b → w.heap.size ≤ b ∧ b < W.heap.size) := fun b hb => by have := HTt.out b hb; have := hbW.size; omega); have hWe := hW.symm; clear hW hbW; go_wp2_with fail; rw [← hbp, ← hbx]; have HBp : Hid (bp = w.heap.size) := hbp; clear hbp hbx hWe x0 x1 x2 x3 HP HR HRn HTt HB; (refine wp_region_gh (by kernel_rfl) (by kernel_rfl) (by kernel_rfl) 28 rfl (by kernel_rfl) [fun _ v _ => v = (.pointer (some ⟨bp, 0, none⟩)), fun _ v _ => v = (.pointer (some ⟨bp, 0, none⟩)), fun _ v _ => v = (.pointer (some ⟨bp, 0, none⟩)), fun _ v _ => v = (.pointer (some ⟨bp, 1, none⟩)), fun _ v _ => v = (.slice ar rts.length cr), fun _ v _ => v = (.pointer (some ⟨bp, 0, none⟩)), fun _ v _ => v = (.agg #[.int .i64 k, .string n, .bool g, .slice sl2 ks.length cap2]), fun _ v _ => v = (.int .i64 (num : Nat)), fun y v _ => v = (.slice (some ⟨y.q, 0, none⟩) 1 1), fun y v _ => v = (.slice (some ⟨y.g, 0, none⟩) (rts.length + 1) y.cp), fun _ v _ => v = (.pointer (some ⟨bp, 0, none⟩)), fun _ v _ => v = (.pointer (some ⟨bp, 1, none⟩)), fun _ _ _ => True] (fun _ _ => true) (fun L => StPn W w T bp ar cr rts nds nds2 lvs lvs2 num (L 7) (L 8) (L 9) (L 12)) (⟨T, 0, 0, 0⟩) ?_ ?_ ?_)
      · exact fun wx h1 h2 => ⟨HWs.out.trans (h1.mono HWs.out.size), h1.size, fun _ => h1, fun b hb => (by have := HTl.out b hb; have := h1.size; omega), fun _ => rfl, HWp.out.up h1, fun _ => ⟨rowM_up HWr.out h1, HWn.out⟩, fun e => (by cases e), fun e => (by cases e)⟩
      · refine ⟨?_, ?_, ?_, ?_, ?_, ?_, ?_, ?_, ?_, ?_, ?_, ?_, ?_, trivial⟩
        · intro L y a wx hSt hLi hdl hcl hold hdep K hK
          have HSt : Hid (StPn W w T bp ar cr rts nds nds2 lvs lvs2 num (L 7) (L 8) (L 9) (L 12) y wx) := hSt; clear hSt; have t3 : a.tmps[3]? = some (.pointer (some ⟨bp, 0, none⟩)) := hold 3 rfl; clear hold hdep hdl hcl hLi; go_simp; (exact hK.out _ _ y HSt.out rfl (fun j hj hl => ⟨rfl, fun u h => h⟩))
        · intro L y a wx hSt hLi hdl hcl hold hdep K hK
          have HSt : Hid (StPn W w T bp ar cr rts nds nds2 lvs lvs2 num (L 7) (L 8) (L 9) (L 12) y wx) := hSt; clear hSt; have t3 : a.tmps[3]? = some (.pointer (some ⟨bp, 0, none⟩)) := hold 3 rfl; clear hold hdep hdl hcl hLi; go_simp; (exact hK.out _ _ y HSt.out rfl (fun j hj hl => ⟨rfl, fun u h => h⟩))
        · intro L y a wx hSt hLi hdl hcl hold hdep K hK
          have HSt : Hid (StPn W w T bp ar cr rts nds nds2 lvs lvs2 num (L 7) (L 8) (L 9) (L 12) y wx) := hSt; clear hSt; obtain ⟨v15, t15, q15⟩ := hdep 1 rfl _ 15 rfl rfl; have e15 : v15 = (.pointer (some ⟨bp, 0, none⟩)) := q15 rfl; subst e15; clear hold hdep hdl hcl hLi; go_simp; (exact hK.out _ _ y HSt.out rfl (fun j hj hl => ⟨rfl, fun u h => h⟩))
        · intro L y a wx hSt hLi hdl hcl hold hdep K hK
          have HSt : Hid (StPn W w T bp ar cr rts nds nds2 lvs lvs2 num (L 7) (L 8) (L 9) (L 12) y wx) := hSt; clear hSt; obtain ⟨v16, t16, q16⟩ := hdep 2 rfl _ 16 rfl rfl; have e16 : v16 = (.pointer (some ⟨bp, 0, none⟩)) := q16 rfl; subst e16; clear hold hdep hdl hcl hLi; go_simp; (exact hK.out _ _ y HSt.out rfl (fun j hj hl => ⟨rfl, fun u h => h⟩))
        · intro L y a wx hSt hLi hdl hcl hold hdep K hK
          have HSt : Hid (StPn W w T bp ar cr rts nds nds2 lvs lvs2 num (L 7) (L 8) (L 9) (L 12) y wx) := hSt; clear hSt; obtain ⟨v17, t17, q17⟩ := hdep 3 rfl _ 17 rfl rfl; have e17 : v17 = (.pointer (some ⟨bp, 1, none⟩)) := q17 rfl; subst e17; (have e12 : L 12 = false := not_yet hLi fun h => hcl 12 _ rfl h 4 rfl); have hpl9 := HSt.out.pl; rw [e12] at hpl9; obtain ⟨an9, cn9, al9, cl9, hb9, -⟩ := hpl9; obtain ⟨d0, d1, d2, -⟩ := blk3 hb9; clear hb9; clear hold hdep hdl hcl hLi; go_simp; (exact hK.out _ _ y HSt.out rfl (fun j hj hl => ⟨rfl, fun u h => h⟩))
        · intro L y a wx hSt hLi hdl hcl hold hdep K hK
          have HSt : Hid (StPn W w T bp ar cr rts nds nds2 lvs lvs2 num (L 7) (L 8) (L 9) (L 12) y wx) := hSt; clear hSt; have t3 : a.tmps[3]? = some (.pointer (some ⟨bp, 0, none⟩)) := hold 3 rfl; clear hold hdep hdl hcl hLi; go_simp; (exact hK.out _ _ y HSt.out rfl (fun j hj hl => ⟨rfl, fun u h => h⟩))
        · intro L y a wx hSt hLi hdl hcl hold hdep K hK
          have HSt : Hid (StPn W w T bp ar cr rts nds nds2 lvs lvs2 num (L 7) (L 8) (L 9) (L 12) y wx) := hSt; clear hSt; have t5 : a.tmps[5]? = some (.pointer (some ⟨bx, 0, none⟩)) := hold 5 rfl; (have e7 : L 7 = false := not_yet hLi fun h => hcl 7 _ rfl h 6 rfl); obtain ⟨d0, d1, d2, d3⟩ := blk4L (below_keep (HSt.out.box e7) HBx.out); clear hold hdep hdl hcl hLi; go_simp; (exact hK.out _ _ y HSt.out rfl (fun j hj hl => ⟨rfl, fun u h => h⟩))
        · intro L y a wx hSt hLi hdl hcl hold hdep K hK
          have HSt : Hid (StPn W w T bp ar cr rts nds nds2 lvs lvs2 num (L 7) (L 8) (L 9) (L 12) y wx) := hSt; clear hSt; obtain ⟨v19, t19, q19⟩ := hdep 5 rfl _ 19 rfl rfl; have e19 : v19 = (.pointer (some ⟨bp, 0, none⟩)) := q19 rfl; subst e19; obtain ⟨v20, t20, q20⟩ := hdep 6 rfl _ 20 rfl rfl; have e20 : v20 = (.agg #[.int .i64 k, .string n, .bool g, .slice sl2 ks.length cap2]) := q20 rfl; subst e20; (have e8 : L 8 = false := not_yet hLi fun h => hcl 8 _ rfl h 7 rfl); (have e9 : L 9 = false := not_yet hLi fun h => hcl 8 _ rfl (hcl 9 _ rfl h 8 rfl) 7 rfl); (have e12 : L 12 = false := not_yet hLi fun h => hcl 12 _ rfl h 7 rfl); have hS : StPn W w T bp ar cr rts nds nds2 lvs lvs2 num (L 7) (L 8) (L 9) (L 12) y wx := HSt.out; rw [hLi, e8, e9, e12] at hS; have hy := hS.pl0 rfl; have hpl9 := hS.pl; rw [hy] at hpl9; (have HW : Hid (Calls Try.prog 76 #[.pointer (some ⟨bp, 0, none⟩), .agg #[.int .i64 k, .string n, .bool g, .slice sl2 ks.length cap2]] wx _) := HAd.out wx (by rw [HBp.out]; exact hS.below) hpl9); have HS9 : Hid (StPn W w T bp ar cr rts nds nds2 lvs lvs2 num false false false false y wx) := hS; clear hS hy hpl9; clear hold hdep hdl; go_simp; refine HW.out.mono ?_; rintro _ w9 ⟨rfl, hp9, hk9⟩; (have HS8 := HS9.out.call (T2 := fun b => T b ∨ (wx.heap.size ≤ b ∧ b < w9.heap.size)) (fun b => Iff.rfl) hp9 hk9)
          have HX : Hid (StPn W w T bp ar cr rts nds nds2 lvs lvs2 num true (L 8) (L 9) (L 12) { y with T := fun b => T b ∨ (wx.heap.size ≤ b ∧ b < w9.heap.size) } w9) := by
            rw [e8, e9, e12]; exact HS8
          clear hp9 hk9 HS8 HS9; go_simp; (refine hK.out _ _ { y with T := fun b => T b ∨ (wx.heap.size ≤ b ∧ b < w9.heap.size) } HX.out rfl ?_); intro j hj hl
          rcases j with _ | _ | _ | _ | _ | _ | _ | _ | _ | _ | _ | _ | _ | j
          · exact ⟨rfl, fun u h => h⟩
          · exact ⟨rfl, fun u h => h⟩
          · exact ⟨rfl, fun u h => h⟩
          · exact ⟨rfl, fun u h => h⟩
          · exact ⟨rfl, fun u h => h⟩
          · exact ⟨rfl, fun u h => h⟩
          · exact ⟨rfl, fun u h => h⟩
          · exact Bool.noConfusion (hLi.symm.trans hj)
          · exact ⟨rfl, fun u h => h⟩
          · exact ⟨rfl, fun u h => h⟩
          · exact ⟨rfl, fun u h => h⟩
          · exact ⟨rfl, fun u h => h⟩
          · exact ⟨rfl, fun u h => h⟩
          · exact ⟨rfl, fun u h => h⟩
        · intro L y a wx hSt hLi hdl hcl hold hdep K hK
          have HSt : Hid (StPn W w T bp ar cr rts nds nds2 lvs lvs2 num (L 7) (L 8) (L 9) (L 12) y wx) := hSt; clear hSt; obtain ⟨v21, t21, q21⟩ := hdep 7 rfl _ 21 rfl rfl; have e21 : v21 = (.int .i64 (num : Nat)) := q21 rfl; subst e21; have e7 : L 7 = true := hdl 7 rfl; (have e9 : L 9 = false := not_yet hLi fun h => hcl 9 _ rfl h 8 rfl); (have e12 : L 12 = false := not_yet hLi fun h => hcl 12 _ rfl h 8 rfl); have hS : StPn W w T bp ar cr rts nds nds2 lvs lvs2 num (L 7) (L 8) (L 9) (L 12) y wx := HSt.out; rw [hLi, e7, e9, e12] at hS; have hb9 := hS.built
          have HX : Hid (StPn W w T bp ar cr rts nds nds2 lvs lvs2 num (L 7) true (L 9) (L 12) { y with q := wx.heap.size } (wx.alloc (.cells #[.int .i64 (num : Nat)] 3 (0, 0)))) := by
            rw [e7, e9, e12]; exact hb9
          clear hS hb9; clear hold hdep hdl; go_simp; refine hK.out _ _ { y with q := wx.heap.size } HX.out rfl ?_; intro j hj hl
          rcases j with _ | _ | _ | _ | _ | _ | _ | _ | _ | _ | _ | _ | _ | j
          · exact ⟨rfl, fun u h => h⟩
          · exact ⟨rfl, fun u h => h⟩
          · exact ⟨rfl, fun u h => h⟩
          · exact ⟨rfl, fun u h => h⟩
          · exact ⟨rfl, fun u h => h⟩
          · exact ⟨rfl, fun u h => h⟩
          · exact ⟨rfl, fun u h => h⟩
          · exact ⟨rfl, fun u h => h⟩
          · exact Bool.noConfusion (hLi.symm.trans hj)
          · exact Bool.noConfusion (hLi.symm.trans (hcl 9 _ rfl hj 8 rfl))
          · exact ⟨rfl, fun u h => h⟩
          · exact ⟨rfl, fun u h => h⟩
          · exact ⟨rfl, fun u h => h⟩
          · exact ⟨rfl, fun u h => h⟩
        · intro L y a wx hSt hLi hdl hcl hold hdep K hK
          have HSt : Hid (StPn W w T bp ar cr rts nds nds2 lvs lvs2 num (L 7) (L 8) (L 9) (L 12) y wx) := hSt; clear hSt; obtain ⟨v18, t18, q18⟩ := hdep 4 rfl _ 18 rfl rfl; have e18 : v18 = (.slice ar rts.length cr) := q18 rfl; subst e18; obtain ⟨v22, t22, q22⟩ := hdep 8 rfl _ 22 rfl rfl; have e22 : v22 = (.slice (some ⟨y.q, 0, none⟩) 1 1) := q22 rfl; subst e22; have e7 : L 7 = true := hcl 8 _ rfl (hdl 8 rfl) 7 rfl; have e8 : L 8 = true := hdl 8 rfl; (have e12 : L 12 = false := not_yet hLi fun h => hcl 12 _ rfl h 9 rfl); have hS : StPn W w T bp ar cr rts nds nds2 lvs lvs2 num (L 7) (L 8) (L 9) (L 12) y wx := HSt.out; rw [hLi, e7, e8, e12] at hS; obtain ⟨hr9, -⟩ := hS.r0 rfl; have hq := hS.blt rfl rfl; obtain ⟨i0, hi, hz0, hz1, hz2⟩ := infoI9; have hn := HRl.out; clear hold hdep hdl; (refine step_append_lies wx rfl _ _ 70 rfl 0 3 i0 (.int .i64 0) 1 8 Try.underlying70 hi hz0 hz1 hz2 rfl (by decide) (.slice ar rts.length cr) rts.length (rts.map encI) (eval_tmpM t18) hr9 ⟨y.q, 0, none⟩ 1 1 [.int .i64 (num : Nat)] (eval_tmpM t22) rfl ?_ ?_ (by omega) (by unfold maxLen; omega) (by omega) (by omega) _ rfl ?_)
          · intro j u hu
            rw [add_none, Nat.zero_add, blk_cell hq]; simpa using hu
          · intro u hu
            simp at hu; subst hu; rfl
          intro g3 cp3 w3 hown3 hgrow hat hlt3; have hgrow' : wx.grownBy w3 (Value.slice ar rts.length cr).ownBlock := hgrow; have hb9 := hS.app hown3 hgrow' hat
          have HX : Hid (StPn W w T bp ar cr rts nds nds2 lvs lvs2 num (L 7) (L 8) true (L 12) { y with g := g3, cp := cp3 } w3) := by
            rw [e7, e8, e12]; exact hb9
          refine hK.out _ _ { y with g := g3, cp := cp3 } HX.out rfl ?_; intro j hj hl
          rcases j with _ | _ | _ | _ | _ | _ | _ | _ | _ | _ | _ | _ | _ | j
          · exact ⟨rfl, fun u h => h⟩
          · exact ⟨rfl, fun u h => h⟩
          · exact ⟨rfl, fun u h => h⟩
          · exact ⟨rfl, fun u h => h⟩
          · exact ⟨rfl, fun u h => h⟩
          · exact ⟨rfl, fun u h => h⟩
          · exact ⟨rfl, fun u h => h⟩
          · exact ⟨rfl, fun u h => h⟩
          · exact ⟨rfl, fun u h => h⟩
          · exact Bool.noConfusion (hLi.symm.trans hj)
          · exact ⟨rfl, fun u h => h⟩
          · exact ⟨rfl, fun u h => h⟩
          · exact ⟨rfl, fun u h => h⟩
          · exact ⟨rfl, fun u h => h⟩
        · intro L y a wx hSt hLi hdl hcl hold hdep K hK
          have HSt : Hid (StPn W w T bp ar cr rts nds nds2 lvs lvs2 num (L 7) (L 8) (L 9) (L 12) y wx) := hSt; clear hSt; obtain ⟨v14, t14, q14⟩ := hdep 0 rfl _ 14 rfl rfl; have e14 : v14 = (.pointer (some ⟨bp, 0, none⟩)) := q14 rfl; subst e14; clear hold hdep hdl hcl hLi; go_simp; (exact hK.out _ _ y HSt.out rfl (fun j hj hl => ⟨rfl, fun u h => h⟩))
        · intro L y a wx hSt hLi hdl hcl hold hdep K hK
          have HSt : Hid (StPn W w T bp ar cr rts nds nds2 lvs lvs2 num (L 7) (L 8) (L 9) (L 12) y wx) := hSt; clear hSt; obtain ⟨v24, t24, q24⟩ := hdep 10 rfl _ 24 rfl rfl; have e24 : v24 = (.pointer (some ⟨bp, 0, none⟩)) := q24 rfl; subst e24; clear hold hdep hdl hcl hLi; go_simp; (exact hK.out _ _ y HSt.out rfl (fun j hj hl => ⟨rfl, fun u h => h⟩))
        · intro L y a wx hSt hLi hdl hcl hold hdep K hK
          have HSt : Hid (StPn W w T bp ar cr rts nds nds2 lvs lvs2 num (L 7) (L 8) (L 9) (L 12) y wx) := hSt; clear hSt; obtain ⟨v25, t25, q25⟩ := hdep 11 rfl _ 25 rfl rfl; have e25 : v25 = (.pointer (some ⟨bp, 1, none⟩)) := q25 rfl; subst e25; obtain ⟨v23, t23, q23⟩ := hdep 9 rfl _ 23 rfl rfl; have e23 : v23 = (.slice (some ⟨y.g, 0, none⟩) (rts.length + 1) y.cp) := q23 rfl; subst e23; have e9 : L 9 = true := hdl 9 rfl; have e8 : L 8 = true := hdl 8 rfl; have e7 : L 7 = true := hdl 7 rfl; have hS : StPn W w T bp ar cr rts nds nds2 lvs lvs2 num (L 7) (L 8) (L 9) (L 12) y wx := HSt.out; rw [hLi, e7, e8, e9] at hS; have hS9 := hS.store
          have HX : Hid (StPn W w T bp ar cr rts nds nds2 lvs lvs2 num (L 7) (L 8) (L 9) true y (wx.setCell ⟨bp, 1, none⟩ (.slice (some ⟨y.g, 0, none⟩) (rts.length + 1) y.cp))) := by
            rw [e7, e8, e9]; exact hS9
          obtain ⟨an9, cn9, al9, cl9, hb9, -⟩ := hS.pl; obtain ⟨y0, y1, y2, z0, z1, z2⟩ := blk3 hb9; clear hb9 hS hS9; clear hold hdep hdl hcl; go_simp; refine hK.out (.bool false) _ y HX.out trivial ?_; intro j hj hl
          rcases j with _ | _ | _ | _ | _ | _ | _ | _ | _ | _ | _ | _ | _ | j
          · exact ⟨rfl, fun u h => h⟩
          · exact ⟨rfl, fun u h => h⟩
          · exact ⟨rfl, fun u h => h⟩
          · exact ⟨rfl, fun u h => h⟩
          · exact ⟨rfl, fun u h => h⟩
          · exact ⟨rfl, fun u h => h⟩
          · exact ⟨rfl, fun u h => h⟩
          · exact ⟨rfl, fun u h => h⟩
          · exact ⟨rfl, fun u h => h⟩
          · exact ⟨rfl, fun u h => h⟩
          · exact ⟨rfl, fun u h => h⟩
          · exact ⟨rfl, fun u h => h⟩
          · exact Bool.noConfusion (hLi.symm.trans hj)
          · exact ⟨rfl, fun u h => h⟩
      · intro L y a wx hall hSt hsz hdf hold hgot
        have e7 : L 7 = true := hall 7 (Nat.le_of_ble_eq_true rfl); have e8 : L 8 = true := hall 8 (Nat.le_of_ble_eq_true rfl); have e9 : L 9 = true := hall 9 (Nat.le_of_ble_eq_true rfl); have e12 : L 12 = true := hall 12 (Nat.le_of_ble_eq_true rfl); have hS : StPn W w T bp ar cr rts nds nds2 lvs lvs2 num (L 7) (L 8) (L 9) (L 12) y wx := hSt; rw [e7, e8, e9, e12] at hS; obtain ⟨TT, q, g3, cp3⟩ := y; have HXp : Hid (PlanA wx TT bp (.slice (some ⟨g3, 0, none⟩) (rts.length + 1) cp3) nds2 lvs2) := hS.pl; have HXr : Hid (wx.ownsRow 0 3 1 (.slice (some ⟨g3, 0, none⟩) (rts.length + 1) cp3) (rts.length + 1) (rts.map encI ++ [.int .i64 (num : Nat)])) := (hS.r1 rfl).1; have HXg : Hid (¬ TT g3 ∧ w.heap.size ≤ g3) := (hS.r1 rfl).2; have HXt : Hid (∀ b, TT b → w.heap.size ≤ b ∧ b < wx.heap.size) := hS.tlo; have HXb : Hid (Below w.heap.size w wx) := hS.below; obtain ⟨tm, df⟩ := a; (obtain ⟨ys, hys, htm, rfl⟩ := frame_mid2 14 12 (by kernel_rfl) (Nat.le_of_ble_eq_true rfl) ⟨hsz, hdf, hold⟩); obtain ⟨x14, x15, x16, x17, x18, x19, x20, x21, x22, x23, x24, x25, rfl⟩ := rowP12 ys hys; simp only [List.take_succ_cons, List.take_zero, List.drop_succ_cons, List.drop_zero, List.cons_append, List.nil_append] at htm; subst htm; clear hS hSt hys hold hgot hall hsz hdf e7 e8 e9 e12; have hb0 : bp = w.heap.size := HBp.out; subst hb0; go_wp2_with fail
        go_roundg (l.length - (i + 1))
        case measure => have := HGk.out; have := HI.out; omega
        case rel =>
          (refine ⟨i + 1, TT, some ⟨g3, 0, none⟩, cp3, HI.out, rfl, by go_num, ?_, ?_, ?_, ?_, HXb⟩)
          · have := HXp.out
            rw [HEn.out.1, HEn.out.2.1, HEn.out.2.2.2]; exact this
          · have := HXr.out
            rw [HEn.out.2.2.1, List.map_append, List.length_append]; exact this
          · intro b e
            cases e
            exact HXg.out
          · exact HXt.out
    · have hii : l.length = i := by omega
      subst hii; (have hge : ¬ (l.length : Int) < (l.length : Int) := by omega); clear hlt hi; go_wp2_with fail; go_ret; have h1 := HP.out; have h2 := HR.out; have h3 := HRn.out; rw [List.take_length, rtsL_len] at h1 h2 h3; refine ⟨rfl, T, ar, cr, h1, ?_, HTt.out, HB.out⟩; unfold OwnN; rw [rtsL_len]; (exact row_raise h2 fun b e => (h3 b e).2)
end Go.Proofs.Ytealalhgkdlmkai
/- Walks: the nodes of linear formulas: Linears, Leaves. -/
namespace Go.Proofs.Ytealalhgkdlmkai
open Go.RowKit

mutual
def nodF : Lm → List Lm
  | .mk k n g ks => .mk k n g ks :: nodL ks
def nodL : List Lm → List Lm
  | [] => []
  | f :: fs => nodF f ++ nodL fs
end
mutual
theorem nodF_len : ∀ f : Lm, (nodF f).length = f.size
  | .mk k n g ks => by rw [nodF, List.length_cons, nodL_len ks, Lm.size]
theorem nodL_len : ∀ fs : List Lm, (nodL fs).length = Lm.sizes fs
  | [] => by rw [nodL, Lm.sizes]; rfl
  | f :: fs => by rw [nodL, List.length_append, nodF_len f, nodL_len fs, Lm.sizes]
end
theorem nodL_app : ∀ l m : List Lm, nodL (l ++ m) = nodL l ++ nodL m
  | [], m => by rw [nodL]; rfl
  | f :: fs, m => by rw [List.cons_append, nodL, nodL, nodL_app fs m, List.append_assoc]
theorem nodL_one (f : Lm) : nodL [f] = nodF f := by rw [nodL, nodL, List.append_nil]
def isLeafL : Lm → Bool
  | .mk k _ _ _ => k == 1
mutual
theorem leafF_len : ∀ (f : Lm) (s : Nat), ((nodF f).filter isLeafL).length = (lvsF f s).length
  | .mk k n g ks, s => by
    rw [nodF, lvsF, List.length_append, ← leafL_len ks (s + 1)]; by_cases h : k = 1
    · rw [List.filter_cons_of_pos (by simp [isLeafL, h]), if_pos h, List.length_cons, List.length_singleton, Nat.add_comm]
    · rw [List.filter_cons_of_neg (by simp [isLeafL, h]), if_neg h, List.length_nil, Nat.zero_add]
theorem leafL_len : ∀ (fs : List Lm) (s : Nat), ((nodL fs).filter isLeafL).length = (lvsL fs s).length
  | [], s => by rw [nodL, lvsL]; rfl
  | f :: fs, s => by rw [nodL, lvsL, List.filter_append, List.length_append, List.length_append, leafF_len f s, leafL_len fs (s + f.size)]
end
/-- Cells, four by four, that are linear formulas. -/
def LQ4 (w : World) : List Value → List Lm → Prop
  | [], [] => True
  | c0 :: c1 :: c2 :: c3 :: cs, f :: fs => LRep w f (.agg #[c0, c1, c2, c3]) ∧ (∀ u ∈ [c0, c1, c2, c3], u.oneCell' = true) ∧ LQ4 w cs fs
  | _, _ => False
theorem LQ4.len {w : World} : ∀ {cs : List Value} {fs : List Lm}, LQ4 w cs fs → cs.length = fs.length * 4
  | [], [], _ => rfl
  | _ :: _ :: _ :: _ :: _, _ :: _, h => by have := LQ4.len h.2.2; simp; omega
theorem LQ4.append {w : World} : ∀ {cs : List Value} {fs : List Lm} {ds : List Value} {gs : List Lm}, LQ4 w cs fs → LQ4 w ds gs → LQ4 w (cs ++ ds) (fs ++ gs)
  | [], [], _, _, _, k => k
  | _ :: _ :: _ :: _ :: _, _ :: _, _, _, h, k => ⟨h.1, h.2.1, LQ4.append h.2.2 k⟩
theorem LQ4.keep {w w' : World} (hc : ∀ a : Addr, a.block < w.heap.size → (∀ c, w.cell? a = some c → w'.cell? a = some c)) : ∀ {cs : List Value} {fs : List Lm}, LQ4 w cs fs → LQ4 w' cs fs
  | [], [], _ => trivial
  | _ :: _ :: _ :: _ :: _, _ :: _, h => ⟨LRep.keep hc _ _ h.1, h.2.1, LQ4.keep hc h.2.2⟩
theorem LQ4.one {w : World} : ∀ {cs : List Value} {fs : List Lm}, LQ4 w cs fs → ∀ u ∈ cs, u.oneCell' = true
  | [], [], _, u, hu => by cases hu
  | c0 :: c1 :: c2 :: c3 :: cs, _ :: _, h, u, hu => by
    (have : u ∈ [c0, c1, c2, c3] ++ cs := by simpa using hu)
    rcases List.mem_append.1 this with h1 | h1
    · exact h.2.1 u h1
    · exact LQ4.one h.2.2 u h1
theorem LQ4.reps {w : World} {b : Nat} : ∀ {cs : List Value} {fs : List Lm} (off : Nat), LQ4 w cs fs → (∀ (j : Nat) (u : Value), cs[j]? = some u → w.cell? ⟨b, off + j, none⟩ = some u) → LReps w b off fs
  | [], [], _, _, _ => LReps.nil
  | c0 :: c1 :: c2 :: c3 :: cs, f :: fs, off, h, hc => LReps.cons.2 ⟨⟨c0, c1, c2, c3, hc 0 c0 rfl, hc 1 c1 rfl, hc 2 c2 rfl, hc 3 c3 rfl, h.1⟩, LQ4.reps (off + 4) h.2.2 fun j u hu => by
      (have := hc (j + 4) u (by simpa using hu))
      rwa [show off + (j + 4) = off + 4 + j by omega] at this⟩
/-- A list as cells. -/
theorem LReps.cells {w : World} {b : Nat} : ∀ {off : Nat} {fs : List Lm}, LReps w b off fs → ∃ cs, LQ4 w cs fs ∧ ∀ (j : Nat) (u : Value), cs[j]? = some u → w.cell? ⟨b, off + j, none⟩ = some u
  | off, [], _ => ⟨[], trivial, fun j u h => by simp at h⟩
  | off, f :: fs, h => by
    obtain ⟨⟨c0, c1, c2, c3, h0, h1, h2, h3, hr⟩, hrs⟩ := LReps.cons.1 h; obtain ⟨cs, hq, hc⟩ := LReps.cells hrs; (refine ⟨c0 :: c1 :: c2 :: c3 :: cs, ⟨hr, ?_, hq⟩, fun j u hu => ?_⟩)
    · obtain ⟨k, n, g, ks⟩ := f
      obtain ⟨sl, cap, hv, -⟩ := LRep.def.1 hr; simp only [Value.agg.injEq, Array.mk.injEq, List.cons.injEq, and_true] at hv; obtain ⟨rfl, rfl, rfl, rfl⟩ := hv; intro u hu; simp only [List.mem_cons, List.not_mem_nil, or_false] at hu
      rcases hu with rfl | rfl | rfl | rfl <;> rfl
    · rcases j with _ | _ | _ | _ | j
      · simp at hu; subst hu; exact h0
      · simp at hu; subst hu; exact h1
      · simp at hu; subst hu; exact h2
      · simp at hu; subst hu; exact h3
      · have := hc j u (by simpa using hu)
        rwa [show off + (j + 1 + 1 + 1 + 1) = off + 4 + j by omega]
theorem infoLm : ∃ i, Try.prog.info? 52 = some i ∧ i.zero = some (.agg #[.int .i64 0, .string ⟨#[]⟩, .bool false, .slice none 0 0]) ∧ i.size = 4 ∧ i.bytes = 56 := by
  (obtain ⟨i, hi, h⟩ := Option.map_eq_some_iff.1 (show (Try.prog.info? 52).map (fun i => (i.zero, i.size, i.bytes)) = some (some (.agg #[.int .i64 0, .string ⟨#[]⟩, .bool false, .slice none 0 0]), 4, 56) by kernel_rfl)); simp only [Prod.mk.injEq] at h; exact ⟨i, hi, h.1, h.2.1, h.2.2⟩
/-- A list of linear formulas in a row of one's own. -/
def LOw (B : Nat) (w : World) (ad : Option Addr) (cp : Nat) (l : List Lm) : Prop := ∃ cs, w.ownsRow B 52 4 (.slice ad l.length cp) l.length cs ∧ LQ4 w cs l
theorem LOw.ll {B : Nat} {w : World} {ad : Option Addr} {cp : Nat} {l : List Lm} (h : LOw B w ad cp l) : LL w (.slice ad l.length cp) l := by
  obtain ⟨cs, h1, h2⟩ := h; obtain ⟨c1, c2⟩ := rowM_caps h1; (refine ⟨ad, cp, rfl, c1, c2, fun hne => ?_⟩); obtain ⟨g, rfl, hc⟩ := rowM_cells h1 (List.length_pos_iff.2 hne); exact ⟨g, 0, rfl, LQ4.reps 0 h2 hc⟩
end Go.Proofs.Ytealalhgkdlmkai
