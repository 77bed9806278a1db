/- Texts of one proof, one behind the other: PB4. -/
import Derived.Test.YtheiikkeelbjnajGreatB17
/- Walks: syntax.Copy, put and PutAll, whatever the binds. -/
namespace Go.Proofs.YtheiikkeelbjnajGreat
open Go.RowKit Go.Shelf Go.Sort

theorem putS_all (w0 : World) (bv : Value) (bs : List BT) (g : BT → Wd) (hbs : bs.length ≤ 400000) (had : ∀ a n c, bv = .slice (some a) n c → a.block < w0.heap.size) (hbr : BRow w0 bv bs) (hcp : CopyOK w0 bs g) : ∀ (m : Nat), m ≤ 1000000 → PutS bv w0 (puW (lastB bs g)) m
  | 0, _ => fun x _ _ h => absurd h (Nat.not_lt_zero _)
  | m + 1, hm => put_step w0 bv bs g hbs had hbr hcp m (by omega) (putAll_of bv w0 _ m (by omega) (putS_all w0 bv bs g hbs had hbr hcp m (by omega)))
theorem puW_nil (g : BT → Wd) (x : Wd) : puW (lastB [] g) x = x := by
  (rw [show lastB [] g = fun _ => none from rfl, puW_none])
theorem WRp.slice' {w : World} {n : ByteArray} {ar : List Wd} {s u : Value} (h : WRp w (.mk n ar) (.agg #[s, u])) : ∃ a k c, u = .slice a k c := by
  obtain ⟨sl, cap, e, -⟩ := WRp.def.1 h; simp only [Value.agg.injEq, Array.mk.injEq, List.cons.injEq, and_true] at e; exact ⟨_, _, _, e.2⟩
set_option maxHeartbeats 2000000 in
/-- Copy is the word, in new memory. -/
theorem copyWd_any (x : Wd) (v : Value) (w : World) (hs : x.size ≤ 100000) (hsm : Wsm x) (hx : WRp w x v) :
    Calls Tryz.prog 197 #[v] w fun e w' => ∃ u, e = .returned u ∧ NewW w w' x u := by
  obtain ⟨n, ar⟩ := x; (have HP : Hid (PutS (.slice none 0 0) w (puW (lastB [] fun _ => .mk n [])) 100001) := putS_all w _ [] _ (by simp) (fun a n c h => by simp at h) BRow.nil (fun t ht => by cases ht) _ (by omega)); have HX : Hid (WRp w (.mk n ar) v) := hx; have HS : Hid ((Wd.mk n ar).size ≤ 100000 ∧ Wsm (.mk n ar)) := ⟨hs, hsm⟩; obtain ⟨sl, cap, rfl, -⟩ := WRp.def.1 hx; clear hx hs hsm
  go_enter Tryz.func197, Tryz.ntmps197
  go_wp2_with (first
    | (go_at_call 173
       (refine (HP.out _ _ _ (by have := HS.out.1; omega) HS.out.2 HX.out (below_more (below_more (Below.refl _ w) _) _)).mono ?_); rintro e w2 ⟨u, rfl, hq, hb⟩; rw [puW_nil] at hq; obtain ⟨sl2, cap2, rfl, -⟩ := WQ.def.1 hq; (have p1 : w2.heap[w.heap.size + 1]? = some (.cells #[.string ⟨#[]⟩, .slice none 0 0] 27 (0, 0)) := (hb.block _ (by simp)).trans (blk_two w _ _)); have HQ : Hid (WQ w2 _ (.mk n ar) (.agg #[.string n, .slice sl2 ar.length cap2])) := hq; (have HB : Hid (Below w.heap.size w w2) := (below_more (below_more (Below.refl _ w) _) _).trans (hb.mono (by simp; omega))); have HP1 : Hid (w2.heap[w.heap.size + 1]? = some (.cells #[.string ⟨#[]⟩, .slice none 0 0] 27 (0, 0))) := p1; obtain ⟨f0, f1, f2, f3⟩ := blk2 p1
       clear hq hb p1)
    | fail)
  have e1 : ((w2.setCell ⟨w.heap.size + 1, 0, none⟩ (.string n)).setCell ⟨w.heap.size + 1, 1, none⟩ (.slice sl2 ar.length cap2)).heap[w.heap.size + 1]? = some (.cells #[.string n, .slice sl2 ar.length cap2] 27 (0, 0)) := by
    rw [blk_setS (blk_setS HP1.out _)]; rfl
  have h2 : WQ ((w2.setCell ⟨w.heap.size + 1, 0, none⟩ (.string n)).setCell ⟨w.heap.size + 1, 1, none⟩ (.slice sl2 ar.length cap2)) (w.heap.size ≤ ·) (.mk n ar) (.agg #[.string n, .slice sl2 ar.length cap2]) := WQ.move (fun b hb hok => by
    (have hok2 : w.heap.size + 2 ≤ b := by simpa using hok)
    exact ⟨by rw [blk_otherS _ (by omega), blk_otherS _ (by omega)], by omega⟩) _ _ HQ.out
  have hB : Below w.heap.size w ((w2.setCell ⟨w.heap.size + 1, 0, none⟩ (.string n)).setCell ⟨w.heap.size + 1, 1, none⟩ (.slice sl2 ar.length cap2)) := (HB.out.setCell (Nat.le_succ _) _).setCell (Nat.le_succ _) _; generalize (w2.setCell ⟨w.heap.size + 1, 0, none⟩ (.string n)).setCell ⟨w.heap.size + 1, 1, none⟩ (.slice sl2 ar.length cap2) = Wf at *; obtain ⟨m1, m2, -⟩ := blk2 e1; (exact bodyPost_ret (v := .agg #[.string n, .slice sl2 ar.length cap2]) (by simp [results, Tryz.results197, go_sem, m1, m2]) rfl ⟨_, rfl, h2, hB⟩)
/-- Binds as data: what each bind's word is. -/
def BindsOK (w0 : World) (bv : Value) (bs : List BT) (g : BT → Wd) : Prop := bs.length ≤ 400000 ∧ (∀ a n c, bv = .slice (some a) n c → a.block < w0.heap.size) ∧ BRow w0 bv bs ∧ ∀ t ∈ bs, WRp w0 (g t) (.agg #[.string t.2.1, t.2.2]) ∧ (g t).size ≤ 100000 ∧ Wsm (g t)
theorem BindsOK.copy {w0 : World} {bv : Value} {bs : List BT} {g : BT → Wd} (h : BindsOK w0 bv bs g) : CopyOK w0 bs g := fun t ht => by
  obtain ⟨h1, h2, h3⟩ := h.2.2.2 t ht; (refine ⟨?_, fun W hW => copyWd_any _ _ W h2 h3 (h1.up hW)⟩); generalize g t = x at h1; obtain ⟨n, ar⟩ := x; exact h1.slice'
/-- PutAll, whatever the binds. -/
theorem putAll_any {w0 : World} {bv : Value} {bs : List BT} {g : BT → Wd} (h : BindsOK w0 bv bs g) (l : List Wd) (v : Value) (w : World) (hs : Wd.sizes l ≤ 900000) (hsm : Wsms l) (hl : WL w0 v l) (hb : Below w0.heap.size w0 w) :
    Calls Tryz.prog 132 #[v, bv] w fun e w' => ∃ ad cp, e = .returned (.slice ad l.length cp) ∧ KWd w.heap.size w' ad cp (l.map (puW (lastB bs g))) ∧ Below w.heap.size w w' :=
  putAll_of bv w0 _ 900001 (by omega) (putS_all w0 bv bs g h.1 h.2.1 h.2.2.1 h.copy _ (by omega)) l v w (by omega) hsm hl hb
end Go.Proofs.YtheiikkeelbjnajGreat
