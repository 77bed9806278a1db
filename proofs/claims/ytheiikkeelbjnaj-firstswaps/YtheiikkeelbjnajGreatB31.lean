/- Texts of one proof, one behind the other: PB9. -/
import Derived.Test.YtheiikkeelbjnajGreatB28
/- What stands when first.putter.expr goes through the Kids. -/
namespace Go.Proofs.YtheiikkeelbjnajGreat
open Go.RowKit Go.Sort

mutual
/-- All names are short enough to be copied. -/
def Esm : Ex → Prop
  | .mk _ n ws ks => n.size ≤ 281474976710656 ∧ Wsms ws ∧ Esms ks
def Esms : List Ex → Prop
  | [] => True
  | x :: l => Esm x ∧ Esms l
end
theorem esms_at : ∀ {l : List Ex} {i : Nat} {x : Ex}, Esms l → l[i]? = some x → Esm x
  | y :: l, 0, x, hs, h => by simp at h; subst h; rw [Esms] at hs; exact hs.1
  | y :: l, i + 1, x, hs, h => by rw [Esms] at hs; exact esms_at (l := l) (i := i) hs.2 (by simpa using h)
theorem bnF_le (nm : ByteArray) (cg tk : List (List UInt8)) (k : Nat) (x : Ex) (n : ByteArray) : (bnF nm cg tk k x n).2 ≤ k + (tk.length + 2) := by
  unfold bnF
  split
  · have := (nxF_ge [] tk (tk.length + 1) k).2
    show _ + 1 ≤ _; omega
  · show k ≤ _
    omega
mutual
theorem pxF_le (nm : ByteArray) (y : Wd) (cg tk : List (List UInt8)) : ∀ (x : Ex) (bs : List BT) (k : Nat), (pxF nm y cg tk x bs k).2 ≤ k + x.size * (tk.length + 2)
  | .mk kd n ws ks, bs, k => by
    (have e : (Ex.mk kd n ws ks).size * (tk.length + 2) = Wd.sizes ws * (tk.length + 2) + Ex.sizes ks * (tk.length + 2) + (tk.length + 2) := by rw [Ex.size, Nat.add_mul, Nat.add_mul, Nat.one_mul]); rw [pxF, e]
    split
    · have h1 := bnF_le nm cg tk k (.mk kd n ws ks) n
      have h2 := pxFs_le nm y cg tk ks (bs ++ [(n, (bnF nm cg tk k (.mk kd n ws ks) n).1, .slice none 0 0)]) (bnF nm cg tk k (.mk kd n ws ks) n).2; show (pxFs nm y cg tk ks _ _).2 ≤ _; omega
    · have h2 := pxFs_le nm y cg tk ks bs k
      show (pxFs nm y cg tk ks _ _).2 ≤ _; omega
theorem pxFs_le (nm : ByteArray) (y : Wd) (cg tk : List (List UInt8)) : ∀ (l : List Ex) (bs : List BT) (k : Nat), (pxFs nm y cg tk l bs k).2 ≤ k + Ex.sizes l * (tk.length + 2)
  | [], bs, k => by rw [pxFs]; omega
  | x :: l, bs, k => by
    have h1 := pxF_le nm y cg tk x bs k; have h2 := pxFs_le nm y cg tk l bs (pxF nm y cg tk x bs k).2; rw [pxFs, Ex.sizes, Nat.add_mul]; show (pxFs nm y cg tk l _ _).2 ≤ _; omega
end
theorem pxFs_take {nm : ByteArray} {y : Wd} {cg tk : List (List UInt8)} {l : List Ex} {i : Nat} {x : Ex} {bs : List BT} {k : Nat} (h : l[i]? = some x) : pxFs nm y cg tk (l.take (i + 1)) bs k = ((pxFs nm y cg tk (l.take i) bs k).1 ++ [(pxF nm y cg tk x bs (pxFs nm y cg tk (l.take i) bs k).2).1], (pxF nm y cg tk x bs (pxFs nm y cg tk (l.take i) bs k).2).2) := by
  rw [List.take_add_one, h, pxFs_app]; show (_ ++ (pxFs nm y cg tk [x] bs _).1, (pxFs nm y cg tk [x] bs _).2) = _; rw [pxFs, pxFs]
/-- Binds' words lie in memory. -/
def BWs (w0 : World) (y : Wd) (bs : List BT) : Prop := ∀ t ∈ bs, WRp w0 (gY y t) (.agg #[.string t.2.1, t.2.2]) ∧ (gY y t).size ≤ 100000 ∧ Wsm (gY y t) ∧ t.2.2.oneCell' = true
/-- The contract of expr. -/
def PxS (nm : ByteArray) (y : Wd) (cg tk : List (List UInt8)) (w0 : World) (pb nb m : Nat) : Prop := ∀ (x : Ex) (v : Value) (bs : List BT) (ad : Option Addr) (cp k : Nat) (w : World), x.size < m → x.size + bs.length ≤ 10000 → Esm x → ERp w0 x v → PtR w0 w pb nb nm y cg tk k → KB w0.heap.size w ad cp bs → BWs w0 y bs → k + x.size * (tk.length + 2) ≤ 900000 →
  Calls Tryz.prog 106 #[.pointer (some ⟨pb, 0, none⟩), v, .slice ad bs.length cp] w fun e w' => ∃ u, e = .returned u ∧ EQ w' (w.heap.size ≤ ·) (pxF nm y cg tk x bs k).1 u ∧ PtR w0 w' pb nb nm y cg tk (pxF nm y cg tk x bs k).2 ∧ KB w0.heap.size w' ad cp bs ∧ Kept (fun b => ¬ b = nb ∧ (Value.slice ad bs.length cp).ownBlock ≠ some b) w w'
/-- A block is not the binds' row. -/
theorem KB.off {B : Nat} {w : World} {ad : Option Addr} {cp : Nat} {l : List BT} (h : KB B w ad cp l) {b : Nat} (hb : ∀ cs, w.heap[b]? ≠ some (.cells cs 150 (0, 0))) : (Value.slice ad l.length cp).ownBlock ≠ some b := fun e => by
  rcases h.2 with ⟨hv, -⟩ | ⟨g, cap, cur, hv, -, hg, -⟩
  · rw [hv] at e; cases e
  · rw [hv] at e
    (have e2 : g = b := by simpa [Value.ownBlock] using e); exact hb _ (e2 ▸ hg)
theorem KB.move {B : Nat} {w w' : World} {ad : Option Addr} {cp : Nat} {l : List BT} (h : KB B w ad cp l) (hk : ∀ b, (Value.slice ad l.length cp).ownBlock = some b → w'.heap[b]? = w.heap[b]?) : KB B w' ad cp l := owns_move h hk
theorem KB.typ {B : Nat} {w : World} {ad : Option Addr} {cp : Nat} {l : List BT} (h : KB B w ad cp l) {b : Nat} (e : (Value.slice ad l.length cp).ownBlock = some b) : ∃ cs, w.heap[b]? = some (.cells cs 150 (0, 0)) := by
  rcases h.2 with ⟨hv, -⟩ | ⟨g, cap, cur, hv, -, hg, -⟩
  · rw [hv] at e; cases e
  · rw [hv] at e
    (have e2 : g = b := by simpa [Value.ownBlock] using e); exact ⟨cur, e2 ▸ hg⟩
theorem KS.typ {B : Nat} {w : World} {ad : Option Addr} {cp : Nat} {l : List (List UInt8)} (h : KS B w ad cp l) {b : Nat} (e : (Value.slice ad l.length cp).ownBlock = some b) : ∃ cs, w.heap[b]? = some (.cells cs 9 (0, 0)) := by
  rcases h.2 with ⟨hv, -⟩ | ⟨g, cap, cur, hv, -, hg, -⟩
  · rw [hv] at e; cases e
  · rw [hv] at e
    (have e2 : g = b := by simpa [Value.ownBlock] using e); exact ⟨cur, e2 ▸ hg⟩
theorem KB.ne {B : Nat} {w : World} {ad : Option Addr} {cp : Nat} {l : List BT} (h : KB B w ad cp l) : (ad = none ∧ l = [] ∧ cp = 0) ∨ ∃ g, ad = some ⟨g, 0, none⟩ := by
  rcases h.2 with ⟨hv, h0⟩ | ⟨g, cap, cur, hv, -, hg, -⟩
  · simp only [Value.slice.injEq] at hv
    exact Or.inl ⟨hv.1, List.length_eq_zero_iff.1 h0, hv.2.2⟩
  · simp only [Value.slice.injEq] at hv
    exact Or.inr ⟨g, hv.1⟩
/-- Only expressions' blocks (and new ones) were written. -/
def OnlyE (w w' : World) : Prop := ∀ b, b < w.heap.size → (∀ cs f, w.heap[b]? ≠ some (.cells cs 25 f)) → w'.heap[b]? = w.heap[b]?
theorem PtR.onlyE {w0 w w' : World} {pb nb : Nat} {nm : ByteArray} {y : Wd} {cg tk : List (List UInt8)} {k : Nat} (h : PtR w0 w pb nb nm y cg tk k) (ho : OnlyE w w') (hb : Below w0.heap.size w0 w') : PtR w0 w' pb nb nm y cg tk k := by
  obtain ⟨⟨wn, wa, adc, cpc, h1, h2, h3⟩, ⟨adt, cpt, h4, h5⟩, h6, h7⟩ := h; (refine ⟨⟨wn, wa, adc, cpc, (ho _ (lt_of_block h1) fun cs f e => ?_).trans h1, h2, owns_move h3 fun b e => ho b (World.ownsRow.lt h3 b e).2 fun cs f e2 => ?_⟩, ⟨adt, cpt, (ho _ (lt_of_block h4) fun cs f e => ?_).trans h4, owns_move h5 fun b e => ho b (World.ownsRow.lt h5 b e).2 fun cs f e2 => ?_⟩, hb, h7⟩)
  · rw [h1] at e; simp at e
  · obtain ⟨cs2, e3⟩ := h3.typ e
    rw [e3] at e2; simp at e2
  · rw [h4] at e; simp at e
  · obtain ⟨cs2, e3⟩ := h5.typ e
    rw [e3] at e2; simp at e2
theorem KB.onlyE {B : Nat} {w w' : World} {ad : Option Addr} {cp : Nat} {l : List BT} (h : KB B w ad cp l) (ho : OnlyE w w') : KB B w' ad cp l := h.move fun b e => ho b (h.lt b e).2 fun cs f e2 => by
  obtain ⟨cs2, e3⟩ := h.typ e; rw [e3] at e2; simp at e2
/-- In the loop over the Kids. -/
structure PxI (nm : ByteArray) (y : Wd) (cg tk : List (List UInt8)) (w0 w : World) (pb nb ob lo : Nat) (kd : Int) (n : ByteArray) (ws : List Wd) (sw : Option Addr) (cw : Nat) (ad : Option Addr) (cp : Nat) (bs : List BT) (ad' : Option Addr) (cp' : Nat) (bs' : List BT) (done : List Ex) (k : Nat) (sk : Option Addr) (ck : Nat) (W : World) : Prop where
  obj : W.heap[ob]? = some (.cells #[.int .i64 kd, .string n, .slice sw ws.length cw, .slice sk done.length ck] 25 (0, 0))
  res : W.heap[w.heap.size + 1]? = some (.cells #[.int .i64 0, .string ⟨#[]⟩, .slice none 0 0, .slice none 0 0] 25 (0, 0))
  words : WLQ W (fun b => w.heap.size + 2 ≤ b ∧ b < lo ∧ b ≠ ob ∧ (Value.slice ad' bs'.length cp').ownBlock ≠ some b) sw cw ws
  kids : KEx (fun b => lo ≤ b ∧ (Value.slice ad' bs'.length cp').ownBlock ≠ some b) lo W sk ck done
  ptr : PtR w0 W pb nb nm y cg tk k
  row : KB w0.heap.size W ad cp bs
  row' : KB w0.heap.size W ad' cp' bs'
  kept : Kept (fun b => ¬ b = nb ∧ (Value.slice ad bs.length cp).ownBlock ≠ some b) w W
  obl : w.heap.size + 2 ≤ ob ∧ ob < lo
  lol : lo ≤ W.heap.size
  nbl : nb < w.heap.size
  low : w0.heap.size ≤ w.heap.size
  same : ∀ b, (Value.slice ad' bs'.length cp').ownBlock = some b → (Value.slice ad bs.length cp).ownBlock = some b ∨ w.heap.size ≤ b
  ext : (ad' = ad ∧ cp' = cp ∧ bs' = bs) ∨ ∃ t, bs' = bs ++ [t]
theorem PxI.up {nm : ByteArray} {y : Wd} {cg tk : List (List UInt8)} {w0 w : World} {pb nb ob lo : Nat} {kd : Int} {n : ByteArray} {ws : List Wd} {sw : Option Addr} {cw : Nat} {ad : Option Addr} {cp : Nat} {bs : List BT} {ad' : Option Addr} {cp' : Nat} {bs' : List BT} {done : List Ex} {k : Nat} {sk : Option Addr} {ck : Nat} {W W' : World}
    (h : PxI nm y cg tk w0 w pb nb ob lo kd n ws sw cw ad cp bs ad' cp' bs' done k sk ck W) (hb : Below W.heap.size W W') : PxI nm y cg tk w0 w pb nb ob lo kd n ws sw cw ad cp bs ad' cp' bs' done k sk ck W' := by
  obtain ⟨cs, ho, hq⟩ := h.kids; (exact ⟨below_keep hb h.obj, below_keep hb h.res, h.words.move fun b hl hok => ⟨hb.block b hl, hok⟩, ⟨cs, owns_up ho hb, hq.move fun b hl hok => ⟨hb.block b hl, hok⟩⟩, h.ptr.up hb, h.row.up hb, h.row'.up hb, h.kept.trans' (hb.mono h.kept.size), h.obl, Nat.le_trans h.lol hb.size, h.nbl, h.low, h.same, h.ext⟩)
/-- Behind the call for a Kid, and behind what is done with the answer. -/
theorem PxI.step {nm : ByteArray} {y : Wd} {cg tk : List (List UInt8)} {w0 w : World} {pb nb ob lo : Nat} {kd : Int} {n : ByteArray} {ws : List Wd} {sw : Option Addr} {cw : Nat} {ad : Option Addr} {cp : Nat} {bs : List BT} {ad' : Option Addr} {cp' : Nat} {bs' : List BT} {done : List Ex} {k k2 : Nat} {sk : Option Addr} {ck : Nat} {W w4 : World} {x : Ex} {u : Value}
    (h : PxI nm y cg tk w0 w pb nb ob lo kd n ws sw cw ad cp bs ad' cp' bs' done k sk ck W) (hq : EQ w4 (W.heap.size ≤ ·) x u) (hp : PtR w0 w4 pb nb nm y cg tk k2) (hr : KB w0.heap.size w4 ad' cp' bs') (hk : Kept (fun b => ¬ b = nb ∧ (Value.slice ad' bs'.length cp').ownBlock ≠ some b) W w4) :
    PxI nm y cg tk w0 w pb nb ob lo kd n ws sw cw ad cp bs ad' cp' bs' done k2 sk ck w4 ∧ EQ w4 (fun b => (lo ≤ b ∧ (Value.slice ad' bs'.length cp').ownBlock ≠ some b) ∧ (Value.slice sk done.length ck).ownBlock ≠ some b) x u := by
  have hks := h.kept.size; have hobl := h.obl; have hnbl := h.nbl; have hlol := h.lol; have hol := lt_of_block h.obj; (have hno : (Value.slice ad' bs'.length cp').ownBlock ≠ some ob := h.row'.off fun cs e => by rw [h.obj] at e; simp at e); (have hnr : (Value.slice ad' bs'.length cp').ownBlock ≠ some (w.heap.size + 1) := h.row'.off fun cs e => by rw [h.res] at e; simp at e); (have keep : ∀ b, b < W.heap.size → b ≠ nb → (Value.slice ad' bs'.length cp').ownBlock ≠ some b → w4.heap[b]? = W.heap[b]? := fun b h1 h2 h3 => hk.block b h1 ⟨h2, h3⟩); obtain ⟨cs, ho, hq4⟩ := h.kids; have hkl := World.ownsRow.lt ho
  have hkt : ∀ b, (Value.slice sk done.length ck).ownBlock = some b → (Value.slice ad' bs'.length cp').ownBlock ≠ some b := fun b e => by
    rcases ho.2 with ⟨hv, -⟩ | ⟨g, cap, cur, hv, -, hg, -⟩
    · rw [hv] at e; cases e
    · rw [hv] at e
      (have e2 : g = b := by simpa [Value.ownBlock] using e); subst e2; (exact h.row'.off fun cs e => by rw [hg] at e; simp at e)
  (refine ⟨⟨(keep ob hol (by omega) hno).trans h.obj, (keep _ (lt_of_block h.res) (by omega) hnr).trans h.res, h.words.move fun b hl hok => ⟨keep b hl (by omega) hok.2.2.2, hok⟩, ⟨cs, owns_move ho fun b e => keep b (hkl b e).2 (by have := (hkl b e).1; omega) (hkt b e), hq4.move fun b hl hok => ⟨keep b hl (by omega) hok.1.2, hok⟩⟩, hp, ?_, hr, keptXE h.kept (T := fun b => b = nb) (Tr := fun b => b = nb) (fun b e => Or.inl e) h.same hk, hobl, Nat.le_trans h.lol hk.size, hnbl, h.low, h.same, h.ext⟩, EQ.move (fun b hl hok => ⟨rfl, ⟨by omega, fun e => ?_⟩, fun e => ?_⟩) _ _ hq⟩)
  · rcases h.ext with ⟨rfl, rfl, rfl⟩ | ⟨t, rfl⟩
    · exact hr
    · by_cases hg : ∃ g, (Value.slice ad bs.length cp).ownBlock = some g ∧ (Value.slice ad' (bs ++ [t]).length cp').ownBlock = some g
      · obtain ⟨g, e1, e2⟩ := hg
        rcases h.row.ne with ⟨rfl, -, -⟩ | ⟨g1, rfl⟩
        · cases e1
        · rcases h.row'.ne with ⟨rfl, -, -⟩ | ⟨g2, rfl⟩
          · cases e2
          · obtain rfl : g1 = g := Option.some.inj e1
            obtain rfl : g2 = g1 := Option.some.inj e2; obtain rfl := h.row.same h.row'.pre; exact hr.pre
      · exact h.row.move fun b e => keep b (h.row.lt b e).2 (fun e2 => by
          subst e2; obtain ⟨cs2, e3⟩ := h.row.typ e; obtain ⟨_, _, h4, -⟩ := h.ptr.nx
          rw [e3] at h4; simp at h4) fun e2 => hg ⟨b, e, e2⟩
  · have := (h.row'.lt b e).2
    omega
  · have := (hkl b e).2
    omega
/-- Behind the append and the store. -/
theorem PxI.put {nm : ByteArray} {y : Wd} {cg tk : List (List UInt8)} {w0 w : World} {pb nb ob lo : Nat} {kd : Int} {n : ByteArray} {ws : List Wd} {sw : Option Addr} {cw : Nat} {ad : Option Addr} {cp : Nat} {bs : List BT} {ad' : Option Addr} {cp' : Nat} {bs' : List BT} {done : List Ex} {k i : Nat} {sk : Option Addr} {ck : Nat} {w4 w6 : World} {x : Ex} {c0 c1 c2 c3 : Value} {cs : List Value} {g3 cp3 : Nat} {o : Obj}
    (h : PxI nm y cg tk w0 w pb nb ob lo kd n ws sw cw ad cp bs ad' cp' bs' done k sk ck w4) (hi : done.length = i) (hq : EQ w4 (fun b => (lo ≤ b ∧ (Value.slice ad' bs'.length cp').ownBlock ≠ some b) ∧ (Value.slice sk done.length ck).ownBlock ≠ some b) x (.agg #[c0, c1, c2, c3]))
    (ho : w4.ownsRow lo 25 4 (.slice sk i ck) i cs) (hq4 : EQ4 (fun b => (lo ≤ b ∧ (Value.slice ad' bs'.length cp').ownBlock ≠ some b) ∧ (Value.slice sk i ck).ownBlock ≠ some b) w4 cs done)
    (hown3 : w6.ownsRow lo 25 4 (.slice (some ⟨g3, 0, none⟩) (i + 1) cp3) (i + 1) (cs ++ [c0, c1, c2, c3])) (hgrow : (w4.alloc o).grownBy w6 (Value.slice sk i ck).ownBlock) (hat : (Value.slice sk i ck).ownBlock = some g3 ∨ g3 = (w4.alloc o).heap.size) :
    PxI nm y cg tk w0 w pb nb ob lo kd n ws sw cw ad cp bs ad' cp' bs' (done ++ [x]) k (some ⟨g3, 0, none⟩) cp3 (w6.setCell ⟨ob, 3, none⟩ (.slice (some ⟨g3, 0, none⟩) (i + 1) cp3)) := by
  subst hi; (have hs : (w4.alloc o).heap.size = w4.heap.size + 1 := by simp); have hg := hgrow.size; have hobl := h.obl; have hnbl := h.nbl; have hlol := h.lol; have hol := lt_of_block h.obj; have hkl := World.ownsRow.lt ho
  have ht : ∀ b, (Value.slice sk done.length ck).ownBlock = some b → ∃ cs, w4.heap[b]? = some (.cells cs 25 (0, 0)) := fun b e => by
    rcases ho.2 with ⟨hv, -⟩ | ⟨g, cap, cur, hv, -, hg, -⟩
    · rw [hv] at e; cases e
    · rw [hv] at e
      (have e2 : g = b := by simpa [Value.ownBlock] using e); exact ⟨cur, e2 ▸ hg⟩
  (have far6 : ∀ b, b < w4.heap.size → (Value.slice sk done.length ck).ownBlock ≠ some b → w6.heap[b]? = w4.heap[b]? := fun b hb hn => (hgrow.block b (by omega) (fun e => hn e.symm)).trans (Below.heap_alloc _ _ _ hb)); (have hset : ∀ b, b ≠ ob → (w6.setCell ⟨ob, 3, none⟩ (.slice (some ⟨g3, 0, none⟩) (done.length + 1) cp3)).heap[b]? = w6.heap[b]? := fun b hb => Below.heap_setCell _ _ _ _ (by simpa using hb)); (have far : ∀ b, b < w4.heap.size → (Value.slice sk done.length ck).ownBlock ≠ some b → b ≠ ob → (w6.setCell ⟨ob, 3, none⟩ (.slice (some ⟨g3, 0, none⟩) (done.length + 1) cp3)).heap[b]? = w4.heap[b]? := fun b h1 h2 h3 => (hset b h3).trans (far6 b h1 h2))
  have honly : OnlyE w4 (w6.setCell ⟨ob, 3, none⟩ (.slice (some ⟨g3, 0, none⟩) (done.length + 1) cp3)) := fun b hb hne => far b hb (fun e => by
    obtain ⟨cs2, e2⟩ := ht b e
    exact hne _ _ e2) fun e => hne _ _ (e ▸ h.obj)
  (have hk6 := KEx.app (P := fun b => lo ≤ b ∧ (Value.slice ad' bs'.length cp').ownBlock ≠ some b) rfl (EQ4.move (fun b hb hok => ⟨Below.heap_alloc _ _ _ hb, hok⟩) hq4) hq hown3 hgrow hat); (have hsz : w4.heap.size ≤ (w6.setCell ⟨ob, 3, none⟩ (.slice (some ⟨g3, 0, none⟩) (done.length + 1) cp3)).heap.size := by simp [World.setCell]; omega); (have hwk : Kept (fun b => b < w.heap.size) w4 (w6.setCell ⟨ob, 3, none⟩ (.slice (some ⟨g3, 0, none⟩) (done.length + 1) cp3)) := ⟨hgrow.os, hgrow.tape, hgrow.output, hsz, fun b hb hl => far b hb (fun e => by have := (hkl b e).1; omega) (by omega)⟩); (refine ⟨?_, (far _ (lt_of_block h.res) (fun e => by have := (hkl _ e).1; omega) (by omega)).trans h.res, h.words.move fun b hl hok => ⟨far b hl (fun e => by have := (hkl b e).1; omega) (by omega), hok⟩, hk6.same (fun b _ hb => hset b (by omega)) (fun b e => hset b ?_), h.ptr.onlyE honly (h.ptr.base.trans (hwk.below h.ptr.base.size fun b hb => by have := h.low; omega)), h.row.onlyE honly, h.row'.onlyE honly, ?_, hobl, Nat.le_trans h.lol hwk.size, hnbl, h.low, h.same, h.ext⟩)
  · have h1 : w6.heap[ob]? = _ := (far6 ob hol fun e => by have := (hkl ob e).1; omega).trans h.obj
    rw [blk_setS h1, List.length_append]; rfl
  · have e2 : g3 = b := by simpa [Value.ownBlock] using e
    have := (World.ownsRow.lt hown3 g3 rfl).1; omega
  · refine ⟨hwk.os.trans h.kept.os, hwk.tape.trans h.kept.tape, hwk.output.trans h.kept.output, Nat.le_trans h.kept.size hwk.size, fun b hb hok => ?_⟩
    (rw [hwk.block b (by have := h.kept.size; omega) hb, h.kept.block b hb hok])
/-- All Kids are done: what is answered. -/
theorem PxI.fin {nm : ByteArray} {y : Wd} {cg tk : List (List UInt8)} {w0 w : World} {pb nb ob lo : Nat} {kd : Int} {n : ByteArray} {ws : List Wd} {sw : Option Addr} {cw : Nat} {ad : Option Addr} {cp : Nat} {bs : List BT} {ad' : Option Addr} {cp' : Nat} {bs' : List BT} {done : List Ex} {k : Nat} {sk : Option Addr} {ck : Nat} {W W' : World}
    (h : PxI nm y cg tk w0 w pb nb ob lo kd n ws sw cw ad cp bs ad' cp' bs' done k sk ck W) (hn : n.size ≤ maxLen) (hk : Kept (· ≠ w.heap.size + 1) W W') :
    EQ W' (w.heap.size ≤ ·) (.mk kd n ws done) (.agg #[.int .i64 kd, .string n, .slice sw ws.length cw, .slice sk done.length ck]) ∧ PtR w0 W' pb nb nm y cg tk k ∧ KB w0.heap.size W' ad cp bs ∧ Kept (fun b => ¬ b = nb ∧ (Value.slice ad bs.length cp).ownBlock ≠ some b) w W' := by
  have hobl := h.obl; have hks := h.kept.size; (have honly : OnlyE W W' := fun b hb hne => hk.block b hb fun e => hne _ _ (e ▸ h.res)); (have hb : Below w.heap.size W W' := hk.below hks fun b hb e => by omega); obtain ⟨cs, ho, hq4⟩ := h.kids; have hkl := World.ownsRow.lt ho; (refine ⟨EQ.move (ok := fun b => w.heap.size + 2 ≤ b) (fun b hl hok => ⟨hk.block b hl (by omega), by omega⟩) _ _ (KEx.rep (P := fun b => w.heap.size + 2 ≤ b) (B := lo) ⟨cs, ho, hq4.move fun b _ hok => ⟨rfl, by omega, hok.2⟩⟩ (fun b e => by have := (hkl b e).1; omega) hn (h.words.move fun b _ hok => ⟨rfl, hok.1⟩)), h.ptr.onlyE honly (h.ptr.base.trans (hb.mono h.low)), h.row.onlyE honly, ?_⟩); (exact ⟨hk.os.trans h.kept.os, hk.tape.trans h.kept.tape, hk.output.trans h.kept.output, Nat.le_trans h.kept.size hk.size, fun b hb2 hok => (hk.block b (by omega) (by omega)).trans (h.kept.block b hb2 hok)⟩)
/-- Ahead of the Kids, where nothing is bound. -/
theorem PxI.start {nm : ByteArray} {y : Wd} {cg tk : List (List UInt8)} {w0 w wc : World} {pb nb ob : Nat} {kd : Int} {n : ByteArray} {ws : List Wd} {sw : Option Addr} {cw : Nat} {ad : Option Addr} {cp : Nat} {bs : List BT} {k : Nat}
    (hp : PtR w0 w pb nb nm y cg tk k) (hr : KB w0.heap.size w ad cp bs) (hb : Below w.heap.size w wc) (ho : wc.heap[ob]? = some (.cells #[.int .i64 kd, .string n, .slice sw ws.length cw, .slice none 0 0] 25 (0, 0))) (hres : wc.heap[w.heap.size + 1]? = some (.cells #[.int .i64 0, .string ⟨#[]⟩, .slice none 0 0, .slice none 0 0] 25 (0, 0)))
    (hob : w.heap.size + 2 ≤ ob) (hw : WLQ wc (fun b => w.heap.size + 2 ≤ b ∧ b < wc.heap.size ∧ b ≠ ob) sw cw ws) : PxI nm y cg tk w0 w pb nb ob wc.heap.size kd n ws sw cw ad cp bs ad cp bs [] k none 0 wc :=
  ⟨ho, hres, hw.move fun b _ hok => ⟨rfl, hok.1, hok.2.1, hok.2.2, fun e => by have := (hr.lt b e).2; omega⟩, KEx.nil, hp.up hb, hr.up hb, hr.up hb, kept_of_below hb fun _ h _ => h, ⟨hob, lt_of_block ho⟩, Nat.le_refl _, by obtain ⟨_, _, h4, -⟩ := hp.nx; exact lt_of_block h4, hp.base.size, fun b e => Or.inl e, Or.inl ⟨rfl, rfl, rfl⟩⟩
/-- The bound variable has its name. -/
theorem PxI.named {nm : ByteArray} {y : Wd} {cg tk : List (List UInt8)} {w0 w wc w4 : World} {pb nb ob lo : Nat} {kd : Int} {n n' : ByteArray} {ws : List Wd} {sw : Option Addr} {cw : Nat} {ad : Option Addr} {cp : Nat} {bs : List BT} {k k2 : Nat}
    (h : PxI nm y cg tk w0 w pb nb ob lo kd n ws sw cw ad cp bs ad cp bs [] k none 0 wc) (hp : PtR w0 w4 pb nb nm y cg tk k2) (hk : Kept (· ≠ nb) wc w4) : PxI nm y cg tk w0 w pb nb ob lo kd n' ws sw cw ad cp bs ad cp bs [] k2 none 0 (w4.setCell ⟨ob, 1, none⟩ (.string n')) := by
  have hobl := h.obl; have hnbl := h.nbl; have hlol := h.lol; have hks := h.kept.size; have hol := lt_of_block h.obj; have hsz := hk.size; (have hset : ∀ b, b ≠ ob → (w4.setCell ⟨ob, 1, none⟩ (.string n')).heap[b]? = w4.heap[b]? := fun b hb => Below.heap_setCell _ _ _ _ (by simpa using hb)); (have far : ∀ b, b < wc.heap.size → b ≠ nb → b ≠ ob → (w4.setCell ⟨ob, 1, none⟩ (.string n')).heap[b]? = wc.heap[b]? := fun b h1 h2 h3 => (hset b h3).trans (hk.block b h1 h2)); (have ho4 : w4.heap[ob]? = _ := (hk.block ob hol (by omega)).trans h.obj); (have honly : OnlyE w4 (w4.setCell ⟨ob, 1, none⟩ (.string n')) := fun b hb hne => hset b fun e => hne _ _ (e ▸ ho4))
  have hr4 : KB w0.heap.size w4 ad cp bs := h.row.move fun b e => hk.block b (h.row.lt b e).2 fun e2 => by
    subst e2; obtain ⟨cs2, e3⟩ := h.row.typ e; obtain ⟨_, _, h4, -⟩ := h.ptr.nx; rw [e3] at h4; simp at h4
  (have hnr : (Value.slice ad bs.length cp).ownBlock ≠ some ob := h.row.off fun cs e => by rw [h.obj] at e; simp at e); (refine ⟨?_, (far _ (lt_of_block h.res) (by omega) (by omega)).trans h.res, h.words.move fun b hl hok => ⟨far b hl (by omega) hok.2.2.1, hok⟩, KEx.nil, hp.onlyE honly (hp.base.trans ((Below.setCell (Below.refl w0.heap.size w4) (by have := h.low; show _ ≤ ob; omega) _))), hr4.onlyE honly, hr4.onlyE honly, ?_, hobl, by simp [World.setCell]; omega, hnbl, h.low, h.same, h.ext⟩)
  · rw [blk_setS ho4]
    rfl
  · refine ⟨hk.os.trans h.kept.os, hk.tape.trans h.kept.tape, hk.output.trans h.kept.output, by simp [World.setCell]; omega, fun b hb hok => ?_⟩
    (rw [far b (by omega) hok.1 (by omega), h.kept.block b hb hok])
/-- Behind the append of the bind. -/
theorem PxI.bound {nm : ByteArray} {y : Wd} {cg tk : List (List UInt8)} {w0 w W w6 : World} {pb nb ob lo : Nat} {kd : Int} {n : ByteArray} {ws : List Wd} {sw : Option Addr} {cw : Nat} {ad : Option Addr} {cp : Nat} {bs : List BT} {k : Nat} {g3 cp3 : Nat} {t : BT} {o : Obj}
    (h : PxI nm y cg tk w0 w pb nb ob lo kd n ws sw cw ad cp bs ad cp bs [] k none 0 W) (hr : KB w0.heap.size w6 (some ⟨g3, 0, none⟩) cp3 (bs ++ [t])) (hk : Kept (fun b => (Value.slice ad bs.length cp).ownBlock ≠ some b) (W.alloc o) w6) (hat : (Value.slice ad bs.length cp).ownBlock = some g3 ∨ ((W.alloc o).heap.size ≤ g3 ∧ g3 < w6.heap.size)) (hr0 : KB w0.heap.size w6 ad cp bs) :
    PxI nm y cg tk w0 w pb nb ob lo kd n ws sw cw ad cp bs (some ⟨g3, 0, none⟩) cp3 (bs ++ [t]) [] k none 0 w6 := by
  have hobl := h.obl; have hnbl := h.nbl; have hlol := h.lol; have hks := h.kept.size; (have hs : (W.alloc o).heap.size = W.heap.size + 1 := by simp); (have hk4 : Kept (fun b => (Value.slice ad bs.length cp).ownBlock ≠ some b) W w6 := ((Kept.refl _ _).alloc _).trans hk); have hsz := hk4.size; (have off : ∀ {b : Nat} {o : Obj}, W.heap[b]? = some o → (∀ cs, o ≠ .cells cs 150 (0, 0)) → w6.heap[b]? = some o := fun {b o} e hn => (hk4.block b (lt_of_block e) (h.row.off fun cs e2 => by rw [e] at e2; exact hn cs (Option.some.inj e2))).trans e); (have hown : ∀ b, (Value.slice (some ⟨g3, 0, none⟩) (bs ++ [t]).length cp3).ownBlock = some b → g3 = b := fun b e => by simpa [Value.ownBlock] using e)
  have offs : ∀ {A : Option Addr} {c : Nat} {l : List (List UInt8)}, KS 0 W A c l → KS 0 w6 A c l := fun {A c l} hks2 => owns_move hks2 fun b e => by
    obtain ⟨cs2, e3⟩ := KS.typ hks2 e; (rw [off e3 (fun cs e2 => by simp at e2), e3])
  obtain ⟨⟨wn, wa, adc, cpc, h1, h2, h3⟩, ⟨adt, cpt, h4, h5⟩, h6, h7⟩ := h.ptr; (refine ⟨off h.obj (fun cs e => by simp at e), off h.res (fun cs e => by simp at e), h.words.move fun b hl hok => ⟨hk4.block b hl hok.2.2.2, hok.1, hok.2.1, hok.2.2.1, fun e => ?_⟩, KEx.nil, ⟨⟨wn, wa, adc, cpc, off h1 (fun cs e => by simp at e), h2, offs h3⟩, ⟨adt, cpt, off h4 (fun cs e => by simp at e), offs h5⟩, h6.trans (hk4.below h6.size fun b hb e => by have := (h.row.lt b e).1; omega), h7⟩, hr0, hr, h.kept.trans (hk4.mono fun _ _ h => h.2), hobl, Nat.le_trans hlol hsz, hnbl, h.low, fun b e => ?_, Or.inr ⟨t, rfl⟩⟩)
  · have e2 := hown b e
    rcases hat with h8 | h8
    · exact Or.inl (e2 ▸ h8)
    · exact Or.inr (by omega)
  · have e2 := hown b e
    rcases hat with h8 | h8
    · exact hok.2.2.2 (e2 ▸ h8)
    · omega
end Go.Proofs.YtheiikkeelbjnajGreat
