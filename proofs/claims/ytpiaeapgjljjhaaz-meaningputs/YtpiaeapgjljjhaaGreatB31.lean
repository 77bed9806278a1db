/- Texts of one proof, one behind the other: SN2, SN3. -/
import Derived.Test.YtpiaeapgjljjhaaGreatB29
/- Walks: hasMeanings, hasValues. -/
namespace Go.Proofs.YtpiaeapgjljjhaaGreat
open Go.RowKit Go.Sort Go.Maps Go.WideMaps

structure InvH (w0 : World) (V : VwD) (va : Vals) (bf bp bv c vb hb : Nat) (done : List BgN) (T : Nat → Prop) (w : World) : Prop where
  has : w.heap[hb]? = some (.cells #[.bool (done.all (okN V))] 4 (0, 0))
  view : w.heap[vb]? = some (.cells #[.int .i64 (V.n : Nat), .map (some bf), .map (some bp), .map (some bv)] 122 (0, 0))
  at' : VwA w0 V va bf bp bv c w
  own : ∀ b, T b ↔ b = hb ∨ b = vb ∨ b = bf ∨ b = bp ∨ b = bv
  gh : w0.heap.size ≤ hb
  gb : w0.heap.size ≤ vb
theorem InvH.ne {w0 : World} {V : VwD} {va : Vals} {bf bp bv c vb hb : Nat} {done : List BgN} {T : Nat → Prop} {w : World} (h : InvH w0 V va bf bp bv c vb hb done T w) : hb ≠ vb ∧ bf ≠ hb ∧ bp ≠ hb ∧ bv ≠ hb := by
  obtain ⟨m1, k1, g1, h1⟩ := h.at'.fn; obtain ⟨m2, k2, g2, h2⟩ := h.at'.pd; (refine ⟨fun e => ?_, fun e => g1.noCells _ _ _ (by rw [e]; exact h.has), fun e => g2.noCells _ _ _ (by rw [e]; exact h.has), fun e => h.at'.vl.noCells _ _ _ (by rw [e]; exact h.has)⟩); have h3 := h.has; rw [e, h.view] at h3; simp at h3
theorem means1_in (cap : Array Value) (w : World) : (callFunc 120 cap).run Tryz.prog w = .ok (.enter 120 cap) w := by
  simp [go_sem]
theorem means_visit (w0 : World) (V : VwD) (va : Vals) (bf bp bv c vb hb M : Nat) : VisN w0 120 #[.pointer (some ⟨vb, 0, none⟩), .pointer (some ⟨hb, 0, none⟩)] M (InvH w0 V va bf bp bv c vb hb) where
  lt := fun h b hb => by
    obtain ⟨m1, k1, g1, h1⟩ := h.at'.fn; obtain ⟨m2, k2, g2, h2⟩ := h.at'.pd
    rcases (h.own b).1 hb with rfl | rfl | rfl | rfl | rfl
    · exact ⟨h.gh, lt_of_block h.has⟩
    · exact ⟨h.gb, lt_of_block h.view⟩
    · exact ⟨h.at'.gf, g1.lt⟩
    · exact ⟨h.at'.gp, g2.lt⟩
    · exact ⟨h.at'.gv, h.at'.vl.lt⟩
  stay := fun {done T w w'} h hk => by
    (have hb : ∀ b, b < w.heap.size → T b → w'.heap[b]? = w.heap[b]? := fun b h1 h2 => hk.block b h1 (Or.inl h2)); obtain ⟨m1, k1, g1, h1⟩ := h.at'.fn; obtain ⟨m2, k2, g2, h2⟩ := h.at'.pd; refine ⟨(hb _ (lt_of_block h.has) ((h.own _).2 (Or.inl rfl))).trans h.has, (hb _ (lt_of_block h.view) ((h.own _).2 (Or.inr (Or.inl rfl)))).trans h.view, ?_, h.own, h.gh, h.gb⟩; (exact ⟨h.at'.below.trans (hk.below h.at'.below.size fun b hb => Or.inr hb), ⟨m1, k1, g1.same (hb _ g1.lt ((h.own _).2 (by simp))), h1⟩, ⟨m2, k2, g2.same (hb _ g2.lt ((h.own _).2 (by simp))), h2⟩, h.at'.vl.same (hb _ h.at'.vl.lt ((h.own _).2 (by simp))), h.at'.gf, h.at'.gp, h.at'.gv, h.at'.fv, h.at'.pv⟩)
  ent := fun u v x w => means1_in _ w
  call := fun done T nm p l w hl hn hb hi => by
    refine (means1_any V va w0 w bf bp bv c vb _ nm hn p l _ hi.at' hi.view hi.has).mono ?_; rintro e w' ⟨rfl, h1, h2⟩; obtain ⟨n1, n2, n3, n4⟩ := hi.ne; obtain ⟨m1, k1, g1, h3⟩ := hi.at'.fn; obtain ⟨m2, k2, g2, h4⟩ := hi.at'.pd; have hg := hi.gh; (refine ⟨rfl, T, ⟨?_, (h2.block _ (lt_of_block hi.view) n1.symm).trans hi.view, ?_, hi.own, hi.gh, hi.gb⟩, h2.mono fun b _ hb e => hb ((hi.own b).2 (Or.inl e)), fun b h => Or.inl h⟩)
    · rw [List.all_append]
      simpa using h1
    · exact ⟨hi.at'.below.trans (h2.below hi.at'.below.size fun b hb e => by omega), ⟨m1, k1, g1.same (h2.block _ g1.lt n2), h3⟩, ⟨m2, k2, g2.same (h2.block _ g2.lt n3), h4⟩, hi.at'.vl.same (h2.block _ hi.at'.vl.lt n4), hi.at'.gf, hi.at'.gp, hi.at'.gv, hi.at'.fv, hi.at'.pv⟩
set_option maxRecDepth 10000 in
set_option maxHeartbeats 4000000 in
theorem hasMeanings_any (V : VwD) (va : Vals) (w0 w : World) (bf bp bv c : Nat) (x : Ex) (v : Value) (hs : x.size ≤ 100000) (hrep : ERp w0 x v) (hA : VwA w0 V va bf bp bv c w) :
    Calls Tryz.prog 77 #[.agg #[.int .i64 (V.n : Nat), .map (some bf), .map (some bp), .map (some bv)], v] w fun e w' => e = .returned (.bool ((bgEl (prE [] x)).all (okN V))) ∧ VwA w0 V va bf bp bv c w' ∧ Kept (fun b => b ≠ bf ∧ b ≠ bp ∧ b ≠ bv) w w' := by
  obtain ⟨k, n, ws, ks⟩ := x; obtain ⟨sw, cw, sk, ck, rfl, -⟩ := ERp.def.1 hrep; obtain ⟨W, hWe⟩ : ∃ W, ((w.alloc (.cells #[.int .i64 (V.n : Nat), .map (some bf), .map (some bp), .map (some bv)] 122 (0, 0))).alloc (.cells #[.int .i64 k, .string n, .slice sw ws.length cw, .slice sk ks.length ck] 25 (0, 0))).alloc (.cells #[.bool true] 4 (0, 0)) = W := ⟨_, rfl⟩; (have hBW : Below w.heap.size w W := by rw [← hWe]; exact below_more (below_more (below_more (Below.refl _ _) _) _) _); obtain ⟨p1, p2, p3⟩ := blk_threeM w (.cells #[.int .i64 (V.n : Nat), .map (some bf), .map (some bp), .map (some bv)] 122 (0, 0)) (.cells #[.int .i64 k, .string n, .slice sw ws.length cw, .slice sk ks.length ck] 25 (0, 0)) (.cells #[.bool true] 4 (0, 0)); rw [hWe] at p1 p2 p3; have hAW := hA.up hBW; have hsz := hA.below.size; (have hT : ∀ b, (b = w.heap.size + 1 + 1 ∨ b = w.heap.size ∨ b = bf ∨ b = bp ∨ b = bv) ↔ b = w.heap.size + 1 + 1 ∨ b = w.heap.size ∨ b = bf ∨ b = bp ∨ b = bv := fun _ => Iff.rfl); (have hEB := eachBig_any (M := 100000) (Nat.le_refl _) (means_visit w0 V va bf bp bv c w.heap.size (w.heap.size + 1 + 1) 100000) (fun b => b = w.heap.size + 1 + 1 ∨ b = w.heap.size ∨ b = bf ∨ b = bp ∨ b = bv) (.mk k n ws ks) _ W hs hrep hAW.below ⟨p3, p1, hAW, hT, by omega, by omega⟩); have HE : Hid (Calls Tryz.prog 119 _ W _) := hEB; (have hmf : ∀ (fn : Fn) (first cap : Array Value) (w : World), (Instr.makeFunc fn first cap).run Tryz.prog w = .ok (.func fn first cap) w := fun _ _ _ _ => rfl); have HBW : Hid (Below w.heap.size w W) := hBW; obtain ⟨b0, b1, b2, b3⟩ := blk4L p2; have hs1 := lt_of_block p2; clear hs hrep hA hBW p1 p2 p3 hAW hsz hT hEB
  go_enter Tryz.func77, Tryz.ntmps77
  go_wp2_with (first
    | (go_at_call 119
       refine HE.out.mono ?_; rintro e w5 ⟨rfl, T5, hi5, hk5, -⟩
       have HK : Hid (VwA w0 V va bf bp bv c w5 ∧ Kept (fun b => b ≠ bf ∧ b ≠ bp ∧ b ≠ bv) w w5) := ⟨hi5.at', ⟨hk5.os.trans HBW.out.os, hk5.tape.trans HBW.out.tape, hk5.output.trans HBW.out.output, Nat.le_trans HBW.out.size hk5.size, fun b hb hn => by
         rw [hk5.block b (Nat.lt_of_lt_of_le hb HBW.out.size) (fun h => by
           rcases h with rfl | rfl | h | h | h
           · omega
           · omega
           · exact hn.1 h
           · exact hn.2.1 h
           · exact hn.2.2 h), HBW.out.block b hb]⟩⟩
       obtain ⟨c0, c1⟩ := blk1 hi5.has
       clear hi5 hk5)
    | fail)
  go_ret; exact ⟨rfl, HK.out.1, HK.out.2⟩
set_option maxRecDepth 10000 in
set_option maxHeartbeats 4000000 in
theorem hasValues_any (V : VwD) (va : Vals) (w0 w : World) (bf bp bv c : Nat) (l : List (List UInt8)) (u : Value) (hl : SL w u l) (hlen : ∀ t ∈ l, t.length ≤ maxLen) (hA : VwA w0 V va bf bp bv c w) :
    Calls Tryz.prog 78 #[.agg #[.int .i64 (V.n : Nat), .map (some bf), .map (some bp), .map (some bv)], u] w fun e w' => e = .returned (.bool (l.all fun t => (va t).isSome)) ∧ Below w.heap.size w w' := by
  have HL : Hid (SL w u l) := hl; obtain ⟨ad, cp, rfl, h1, h2, h3⟩ := hl; obtain ⟨W, hWe⟩ : ∃ W, w.alloc (.cells #[.int .i64 (V.n : Nat), .map (some bf), .map (some bp), .map (some bv)] 122 (0, 0)) = W := ⟨_, rfl⟩; (have hBW : Below w.heap.size w W := by rw [← hWe]; exact below_more (Below.refl _ _) _); (have hq : W.heap[w.heap.size]? = some (.cells #[.int .i64 (V.n : Nat), .map (some bf), .map (some bp), .map (some bv)] 122 (0, 0)) := by rw [← hWe]; exact blk_new _ _); have HBW : Hid (Below w.heap.size w W) := hBW; have hAW := hA.up hBW
  have HLk : Hid (∀ t, t.length ≤ maxLen → (Instr.lookup 120 (.map (some bv)) (.string ⟨t.toArray⟩) true).run Tryz.prog W = .ok (.tuple #[.int .i64 (vz va t : Nat), .bool (va t).isSome]) W) := fun t ht => by
    have h9 := hAW.vl.lookOk (k := t) ht Tryz.underlying120 zeroInt 0
    have h8 : ((fun s => (va s).map fun x => Value.int .i64 (x : Nat)) t).getD (.int .i64 0) = .int .i64 (vz va t : Nat) := by
      unfold vz; show ((va t).map _).getD _ = _
      cases va t <;> rfl
    have h7 : ((fun s => (va s).map fun x => Value.int .i64 (x : Nat)) t).isSome = (va t).isSome := by
      show ((va t).map _).isSome = _
      cases va t <;> rfl
    rw [h8, h7] at h9; exact h9
  have HLn : Hid (∀ t ∈ l, t.length ≤ maxLen) := hlen; (have hlI : ((l.length : Nat) : Int) ≤ (cp : Int) := by omega); (have hcI : ((cp : Nat) : Int) ≤ 9223372036854775807 := by unfold maxLen at h2; omega); have HX : Hid (l ≠ [] → ∃ g off, ad = some ⟨g, off, none⟩ ∧ ∀ (j : Nat) (t : List UInt8), l[j]? = some t → w.cell? ⟨g, off + j, none⟩ = some (.string ⟨t.toArray⟩)) := h3; obtain ⟨a0, a1, a2, a3⟩ := blk4L hq; have hs1 := lt_of_block hq; clear hlen hA h1 h2 h3 hBW hq hAW
  go_enter Tryz.func78, Tryz.ntmps78
  go_wp2_with fail
  go_loopg [11, 6, 7, 8] l.length (fun g c t a b wr => ∃ i, i ≤ l.length ∧ g = l.length - i ∧ c = .int .i64 (i : Nat) ∧ Hid ((l.take i).all (fun t => (va t).isSome) = true) ∧ Hid (wr = W))
  case atStart => exact ⟨0, by omega, by omega, rfl, rfl, rfl⟩
  case round =>
    obtain ⟨i, hile, hg, rfl, HE, HW⟩ := hrel; have hw := HW.out; subst hw; have HG : Hid (gk = l.length - i) := hg; clear hg; by_cases hlt : i < l.length
    · obtain ⟨t, ht⟩ : ∃ x, l[i]? = some x := ⟨_, List.getElem?_eq_getElem hlt⟩
      (obtain ⟨g, off, rfl, hc⟩ := HX.out (fun e => by rw [e] at hlt; simp at hlt)); have g0 := (HBW.out.cell (lt_of_cell (hc i t ht))).trans (hc i t ht); (have hltI : (i : Int) < (l.length : Int) := by omega); have hlk := HLk.out t (HLn.out t (List.mem_of_getElem? ht))
      have HTk : Hid ((l.take (i + 1)).all (fun t => (va t).isSome) = (va t).isSome) := by
        show _ = _; rw [List.take_add_one, ht, List.all_append, HE.out]
        simp
      have HMx : Hid (t ∈ l ∧ i < l.length) := ⟨List.mem_of_getElem? ht, hlt⟩; clear hc ht hlt hile
      rcases hs : (va t).isSome with _ | _
      · rw [hs] at hlk
        have HF : Hid (l.all (fun t => (va t).isSome) = false) := by
          show _ = _; rw [List.all_eq_false]; (exact ⟨t, HMx.out.1, by rw [hs]; simp⟩)
        clear hs; go_wp2_with fail; go_ret; (exact ⟨ret_bool (by rw [HF.out]), HBW.out⟩)
      · rw [hs] at hlk HTk
        clear hs; go_wp2_with fail
        go_roundg (l.length - (i + 1))
        case measure => have := HG.out; have := HMx.out.2; omega
        case rel => exact ⟨i + 1, HMx.out.2, rfl, by go_num, HTk, rfl⟩
    · have hge : ¬ (i : Int) < (l.length : Int) := by omega
      have HF : Hid (l.all (fun t => (va t).isSome) = true) := by
        have := HE.out; (rw [List.take_of_length_le (by omega)] at this); exact this
      clear hlt hile HX; go_wp2_with fail; go_ret; (exact ⟨ret_bool (by rw [HF.out]), HBW.out⟩)
end Go.Proofs.YtpiaeapgjljjhaaGreat
/- Structures in memory; viewOf (made by gen/sn3.py). -/
namespace Go.Proofs.YtpiaeapgjljjhaaGreat
open Go.RowKit Go.Sort Go.Maps Go.WideMaps

structure StD where
  n : Int
  funs : List FnD
  preds : List PdD
def FnL (w : World) (v : Value) (l : List FnD) : Prop := ∃ ad cap, v = .slice ad l.length cap ∧ l.length ≤ cap ∧ cap ≤ maxLen ∧ (l ≠ [] → ∃ g off, ad = some ⟨g, off, none⟩ ∧ ∀ (i : Nat) (f : FnD), l[i]? = some f → ∃ sl cp, w.cell? ⟨g, off + i * 3, none⟩ = some (.string f.nm) ∧ w.cell? ⟨g, off + i * 3 + 1, none⟩ = some (.int .i64 f.ar) ∧ w.cell? ⟨g, off + i * 3 + 2, none⟩ = some (.slice sl f.tab.length cp) ∧ FnR w f (.agg #[.string f.nm, .int .i64 f.ar, .slice sl f.tab.length cp]))
def PdL (w : World) (v : Value) (l : List PdD) : Prop := ∃ ad cap, v = .slice ad l.length cap ∧ l.length ≤ cap ∧ cap ≤ maxLen ∧ (l ≠ [] → ∃ g off, ad = some ⟨g, off, none⟩ ∧ ∀ (i : Nat) (f : PdD), l[i]? = some f → ∃ sl cp, w.cell? ⟨g, off + i * 3, none⟩ = some (.string f.nm) ∧ w.cell? ⟨g, off + i * 3 + 1, none⟩ = some (.int .i64 f.ar) ∧ w.cell? ⟨g, off + i * 3 + 2, none⟩ = some (.slice sl f.bits.length cp) ∧ PdR w f (.agg #[.string f.nm, .int .i64 f.ar, .slice sl f.bits.length cp]))
theorem FnL.up {w w' : World} {v : Value} {l : List FnD} (h : FnL w v l) (hb : Below w.heap.size w w') : FnL w' v l := by
  obtain ⟨ad, cap, h1, h2, h3, h4⟩ := h; (refine ⟨ad, cap, h1, h2, h3, fun hne => ?_⟩); obtain ⟨g, off, h5, h6⟩ := h4 hne; (refine ⟨g, off, h5, fun i f hf => ?_⟩); obtain ⟨sl, cp, z0, z1, z2, z3⟩ := h6 i f hf; exact ⟨sl, cp, (hb.cell (lt_of_cell z0)).trans z0, (hb.cell (lt_of_cell z1)).trans z1, (hb.cell (lt_of_cell z2)).trans z2, z3.up hb⟩
theorem PdL.up {w w' : World} {v : Value} {l : List PdD} (h : PdL w v l) (hb : Below w.heap.size w w') : PdL w' v l := by
  obtain ⟨ad, cap, h1, h2, h3, h4⟩ := h; (refine ⟨ad, cap, h1, h2, h3, fun hne => ?_⟩); obtain ⟨g, off, h5, h6⟩ := h4 hne; (refine ⟨g, off, h5, fun i f hf => ?_⟩); obtain ⟨sl, cp, z0, z1, z2, z3⟩ := h6 i f hf; exact ⟨sl, cp, (hb.cell (lt_of_cell z0)).trans z0, (hb.cell (lt_of_cell z1)).trans z1, (hb.cell (lt_of_cell z2)).trans z2, z3.up hb⟩
/-- A structure in memory. -/
def StR (w : World) (s : StD) (v : Value) : Prop := ∃ af cf ap cp, v = .agg #[.int .i64 s.n, .slice af s.funs.length cf, .slice ap s.preds.length cp] ∧ FnL w (.slice af s.funs.length cf) s.funs ∧ PdL w (.slice ap s.preds.length cp) s.preds
theorem StR.up {w w' : World} {s : StD} {v : Value} (h : StR w s v) (hb : Below w.heap.size w w') : StR w' s v := by
  obtain ⟨af, cf, ap, cp, h1, h2, h3⟩ := h; exact ⟨af, cf, ap, cp, h1, h2.up hb, h3.up hb⟩
/-- What names mean: of those that are there twice the last one counts. -/
def fnAt (l : List FnD) (s : List UInt8) : Option FnD := l.foldl (fun a f => if s = f.nm.data.toList then some f else a) none
def pdAt (l : List PdD) (s : List UInt8) : Option PdD := l.foldl (fun a f => if s = f.nm.data.toList then some f else a) none
def vaAt (l : List (List UInt8 × Int)) : Vals := fun s => l.foldl (fun a p => if s = p.1 then some p.2.toNat else a) none
theorem fnAt_snoc (l : List FnD) (f : FnD) (s : List UInt8) : fnAt (l ++ [f]) s = if s = f.nm.data.toList then some f else fnAt l s := by unfold fnAt; rw [List.foldl_append]; rfl
theorem pdAt_snoc (l : List PdD) (f : PdD) (s : List UInt8) : pdAt (l ++ [f]) s = if s = f.nm.data.toList then some f else pdAt l s := by unfold pdAt; rw [List.foldl_append]; rfl
theorem vaAt_snoc (l : List (List UInt8 × Int)) (p : List UInt8 × Int) : vaAt (l ++ [p]) = vput (vaAt l) p.1 p.2.toNat := by funext s; unfold vaAt vput; rw [List.foldl_append]; rfl
/-- The structure as an expression sees it. -/
def vwOf (s : StD) : VwD := ⟨s.n.toNat, fnAt s.funs, pdAt s.preds⟩
theorem GMap.ins {w : World} {b c : Nat} {k : List UInt8} {mu : List UInt8 → Option Value} (h : GMap w b mu c) (hc : c < maxLen) (hk : OkT k) {t e : TypeId} (ht : Tryz.prog.underlying t = some (.map 9 e)) (x : Value) : ∃ w', (Instr.mapUpdate t (.map (some b)) (.string ⟨k.toArray⟩) x).run Tryz.prog w = .ok () w' ∧ GMap w' b (gPut mu k x) (c + 1) ∧ Kept (· ≠ b) w w' := by
  obtain ⟨n, D, hown, hn, hh1, hh2⟩ := h; (obtain ⟨wy, hrun, ho, hg⟩ := World.ownsMap.update hown strKeyed ht (by omega) (keyStr k hk) (show heldR x = some (.held x, []) from rfl)); exact ⟨wy, hrun, GMap.put hn hown.isMap hh1 hh2 ho, kept_grownS hg⟩
def FMp (w0 w : World) (b c : Nat) (F : List UInt8 → Option FnD) : Prop := ∃ mu, GMap w b mu c ∧ ∀ s, OkT s → match F s with | none => mu s = none | some f => ∃ v, mu s = some v ∧ FnR w0 f v
def PMp (w0 w : World) (b c : Nat) (F : List UInt8 → Option PdD) : Prop := ∃ mu, GMap w b mu c ∧ ∀ s, OkT s → match F s with | none => mu s = none | some f => ∃ v, mu s = some v ∧ PdR w0 f v
/-- On the way: so many functions, predicates and values are laid down. -/
structure VwS (w0 : World) (s : StD) (af ap : Option Addr) (cf cp : Nat) (bs br bf bp bv bt : Nat) (i j k : Nat) (vs : List (List UInt8 × Int)) (wr : World) : Prop where
  below : Below w0.heap.size w0 wr
  fn : FMp w0 wr bf i (fnAt (s.funs.take i))
  pd : PMp w0 wr bp j (pdAt (s.preds.take j))
  vl : GMap wr bv (fun s => (vaAt (vs.take k) s).map fun x => .int .i64 (x : Nat)) k
  st : wr.heap[bs]? = some (.cells #[.int .i64 s.n, .slice af s.funs.length cf, .slice ap s.preds.length cp] 62 (0, 0))
  rs : wr.heap[br]? = some (.cells #[.int .i64 0, .map none, .map none, .map none] 122 (0, 0))
  vw : wr.heap[bt]? = some (.cells #[.int .i64 s.n, .map (some bf), .map (some bp), .map (some bv)] 122 (0, 0))
  gf : w0.heap.size ≤ bf
  gp : w0.heap.size ≤ bp
  gv : w0.heap.size ≤ bv
  fp : bf ≠ bp
  fv : bf ≠ bv
  pv : bp ≠ bv
theorem VwS.up {w0 : World} {s : StD} {af ap : Option Addr} {cf cp bs br bf bp bv bt i j k : Nat} {vs : List (List UInt8 × Int)} {wr w' : World} (h : VwS w0 s af ap cf cp bs br bf bp bv bt i j k vs wr) (hb : Below wr.heap.size wr w') : VwS w0 s af ap cf cp bs br bf bp bv bt i j k vs w' := by
  obtain ⟨m1, g1, h1⟩ := h.fn; obtain ⟨m2, g2, h2⟩ := h.pd; exact ⟨h.below.trans (hb.mono h.below.size), ⟨m1, g1.up hb, h1⟩, ⟨m2, g2.up hb, h2⟩, h.vl.up hb, below_keep hb h.st, below_keep hb h.rs, below_keep hb h.vw, h.gf, h.gp, h.gv, h.fp, h.fv, h.pv⟩
theorem VwS.putF {w0 : World} {s : StD} {af ap : Option Addr} {cf cp bs br bf bp bv bt i j k : Nat} {vs : List (List UInt8 × Int)} {wr w' : World} {f : FnD} {x : Value} {mu : List UInt8 → Option Value} (h : VwS w0 s af ap cf cp bs br bf bp bv bt i j k vs wr) (hf : s.funs[i]? = some f) (hx : FnR w0 f x) (hmu : ∀ t, OkT t → match fnAt (s.funs.take i) t with | none => mu t = none | some f => ∃ v, mu t = some v ∧ FnR w0 f v) (hg : GMap w' bf (gPut mu f.nm.data.toList x) (i + 1)) (hk : Kept (· ≠ bf) wr w') : VwS w0 s af ap cf cp bs br bf bp bv bt (i + 1) j k vs w' := by
  obtain ⟨m2, g2, h2⟩ := h.pd; obtain ⟨m1, g1, h1⟩ := h.fn; have hgf := h.gf; (refine ⟨h.below.trans (hk.below h.below.size fun b hb e => by omega), ⟨_, hg, fun t ht => ?_⟩, ⟨m2, g2.same (hk.block _ g2.lt h.fp.symm), h2⟩, h.vl.same (hk.block _ h.vl.lt h.fv.symm), (hk.block _ (lt_of_block h.st) (fun e => g1.noCells _ _ _ (by rw [← e]; exact h.st))).trans h.st, (hk.block _ (lt_of_block h.rs) (fun e => g1.noCells _ _ _ (by rw [← e]; exact h.rs))).trans h.rs, (hk.block _ (lt_of_block h.vw) (fun e => g1.noCells _ _ _ (by rw [← e]; exact h.vw))).trans h.vw, h.gf, h.gp, h.gv, h.fp, h.fv, h.pv⟩); (have e : s.funs.take (i + 1) = s.funs.take i ++ [f] := by rw [List.take_add_one, hf]; rfl); rw [e, fnAt_snoc]; unfold gPut; by_cases h5 : t = f.nm.data.toList
  · rw [if_pos h5, if_pos h5]; exact ⟨x, rfl, hx⟩
  · rw [if_neg h5, if_neg h5]; exact hmu t ht
theorem VwS.putP {w0 : World} {s : StD} {af ap : Option Addr} {cf cp bs br bf bp bv bt i j k : Nat} {vs : List (List UInt8 × Int)} {wr w' : World} {f : PdD} {x : Value} {mu : List UInt8 → Option Value} (h : VwS w0 s af ap cf cp bs br bf bp bv bt i j k vs wr) (hf : s.preds[j]? = some f) (hx : PdR w0 f x) (hmu : ∀ t, OkT t → match pdAt (s.preds.take j) t with | none => mu t = none | some f => ∃ v, mu t = some v ∧ PdR w0 f v) (hg : GMap w' bp (gPut mu f.nm.data.toList x) (j + 1)) (hk : Kept (· ≠ bp) wr w') : VwS w0 s af ap cf cp bs br bf bp bv bt i (j + 1) k vs w' := by
  obtain ⟨m2, g2, h2⟩ := h.pd; obtain ⟨m1, g1, h1⟩ := h.fn; have hgf := h.gp; (refine ⟨h.below.trans (hk.below h.below.size fun b hb e => by omega), ⟨m1, g1.same (hk.block _ g1.lt h.fp), h1⟩, ⟨_, hg, fun t ht => ?_⟩, h.vl.same (hk.block _ h.vl.lt h.pv.symm), (hk.block _ (lt_of_block h.st) (fun e => g2.noCells _ _ _ (by rw [← e]; exact h.st))).trans h.st, (hk.block _ (lt_of_block h.rs) (fun e => g2.noCells _ _ _ (by rw [← e]; exact h.rs))).trans h.rs, (hk.block _ (lt_of_block h.vw) (fun e => g2.noCells _ _ _ (by rw [← e]; exact h.vw))).trans h.vw, h.gf, h.gp, h.gv, h.fp, h.fv, h.pv⟩); (have e : s.preds.take (j + 1) = s.preds.take j ++ [f] := by rw [List.take_add_one, hf]; rfl); rw [e, pdAt_snoc]; unfold gPut; by_cases h5 : t = f.nm.data.toList
  · rw [if_pos h5, if_pos h5]; exact ⟨x, rfl, hx⟩
  · rw [if_neg h5, if_neg h5]; exact hmu t ht
theorem VwS.putV {w0 : World} {s : StD} {af ap : Option Addr} {cf cp bs br bf bp bv bt i j k : Nat} {vs : List (List UInt8 × Int)} {wr w' : World} {t : List UInt8} {x : Int} (h : VwS w0 s af ap cf cp bs br bf bp bv bt i j k vs wr) (hf : vs[k]? = some (t, x)) (hx : 0 ≤ x) (hg : GMap w' bv (gPut (fun s => (vaAt (vs.take k) s).map fun x => .int .i64 (x : Nat)) t (.int .i64 x)) (k + 1)) (hk : Kept (· ≠ bv) wr w') : VwS w0 s af ap cf cp bs br bf bp bv bt i j (k + 1) vs w' := by
  obtain ⟨m2, g2, h2⟩ := h.pd; obtain ⟨m1, g1, h1⟩ := h.fn; have hgf := h.gv; (have e : vs.take (k + 1) = vs.take k ++ [(t, x)] := by rw [List.take_add_one, hf]; rfl); (have ex : Value.int .i64 x = .int .i64 ((x.toNat : Nat) : Int) := by rw [Int.toNat_of_nonneg hx]); (refine ⟨h.below.trans (hk.below h.below.size fun b hb e => by omega), ⟨m1, g1.same (hk.block _ g1.lt h.fv), h1⟩, ⟨m2, g2.same (hk.block _ g2.lt h.pv), h2⟩, ?_, (hk.block _ (lt_of_block h.st) (fun e => h.vl.noCells _ _ _ (by rw [← e]; exact h.st))).trans h.st, (hk.block _ (lt_of_block h.rs) (fun e => h.vl.noCells _ _ _ (by rw [← e]; exact h.rs))).trans h.rs, (hk.block _ (lt_of_block h.vw) (fun e => h.vl.noCells _ _ _ (by rw [← e]; exact h.vw))).trans h.vw, h.gf, h.gp, h.gv, h.fp, h.fv, h.pv⟩); rw [ex, gput_vput] at hg; rw [e, vaAt_snoc]; exact hg
theorem blk4F {w : World} {b : Nat} {c0 c1 c2 c3 : Value} {T : TypeId} (h : w.heap[b]? = some (.cells #[c0, c1, c2, c3] T (0, 0))) : w.frozen? ⟨b, 0, none⟩ = false ∧ w.frozen? ⟨b, 1, none⟩ = false ∧ w.frozen? ⟨b, 2, none⟩ = false ∧ w.frozen? ⟨b, 3, none⟩ = false := ⟨blk_fz h 0, blk_fz h 1, blk_fz h 2, blk_fz h 3⟩
theorem set4S {w : World} {b : Nat} {c0 c1 c2 c3 : Value} {T : TypeId} (h : w.heap[b]? = some (.cells #[c0, c1, c2, c3] T (0, 0))) (v0 v1 v2 v3 : Value) : ((((w.setCell ⟨b, 0, none⟩ v0).setCell ⟨b, 1, none⟩ v1).setCell ⟨b, 2, none⟩ v2).setCell ⟨b, 3, none⟩ v3).heap[b]? = some (.cells #[v0, v1, v2, v3] T (0, 0)) := by
  simp [World.setCell, Array.getElem?_modify, h]
theorem VwS.new (w : World) (s : StD) (af ap : Option Addr) (cf cp : Nat) (vs : List (List UInt8 × Int)) (W : World) (hW : ((((((w.alloc (.cells #[.int .i64 s.n, .slice af s.funs.length cf, .slice ap s.preds.length cp] 62 (0, 0))).alloc (.cells #[.int .i64 0, .map none, .map none, .map none] 122 (0, 0))).alloc (.map #[] 0)).alloc (.map #[] 0)).alloc (.map #[] 0)).alloc (.cells #[.int .i64 s.n, .map (some (w.heap.size + 1 + 1)), .map (some (w.heap.size + 1 + 1 + 1)), .map (some (w.heap.size + 1 + 1 + 1 + 1))] 122 (0, 0))) = W) :
    VwS w s af ap cf cp w.heap.size (w.heap.size + 1) (w.heap.size + 1 + 1) (w.heap.size + 1 + 1 + 1) (w.heap.size + 1 + 1 + 1 + 1) (w.heap.size + 1 + 1 + 1 + 1 + 1) 0 0 0 vs W := by
  subst hW; (have e1 : (w.alloc (.cells #[.int .i64 s.n, .slice af s.funs.length cf, .slice ap s.preds.length cp] 62 (0, 0))).heap.size = w.heap.size + 1 := by simp); (have e2 : ((w.alloc (.cells #[.int .i64 s.n, .slice af s.funs.length cf, .slice ap s.preds.length cp] 62 (0, 0))).alloc (.cells #[.int .i64 0, .map none, .map none, .map none] 122 (0, 0))).heap.size = w.heap.size + 1 + 1 := by simp); (have e3 : (((w.alloc (.cells #[.int .i64 s.n, .slice af s.funs.length cf, .slice ap s.preds.length cp] 62 (0, 0))).alloc (.cells #[.int .i64 0, .map none, .map none, .map none] 122 (0, 0))).alloc (.map #[] 0)).heap.size = w.heap.size + 1 + 1 + 1 := by simp); (have e4 : ((((w.alloc (.cells #[.int .i64 s.n, .slice af s.funs.length cf, .slice ap s.preds.length cp] 62 (0, 0))).alloc (.cells #[.int .i64 0, .map none, .map none, .map none] 122 (0, 0))).alloc (.map #[] 0)).alloc (.map #[] 0)).heap.size = w.heap.size + 1 + 1 + 1 + 1 := by simp); (have e5 : (((((w.alloc (.cells #[.int .i64 s.n, .slice af s.funs.length cf, .slice ap s.preds.length cp] 62 (0, 0))).alloc (.cells #[.int .i64 0, .map none, .map none, .map none] 122 (0, 0))).alloc (.map #[] 0)).alloc (.map #[] 0)).alloc (.map #[] 0)).heap.size = w.heap.size + 1 + 1 + 1 + 1 + 1 := by simp)
  have g3 : GMap (((w.alloc (.cells #[.int .i64 s.n, .slice af s.funs.length cf, .slice ap s.preds.length cp] 62 (0, 0))).alloc (.cells #[.int .i64 0, .map none, .map none, .map none] 122 (0, 0))).alloc (.map #[] 0)) (w.heap.size + 1 + 1) (fun _ => none) 0 := by
    have := GMap.nil (w := (w.alloc (.cells #[.int .i64 s.n, .slice af s.funs.length cf, .slice ap s.preds.length cp] 62 (0, 0))).alloc (.cells #[.int .i64 0, .map none, .map none, .map none] 122 (0, 0))) rfl
    rwa [e2] at this
  have g4 : GMap ((((w.alloc (.cells #[.int .i64 s.n, .slice af s.funs.length cf, .slice ap s.preds.length cp] 62 (0, 0))).alloc (.cells #[.int .i64 0, .map none, .map none, .map none] 122 (0, 0))).alloc (.map #[] 0)).alloc (.map #[] 0)) (w.heap.size + 1 + 1 + 1) (fun _ => none) 0 := by
    have := GMap.nil (w := ((w.alloc (.cells #[.int .i64 s.n, .slice af s.funs.length cf, .slice ap s.preds.length cp] 62 (0, 0))).alloc (.cells #[.int .i64 0, .map none, .map none, .map none] 122 (0, 0))).alloc (.map #[] 0)) rfl
    rwa [e3] at this
  have g5 : GMap (((((w.alloc (.cells #[.int .i64 s.n, .slice af s.funs.length cf, .slice ap s.preds.length cp] 62 (0, 0))).alloc (.cells #[.int .i64 0, .map none, .map none, .map none] 122 (0, 0))).alloc (.map #[] 0)).alloc (.map #[] 0)).alloc (.map #[] 0)) (w.heap.size + 1 + 1 + 1 + 1) (fun _ => none) 0 := by
    have := GMap.nil (w := (((w.alloc (.cells #[.int .i64 s.n, .slice af s.funs.length cf, .slice ap s.preds.length cp] 62 (0, 0))).alloc (.cells #[.int .i64 0, .map none, .map none, .map none] 122 (0, 0))).alloc (.map #[] 0)).alloc (.map #[] 0)) rfl
    rwa [e4] at this
  have q1 := blk_new w (.cells #[.int .i64 s.n, .slice af s.funs.length cf, .slice ap s.preds.length cp] 62 (0, 0)); have q2 := blk_new (w.alloc (.cells #[.int .i64 s.n, .slice af s.funs.length cf, .slice ap s.preds.length cp] 62 (0, 0))) (.cells #[.int .i64 0, .map none, .map none, .map none] 122 (0, 0)); rw [e1] at q2; (refine ⟨below_more (below_more (below_more (below_more (below_more (below_more (Below.refl _ _) _) _) _) _) _) _, ⟨_, ((g3.up (below_more (Below.refl _ _) _)).up (below_more (Below.refl _ _) _)).up (below_more (Below.refl _ _) _), fun t _ => rfl⟩, ⟨_, (g4.up (below_more (Below.refl _ _) _)).up (below_more (Below.refl _ _) _), fun t _ => rfl⟩, g5.up (below_more (Below.refl _ _) _), alloc_keep (alloc_keep (alloc_keep (alloc_keep (alloc_keep q1 _) _) _) _) _, alloc_keep (alloc_keep (alloc_keep (alloc_keep q2 _) _) _) _, ?_, by omega, by omega, by omega, by omega, by omega, by omega⟩); have q6 := blk_new (((((w.alloc (.cells #[.int .i64 s.n, .slice af s.funs.length cf, .slice ap s.preds.length cp] 62 (0, 0))).alloc (.cells #[.int .i64 0, .map none, .map none, .map none] 122 (0, 0))).alloc (.map #[] 0)).alloc (.map #[] 0)).alloc (.map #[] 0)) (.cells #[.int .i64 s.n, .map (some (w.heap.size + 1 + 1)), .map (some (w.heap.size + 1 + 1 + 1)), .map (some (w.heap.size + 1 + 1 + 1 + 1))] 122 (0, 0)); rw [e5] at q6; exact q6
theorem VwS.fin {w : World} {s : StD} {af ap : Option Addr} {cf cp bs br bf bp bv bt k : Nat} {vs : List (List UInt8 × Int)} {wr w' : World} (h : VwS w s af ap cf cp bs br bf bp bv bt s.funs.length s.preds.length k vs wr) (hk : k = vs.length) (hbr : w.heap.size ≤ br) (hw : Kept (· ≠ br) wr w') : VwA w (vwOf s) (vaAt vs) bf bp bv k w' := by
  obtain ⟨m2, g2, h2⟩ := h.pd; obtain ⟨m1, g1, h1⟩ := h.fn; (have e1 : bf ≠ br := fun e => g1.noCells _ _ _ (by rw [e]; exact h.rs)); (have e2 : bp ≠ br := fun e => g2.noCells _ _ _ (by rw [e]; exact h.rs)); (have e3 : bv ≠ br := fun e => h.vl.noCells _ _ _ (by rw [e]; exact h.rs)); have h3 := h.vl; rw [List.take_length] at h1 h2; rw [hk, List.take_length] at h3; (exact ⟨h.below.trans (hw.below h.below.size fun b hb e => by omega), ⟨m1, _, g1.same (hw.block _ g1.lt e1), h1⟩, ⟨m2, _, g2.same (hw.block _ g2.lt e2), h2⟩, by rw [hk]; exact h3.same (hw.block _ h.vl.lt e3), h.gf, h.gp, h.gv, h.fv, h.pv⟩)
set_option maxRecDepth 10000 in
set_option maxHeartbeats 16000000 in
theorem viewV_any (s : StD) (v u x : Value) (names : List (List UInt8)) (vals : List Int) (w : World) (hs : StR w s v) (hn : SL w u names) (hv : IL w x vals) (hl : names.length = vals.length) (hl20 : names.length ≤ 20) (hf10 : s.funs.length ≤ 10) (hp10 : s.preds.length ≤ 10) (h0 : ∀ y ∈ vals, 0 ≤ y) (hlen : ∀ t ∈ names, t.length ≤ maxLen) :
    Calls Tryz.prog 76 #[v, u, x] w fun e w' => ∃ bf bp bv, e = .returned (.agg #[.int .i64 s.n, .map (some bf), .map (some bp), .map (some bv)]) ∧ VwA w (vwOf s) (vaAt (names.zip vals)) bf bp bv names.length w' ∧ Below w.heap.size w w' := by
  have hmm := @run_makeMap Tryz.prog; obtain ⟨af, cf, ap, cp, rfl, hF, hP⟩ := hs; obtain ⟨W, hWe⟩ : ∃ W, ((((((w.alloc (.cells #[.int .i64 s.n, .slice af s.funs.length cf, .slice ap s.preds.length cp] 62 (0, 0))).alloc (.cells #[.int .i64 0, .map none, .map none, .map none] 122 (0, 0))).alloc (.map #[] 0)).alloc (.map #[] 0)).alloc (.map #[] 0)).alloc (.cells #[.int .i64 s.n, .map (some (w.heap.size + 1 + 1)), .map (some (w.heap.size + 1 + 1 + 1)), .map (some (w.heap.size + 1 + 1 + 1 + 1))] 122 (0, 0))) = W := ⟨_, rfl⟩; have hS0 := VwS.new w s af ap cf cp (names.zip vals) W hWe; have HS0 : Hid (VwS w s af ap cf cp w.heap.size (w.heap.size + 1) (w.heap.size + 1 + 1) (w.heap.size + 1 + 1 + 1) (w.heap.size + 1 + 1 + 1 + 1) (w.heap.size + 1 + 1 + 1 + 1 + 1) 0 0 0 (names.zip vals) W) := hS0; obtain ⟨af', cf', e, f1, f2, f3⟩ := hF; simp only [Value.slice.injEq, true_and] at e; obtain ⟨rfl, rfl⟩ := e; obtain ⟨ap', cp', e, p1, p2, p3⟩ := hP; simp only [Value.slice.injEq, true_and] at e; obtain ⟨rfl, rfl⟩ := e; obtain ⟨an, cn, rfl, n1, n2, n3⟩ := hn; obtain ⟨av, cv, rfl, v1, v2, v3⟩ := hv; have HF : Hid (s.funs ≠ [] → ∃ g off, af = some ⟨g, off, none⟩ ∧ ∀ (i : Nat) (f : FnD), s.funs[i]? = some f → ∃ sl cp, w.cell? ⟨g, off + i * 3, none⟩ = some (.string f.nm) ∧ w.cell? ⟨g, off + i * 3 + 1, none⟩ = some (.int .i64 f.ar) ∧ w.cell? ⟨g, off + i * 3 + 2, none⟩ = some (.slice sl f.tab.length cp) ∧ FnR w f (.agg #[.string f.nm, .int .i64 f.ar, .slice sl f.tab.length cp])) := f3; have HP : Hid (s.preds ≠ [] → ∃ g off, ap = some ⟨g, off, none⟩ ∧ ∀ (i : Nat) (f : PdD), s.preds[i]? = some f → ∃ sl cp, w.cell? ⟨g, off + i * 3, none⟩ = some (.string f.nm) ∧ w.cell? ⟨g, off + i * 3 + 1, none⟩ = some (.int .i64 f.ar) ∧ w.cell? ⟨g, off + i * 3 + 2, none⟩ = some (.slice sl f.bits.length cp) ∧ PdR w f (.agg #[.string f.nm, .int .i64 f.ar, .slice sl f.bits.length cp])) := p3; have HN : Hid (names ≠ [] → ∃ g off, an = some ⟨g, off, none⟩ ∧ ∀ (j : Nat) (t : List UInt8), names[j]? = some t → w.cell? ⟨g, off + j, none⟩ = some (.string ⟨t.toArray⟩)) := n3; have HVl : Hid (vals ≠ [] → ∃ g off, av = some ⟨g, off, none⟩ ∧ ∀ (j : Nat) (x : Int), vals[j]? = some x → w.cell? ⟨g, off + j, none⟩ = some (.int .i64 x)) := v3; have HO : Hid (names.length = vals.length ∧ names.length ≤ 20 ∧ s.funs.length ≤ 10 ∧ s.preds.length ≤ 10 ∧ (∀ y ∈ vals, 0 ≤ y) ∧ (∀ t ∈ names, t.length ≤ maxLen)) := ⟨hl, hl20, hf10, hp10, h0, hlen⟩; (have hfI : ((s.funs.length : Nat) : Int) ≤ 10 := by omega); (have hpI : ((s.preds.length : Nat) : Int) ≤ 10 := by omega); (have hnI : ((names.length : Nat) : Int) ≤ 20 := by omega); obtain ⟨a0, a1, a2, -⟩ := blk3 hS0.st; obtain ⟨b0, b1, b2, b3⟩ := blk4L hS0.vw; have hs1 := lt_of_block hS0.st; clear hS0 f1 f2 f3 p1 p2 p3 n1 n2 n3 v1 v2 v3 hl hl20 hf10 hp10 h0 hlen
  go_enter Tryz.func76, Tryz.ntmps76
  go_wp2_with fail; clear a0 a1 a2 b0 b1 b2 b3 hs1 hWe; generalize hvs : names.zip vals = vs at *
  go_loopg [23] s.funs.length (fun g c wr => ∃ i, i ≤ s.funs.length ∧ g = s.funs.length - i ∧ c = .int .i64 (i : Nat) ∧ Hid (VwS w s af ap cf cp w.heap.size (w.heap.size + 1) (w.heap.size + 1 + 1) (w.heap.size + 1 + 1 + 1) (w.heap.size + 1 + 1 + 1 + 1) (w.heap.size + 1 + 1 + 1 + 1 + 1) i 0 0 vs wr))
  case atStart => exact ⟨0, by omega, by omega, rfl, HS0⟩
  case round =>
    obtain ⟨i, hile, hg, rfl, HS⟩ := hrel; have HG : Hid (gk = s.funs.length - i) := hg; clear hg; by_cases hlt : i < s.funs.length
    · obtain ⟨f, hfi⟩ : ∃ x, s.funs[i]? = some x := ⟨_, List.getElem?_eq_getElem hlt⟩
      (obtain ⟨g, off, rfl, hc⟩ := HF.out (fun e => by rw [e] at hlt; simp at hlt)); obtain ⟨sl, cq, z0, z1, z2, hfr⟩ := hc i f hfi; have y0 := (HS.out.below.cell (lt_of_cell z0)).trans z0; have y1 := (HS.out.below.cell (lt_of_cell z1)).trans z1; have y2 := (HS.out.below.cell (lt_of_cell z2)).trans z2; (have hltI : (i : Int) < (s.funs.length : Int) := by omega); obtain ⟨mu, hgm, hmu⟩ := HS.out.fn; (have HX : Hid (s.funs[i]? = some f ∧ FnR w f (.agg #[.string f.nm, .int .i64 f.ar, .slice sl f.tab.length cq]) ∧ GMap wr (w.heap.size + 1 + 1) mu i ∧ (∀ t, OkT t → match fnAt (s.funs.take i) t with | none => mu t = none | some f => ∃ v, mu t = some v ∧ FnR w f v) ∧ OkT f.nm.data.toList ∧ i < s.funs.length) := ⟨hfi, hfr, hgm, hmu, okT_of (by obtain ⟨_, _, _, h, _⟩ := hfr; exact h), hlt⟩); obtain ⟨b0, b1, b2, b3⟩ := blk4L HS.out.vw; have hs2 := lt_of_block HS.out.vw; clear hfi hc z0 z1 z2 hfr hgm hmu hlt hile HF
      go_wp2_with (first
        | (at_mapUpdate
           (refine wpList_gput rfl _ _ _ 118 112 rfl Tryz.underlying118 (w.heap.size + 1 + 1) i f.nm.data.toList mu HX.out.2.2.2.2.1 (by have := HX.out.2.2.2.2.2; have := HO.out.2.2.1; unfold maxLen; omega) (HX.out.2.2.1.up (below_more (Below.refl _ _) _)) rfl (by show _ = Value.string ⟨f.nm.data.toList.toArray⟩; rw [str_eta]; rfl) (.agg #[.string f.nm, .int .i64 f.ar, .slice sl f.tab.length cq]) rfl ?_); intro w5 hg5 hk5; have HS5 : Hid (VwS w s (some ⟨g, off, none⟩) ap cf cp w.heap.size (w.heap.size + 1) (w.heap.size + 1 + 1) (w.heap.size + 1 + 1 + 1) (w.heap.size + 1 + 1 + 1 + 1) (w.heap.size + 1 + 1 + 1 + 1 + 1) (i + 1) 0 0 vs w5) := VwS.putF (HS.out.up (below_more (Below.refl _ _) _)) HX.out.1 HX.out.2.1 HX.out.2.2.2.1 hg5 hk5
           clear hg5 hk5)
        | fail)
      go_roundg (s.funs.length - (i + 1))
      case measure => have := HG.out; have := HX.out.2.2.2.2.2; omega
      case rel => exact ⟨i + 1, HX.out.2.2.2.2.2, rfl, by go_num, HS5⟩
    · have hii : i = s.funs.length := by omega
      subst hii; (have hge : ¬ (s.funs.length : Int) < (s.funs.length : Int) := by omega); obtain ⟨a0, a1, a2, -⟩ := blk3 HS.out.st; clear hlt hile HF HS0; go_wp2_with fail; clear a0 a1 a2
      go_loopg [36] s.preds.length (fun g c wq => ∃ j, j ≤ s.preds.length ∧ g = s.preds.length - j ∧ c = .int .i64 (j : Nat) ∧ Hid (VwS w s af ap cf cp w.heap.size (w.heap.size + 1) (w.heap.size + 1 + 1) (w.heap.size + 1 + 1 + 1) (w.heap.size + 1 + 1 + 1 + 1) (w.heap.size + 1 + 1 + 1 + 1 + 1) s.funs.length j 0 vs wq))
      case atStart => exact ⟨0, by omega, by omega, rfl, HS⟩
      case round =>
        obtain ⟨j, hjle, hg, rfl, HS2⟩ := hrel; have HG2 : Hid (gk = s.preds.length - j) := hg; clear hg; by_cases hlt : j < s.preds.length
        · obtain ⟨f, hfi⟩ : ∃ x, s.preds[j]? = some x := ⟨_, List.getElem?_eq_getElem hlt⟩
          (obtain ⟨g, off, rfl, hc⟩ := HP.out (fun e => by rw [e] at hlt; simp at hlt)); obtain ⟨sl, cq, z0, z1, z2, hfr⟩ := hc j f hfi; have y0 := (HS2.out.below.cell (lt_of_cell z0)).trans z0; have y1 := (HS2.out.below.cell (lt_of_cell z1)).trans z1; have y2 := (HS2.out.below.cell (lt_of_cell z2)).trans z2; (have hltI : (j : Int) < (s.preds.length : Int) := by omega); obtain ⟨mu, hgm, hmu⟩ := HS2.out.pd; (have HX : Hid (s.preds[j]? = some f ∧ PdR w f (.agg #[.string f.nm, .int .i64 f.ar, .slice sl f.bits.length cq]) ∧ GMap wr (w.heap.size + 1 + 1 + 1) mu j ∧ (∀ t, OkT t → match pdAt (s.preds.take j) t with | none => mu t = none | some f => ∃ v, mu t = some v ∧ PdR w f v) ∧ OkT f.nm.data.toList ∧ j < s.preds.length) := ⟨hfi, hfr, hgm, hmu, okT_of (by obtain ⟨_, _, _, h, _⟩ := hfr; exact h), hlt⟩); obtain ⟨b0, b1, b2, b3⟩ := blk4L HS2.out.vw; have hs2 := lt_of_block HS2.out.vw; clear hfi hc z0 z1 z2 hfr hgm hmu hlt hjle HP
          go_wp2_with (first
            | (at_mapUpdate
               (refine wpList_gput rfl _ _ _ 119 116 rfl Tryz.underlying119 (w.heap.size + 1 + 1 + 1) j f.nm.data.toList mu HX.out.2.2.2.2.1 (by have := HX.out.2.2.2.2.2; have := HO.out.2.2.2.1; unfold maxLen; omega) (HX.out.2.2.1.up (below_more (Below.refl _ _) _)) rfl (by show _ = Value.string ⟨f.nm.data.toList.toArray⟩; rw [str_eta]; rfl) (.agg #[.string f.nm, .int .i64 f.ar, .slice sl f.bits.length cq]) rfl ?_); intro w5 hg5 hk5; have HS5 : Hid (VwS w s af (some ⟨g, off, none⟩) cf cp w.heap.size (w.heap.size + 1) (w.heap.size + 1 + 1) (w.heap.size + 1 + 1 + 1) (w.heap.size + 1 + 1 + 1 + 1) (w.heap.size + 1 + 1 + 1 + 1 + 1) s.funs.length (j + 1) 0 vs w5) := VwS.putP (HS2.out.up (below_more (Below.refl _ _) _)) HX.out.1 HX.out.2.1 HX.out.2.2.2.1 hg5 hk5
               clear hg5 hk5)
            | fail)
          go_roundg (s.preds.length - (j + 1))
          case measure => have := HG2.out; have := HX.out.2.2.2.2.2; omega
          case rel => exact ⟨j + 1, HX.out.2.2.2.2.2, rfl, by go_num, HS5⟩
        · have hii : j = s.preds.length := by omega
          subst hii; (have hge2 : ¬ (s.preds.length : Int) < (s.preds.length : Int) := by omega); clear hlt hjle HP HS; go_wp2_with fail
          go_loopg [48, 12, 13] names.length (fun g c o12 o13 wz => ∃ q, q ≤ names.length ∧ g = names.length - q ∧ c = .int .i64 (q : Nat) ∧ Hid (VwS w s af ap cf cp w.heap.size (w.heap.size + 1) (w.heap.size + 1 + 1) (w.heap.size + 1 + 1 + 1) (w.heap.size + 1 + 1 + 1 + 1) (w.heap.size + 1 + 1 + 1 + 1 + 1) s.funs.length s.preds.length q vs wz))
          case atStart => exact ⟨0, by omega, by omega, rfl, HS2⟩
          case round =>
            obtain ⟨q, hqle, hg, rfl, HS3⟩ := hrel; have HG3 : Hid (gk = names.length - q) := hg; clear hg; by_cases hlt : q < names.length
            · obtain ⟨t, ht⟩ : ∃ x, names[q]? = some x := ⟨_, List.getElem?_eq_getElem hlt⟩
              (have hqv : q < vals.length := by have := HO.out.1; omega); obtain ⟨y, hy⟩ : ∃ x, vals[q]? = some x := ⟨_, List.getElem?_eq_getElem hqv⟩; (obtain ⟨g, off, rfl, hc⟩ := HN.out (fun e => by rw [e] at hlt; simp at hlt)); (obtain ⟨gq, offq, rfl, hd⟩ := HVl.out (fun e => by rw [e] at hqv; simp at hqv)); have z0 := hc q t ht; have z1 := hd q y hy; have y0 := (HS3.out.below.cell (lt_of_cell z0)).trans z0; have y1 := (HS3.out.below.cell (lt_of_cell z1)).trans z1; (have hltI : (q : Int) < (names.length : Int) := by omega); (have hltJ : (q : Int) < (vals.length : Int) := by omega); obtain ⟨b0, b1, b2, b3⟩ := blk4L HS3.out.vw; (obtain ⟨w5, hrun, hg5, hk5⟩ := GMap.ins (w := wr.drew) (GMap.same HS3.out.vl rfl) (by have := HO.out.2.1; unfold maxLen; omega) (HO.out.2.2.2.2.2 t (List.mem_of_getElem? ht)) Tryz.underlying120 (.int .i64 y)); (have hzip : vs[q]? = some (t, y) := by rw [← hvs, List.getElem?_zip_eq_some]; exact ⟨ht, hy⟩); have HS5 : Hid (VwS w s af ap cf cp w.heap.size (w.heap.size + 1) (w.heap.size + 1 + 1) (w.heap.size + 1 + 1 + 1) (w.heap.size + 1 + 1 + 1 + 1) (w.heap.size + 1 + 1 + 1 + 1 + 1) s.funs.length s.preds.length (q + 1) vs w5) := VwS.putV HS3.out hzip (HO.out.2.2.2.2.1 y (List.mem_of_getElem? hy)) hg5 ⟨hk5.os, hk5.tape, hk5.output, hk5.size, hk5.block⟩; have HLt : Hid (q < names.length) := hlt; clear hg5 hk5 hzip ht hy hc hd z0 z1 hlt hqle hqv HN HVl; go_wp2_with fail
              go_region
              all_goals
                go_wp2_with fail
                go_roundg (names.length - (q + 1))
                case measure => have := HG3.out; have := HLt.out; omega
                case rel => exact ⟨q + 1, HLt.out, rfl, by go_num, HS5⟩
            · have hii : q = names.length := by omega
              subst hii; (have hge3 : ¬ (names.length : Int) < (names.length : Int) := by omega); obtain ⟨b0, b1, b2, b3⟩ := blk4L HS3.out.vw; obtain ⟨r0, r1, r2, r3⟩ := blk4L HS3.out.rs; obtain ⟨r4, r5, r6, r7⟩ := blk4F HS3.out.rs; clear hlt hqle HN HVl; go_wp2_with fail; have f4 := set4S HS3.out.rs (.int .i64 s.n) (.map (some (w.heap.size + 1 + 1))) (.map (some (w.heap.size + 1 + 1 + 1))) (.map (some (w.heap.size + 1 + 1 + 1 + 1))); (have hk9 : Kept (· ≠ w.heap.size + 1) wr ((((wr.setCell ⟨w.heap.size + 1, 0, none⟩ (.int .i64 s.n)).setCell ⟨w.heap.size + 1, 1, none⟩ (.map (some (w.heap.size + 1 + 1)))).setCell ⟨w.heap.size + 1, 2, none⟩ (.map (some (w.heap.size + 1 + 1 + 1)))).setCell ⟨w.heap.size + 1, 3, none⟩ (.map (some (w.heap.size + 1 + 1 + 1 + 1)))) := ((((Kept.refl _ _).setCell (p := ⟨w.heap.size + 1, 0, none⟩) (fun _ h => h rfl) _).setCell (p := ⟨w.heap.size + 1, 1, none⟩) (fun _ h => h rfl) _).setCell (p := ⟨w.heap.size + 1, 2, none⟩) (fun _ h => h rfl) _).setCell (p := ⟨w.heap.size + 1, 3, none⟩) (fun _ h => h rfl) _); (have HZ := VwS.fin HS3.out (by rw [← hvs, List.length_zip, ← HO.out.1, Nat.min_self]) (by omega) hk9); generalize World.setCell _ _ _ = F at f4 hk9 HZ ⊢; obtain ⟨o0, o1, o2, o3⟩ := blk4L f4; (exact bodyPost_ret (v := .agg #[.int .i64 s.n, .map (some (w.heap.size + 1 + 1)), .map (some (w.heap.size + 1 + 1 + 1)), .map (some (w.heap.size + 1 + 1 + 1 + 1))]) (by simp [results, Tryz.results76, go_sem, o0, o1, o2, o3]) rfl ⟨_, _, _, rfl, HZ, HZ.below⟩)
end Go.Proofs.YtpiaeapgjljjhaaGreat
