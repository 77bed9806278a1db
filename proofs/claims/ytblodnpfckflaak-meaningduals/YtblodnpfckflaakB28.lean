/- Texts of one proof, one behind the other: SN2. -/
import Derived.Test.YtblodnpfckflaakB27
/- Walks: hasMeanings, hasValues. -/
namespace Go.Proofs.Ytblodnpfckflaak
open Go.RowKit Go.Sort Go.Maps Go.WideMaps

structure InvH (w0 : World) (V : VwD) (va : Vals) (bf bp bv c vb hb : Nat) (done : List BgN) (T : Nat → Prop) (w : World) : Prop where
  has : w.heap[hb]? = some (.cells #[.bool (done.all (okN V))] 4 (0, 0))
  view : w.heap[vb]? = some (.cells #[.int .i64 (V.n : Nat), .map (some bf), .map (some bp), .map (some bv)] 57 (0, 0))
  at' : VwA w0 V va bf bp bv c w
  own : ∀ b, T b ↔ b = hb ∨ b = vb ∨ b = bf ∨ b = bp ∨ b = bv
  gh : w0.heap.size ≤ hb
  gb : w0.heap.size ≤ vb
theorem InvH.ne {w0 : World} {V : VwD} {va : Vals} {bf bp bv c vb hb : Nat} {done : List BgN} {T : Nat → Prop} {w : World} (h : InvH w0 V va bf bp bv c vb hb done T w) : hb ≠ vb ∧ bf ≠ hb ∧ bp ≠ hb ∧ bv ≠ hb := by
  obtain ⟨m1, k1, g1, h1⟩ := h.at'.fn; obtain ⟨m2, k2, g2, h2⟩ := h.at'.pd; (refine ⟨fun e => ?_, fun e => g1.noCells _ _ _ (by rw [e]; exact h.has), fun e => g2.noCells _ _ _ (by rw [e]; exact h.has), fun e => h.at'.vl.noCells _ _ _ (by rw [e]; exact h.has)⟩); have h3 := h.has; rw [e, h.view] at h3; simp at h3
theorem means1_in (cap : Array Value) (w : World) : (callFunc 40 cap).run Try.prog w = .ok (.enter 40 cap) w := by
  simp [go_sem]
theorem means_visit (w0 : World) (V : VwD) (va : Vals) (bf bp bv c vb hb M : Nat) : VisN w0 40 #[.pointer (some ⟨vb, 0, none⟩), .pointer (some ⟨hb, 0, none⟩)] M (InvH w0 V va bf bp bv c vb hb) where
  lt := fun h b hb => by
    obtain ⟨m1, k1, g1, h1⟩ := h.at'.fn; obtain ⟨m2, k2, g2, h2⟩ := h.at'.pd
    rcases (h.own b).1 hb with rfl | rfl | rfl | rfl | rfl
    · exact ⟨h.gh, lt_of_block h.has⟩
    · exact ⟨h.gb, lt_of_block h.view⟩
    · exact ⟨h.at'.gf, g1.lt⟩
    · exact ⟨h.at'.gp, g2.lt⟩
    · exact ⟨h.at'.gv, h.at'.vl.lt⟩
  stay := fun {done T w w'} h hk => by
    (have hb : ∀ b, b < w.heap.size → T b → w'.heap[b]? = w.heap[b]? := fun b h1 h2 => hk.block b h1 (Or.inl h2)); obtain ⟨m1, k1, g1, h1⟩ := h.at'.fn; obtain ⟨m2, k2, g2, h2⟩ := h.at'.pd; refine ⟨(hb _ (lt_of_block h.has) ((h.own _).2 (Or.inl rfl))).trans h.has, (hb _ (lt_of_block h.view) ((h.own _).2 (Or.inr (Or.inl rfl)))).trans h.view, ?_, h.own, h.gh, h.gb⟩; (exact ⟨h.at'.below.trans (hk.below h.at'.below.size fun b hb => Or.inr hb), ⟨m1, k1, g1.same (hb _ g1.lt ((h.own _).2 (by simp))), h1⟩, ⟨m2, k2, g2.same (hb _ g2.lt ((h.own _).2 (by simp))), h2⟩, h.at'.vl.same (hb _ h.at'.vl.lt ((h.own _).2 (by simp))), h.at'.gf, h.at'.gp, h.at'.gv, h.at'.fv, h.at'.pv⟩)
  ent := fun u v x w => means1_in _ w
  call := fun done T nm p l w hl hn hb hi => by
    refine (means1_any V va w0 w bf bp bv c vb _ nm hn p l _ hi.at' hi.view hi.has).mono ?_; rintro e w' ⟨rfl, h1, h2⟩; obtain ⟨n1, n2, n3, n4⟩ := hi.ne; obtain ⟨m1, k1, g1, h3⟩ := hi.at'.fn; obtain ⟨m2, k2, g2, h4⟩ := hi.at'.pd; have hg := hi.gh; (refine ⟨rfl, T, ⟨?_, (h2.block _ (lt_of_block hi.view) n1.symm).trans hi.view, ?_, hi.own, hi.gh, hi.gb⟩, h2.mono fun b _ hb e => hb ((hi.own b).2 (Or.inl e)), fun b h => Or.inl h⟩)
    · rw [List.all_append]
      simpa using h1
    · exact ⟨hi.at'.below.trans (h2.below hi.at'.below.size fun b hb e => by omega), ⟨m1, k1, g1.same (h2.block _ g1.lt n2), h3⟩, ⟨m2, k2, g2.same (h2.block _ g2.lt n3), h4⟩, hi.at'.vl.same (h2.block _ hi.at'.vl.lt n4), hi.at'.gf, hi.at'.gp, hi.at'.gv, hi.at'.fv, hi.at'.pv⟩
set_option maxRecDepth 10000 in
set_option maxHeartbeats 4000000 in
theorem hasMeanings_any (V : VwD) (va : Vals) (w0 w : World) (bf bp bv c : Nat) (x : Ex) (v : Value) (hs : x.size ≤ 100000) (hrep : ERp w0 x v) (hA : VwA w0 V va bf bp bv c w) :
    Calls Try.prog 21 #[.agg #[.int .i64 (V.n : Nat), .map (some bf), .map (some bp), .map (some bv)], v] w fun e w' => e = .returned (.bool ((bgEl (prE [] x)).all (okN V))) ∧ VwA w0 V va bf bp bv c w' ∧ Kept (fun b => b ≠ bf ∧ b ≠ bp ∧ b ≠ bv) w w' := by
  obtain ⟨k, n, ws, ks⟩ := x; obtain ⟨sw, cw, sk, ck, rfl, -⟩ := ERp.def.1 hrep; obtain ⟨W, hWe⟩ : ∃ W, ((w.alloc (.cells #[.int .i64 (V.n : Nat), .map (some bf), .map (some bp), .map (some bv)] 57 (0, 0))).alloc (.cells #[.int .i64 k, .string n, .slice sw ws.length cw, .slice sk ks.length ck] 29 (0, 0))).alloc (.cells #[.bool true] 4 (0, 0)) = W := ⟨_, rfl⟩; (have hBW : Below w.heap.size w W := by rw [← hWe]; exact below_more (below_more (below_more (Below.refl _ _) _) _) _); obtain ⟨p1, p2, p3⟩ := blk_threeM w (.cells #[.int .i64 (V.n : Nat), .map (some bf), .map (some bp), .map (some bv)] 57 (0, 0)) (.cells #[.int .i64 k, .string n, .slice sw ws.length cw, .slice sk ks.length ck] 29 (0, 0)) (.cells #[.bool true] 4 (0, 0)); rw [hWe] at p1 p2 p3; have hAW := hA.up hBW; have hsz := hA.below.size; (have hT : ∀ b, (b = w.heap.size + 1 + 1 ∨ b = w.heap.size ∨ b = bf ∨ b = bp ∨ b = bv) ↔ b = w.heap.size + 1 + 1 ∨ b = w.heap.size ∨ b = bf ∨ b = bp ∨ b = bv := fun _ => Iff.rfl); (have hEB := eachBig_any (M := 100000) (Nat.le_refl _) (means_visit w0 V va bf bp bv c w.heap.size (w.heap.size + 1 + 1) 100000) (fun b => b = w.heap.size + 1 + 1 ∨ b = w.heap.size ∨ b = bf ∨ b = bp ∨ b = bv) (.mk k n ws ks) _ W hs hrep hAW.below ⟨p3, p1, hAW, hT, by omega, by omega⟩); have HE : Hid (Calls Try.prog 39 _ W _) := hEB; (have hmf : ∀ (fn : Fn) (first cap : Array Value) (w : World), (Instr.makeFunc fn first cap).run Try.prog w = .ok (.func fn first cap) w := fun _ _ _ _ => rfl); have HBW : Hid (Below w.heap.size w W) := hBW; obtain ⟨b0, b1, b2, b3⟩ := blk4L p2; have hs1 := lt_of_block p2; clear hs hrep hA hBW p1 p2 p3 hAW hsz hT hEB
  go_enter Try.func21, Try.ntmps21
  go_wp2_with (first
    | (go_at_call 39
       refine HE.out.mono ?_; rintro e w5 ⟨rfl, T5, hi5, hk5, -⟩
       have HK : Hid (VwA w0 V va bf bp bv c w5 ∧ Kept (fun b => b ≠ bf ∧ b ≠ bp ∧ b ≠ bv) w w5) := ⟨hi5.at', ⟨hk5.os.trans HBW.out.os, hk5.tape.trans HBW.out.tape, hk5.output.trans HBW.out.output, Nat.le_trans HBW.out.size hk5.size, fun b hb hn => by
         rw [hk5.block b (Nat.lt_of_lt_of_le hb HBW.out.size) (fun h => by
           rcases h with rfl | rfl | h | h | h
           · omega
           · omega
           · exact hn.1 h
           · exact hn.2.1 h
           · exact hn.2.2 h), HBW.out.block b hb]⟩⟩
       obtain ⟨c0, c1⟩ := blk1 hi5.has
       clear hi5 hk5)
    | fail)
  go_ret; exact ⟨rfl, HK.out.1, HK.out.2⟩
set_option maxRecDepth 10000 in
set_option maxHeartbeats 4000000 in
theorem hasValues_any (V : VwD) (va : Vals) (w0 w : World) (bf bp bv c : Nat) (l : List (List UInt8)) (u : Value) (hl : SL w u l) (hlen : ∀ t ∈ l, t.length ≤ maxLen) (hA : VwA w0 V va bf bp bv c w) :
    Calls Try.prog 22 #[.agg #[.int .i64 (V.n : Nat), .map (some bf), .map (some bp), .map (some bv)], u] w fun e w' => e = .returned (.bool (l.all fun t => (va t).isSome)) ∧ Below w.heap.size w w' := by
  have HL : Hid (SL w u l) := hl; obtain ⟨ad, cp, rfl, h1, h2, h3⟩ := hl; obtain ⟨W, hWe⟩ : ∃ W, w.alloc (.cells #[.int .i64 (V.n : Nat), .map (some bf), .map (some bp), .map (some bv)] 57 (0, 0)) = W := ⟨_, rfl⟩; (have hBW : Below w.heap.size w W := by rw [← hWe]; exact below_more (Below.refl _ _) _); (have hq : W.heap[w.heap.size]? = some (.cells #[.int .i64 (V.n : Nat), .map (some bf), .map (some bp), .map (some bv)] 57 (0, 0)) := by rw [← hWe]; exact blk_new _ _); have HBW : Hid (Below w.heap.size w W) := hBW; have hAW := hA.up hBW
  have HLk : Hid (∀ t, t.length ≤ maxLen → (Instr.lookup 55 (.map (some bv)) (.string ⟨t.toArray⟩) true).run Try.prog W = .ok (.tuple #[.int .i64 (vz va t : Nat), .bool (va t).isSome]) W) := fun t ht => by
    have h9 := hAW.vl.lookOk (k := t) ht Try.underlying55 zeroInt 0
    have h8 : ((fun s => (va s).map fun x => Value.int .i64 (x : Nat)) t).getD (.int .i64 0) = .int .i64 (vz va t : Nat) := by
      unfold vz; show ((va t).map _).getD _ = _
      cases va t <;> rfl
    have h7 : ((fun s => (va s).map fun x => Value.int .i64 (x : Nat)) t).isSome = (va t).isSome := by
      show ((va t).map _).isSome = _
      cases va t <;> rfl
    rw [h8, h7] at h9; exact h9
  have HLn : Hid (∀ t ∈ l, t.length ≤ maxLen) := hlen; (have hlI : ((l.length : Nat) : Int) ≤ (cp : Int) := by omega); (have hcI : ((cp : Nat) : Int) ≤ 9223372036854775807 := by unfold maxLen at h2; omega); have HX : Hid (l ≠ [] → ∃ g off, ad = some ⟨g, off, none⟩ ∧ ∀ (j : Nat) (t : List UInt8), l[j]? = some t → w.cell? ⟨g, off + j, none⟩ = some (.string ⟨t.toArray⟩)) := h3; obtain ⟨a0, a1, a2, a3⟩ := blk4L hq; have hs1 := lt_of_block hq; clear hlen hA h1 h2 h3 hBW hq hAW
  go_enter Try.func22, Try.ntmps22
  go_wp2_with fail
  go_loopg [11, 6, 7, 8] l.length (fun g c t a b wr => ∃ i, i ≤ l.length ∧ g = l.length - i ∧ c = .int .i64 (i : Nat) ∧ Hid ((l.take i).all (fun t => (va t).isSome) = true) ∧ Hid (wr = W))
  case atStart => exact ⟨0, by omega, by omega, rfl, rfl, rfl⟩
  case round =>
    obtain ⟨i, hile, hg, rfl, HE, HW⟩ := hrel; have hw := HW.out; subst hw; have HG : Hid (gk = l.length - i) := hg; clear hg; by_cases hlt : i < l.length
    · obtain ⟨t, ht⟩ : ∃ x, l[i]? = some x := ⟨_, List.getElem?_eq_getElem hlt⟩
      (obtain ⟨g, off, rfl, hc⟩ := HX.out (fun e => by rw [e] at hlt; simp at hlt)); have g0 := (HBW.out.cell (lt_of_cell (hc i t ht))).trans (hc i t ht); (have hltI : (i : Int) < (l.length : Int) := by omega); have hlk := HLk.out t (HLn.out t (List.mem_of_getElem? ht))
      have HTk : Hid ((l.take (i + 1)).all (fun t => (va t).isSome) = (va t).isSome) := by
        show _ = _; rw [List.take_add_one, ht, List.all_append, HE.out]
        simp
      have HMx : Hid (t ∈ l ∧ i < l.length) := ⟨List.mem_of_getElem? ht, hlt⟩; clear hc ht hlt hile
      rcases hs : (va t).isSome with _ | _
      · rw [hs] at hlk
        have HF : Hid (l.all (fun t => (va t).isSome) = false) := by
          show _ = _; rw [List.all_eq_false]; (exact ⟨t, HMx.out.1, by rw [hs]; simp⟩)
        clear hs; go_wp2_with fail; go_ret; (exact ⟨ret_bool (by rw [HF.out]), HBW.out⟩)
      · rw [hs] at hlk HTk
        clear hs; go_wp2_with fail
        go_roundg (l.length - (i + 1))
        case measure => have := HG.out; have := HMx.out.2; omega
        case rel => exact ⟨i + 1, HMx.out.2, rfl, by go_num, HTk, rfl⟩
    · have hge : ¬ (i : Int) < (l.length : Int) := by omega
      have HF : Hid (l.all (fun t => (va t).isSome) = true) := by
        have := HE.out; (rw [List.take_of_length_le (by omega)] at this); exact this
      clear hlt hile HX; go_wp2_with fail; go_ret; (exact ⟨ret_bool (by rw [HF.out]), HBW.out⟩)
end Go.Proofs.Ytblodnpfckflaak
