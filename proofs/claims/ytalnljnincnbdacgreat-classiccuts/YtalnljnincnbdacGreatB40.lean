/- Texts of one proof, one behind the other: KY8. -/
import Derived.Test.YtalnljnincnbdacGreatB38
import Derived.Test.YtalnljnincnbdacGreatB08
import Derived.Test.YtalnljnincnbdacGreatB05
/- Walks: classicBegun. -/
namespace Go.Proofs.YtalnljnincnbdacGreat
open Go.RowKit

theorem rowOf4 (l : List Value) (h0 : l.length = 4) : ∃ x0 x1 x2 x3, l = [x0, x1, x2, x3] := by
  obtain ⟨x0, l1, e0, h1⟩ := cons_len h0; obtain ⟨x1, l2, e1, h2⟩ := cons_len h1; obtain ⟨x2, l3, e2, h3⟩ := cons_len h2; obtain ⟨x3, l4, e3, h4⟩ := cons_len h3; have e4 : l4 = [] := List.length_eq_zero_iff.1 h4; subst e4 e3 e2 e1 e0; exact ⟨x0, x1, x2, x3, rfl⟩
theorem rowOf13 (l : List Value) (h0 : l.length = 13) : ∃ x0 x1 x2 x3 x4 x5 x6 x7 x8 x9 x10 x11 x12, l = [x0, x1, x2, x3, x4, x5, x6, x7, x8, x9, x10, x11, x12] := by
  obtain ⟨x0, l1, e0, h1⟩ := cons_len h0; obtain ⟨x1, l2, e1, h2⟩ := cons_len h1; obtain ⟨x2, l3, e2, h3⟩ := cons_len h2; obtain ⟨x3, l4, e3, h4⟩ := cons_len h3; obtain ⟨x4, l5, e4, h5⟩ := cons_len h4; obtain ⟨x5, l6, e5, h6⟩ := cons_len h5; obtain ⟨x6, l7, e6, h7⟩ := cons_len h6; obtain ⟨x7, l8, e7, h8⟩ := cons_len h7; obtain ⟨x8, l9, e8, h9⟩ := cons_len h8; obtain ⟨x9, l10, e9, h10⟩ := cons_len h9; obtain ⟨x10, l11, e10, h11⟩ := cons_len h10; obtain ⟨x11, l12, e11, h12⟩ := cons_len h11; obtain ⟨x12, l13, e12, h13⟩ := cons_len h12; have e13 : l13 = [] := List.length_eq_zero_iff.1 h13; subst e13 e12 e11 e10 e9 e8 e7 e6 e5 e4 e3 e2 e1 e0; exact ⟨x0, x1, x2, x3, x4, x5, x6, x7, x8, x9, x10, x11, x12, rfl⟩
def fOr : Fm := .mk 6 ⟨#[]⟩ [fP, fQ]
theorem begun_code : seqCode [fOr] [fP] = (0, 0) := by decide +kernel
theorem begun_tv (p : List UInt8 → Bool) : tv p fOr = (p [112] || p [113]) := by
  unfold fOr; rw [tv_or]; unfold fP fQ; rw [tv_name, tv_name]
theorem begun_not : ¬ Valid [fOr] [fP] := fun h => by
  obtain ⟨g, hg, ht⟩ := h (fun t => decide (t = [113])) fun f hf => by
    rw [List.mem_singleton.1 hf, begun_tv]
    decide
  rw [List.mem_singleton.1 hg] at ht; unfold fP at ht; rw [tv_name] at ht
  revert ht
  decide
theorem begun_names {f : Fm} (hf : f ∈ [fOr] ++ [fP]) {t : List UInt8} (ht : t ∈ nmsT f) : t = [112] ∨ t = [113] := by
  (have h1 : nmsT fOr = [[112], [113]] := by decide +kernel); (have h2 : nmsT fP = [[112]] := by decide +kernel); simp only [List.cons_append, List.nil_append, List.mem_cons, List.not_mem_nil, or_false] at hf
  rcases hf with rfl | rfl
  · rw [h1] at ht; simpa using ht
  · rw [h2] at ht; exact Or.inl (by simpa using ht)
theorem begun_one {L : List (List UInt8)} (h : Against [fOr] [fP] L) : L = [[113]] := by
  (have h1 := h.left fOr (by simp)); (have h2 := h.right fP (by simp)); rw [begun_tv] at h1; unfold fP at h2; rw [tv_name] at h2
  have h2' : ¬ ([112] : List UInt8) ∈ L := by
    intro hm; have : decide (([112] : List UInt8) ∈ L) = true := decide_eq_true hm; rw [show (⟨#[112]⟩ : ByteArray).data.toList = [112] from rfl, this] at h2
    cases h2
  have h3 : ([113] : List UInt8) ∈ L := by
    rw [decide_eq_false h2', Bool.false_or] at h1; exact of_decide_eq_true h1
  (refine rising_ext h.up (by decide) fun t => ⟨fun ht => ?_, fun ht => ?_⟩)
  · obtain ⟨f, hf, hn⟩ := h.occ t ht
    rcases begun_names hf hn with e | e
    · subst e; exact absurd ht h2'
    · simp [e]
  · rw [List.mem_singleton.1 ht]; exact h3
/-- Prove, asked for the example. -/
theorem begun_prove (vl vr : Value) (w : World) (hl : FL w vl [fOr]) (hr : FL w vr [fP]) : Calls Tryz.prog 10 #[.agg #[vl, vr]] w fun e w' => ∃ c, e = .returned (.tuple #[.agg #[.string ⟨#[]⟩, .int .i64 0, .string ⟨#[]⟩, .slice none 0 0, .slice none 0 0, .slice none 0 0, .slice none 0 0], c, .bool false, .agg #[.int .i64 0, .int .i64 0]]) ∧ TL w' c [[113]] ∧ Below w.heap.size w w' := by
  (refine (prove_any [fOr] [fP] (by decide) (by decide) vl vr w hl hr).mono ?_); rintro e w' ⟨pv, c, val, code, at', rfl, hb, hc⟩
  cases hc with
  | fault h => exact absurd (by rw [begun_code]) h
  | much h hm => exact absurd hm (by decide +kernel)
  | no h c L hc ha hn => exact ⟨c, rfl, by rw [← begun_one ha]; exact hc, hb⟩
  | yes h P pv hp hf hs hl hr hv ht => exact absurd hv begun_not
theorem TL.keep {w w' : World} {v : Value} {l : List (List UInt8)} (h : TL w v l) (hb : ∀ b, b < w.heap.size → w'.heap[b]? = w.heap[b]?) : TL w' v l := by
  obtain ⟨ad, cap, h1, h2, h3, h4⟩ := h; (refine ⟨ad, cap, h1, h2, h3, fun hne => ?_⟩); obtain ⟨g, h5, h6⟩ := h4 hne; (exact ⟨g, h5, fun j t ht => (cell_of_block (a := ⟨g, j, none⟩) (hb g (lt_of_cell (h6 j t ht)))).trans (h6 j t ht)⟩)
structure GB where
  g3 : Nat
  g6 : Nat
  c : Value
def bRep (f : Fm) : FactG GB := fun _ v w => ∃ sl cap, v = .agg #[.int .i64 6, .string ⟨#[]⟩, .slice sl 2 cap] ∧ Rep w (fun _ => True) f (.agg #[.int .i64 6, .string ⟨#[]⟩, .slice sl 2 cap])
def bFL (f : Fm) : FactG GB := fun _ v w => ∃ g, v = .slice (some ⟨g, 0, none⟩) 1 1 ∧ FL w (.slice (some ⟨g, 0, none⟩) 1 1) [f]
def bSq (f f' : Fm) : FactG GB := fun _ v w => ∃ g g', v = .agg #[.slice (some ⟨g, 0, none⟩) 1 1, .slice (some ⟨g', 0, none⟩) 1 1] ∧ FL w (.slice (some ⟨g, 0, none⟩) 1 1) [f] ∧ FL w (.slice (some ⟨g', 0, none⟩) 1 1) [f']
theorem bRep_up {f : Fm} {y y' : GB} {w w' : World} (hb : Below w.heap.size w w') (u : Value) (h : bRep f y u w) : bRep f y' u w' := by
  obtain ⟨sl, cap, e, h⟩ := h; (exact ⟨sl, cap, e, h.move fun b hl hp => ⟨hb.block b hl, hp⟩⟩)
theorem bFL_up {f : Fm} {y y' : GB} {w w' : World} (hb : Below w.heap.size w w') (u : Value) (h : bFL f y u w) : bFL f y' u w' := by
  obtain ⟨g, e, h⟩ := h; exact ⟨g, e, h.up hb⟩
theorem bSq_up {f f' : Fm} {y y' : GB} {w w' : World} (hb : Below w.heap.size w w') (u : Value) (h : bSq f f' y u w) : bSq f f' y' u w' := by
  obtain ⟨g, g', e, h, h'⟩ := h; exact ⟨g, g', e, h.up hb, h'.up hb⟩
structure StB (W : World) (l7 l13 l14 : Bool) (y : GB) (w : World) : Prop where
  below : Below W.heap.size W w
  b3 : l13 = true → W.heap.size ≤ y.g3 ∧ w.heap[y.g3]? = some (.cells #[.string ⟨#[]⟩, .int .i64 0, .string ⟨#[]⟩, .slice none 0 0, .slice none 0 0, .slice none 0 0, .slice none 0 0] 32 (0, 0))
  b6 : l14 = true → W.heap.size ≤ y.g6 ∧ w.heap[y.g6]? = some (.cells #[.int .i64 0, .int .i64 0] 35 (0, 0))
  tl : l7 = true → TL w y.c [[113]]
theorem StB.up {W w w' : World} {l7 l13 l14 : Bool} {y : GB} (h : StB W l7 l13 l14 y w) (hb : Below w.heap.size w w') : StB W l7 l13 l14 y w' :=
  ⟨below_join h.below hb, fun e => ⟨(h.b3 e).1, below_keep hb (h.b3 e).2⟩, fun e => ⟨(h.b6 e).1, below_keep hb (h.b6 e).2⟩, fun e => (h.tl e).keep fun b hl => hb.block b hl⟩
theorem StB.same {W w w' : World} {l7 l13 l14 : Bool} {y : GB} (h : StB W l7 l13 l14 y w) (hB : Below W.heap.size W w') (hb : ∀ b, b < w.heap.size → w'.heap[b]? = w.heap[b]?) : StB W l7 l13 l14 y w' :=
  ⟨hB, fun e => ⟨(h.b3 e).1, (hb _ (lt_of_block (h.b3 e).2)).trans (h.b3 e).2⟩, fun e => ⟨(h.b6 e).1, (hb _ (lt_of_block (h.b6 e).2)).trans (h.b6 e).2⟩, fun e => (h.tl e).keep hb⟩
theorem StB.prove {W w w' : World} {l7 l13 l14 : Bool} {y : GB} (h : StB W l7 l13 l14 y w) (hb : Below w.heap.size w w') {c : Value} (hc : TL w' c [[113]]) : StB W true l13 l14 { y with c := c } w' :=
  ⟨below_join h.below hb, fun e => ⟨(h.b3 e).1, below_keep hb (h.b3 e).2⟩, fun e => ⟨(h.b6 e).1, below_keep hb (h.b6 e).2⟩, fun _ => hc⟩
theorem StB.box3 {W w : World} {l7 l13 l14 : Bool} {y : GB} (h : StB W l7 l13 l14 y w) : StB W l7 true l14 { y with g3 := w.heap.size } (w.alloc (.cells #[.string ⟨#[]⟩, .int .i64 0, .string ⟨#[]⟩, .slice none 0 0, .slice none 0 0, .slice none 0 0, .slice none 0 0] 32 (0, 0))) := by
  have hb := below_more (Below.refl w.heap.size w) (.cells #[.string ⟨#[]⟩, .int .i64 0, .string ⟨#[]⟩, .slice none 0 0, .slice none 0 0, .slice none 0 0, .slice none 0 0] 32 (0, 0)); (exact ⟨below_join h.below hb, fun _ => ⟨h.below.size, blk_new w _⟩, fun e => ⟨(h.b6 e).1, below_keep hb (h.b6 e).2⟩, fun e => (h.tl e).keep fun b hl => hb.block b hl⟩)
theorem StB.box6 {W w : World} {l7 l13 l14 : Bool} {y : GB} (h : StB W l7 l13 l14 y w) : StB W l7 l13 true { y with g6 := w.heap.size } (w.alloc (.cells #[.int .i64 0, .int .i64 0] 35 (0, 0))) := by
  have hb := below_more (Below.refl w.heap.size w) (.cells #[.int .i64 0, .int .i64 0] 35 (0, 0)); (exact ⟨below_join h.below hb, fun e => ⟨(h.b3 e).1, below_keep hb (h.b3 e).2⟩, fun _ => ⟨h.below.size, blk_new w _⟩, fun e => (h.tl e).keep fun b hl => hb.block b hl⟩)
theorem StB.put3 {W w : World} {l7 l13 l14 : Bool} {y : GB} (h : StB W l7 l13 l14 y w) (e : l13 = true) : StB W l7 l13 l14 y (sev7 w y.g3 (.string ⟨#[]⟩) (.int .i64 0) (.string ⟨#[]⟩) (.slice none 0 0) (.slice none 0 0) (.slice none 0 0) (.slice none 0 0)) := by
  obtain ⟨h1, h2⟩ := h.b3 e; (refine h.same ?_ fun b hl => ?_)
  · exact h.below.trans ((sev7_kept w y.g3 (.string ⟨#[]⟩) (.int .i64 0) (.string ⟨#[]⟩) (.slice none 0 0) (.slice none 0 0) (.slice none 0 0) (.slice none 0 0)).below h.below.size fun b hb => by omega)
  · by_cases q : b = y.g3
    · rw [q, sev7_same (.string ⟨#[]⟩) (.int .i64 0) (.string ⟨#[]⟩) (.slice none 0 0) (.slice none 0 0) (.slice none 0 0) (.slice none 0 0) h2, h2]
    · exact sev7_other _ _ _ _ _ _ _ q
theorem StB.put6 {W w : World} {l7 l13 l14 : Bool} {y : GB} (h : StB W l7 l13 l14 y w) (e : l14 = true) : StB W l7 l13 l14 y ((w.setCell ⟨y.g6, 0, none⟩ (.int .i64 0)).setCell ⟨y.g6, 1, none⟩ (.int .i64 0)) := by
  obtain ⟨h1, h2⟩ := h.b6 e; (refine h.same ((h.below.setCell (p := ⟨y.g6, 0, none⟩) h1 _).setCell (p := ⟨y.g6, 1, none⟩) h1 _) fun b hl => ?_); by_cases q : b = y.g6
  · rw [q, blk_set (blk_set h2 _) _, h2]
    rfl
  · rw [blk_other _ q, blk_other _ q]
set_option maxRecDepth 10000 in
set_option maxHeartbeats 8000000 in
theorem classicBegun_any (w : World) : Calls Tryz.prog 7 #[] w fun e w' => e = .returned (.bool true) ∧ Below w.heap.size w w' := by
  (have HN1 : Hid (∀ W, Calls Tryz.prog 42 #[.string ⟨#[112]⟩] W _) := fun W => named_any ⟨#[112]⟩ W); (have HN2 : Hid (∀ W, Calls Tryz.prog 42 #[.string ⟨#[113]⟩] W _) := fun W => named_any ⟨#[113]⟩ W)
  go_enter Tryz.func7, Tryz.ntmps7
  go_wp2_with fail; refine (HN1.out _).mono ?_; rintro e w1 ⟨rfl, hb1⟩; go_wp2_with fail; refine (HN2.out _).mono ?_; rintro e w2 ⟨rfl, hb2⟩; have HB2 : Hid (Below w.heap.size w w2) := below_join hb1 hb2; clear hb1 hb2 HN1 HN2; go_wp2_with fail; obtain ⟨W, hW⟩ : ∃ W, W = (w2.alloc (.cells #[.int .i64 1, .string ⟨#[112]⟩, .slice none 0 0] 29 (0, 0))).alloc (.cells #[.int .i64 1, .string ⟨#[113]⟩, .slice none 0 0] 29 (0, 0)) := ⟨_, rfl⟩; rw [← hW]; (have HBW : Hid (Below w.heap.size w W) := by rw [hW]; exact below_more (below_more HB2.out _) _); (have P1 : Hid (W.heap[w2.heap.size]? = some (.cells #[.int .i64 1, .string ⟨#[112]⟩, .slice none 0 0] 29 (0, 0))) := by rw [hW]; exact alloc_keep (blk_new w2 _) _); (have P2 : Hid (W.heap[w2.heap.size + 1]? = some (.cells #[.int .i64 1, .string ⟨#[113]⟩, .slice none 0 0] 29 (0, 0))) := by rw [hW]; exact blk_two w2 _ _); clear hW HB2; (have HBo : Hid (∀ W, Calls Tryz.prog 43 #[.int .i64 6, .agg #[.int .i64 1, .string ⟨#[112]⟩, .slice none 0 0], .agg #[.int .i64 1, .string ⟨#[113]⟩, .slice none 0 0]] W fun e w' => ∃ x, e = .returned x ∧ Rep w' (fun _ => True) fOr x ∧ Below W.heap.size W w') := fun W => both_any 6 fP fQ _ _ W (Rep.leaf (by simp [maxLen, ByteArray.size])) (Rep.leaf (by simp [maxLen, ByteArray.size]))); (have HPv : Hid (∀ vl vr W, FL W vl [fOr] → FL W vr [fP] → Calls Tryz.prog 10 #[.agg #[vl, vr]] W fun e w' => ∃ c, e = .returned (.tuple #[.agg #[.string ⟨#[]⟩, .int .i64 0, .string ⟨#[]⟩, .slice none 0 0, .slice none 0 0, .slice none 0 0, .slice none 0 0], c, .bool false, .agg #[.int .i64 0, .int .i64 0]]) ∧ TL w' c [[113]] ∧ Below W.heap.size W w') := fun vl vr W h1 h2 => begun_prove vl vr W h1 h2); (refine wp_region_gh (by kernel_rfl) (by kernel_rfl) (by kernel_rfl) 34 rfl (by kernel_rfl) [fun _ v _ => v = (.agg #[.int .i64 1, .string ⟨#[112]⟩, .slice none 0 0]), fun _ v _ => v = (.agg #[.int .i64 1, .string ⟨#[113]⟩, .slice none 0 0]), bRep fOr, bFL fOr, fun _ v _ => v = (.agg #[.int .i64 1, .string ⟨#[112]⟩, .slice none 0 0]), bFL fP, bSq fOr fP, fun y v _ => v = .tuple #[.agg #[.string ⟨#[]⟩, .int .i64 0, .string ⟨#[]⟩, .slice none 0 0, .slice none 0 0, .slice none 0 0, .slice none 0 0], y.c, .bool false, .agg #[.int .i64 0, .int .i64 0]], fun y v _ => v = .tuple #[.agg #[.string ⟨#[]⟩, .int .i64 0, .string ⟨#[]⟩, .slice none 0 0, .slice none 0 0, .slice none 0 0, .slice none 0 0], y.c, .bool false, .agg #[.int .i64 0, .int .i64 0]], fun _ v _ => v = (.agg #[.string ⟨#[]⟩, .int .i64 0, .string ⟨#[]⟩, .slice none 0 0, .slice none 0 0, .slice none 0 0, .slice none 0 0]), fun y v _ => v = y.c, fun _ v _ => v = (.bool false), fun _ v _ => v = (.agg #[.int .i64 0, .int .i64 0]), fun y v _ => v = .pointer (some ⟨y.g3, 0, none⟩), fun y v _ => v = .pointer (some ⟨y.g6, 0, none⟩), fun _ _ _ => True, fun y v _ => v = y.c, fun _ v _ => v = (.bool false), fun _ _ _ => True] (fun L j => !((j == 2 || j == 3 || j == 5 || j == 6) && L 7)) (fun L => StB W (L 7) (L 13) (L 14)) (⟨0, 0, .bool false⟩) ?_ ?_ ?_)
  · exact fun wx h _ => ⟨h, fun e => (by cases e), fun e => (by cases e), fun e => (by cases e)⟩
  · refine ⟨?_, ?_, ?_, ?_, ?_, ?_, ?_, ?_, ?_, ?_, ?_, ?_, ?_, ?_, ?_, ?_, ?_, ?_, ?_, trivial⟩
    · intro L y a wx hSt hLi hdl hcl hold hdep K hK
      have HSt : Hid (StB W (L 7) (L 13) (L 14) y wx) := hSt; clear hSt; have t1 : a.tmps[1]? = some (.pointer (some ⟨w2.heap.size, 0, none⟩)) := hold 1 rfl; obtain ⟨d0, d1, d2, -⟩ := blk3 (below_keep HSt.out.below P1.out); clear hold hdep hdl hcl hLi; go_simp; (exact hK.out _ _ y HSt.out rfl (fun j hj hl => ⟨hl, fun u h => h⟩))
    · intro L y a wx hSt hLi hdl hcl hold hdep K hK
      have HSt : Hid (StB W (L 7) (L 13) (L 14) y wx) := hSt; clear hSt; have t2 : a.tmps[2]? = some (.pointer (some ⟨w2.heap.size + 1, 0, none⟩)) := hold 2 rfl; obtain ⟨d0, d1, d2, -⟩ := blk3 (below_keep HSt.out.below P2.out); clear hold hdep hdl hcl hLi; go_simp; (exact hK.out _ _ y HSt.out rfl (fun j hj hl => ⟨hl, fun u h => h⟩))
    · intro L y a wx hSt hLi hdl hcl hold hdep K hK
      have HSt : Hid (StB W (L 7) (L 13) (L 14) y wx) := hSt; clear hSt; obtain ⟨v10, t10, q10⟩ := hdep 0 rfl _ 10 rfl rfl; have e10 : v10 = (.agg #[.int .i64 1, .string ⟨#[112]⟩, .slice none 0 0]) := q10 rfl; subst e10; obtain ⟨v11, t11, q11⟩ := hdep 1 rfl _ 11 rfl rfl; have e11 : v11 = (.agg #[.int .i64 1, .string ⟨#[113]⟩, .slice none 0 0]) := q11 rfl; subst e11; clear hold hdep hdl; go_simp; refine (HBo.out wx).mono ?_; rintro e w3 ⟨u, rfl, hu, hb3⟩; obtain ⟨sl9, cap9, rfl⟩ := slice_shape hu; refine hK.out _ _ y (HSt.out.up hb3) ⟨sl9, cap9, rfl, hu⟩ ?_; intro j hj hl
      rcases j with _ | _ | _ | _ | _ | _ | _ | _ | _ | _ | _ | _ | _ | _ | _ | _ | _ | _ | _ | j
      · exact ⟨hl, fun u h => h⟩
      · exact ⟨hl, fun u h => h⟩
      · exact Bool.noConfusion (hLi.symm.trans hj)
      · exact ⟨hl, fun u h => bFL_up (y := y) (y' := y) hb3 u h⟩
      · exact ⟨hl, fun u h => h⟩
      · exact ⟨hl, fun u h => bFL_up (y := y) (y' := y) hb3 u h⟩
      · exact ⟨hl, fun u h => bSq_up (y := y) (y' := y) hb3 u h⟩
      · exact ⟨hl, fun u h => h⟩
      · exact ⟨hl, fun u h => h⟩
      · exact ⟨hl, fun u h => h⟩
      · exact ⟨hl, fun u h => h⟩
      · exact ⟨hl, fun u h => h⟩
      · exact ⟨hl, fun u h => h⟩
      · exact ⟨hl, fun u h => h⟩
      · exact ⟨hl, fun u h => h⟩
      · exact ⟨hl, fun u h => h⟩
      · exact ⟨hl, fun u h => h⟩
      · exact ⟨hl, fun u h => h⟩
      · exact ⟨hl, fun u h => h⟩
      · exact ⟨hl, fun u h => h⟩
    · intro L y a wx hSt hLi hdl hcl hold hdep K hK
      have HSt : Hid (StB W (L 7) (L 13) (L 14) y wx) := hSt; clear hSt; (have e7 : L 7 = false := not_yet hLi fun h => hcl 6 _ rfl (hcl 7 _ rfl h 6 rfl) 3 rfl); obtain ⟨v12, t12, q12⟩ := hdep 2 rfl _ 12 rfl rfl; (obtain ⟨sl9, cap9, e12, hr12⟩ := q12 (by show (!(L 7)) = true; rw [e7]; rfl)); subst e12; (have HR : Hid (Rep wx (fun _ => True) fOr (.agg #[.int .i64 6, .string ⟨#[]⟩, .slice sl9 2 cap9])) := hr12); clear hold hdep hdl hr12; go_simp; have hb3 := below_more (Below.refl wx.heap.size wx) (.cells #[.int .i64 6, .string ⟨#[]⟩, .slice sl9 2 cap9] 29 (0, 0)); (refine hK.out _ _ y (HSt.out.up hb3) ⟨wx.heap.size, rfl, FL.sing (blk_new wx _) (HR.out.move fun b hl hp => ⟨hb3.block b hl, hp⟩)⟩ ?_); intro j hj hl
      rcases j with _ | _ | _ | _ | _ | _ | _ | _ | _ | _ | _ | _ | _ | _ | _ | _ | _ | _ | _ | j
      · exact ⟨hl, fun u h => h⟩
      · exact ⟨hl, fun u h => h⟩
      · exact ⟨hl, fun u h => bRep_up (y := y) (y' := y) hb3 u h⟩
      · exact Bool.noConfusion (hLi.symm.trans hj)
      · exact ⟨hl, fun u h => h⟩
      · exact ⟨hl, fun u h => bFL_up (y := y) (y' := y) hb3 u h⟩
      · exact ⟨hl, fun u h => bSq_up (y := y) (y' := y) hb3 u h⟩
      · exact ⟨hl, fun u h => h⟩
      · exact ⟨hl, fun u h => h⟩
      · exact ⟨hl, fun u h => h⟩
      · exact ⟨hl, fun u h => h⟩
      · exact ⟨hl, fun u h => h⟩
      · exact ⟨hl, fun u h => h⟩
      · exact ⟨hl, fun u h => h⟩
      · exact ⟨hl, fun u h => h⟩
      · exact ⟨hl, fun u h => h⟩
      · exact ⟨hl, fun u h => h⟩
      · exact ⟨hl, fun u h => h⟩
      · exact ⟨hl, fun u h => h⟩
      · exact ⟨hl, fun u h => h⟩
    · intro L y a wx hSt hLi hdl hcl hold hdep K hK
      have HSt : Hid (StB W (L 7) (L 13) (L 14) y wx) := hSt; clear hSt; have t1 : a.tmps[1]? = some (.pointer (some ⟨w2.heap.size, 0, none⟩)) := hold 1 rfl; obtain ⟨d0, d1, d2, -⟩ := blk3 (below_keep HSt.out.below P1.out); clear hold hdep hdl hcl hLi; go_simp; (exact hK.out _ _ y HSt.out rfl (fun j hj hl => ⟨hl, fun u h => h⟩))
    · intro L y a wx hSt hLi hdl hcl hold hdep K hK
      have HSt : Hid (StB W (L 7) (L 13) (L 14) y wx) := hSt; clear hSt; obtain ⟨v14, t14, q14⟩ := hdep 4 rfl _ 14 rfl rfl; have e14 : v14 = (.agg #[.int .i64 1, .string ⟨#[112]⟩, .slice none 0 0]) := q14 rfl; subst e14; clear hold hdep hdl; go_simp; have hb3 := below_more (Below.refl wx.heap.size wx) (.cells #[.int .i64 1, .string ⟨#[112]⟩, .slice none 0 0] 29 (0, 0)); (refine hK.out _ _ y (HSt.out.up hb3) ⟨wx.heap.size, rfl, FL.sing (blk_new wx _) (Rep.leaf (by simp [maxLen, ByteArray.size]))⟩ ?_); intro j hj hl
      rcases j with _ | _ | _ | _ | _ | _ | _ | _ | _ | _ | _ | _ | _ | _ | _ | _ | _ | _ | _ | j
      · exact ⟨hl, fun u h => h⟩
      · exact ⟨hl, fun u h => h⟩
      · exact ⟨hl, fun u h => bRep_up (y := y) (y' := y) hb3 u h⟩
      · exact ⟨hl, fun u h => bFL_up (y := y) (y' := y) hb3 u h⟩
      · exact ⟨hl, fun u h => h⟩
      · exact Bool.noConfusion (hLi.symm.trans hj)
      · exact ⟨hl, fun u h => bSq_up (y := y) (y' := y) hb3 u h⟩
      · exact ⟨hl, fun u h => h⟩
      · exact ⟨hl, fun u h => h⟩
      · exact ⟨hl, fun u h => h⟩
      · exact ⟨hl, fun u h => h⟩
      · exact ⟨hl, fun u h => h⟩
      · exact ⟨hl, fun u h => h⟩
      · exact ⟨hl, fun u h => h⟩
      · exact ⟨hl, fun u h => h⟩
      · exact ⟨hl, fun u h => h⟩
      · exact ⟨hl, fun u h => h⟩
      · exact ⟨hl, fun u h => h⟩
      · exact ⟨hl, fun u h => h⟩
      · exact ⟨hl, fun u h => h⟩
    · intro L y a wx hSt hLi hdl hcl hold hdep K hK
      have HSt : Hid (StB W (L 7) (L 13) (L 14) y wx) := hSt; clear hSt; (have e7 : L 7 = false := not_yet hLi fun h => hcl 7 _ rfl h 6 rfl); obtain ⟨v13, t13, q13⟩ := hdep 3 rfl _ 13 rfl rfl; (obtain ⟨g13, e13, h13⟩ := q13 (by show (!(L 7)) = true; rw [e7]; rfl)); subst e13; obtain ⟨v15, t15, q15⟩ := hdep 5 rfl _ 15 rfl rfl; (obtain ⟨g15, e15, h15⟩ := q15 (by show (!(L 7)) = true; rw [e7]; rfl)); subst e15; have HF1 : Hid (FL wx (.slice (some ⟨g13, 0, none⟩) 1 1) [fOr]) := h13; have HF2 : Hid (FL wx (.slice (some ⟨g15, 0, none⟩) 1 1) [fP]) := h15; clear hold hdep hdl hcl h13 h15; go_simp; (exact hK.out _ _ y HSt.out ⟨g13, g15, rfl, HF1.out, HF2.out⟩ (fun j hj hl => ⟨hl, fun u h => h⟩))
    · intro L y a wx hSt hLi hdl hcl hold hdep K hK
      have HSt : Hid (StB W (L 7) (L 13) (L 14) y wx) := hSt; clear hSt; obtain ⟨v16, t16, q16⟩ := hdep 6 rfl _ 16 rfl rfl; (obtain ⟨g13, g15, e16, h13, h15⟩ := q16 (by show (!(L 7)) = true; rw [hLi]; rfl)); subst e16; have HF1 : Hid (FL wx (.slice (some ⟨g13, 0, none⟩) 1 1) [fOr]) := h13; have HF2 : Hid (FL wx (.slice (some ⟨g15, 0, none⟩) 1 1) [fP]) := h15; clear hold hdep hdl h13 h15; go_simp; refine (HPv.out _ _ wx HF1.out HF2.out).mono ?_; rintro e w3 ⟨c9, rfl, htl, hb3⟩; refine hK.out _ _ { y with c := c9 } (HSt.out.prove hb3 htl) rfl ?_; intro j hj hl
      rcases j with _ | _ | _ | _ | _ | _ | _ | _ | _ | _ | _ | _ | _ | _ | _ | _ | _ | _ | _ | j
      · exact ⟨hl, fun u h => h⟩
      · exact ⟨hl, fun u h => h⟩
      · exact Bool.noConfusion (show (false : Bool) = true from hl)
      · exact Bool.noConfusion (show (false : Bool) = true from hl)
      · exact ⟨hl, fun u h => h⟩
      · exact Bool.noConfusion (show (false : Bool) = true from hl)
      · exact Bool.noConfusion (show (false : Bool) = true from hl)
      · exact Bool.noConfusion (hLi.symm.trans hj)
      · exact Bool.noConfusion (hLi.symm.trans (hcl 8 _ rfl hj 7 rfl))
      · exact Bool.noConfusion (hLi.symm.trans (hcl 8 _ rfl (hcl 9 _ rfl hj 8 rfl) 7 rfl))
      · exact Bool.noConfusion (hLi.symm.trans (hcl 8 _ rfl (hcl 10 _ rfl hj 8 rfl) 7 rfl))
      · exact Bool.noConfusion (hLi.symm.trans (hcl 8 _ rfl (hcl 11 _ rfl hj 8 rfl) 7 rfl))
      · exact Bool.noConfusion (hLi.symm.trans (hcl 8 _ rfl (hcl 12 _ rfl hj 8 rfl) 7 rfl))
      · exact ⟨hl, fun u h => h⟩
      · exact ⟨hl, fun u h => h⟩
      · exact ⟨hl, fun u h => h⟩
      · exact Bool.noConfusion (hLi.symm.trans (hcl 16 _ rfl hj 7 rfl))
      · exact ⟨hl, fun u h => h⟩
      · exact ⟨hl, fun u h => h⟩
      · exact ⟨hl, fun u h => h⟩
    · intro L y a wx hSt hLi hdl hcl hold hdep K hK
      have HSt : Hid (StB W (L 7) (L 13) (L 14) y wx) := hSt; clear hSt; obtain ⟨v17, t17, q17⟩ := hdep 7 rfl _ 17 rfl rfl; have e17 : v17 = (.tuple #[.agg #[.string ⟨#[]⟩, .int .i64 0, .string ⟨#[]⟩, .slice none 0 0, .slice none 0 0, .slice none 0 0, .slice none 0 0], y.c, .bool false, .agg #[.int .i64 0, .int .i64 0]]) := q17 rfl; subst e17; clear hold hdep hdl hcl hLi; go_simp; (exact hK.out _ _ y HSt.out rfl (fun j hj hl => ⟨hl, fun u h => h⟩))
    · intro L y a wx hSt hLi hdl hcl hold hdep K hK
      have HSt : Hid (StB W (L 7) (L 13) (L 14) y wx) := hSt; clear hSt; obtain ⟨v9, t9, q9⟩ := hdep 8 rfl _ 9 rfl rfl; have e9 : v9 = (.tuple #[.agg #[.string ⟨#[]⟩, .int .i64 0, .string ⟨#[]⟩, .slice none 0 0, .slice none 0 0, .slice none 0 0, .slice none 0 0], y.c, .bool false, .agg #[.int .i64 0, .int .i64 0]]) := q9 rfl; subst e9; clear hold hdep hdl hcl hLi; go_simp; (exact hK.out _ _ y HSt.out rfl (fun j hj hl => ⟨hl, fun u h => h⟩))
    · intro L y a wx hSt hLi hdl hcl hold hdep K hK
      have HSt : Hid (StB W (L 7) (L 13) (L 14) y wx) := hSt; clear hSt; obtain ⟨v9, t9, q9⟩ := hdep 8 rfl _ 9 rfl rfl; have e9 : v9 = (.tuple #[.agg #[.string ⟨#[]⟩, .int .i64 0, .string ⟨#[]⟩, .slice none 0 0, .slice none 0 0, .slice none 0 0, .slice none 0 0], y.c, .bool false, .agg #[.int .i64 0, .int .i64 0]]) := q9 rfl; subst e9; clear hold hdep hdl hcl hLi; go_simp; (exact hK.out _ _ y HSt.out rfl (fun j hj hl => ⟨hl, fun u h => h⟩))
    · intro L y a wx hSt hLi hdl hcl hold hdep K hK
      have HSt : Hid (StB W (L 7) (L 13) (L 14) y wx) := hSt; clear hSt; obtain ⟨v9, t9, q9⟩ := hdep 8 rfl _ 9 rfl rfl; have e9 : v9 = (.tuple #[.agg #[.string ⟨#[]⟩, .int .i64 0, .string ⟨#[]⟩, .slice none 0 0, .slice none 0 0, .slice none 0 0, .slice none 0 0], y.c, .bool false, .agg #[.int .i64 0, .int .i64 0]]) := q9 rfl; subst e9; clear hold hdep hdl hcl hLi; go_simp; (exact hK.out _ _ y HSt.out rfl (fun j hj hl => ⟨hl, fun u h => h⟩))
    · intro L y a wx hSt hLi hdl hcl hold hdep K hK
      have HSt : Hid (StB W (L 7) (L 13) (L 14) y wx) := hSt; clear hSt; obtain ⟨v9, t9, q9⟩ := hdep 8 rfl _ 9 rfl rfl; have e9 : v9 = (.tuple #[.agg #[.string ⟨#[]⟩, .int .i64 0, .string ⟨#[]⟩, .slice none 0 0, .slice none 0 0, .slice none 0 0, .slice none 0 0], y.c, .bool false, .agg #[.int .i64 0, .int .i64 0]]) := q9 rfl; subst e9; clear hold hdep hdl hcl hLi; go_simp; (exact hK.out _ _ y HSt.out rfl (fun j hj hl => ⟨hl, fun u h => h⟩))
    · intro L y a wx hSt hLi hdl hcl hold hdep K hK
      have HSt : Hid (StB W (L 7) (L 13) (L 14) y wx) := hSt; clear hSt; clear hold hdep hdl; go_simp; have hb3 := below_more (Below.refl wx.heap.size wx) (.cells #[.string ⟨#[]⟩, .int .i64 0, .string ⟨#[]⟩, .slice none 0 0, .slice none 0 0, .slice none 0 0, .slice none 0 0] 32 (0, 0)); refine hK.out _ _ { y with g3 := wx.heap.size } HSt.out.box3 rfl ?_; intro j hj hl
      rcases j with _ | _ | _ | _ | _ | _ | _ | _ | _ | _ | _ | _ | _ | _ | _ | _ | _ | _ | _ | j
      · exact ⟨hl, fun u h => h⟩
      · exact ⟨hl, fun u h => h⟩
      · exact ⟨hl, fun u h => bRep_up (y := y) (y' := y) hb3 u h⟩
      · exact ⟨hl, fun u h => bFL_up (y := y) (y' := y) hb3 u h⟩
      · exact ⟨hl, fun u h => h⟩
      · exact ⟨hl, fun u h => bFL_up (y := y) (y' := y) hb3 u h⟩
      · exact ⟨hl, fun u h => bSq_up (y := y) (y' := y) hb3 u h⟩
      · exact ⟨hl, fun u h => h⟩
      · exact ⟨hl, fun u h => h⟩
      · exact ⟨hl, fun u h => h⟩
      · exact ⟨hl, fun u h => h⟩
      · exact ⟨hl, fun u h => h⟩
      · exact ⟨hl, fun u h => h⟩
      · exact Bool.noConfusion (hLi.symm.trans hj)
      · exact ⟨hl, fun u h => h⟩
      · exact ⟨hl, fun u h => h⟩
      · exact ⟨hl, fun u h => h⟩
      · exact ⟨hl, fun u h => h⟩
      · exact ⟨hl, fun u h => h⟩
      · exact ⟨hl, fun u h => h⟩
    · intro L y a wx hSt hLi hdl hcl hold hdep K hK
      have HSt : Hid (StB W (L 7) (L 13) (L 14) y wx) := hSt; clear hSt; clear hold hdep hdl; go_simp; have hb3 := below_more (Below.refl wx.heap.size wx) (.cells #[.int .i64 0, .int .i64 0] 35 (0, 0)); refine hK.out _ _ { y with g6 := wx.heap.size } HSt.out.box6 rfl ?_; intro j hj hl
      rcases j with _ | _ | _ | _ | _ | _ | _ | _ | _ | _ | _ | _ | _ | _ | _ | _ | _ | _ | _ | j
      · exact ⟨hl, fun u h => h⟩
      · exact ⟨hl, fun u h => h⟩
      · exact ⟨hl, fun u h => bRep_up (y := y) (y' := y) hb3 u h⟩
      · exact ⟨hl, fun u h => bFL_up (y := y) (y' := y) hb3 u h⟩
      · exact ⟨hl, fun u h => h⟩
      · exact ⟨hl, fun u h => bFL_up (y := y) (y' := y) hb3 u h⟩
      · exact ⟨hl, fun u h => bSq_up (y := y) (y' := y) hb3 u h⟩
      · exact ⟨hl, fun u h => h⟩
      · exact ⟨hl, fun u h => h⟩
      · exact ⟨hl, fun u h => h⟩
      · exact ⟨hl, fun u h => h⟩
      · exact ⟨hl, fun u h => h⟩
      · exact ⟨hl, fun u h => h⟩
      · exact ⟨hl, fun u h => h⟩
      · exact Bool.noConfusion (hLi.symm.trans hj)
      · exact ⟨hl, fun u h => h⟩
      · exact ⟨hl, fun u h => h⟩
      · exact ⟨hl, fun u h => h⟩
      · exact ⟨hl, fun u h => h⟩
      · exact ⟨hl, fun u h => h⟩
    · intro L y a wx hSt hLi hdl hcl hold hdep K hK
      have HSt : Hid (StB W (L 7) (L 13) (L 14) y wx) := hSt; clear hSt; have e7 := hdl 7 rfl; have e13 := hdl 13 rfl; obtain ⟨v3, t3, q3⟩ := hdep 13 rfl _ 3 rfl rfl; have e3 : v3 = (.pointer (some ⟨y.g3, 0, none⟩)) := q3 rfl; subst e3; obtain ⟨v18, t18, q18⟩ := hdep 9 rfl _ 18 rfl rfl; have e18 : v18 = (.agg #[.string ⟨#[]⟩, .int .i64 0, .string ⟨#[]⟩, .slice none 0 0, .slice none 0 0, .slice none 0 0, .slice none 0 0]) := q18 rfl; subst e18; have hbx := (HSt.out.b3 e13).2; obtain ⟨y0, y1, y2, y3, y4, y5, y6⟩ := blk7 hbx; obtain ⟨f0, f1, f2, f3, f4, f5, f6⟩ := blk7f hbx; clear hold hdep hdl hcl hbx; go_simp; obtain ⟨w9, hw9⟩ : ∃ w9, w9 = sev7 wx y.g3 (.string ⟨#[]⟩) (.int .i64 0) (.string ⟨#[]⟩) (.slice none 0 0) (.slice none 0 0) (.slice none 0 0) (.slice none 0 0) := ⟨_, rfl⟩
      change K a (sev7 wx y.g3 (.string ⟨#[]⟩) (.int .i64 0) (.string ⟨#[]⟩) (.slice none 0 0) (.slice none 0 0) (.slice none 0 0) (.slice none 0 0))
      have hS9 := HSt.out.put3 e13; rw [← hw9]; rw [← hw9] at hS9; clear hw9; refine hK.out (.bool false) _ _ hS9 trivial ?_; intro j hj hl
      rcases j with _ | _ | _ | _ | _ | _ | _ | _ | _ | _ | _ | _ | _ | _ | _ | _ | _ | _ | _ | j
      · exact ⟨hl, fun u h => h⟩
      · exact ⟨hl, fun u h => h⟩
      · exact absurd (show (!(L 7)) = true from hl) (by rw [e7]; exact Bool.noConfusion)
      · exact absurd (show (!(L 7)) = true from hl) (by rw [e7]; exact Bool.noConfusion)
      · exact ⟨hl, fun u h => h⟩
      · exact absurd (show (!(L 7)) = true from hl) (by rw [e7]; exact Bool.noConfusion)
      · exact absurd (show (!(L 7)) = true from hl) (by rw [e7]; exact Bool.noConfusion)
      · exact ⟨hl, fun u h => h⟩
      · exact ⟨hl, fun u h => h⟩
      · exact ⟨hl, fun u h => h⟩
      · exact ⟨hl, fun u h => h⟩
      · exact ⟨hl, fun u h => h⟩
      · exact ⟨hl, fun u h => h⟩
      · exact ⟨hl, fun u h => h⟩
      · exact ⟨hl, fun u h => h⟩
      · exact ⟨hl, fun u h => h⟩
      · exact ⟨hl, fun u h => h⟩
      · exact ⟨hl, fun u h => h⟩
      · exact ⟨hl, fun u h => h⟩
      · exact ⟨hl, fun u h => h⟩
    · intro L y a wx hSt hLi hdl hcl hold hdep K hK
      have HSt : Hid (StB W (L 7) (L 13) (L 14) y wx) := hSt; clear hSt; obtain ⟨v19, t19, q19⟩ := hdep 10 rfl _ 19 rfl rfl; have e19 : v19 = y.c := q19 rfl; subst e19; clear hold hdep hdl hcl hLi; go_simp; (exact hK.out _ _ y HSt.out rfl (fun j hj hl => ⟨hl, fun u h => h⟩))
    · intro L y a wx hSt hLi hdl hcl hold hdep K hK
      have HSt : Hid (StB W (L 7) (L 13) (L 14) y wx) := hSt; clear hSt; obtain ⟨v20, t20, q20⟩ := hdep 11 rfl _ 20 rfl rfl; have e20 : v20 = (.bool false) := q20 rfl; subst e20; clear hold hdep hdl hcl hLi; go_simp; (exact hK.out _ _ y HSt.out rfl (fun j hj hl => ⟨hl, fun u h => h⟩))
    · intro L y a wx hSt hLi hdl hcl hold hdep K hK
      have HSt : Hid (StB W (L 7) (L 13) (L 14) y wx) := hSt; clear hSt; have e7 := hdl 7 rfl; have e14 := hdl 14 rfl; obtain ⟨v6, t6, q6⟩ := hdep 14 rfl _ 6 rfl rfl; have e6 : v6 = (.pointer (some ⟨y.g6, 0, none⟩)) := q6 rfl; subst e6; obtain ⟨v21, t21, q21⟩ := hdep 12 rfl _ 21 rfl rfl; have e21 : v21 = (.agg #[.int .i64 0, .int .i64 0]) := q21 rfl; subst e21; have hbx := (HSt.out.b6 e14).2; obtain ⟨y0, y1, f0, f1⟩ := blk2 hbx; clear hold hdep hdl hcl hbx; go_simp; obtain ⟨w9, hw9⟩ : ∃ w9, w9 = (wx.setCell ⟨y.g6, 0, none⟩ (.int .i64 0)).setCell ⟨y.g6, 1, none⟩ (.int .i64 0) := ⟨_, rfl⟩; have hS9 := HSt.out.put6 e14; rw [← hw9]; rw [← hw9] at hS9; clear hw9; refine hK.out (.bool false) _ _ hS9 trivial ?_; intro j hj hl
      rcases j with _ | _ | _ | _ | _ | _ | _ | _ | _ | _ | _ | _ | _ | _ | _ | _ | _ | _ | _ | j
      · exact ⟨hl, fun u h => h⟩
      · exact ⟨hl, fun u h => h⟩
      · exact absurd (show (!(L 7)) = true from hl) (by rw [e7]; exact Bool.noConfusion)
      · exact absurd (show (!(L 7)) = true from hl) (by rw [e7]; exact Bool.noConfusion)
      · exact ⟨hl, fun u h => h⟩
      · exact absurd (show (!(L 7)) = true from hl) (by rw [e7]; exact Bool.noConfusion)
      · exact absurd (show (!(L 7)) = true from hl) (by rw [e7]; exact Bool.noConfusion)
      · exact ⟨hl, fun u h => h⟩
      · exact ⟨hl, fun u h => h⟩
      · exact ⟨hl, fun u h => h⟩
      · exact ⟨hl, fun u h => h⟩
      · exact ⟨hl, fun u h => h⟩
      · exact ⟨hl, fun u h => h⟩
      · exact ⟨hl, fun u h => h⟩
      · exact ⟨hl, fun u h => h⟩
      · exact ⟨hl, fun u h => h⟩
      · exact ⟨hl, fun u h => h⟩
      · exact ⟨hl, fun u h => h⟩
      · exact ⟨hl, fun u h => h⟩
      · exact ⟨hl, fun u h => h⟩
  · intro L y a wx hall hSt hsz hdf hold hgot
    have e7 : L 7 = true := hall 7 (Nat.le_of_ble_eq_true rfl); have e13 : L 13 = true := hall 13 (Nat.le_of_ble_eq_true rfl); have e14 : L 14 = true := hall 14 (Nat.le_of_ble_eq_true rfl); have hS : StB W (L 7) (L 13) (L 14) y wx := hSt; rw [e7, e13, e14] at hS; obtain ⟨v6, t6, q6⟩ := hgot 14 _ 6 rfl rfl; have e6' : v6 = .pointer (some ⟨y.g6, 0, none⟩) := q6 rfl; subst e6'; obtain ⟨v4, t4, q4⟩ := hgot 16 _ 4 rfl rfl; have e4' : v4 = y.c := q4 rfl; subst e4'; obtain ⟨v5, t5, q5⟩ := hgot 17 _ 5 rfl rfl; have e5' : v5 = .bool false := q5 rfl; subst e5'; obtain ⟨tm, df⟩ := a; (obtain ⟨ys, zs, hys, hzs, htm, rfl⟩ := frame_two 3 4 2 13 7 9 22 rfl rfl rfl (by kernel_rfl) (Nat.le_of_ble_eq_true rfl) ⟨hsz, hdf, hold⟩); obtain ⟨x3, x4, x5, x6, rfl⟩ := rowOf4 ys hys; obtain ⟨x9, x10, x11, x12, x13, x14, x15, x16, x17, x18, x19, x20, x21, rfl⟩ := rowOf13 zs hzs; simp only [List.take_succ_cons, List.take_zero, List.drop_succ_cons, List.drop_zero, List.cons_append, List.nil_append] at htm; subst htm; obtain rfl : x6 = _ := someInj t6; obtain rfl : x4 = _ := someInj t4; obtain rfl : x5 = _ := someInj t5; have HTl : Hid (TL wx y.c [[113]]) := hS.tl rfl; have HB6 : Hid (wx.heap[y.g6]? = some (.cells #[.int .i64 0, .int .i64 0] 35 (0, 0))) := (hS.b6 rfl).2; have HBx : Hid (Below w.heap.size w wx) := below_join HBW.out hS.below; clear hys hzs hold hgot hall hSt hsz hdf e7 e13 e14 t6 q6 t4 q4 t5 q5 hS; obtain ⟨g3, g6, c⟩ := y; have HTc := HTl.out; obtain ⟨adc, cpc, hvc, -⟩ := HTc; have hvc' : c = .slice adc 1 cpc := hvc; subst hvc'; obtain ⟨m0, m1, -⟩ := blk2 HB6.out; clear hvc; go_wp2_with fail
    have hTn : TL (wx.alloc (.cells #[.string ⟨#[113]⟩] 9 (0, 0))) (.slice (some ⟨wx.heap.size, 0, none⟩) 1 1) [[113]] := ⟨_, 1, rfl, Nat.le_refl _, by simp [maxLen], fun _ => ⟨wx.heap.size, rfl, fun j t ht => by
      rw [blk_cell (blk_new wx _)]
      match j, ht with
      | 0, ht => simp at ht; rw [← ht]; rfl
      | j + 1, ht => simp at ht⟩⟩
    have hb9 := below_more (Below.refl wx.heap.size wx) (.cells #[.string ⟨#[113]⟩] 9 (0, 0)); (refine (texts_same [[113]] _ _ _ (HTl.out.keep fun b hl => hb9.block b hl) hTn).mono ?_); rintro e w9 ⟨rfl, hbx⟩; have B9 := below_join (below_join HBx.out hb9) hbx; clear hbx hTn hb9; go_wp2_with fail; go_ret; exact ⟨rfl, B9⟩
end Go.Proofs.YtalnljnincnbdacGreat
