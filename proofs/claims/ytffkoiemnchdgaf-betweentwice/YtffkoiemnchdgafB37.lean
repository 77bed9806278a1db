/- Texts of one proof, one behind the other: BW9. -/
import Derived.Test.YtffkoiemnchdgafB36
/- Walks: what a formula says of names (projected). -/
namespace Go.Proofs.Ytffkoiemnchdgaf
open Go.RowKit Go.Sort

theorem KS.move {B : Nat} {w w' : World} {ad : Option Addr} {cy : Nat} {L : List (List UInt8)} (h : KS B w ad cy L) (hb : ∀ b, (Value.slice ad L.length cy).ownBlock = some b → w'.heap[b]? = w.heap[b]?) : KS B w' ad cy L := by
  rcases h.2 with ⟨h1, h2⟩ | ⟨g, cap, cur, h1, h2, h3, h4⟩
  · exact ⟨h.1, Or.inl ⟨h1, h2⟩⟩
  · refine ⟨h.1, Or.inr ⟨g, cap, cur, h1, h2, ?_, h4⟩⟩
    (rw [hb g (by rw [h1]; rfl)]; exact h3)

/-- Two lists that are made side by side, the second one in a variable of its own. -/
structure TwoS (wN : World) (s2 : Nat) (K O : List (List UInt8)) (ad1 : Option Addr) (cy1 : Nat) (ad2 : Option Addr) (cy2 : Nat) (wr : World) : Prop where
  kept : Kept (fun b => b ≠ s2) wN wr
  k : KS wN.heap.size wr ad1 cy1 K
  o : KS wN.heap.size wr ad2 cy2 O
  ne : ∀ b, (Value.slice ad1 K.length cy1).ownBlock = some b → (Value.slice ad2 O.length cy2).ownBlock ≠ some b
  var : wr.heap[s2]? = some (.cells #[.slice ad2 O.length cy2] 25 (0, 0))
  lt : s2 < wN.heap.size
section
variable {wN wr w3 : World} {s2 cy1 cy2 cp3 : Nat} {K O M : List (List UInt8)} {ad1 ad2 ad3 : Option Addr} {ob : Obj}
theorem TwoS.k1 (h : TwoS wN s2 K O ad1 cy1 ad2 cy2 wr) (hown : KS wN.heap.size w3 ad3 cp3 M) (hk : Kept (fun b => (Value.slice ad1 K.length cy1).ownBlock ≠ some b) (wr.alloc ob) w3) (hat : ∀ b, (Value.slice ad3 M.length cp3).ownBlock = some b → (Value.slice ad1 K.length cy1).ownBlock = some b ∨ ((wr.alloc ob).heap.size ≤ b ∧ b < w3.heap.size)) : TwoS wN s2 M O ad3 cp3 ad2 cy2 w3 := by
  (have hsz : (wr.alloc ob).heap.size = wr.heap.size + 1 := by simp); (have hka : ∀ b, b < wr.heap.size → (Value.slice ad1 K.length cy1).ownBlock ≠ some b → w3.heap[b]? = wr.heap[b]? := fun b hb hn => (hk.block b (by omega) hn).trans (Below.heap_alloc _ _ _ hb)); have hs := h.kept.size; (have ho : ∀ b, (Value.slice ad2 O.length cy2).ownBlock = some b → b < wr.heap.size ∧ (Value.slice ad1 K.length cy1).ownBlock ≠ some b := fun b hb => ⟨(World.ownsRow.lt h.o b hb).2, fun e => h.ne b e hb⟩); have hl := h.lt; (refine ⟨?_, hown, h.o.move fun b hb => hka b (ho b hb).1 (ho b hb).2, fun b hb hb2 => ?_, (hka s2 (by omega) fun e => by have := (World.ownsRow.lt h.k s2 e).1; omega).trans h.var, h.lt⟩)
  · exact ⟨hk.os.trans h.kept.os, hk.tape.trans h.kept.tape, hk.output.trans h.kept.output, by have := hk.size; omega, fun b hb hn => (hka b (by omega) fun e => by have := (World.ownsRow.lt h.k b e).1; omega).trans (h.kept.block b hb hn)⟩
  · rcases hat b hb with h1 | h1
    · exact h.ne b h1 hb2
    · have := (ho b hb2).1; omega
theorem TwoS.o1 (h : TwoS wN s2 K O ad1 cy1 ad2 cy2 wr) (hown : KS wN.heap.size w3 ad3 cp3 M) (hk : Kept (fun b => (Value.slice ad2 O.length cy2).ownBlock ≠ some b) (wr.alloc ob) w3) (hat : ∀ b, (Value.slice ad3 M.length cp3).ownBlock = some b → (Value.slice ad2 O.length cy2).ownBlock = some b ∨ ((wr.alloc ob).heap.size ≤ b ∧ b < w3.heap.size)) : TwoS wN s2 K M ad1 cy1 ad3 cp3 (w3.setCell ⟨s2, 0, none⟩ (.slice ad3 M.length cp3)) := by
  (have hsz : (wr.alloc ob).heap.size = wr.heap.size + 1 := by simp); (have hka : ∀ b, b < wr.heap.size → (Value.slice ad2 O.length cy2).ownBlock ≠ some b → w3.heap[b]? = wr.heap[b]? := fun b hb hn => (hk.block b (by omega) hn).trans (Below.heap_alloc _ _ _ hb)); have hs := h.kept.size; have hl := h.lt; (have hv := (hka s2 (by omega) fun e => by have := (World.ownsRow.lt h.o s2 e).1; omega).trans h.var); (have far : ∀ b, b ≠ s2 → (w3.setCell ⟨s2, 0, none⟩ (.slice ad3 M.length cp3)).heap[b]? = w3.heap[b]? := fun b hb => Below.heap_setCell _ _ _ _ (by simpa using hb)); (have hk1 : ∀ b, (Value.slice ad1 K.length cy1).ownBlock = some b → b < wr.heap.size ∧ (Value.slice ad2 O.length cy2).ownBlock ≠ some b ∧ b ≠ s2 := fun b hb => ⟨(World.ownsRow.lt h.k b hb).2, h.ne b hb, by have := (World.ownsRow.lt h.k b hb).1; omega⟩); (refine ⟨?_, h.k.move fun b hb => (far b (hk1 b hb).2.2).trans (hka b (hk1 b hb).1 (hk1 b hb).2.1), hown.move fun b hb => far b (by have := (World.ownsRow.lt hown b hb).1; omega), fun b hb hb2 => ?_, set1 hv _, h.lt⟩)
  · exact ⟨hk.os.trans h.kept.os, hk.tape.trans h.kept.tape, hk.output.trans h.kept.output, by have := hk.size; simp [World.setCell]; omega, fun b hb hn => ((far b hn).trans (hka b (by omega) fun e => by have := (World.ownsRow.lt h.o b e).1; omega)).trans (h.kept.block b hb hn)⟩
  · rcases hat b hb2 with h1 | h1
    · exact h.ne b hb h1
    · have := (hk1 b hb).1; omega
end
/-- What projected answers. -/
def projF (f : Fm) (l : List (List UInt8)) : Fm := writL (fun held => someL (tvL f) ((nmsU f).filter fun t => !decide (t ∈ l)) held) ((nmsU f).filter fun t => decide (t ∈ l)) []

set_option maxRecDepth 10000 in
set_option maxHeartbeats 8000000 in
theorem projected_any (f : Fm) (hp : f.pcode.1 = 0) (l : List (List UInt8)) (v u : Value) (w : World) (hrep : Rep w (fun _ => True) f v) (hu : SL w u l) :
    Calls Try.prog 41 #[v, u] w fun e w' => ∃ x, e = .returned x ∧ Rep w' (fun c => w.heap.size ≤ c) (projF f l) x ∧ Below w.heap.size w w' := by
  (have hnm := fun v W h => namesOf_any f hp v W h); have hnn : ∀ t ∈ nmsU f, isNm t = true := nmsU_nm (pc_fine hp).1; have hln := nmsU_len hp; unfold projF
  have HWr : Hid (∀ (K O : List (List UInt8)) (bf bo b9 : Nat) (ad : Option Addr) (cp : Nat) (W : World), K = (nmsU f).filter (fun t => decide (t ∈ l)) → O = (nmsU f).filter (fun t => !decide (t ∈ l)) → OkP bf bo b9 f O W → SL W (.slice ad K.length cp) K → Calls Try.prog 74 #[.slice ad K.length cp, .slice none 0 0, .func (.func 73) #[] #[.pointer (some ⟨bo, 0, none⟩), .pointer (some ⟨b9, 0, none⟩)]] W fun e w' => ∃ x, e = .returned x ∧ Rep w' (fun c => W.heap.size ≤ c) (writL (fun held => someL (tvL f) ((nmsU f).filter fun t => !decide (t ∈ l)) held) ((nmsU f).filter fun t => decide (t ∈ l)) []) x ∧ Below W.heap.size W w') := fun K O bf bo b9 ad cp W hK hO hok hsl => by
    (have hOl : O.length ≤ 500 := by rw [hO]; exact Nat.le_trans (List.length_filter_le _ _) (by omega)); (have hKl : K.length ≤ 500 := by rw [hK]; exact Nat.le_trans (List.length_filter_le _ _) (by omega)); (have := writ_all (asksP f hp O hOl (fun t ht => hnn t (by rw [hO] at ht; exact (List.mem_filter.1 ht).1)) bf bo b9) K [] _ (.slice none 0 0) W ⟨by simpa using hKl, fun t ht => hnn t (by rw [List.nil_append, hK] at ht; exact (List.mem_filter.1 ht).1)⟩ hsl (SL.nil0 (by simp [maxLen])) hok); rw [← hK, ← hO]; exact this
  generalize writL _ _ _ = D at *; have HUl : Hid ((nmsU f).length ≤ 200) := hln; generalize nmsU f = U at *; obtain ⟨k, n, ks⟩ := f; obtain ⟨sl, cap, rfl⟩ := slice_shape hrep; (have HR : Hid (Rep w (fun _ => True) (.mk k n ks) (.agg #[.int .i64 k, .string n, .slice sl ks.length cap])) := hrep); have HU : Hid (SL w u l) := hu; obtain ⟨adu, cpu, rfl, -⟩ := hu; (have HN : Hid (∀ v W, Rep W (fun _ => True) (.mk k n ks) v → Calls Try.prog 67 #[v] W _) := hnm); clear hnm hrep hp hnn hln
  go_enter Try.func41, Try.ntmps41
  go_wp2_with fail; obtain ⟨p0, p1, p2, psz, PB⟩ := chain3 w (.cells #[.int .i64 k, .string n, .slice sl ks.length cap] 24 (0, 0)) (.cells #[.int .i64 0, .string ⟨#[]⟩, .slice none 0 0] 24 (0, 0)) (.cells #[.slice none 0 0] 25 (0, 0)); refine (HN.out _ _ (HR.out.up PB)).mono ?_; rintro e wN ⟨adn, cpn, rfl, hsn, hbN⟩; have HQ0 : Hid (wN.heap[w.heap.size]? = some (.cells #[.int .i64 k, .string n, .slice sl ks.length cap] 24 (0, 0))) := below_keep hbN p0; have HQ1 : Hid (wN.heap[w.heap.size + 1]? = some (.cells #[.int .i64 0, .string ⟨#[]⟩, .slice none 0 0] 24 (0, 0))) := below_keep hbN p1; have HQ2 : Hid (wN.heap[w.heap.size + 1 + 1]? = some (.cells #[.slice none 0 0] 25 (0, 0))) := below_keep hbN p2; have HBN : Hid (Below w.heap.size w wN) := below_join PB hbN; have HSn : Hid (SL wN (.slice adn U.length cpn) U) := hsn; (have HT0 : Hid (TwoS wN (w.heap.size + 1 + 1) [] [] none 0 none 0 wN) := ⟨Kept.refl _ _, KS.nil, KS.nil, fun b h => by simp [Value.ownBlock] at h, HQ2.out, lt_of_block HQ2.out⟩); obtain ⟨adn', cpn', en, hn1, hn2, hn3⟩ := hsn; simp only [Value.slice.injEq, true_and] at en; obtain ⟨rfl, rfl⟩ := en; have HSc : Hid (U ≠ [] → ∃ g off, adn = some ⟨g, off, none⟩ ∧ ∀ (j : Nat) (t : List UInt8), U[j]? = some t → wN.cell? ⟨g, off + j, none⟩ = some (.string ⟨t.toArray⟩)) := hn3; (have hUI : (U.length : Int) ≤ 200 := by have := HUl.out; omega); (have hUc : (U.length : Int) ≤ (cpn : Int) := by omega); clear hbN PB p0 p1 p2 psz hn1 hn2 hn3; obtain ⟨i0, hi, hz0, hz1, hz2⟩ := infoText; go_wp2_with fail
  go_loopg [14, 5] U.length (fun g c o wr => ∃ i K O ad1 cy1 ad2 cy2, i ≤ U.length ∧ g = U.length - i ∧ c = .int .i64 (i : Nat) ∧ o = .slice ad1 K.length cy1 ∧ Hid (TwoS wN (w.heap.size + 1 + 1) K O ad1 cy1 ad2 cy2 wr) ∧ Hid (K = (U.take i).filter (fun t => decide (t ∈ l)) ∧ O = (U.take i).filter (fun t => !decide (t ∈ l))))
  case atStart => exact ⟨0, [], [], none, 0, none, 0, by omega, by omega, rfl, rfl, HT0, by simp, by simp⟩
  case round =>
    obtain ⟨i, K, O, ad1, cy1, ad2, cy2, hile, hg, rfl, rfl, HT, HE⟩ := hrel; have HG : Hid (gk = U.length - i) := hg; clear hg; (have HBw : Hid (Below w.heap.size w wr) := HBN.out.trans (HT.out.kept.below HBN.out.size fun b hb => by omega)); by_cases hlt : i < U.length
    · obtain ⟨t, ht⟩ : ∃ x, U[i]? = some x := ⟨_, List.getElem?_eq_getElem hlt⟩
      (obtain ⟨gn, offn, rfl, hcn⟩ := HSc.out (fun e => by rw [e] at hlt; simp at hlt)); have hc0 := hcn i t ht
      have hne : gn ≠ w.heap.size + 1 + 1 := fun e => by
        rw [e, blk_cell HQ2.out] at hc0
        rcases hoi : offn + i with _ | m
        · rw [hoi] at hc0; simp at hc0
        · rw [hoi] at hc0; simp at hc0
      have g0 : wr.cell? ⟨gn, offn + i, none⟩ = some (.string ⟨t.toArray⟩) := (cell_of_block (a := ⟨gn, offn + i, none⟩) (HT.out.kept.block gn (lt_of_cell hc0) hne)).trans hc0; (have hltI : (i : Int) < (U.length : Int) := by omega); (have hlc : (i : Int) < (cpn : Int) := by omega); have HCo : Hid (Calls Try.prog 71 #[.slice adu l.length cpu, .string ⟨t.toArray⟩] wr _) := containsS_any l t _ wr (HU.out.up HBw.out); (have HSz : Hid (wN.heap.size ≤ (wr.alloc (.cells #[.string ⟨t.toArray⟩] 9 (0, 0))).heap.size) := by have := HT.out.kept.size; show _ ≤ _; simp; omega)
      have HLk : Hid (K.length ≤ 200 ∧ O.length ≤ 200) := by
        have h1 := HUl.out; (have h2 : (U.take i).length ≤ U.length := by simp; omega); rw [HE.out.1, HE.out.2]; (exact ⟨Nat.le_trans (List.length_filter_le _ _) (by omega), Nat.le_trans (List.length_filter_le _ _) (by omega)⟩)
      have HX : Hid (U[i]? = some t) := ht; have HI : Hid (i < U.length) := hlt; obtain ⟨v0, v1⟩ := blk1 HT.out.var; have y2 := lt_of_block HT.out.var; clear hcn hc0 ht hne hlt hile; by_cases hm : t ∈ l
      · have HE1 : Hid (K ++ [t] = (U.take (i + 1)).filter (fun t => decide (t ∈ l)) ∧ O = (U.take (i + 1)).filter (fun t => !decide (t ∈ l))) := by
          rw [List.take_add_one, HX.out]; (exact ⟨by rw [HE.out.1]; simp [hm], by rw [HE.out.2]; simp [hm]⟩)
        rw [decide_eq_true hm] at HCo; clear hm; go_wp2_with fail; refine HCo.out.mono ?_; rintro e w1 ⟨rfl, hw1⟩; have hw1' := hw1.symm; subst hw1'
        go_wp2_with (first
          | (at_builtin
             (refine wpList_appS rfl _ _ rfl wN.heap.size K [t] ad1 cy1 _ rfl (HT.out.k.up ((Below.refl _ _).alloc (Nat.le_refl _) _)) rfl (SL.one (blk_new wr _)) HSz.out (by have := HLk.out; simp; omega) ?_); intro ad3 cp3 w3 hown3 hk3 hat3; have HT3 : Hid (TwoS wN (w.heap.size + 1 + 1) (K ++ [t]) O ad3 cp3 ad2 cy2 w3) := HT.out.k1 hown3 hk3 hat3
             clear hown3 hk3 hat3)
          | fail)
        go_roundg (U.length - (i + 1))
        case measure => have := HG.out; have := HI.out; omega
        case rel => exact ⟨i + 1, K ++ [t], O, ad3, cp3, ad2, cy2, HI.out, rfl, by go_num, by simp, HT3, HE1⟩
      · have HE1 : Hid (K = (U.take (i + 1)).filter (fun t => decide (t ∈ l)) ∧ O ++ [t] = (U.take (i + 1)).filter (fun t => !decide (t ∈ l))) := by
          rw [List.take_add_one, HX.out]; (exact ⟨by rw [HE.out.1]; simp [hm], by rw [HE.out.2]; simp [hm]⟩)
        rw [decide_eq_false hm] at HCo; clear hm; go_wp2_with fail; refine HCo.out.mono ?_; rintro e w1 ⟨rfl, hw1⟩; have hw1' := hw1.symm; subst hw1'
        go_wp2_with (first
          | (at_builtin
             (refine wpList_appS rfl _ _ rfl wN.heap.size O [t] ad2 cy2 _ rfl (HT.out.o.up ((Below.refl _ _).alloc (Nat.le_refl _) _)) rfl (SL.one (blk_new wr _)) HSz.out (by have := HLk.out; simp; omega) ?_); intro ad3 cp3 w3 hown3 hk3 hat3; have HT3 : Hid (TwoS wN (w.heap.size + 1 + 1) K (O ++ [t]) ad1 cy1 ad3 cp3 (w3.setCell ⟨w.heap.size + 1 + 1, 0, none⟩ (.slice ad3 (O ++ [t]).length cp3))) := HT.out.o1 hown3 hk3 hat3; (have hv3 := (hk3.block (w.heap.size + 1 + 1) (by simp; omega) (fun e => by have := (World.ownsRow.lt HT.out.o _ e).1; have := HT.out.lt; omega)).trans (alloc_keep HT.out.var _)); clear v0 v1; obtain ⟨v0, v1⟩ := blk1 hv3
             clear hown3 hk3 hat3 hv3)
          | fail)
        go_roundg (U.length - (i + 1))
        case measure => have := HG.out; have := HI.out; omega
        case rel => exact ⟨i + 1, K, O ++ [t], ad1, cy1, ad3, cp3, HI.out, rfl, by go_num, rfl, by have := HT3.out; rw [List.length_append] at this; exact this, HE1⟩
    · have hii : i = U.length := by omega
      subst hii; (have hge : ¬ (U.length : Int) < (U.length : Int) := by omega); have hE := HE.out; rw [List.take_length] at hE; (have HE1 : Hid (K = U.filter (fun t => decide (t ∈ l)) ∧ O = U.filter (fun t => !decide (t ∈ l))) := hE); clear hE HE hile hlt; go_wp2_with fail; have hbA : Below wr.heap.size wr (wr.alloc (.cells #[.func (.func 72) #[] #[.pointer (some ⟨w.heap.size, 0, none⟩)]] 96 (0, 0))) := (Below.refl _ _).alloc (Nat.le_refl _) _; (have k0 := (HT.out.kept.block _ (lt_of_block HQ0.out) (by omega)).trans HQ0.out); (have k1 := (HT.out.kept.block _ (lt_of_block HQ1.out) (by omega)).trans HQ1.out); have hS1 : w.heap.size + 1 < wr.heap.size := lt_of_block k1; refine (HWr.out K O w.heap.size (w.heap.size + 1 + 1) wr.heap.size ad1 cy1 _ HE1.out.1 HE1.out.2 ⟨⟨k, n, ks, sl, cap, rfl, below_keep hbA k0, (HR.out.up HBw.out).up hbA⟩, ⟨ad2, O.length, cy2, below_keep hbA HT.out.var, (KS.list HT.out.o).sl.up hbA⟩, blk_new wr _⟩ ((KS.list HT.out.k).sl.up hbA)).mono ?_; rintro e w9 ⟨x, rfl, hx, hb9⟩; have q1 := below_keep hb9 (below_keep hbA k1); have B9 := below_join HBw.out (below_join hbA hb9); have hsA := hbA.size; clear k0 k1
      rcases hE : D with ⟨k5, n5, ks5⟩
      rw [hE] at hx; obtain ⟨sl5, cp5, rfl⟩ := slice_shape hx; have HX : Hid (Rep w9 _ (.mk k5 n5 ks5) (.agg #[.int .i64 k5, .string n5, .slice sl5 ks5.length cp5])) := hx; have HS1 : Hid (w.heap.size + 1 < wr.heap.size ∧ wr.heap.size ≤ (wr.alloc (.cells #[.func (.func 72) #[] #[.pointer (some ⟨w.heap.size, 0, none⟩)]] 96 (0, 0))).heap.size) := ⟨hS1, hsA⟩; obtain ⟨c0, c1, c2, z0, z1, z2⟩ := blk3 q1; clear hb9 hbA hx hS1 hsA; go_wp2_with fail; (have RG := HX.out.put3 (r := w.heap.size + 1) (P' := fun c => w.heap.size ≤ c) (fun b _ hb => by have := HS1.out; exact ⟨by omega, by omega⟩) (.int .i64 k5) (.string n5) (.slice sl5 ks5.length cp5)); (have BF := below_put3 (r := w.heap.size + 1) (by omega) B9 (.int .i64 k5) (.string n5) (.slice sl5 ks5.length cp5)); have f3 := set3 q1 (.int .i64 k5) (.string n5) (.slice sl5 ks5.length cp5); generalize World.setCell _ _ _ = F at f3 RG BF ⊢; obtain ⟨o0, o1, o2, -⟩ := blk3 f3; (exact bodyPost_ret (v := .agg #[.int .i64 k5, .string n5, .slice sl5 ks5.length cp5]) (by simp [results, Try.results41, go_sem, o0, o1, o2]) rfl ⟨_, rfl, by rw [hE]; exact RG, BF⟩)
end Go.Proofs.Ytffkoiemnchdgaf
