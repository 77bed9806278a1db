/- Texts of one proof, one behind the other: NI3, NI4, NI5. -/
import Derived.Test.YtealalhgkdlmkaiB27
import Derived.Test.YtealalhgkdlmkaiB18
import Derived.Test.YtealalhgkdlmkaiB06
/- Walks: Linears of formulas of any size; LinearFault. -/
namespace Go.Proofs.Ytealalhgkdlmkai
open Go.RowKit Go.Sort

theorem take_mid {A B : List Lm} {f : Lm} {S n : Nat} (h : A.length = S) (hn : S < n) : (A ++ f :: B).take n = A.take n ++ (f :: B.take (n - (S + 1))) := by
  (rw [List.take_append, h, List.take_cons (by omega), show n - S - 1 = n - (S + 1) by omega])
/-- Linears: the first n nodes, where at most n - 1 are asked for. -/
def LinG (m : Nat) : Prop := ∀ (l : List Lm) (v : Value) (n : Nat) (w0 w : World), Lm.sizes l < m → LL w0 v l → Below w0.heap.size w0 w → n ≤ 302 →
  Calls Try.prog 32 #[v, .int .i64 ((n : Int) - 1)] w fun e w' => ∃ ad cp cs L, e = .returned (.slice ad L cp) ∧ L = min (Lm.sizes l) n ∧ w'.ownsRow w.heap.size 52 4 (.slice ad L cp) L cs ∧ LQ4 w0 cs ((nodL l).take n) ∧ Below w.heap.size w w'
set_option maxRecDepth 10000 in
set_option maxHeartbeats 4000000 in
theorem ling_step (m : Nat) (ih : LinG m) : LinG (m + 1) := by
  intro l v n w0 w hm hv hb0 h300; have HX : Hid (LL w0 v l) := hv; have HB0 : Hid (Below w0.heap.size w0 w) := hb0; obtain ⟨sl, cap, rfl, hx2, hx3, -⟩ := hv; (have hlI : (l.length : Int) ≤ 9223372036854775807 := by unfold maxLen at hx3; omega); (have hcI : (l.length : Int) ≤ (cap : Int) := by omega); (have hmI : (n : Int) ≤ 302 := by omega); have HMo : Hid (n ≤ 302 ∧ Lm.sizes l < m + 1) := ⟨h300, hm⟩; obtain ⟨i0, hi0, hz0, hz1, hz2⟩ := infoLm; clear hb0 hx2 hx3 hm h300
  go_enter Try.func32, Try.ntmps32
  go_wp2_with fail
  go_loopg [6, 5] l.length (fun gg cc x wr => ∃ i ad cp cs L, i ≤ l.length ∧ gg = l.length - i ∧ cc = .int .i64 (i : Nat) ∧ x = .slice ad L cp ∧ L = min (Lm.sizes (l.take i)) n ∧ Hid (wr.ownsRow w.heap.size 52 4 (.slice ad L cp) L cs) ∧ Hid (LQ4 w0 cs ((nodL (l.take i)).take n)) ∧ Hid (Below w.heap.size w wr))
  case atStart => exact ⟨0, none, 0, [], 0, by omega, by omega, rfl, rfl, by simp [Lm.sizes], ⟨rfl, Or.inl ⟨rfl, rfl⟩⟩, by simp only [List.take_zero, nodL, List.take_nil]; exact trivial, Below.refl _ _⟩
  case round =>
    obtain ⟨i, ad, cp, cs, L, hi, hg, rfl, rfl, hL, HO, HQ, HB⟩ := hrel; have HGk : Hid (gk = l.length - i) := hg; clear hg; by_cases hlt : i < l.length ∧ Lm.sizes (l.take i) < n
    · obtain ⟨hlt, hSn⟩ := hlt
      (have hLS : L = Lm.sizes (l.take i) := by omega); subst hLS; have hAl := nodL_len (l.take i); obtain ⟨⟨k2, n2, g2, ks2⟩, hki⟩ : ∃ f, l[i]? = some f := ⟨_, List.getElem?_eq_getElem hlt⟩; obtain ⟨b, off, sl2, cap2, rfl, y0, y1, y2, y3, hr⟩ := HX.out.at i k2 n2 g2 ks2 hki; have HBw : Hid (Below w0.heap.size w0 wr) := below_join HB0.out HB.out; have x0 := (HBw.out.cell (lt_of_cell y0)).trans y0; have x1 := (HBw.out.cell (lt_of_cell y1)).trans y1; have x2 := (HBw.out.cell (lt_of_cell y2)).trans y2; have x3 := (HBw.out.cell (lt_of_cell y3)).trans y3; have HRp : Hid (LRep w0 (.mk k2 n2 g2 ks2) (.agg #[.int .i64 k2, .string n2, .bool g2, .slice sl2 ks2.length cap2])) := hr; have HCe : Hid (w0.cell? ⟨b, off + i * 4 + 3, none⟩ = some (.slice sl2 ks2.length cap2)) := y3; (have hlt2 : (i : Int) < (l.length : Int) := by omega); have HI : Hid (i < l.length) := hlt
      have hsn : Lm.sizes (l.take (i + 1)) = Lm.sizes (l.take i) + (Lm.sizes ks2 + 1) := by
        rw [take_snocL hki, Lm.sizes_app]; simp [Lm.sizes, Lm.size]
      have hst2 := sizes_take_le l (i + 1); (have HSn : Hid (Lm.sizes (l.take (i + 1)) = Lm.sizes (l.take i) + 1 + Lm.sizes ks2 ∧ Lm.sizes (l.take i) + 1 + Lm.sizes ks2 ≤ Lm.sizes l ∧ Lm.sizes (l.take i) < n) := ⟨by omega, by omega, hSn⟩)
      have HNl : Hid ((nodL (l.take (i + 1))).take n = (nodL (l.take i)).take n ++ (.mk k2 n2 g2 ks2 :: (nodL ks2).take (n - (Lm.sizes (l.take i) + 1)))) := by
        show _ = _; rw [take_snocL hki, nodL_app, nodL_one, nodF]; exact take_mid hAl hSn
      (have hlt3 : (Lm.sizes (l.take i) : Int) ≤ (n : Int) - 1 := by omega); generalize Lm.sizes (l.take i) = S at *; (obtain ⟨md, hmd⟩ : ∃ md : Nat, md + (S + 1) = n := ⟨n - (S + 1), by omega⟩); (have hmd2 : n - (S + 1) = md := by omega); rw [hmd2] at HNl; have HMd : Hid (md + (S + 1) = n) := hmd; (have HRec : Hid (∀ W, Below w0.heap.size w0 W → Calls Try.prog 32 #[.slice sl2 ks2.length cap2, .int .i64 ((md : Int) - 1)] W _) := fun W hW => ih ks2 _ md w0 W (by have := HSn.out; have := HMo.out; omega) hr.kidsL hW (by have := HMo.out; omega)); (have hsub : (n : Int) - 1 - ((S : Int) + 1) = (md : Int) - 1 := by omega); (have hSI : (S : Int) ≤ 302 := by omega); clear hki y0 y1 y2 y3 hr hlt hi hsn hst2 hmd hmd2 hAl hL hSn
      go_wp2_with (first
        | (at_builtin
           have hown := rowM_up HO.out ((Below.refl _ wr).alloc (Nat.le_refl _) (.cells #[.int .i64 k2, .string n2, .bool g2, .slice sl2 ks2.length cap2] 52 (0, 0))); have hbs := HB.out.size; (refine wpList_appG rfl _ _ 22 rfl w.heap.size 52 i0 (.agg #[.int .i64 0, .string ⟨#[]⟩, .bool false, .slice none 0 0]) 4 56 Try.underlying22 hi0 hz0 hz1 hz2 rfl (by decide) ad S cp cs rfl hown (some ⟨wr.heap.size, 0, none⟩) 1 1 [.int .i64 k2, .string n2, .bool g2, .slice sl2 ks2.length cap2] rfl rfl (fun _ => ⟨wr.heap.size, 0, rfl, fun j u hu => ?_⟩) ?_ (by unfold maxLen; omega) (by omega) (by simp; omega) ?_)
           · rw [Nat.zero_add, blk_cell (blk_new wr _)]
             simpa using hu
           · intro u hu
             simp at hu
             rcases hu with rfl | rfl | rfl | rfl <;> rfl
           intro ad3 cp3 w3 hown3 hk3; have HO3 : Hid (w3.ownsRow w.heap.size 52 4 (.slice ad3 (S + 1) cp3) (S + 1) (cs ++ [.int .i64 k2, .string n2, .bool g2, .slice sl2 ks2.length cap2])) := hown3; (have HB3 : Hid (Below w.heap.size w w3) := kept_row (HB.out.alloc hbs _) (by simp; omega) hown hk3); have z3 := ((below_join HB0.out HB3.out).cell (lt_of_cell HCe.out)).trans HCe.out
           clear hown hown3 hk3 hbs x0 x1 x2 x3)
        | fail)
      refine (HRec.out w3 (below_join HB0.out HB3.out)).mono ?_; rintro _ w4 ⟨ad4, cp4, ds, L2, rfl, hL2, ho4, hq4, hb4⟩; have HO4 : Hid (w4.ownsRow w3.heap.size 52 4 (.slice ad4 L2 cp4) L2 ds) := ho4; have HQ4 : Hid (LQ4 w0 ds ((nodL ks2).take md)) := hq4; have HL2 : Hid (L2 = min (Lm.sizes ks2) md) := hL2; have HB4 : Hid (Below w.heap.size w w4) := below_join HB3.out hb4; have HO5 : Hid (w4.ownsRow w.heap.size 52 4 (.slice ad3 (S + 1) cp3) (S + 1) (cs ++ [.int .i64 k2, .string n2, .bool g2, .slice sl2 ks2.length cap2])) := rowM_up HO3.out hb4; (have hL2I : (L2 : Int) ≤ 302 := by have := HMo.out; have := HMd.out; omega); clear ho4 hq4 hb4 z3 hL2
      go_wp2_with (first
        | (at_builtin
           have hbs := HB4.out.size; have hso := HSn.out; have hmo := HMo.out; have hmd := HMd.out; have hl2 := HL2.out; (refine wpList_appG rfl _ _ 22 rfl w.heap.size 52 i0 (.agg #[.int .i64 0, .string ⟨#[]⟩, .bool false, .slice none 0 0]) 4 56 Try.underlying22 hi0 hz0 hz1 hz2 rfl (by decide) ad3 (S + 1) cp3 _ rfl HO5.out ad4 L2 cp4 ds rfl HO4.out.1 (fun hpos => ?_) (LQ4.one HQ4.out) (by unfold maxLen; omega) (by omega) hbs ?_)
           · obtain ⟨g, rfl, hc⟩ := rowM_cells HO4.out hpos
             exact ⟨g, 0, rfl, hc⟩
           intro ad5 cp5 w5 hown5 hk5; have HO6 : Hid (w5.ownsRow w.heap.size 52 4 (.slice ad5 (S + 1 + L2) cp5) (S + 1 + L2) ((cs ++ [.int .i64 k2, .string n2, .bool g2, .slice sl2 ks2.length cap2]) ++ ds)) := hown5; have HB6 : Hid (Below w.heap.size w w5) := kept_row HB4.out hbs HO5.out hk5
           clear hown5 hk5 hbs hso hmo hmd hl2)
        | fail)
      go_roundg (l.length - (i + 1))
      case measure => have := HGk.out; have := HI.out; omega
      case rel =>
        (refine ⟨i + 1, ad5, cp5, (cs ++ [.int .i64 k2, .string n2, .bool g2, .slice sl2 ks2.length cap2]) ++ ds, S + 1 + L2, HI.out, rfl, by go_num, rfl, ?_, HO6, ?_, HB6⟩)
        · have h1 := HSn.out
          have h2 := HMd.out; have h3 := HL2.out; omega
        · rw [HNl.out, List.append_assoc]
          (exact HQ.out.append ⟨HRp.out, (by intro u hu; simp at hu; rcases hu with rfl | rfl | rfl | rfl <;> rfl), HQ4.out⟩)
    · have hst2 := sizes_take_le l i
      have hE : (nodL (l.take i)).take n = (nodL l).take n := by
        rcases Nat.lt_or_ge i l.length with h1 | h1
        · have h2 : n ≤ (nodL (l.take i)).length := by rw [nodL_len]; omega
          (have e9 : nodL l = nodL (l.take i) ++ nodL (l.drop i) := by rw [← nodL_app, List.take_append_drop]); rw [e9, List.take_append_of_le_length h2]
        · rw [List.take_of_length_le h1]
      have hL3 : L = min (Lm.sizes l) n := by
        rcases Nat.lt_or_ge i l.length with h1 | h1
        · omega
        · rw [List.take_of_length_le h1] at hL
          exact hL
      (have hC : ¬ ((i : Int) < (l.length : Int) ∧ (L : Int) ≤ (n : Int) - 1) := by omega); have HE : Hid ((nodL (l.take i)).take n = (nodL l).take n ∧ L = min (Lm.sizes l) n) := ⟨hE, hL3⟩; (have hLI : (L : Int) ≤ 302 := by omega); clear hst2 hE hL hL3 hlt; by_cases hil : i < l.length
      · have h1 : (i : Int) < (l.length : Int) := by omega
        (have h2 : ¬ (L : Int) ≤ (n : Int) - 1 := by omega); clear hC hil hi; go_wp2_with fail; go_ret; have q := HQ.out; rw [HE.out.1] at q; exact ⟨ad, cp, cs, L, rfl, HE.out.2, HO.out, q, HB.out⟩
      · have h1 : ¬ (i : Int) < (l.length : Int) := by omega
        clear hC hil hi; go_wp2_with fail; go_ret; have q := HQ.out; rw [HE.out.1] at q; exact ⟨ad, cp, cs, L, rfl, HE.out.2, HO.out, q, HB.out⟩
theorem ling_all : ∀ m, LinG m
  | 0 => fun _ _ _ _ _ h => absurd h (Nat.not_lt_zero _)
  | m + 1 => ling_step m (ling_all m)
theorem linears_g (l : List Lm) (v : Value) (n : Nat) (w : World) (hv : LL w v l) (hn : n ≤ 302) :
    Calls Try.prog 32 #[v, .int .i64 ((n : Int) - 1)] w fun e w' => ∃ ad cp cs L, e = .returned (.slice ad L cp) ∧ L = min (Lm.sizes l) n ∧ w'.ownsRow w.heap.size 52 4 (.slice ad L cp) L cs ∧ LQ4 w cs ((nodL l).take n) ∧ Below w.heap.size w w' :=
  ling_all _ l v n w w (Nat.lt_succ_self _) hv (Below.refl _ _) hn
end Go.Proofs.Ytealalhgkdlmkai
/- Walks: LinearFault: with no fault, formulas are fine. -/
namespace Go.Proofs.Ytealalhgkdlmkai
open Go.RowKit Go.Sort

def NodeOk : Lm → Prop
  | .mk k n b ks => lnodeF k n b ks.length = none
mutual
theorem lchk_nod : ∀ (f : Lm) (s : Nat), (∀ g ∈ nodF f, NodeOk g) → s + f.size ≤ 200 → lchk f s = .ok (s + f.size)
  | .mk k n b ks, s, h, hs => by
    (have h1 : lnodeF k n b ks.length = none := h (.mk k n b ks) (by rw [nodF]; simp)); rw [Lm.size] at hs ⊢; (rw [lchk, if_neg (by omega), h1]); simp only; (rw [lchks_nod ks (s + 1) (fun g hg => h g (by rw [nodF]; simp [hg])) (by omega)])
    congr 1
    omega
theorem lchks_nod : ∀ (fs : List Lm) (s : Nat), (∀ g ∈ nodL fs, NodeOk g) → s + Lm.sizes fs ≤ 200 → lchks fs s = .ok (s + Lm.sizes fs)
  | [], s, _, _ => by rw [lchks, Lm.sizes]; rfl
  | f :: fs, s, h, hs => by
    rw [Lm.sizes] at hs ⊢; (rw [lchks, lchk_nod f s (fun g hg => h g (by rw [nodL]; simp [hg])) (by omega)]); simp only; (rw [lchks_nod fs _ (fun g hg => h g (by rw [nodL]; simp [hg])) (by omega)])
    congr 1
    omega
end
theorem nodes_fine {l : List Lm} (h : ∀ g ∈ nodL l, NodeOk g) (hs : Lm.sizes l ≤ 200) : ∀ f ∈ l, LFine f := lchks_fine l 0 _ (lchks_nod l 0 h (by omega))
/-- What LinearFault tells: some fault, and with none the formulas are fine. -/
def LFPost (l : List Lm) (w : World) (e : Ending) (w' : World) : Prop := ∃ c a : Int, e = .returned (.agg #[.int .i64 c, .int .i64 a]) ∧ (c = 0 → 1 ≤ l.length ∧ l.length ≤ 20 ∧ (∀ f ∈ l, LFine f) ∧ Lm.sizes l ≤ 200) ∧ Below w.heap.size w w'
set_option maxRecDepth 10000 in
set_option maxHeartbeats 8000000 in
theorem linFault_any (l : List Lm) (v : Value) (w : World) (hv : LL w v l) : Calls Try.prog 15 #[v] w (LFPost l w) := by
  obtain ⟨sl, cap, hvv, hx2, hx3, -⟩ := id hv; subst hvv; (have hlI : (l.length : Int) ≤ 9223372036854775807 := by unfold maxLen at hx3; omega); have q0 := blk_new w (.cells #[.int .i64 0, .int .i64 0] 28 (0, 0)); have B0 := below_more (Below.refl w.heap.size w) (.cells #[.int .i64 0, .int .i64 0] 28 (0, 0)); by_cases h1 : l.length < 1
  · have h1I : (l.length : Int) < 1 := by omega
    clear h1 hx2 hx3 hv
    go_enter Try.func15, Try.ntmps15
    go_wp2_with (first
      | (go_at_call 21
         refine (mkF_any _ _ _).mono ?_; rintro e w3 ⟨rfl, hb3⟩; have r4 := below_keep hb3 q0; have B4 := below_join B0 hb3
         obtain ⟨j0, j1, j2, j3⟩ := blk2 r4)
      | fail)
    have f2 := set2 r4 (.int .i64 2) (.int .i64 0); (have b2 := (B4.setCell (p := ⟨w.heap.size, 0, none⟩) (by simp) (.int .i64 2)).setCell (p := ⟨w.heap.size, 1, none⟩) (by simp) (.int .i64 0)); generalize World.setCell _ _ _ = F at f2 b2 ⊢; obtain ⟨j5, j6, -⟩ := blk2 f2; (exact bodyPost_ret (v := .agg #[.int .i64 2, .int .i64 0]) (by simp [results, Try.results15, go_sem, j5, j6]) rfl ⟨2, 0, rfl, fun h => absurd h (by decide), b2⟩)
  (have h1I : ¬ (l.length : Int) < 1 := by omega); by_cases h20 : 20 < l.length
  · have h20I : (20 : Int) < (l.length : Int) := by omega
    clear h1 h20 hx2 hx3 hv
    go_enter Try.func15, Try.ntmps15
    go_wp2_with (first
      | (go_at_call 21
         refine (mkF_any _ _ _).mono ?_; rintro e w3 ⟨rfl, hb3⟩; have r4 := below_keep hb3 q0; have B4 := below_join B0 hb3
         obtain ⟨j0, j1, j2, j3⟩ := blk2 r4)
      | fail)
    have f2 := set2 r4 (.int .i64 2) (.int .i64 0); (have b2 := (B4.setCell (p := ⟨w.heap.size, 0, none⟩) (by simp) (.int .i64 2)).setCell (p := ⟨w.heap.size, 1, none⟩) (by simp) (.int .i64 0)); generalize World.setCell _ _ _ = F at f2 b2 ⊢; obtain ⟨j5, j6, -⟩ := blk2 f2; (exact bodyPost_ret (v := .agg #[.int .i64 2, .int .i64 0]) (by simp [results, Try.results15, go_sem, j5, j6]) rfl ⟨2, 0, rfl, fun h => absurd h (by decide), b2⟩)
  (have h20I : ¬ (20 : Int) < (l.length : Int) := by omega); (have HLen : Hid (1 ≤ l.length ∧ l.length ≤ 20) := ⟨by omega, by omega⟩)
  have HL : Hid (∀ W, Below w.heap.size w W → Calls Try.prog 32 #[.slice sl l.length cap, .int .i64 201] W fun e w' => ∃ ad cp cs L, e = .returned (.slice ad L cp) ∧ L = min (Lm.sizes l) 202 ∧ w'.ownsRow W.heap.size 52 4 (.slice ad L cp) L cs ∧ LQ4 W cs ((nodL l).take 202) ∧ Below W.heap.size W w') := fun W h => by
    (have := linears_g l _ 202 W (hv.up h) (by omega))
    rwa [show (((202 : Nat) : Int) - 1) = 201 by omega] at this
  clear hx2 hx3 hv h1 h20
  go_enter Try.func15, Try.ntmps15
  go_wp2_with fail; refine (HL.out _ B0).mono ?_; rintro _ V ⟨ad, cp, cs, L, rfl, hL, hown, hq, hbV⟩; obtain ⟨nd, hnd⟩ : ∃ nd, nd = (nodL l).take 202 := ⟨_, rfl⟩; rw [← hnd] at hq; have HNd : Hid (nd = (nodL l).take 202 ∧ L = min (Lm.sizes l) 202) := ⟨hnd, hL⟩; (have hnl : nd.length = L := by rw [hnd, List.length_take, nodL_len, hL]; omega); have HQ : Hid (LQ4 (w.alloc (.cells #[.int .i64 0, .int .i64 0] 28 (0, 0))) cs nd) := hq; have HOw : Hid (V.ownsRow _ 52 4 (.slice ad L cp) L cs) := hown; have HBv : Hid (Below _ _ V) := hbV; have HB1 : Hid (Below w.heap.size w V) := below_join B0 hbV; have HR1 : Hid (V.heap[w.heap.size]? = some (.cells #[.int .i64 0, .int .i64 0] 28 (0, 0))) := below_keep hbV q0; (have hLI : (L : Int) ≤ 202 := by omega); clear hL hown hq hbV hnd q0 B0 HL; go_wp2_with fail
  go_loopg [4] L (fun gg cc wr => ∃ i, i ≤ L ∧ i ≤ 200 ∧ gg = L - i ∧ cc = .int .i64 (i : Nat) ∧ Hid (Below V.heap.size V wr) ∧ Hid (∀ (j : Nat) (f : Lm), j < i → nd[j]? = some f → NodeOk f))
  case atStart => exact ⟨0, by omega, by omega, rfl, rfl, Below.refl _ _, fun j f h => absurd h (Nat.not_lt_zero _)⟩
  case round =>
    obtain ⟨i, hi, hi2, hg, rfl, HBr, HN⟩ := hrel; have HGk : Hid (gk = L - i) := hg; clear hg; have B2 := below_join HB1.out HBr.out; have r2 := below_keep HBr.out HR1.out; by_cases hlt : i < L
    · obtain ⟨⟨k2, n2, g2, ks2⟩, hki⟩ : ∃ f, nd[i]? = some f := ⟨_, List.getElem?_eq_getElem (by omega)⟩
      (obtain ⟨g, rfl, hc⟩ := rowM_cells HOw.out (by omega)); obtain ⟨sl2, cap2, c0, c1, c2, c3, hrep⟩ := LQ4.get HQ.out i k2 n2 g2 ks2 hki; obtain ⟨sl9, cap9, he9, hn2, hk2, hk3, -⟩ := LRep.def.1 hrep; simp only [Value.agg.injEq, Array.mk.injEq, List.cons.injEq, Value.slice.injEq, and_true, true_and] at he9; have y0 := hc _ _ c0; have y1 := hc _ _ c1; have y2 := hc _ _ c2; have y3 := hc _ _ c3; rw [Nat.zero_add] at y0 y1 y2 y3; have x0 := (HBr.out.cell (lt_of_cell y0)).trans y0; have x1 := (HBr.out.cell (lt_of_cell y1)).trans y1; have x2 := (HBr.out.cell (lt_of_cell y2)).trans y2; have x3 := (HBr.out.cell (lt_of_cell y3)).trans y3
      have hkl : (ks2.length : Int) ≤ 9223372036854775807 := by
        obtain ⟨-, rfl⟩ := he9; unfold maxLen at hk3; omega
      have HKi : Hid (nd[i]? = some (.mk k2 n2 g2 ks2)) := hki; (have hltI : (i : Int) < (L : Int) := by omega); have hcp := (rowM_caps HOw.out).1; (have hltc : (i : Int) < (cp : Int) := by omega); have HI : Hid (i < L ∧ i ≤ 200) := ⟨hlt, hi2⟩; obtain ⟨X, hX⟩ : ∃ X, X = wr.alloc (.cells #[.int .i64 k2, .string n2, .bool g2, .slice sl2 ks2.length cap2] 52 (0, 0)) := ⟨_, rfl⟩; have HX := blk_new wr (.cells #[.int .i64 k2, .string n2, .bool g2, .slice sl2 ks2.length cap2] 52 (0, 0)); have B3 := below_more B2 (.cells #[.int .i64 k2, .string n2, .bool g2, .slice sl2 ks2.length cap2] 52 (0, 0)); have BN := below_more HBr.out (.cells #[.int .i64 k2, .string n2, .bool g2, .slice sl2 ks2.length cap2] 52 (0, 0)); have r3 := alloc_keep r2 (.cells #[.int .i64 k2, .string n2, .bool g2, .slice sl2 ks2.length cap2] 52 (0, 0)); rw [← hX] at HX B3 BN r3; have hXe := hX.symm; have HBN : Hid (Below V.heap.size V X) := BN; (have HNm : Hid (∀ w, Calls Try.prog 42 #[.string n2] w fun e w' => e = .returned (.bool (isNm n2.data.toList)) ∧ w' = w) := fun w => refName_any n2 hn2 w); obtain ⟨e0, e1, e2, e3⟩ := blk4L HX; have z0 := lt_of_block HX; clear hX BN hki c0 c1 c2 c3 hrep hn2 hk2 hk3 he9 y0 y1 y2 y3 hc hi hi2 hlt hcp
      have next : NodeOk (.mk k2 n2 g2 ks2) → Hid (∀ (j : Nat) (f : Lm), j < i + 1 → nd[j]? = some f → NodeOk f) := fun h j f hj hf => by
        by_cases e : j = i
        · subst e
          rw [HKi.out] at hf
          cases hf
          exact h
        · exact HN.out j f (by omega) hf
      have HNx : Hid (NodeOk (.mk k2 n2 g2 ks2) → Hid (∀ (j : Nat) (f : Lm), j < i + 1 → nd[j]? = some f → NodeOk f)) := next; clear next; by_cases h200 : i = 200
      · subst h200
        go_wp2_with (first
          | (go_at_call 21
             refine (mkF_any _ _ _).mono ?_; rintro e w3 ⟨rfl, hb3⟩; have r4 := below_keep hb3 r3; have B4 := below_join B3 hb3
             obtain ⟨j0, j1, j2, j3⟩ := blk2 r4)
          | fail)
        have f2 := set2 r4 (.int .i64 2) (.int .i64 0); (have b2 := (B4.setCell (p := ⟨w.heap.size, 0, none⟩) (by simp) (.int .i64 2)).setCell (p := ⟨w.heap.size, 1, none⟩) (by simp) (.int .i64 0)); generalize World.setCell _ _ _ = F at f2 b2 ⊢; obtain ⟨j5, j6, -⟩ := blk2 f2; (exact bodyPost_ret (v := .agg #[.int .i64 2, .int .i64 0]) (by simp [results, Try.results15, go_sem, j5, j6]) rfl ⟨2, 0, rfl, fun h => absurd h (by decide), b2⟩)
      (have h200I : ¬ (i : Int) = 200 := by omega); (have h200J : ((i : Int) == 200) = false := by simpa using h200I); (have HI2 : Hid (i + 1 ≤ L ∧ i + 1 ≤ 200) := ⟨by have := HI.out; omega, by have := HI.out; omega⟩); clear h200; by_cases hk1 : k2 < 1
      · clear HNx
        go_wp2_with (first
          | (go_at_call 21
             refine (mkF_any _ _ _).mono ?_; rintro e w3 ⟨rfl, hb3⟩; have r4 := below_keep hb3 r3; have B4 := below_join B3 hb3
             obtain ⟨j0, j1, j2, j3⟩ := blk2 r4)
          | fail)
        have f2 := set2 r4 (.int .i64 4) (.int .i64 i); (have b2 := (B4.setCell (p := ⟨w.heap.size, 0, none⟩) (by simp) (.int .i64 4)).setCell (p := ⟨w.heap.size, 1, none⟩) (by simp) (.int .i64 i)); generalize World.setCell _ _ _ = F at f2 b2 ⊢; obtain ⟨j5, j6, -⟩ := blk2 f2; (exact bodyPost_ret (v := .agg #[.int .i64 4, .int .i64 i]) (by simp [results, Try.results15, go_sem, j5, j6]) rfl ⟨4, i, rfl, fun h => absurd h (by decide), b2⟩)
      by_cases hk4 : 3 < k2
      · have hk5 : ¬ k2 < 1 := hk1
        clear HNx
        go_wp2_with (first
          | (go_at_call 21
             refine (mkF_any _ _ _).mono ?_; rintro e w3 ⟨rfl, hb3⟩; have r4 := below_keep hb3 r3; have B4 := below_join B3 hb3
             obtain ⟨j0, j1, j2, j3⟩ := blk2 r4)
          | fail)
        have f2 := set2 r4 (.int .i64 4) (.int .i64 i); (have b2 := (B4.setCell (p := ⟨w.heap.size, 0, none⟩) (by simp) (.int .i64 4)).setCell (p := ⟨w.heap.size, 1, none⟩) (by simp) (.int .i64 i)); generalize World.setCell _ _ _ = F at f2 b2 ⊢; obtain ⟨j5, j6, -⟩ := blk2 f2; (exact bodyPost_ret (v := .agg #[.int .i64 4, .int .i64 i]) (by simp [results, Try.results15, go_sem, j5, j6]) rfl ⟨4, i, rfl, fun h => absurd h (by decide), b2⟩)
      (obtain rfl | hk6 : k2 = 1 ∨ k2 = 2 ∨ k2 = 3 := by omega)
      · by_cases hks : ks2.length = 0
        case neg =>
          (have hksJ : ((ks2.length : Int) != 0) = true := by rw [bne_iff_ne]; omega); clear HNx
          go_wp2_with (first
            | (go_at_call 21
               refine (mkF_any _ _ _).mono ?_; rintro e w3 ⟨rfl, hb3⟩; have r4 := below_keep hb3 r3; have B4 := below_join B3 hb3
               obtain ⟨j0, j1, j2, j3⟩ := blk2 r4)
            | fail)
          have f2 := set2 r4 (.int .i64 9) (.int .i64 i); (have b2 := (B4.setCell (p := ⟨w.heap.size, 0, none⟩) (by simp) (.int .i64 9)).setCell (p := ⟨w.heap.size, 1, none⟩) (by simp) (.int .i64 i)); generalize World.setCell _ _ _ = F at f2 b2 ⊢; obtain ⟨j5, j6, -⟩ := blk2 f2; (exact bodyPost_ret (v := .agg #[.int .i64 9, .int .i64 i]) (by simp [results, Try.results15, go_sem, j5, j6]) rfl ⟨9, i, rfl, fun h => absurd h (by decide), b2⟩)
        (have hksJ : ((ks2.length : Int) != 0) = false := by rw [bne_eq_false_iff_eq]; omega); by_cases hnm : isNm n2.data.toList = true
        case neg =>
          (have hnm2 : isNm n2.data.toList = false := by simpa using hnm); rw [hnm2] at HNm; clear HNx hnm hks
          go_wp2_with (first
            | (go_at_call 42
               refine (HNm.out _).mono ?_
               rintro e w4 ⟨rfl, rfl⟩)
            | (go_at_call 21
               refine (mkF_any _ _ _).mono ?_; rintro e w3 ⟨rfl, hb3⟩; have r4 := below_keep hb3 r3; have B4 := below_join B3 hb3
               obtain ⟨j0, j1, j2, j3⟩ := blk2 r4)
            | fail)
          have f2 := set2 r4 (.int .i64 8) (.int .i64 i); (have b2 := (B4.setCell (p := ⟨w.heap.size, 0, none⟩) (by simp) (.int .i64 8)).setCell (p := ⟨w.heap.size, 1, none⟩) (by simp) (.int .i64 i)); generalize World.setCell _ _ _ = F at f2 b2 ⊢; obtain ⟨j5, j6, -⟩ := blk2 f2; (exact bodyPost_ret (v := .agg #[.int .i64 8, .int .i64 i]) (by simp [results, Try.results15, go_sem, j5, j6]) rfl ⟨8, i, rfl, fun h => absurd h (by decide), b2⟩)
        (have HNy : Hid (∀ (j : Nat) (f : Lm), j < i + 1 → nd[j]? = some f → NodeOk f) := HNx.out (lnode_ok rfl (by rw [hks]; rfl) (by simp [lnameB, hnm]))); rw [hnm] at HNm; clear HNx hnm hks
        go_wp2_with (first
          | (go_at_call 42
             refine (HNm.out _).mono ?_
             rintro e w4 ⟨rfl, rfl⟩)
          | fail)
        go_roundg (L - (i + 1))
        case measure => have := HGk.out; have := HI.out; omega
        case rel => exact ⟨i + 1, HI2.out.1, HI2.out.2, rfl, by go_num, HBN, HNy⟩
      · have hk7 : ¬ k2 < 1 := hk1
        have hk8 : ¬ 3 < k2 := hk4; (have hk9 : (k2 == 1) = false := by simp; omega); (have hk10 : (k2 != 1) = true := by simp; omega); by_cases hks : ks2.length = 2
        case neg =>
          (have hksJ : ((ks2.length : Int) != 2) = true := by rw [bne_iff_ne]; omega); clear HNx
          go_wp2_with (first
            | (go_at_call 21
               refine (mkF_any _ _ _).mono ?_; rintro e w3 ⟨rfl, hb3⟩; have r4 := below_keep hb3 r3; have B4 := below_join B3 hb3
               obtain ⟨j0, j1, j2, j3⟩ := blk2 r4)
            | fail)
          have f2 := set2 r4 (.int .i64 9) (.int .i64 i); (have b2 := (B4.setCell (p := ⟨w.heap.size, 0, none⟩) (by simp) (.int .i64 9)).setCell (p := ⟨w.heap.size, 1, none⟩) (by simp) (.int .i64 i)); generalize World.setCell _ _ _ = F at f2 b2 ⊢; obtain ⟨j5, j6, -⟩ := blk2 f2; (exact bodyPost_ret (v := .agg #[.int .i64 9, .int .i64 i]) (by simp [results, Try.results15, go_sem, j5, j6]) rfl ⟨9, i, rfl, fun h => absurd h (by decide), b2⟩)
        (have hksJ : ((ks2.length : Int) != 2) = false := by rw [bne_eq_false_iff_eq]; omega); by_cases hnm : n2.toList.isEmpty = true
        case neg =>
          (have hnm2 : n2.toList.isEmpty = false := by simpa using hnm); clear HNx hnm hks
          go_wp2_with (first
            | (go_at_call 21
               refine (mkF_any _ _ _).mono ?_; rintro e w3 ⟨rfl, hb3⟩; have r4 := below_keep hb3 r3; have B4 := below_join B3 hb3
               obtain ⟨j0, j1, j2, j3⟩ := blk2 r4)
            | fail)
          have f2 := set2 r4 (.int .i64 8) (.int .i64 i); (have b2 := (B4.setCell (p := ⟨w.heap.size, 0, none⟩) (by simp) (.int .i64 8)).setCell (p := ⟨w.heap.size, 1, none⟩) (by simp) (.int .i64 i)); generalize World.setCell _ _ _ = F at f2 b2 ⊢; obtain ⟨j5, j6, -⟩ := blk2 f2; (exact bodyPost_ret (v := .agg #[.int .i64 8, .int .i64 i]) (by simp [results, Try.results15, go_sem, j5, j6]) rfl ⟨8, i, rfl, fun h => absurd h (by decide), b2⟩)
        cases g2
        case true =>
          clear HNx hks
          go_wp2_with (first
            | (go_at_call 21
               refine (mkF_any _ _ _).mono ?_; rintro e w3 ⟨rfl, hb3⟩; have r4 := below_keep hb3 r3; have B4 := below_join B3 hb3
               obtain ⟨j0, j1, j2, j3⟩ := blk2 r4)
            | fail)
          have f2 := set2 r4 (.int .i64 8) (.int .i64 i); (have b2 := (B4.setCell (p := ⟨w.heap.size, 0, none⟩) (by simp) (.int .i64 8)).setCell (p := ⟨w.heap.size, 1, none⟩) (by simp) (.int .i64 i)); generalize World.setCell _ _ _ = F at f2 b2 ⊢; obtain ⟨j5, j6, -⟩ := blk2 f2; (exact bodyPost_ret (v := .agg #[.int .i64 8, .int .i64 i]) (by simp [results, Try.results15, go_sem, j5, j6]) rfl ⟨8, i, rfl, fun h => absurd h (by decide), b2⟩)
        have HNy : Hid (∀ (j : Nat) (f : Lm), j < i + 1 → nd[j]? = some f → NodeOk f) := HNx.out (lnode_ok (by rcases hk6 with rfl | rfl <;> rfl) (by rw [hks]; rcases hk6 with rfl | rfl <;> rfl) (by
          have hh := hnm; rw [ByteArray.toList_eq] at hh
          rcases hk6 with rfl | rfl <;> simp [lnameB] <;> simpa using hh))
        clear HNx hks hk6
        go_wp2_with (first
          | fail)
        go_roundg (L - (i + 1))
        case measure => have := HGk.out; have := HI.out; omega
        case rel => exact ⟨i + 1, HI2.out.1, HI2.out.2, rfl, by go_num, HBN, HNy⟩
    · have hii : i = L := by omega
      subst hii; (have hge : ¬ (i : Int) < (i : Int) := by omega)
      have hfin : (0 : Int) = 0 → 1 ≤ l.length ∧ l.length ≤ 20 ∧ (∀ f ∈ l, LFine f) ∧ Lm.sizes l ≤ 200 := fun _ => by
        obtain ⟨e1, e2⟩ := HNd.out; (have hs : Lm.sizes l ≤ 200 := by omega); (have e3 : nd = nodL l := by rw [e1, List.take_of_length_le (by rw [nodL_len]; omega)]); (refine ⟨HLen.out.1, HLen.out.2, nodes_fine (fun g hg => ?_) hs, hs⟩); rw [← e3] at hg; obtain ⟨j, hj⟩ := List.getElem?_of_mem hg; (exact HN.out j g (by have := (List.getElem?_eq_some_iff.1 hj).1; omega) hj)
      have HFin : Hid (1 ≤ l.length ∧ l.length ≤ 20 ∧ (∀ f ∈ l, LFine f) ∧ Lm.sizes l ≤ 200) := hfin rfl; obtain ⟨o0, o1, o2, o3⟩ := blk2 r2; clear hfin hlt hi hi2; go_wp2_with fail; have f2 := set2 r2 (.int .i64 0) (.int .i64 0); (have b2 := (B2.setCell (p := ⟨w.heap.size, 0, none⟩) (by simp) (.int .i64 0)).setCell (p := ⟨w.heap.size, 1, none⟩) (by simp) (.int .i64 0)); generalize World.setCell _ _ _ = F at f2 b2 ⊢; obtain ⟨j5, j6, -⟩ := blk2 f2; (exact bodyPost_ret (v := .agg #[.int .i64 0, .int .i64 0]) (by simp [results, Try.results15, go_sem, j5, j6]) rfl ⟨0, 0, rfl, fun _ => HFin.out, b2⟩)
end Go.Proofs.Ytealalhgkdlmkai
/- Linear formulas in memory of their own: for a copy that is made. -/
namespace Go.Proofs.Ytealalhgkdlmkai
open Go.RowKit Go.Sort

mutual
/-- A linear formula whose kids lie in blocks of ok. -/
def LRp (w : World) (ok : Nat → Prop) : Lm → Value → Prop
  | .mk k n g ks, v => ∃ sl cap, v = .agg #[.int .i64 k, .string n, .bool g, .slice sl ks.length cap] ∧ n.size ≤ maxLen ∧ ks.length ≤ cap ∧ cap ≤ maxLen ∧ (ks ≠ [] → ∃ b off, sl = some ⟨b, off, none⟩ ∧ ok b ∧ LRps w ok b off ks)
def LRps (w : World) (ok : Nat → Prop) (b : Nat) : Nat → List Lm → Prop
  | _, [] => True
  | off, f :: fs => (∃ c0 c1 c2 c3, w.cell? ⟨b, off, none⟩ = some c0 ∧ w.cell? ⟨b, off + 1, none⟩ = some c1 ∧ w.cell? ⟨b, off + 2, none⟩ = some c2 ∧ w.cell? ⟨b, off + 3, none⟩ = some c3 ∧ LRp w ok f (.agg #[c0, c1, c2, c3])) ∧ LRps w ok b (off + 4) fs
end
theorem LRp.def {w : World} {ok : Nat → Prop} {k : Int} {n : ByteArray} {g : Bool} {ks : List Lm} {v : Value} : LRp w ok (.mk k n g ks) v ↔ ∃ sl cap, v = .agg #[.int .i64 k, .string n, .bool g, .slice sl ks.length cap] ∧ n.size ≤ maxLen ∧ ks.length ≤ cap ∧ cap ≤ maxLen ∧ (ks ≠ [] → ∃ b off, sl = some ⟨b, off, none⟩ ∧ ok b ∧ LRps w ok b off ks) := by
  rw [LRp]
theorem LRps.nil {w : World} {ok : Nat → Prop} {b off : Nat} : LRps w ok b off [] := by rw [LRps]; trivial
theorem LRps.cons {w : World} {ok : Nat → Prop} {b off : Nat} {f : Lm} {fs : List Lm} : LRps w ok b off (f :: fs) ↔ (∃ c0 c1 c2 c3, w.cell? ⟨b, off, none⟩ = some c0 ∧ w.cell? ⟨b, off + 1, none⟩ = some c1 ∧ w.cell? ⟨b, off + 2, none⟩ = some c2 ∧ w.cell? ⟨b, off + 3, none⟩ = some c3 ∧ LRp w ok f (.agg #[c0, c1, c2, c3])) ∧ LRps w ok b (off + 4) fs := by
  rw [LRps]
mutual
theorem LRp.move {w w' : World} {ok ok' : Nat → Prop} (hc : ∀ b, b < w.heap.size → ok b → w'.heap[b]? = w.heap[b]? ∧ ok' b) : ∀ (f : Lm) (v : Value), LRp w ok f v → LRp w' ok' f v
  | .mk k n g ks, v, h => by
    rw [LRp.def] at h ⊢; obtain ⟨sl, cap, hv, hn, hl, hc', hk⟩ := h; (refine ⟨sl, cap, hv, hn, hl, hc', fun hne => ?_⟩); obtain ⟨b, off, hsl, hb, hr⟩ := hk hne
    have hlt : b < w.heap.size := by
      cases ks with
      | nil => exact absurd rfl hne
      | cons f fs =>
        obtain ⟨⟨c0, -, -, -, h0, -⟩, -⟩ := LRps.cons.1 hr; exact lt_of_cell h0
    exact ⟨b, off, hsl, (hc b hlt hb).2, LRps.move hc hb off ks hr⟩
theorem LRps.move {w w' : World} {ok ok' : Nat → Prop} (hc : ∀ b, b < w.heap.size → ok b → w'.heap[b]? = w.heap[b]? ∧ ok' b) {b : Nat} (hb : ok b) : ∀ (off : Nat) (fs : List Lm), LRps w ok b off fs → LRps w' ok' b off fs
  | _, [], _ => LRps.nil
  | off, f :: fs, h => by
    rw [LRps.cons] at h ⊢; obtain ⟨⟨c0, c1, c2, c3, h0, h1, h2, h3, hr⟩, hrs⟩ := h; (have hk : ∀ o, w'.cell? ⟨b, o, none⟩ = w.cell? ⟨b, o, none⟩ := fun o => cell_of_block (hc b (lt_of_cell h0) hb).1); exact ⟨⟨c0, c1, c2, c3, (hk _).trans h0, (hk _).trans h1, (hk _).trans h2, (hk _).trans h3, LRp.move hc f _ hr⟩, LRps.move hc hb (off + 4) fs hrs⟩
end
mutual
theorem LRp.rep {w : World} {ok : Nat → Prop} : ∀ (f : Lm) (v : Value), LRp w ok f v → LRep w f v
  | .mk k n g ks, v, h => by
    rw [LRp.def] at h; rw [LRep.def]; obtain ⟨sl, cap, hv, hn, hl, hc', hk⟩ := h; (refine ⟨sl, cap, hv, hn, hl, hc', fun hne => ?_⟩); obtain ⟨b, off, hsl, -, hr⟩ := hk hne; exact ⟨b, off, hsl, LRps.reps off ks hr⟩
theorem LRps.reps {w : World} {ok : Nat → Prop} {b : Nat} : ∀ (off : Nat) (fs : List Lm), LRps w ok b off fs → LReps w b off fs
  | _, [], _ => LReps.nil
  | off, f :: fs, h => by
    rw [LRps.cons] at h; rw [LReps.cons]; obtain ⟨⟨c0, c1, c2, c3, h0, h1, h2, h3, hr⟩, hrs⟩ := h; exact ⟨⟨c0, c1, c2, c3, h0, h1, h2, h3, LRp.rep f _ hr⟩, LRps.reps (off + 4) fs hrs⟩
end
/-- Cells, four by four, that are such formulas. -/
def LQ5 (ok : Nat → Prop) (w : World) : List Value → List Lm → Prop
  | [], [] => True
  | c0 :: c1 :: c2 :: c3 :: cs, f :: fs => LRp w ok f (.agg #[c0, c1, c2, c3]) ∧ LQ5 ok w cs fs
  | _, _ => False
theorem LQ5.append {w : World} {ok : Nat → Prop} : ∀ {cs : List Value} {fs : List Lm} {ds : List Value} {gs : List Lm}, LQ5 ok w cs fs → LQ5 ok w ds gs → LQ5 ok w (cs ++ ds) (fs ++ gs)
  | [], [], _, _, _, k => k
  | _ :: _ :: _ :: _ :: _, _ :: _, _, _, h, k => ⟨h.1, LQ5.append h.2 k⟩
theorem LQ5.move {w w' : World} {ok ok' : Nat → Prop} (hc : ∀ b, b < w.heap.size → ok b → w'.heap[b]? = w.heap[b]? ∧ ok' b) : ∀ {cs : List Value} {fs : List Lm}, LQ5 ok w cs fs → LQ5 ok' w' cs fs
  | [], [], _ => trivial
  | _ :: _ :: _ :: _ :: _, _ :: _, h => ⟨LRp.move hc _ _ h.1, LQ5.move hc h.2⟩
theorem LQ5.reps {w : World} {ok : Nat → Prop} {b : Nat} : ∀ {cs : List Value} {fs : List Lm} (off : Nat), LQ5 ok w cs fs → (∀ (j : Nat) (u : Value), cs[j]? = some u → w.cell? ⟨b, off + j, none⟩ = some u) → LRps w ok b off fs
  | [], [], _, _, _ => LRps.nil
  | c0 :: c1 :: c2 :: c3 :: cs, f :: fs, off, h, hc => LRps.cons.2 ⟨⟨c0, c1, c2, c3, hc 0 c0 rfl, hc 1 c1 rfl, hc 2 c2 rfl, hc 3 c3 rfl, h.1⟩, LQ5.reps (off + 4) h.2 fun j u hu => by
      (have := hc (j + 4) u (by simpa using hu))
      rwa [show off + (j + 4) = off + 4 + j by omega] at this⟩
/-- What a copy has made so far: the list of its kids. -/
def KD (B : Nat) (w : World) (ad : Option Addr) (cap : Nat) (fs : List Lm) : Prop := ∃ cs, w.ownsRow B 52 4 (.slice ad fs.length cap) fs.length cs ∧ LQ5 (fun b => B ≤ b ∧ (Value.slice ad fs.length cap).ownBlock ≠ some b) w cs fs
theorem KD.nil {B : Nat} {w : World} : KD B w none 0 [] := ⟨[], ⟨rfl, Or.inl ⟨rfl, rfl⟩⟩, trivial⟩
theorem KD.same {B : Nat} {w w' : World} {ad : Option Addr} {cap : Nat} {fs : List Lm} (h : KD B w ad cap fs) (hb : ∀ b, B ≤ b → b < w.heap.size → w'.heap[b]? = w.heap[b]?) : KD B w' ad cap fs := by
  obtain ⟨cs, ⟨h1, h2⟩, h3⟩ := h; (refine ⟨cs, ⟨h1, ?_⟩, h3.move fun b hb1 hb2 => ⟨hb b hb2.1 hb1, hb2⟩⟩)
  rcases h2 with h2 | ⟨g, cap, cur, hv, hg, hh, r⟩
  · exact Or.inl h2
  · exact Or.inr ⟨g, cap, cur, hv, hg, (hb g hg (lt_of_block hh)).trans hh, r⟩
theorem KD.up {B : Nat} {w w' : World} {ad : Option Addr} {cap : Nat} {fs : List Lm} (h : KD B w ad cap fs) (hb : Below w.heap.size w w') : KD B w' ad cap fs := h.same fun b _ hb1 => hb.block b hb1
/-- One kid more. -/
theorem KD.app {B : Nat} {w1 w3 : World} {o : Obj} {ad : Option Addr} {cp : Nat} {fs : List Lm} {kid : Lm} {c0 c1 c2 c3 : Value} {cs : List Value} {g3 cp3 i : Nat} (hi : fs.length = i) (hB : B ≤ w1.heap.size)
    (hown : (w1.alloc o).ownsRow B 52 4 (.slice ad i cp) i cs) (hlq : LQ5 (fun b => B ≤ b ∧ (Value.slice ad i cp).ownBlock ≠ some b) (w1.alloc o) cs fs)
    (hrep : LRp w1 (fun b => B ≤ b ∧ (Value.slice ad i cp).ownBlock ≠ some b) kid (.agg #[c0, c1, c2, c3]))
    (hown3 : w3.ownsRow B 52 4 (.slice (some ⟨g3, 0, none⟩) (i + 1) cp3) (i + 1) (cs ++ [c0, c1, c2, c3]))
    (hgrow : (w1.alloc o).grownBy w3 (Value.slice ad i cp).ownBlock) (hat : (Value.slice ad i cp).ownBlock = some g3 ∨ g3 = (w1.alloc o).heap.size) :
    Below B w1 w3 ∧ KD B w3 (some ⟨g3, 0, none⟩) cp3 (fs ++ [kid]) := by
  subst hi; (have hs : (w1.alloc o).heap.size = w1.heap.size + 1 := by simp); have hs2 := hgrow.size; (refine ⟨⟨hgrow.os, hgrow.tape, hgrow.output, by omega, fun j hj => ?_⟩, cs ++ [c0, c1, c2, c3], ?_, ?_⟩)
  · rw [hgrow.block j (by omega) (fun e => by have := (hown.lt j e.symm).1; omega), Below.heap_alloc _ _ _ (by omega)]
  · rw [List.length_append]; exact hown3
  · refine (hlq.append (ds := [c0, c1, c2, c3]) (gs := [kid]) ⟨LRp.move (fun b hb hok => ⟨Below.heap_alloc _ _ _ hb, hok⟩) _ _ hrep, trivial⟩).move fun b hb hok => ⟨hgrow.block b hb (fun e => hok.2 e.symm), hok.1, fun e => ?_⟩
    (have e : g3 = b := by simpa [Value.ownBlock] using e)
    rcases hat with h | h
    · exact hok.2 (by rw [h, e])
    · omega
/-- The list is a formula's kids. -/
theorem KD.rep {B : Nat} {w : World} {ad : Option Addr} {cap : Nat} {ks : List Lm} (h : KD B w ad cap ks) (k : Int) (n : ByteArray) (g : Bool) (hn : n.size ≤ maxLen) : LRp w (B ≤ ·) (.mk k n g ks) (.agg #[.int .i64 k, .string n, .bool g, .slice ad ks.length cap]) := by
  obtain ⟨cs, hown, hlq⟩ := h
  rcases hown.2 with ⟨hv, h0⟩ | ⟨b, cp, cur, hv, hg, hh, h1, h2, -⟩
  · simp only [Value.slice.injEq] at hv
    obtain ⟨rfl, -, rfl⟩ := hv; (exact LRp.def.2 ⟨none, 0, rfl, hn, by omega, by simp, fun hne => absurd (List.length_eq_zero_iff.1 h0) hne⟩)
  · simp only [Value.slice.injEq, true_and] at hv
    obtain ⟨rfl, rfl⟩ := hv; (refine LRp.def.2 ⟨_, cap, rfl, hn, h1, h2, fun _ => ⟨b, 0, rfl, hg, ?_⟩⟩)
    have := (hlq.move (ok' := (B ≤ ·)) fun b _ hb => ⟨rfl, hb.1⟩).reps (b := b) 0 fun j u hu => by
      have := hown.cells (g := b) rfl j u hu; rw [add_none] at this; exact this
    exact this
theorem blk4N {w : World} {b : Nat} {c0 c1 c2 c3 : Value} {T : TypeId} (h : w.heap[b]? = some (.cells #[c0, c1, c2, c3] T (0, 0))) : w.cell? ⟨b, 0, none⟩ = some c0 ∧ w.cell? ⟨b, 1, none⟩ = some c1 ∧ w.cell? ⟨b, 2, none⟩ = some c2 ∧ w.cell? ⟨b, 3, none⟩ = some c3 ∧ w.frozen? ⟨b, 0, none⟩ = false ∧ w.frozen? ⟨b, 1, none⟩ = false ∧ w.frozen? ⟨b, 2, none⟩ = false ∧ w.frozen? ⟨b, 3, none⟩ = false :=
  ⟨blk_cell h 0, blk_cell h 1, blk_cell h 2, blk_cell h 3, blk_fz h 0, blk_fz h 1, blk_fz h 2, blk_fz h 3⟩
theorem set4N {w : World} {b : Nat} {x0 x1 x2 x3 : Value} {T : TypeId} (h : w.heap[b]? = some (.cells #[x0, x1, x2, x3] T (0, 0))) (y0 y1 y2 y3 : Value) : ((((w.setCell ⟨b, 0, none⟩ y0).setCell ⟨b, 1, none⟩ y1).setCell ⟨b, 2, none⟩ y2).setCell ⟨b, 3, none⟩ y3).heap[b]? = some (.cells #[y0, y1, y2, y3] T (0, 0)) := by
  simp [World.setCell, Array.getElem?_modify, h]
theorem dualL_len : ∀ l : List Lm, (dualL l).length = l.length
  | [] => by rw [dualL]
  | f :: fs => by rw [dualL, List.length_cons, List.length_cons, dualL_len fs]
theorem dualL_app : ∀ l m : List Lm, dualL (l ++ m) = dualL l ++ dualL m
  | [], m => by rw [dualL]; rfl
  | f :: fs, m => by rw [List.cons_append, dualL, dualL, dualL_app fs m]; rfl
end Go.Proofs.Ytealalhgkdlmkai
