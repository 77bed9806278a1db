/- Texts of one proof, one behind the other: KI3, KI4, KI5. -/
import Derived.Test.YtalnljnincnbdacGreatB17
import Derived.Deep.AppendLies
/- Walks: the items of a sequent. -/
namespace Go.Proofs.YtalnljnincnbdacGreat
open Go.RowKit

theorem infoItem : ∃ i, Tryz.prog.info? 82 = some i ∧ i.zero = some (.int .i64 0) ∧ i.size = 1 ∧ i.bytes = 8 := by
  (obtain ⟨i, hi, h⟩ := Option.map_eq_some_iff.1 (show (Tryz.prog.info? 82).map (fun i => (i.zero, i.size, i.bytes)) = some (some (.int .i64 0), 1, 8) by kernel_rfl)); simp only [Prod.mk.injEq] at h; exact ⟨i, hi, h.1, h.2.1, h.2.2⟩
theorem fsizes_len : ∀ l : List Fm, l.length ≤ Fm.sizes l
  | [] => Nat.zero_le _
  | f :: l => by
    have h1 := fsizes_len l; (have h2 : 1 ≤ f.size := by cases f; rw [Fm.size]; omega); rw [Fm.sizes, List.length_cons]; omega
theorem fsizes_le : ∀ (l : List Fm) (i : Nat), Fm.sizes (l.take i) ≤ Fm.sizes l
  | [], i => by simp
  | f :: l, 0 => by rw [List.take_zero]; show Fm.sizes [] ≤ _; simp [Fm.sizes]
  | f :: l, i + 1 => by
    have := fsizes_le l i; rw [List.take_succ_cons, Fm.sizes, Fm.sizes]; omega
set_option maxRecDepth 10000 in
set_option maxHeartbeats 4000000 in
theorem items_any {Ph : Fm → Prop} (hc : Closed Ph) (l r : List Fm) (hpl : ∀ f ∈ l, Ph f) (hpr : ∀ f ∈ r, Ph f) (vl vr : Value) (w : World) (T : Nat → Prop) (bt : Nat) (ps : List PartM) (fs : List Fm) (hl : FLp (fun b => ¬ T b) w vl l) (hr : FLp (fun b => ¬ T b) w vr r) (htab : Tab Ph w T bt ps fs) (hsz : fs.length + Fm.sizes l + Fm.sizes r ≤ 100000) :
    Calls Tryz.prog 47 #[.agg #[vl, vr], .pointer (some ⟨bt, 0, none⟩)] w fun e w' => ∃ ad cap il ir T' ps' gs, e = .returned (.slice ad (il ++ ir).length cap) ∧ ItSt Ph (w.alloc (.cells #[vl, vr] 24 (0, 0))) T bt ps fs w' ad cap (il ++ ir) T' ps' gs ∧ ItsL (fs ++ gs) il l ∧ ItsR (fs ++ gs) ir r ∧ gs.length ≤ Fm.sizes l + Fm.sizes r := by
  have hl' := hl; have hr' := hr; obtain ⟨al, cl, rfl, hl1, hl2, -⟩ := hl'; obtain ⟨ar, cr, rfl, hr1, hr2, -⟩ := hr'; obtain ⟨i1, hi1, hz10, hz11, hz12⟩ := infoItem; have hll := fsizes_len l; have hrl := fsizes_len r; (have hlI : (l.length : Int) ≤ 100000 := by omega); (have hrI : (r.length : Int) ≤ 100000 := by omega); (have hlc : (l.length : Int) ≤ (cl : Int) := by omega); (have hrc : (r.length : Int) ≤ (cr : Int) := by omega); have HC : Hid (Closed Ph) := hc; have HPL : Hid (∀ f ∈ l, Ph f) := hpl; have HPR : Hid (∀ f ∈ r, Ph f) := hpr; have HLn : Hid (fs.length + Fm.sizes l + Fm.sizes r ≤ 100000) := hsz; have HTab : Hid (Tab Ph w T bt ps fs) := htab; obtain ⟨W, hW⟩ : ∃ W, W = w.alloc (.cells #[.slice al l.length cl, .slice ar r.length cr] 24 (0, 0)) := ⟨_, rfl⟩; (have BW : Below w.heap.size w W := by rw [hW]; exact below_more (Below.refl _ w) _); (have HLW : Hid (FLp (fun b => ¬ T b) W (.slice al l.length cl) l) := hl.up BW); (have HRW : Hid (FLp (fun b => ¬ T b) W (.slice ar r.length cr) r) := hr.up BW); (have HS0 : Hid (ItSt Ph W T bt ps fs W none 0 [] T [] []) := ⟨by rw [List.append_nil, List.append_nil]; exact htab.up BW, ⟨rfl, Or.inl ⟨rfl, rfl⟩⟩, fun b hb => by simp [Value.ownBlock] at hb, fun b h => Or.inl h, Kept.refl _ _⟩); (have HWQ : Hid (W.heap[w.heap.size]? = some (.cells #[.slice al l.length cl, .slice ar r.length cr] 24 (0, 0))) := by rw [hW]; exact blk_new w _)
  have HWn : Hid (¬ T w.heap.size) := fun h => by
    have := htab.old _ h; omega
  have HWe : Hid (w.alloc (.cells #[.slice al l.length cl, .slice ar r.length cr] 24 (0, 0)) = W) := hW.symm
  have HWs : Hid (w.heap.size + 1 = W.heap.size) := by
    show w.heap.size + 1 = W.heap.size; rw [hW]
    simp
  rw [← hW]; clear hl hr hpl hpr hsz htab hc hW BW
  go_enter Tryz.func47, Tryz.ntmps47
  go_wp2_with fail; rw [HWe.out]
  go_loopg [13, 5] l.length (fun g c s wr => ∃ i ad cap il T' ps' gs, i ≤ l.length ∧ g = l.length - i ∧ c = .int .i64 (i : Nat) ∧ s = .slice ad il.length cap ∧ Hid (ItSt Ph W T bt ps fs wr ad cap il T' ps' gs) ∧ Hid (ItsL (fs ++ gs) il (l.take i)) ∧ Hid (gs.length ≤ Fm.sizes (l.take i)))
  case atStart => exact ⟨0, none, 0, [], T, [], [], by omega, by omega, rfl, rfl, HS0, ⟨rfl, fun i f h => by simp at h⟩, Nat.zero_le _⟩
  case round =>
    obtain ⟨i, ad, cap, il, T', ps', gs, hi, hg, rfl, rfl, HSt, HIt, HGl⟩ := hrel; have HG : Hid (gk = l.length - i) := hg; clear hg HS0; by_cases hlt : i < l.length
    · obtain ⟨⟨kk, kn, kks⟩, hkid⟩ : ∃ g, l[i]? = some g := ⟨_, List.getElem?_eq_getElem hlt⟩
      (have hfl := HLW.out.move (w' := wr) (P' := fun b => ¬ T b ∧ b < W.heap.size) fun b h1 h2 => ⟨HSt.out.kept.block b h1 h2, h2, h1⟩); obtain ⟨_, _, hve, -, -, hfl2⟩ := hfl; simp only [Value.slice.injEq, true_and] at hve; obtain ⟨rfl, rfl⟩ := hve; (obtain ⟨b, off, rfl, hb, hrs⟩ := hfl2 (fun e => by rw [e] at hlt; simp at hlt)); obtain ⟨sk, ck, c0, c1, c2, hrk⟩ := hrs.at i kk kn kks hkid; (have hltI : (i : Int) < (l.length : Int) := by omega); (have hltc : (i : Int) < (cl : Int) := by omega); have zb := lt_of_cell c0; simp only at zb; have hsz := fsizes_take l i _ hkid; have HSk : Hid (Fm.sizes (l.take (i + 1)) = Fm.sizes (l.take i) + (Fm.mk kk kn kks).size) := hsz.1
      have HTk : Hid (l.take (i + 1) = l.take i ++ [.mk kk kn kks]) := by
        show _ = _; rw [List.take_add_one, hkid]; rfl
      have hStA := HSt.out.up ((Below.refl _ wr).alloc (Nat.le_refl _) (.cells #[.int .i64 kk, .string kn, .slice sk kks.length ck] 29 (0, 0))); have HStA : Hid (ItSt Ph W T bt ps fs (wr.alloc (.cells #[.int .i64 kk, .string kn, .slice sk kks.length ck] 29 (0, 0))) ad cap il T' ps' gs) := hStA
      have hcall := number_any HC.out (.mk kk kn kks) _ (wr.alloc (.cells #[.int .i64 kk, .string kn, .slice sk kks.length ck] 29 (0, 0))) T' bt (ps ++ ps') (fs ++ gs) (HPL.out _ (List.mem_of_getElem? hkid))
        (hrk.move (ok' := fun b => ¬ T' b) fun b h1 h2 => ⟨Below.heap_alloc _ _ _ h1, fun h => by
          rcases HSt.out.grow b h with h | h
          · exact h2.1 h
          · have := h2.2
            omega⟩) hStA.tab (by
          have h1 := HLn.out; have h2 := HGl.out; rw [List.length_append]
          omega)
      have hIl := HIt.out.1; rw [List.length_take, Nat.min_eq_left hi] at hIl; have HIl : Hid (il.length = i) := hIl; have HCall : Hid (Calls Tryz.prog 91 _ _ _) := hcall; clear hfl2 hb hrs hrk hStA hsz hkid HSt hcall hIl; go_wp2_with fail; refine HCall.out.mono ?_; clear HCall; rintro e w2 ⟨n, T2, ps2, gs2, rfl, hj, htab2, hgl2, hT2, hke2⟩; have HTa2 : Hid (Tab Ph w2 T2 bt (ps ++ ps' ++ ps2) (fs ++ gs ++ gs2)) := htab2; have HT2 : Hid (∀ b, T2 b → T' b ∨ (wr.alloc (.cells #[.int .i64 kk, .string kn, .slice sk kks.length ck] 29 (0, 0))).heap.size ≤ b) := hT2; (have HK2 : Hid (Kept (fun b => ¬ T' b) (wr.alloc (.cells #[.int .i64 kk, .string kn, .slice sk kks.length ck] 29 (0, 0))) w2) := hke2); have HJ : Hid ((fs ++ gs ++ gs2)[n]? = some (.mk kk kn kks)) := hj; have HGl2 : Hid (gs2.length ≤ (Fm.mk kk kn kks).size) := hgl2
      have hnn : n ≤ 1000000 := by
        have h0 := (List.getElem?_eq_some_iff.1 hj).1; have h1 := HLn.out; have h2 := HGl.out; have h3 := HSk.out; have h4 := (fsizes_le l (i + 1)); rw [List.length_append, List.length_append] at h0; omega
      have HNn : Hid (n ≤ 1000000) := hnn; (have hat := fun wx => atLeft_item n HNn.out wx); have HAt : Hid (∀ wx, Calls Tryz.prog 90 #[.int .i64 (n : Nat)] wx _) := hat; (have HW2 : Hid (w2.ownsRow W.heap.size 82 1 (.slice ad il.length cap) il.length (il.map fun i => .int .i64 (i : Nat))) := owns_keep HStA.out.row fun b hb => HK2.out.block b (HStA.out.row.lt b hb).2 (HStA.out.far b hb)); clear hj htab2 hgl2 hT2 hke2 hat hnn c0 c1 c2 zb; go_wp2_with fail; refine (HAt.out w2).mono ?_; rintro e w2' ⟨rfl, hw2⟩; subst hw2; clear HAt; have hown := owns_up HW2.out (show Below w2'.heap.size w2' _ from (Below.refl _ w2').alloc (Nat.le_refl _) (.cells #[.int .i64 ((2 * n : Nat) : Int)] 82 (0, 0))); (have hlen : il.length ≤ 100000 := by have := HIl.out; omega)
      go_wp2_with (first
        | (at_builtin
           (refine wpList_append_lies _ rfl _ _ 78 rfl W.heap.size 82 i1 (.int .i64 0) 1 8 Tryz.underlying78 hi1 hz10 hz11 hz12 rfl (by decide) _ _ _ rfl hown ⟨w2'.heap.size, 0, none⟩ 1 1 [.int .i64 ((2 * n : Nat) : Int)] rfl rfl ?_ ?_ (by omega) (by unfold maxLen; omega) (by omega) ?_ _ rfl ?_)
           · intro j u hu
             rw [add_none, Nat.zero_add]; (exact (blk_cell (blk_new w2' _) j).trans (by simpa using hu))
           · intro u hu
             simp at hu; subst hu; rfl
           · have h1 := HStA.out.kept.size
             have h2 := HK2.out.size; simp at h1 h2 ⊢; omega
           intro g5 cp5 w5 hown5 hgrow hat5 hlt5; have HG5 : Hid ((w2'.alloc (.cells #[.int .i64 ((2 * n : Nat) : Int)] 82 (0, 0))).grownBy w5 (Value.slice ad il.length cap).ownBlock) := hgrow; have HA5 : Hid ((Value.slice ad il.length cap).ownBlock = some g5 ∨ g5 = (w2'.alloc (.cells #[.int .i64 ((2 * n : Nat) : Int)] 82 (0, 0))).heap.size) := hat5; have HW5 : Hid (w5.ownsRow W.heap.size 82 1 (.slice (some ⟨g5, 0, none⟩) (il.length + 1) cp5) (il.length + 1) _) := hown5
           clear hgrow hat5 hown5 hown)
        | fail)
      have HSt5 : Hid (ItSt Ph W T bt ps fs w5 (some ⟨g5, 0, none⟩) cp5 (il ++ [2 * n]) T2 (ps' ++ ps2) (gs ++ gs2)) := HStA.out.step HTa2.out HT2.out HK2.out HW5.out HG5.out HA5.out
      go_roundg (l.length - (i + 1))
      case measure => have := HG.out; omega
      case rel =>
        (refine ⟨i + 1, some ⟨g5, 0, none⟩, cp5, il ++ [2 * n], T2, ps' ++ ps2, gs ++ gs2, by omega, rfl, by go_num, by rw [List.length_append]; rfl, HSt5, ?_, ?_⟩)
        · rw [← List.append_assoc, HTk.out]
          exact HIt.out.snoc HJ.out
        · show _ ≤ _
          rw [HSk.out, List.length_append]; have h1 := HGl.out; have h2 := HGl2.out; omega
    · have hge : ¬ (i : Int) < (l.length : Int) := by omega
      (have hie : i = l.length := by omega); subst hie; clear HG; rw [List.take_length] at HIt HGl; (obtain ⟨q0, q1, -⟩ := blk2 ((HSt.out.kept.block w.heap.size (by have := HWs.out; omega) HWn.out).trans HWQ.out)); have HLl : Hid (ItsL (fs ++ gs) il l) := HIt; clear HIt; go_wp2_with fail; clear q0 q1
      go_loopg [28, 5] r.length (fun g c s wx => ∃ i ad cap its ir T' ps' gs, i ≤ r.length ∧ g = r.length - i ∧ c = .int .i64 (i : Nat) ∧ s = .slice ad its.length cap ∧ Hid (its = il ++ ir) ∧ Hid (ItSt Ph W T bt ps fs wx ad cap its T' ps' gs) ∧ Hid (ItsL (fs ++ gs) il l) ∧ Hid (ItsR (fs ++ gs) ir (r.take i)) ∧ Hid (gs.length ≤ Fm.sizes l + Fm.sizes (r.take i)))
      case atStart => exact ⟨0, ad, cap, il, [], T', ps', gs, by omega, by omega, rfl, rfl, (List.append_nil _).symm, HSt, HLl, ⟨rfl, fun i f h => by simp at h⟩, Nat.le_trans HGl.out (Nat.le_add_right _ _)⟩
      case round =>
      clear HSt HLl HGl; obtain ⟨i, ad, cap, its, ir, T', ps', gs, hi, hg, rfl, rfl, HEq, HSt, HLl, HIt, HGl⟩ := hrel; have HG : Hid (gk = r.length - i) := hg; clear hg; by_cases hlt : i < r.length
      · obtain ⟨⟨kk, kn, kks⟩, hkid⟩ : ∃ g, r[i]? = some g := ⟨_, List.getElem?_eq_getElem hlt⟩
        (have hfl := HRW.out.move (w' := wr) (P' := fun b => ¬ T b ∧ b < W.heap.size) fun b h1 h2 => ⟨HSt.out.kept.block b h1 h2, h2, h1⟩); obtain ⟨_, _, hve, -, -, hfl2⟩ := hfl; simp only [Value.slice.injEq, true_and] at hve; obtain ⟨rfl, rfl⟩ := hve; (obtain ⟨b, off, rfl, hb, hrs⟩ := hfl2 (fun e => by rw [e] at hlt; simp at hlt)); obtain ⟨sk, ck, c0, c1, c2, hrk⟩ := hrs.at i kk kn kks hkid; (have hltI : (i : Int) < (r.length : Int) := by omega); (have hltc : (i : Int) < (cr : Int) := by omega); have zb := lt_of_cell c0; simp only at zb; have hsz := fsizes_take r i _ hkid; have HSk : Hid (Fm.sizes (r.take (i + 1)) = Fm.sizes (r.take i) + (Fm.mk kk kn kks).size) := hsz.1
        have HTk : Hid (r.take (i + 1) = r.take i ++ [.mk kk kn kks]) := by
          show _ = _; rw [List.take_add_one, hkid]; rfl
        have hStA := HSt.out.up ((Below.refl _ wr).alloc (Nat.le_refl _) (.cells #[.int .i64 kk, .string kn, .slice sk kks.length ck] 29 (0, 0))); have HStA : Hid (ItSt Ph W T bt ps fs (wr.alloc (.cells #[.int .i64 kk, .string kn, .slice sk kks.length ck] 29 (0, 0))) ad cap its T' ps' gs) := hStA
        have hcall := number_any HC.out (.mk kk kn kks) _ (wr.alloc (.cells #[.int .i64 kk, .string kn, .slice sk kks.length ck] 29 (0, 0))) T' bt (ps ++ ps') (fs ++ gs) (HPR.out _ (List.mem_of_getElem? hkid))
          (hrk.move (ok' := fun b => ¬ T' b) fun b h1 h2 => ⟨Below.heap_alloc _ _ _ h1, fun h => by
            rcases HSt.out.grow b h with h | h
            · exact h2.1 h
            · have := h2.2
              omega⟩) hStA.tab (by
            have h1 := HLn.out; have h2 := HGl.out; rw [List.length_append]
            omega)
        have hIl := HIt.out.1; rw [List.length_take, Nat.min_eq_left hi] at hIl; have HIl : Hid (ir.length = i) := hIl; have HCall : Hid (Calls Tryz.prog 91 _ _ _) := hcall; clear hfl2 hb hrs hrk hStA hsz hkid HSt hcall hIl; go_wp2_with fail; refine HCall.out.mono ?_; clear HCall; rintro e w2 ⟨n, T2, ps2, gs2, rfl, hj, htab2, hgl2, hT2, hke2⟩; have HTa2 : Hid (Tab Ph w2 T2 bt (ps ++ ps' ++ ps2) (fs ++ gs ++ gs2)) := htab2; have HT2 : Hid (∀ b, T2 b → T' b ∨ (wr.alloc (.cells #[.int .i64 kk, .string kn, .slice sk kks.length ck] 29 (0, 0))).heap.size ≤ b) := hT2; (have HK2 : Hid (Kept (fun b => ¬ T' b) (wr.alloc (.cells #[.int .i64 kk, .string kn, .slice sk kks.length ck] 29 (0, 0))) w2) := hke2); have HJ : Hid ((fs ++ gs ++ gs2)[n]? = some (.mk kk kn kks)) := hj; have HGl2 : Hid (gs2.length ≤ (Fm.mk kk kn kks).size) := hgl2
        have hnn : n ≤ 1000000 := by
          have h0 := (List.getElem?_eq_some_iff.1 hj).1; have h1 := HLn.out; have h2 := HGl.out; have h3 := HSk.out; have h4 := (fsizes_le r (i + 1)); rw [List.length_append, List.length_append] at h0; omega
        have HNn : Hid (n ≤ 1000000) := hnn; (have hat := fun wx => atRight_item n HNn.out wx); have HAt : Hid (∀ wx, Calls Tryz.prog 92 #[.int .i64 (n : Nat)] wx _) := hat; (have HW2 : Hid (w2.ownsRow W.heap.size 82 1 (.slice ad its.length cap) its.length (its.map fun i => .int .i64 (i : Nat))) := owns_keep HStA.out.row fun b hb => HK2.out.block b (HStA.out.row.lt b hb).2 (HStA.out.far b hb)); clear hj htab2 hgl2 hT2 hke2 hat hnn c0 c1 c2 zb; go_wp2_with fail; refine (HAt.out w2).mono ?_; rintro e w2' ⟨rfl, hw2⟩; subst hw2; clear HAt; have hown := owns_up HW2.out (show Below w2'.heap.size w2' _ from (Below.refl _ w2').alloc (Nat.le_refl _) (.cells #[.int .i64 ((2 * n + 1 : Nat) : Int)] 82 (0, 0))); (have hlen : its.length ≤ 200000 := by have h1 := HIl.out; have h2 := HLl.out.1; rw [HEq.out, List.length_append]; omega)
        go_wp2_with (first
          | (at_builtin
             (refine wpList_append_lies _ rfl _ _ 78 rfl W.heap.size 82 i1 (.int .i64 0) 1 8 Tryz.underlying78 hi1 hz10 hz11 hz12 rfl (by decide) _ _ _ rfl hown ⟨w2'.heap.size, 0, none⟩ 1 1 [.int .i64 ((2 * n + 1 : Nat) : Int)] rfl rfl ?_ ?_ (by omega) (by unfold maxLen; omega) (by omega) ?_ _ rfl ?_)
             · intro j u hu
               rw [add_none, Nat.zero_add]; (exact (blk_cell (blk_new w2' _) j).trans (by simpa using hu))
             · intro u hu
               simp at hu; subst hu; rfl
             · have h1 := HStA.out.kept.size
               have h2 := HK2.out.size; simp at h1 h2 ⊢; omega
             intro g5 cp5 w5 hown5 hgrow hat5 hlt5; have HG5 : Hid ((w2'.alloc (.cells #[.int .i64 ((2 * n + 1 : Nat) : Int)] 82 (0, 0))).grownBy w5 (Value.slice ad its.length cap).ownBlock) := hgrow; have HA5 : Hid ((Value.slice ad its.length cap).ownBlock = some g5 ∨ g5 = (w2'.alloc (.cells #[.int .i64 ((2 * n + 1 : Nat) : Int)] 82 (0, 0))).heap.size) := hat5; have HW5 : Hid (w5.ownsRow W.heap.size 82 1 (.slice (some ⟨g5, 0, none⟩) (its.length + 1) cp5) (its.length + 1) _) := hown5
             clear hgrow hat5 hown5 hown)
          | fail)
        have HSt5 : Hid (ItSt Ph W T bt ps fs w5 (some ⟨g5, 0, none⟩) cp5 (its ++ [2 * n + 1]) T2 (ps' ++ ps2) (gs ++ gs2)) := HStA.out.step HTa2.out HT2.out HK2.out HW5.out HG5.out HA5.out
        go_roundg (r.length - (i + 1))
        case measure => have := HG.out; omega
        case rel =>
          (refine ⟨i + 1, some ⟨g5, 0, none⟩, cp5, its ++ [2 * n + 1], ir ++ [2 * n + 1], T2, ps' ++ ps2, gs ++ gs2, by omega, rfl, by go_num, by rw [List.length_append]; rfl, by show _ = _; rw [HEq.out, List.append_assoc], HSt5, by rw [← List.append_assoc]; exact HLl.out.grow, ?_, ?_⟩)
          · rw [← List.append_assoc, HTk.out]
            exact HIt.out.snoc HJ.out
          · show _ ≤ _
            rw [HSk.out, List.length_append]; have h1 := HGl.out; have h2 := HGl2.out; omega
      · have hge : ¬ (i : Int) < (r.length : Int) := by omega
        (have hie : i = r.length := by omega); subst hie; clear HG; rw [List.take_length] at HIt HGl; go_wp2_with fail; go_ret; have heq := HEq.out; subst heq; (exact ⟨ad, cap, il, ir, by rw [← List.length_append]; rfl, T', ps', gs, HSt.out, HLl.out, HIt.out, HGl.out⟩)
end Go.Proofs.YtalnljnincnbdacGreat
/- Walks: the ways of items. -/
namespace Go.Proofs.YtalnljnincnbdacGreat
open Go.RowKit

/-- A row of items in memory. -/
def IRow (P : Nat → Prop) (w : World) (v : Value) (its : List Nat) : Prop := ∃ ad cap, v = .slice ad its.length cap ∧ its.length ≤ cap ∧ cap ≤ maxLen ∧ (its ≠ [] → ∃ b off, ad = some ⟨b, off, none⟩ ∧ P b ∧ ∀ (j x : Nat), its[j]? = some x → w.cell? ⟨b, off + j, none⟩ = some (.int .i64 (x : Nat)))
/-- Rows of items. -/
def PRows (P : Nat → Prop) (w : World) (v : Value) (prs : List (List Nat)) : Prop := ∃ ad cap, v = .slice ad prs.length cap ∧ prs.length ≤ cap ∧ cap ≤ maxLen ∧ (prs ≠ [] → ∃ b off, ad = some ⟨b, off, none⟩ ∧ P b ∧ ∀ (j : Nat) (pr : List Nat), prs[j]? = some pr → ∃ u, w.cell? ⟨b, off + j, none⟩ = some u ∧ IRow P w u pr)
def WayR (P : Nat → Prop) (w : World) (v : Value) (wy : List UInt8 × List (List Nat)) : Prop := ∃ s u, v = .agg #[.string s, u] ∧ s.data.toList = wy.1 ∧ PRows P w u wy.2
theorem IRow.move {P P' : Nat → Prop} {w w' : World} {v : Value} {its : List Nat} (h : IRow P w v its) (hb : ∀ b, b < w.heap.size → P b → w'.heap[b]? = w.heap[b]? ∧ P' b) : IRow P' w' v its := by
  obtain ⟨ad, cap, h1, h2, h3, h4⟩ := h; (refine ⟨ad, cap, h1, h2, h3, fun hne => ?_⟩); obtain ⟨b, off, h5, h6, h7⟩ := h4 hne; obtain ⟨x, hx⟩ : ∃ x, its[0]? = some x := ⟨_, List.getElem?_eq_getElem (List.length_pos_iff.2 hne)⟩; have hlt := lt_of_cell (h7 0 x hx); simp only at hlt; (exact ⟨b, off, h5, (hb b hlt h6).2, fun j x hj => (cell_of_block (a := ⟨b, off + j, none⟩) (hb b hlt h6).1).trans (h7 j x hj)⟩)
theorem PRows.move {P P' : Nat → Prop} {w w' : World} {v : Value} {prs : List (List Nat)} (h : PRows P w v prs) (hb : ∀ b, b < w.heap.size → P b → w'.heap[b]? = w.heap[b]? ∧ P' b) : PRows P' w' v prs := by
  obtain ⟨ad, cap, h1, h2, h3, h4⟩ := h; (refine ⟨ad, cap, h1, h2, h3, fun hne => ?_⟩); obtain ⟨b, off, h5, h6, h7⟩ := h4 hne; obtain ⟨x, hx⟩ : ∃ x, prs[0]? = some x := ⟨_, List.getElem?_eq_getElem (List.length_pos_iff.2 hne)⟩; obtain ⟨u, hu, -⟩ := h7 0 x hx; have hlt := lt_of_cell hu; simp only at hlt; (refine ⟨b, off, h5, (hb b hlt h6).2, fun j pr hj => ?_⟩); obtain ⟨u, hu, hr⟩ := h7 j pr hj; exact ⟨u, (cell_of_block (a := ⟨b, off + j, none⟩) (hb b hlt h6).1).trans hu, hr.move hb⟩
theorem WayR.move {P P' : Nat → Prop} {w w' : World} {v : Value} {wy : List UInt8 × List (List Nat)} (h : WayR P w v wy) (hb : ∀ b, b < w.heap.size → P b → w'.heap[b]? = w.heap[b]? ∧ P' b) : WayR P' w' v wy := by
  obtain ⟨s, u, h1, h2, h3⟩ := h; exact ⟨s, u, h1, h2, h3.move hb⟩
theorem IRow.one {P : Nat → Prop} {w : World} {b x : Nat} {T : TypeId} (hp : P b) (h : w.heap[b]? = some (.cells #[.int .i64 (x : Nat)] T (0, 0))) : IRow P w (.slice (some ⟨b, 0, none⟩) 1 1) [x] := by
  (refine ⟨_, 1, rfl, Nat.le_refl _, by simp [maxLen], fun _ => ⟨b, 0, rfl, hp, fun j y hj => ?_⟩⟩); rw [Nat.zero_add, blk_cell h]
  match j, hj with
  | 0, hj => simp at hj; rw [hj]; rfl
  | j + 1, hj => simp at hj
theorem IRow.two {P : Nat → Prop} {w : World} {b x y : Nat} {T : TypeId} (hp : P b) (h : w.heap[b]? = some (.cells #[.int .i64 (x : Nat), .int .i64 (y : Nat)] T (0, 0))) : IRow P w (.slice (some ⟨b, 0, none⟩) 2 2) [x, y] := by
  (refine ⟨_, 2, rfl, Nat.le_refl _, by simp [maxLen], fun _ => ⟨b, 0, rfl, hp, fun j z hj => ?_⟩⟩); rw [Nat.zero_add, blk_cell h]
  match j, hj with
  | 0, hj => simp at hj; rw [hj]; rfl
  | 1, hj => simp at hj; rw [hj]; rfl
  | j + 2, hj => simp at hj
theorem PRows.one {P : Nat → Prop} {w : World} {b : Nat} {u : Value} {pr : List Nat} {T : TypeId} (hp : P b) (h : w.heap[b]? = some (.cells #[u] T (0, 0))) (hu : IRow P w u pr) : PRows P w (.slice (some ⟨b, 0, none⟩) 1 1) [pr] := by
  (refine ⟨_, 1, rfl, Nat.le_refl _, by simp [maxLen], fun _ => ⟨b, 0, rfl, hp, fun j y hj => ?_⟩⟩); rw [Nat.zero_add, blk_cell h]
  match j, hj with
  | 0, hj => simp at hj; rw [← hj]; exact ⟨u, rfl, hu⟩
  | j + 1, hj => simp at hj
theorem PRows.two {P : Nat → Prop} {w : World} {b : Nat} {u u' : Value} {pr pr' : List Nat} {T : TypeId} (hp : P b) (h : w.heap[b]? = some (.cells #[u, u'] T (0, 0))) (hu : IRow P w u pr) (hu' : IRow P w u' pr') : PRows P w (.slice (some ⟨b, 0, none⟩) 2 2) [pr, pr'] := by
  (refine ⟨_, 2, rfl, Nat.le_refl _, by simp [maxLen], fun _ => ⟨b, 0, rfl, hp, fun j y hj => ?_⟩⟩); rw [Nat.zero_add, blk_cell h]
  match j, hj with
  | 0, hj => simp at hj; rw [← hj]; exact ⟨u, rfl, hu⟩
  | 1, hj => simp at hj; rw [← hj]; exact ⟨u', rfl, hu'⟩
  | j + 2, hj => simp at hj
end Go.Proofs.YtalnljnincnbdacGreat
/- Walks: how items are taken apart (made by gen/ki5.py). -/
namespace Go.Proofs.YtalnljnincnbdacGreat
open Go.RowKit

theorem blk_four (w : World) (o o' o'' o3 : Obj) : ((((w.alloc o).alloc o').alloc o'').alloc o3).heap[w.heap.size + 1 + 1 + 1]? = some o3 := by
  have h := blk_new (((w.alloc o).alloc o').alloc o'') o3; (rw [show (((w.alloc o).alloc o').alloc o'').heap.size = w.heap.size + 1 + 1 + 1 by simp] at h); exact h
set_option maxRecDepth 10000 in
set_option maxHeartbeats 4000000 in
theorem wayL_any (k : Int) (a b : Nat) (ha : a ≤ 1000000) (hb : b ≤ 1000000) (w : World) : Calls Tryz.prog 135 #[.int .i64 k, .int .i64 (a : Nat), .int .i64 (b : Nat)] w fun e w' => ∃ v, e = .returned v ∧ WayR (w.heap.size ≤ ·) w' v (wayL k a b) ∧ Below w.heap.size w w' := by
  obtain ⟨la, hla⟩ : ∃ x : Nat, x = 2 * a := ⟨_, rfl⟩; have Ela : Hid (la = 2 * a) := hla; (have Hla : Hid (∀ wx, Calls Tryz.prog 90 #[.int .i64 (a : Nat)] wx fun e w' => e = .returned (.int .i64 (la : Nat)) ∧ w' = wx) := fun wx => by rw [hla]; exact atLeft_item a ha wx); obtain ⟨lb, hlb⟩ : ∃ x : Nat, x = 2 * b := ⟨_, rfl⟩; have Elb : Hid (lb = 2 * b) := hlb; (have Hlb : Hid (∀ wx, Calls Tryz.prog 90 #[.int .i64 (b : Nat)] wx fun e w' => e = .returned (.int .i64 (lb : Nat)) ∧ w' = wx) := fun wx => by rw [hlb]; exact atLeft_item b hb wx); obtain ⟨ra, hra⟩ : ∃ x : Nat, x = 2 * a + 1 := ⟨_, rfl⟩; have Era : Hid (ra = 2 * a + 1) := hra; (have Hra : Hid (∀ wx, Calls Tryz.prog 92 #[.int .i64 (a : Nat)] wx fun e w' => e = .returned (.int .i64 (ra : Nat)) ∧ w' = wx) := fun wx => by rw [hra]; exact atRight_item a ha wx); clear ha hb hla hlb hra; by_cases h4 : k = 4
  · subst h4
    have HWy : Hid (wayL 4 a b = (Ru.text .notL, [[ra]])) := by
      show _ = _; rw [Era.out]; rfl
    go_enter Tryz.func135, Tryz.ntmps135
    go_wp2_with fail; refine (Hra.out _).mono ?_; rintro e w1 ⟨rfl, rfl⟩; go_wp2_with fail; (refine bodyPost_ret (v := .agg #[.string ⟨#[110, 111, 116, 45, 108]⟩, .slice (some ⟨w.heap.size + 1 + 1, 0, none⟩) 1 1]) (by simp [results, Tryz.results135, go_sem]) rfl ⟨_, rfl, ?_, below_more (below_more (below_more (Below.refl _ w) _) _) _⟩); rw [HWy.out]; (exact ⟨_, _, rfl, rfl, PRows.one (by omega) (blk_three w _ _ _) (IRow.one (by omega) (alloc_keep (blk_two w _ _) _))⟩)
  by_cases h5 : k = 5
  · subst h5
    have HWy : Hid (wayL 5 a b = (Ru.text .andL, [[la, lb]])) := by
      show _ = _; rw [Ela.out, Elb.out]; rfl
    go_enter Tryz.func135, Tryz.ntmps135
    go_wp2_with fail; refine (Hla.out _).mono ?_; rintro e w1 ⟨rfl, rfl⟩; go_wp2_with fail; refine (Hlb.out _).mono ?_; rintro e w1 ⟨rfl, rfl⟩; go_wp2_with fail; (refine bodyPost_ret (v := .agg #[.string ⟨#[97, 110, 100, 45, 108]⟩, .slice (some ⟨w.heap.size + 1 + 1, 0, none⟩) 1 1]) (by simp [results, Tryz.results135, go_sem]) rfl ⟨_, rfl, ?_, below_more (below_more (below_more (Below.refl _ w) _) _) _⟩); rw [HWy.out]; (exact ⟨_, _, rfl, rfl, PRows.one (by omega) (blk_three w _ _ _) (IRow.two (by omega) (alloc_keep (blk_two w _ _) _))⟩)
  by_cases h6 : k = 6
  · subst h6
    have HWy : Hid (wayL 6 a b = (Ru.text .orL, [[la], [lb]])) := by
      show _ = _; rw [Ela.out, Elb.out]; rfl
    go_enter Tryz.func135, Tryz.ntmps135
    go_wp2_with fail; refine (Hla.out _).mono ?_; rintro e w1 ⟨rfl, rfl⟩; go_wp2_with fail; refine (Hlb.out _).mono ?_; rintro e w1 ⟨rfl, rfl⟩; go_wp2_with fail; (refine bodyPost_ret (v := .agg #[.string ⟨#[111, 114, 45, 108]⟩, .slice (some ⟨w.heap.size + 1 + 1 + 1, 0, none⟩) 2 2]) (by simp [results, Tryz.results135, go_sem]) rfl ⟨_, rfl, ?_, below_more (below_more (below_more (below_more (Below.refl _ w) _) _) _) _⟩); rw [HWy.out]; (exact ⟨_, _, rfl, rfl, PRows.two (by omega) (blk_four w _ _ _ _) (IRow.one (by omega) (alloc_keep (alloc_keep (blk_two w _ _) _) _)) (IRow.one (by omega) (alloc_keep (blk_three w _ _ _) _))⟩)
  by_cases h7 : k = 7
  · subst h7
    have HWy : Hid (wayL 7 a b = (Ru.text .thenL, [[ra], [lb]])) := by
      show _ = _; rw [Era.out, Elb.out]; rfl
    go_enter Tryz.func135, Tryz.ntmps135
    go_wp2_with fail; refine (Hra.out _).mono ?_; rintro e w1 ⟨rfl, rfl⟩; go_wp2_with fail; refine (Hlb.out _).mono ?_; rintro e w1 ⟨rfl, rfl⟩; go_wp2_with fail; (refine bodyPost_ret (v := .agg #[.string ⟨#[116, 104, 101, 110, 45, 108]⟩, .slice (some ⟨w.heap.size + 1 + 1 + 1, 0, none⟩) 2 2]) (by simp [results, Tryz.results135, go_sem]) rfl ⟨_, rfl, ?_, below_more (below_more (below_more (below_more (Below.refl _ w) _) _) _) _⟩); rw [HWy.out]; (exact ⟨_, _, rfl, rfl, PRows.two (by omega) (blk_four w _ _ _ _) (IRow.one (by omega) (alloc_keep (alloc_keep (blk_two w _ _) _) _)) (IRow.one (by omega) (alloc_keep (blk_three w _ _ _) _))⟩)
  have HWy : Hid (wayL k a b = ([], [])) := by
    show _ = _; unfold wayL; rw [if_neg h4, if_neg h5, if_neg h6, if_neg h7]
  go_enter Tryz.func135, Tryz.ntmps135
  go_wp2_with fail; (refine bodyPost_ret (v := .agg #[.string ⟨#[]⟩, .slice none 0 0]) (by simp [results, Tryz.results135, go_sem]) rfl ⟨_, rfl, ?_, below_more (Below.refl _ w) _⟩); rw [HWy.out]; (exact ⟨_, _, rfl, rfl, none, 0, rfl, Nat.le_refl _, Nat.zero_le _, fun h => absurd rfl h⟩)
set_option maxRecDepth 10000 in
set_option maxHeartbeats 4000000 in
theorem wayR_any (k : Int) (a b : Nat) (ha : a ≤ 1000000) (hb : b ≤ 1000000) (w : World) : Calls Tryz.prog 136 #[.int .i64 k, .int .i64 (a : Nat), .int .i64 (b : Nat)] w fun e w' => ∃ v, e = .returned v ∧ WayR (w.heap.size ≤ ·) w' v (wayR k a b) ∧ Below w.heap.size w w' := by
  obtain ⟨la, hla⟩ : ∃ x : Nat, x = 2 * a := ⟨_, rfl⟩; have Ela : Hid (la = 2 * a) := hla; (have Hla : Hid (∀ wx, Calls Tryz.prog 90 #[.int .i64 (a : Nat)] wx fun e w' => e = .returned (.int .i64 (la : Nat)) ∧ w' = wx) := fun wx => by rw [hla]; exact atLeft_item a ha wx); obtain ⟨ra, hra⟩ : ∃ x : Nat, x = 2 * a + 1 := ⟨_, rfl⟩; have Era : Hid (ra = 2 * a + 1) := hra; (have Hra : Hid (∀ wx, Calls Tryz.prog 92 #[.int .i64 (a : Nat)] wx fun e w' => e = .returned (.int .i64 (ra : Nat)) ∧ w' = wx) := fun wx => by rw [hra]; exact atRight_item a ha wx); obtain ⟨rb, hrb⟩ : ∃ x : Nat, x = 2 * b + 1 := ⟨_, rfl⟩; have Erb : Hid (rb = 2 * b + 1) := hrb; (have Hrb : Hid (∀ wx, Calls Tryz.prog 92 #[.int .i64 (b : Nat)] wx fun e w' => e = .returned (.int .i64 (rb : Nat)) ∧ w' = wx) := fun wx => by rw [hrb]; exact atRight_item b hb wx); clear ha hb hla hra hrb; by_cases h4 : k = 4
  · subst h4
    have HWy : Hid (wayR 4 a b = (Ru.text .notR, [[la]])) := by
      show _ = _; rw [Ela.out]; rfl
    go_enter Tryz.func136, Tryz.ntmps136
    go_wp2_with fail; refine (Hla.out _).mono ?_; rintro e w1 ⟨rfl, rfl⟩; go_wp2_with fail; (refine bodyPost_ret (v := .agg #[.string ⟨#[110, 111, 116, 45, 114]⟩, .slice (some ⟨w.heap.size + 1 + 1, 0, none⟩) 1 1]) (by simp [results, Tryz.results136, go_sem]) rfl ⟨_, rfl, ?_, below_more (below_more (below_more (Below.refl _ w) _) _) _⟩); rw [HWy.out]; (exact ⟨_, _, rfl, rfl, PRows.one (by omega) (blk_three w _ _ _) (IRow.one (by omega) (alloc_keep (blk_two w _ _) _))⟩)
  by_cases h5 : k = 5
  · subst h5
    have HWy : Hid (wayR 5 a b = (Ru.text .andR, [[ra], [rb]])) := by
      show _ = _; rw [Era.out, Erb.out]; rfl
    go_enter Tryz.func136, Tryz.ntmps136
    go_wp2_with fail; refine (Hra.out _).mono ?_; rintro e w1 ⟨rfl, rfl⟩; go_wp2_with fail; refine (Hrb.out _).mono ?_; rintro e w1 ⟨rfl, rfl⟩; go_wp2_with fail; (refine bodyPost_ret (v := .agg #[.string ⟨#[97, 110, 100, 45, 114]⟩, .slice (some ⟨w.heap.size + 1 + 1 + 1, 0, none⟩) 2 2]) (by simp [results, Tryz.results136, go_sem]) rfl ⟨_, rfl, ?_, below_more (below_more (below_more (below_more (Below.refl _ w) _) _) _) _⟩); rw [HWy.out]; (exact ⟨_, _, rfl, rfl, PRows.two (by omega) (blk_four w _ _ _ _) (IRow.one (by omega) (alloc_keep (alloc_keep (blk_two w _ _) _) _)) (IRow.one (by omega) (alloc_keep (blk_three w _ _ _) _))⟩)
  by_cases h6 : k = 6
  · subst h6
    have HWy : Hid (wayR 6 a b = (Ru.text .orR, [[ra, rb]])) := by
      show _ = _; rw [Era.out, Erb.out]; rfl
    go_enter Tryz.func136, Tryz.ntmps136
    go_wp2_with fail; refine (Hra.out _).mono ?_; rintro e w1 ⟨rfl, rfl⟩; go_wp2_with fail; refine (Hrb.out _).mono ?_; rintro e w1 ⟨rfl, rfl⟩; go_wp2_with fail; (refine bodyPost_ret (v := .agg #[.string ⟨#[111, 114, 45, 114]⟩, .slice (some ⟨w.heap.size + 1 + 1, 0, none⟩) 1 1]) (by simp [results, Tryz.results136, go_sem]) rfl ⟨_, rfl, ?_, below_more (below_more (below_more (Below.refl _ w) _) _) _⟩); rw [HWy.out]; (exact ⟨_, _, rfl, rfl, PRows.one (by omega) (blk_three w _ _ _) (IRow.two (by omega) (alloc_keep (blk_two w _ _) _))⟩)
  by_cases h7 : k = 7
  · subst h7
    have HWy : Hid (wayR 7 a b = (Ru.text .thenR, [[la, rb]])) := by
      show _ = _; rw [Ela.out, Erb.out]; rfl
    go_enter Tryz.func136, Tryz.ntmps136
    go_wp2_with fail; refine (Hla.out _).mono ?_; rintro e w1 ⟨rfl, rfl⟩; go_wp2_with fail; refine (Hrb.out _).mono ?_; rintro e w1 ⟨rfl, rfl⟩; go_wp2_with fail; (refine bodyPost_ret (v := .agg #[.string ⟨#[116, 104, 101, 110, 45, 114]⟩, .slice (some ⟨w.heap.size + 1 + 1, 0, none⟩) 1 1]) (by simp [results, Tryz.results136, go_sem]) rfl ⟨_, rfl, ?_, below_more (below_more (below_more (Below.refl _ w) _) _) _⟩); rw [HWy.out]; (exact ⟨_, _, rfl, rfl, PRows.one (by omega) (blk_three w _ _ _) (IRow.two (by omega) (alloc_keep (blk_two w _ _) _))⟩)
  have HWy : Hid (wayR k a b = ([], [])) := by
    show _ = _; unfold wayR; rw [if_neg h4, if_neg h5, if_neg h6, if_neg h7]
  go_enter Tryz.func136, Tryz.ntmps136
  go_wp2_with fail; (refine bodyPost_ret (v := .agg #[.string ⟨#[]⟩, .slice none 0 0]) (by simp [results, Tryz.results136, go_sem]) rfl ⟨_, rfl, ?_, below_more (Below.refl _ w) _⟩); rw [HWy.out]; (exact ⟨_, _, rfl, rfl, none, 0, rfl, Nat.le_refl _, Nat.zero_le _, fun h => absurd rfl h⟩)
end Go.Proofs.YtalnljnincnbdacGreat
