/- Texts of one proof, one behind the other: NTF. -/
import Derived.Test.YtealalhgkdlmkaiB21
import Derived.Test.YtealalhgkdlmkaiB17
/- Walks: a net's links: links, uniteLinks. -/
namespace Go.Proofs.Ytealalhgkdlmkai
open Go.RowKit Go.Sort Go.Maps Go.WideMaps

/-- Look-ups that ask for no more than the mate. -/
theorem MtM.look0 {w : World} {b c k : Nat} {mu : Nat → Option Nat} (h : MtM w b mu c) (hk : k ≤ 1000000) : ∃ x : Int, (∀ y, mu k = some y → x = (y : Nat)) ∧ (mu k = none → x = 0) ∧ (Instr.lookup 63 (.map (some b)) (.int .i64 (k : Nat)) false).run Try.prog w = .ok (.int .i64 x) w := by
  obtain ⟨nn, D, hmap, -, -, hh1, hh3⟩ := h; obtain ⟨c, hrun, hat, -⟩ := hmap.lookup_int intKeyed Try.underlying63 Try.underlying3 (zeroInt w) (keyInt k hk); (refine ⟨c, fun y hy => ?_, fun hy => ?_, hrun⟩)
  · have h1 := (hh3 k y hk hy (.lit (.int .i64 0))).symm.trans hat
    exact (Lit.int.inj (DataW.lit.inj h1)).2.symm
  · have h9 : Maps.has D (.int .i64 (k : Nat)) = false := by rw [hh1 k hk, hy]; rfl
    have h1 := (atKey_of_not_has h9 (.lit (.int .i64 0))).symm.trans hat; exact (Lit.int.inj (DataW.lit.inj h1)).2.symm
/-- The links, told by their lesser leaves. -/
def lkOne (mu : Nat → Option Nat) (j : Nat) : Option (Nat × Nat) := match mu j with
  | some m => if j < m then some (j, m) else none
  | none => none
def lksD (mu : Nat → Option Nat) (L : Nat) : List (Nat × Nat) := (List.range L).filterMap (lkOne mu)
theorem lksD_succ (mu : Nat → Option Nat) (L : Nat) : lksD mu (L + 1) = lksD mu L ++ (match lkOne mu L with | some p => [p] | none => []) := by
  unfold lksD; rw [List.range_succ, List.filterMap_append]
  congr 1
  simp only [List.filterMap_cons, List.filterMap_nil]
  cases lkOne mu L <;> rfl
theorem lksD_len (mu : Nat → Option Nat) (L : Nat) : (lksD mu L).length ≤ L := by
  unfold lksD; (exact Nat.le_trans (List.length_filterMap_le _ _) (by rw [List.length_range]; exact Nat.le_refl _))
theorem encP_appN : ∀ a b, encP (a ++ b) = encP a ++ encP b
  | [], _ => rfl
  | p :: a, b => by rw [List.cons_append, encP, encP_appN a b, encP]; rfl
def pI (p : Nat × Nat) : Int × Int := ((p.1 : Int), (p.2 : Int))
set_option maxRecDepth 10000 in
set_option maxHeartbeats 4000000 in
theorem links_any (l : List Lm) (hs : Lm.sizes l ≤ 200) (mu : Nat → Option Nat) (c bp bm : Nat) (w : World) (h : NetAt w bp bm l mu c) :
    Calls Try.prog 48 #[nwV bp bm] w fun e w' => ∃ ad cp, e = .returned (.slice ad (lksD mu (lvsL l 0).length).length cp) ∧ w'.ownsRow 0 57 2 (.slice ad (lksD mu (lvsL l 0).length).length cp) (lksD mu (lvsL l 0).length).length (encP ((lksD mu (lvsL l 0).length).map pI)) ∧ Below w.heap.size w w' := by
  have HNt : Hid (NetAt w bp bm l mu c) := h; obtain ⟨T, ar, cr, hp, -, -, hm⟩ := h; have HMq : Hid (MtM w bm mu c) := hm; obtain ⟨an, cn, al, cl, -, -, h2, -, -, -, -⟩ := hp.read; have HC2 : Hid (w.cell? ⟨bp, 2, none⟩ = some (.slice al (lvsL l 0).length cl)) := h2; have hlv := lvsL_len l 0; obtain ⟨L, hL⟩ : ∃ L, L = (lvsL l 0).length := ⟨_, rfl⟩; rw [← hL] at HC2 hlv ⊢; (have HLl : Hid (L ≤ 200) := by show _ ≤ _; omega); (have hLI : (L : Int) ≤ 200 := by omega); unfold nwV; obtain ⟨W, hW⟩ : ∃ W, W = w.alloc (.cells #[.pointer (some ⟨bp, 0, none⟩), .map (some bm)] 65 (0, 0)) := ⟨_, rfl⟩; (have HBW : Hid (Below w.heap.size w W) := by rw [hW]; exact below_more (Below.refl _ w) _); (have HX1 : Hid (W.heap[w.heap.size]? = some (.cells #[.pointer (some ⟨bp, 0, none⟩), .map (some bm)] 65 (0, 0))) := by rw [hW]; exact blk_new _ _); obtain ⟨q0, q1, -⟩ := blk2 HX1.out; have c2 := (HBW.out.cell (lt_of_cell HC2.out)).trans HC2.out; have hWe := hW.symm; clear hW hp hm h2 hlv hL hs
  go_enter Try.func48, Try.ntmps48
  go_wp2_with fail; clear hWe q0 q1 c2
  go_loopg [12, 3] L (fun gg cc x wr => ∃ i ad cp, i ≤ L ∧ gg = L - i ∧ cc = .int .i64 (i : Nat) ∧ x = .slice ad (lksD mu i).length cp ∧ Hid (wr.ownsRow (w.heap.size + 1) 57 2 (.slice ad (lksD mu i).length cp) (lksD mu i).length (encP ((lksD mu i).map pI))) ∧ Hid (Below w.heap.size w wr) ∧ Hid (wr.heap[w.heap.size]? = some (.cells #[.pointer (some ⟨bp, 0, none⟩), .map (some bm)] 65 (0, 0))) ∧ Hid (w.heap.size + 1 ≤ wr.heap.size))
  case atStart => exact ⟨0, none, 0, by omega, by omega, rfl, rfl, ⟨rfl, Or.inl ⟨rfl, rfl⟩⟩, HBW, HX1, lt_of_block HX1.out⟩
  case round =>
    obtain ⟨i, ad, cp, hi, hg, rfl, rfl, HO, HB, HX, HS⟩ := hrel; have HGk : Hid (gk = L - i) := hg; clear hg; obtain ⟨q0, q1, -⟩ := blk2 HX.out; by_cases hlt : i < L
    · have hltI : (i : Int) < (L : Int) := by omega
      have HI : Hid (i < L) := hlt; (obtain ⟨x, hx1, hx2, hlk⟩ := (HMq.out.up HB.out).look0 (k := i) (by have := HLl.out; omega)); (have HSc : Hid (lksD mu (i + 1) = lksD mu i ++ (match lkOne mu i with | some p => [p] | none => [])) := lksD_succ mu i); have HLn : Hid ((lksD mu i).length ≤ i) := lksD_len mu i; generalize lksD mu i = LK at *; clear hlt hi; by_cases hlm : (i : Int) < x
      · obtain ⟨m, hm⟩ : ∃ m, mu i = some m := by
          cases hmi : mu i with
          | none => have := hx2 hmi; omega
          | some m => exact ⟨m, rfl⟩
        have hxm := hx1 m hm; subst hxm; (have h9 : lkOne mu i = some (i, m) := by unfold lkOne; rw [hm]; simp only; rw [if_pos (by omega)]); rw [h9] at HSc; (have hll : (LK.length : Int) ≤ 200 := by have := HLn.out; have := HLl.out; have := HI.out; omega); obtain ⟨i0, hi0, hz0, hz1, hz2⟩ := infoPr; clear h9 hm hx1 hx2
        go_wp2_with (first
          | (at_builtin
             have hsz := HB.out.size; have hnn := HLl.out; have hii := HI.out; have hss := HS.out; have hln := HLn.out; have hown := rowM_up HO.out ((Below.refl _ wr).alloc (Nat.le_refl _) (.cells #[.int .i64 (i : Nat), .int .i64 (m : Nat)] 57 (0, 0))); (refine wpList_append_lies _ rfl _ _ 23 rfl (w.heap.size + 1) 57 i0 (.agg #[.int .i64 0, .int .i64 0]) 2 16 Try.underlying23 hi0 hz0 hz1 hz2 rfl (by decide) (.slice ad LK.length cp) LK.length (encP (LK.map pI)) rfl hown ⟨wr.heap.size, 0, none⟩ 1 1 [.int .i64 (i : Nat), .int .i64 (m : Nat)] rfl rfl ?_ ?_ (by omega) (by unfold maxLen; omega) (by omega) (by simp; omega) _ rfl ?_)
             · intro j u hu
               rw [add_none, Nat.zero_add, blk_cell (blk_new wr _)]; simpa using hu
             · intro u hu
               simp at hu
               rcases hu with rfl | rfl <;> rfl
             intro g3 cp3 w3 hown3 hgrow hat hlt3; have hgrow' : (wr.alloc (.cells #[.int .i64 (i : Nat), .int .i64 (m : Nat)] 57 (0, 0))).grownBy w3 (Value.slice ad LK.length cp).ownBlock := hgrow; have hlow := HO.out.lt; (have HB3 : Hid (Below w.heap.size w w3) := ((HB.out.alloc hsz _).grown hgrow' (by simp; omega) fun k hk => by have := (hlow k hk).1; omega)); (have HX3 : Hid (w3.heap[w.heap.size]? = some (.cells #[.pointer (some ⟨bp, 0, none⟩), .map (some bm)] 65 (0, 0))) := ((hgrow'.block _ (by simp; omega) fun e => by have := (hlow _ e.symm).1; omega).trans (Below.heap_alloc _ _ _ (lt_of_block HX.out))).trans HX.out); have HO3 : Hid (w3.ownsRow (w.heap.size + 1) 57 2 (.slice (some ⟨g3, 0, none⟩) (LK.length + 1) cp3) (LK.length + 1) (encP (LK.map pI) ++ [.int .i64 (i : Nat), .int .i64 (m : Nat)])) := hown3; have HS3 : Hid (w.heap.size + 1 ≤ w3.heap.size) := lt_of_block HX3.out
             clear hgrow hgrow' hat hown3 hown hlow hsz hlt3 hi0 hz0 hz1 hz2 hnn hii hss hln)
          | fail)
        have hl9 : lksD mu (i + 1) = LK ++ [(i, m)] := HSc.out; (have hl8 : (lksD mu (i + 1)).length = LK.length + 1 := by rw [hl9]; simp)
        go_roundg (L - (i + 1))
        case measure => have := HGk.out; have := HI.out; omega
        case rel =>
          (refine ⟨i + 1, some ⟨g3, 0, none⟩, cp3, HI.out, rfl, by go_num, by rw [hl8], ?_, HB3, HX3, HS3⟩); rw [hl8, hl9, List.map_append, encP_appN]; exact HO3
      · have h9 : lkOne mu i = none := by
          unfold lkOne
          cases hmi : mu i with
          | none => rfl
          | some m => have := hx1 m hmi; simp only; rw [if_neg (by omega)]
        rw [h9] at HSc; (have hl9 : lksD mu (i + 1) = LK := by rw [HSc.out]; simp); clear h9 hx1 hx2; go_wp2_with fail
        go_roundg (L - (i + 1))
        case measure => have := HGk.out; have := HI.out; omega
        case rel => exact ⟨i + 1, ad, cp, HI.out, rfl, by go_num, by rw [hl9], by rw [hl9]; exact HO, HB, HX, HS⟩
    · have hii : L = i := by omega
      subst hii; (have hge : ¬ (L : Int) < (L : Int) := by omega); clear hlt hi; go_wp2_with fail; go_ret; exact ⟨ad, cp, rfl, rowM_low HO.out (Nat.zero_le _), HB.out⟩
end Go.Proofs.Ytealalhgkdlmkai
