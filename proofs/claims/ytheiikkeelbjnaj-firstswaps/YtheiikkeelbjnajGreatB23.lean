/- Texts of one proof, one behind the other: SY4, SY5, SO0, SP1. -/
import Derived.Test.YtheiikkeelbjnajGreatB19
import Derived.Test.YtheiikkeelbjnajGreatB11
import Derived.Maps.OwnSet
import Derived.Shelf.SlMaps.Copy
import Derived.Test.YtheiikkeelbjnajGreatB06
import Derived.Test.YtheiikkeelbjnajGreatB05
/- Walks: the free variables of an expression, as they come (freeIn). -/
namespace Go.Proofs.YtheiikkeelbjnajGreat
open Go.RowKit Go.Sort

/-- The free variables among an expression's own words. -/
def freP (p : Ex × Bd) : List (List UInt8) := (vrs (prWs (exWs p.1))).filter (fun t => !decide (t ∈ p.2))
def fre : List (Ex × Bd) → List (List UInt8)
  | [] => []
  | p :: l => freP p ++ fre l
theorem fre_app : ∀ a b : List (Ex × Bd), fre (a ++ b) = fre a ++ fre b
  | [], b => rfl
  | p :: a, b => by rw [List.cons_append, fre, fre, fre_app a b, List.append_assoc]
theorem fre_len : ∀ l : List (Ex × Bd), (fre l).length ≤ ownSz l
  | [] => Nat.le_refl _
  | p :: l => by
    have h1 := fre_len l; have h2 : (freP p).length ≤ (vrs (prWs (exWs p.1))).length := List.length_filter_le _ _; have h3 := vrs_len (prWs (exWs p.1)); rw [prWs_len] at h3; rw [fre, List.length_append, ownSz]; omega
set_option maxRecDepth 10000 in
set_option maxHeartbeats 8000000 in
theorem freeIn1_any (cb : Nat) (x : Ex) (v : Value) (w0 w : World) (hrep : ERp w0 x v) (hb : Below w0.heap.size w0 w) (hs : x.size ≤ 100000) (ad : Option Addr) (cp : Nat) (bd : Bd) (hk : KS w0.heap.size w ad cp bd) (T : Nat → Prop) (hn : ∀ b, (Value.slice ad bd.length cp).ownBlock = some b → ¬ T b) (L : List (List UInt8)) (hL : L.length ≤ 100000) (h : LVar w cb L T) :
    Calls Tryz.prog 111 #[v, .slice ad bd.length cp, .pointer (some ⟨cb, 0, none⟩)] w fun e w' => e = .returned (.tuple #[]) ∧ VEnd (fun T' w' => LVar w' cb (L ++ freP (x, bd)) T') T w w' := by
  obtain ⟨k, n, ws, ks⟩ := x; obtain ⟨sw, cw, sk, ck, rfl, hx1, hx2, -⟩ := ERp.def.1 hrep; (have HV : Hid (∀ W, Below w0.heap.size w0 W → Calls Tryz.prog 103 #[.slice sw ws.length cw] W fun e w' => ∃ ad cp, e = .returned (.slice ad (vrs (prWs ws)).length cp) ∧ KS W.heap.size w' ad cp (vrs (prWs ws)) ∧ Below W.heap.size W w') := fun W h1 => variables_any ws _ w0 W (by rw [Ex.size] at hs; omega) hx2 h1); have HL : Hid (LVar w cb L T) := h; have HK : Hid (KS w0.heap.size w ad cp bd) := hk; have HN : Hid (∀ b, (Value.slice ad bd.length cp).ownBlock = some b → ¬ T b) := hn; have HB : Hid (Below w0.heap.size w0 w) := hb; (have HVl : Hid ((vrs (prWs ws)).length ≤ 100000 ∧ L.length ≤ 100000) := ⟨by have := vrs_len (prWs ws); rw [prWs_len] at this; rw [Ex.size] at hs; omega, hL⟩); (have HF : Hid (freP (.mk k n ws ks, bd) = (vrs (prWs ws)).filter (fun t => !decide (t ∈ bd))) := rfl); have hq0 := blk_new w (.cells #[.int .i64 k, .string n, .slice sw ws.length cw, .slice sk ks.length ck] 25 (0, 0)); obtain ⟨b0, b1, b2, b3⟩ := blk4L hq0; clear hrep hx1 hx2 hb hs hk hn hL h hq0; generalize vrs (prWs ws) = V at *
  go_enter Tryz.func111, Tryz.ntmps111
  go_wp2_with fail; refine (HV.out _ (below_more HB.out _)).mono ?_; rintro e w1 ⟨adv, cpv, rfl, hkv, hb1⟩; have HB1 : Hid (Below w.heap.size w w1) := below_join (below_more (Below.refl _ w) _) hb1; (have HKv : Hid (KS (w.heap.size + 1) w1 adv cpv V) := by show KS _ _ _ _ _; simpa using hkv); (have hVI : ((V.length : Nat) : Int) ≤ 100000 := by have := HVl.out.1; omega)
  have HE0 : Hid (VEnd (fun T' w' => LVar w' cb (L ++ (V.take 0).filter (fun t => !decide (t ∈ bd))) T') T w1 w1) := ⟨T, by
    rw [List.take_zero, List.filter_nil, List.append_nil]
    exact LVar.stay HL.out fun b hb => HB1.out.block b (LVar.lt HL.out b hb).2, Kept.refl _ _, fun b h => Or.inl h⟩
  have hVc := rowS_caps HKv.out; (have hVcI : ((V.length : Nat) : Int) ≤ (cpv : Int) := by omega); clear hkv hb1 b0 b1 b2 b3 HV hVc; go_wp2_with fail
  go_loopg [11, 6] V.length (fun g c o wr => ∃ i, i ≤ V.length ∧ g = V.length - i ∧ c = .int .i64 (i : Nat) ∧ Hid (VEnd (fun T' w' => LVar w' cb (L ++ (V.take i).filter (fun t => !decide (t ∈ bd))) T') T w1 wr))
  case atStart => exact ⟨0, by omega, by omega, rfl, HE0⟩
  case round =>
    obtain ⟨i, hile, hg, rfl, HEr⟩ := hrel; have HG : Hid (gk = V.length - i) := hg; clear hg; by_cases hlt : i < V.length
    · obtain ⟨t, ht⟩ : ∃ x, V[i]? = some x := ⟨_, List.getElem?_eq_getElem hlt⟩
      obtain ⟨Ti, hli, hki, hti⟩ := HEr.out
      have hkw : KS (w.heap.size + 1) wr adv cpv V := HKv.out.move fun b e => hki.block b (World.ownsRow.lt HKv.out b e).2 fun h => by
        have h1 := (World.ownsRow.lt HKv.out b e).1; have h2 := (LVar.lt HL.out b h).2; omega
      have hkb : KS w0.heap.size wr ad cp bd := HK.out.move fun b e => by
        have h1 := (World.ownsRow.lt HK.out b e).2; have h2 := HB1.out.size; (rw [hki.block b (by omega) (HN.out b e), HB1.out.block b h1])
      have HKw : Hid (KS w0.heap.size wr ad cp bd) := hkb
      rcases hkw.ne with ⟨rfl, h0, -⟩ | ⟨gv, rfl, -⟩
      · exact absurd hlt (by rw [h0]; simp)
      have g0 := hkw.cell i t ht; (have hltI : (i : Int) < (V.length : Int) := by omega); have HCo : Hid (Calls Tryz.prog 112 #[.slice ad bd.length cp, .string ⟨t.toArray⟩] wr _) := containsS_any bd t _ wr (SL.own HKw.out); have HLt : Hid (i < V.length) := hlt; (have HLi : Hid (LVar wr cb (L ++ (V.take i).filter (fun t => !decide (t ∈ bd))) Ti ∧ Kept (fun b => ¬ T b) w1 wr ∧ ∀ b, Ti b → T b ∨ w1.heap.size ≤ b) := ⟨hli, hki, hti⟩); (have HTk : Hid (V.take (i + 1) = V.take i ++ [t]) := by show _ = _; rw [List.take_add_one, ht]; rfl)
      have HLl : Hid ((L ++ (V.take i).filter (fun t => !decide (t ∈ bd))).length ≤ 300000) := by
        have h1 := HVl.out; (have h2 : (V.take i).length ≤ V.length := by simp; omega); (have h3 := List.length_filter_le (fun t => !decide (t ∈ bd)) (V.take i)); show _ ≤ _; rw [List.length_append]; omega
      clear hli hki hti hkw hkb ht hlt hile; by_cases hm : t ∈ bd
      · have HE1 : Hid (VEnd (fun T' w' => LVar w' cb (L ++ (V.take (i + 1)).filter (fun t => !decide (t ∈ bd))) T') T w1 wr) := ⟨Ti, by
          rw [HTk.out, List.filter_append]; (have : [t].filter (fun t => !decide (t ∈ bd)) = [] := by simp [hm]); rw [this, List.append_nil]
          exact HLi.out.1, HLi.out.2.1, HLi.out.2.2⟩
        rw [decide_eq_true hm] at HCo; clear hm; go_wp2_with fail; refine HCo.out.mono ?_; rintro e w2 ⟨rfl, hw2⟩; have hw2' := hw2.symm; subst hw2'; go_wp2_with fail
        go_roundg (V.length - (i + 1))
        case measure => have := HG.out; have := HLt.out; omega
        case rel => exact ⟨i + 1, HLt.out, rfl, by go_num, HE1⟩
      · have HMt : Hid ((V.take (i + 1)).filter (fun t => !decide (t ∈ bd)) = (V.take i).filter (fun t => !decide (t ∈ bd)) ++ [t]) := by
          show _ = _; rw [HTk.out, List.filter_append]
          congr 1
          simp [hm]
        rw [decide_eq_false hm] at HCo; clear hm; obtain ⟨hl1, hk1, ht1⟩ := HLi.out; obtain ⟨adn, cpn, hv1, hv2, hv3⟩ := hl1; (generalize hA : L ++ (V.take i).filter (fun t => !decide (t ∈ bd)) = A at *); have HV1 : Hid (wr.heap[cb]? = some (.cells #[.slice adn A.length cpn] 49 (0, 0))) := hv1; have HV2 : Hid (KS (cb + 1) wr adn cpn A) := hv2; have HV3 : Hid (∀ b, Ti b ↔ b = cb ∨ (Value.slice adn A.length cpn).ownBlock = some b) := hv3; (have HK1 : Hid (Kept (fun b => ¬ T b) w1 wr ∧ ∀ b, Ti b → T b ∨ w1.heap.size ≤ b) := ⟨hk1, ht1⟩); (have HM2 : Hid (L ++ (V.take (i + 1)).filter (fun t => !decide (t ∈ bd)) = A ++ [t]) := by show _ = _; rw [HMt.out, ← List.append_assoc, hA]); obtain ⟨c0, c1⟩ := blk1 hv1; clear hv1 hv2 hv3 hk1 ht1 hA HLi HEr HMt; go_wp2_with fail; refine HCo.out.mono ?_; rintro e w2 ⟨rfl, hw2⟩; have hw2' := hw2.symm; subst hw2'
        go_wp2_with (first
          | (at_builtin
             (refine wpList_appS rfl _ _ rfl (cb + 1) A [t] adn cpn _ rfl (HV2.out.up ((Below.refl _ _).alloc (Nat.le_refl _) _)) rfl (SL.one (blk_new wr _)) (by have := lt_of_block HV1.out; simp; omega) (by have := HLl.out; simp; omega) ?_); intro ad3 cp3 w3 hown3 hk3 hat3; (have HE : Hid (VEnd (fun T' w' => LVar w' cb (A ++ [t]) T') Ti wr (w3.setCell ⟨cb, 0, none⟩ (.slice ad3 (A ++ [t]).length cp3))) := LVar.put HV1.out HV2.out HV3.out hown3 hk3 hat3); (have hv4 := (hk3.block cb (by have := lt_of_block HV1.out; simp; omega) (fun e => by have := (World.ownsRow.lt HV2.out _ e).1; omega)).trans (alloc_keep HV1.out _)); clear c0 c1; obtain ⟨c0, c1⟩ := blk1 hv4
             clear hown3 hk3 hat3 hv4)
          | fail)
        go_roundg (V.length - (i + 1))
        case measure => have := HG.out; have := HLt.out; omega
        case rel =>
          (refine ⟨i + 1, HLt.out, rfl, by go_num, ?_⟩); have h8 := VEnd.trans HK1.out.1 HK1.out.2 HE.out; rw [List.length_append] at h8; show VEnd _ _ _ _; rw [HM2.out]; exact h8
    · have hii : i = V.length := by omega
      subst hii; (have hge : ¬ (V.length : Int) < (V.length : Int) := by omega)
      have HE1 : Hid (VEnd (fun T' w' => LVar w' cb (L ++ freP (.mk k n ws ks, bd)) T') T w wr) := by
        have h8 := HEr.out; rw [List.take_length, ← HF.out] at h8; exact VEnd.pre HB1.out h8
      clear HEr; go_wp2_with fail
      go_end0
      exact ⟨rfl, HE1.out⟩
theorem freeIn1_in (cap : Array Value) (w : World) : (callFunc 111 cap).run Tryz.prog w = .ok (.enter 111 cap) w := by
  simp [go_sem]
def InvF (cb : Nat) (done : List (Ex × Bd)) (T : Nat → Prop) (w : World) : Prop := LVar w cb (fre done) T
theorem freeIn_visit (w0 : World) (cb M : Nat) (hM : M ≤ 100000) (hcb : w0.heap.size ≤ cb) : VisE w0 111 #[.pointer (some ⟨cb, 0, none⟩)] M (InvF cb) where
  lt := fun h b hb => by have := LVar.lt h b hb; exact ⟨by omega, this.2⟩
  stay := fun h hk => LVar.stay h fun b hb => hk.block b (LVar.lt h b hb).2 (Or.inl hb)
  ent := fun v u w => freeIn1_in _ w
  call := fun done T x bd v ad cp w hl hbd hrep hk hn hb hi => by
    (refine (freeIn1_any cb x v w0 w hrep hb (by omega) ad cp bd hk T hn _ (by have := fre_len done; omega) hi).mono ?_); rintro e w' ⟨rfl, hv⟩; (exact ⟨rfl, VEnd.imp hv fun T' h => by show LVar _ _ _ _; rw [fre_app, fre, fre, List.append_nil]; exact h⟩)
set_option maxHeartbeats 2000000 in
/-- freeIn: a list of its own. -/
theorem freeIn_any (x : Ex) (v : Value) (w : World) (hs : x.size ≤ 100000) (hrep : ERp w x v) :
    Calls Tryz.prog 61 #[v] w fun e w' => ∃ ad cp, e = .returned (.slice ad (fre (prE [] x)).length cp) ∧ KS w.heap.size w' ad cp (fre (prE [] x)) ∧ Below w.heap.size w w' := by
  have HE : Hid (∀ W, Below w.heap.size w W → w.heap.size ≤ W.heap.size → Calls Tryz.prog 110 #[v, .func (.func 111) #[] #[.pointer (some ⟨W.heap.size, 0, none⟩)]] (W.alloc (.cells #[.slice none 0 0] 49 (0, 0))) fun e w' => e = .returned (.tuple #[]) ∧ VEnd (InvF W.heap.size (prE [] x)) (fun b => b = W.heap.size) (W.alloc (.cells #[.slice none 0 0] 49 (0, 0))) w') := fun W h1 h2 =>
    eachE_any (by omega) (freeIn_visit w W.heap.size 100000 (Nat.le_refl _) h2) _ x v _ hs hrep (below_more h1 _) LVar.new
  (have hmf : ∀ (fn : Fn) (first cap : Array Value) (w : World), (Instr.makeFunc fn first cap).run Tryz.prog w = .ok (.func fn first cap) w := fun _ _ _ _ => rfl); obtain ⟨k, n, ws, ks⟩ := x; obtain ⟨sw, cw, sk, ck, rfl, -⟩ := ERp.def.1 hrep; have hq0 := blk_new w (.cells #[.int .i64 k, .string n, .slice sw ws.length cw, .slice sk ks.length ck] 25 (0, 0)); have HB : Hid (Below w.heap.size w (w.alloc (.cells #[.int .i64 k, .string n, .slice sw ws.length cw, .slice sk ks.length ck] 25 (0, 0)))) := below_more (Below.refl w.heap.size w) _; have hq1 := alloc_keep hq0 (.cells #[.slice none 0 0] 49 (0, 0)); obtain ⟨b0, b1, b2, b3⟩ := blk4L hq1; have HEw := HE.out _ HB.out HB.out.size; have HEv : Hid (Calls Tryz.prog 110 _ _ _) := HEw; (rw [show (w.alloc (.cells #[.int .i64 k, .string n, .slice sw ws.length cw, .slice sk ks.length ck] 25 (0, 0))).heap.size = w.heap.size + 1 by simp] at HEv); clear hs hrep HE HEw hq0 hq1
  go_enter Tryz.func61, Tryz.ntmps61
  go_wp2_with (first
    | (go_at_call 110
       refine HEv.out.mono ?_; rintro e w2 ⟨rfl, T', ⟨ad, cp, h1, h2, h3⟩, hk, -⟩; (have HK : Hid (KS (w.heap.size + 1 + 1) w2 ad cp (fre (prE [] (.mk k n ws ks))) ∧ Below w.heap.size w w2) := ⟨h2, (below_more HB.out _).trans (hk.below (by simp; omega) fun b hb e => by omega)⟩); obtain ⟨k0, k1⟩ := blk1 h1
       clear h1 h2 h3 hk)
    | fail)
  go_ret
  exact ⟨ad, cp, rfl, ⟨HK.out.1.1, by
    rcases HK.out.1.2 with h | ⟨g, c, cur, e, hg, r⟩
    · exact Or.inl h
    · exact Or.inr ⟨g, c, cur, e, by omega, r⟩⟩, HK.out.2⟩
end Go.Proofs.YtheiikkeelbjnajGreat
/- Walks: first.Free. -/
namespace Go.Proofs.YtheiikkeelbjnajGreat
open Go.RowKit Go.Sort

/-- The free variables of an expression, each once, rising. -/
def fvs (x : Ex) : List (List UInt8) := Lib.compact (srt (fre (prE [] x)))
theorem ecode_ok {x : Ex} (h : (ecode x).1 = 0) : ∃ s p f, echk x 0 (fun _ => none) (fun _ => none) = .ok s p f ∧ ecode x = (0, 0) ∧ x.size ≤ 200 := by
  unfold ecode at h ⊢
  rcases he : echk x 0 (fun _ => none) (fun _ => none) with ⟨c, a⟩ | ⟨s, p, f⟩
  · rw [he] at h
    simp only at h; exact absurd h (echk_code _ _ _ _ _ _ he)
  · have := echk_le x _ _ _ _ _ _ he (by omega)
    (exact ⟨s, p, f, rfl, rfl, by omega⟩)
theorem fre_nm (l : List (Ex × Bd)) : ∀ t ∈ fre l, isNm t = true := by
  induction l with
  | nil => intro t h; cases h
  | cons p l ih =>
    intro t h; rw [fre, List.mem_append] at h
    rcases h with h | h
    · unfold freP vrs at h
      exact (List.mem_filter.1 (List.mem_filter.1 h).1).2
    · exact ih t h
set_option maxRecDepth 10000 in
set_option maxHeartbeats 8000000 in
theorem free_ok (x : Ex) (v : Value) (w : World) (hrep : ERp w x v) (hc : (ecode x).1 = 0) :
    Calls Tryz.prog 25 #[v] w fun e w' => ∃ y, e = .returned (.tuple #[y, .agg #[.int .i64 0, .int .i64 0]]) ∧ TL w' y (fvs x) ∧ Below w.heap.size w w' := by
  obtain ⟨s, p, f, hck, hec, hsz⟩ := ecode_ok hc
  have HC0 : Hid (∀ W v, ERp W x v → Calls Tryz.prog 45 #[v] W fun e w' => e = .returned (.agg #[.int .i64 0, .int .i64 0]) ∧ Below W.heap.size W w') := fun W v h => by
    have := echeck_any x v W h; rw [hec] at this; exact this
  (have HF0 : Hid (∀ W v, ERp W x v → Calls Tryz.prog 61 #[v] W fun e w' => ∃ ad cp, e = .returned (.slice ad (fre (prE [] x)).length cp) ∧ KS W.heap.size w' ad cp (fre (prE [] x)) ∧ Below W.heap.size W w') := fun W v h => freeIn_any x v W (by omega) h); have hU : fvs x = Lib.compact (srt (fre (prE [] x))) := rfl; (have hRl : (fre (prE [] x)).length ≤ 200 := by have := fre_len (prE [] x); rw [prE_own] at this; omega); have hRn := fre_nm (prE [] x); have HRx : Hid (ERp w x v) := hrep; generalize fvs x = U at *; generalize fre (prE [] x) = R at *; obtain ⟨k, n, ws, ks⟩ := x; obtain ⟨sw, cw, sk, ck, rfl, -⟩ := ERp.def.1 hrep; (have HC : Hid (∀ W, ERp W (.mk k n ws ks) (.agg #[.int .i64 k, .string n, .slice sw ws.length cw, .slice sk ks.length ck]) → Calls Tryz.prog 45 #[.agg #[.int .i64 k, .string n, .slice sw ws.length cw, .slice sk ks.length ck]] W fun e w' => e = .returned (.agg #[.int .i64 0, .int .i64 0]) ∧ Below W.heap.size W w') := fun W h => HC0.out W _ h); (have HF : Hid (∀ W, ERp W (.mk k n ws ks) (.agg #[.int .i64 k, .string n, .slice sw ws.length cw, .slice sk ks.length ck]) → Calls Tryz.prog 61 #[.agg #[.int .i64 k, .string n, .slice sw ws.length cw, .slice sk ks.length ck]] W fun e w' => ∃ ad cp, e = .returned (.slice ad R.length cp) ∧ KS W.heap.size w' ad cp R ∧ Below W.heap.size W w') := fun W h => HF0.out W _ h); have HUR : Hid (U = Lib.compact (srt R) ∧ R.length ≤ 200 ∧ ∀ t ∈ R, isNm t = true) := ⟨hU, hRl, hRn⟩; (have hRI : ((R.length : Nat) : Int) ≤ 200 := by omega); clear HC0 HF0 hc hck hec hsz hrep hU hRl hRn
  go_enter Tryz.func25, Tryz.ntmps25
  go_wp2_with (first
    | (go_at_call 45
       refine (HC.out _ (ERp.up (below_more (below_more (Below.refl _ _) _) _) _ _ HRx.out)).mono ?_; rintro e w1 ⟨rfl, hb1⟩; have z1 := hb1.size; simp at z1; have q0 := below_keep hb1 (alloc_keep (blk_new w _) _); have q1 := below_keep hb1 (blk_new (w.alloc _) _); (rw [show (w.alloc _).heap.size = w.heap.size + 1 by simp] at q1); have B1 := below_join (below_more (below_more (Below.refl _ w) _) _) hb1; have HB1 : Hid (Below w.heap.size w w1) := B1; have HQ1 : Hid (w1.heap[w.heap.size + 1]? = some (.cells #[.int .i64 0, .int .i64 0] 32 (0, 0))) := q1; obtain ⟨a0, a1, a2, a3⟩ := blk4L q0; have y0 : w.heap.size < w1.heap.size := lt_of_block q0; have y1 : w.heap.size + 1 < w1.heap.size := lt_of_block q1
       clear hb1 z1 q0 q1 B1)
    | (go_at_call 61
       refine (HF.out _ (ERp.up (below_more HB1.out _) _ _ HRx.out)).mono ?_; rintro e w2 ⟨adr, cpr, rfl, hkr, hb2⟩
       have HKr : Hid (KS w1.heap.size w2 adr cpr R) := by
         show KS _ _ _ _ _; (have : KS (w1.heap.size + 1) w2 adr cpr R := by simpa using hkr); (exact ⟨this.1, this.2.imp id fun ⟨g, c, cur, e, hg, r⟩ => ⟨g, c, cur, e, by omega, r⟩⟩)
       have HB2 : Hid (Below w1.heap.size w1 w2) := below_join (below_more (Below.refl _ _) _) hb2
       clear hkr hb2 a0 a1 a2 a3)
    | fail)
  have HN0 : Hid (KS w2.heap.size w2 none 0 (R.take 0)) := KS.nil; have hRc := rowS_caps HKr.out; (have hRcI : ((R.length : Nat) : Int) ≤ (cpr : Int) := by omega); clear hRc
  go_loopg [17, 7, 5] R.length (fun g c t o wr => ∃ i ad cp, i ≤ R.length ∧ g = R.length - i ∧ c = .int .i64 (i : Nat) ∧ o = .slice ad i cp ∧ Hid (KS w2.heap.size wr ad cp (R.take i)) ∧ Hid (Below w2.heap.size w2 wr))
  case atStart => exact ⟨0, none, 0, by omega, by omega, rfl, rfl, HN0, Below.refl _ _⟩
  case round =>
    obtain ⟨i, ad, cp, hile, hg, rfl, rfl, HKi, HBi⟩ := hrel; have HG : Hid (gk = R.length - i) := hg; clear hg; by_cases hlt : i < R.length
    · obtain ⟨t, ht⟩ : ∃ x, R[i]? = some x := ⟨_, List.getElem?_eq_getElem hlt⟩
      rcases HKr.out.ne with ⟨rfl, h0, -⟩ | ⟨gv, rfl, -⟩
      · exact absurd hlt (by rw [h0]; simp)
      have g0 := (HBi.out.cell (lt_of_cell (HKr.out.cell i t ht))).trans (HKr.out.cell i t ht); (have hltI : (i : Int) < (R.length : Int) := by omega)
      have hts : (⟨t.toArray⟩ : ByteArray).size ≤ 8 := by
        have := (isNm_bd (HUR.out.2.2 t (List.mem_of_getElem? ht))).2; show t.toArray.size ≤ 8; simpa using this
      (have HCl : Hid (∀ w, Calls Tryz.prog 62 #[.string ⟨t.toArray⟩] w fun e w' => e = .returned (.string ⟨t.toArray⟩) ∧ Below w.heap.size w w') := fun w => clone_any _ w (by omega)); (have HLt : Hid (i < R.length ∧ i ≤ 200) := ⟨hlt, by omega⟩); (have HTk : Hid (R.take (i + 1) = R.take i ++ [t]) := by show _ = _; rw [List.take_add_one, ht]; rfl); (have HTl : Hid ((R.take i).length = i) := by show _ = _; simp; omega); (have hsl : (Value.slice ad i cp) = .slice ad (R.take i).length cp := by rw [HTl.out]); (have HSl : Hid (∀ x : Nat, x = (R.take i).length → Value.slice ad i cp = .slice ad (R.take i).length cp) := fun _ _ => hsl); clear ht hts hlt hile hsl
      go_wp2_with (first
        | (go_at_call 62
           refine (HCl.out _).mono ?_; rintro e w5 ⟨rfl, hb5⟩; have HB5 : Hid (Below wr.heap.size wr w5) := hb5
           clear hb5)
        | (at_builtin
           (refine wpList_appS rfl _ _ rfl w2.heap.size (R.take i) [t] ad cp _ (by rw [HTl.out]; rfl) ((HKi.out.up HB5.out).up ((Below.refl _ _).alloc (Nat.le_refl _) _)) rfl (SL.one (blk_new w5 _)) (by have := HBi.out.size; have := HB5.out.size; simp; omega) (by have := HLt.out; have := HTl.out; simp; omega) ?_); intro ad3 cp3 w3 hown3 hk3 hat3
           have HK3 : Hid (KS w2.heap.size w3 ad3 cp3 (R.take (i + 1)) ∧ Below w2.heap.size w2 w3) := by
             (refine ⟨by rw [HTk.out]; exact hown3, ((HBi.out.trans (HB5.out.mono HBi.out.size)).alloc (by have := HBi.out.size; have := HB5.out.size; omega) _).trans (hk3.below (by have := HBi.out.size; have := HB5.out.size; simp; omega) fun b hb e => by have := (World.ownsRow.lt HKi.out b e).1; omega)⟩)
           clear hown3 hk3 hat3)
        | fail)
      go_roundg (R.length - (i + 1))
      case measure => have := HG.out; have := HLt.out; omega
      case rel => exact ⟨i + 1, ad3, cp3, HLt.out.1, rfl, by go_num, by have := HTl.out; simp; omega, HK3.out.1, HK3.out.2⟩
    · have hii : i = R.length := by omega
      subst hii; (have hge : ¬ (R.length : Int) < (R.length : Int) := by omega); have hki := HKi.out; rw [List.take_length] at hki; have HBw : Hid (Below w.heap.size w wr) := HB1.out.trans ((HB2.out.trans (HBi.out.mono HB2.out.size)).mono HB1.out.size); (have r1 : wr.heap[w.heap.size + 1]? = some (.cells #[.int .i64 0, .int .i64 0] 32 (0, 0)) := (HBi.out.block _ (by have := HB2.out.size; have := lt_of_block HQ1.out; omega)).trans (below_keep HB2.out HQ1.out)); have HR1 : Hid (wr.heap[w.heap.size + 1]? = some (.cells #[.int .i64 0, .int .i64 0] 32 (0, 0))) := r1; (have HY1 : Hid (w.heap.size + 1 < w2.heap.size ∧ w2.heap.size ≤ wr.heap.size) := ⟨by have := HB2.out.size; have := lt_of_block HQ1.out; omega, HBi.out.size⟩); clear HKi HKr
      rcases hki.ne with ⟨rfl, hR, rfl⟩ | ⟨g, rfl, hgg, -⟩
      · subst hR
        have HUn : Hid (U = []) := HUR.out.1.trans uniq_nil; clear hki; obtain ⟨p0, p1, p2, p3⟩ := blk2 r1; clear r1
        go_wp2_with (first
          | (go_at_call 63
             refine (Tryz.slices_Sort_string_none _ _ _).mono ?_; rintro e w3 ⟨rfl, hw3⟩
             obtain rfl : wr = w3 := hw3.symm)
          | (go_at_call 64
             refine (Tryz.slices_Compact_string_empty _ _ _).mono ?_; rintro e w4 ⟨rfl, hw4⟩
             obtain rfl : wr = w4 := hw4.symm)
          | fail)
        have f2 := set2 HR1.out (.int .i64 0) (.int .i64 0); (have b2 := (HBw.out.setCell (p := ⟨w.heap.size + 1, 0, none⟩) (by simp) (.int .i64 0)).setCell (p := ⟨w.heap.size + 1, 1, none⟩) (by simp) (.int .i64 0)); generalize World.setCell _ _ _ = F at f2 b2 ⊢; clear p0 p1 p2 p3; obtain ⟨p0, p1, -⟩ := blk2 f2; (exact bodyPost_ret (v := .tuple #[.slice none 0 0, .agg #[.int .i64 0, .int .i64 0]]) (by simp [results, Tryz.results25, go_sem, p0, p1]) rfl ⟨_, rfl, by rw [HUn.out]; exact TL.nil, b2⟩)
      · have HO : Hid (wr.ownsRow w2.heap.size 9 1 (.slice (some ⟨g, 0, none⟩) R.length cp) R.length (R.map encStr)) := hki
        clear hki; obtain ⟨p0, p1, p2, p3⟩ := blk2 r1; clear r1
        go_wp2_with (first
          | (go_at_call 63
             refine (sort_any w2.heap.size g cp R HUR.out.2.1 _ HO.out).mono ?_; rintro e w3 ⟨rfl, ho3, hg3⟩; have HO3 : Hid (w3.ownsRow w2.heap.size 9 1 (.slice (some ⟨g, 0, none⟩) R.length cp) R.length ((srt R).map encStr)) := ho3; (have s2 := (hg3.block _ (lt_of_block HR1.out) (fun e => by have : g = w.heap.size + 1 := Option.some.inj e.symm; have := HY1.out; omega)).trans HR1.out); have HS2 : Hid (w3.heap[w.heap.size + 1]? = some (.cells #[.int .i64 0, .int .i64 0] 32 (0, 0))) := s2; (have HB3 : Hid (Below w.heap.size w w3) := HBw.out.trans ⟨hg3.os, hg3.tape, hg3.output, hg3.size, fun j hj => hg3.block j (by have := HBw.out.size; omega) (fun e => by have : g = j := Option.some.inj e.symm; have := HY1.out; omega)⟩)
             clear ho3 hg3 s2 p0 p1 p2 p3)
          | (go_at_call 64
             have ho := HO3.out; have hsl : (srt R).length = R.length := List.length_mergeSort ..; (have hun := uniq_any w2.heap.size g cp (srt R) (by rw [hsl]; exact HUR.out.2.1) w3 (by rw [hsl]; exact ho)); rw [hsl, ← HUR.out.1] at hun; refine hun.mono ?_; rintro e w4 ⟨rfl, hcells, hg4⟩; (have t2 := (hg4.block _ (lt_of_block HS2.out) (fun e => by have : g = w.heap.size + 1 := Option.some.inj e.symm; have := HY1.out; omega)).trans HS2.out); have HT2 : Hid (w4.heap[w.heap.size + 1]? = some (.cells #[.int .i64 0, .int .i64 0] 32 (0, 0))) := t2; (have HB4 : Hid (Below w.heap.size w w4) := HB3.out.trans ⟨hg4.os, hg4.tape, hg4.output, hg4.size, fun j hj => hg4.block j (by have := HB3.out.size; omega) (fun e => by have : g = j := Option.some.inj e.symm; have := HY1.out; omega)⟩); have HCe : Hid (∀ (j : Nat) (t : List UInt8), U[j]? = some t → w4.cell? ⟨g, j, none⟩ = some (encStr t)) := hcells
             have HUl : Hid (U.length ≤ cp ∧ cp ≤ maxLen) := by
               have h1 := compact_len (srt R); rw [hsl, ← HUR.out.1] at h1
               rcases ho.2 with ⟨hv, -⟩ | ⟨g', cap', cur, hv, -, -, h2, h3, -⟩
               · cases hv
               · cases hv
                 (exact ⟨by omega, h3⟩)
             clear hun hcells hg4 ho hsl t2
             obtain ⟨p0, p1, p2, p3⟩ := blk2 HT2.out)
          | fail)
        have f2 := set2 HT2.out (.int .i64 0) (.int .i64 0); (have b2 := (HB4.out.setCell (p := ⟨w.heap.size + 1, 0, none⟩) (by simp) (.int .i64 0)).setCell (p := ⟨w.heap.size + 1, 1, none⟩) (by simp) (.int .i64 0))
        have TF : TL ((w4.setCell ⟨w.heap.size + 1, 0, none⟩ (.int .i64 0)).setCell ⟨w.heap.size + 1, 1, none⟩ (.int .i64 0)) (.slice (some ⟨g, 0, none⟩) U.length cp) U := by
          (refine ⟨_, cp, rfl, HUl.out.1, HUl.out.2, fun _ => ⟨g, rfl, fun j t ht => ?_⟩⟩); (rw [World.cell?_setCell_far _ _ _ _ (by have := HY1.out; simp; omega), World.cell?_setCell_far _ _ _ _ (by have := HY1.out; simp; omega)]); exact HCe.out j t ht
        generalize World.setCell _ _ _ = F at f2 b2 TF ⊢; clear p0 p1 p2 p3; obtain ⟨p0, p1, -⟩ := blk2 f2; (exact bodyPost_ret (v := .tuple #[.slice (some ⟨g, 0, none⟩) U.length cp, .agg #[.int .i64 0, .int .i64 0]]) (by simp [results, Tryz.results25, go_sem, p0, p1]) rfl ⟨_, rfl, TF, b2⟩)
end Go.Proofs.YtheiikkeelbjnajGreat
/- Plain: what Check and hasMeanings say of an expression in a structure. -/
namespace Go.Proofs.YtheiikkeelbjnajGreat
open Go.RowKit Go.Sort Go.Maps Go.WideMaps

theorem enode_kids {k : Int} {n : ByteArray} {wl kl : Nat} (h : enodeF k n wl kl = none) : ekindB k = true ∧ ewordsB k wl = true ∧ (kl : Int) = ekidsN k ∧ enameB k n.data.toList = true := by
  unfold enodeF at h
  split at h
  · cases h
  · rename_i h1
    split at h
    · cases h
    · rename_i h2
      split at h
      · cases h
      · rename_i h3
        (refine ⟨by simpa using h1, ?_, ?_, by simpa using h3⟩)
        · rcases hb : ewordsB k wl with _ | _
          · exact absurd (Or.inl hb) h2
          · rfl
        · exact Classical.byContradiction fun e => h2 (Or.inr e)
end Go.Proofs.YtheiikkeelbjnajGreat
/- Walks: VastExpr and vastWords of the yardstick: they answer something. -/
namespace Go.Proofs.YtheiikkeelbjnajGreat
open Go.RowKit Go.Sort Go.Maps Go.WideMaps

def AnyB (e : Ending) : Prop := ∃ b, e = .returned (.bool b)
theorem AnyB.get {e : Ending} (h : AnyB e) : ∃ b, e = .returned (.bool b) := h
def VWs (m : Nat) : Prop := ∀ (l : List Wd) (v : Value) (d : Nat) (w : World), Wd.sizes l < m → d ≤ 25001 → WL w v l → Calls Tryz.prog 44 #[v, .int .i64 (d : Nat)] w fun e w' => AnyB e ∧ w' = w
set_option maxRecDepth 10000 in
set_option maxHeartbeats 4000000 in
theorem vastW_step (m : Nat) (ih : VWs m) : VWs (m + 1) := by
  intro l v d w hm hd hl; have HX : Hid (WL w v l) := hl; obtain ⟨sl, cp, rfl, h1, h2, -⟩ := hl; (have hlI : ((l.length : Nat) : Int) ≤ 9223372036854775807 := by unfold maxLen at h2; omega); have HMx : Hid (Wd.sizes l < m + 1 ∧ d ≤ 25001) := ⟨hm, hd⟩; (have hdI : ((d : Nat) : Int) ≤ 25001 := by omega); clear hm h1 h2; by_cases hd2 : d ≤ 25000
  case neg =>
    (have hI : (25000 : Int) < (d : Int) := by omega); clear hd2
    go_enter Tryz.func44, Tryz.ntmps44
    go_wp2_with fail; go_ret; exact ⟨⟨_, rfl⟩, rfl⟩
  (have hI : ¬ (25000 : Int) < (d : Int) := by omega); by_cases hl2 : l.length ≤ 25000
  case neg =>
    (have hJ : (25000 : Int) < (l.length : Int) := by omega); clear hd2 hl2
    go_enter Tryz.func44, Tryz.ntmps44
    go_wp2_with fail; go_ret; exact ⟨⟨_, rfl⟩, rfl⟩
  (have hJ : ¬ (25000 : Int) < (l.length : Int) := by omega); have HD : Hid (d ≤ 25000) := hd2; clear hd2 hl2 hd
  go_enter Tryz.func44, Tryz.ntmps44
  go_wp2_with fail
  go_loopg [5] l.length (fun g c wr => ∃ i, i ≤ l.length ∧ g = l.length - i ∧ c = .int .i64 (i : Nat) ∧ Hid (wr = w))
  case atStart => exact ⟨0, by omega, by omega, rfl, rfl⟩
  case round =>
    obtain ⟨i, hile, hg, rfl, HW⟩ := hrel; have hw := HW.out; subst hw; have HG : Hid (gk = l.length - i) := hg; clear hg; by_cases hlt : i < l.length
    · obtain ⟨⟨n2, ar2⟩, hki⟩ : ∃ x, l[i]? = some x := ⟨_, List.getElem?_eq_getElem hlt⟩
      (have hltI : (i : Int) < (l.length : Int) := by omega); obtain ⟨b, off, sl2, cap2, rfl, z0, z1, hrep2⟩ := HX.out.at i n2 ar2 hki; (have hsz : Wd.sizes ar2 < m := by have := wsizes_get hki; have := HMx.out.1; rw [Wd.size] at *; omega)
      have HI : Hid (Calls Tryz.prog 44 #[.slice sl2 ar2.length cap2, .int .i64 ((d : Int) + 1)] wr fun e w' => AnyB e ∧ w' = wr) := by
        show Calls _ _ _ _ _; (have := ih ar2 (.slice sl2 ar2.length cap2) (d + 1) wr hsz (by have := HD.out; omega) hrep2.args.2.2.2); simpa using this
      have HLt : Hid (i < l.length) := hlt; clear hki hrep2 hlt hile hsz
      go_wp2_with (first
        | (go_at_call 44
           refine HI.out.mono ?_; rintro e w3 ⟨hA, h3⟩; obtain ⟨bb, rfl⟩ := hA.get; obtain rfl : wr = w3 := h3.symm
           cases bb)
        | fail)
      · go_roundg (l.length - (i + 1))
        case measure => have := HG.out; have := HLt.out; omega
        case rel => exact ⟨i + 1, HLt.out, rfl, by go_num, rfl⟩
      · go_ret
        exact ⟨⟨_, rfl⟩, rfl⟩
    · have hge : ¬ (i : Int) < (l.length : Int) := by omega
      clear hlt hile HX; go_wp2_with fail; go_ret; exact ⟨⟨_, rfl⟩, rfl⟩
theorem vastW_all : ∀ m, VWs m
  | 0 => fun _ _ _ _ h => absurd h (Nat.not_lt_zero _)
  | m + 1 => vastW_step m (vastW_all m)
def VEs (m : Nat) : Prop := ∀ (x : Ex) (v : Value) (d : Nat) (w : World), x.size < m → d ≤ 25001 → ERp w x v → Calls Tryz.prog 9 #[v, .int .i64 (d : Nat)] w fun e w' => AnyB e ∧ Below w.heap.size w w'
set_option maxRecDepth 10000 in
set_option maxHeartbeats 4000000 in
theorem vastE_step (m : Nat) (ih : VEs m) : VEs (m + 1) := by
  intro x v d w hm hd hrep; have HE : Hid (ERp w x v) := hrep; obtain ⟨k, n, ws, ks⟩ := x; obtain ⟨sw, cw, sk, ck, rfl, -, hwl, h1, h2, hks⟩ := ERp.def.1 hrep; (have hlI : ((ks.length : Nat) : Int) ≤ 9223372036854775807 := by unfold maxLen at h2; omega); (have hdI : ((d : Nat) : Int) ≤ 25001 := by omega); obtain ⟨W, hWe⟩ : ∃ W, w.alloc (.cells #[.int .i64 k, .string n, .slice sw ws.length cw, .slice sk ks.length ck] 25 (0, 0)) = W := ⟨_, rfl⟩; (have hBW : Below w.heap.size w W := by rw [← hWe]; exact below_more (Below.refl _ _) _); (have hq : W.heap[w.heap.size]? = some (.cells #[.int .i64 k, .string n, .slice sw ws.length cw, .slice sk ks.length ck] 25 (0, 0)) := by rw [← hWe]; exact blk_new _ _); have HQ : Hid (W.heap[w.heap.size]? = some (.cells #[.int .i64 k, .string n, .slice sw ws.length cw, .slice sk ks.length ck] 25 (0, 0))) := hq; have HBW : Hid (Below w.heap.size w W) := hBW; have HX : Hid (ks ≠ [] → ∃ b off, sk = some ⟨b, off, none⟩ ∧ ERps w b off ks) := hks; have HMx : Hid ((Ex.mk k n ws ks).size < m + 1 ∧ d ≤ 25001) := ⟨hm, hd⟩; (have HVw : Hid (Calls Tryz.prog 44 #[.slice sw ws.length cw, .int .i64 (d : Nat)] W fun e w' => AnyB e ∧ w' = W) := vastW_all (Wd.sizes ws + 1) ws _ d W (Nat.lt_succ_self _) hd (hwl.up hBW)); obtain ⟨a0, a1, a2, a3⟩ := blk4L hq; have hs := lt_of_block hq; clear hm hrep hwl h1 h2 hks hBW hq; by_cases hd2 : d ≤ 25000
  case neg =>
    (have hI : (25000 : Int) < (d : Int) := by omega); clear hd2 hd
    go_enter Tryz.func9, Tryz.ntmps9
    go_wp2_with fail; go_ret; exact ⟨⟨_, rfl⟩, HBW.out⟩
  (have hI : ¬ (25000 : Int) < (d : Int) := by omega); by_cases hl2 : ks.length ≤ 25000
  case neg =>
    (have hJ : (25000 : Int) < (ks.length : Int) := by omega); clear hd2 hl2 hd
    go_enter Tryz.func9, Tryz.ntmps9
    go_wp2_with fail; go_ret; exact ⟨⟨_, rfl⟩, HBW.out⟩
  (have hJ : ¬ (25000 : Int) < (ks.length : Int) := by omega); have HD : Hid (d ≤ 25000) := hd2; clear hd2 hl2 hd
  go_enter Tryz.func9, Tryz.ntmps9
  go_wp2_with (first
    | (go_at_call 44
       refine HVw.out.mono ?_; rintro e w3 ⟨hA, h3⟩; obtain ⟨bb, rfl⟩ := hA.get; obtain rfl : W = w3 := h3.symm
       cases bb)
    | fail)
  · clear a0 a1 a2 a3 hWe hs
    go_loopg [5] ks.length (fun g c wr => ∃ i, i ≤ ks.length ∧ g = ks.length - i ∧ c = .int .i64 (i : Nat) ∧ Hid (Below w.heap.size w wr) ∧ Hid (wr.heap[w.heap.size]? = some (.cells #[.int .i64 k, .string n, .slice sw ws.length cw, .slice sk ks.length ck] 25 (0, 0))))
    case atStart => exact ⟨0, by omega, by omega, rfl, HBW, HQ⟩
    case round =>
      obtain ⟨i, hile, hg, rfl, HBr, HQr⟩ := hrel; have HG : Hid (gk = ks.length - i) := hg; obtain ⟨a0, a1, a2, a3⟩ := blk4L HQr.out; have hs := lt_of_block HQr.out; clear hg; by_cases hlt : i < ks.length
      · obtain ⟨⟨k2, n2, ws2, ks2⟩, hki⟩ : ∃ x, ks[i]? = some x := ⟨_, List.getElem?_eq_getElem hlt⟩
        (have hltI : (i : Int) < (ks.length : Int) := by omega); (obtain ⟨b, off, rfl, hrs⟩ := HX.out (fun e => by rw [e] at hlt; simp at hlt)); obtain ⟨sw2, cw2, sk2, ck2, z0, z1, z2, z3, hrep2⟩ := hrs.at i k2 n2 ws2 ks2 hki; have y0 := (HBr.out.cell (lt_of_cell z0)).trans z0; have y1 := (HBr.out.cell (lt_of_cell z1)).trans z1; have y2 := (HBr.out.cell (lt_of_cell z2)).trans z2; have y3 := (HBr.out.cell (lt_of_cell z3)).trans z3; (have hsz : (Ex.mk k2 n2 ws2 ks2).size < m := by have := esizes_get hki; have := HMx.out.1; rw [Ex.size] at this; omega)
        have HI : Hid (Calls Tryz.prog 9 #[.agg #[.int .i64 k2, .string n2, .slice sw2 ws2.length cw2, .slice sk2 ks2.length ck2], .int .i64 ((d : Int) + 1)] wr fun e w' => AnyB e ∧ Below wr.heap.size wr w') := by
          show Calls _ _ _ _ _; (have := ih (.mk k2 n2 ws2 ks2) _ (d + 1) wr hsz (by have := HD.out; omega) (ERp.up HBr.out _ _ hrep2)); simpa using this
        have HLt : Hid (i < ks.length) := hlt; clear hki hrs hrep2 hlt hile hsz z0 z1 z2 z3
        go_wp2_with (first
          | (go_at_call 9
             refine HI.out.mono ?_; rintro e w3 ⟨hA, hb3⟩; obtain ⟨bb, rfl⟩ := hA.get; have HB3 : Hid (Below w.heap.size w w3) := below_join HBr.out hb3; have HQ3 : Hid (w3.heap[w.heap.size]? = some (.cells #[.int .i64 k, .string n, .slice sw ws.length cw, .slice (some ⟨b, off, none⟩) ks.length ck] 25 (0, 0))) := below_keep hb3 HQr.out; clear hb3 a0 a1 a2 a3
             cases bb)
          | fail)
        · go_roundg (ks.length - (i + 1))
          case measure => have := HG.out; have := HLt.out; omega
          case rel => exact ⟨i + 1, HLt.out, rfl, by go_num, HB3, HQ3⟩
        · go_ret
          exact ⟨⟨_, rfl⟩, HB3.out⟩
      · have hge : ¬ (i : Int) < (ks.length : Int) := by omega
        clear hlt hile HX; go_wp2_with fail; go_ret; exact ⟨⟨_, rfl⟩, HBr.out⟩
  · go_ret
    exact ⟨⟨_, rfl⟩, HBW.out⟩
theorem vastE_all : ∀ m, VEs m
  | 0 => fun _ _ _ _ h => absurd h (Nat.not_lt_zero _)
  | m + 1 => vastE_step m (vastE_all m)
theorem vastExpr_any (x : Ex) (v : Value) (w : World) (h : ERp w x v) :
    Calls Tryz.prog 9 #[v, .int .i64 0] w fun e w' => AnyB e ∧ Below w.heap.size w w' :=
  vastE_all (x.size + 1) x v 0 w (Nat.lt_succ_self _) (by omega) h
end Go.Proofs.YtheiikkeelbjnajGreat
