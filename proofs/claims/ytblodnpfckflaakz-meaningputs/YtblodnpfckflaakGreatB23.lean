/- Texts of one proof, one behind the other: SY4, SY5, SM1, SM2. -/
import Derived.Test.YtblodnpfckflaakGreatB21
import Derived.Test.YtblodnpfckflaakGreatB14
import Derived.Test.YtblodnpfckflaakGreatB05
/- Walks: the free variables of an expression, as they come (freeIn). -/
namespace Go.Proofs.YtblodnpfckflaakGreat
open Go.RowKit Go.Sort

/-- The free variables among an expression's own words. -/
def freP (p : Ex × Bd) : List (List UInt8) := (vrs (prWs (exWs p.1))).filter (fun t => !decide (t ∈ p.2))
def fre : List (Ex × Bd) → List (List UInt8)
  | [] => []
  | p :: l => freP p ++ fre l
theorem fre_app : ∀ a b : List (Ex × Bd), fre (a ++ b) = fre a ++ fre b
  | [], b => rfl
  | p :: a, b => by rw [List.cons_append, fre, fre, fre_app a b, List.append_assoc]
theorem fre_len : ∀ l : List (Ex × Bd), (fre l).length ≤ ownSz l
  | [] => Nat.le_refl _
  | p :: l => by
    have h1 := fre_len l; have h2 : (freP p).length ≤ (vrs (prWs (exWs p.1))).length := List.length_filter_le _ _; have h3 := vrs_len (prWs (exWs p.1)); rw [prWs_len] at h3; rw [fre, List.length_append, ownSz]; omega
set_option maxRecDepth 10000 in
set_option maxHeartbeats 8000000 in
theorem freeIn1_any (cb : Nat) (x : Ex) (v : Value) (w0 w : World) (hrep : ERp w0 x v) (hb : Below w0.heap.size w0 w) (hs : x.size ≤ 100000) (ad : Option Addr) (cp : Nat) (bd : Bd) (hk : KS w0.heap.size w ad cp bd) (T : Nat → Prop) (hn : ∀ b, (Value.slice ad bd.length cp).ownBlock = some b → ¬ T b) (L : List (List UInt8)) (hL : L.length ≤ 100000) (h : LVar w cb L T) :
    Calls Tryz.prog 123 #[v, .slice ad bd.length cp, .pointer (some ⟨cb, 0, none⟩)] w fun e w' => e = .returned (.tuple #[]) ∧ VEnd (fun T' w' => LVar w' cb (L ++ freP (x, bd)) T') T w w' := by
  obtain ⟨k, n, ws, ks⟩ := x; obtain ⟨sw, cw, sk, ck, rfl, hx1, hx2, -⟩ := ERp.def.1 hrep; (have HV : Hid (∀ W, Below w0.heap.size w0 W → Calls Tryz.prog 81 #[.slice sw ws.length cw] W fun e w' => ∃ ad cp, e = .returned (.slice ad (vrs (prWs ws)).length cp) ∧ KS W.heap.size w' ad cp (vrs (prWs ws)) ∧ Below W.heap.size W w') := fun W h1 => variables_any ws _ w0 W (by rw [Ex.size] at hs; omega) hx2 h1); have HL : Hid (LVar w cb L T) := h; have HK : Hid (KS w0.heap.size w ad cp bd) := hk; have HN : Hid (∀ b, (Value.slice ad bd.length cp).ownBlock = some b → ¬ T b) := hn; have HB : Hid (Below w0.heap.size w0 w) := hb; (have HVl : Hid ((vrs (prWs ws)).length ≤ 100000 ∧ L.length ≤ 100000) := ⟨by have := vrs_len (prWs ws); rw [prWs_len] at this; rw [Ex.size] at hs; omega, hL⟩); (have HF : Hid (freP (.mk k n ws ks, bd) = (vrs (prWs ws)).filter (fun t => !decide (t ∈ bd))) := rfl); have hq0 := blk_new w (.cells #[.int .i64 k, .string n, .slice sw ws.length cw, .slice sk ks.length ck] 29 (0, 0)); obtain ⟨b0, b1, b2, b3⟩ := blk4L hq0; clear hrep hx1 hx2 hb hs hk hn hL h hq0; generalize vrs (prWs ws) = V at *
  go_enter Tryz.func123, Tryz.ntmps123
  go_wp2_with fail; refine (HV.out _ (below_more HB.out _)).mono ?_; rintro e w1 ⟨adv, cpv, rfl, hkv, hb1⟩; have HB1 : Hid (Below w.heap.size w w1) := below_join (below_more (Below.refl _ w) _) hb1; (have HKv : Hid (KS (w.heap.size + 1) w1 adv cpv V) := by show KS _ _ _ _ _; simpa using hkv); (have hVI : ((V.length : Nat) : Int) ≤ 100000 := by have := HVl.out.1; omega)
  have HE0 : Hid (VEnd (fun T' w' => LVar w' cb (L ++ (V.take 0).filter (fun t => !decide (t ∈ bd))) T') T w1 w1) := ⟨T, by
    rw [List.take_zero, List.filter_nil, List.append_nil]
    exact LVar.stay HL.out fun b hb => HB1.out.block b (LVar.lt HL.out b hb).2, Kept.refl _ _, fun b h => Or.inl h⟩
  have hVc := rowS_caps HKv.out; (have hVcI : ((V.length : Nat) : Int) ≤ (cpv : Int) := by omega); clear hkv hb1 b0 b1 b2 b3 HV hVc; go_wp2_with fail
  go_loopg [11, 6] V.length (fun g c o wr => ∃ i, i ≤ V.length ∧ g = V.length - i ∧ c = .int .i64 (i : Nat) ∧ Hid (VEnd (fun T' w' => LVar w' cb (L ++ (V.take i).filter (fun t => !decide (t ∈ bd))) T') T w1 wr))
  case atStart => exact ⟨0, by omega, by omega, rfl, HE0⟩
  case round =>
    obtain ⟨i, hile, hg, rfl, HEr⟩ := hrel; have HG : Hid (gk = V.length - i) := hg; clear hg; by_cases hlt : i < V.length
    · obtain ⟨t, ht⟩ : ∃ x, V[i]? = some x := ⟨_, List.getElem?_eq_getElem hlt⟩
      obtain ⟨Ti, hli, hki, hti⟩ := HEr.out
      have hkw : KS (w.heap.size + 1) wr adv cpv V := HKv.out.move fun b e => hki.block b (World.ownsRow.lt HKv.out b e).2 fun h => by
        have h1 := (World.ownsRow.lt HKv.out b e).1; have h2 := (LVar.lt HL.out b h).2; omega
      have hkb : KS w0.heap.size wr ad cp bd := HK.out.move fun b e => by
        have h1 := (World.ownsRow.lt HK.out b e).2; have h2 := HB1.out.size; (rw [hki.block b (by omega) (HN.out b e), HB1.out.block b h1])
      have HKw : Hid (KS w0.heap.size wr ad cp bd) := hkb
      rcases hkw.ne with ⟨rfl, h0, -⟩ | ⟨gv, rfl, -⟩
      · exact absurd hlt (by rw [h0]; simp)
      have g0 := hkw.cell i t ht; (have hltI : (i : Int) < (V.length : Int) := by omega); have HCo : Hid (Calls Tryz.prog 124 #[.slice ad bd.length cp, .string ⟨t.toArray⟩] wr _) := containsS_any bd t _ wr (SL.own HKw.out); have HLt : Hid (i < V.length) := hlt; (have HLi : Hid (LVar wr cb (L ++ (V.take i).filter (fun t => !decide (t ∈ bd))) Ti ∧ Kept (fun b => ¬ T b) w1 wr ∧ ∀ b, Ti b → T b ∨ w1.heap.size ≤ b) := ⟨hli, hki, hti⟩); (have HTk : Hid (V.take (i + 1) = V.take i ++ [t]) := by show _ = _; rw [List.take_add_one, ht]; rfl)
      have HLl : Hid ((L ++ (V.take i).filter (fun t => !decide (t ∈ bd))).length ≤ 300000) := by
        have h1 := HVl.out; (have h2 : (V.take i).length ≤ V.length := by simp; omega); (have h3 := List.length_filter_le (fun t => !decide (t ∈ bd)) (V.take i)); show _ ≤ _; rw [List.length_append]; omega
      clear hli hki hti hkw hkb ht hlt hile; by_cases hm : t ∈ bd
      · have HE1 : Hid (VEnd (fun T' w' => LVar w' cb (L ++ (V.take (i + 1)).filter (fun t => !decide (t ∈ bd))) T') T w1 wr) := ⟨Ti, by
          rw [HTk.out, List.filter_append]; (have : [t].filter (fun t => !decide (t ∈ bd)) = [] := by simp [hm]); rw [this, List.append_nil]
          exact HLi.out.1, HLi.out.2.1, HLi.out.2.2⟩
        rw [decide_eq_true hm] at HCo; clear hm; go_wp2_with fail; refine HCo.out.mono ?_; rintro e w2 ⟨rfl, hw2⟩; have hw2' := hw2.symm; subst hw2'; go_wp2_with fail
        go_roundg (V.length - (i + 1))
        case measure => have := HG.out; have := HLt.out; omega
        case rel => exact ⟨i + 1, HLt.out, rfl, by go_num, HE1⟩
      · have HMt : Hid ((V.take (i + 1)).filter (fun t => !decide (t ∈ bd)) = (V.take i).filter (fun t => !decide (t ∈ bd)) ++ [t]) := by
          show _ = _; rw [HTk.out, List.filter_append]
          congr 1
          simp [hm]
        rw [decide_eq_false hm] at HCo; clear hm; obtain ⟨hl1, hk1, ht1⟩ := HLi.out; obtain ⟨adn, cpn, hv1, hv2, hv3⟩ := hl1; (generalize hA : L ++ (V.take i).filter (fun t => !decide (t ∈ bd)) = A at *); have HV1 : Hid (wr.heap[cb]? = some (.cells #[.slice adn A.length cpn] 32 (0, 0))) := hv1; have HV2 : Hid (KS (cb + 1) wr adn cpn A) := hv2; have HV3 : Hid (∀ b, Ti b ↔ b = cb ∨ (Value.slice adn A.length cpn).ownBlock = some b) := hv3; (have HK1 : Hid (Kept (fun b => ¬ T b) w1 wr ∧ ∀ b, Ti b → T b ∨ w1.heap.size ≤ b) := ⟨hk1, ht1⟩); (have HM2 : Hid (L ++ (V.take (i + 1)).filter (fun t => !decide (t ∈ bd)) = A ++ [t]) := by show _ = _; rw [HMt.out, ← List.append_assoc, hA]); obtain ⟨c0, c1⟩ := blk1 hv1; clear hv1 hv2 hv3 hk1 ht1 hA HLi HEr HMt; go_wp2_with fail; refine HCo.out.mono ?_; rintro e w2 ⟨rfl, hw2⟩; have hw2' := hw2.symm; subst hw2'
        go_wp2_with (first
          | (at_builtin
             (refine wpList_appS rfl _ _ rfl (cb + 1) A [t] adn cpn _ rfl (HV2.out.up ((Below.refl _ _).alloc (Nat.le_refl _) _)) rfl (SL.one (blk_new wr _)) (by have := lt_of_block HV1.out; simp; omega) (by have := HLl.out; simp; omega) ?_); intro ad3 cp3 w3 hown3 hk3 hat3; (have HE : Hid (VEnd (fun T' w' => LVar w' cb (A ++ [t]) T') Ti wr (w3.setCell ⟨cb, 0, none⟩ (.slice ad3 (A ++ [t]).length cp3))) := LVar.put HV1.out HV2.out HV3.out hown3 hk3 hat3); (have hv4 := (hk3.block cb (by have := lt_of_block HV1.out; simp; omega) (fun e => by have := (World.ownsRow.lt HV2.out _ e).1; omega)).trans (alloc_keep HV1.out _)); clear c0 c1; obtain ⟨c0, c1⟩ := blk1 hv4
             clear hown3 hk3 hat3 hv4)
          | fail)
        go_roundg (V.length - (i + 1))
        case measure => have := HG.out; have := HLt.out; omega
        case rel =>
          (refine ⟨i + 1, HLt.out, rfl, by go_num, ?_⟩); have h8 := VEnd.trans HK1.out.1 HK1.out.2 HE.out; rw [List.length_append] at h8; show VEnd _ _ _ _; rw [HM2.out]; exact h8
    · have hii : i = V.length := by omega
      subst hii; (have hge : ¬ (V.length : Int) < (V.length : Int) := by omega)
      have HE1 : Hid (VEnd (fun T' w' => LVar w' cb (L ++ freP (.mk k n ws ks, bd)) T') T w wr) := by
        have h8 := HEr.out; rw [List.take_length, ← HF.out] at h8; exact VEnd.pre HB1.out h8
      clear HEr; go_wp2_with fail
      go_end0
      exact ⟨rfl, HE1.out⟩
theorem freeIn1_in (cap : Array Value) (w : World) : (callFunc 123 cap).run Tryz.prog w = .ok (.enter 123 cap) w := by
  simp [go_sem]
def InvF (cb : Nat) (done : List (Ex × Bd)) (T : Nat → Prop) (w : World) : Prop := LVar w cb (fre done) T
theorem freeIn_visit (w0 : World) (cb M : Nat) (hM : M ≤ 100000) (hcb : w0.heap.size ≤ cb) : VisE w0 123 #[.pointer (some ⟨cb, 0, none⟩)] M (InvF cb) where
  lt := fun h b hb => by have := LVar.lt h b hb; exact ⟨by omega, this.2⟩
  stay := fun h hk => LVar.stay h fun b hb => hk.block b (LVar.lt h b hb).2 (Or.inl hb)
  ent := fun v u w => freeIn1_in _ w
  call := fun done T x bd v ad cp w hl hbd hrep hk hn hb hi => by
    (refine (freeIn1_any cb x v w0 w hrep hb (by omega) ad cp bd hk T hn _ (by have := fre_len done; omega) hi).mono ?_); rintro e w' ⟨rfl, hv⟩; (exact ⟨rfl, VEnd.imp hv fun T' h => by show LVar _ _ _ _; rw [fre_app, fre, fre, List.append_nil]; exact h⟩)
set_option maxHeartbeats 2000000 in
/-- freeIn: a list of its own. -/
theorem freeIn_any (x : Ex) (v : Value) (w : World) (hs : x.size ≤ 100000) (hrep : ERp w x v) :
    Calls Tryz.prog 80 #[v] w fun e w' => ∃ ad cp, e = .returned (.slice ad (fre (prE [] x)).length cp) ∧ KS w.heap.size w' ad cp (fre (prE [] x)) ∧ Below w.heap.size w w' := by
  have HE : Hid (∀ W, Below w.heap.size w W → w.heap.size ≤ W.heap.size → Calls Tryz.prog 93 #[v, .func (.func 123) #[] #[.pointer (some ⟨W.heap.size, 0, none⟩)]] (W.alloc (.cells #[.slice none 0 0] 32 (0, 0))) fun e w' => e = .returned (.tuple #[]) ∧ VEnd (InvF W.heap.size (prE [] x)) (fun b => b = W.heap.size) (W.alloc (.cells #[.slice none 0 0] 32 (0, 0))) w') := fun W h1 h2 =>
    eachE_any (by omega) (freeIn_visit w W.heap.size 100000 (Nat.le_refl _) h2) _ x v _ hs hrep (below_more h1 _) LVar.new
  (have hmf : ∀ (fn : Fn) (first cap : Array Value) (w : World), (Instr.makeFunc fn first cap).run Tryz.prog w = .ok (.func fn first cap) w := fun _ _ _ _ => rfl); obtain ⟨k, n, ws, ks⟩ := x; obtain ⟨sw, cw, sk, ck, rfl, -⟩ := ERp.def.1 hrep; have hq0 := blk_new w (.cells #[.int .i64 k, .string n, .slice sw ws.length cw, .slice sk ks.length ck] 29 (0, 0)); have HB : Hid (Below w.heap.size w (w.alloc (.cells #[.int .i64 k, .string n, .slice sw ws.length cw, .slice sk ks.length ck] 29 (0, 0)))) := below_more (Below.refl w.heap.size w) _; have hq1 := alloc_keep hq0 (.cells #[.slice none 0 0] 32 (0, 0)); obtain ⟨b0, b1, b2, b3⟩ := blk4L hq1; have HEw := HE.out _ HB.out HB.out.size; have HEv : Hid (Calls Tryz.prog 93 _ _ _) := HEw; (rw [show (w.alloc (.cells #[.int .i64 k, .string n, .slice sw ws.length cw, .slice sk ks.length ck] 29 (0, 0))).heap.size = w.heap.size + 1 by simp] at HEv); clear hs hrep HE HEw hq0 hq1
  go_enter Tryz.func80, Tryz.ntmps80
  go_wp2_with (first
    | (go_at_call 93
       refine HEv.out.mono ?_; rintro e w2 ⟨rfl, T', ⟨ad, cp, h1, h2, h3⟩, hk, -⟩; (have HK : Hid (KS (w.heap.size + 1 + 1) w2 ad cp (fre (prE [] (.mk k n ws ks))) ∧ Below w.heap.size w w2) := ⟨h2, (below_more HB.out _).trans (hk.below (by simp; omega) fun b hb e => by omega)⟩); obtain ⟨k0, k1⟩ := blk1 h1
       clear h1 h2 h3 hk)
    | fail)
  go_ret
  exact ⟨ad, cp, rfl, ⟨HK.out.1.1, by
    rcases HK.out.1.2 with h | ⟨g, c, cur, e, hg, r⟩
    · exact Or.inl h
    · exact Or.inr ⟨g, c, cur, e, by omega, r⟩⟩, HK.out.2⟩
end Go.Proofs.YtblodnpfckflaakGreat
/- Walks: first.Free. -/
namespace Go.Proofs.YtblodnpfckflaakGreat
open Go.RowKit Go.Sort

/-- The free variables of an expression, each once, rising. -/
def fvs (x : Ex) : List (List UInt8) := Lib.compact (srt (fre (prE [] x)))
theorem ecode_ok {x : Ex} (h : (ecode x).1 = 0) : ∃ s p f, echk x 0 (fun _ => none) (fun _ => none) = .ok s p f ∧ ecode x = (0, 0) ∧ x.size ≤ 200 := by
  unfold ecode at h ⊢
  rcases he : echk x 0 (fun _ => none) (fun _ => none) with ⟨c, a⟩ | ⟨s, p, f⟩
  · rw [he] at h
    simp only at h; exact absurd h (echk_code _ _ _ _ _ _ he)
  · have := echk_le x _ _ _ _ _ _ he (by omega)
    (exact ⟨s, p, f, rfl, rfl, by omega⟩)
theorem fre_nm (l : List (Ex × Bd)) : ∀ t ∈ fre l, isNm t = true := by
  induction l with
  | nil => intro t h; cases h
  | cons p l ih =>
    intro t h; rw [fre, List.mem_append] at h
    rcases h with h | h
    · unfold freP vrs at h
      exact (List.mem_filter.1 (List.mem_filter.1 h).1).2
    · exact ih t h
set_option maxHeartbeats 2000000 in
theorem free_bad (x : Ex) (v : Value) (w : World) (hrep : ERp w x v) (hc : (ecode x).1 ≠ 0) :
    Calls Tryz.prog 47 #[v] w fun e w' => e = .returned (.tuple #[.slice none 0 0, .agg #[.int .i64 (ecode x).1, .int .i64 (ecode x).2]]) ∧ Below w.heap.size w w' := by
  (have HC0 : Hid (∀ W v, ERp W x v → Calls Tryz.prog 37 #[v] W fun e w' => e = .returned (.agg #[.int .i64 (ecode x).1, .int .i64 (ecode x).2]) ∧ Below W.heap.size W w') := fun W v h => echeck_any x v W h); generalize ecode x = ec at *; obtain ⟨c, a⟩ := ec; (have hne' : (c != 0) = true := by simpa using hc); obtain ⟨k, n, ws, ks⟩ := x; obtain ⟨sw, cw, sk, ck, rfl, -⟩ := ERp.def.1 hrep; (have HC : Hid (∀ W, ERp W (.mk k n ws ks) (.agg #[.int .i64 k, .string n, .slice sw ws.length cw, .slice sk ks.length ck]) → Calls Tryz.prog 37 #[.agg #[.int .i64 k, .string n, .slice sw ws.length cw, .slice sk ks.length ck]] W fun e w' => e = .returned (.agg #[.int .i64 c, .int .i64 a]) ∧ Below W.heap.size W w') := fun W h => HC0.out W _ h); clear HC0 hc
  go_enter Tryz.func47, Tryz.ntmps47
  go_wp2_with (first
    | (go_at_call 37
       refine (HC.out _ (ERp.up (below_more (below_more (Below.refl _ _) _) _) _ _ hrep)).mono ?_; rintro e w1 ⟨rfl, hb1⟩; have z1 := hb1.size; simp at z1; have q1 := below_keep hb1 (blk_new (w.alloc _) _); (rw [show (w.alloc _).heap.size = w.heap.size + 1 by simp] at q1); have B1 := below_join (below_more (below_more (Below.refl _ w) _) _) hb1; obtain ⟨k1, k2, k3, k4⟩ := blk2 q1; (have d1 : ¬ w.heap.size + 1 = w1.heap.size := by omega); (have d2 : ¬ w1.heap.size = w.heap.size + 1 := by omega)
       have d3 : w.heap.size + 1 < w1.heap.size := by omega)
    | fail)
  go_region
  all_goals go_wp2
  have f2 := set2 q1 (.int .i64 c) (.int .i64 a); (have b2 := (B1.setCell (p := ⟨w.heap.size + 1, 0, none⟩) (by simp) (.int .i64 c)).setCell (p := ⟨w.heap.size + 1, 1, none⟩) (by simp) (.int .i64 a)); (have hsz : ((w1.setCell ⟨w.heap.size + 1, 0, none⟩ (.int .i64 c)).setCell ⟨w.heap.size + 1, 1, none⟩ (.int .i64 a)).heap.size = w1.heap.size := by simp [World.setCell]); generalize World.setCell _ _ _ = F at f2 b2 hsz ⊢; clear k1 k2 k3 k4; obtain ⟨k1, k2, -⟩ := blk2 f2; (have d4 : w.heap.size + 1 < F.heap.size := by omega); (exact bodyPost_ret (v := .tuple #[.slice none 0 0, .agg #[.int .i64 c, .int .i64 a]]) (by simp [results, Tryz.results47, go_sem, k1, k2, d4]) rfl ⟨rfl, (b2.alloc (by omega) _).drew⟩)
set_option maxRecDepth 10000 in
set_option maxHeartbeats 8000000 in
theorem free_ok (x : Ex) (v : Value) (w : World) (hrep : ERp w x v) (hc : (ecode x).1 = 0) :
    Calls Tryz.prog 47 #[v] w fun e w' => ∃ y, e = .returned (.tuple #[y, .agg #[.int .i64 0, .int .i64 0]]) ∧ TL w' y (fvs x) ∧ Below w.heap.size w w' := by
  obtain ⟨s, p, f, hck, hec, hsz⟩ := ecode_ok hc
  have HC0 : Hid (∀ W v, ERp W x v → Calls Tryz.prog 37 #[v] W fun e w' => e = .returned (.agg #[.int .i64 0, .int .i64 0]) ∧ Below W.heap.size W w') := fun W v h => by
    have := echeck_any x v W h; rw [hec] at this; exact this
  (have HF0 : Hid (∀ W v, ERp W x v → Calls Tryz.prog 80 #[v] W fun e w' => ∃ ad cp, e = .returned (.slice ad (fre (prE [] x)).length cp) ∧ KS W.heap.size w' ad cp (fre (prE [] x)) ∧ Below W.heap.size W w') := fun W v h => freeIn_any x v W (by omega) h); have hU : fvs x = Lib.compact (srt (fre (prE [] x))) := rfl; (have hRl : (fre (prE [] x)).length ≤ 200 := by have := fre_len (prE [] x); rw [prE_own] at this; omega); have hRn := fre_nm (prE [] x); have HRx : Hid (ERp w x v) := hrep; generalize fvs x = U at *; generalize fre (prE [] x) = R at *; obtain ⟨k, n, ws, ks⟩ := x; obtain ⟨sw, cw, sk, ck, rfl, -⟩ := ERp.def.1 hrep; (have HC : Hid (∀ W, ERp W (.mk k n ws ks) (.agg #[.int .i64 k, .string n, .slice sw ws.length cw, .slice sk ks.length ck]) → Calls Tryz.prog 37 #[.agg #[.int .i64 k, .string n, .slice sw ws.length cw, .slice sk ks.length ck]] W fun e w' => e = .returned (.agg #[.int .i64 0, .int .i64 0]) ∧ Below W.heap.size W w') := fun W h => HC0.out W _ h); (have HF : Hid (∀ W, ERp W (.mk k n ws ks) (.agg #[.int .i64 k, .string n, .slice sw ws.length cw, .slice sk ks.length ck]) → Calls Tryz.prog 80 #[.agg #[.int .i64 k, .string n, .slice sw ws.length cw, .slice sk ks.length ck]] W fun e w' => ∃ ad cp, e = .returned (.slice ad R.length cp) ∧ KS W.heap.size w' ad cp R ∧ Below W.heap.size W w') := fun W h => HF0.out W _ h); have HUR : Hid (U = Lib.compact (srt R) ∧ R.length ≤ 200 ∧ ∀ t ∈ R, isNm t = true) := ⟨hU, hRl, hRn⟩; (have hRI : ((R.length : Nat) : Int) ≤ 200 := by omega); clear HC0 HF0 hc hck hec hsz hrep hU hRl hRn
  go_enter Tryz.func47, Tryz.ntmps47
  go_wp2_with (first
    | (go_at_call 37
       refine (HC.out _ (ERp.up (below_more (below_more (Below.refl _ _) _) _) _ _ HRx.out)).mono ?_; rintro e w1 ⟨rfl, hb1⟩; have z1 := hb1.size; simp at z1; have q0 := below_keep hb1 (alloc_keep (blk_new w _) _); have q1 := below_keep hb1 (blk_new (w.alloc _) _); (rw [show (w.alloc _).heap.size = w.heap.size + 1 by simp] at q1); have B1 := below_join (below_more (below_more (Below.refl _ w) _) _) hb1; have HB1 : Hid (Below w.heap.size w w1) := B1; have HQ1 : Hid (w1.heap[w.heap.size + 1]? = some (.cells #[.int .i64 0, .int .i64 0] 39 (0, 0))) := q1; obtain ⟨a0, a1, a2, a3⟩ := blk4L q0; have y0 : w.heap.size < w1.heap.size := lt_of_block q0; have y1 : w.heap.size + 1 < w1.heap.size := lt_of_block q1
       clear hb1 z1 q0 q1 B1)
    | (go_at_call 80
       refine (HF.out _ (ERp.up (below_more HB1.out _) _ _ HRx.out)).mono ?_; rintro e w2 ⟨adr, cpr, rfl, hkr, hb2⟩
       have HKr : Hid (KS w1.heap.size w2 adr cpr R) := by
         show KS _ _ _ _ _; (have : KS (w1.heap.size + 1) w2 adr cpr R := by simpa using hkr); (exact ⟨this.1, this.2.imp id fun ⟨g, c, cur, e, hg, r⟩ => ⟨g, c, cur, e, by omega, r⟩⟩)
       have HB2 : Hid (Below w1.heap.size w1 w2) := below_join (below_more (Below.refl _ _) _) hb2
       clear hkr hb2 a0 a1 a2 a3)
    | fail)
  have HN0 : Hid (KS w2.heap.size w2 none 0 (R.take 0)) := KS.nil; have hRc := rowS_caps HKr.out; (have hRcI : ((R.length : Nat) : Int) ≤ (cpr : Int) := by omega); clear hRc
  go_loopg [17, 7, 5] R.length (fun g c t o wr => ∃ i ad cp, i ≤ R.length ∧ g = R.length - i ∧ c = .int .i64 (i : Nat) ∧ o = .slice ad i cp ∧ Hid (KS w2.heap.size wr ad cp (R.take i)) ∧ Hid (Below w2.heap.size w2 wr))
  case atStart => exact ⟨0, none, 0, by omega, by omega, rfl, rfl, HN0, Below.refl _ _⟩
  case round =>
    obtain ⟨i, ad, cp, hile, hg, rfl, rfl, HKi, HBi⟩ := hrel; have HG : Hid (gk = R.length - i) := hg; clear hg; by_cases hlt : i < R.length
    · obtain ⟨t, ht⟩ : ∃ x, R[i]? = some x := ⟨_, List.getElem?_eq_getElem hlt⟩
      rcases HKr.out.ne with ⟨rfl, h0, -⟩ | ⟨gv, rfl, -⟩
      · exact absurd hlt (by rw [h0]; simp)
      have g0 := (HBi.out.cell (lt_of_cell (HKr.out.cell i t ht))).trans (HKr.out.cell i t ht); (have hltI : (i : Int) < (R.length : Int) := by omega)
      have hts : (⟨t.toArray⟩ : ByteArray).size ≤ 8 := by
        have := (isNm_bd (HUR.out.2.2 t (List.mem_of_getElem? ht))).2; show t.toArray.size ≤ 8; simpa using this
      (have HCl : Hid (∀ w, Calls Tryz.prog 87 #[.string ⟨t.toArray⟩] w fun e w' => e = .returned (.string ⟨t.toArray⟩) ∧ Below w.heap.size w w') := fun w => clone_any _ w (by omega)); (have HLt : Hid (i < R.length ∧ i ≤ 200) := ⟨hlt, by omega⟩); (have HTk : Hid (R.take (i + 1) = R.take i ++ [t]) := by show _ = _; rw [List.take_add_one, ht]; rfl); (have HTl : Hid ((R.take i).length = i) := by show _ = _; simp; omega); (have hsl : (Value.slice ad i cp) = .slice ad (R.take i).length cp := by rw [HTl.out]); (have HSl : Hid (∀ x : Nat, x = (R.take i).length → Value.slice ad i cp = .slice ad (R.take i).length cp) := fun _ _ => hsl); clear ht hts hlt hile hsl
      go_wp2_with (first
        | (go_at_call 87
           refine (HCl.out _).mono ?_; rintro e w5 ⟨rfl, hb5⟩; have HB5 : Hid (Below wr.heap.size wr w5) := hb5
           clear hb5)
        | (at_builtin
           (refine wpList_appS rfl _ _ rfl w2.heap.size (R.take i) [t] ad cp _ (by rw [HTl.out]; rfl) ((HKi.out.up HB5.out).up ((Below.refl _ _).alloc (Nat.le_refl _) _)) rfl (SL.one (blk_new w5 _)) (by have := HBi.out.size; have := HB5.out.size; simp; omega) (by have := HLt.out; have := HTl.out; simp; omega) ?_); intro ad3 cp3 w3 hown3 hk3 hat3
           have HK3 : Hid (KS w2.heap.size w3 ad3 cp3 (R.take (i + 1)) ∧ Below w2.heap.size w2 w3) := by
             (refine ⟨by rw [HTk.out]; exact hown3, ((HBi.out.trans (HB5.out.mono HBi.out.size)).alloc (by have := HBi.out.size; have := HB5.out.size; omega) _).trans (hk3.below (by have := HBi.out.size; have := HB5.out.size; simp; omega) fun b hb e => by have := (World.ownsRow.lt HKi.out b e).1; omega)⟩)
           clear hown3 hk3 hat3)
        | fail)
      go_roundg (R.length - (i + 1))
      case measure => have := HG.out; have := HLt.out; omega
      case rel => exact ⟨i + 1, ad3, cp3, HLt.out.1, rfl, by go_num, by have := HTl.out; simp; omega, HK3.out.1, HK3.out.2⟩
    · have hii : i = R.length := by omega
      subst hii; (have hge : ¬ (R.length : Int) < (R.length : Int) := by omega); have hki := HKi.out; rw [List.take_length] at hki; have HBw : Hid (Below w.heap.size w wr) := HB1.out.trans ((HB2.out.trans (HBi.out.mono HB2.out.size)).mono HB1.out.size); (have r1 : wr.heap[w.heap.size + 1]? = some (.cells #[.int .i64 0, .int .i64 0] 39 (0, 0)) := (HBi.out.block _ (by have := HB2.out.size; have := lt_of_block HQ1.out; omega)).trans (below_keep HB2.out HQ1.out)); have HR1 : Hid (wr.heap[w.heap.size + 1]? = some (.cells #[.int .i64 0, .int .i64 0] 39 (0, 0))) := r1; (have HY1 : Hid (w.heap.size + 1 < w2.heap.size ∧ w2.heap.size ≤ wr.heap.size) := ⟨by have := HB2.out.size; have := lt_of_block HQ1.out; omega, HBi.out.size⟩); clear HKi HKr
      rcases hki.ne with ⟨rfl, hR, rfl⟩ | ⟨g, rfl, hgg, -⟩
      · subst hR
        have HUn : Hid (U = []) := HUR.out.1.trans uniq_nil; clear hki; obtain ⟨p0, p1, p2, p3⟩ := blk2 r1; clear r1
        go_wp2_with (first
          | (go_at_call 88
             refine (Tryz.slices_Sort_string_none _ _ _).mono ?_; rintro e w3 ⟨rfl, hw3⟩
             obtain rfl : wr = w3 := hw3.symm)
          | (go_at_call 89
             refine (Tryz.slices_Compact_string_empty _ _ _).mono ?_; rintro e w4 ⟨rfl, hw4⟩
             obtain rfl : wr = w4 := hw4.symm)
          | fail)
        have f2 := set2 HR1.out (.int .i64 0) (.int .i64 0); (have b2 := (HBw.out.setCell (p := ⟨w.heap.size + 1, 0, none⟩) (by simp) (.int .i64 0)).setCell (p := ⟨w.heap.size + 1, 1, none⟩) (by simp) (.int .i64 0)); generalize World.setCell _ _ _ = F at f2 b2 ⊢; clear p0 p1 p2 p3; obtain ⟨p0, p1, -⟩ := blk2 f2; (exact bodyPost_ret (v := .tuple #[.slice none 0 0, .agg #[.int .i64 0, .int .i64 0]]) (by simp [results, Tryz.results47, go_sem, p0, p1]) rfl ⟨_, rfl, by rw [HUn.out]; exact TL.nil, b2⟩)
      · have HO : Hid (wr.ownsRow w2.heap.size 9 1 (.slice (some ⟨g, 0, none⟩) R.length cp) R.length (R.map encStr)) := hki
        clear hki; obtain ⟨p0, p1, p2, p3⟩ := blk2 r1; clear r1
        go_wp2_with (first
          | (go_at_call 88
             refine (sort_any w2.heap.size g cp R HUR.out.2.1 _ HO.out).mono ?_; rintro e w3 ⟨rfl, ho3, hg3⟩; have HO3 : Hid (w3.ownsRow w2.heap.size 9 1 (.slice (some ⟨g, 0, none⟩) R.length cp) R.length ((srt R).map encStr)) := ho3; (have s2 := (hg3.block _ (lt_of_block HR1.out) (fun e => by have : g = w.heap.size + 1 := Option.some.inj e.symm; have := HY1.out; omega)).trans HR1.out); have HS2 : Hid (w3.heap[w.heap.size + 1]? = some (.cells #[.int .i64 0, .int .i64 0] 39 (0, 0))) := s2; (have HB3 : Hid (Below w.heap.size w w3) := HBw.out.trans ⟨hg3.os, hg3.tape, hg3.output, hg3.size, fun j hj => hg3.block j (by have := HBw.out.size; omega) (fun e => by have : g = j := Option.some.inj e.symm; have := HY1.out; omega)⟩)
             clear ho3 hg3 s2 p0 p1 p2 p3)
          | (go_at_call 89
             have ho := HO3.out; have hsl : (srt R).length = R.length := List.length_mergeSort ..; (have hun := uniq_any w2.heap.size g cp (srt R) (by rw [hsl]; exact HUR.out.2.1) w3 (by rw [hsl]; exact ho)); rw [hsl, ← HUR.out.1] at hun; refine hun.mono ?_; rintro e w4 ⟨rfl, hcells, hg4⟩; (have t2 := (hg4.block _ (lt_of_block HS2.out) (fun e => by have : g = w.heap.size + 1 := Option.some.inj e.symm; have := HY1.out; omega)).trans HS2.out); have HT2 : Hid (w4.heap[w.heap.size + 1]? = some (.cells #[.int .i64 0, .int .i64 0] 39 (0, 0))) := t2; (have HB4 : Hid (Below w.heap.size w w4) := HB3.out.trans ⟨hg4.os, hg4.tape, hg4.output, hg4.size, fun j hj => hg4.block j (by have := HB3.out.size; omega) (fun e => by have : g = j := Option.some.inj e.symm; have := HY1.out; omega)⟩); have HCe : Hid (∀ (j : Nat) (t : List UInt8), U[j]? = some t → w4.cell? ⟨g, j, none⟩ = some (encStr t)) := hcells
             have HUl : Hid (U.length ≤ cp ∧ cp ≤ maxLen) := by
               have h1 := compact_len (srt R); rw [hsl, ← HUR.out.1] at h1
               rcases ho.2 with ⟨hv, -⟩ | ⟨g', cap', cur, hv, -, -, h2, h3, -⟩
               · cases hv
               · cases hv
                 (exact ⟨by omega, h3⟩)
             clear hun hcells hg4 ho hsl t2
             obtain ⟨p0, p1, p2, p3⟩ := blk2 HT2.out)
          | fail)
        have f2 := set2 HT2.out (.int .i64 0) (.int .i64 0); (have b2 := (HB4.out.setCell (p := ⟨w.heap.size + 1, 0, none⟩) (by simp) (.int .i64 0)).setCell (p := ⟨w.heap.size + 1, 1, none⟩) (by simp) (.int .i64 0))
        have TF : TL ((w4.setCell ⟨w.heap.size + 1, 0, none⟩ (.int .i64 0)).setCell ⟨w.heap.size + 1, 1, none⟩ (.int .i64 0)) (.slice (some ⟨g, 0, none⟩) U.length cp) U := by
          (refine ⟨_, cp, rfl, HUl.out.1, HUl.out.2, fun _ => ⟨g, rfl, fun j t ht => ?_⟩⟩); (rw [World.cell?_setCell_far _ _ _ _ (by have := HY1.out; simp; omega), World.cell?_setCell_far _ _ _ _ (by have := HY1.out; simp; omega)]); exact HCe.out j t ht
        generalize World.setCell _ _ _ = F at f2 b2 TF ⊢; clear p0 p1 p2 p3; obtain ⟨p0, p1, -⟩ := blk2 f2; (exact bodyPost_ret (v := .tuple #[.slice (some ⟨g, 0, none⟩) U.length cp, .agg #[.int .i64 0, .int .i64 0]]) (by simp [results, Tryz.results47, go_sem, p0, p1]) rfl ⟨_, rfl, TF, b2⟩)
end Go.Proofs.YtblodnpfckflaakGreat
/- Structures: maps of values by texts; power, isThing; lists of numbers. -/
namespace Go.Proofs.YtblodnpfckflaakGreat
open Go.RowKit Go.Sort Go.Maps Go.WideMaps

/-- A map of values by texts: what it tells. -/
def GMap (w : World) (b : Nat) (mu : List UInt8 → Option Value) (c : Nat) : Prop := ∃ (n : Nat) (D : DataW Value), w.ownsMap Tryz.prog 9 heldR b n D ∧ n ≤ c ∧ (∀ s, OkT s → Maps.has D (.string s) = (mu s).isSome) ∧ ∀ s, OkT s → ∀ z, D.atKey (.string s) (.held z) = .held ((mu s).getD z)
theorem GMap.nil {w : World} {o : Obj} (ho : o = .map #[] 0) : GMap (w.alloc o) w.heap.size (fun _ => none) 0 := by
  subst ho; (exact ⟨0, .map [], World.ownsMap_made _ _ _ _, Nat.le_refl _, fun s _ => by simp [has_eq], fun s _ z => by simp [DataW.atKey]⟩)
theorem GMap.same {w w' : World} {b c : Nat} {mu : List UInt8 → Option Value} (h : GMap w b mu c) (e : w'.heap[b]? = w.heap[b]?) : GMap w' b mu c := by
  obtain ⟨n, D, ⟨es, clock, hb, r⟩, r2⟩ := h; exact ⟨n, D, ⟨es, clock, e.trans hb, r⟩, r2⟩
theorem GMap.lt {w : World} {b c : Nat} {mu : List UInt8 → Option Value} (h : GMap w b mu c) : b < w.heap.size := by
  obtain ⟨n, D, ⟨es, clock, hb, r⟩, r2⟩ := h; exact lt_of_block hb
theorem GMap.up {w w' : World} {b c : Nat} {mu : List UInt8 → Option Value} (h : GMap w b mu c) (hb : Below w.heap.size w w') : GMap w' b mu c := h.same (hb.block _ h.lt)
theorem GMap.more {w : World} {b c c' : Nat} {mu : List UInt8 → Option Value} (h : GMap w b mu c) (hc : c ≤ c') : GMap w b mu c' := by
  obtain ⟨n, D, h1, h2, h3⟩ := h; (exact ⟨n, D, h1, by omega, h3⟩)
theorem GMap.noCells {w : World} {b c : Nat} {mu : List UInt8 → Option Value} (h : GMap w b mu c) (cs : Array Value) (T : TypeId) (f : Nat × Nat) : w.heap[b]? ≠ some (.cells cs T f) := by
  obtain ⟨n, D, ⟨es, clock, hb, r⟩, r2⟩ := h; rw [hb]; intro e
  cases e
def gPut (mu : List UInt8 → Option Value) (k : List UInt8) (x : Value) : List UInt8 → Option Value := fun j => if j = k then some x else mu j
theorem GMap.put {w' : World} {b c n : Nat} {x : Value} {k : List UInt8} {mu : List UInt8 → Option Value} {D : DataW Value} (hnc : n ≤ c) (hM : IsMap D) (h1 : ∀ s, OkT s → Maps.has D (.string s) = (mu s).isSome) (h2 : ∀ s, OkT s → ∀ z, D.atKey (.string s) (.held z) = .held ((mu s).getD z))
    (h : w'.ownsMap Tryz.prog 9 heldR b (n + 1) (D.put (.string k) (.held x))) : GMap w' b (gPut mu k x) (c + 1) := by
  (have hlit : WideAt.IsKeyLit (Lit.string k) := by first | trivial | exact True.intro | simp [WideAt.IsKeyLit]); (refine ⟨n + 1, _, h, by omega, fun j hj => ?_, fun j hj z => ?_⟩)
  · by_cases e : j = k
    · subst e; rw [has_put_same hM hlit]; simp [gPut]
    · rw [has_put_other (fun h => e (by injection h)), h1 j hj, gPut, if_neg e]
  · by_cases e : j = k
    · subst e
      rw [gPut, if_pos rfl]; exact atKey_put_same hM hlit _ _
    · rw [gPut, if_neg e]
      (rw [atKey_put_other (fun h => e (by injection h))]); exact h2 j hj z
theorem heldR_inv {v : Value} {d : DataW Value} {ps : List MemPlace} (h : heldR v = some (d, ps)) : d = .held v := by
  unfold heldR at h; simp only [Option.some.injEq, Prod.mk.injEq] at h; exact h.1.symm
/-- 'v, ok := m[k]'. -/
theorem GMap.lookOk {w : World} {b c : Nat} {k : List UInt8} {mu : List UInt8 → Option Value} (h : GMap w b mu c) (hk : OkT k) {t e : TypeId} (ht : Tryz.prog.underlying t = some (.map 9 e)) {z : Value} (hz : ∀ w, (zeroValue e).run Tryz.prog w = .ok z w) (x : Nat) : (Instr.lookup t (.map (some b)) (.string ⟨k.toArray⟩) true).run Tryz.prog (w.drewN x) = .ok (.tuple #[(mu k).getD z, .bool (mu k).isSome]) (w.drewN x) := by
  obtain ⟨n, D, hmap, -, hh1, hh2⟩ := h; have hm : (w.drewN x).ownsMap Tryz.prog 9 heldR b n D := hmap; obtain ⟨v, ps, hrun, hv⟩ := hm.look_ok strKeyed ht (hz _) (show heldR z = some (.held z, []) from rfl) (keyStr k hk); have e1 := heldR_inv hv; rw [hh2 k hk z] at e1; (have e2 : (mu k).getD z = v := by injection e1); rw [e2, ← hh1 k hk]; exact hrun
/-- 'm[k]'. -/
theorem GMap.look {w : World} {b c : Nat} {k : List UInt8} {mu : List UInt8 → Option Value} (h : GMap w b mu c) (hk : OkT k) {t e : TypeId} (ht : Tryz.prog.underlying t = some (.map 9 e)) {z : Value} (hz : ∀ w, (zeroValue e).run Tryz.prog w = .ok z w) (x : Nat) : (Instr.lookup t (.map (some b)) (.string ⟨k.toArray⟩) false).run Tryz.prog (w.drewN x) = .ok ((mu k).getD z) (w.drewN x) := by
  obtain ⟨n, D, hmap, -, hh1, hh2⟩ := h; have hm : (w.drewN x).ownsMap Tryz.prog 9 heldR b n D := hmap; obtain ⟨v, ps, hrun, hv⟩ := hm.lookup strKeyed ht (hz _) (show heldR z = some (.held z, []) from rfl) (keyStr k hk); have e1 := heldR_inv hv; rw [hh2 k hk z] at e1; (have e2 : (mu k).getD z = v := by injection e1); rw [e2]; exact hrun
/-- 'm[k] = v' in a walk. -/
theorem wpList_gput {ops : Array Oper} {rest : List Oper} {o : Oper} {a : Act} {w : World} {Q : Exit → Act → World → Prop} (hg : o.guard = none) (m key v : Operand) (t e : TypeId) (ho : o.op = .mapUpdate t m key v) (ht : Tryz.prog.underlying t = some (.map 9 e))
    (b c : Nat) (k : List UInt8) (mu : List UInt8 → Option Value) (hk : OkT k) (hc : c < maxLen) (h : GMap w b mu c) (em : a.eval m = .map (some b)) (ek : a.eval key = .string ⟨k.toArray⟩) (x : Value) (ev : a.eval v = x)
    (hQ : ∀ w', GMap w' b (gPut mu k x) (c + 1) → Kept (· ≠ b) w w' → wpList Tryz.prog ops Q rest (a.put o.dst undef) w') : wpList Tryz.prog ops Q (o :: rest) a w := by
  obtain ⟨n, D, hown, hn, hh1, hh2⟩ := h; (refine wpList_mapUpdate_own _ hg _ _ _ t ho 9 e strKeyed ht _ b n _ em hown (by omega) _ _ _ ek ev (keyStr k hk) (.held x) [] rfl ?_); intro w1 hown1 hgrow1; exact hQ w1 (GMap.put hn hown.isMap hh1 hh2 hown1) (kept_grownS hgrow1)
def thingB (N : Nat) (v : Int) : Bool := decide (0 ≤ v) && decide (v < (N : Int))
set_option maxHeartbeats 1000000 in
theorem isThing_any (N : Nat) (v : Int) (w : World) :
    Calls Tryz.prog 90 #[.int .i64 (N : Nat), .int .i64 v] w fun e w' => e = .returned (.bool (thingB N v)) ∧ w' = w := by
  unfold thingB; by_cases h1 : (0 : Int) ≤ v
  · by_cases h2 : v < (N : Int)
    · go_enter Tryz.func90, Tryz.ntmps90
      go_wp2; go_ret; (exact ⟨ret_bool (by simp [h1, h2]), rfl⟩)
    · go_enter Tryz.func90, Tryz.ntmps90
      go_wp2; go_ret; (exact ⟨ret_bool (by simp [h2]), rfl⟩)
  · go_enter Tryz.func90, Tryz.ntmps90
    go_wp2; go_ret; (exact ⟨ret_bool (by simp; omega), rfl⟩)
theorem pow_small {N e : Nat} (hN : N ≤ 8) (he : e ≤ 6) : N ^ e ≤ 262144 := Nat.le_trans (Nat.pow_le_pow_left hN e) (Nat.le_trans (Nat.pow_le_pow_right (by omega) he) (by decide))
set_option maxHeartbeats 2000000 in
theorem power_any (N e : Nat) (hN : N ≤ 8) (he : e ≤ 6) (w : World) :
    Calls Tryz.prog 53 #[.int .i64 (N : Nat), .int .i64 (e : Nat)] w fun r w' => r = .returned (.int .i64 ((N ^ e : Nat) : Int)) ∧ w' = w := by
  have HNe : Hid (N ≤ 8 ∧ e ≤ 6) := ⟨hN, he⟩; (have heI : (e : Int) ≤ 6 := by omega); clear hN he
  go_enter Tryz.func53, Tryz.ntmps53
  go_wp2_with fail
  go_loopg [5, 7] e (fun g p c wr => ∃ i q, i ≤ e ∧ g = e - i ∧ c = .int .i64 (i : Nat) ∧ p = .int .i64 (q : Nat) ∧ Hid (q = N ^ i) ∧ Hid (wr = w))
  case atStart => exact ⟨0, 1, by omega, by omega, rfl, rfl, rfl, rfl⟩
  case round =>
    obtain ⟨i, q, hile, hg, rfl, rfl, HQ, HW⟩ := hrel; have HG : Hid (gk = e - i) := hg; have hw := HW.out; subst hw; clear hg; by_cases hlt : i < e
    · have hltI : (i : Int) < (e : Int) := by omega
      have HLt : Hid (i < e) := hlt; (have h1 : q ≤ 262144 := by rw [HQ.out]; exact pow_small HNe.out.1 (by have := HNe.out.2; omega))
      have h2 : q * N ≤ 262144 := by
        (have := pow_small HNe.out.1 (e := i + 1) (by have := HNe.out.2; omega)); rw [Nat.pow_succ, ← HQ.out] at this; exact this
      have hr : IntKind.i64.wrap ((q : Int) * (N : Int)) = ((q * N : Nat) : Int) := by
        rw [← Int.natCast_mul]; (exact wrap_small (q * N) (by omega))
      (have HQ2 : Hid (q * N = N ^ (i + 1)) := by show _ = _; rw [Nat.pow_succ, HQ.out]); clear hlt hile h1 h2; go_wp2_with fail
      go_roundg (e - (i + 1))
      case measure => have := HG.out; have := HLt.out; omega
      case rel => exact ⟨i + 1, q * N, HLt.out, rfl, by go_num, by first | rfl | simp, HQ2, rfl⟩
    · have hii : i = e := by omega
      subst hii; (have hge : ¬ (i : Int) < (i : Int) := by omega); clear hlt hile; go_wp2_with fail; go_ret; (exact ⟨by rw [HQ.out, Int.natCast_pow]; rfl, rfl⟩)
end Go.Proofs.YtblodnpfckflaakGreat
/- Structures as data and in memory; what words are: thing, place. -/
namespace Go.Proofs.YtblodnpfckflaakGreat
open Go.RowKit Go.Sort Go.Maps Go.WideMaps

structure FnD where
  nm : ByteArray
  ar : Int
  tab : List Int
structure PdD where
  nm : ByteArray
  ar : Int
  bits : List Bool
/-- A list of numbers that lies in a slice. -/
def IL (w : World) (v : Value) (l : List Int) : Prop := ∃ ad cap, v = .slice ad l.length cap ∧ l.length ≤ cap ∧ cap ≤ maxLen ∧ (l ≠ [] → ∃ g off, ad = some ⟨g, off, none⟩ ∧ ∀ (j : Nat) (x : Int), l[j]? = some x → w.cell? ⟨g, off + j, none⟩ = some (.int .i64 x))
theorem IL.up {w w' : World} {v : Value} {l : List Int} (h : IL w v l) (hb : Below w.heap.size w w') : IL w' v l := by
  obtain ⟨ad, cap, h1, h2, h3, h4⟩ := h; (refine ⟨ad, cap, h1, h2, h3, fun hne => ?_⟩); obtain ⟨g, off, h5, h6⟩ := h4 hne; (exact ⟨g, off, h5, fun j x hx => (hb.cell (lt_of_cell (h6 j x hx))).trans (h6 j x hx)⟩)
def FnR (w : World) (f : FnD) (v : Value) : Prop := ∃ sl cap, v = .agg #[.string f.nm, .int .i64 f.ar, .slice sl f.tab.length cap] ∧ f.nm.size ≤ maxLen ∧ IL w (.slice sl f.tab.length cap) f.tab
def PdR (w : World) (p : PdD) (v : Value) : Prop := ∃ sl cap, v = .agg #[.string p.nm, .int .i64 p.ar, .slice sl p.bits.length cap] ∧ p.nm.size ≤ maxLen ∧ BL w (.slice sl p.bits.length cap) p.bits
theorem FnR.up {w w' : World} {f : FnD} {v : Value} (h : FnR w f v) (hb : Below w.heap.size w w') : FnR w' f v := by
  obtain ⟨sl, cap, h1, h2, h3⟩ := h; exact ⟨sl, cap, h1, h2, h3.up hb⟩
theorem PdR.up {w w' : World} {f : PdD} {v : Value} (h : PdR w f v) (hb : Below w.heap.size w w') : PdR w' f v := by
  obtain ⟨sl, cap, h1, h2, h3⟩ := h; exact ⟨sl, cap, h1, h2, h3.up hb⟩
/-- A structure as an expression sees it. -/
structure VwD where
  n : Nat
  fn : List UInt8 → Option FnD
  pd : List UInt8 → Option PdD
abbrev Vals := List UInt8 → Option Nat
def vz (va : Vals) (s : List UInt8) : Nat := (va s).getD 0
mutual
/-- What a word is. -/
def wv (V : VwD) (va : List UInt8 → Nat) : Wd → Nat
  | .mk nm ar => match V.fn nm.data.toList with
    | some f => (f.tab.getD (wpl V va ar) 0).toNat
    | none => va nm.data.toList
/-- The place where tables tell of words. -/
def wpl (V : VwD) (va : List UInt8 → Nat) : List Wd → Nat
  | [] => 0
  | x :: xs => wv V va x + V.n * wpl V va xs
end
mutual
/-- All names of a word mean something, of as many places. -/
def WMn (V : VwD) : Wd → Prop
  | .mk nm ar => ∀ f, V.fn nm.data.toList = some f → f.ar = (ar.length : Int) ∧ WMns V ar
def WMns (V : VwD) : List Wd → Prop
  | [] => True
  | x :: xs => WMn V x ∧ WMns V xs
end
theorem WMns.get {V : VwD} : ∀ {l : List Wd} {i : Nat} {x : Wd}, WMns V l → l[i]? = some x → WMn V x
  | [], i, x, _, h => by simp at h
  | y :: l, 0, x, hm, h => by
    rw [WMns] at hm
    simp at h; subst h; exact hm.1
  | y :: l, i + 1, x, hm, h => by
    rw [WMns] at hm; (exact WMns.get hm.2 (by simpa using h))
/-- What Check asks of a structure. -/
structure VOk (V : VwD) : Prop where
  n1 : 1 ≤ V.n
  n8 : V.n ≤ 8
  fn : ∀ s f, V.fn s = some f → 0 ≤ f.ar ∧ f.ar ≤ 3 ∧ (f.tab.length : Int) = ((V.n ^ f.ar.toNat : Nat) : Int) ∧ ∀ x ∈ f.tab, 0 ≤ x ∧ x < (V.n : Int)
  pd : ∀ s p, V.pd s = some p → 0 ≤ p.ar ∧ p.ar ≤ 3 ∧ (p.bits.length : Int) = ((V.n ^ p.ar.toNat : Nat) : Int)
mutual
theorem wv_lt {V : VwD} (hV : VOk V) {va : List UInt8 → Nat} (hva : ∀ s, va s < V.n) : ∀ x : Wd, WMn V x → wv V va x < V.n
  | .mk nm ar, hm => by
    rw [WMn] at hm; rw [wv]
    rcases hf : V.fn nm.data.toList with _ | f
    · exact hva _
    · obtain ⟨h1, h2⟩ := hm f hf
      obtain ⟨g1, g2, g3, g4⟩ := hV.fn _ f hf; have hp := wpl_lt hV hva ar h2
      have hl : f.tab.length = V.n ^ ar.length := by
        (have e : f.ar.toNat = ar.length := by omega); rw [e] at g3
        exact_mod_cast g3
      (have hi : wpl V va ar < f.tab.length := by omega); simp only; rw [List.getD_eq_getElem?_getD, List.getElem?_eq_getElem hi, Option.getD_some]; have := g4 _ (List.getElem_mem hi); omega
theorem wpl_lt {V : VwD} (hV : VOk V) {va : List UInt8 → Nat} (hva : ∀ s, va s < V.n) : ∀ l : List Wd, WMns V l → wpl V va l < V.n ^ l.length
  | [], _ => by rw [wpl]; simp
  | x :: xs, hm => by
    rw [WMns] at hm; rw [wpl, List.length_cons, Nat.pow_succ]; have h1 := wv_lt hV hva x hm.1; have h2 := wpl_lt hV hva xs hm.2
    calc wv V va x + V.n * wpl V va xs < V.n + V.n * wpl V va xs := by omega
      _ = V.n * (wpl V va xs + 1) := by rw [Nat.mul_add, Nat.mul_one, Nat.add_comm]
      _ ≤ V.n * V.n ^ xs.length := Nat.mul_le_mul_left _ h2
      _ = V.n ^ xs.length * V.n := Nat.mul_comm _ _
end
/-- A view in memory: functions and predicates lie in w0, the maps are of its own. -/
structure VwA (w0 : World) (V : VwD) (va : Vals) (bf bp bv c : Nat) (w : World) : Prop where
  below : Below w0.heap.size w0 w
  fn : ∃ mu k, GMap w bf mu k ∧ ∀ s, OkT s → match V.fn s with | none => mu s = none | some f => ∃ v, mu s = some v ∧ FnR w0 f v
  pd : ∃ mu k, GMap w bp mu k ∧ ∀ s, OkT s → match V.pd s with | none => mu s = none | some p => ∃ v, mu s = some v ∧ PdR w0 p v
  vl : GMap w bv (fun s => (va s).map fun x => .int .i64 (x : Nat)) c
  gf : w0.heap.size ≤ bf
  gp : w0.heap.size ≤ bp
  gv : w0.heap.size ≤ bv
  fv : bf ≠ bv
  pv : bp ≠ bv
theorem VwA.up {w0 w w' : World} {V : VwD} {va : Vals} {bf bp bv c : Nat} (h : VwA w0 V va bf bp bv c w) (hb : Below w.heap.size w w') : VwA w0 V va bf bp bv c w' := by
  obtain ⟨m1, k1, g1, h1⟩ := h.fn; obtain ⟨m2, k2, g2, h2⟩ := h.pd; exact ⟨h.below.trans (hb.mono h.below.size), ⟨m1, k1, g1.up hb, h1⟩, ⟨m2, k2, g2.up hb, h2⟩, h.vl.up hb, h.gf, h.gp, h.gv, h.fv, h.pv⟩
/-- The values alone are others. -/
theorem VwA.turn {w0 w w' : World} {V : VwD} {va va' : Vals} {bf bp bv c c' : Nat} (h : VwA w0 V va bf bp bv c w) (hk : Kept (· ≠ bv) w w') (hv : GMap w' bv (fun s => (va' s).map fun x => .int .i64 (x : Nat)) c') : VwA w0 V va' bf bp bv c' w' := by
  obtain ⟨m1, k1, g1, h1⟩ := h.fn; obtain ⟨m2, k2, g2, h2⟩ := h.pd; have h3 := h.gv; (exact ⟨h.below.trans (hk.below h.below.size fun b hb e => by omega), ⟨m1, k1, g1.same (hk.block _ g1.lt h.fv), h1⟩, ⟨m2, k2, g2.same (hk.block _ g2.lt h.pv), h2⟩, hv, h.gf, h.gp, h.gv, h.fv, h.pv⟩)
def Things (m : Nat) : Prop := ∀ (V : VwD) (va : Vals) (w0 w : World) (bf bp bv c : Nat) (x : Wd) (v : Value), x.size < m → VOk V → (∀ s, vz va s < V.n) → WMn V x → WRp w0 x v → VwA w0 V va bf bp bv c w →
  Calls Tryz.prog 96 #[.agg #[.int .i64 (V.n : Nat), .map (some bf), .map (some bp), .map (some bv)], v] w fun e w' => e = .returned (.int .i64 (wv V (vz va) x : Nat)) ∧ Below w.heap.size w w'
def Places (m : Nat) : Prop := ∀ (V : VwD) (va : Vals) (w0 w : World) (bf bp bv c : Nat) (l : List Wd) (v : Value), Wd.sizes l < m → l.length ≤ 3 → VOk V → (∀ s, vz va s < V.n) → WMns V l → WL w0 v l → VwA w0 V va bf bp bv c w →
  Calls Tryz.prog 95 #[.agg #[.int .i64 (V.n : Nat), .map (some bf), .map (some bp), .map (some bv)], v] w fun e w' => e = .returned (.int .i64 (wpl V (vz va) l : Nat)) ∧ Below w.heap.size w w'
theorem wpl_drop {V : VwD} {va : List UInt8 → Nat} {l : List Wd} {i : Nat} {x : Wd} (h : l[i]? = some x) : wpl V va (l.drop i) = wv V va x + V.n * wpl V va (l.drop (i + 1)) := by
  have hi := (List.getElem?_eq_some_iff.1 h).1; rw [List.drop_eq_getElem_cons hi, wpl]; rw [List.getElem?_eq_getElem hi] at h; rw [Option.some.inj h]
theorem pow3 {N i : Nat} (hN : N ≤ 8) (hi : i ≤ 3) : N ^ i ≤ 512 := Nat.le_trans (Nat.pow_le_pow_left hN i) (Nat.le_trans (Nat.pow_le_pow_right (by omega) hi) (by decide))
set_option maxRecDepth 10000 in
set_option maxHeartbeats 8000000 in
theorem place_step (m : Nat) (ih : Things m) : Places m := by
  intro V va w0 w bf bp bv c l v hm hl3 hV hva hmn hwl hA; have HX : Hid (WL w0 v l) := hwl; have HA : Hid (VwA w0 V va bf bp bv c w) := hA; obtain ⟨sl, cp, rfl, hx1, hx2, -⟩ := hwl; (have HT : Hid (∀ (x : Wd) (u : Value) (W : World), x.size < m → WMn V x → WRp w0 x u → Below w.heap.size w W → Calls Tryz.prog 96 #[.agg #[.int .i64 (V.n : Nat), .map (some bf), .map (some bp), .map (some bv)], u] W fun e w' => e = .returned (.int .i64 (wv V (vz va) x : Nat)) ∧ Below W.heap.size W w') := fun x u W h1 h2 h3 h4 => ih V va w0 W bf bp bv c x u h1 hV hva h2 h3 (HA.out.up h4)); have HO : Hid (VOk V ∧ (∀ s, vz va s < V.n) ∧ WMns V l ∧ l.length ≤ 3 ∧ Wd.sizes l < m) := ⟨hV, hva, hmn, hl3, hm⟩; (have hNI : ((V.n : Nat) : Int) ≤ 8 := by have := hV.n8; omega); (have hl3I : ((l.length : Nat) : Int) ≤ 3 := by omega); have hq0 := blk_new w (.cells #[.int .i64 (V.n : Nat), .map (some bf), .map (some bp), .map (some bv)] 94 (0, 0)); have HQ : Hid ((w.alloc (.cells #[.int .i64 (V.n : Nat), .map (some bf), .map (some bp), .map (some bv)] 94 (0, 0))).heap[w.heap.size]? = some (.cells #[.int .i64 (V.n : Nat), .map (some bf), .map (some bp), .map (some bv)] 94 (0, 0))) := hq0; have HB0 : Hid (Below w.heap.size w (w.alloc (.cells #[.int .i64 (V.n : Nat), .map (some bf), .map (some bp), .map (some bv)] 94 (0, 0)))) := below_more (Below.refl w.heap.size w) _; clear hm hl3 hV hva hmn hA ih hx1 hx2 hq0; generalize hvn : V.n = N at *
  go_enter Tryz.func95, Tryz.ntmps95
  go_wp2_with fail; generalize hW : w.alloc (.cells #[.int .i64 (N : Nat), .map (some bf), .map (some bp), .map (some bv)] 94 (0, 0)) = W at *
  go_loopg [5, 6, 11] l.length (fun g a s t wr => ∃ i p q, i ≤ l.length ∧ g = l.length - i ∧ t = .int .i64 (i : Nat) ∧ a = .int .i64 (p : Nat) ∧ s = .int .i64 (q : Nat) ∧ Hid (q = N ^ i ∧ p + q * wpl V (vz va) (l.drop i) = wpl V (vz va) l) ∧ Hid (Below w.heap.size w wr ∧ wr.heap[w.heap.size]? = some (.cells #[.int .i64 (N : Nat), .map (some bf), .map (some bp), .map (some bv)] 94 (0, 0))))
  case atStart => exact ⟨0, 0, 1, by omega, by omega, rfl, rfl, rfl, ⟨rfl, by simp⟩, HB0.out, HQ.out⟩
  case round =>
    obtain ⟨i, p, q, hile, hg, rfl, rfl, rfl, HPQ, HBr⟩ := hrel; have HG : Hid (gk = l.length - i) := hg; clear hg; by_cases hlt : i < l.length
    · obtain ⟨⟨n2, ar2⟩, hki⟩ : ∃ x, l[i]? = some x := ⟨_, List.getElem?_eq_getElem hlt⟩
      (have hltI : (i : Int) < (l.length : Int) := by omega); obtain ⟨b, off, sl2, cap2, rfl, z0, z1, hrep2⟩ := HX.out.at i n2 ar2 hki; have HBw : Hid (Below w0.heap.size w0 wr) := HA.out.below.trans (HBr.out.1.mono HA.out.below.size); have y0 := (HBw.out.cell (lt_of_cell z0)).trans z0; have y1 := (HBw.out.cell (lt_of_cell z1)).trans z1; obtain ⟨c0, c1, c2, c3⟩ := blk4L HBr.out.2; have hs0 : w.heap.size < wr.heap.size := lt_of_block HBr.out.2; (have hTh : ∀ W, Below w.heap.size w W → Calls Tryz.prog 96 #[.agg #[.int .i64 (N : Nat), .map (some bf), .map (some bp), .map (some bv)], .agg #[.string n2, .slice sl2 ar2.length cap2]] W fun e w' => e = .returned (.int .i64 (wv V (vz va) (.mk n2 ar2) : Nat)) ∧ Below W.heap.size W w' := fun W h => HT.out _ _ W (by have := wsizes_get hki; have := HO.out.2.2.2.2; omega) (HO.out.2.2.1.get hki) hrep2 h); have hd := wpl_drop (V := V) (va := vz va) hki; (have hlw : wv V (vz va) (.mk n2 ar2) < N := by have := wv_lt HO.out.1 (fun s => by rw [hvn]; exact HO.out.2.1 s) _ (HO.out.2.2.1.get hki); rw [hvn] at this; exact this); (have hpl : wpl V (vz va) l < N ^ l.length := by have := wpl_lt HO.out.1 (fun s => by rw [hvn]; exact HO.out.2.1 s) _ HO.out.2.2.1; rw [hvn] at this; exact this); (have hp5 : N ^ l.length ≤ 512 := pow3 (by omega) HO.out.2.2.2.1); (have hq5 : q ≤ 512 := by rw [HPQ.out.1]; exact pow3 (by omega) (by have := HO.out.2.2.2.1; omega)); (have hps : p ≤ 512 := by have := HPQ.out.2; omega); generalize hx : wv V (vz va) (.mk n2 ar2) = x at *; (have HTh : Hid (∀ W, Below w.heap.size w W → Calls Tryz.prog 96 #[.agg #[.int .i64 (N : Nat), .map (some bf), .map (some bp), .map (some bv)], .agg #[.string n2, .slice sl2 ar2.length cap2]] W fun e w' => e = .returned (.int .i64 (x : Nat)) ∧ Below W.heap.size W w') := hTh); (have hxq : x * q ≤ 4096 := Nat.le_trans (Nat.mul_le_mul (by omega : x ≤ 8) hq5) (by omega)); (have hqN : q * N ≤ 4096 := Nat.le_trans (Nat.mul_le_mul hq5 (by omega : N ≤ 8)) (by omega)); (have r1 : IntKind.i64.wrap ((x : Int) * (q : Int)) = ((x * q : Nat) : Int) := by rw [← Int.natCast_mul]; exact wrap_small (x * q) (by omega)); (have r2 : IntKind.i64.wrap ((q : Int) * (N : Int)) = ((q * N : Nat) : Int) := by rw [← Int.natCast_mul]; exact wrap_small (q * N) (by omega)); (have r3 : IntKind.i64.wrap ((p : Int) + (x : Int) * (q : Int)) = (p : Int) + (x : Int) * (q : Int) := by have := wrap_small (p + x * q) (by omega); rwa [Int.natCast_add, Int.natCast_mul] at this)
      have HE : Hid (q * N = N ^ (i + 1) ∧ p + x * q + q * N * wpl V (vz va) (l.drop (i + 1)) = wpl V (vz va) l) := by
        (refine ⟨by rw [Nat.pow_succ, HPQ.out.1], ?_⟩); rw [← HPQ.out.2, hd, hvn, Nat.mul_add, Nat.mul_comm x q, Nat.mul_assoc, Nat.add_assoc]
      have HLt : Hid (i < l.length) := hlt; clear hki z0 z1 hrep2 hd hlw hpl hp5 hq5 hps hxq hqN hlt hile hTh hx
      go_wp2_with (first
        | (go_at_call 96
           refine (HTh.out _ (below_more HBr.out.1 _)).mono ?_; rintro e w3 ⟨rfl, hb3⟩; have hb4 := below_join (below_more (Below.refl _ wr) _) hb3; have HB3 : Hid (Below w.heap.size w w3 ∧ w3.heap[w.heap.size]? = some (.cells #[.int .i64 (N : Nat), .map (some bf), .map (some bp), .map (some bv)] 94 (0, 0))) := ⟨below_join HBr.out.1 hb4, below_keep hb4 HBr.out.2⟩; clear c0 c1 c2 c3 hb3 hb4
           obtain ⟨c0, c1, c2, c3⟩ := blk4L HB3.out.2)
        | fail)
      go_roundg (l.length - (i + 1))
      case measure => have := HG.out; have := HLt.out; omega
      case rel => exact ⟨i + 1, p + x * q, q * N, HLt.out, rfl, by go_num, by first | rfl | simp | (simp; exact r3), by first | rfl | simp, HE, HB3⟩
    · have hge : ¬ (i : Int) < (l.length : Int) := by omega
      have HE : Hid (p = wpl V (vz va) l) := by
        have := HPQ.out.2; (rw [List.drop_of_length_le (by omega), wpl, Nat.mul_zero, Nat.add_zero] at this); exact this
      clear hlt hile HX; go_wp2_with fail; go_ret; (exact ⟨by rw [HE.out]; rfl, HBr.out.1⟩)
theorem zeroFn (w : World) : (zeroValue 73).run Tryz.prog w = .ok (.agg #[.string ⟨#[]⟩, .int .i64 0, .slice none 0 0]) w := by simp [go_sem]
end Go.Proofs.YtblodnpfckflaakGreat
