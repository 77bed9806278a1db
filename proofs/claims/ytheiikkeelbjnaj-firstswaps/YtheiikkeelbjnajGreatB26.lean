/- Texts of one proof, one behind the other: PA2, PA3, PA4, PA6. -/
import Derived.Test.YtheiikkeelbjnajGreatB24
import Derived.Test.YtheiikkeelbjnajGreatB23
import Derived.Test.YtheiikkeelbjnajGreatB10
import Derived.Test.YtheiikkeelbjnajGreatB09
/- Walks: how many nodes an expression has (syntax.Size). -/
namespace Go.Proofs.YtheiikkeelbjnajGreat
open Go.RowKit Go.Sort

def InvEz (cb : Nat) (done : List (Ex × Bd)) (T : Nat → Prop) (w : World) : Prop := NVar w cb (ownSz done) T
set_option maxRecDepth 10000 in
set_option maxHeartbeats 4000000 in
theorem esize1_any (cb n : Nat) (hn : n ≤ 100000) (x : Ex) (v bv : Value) (w0 w : World) (hrep : ERp w0 x v) (hb : Below w0.heap.size w0 w) (hs : x.size ≤ 100000) (T : Nat → Prop) (h : NVar w cb n T) :
    Calls Tryz.prog 138 #[v, bv, .pointer (some ⟨cb, 0, none⟩)] w fun e w' => e = .returned (.tuple #[]) ∧ VEnd (fun T' w' => NVar w' cb (n + (1 + Wd.sizes (exWs x))) T') T w w' := by
  obtain ⟨k, nm, ws, ks⟩ := x; obtain ⟨sw, cw, sk, ck, rfl, hx1, hx2, -⟩ := ERp.def.1 hrep; (have hws : Wd.sizes ws ≤ 100000 := by rw [Ex.size] at hs; omega); have H : Hid (NVar w cb n T) := h; have HWl : Hid (WL w0 (.slice sw ws.length cw) ws) := hx2; obtain ⟨W, hW⟩ : ∃ W, w.alloc (.cells #[.int .i64 k, .string nm, .slice sw ws.length cw, .slice sk ks.length ck] 25 (0, 0)) = W := ⟨_, rfl⟩; (have HBW : Hid (Below w.heap.size w W) := by rw [← hW]; exact below_more (Below.refl _ w) _); have HB0 : Hid (Below w0.heap.size w0 W) := below_join hb HBW.out; (have HV : Hid (∀ V, Below W.heap.size W V → Calls Tryz.prog 102 #[.slice sw ws.length cw] V fun e w' => e = .returned (.int .i64 (Wd.sizes ws : Nat)) ∧ Below V.heap.size V w') := fun V h1 => wordsSize_any ws _ w0 V hws HWl.out (below_join HB0.out h1)); (have hq : W.heap[cb]? = some (.cells #[.int .i64 (n : Nat)] 3 (0, 0)) := by rw [← hW]; exact alloc_keep h.1 _); have HQ : Hid (W.heap[cb]? = some (.cells #[.int .i64 (n : Nat)] 3 (0, 0))) := hq; (have hq2 : W.heap[w.heap.size]? = some (.cells #[.int .i64 k, .string nm, .slice sw ws.length cw, .slice sk ks.length ck] 25 (0, 0)) := by rw [← hW]; exact blk_new _ _); obtain ⟨k0, k1⟩ := blk1 hq; obtain ⟨b0, b1, b2, b3⟩ := blk4L hq2; have hl2 := lt_of_block hq; (have hnI : ((n : Nat) : Int) ≤ 100000 := by omega); (have hsI : ((Wd.sizes ws : Nat) : Int) ≤ 100000 := by omega); have HSz : Hid (Wd.sizes (exWs (.mk k nm ws ks)) = Wd.sizes ws) := rfl
  have HWr : Hid (IntKind.i64.wrap ((n : Int) + IntKind.i64.wrap (1 + (Wd.sizes ws : Int))) = ((n + (1 + Wd.sizes ws) : Nat) : Int)) := by
    show _ = _; (rw [IntWalk.i64_left, IntWalk.i64_left, IntWalk.wrap64_in (1 + (Wd.sizes ws : Int)) ⟨by omega, by omega⟩, IntWalk.wrap64_in _ ⟨by omega, by omega⟩]); omega
  (have hne1 : cb ≠ w.heap.size := fun e => by rw [e, hq2] at hq; cases hq); clear h hq hq2 hn hws hs hrep hb hx1 hx2; generalize Wd.sizes ws = Z at *
  go_enter Tryz.func138, Tryz.ntmps138
  go_wp2_with fail
  go_region_law
    (first
     | (go_simp
        go_at_call 102
        refine (HV.out _ (Below.refl _ _).drew).mono ?_; rintro e w5 ⟨rfl, hb5⟩; have HW5 : Hid (Below W.heap.size W w5) := (Below.refl _ W).drew.trans hb5; obtain ⟨d0, d1⟩ := blk1 (below_keep HW5.out HQ.out); have dl := lt_of_block (below_keep HW5.out HQ.out); clear hb5
        dsimp only)
     | fail)
  all_goals
    go_wp2_with fail
    go_end0
    rw [HWr.out]; (refine ⟨rfl, T, ⟨?_, H.out.2⟩, ?_, fun b hb => Or.inl hb⟩)
    · rw [HSz.out]; exact set1 (below_keep HW5.out HQ.out) _
    · have hb9 := HBW.out.trans (HW5.out.mono HBW.out.size)
      (have hk : Kept (fun b => ¬ T b) w w5 := ⟨hb9.os, hb9.tape, hb9.output, hb9.size, fun b hb _ => hb9.block b hb⟩); (exact hk.setCell (p := ⟨cb, 0, none⟩) (fun _ hnt => hnt ((H.out.2 cb).2 rfl)) _)
theorem esize1_in (cap : Array Value) (w : World) : (callFunc 138 cap).run Tryz.prog w = .ok (.enter 138 cap) w := by
  simp [go_sem]
theorem esize_visit (w0 : World) (cb M : Nat) (hM : M ≤ 100000) (hcb : w0.heap.size ≤ cb) : VisE w0 138 #[.pointer (some ⟨cb, 0, none⟩)] M (InvEz cb) where
  lt := fun h b hb => by have := NVar.lt h b hb; exact ⟨by omega, this.2⟩
  stay := fun h hk => NVar.stay h fun b hb => hk.block b (NVar.lt h b hb).2 (Or.inl hb)
  ent := fun v u w => esize1_in _ w
  call := fun done T x bd v ad cp w hl hbd hrep hk hn hb hi => by
    (refine (esize1_any cb (ownSz done) (by omega) x v _ w0 w hrep hb (by omega) T hi).mono ?_); rintro e w' ⟨rfl, hv⟩; refine ⟨rfl, ?_⟩; (have e1 : ownSz (done ++ [(x, bd)]) = ownSz done + (1 + Wd.sizes (exWs x)) := by rw [ownSz_app, ownSz, ownSz]; show _ + (Wd.sizes (exWs x) + 1 + 0) = _; omega); unfold InvEz; rw [e1]; exact hv
set_option maxHeartbeats 2000000 in
theorem esize_any (x : Ex) (v : Value) (w : World) (hs : x.size ≤ 100000) (hrep : ERp w x v) :
    Calls Tryz.prog 88 #[v] w fun e w' => e = .returned (.int .i64 (x.size : Nat)) ∧ Below w.heap.size w w' := by
  have HE : Hid (∀ W, Below w.heap.size w W → w.heap.size ≤ W.heap.size → Calls Tryz.prog 110 #[v, .func (.func 138) #[] #[.pointer (some ⟨W.heap.size, 0, none⟩)]] (W.alloc (.cells #[.int .i64 0] 3 (0, 0))) fun e w' => e = .returned (.tuple #[]) ∧ VEnd (InvEz W.heap.size (prE [] x)) (fun b => b = W.heap.size) (W.alloc (.cells #[.int .i64 0] 3 (0, 0))) w') := fun W h1 h2 =>
    eachE_any (by omega) (esize_visit w W.heap.size 100000 (Nat.le_refl _) h2) _ x v _ hs hrep (below_more h1 _) ⟨blk_new _ _, fun b => Iff.rfl⟩
  (have hmf : ∀ (fn : Fn) (first cap : Array Value) (w : World), (Instr.makeFunc fn first cap).run Tryz.prog w = .ok (.func fn first cap) w := fun _ _ _ _ => rfl); have HSz : Hid (ownSz (prE [] x) = x.size) := prE_own [] x; obtain ⟨k, n, ws, ks⟩ := x; obtain ⟨sw, cw, sk, ck, rfl, -⟩ := ERp.def.1 hrep; have hq0 := blk_new w (.cells #[.int .i64 k, .string n, .slice sw ws.length cw, .slice sk ks.length ck] 25 (0, 0)); have HB : Hid (Below w.heap.size w (w.alloc (.cells #[.int .i64 k, .string n, .slice sw ws.length cw, .slice sk ks.length ck] 25 (0, 0)))) := below_more (Below.refl w.heap.size w) _; have hq1 := alloc_keep hq0 (.cells #[.int .i64 0] 3 (0, 0)); obtain ⟨b0, b1, b2, b3⟩ := blk4L hq1; have HEw := HE.out _ HB.out HB.out.size; have HEv : Hid (Calls Tryz.prog 110 _ _ _) := HEw; (rw [show (w.alloc (.cells #[.int .i64 k, .string n, .slice sw ws.length cw, .slice sk ks.length ck] 25 (0, 0))).heap.size = w.heap.size + 1 by simp] at HEv); clear hs hrep HE HEw hq0 hq1
  go_enter Tryz.func88, Tryz.ntmps88
  go_wp2_with (first
    | (go_at_call 110
       refine HEv.out.mono ?_; rintro e w2 ⟨rfl, T', ⟨h1, h2⟩, hk, -⟩; (have HK : Hid (Below w.heap.size w w2) := (below_more HB.out _).trans (hk.below (by simp; omega) fun b hb e => by omega)); rw [HSz.out] at h1; obtain ⟨k0, k1⟩ := blk1 h1
       clear h1 h2 hk)
    | fail)
  go_ret; exact ⟨rfl, HK.out⟩
end Go.Proofs.YtheiikkeelbjnajGreat
/- Walks: how large an expression is with a word wherever a variable is free (first.sizeWith). -/
namespace Go.Proofs.YtheiikkeelbjnajGreat
open Go.RowKit Go.Sort

/-- How often a name stands in a list. -/
def cntT (t : List UInt8) (l : List (List UInt8)) : Nat := (l.filter fun s => s == t).length
theorem cntT_take {t s : List UInt8} {l : List (List UInt8)} {i : Nat} (h : l[i]? = some s) : cntT t (l.take (i + 1)) = cntT t (l.take i) + (if s == t then 1 else 0) := by
  unfold cntT; rw [List.take_add_one, h, List.filter_append, List.length_append]
  congr 1
  simp only [Option.toList_some, List.filter_cons, List.filter_nil]
  split <;> rfl
theorem cntT_le (t : List UInt8) (l : List (List UInt8)) : cntT t l ≤ l.length := List.length_filter_le _ _
/-- What sizeWith says. -/
def szW (x : Ex) (t : List UInt8) (y : Wd) : Nat := x.size + cntT t (fre (prE [] x)) * (y.size - 1)
/-- A word alone in a list made just now. -/
theorem WL.one {w W : World} {n : ByteArray} {ar : List Wd} {sl : Option Addr} {cap g : Nat} (h : WRp w (.mk n ar) (.agg #[.string n, .slice sl ar.length cap])) (hb : Below w.heap.size w W) (hg : W.heap[g]? = some (.cells #[.string n, .slice sl ar.length cap] 27 (0, 0))) : WL W (.slice (some ⟨g, 0, none⟩) 1 1) [.mk n ar] := by
  obtain ⟨c0, c1, -⟩ := blk2 hg; (exact ⟨_, _, rfl, Nat.le_refl _, by decide, fun _ => ⟨g, 0, rfl, WRps.cons.2 ⟨⟨_, _, c0, c1, WRp.up h hb⟩, WRps.nil⟩⟩⟩)
theorem wd_pos (y : Wd) : 1 ≤ y.size := by obtain ⟨n, a⟩ := y; rw [Wd.size]; omega
set_option maxRecDepth 10000 in
set_option maxHeartbeats 4000000 in
theorem sizeWith_any (x : Ex) (nm : ByteArray) (y : Wd) (v u : Value) (w : World) (hrep : ERp w x v) (hy : WRp w y u) (hx : x.size ≤ 200) (hys : y.size ≤ 200) :
    Calls Tryz.prog 51 #[v, .string nm, u] w fun e w' => e = .returned (.int .i64 (szW x nm.data.toList y : Nat)) ∧ Below w.heap.size w w' := by
  (have HSz : Hid (∀ W, Below w.heap.size w W → Calls Tryz.prog 88 #[v] W fun e w' => e = .returned (.int .i64 (x.size : Nat)) ∧ Below W.heap.size W w') := fun W h => esize_any x v W (by omega) (ERp.up h _ _ hrep)); (have HFr : Hid (∀ W, Below w.heap.size w W → Calls Tryz.prog 61 #[v] W fun e w' => ∃ ad cp, e = .returned (.slice ad (fre (prE [] x)).length cp) ∧ KS W.heap.size w' ad cp (fre (prE [] x)) ∧ Below W.heap.size W w') := fun W h => freeIn_any x v W (by omega) (ERp.up h _ _ hrep))
  have HWs : Hid (∀ W sl, Below w.heap.size w W → WL W sl [y] → Calls Tryz.prog 102 #[sl] W fun e w' => e = .returned (.int .i64 (y.size : Nat)) ∧ Below W.heap.size W w') := fun W sl h h2 => by
    (have := wordsSize_any [y] sl W W (by rw [Wd.sizes, Wd.sizes]; omega) h2 (Below.refl _ _)); rw [Wd.sizes, Wd.sizes, Nat.add_zero] at this; exact this
  have HY : Hid (WRp w y u) := hy; (have hfl : (fre (prE [] x)).length ≤ 200 := by have := fre_len (prE [] x); rw [prE_own] at this; omega); (obtain ⟨Z, hZ⟩ : ∃ Z, Z + 1 = y.size := ⟨y.size - 1, by have := wd_pos y; omega⟩); (have HXs : Hid (szW x nm.data.toList y = x.size + cntT nm.data.toList (fre (prE [] x)) * Z) := by show _ = _; unfold szW; congr 2; omega); rw [← hZ] at HWs; generalize szW x nm.data.toList y = SZ at HXs; obtain ⟨k, n, ws, ks⟩ := x; obtain ⟨sw, cw, sk, ck, rfl, -⟩ := ERp.def.1 hrep; (have hZ2 : Z ≤ 199 := by omega); obtain ⟨yn, ya⟩ := y; obtain ⟨sy, cy, rfl, -⟩ := WRp.def.1 hy; generalize fre (prE [] (.mk k n ws ks)) = L at *; generalize hXn : (Ex.mk k n ws ks).size = X at *; obtain ⟨W, hW⟩ : ∃ W, W = (w.alloc (.cells #[.int .i64 k, .string n, .slice sw ws.length cw, .slice sk ks.length ck] 25 (0, 0))).alloc (.cells #[.string yn, .slice sy ya.length cy] 27 (0, 0)) := ⟨_, rfl⟩; (have HB0 : Hid (Below w.heap.size w W) := by rw [hW]; exact below_more (below_more (Below.refl _ w) _) _); (have HM0 : Hid (W.heap[w.heap.size]? = some (.cells #[.int .i64 k, .string n, .slice sw ws.length cw, .slice sk ks.length ck] 25 (0, 0))) := by rw [hW]; exact alloc_keep (blk_new _ _) _); (have HF0 : Hid (W.heap[w.heap.size + 1]? = some (.cells #[.string yn, .slice sy ya.length cy] 27 (0, 0))) := by rw [hW]; exact blk_secE _ _ _); (have hlI : (L.length : Int) ≤ 200 := by omega); have HN : Hid (X ≤ 200 ∧ Z ≤ 199 ∧ L.length ≤ 200) := ⟨hx, hZ2, hfl⟩; (obtain ⟨a0, a1, a2, a3⟩ := blk4L (by rw [hW]; exact alloc_keep (blk_new _ _) _ : W.heap[w.heap.size]? = some (.cells #[.int .i64 k, .string n, .slice sw ws.length cw, .slice sk ks.length ck] 25 (0, 0)))); clear hrep hy hx hys hfl hZ hZ2 hXn
  go_enter Tryz.func51, Tryz.ntmps51
  go_wp2_with fail; rw [← hW]; refine (HSz.out _ HB0.out).mono ?_; rintro _ w1 ⟨rfl, hb1⟩; have HB1 : Hid (Below w.heap.size w w1) := below_join HB0.out hb1; have HM1 : Hid (w1.heap[w.heap.size]? = some (.cells #[.int .i64 k, .string n, .slice sw ws.length cw, .slice sk ks.length ck] 25 (0, 0))) := below_keep hb1 HM0.out; have HF1 : Hid (w1.heap[w.heap.size + 1]? = some (.cells #[.string yn, .slice sy ya.length cy] 27 (0, 0))) := below_keep hb1 HF0.out; clear a0 a1 a2 a3 hb1 HB0 HM0 HF0 hW HSz; obtain ⟨a0, a1, a2, a3⟩ := blk4L HM1.out; go_wp2_with fail; refine (HFr.out _ HB1.out).mono ?_; rintro _ w2 ⟨ad, cp, rfl, hks, hb2⟩; have HB2 : Hid (Below w.heap.size w w2) := below_join HB1.out hb2; have HF2 : Hid (w2.heap[w.heap.size + 1]? = some (.cells #[.string yn, .slice sy ya.length cy] 27 (0, 0))) := below_keep hb2 HF1.out; have HKs : Hid (KS w1.heap.size w2 ad cp L) := hks; have hcap := rowS_caps hks; (have hcI : ((L.length : Nat) : Int) ≤ (cp : Int) := by omega); clear a0 a1 a2 a3 hb2 HB1 HM1 HF1 hks HFr hcap; go_wp2_with fail
  go_loopg [15, 9, 7] L.length (fun g c fr nv wr => ∃ i q : Nat, i ≤ L.length ∧ g = L.length - i ∧ c = .int .i64 (i : Nat) ∧ nv = .int .i64 (q : Nat) ∧ Hid (q = X + cntT nm.data.toList (L.take i) * Z) ∧ Hid (Below w2.heap.size w2 wr))
  case atStart => exact ⟨0, X, by omega, by omega, rfl, rfl, by show _ = _; simp [cntT], Below.refl _ _⟩
  case round =>
    obtain ⟨i, q, hile, hg, rfl, rfl, HQ, HW⟩ := hrel; have HG : Hid (gk = L.length - i) := hg; clear hg; by_cases hlt : i < L.length
    · obtain ⟨t, ht⟩ : ∃ x, L[i]? = some x := ⟨_, List.getElem?_eq_getElem hlt⟩
      have hkw := KS.up HKs.out HW.out
      rcases hkw.ne with ⟨rfl, h0, -⟩ | ⟨gv, rfl, -⟩
      · exact absurd hlt (by rw [h0]; simp)
      have g0 := hkw.cell i t ht; (have hltI : (i : Int) < (L.length : Int) := by omega); have HLt : Hid (i < L.length) := hlt; (have hck : cntT nm.data.toList (L.take i) ≤ 200 := by have := cntT_le nm.data.toList (L.take i); rw [List.length_take] at this; have := HN.out; omega); have HCn := cntT_take (t := nm.data.toList) ht; obtain ⟨k0, k1, -⟩ := blk2 (below_keep HW.out HF2.out)
      have hq5 : q ≤ 50000 := by
        rw [HQ.out]; have := Nat.mul_le_mul hck HN.out.2.1; have := HN.out.1; omega
      have HBi : Hid (Below w.heap.size w wr) := below_join HB2.out HW.out; obtain ⟨S, hS⟩ : ∃ S : ByteArray, S = ⟨t.toArray⟩ := ⟨_, rfl⟩; (have hSl : S.toList = t := by rw [hS, ByteArray.toList_eq]); rw [← hS] at g0; (have HI20 : Hid (i < 200) := by have := HN.out; show _ < _; omega); (have hqI : (q : Int) ≤ 50000 := by omega); (have hZI : (Z : Int) ≤ 199 := by have := HN.out; omega); (have hB : (t == nm.data.toList) = (S.toList == nm.toList) := by rw [hSl, ByteArray.toList_eq]); rw [hB] at HCn; have HCm : Hid _ := HCn; clear hS hSl hck HCn hkw ht hlt hile hq5 hB
      rcases hb : (S.toList == nm.toList) with _ | _
      · rw [hb] at HCm
        (have hne : ¬ S = nm := fun e => by rw [e] at hb; simp at hb); have hdec : decide (S = nm) = false := decide_eq_false hne; (have HQn : Hid (q = X + cntT nm.data.toList (L.take (i + 1)) * Z) := by show _ = _; rw [HCm.out, HQ.out]; simp); go_wp2_with fail
        go_roundg (L.length - (i + 1))
        case measure => have := HG.out; have := HLt.out; omega
        case rel => exact ⟨i + 1, q, HLt.out, rfl, by go_num, rfl, HQn, HW⟩
      · rw [hb] at HCm
        (have HQn : Hid (q + Z = X + cntT nm.data.toList (L.take (i + 1)) * Z) := by show _ = _; rw [HCm.out, HQ.out, Nat.add_mul]; simp [Nat.add_assoc]); go_wp2_with fail; refine (HWs.out _ _ (below_more HBi.out _) (WL.one HY.out (below_more HBi.out _) (blk_new _ _))).mono ?_; rintro _ w5 ⟨rfl, hb5⟩; have HW5 : Hid (Below w2.heap.size w2 w5) := below_join (below_more HW.out _) hb5; clear hb5 k0 k1 g0; go_wp2_with fail
        go_roundg (L.length - (i + 1))
        case measure => have := HG.out; have := HLt.out; omega
        case rel => exact ⟨i + 1, q + Z, HLt.out, rfl, by go_num, by rw [Int.natCast_add], HQn, HW5⟩
    · have hge : ¬ (i : Int) < (L.length : Int) := by omega
      have HE : Hid (q = SZ) := by
        (have h9 : i = L.length := by omega); show _ = _; rw [HQ.out, h9, List.take_length, HXs.out]
      clear hlt hile; go_wp2_with fail; go_ret; (exact ⟨by rw [← HE.out]; rfl, below_join HB2.out HW.out⟩)
end Go.Proofs.YtheiikkeelbjnajGreat
/- Walks: all variables of an expression (syntax.AllVariables). -/
namespace Go.Proofs.YtheiikkeelbjnajGreat
open Go.RowKit Go.Sort

theorem step_appS {ops : Array Oper} {o : Oper} {a : Act} {w : World} {K : Act → World → Prop} {Q : Exit → Act → World → Prop} {E : Prop} (hgd : o.guard = none) (s x : Operand) (hop : o.op = Op.call { callee := Callee.builtin Builtin.append, args := #[s, x], argTypes := #[49, 49] })
    (B : Nat) (is js : List (List UInt8)) (ad : Option Addr) (cp : Nat) (vx : Value) (hs : a.eval s = .slice ad is.length cp) (hown : w.ownsRow B 9 1 (.slice ad is.length cp) is.length (is.map encStr)) (hx : a.eval x = vx) (hg : SL w vx js) (hB : B ≤ w.heap.size) (hl : is.length + js.length ≤ 10000000)
    (h : ∀ ad3 cp3 w3, w3.ownsRow B 9 1 (.slice ad3 (is ++ js).length cp3) (is ++ js).length ((is ++ js).map encStr) → Kept (fun b => (Value.slice ad is.length cp).ownBlock ≠ some b) w w3 → (∀ b, (Value.slice ad3 (is ++ js).length cp3).ownBlock = some b → (Value.slice ad is.length cp).ownBlock = some b ∨ (w.heap.size ≤ b ∧ b < w3.heap.size)) → K (a.put o.dst (.slice ad3 (is ++ js).length cp3)) w3) : if Region.wanted o (yielded ops a.tmps) = true then Oper.wp Tryz.prog o a w K Q else E := by
  (have hw : Region.wanted o (yielded ops a.tmps) = true := by simp [Region.wanted, hgd]); rw [if_pos hw]; exact wp_appS s x hop B is js ad cp vx hs hown hx hg hB hl h
theorem LVar.put0 {w w3 : World} {cb cp cp3 : Nat} {L M : List (List UInt8)} {ad ad3 : Option Addr} {T : Nat → Prop} (hv : w.heap[cb]? = some (.cells #[.slice ad L.length cp] 49 (0, 0))) (hk : KS (cb + 1) w ad cp L) (ht : ∀ b, T b ↔ b = cb ∨ (Value.slice ad L.length cp).ownBlock = some b)
    (hown : KS (cb + 1) w3 ad3 cp3 M) (hk3 : Kept (fun b => (Value.slice ad L.length cp).ownBlock ≠ some b) w w3) (hat : ∀ b, (Value.slice ad3 M.length cp3).ownBlock = some b → (Value.slice ad L.length cp).ownBlock = some b ∨ (w.heap.size ≤ b ∧ b < w3.heap.size)) :
    VEnd (fun T' w' => LVar w' cb M T') T w (w3.setCell ⟨cb, 0, none⟩ (.slice ad3 M.length cp3)) := by
  (have hka : ∀ b, b < w.heap.size → (Value.slice ad L.length cp).ownBlock ≠ some b → w3.heap[b]? = w.heap[b]? := fun b hb hn => hk3.block b hb hn); have hcl := lt_of_block hv; (have hv3 := (hka cb hcl fun e => by have := (World.ownsRow.lt hk cb e).1; omega).trans hv); (have far : ∀ b, b ≠ cb → (w3.setCell ⟨cb, 0, none⟩ (.slice ad3 M.length cp3)).heap[b]? = w3.heap[b]? := fun b hb => Below.heap_setCell _ _ _ _ (by simpa using hb)); (refine ⟨fun b => b = cb ∨ (Value.slice ad3 M.length cp3).ownBlock = some b, ⟨ad3, cp3, set1 hv3 _, hown.move fun b hb => far b (by have := (World.ownsRow.lt hown b hb).1; omega), fun b => Iff.rfl⟩, ?_, fun b hb => ?_⟩)
  · exact ⟨hk3.os, hk3.tape, hk3.output, by have := hk3.size; simp [World.setCell]; omega, fun b hb hn => (far b fun e => hn ((ht b).2 (Or.inl e))).trans (hka b hb fun e => hn ((ht b).2 (Or.inr e)))⟩
  · rcases hb with rfl | hb
    · exact Or.inl ((ht b).2 (Or.inl rfl))
    · rcases hat b hb with h1 | h1
      · exact Or.inl ((ht b).2 (Or.inr h1))
      · exact Or.inr h1.1
/-- The variables at an expression's own node. -/
def avP (p : Ex × Bd) : List (List UInt8) := vrs (prWs (exWs p.1)) ++ (match p.1 with | .mk k n _ _ => if quanB k = true then [n.data.toList] else [])
def avs : List (Ex × Bd) → List (List UInt8)
  | [] => []
  | p :: l => avP p ++ avs l
theorem avs_app : ∀ a b : List (Ex × Bd), avs (a ++ b) = avs a ++ avs b
  | [], b => rfl
  | p :: a, b => by rw [List.cons_append, avs, avs, avs_app a b, List.append_assoc]
theorem avP_len (p : Ex × Bd) : (avP p).length ≤ Wd.sizes (exWs p.1) + 1 := by
  obtain ⟨⟨k, n, ws, ks⟩, bd⟩ := p; have h2 := vrs_len (prWs ws); rw [prWs_len] at h2; unfold avP; rw [List.length_append]; show (vrs (prWs ws)).length + _ ≤ Wd.sizes ws + 1
  dsimp only
  split
  · simp; omega
  · simp; omega
theorem avs_len : ∀ l : List (Ex × Bd), (avs l).length ≤ ownSz l
  | [] => Nat.le_refl _
  | p :: l => by
    have h1 := avs_len l; have h2 := avP_len p; rw [avs, List.length_append, ownSz]; omega
set_option maxRecDepth 10000 in
set_option maxHeartbeats 8000000 in
theorem allVars1_any (cb : Nat) (x : Ex) (v bv : Value) (w0 w : World) (hrep : ERp w0 x v) (hb : Below w0.heap.size w0 w) (hs : x.size ≤ 100000) (T : Nat → Prop) (L : List (List UInt8)) (hL : L.length ≤ 100000) (h : LVar w cb L T) :
    Calls Tryz.prog 154 #[v, bv, .pointer (some ⟨cb, 0, none⟩)] w fun e w' => e = .returned (.tuple #[]) ∧ VEnd (fun T' w' => LVar w' cb (L ++ avP (x, [])) T') T w w' := by
  obtain ⟨k, n, ws, ks⟩ := x; obtain ⟨sw, cw, sk, ck, rfl, hn, hx2, -⟩ := ERp.def.1 hrep; (have hsz : Wd.sizes ws ≤ 100000 := by rw [Ex.size] at hs; omega); have HWl : Hid (WL w0 (.slice sw ws.length cw) ws) := hx2; have HNm : Hid (n.size ≤ maxLen) := hn; obtain ⟨W, hW⟩ : ∃ W, w.alloc (.cells #[.int .i64 k, .string n, .slice sw ws.length cw, .slice sk ks.length ck] 25 (0, 0)) = W := ⟨_, rfl⟩; (have HBW : Hid (Below w.heap.size w W) := by rw [← hW]; exact below_more (Below.refl _ w) _); have HB0 : Hid (Below w0.heap.size w0 W) := below_join hb HBW.out; (have HV : Hid (∀ V, Below W.heap.size W V → Calls Tryz.prog 103 #[.slice sw ws.length cw] V fun e w' => ∃ ad cp, e = .returned (.slice ad (vrs (prWs ws)).length cp) ∧ KS V.heap.size w' ad cp (vrs (prWs ws)) ∧ Below V.heap.size V w') := fun V h1 => variables_any ws _ w0 V hsz HWl.out (below_join HB0.out h1)); (have hVl : (vrs (prWs ws)).length ≤ 100000 := by have := vrs_len (prWs ws); rw [prWs_len] at this; omega); (have HAv : Hid (avP (.mk k n ws ks, []) = vrs (prWs ws) ++ (if quanB k = true then [n.data.toList] else [])) := rfl); (have HLW : Hid (LVar W cb L T) := LVar.stay h fun b hb2 => HBW.out.block b (LVar.lt h b hb2).2); (have HLt : Hid (∀ b, T b → b < w.heap.size) := fun b hb2 => (LVar.lt h b hb2).2); have HLn : Hid (L.length ≤ 100000 ∧ (vrs (prWs ws)).length ≤ 100000) := ⟨hL, hVl⟩; (have hq2 : W.heap[w.heap.size]? = some (.cells #[.int .i64 k, .string n, .slice sw ws.length cw, .slice sk ks.length ck] 25 (0, 0)) := by rw [← hW]; exact blk_new _ _); have HQ2 : Hid (W.heap[w.heap.size]? = some (.cells #[.int .i64 k, .string n, .slice sw ws.length cw, .slice sk ks.length ck] 25 (0, 0))) := hq2; obtain ⟨ad, cp, h1, h2, h3⟩ := HLW.out; have H1 : Hid (W.heap[cb]? = some (.cells #[.slice ad L.length cp] 49 (0, 0))) := h1; have H2 : Hid (KS (cb + 1) W ad cp L) := h2; have H3 : Hid (∀ b, T b ↔ b = cb ∨ (Value.slice ad L.length cp).ownBlock = some b) := h3; have HCl : Hid (cb + 1 ≤ W.heap.size) := lt_of_block h1; obtain ⟨k0, k1⟩ := blk1 h1; obtain ⟨b0, b1, b2, b3⟩ := blk4L hq2; have hl2 := lt_of_block h1; (have HNB : Hid (∀ b, (Value.slice ad L.length cp).ownBlock = some b → b < w.heap.size) := fun b e => HLt.out b ((h3 b).2 (Or.inr e))); clear h h1 h2 h3 hq2 hsz hs hrep hb hx2 hn hL hVl; generalize vrs (prWs ws) = V at *
  go_enter Tryz.func154, Tryz.ntmps154
  go_wp2_with fail
  go_region_law
    (first
     | (go_simp
        go_at_call 103
        refine (HV.out _ (Below.refl _ _).drew).mono ?_; rintro e w5 ⟨adv, cpv, rfl, hkv, hb5⟩; have HW5 : Hid (Below W.heap.size W w5) := (Below.refl _ W).drew.trans hb5; have HKv : Hid (KS W.heap.size w5 adv cpv V) := hkv; obtain ⟨d0, d1⟩ := blk1 (below_keep HW5.out H1.out); have dl := lt_of_block (below_keep HW5.out H1.out); clear hb5 hkv
        dsimp only)
     | (refine step_appS rfl _ _ rfl (cb + 1) L V ad cp _ rfl (H2.out.up HW5.out) rfl (SL.own HKv.out) (by have := HCl.out; have := HW5.out.size; omega) (by have := HLn.out; omega) ?_
        intro ad3 cp3 w3 hown3 hk3 hat3; (have HE : Hid (VEnd (fun T' w' => LVar w' cb (L ++ V) T') T w5 (w3.setCell ⟨cb, 0, none⟩ (.slice ad3 (L ++ V).length cp3))) := LVar.put0 (below_keep HW5.out H1.out) (H2.out.up HW5.out) H3.out hown3 hk3 hat3); (have hv3 := (hk3.block cb (lt_of_block (below_keep HW5.out H1.out)) (fun e => by have := (World.ownsRow.lt H2.out _ e).1; omega)).trans (below_keep HW5.out H1.out)); (have hx3 := (hk3.block w.heap.size (lt_of_block (below_keep HW5.out HQ2.out)) (fun e => by have := HNB.out _ e; omega)).trans (below_keep HW5.out HQ2.out)); have HX3 : Hid (w3.heap[w.heap.size]? = some (.cells #[.int .i64 k, .string n, .slice sw ws.length cw, .slice sk ks.length ck] 25 (0, 0))) := hx3; (have HK3 : Hid (Kept (fun b => (Value.slice ad L.length cp).ownBlock ≠ some b) w5 w3) := hk3); clear d0 d1; obtain ⟨d0, d1⟩ := blk1 hv3; have dl3 := lt_of_block hv3
        clear hown3 hk3 hat3 hv3 hx3)
     | fail)
  all_goals
    obtain ⟨F, hF⟩ : ∃ F, F = w3.setCell ⟨cb, 0, none⟩ (.slice ad3 (L ++ V).length cp3) := ⟨_, rfl⟩; (have HE1 : Hid (VEnd (fun T' w' => LVar w' cb (L ++ V) T') T w F) := by rw [hF]; exact VEnd.pre (HBW.out.trans (HW5.out.mono HBW.out.size)) HE.out); (have hcw : cb ≠ w.heap.size := fun e => by have h9 := H1.out; rw [e, HQ2.out] at h9; cases h9); (have hxF : F.heap[w.heap.size]? = some (.cells #[.int .i64 k, .string n, .slice sw ws.length cw, .slice sk ks.length ck] 25 (0, 0)) := by rw [hF]; exact (Below.heap_setCell _ _ _ _ (by simpa using (Ne.symm hcw))).trans HX3.out); have HXF : Hid (F.heap[w.heap.size]? = some (.cells #[.int .i64 k, .string n, .slice sw ws.length cw, .slice sk ks.length ck] 25 (0, 0))) := hxF; rw [← List.length_append, ← hF]; clear hF HE hcw d0 d1 dl3 b0 b1 b2 b3 hl2 k0 k1 dl HK3 HX3 HV hW; obtain ⟨b0, b1, b2, b3⟩ := blk4L hxF; clear hxF; go_wp2_with fail; refine (quan_any k _).mono ?_; rintro _ w6 ⟨rfl, h6⟩; obtain rfl : F = w6 := h6.symm; clear h6
    cases hqk : quanB k
    case false =>
      go_wp2_with fail
      go_end0
      refine ⟨rfl, ?_⟩; rw [HAv.out, hqk]; simpa using HE1.out
    case true =>
      obtain ⟨T1, hl1, hk1, ht1⟩ := HE1.out; (have HT1 : Hid (Kept (fun b => ¬ T b) w F ∧ ∀ b, T1 b → T b ∨ w.heap.size ≤ b) := ⟨hk1, ht1⟩); obtain ⟨ad4, cp4, g1, g2, g3⟩ := hl1; have G1 : Hid (F.heap[cb]? = some (.cells #[.slice ad4 (L ++ V).length cp4] 49 (0, 0))) := g1; have G2 : Hid (KS (cb + 1) F ad4 cp4 (L ++ V)) := g2; have G3 : Hid (∀ b, T1 b ↔ b = cb ∨ (Value.slice ad4 (L ++ V).length cp4).ownBlock = some b) := g3; have HSz : Hid (cb + 1 ≤ F.heap.size) := lt_of_block g1; obtain ⟨v0, v1⟩ := blk1 g1; have vl := lt_of_block g1; (have HAq : Hid (L ++ avP (.mk k n ws ks, []) = (L ++ V) ++ [n.data.toList]) := by show _ = _; rw [HAv.out, hqk, if_pos rfl, List.append_assoc]); (have HLV : Hid ((L ++ V).length ≤ 200000) := by have := HLn.out; show _ ≤ _; rw [List.length_append]; omega); generalize L ++ V = M at *; clear g1 g2 g3 hk1 ht1
      go_wp2_with (first
        | (at_builtin
           (refine wpList_appS rfl _ _ rfl (cb + 1) M [n.data.toList] ad4 cp4 _ rfl (G2.out.up ((Below.refl _ _).alloc (Nat.le_refl _) _)) rfl (SL.one (by rw [str_eta]; exact blk_new F _)) (by have := HSz.out; simp; omega) (by have := HLV.out; simp; omega) ?_); intro ad5 cp5 w7 hown5 hk5 hat5; (have HE2 : Hid (VEnd (fun T' w' => LVar w' cb (M ++ [n.data.toList]) T') T w (w7.setCell ⟨cb, 0, none⟩ (.slice ad5 (M ++ [n.data.toList]).length cp5))) := VEnd.trans HT1.out.1 HT1.out.2 (LVar.put G1.out G2.out G3.out hown5 hk5 hat5)); (have hv5 := (hk5.block cb (by have := HSz.out; simp; omega) (fun e => by have := (World.ownsRow.lt G2.out _ e).1; omega)).trans (alloc_keep G1.out _)); clear v0 v1; obtain ⟨v0, v1⟩ := blk1 hv5
           clear hown5 hk5 hat5 hv5)
        | fail)
      go_end0
      refine ⟨rfl, ?_⟩; rw [HAq.out]; have h9 := HE2.out; rw [List.length_append] at h9; exact h9
theorem allVars1_in (cap : Array Value) (w : World) : (callFunc 154 cap).run Tryz.prog w = .ok (.enter 154 cap) w := by
  simp [go_sem]
def InvAv (cb : Nat) (done : List (Ex × Bd)) (T : Nat → Prop) (w : World) : Prop := LVar w cb (avs done) T
theorem allVars_visit (w0 : World) (cb M : Nat) (hM : M ≤ 100000) (hcb : w0.heap.size ≤ cb) : VisE w0 154 #[.pointer (some ⟨cb, 0, none⟩)] M (InvAv cb) where
  lt := fun h b hb => by have := LVar.lt h b hb; exact ⟨by omega, this.2⟩
  stay := fun h hk => LVar.stay h fun b hb => hk.block b (LVar.lt h b hb).2 (Or.inl hb)
  ent := fun v u w => allVars1_in _ w
  call := fun done T x bd v ad cp w hl hbd hrep hk hn hb hi => by
    (refine (allVars1_any cb x v _ w0 w hrep hb (by omega) T (avs done) (by have := avs_len done; omega) hi).mono ?_); rintro e w' ⟨rfl, hv⟩; (exact ⟨rfl, VEnd.imp hv fun T' h => by show LVar _ _ _ _; rw [avs_app, avs, avs, List.append_nil]; exact h⟩)
set_option maxHeartbeats 2000000 in
/-- AllVariables: a list of its own. -/
theorem allVars_any (x : Ex) (v : Value) (w : World) (hs : x.size ≤ 100000) (hrep : ERp w x v) :
    Calls Tryz.prog 105 #[v] w fun e w' => ∃ ad cp, e = .returned (.slice ad (avs (prE [] x)).length cp) ∧ KS w.heap.size w' ad cp (avs (prE [] x)) ∧ Below w.heap.size w w' := by
  have HE : Hid (∀ W, Below w.heap.size w W → w.heap.size ≤ W.heap.size → Calls Tryz.prog 110 #[v, .func (.func 154) #[] #[.pointer (some ⟨W.heap.size, 0, none⟩)]] (W.alloc (.cells #[.slice none 0 0] 49 (0, 0))) fun e w' => e = .returned (.tuple #[]) ∧ VEnd (InvAv W.heap.size (prE [] x)) (fun b => b = W.heap.size) (W.alloc (.cells #[.slice none 0 0] 49 (0, 0))) w') := fun W h1 h2 =>
    eachE_any (by omega) (allVars_visit w W.heap.size 100000 (Nat.le_refl _) h2) _ x v _ hs hrep (below_more h1 _) LVar.new
  (have hmf : ∀ (fn : Fn) (first cap : Array Value) (w : World), (Instr.makeFunc fn first cap).run Tryz.prog w = .ok (.func fn first cap) w := fun _ _ _ _ => rfl); obtain ⟨k, n, ws, ks⟩ := x; obtain ⟨sw, cw, sk, ck, rfl, -⟩ := ERp.def.1 hrep; have hq0 := blk_new w (.cells #[.int .i64 k, .string n, .slice sw ws.length cw, .slice sk ks.length ck] 25 (0, 0)); have HB : Hid (Below w.heap.size w (w.alloc (.cells #[.int .i64 k, .string n, .slice sw ws.length cw, .slice sk ks.length ck] 25 (0, 0)))) := below_more (Below.refl w.heap.size w) _; have hq1 := alloc_keep hq0 (.cells #[.slice none 0 0] 49 (0, 0)); obtain ⟨b0, b1, b2, b3⟩ := blk4L hq1; have HEw := HE.out _ HB.out HB.out.size; have HEv : Hid (Calls Tryz.prog 110 _ _ _) := HEw; (rw [show (w.alloc (.cells #[.int .i64 k, .string n, .slice sw ws.length cw, .slice sk ks.length ck] 25 (0, 0))).heap.size = w.heap.size + 1 by simp] at HEv); clear hs hrep HE HEw hq0 hq1
  go_enter Tryz.func105, Tryz.ntmps105
  go_wp2_with (first
    | (go_at_call 110
       refine HEv.out.mono ?_; rintro e w2 ⟨rfl, T', ⟨ad, cp, h1, h2, h3⟩, hk, -⟩; (have HK : Hid (KS (w.heap.size + 1 + 1) w2 ad cp (avs (prE [] (.mk k n ws ks))) ∧ Below w.heap.size w w2) := ⟨h2, (below_more HB.out _).trans (hk.below (by simp; omega) fun b hb e => by omega)⟩); obtain ⟨k0, k1⟩ := blk1 h1
       clear h1 h2 h3 hk)
    | fail)
  go_ret
  exact ⟨ad, cp, rfl, ⟨HK.out.1.1, by
    rcases HK.out.1.2 with h | ⟨g, c, cur, e, hg, r⟩
    · exact Or.inl h
    · exact Or.inr ⟨g, c, cur, e, by omega, r⟩⟩, HK.out.2⟩
end Go.Proofs.YtheiikkeelbjnajGreat
/- Walks: a name that is taken nowhere (syntax.Names.Next). -/
namespace Go.Proofs.YtheiikkeelbjnajGreat
open Go.RowKit Go.Sort

/-- The first ending from k on that is taken nowhere, if there is one among so many. -/
def nxF (B : List UInt8) (l : List (List UInt8)) : Nat → Nat → Nat
  | 0, k => k
  | m + 1, k => if B ++ nthS k ∈ l then nxF B l m (k + 1) else k
theorem nxF_ge (B : List UInt8) (l : List (List UInt8)) : ∀ m k, k ≤ nxF B l m k ∧ nxF B l m k ≤ k + m
  | 0, k => by rw [nxF]; omega
  | m + 1, k => by
    rw [nxF]
    split
    · have := nxF_ge B l m (k + 1); omega
    · omega
theorem nodup_leP : ∀ {a b : List (List UInt8)}, a.Nodup → (∀ x ∈ a, x ∈ b) → a.length ≤ b.length
  | [], b, _, _ => Nat.zero_le _
  | x :: a, b, hn, hs => by
    (have hx : x ∈ b := hs x (by simp)); have hn2 := List.nodup_cons.1 hn; (have := nodup_leP (a := a) (b := b.erase x) hn2.2 fun y hy => (List.mem_erase_of_ne (fun e => hn2.1 (by rw [← e]; exact hy))).2 (hs y (by simp [hy]))); rw [List.length_erase_of_mem hx] at this; have := List.length_pos_of_mem hx; rw [List.length_cons]; omega
theorem nxF_all (B : List UInt8) (l : List (List UInt8)) : ∀ m k, B ++ nthS (nxF B l m k) ∈ l → ∀ j, j < m → B ++ nthS (k + j) ∈ l
  | 0, k, _, j, hj => by omega
  | m + 1, k, h, j, hj => by
    rw [nxF] at h
    split at h
    · rename_i h1
      cases j with
      | zero => exact h1
      | succ j =>
        (have := nxF_all B l m (k + 1) h j (by omega))
        rwa [show k + (j + 1) = k + 1 + j by omega]
    · rename_i h1
      exact absurd h h1
theorem nxF_free (B : List UInt8) (l : List (List UInt8)) (k : Nat) : B ++ nthS (nxF B l (l.length + 1) k) ∉ l := by
  intro h; have ha := nxF_all B l (l.length + 1) k h
  have hd : ((List.range (l.length + 1)).map fun j => B ++ nthS (k + j)).Nodup := by
    (refine List.Pairwise.map _ (fun a b hne e => hne ?_) List.nodup_range); have := nthS_inj _ _ _ (Nat.lt_succ_self _) (List.append_cancel_left e); omega
  have := nodup_leP hd fun x hx => by
    obtain ⟨j, hj, rfl⟩ := List.mem_map.1 hx; exact ha j (List.mem_range.1 hj)
  simp at this; omega
theorem nxF_in (B : List UInt8) (l : List (List UInt8)) : ∀ m k j, k ≤ j → j < nxF B l m k → B ++ nthS j ∈ l
  | 0, k, j, h1, h2 => by rw [nxF] at h2; omega
  | m + 1, k, j, h1, h2 => by
    rw [nxF] at h2
    split at h2
    · rename_i h3
      by_cases e : j = k
      · rw [e]; exact h3
      · exact nxF_in B l m (k + 1) j (by omega) h2
    · omega
set_option maxRecDepth 10000 in
set_option maxHeartbeats 4000000 in
/-- Next: the first such name; the count goes on behind it. -/
theorem nextN_any (nb : Nat) (B : ByteArray) (l : List (List UInt8)) (k : Nat) (hl : l.length ≤ 10000) (hk : k ≤ 1000000) (hB : B.size ≤ 100) (ad : Option Addr) (cp B0 : Nat) (w : World) (hq : w.heap[nb]? = some (.cells #[.string B, .slice ad l.length cp, .int .i64 (k : Nat)] 185 (0, 0))) (hs : KS B0 w ad cp l) :
    Calls Tryz.prog 86 #[.pointer (some ⟨nb, 0, none⟩)] w fun e w' => e = .returned (.string ⟨(B.data.toList ++ nthS (nxF B.data.toList l (l.length + 1) k)).toArray⟩) ∧ w'.heap[nb]? = some (.cells #[.string B, .slice ad l.length cp, .int .i64 (nxF B.data.toList l (l.length + 1) k + 1 : Nat)] 185 (0, 0)) ∧ Kept (· ≠ nb) w w' := by
  have HQ : Hid (w.heap[nb]? = some (.cells #[.string B, .slice ad l.length cp, .int .i64 (k : Nat)] 185 (0, 0))) := hq; have HS : Hid (KS B0 w ad cp l) := hs
  have HNe : Hid (∀ b, (Value.slice ad l.length cp).ownBlock = some b → b ≠ nb) := fun b e h => by
    obtain ⟨g, cur, e1, e2⟩ : ∃ g cur, (Value.slice ad l.length cp).ownBlock = some g ∧ w.heap[g]? = some (.cells cur 9 (0, 0)) := by
      rcases hs.2 with ⟨h1, -⟩ | ⟨g, cap, cur, h1, -, h2, -⟩
      · rw [h1] at e; cases e
      · exact ⟨g, cur, by rw [h1]; rfl, h2⟩
    rw [e] at e1; (have e3 : b = g := by simpa using e1); rw [← e3, h, hq] at e2; simp at e2
  have HF : Hid (B.data.toList ++ nthS (nxF B.data.toList l (l.length + 1) k) ∉ l) := nxF_free _ _ _; have HIn : Hid (∀ j, k ≤ j → j < nxF B.data.toList l (l.length + 1) k → B.data.toList ++ nthS j ∈ l) := nxF_in _ _ _ _; have hge := nxF_ge B.data.toList l (l.length + 1) k; generalize nxF B.data.toList l (l.length + 1) k = K at *; (have HG0 : Hid (k ≤ K ∧ K ≤ 1020001) := ⟨hge.1, by omega⟩); have HBs : Hid (B.size ≤ 100) := hB; obtain ⟨k0, k1, k2, -⟩ := blk3 hq; have hl0 := lt_of_block hq; clear hq hs hge hl hk hB
  go_enter Tryz.func86, Tryz.ntmps86
  go_wp2_with fail; clear k0 k1 k2 hl0
  go_loopg [3] (K - k) (fun gg nm wr => ∃ j, k ≤ j ∧ j ≤ K ∧ gg = K - j ∧ Hid (wr.heap[nb]? = some (.cells #[.string B, .slice ad l.length cp, .int .i64 (j : Nat)] 185 (0, 0))) ∧ Hid (Kept (· ≠ nb) w wr))
  case atStart => exact ⟨k, Nat.le_refl _, HG0.out.1, rfl, HQ, Kept.refl _ _⟩
  case round =>
    obtain ⟨j, hkj, hjK, hg, HQj, HKj⟩ := hrel; have HG : Hid (gk = K - j) := hg; have HJ : Hid (k ≤ j ∧ j ≤ K) := ⟨hkj, hjK⟩; (have hj2 : j ≤ 1020001 := by have := HG0.out.2; omega); (have hjI : (j : Int) ≤ 1020001 := by omega); obtain ⟨S, hS⟩ : ∃ S : ByteArray, S = ⟨(nthS j).toArray⟩ := ⟨_, rfl⟩
    have hSs : S.size ≤ 1020002 := by
      (have h1 : S.size = (nthS j).length := by rw [hS]; simp [ByteArray.size]); have := (nthS_len _ j (Nat.lt_succ_self _)).1; omega
    (have hsz : ¬ 9223372036854775807 < B.size + S.size := by have := HBs.out; omega); (have HNt : Hid (∀ W, Calls Tryz.prog 136 #[.int .i64 (j : Nat)] W fun e w' => e = .returned (.string S) ∧ w' = W) := fun W => by rw [hS]; exact nth_any _ j (Nat.lt_succ_self _) (by omega) W)
    have hcat : B ++ S = ⟨(B.data.toList ++ nthS j).toArray⟩ := by
      rw [hS]; apply ByteArray.ext
      simp
    have HCat : Hid (B ++ S = ⟨(B.data.toList ++ nthS j).toArray⟩) := hcat
    have HCo : Hid (∀ W, Kept (· ≠ nb) w W → Calls Tryz.prog 112 #[.slice ad l.length cp, .string (B ++ S)] W fun e w' => e = .returned (.bool (decide (B.data.toList ++ nthS j ∈ l))) ∧ w' = W) := fun W hk => by
      rw [hcat]; (exact containsS_any l _ _ W (SL.own (HS.out.move fun b e => hk.block b (World.ownsRow.lt HS.out b e).2 (HNe.out b e))))
    obtain ⟨k0, k1, k2, k3, k4, k5⟩ := blk3 HQj.out; have hl0 := lt_of_block HQj.out; clear hg hkj hjK hS hSs hcat hj2; go_wp2_with fail
    go_region_held3 (fun w' => w'.cell? ⟨nb, 0, none⟩ = some (.string B) ∧ w'.cell? ⟨nb, 2, none⟩ = some (.int .i64 (j : Nat))) (go_keep)
      (first
       | (go_at_call 136
          refine (HNt.out _).mono ?_; rintro e w7 ⟨rfl, h7⟩
          subst h7)
       | fail)
    have HKd : Hid (Kept (· ≠ nb) w wr.drew) := HKj.out.drew; have HQd : Hid (wr.drew.heap[nb]? = some (.cells #[.string B, .slice ad l.length cp, .int .i64 (j : Nat)] 185 (0, 0))) := HQj.out; clear k0 k1 k2 k3 k4 k5 hl0 HKj HQj; generalize wr.drew = V at HKd HQd ⊢; obtain ⟨k0, k1, k2, k3, k4, k5⟩ := blk3 HQd.out; have hl0 := lt_of_block HQd.out; obtain ⟨F, hF⟩ : ∃ F, V.setCell ⟨nb, 2, none⟩ (.int .i64 ((j : Int) + 1)) = F := ⟨_, rfl⟩
    have hqf : F.heap[nb]? = some (.cells #[.string B, .slice ad l.length cp, .int .i64 ((j : Int) + 1)] 185 (0, 0)) := by
      rw [← hF]; simp [World.setCell, Array.getElem?_modify, HQd.out]
    have HQf : Hid (F.heap[nb]? = some (.cells #[.string B, .slice ad l.length cp, .int .i64 ((j : Int) + 1)] 185 (0, 0))) := hqf; clear hqf; (have HKf : Hid (Kept (· ≠ nb) w F) := by rw [← hF]; exact HKd.out.setCell (p := ⟨nb, 2, none⟩) (fun _ h => h rfl) _); obtain ⟨f0, f1, f2, -⟩ := blk3 HQf.out; have hl1 := lt_of_block HQf.out; go_wp2_with fail; refine (HCo.out _ HKf.out).mono ?_; rintro _ w6 ⟨rfl, h6⟩; obtain rfl : F = w6 := h6.symm; clear h6 k0 k1 k2 k3 k4 k5 hl0 f0 f1 f2 hl1 hF; by_cases hjk : j = K
    · have hdec : decide (B.data.toList ++ nthS j ∈ l) = false := by rw [hjk]; exact decide_eq_false HF.out
      rw [hdec]; have HJk : Hid (j = K) := hjk; clear hjk hdec; go_wp2_with fail; go_ret; refine ⟨?_, ?_, HKf.out⟩
      · show Ending.returned (.string (B ++ S)) = _
        rw [HCat.out, HJk.out]
      · rw [← HJk.out, Int.natCast_add]
        exact HQf.out
    · have hdec : decide (B.data.toList ++ nthS j ∈ l) = true := decide_eq_true (HIn.out j HJ.out.1 (by have := HJ.out.2; omega))
      rw [hdec]; (have HJk : Hid (j < K) := by have := HJ.out.2; show _ < _; omega); clear hjk hdec; go_wp2_with fail
      go_roundg (K - (j + 1))
      case measure => have := HG.out; have := HJk.out; omega
      case rel => exact ⟨j + 1, by have := HJ.out.1; omega, HJk.out, rfl, by show _ = _; rw [Int.natCast_add]; exact HQf.out, HKf⟩
end Go.Proofs.YtheiikkeelbjnajGreat
