/- Texts of one proof, one behind the other: CW6. -/
import Derived.Test.YtlmjnglcdgkomacB37
import Derived.Test.YtlmjnglcdgkomacB38
/- Walks: Steps. -/
namespace Go.Proofs.Ytlmjnglcdgkomac
open Go.RowKit

theorem infoInt : ∃ i, Try.prog.info? 3 = some i ∧ i.zero = some (.int .i64 0) ∧ i.size = 1 ∧ i.bytes = 8 := by
  (obtain ⟨i, hi, h⟩ := Option.map_eq_some_iff.1 (show (Try.prog.info? 3).map (fun i => (i.zero, i.size, i.bytes)) = some (some (.int .i64 0), 1, 8) by kernel_rfl)); simp only [Prod.mk.injEq] at h; exact ⟨i, hi, h.1, h.2.1, h.2.2⟩
/-- A list of n ints being made. -/
def KI (B : Nat) (w : World) (ad : Option Addr) (cap n : Nat) : Prop := ∃ cs, w.ownsRow B 3 1 (.slice ad n cap) n cs ∧ ∀ u ∈ cs, u.oneCell' = true
theorem owns_keep {B : Nat} {w w' : World} {T : TypeId} {sz n : Nat} {v : Value} {cs : List Value} (h : w.ownsRow B T sz v n cs) (hb : ∀ b, v.ownBlock = some b → w'.heap[b]? = w.heap[b]?) : w'.ownsRow B T sz v n cs := by
  obtain ⟨h1, h2⟩ := h; refine ⟨h1, ?_⟩
  rcases h2 with h2 | ⟨g, cap, cur, hv, hg, hh, r⟩
  · exact Or.inl h2
  · exact Or.inr ⟨g, cap, cur, hv, hg, (hb g (by rw [hv]; rfl)).trans hh, r⟩
theorem owns_low {B B' : Nat} {w : World} {T : TypeId} {sz n : Nat} {v : Value} {cs : List Value} (h : w.ownsRow B' T sz v n cs) (hB : B ≤ B') : w.ownsRow B T sz v n cs := by
  obtain ⟨h1, h2⟩ := h; refine ⟨h1, ?_⟩
  rcases h2 with h2 | ⟨g, cap, cur, hv, hg, hh, r⟩
  · exact Or.inl h2
  · exact Or.inr ⟨g, cap, cur, hv, Nat.le_trans hB hg, hh, r⟩
theorem KI.low {B B' : Nat} {w : World} {ad : Option Addr} {cap n : Nat} (h : KI B' w ad cap n) (hB : B ≤ B') : KI B w ad cap n := by
  obtain ⟨cs, ho, h1⟩ := h; exact ⟨cs, owns_low ho hB, h1⟩
theorem KF.low {P : Nat → Prop} {B B' : Nat} {w : World} {ad : Option Addr} {cap : Nat} {ps : List Pf} (h : KF P B' w ad cap ps) (hB : B ≤ B') : KF P B w ad cap ps := by
  obtain ⟨cs, ho, h1⟩ := h; exact ⟨cs, owns_low ho hB, h1⟩
/-- Where the cells of a row lie. -/
theorem row_cells {B : Nat} {w : World} {T : TypeId} {sz n cap : Nat} {ad : Option Addr} {cs : List Value} (h : w.ownsRow B T sz (.slice ad n cap) n cs) (hn : 0 < n) : ∃ g, ad = some ⟨g, 0, none⟩ ∧ ∀ j u, cs[j]? = some u → w.cell? ((⟨g, 0, none⟩ : Addr).add j) = some u := by
  obtain ⟨g, cap', hv, -⟩ := h.form hn; simp only [Value.slice.injEq, true_and] at hv; obtain ⟨rfl, -⟩ := hv; (exact ⟨g, rfl, fun j u hu => h.cells rfl j u hu⟩)
theorem KF.keep {P : Nat → Prop} {B : Nat} {w w' : World} {ad : Option Addr} {cap : Nat} {ps : List Pf} (h : KF P B w ad cap ps) (hb : ∀ b, P b → b < w.heap.size → w'.heap[b]? = w.heap[b]?) (hg : ∀ b, (Value.slice ad ps.length cap).ownBlock = some b → w'.heap[b]? = w.heap[b]?) : KF P B w' ad cap ps := by
  obtain ⟨cs, ho, h3⟩ := h; (exact ⟨cs, owns_keep ho hg, PQ.move (fun b hb1 hb2 => ⟨hb b hb2.1 hb1, hb2⟩) h3⟩)
theorem nodesL_append (ks js : List Pf) : Pf.nodesL (ks ++ js) = Pf.nodesL ks ++ Pf.nodesL js := by
  induction ks with
  | nil => rw [List.nil_append, Pf.nodesL]; rfl
  | cons k ks ih => rw [List.cons_append, Pf.nodesL, Pf.nodesL, ih, List.append_assoc]
theorem nodesL_one (k : Pf) : Pf.nodesL [k] = k.nodes := by rw [Pf.nodesL, Pf.nodesL, List.append_nil]
theorem psizes_take : ∀ (ks : List Pf) (i : Nat) (k : Pf), ks[i]? = some k → Pf.sizes (ks.take i) + k.size ≤ Pf.sizes ks
  | [], i, k, h => by simp at h
  | x :: ks, 0, k, h => by simp at h; subst h; rw [List.take_zero, Pf.sizes, Pf.sizes]; omega
  | x :: ks, i + 1, k, h => by
    (have := psizes_take ks i k (by simpa using h)); rw [List.take_succ_cons, Pf.sizes, Pf.sizes]; omega
theorem deeps_get : ∀ (ks : List Pf) (i : Nat) (k : Pf), ks[i]? = some k → k.deep ≤ Pf.deeps ks
  | [], i, k, h => by simp at h
  | x :: ks, 0, k, h => by simp at h; subst h; rw [Pf.deeps]; omega
  | x :: ks, i + 1, k, h => by
    (have := deeps_get ks i k (by simpa using h)); rw [Pf.deeps]; omega
theorem psize_pos (p : Pf) : 1 ≤ p.size := by cases p; rw [Pf.size]; omega
theorem plen_sizes : ∀ ks : List Pf, ks.length ≤ Pf.sizes ks
  | [] => by simp
  | k :: ks => by
    have := plen_sizes ks; have := psize_pos k; rw [Pf.sizes, List.length_cons]; omega
def StP (A m : Nat) : Prop := ∀ (p : Pf) (v : Value) (w : World) (d : Nat) (mo : Int), p.size < m → d + p.deep ≤ 402 → (p.size : Int) ≤ mo → mo ≤ 20001 → A ≤ w.heap.size → PRp (· < A) w p v →
  Calls Try.prog 11 #[v, .int .i64 (d : Nat), .int .i64 mo] w fun e w' => ∃ ad cp ad' cp', e = .returned (.tuple #[.slice ad p.nodes.length cp, .slice ad' p.nodes.length cp']) ∧ KF (· < A) w.heap.size w' ad cp p.nodes ∧ KI w.heap.size w' ad' cp' p.nodes.length ∧ Below w.heap.size w w'

set_option maxRecDepth 10000 in
set_option maxHeartbeats 8000000 in
theorem steps_step (A m : Nat) (ih : StP A m) : StP A (m + 1) := by
  intro p v w d mo hm hd hmo hmo2 hAw hv; obtain ⟨a, ⟨k, n, kf⟩, l, r, ks⟩ := p; have HV : Hid (PRp (· < A) w (.mk a (.mk k n kf) l r ks) v) := hv; obtain ⟨sf, cf, al, cl, ar, cr, sl, cap, rfl, -, -, -, -, hkc, hcm, hks⟩ := hv.parts; have HKS : Hid (ks ≠ [] → ∃ b off, sl = some ⟨b, off, none⟩ ∧ b < A ∧ PRps (· < A) w b off ks) := hks; have HIH : Hid (StP A m) := ih; rw [Pf.size] at hm hmo; rw [Pf.deep] at hd; (have hsz20 : Pf.sizes ks < 20001 := by omega); have hkl := plen_sizes ks; (have hkI : (ks.length : Int) ≤ 20001 := by omega); (have HM : Hid (Pf.sizes ks < m) := by show _ < _; omega); have HMO : Hid (((Pf.sizes ks + 1 : Nat) : Int) ≤ mo) := hmo; have HD : Hid (d + (Pf.deeps ks + 1) ≤ 402) := hd; (have hmo3 : 0 < mo := by omega); (have hd3 : (d : Int) ≤ 401 := by omega); (have hd4 : (d : Int) < 402 := by omega); obtain ⟨i1, hi1, hz10, hz11, hz12⟩ := infoPf; obtain ⟨i2, hi2, hz20, hz21, hz22⟩ := infoInt; obtain ⟨N0, hN0⟩ : ∃ N0, N0 = Pf.nodes (.mk a (.mk k n kf) l r ks) := ⟨_, rfl⟩; (have hN1 : N0 = .mk a (.mk k n kf) l r ks :: Pf.nodesL ks := by rw [hN0, Pf.nodes]); rw [← hN0]; have HN0 : Hid (N0 = .mk a (.mk k n kf) l r ks :: Pf.nodesL ks) := hN1; obtain ⟨O1, hO1⟩ : ∃ O, O = Obj.cells #[.string a, .int .i64 k, .string n, .slice sf kf.length cf, .slice al l.length cl, .slice ar r.length cr, .slice sl ks.length cap] 29 (0, 0) := ⟨_, rfl⟩; obtain ⟨O3, hO3⟩ : ∃ O, O = Obj.cells #[.int .i64 (d : Nat)] 3 (0, 0) := ⟨_, rfl⟩; obtain ⟨W, hW⟩ : ∃ W, W = ((w.alloc O1).alloc O1).alloc O3 := ⟨_, rfl⟩; (have B0 : Below w.heap.size w W := by rw [hW]; exact below_more (below_more (below_more (Below.refl _ w) _) _) _); (have z0 : W.heap.size = w.heap.size + 3 := by rw [hW]; simp); (have p1 : W.heap[w.heap.size]? = some O1 := by rw [hW]; exact alloc_keep (alloc_keep (blk_new w O1) _) _); (have p2 : W.heap[w.heap.size + 1]? = some O1 := by rw [hW]; exact alloc_keep (blk_two w O1 O1) _); (have p3 : W.heap[w.heap.size + 1 + 1]? = some O3 := by rw [hW]; have := blk_new ((w.alloc O1).alloc O1) O3; simpa using this); rw [hO1] at p1 p2; rw [hO3] at p3; have P1 : Hid (W.heap[w.heap.size]? = some _) := p1
  have HK0 : Hid (KF (· < A) (w.heap.size + 1) W (some ⟨w.heap.size + 1, 0, none⟩) 1 [.mk a (.mk k n kf) l r ks]) := by
    (refine ⟨[.string a, .int .i64 k, .string n, .slice sf kf.length cf, .slice al l.length cl, .slice ar r.length cr, .slice sl ks.length cap], ⟨rfl, Or.inr ⟨w.heap.size + 1, 1, _, rfl, Nat.le_refl _, p2, Nat.le_refl _, by simp [maxLen], rfl, rfl⟩⟩, ?_, trivial⟩)
    exact HV.out.move fun b hb hp => ⟨B0.block b hb, hp, fun e => by
      (have : w.heap.size + 1 = b := by simpa [Value.ownBlock] using e); have : b < A := hp
      omega⟩
  have HI0 : Hid (KI (w.heap.size + 1) W (some ⟨w.heap.size + 1 + 1, 0, none⟩) 1 1) := by
    (refine ⟨[.int .i64 (d : Nat)], ⟨rfl, Or.inr ⟨w.heap.size + 1 + 1, 1, _, rfl, Nat.le_succ _, p3, Nat.le_refl _, by simp [maxLen], rfl, rfl⟩⟩, ?_⟩); intro u hu; simp at hu; rw [hu]; rfl
  have HWe : Hid (((w.alloc O1).alloc O1).alloc O3 = W) := hW.symm; clear hv hks ih hm hmo hd hkl p1 p2 p3 hN0 hN1 hW
  go_enter Try.func11, Try.ntmps11
  go_wp2_with fail; rw [← hO1, ← hO3, HWe.out]; clear hO1 hO3 HWe
  go_loopg [8, 9, 10] ks.length (fun g u y c wr => ∃ i ad cp ad' cp' nl, i ≤ ks.length ∧ g = ks.length - i ∧ c = .int .i64 (i : Nat) ∧ u = .slice ad nl cp ∧ y = .slice ad' nl cp' ∧ Hid (nl = Pf.sizes (ks.take i) + 1) ∧ Hid (Below w.heap.size w wr) ∧ wr.heap[w.heap.size]? = some (.cells #[.string a, .int .i64 k, .string n, .slice sf kf.length cf, .slice al l.length cl, .slice ar r.length cr, .slice sl ks.length cap] 29 (0, 0)) ∧ Hid (KF (· < A) (w.heap.size + 1) wr ad cp (.mk a (.mk k n kf) l r ks :: Pf.nodesL (ks.take i))) ∧ Hid (KI (w.heap.size + 1) wr ad' cp' nl) ∧ Hid (∀ b, (Value.slice ad nl cp).ownBlock = some b → (Value.slice ad' nl cp').ownBlock ≠ some b))
  case atStart =>
    (refine ⟨0, some ⟨w.heap.size + 1, 0, none⟩, 1, some ⟨w.heap.size + 1 + 1, 0, none⟩, 1, 1, by omega, by omega, rfl, rfl, rfl, ?_, B0, P1.out, ?_, HI0, fun b e e' => ?_⟩)
    · show _ = _
      rw [List.take_zero, Pf.sizes]
    · show KF _ _ _ _ _ _
      rw [List.take_zero, Pf.nodesL]; exact HK0.out
    · have e1 : w.heap.size + 1 = b := by simpa [Value.ownBlock] using e
      (have e2 : w.heap.size + 1 + 1 = b := by simpa [Value.ownBlock] using e'); omega
  case round =>
    obtain ⟨i, ad, cp, ad', cp', nl, hile, hg, rfl, rfl, rfl, HNL, HBr, q0, HK, HI, HNE⟩ := hrel; have HG : Hid (gk = ks.length - i) := hg; have HQ0 : Hid (wr.heap[w.heap.size]? = some _) := q0; clear hg
    have hnlI : (nl : Int) ≤ 20001 := by
      have h1 := HNL.out
      have : Pf.sizes (ks.take i) ≤ Pf.sizes ks := by
        have e := congrArg Pf.sizes (List.take_append_drop i ks); rw [← nodesL_size, nodesL_append, List.length_append, nodesL_size, nodesL_size] at e; omega
      omega
    obtain ⟨-, -, -, -, -, -, c6⟩ := blk7 q0; by_cases hlt : i < ks.length
    · obtain ⟨⟨ka, ⟨kk, kn, kkf⟩, kl, kr, kks⟩, hki⟩ : ∃ f, ks[i]? = some f := ⟨_, List.getElem?_eq_getElem hlt⟩
      (have hltI : (i : Int) < (ks.length : Int) := by omega); (obtain ⟨b, off, hsl, hbA, hrs⟩ := HKS.out (fun e => by rw [e] at hlt; simp at hlt)); subst hsl; (have hrs' : PRps (· < A) wr b off ks := hrs.move hbA fun q hq hp => ⟨HBr.out.block q hq, hp⟩); obtain ⟨sf2, cf2, al2, cl2, ar2, cr2, sl2, cap2, y0, y1, y2, y3, y4, y5, y6, hrep2⟩ := hrs'.at i ka kk kn kkf kl kr kks hki; (have hlc : ((i : Nat) : Int) < ((cap : Nat) : Int) := by omega); have hzr := HBr.out.size; have hzr2 := lt_of_block HQ0.out; have ht1 := psizes_take ks i _ hki; have ht2 := deeps_get ks i _ hki; (have hnm : (nl : Int) ≤ mo := by have := HNL.out; have := HMO.out; omega); (have hc := HIH.out _ _ wr (d + 1) (mo - (nl : Nat)) (Nat.lt_of_le_of_lt (pfsizes_get hki) HM.out) (by have := HD.out; omega) (by have := HNL.out; have := HMO.out; omega) (by omega) (by omega) hrep2)
      have hT : Pf.nodesL (ks.take (i + 1)) = Pf.nodesL (ks.take i) ++ Pf.nodes (.mk ka (.mk kk kn kkf) kl kr kks) := by
        rw [List.take_add_one, hki, nodesL_append]; show _ ++ Pf.nodesL [_] = _; rw [nodesL_one]
      have hlen := nodes_size (.mk ka (.mk kk kn kkf) kl kr kks); have hpos := psize_pos (.mk ka (.mk kk kn kkf) kl kr kks)
      have hN2 : nl + (Pf.nodes (.mk ka (.mk kk kn kkf) kl kr kks)).length = Pf.sizes (ks.take (i + 1)) + 1 := by
        rw [← nodesL_size, hT, List.length_append, nodesL_size, HNL.out]; omega
      (have hb2 : nl + (Pf.nodes (.mk ka (.mk kk kn kkf) kl kr kks)).length ≤ 20001 := by have := HNL.out; omega); (have hp2 : 0 < (Pf.nodes (.mk ka (.mk kk kn kkf) kl kr kks)).length := by omega); generalize Pf.nodes (.mk ka (.mk kk kn kkf) kl kr kks) = KN at *; (have HC : Hid (Calls Try.prog 11 _ wr fun e w' => ∃ ad cp ad' cp', e = .returned (.tuple #[.slice ad KN.length cp, .slice ad' KN.length cp']) ∧ KF (· < A) wr.heap.size w' ad cp KN ∧ KI wr.heap.size w' ad' cp' KN.length ∧ Below wr.heap.size wr w') := hc); have HT : Hid (Pf.nodesL (ks.take (i + 1)) = Pf.nodesL (ks.take i) ++ KN) := hT; have HN2 : Hid (nl + KN.length = Pf.sizes (ks.take (i + 1)) + 1) := hN2
      have HLN : Hid ((Pf.mk a (.mk k n kf) l r ks :: Pf.nodesL (ks.take i)).length = nl) := by
        show _ = _; rw [List.length_cons, nodesL_size, HNL.out]
      have HB2 : Hid (nl + KN.length ≤ 20001) := hb2; have HP2 : Hid (0 < KN.length) := hp2; clear hki hrs hrs' hrep2 hc hT hN2 hlen hpos ht1 ht2 HKS hbA hb2 hp2; go_wp2_with fail; refine HC.out.mono ?_; rintro e w1 ⟨ax, cx, ay, cy, rfl, hkx, hky, hb1⟩; have HB1 : Hid (Below wr.heap.size wr w1) := hb1; have zw1 := hb1.size; obtain ⟨cs, hoL, hpL⟩ := HK.out.up hb1; obtain ⟨cs0, hoL0, -⟩ := HK.out; rw [HLN.out] at hoL hpL hoL0; have HOL : Hid (w1.ownsRow (w.heap.size + 1) 29 7 (.slice ad nl cp) nl cs) := hoL; (have HPL : Hid (PQ (fun b => b < A ∧ (Value.slice ad nl cp).ownBlock ≠ some b) w1 cs _) := hpL); (have HLL : Hid (∀ q, (Value.slice ad nl cp).ownBlock = some q → w.heap.size + 1 ≤ q ∧ q < wr.heap.size) := fun q e => hoL0.lt q e); obtain ⟨ds, hoX, hpX⟩ := hkx; (have HPX : Hid (PQ (fun b => b < A ∧ (Value.slice ad nl cp).ownBlock ≠ some b) w1 ds KN) := PQ.move (fun b _ hb => ⟨rfl, hb.1, fun e => by have := HLL.out b e; have : b < A := hb.1; omega⟩) hpX); obtain ⟨gx, rfl, hxc⟩ := row_cells hoX HP2.out; have HXC : Hid (∀ j u, ds[j]? = some u → w1.cell? ((⟨gx, 0, none⟩ : Addr).add j) = some u) := hxc; obtain ⟨es, hoI, h1I⟩ := HI.out; have HOI : Hid (wr.ownsRow (w.heap.size + 1) 3 1 (.slice ad' nl cp') nl es) := hoI; have H1I : Hid (∀ u ∈ es, u.oneCell' = true) := h1I; obtain ⟨fs, hoY, h1Y⟩ := hky; have H1Y : Hid (∀ u ∈ fs, u.oneCell' = true) := h1Y; have HYL : Hid (fs.length = KN.length * 1) := hoY.1; (have hyg := fun q e => (hoY.lt q e).1); obtain ⟨gy, rfl, hyc⟩ := row_cells hoY HP2.out; have HYC : Hid (∀ j u, fs[j]? = some u → w1.cell? ((⟨gy, 0, none⟩ : Addr).add j) = some u) := hyc; have HGY : Hid (wr.heap.size ≤ gy ∧ gy < w1.heap.size) := hoY.lt gy rfl; clear hoL hpL hoL0 hoX hpX hxc hoI h1I hoY h1Y hyc hyg hb1 y0 y1 y2 y3 y4 y5 y6
      go_wp2_with (first
        | (at_builtin
           (refine wpList_append_lies _ rfl _ _ 27 rfl (w.heap.size + 1) 29 i1 (.agg #[.string ⟨#[]⟩, .int .i64 0, .string ⟨#[]⟩, .slice none 0 0, .slice none 0 0, .slice none 0 0, .slice none 0 0]) 7 136 Try.underlying27 hi1 hz10 hz11 hz12 rfl (by decide) _ _ _ rfl HOL.out ⟨gx, 0, none⟩ KN.length cx ds rfl HPX.out.len HXC.out HPX.out.one HP2.out (by have := HB2.out; unfold maxLen; omega) (by have := HB2.out; omega) (by omega) _ rfl ?_); intro g3 cp3 w3 hown3 hgrow hat hlt3; have HK3 : Hid (KF (· < A) (w.heap.size + 1) w3 (some ⟨g3, 0, none⟩) cp3 _) := KF.app (P := (· < A)) HLN.out (j := KN.length) rfl HOL.out HPL.out HPX.out hown3 hgrow hat; have HO3 : Hid (w3.ownsRow (w.heap.size + 1) 29 7 (.slice (some ⟨g3, 0, none⟩) (nl + KN.length) cp3) (nl + KN.length) _) := hown3; have HG3 : Hid (w1.grownBy w3 (Value.slice ad nl cp).ownBlock) := hgrow; have HA3 : Hid ((Value.slice ad nl cp).ownBlock = some g3 ∨ g3 = w1.heap.size) := hat
           have HI3 : Hid (w3.ownsRow (w.heap.size + 1) 3 1 (.slice ad' nl cp') nl es) := owns_keep HOI.out fun q e => by
             have := HOI.out.lt q e; (exact (HG3.out.block q (by omega) fun e' => HNE.out q e'.symm e).trans (HB1.out.block q this.2))
           have HY3 : Hid (∀ j u, fs[j]? = some u → w3.cell? ((⟨gy, 0, none⟩ : Addr).add j) = some u) := fun j u hu => by
             have h := HYC.out j u hu; rw [add_none] at h ⊢; (exact (cell_of_block (a := ⟨gy, 0 + j, none⟩) (HG3.out.block gy HGY.out.2 fun e' => by have := HLL.out gy e'.symm; have := HGY.out.1; omega)).trans h)
           have z3 := hgrow.size; have HL3 : Hid (g3 < w3.heap.size) := hlt3
           clear hown3 hgrow hat hlt3)
        | (at_builtin
           (refine wpList_append_lies _ rfl _ _ 38 rfl (w.heap.size + 1) 3 i2 (.int .i64 0) 1 8 Try.underlying38 hi2 hz20 hz21 hz22 rfl (by decide) _ _ _ rfl HI3.out ⟨gy, 0, none⟩ KN.length cy fs rfl HYL.out HY3.out H1Y.out HP2.out (by have := HB2.out; unfold maxLen; omega) (by have := HB2.out; omega) (by omega) _ rfl ?_); intro g4 cp4 w4 hown4 hgrow4 hat4 hlt4; have HO4 : Hid (w4.ownsRow (w.heap.size + 1) 3 1 (.slice (some ⟨g4, 0, none⟩) (nl + KN.length) cp4) (nl + KN.length) _) := hown4; have HG4 : Hid (w3.grownBy w4 (Value.slice ad' nl cp').ownBlock) := hgrow4; have HA4 : Hid ((Value.slice ad' nl cp').ownBlock = some g4 ∨ g4 = w3.heap.size) := hat4
           clear hown4 hgrow4 hat4 hlt4)
        | fail)
      (have hID : ∀ q, (Value.slice ad' nl cp').ownBlock = some q → w.heap.size + 1 ≤ q ∧ q < wr.heap.size := fun q e => HOI.out.lt q e)
      have hg3 : ∀ q, (Value.slice ad' nl cp').ownBlock = some q → g3 ≠ q := fun q e e' => by
        have h1 := hID q e
        rcases HA3.out with h | h
        · exact HNE.out g3 h (by rw [e, e'])
        · omega
      have hlow : ∀ q, q < w.heap.size + 1 → w4.heap[q]? = wr.heap[q]? := fun q hq => by
        (rw [HG4.out.block q (by omega) fun e => by have := (hID q e.symm).1; omega, HG3.out.block q (by omega) fun e => by have := (HLL.out q e.symm).1; omega]); (exact HB1.out.block q (by omega))
      have z4 := HG4.out.size
      go_roundg (ks.length - (i + 1))
      case measure => have := HG.out; omega
      case rel =>
        (refine ⟨i + 1, some ⟨g3, 0, none⟩, cp3, some ⟨g4, 0, none⟩, cp4, nl + KN.length, by omega, rfl, by go_num, rfl, rfl, HN2, ?_, (hlow _ (by omega)).trans HQ0.out, ?_, ⟨_, HO4.out, fun u hu => ?_⟩, fun q e e' => ?_⟩)
        · show Below _ _ _
          have h1 := HBr.out; have h2 := HB1.out; have h3 := HG3.out; have h4 := HG4.out; (exact ⟨h4.os.trans (h3.os.trans (h2.os.trans h1.os)), h4.tape.trans (h3.tape.trans (h2.tape.trans h1.tape)), h4.output.trans (h3.output.trans (h2.output.trans h1.output)), by omega, fun j hj => (hlow j (by omega)).trans (h1.block j hj)⟩)
        · show KF _ _ _ _ _ _
          rw [HT.out, ← List.cons_append]; (refine HK3.out.keep (fun q hq hq2 => HG4.out.block q hq2 fun e => by have := (hID q e.symm).1; have : q < A := hq; omega) fun q e => ?_); (have e : g3 = q := by simpa [Value.ownBlock] using e); subst e; (exact HG4.out.block g3 HL3.out fun e' => hg3 g3 e'.symm rfl)
        · rcases List.mem_append.1 hu with hu | hu
          · exact H1I.out u hu
          · exact H1Y.out u hu
        · have e : g3 = q := by simpa [Value.ownBlock] using e
          (have e' : g4 = q := by simpa [Value.ownBlock] using e')
          rcases HA4.out with h | h
          · exact hg3 g4 h (by omega)
          · have := HL3.out
            omega
    · obtain rfl : i = ks.length := by omega
      (have hge : ¬ (ks.length : Int) < (ks.length : Int) := by omega)
      have hN : N0.length = nl := by
        have h1 := HNL.out; rw [List.take_length] at h1; rw [h1, HN0.out, List.length_cons, nodesL_size]
      have HKE : Hid (KF (· < A) (w.heap.size + 1) wr ad cp N0) := by
        have := HK.out; rw [List.take_length, ← HN0.out] at this; exact this
      have HNN : Hid (N0.length = nl) := hN; clear HK HKS hN; go_wp2_with fail; go_ret2; (refine ⟨ad, cp, ad', cp', by rw [HNN.out]; rfl, HKE.out.low (by omega), ?_, HBr.out⟩); rw [HNN.out]; (exact HI.out.low (by omega))
theorem steps_all (A : Nat) : ∀ m, StP A m
  | 0 => fun _ _ _ _ _ h => absurd h (Nat.not_lt_zero _)
  | m + 1 => steps_step A m (steps_all A m)
end Go.Proofs.Ytlmjnglcdgkomac
