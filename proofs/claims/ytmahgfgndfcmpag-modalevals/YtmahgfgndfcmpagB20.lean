/- Texts of one proof, one behind the other: MAF, MA5. -/
import Derived.Test.YtmahgfgndfcmpagB18
import Derived.Test.YtmahgfgndfcmpagB19
import Derived.Test.YtmahgfgndfcmpagB15
import Derived.Test.YtmahgfgndfcmpagB17
import Derived.Test.YtmahgfgndfcmpagB10
/- Walks: at which worlds a formula is true, by the yardstick. -/
namespace Go.Proofs.Ytmahgfgndfcmpag
open Go.RowKit Go.Sort

theorem allR_step (N : Nat) (hN1 : 0 < N) (hN : N ≤ 40) (rel : List (Int × Int)) (hrl : rel.length ≤ 2000) (hin : InR N rel) (tr : List (List (List UInt8))) (htr : tr.length = N) (m : Nat) (ih : AllR N rel tr m) : AllR N rel tr (m + 1) := by
  intro f v u w hm hfi hv hrep
  rcases hfi.forms with ⟨n, rfl, -⟩ | rfl | rfl | ⟨k, q, hk, rfl, -⟩ | ⟨k, q, q', hk, rfl, -, -⟩
  · exact allR_A N hN1 hN rel hrl hin tr htr m ih _ _ _ (Or.inl rfl) hm hfi v u w hv hrep
  · exact allR_A N hN1 hN rel hrl hin tr htr m ih _ _ _ (Or.inr (Or.inl rfl)) hm hfi v u w hv hrep
  · exact allR_A N hN1 hN rel hrl hin tr htr m ih _ _ _ (Or.inr (Or.inr rfl)) hm hfi v u w hv hrep
  · rcases hk with h | h | h
    · exact allR_B N hN1 hN rel hrl hin tr htr m ih _ _ _ h hm hfi v u w hv hrep
    · exact allR_D N hN1 hN rel hrl hin tr htr m ih _ _ _ h hm hfi v u w hv hrep
    · exact allR_E N hN1 hN rel hrl hin tr htr m ih _ _ _ h hm hfi v u w hv hrep
  · exact allR_C N hN1 hN rel hrl hin tr htr m ih _ _ _ hk hm hfi v u w hv hrep
theorem allRs_all (N : Nat) (hN1 : 0 < N) (hN : N ≤ 40) (rel : List (Int × Int)) (hrl : rel.length ≤ 2000) (hin : InR N rel) (tr : List (List (List UInt8))) (htr : tr.length = N) : ∀ m, AllR N rel tr m
  | 0 => fun _ _ _ _ h => absurd h (Nat.not_lt_zero _)
  | m + 1 => allR_step N hN1 hN rel hrl hin tr htr m (allRs_all N hN1 hN rel hrl hin tr htr m)
theorem allAt_any (N : Nat) (hN1 : 0 < N) (hN : N ≤ 40) (rel : List (Int × Int)) (hrl : rel.length ≤ 2000) (hin : InR N rel) (tr : List (List (List UInt8))) (htr : tr.length = N) (f : Fm) (v u : Value) (w : World) (hf : Fine f) (hv : MR w ⟨(N : Int), rel, tr⟩ v) (hu : Rep w (fun _ => True) f u) :
    Calls Try.prog 19 #[v, u] w fun e w' => ∃ g, e = .returned (.slice (some ⟨g, 0, none⟩) N N) ∧ w.heap.size ≤ g ∧ w'.heap[g]? = some (.cells (outC N N (mtv (seeR N (relB rel)) (pT tr) f)) 4 (0, 0)) ∧ Below w.heap.size w w' :=
  allRs_all N hN1 hN rel hrl hin tr htr (f.size + 1) f v u w (Nat.lt_succ_self _) hf hv hu
end Go.Proofs.Ytmahgfgndfcmpag
/- Walks: is a formula true at all worlds whatever names are, by the yardstick? -/
namespace Go.Proofs.Ytmahgfgndfcmpag
open Go.RowKit Go.Sort

theorem shl_rowE (n : Nat) (h : n ≤ 8) : wrap64 ((2 : Int) ^ n) = ((2 ^ n : Nat) : Int) ∧ 1 ≤ 2 ^ n ∧ 2 ^ n ≤ 256 := by
  (have h1 : 2 ^ n ≤ 2 ^ 8 := Nat.pow_le_pow_right (by decide) h); have h2 : 1 ≤ 2 ^ n := Nat.one_le_two_pow; (refine ⟨?_, h2, by simpa using h1⟩); (have e : ((2 : Int) ^ n) = ((2 ^ n : Nat) : Int) := by simp); rw [e]; (have h3 : 2 ^ n ≤ 256 := by simpa using h1); generalize 2 ^ n = x at *; simp [wrap64]; omega
set_option maxHeartbeats 2000000 in
theorem row_own (r : Nat) (hr : r ≤ 100000) (l : List (List UInt8)) (hl : l.length ≤ 1000) (u : Value) (w : World) (hu : SL w u l) :
    Calls Try.prog 47 #[u, .int .i64 (r : Nat)] w fun e w' => ∃ ad cy, e = .returned (.slice ad (rowN r l 0).length cy) ∧ KS w.heap.size w' ad cy (rowN r l 0) ∧ Below w.heap.size w w' := by
  obtain ⟨ad, cap, rfl, h1, h2, h3⟩ := hu; (have hlI : (l.length : Int) ≤ 1000 := by omega); have H3 : Hid (l ≠ [] → ∃ g off, ad = some ⟨g, off, none⟩ ∧ ∀ (j : Nat) (t : List UInt8), l[j]? = some t → w.cell? ⟨g, off + j, none⟩ = some (.string ⟨t.toArray⟩)) := h3; obtain ⟨i0, hi, hz0, hz1, hz2⟩ := infoText; clear h3
  go_enter Try.func47, Try.ntmps47
  go_wp2_with fail
  go_loopg [6, 5, 1] l.length (fun g c o k wr => ∃ i ad cy, i ≤ l.length ∧ g = l.length - i ∧ c = .int .i64 (i : Nat) ∧ k = .int .i64 ((r / 2 ^ i : Nat) : Int) ∧ o = .slice ad (rowN r (l.take i) 0).length cy ∧ Below w.heap.size w wr ∧ Hid (KS w.heap.size wr ad cy (rowN r (l.take i) 0)))
  case atStart => exact ⟨0, none, 0, by omega, by omega, rfl, by simp, rfl, Below.refl _ _, KS.nil⟩
  case round =>
    obtain ⟨i, ad', cy, hile, hg, rfl, rfl, rfl, hbr, HK⟩ := hrel; have HG : Hid (gk = l.length - i) := hg; clear hg; by_cases hlt : i < l.length
    · obtain ⟨t, ht⟩ : ∃ x, l[i]? = some x := ⟨_, List.getElem?_eq_getElem hlt⟩
      (obtain ⟨g, off, rfl, hc⟩ := H3.out (fun e => by rw [e] at hlt; simp at hlt)); have g0 := (hbr.cell (p := ⟨g, off + i, none⟩) (lt_of_cell (hc i t ht))).trans (hc i t ht); (have hltI : (i : Int) < (l.length : Int) := by omega); (have hlc : (i : Int) < (cap : Int) := by omega); (have hti : (l.take i).length = i := by rw [List.length_take]; omega)
      have hT : rowN r (l.take (i + 1)) 0 = rowN r (l.take i) 0 ++ if r.testBit i then [t] else [] := by
        rw [List.take_add_one, ht]; show rowN r (_ ++ [t]) 0 = _; rw [rowN_snoc, hti, Nat.zero_add]
      have hRl := rowN_len r (l.take i) 0; (have hdv : r / 2 ^ (i + 1) = r / 2 ^ i / 2 := by rw [Nat.pow_succ, Nat.div_div_eq_div_mul]); have hkb : r / 2 ^ i ≤ 100000 := Nat.le_trans (Nat.div_le_self _ _) hr; have hbit := half_bit r i; generalize hR : rowN r (l.take i) 0 = R at *; rw [hti] at hRl; have HDv : Hid (r / 2 ^ (i + 1) = r / 2 ^ i / 2) := hdv; generalize hk : r / 2 ^ i = k at *; (have hkI : (k : Int) ≤ 100000 := by omega); clear hc ht H3 hR hdv hk hr
      rcases hb : r.testBit i with _ | _
      · rw [hb] at hT hbit
        have HT : Hid (rowN r (l.take (i + 1)) 0 = R) := by
          show _ = _; rw [hT]; simp
        have hkm : ((k : Int) % 2 == 1) = false := by
          (have : ¬ k % 2 = 1 := fun h => by simpa using hbit.1 h)
          simp; omega
        have hkm2 : ¬ (k : Int) % 2 = 1 := by
          (have : ¬ k % 2 = 1 := fun h => by simpa using hbit.1 h); omega
        clear hT hb hbit; go_wp2_with fail
        go_roundg (l.length - (i + 1))
        case measure => have := HG.out; omega
        case rel => exact ⟨i + 1, ad', cy, by omega, rfl, by go_num, by rw [HDv.out]; go_num, by rw [HT.out], hbr, by show KS _ _ _ _ _; rw [HT.out]; exact HK.out⟩
      · rw [hb] at hT hbit
        have HT : Hid (rowN r (l.take (i + 1)) 0 = R ++ [t]) := by
          show _ = _; rw [hT]; simp
        have hkm : ((k : Int) % 2 == 1) = true := by
          have : k % 2 = 1 := hbit.2 rfl
          simp; omega
        have hkm2 : (k : Int) % 2 = 1 := by
          have : k % 2 = 1 := hbit.2 rfl; omega
        clear hT hb hbit
        go_wp2_with (first
          | (at_builtin
             (refine wpList_append_lies _ rfl _ _ 48 rfl w.heap.size 9 i0 (.string ⟨#[]⟩) 1 16 Try.underlying48 hi hz0 hz1 hz2 rfl (by decide) _ _ _ rfl (owns_up HK.out ((Below.refl _ wr).alloc (Nat.le_refl _) (.cells #[.string ⟨t.toArray⟩] 9 (0, 0)))) ⟨wr.heap.size, 0, none⟩ 1 1 [.string ⟨t.toArray⟩] rfl rfl ?_ ?_ (by omega) (by unfold maxLen; omega) (by omega) (by have := hbr.size; simp; omega) _ rfl ?_)
             · intro j u hu
               rw [add_none, Nat.zero_add, blk_cell (blk_new wr _)]; simpa using hu
             · intro u hu
               simp at hu
               rcases hu with rfl; rfl
             intro g5 cp5 w5 hown5 hgrow5 hat5 hlt5; have BF := below_grown hbr hbr.size HK.out hgrow5
             have HKN : Hid (KS w.heap.size w5 (some ⟨g5, 0, none⟩) cp5 (R ++ [t])) := by
               show KS _ _ _ _ _; unfold KS; rw [List.map_append, List.length_append]; exact hown5
             clear hown5 hgrow5 hat5)
          | fail)
        go_roundg (l.length - (i + 1))
        case measure => have := HG.out; omega
        case rel => exact ⟨i + 1, some ⟨g5, 0, none⟩, cp5, by omega, rfl, by go_num, by rw [HDv.out]; go_num, by rw [HT.out, List.length_append]; rfl, BF, by show KS _ _ _ _ _; rw [HT.out]; exact HKN.out⟩
    · have HKE : Hid (KS w.heap.size wr ad' cy (rowN r l 0)) := by
        have := HK.out; (rw [List.take_of_length_le (by omega)] at this); exact this
      (have hTE : rowN r (l.take i) 0 = rowN r l 0 := by rw [List.take_of_length_le (by omega)]); (have hge : ¬ (i : Int) < (l.length : Int) := by omega); clear HK H3; rw [hTE]; clear hTE; go_wp2_with fail; go_ret; exact ⟨ad', cy, rfl, HKE.out, hbr⟩
theorem rowV17 (l : List Value) (h0 : l.length = 17) : ∃ x0 x1 x2 x3 x4 x5 x6 x7 x8 x9 x10 x11 x12 x13 x14 x15 x16, l = [x0, x1, x2, x3, x4, x5, x6, x7, x8, x9, x10, x11, x12, x13, x14, x15, x16] := by
  obtain ⟨x0, l1, e0, h1⟩ := cons_lenM h0; obtain ⟨x1, l2, e1, h2⟩ := cons_lenM h1; obtain ⟨x2, l3, e2, h3⟩ := cons_lenM h2; obtain ⟨x3, l4, e3, h4⟩ := cons_lenM h3; obtain ⟨x4, l5, e4, h5⟩ := cons_lenM h4; obtain ⟨x5, l6, e5, h6⟩ := cons_lenM h5; obtain ⟨x6, l7, e6, h7⟩ := cons_lenM h6; obtain ⟨x7, l8, e7, h8⟩ := cons_lenM h7; obtain ⟨x8, l9, e8, h9⟩ := cons_lenM h8; obtain ⟨x9, l10, e9, h10⟩ := cons_lenM h9; obtain ⟨x10, l11, e10, h11⟩ := cons_lenM h10; obtain ⟨x11, l12, e11, h12⟩ := cons_lenM h11; obtain ⟨x12, l13, e12, h13⟩ := cons_lenM h12; obtain ⟨x13, l14, e13, h14⟩ := cons_lenM h13; obtain ⟨x14, l15, e14, h15⟩ := cons_lenM h14; obtain ⟨x15, l16, e15, h16⟩ := cons_lenM h15; obtain ⟨x16, l17, e16, h17⟩ := cons_lenM h16; have e17 : l17 = [] := List.length_eq_zero_iff.1 h17; subst e17 e16 e15 e14 e13 e12 e11 e10 e9 e8 e7 e6 e5 e4 e3 e2 e1 e0; exact ⟨x0, x1, x2, x3, x4, x5, x6, x7, x8, x9, x10, x11, x12, x13, x14, x15, x16, rfl⟩
theorem ever_nums {N i len row nn : Nat} (hi : i < N) (hnn : nn = N * len) (hn8 : nn ≤ 8) (hl8 : len ≤ 8) (hr : row ≤ 256) : ∃ pw sh LL rw9 : Nat, (i : Int) * (len : Int) = (pw : Int) ∧ pw ≤ 8 ∧ (row : Int) / 2 ^ pw = (sh : Int) ∧ sh ≤ 256 ∧ IntKind.i64.wrap ((2 : Int) ^ len) = (LL : Int) ∧ IntKind.i64.wrap ((i : Int) * (len : Int)) = (pw : Int) ∧ 1 ≤ LL ∧ LL ≤ 256 ∧ (sh : Int) % (LL : Int) = (rw9 : Int) ∧ rw9 ≤ 256 ∧ rw9 = row / 2 ^ (i * len) % 2 ^ len := by
  obtain ⟨h1, h2, h3⟩ := shl_rowE len hl8; (have hp : i * len ≤ 8 := Nat.le_trans (Nat.mul_le_mul_right _ (Nat.le_of_lt hi)) (by rw [← hnn]; exact hn8)); (refine ⟨i * len, row / 2 ^ (i * len), 2 ^ len, row / 2 ^ (i * len) % 2 ^ len, by simp, hp, ?_, Nat.le_trans (Nat.div_le_self _ _) hr, ?_, ?_, h2, h3, by simp, Nat.le_trans (Nat.mod_le _ _) (Nat.le_trans (Nat.div_le_self _ _) hr), rfl⟩)
  · simp
  · rw [IntWalk.i64_left]; exact h1
  · rw [IntWalk.i64_left, show (i : Int) * (len : Int) = ((i * len : Nat) : Int) by simp]
    generalize i * len = x at *; simp [wrap64]; omega
theorem encI_ne {w : World} {B b : Nat} {ad : Option Addr} {cy : Nat} {l : List (List UInt8)} {C : Array Value} (h : KS B w ad cy l) (hb : w.heap[b]? = some (.cells C 25 (0, 0))) : (Value.slice ad l.length cy).ownBlock ≠ some b := rowM_ne h hb (by decide)
set_option maxRecDepth 10000 in
set_option maxHeartbeats 16000000 in
theorem everywhere_any (N : Nat) (hN1 : 0 < N) (hN : N ≤ 40) (rel : List (Int × Int)) (hrl : rel.length ≤ 2000) (hin : InR N rel) (tr : List (List (List UInt8))) (f : Fm) (hf : Fine f) (hs : f.size ≤ 200) (hln : N * (nmsU f).length ≤ 8) (v u : Value) (w : World) (hv : MR w ⟨(N : Int), rel, tr⟩ v) (hu : Rep w (fun _ => True) f u) :
    Calls Try.prog 22 #[v, u] w fun e w' => e = .returned (.bool (everB N (seeR N (relB rel)) (nmsU f) f)) ∧ Below w.heap.size w w' := by
  have HN : Hid (N ≤ 40) := hN; have HN1 : Hid (0 < N) := hN1; (have HMx : Hid (∀ t ∈ nmsU f, t.length ≤ maxLen) := fun t ht => Nat.le_trans (nmsU_small hf t ht) (by decide)); obtain ⟨ra, rc, ta, tc, rfl, hpl, -, -⟩ := hv; simp only at hpl ⊢; have HPl : Hid (PL w (.slice ra rel.length rc) rel) := hpl; (have hNI : (N : Int) ≤ 40 := by omega); (have HNm : Hid (∀ v W, FL W v [f] → Calls Try.prog 20 #[v] W _) := fun v W h => namesIn_any f hs v W h); (have HAl : Hid (∀ tr, tr.length = N → ∀ v u W, MR W ⟨(N : Int), rel, tr⟩ v → Rep W (fun _ => True) f u → Calls Try.prog 19 #[v, u] W _) := fun tr h v u W h1 h2 => allAt_any N hN1 hN rel hrl hin tr h f v u W hf h1 h2); obtain ⟨l, hl⟩ : ∃ l, l = nmsU f := ⟨_, rfl⟩; rw [← hl] at HNm hln HMx ⊢; have hl8 : l.length ≤ 8 := Nat.le_trans (Nat.le_mul_of_pos_left _ hN1) hln; (have hlI : (l.length : Int) ≤ 8 := by omega); have HL8 : Hid (l.length ≤ 8) := hl8; (have HEv : Hid (everB N (seeR N (relB rel)) l f = (List.range (2 ^ (N * l.length))).all fun k => (List.range N).all fun u => mtv (seeR N (relB rel)) (pT (trE N l k)) f u) := rfl); (obtain ⟨TT, hTT⟩ : ∃ TT : Nat → Nat → Bool, TT = fun k u => mtv (seeR N (relB rel)) (pT (trE N l k)) f u := ⟨_, rfl⟩); (have HTT : Hid (∀ k, mtv (seeR N (relB rel)) (pT (trE N l k)) f = TT k) := fun k => by rw [hTT]); (have HEv2 : Hid (everB N (seeR N (relB rel)) l f = (List.range (2 ^ (N * l.length))).all fun k => (List.range N).all (TT k)) := by show _ = _; rw [HEv.out, hTT]); obtain ⟨nn, hnn⟩ : ∃ nn, nn = N * l.length := ⟨_, rfl⟩; rw [← hnn] at HEv2 hln; have HNN : Hid (nn = N * l.length) := hnn; have HN8 : Hid (nn ≤ 8) := hln; (have hmul : (N : Int) * (l.length : Int) = (nn : Int) := by rw [hnn]; simp); obtain ⟨hw, hM1, hM2⟩ := shl_rowE nn hln; obtain ⟨M, hM⟩ : ∃ M, M = 2 ^ nn := ⟨_, rfl⟩; rw [← hM] at hw hM1 hM2 HEv2; have HM : Hid (M = 2 ^ nn) := hM; (have hMI : (M : Int) ≤ 256 := by omega); (have hnI : (nn : Int) ≤ 8 := by omega); generalize everB N (seeR N (relB rel)) l f = res at *; obtain ⟨k, n, ks⟩ := f; (have HRe : Hid (Rep w (fun _ => True) (.mk k n ks) u) := hu); obtain ⟨sl, cap, rfl⟩ := slice_shape hu; obtain ⟨W0, hW0⟩ : ∃ W0, W0 = ((w.alloc (.cells #[.int .i64 (N : Nat), .slice ra rel.length rc, .slice ta tr.length tc] 25 (0, 0))).alloc (.cells #[.int .i64 k, .string n, .slice sl ks.length cap] 28 (0, 0))).alloc (.cells #[.int .i64 k, .string n, .slice sl ks.length cap] 28 (0, 0)) := ⟨_, rfl⟩; (have HB0 : Hid (Below w.heap.size w W0) := by rw [hW0]; exact below_more (below_more (below_more (Below.refl _ w) _) _) _); (have HM0 : Hid (W0.heap[w.heap.size]? = some (.cells #[.int .i64 (N : Nat), .slice ra rel.length rc, .slice ta tr.length tc] 25 (0, 0))) := by rw [hW0]; exact alloc_keep (alloc_keep (blk_new _ _) _) _); (have HF0 : Hid (W0.heap[w.heap.size + 1]? = some (.cells #[.int .i64 k, .string n, .slice sl ks.length cap] 28 (0, 0))) := by rw [hW0]; exact alloc_keep (blk_secE _ _ _) _); (have HL0 : Hid (FL W0 (.slice (some ⟨w.heap.size + 1 + 1, 0, none⟩) 1 1) [.mk k n ks]) := FL.sing (T := 28) (b := w.heap.size + 1 + 1) (by rw [hW0]; have := blk_new ((w.alloc (.cells #[.int .i64 (N : Nat), .slice ra rel.length rc, .slice ta tr.length tc] 25 (0, 0))).alloc (.cells #[.int .i64 k, .string n, .slice sl ks.length cap] 28 (0, 0))) (.cells #[.int .i64 k, .string n, .slice sl ks.length cap] 28 (0, 0)); simpa using this) (HRe.out.up HB0.out)); clear hpl hin hrl hN hu hf hs hl hTT hnn hM HEv hl8
  go_enter Try.func22, Try.ntmps22
  go_wp2_with fail; rw [← hW0]; refine (HNm.out _ W0 HL0.out).mono ?_; rintro _ w1 ⟨x, rfl, hx, hb1⟩; obtain ⟨xa, xc, rfl, x1, x2, -⟩ := hx.sl; have HSL : Hid (SL w1 (.slice xa l.length xc) l) := hx.sl; have HB1 : Hid (Below w.heap.size w w1) := below_join HB0.out hb1; have HM1 : Hid (w1.heap[w.heap.size]? = some (.cells #[.int .i64 (N : Nat), .slice ra rel.length rc, .slice ta tr.length tc] 25 (0, 0))) := below_keep hb1 HM0.out; have HF1 : Hid (w1.heap[w.heap.size + 1]? = some (.cells #[.int .i64 k, .string n, .slice sl ks.length cap] 28 (0, 0))) := below_keep hb1 HF0.out; clear hx hb1 hW0 HNm HM0 HF0 HB0 HL0 x1 x2; obtain ⟨m0, m1, m2, -⟩ := blk3 HM1.out; go_wp2_with fail; clear m0 m1 m2
  go_loopg [7] M (fun gg cc wr => ∃ row, row ≤ M ∧ gg = M - row ∧ cc = .int .i64 (row : Nat) ∧ Hid (∀ j, j < row → (List.range N).all (TT j) = true) ∧ Hid (Below w1.heap.size w1 wr))
  case atStart => exact ⟨0, by omega, by omega, rfl, fun j h => absurd h (Nat.not_lt_zero _), Below.refl _ _⟩
  case round =>
    obtain ⟨row, hrw, hg, rfl, HAll, HB⟩ := hrel; have HGk : Hid (gk = M - row) := hg; clear hg; have HMr : Hid (wr.heap[w.heap.size]? = some (.cells #[.int .i64 (N : Nat), .slice ra rel.length rc, .slice ta tr.length tc] 25 (0, 0))) := below_keep HB.out HM1.out; obtain ⟨m0, m1, m2, -⟩ := blk3 HMr.out; by_cases hlt : row < M
    · have hltI : (row : Int) < (M : Int) := by omega
      have HRow : Hid (row < M) := hlt; (have HR8 : Hid (row ≤ 256) := by show _ ≤ _; omega); obtain ⟨MB, hMB⟩ : ∃ MB, MB = wr.heap.size := ⟨_, rfl⟩; have HMB : Hid (MB = wr.heap.size) := hMB; clear hlt hrw; go_wp2_with fail; obtain ⟨R0, hR0⟩ : ∃ R0, R0 = wr := ⟨_, rfl⟩; subst hR0; obtain ⟨V, hV⟩ : ∃ V, V = R0.alloc (.cells #[.int .i64 (N : Nat), .slice ra rel.length rc, .slice none 0 0] 25 (0, 0)) := ⟨_, rfl⟩; (have HV0 : Hid (V.heap[MB]? = some (.cells #[.int .i64 (N : Nat), .slice ra rel.length rc, .slice none 0 0] 25 (0, 0))) := by rw [hV, hMB]; exact blk_new _ _); (have HVB : Hid (Below R0.heap.size R0 V) := by rw [hV]; exact below_more (Below.refl _ _) _); (have HVz : Hid (MB + 1 ≤ V.heap.size) := by show _ ≤ _; rw [hV, hMB]; simp); rw [← hV, ← hMB]; clear hV hMB m0 m1 m2 hw; (obtain ⟨KK, hKK⟩ : ∃ KK : Nat → List (List UInt8), KK = fun q => rowN (row / 2 ^ (q * l.length) % 2 ^ l.length) l 0 := ⟨_, rfl⟩); (have HKK : Hid (∀ q, KK q = rowN (row / 2 ^ (q * l.length) % 2 ^ l.length) l 0) := fun q => by rw [hKK]); (have HKE : Hid (trE N l row = (List.range N).map KK) := by show _ = _; rw [hKK]; rfl); clear hKK
      go_loopg [9] N (fun gg cc wr => ∃ i ad cp xs, i ≤ N ∧ gg = N - i ∧ cc = .int .i64 (i : Nat) ∧ Hid (wr.heap[MB]? = some (.cells #[.int .i64 (N : Nat), .slice ra rel.length rc, .slice ad i cp] 25 (0, 0))) ∧ Hid (xs.length = i) ∧ Hid (∀ j x, xs[j]? = some x → ∃ ya yc, x = Value.slice ya (KK j).length yc ∧ KS R0.heap.size wr ya yc (KK j)) ∧ Hid (wr.ownsRow (MB + 1) 48 1 (.slice ad i cp) i xs) ∧ Hid (Below R0.heap.size R0 wr) ∧ Hid (MB + 1 ≤ wr.heap.size))
      case atStart => exact ⟨0, none, 0, [], by omega, by omega, rfl, HV0, rfl, fun j x h => by simp at h, ⟨rfl, Or.inl ⟨rfl, rfl⟩⟩, HVB, HVz⟩
      case round =>
        obtain ⟨i, ad, cp, xs, hi, hg, rfl, HMd, HXl, HXs, HOt, HBr, HSr⟩ := hrel; have HGi : Hid (gk = N - i) := hg; clear hg; obtain ⟨m0, m1, m2, -⟩ := blk3 (below_keep HBr.out HMr.out); by_cases hlt : i < N
        · have hltI : (i : Int) < (N : Int) := by omega
          have HI : Hid (i < N) := hlt; have HSw : Hid (SL wr (.slice xa l.length xc) l) := (HSL.out.up HB.out).up HBr.out; clear hlt hi; go_wp2_with fail; clear m0 m1 m2; obtain ⟨pw, sh, LL, rw9, n1, n2, n3, n4, n5, n11, n6, n7, n8, n9, n10⟩ := ever_nums HI.out HNN.out HN8.out HL8.out HR8.out; have HPW : Hid ((i : Int) * (l.length : Int) = (pw : Int)) := n1; have hpI : (pw : Int) ≤ 8 := Int.ofNat_le.2 n2; have HPW2 : Hid (IntKind.i64.wrap ((i : Int) * (l.length : Int)) = (pw : Int)) := n11; have HSH : Hid ((row : Int) / 2 ^ pw = (sh : Int)) := n3; have hshI : (sh : Int) ≤ 256 := Int.ofNat_le.2 n4; have HLL : Hid (IntKind.i64.wrap ((2 : Int) ^ l.length) = (LL : Int)) := n5; have hLL1 : (1 : Int) ≤ (LL : Int) := Int.ofNat_le.2 n6; (have HL0 : Hid (¬ (LL : Int) = 0) := fun h => by rw [h] at hLL1; exact absurd hLL1 (by decide)); have hLLI : (LL : Int) ≤ 256 := Int.ofNat_le.2 n7; have HRM : Hid ((sh : Int) % (LL : Int) = (rw9 : Int)) := n8
          have HRO : Hid (∀ W, Below wr.heap.size wr W → Calls Try.prog 47 #[.slice xa l.length xc, .int .i64 (rw9 : Nat)] W fun e w' => ∃ ad cy, e = .returned (.slice ad (KK i).length cy) ∧ KS W.heap.size w' ad cy (KK i) ∧ Below W.heap.size W w') := fun W hb => by
            (have := row_own rw9 (Nat.le_trans n9 (by decide)) l (Nat.le_trans HL8.out (by decide)) _ W (HSw.out.up hb)); rw [HKK.out, ← n10]; exact this
          clear n1 n2 n3 n4 n5 n6 n7 n8 n9 n10 n11; (refine wp_region_wr (by kernel_rfl) [fun v _ => v = (.pointer (some ⟨MB, 2, none⟩)), fun v _ => v = (.slice ad i cp), fun v _ => v = (.slice xa l.length xc), fun v _ => v = (.int .i64 (row : Nat)), fun v _ => v = (.int .i64 (i : Nat)), fun v _ => v = (.slice xa l.length xc), fun v _ => v = (.int .i64 (l.length : Nat)), fun v _ => v = (.int .i64 (pw : Nat)), fun v _ => v = (.int .i64 (sh : Nat)), fun v _ => v = (.slice xa l.length xc), fun v _ => v = (.int .i64 (l.length : Nat)), fun v _ => v = (.int .i64 (LL : Nat)), fun v _ => v = (.int .i64 (rw9 : Nat)), fun v w9 => ∃ ya yc, v = .slice ya (KK i).length yc ∧ KS R0.heap.size w9 ya yc (KK i), fun v w9 => ∃ b9 ya yc, v = .slice (some ⟨b9, 0, none⟩) 1 1 ∧ w9.cell? ⟨b9, 0, none⟩ = some (.slice ya (KK i).length yc) ∧ KS R0.heap.size w9 ya yc (KK i), fun _ _ => True, fun v _ => v = (.pointer (some ⟨MB, 2, none⟩))] ?_ (by kernel_rfl) (by kernel_rfl) 68 rfl (by kernel_rfl) 17 _ rfl rfl (by kernel_rfl) (fun i => if i = 16 then some (.pointer (some ⟨MB, 2, none⟩)) else none) 15 _ (by decide) rfl rfl 10 (by kernel_rfl) (fun v w9 => ∃ g3 cp3 ya yc, v = .slice (some ⟨g3, 0, none⟩) (i + 1) cp3 ∧ w9.ownsRow (MB + 1) 48 1 (.slice (some ⟨g3, 0, none⟩) (i + 1) cp3) (i + 1) (xs ++ [.slice ya (KK i).length yc]) ∧ KS R0.heap.size w9 ya yc (KK i) ∧ (∀ j x, xs[j]? = some x → ∃ ya yc, x = Value.slice ya (KK j).length yc ∧ KS R0.heap.size w9 ya yc (KK j)) ∧ w9.heap[MB]? = some (.cells #[.int .i64 (N : Nat), .slice ra rel.length rc, .slice ad i cp] 25 (0, 0)) ∧ Below R0.heap.size R0 w9 ∧ MB + 1 ≤ w9.heap.size) ?_ ?_ ?_ ?_)
          · intro p hp
            simp only [List.mem_cons, List.not_mem_nil, or_false] at hp
            rcases hp with rfl | rfl | rfl | rfl | rfl | rfl | rfl | rfl | rfl | rfl | rfl | rfl | rfl | rfl | rfl | rfl | rfl
            · exact fun _ _ _ h _ => h
            · exact fun _ _ _ h _ => h
            · exact fun _ _ _ h _ => h
            · exact fun _ _ _ h _ => h
            · exact fun _ _ _ h _ => h
            · exact fun _ _ _ h _ => h
            · exact fun _ _ _ h _ => h
            · exact fun _ _ _ h _ => h
            · exact fun _ _ _ h _ => h
            · exact fun _ _ _ h _ => h
            · exact fun _ _ _ h _ => h
            · exact fun _ _ _ h _ => h
            · exact fun _ _ _ h _ => h
            · rintro v wa wb ⟨ya, yc, e, h⟩ hb
              exact ⟨ya, yc, e, h.up hb⟩
            · rintro v wa wb ⟨b9, ya, yc, e, h, h2⟩ hb
              exact ⟨b9, ya, yc, e, (hb.cell (lt_of_cell h)).trans h, h2.up hb⟩
            · exact fun _ _ _ h _ => h
            · exact fun _ _ _ h _ => h
          · intro j c wq hj
            by_cases h16 : j = 16
            · subst h16
              have e : some (.pointer (some ⟨MB, 2, none⟩)) = some c := hj; exact (Option.some.inj e).symm
            simp only [if_neg h16] at hj
            cases hj
          · refine ⟨?_, ?_, ?_, ?_, ?_, ?_, ?_, ?_, ?_, ?_, ?_, ?_, ?_, ?_, ?_, ?_, ?_, trivial⟩
            · show StepOk _ _ _ _ _ _ _ _
              intro a wx hB hold hdep K hK; have t8 : a.tmps[8]? = some (.pointer (some ⟨MB, 0, none⟩)) := hold.2.2 8 rfl; clear hold hdep; go_simp; exact hK.out _ _ rfl (Below.refl _ _)
            · show StepOk _ _ _ _ _ _ _ _
              intro a wx hB hold hdep K hK; obtain ⟨v37, t37, p37⟩ := hdep 0 rfl _ 37 rfl rfl; have e37 : v37 = (.pointer (some ⟨MB, 2, none⟩)) := p37; subst e37; obtain ⟨k0, k1, k2, -⟩ := blk3 (below_keep hB HMd.out); clear hold hdep; go_simp; exact hK.out _ _ rfl (Below.refl _ _)
            · show StepOk _ _ _ _ _ _ _ _
              intro a wx hB hold hdep K hK; have t5 : a.tmps[5]? = some (.slice xa l.length xc) := hold.2.2 5 rfl; clear hold hdep; go_simp; exact hK.out _ _ rfl (Below.refl _ _)
            · show StepOk _ _ _ _ _ _ _ _
              intro a wx hB hold hdep K hK; have t7 : a.tmps[7]? = some (.int .i64 (row : Nat)) := hold.2.2 7 rfl; clear hold hdep; go_simp; exact hK.out _ _ rfl (Below.refl _ _)
            · show StepOk _ _ _ _ _ _ _ _
              intro a wx hB hold hdep K hK; have t9 : a.tmps[9]? = some (.int .i64 (i : Nat)) := hold.2.2 9 rfl; clear hold hdep; go_simp; exact hK.out _ _ rfl (Below.refl _ _)
            · show StepOk _ _ _ _ _ _ _ _
              intro a wx hB hold hdep K hK; have t5 : a.tmps[5]? = some (.slice xa l.length xc) := hold.2.2 5 rfl; clear hold hdep; go_simp; exact hK.out _ _ rfl (Below.refl _ _)
            · show StepOk _ _ _ _ _ _ _ _
              intro a wx hB hold hdep K hK; obtain ⟨v42, t42, p42⟩ := hdep 5 rfl _ 42 rfl rfl; have e42 : v42 = (.slice xa l.length xc) := p42; subst e42; clear hold hdep; go_simp; exact hK.out _ _ rfl (Below.refl _ _)
            · show StepOk _ _ _ _ _ _ _ _
              intro a wx hB hold hdep K hK; obtain ⟨v41, t41, p41⟩ := hdep 4 rfl _ 41 rfl rfl; have e41 : v41 = (.int .i64 (i : Nat)) := p41; subst e41; obtain ⟨v43, t43, p43⟩ := hdep 6 rfl _ 43 rfl rfl; have e43 : v43 = (.int .i64 (l.length : Nat)) := p43; subst e43; clear hold hdep; go_simp
              first | exact hK.out _ _ (congrArg (Value.int .i64) HPW.out) (Below.refl _ _) | exact hK.out _ _ (congrArg (Value.int .i64) HPW2.out) (Below.refl _ _)
            · show StepOk _ _ _ _ _ _ _ _
              intro a wx hB hold hdep K hK; obtain ⟨v40, t40, p40⟩ := hdep 3 rfl _ 40 rfl rfl; have e40 : v40 = (.int .i64 (row : Nat)) := p40; subst e40; obtain ⟨v44, t44, p44⟩ := hdep 7 rfl _ 44 rfl rfl; have e44 : v44 = (.int .i64 (pw : Nat)) := p44; subst e44; clear hold hdep; go_simp; exact hK.out _ _ (congrArg (Value.int .i64) HSH.out) (Below.refl _ _)
            · show StepOk _ _ _ _ _ _ _ _
              intro a wx hB hold hdep K hK; have t5 : a.tmps[5]? = some (.slice xa l.length xc) := hold.2.2 5 rfl; clear hold hdep; go_simp; exact hK.out _ _ rfl (Below.refl _ _)
            · show StepOk _ _ _ _ _ _ _ _
              intro a wx hB hold hdep K hK; obtain ⟨v46, t46, p46⟩ := hdep 9 rfl _ 46 rfl rfl; have e46 : v46 = (.slice xa l.length xc) := p46; subst e46; clear hold hdep; go_simp; exact hK.out _ _ rfl (Below.refl _ _)
            · show StepOk _ _ _ _ _ _ _ _
              intro a wx hB hold hdep K hK; obtain ⟨v47, t47, p47⟩ := hdep 10 rfl _ 47 rfl rfl; have e47 : v47 = (.int .i64 (l.length : Nat)) := p47; subst e47; clear hold hdep; go_simp; exact hK.out _ _ (congrArg (Value.int .i64) HLL.out) (Below.refl _ _)
            · show StepOk _ _ _ _ _ _ _ _
              intro a wx hB hold hdep K hK; obtain ⟨v45, t45, p45⟩ := hdep 8 rfl _ 45 rfl rfl; have e45 : v45 = (.int .i64 (sh : Nat)) := p45; subst e45; obtain ⟨v48, t48, p48⟩ := hdep 11 rfl _ 48 rfl rfl; have e48 : v48 = (.int .i64 (LL : Nat)) := p48; subst e48; have hl0 := HL0.out; (have hl1 : ¬ LL = 0 := fun h => hl0 (by rw [h]; rfl)); clear hold hdep; go_simp; exact hK.out _ _ (congrArg (Value.int .i64) (show Int.tmod (sh : Int) (LL : Int) = (rw9 : Int) from HRM.out)) (Below.refl _ _)
            · show StepOk _ _ _ _ _ _ _ _
              intro a wx hB hold hdep K hK; obtain ⟨v39, t39, p39⟩ := hdep 2 rfl _ 39 rfl rfl; have e39 : v39 = (.slice xa l.length xc) := p39; subst e39; obtain ⟨v49, t49, p49⟩ := hdep 12 rfl _ 49 rfl rfl; have e49 : v49 = (.int .i64 (rw9 : Nat)) := p49; subst e49; have HW : Hid (Calls Try.prog 47 #[.slice xa l.length xc, .int .i64 (rw9 : Nat)] wx _) := HRO.out wx hB; have HZ9 : Hid (R0.heap.size ≤ wx.heap.size) := (below_join HBr.out hB).size; clear hold hdep; go_simp; refine HW.out.mono ?_; rintro _ w9 ⟨ya, yc, rfl, h1, hb9⟩; have H1 : Hid (KS R0.heap.size w9 ya yc (KK i)) := rowM_low h1 HZ9.out; clear h1; go_simp; exact hK.out _ _ ⟨ya, yc, rfl, H1.out⟩ hb9
            · show StepOk _ _ _ _ _ _ _ _
              intro a wx hB hold hdep K hK; obtain ⟨v50, t50, p50⟩ := hdep 13 rfl _ 50 rfl rfl; (have P50 : Hid ((fun v w9 => ∃ ya yc, v = .slice ya (KK i).length yc ∧ KS R0.heap.size w9 ya yc (KK i)) v50 wx) := p50); clear p50; obtain ⟨ya, yc, e50, h1⟩ := P50.out; subst e50; have H1 : Hid (KS R0.heap.size wx ya yc (KK i)) := h1; clear h1 P50; clear hold hdep; go_simp; (exact hK.out _ _ ⟨_, ya, yc, rfl, by simp, H1.out.up (below_more (Below.refl _ _) _)⟩ (below_more (Below.refl _ _) _))
            · exact trivial
            · show StepE _ _ _ _ _ _ _
              intro a wx hold hdep K hK; have t8 : a.tmps[8]? = some (.pointer (some ⟨MB, 0, none⟩)) := hold.2.2 8 rfl; clear hold hdep; go_simp; exact hK.out
          · intro a wx hB hold hgot K hK
            (obtain ⟨vA, tvA, pvA⟩ := hgot 1 _ 38 (by decide) (by decide) rfl rfl rfl); have evA : vA = (.slice ad i cp) := pvA; subst evA; (obtain ⟨vB, tvB, pvB⟩ := hgot 14 _ 51 (by decide) (by decide) rfl rfl rfl); obtain ⟨b9, ya, yc, rfl, hb9, hks⟩ := pvB; obtain ⟨i0, hi0, hz0, hz1, hz2⟩ := infoTx; have hsz : MB + 1 ≤ wx.heap.size := Nat.le_trans HSr.out hB.size; (refine step_append_lies _ rfl _ _ 23 rfl (MB + 1) 48 i0 (.slice none 0 0) 1 24 Try.underlying23 hi0 hz0 hz1 hz2 rfl (by decide) (.slice ad i cp) i xs (eval_tmpM tvA) (rowM_up HOt.out hB) ⟨b9, 0, none⟩ 1 1 [.slice ya (KK i).length yc] (eval_tmpM tvB) rfl ?_ ?_ (by omega) (by unfold maxLen; omega) (by omega) hsz _ rfl ?_)
            · intro j u hu
              cases j with
              | zero => simp at hu; subst hu; rw [add_none]; exact hb9
              | succ j => simp at hu
            · intro u hu
              simp at hu; subst hu; rfl
            intro g3 cp3 w3 hown3 hgrow hat hlt3; have hlt' := HOt.out.lt; have hown' := rowM_up HOt.out hB; (have hmv : ∀ ya yc l, KS R0.heap.size wx ya yc l → KS R0.heap.size w3 ya yc l := fun ya yc l h => rowM_move h fun gq cur hgq hcur => hgrow.block gq (lt_of_block hcur) fun e => rowM_ne hown' hcur (by decide) e.symm); (refine hK.out _ _ ⟨g3, cp3, ya, yc, rfl, hown3, hmv _ _ _ hks, fun j x hj => ?_, ?_, ?_, ?_⟩)
            · obtain ⟨za, zc, e, h⟩ := HXs.out j x hj
              exact ⟨za, zc, e, hmv _ _ _ (h.up hB)⟩
            · exact (hgrow.block MB (by omega) fun e => by have := (hlt' _ e.symm).1; omega).trans (below_keep hB HMd.out)
            · exact ((below_join HBr.out hB).grown hgrow (below_join HBr.out hB).size fun k hk => by have := (hlt' k hk).1; have := HMB.out; omega)
            · exact Nat.le_trans hsz hgrow.size
          · intro a wx hold hpx hpu K hK
            obtain ⟨v9, t9, g3, cp3, ya, yc, rfl, h1, h2, h3, h4, h5, h6⟩ := hpx 52 rfl; (have tvP : a.tmps[53]? = some (.pointer (some ⟨MB, 2, none⟩)) := hpu 16 _ 53 _ rfl (by decide) rfl rfl); have HO1 : Hid (wx.ownsRow (MB + 1) 48 1 (.slice (some ⟨g3, 0, none⟩) (i + 1) cp3) (i + 1) (xs ++ [.slice ya (KK i).length yc])) := h1
            have HO2 : Hid (∀ j x, (xs ++ [Value.slice ya (KK i).length yc])[j]? = some x → ∃ ya yc, x = Value.slice ya (KK j).length yc ∧ KS R0.heap.size wx ya yc (KK j)) := fun j x hj => by
              rcases Nat.lt_or_ge j xs.length with h | h
              · rw [List.getElem?_append_left h] at hj
                exact h3 j x hj
              · rw [List.getElem?_append_right h] at hj
                cases hq : j - xs.length with
                | zero =>
                  rw [hq] at hj; simp at hj; (have hji : j = i := by have := HXl.out; omega); rw [hji]
                  exact ⟨ya, yc, hj.symm, h2⟩
                | succ q => rw [hq] at hj; simp at hj
            have HO3 : Hid (wx.heap[MB]? = some (.cells #[.int .i64 (N : Nat), .slice ra rel.length rc, .slice ad i cp] 25 (0, 0))) := h4; have HO4 : Hid (Below R0.heap.size R0 wx) := h5; have HO5 : Hid (MB + 1 ≤ wx.heap.size) := h6; obtain ⟨q0, q1, q2, q3, q4, q5⟩ := blk3 HO3.out; obtain ⟨tm, df⟩ := a; (obtain ⟨ys, hys, htm, rfl⟩ := frame_mid2 37 17 (by kernel_rfl) (Nat.le_of_ble_eq_true rfl) hold); obtain ⟨x37, x38, x39, x40, x41, x42, x43, x44, x45, x46, x47, x48, x49, x50, x51, x52, x53, rfl⟩ := rowV17 ys hys; simp only [List.take_succ_cons, List.take_zero, List.drop_succ_cons, List.drop_zero, List.cons_append, List.nil_append] at htm; subst htm; obtain rfl : x52 = _ := someInjM t9; obtain rfl : x53 = _ := someInjM tvP; clear hys hold hpx hpu t9 tvP h1 h2 h3 h4 h5 h6; go_simp; refine hK.out _ _ ?_; clear hK q0 q1 q2 q3 q4 q5; obtain ⟨Y, hY⟩ : ∃ Y, Y = wx.setCell ⟨MB, 2, none⟩ (.slice (some ⟨g3, 0, none⟩) (i + 1) cp3) := ⟨_, rfl⟩; (have hyf : ∀ q, q ≠ MB → Y.heap[q]? = wx.heap[q]? := fun q hq => by rw [hY]; exact farM hq _); (have HY1 : Hid (Y.heap[MB]? = some (.cells #[.int .i64 (N : Nat), .slice ra rel.length rc, .slice (some ⟨g3, 0, none⟩) (i + 1) cp3] 25 (0, 0))) := by rw [hY]; exact set_cellE HO3.out _); (have HY2 : Hid (Y.ownsRow (MB + 1) 48 1 (.slice (some ⟨g3, 0, none⟩) (i + 1) cp3) (i + 1) (xs ++ [.slice ya (KK i).length yc])) := rowM_move HO1.out fun gq cur hgq _ => hyf gq (by have := (HO1.out.lt gq hgq).1; omega))
            have HY3 : Hid (∀ j x, (xs ++ [Value.slice ya (KK i).length yc])[j]? = some x → ∃ ya yc, x = Value.slice ya (KK j).length yc ∧ KS R0.heap.size Y ya yc (KK j)) := fun j x hj => by
              obtain ⟨za, zc, e, h⟩ := HO2.out j x hj; (exact ⟨za, zc, e, rowM_move h fun gq cur hgq hcur => hyf gq fun e => by rw [e] at hgq; exact encI_ne h HO3.out hgq⟩)
            (have HY4 : Hid (Below R0.heap.size R0 Y) := by rw [hY]; exact HO4.out.setCell (p := ⟨MB, 2, none⟩) (by have := HMB.out; simp; omega) _); (have HY5 : Hid (MB + 1 ≤ Y.heap.size) := by rw [hY]; show _ ≤ _; simp only [World.setCell, Array.size_modify]; exact HO5.out); rw [← hY]; clear hY hyf HO1 HO2 HO3 HO4 HO5; go_wp2_with fail
            go_roundg (N - (i + 1))
            case measure => have := HGi.out; have := HI.out; omega
            case rel => exact ⟨i + 1, some ⟨g3, 0, none⟩, cp3, xs ++ [.slice ya (KK i).length yc], HI.out, rfl, by go_num, HY1, by show _ = _; simp [HXl.out], HY3, HY2, HY4, HY5⟩
        · have hii : N = i := by omega
          subst hii; (have hge : ¬ (N : Int) < (N : Int) := by omega); clear hlt hi; obtain ⟨q0, q1, q2, -⟩ := blk3 HMd.out; obtain ⟨f0, f1, f2, -⟩ := blk3 (below_keep HBr.out (below_keep HB.out HF1.out)); have HBw : Hid (Below w.heap.size w wr) := below_join (below_join HB1.out HB.out) HBr.out
          have HMR : Hid (MR wr ⟨(N : Int), rel, trE N l row⟩ (.agg #[.int .i64 (N : Nat), .slice ra rel.length rc, .slice ad N cp])) := by
            (have htl : (trE N l row).length = N := by simp [trE]); obtain ⟨c1, c2⟩ := rowM_caps HOt.out; (refine ⟨ra, rc, ad, cp, by rw [htl], HPl.out.up HBw.out, ⟨ad, cp, rfl, by rw [htl]; exact c1, c2, fun _ => ?_⟩, fun l' hl t ht => ?_⟩)
            · obtain ⟨b, rfl, hc⟩ := rowM_cells HOt.out HN1.out
              (refine ⟨b, 0, rfl, fun j r hj => ?_⟩)
              have hjl : j < N := by
                rcases Nat.lt_or_ge j N with h | h
                · exact h
                · rw [List.getElem?_eq_none (by rw [htl]; exact h)] at hj; cases hj
              (obtain ⟨x, hx⟩ : ∃ x, xs[j]? = some x := ⟨_, List.getElem?_eq_getElem (by rw [HXl.out]; exact hjl)⟩); obtain ⟨za, zc, e, h⟩ := HXs.out j x hx; refine ⟨x, hc j x hx, ?_⟩
              have hr : r = KK j := by
                rw [HKE.out, List.getElem?_map, List.getElem?_range hjl] at hj; exact (Option.some.inj hj).symm
              rw [hr, e]; exact h.list.sl
            · rw [HKE.out] at hl
              obtain ⟨q, -, rfl⟩ := List.mem_map.1 hl; rw [HKK.out] at ht; obtain ⟨j, hj, -⟩ := (rowN_mem _ _ _ _).1 ht; exact HMx.out t (List.mem_of_getElem? hj)
          go_wp2_with fail; (refine (HAl.out (trE N l row) (by simp [trE]) _ _ wr HMR.out (HRe.out.up HBw.out)).mono ?_); rintro _ w9 ⟨go, rfl, hgo, hcells, hb9⟩; rw [HTT.out row] at hcells; have HC9 : Hid (w9.heap[go]? = some (.cells (outC N N (TT row)) 4 (0, 0))) := hcells; have HB9 : Hid (Below w1.heap.size w1 w9) := below_join (below_join HB.out HBr.out) hb9; have HM9 : Hid (w9.heap[w.heap.size]? = some (.cells #[.int .i64 (N : Nat), .slice ra rel.length rc, .slice ta tr.length tc] 25 (0, 0))) := below_keep HB9.out HM1.out; clear hgo hcells hb9 hge q0 q1 q2 f0 f1 f2 m0 m1 m2 HMR; go_wp2_with fail
          go_loopg [11] N (fun gg cc wr => ∃ i, i ≤ N ∧ gg = N - i ∧ cc = .int .i64 (i : Nat) ∧ wr = w9 ∧ Hid (∀ j, j < i → TT row j = true))
          case atStart => exact ⟨0, by omega, by omega, rfl, rfl, fun j h => absurd h (Nat.not_lt_zero _)⟩
          case round =>
            obtain ⟨i, hi, hg, rfl, rfl, HJ⟩ := hrel; have HG3 : Hid (gk = N - i) := hg; clear hg; obtain ⟨m0, m1, m2, -⟩ := blk3 HM9.out; by_cases hlt : i < N
            · have hltI : (i : Int) < (N : Int) := by omega
              have HI : Hid (i < N) := hlt; have c0 := blk_cell HC9.out i; rw [outC_full hlt] at c0; obtain ⟨x, hx⟩ : ∃ x, x = TT row i := ⟨_, rfl⟩; rw [← hx] at c0; have HX : Hid (x = TT row i) := hx; clear hlt hi hx
              cases x with
              | true =>
                go_wp2_with fail
                go_roundg (N - (i + 1))
                case measure => have := HG3.out; have := HI.out; omega
                case rel => exact ⟨i + 1, HI.out, rfl, by go_num, rfl, fun j hj => by
                  by_cases e : j = i
                  · rw [e]; exact HX.out.symm
                  · exact HJ.out j (by omega)⟩
              | false =>
                have HRes : Hid (res = false) := by
                  show _ = _; rw [HEv2.out, List.all_eq_false]; (refine ⟨row, List.mem_range.2 HRow.out, fun h => ?_⟩); have := List.all_eq_true.1 h i (List.mem_range.2 HI.out); rw [← HX.out] at this
                  cases this
                go_wp2_with fail; go_ret; (exact ⟨by rw [HRes.out]; rfl, below_join HB1.out HB9.out⟩)
            · have hii : N = i := by omega
              subst hii; (have hge : ¬ (N : Int) < (N : Int) := by omega); clear hlt hi; go_wp2_with fail
              go_roundg (M - (row + 1))
              case measure => have := HGk.out; have := HRow.out; omega
              case rel => exact ⟨row + 1, HRow.out, rfl, by go_num, fun j hj => by
                by_cases e : j = row
                · rw [e, List.all_eq_true]; exact fun q hq => HJ.out q (List.mem_range.1 hq)
                · exact HAll.out j (by omega), HB9⟩
    · have hrr : M = row := by omega
      subst hrr; (have hge : ¬ (M : Int) < (M : Int) := by omega)
      have HRes : Hid (res = true) := by
        show _ = _; rw [HEv2.out, List.all_eq_true]; (exact fun j hj => HAll.out j (List.mem_range.1 hj))
      clear hlt hrw; go_wp2_with fail; go_ret; (exact ⟨by rw [HRes.out]; rfl, below_join HB1.out HB.out⟩)
end Go.Proofs.Ytmahgfgndfcmpag
