/- Texts of one proof, one behind the other: SB8, SB9, SBA. -/
import Derived.Test.YtlmjnglcdgkomahB21
import Derived.Test.YtlmjnglcdgkomahB18
import Derived.Test.YtlmjnglcdgkomahB20
import Derived.Deep.RegionHeld3
/- Walks: worlds parted by their names (byNames). -/
namespace Go.Proofs.Ytlmjnglcdgkomah
open Go.RowKit Go.Maps Go.WideMaps

/-- A model as its worlds see and are named, in memory. -/
def VwR (w : World) (N : Nat) (R : Nat → Nat → Bool) (nss : List (List (List UInt8))) (v : Value) : Prop := ∃ g h, v = .agg #[.slice (some ⟨g, 0, none⟩) N N, .slice (some ⟨h, 0, none⟩) N N] ∧ FR w g N R ∧ nss.length = N ∧ ∀ (j : Nat) (r : List (List UInt8)), nss[j]? = some r → ∃ u, w.cell? ⟨h, j, none⟩ = some u ∧ SL w u r
theorem VwR.up {w w' : World} {N : Nat} {R : Nat → Nat → Bool} {nss : List (List (List UInt8))} {v : Value} (h : VwR w N R nss v) (hb : Below w.heap.size w w') : VwR w' N R nss v := by
  obtain ⟨g, h1, rfl, h2, h3, h4⟩ := h; (refine ⟨g, h1, rfl, h2.up hb, h3, fun j r hj => ?_⟩); obtain ⟨u, c1, c2⟩ := h4 j r hj; exact ⟨u, (hb.cell (lt_of_cell c1)).trans c1, c2.up hb⟩
/-- Numbers in a row of one's own. -/
def OwnN (B : Nat) (w : World) (ad : Option Addr) (cp : Nat) (l : List Nat) : Prop := w.ownsRow B 3 1 (.slice ad l.length cp) l.length (l.map encI)
theorem OwnN.nl {B : Nat} {w : World} {ad : Option Addr} {cp : Nat} {l : List Nat} (h : OwnN B w ad cp l) : NL w (.slice ad l.length cp) l := by
  obtain ⟨c1, c2⟩ := rowM_caps h; (refine ⟨ad, cp, rfl, c1, c2, fun hne => ?_⟩); obtain ⟨b, rfl, hc⟩ := rowM_cells h (List.length_pos_iff.2 hne); (refine ⟨b, rfl, fun j m hj => ?_⟩); (have := hc j (encI m) (by rw [List.getElem?_map, hj]; rfl))
  rwa [Nat.zero_add] at this
theorem OwnN.nil {B : Nat} {w : World} : OwnN B w none 0 [] := ⟨rfl, Or.inl ⟨rfl, rfl⟩⟩
/-- It stays where only a map changes. -/
theorem OwnN.kept {B b : Nat} {w w' : World} {ad : Option Addr} {cp : Nat} {l : List Nat} (h : OwnN B w ad cp l) (hk : Kept (fun x => x ≠ b) w w') (hm : ∀ cs T f, w.heap[b]? ≠ some (.cells cs T f)) : OwnN B w' ad cp l :=
  rowM_move h fun g _ _ hh => hk.block g (lt_of_block hh) fun e => hm _ _ _ (e ▸ hh)
theorem NuM.noCells {α : Type} [DecidableEq α] {kt : TypeId} {key : α → Lit} {Ok : α → Prop} {w : World} {b : Nat} {l : List α} (h : NuM kt key Ok w b l) (cs : Array Value) (T : TypeId) (f : Nat × Nat) : w.heap[b]? ≠ some (.cells cs T f) := by
  obtain ⟨n, D, ⟨es, clock, hb, r⟩, r2⟩ := h; rw [hb]; intro e
  cases e
theorem below_kept {B b : Nat} {w w1 w2 : World} (h : Below B w w1) (hk : Kept (fun x => x ≠ b) w1 w2) (hB : B ≤ w1.heap.size) (hb : B ≤ b) : Below B w w2 :=
  ⟨hk.os.trans h.os, hk.tape.trans h.tape, hk.output.trans h.output, Nat.le_trans h.size hk.size, fun x hx => (hk.block x (by omega) (by omega)).trans (h.block x hx)⟩
/-- The first level. -/
def byN (nss : List (List (List UInt8))) : List Nat := numK (nss.map keyN)
theorem take_num {α : Type} [DecidableEq α] {ks : List α} {i : Nat} {k : α} (h : ks[i]? = some k) : numK (ks.take (i + 1)) = numK (ks.take i) ++ [nuK (extK [] (ks.take i)) k] ∧ extK [] (ks.take (i + 1)) = extK (extK [] (ks.take i)) [k] := by
  (have e : ks.take (i + 1) = ks.take i ++ [k] := by rw [List.take_add_one, h]; rfl); rw [e]; exact ⟨numK_snoc _ _, extK_app _ _ _⟩
set_option maxRecDepth 10000 in
set_option maxHeartbeats 8000000 in
theorem byNames_any {N : Nat} (hN : N ≤ 40) (R : Nat → Nat → Bool) (nss : List (List (List UInt8))) (hns : ∀ r ∈ nss, r.length ≤ 30 ∧ ∀ t ∈ r, t.length ≤ 8) (v : Value) (w : World) (hv : VwR w N R nss v) :
    Calls Try.prog 96 #[v] w fun e w' => ∃ ad cp, e = .returned (.slice ad N cp) ∧ OwnN w.heap.size w' ad cp (byN nss) ∧ Below w.heap.size w w' := by
  obtain ⟨g, h, rfl, h2, h3, h4⟩ := hv; (have hNI : (N : Int) ≤ 40 := by omega); have hmm := @run_makeMap Try.prog; obtain ⟨ks, hks⟩ : ∃ ks, ks = nss.map keyN := ⟨_, rfl⟩; (have hkl : ks.length = N := by rw [hks, List.length_map, h3]); have H4 : Hid (∀ (j : Nat) (r : List (List UInt8)), nss[j]? = some r → ∃ u, w.cell? ⟨h, j, none⟩ = some u ∧ SL w u r) := h4; have HNs : Hid (∀ r ∈ nss, r.length ≤ 30 ∧ ∀ t ∈ r, t.length ≤ 8) := hns; (have HBy : Hid (byN nss = numK ks) := by rw [hks]; rfl); have HKs : Hid (ks = nss.map keyN) := hks; have HKl : Hid (ks.length = N) := hkl; have H3 : Hid (nss.length = N) := h3; obtain ⟨X, hX⟩ : ∃ X, X = (w.alloc (.cells #[.slice (some ⟨g, 0, none⟩) N N, .slice (some ⟨h, 0, none⟩) N N] 84 (0, 0))).alloc (.map #[] 0) := ⟨_, rfl⟩; (have HB0 : Hid (Below w.heap.size w X) := by rw [hX]; exact below_more (below_more (Below.refl _ w) _) _)
  have HM0 : Hid (NuT X (w.heap.size + 1) []) := by
    (have := NuM.nil (kt := 9) (key := fun t => Lit.string t) (Ok := OkT) (w := w.alloc (.cells #[.slice (some ⟨g, 0, none⟩) N N, .slice (some ⟨h, 0, none⟩) N N] 84 (0, 0)))); rw [World.size_alloc] at this; rw [hX]; exact this
  (obtain ⟨q0, q1, -⟩ := blk2 (show X.heap[w.heap.size]? = some (.cells #[.slice (some ⟨g, 0, none⟩) N N, .slice (some ⟨h, 0, none⟩) N N] 84 (0, 0)) by rw [hX]; exact alloc_keep (blk_new _ _) _)); have HXe : Hid ((w.alloc (.cells #[.slice (some ⟨g, 0, none⟩) N N, .slice (some ⟨h, 0, none⟩) N N] 84 (0, 0))).alloc (.map #[] 0) = X) := hX.symm; clear h2 h3 h4 hns hks hX hkl
  go_enter Try.func96, Try.ntmps96
  go_upto_region 3 with fail
  rw [HXe.out]; clear hmm; go_wp2_with fail
  go_loopg [11, 4] N (fun gg cc x wr => ∃ i ad cp, i ≤ N ∧ gg = N - i ∧ cc = .int .i64 (i : Nat) ∧ x = .slice ad (numK (ks.take i)).length cp ∧ Hid (OwnN w.heap.size wr ad cp (numK (ks.take i))) ∧ Hid (NuT wr (w.heap.size + 1) (extK [] (ks.take i))) ∧ Hid (Below w.heap.size w wr))
  case atStart => exact ⟨0, none, 0, by omega, by omega, rfl, rfl, OwnN.nil, HM0, HB0⟩
  case round =>
    obtain ⟨i, ad, cp, hi, hg, rfl, rfl, HOw, HMp, HB⟩ := hrel; have HGk : Hid (gk = N - i) := hg; clear hg; by_cases hlt : i < N
    · have hltI : (i : Int) < (N : Int) := by omega
      have HI : Hid (i < N) := hlt; (obtain ⟨r, hr⟩ : ∃ r, nss[i]? = some r := ⟨_, List.getElem?_eq_getElem (by rw [H3.out]; exact hlt)⟩); (have hk : ks[i]? = some (keyN r) := by rw [HKs.out, List.getElem?_map, hr]; rfl); obtain ⟨hn1, hn2⟩ := take_num hk; have HT1 : Hid (numK (ks.take (i + 1)) = numK (ks.take i) ++ [nuK (extK [] (ks.take i)) (keyN r)]) := hn1; have HT2 : Hid (extK [] (ks.take (i + 1)) = extK (extK [] (ks.take i)) [keyN r]) := hn2; obtain ⟨u, cu, su⟩ := H4.out i r hr; have c1 := (HB.out.cell (lt_of_cell cu)).trans cu
      have HSu : Hid (SL wr u r) := by
        obtain ⟨ad', cap', e', r1, r2, r3⟩ := su; (refine ⟨ad', cap', e', r1, r2, fun hne => ?_⟩); obtain ⟨b9, off9, e9, hc9⟩ := r3 hne; (exact ⟨b9, off9, e9, fun j t hj => (HB.out.cell (lt_of_cell (hc9 j t hj))).trans (hc9 j t hj)⟩)
      obtain ⟨hr30, hr8⟩ := HNs.out r (List.mem_of_getElem? hr); have hk9 := keyN_len r hr8; (have hll : (numK (ks.take i)).length = i := by rw [numK_len, List.length_take, HKl.out]; omega)
      have hel : (extK [] (ks.take i)).length ≤ 1000 := by
        have := extK_len (ks.take i) ([] : List (List UInt8)); rw [List.length_take] at this; simp at this; omega
      (have HJ := joinT_any r (by omega) hr8 u wr HSu.out); (have HNu : Hid (∀ W, NuT W (w.heap.size + 1) (extK [] (ks.take i)) → Calls Try.prog 111 #[.string ⟨(keyN r).toArray⟩, .map (some (w.heap.size + 1))] W fun e w' => e = .returned (.int .i64 (nuK (extK [] (ks.take i)) (keyN r) : Nat)) ∧ NuT w' (w.heap.size + 1) (extK (extK [] (ks.take i)) [keyN r]) ∧ Kept (fun x => x ≠ w.heap.size + 1) W w') := fun W hW => numberT_any _ (by omega) _ _ hel W hW); generalize hLL : numK (ks.take i) = LL at *; generalize nuK (extK [] (ks.take i)) (keyN r) = nn at *; generalize extK [] (ks.take i) = kn at *; have HLn : Hid (LL.length = i) := hll; (have hlnI : (LL.length : Int) ≤ 40 := by omega); obtain ⟨adu, cpu, hu, -⟩ := HSu.out; subst hu; clear hlt hi hr hk hn1 hn2 cu su hr30 hr8 hk9 hel hLL hll; go_wp2_with fail; refine HJ.mono ?_; rintro _ w1 ⟨rfl, hb1⟩; have HO1 : Hid (OwnN w.heap.size w1 ad cp LL) := rowM_up HOw.out hb1; have HM1 : Hid (NuT w1 (w.heap.size + 1) kn) := NuM.same HMp.out (hb1.block _ (NuM.lt HMp.out)); have HB1 : Hid (Below w.heap.size w w1) := HB.out.trans (hb1.mono HB.out.size); clear hb1 HJ; go_wp2_with fail; refine (HNu.out w1 HM1.out).mono ?_; rintro _ w2 ⟨rfl, hm2, hk2⟩; have HO2 : Hid (OwnN w.heap.size w2 ad cp LL) := OwnN.kept HO1.out hk2 (NuM.noCells HM1.out); have HM2 : Hid (NuT w2 (w.heap.size + 1) (extK kn [keyN r])) := hm2; (have HB2 : Hid (Below w.heap.size w w2) := below_kept HB1.out hk2 HB1.out.size (by omega)); clear hm2 hk2; obtain ⟨i0, hi0, hz0, hz1, hz2⟩ := infoI9
      go_wp2_with (first
        | (at_builtin
           have hsz := HB2.out.size; have hown := rowM_up HO2.out ((Below.refl _ w2).alloc (Nat.le_refl _) (.cells #[.int .i64 (nn : Nat)] 3 (0, 0))); (refine wpList_append_lies _ rfl _ _ 45 rfl w.heap.size 3 i0 (.int .i64 0) 1 8 Try.underlying45 hi0 hz0 hz1 hz2 rfl (by decide) (.slice ad LL.length cp) LL.length (LL.map encI) rfl hown ⟨w2.heap.size, 0, none⟩ 1 1 [.int .i64 (nn : Nat)] rfl rfl ?_ ?_ (by omega) (by unfold maxLen; omega) (by omega) (by simp; omega) _ rfl ?_)
           · intro j u hu
             rw [add_none, Nat.zero_add, blk_cell (blk_new w2 _)]; simpa using hu
           · intro u hu
             simp at hu; subst hu; rfl
           intro g3 cp3 w3 hown3 hgrow hat hlt3; have hgrow' : (w2.alloc (.cells #[.int .i64 (nn : Nat)] 3 (0, 0))).grownBy w3 (Value.slice ad LL.length cp).ownBlock := hgrow; have hlt' := World.ownsRow.lt HO2.out; (have HB3 : Hid (Below w.heap.size w w3) := ((HB2.out.alloc hsz _).grown hgrow' (by simp; omega) fun k hk => by have := (hlt' k hk).1; omega))
           have HM3 : Hid (NuT w3 (w.heap.size + 1) (extK kn [keyN r])) := NuM.same HM2.out ((hgrow'.block _ (by have := NuM.lt HM2.out; simp; omega) fun e => by
             rcases HO2.out.2 with ⟨h5, -⟩ | ⟨g5, cap5, cur5, hv5, -, hh5, -⟩
             · rw [h5] at e; cases e
             · rw [hv5] at e
               simp only [Value.ownBlock, Option.some.injEq] at e; rw [← e] at hh5
               exact NuM.noCells HM2.out _ _ _ hh5).trans (Below.heap_alloc _ _ _ (NuM.lt HM2.out)))
           have HOw3 : Hid (w3.ownsRow w.heap.size 3 1 (.slice (some ⟨g3, 0, none⟩) (LL.length + 1) cp3) (LL.length + 1) (LL.map encI ++ [.int .i64 (nn : Nat)])) := hown3
           clear hgrow hgrow' hat hown3 hown hlt' hsz hlt3 hi0 hz0 hz1 hz2)
        | fail)
      (have hl9 : (numK (ks.take (i + 1))).length = LL.length + 1 := by rw [HT1.out]; simp)
      go_roundg (N - (i + 1))
      case measure => have := HGk.out; have := HI.out; omega
      case rel =>
        (refine ⟨i + 1, some ⟨g3, 0, none⟩, cp3, HI.out, rfl, by go_num, by rw [hl9], ?_, by rw [HT2.out]; exact HM3, HB3⟩); show OwnN _ _ _ _ _; unfold OwnN; rw [hl9, HT1.out, List.map_append]; exact HOw3.out
    · have hii : i = N := by omega
      subst hii; (have hge : ¬ (i : Int) < (i : Int) := by omega); (have htk : ks.take i = ks := List.take_of_length_le (by rw [HKl.out]; exact Nat.le_refl _)); rw [htk] at HOw ⊢; (have HLn : Hid ((numK ks).length = i) := by show _ = _; rw [numK_len, HKl.out]); clear hlt hi htk; go_wp2_with fail; go_ret; (exact ⟨ad, cp, by rw [← HLn.out]; rfl, by rw [HBy.out]; exact HOw.out, HB.out⟩)
end Go.Proofs.Ytlmjnglcdgkomah
/- Walks: what a world of a view sees (seen, classesSeen). -/
namespace Go.Proofs.Ytlmjnglcdgkomah
open Go.RowKit

set_option maxRecDepth 10000 in
set_option maxHeartbeats 4000000 in
theorem vseen_any {N : Nat} (hN : N ≤ 40) (R : Nat → Nat → Bool) (nss : List (List (List UInt8))) (u : Nat) (hu : u < N) (v : Value) (w : World) (hv : VwR w N R nss v) :
    Calls Try.prog 100 #[v, .int .i64 (u : Nat)] w fun e w' => ∃ x, e = .returned x ∧ NL w' x (memTo (R u) N) ∧ Below w.heap.size w w' := by
  obtain ⟨g, h, rfl, h2, -⟩ := hv; (have hNI : (N : Int) ≤ 40 := by omega); (have huI : (u : Int) < (N : Int) := by omega); have c9 := h2 u hu; (have HM : Hid (∀ w, Calls Try.prog 75 #[.int .u64 (bm N (R u) : Nat), .int .i64 (N : Nat)] w fun e w' => ∃ x, e = .returned x ∧ NL w' x (memTo (R u) N) ∧ Below w.heap.size w w') := fun w => set_members hN (R u) w); generalize bm N (R u) = s at *; obtain ⟨X, hX⟩ : ∃ X, X = w.alloc (.cells #[.slice (some ⟨g, 0, none⟩) N N, .slice (some ⟨h, 0, none⟩) N N] 84 (0, 0)) := ⟨_, rfl⟩; (have HB0 : Hid (Below w.heap.size w X) := by rw [hX]; exact below_more (Below.refl _ w) _); (obtain ⟨q0, q1, -⟩ := blk2 (show X.heap[w.heap.size]? = some (.cells #[.slice (some ⟨g, 0, none⟩) N N, .slice (some ⟨h, 0, none⟩) N N] 84 (0, 0)) by rw [hX]; exact blk_new _ _)); have q9 : X.cell? ⟨g, u, none⟩ = some (.int .u64 (s : Nat)) := (HB0.out.cell (lt_of_cell c9)).trans c9; have zg : g < X.heap.size := lt_of_cell q9; have zw : w.heap.size < X.heap.size := lt_of_cell q0; have HXe : Hid (w.alloc (.cells #[.slice (some ⟨g, 0, none⟩) N N, .slice (some ⟨h, 0, none⟩) N N] 84 (0, 0)) = X) := hX.symm; clear hX c9 h2 hN
  go_enter Try.func100, Try.ntmps100
  go_upto_region 1 with fail
  rw [HXe.out]
  go_region_held3 (fun w' => w'.cell? ⟨w.heap.size, 0, none⟩ = some (.slice (some ⟨g, 0, none⟩) N N) ∧ w'.cell? ⟨g, u, none⟩ = some (.int .u64 (s : Nat))) (go_keep)
    (first
     | (go_at_call 75
        refine (HM.out _).mono ?_; rintro e w2 ⟨x2, rfl, hx2, hb2⟩; have HX2 : Hid (NL w2 x2 (memTo (R u) N)) := hx2; have HB2 : Hid (Below w.heap.size w w2) := below_join HB0.out.drew hb2; have k0 := (hb2.cell (p := ⟨w.heap.size, 0, none⟩) zw).trans q0; have k1 := (hb2.cell (p := ⟨g, u, none⟩) zg).trans q9
        clear hx2 hb2)
     | fail)
  go_wp2_with fail; go_ret; exact ⟨_, rfl, HX2.out, HB2.out⟩
theorem NL.at {w : World} {v : Value} {l : List Nat} (h : NL w v l) : ∃ ad cap, v = .slice ad l.length cap ∧ l.length ≤ cap ∧ ∀ (j n : Nat), l[j]? = some n → ∃ b, ad = some ⟨b, 0, none⟩ ∧ w.cell? ⟨b, j, none⟩ = some (.int .i64 (n : Nat)) := by
  obtain ⟨ad, cap, e, h1, -, h3⟩ := h; (refine ⟨ad, cap, e, h1, fun j n hj => ?_⟩); (obtain ⟨b, e2, hc⟩ := h3 (fun e => by rw [e] at hj; cases hj)); exact ⟨b, e2, hc j n hj⟩
theorem memTo_lt {P : Nat → Bool} {N n : Nat} (h : n ∈ memTo P N) : n < N := by
  rw [memTo, List.mem_filter, List.mem_range] at h; exact h.1
theorem getD_of {l : List Nat} {i n : Nat} (h : l[i]? = some n) : l.getD i 0 = n := by rw [List.getD_eq_getElem?_getD, h]; rfl
set_option maxRecDepth 10000 in
set_option maxHeartbeats 4000000 in
theorem cseen_any {N : Nat} (hN : N ≤ 40) (R : Nat → Nat → Bool) (nss : List (List (List UInt8))) (u : Nat) (hu : u < N) (cl : List Nat) (hcl : cl.length = N) (hlt : ∀ n ∈ cl, n < N) (v vc : Value) (w : World) (hv : VwR w N R nss v) (hc : NL w vc cl) :
    Calls Try.prog 74 #[v, .int .i64 (u : Nat), vc] w fun e w' => e = .returned (.int .u64 (bm N (seesC N R cl u) : Nat)) ∧ Below w.heap.size w w' := by
  (have HS : Hid (∀ W, Below w.heap.size w W → Calls Try.prog 100 #[v, .int .i64 (u : Nat)] W fun e w' => ∃ x, e = .returned x ∧ NL w' x (memTo (R u) N) ∧ Below W.heap.size W w') := fun W hW => vseen_any hN R nss u hu v W (hv.up hW)); have HN : Hid (N ≤ 40) := hN; have HCl : Hid (cl.length = N) := hcl; have HLt : Hid (∀ n ∈ cl, n < N) := hlt; obtain ⟨g, h, rfl, -⟩ := hv; obtain ⟨ac, cc, rfl, hcc, hca⟩ := hc.at; have HCa : Hid (∀ (j n : Nat), cl[j]? = some n → ∃ b, ac = some ⟨b, 0, none⟩ ∧ w.cell? ⟨b, j, none⟩ = some (.int .i64 (n : Nat))) := hca; (have hclI : (cl.length : Int) = (N : Int) := by omega); (have hccI : (cl.length : Int) ≤ (cc : Int) := by omega)
  have HSc : Hid (bm N (fun c => (memTo (R u) N).any fun v => cl.getD v 0 == c) = bm N (seesC N R cl u)) := by
    show _ = _; (refine bm_ext fun c _ => ?_); rw [seesC, memTo, List.any_filter]
  have HMl : Hid ((memTo (R u) N).length ≤ N) := memTo_len _ _; (have HMt : Hid (∀ n ∈ memTo (R u) N, n < N) := fun n hn => memTo_lt hn); generalize memTo (R u) N = ms at *; obtain ⟨X, hX⟩ : ∃ X, X = w.alloc (.cells #[.slice (some ⟨g, 0, none⟩) N N, .slice (some ⟨h, 0, none⟩) N N] 84 (0, 0)) := ⟨_, rfl⟩; (have HB0 : Hid (Below w.heap.size w X) := by rw [hX]; exact below_more (Below.refl _ w) _); (obtain ⟨q0, q1, -⟩ := blk2 (show X.heap[w.heap.size]? = some (.cells #[.slice (some ⟨g, 0, none⟩) N N, .slice (some ⟨h, 0, none⟩) N N] 84 (0, 0)) by rw [hX]; exact blk_new _ _)); have HXe : Hid (w.alloc (.cells #[.slice (some ⟨g, 0, none⟩) N N, .slice (some ⟨h, 0, none⟩) N N] 84 (0, 0)) = X) := hX.symm; clear hX hca hc hN hlt hcl
  go_enter Try.func74, Try.ntmps74
  go_upto_region 1 with fail
  rw [HXe.out]; go_wp2_with fail; refine (HS.out X HB0.out).mono ?_; rintro _ w1 ⟨x1, rfl, hx1, hb1⟩; have HB1 : Hid (Below w.heap.size w w1) := below_join HB0.out hb1; obtain ⟨am, cm, rfl, hmm, hma⟩ := hx1.at; have HMa : Hid (∀ (j n : Nat), ms[j]? = some n → ∃ b, am = some ⟨b, 0, none⟩ ∧ w1.cell? ⟨b, j, none⟩ = some (.int .i64 (n : Nat))) := hma; (have hmmI : (ms.length : Int) ≤ (cm : Int) := by omega); (have hmlI : (ms.length : Int) ≤ 40 := by have := HMl.out; have := HN.out; omega); clear hb1 hx1 hma q0 q1 hmm; go_wp2_with fail
  go_loopg [14, 7] ms.length (fun gg c s wr => ∃ i x, i ≤ ms.length ∧ gg = ms.length - i ∧ c = .int .i64 (i : Nat) ∧ s = .int .u64 (x : Nat) ∧ Hid (x = bm N fun c => (ms.take i).any fun v => cl.getD v 0 == c) ∧ Hid (Below w1.heap.size w1 wr))
  case atStart => exact ⟨0, 0, by omega, by omega, rfl, rfl, by show _ = _; rw [List.take_zero]; exact (bm_none _).symm, Below.refl _ _⟩
  case round =>
    obtain ⟨i, x, hi, hg, rfl, rfl, HX, HB⟩ := hrel; have HGk : Hid (gk = ms.length - i) := hg; clear hg; by_cases hlt : i < ms.length
    · obtain ⟨m, hm⟩ : ∃ m, ms[i]? = some m := ⟨_, List.getElem?_eq_getElem hlt⟩
      have hmN := HMt.out m (List.mem_of_getElem? hm); (obtain ⟨n, hn⟩ : ∃ n, cl[m]? = some n := ⟨_, List.getElem?_eq_getElem (by rw [HCl.out]; exact hmN)⟩); have hnN := HLt.out n (List.mem_of_getElem? hn); obtain ⟨b, rfl, hc1⟩ := HMa.out i m hm; obtain ⟨b2, rfl, hc2⟩ := HCa.out m n hn; have g0 := (HB.out.cell (lt_of_cell hc1)).trans hc1; have g1 := ((HB1.out.trans (HB.out.mono HB1.out.size)).cell (lt_of_cell hc2)).trans hc2; (have hltI : (i : Int) < (ms.length : Int) := by omega); (have hltc : (i : Int) < (cm : Int) := by omega); (have hmI : (m : Int) < (cl.length : Int) := by omega); (have hmc : (m : Int) < (cc : Int) := by omega); have HI : Hid (i < ms.length) := hlt; (obtain ⟨y, hy⟩ : ∃ y, y = bm N fun c => ((ms.take i).any fun v => cl.getD v 0 == c) || c == n := ⟨_, rfl⟩)
      have HY : Hid (y = bm N fun c => (ms.take (i + 1)).any fun v => cl.getD v 0 == c) := by
        show _ = _; rw [hy]; (refine bm_ext fun c _ => ?_); rw [List.take_add_one, hm, List.any_append, Option.toList_some]
        congr 1
        simp only [List.any_cons, List.any_nil, Bool.or_false, getD_of hn]; rw [Bool.eq_iff_iff, beq_iff_eq, beq_iff_eq]; exact eq_comm
      have HW : Hid (∀ (b : Nat) (W : World), W.cell? ⟨b, 0, none⟩ = some (.int .i64 (n : Nat)) → Calls Try.prog 68 #[.int .u64 (x : Nat), .slice (some ⟨b, 0, none⟩) 1 1] W fun e w' => e = .returned (.int .u64 (y : Nat)) ∧ w' = W) := fun b W hcW => by
        rw [HX.out, hy]; exact set_with1 HN.out _ n b hnN W hcW
      (have k9 := fun (o : Obj) => (HB.out.cell (lt_of_cell hc1))); clear hlt hi hm hn hc1 hc2 hy k9 hnN hmN; go_wp2_with fail; (refine (HW.out _ _ (by simp)).mono ?_); rintro _ w9 ⟨rfl, rfl⟩; go_wp2_with fail
      go_roundg (ms.length - (i + 1))
      case measure => have := HGk.out; have := HI.out; omega
      case rel => exact ⟨i + 1, y, HI.out, rfl, by go_num, rfl, HY, below_more HB.out _⟩
    · have hii : i = ms.length := by omega
      subst hii; (have hge : ¬ (ms.length : Int) < (ms.length : Int) := by omega); rw [List.take_length, HSc.out] at HX; clear hlt hi; go_wp2_with fail; go_ret; (exact ⟨congrArg (fun x : Nat => Ending.returned (Value.int .u64 (x : Int))) HX.out, below_join HB1.out HB.out⟩)
end Go.Proofs.Ytlmjnglcdgkomah
/- Walks: worlds parted by what they see (parted). -/
namespace Go.Proofs.Ytlmjnglcdgkomah
open Go.RowKit Go.Maps Go.WideMaps

set_option maxRecDepth 10000 in
set_option maxHeartbeats 8000000 in
theorem parted_any {N : Nat} (hN : N ≤ 40) (R : Nat → Nat → Bool) (nss : List (List (List UInt8))) (cl : List Nat) (hcl : cl.length = N) (hlt : ∀ n ∈ cl, n < N) (v vc : Value) (w : World) (hv : VwR w N R nss v) (hc : NL w vc cl) :
    Calls Try.prog 97 #[v, vc] w fun e w' => ∃ ad cp, e = .returned (.slice ad N cp) ∧ OwnN w.heap.size w' ad cp (partK N R cl) ∧ Below w.heap.size w w' := by
  (have hNI : (N : Int) ≤ 40 := by omega); have hmm := @run_makeMap Try.prog; (have HC : Hid (∀ u W, u < N → Below w.heap.size w W → Calls Try.prog 74 #[v, .int .i64 (u : Nat), vc] W fun e w' => e = .returned (.int .u64 (bm N (seesC N R cl u) : Nat)) ∧ Below W.heap.size W w') := fun u W hu hW => cseen_any hN R nss u hu cl hcl hlt v vc W (hv.up hW) (hc.up hW))
  have HSm : Hid (∀ u, u < N → OkS2 (sightK N N R cl u)) := fun u hu => ⟨by
    show cl.getD u 0 < _; (rw [List.getD_eq_getElem?_getD, List.getElem?_eq_getElem (by omega)]); (have := hlt _ (List.getElem_mem (l := cl) (n := u) (by omega))); simp only [Option.getD_some]
    omega, bm_small hN _⟩
  obtain ⟨g, h, rfl, h2, -⟩ := hv; obtain ⟨ac, cc, rfl, hcc, hca⟩ := hc.at; have HCa : Hid (∀ (j n : Nat), cl[j]? = some n → ∃ b, ac = some ⟨b, 0, none⟩ ∧ w.cell? ⟨b, j, none⟩ = some (.int .i64 (n : Nat))) := hca; rw [hcl] at HC ⊢; (have hccI : (N : Int) ≤ (cc : Int) := by omega); obtain ⟨ks, hks⟩ : ∃ ks, ks = (List.range N).map (sightK N N R cl) := ⟨_, rfl⟩; (have hkl : ks.length = N := by rw [hks, List.length_map, List.length_range]); (have HBy : Hid (partK N R cl = numK ks) := by rw [hks]; rfl); (have HKg : Hid (∀ u, u < N → ks[u]? = some (sightK N N R cl u)) := fun u hu => by rw [hks, List.getElem?_map, range_get hu]; rfl); have HKl : Hid (ks.length = N) := hkl; have HCl : Hid (cl.length = N) := hcl; obtain ⟨X, hX⟩ : ∃ X, X = (w.alloc (.cells #[.slice (some ⟨g, 0, none⟩) N N, .slice (some ⟨h, 0, none⟩) N N] 84 (0, 0))).alloc (.map #[] 0) := ⟨_, rfl⟩; (have HB0 : Hid (Below w.heap.size w X) := by rw [hX]; exact below_more (below_more (Below.refl _ w) _) _)
  have HM0 : Hid (NuS X (w.heap.size + 1) []) := by
    have := NuM.nil (kt := 165) (key := sightKey) (Ok := OkS2) (w := w.alloc (.cells #[.slice (some ⟨g, 0, none⟩) N N, .slice (some ⟨h, 0, none⟩) N N] 84 (0, 0))); rw [World.size_alloc] at this; rw [hX]; exact this
  (have HV : Hid (X.heap[w.heap.size]? = some (.cells #[.slice (some ⟨g, 0, none⟩) N N, .slice (some ⟨h, 0, none⟩) N N] 84 (0, 0))) := by rw [hX]; exact alloc_keep (blk_new _ _) _); have HXe : Hid ((w.alloc (.cells #[.slice (some ⟨g, 0, none⟩) N N, .slice (some ⟨h, 0, none⟩) N N] 84 (0, 0))).alloc (.map #[] 0) = X) := hX.symm; clear h2 hX hkl hks hca hc hlt hcl hN
  go_enter Try.func97, Try.ntmps97
  go_upto_region 3 with fail
  rw [HXe.out]; clear hmm; go_wp2_with fail
  go_loopg [12, 6, 7, 8] N (fun gg cc x y z wr => ∃ i ad cp, i ≤ N ∧ gg = N - i ∧ cc = .int .i64 (i : Nat) ∧ x = .slice ad (numK (ks.take i)).length cp ∧ Hid (OwnN w.heap.size wr ad cp (numK (ks.take i))) ∧ Hid (NuS wr (w.heap.size + 1) (extK [] (ks.take i))) ∧ Hid (wr.heap[w.heap.size]? = some (.cells #[.slice (some ⟨g, 0, none⟩) N N, .slice (some ⟨h, 0, none⟩) N N] 84 (0, 0))) ∧ Hid (Below w.heap.size w wr))
  case atStart => exact ⟨0, none, 0, by omega, by omega, rfl, rfl, OwnN.nil, HM0, HV, HB0⟩
  case round =>
    obtain ⟨i, ad, cp, hi, hg, rfl, rfl, HOw, HMp, HVr, HB⟩ := hrel; have HGk : Hid (gk = N - i) := hg; clear hg; by_cases hlt : i < N
    · have hltI : (i : Int) < (N : Int) := by omega
      have HI : Hid (i < N) := hlt; (obtain ⟨n, hn⟩ : ∃ n, cl[i]? = some n := ⟨_, List.getElem?_eq_getElem (by rw [HCl.out]; exact hlt)⟩); have hk := HKg.out i hlt; have hok := HSm.out i hlt; (have hsg : sightK N N R cl i = (n, bm N (seesC N R cl i)) := by rw [sightK, getD_of hn]); rw [hsg] at hk hok; have HC1 := HC.out i wr hlt HB.out; obtain ⟨b, rfl, hcb⟩ := HCa.out i n hn; have c1 := (HB.out.cell (lt_of_cell hcb)).trans hcb; (have hic : (i : Int) < (cc : Int) := by omega); obtain ⟨q0, q1, -⟩ := blk2 HVr.out; obtain ⟨hn1, hn2⟩ := take_num hk; generalize bm N (seesC N R cl i) = ss at *; obtain ⟨sg, hsge⟩ : ∃ sg, sg = (n, ss) := ⟨_, rfl⟩; rw [← hsge] at hn1 hn2 hok; have HT1 : Hid (numK (ks.take (i + 1)) = numK (ks.take i) ++ [nuK (extK [] (ks.take i)) sg]) := hn1; have HT2 : Hid (extK [] (ks.take (i + 1)) = extK (extK [] (ks.take i)) [sg]) := hn2; (have hll : (numK (ks.take i)).length = i := by rw [numK_len, List.length_take, HKl.out]; omega)
      have hel : (extK [] (ks.take i)).length ≤ 1000 := by
        have := extK_len (ks.take i) ([] : List (Nat × Nat)); rw [List.length_take] at this; simp at this; omega
      have HNu : Hid (∀ W, NuS W (w.heap.size + 1) (extK [] (ks.take i)) → Calls Try.prog 113 #[.agg #[.int .i64 (n : Nat), .int .u64 (ss : Nat)], .map (some (w.heap.size + 1))] W fun e w' => e = .returned (.int .i64 (nuK (extK [] (ks.take i)) sg : Nat)) ∧ NuS w' (w.heap.size + 1) (extK (extK [] (ks.take i)) [sg]) ∧ Kept (fun x => x ≠ w.heap.size + 1) W w') := fun W hW => by
        have := numberS_any sg hok (w.heap.size + 1) _ hel W hW; rw [hsge] at this ⊢; exact this
      generalize hLL : numK (ks.take i) = LL at *; generalize nuK (extK [] (ks.take i)) sg = nn at *; generalize extK [] (ks.take i) = kn at *; have HLn : Hid (LL.length = i) := hll; (have hlnI : (LL.length : Int) ≤ 40 := by omega); clear hlt hi hk hn hn1 hn2 hcb hel hLL hll hsg hsge hok; go_wp2_with fail; refine HC1.mono ?_; rintro _ w1 ⟨rfl, hb1⟩; have HO1 : Hid (OwnN w.heap.size w1 ad cp LL) := rowM_up HOw.out hb1; have HM1 : Hid (NuS w1 (w.heap.size + 1) kn) := NuM.same HMp.out (hb1.block _ (NuM.lt HMp.out)); have HV1 : Hid (w1.heap[w.heap.size]? = some (.cells #[.slice (some ⟨g, 0, none⟩) N N, .slice (some ⟨h, 0, none⟩) N N] 84 (0, 0))) := below_keep hb1 HVr.out; have HB1 : Hid (Below w.heap.size w w1) := HB.out.trans (hb1.mono HB.out.size); clear hb1 HC1 q0 q1 c1; go_wp2_with fail; refine (HNu.out w1 HM1.out).mono ?_; rintro _ w2 ⟨rfl, hm2, hk2⟩; have HO2 : Hid (OwnN w.heap.size w2 ad cp LL) := OwnN.kept HO1.out hk2 (NuM.noCells HM1.out); have HM2 : Hid (NuS w2 (w.heap.size + 1) (extK kn [sg])) := hm2; (have HB2 : Hid (Below w.heap.size w w2) := below_kept HB1.out hk2 HB1.out.size (by omega)); (have HV2 : Hid (w2.heap[w.heap.size]? = some (.cells #[.slice (some ⟨g, 0, none⟩) N N, .slice (some ⟨h, 0, none⟩) N N] 84 (0, 0))) := (hk2.block _ (lt_of_block HV1.out) (by omega)).trans HV1.out); clear hm2 hk2; obtain ⟨i0, hi0, hz0, hz1, hz2⟩ := infoI9
      go_wp2_with (first
        | (at_builtin
           have hsz := HB2.out.size; have hown := rowM_up HO2.out ((Below.refl _ w2).alloc (Nat.le_refl _) (.cells #[.int .i64 (nn : Nat)] 3 (0, 0))); (refine wpList_append_lies _ rfl _ _ 45 rfl w.heap.size 3 i0 (.int .i64 0) 1 8 Try.underlying45 hi0 hz0 hz1 hz2 rfl (by decide) (.slice ad LL.length cp) LL.length (LL.map encI) rfl hown ⟨w2.heap.size, 0, none⟩ 1 1 [.int .i64 (nn : Nat)] rfl rfl ?_ ?_ (by omega) (by unfold maxLen; omega) (by omega) (by simp; omega) _ rfl ?_)
           · intro j u hu
             rw [add_none, Nat.zero_add, blk_cell (blk_new w2 _)]; simpa using hu
           · intro u hu
             simp at hu; subst hu; rfl
           intro g3 cp3 w3 hown3 hgrow hat hlt3; have hgrow' : (w2.alloc (.cells #[.int .i64 (nn : Nat)] 3 (0, 0))).grownBy w3 (Value.slice ad LL.length cp).ownBlock := hgrow; have hlt' := World.ownsRow.lt HO2.out; (have HB3 : Hid (Below w.heap.size w w3) := ((HB2.out.alloc hsz _).grown hgrow' (by simp; omega) fun k hk => by have := (hlt' k hk).1; omega))
           have HM3 : Hid (NuS w3 (w.heap.size + 1) (extK kn [sg])) := NuM.same HM2.out ((hgrow'.block _ (by have := NuM.lt HM2.out; simp; omega) fun e => by
             rcases HO2.out.2 with ⟨h5, -⟩ | ⟨g5, cap5, cur5, hv5, -, hh5, -⟩
             · rw [h5] at e; cases e
             · rw [hv5] at e
               simp only [Value.ownBlock, Option.some.injEq] at e; rw [← e] at hh5
               exact NuM.noCells HM2.out _ _ _ hh5).trans (Below.heap_alloc _ _ _ (NuM.lt HM2.out)))
           have HV3 : Hid (w3.heap[w.heap.size]? = some (.cells #[.slice (some ⟨g, 0, none⟩) N N, .slice (some ⟨h, 0, none⟩) N N] 84 (0, 0))) := (hgrow'.block _ (by have := lt_of_block HV2.out; simp; omega) fun e => by
             rcases HO2.out.2 with ⟨h5, -⟩ | ⟨g5, cap5, cur5, hv5, -, hh5, -⟩
             · rw [h5] at e; cases e
             · rw [hv5] at e
               simp only [Value.ownBlock, Option.some.injEq] at e; rw [← e, HV2.out] at hh5
               simp at hh5).trans (alloc_keep HV2.out _)
           have HOw3 : Hid (w3.ownsRow w.heap.size 3 1 (.slice (some ⟨g3, 0, none⟩) (LL.length + 1) cp3) (LL.length + 1) (LL.map encI ++ [.int .i64 (nn : Nat)])) := hown3
           clear hgrow hgrow' hat hown3 hown hlt' hsz hlt3 hi0 hz0 hz1 hz2)
        | fail)
      (have hl9 : (numK (ks.take (i + 1))).length = LL.length + 1 := by rw [HT1.out]; simp)
      go_roundg (N - (i + 1))
      case measure => have := HGk.out; have := HI.out; omega
      case rel =>
        (refine ⟨i + 1, some ⟨g3, 0, none⟩, cp3, HI.out, rfl, by go_num, by rw [hl9], ?_, by rw [HT2.out]; exact HM3, HV3, HB3⟩); show OwnN _ _ _ _ _; unfold OwnN; rw [hl9, HT1.out, List.map_append]; exact HOw3.out
    · have hii : i = N := by omega
      subst hii; (have hge : ¬ (i : Int) < (i : Int) := by omega); (have htk : ks.take i = ks := List.take_of_length_le (by rw [HKl.out]; exact Nat.le_refl _)); rw [htk] at HOw ⊢; (have HLn : Hid ((numK ks).length = i) := by show _ = _; rw [numK_len, HKl.out]); clear hlt hi htk; go_wp2_with fail; go_ret; (exact ⟨ad, cp, by rw [← HLn.out]; rfl, by rw [HBy.out]; exact HOw.out, HB.out⟩)
end Go.Proofs.Ytlmjnglcdgkomah
