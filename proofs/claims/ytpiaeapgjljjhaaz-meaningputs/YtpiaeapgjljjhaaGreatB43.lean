/- Texts of one proof, one behind the other: MP3. -/
import Derived.Test.YtpiaeapgjljjhaaGreatB41
/- Plain: what Value says of an expression with a word put. -/
namespace Go.Proofs.YtpiaeapgjljjhaaGreat
open Go.RowKit Go.Sort Go.Maps Go.WideMaps

mutual
theorem mxB_px {nm : ByteArray} {y : Wd} {cg tk : List (List UInt8)} : ∀ (x : Ex) (bs : List BT) (k : Nat) (bd bd' : Bd), bd.length = bd'.length → mxB (prE bd (pxF nm y cg tk x bs k).1) = mxB (prE bd' x)
  | .mk kd n ws ks, bs, k, bd, bd', h => by
    rw [pxF]
    split
    · rename_i hq
      generalize bnF nm cg tk k (.mk kd n ws ks) n = p at *
      dsimp only
      rw [prE, prE, mxB, mxB]
      have h2 : (bdIn bd kd p.1).length = (bdIn bd' kd n).length := by
        unfold bdIn; rw [if_pos hq, if_pos hq, List.length_append, List.length_append, h]; rfl
      rw [mxBs_px ks _ _ _ _ h2]; (exact congrArg (fun z => max z _) h)
    · rename_i hq
      dsimp only
      rw [prE, prE, mxB, mxB]
      have h2 : (bdIn bd kd n).length = (bdIn bd' kd n).length := by
        unfold bdIn; rw [if_neg hq, if_neg hq, h]
      rw [mxBs_px ks _ _ _ _ h2]; (exact congrArg (fun z => max z _) h)
theorem mxBs_px {nm : ByteArray} {y : Wd} {cg tk : List (List UInt8)} : ∀ (l : List Ex) (bs : List BT) (k : Nat) (bd bd' : Bd), bd.length = bd'.length → mxB (prEs bd (pxFs nm y cg tk l bs k).1) = mxB (prEs bd' l)
  | [], bs, k, bd, bd', h => by rw [pxFs, prEs, prEs]
  | x :: l, bs, k, bd, bd', h => by
    rw [pxFs]
    dsimp only
    rw [prEs, prEs, mxB_app, mxB_app, mxB_px x _ _ _ _ h, mxBs_px l _ _ _ _ h]
end
theorem nestN_px {nm : ByteArray} {y : Wd} {cg tk : List (List UInt8)} (x : Ex) (bs : List BT) (k : Nat) : nestN (pxF nm y cg tk x bs k).1 = nestN x := mxB_px x bs k [] [] rfl
theorem puWs_len (h : ByteArray → Option Wd) : ∀ l, (puWs h l).length = l.length
  | [] => by rw [puWs]
  | x :: l => by rw [puWs, List.length_cons, puWs_len h l, List.length_cons]
/-- Binds of words whose big names are in a list. -/
def BgIn (h : ByteArray → Option Wd) (L : List BgN) : Prop := ∀ n z, h n = some z → ∀ b ∈ bgWl (prW z), b ∈ L
mutual
theorem bgW_pu {h : ByteArray → Option Wd} {L : List BgN} (hL : BgIn h L) : ∀ x : Wd, ∀ b ∈ bgWl (prW (puW h x)), b ∈ bgWl (prW x) ∨ b ∈ L
  | .mk n ar, b, hb => by
    rw [puW] at hb
    cases e : h n with
    | some z =>
      rw [e] at hb
      exact Or.inr (hL n z e b hb)
    | none =>
      rw [e] at hb; simp only [prW, bgWl, List.mem_append, puWs_len] at hb ⊢
      rcases hb with hb | hb
      · exact Or.inl (Or.inl hb)
      · exact (bgWs_pu hL ar b hb).imp Or.inr id
theorem bgWs_pu {h : ByteArray → Option Wd} {L : List BgN} (hL : BgIn h L) : ∀ l : List Wd, ∀ b ∈ bgWl (prWs (puWs h l)), b ∈ bgWl (prWs l) ∨ b ∈ L
  | [], b, hb => by rw [puWs] at hb; exact Or.inl hb
  | x :: l, b, hb => by
    rw [puWs, prWs, bgWl_app, List.mem_append] at hb; rw [prWs, bgWl_app, List.mem_append]
    rcases hb with hb | hb
    · exact (bgW_pu hL x b hb).imp Or.inl id
    · exact (bgWs_pu hL l b hb).imp Or.inr id
end
theorem BgIn.app {bs : List BT} {y : Wd} {L : List BgN} (h : BgIn (lastB bs (gY y)) L) (n p : ByteArray) (hp : isBg p.data.toList = false) : BgIn (lastB (bs ++ [(n, p, .slice none 0 0)]) (gY y)) L := fun m z e b hb => by
  rw [lastB_app] at e
  split at e
  · rw [gY_new] at e
    obtain rfl := Option.some.inj e; (rw [prW, prWs, bgWl, if_neg (by rw [hp]; decide)] at hb); (exact absurd hb (by simp [bgWl]))
  · exact h m z e b hb
theorem bnF_noBg {nm : ByteArray} {cg tk : List (List UInt8)} {k : Nat} {x : Ex} {n : ByteArray} (hn : isNm n.data.toList = true) : isBg (bnF nm cg tk k x n).1.data.toList = false := by
  unfold bnF
  split
  · exact nthS_noBg _
  · exact nm_noBg hn
mutual
theorem bgE_px {nm : ByteArray} {y : Wd} {cg tk : List (List UInt8)} {L : List BgN} : ∀ (x : Ex) (bs : List BT) (k : Nat) (bd bd' : Bd), ENm x → BgIn (lastB bs (gY y)) L → ∀ b ∈ bgEl (prE bd (pxF nm y cg tk x bs k).1), b ∈ bgEl (prE bd' x) ∨ b ∈ L
  | .mk kd n ws ks, bs, k, bd, bd', hx, hL, b, hb => by
    rw [ENm] at hx
    have hw : ∀ n2, (quanB kd = false → n2 = n) → b ∈ bgE (.mk kd n2 (puWs (lastB bs (gY y)) ws) []) → b ∈ bgE (.mk kd n ws []) ∨ b ∈ L := fun n2 h2 h => by
      rw [bgE, List.mem_append] at h; rw [bgE, List.mem_append]
      rcases h with h | h
      · split at h
        · rename_i h1
          (rw [h2 (by rw [h1]; rfl), puWs_len] at h); rw [if_pos h1]; exact Or.inl (Or.inl h)
        · exact absurd h (by simp)
      · exact (bgWs_pu hL ws b h).imp Or.inr id
    rw [pxF] at hb
    split at hb
    · rename_i hq
      have hbn := bnF_noBg (nm := nm) (cg := cg) (tk := tk) (k := k) (x := .mk kd n ws ks) (hx.2.1 hq); generalize bnF nm cg tk k (.mk kd n ws ks) n = p at *
      dsimp only at hb
      rw [prE, bgEl, List.mem_append] at hb; rw [prE, bgEl, List.mem_append]
      rcases hb with hb | hb
      · exact (hw p.1 (fun e => by rw [hq] at e; cases e) hb).imp Or.inl id
      · exact (bgEs_px ks _ _ _ _ hx.2.2 (hL.app n p.1 hbn) b hb).imp Or.inr id
    · rename_i hq
      dsimp only at hb
      rw [prE, bgEl, List.mem_append] at hb; rw [prE, bgEl, List.mem_append]
      rcases hb with hb | hb
      · exact (hw n (fun _ => rfl) hb).imp Or.inl id
      · exact (bgEs_px ks _ _ _ _ hx.2.2 hL b hb).imp Or.inr id
theorem bgEs_px {nm : ByteArray} {y : Wd} {cg tk : List (List UInt8)} {L : List BgN} : ∀ (l : List Ex) (bs : List BT) (k : Nat) (bd bd' : Bd), ENms l → BgIn (lastB bs (gY y)) L → ∀ b ∈ bgEl (prEs bd (pxFs nm y cg tk l bs k).1), b ∈ bgEl (prEs bd' l) ∨ b ∈ L
  | [], bs, k, bd, bd', _, _, b, hb => by rw [pxFs, prEs] at hb; exact Or.inl (by rw [prEs]; exact hb)
  | x :: l, bs, k, bd, bd', hx, hL, b, hb => by
    rw [ENms] at hx; rw [pxFs] at hb
    dsimp only at hb
    rw [prEs, bgEl_app, List.mem_append] at hb; rw [prEs, bgEl_app, List.mem_append]
    rcases hb with hb | hb
    · exact (bgE_px x _ _ _ _ hx.1 hL b hb).imp Or.inl id
    · exact (bgEs_px l _ _ _ _ hx.2 hL b hb).imp Or.inr id
end
theorem lastB_one {t0 : BT} {g : BT → Wd} {n : ByteArray} {z : Wd} (h : lastB [t0] g n = some z) : z = g t0 := by
  obtain ⟨t, ht, -, h2⟩ := lastB_mem h; rw [← h2, List.mem_singleton.1 ht]
theorem fvs_mem {x : Ex} {t : List UInt8} : t ∈ fvs x ↔ isNm t = true ∧ FrE t x := by
  unfold fvs; rw [compact_mem, show (t ∈ srt (fre (prE [] x)) ↔ t ∈ fre (prE [] x)) from List.mem_mergeSort, frE_fre]
  simp
theorem vaAt_one {names : List (List UInt8)} {vals : List Int} (hl : names.length = vals.length) (t : List UInt8) (d : Int) : vaAt ((names ++ [t]).zip (vals ++ [d])) = vput (vaAt (names.zip vals)) t d.toNat := by
  rw [List.zip_append hl]; exact vaAt_snoc _ _
theorem code_if {a b : Int × Int} {p : Prop} [Decidable p] (h : (if p then a else b).1 = 0) (ha : p → a.1 ≠ 0) : ¬ p ∧ b.1 = 0 := by
  split at h
  · exact absurd h (ha (by assumption))
  · exact ⟨by assumption, h⟩
theorem vlcode_zero {s : StD} {x : Ex} {names : List (List UInt8)} {vals : List Int} (h : (vlcode s x names vals).1 = 0) : (stcode s).1 = 0 ∧ (ecode x).1 = 0 ∧ (vfcode s.n.toNat names vals).1 = 0 ∧ vlHas s x (names.zip vals) = true ∧ vlMuch s x = false := by
  unfold vlcode at h; (obtain ⟨h1, h⟩ := code_if h fun e => e); (obtain ⟨h2, h⟩ := code_if h fun e => e); (obtain ⟨h3, h⟩ := code_if h fun e => e); (obtain ⟨h4, h⟩ := code_if h fun _ => by decide); (obtain ⟨h5, h⟩ := code_if h fun _ => by decide); (refine ⟨by simpa using h1, by simpa using h2, by simpa using h3, by simpa using h4, by simpa using h5⟩)
theorem vlcode_ok {s : StD} {x : Ex} {names : List (List UInt8)} {vals : List Int} (h1 : (stcode s).1 = 0) (h2 : (ecode x).1 = 0) (h3 : (vfcode s.n.toNat names vals).1 = 0) (h4 : vlHas s x (names.zip vals) = true) (h5 : vlMuch s x = false) : vlcode s x names vals = (0, 0) := by
  unfold vlcode; (rw [if_neg (by simpa using h1), if_neg (by simpa using h2), if_neg (by simpa using h3), if_neg (by rw [h4]; decide), if_neg (by rw [h5]; decide)])
/-- The substitution lemma: Value of an expression with a word put. -/
theorem put_value {s : StD} {x : Ex} {nm : ByteArray} {y : Wd} {t0 : BT} {names : List (List UInt8)} {vals : List Int} {d : Int} (h0 : t0.1 = nm) (hg : gY y t0 = y) (hnm : isNm nm.data.toList = true) (hy : WNm y) (hpx : (ecode (putX nm y t0 x)).1 = 0)
    (hyb : ∀ b ∈ bgWl (prW y), okN (vwOf s) b = true) (hyv : ∀ t, isNm t = true → FrW t y → (vaAt (names.zip vals) t).isSome = true) (hd : d = ((wv (vwOf s) (vz (vaAt (names.zip vals))) y : Nat) : Int)) (hvf : (vfcode s.n.toNat names vals).1 = 0)
    (h : (vlcode s x (names ++ [nm.data.toList]) (vals ++ [d])).1 = 0) :
    vlcode s (putX nm y t0 x) names vals = (0, 0) ∧ vlB s (putX nm y t0 x) names vals = vlB s x (names ++ [nm.data.toList]) (vals ++ [d]) := by
  obtain ⟨h1, h2, h3, h4, h5⟩ := vlcode_zero h; obtain ⟨-, hl, -, -⟩ := vf_ok hvf; obtain ⟨s1, p1, f1, hc, -, -⟩ := ecode_ok h2; have hx := echk_names x _ _ _ _ _ _ hc; obtain ⟨-, -, -, -, -, -, hbg⟩ := st_ok h1
  have hz : vlcode s (putX nm y t0 x) names vals = (0, 0) := by
    refine vlcode_ok h1 hpx hvf ?_ ?_
    · unfold vlHas at h4 ⊢
      simp only [Bool.and_eq_true, List.all_eq_true] at h4 ⊢; (refine ⟨fun b hb => ?_, fun t ht => ?_⟩)
      · rcases bgE_px (L := bgWl (prW y)) x [t0] 0 [] [] hx (fun n z e b hb => by rw [lastB_one e, hg] at hb; exact hb) b hb with h6 | h6
        · exact h4.1 b h6
        · exact hyb b h6
      · obtain ⟨g1, g2⟩ := fvs_mem.1 ht
        rcases fr_put x t0 h0 hg g2 with ⟨g3, g4⟩ | ⟨-, g3⟩
        · have := h4.2 t (fvs_mem.2 ⟨g1, g3⟩)
          rw [vaAt_one hl] at this; unfold vput at this; rw [if_neg g4] at this; exact this
        · exact hyv t g1 g3
    · unfold vlMuch at h5 ⊢
      unfold putX; rw [nestN_px]; exact h5
  refine ⟨hz, ?_⟩; unfold vlB; rw [hz, if_pos rfl, if_pos h]; unfold putX; rw [ev_put hbg hnm hy x hx t0 h0 hg]
  congr 1
  rw [vaAt_one hl, hd]
  funext t
  unfold vset vz vput; by_cases e : t = nm.data.toList
  · rw [if_pos e, if_pos e]
    simp
  · rw [if_neg e, if_neg e]
end Go.Proofs.YtpiaeapgjljjhaaGreat
