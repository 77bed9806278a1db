/- Texts of one proof, one behind the other: Tr9, Tr10, Tr11, TY5. -/
import Derived.Test.YtlmjnglcdgkomaaB22
/- Walks: Valid, of what can be gone through. -/
namespace Go.Proofs.Ytlmjnglcdgkomaa
open Go.RowKit Go.Sort

theorem colL_len (f : Fm) (l : List (List UInt8)) : (colL f l).length = 2 ^ l.length := by simp [colL]

set_option maxHeartbeats 2000000 in
theorem valid_yes (f : Fm) (h : f.ncode.1 = 0) (v : Value) (w : World) (hrep : Rep w (fun _ => True) f v) :
    Calls Try.prog 36 #[v] w fun e w' => ∃ x, e = .returned (.tuple #[.bool (decide (false ∉ colL f (nmsU f))), x, .agg #[.int .i64 0, .int .i64 0]]) ∧ TL w' x (if false ∈ colL f (nmsU f) then rowN ((colL f (nmsU f)).idxOf false) (nmsU f) 0 else []) ∧ Below w.heap.size w w' := by
  (have hck := fun v (w : World) h' => np_yes f h v w h'); (have hco := fun v u (w : World) h1 h2 => column_own f h v u w h1 h2); obtain ⟨-, h6, -⟩ := ncode_ok h; have hcl := colL_len f (nmsU f)
  have hc64 : (colL f (nmsU f)).length ≤ 64 := by
    rw [hcl]; exact (shl_row _ h6).2.2
  generalize nmsU f = U at *; generalize colL f U = C at *; (have hix := fun v (w : World) h => index_bool C (by omega) false v w h); (have htr := fun (r : Nat) (hr : r ≤ 64) u (w : World) hu => trueIn_any r (by omega) U (by omega) u w hu); obtain ⟨k, n, ks⟩ := f; obtain ⟨sl, cap, rfl⟩ := slice_shape hrep; have HC : Hid (∀ v w, _ → Calls Try.prog 73 #[v] w _) := hck; (have HD : Hid (∀ v u w, Rep w (fun _ => True) (.mk k n ks) v → TL w u U → Calls Try.prog 74 #[v, u] w _) := hco); clear hck hco h hcl; by_cases hm : false ∈ C
  · have hj : fIdx C false = ((C.idxOf false : Nat) : Int) := if_pos hm
    (have hjl : C.idxOf false ≤ 64 := by have := List.idxOf_le_length (a := false) (l := C); omega); rw [hj] at hix; (have HT : Hid (∀ u w, SL w u U → Calls Try.prog 76 #[.int .i64 ((C.idxOf false : Nat)), u] w _) := fun u w hu => htr (C.idxOf false) hjl u w hu); (rw [if_pos hm, decide_eq_false (fun h => h hm)]); generalize C.idxOf false = r at *; generalize rowN r U 0 = R at *; have HI : Hid (∀ v w, BL w v C → Calls Try.prog 75 #[v, .bool false] w _) := hix; (have hrI : (r : Int) ≤ 64 := by omega); clear hix htr hm hj
    go_enter Try.func36, Try.ntmps36
    go_wp2_with (first
      | (go_at_call 73
         refine (HC.out _ _ ((hrep.more _).more _)).mono ?_; rintro e w1 ⟨x, rfl, htl, hb1⟩; have HTL : Hid (TL w1 x U) := htl; obtain ⟨adU, cpU, rfl, -⟩ := htl; have z1 := hb1.size; simp at z1; have q0 := below_keep hb1 (alloc_keep (blk_new w _) _); have q1 := below_keep hb1 (blk_new (w.alloc _) _); (rw [show (w.alloc _).heap.size = w.heap.size + 1 by simp] at q1); have B1 := below_join (below_more (below_more (Below.refl _ w) _) _) hb1; obtain ⟨a0, a1, a2, -⟩ := blk3 q0; have y0 : w.heap.size < w1.heap.size := lt_of_block q0
         have y1 : w.heap.size + 1 < w1.heap.size := lt_of_block q1)
      | (go_at_call 74
         refine (HD.out _ _ _ ((hrep.up B1).more _) (HTL.out.up ((Below.refl _ _).alloc (Nat.le_refl _) _))).mono ?_; rintro e w2 ⟨x, rfl, hbl, hb2⟩; have HBL : Hid (BL w2 x C) := hbl; obtain ⟨adC, cpC, rfl, -⟩ := hbl; have r1 := below_keep hb2 (alloc_keep q1 _); have B2 := below_join (below_more B1 _) hb2; have HT2 : Hid (TL w2 (.slice adU U.length cpU) U) := (HTL.out.up ((Below.refl _ _).alloc (Nat.le_refl _) _)).up hb2
         have l1 := lt_of_block r1)
      | (go_at_call 75
         refine (HI.out _ _ HBL.out).mono ?_; rintro e w3 ⟨rfl, hw3⟩; have hw4 := hw3.symm
         subst hw4)
      | (go_at_call 76
         refine (HT.out _ _ HT2.out.sl).mono ?_; rintro e w3 ⟨x, rfl, htl, hb3⟩; have HTR : Hid (TL w3 x R) := htl; obtain ⟨adR, cpR, rfl, -⟩ := htl; have s1 := below_keep hb3 r1; have B3 := below_join B2 hb3
         obtain ⟨k1, k2, k3, k4⟩ := blk2 s1)
      | fail)
    have f2 := set2 s1 (.int .i64 0) (.int .i64 0); (have b2 := (B3.setCell (p := ⟨w.heap.size + 1, 0, none⟩) (by simp) (.int .i64 0)).setCell (p := ⟨w.heap.size + 1, 1, none⟩) (by simp) (.int .i64 0)); have TF := HTR.out.set2 s1 (.int .i64 0) (.int .i64 0); generalize World.setCell _ _ _ = F at f2 b2 TF ⊢; clear k1 k2 k3 k4; obtain ⟨k1, k2, -⟩ := blk2 f2; (exact bodyPost_ret (v := .tuple #[.bool false, .slice adR R.length cpR, .agg #[.int .i64 0, .int .i64 0]]) (by simp [results, Try.results36, go_sem, k1, k2]) rfl ⟨_, rfl, TF, b2⟩)
  · have hj : fIdx C false = -1 := if_neg hm
    rw [hj] at hix; rw [if_neg hm, decide_eq_true hm]; have HI : Hid (∀ v w, BL w v C → Calls Try.prog 75 #[v, .bool false] w _) := hix; clear hix htr hm hj
    go_enter Try.func36, Try.ntmps36
    go_wp2_with (first
      | (go_at_call 73
         refine (HC.out _ _ ((hrep.more _).more _)).mono ?_; rintro e w1 ⟨x, rfl, htl, hb1⟩; have HTL : Hid (TL w1 x U) := htl; obtain ⟨adU, cpU, rfl, -⟩ := htl; have z1 := hb1.size; simp at z1; have q0 := below_keep hb1 (alloc_keep (blk_new w _) _); have q1 := below_keep hb1 (blk_new (w.alloc _) _); (rw [show (w.alloc _).heap.size = w.heap.size + 1 by simp] at q1); have B1 := below_join (below_more (below_more (Below.refl _ w) _) _) hb1; obtain ⟨a0, a1, a2, -⟩ := blk3 q0; have y0 : w.heap.size < w1.heap.size := lt_of_block q0
         have y1 : w.heap.size + 1 < w1.heap.size := lt_of_block q1)
      | (go_at_call 74
         refine (HD.out _ _ _ ((hrep.up B1).more _) (HTL.out.up ((Below.refl _ _).alloc (Nat.le_refl _) _))).mono ?_; rintro e w2 ⟨x, rfl, hbl, hb2⟩; have HBL : Hid (BL w2 x C) := hbl; obtain ⟨adC, cpC, rfl, -⟩ := hbl; have r1 := below_keep hb2 (alloc_keep q1 _); have B2 := below_join (below_more B1 _) hb2
         have l1 := lt_of_block r1)
      | (go_at_call 75
         refine (HI.out _ _ HBL.out).mono ?_; rintro e w3 ⟨rfl, hw3⟩; have hw4 := hw3.symm; subst hw4
         obtain ⟨k1, k2, k3, k4⟩ := blk2 r1)
      | fail)
    have f2 := set2 r1 (.int .i64 0) (.int .i64 0); (have b2 := (B2.setCell (p := ⟨w.heap.size + 1, 0, none⟩) (by simp) (.int .i64 0)).setCell (p := ⟨w.heap.size + 1, 1, none⟩) (by simp) (.int .i64 0)); generalize World.setCell _ _ _ = F at f2 b2 ⊢; clear k1 k2 k3 k4; obtain ⟨k1, k2, -⟩ := blk2 f2; (exact bodyPost_ret (v := .tuple #[.bool true, .slice none 0 0, .agg #[.int .i64 0, .int .i64 0]]) (by simp [results, Try.results36, go_sem, k1, k2]) rfl ⟨_, rfl, TL.nil, b2⟩)
end Go.Proofs.Ytlmjnglcdgkomaa
/- Walks: isNoName, IndexFunc over texts, Value. -/
namespace Go.Proofs.Ytlmjnglcdgkomaa
open Go.RowKit Go.Sort

theorem code_name (s : ByteArray) : (Fm.mk 1 s []).code = if isNm s.data.toList then (0, 0) else (8, 0) := by
  by_cases h : isNm s.data.toList = true
  · rw [if_pos h]
    (have := chk_fine (.mk 1 s []) 0 (by have := fine_name (l := s.data.toList) h; exact this) (by rw [size_leaf]; omega)); simp only [Fm.code, this]
  · rw [if_neg h]
    have hn : nodeF 1 s 0 = some 8 := by
      (have h1 : kindB 1 = true := by decide); (have h2 : kidsN 1 = 0 := by decide); (have h3 : nameB 1 s = true := by simp [nameB, h]); simp [nodeF, h1, h2, h3]
    have : chk (.mk 1 s []) 0 = .bad 8 0 := by
      rw [chk]; simp [hn]
    simp only [Fm.code, this]; rfl

theorem fault_code (a b : Int) (w : World) : (Instr.field 29 (.agg #[.int .i64 a, .int .i64 b]) 0).run Try.prog w = .ok (.int .i64 a) w := by kernel_rfl

set_option maxHeartbeats 1000000 in
theorem isNoName_any (s : ByteArray) (hs : s.size ≤ maxLen) (w : World) :
    Calls Try.prog 69 #[.string s] w fun e w' => e = .returned (.bool (!isNm s.data.toList)) ∧ Below w.heap.size w w' := by
  (have hck := fun v (w : World) h => check_any (.mk 1 s []) v w h); have hcn := code_name s; have HC : Hid (∀ v w, _ → Calls Try.prog 12 #[v] w _) := hck; (have HL : Hid (∀ w, Rep w (fun _ => True) (.mk 1 s []) (.agg #[.int .i64 1, .string s, .slice none 0 0])) := fun w => Rep.leaf hs); (have hfc := fun a b w => fault_code a b w); clear hck hs
  rcases hb : isNm s.data.toList with _ | _
  · have hcn' : (Fm.mk 1 s []).code = (8, 0) := by rw [hcn, hb]; rfl
    rw [hcn'] at HC; clear hcn'; clear hcn hb
    go_enter Try.func69, Try.ntmps69
    go_wp2_with (first
      | (go_at_call 12
         refine (HC.out _ _ (HL.out _)).mono ?_
         rintro e w1 ⟨rfl, hb1⟩)
      | fail)
    go_ret; exact ⟨rfl, hb1⟩
  · have hcn' : (Fm.mk 1 s []).code = (0, 0) := by rw [hcn, hb]; rfl
    rw [hcn'] at HC; clear hcn'; clear hcn hb
    go_enter Try.func69, Try.ntmps69
    go_wp2_with (first
      | (go_at_call 12
         refine (HC.out _ _ (HL.out _)).mono ?_
         rintro e w1 ⟨rfl, hb1⟩)
      | fail)
    go_ret; exact ⟨rfl, hb1⟩

/-- What is asked of texts, whatever they are. -/
structure PredS (fn : Nat) (cap : Array Value) (p : List UInt8 → Bool) (Ok : World → Prop) : Prop where
  up : ∀ {w w' : World}, Ok w → Below w.heap.size w w' → Ok w'
  ent : ∀ (v : Value) (w : World), (callFunc fn (#[v] ++ cap)).run Try.prog w = .ok (.enter fn (#[v] ++ cap)) w
  call : ∀ (t : List UInt8) (w : World), Ok w → t.length ≤ maxLen → Calls Try.prog fn (#[.string ⟨t.toArray⟩] ++ cap) w fun e w' => e = .returned (.bool (p t)) ∧ Below w.heap.size w w'

/-- Where it is so first, or -1. -/
def fIdxP (p : List UInt8 → Bool) (l : List (List UInt8)) : Int := if l.any p then (l.findIdx p : Nat) else -1

theorem findIdx_at {p : List UInt8 → Bool} {l : List (List UInt8)} {i : Nat} {t : List UInt8} (h : (l.take i).any p = false) (ht : l[i]? = some t) (hp : p t = true) : l.findIdx p = i := by
  have hi : i < l.length := by
    rcases Nat.lt_or_ge i l.length with h' | h'
    · exact h'
    · rw [List.getElem?_eq_none h'] at ht; cases ht
  rw [List.getElem?_eq_getElem hi] at ht; have e := Option.some.inj ht; rw [List.findIdx_eq hi]; (refine ⟨by rw [e]; exact hp, fun j hj => ?_⟩); (have := (List.any_eq_false.1 h) (l[j]'(by omega)) (List.mem_take_iff_getElem.2 ⟨j, by omega, rfl⟩)); simpa using this

set_option maxHeartbeats 2000000 in
theorem idxFunc_str {fn : Nat} {cp : Array Value} {p : List UInt8 → Bool} {Ok : World → Prop} (A : PredS fn cp p Ok) (l : List (List UInt8)) (hmx : ∀ t ∈ l, t.length ≤ maxLen) (v : Value) (w : World) (hv : SL w v l) (hok : Ok w) :
    Calls Try.prog 68 #[v, .func (.func fn) #[] cp] w fun e w' => e = .returned (.int .i64 (fIdxP p l)) ∧ Below w.heap.size w w' := by
  obtain ⟨ad, cap, rfl, h1, h2, h3⟩ := hv; (have hlI : (l.length : Int) ≤ 9223372036854775807 := by unfold maxLen at h2; omega); have H3 : Hid (l ≠ [] → ∃ g off, ad = some ⟨g, off, none⟩ ∧ ∀ (j : Nat) (t : List UInt8), l[j]? = some t → w.cell? ⟨g, off + j, none⟩ = some (.string ⟨t.toArray⟩)) := h3; (have HA : Hid (∀ (t : List UInt8) (w : World), Ok w → t.length ≤ maxLen → Calls Try.prog fn (#[.string ⟨t.toArray⟩] ++ cp) w fun e w' => e = .returned (.bool (p t)) ∧ Below w.heap.size w w') := A.call); have HU : Hid (∀ {w w' : World}, Ok w → Below w.heap.size w w' → Ok w') := A.up; have HMx : Hid (∀ t ∈ l, t.length ≤ maxLen) := hmx; have HO : Hid (Ok w) := hok; have hcf := A.ent; clear h3 hmx hok A
  go_enter Try.func68, Try.ntmps68
  go_wp2_with fail
  go_loopg [8] l.length (fun g c wr => ∃ i, i ≤ l.length ∧ g = l.length - i ∧ c = .int .i64 (i : Nat) ∧ Below w.heap.size w wr ∧ Hid ((l.take i).any p = false))
  case atStart => exact ⟨0, by omega, by omega, rfl, Below.refl _ _, by show _ = _; rfl⟩
  case round =>
    obtain ⟨i, hi, hg, rfl, hbr, HN⟩ := hrel; have HG : Hid (gk = l.length - i) := hg; clear hg; by_cases hlt : i < l.length
    · obtain ⟨t, ht⟩ : ∃ x, l[i]? = some x := ⟨_, List.getElem?_eq_getElem hlt⟩
      (obtain ⟨g, off, rfl, hc⟩ := H3.out (fun e => by rw [e] at hlt; simp at hlt)); have g0 := (hbr.cell (p := ⟨g, off + i, none⟩) (lt_of_cell (hc i t ht))).trans (hc i t ht); (have hltI : (i : Int) < (l.length : Int) := by omega); (have hlc : (i : Int) < (cap : Int) := by omega); have hcc := HA.out t wr (HU.out HO.out hbr) (HMx.out t (List.mem_of_getElem? ht))
      have HXi : Hid (p t = true → fIdxP p l = ((i : Nat) : Int)) := fun hp => by
        unfold fIdxP; rw [if_pos (List.any_eq_true.2 ⟨t, List.mem_of_getElem? ht, hp⟩), findIdx_at HN.out ht hp]
      have HXn : Hid (p t = false → (l.take (i + 1)).any p = false) := fun hp => by
        rw [List.take_add_one, ht, List.any_append, HN.out]; simp [hp]
      generalize p t = bb at *; have HCC : Hid (Calls Try.prog fn _ wr _) := hcc; generalize (⟨t.toArray⟩ : ByteArray) = T at *; clear hc ht H3 hcc; go_wp2_with fail; refine HCC.out.mono ?_; rintro e w1 ⟨rfl, hb1⟩; have B1 := below_join hbr hb1
      cases bb
      · have HX := HXn.out (by first | rfl | trivial)
        have HX' : Hid ((l.take (i + 1)).any p = false) := HX; clear HX HXn HXi; go_wp2_with fail
        go_roundg (l.length - (i + 1))
        case measure => have := HG.out; omega
        case rel => exact ⟨i + 1, by omega, rfl, by go_num, B1, HX'⟩
      · have HX := HXi.out (by first | rfl | trivial)
        have HX' : Hid (fIdxP p l = ((i : Nat) : Int)) := HX; clear HX HXn HXi; go_wp2_with fail; go_ret; (exact ⟨by rw [HX'.out]; rfl, B1⟩)
    · have HT : Hid (fIdxP p l = -1) := by
        have := HN.out; (rw [List.take_of_length_le (by omega)] at this); show _ = _; unfold fIdxP; rw [this]; rfl
      (have hge : ¬ (i : Int) < (l.length : Int) := by omega); clear H3 HN; go_wp2_with fail; go_ret; (exact ⟨by rw [HT.out]; rfl, hbr⟩)

theorem noName_in (cap : Array Value) (w : World) : (callFunc 69 cap).run Try.prog w = .ok (.enter 69 cap) w := by
  simp [go_sem]
theorem predNoName : PredS 69 #[] (fun t => !isNm t) (fun _ => True) where
  up := fun _ _ => trivial
  ent := fun _ w => noName_in _ w
  call := fun t w _ h => isNoName_any ⟨t.toArray⟩ (by simpa [ByteArray.size] using h) w
end Go.Proofs.Ytlmjnglcdgkomaa
/- Walks: Value. -/
namespace Go.Proofs.Ytlmjnglcdgkomaa
open Go.RowKit Go.Sort

/-- What Value says of its arguments. -/
def vcode (f : Fm) (l : List (List UInt8)) : Int × Int := if f.pcode.1 = 0 then (if 1000 < l.length then (2, 0) else if l.any (fun t => !isNm t) then (8, ((l.findIdx (fun t => !isNm t) : Nat) : Int)) else (0, 0)) else f.pcode

set_option maxHeartbeats 2000000 in
theorem value_bad (f : Fm) (l : List (List UInt8)) (v u : Value) (w : World) (hrep : Rep w (fun _ => True) f v) (hu : SL w u l) (c a : Int) (hc : c ≠ 0) (hcf : f.pcode = (c, a)) :
    Calls Try.prog 34 #[v, u] w fun e w' => e = .returned (.tuple #[.bool false, .agg #[.int .i64 c, .int .i64 a]]) ∧ Below w.heap.size w w' := by
  (have hck := fun v (w : World) h => plainFault_any f v w h); rw [hcf] at hck; (have hne' : (c != 0) = true := by simpa using hc); obtain ⟨k, n, ks⟩ := f; obtain ⟨sl, cap, rfl⟩ := slice_shape hrep; have HC : Hid (∀ v w, _ → Calls Try.prog 67 #[v] w _) := hck; have HU : Hid (SL w u l) := hu; obtain ⟨adL, cpL, rfl, hl1, hl2, -⟩ := hu; clear hck hcf
  go_enter Try.func34, Try.ntmps34
  go_wp2_with (first
    | (go_at_call 67
       refine (HC.out _ _ ((hrep.more _).more _)).mono ?_; rintro e w1 ⟨rfl, hb1⟩; have z1 := hb1.size; simp at z1; have q0 := below_keep hb1 (alloc_keep (blk_new w _) _); have q1 := below_keep hb1 (blk_new (w.alloc _) _); (rw [show (w.alloc _).heap.size = w.heap.size + 1 by simp] at q1); have B1 := below_join (below_more (below_more (Below.refl _ w) _) _) hb1; obtain ⟨k1, k2, k3, k4⟩ := blk2 q1; obtain ⟨a0, a1, a2, -⟩ := blk3 q0; have y0 : w.heap.size < w1.heap.size := lt_of_block q0; (have d1 : ¬ w.heap.size + 1 = w1.heap.size := by omega); (have d2 : ¬ w1.heap.size = w.heap.size + 1 := by omega)
       have d3 : w.heap.size + 1 < w1.heap.size := by omega)
    | fail)
  go_region
  all_goals go_wp2
  have f2 := set2 q1 (.int .i64 c) (.int .i64 a); (have b2 := (B1.setCell (p := ⟨w.heap.size + 1, 0, none⟩) (by simp) (.int .i64 c)).setCell (p := ⟨w.heap.size + 1, 1, none⟩) (by simp) (.int .i64 a)); (have hsz : ((w1.setCell ⟨w.heap.size + 1, 0, none⟩ (.int .i64 c)).setCell ⟨w.heap.size + 1, 1, none⟩ (.int .i64 a)).heap.size = w1.heap.size := by simp [World.setCell]); generalize World.setCell _ _ _ = F at f2 b2 hsz ⊢; clear k1 k2 k3 k4; obtain ⟨k1, k2, -⟩ := blk2 f2; (have d4 : w.heap.size + 1 < F.heap.size := by omega); (exact bodyPost_ret (v := .tuple #[.bool false, .agg #[.int .i64 c, .int .i64 a]]) (by simp [results, Try.results34, go_sem, k1, k2, d4]) rfl ⟨rfl, (b2.alloc (by omega) _).drew⟩)

set_option maxHeartbeats 2000000 in
theorem value_many (f : Fm) (l : List (List UInt8)) (v u : Value) (w : World) (hrep : Rep w (fun _ => True) f v) (hu : SL w u l) (hcf : f.pcode = (0, 0)) (hl : 1000 < l.length) :
    Calls Try.prog 34 #[v, u] w fun e w' => e = .returned (.tuple #[.bool false, .agg #[.int .i64 2, .int .i64 0]]) ∧ Below w.heap.size w w' := by
  (have hck := fun v (w : World) h => plainFault_any f v w h); rw [hcf] at hck; (have hlI : (1000 : Int) < (l.length : Int) := by omega); obtain ⟨k, n, ks⟩ := f; obtain ⟨sl, cap, rfl⟩ := slice_shape hrep; have HC : Hid (∀ v w, _ → Calls Try.prog 67 #[v] w _) := hck; have HU : Hid (SL w u l) := hu; obtain ⟨adL, cpL, rfl, hl1, hl2, -⟩ := hu; clear hck hcf
  go_enter Try.func34, Try.ntmps34
  go_wp2_with (first
    | (go_at_call 67
       refine (HC.out _ _ ((hrep.more _).more _)).mono ?_; rintro e w1 ⟨rfl, hb1⟩; have z1 := hb1.size; simp at z1; have q0 := below_keep hb1 (alloc_keep (blk_new w _) _); have q1 := below_keep hb1 (blk_new (w.alloc _) _); (rw [show (w.alloc _).heap.size = w.heap.size + 1 by simp] at q1); have B1 := below_join (below_more (below_more (Below.refl _ w) _) _) hb1; obtain ⟨k1, k2, k3, k4⟩ := blk2 q1; obtain ⟨a0, a1, a2, -⟩ := blk3 q0; have y0 : w.heap.size < w1.heap.size := lt_of_block q0; (have d1 : ¬ w.heap.size + 1 = w1.heap.size := by omega); (have d2 : ¬ w1.heap.size = w.heap.size + 1 := by omega)
       have d3 : w.heap.size + 1 < w1.heap.size := by omega)
    | fail)
  have f2 := set2 q1 (.int .i64 2) (.int .i64 0); (have b2 := (B1.setCell (p := ⟨w.heap.size + 1, 0, none⟩) (by simp) (.int .i64 2)).setCell (p := ⟨w.heap.size + 1, 1, none⟩) (by simp) (.int .i64 0)); (have hsz : ((w1.setCell ⟨w.heap.size + 1, 0, none⟩ (.int .i64 2)).setCell ⟨w.heap.size + 1, 1, none⟩ (.int .i64 0)).heap.size = w1.heap.size := by simp [World.setCell]); generalize World.setCell _ _ _ = F at f2 b2 hsz ⊢; clear k1 k2 k3 k4; obtain ⟨k1, k2, -⟩ := blk2 f2; (have d4 : w.heap.size + 1 < F.heap.size := by omega); (exact bodyPost_ret (v := .tuple #[.bool false, .agg #[.int .i64 2, .int .i64 0]]) (by simp [results, Try.results34, go_sem, k1, k2, d4]) rfl ⟨rfl, b2.alloc (by omega) _⟩)

set_option maxHeartbeats 2000000 in
theorem value_name (f : Fm) (l : List (List UInt8)) (v u : Value) (w : World) (hrep : Rep w (fun _ => True) f v) (hu : SL w u l) (hcf : f.pcode = (0, 0)) (hl : l.length ≤ 1000) (hmx : ∀ t ∈ l, t.length ≤ maxLen) (i : Nat) (hi : fIdxP (fun t => !isNm t) l = ((i : Nat) : Int)) :
    Calls Try.prog 34 #[v, u] w fun e w' => e = .returned (.tuple #[.bool false, .agg #[.int .i64 8, .int .i64 (i : Nat)]]) ∧ Below w.heap.size w w' := by
  (have hck := fun v (w : World) h => plainFault_any f v w h); rw [hcf] at hck; (have hix := fun v (w : World) h => idxFunc_str predNoName l hmx v w h trivial); rw [hi] at hix; have HI : Hid (∀ v w, SL w v l → Calls Try.prog 68 #[v, .func (.func 69) #[] #[]] w _) := hix; (have hlI : (l.length : Int) ≤ 1000 := by omega); clear hix hi; obtain ⟨k, n, ks⟩ := f; obtain ⟨sl, cap, rfl⟩ := slice_shape hrep; have HC : Hid (∀ v w, _ → Calls Try.prog 67 #[v] w _) := hck; have HU : Hid (SL w u l) := hu; obtain ⟨adL, cpL, rfl, hl1, hl2, -⟩ := hu; clear hck hcf
  go_enter Try.func34, Try.ntmps34
  go_wp2_with (first
    | (go_at_call 67
       refine (HC.out _ _ ((hrep.more _).more _)).mono ?_; rintro e w1 ⟨rfl, hb1⟩; have z1 := hb1.size; simp at z1; have q0 := below_keep hb1 (alloc_keep (blk_new w _) _); have q1 := below_keep hb1 (blk_new (w.alloc _) _); (rw [show (w.alloc _).heap.size = w.heap.size + 1 by simp] at q1); have B1 := below_join (below_more (below_more (Below.refl _ w) _) _) hb1; obtain ⟨k1, k2, k3, k4⟩ := blk2 q1; obtain ⟨a0, a1, a2, -⟩ := blk3 q0; have y0 : w.heap.size < w1.heap.size := lt_of_block q0; (have d1 : ¬ w.heap.size + 1 = w1.heap.size := by omega); (have d2 : ¬ w1.heap.size = w.heap.size + 1 := by omega)
       have d3 : w.heap.size + 1 < w1.heap.size := by omega)
    | (go_at_call 68
       refine (HI.out _ _ ((HU.out.up B1).up ((Below.refl _ _).alloc (Nat.le_refl _) _))).mono ?_; rintro e w2 ⟨rfl, hb2⟩; have r1 := below_keep hb2 (alloc_keep q1 _); have r0 := below_keep hb2 (alloc_keep q0 _); have B2 := below_join (below_more B1 _) hb2; have l1 := lt_of_block r1; have l0 := lt_of_block r0; clear k1 k2 k3 k4 a0 a1 a2; obtain ⟨a0, a1, a2, -⟩ := blk3 r0
       obtain ⟨k1, k2, k3, k4⟩ := blk2 r1)
    | fail)
  have f2 := set2 r1 (.int .i64 8) (.int .i64 (i : Nat)); (have b2 := (B2.setCell (p := ⟨w.heap.size + 1, 0, none⟩) (by simp) (.int .i64 8)).setCell (p := ⟨w.heap.size + 1, 1, none⟩) (by simp) (.int .i64 (i : Nat))); (have hsz : ((w2.setCell ⟨w.heap.size + 1, 0, none⟩ (.int .i64 8)).setCell ⟨w.heap.size + 1, 1, none⟩ (.int .i64 (i : Nat))).heap.size = w2.heap.size := by simp [World.setCell]); generalize World.setCell _ _ _ = F at f2 b2 hsz ⊢; clear k1 k2 k3 k4; obtain ⟨k1, k2, -⟩ := blk2 f2; (exact bodyPost_ret (v := .tuple #[.bool false, .agg #[.int .i64 8, .int .i64 (i : Nat)]]) (by simp [results, Try.results34, go_sem, k1, k2]) rfl ⟨rfl, b2⟩)

set_option maxHeartbeats 2000000 in
theorem value_yes (f : Fm) (l : List (List UInt8)) (v u : Value) (w : World) (hrep : Rep w (fun _ => True) f v) (hu : SL w u l) (hcf : f.pcode = (0, 0)) (hl : l.length ≤ 1000) (hmx : ∀ t ∈ l, t.length ≤ maxLen) (hi : l.any (fun t => !isNm t) = false) :
    Calls Try.prog 34 #[v, u] w fun e w' => e = .returned (.tuple #[.bool (tv (fun t => decide (t ∈ l)) f), .agg #[.int .i64 0, .int .i64 0]]) ∧ Below w.heap.size w w' := by
  (have hck := fun v (w : World) h => plainFault_any f v w h); rw [hcf] at hck; (have hix := fun v (w : World) h => idxFunc_str predNoName l hmx v w h trivial); (have hi1 : fIdxP (fun t => !isNm t) l = -1 := by unfold fIdxP; rw [hi]; rfl); rw [hi1] at hix
  have hsm : ∀ t ∈ l, t.length ≤ 8 := fun t ht => by
    have := List.any_eq_false.1 hi t ht; (have := isNm_bd (l := t) (by simpa using this)); omega
  (obtain ⟨⟨s, hs⟩, hpl, -⟩ := pcode_ok (f := f) (by rw [hcf])); (have htr := fun cb v (w : World) h o => isTrue_any (asksV cb l) f v w (fine_of_chk f 0 s hs) hpl h o); (generalize tv (fun t => decide (t ∈ l)) f = bb at *); have HI : Hid (∀ v w, SL w v l → Calls Try.prog 68 #[v, .func (.func 69) #[] #[]] w _) := hix; (have HPl : Hid (∀ v w, SL w v l → Calls Try.prog 70 #[v] w _) := fun v w h => placesOf_any l hl hsm v w h); (have HTr : Hid (∀ cb v w, Rep w (fun _ => True) f v → OkV cb l w → Calls Try.prog 72 _ w _) := htr); (have hmf : ∀ (fn : Fn) (first cap : Array Value) (w : World), (Instr.makeFunc fn first cap).run Try.prog w = .ok (.func fn first cap) w := fun _ _ _ _ => rfl); (have hlI : (l.length : Int) ≤ 1000 := by omega); clear hix hi hi1 htr hsm hs; obtain ⟨k, n, ks⟩ := f; obtain ⟨sl, cap, rfl⟩ := slice_shape hrep; have HC : Hid (∀ v w, _ → Calls Try.prog 67 #[v] w _) := hck; have HU : Hid (SL w u l) := hu; obtain ⟨adL, cpL, rfl, hl1, hl2, -⟩ := hu; clear hck hcf
  go_enter Try.func34, Try.ntmps34
  go_wp2_with (first
    | (go_at_call 67
       refine (HC.out _ _ ((hrep.more _).more _)).mono ?_; rintro e w1 ⟨rfl, hb1⟩; have z1 := hb1.size; simp at z1; have q0 := below_keep hb1 (alloc_keep (blk_new w _) _); have q1 := below_keep hb1 (blk_new (w.alloc _) _); (rw [show (w.alloc _).heap.size = w.heap.size + 1 by simp] at q1); have B1 := below_join (below_more (below_more (Below.refl _ w) _) _) hb1; obtain ⟨k1, k2, k3, k4⟩ := blk2 q1; obtain ⟨a0, a1, a2, -⟩ := blk3 q0; have y0 : w.heap.size < w1.heap.size := lt_of_block q0; (have d1 : ¬ w.heap.size + 1 = w1.heap.size := by omega); (have d2 : ¬ w1.heap.size = w.heap.size + 1 := by omega)
       have d3 : w.heap.size + 1 < w1.heap.size := by omega)
    | (go_at_call 68
       refine (HI.out _ _ ((HU.out.up B1).up ((Below.refl _ _).alloc (Nat.le_refl _) _))).mono ?_; rintro e w2 ⟨rfl, hb2⟩; have r1 := below_keep hb2 (alloc_keep q1 _); have r0 := below_keep hb2 (alloc_keep q0 _); have B2 := below_join (below_more B1 _) hb2; have l1 := lt_of_block r1; have l0 := lt_of_block r0; clear k1 k2 k3 k4 a0 a1 a2; obtain ⟨a0, a1, a2, -⟩ := blk3 r0
       obtain ⟨k1, k2, k3, k4⟩ := blk2 r1)
    | (go_at_call 70
       refine (HPl.out _ _ (HU.out.up B2)).mono ?_; rintro e w3 ⟨rfl, hpm, hb3⟩; have HPM : Hid (PM w3 w2.heap.size l) := hpm; have s1 := below_keep hb3 r1; have s0 := below_keep hb3 r0; have B3 := below_join B2 hb3; have m1 := lt_of_block s1; have m0 := lt_of_block s0; clear k1 k2 k3 k4 a0 a1 a2 hpm; obtain ⟨a0, a1, a2, -⟩ := blk3 s0
       obtain ⟨k1, k2, k3, k4⟩ := blk2 s1)
    | (go_at_call 72
       refine (HTr.out w3.heap.size _ _ (hrep.up (below_more B3 _)) ⟨w2.heap.size, blk_new _ _, HPM.out.up ((Below.refl _ _).alloc (Nat.le_refl _) _)⟩).mono ?_; rintro e w4 ⟨rfl, hb4⟩; have t1 := below_keep hb4 (alloc_keep s1 _); have B4 := below_join (below_more B3 _) hb4; have n1 := lt_of_block t1; clear k1 k2 k3 k4 a0 a1 a2
       obtain ⟨k1, k2, k3, k4⟩ := blk2 t1)
    | fail)
  have f2 := set2 t1 (.int .i64 0) (.int .i64 0); (have b2 := (B4.setCell (p := ⟨w.heap.size + 1, 0, none⟩) (by simp) (.int .i64 0)).setCell (p := ⟨w.heap.size + 1, 1, none⟩) (by simp) (.int .i64 0)); (have hsz : ((w4.setCell ⟨w.heap.size + 1, 0, none⟩ (.int .i64 0)).setCell ⟨w.heap.size + 1, 1, none⟩ (.int .i64 0)).heap.size = w4.heap.size := by simp [World.setCell]); generalize World.setCell _ _ _ = F at f2 b2 hsz ⊢; clear k1 k2 k3 k4; obtain ⟨k1, k2, -⟩ := blk2 f2; (exact bodyPost_ret (v := .tuple #[.bool bb, .agg #[.int .i64 0, .int .i64 0]]) (by simp [results, Try.results34, go_sem, k1, k2]) rfl ⟨rfl, b2⟩)

theorem value_any (f : Fm) (l : List (List UInt8)) (hmx : ∀ t ∈ l, t.length ≤ maxLen) (v u : Value) (w : World) (hrep : Rep w (fun _ => True) f v) (hu : SL w u l) :
    Calls Try.prog 34 #[v, u] w fun e w' => e = .returned (.tuple #[.bool (decide ((vcode f l).1 = 0) && tv (fun t => decide (t ∈ l)) f), .agg #[.int .i64 (vcode f l).1, .int .i64 (vcode f l).2]]) ∧ Below w.heap.size w w' := by
  unfold vcode; by_cases hp : f.pcode.1 = 0
  · have hp' := (pcode_ok hp).2.2
    rw [if_pos hp]; by_cases hl : 1000 < l.length
    · rw [if_pos hl]
      exact value_many f l v u w hrep hu hp' hl
    · rw [if_neg hl]
      rcases hi : l.any (fun t => !isNm t) with _ | _
      · simp only [Bool.false_eq_true, if_false]
        (exact value_yes f l v u w hrep hu hp' (by omega) hmx hi)
      · simp only [if_true]
        (exact value_name f l v u w hrep hu hp' (by omega) hmx _ (if_pos hi))
  · rw [if_neg hp]
    have := value_bad f l v u w hrep hu f.pcode.1 f.pcode.2 hp rfl; rw [decide_eq_false hp]; exact this
end Go.Proofs.Ytlmjnglcdgkomaa
/- Walks: bits; Rows and Valid in one. -/
namespace Go.Proofs.Ytlmjnglcdgkomaa
open Go.RowKit Go.Sort

set_option maxHeartbeats 1000000 in
theorem bits_same (l : List Bool) (v u : Value) (w : World) (h : BL w v l) (h' : BL w u l) :
    Calls Try.prog 40 #[v, u] w fun e w' => e = .returned (.bool true) ∧ Below w.heap.size w w' := by
  obtain ⟨ad, cap, rfl, h1, h2, h3⟩ := h; obtain ⟨ad', cap', rfl, h1', h2', h3'⟩ := h'; (have hlI : (l.length : Int) ≤ 9223372036854775807 := by unfold maxLen at h2; omega); have H3 : Hid (l ≠ [] → ∃ g off, ad = some ⟨g, off, none⟩ ∧ ∀ (j : Nat) (b : Bool), l[j]? = some b → w.cell? ⟨g, off + j, none⟩ = some (.bool b)) := h3; have H3' : Hid (l ≠ [] → ∃ g off, ad' = some ⟨g, off, none⟩ ∧ ∀ (j : Nat) (b : Bool), l[j]? = some b → w.cell? ⟨g, off + j, none⟩ = some (.bool b)) := h3'; clear h3 h3'
  go_enter Try.func40, Try.ntmps40
  go_wp2_with fail
  go_loopg [5] l.length (fun g c wr => ∃ i, i ≤ l.length ∧ g = l.length - i ∧ c = .int .i64 (i : Nat) ∧ Below w.heap.size w wr)
  case atStart => exact ⟨0, by omega, by omega, rfl, Below.refl _ _⟩
  case round =>
    obtain ⟨i, hi, hg, rfl, hbr⟩ := hrel; have HG : Hid (gk = l.length - i) := hg; clear hg; by_cases hlt : i < l.length
    · obtain ⟨x, hx⟩ : ∃ x, l[i]? = some x := ⟨_, List.getElem?_eq_getElem hlt⟩
      (obtain ⟨g, off, rfl, hc⟩ := H3.out (fun e => by rw [e] at hlt; simp at hlt)); (obtain ⟨g', off', rfl, hc'⟩ := H3'.out (fun e => by rw [e] at hlt; simp at hlt)); have g0 := (hbr.cell (p := ⟨g, off + i, none⟩) (lt_of_cell (hc i x hx))).trans (hc i x hx); have g1 := (hbr.cell (p := ⟨g', off' + i, none⟩) (lt_of_cell (hc' i x hx))).trans (hc' i x hx); (have hltI : (i : Int) < (l.length : Int) := by omega); (have hlc : (i : Int) < (cap : Int) := by omega); (have hlc' : (i : Int) < (cap' : Int) := by omega); clear hc hc' hx H3 H3'; go_wp2_with fail
      go_quiet (fail)
      go_wp2_with fail
      go_roundg (l.length - (i + 1))
      case measure => have := HG.out; omega
      case rel => exact ⟨i + 1, by omega, rfl, by go_num, ⟨hbr.os, hbr.tape, hbr.output, hbr.size, hbr.block⟩⟩
    · have hge : ¬ (i : Int) < (l.length : Int) := by omega
      clear H3 H3'; go_wp2_with fail; go_ret; exact ⟨rfl, hbr⟩

/-- What Rows and Valid list. -/
def Fm.col (f : Fm) : List Bool := if f.ncode.1 = 0 then colL f (nmsU f) else []
def Fm.wit (f : Fm) : List (List UInt8) := if f.ncode.1 = 0 then (if false ∈ colL f (nmsU f) then rowN ((colL f (nmsU f)).idxOf false) (nmsU f) 0 else []) else []
def Fm.isV (f : Fm) : Bool := decide (f.ncode.1 = 0) && decide (false ∉ colL f (nmsU f))

theorem rows_any (f : Fm) (v : Value) (w : World) (hrep : Rep w (fun _ => True) f v) :
    Calls Try.prog 35 #[v] w fun e w' => ∃ x, e = .returned (.tuple #[x, .agg #[.int .i64 f.ncode.1, .int .i64 f.ncode.2]]) ∧ BL w' x f.col ∧ Below w.heap.size w w' := by
  by_cases h : f.ncode.1 = 0
  · have h' := (ncode_ok h).1
    unfold Fm.col; rw [if_pos h]; rw [h']; exact rows_yes f h v w hrep
  · unfold Fm.col
    rw [if_neg h]; refine (rows_no f f.ncode.1 f.ncode.2 h rfl v w hrep).mono ?_; rintro e w' ⟨rfl, hb⟩; exact ⟨_, rfl, BL.nil, hb⟩

theorem valid_any (f : Fm) (v : Value) (w : World) (hrep : Rep w (fun _ => True) f v) :
    Calls Try.prog 36 #[v] w fun e w' => ∃ x, e = .returned (.tuple #[.bool f.isV, x, .agg #[.int .i64 f.ncode.1, .int .i64 f.ncode.2]]) ∧ TL w' x f.wit ∧ Below w.heap.size w w' := by
  by_cases h : f.ncode.1 = 0
  · have h' := (ncode_ok h).1
    unfold Fm.isV Fm.wit; rw [if_pos h, decide_eq_true h, Bool.true_and, h']; exact valid_yes f h v w hrep
  · unfold Fm.isV Fm.wit
    rw [if_neg h, decide_eq_false h, Bool.false_and]; refine (valid_no f f.ncode.1 f.ncode.2 h rfl v w hrep).mono ?_; rintro e w' ⟨rfl, hb⟩; exact ⟨_, rfl, TL.nil, hb⟩
end Go.Proofs.Ytlmjnglcdgkomaa
