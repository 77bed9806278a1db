/- Texts of one proof, one behind the other: Tr7, Tr10, TY4, TM1, BW1, FW1, FW2. -/
import Derived.Test.YtpiaeapgjljjhaaGreatB11
import Derived.Test.YtpiaeapgjljjhaaGreatB10
import Derived.Test.YtpiaeapgjljjhaaGreatB06
import Derived.Test.YtpiaeapgjljjhaaGreatB04
import Derived.Deep.RegionLaw
import Derived.Test.YtpiaeapgjljjhaaGreatB01
import Derived.Deep.DeepCutAuto
import Derived.Test.YtpiaeapgjljjhaaGreatB07
import Derived.Laws.EntriesVeiled
import Derived.Deep.Upon
import Derived.Lib.AppendZerosOnto
import Derived.Test.YtpiaeapgjljjhaaGreatB09
/- Walks: namesOfPlain, Rows. -/
namespace Go.Proofs.YtpiaeapgjljjhaaGreat
open Go.RowKit Go.Sort

theorem TL.sl {w : World} {v : Value} {l : List (List UInt8)} (h : TL w v l) : SL w v l := by
  obtain ⟨ad, cap, h1, h2, h3, h4⟩ := h; (refine ⟨ad, cap, h1, h2, h3, fun hne => ?_⟩); obtain ⟨g, h5, h6⟩ := h4 hne; (exact ⟨g, 0, h5, fun j t ht => by rw [Nat.zero_add]; exact h6 j t ht⟩)

end Go.Proofs.YtpiaeapgjljjhaaGreat
/- Walks: isNoName, IndexFunc over texts, Value. -/
namespace Go.Proofs.YtpiaeapgjljjhaaGreat
open Go.RowKit Go.Sort

theorem code_name (s : ByteArray) : (Fm.mk 1 s []).code = if isNm s.data.toList then (0, 0) else (8, 0) := by
  by_cases h : isNm s.data.toList = true
  · rw [if_pos h]
    (have := chk_fine (.mk 1 s []) 0 (by have := fine_name (l := s.data.toList) h; exact this) (by rw [size_leaf]; omega)); simp only [Fm.code, this]
  · rw [if_neg h]
    have hn : nodeF 1 s 0 = some 8 := by
      (have h1 : kindB 1 = true := by decide); (have h2 : kidsN 1 = 0 := by decide); (have h3 : nameB 1 s = true := by simp [nameB, h]); simp [nodeF, h1, h2, h3]
    have : chk (.mk 1 s []) 0 = .bad 8 0 := by
      rw [chk]; simp [hn]
    simp only [Fm.code, this]; rfl

theorem fault_code (a b : Int) (w : World) : (Instr.field 30 (.agg #[.int .i64 a, .int .i64 b]) 0).run Tryz.prog w = .ok (.int .i64 a) w := by kernel_rfl

end Go.Proofs.YtpiaeapgjljjhaaGreat
/- Walks: the yardstick's PlainFault. -/
namespace Go.Proofs.YtpiaeapgjljjhaaGreat
open Go.RowKit Go.Sort

set_option maxHeartbeats 1000000 in
theorem mkF_any (c a : Int) (w : World) : Calls Tryz.prog 25 #[.int .i64 c, .int .i64 a] w fun e w' => e = .returned (.agg #[.int .i64 c, .int .i64 a]) ∧ Below w.heap.size w w' := by
  have B := below_more (Below.refl _ w) (.cells #[.int .i64 c, .int .i64 a] 30 (0, 0))
  go_enter Tryz.func25, Tryz.ntmps25
  go_wp2_with fail; (exact bodyPost_ret (v := .agg #[.int .i64 c, .int .i64 a]) (by simp [results, Tryz.results25, go_sem]) rfl ⟨rfl, B⟩)

end Go.Proofs.YtpiaeapgjljjhaaGreat
/- Walks: Made and what it asks. -/
namespace Go.Proofs.YtpiaeapgjljjhaaGreat
open Go.RowKit Go.Sort

set_option maxHeartbeats 1000000 in
theorem indexS_any (l : List (List UInt8)) (t : List UInt8) (v : Value) (w : World) (h : SL w v l) :
    Calls Tryz.prog 146 #[v, .string ⟨t.toArray⟩] w fun e w' => (∃ j : Int, e = .returned (.int .i64 j) ∧ (0 ≤ j ↔ t ∈ l)) ∧ w' = w := by
  obtain ⟨ad, cap, rfl, h1, h2, h3⟩ := h; (have hlI : (l.length : Int) ≤ 9223372036854775807 := by unfold maxLen at h2; omega); have H3 : Hid (l ≠ [] → ∃ g off, ad = some ⟨g, off, none⟩ ∧ ∀ (j : Nat) (t : List UInt8), l[j]? = some t → w.cell? ⟨g, off + j, none⟩ = some (.string ⟨t.toArray⟩)) := h3; clear h3
  go_enter Tryz.func146, Tryz.ntmps146
  go_wp2_with fail
  go_loopg [8] l.length (fun g c wr => ∃ i, i ≤ l.length ∧ g = l.length - i ∧ c = .int .i64 (i : Nat) ∧ wr = w ∧ Hid (t ∉ l.take i))
  case atStart => exact ⟨0, by omega, by omega, rfl, rfl, by show _ ∉ _; simp⟩
  case round =>
    obtain ⟨i, hi, hg, rfl, rfl, HN⟩ := hrel; have HG : Hid (gk = l.length - i) := hg; clear hg; by_cases hlt : i < l.length
    · obtain ⟨x, hx⟩ : ∃ x, l[i]? = some x := ⟨_, List.getElem?_eq_getElem hlt⟩
      (obtain ⟨g, off, rfl, hc⟩ := H3.out (fun e => by rw [e] at hlt; simp at hlt)); have g0 := hc i x hx; (have hltI : (i : Int) < (l.length : Int) := by omega); (have hlc : (i : Int) < (cap : Int) := by omega); have HX : Hid (l[i]? = some x) := hx; clear hc hx H3; by_cases hxt : t = x
      · subst hxt
        have HD : Hid (t ∈ l) := List.mem_of_getElem? HX.out; go_wp2_with fail; go_ret; (exact ⟨⟨(i : Int), rfl, fun _ => HD.out, fun _ => by omega⟩, rfl⟩)
      · have hne : ((⟨t.toArray⟩ : ByteArray).toList == (⟨x.toArray⟩ : ByteArray).toList) = false := by
          rw [beq_eq_false_iff_ne, Ne, txt_eq]; exact hxt
        have HNN : Hid (t ∉ l.take (i + 1)) := by
          show _ ∉ _; rw [List.take_add_one, HX.out]; intro hm
          rcases List.mem_append.1 hm with h | h
          · exact HN.out h
          · simp at h; exact hxt h
        generalize hb : (⟨x.toArray⟩ : ByteArray) = X at *; generalize hb2 : (⟨t.toArray⟩ : ByteArray) = Y at *; clear hb hb2 HX; go_wp2_with fail
        go_roundg (l.length - (i + 1))
        case measure => have := HG.out; omega
        case rel => exact ⟨i + 1, by omega, rfl, by go_num, rfl, HNN⟩
    · have HD : Hid (t ∉ l) := by
        have := HN.out; (rw [List.take_of_length_le (by omega)] at this); exact this
      (have hge : ¬ (i : Int) < (l.length : Int) := by omega); clear H3 HN; go_wp2_with fail; go_ret; (exact ⟨⟨-1, rfl, fun h => absurd h (by omega), fun h => absurd h HD.out⟩, rfl⟩)

set_option maxHeartbeats 1000000 in
theorem containsS_any (l : List (List UInt8)) (t : List UInt8) (v : Value) (w : World) (h : SL w v l) :
    Calls Tryz.prog 100 #[v, .string ⟨t.toArray⟩] w fun e w' => e = .returned (.bool (decide (t ∈ l))) ∧ w' = w := by
  have hx := indexS_any l t v w h; have HX : Hid (Calls Tryz.prog 146 _ w _) := hx; obtain ⟨ad, cap, rfl, -⟩ := h; generalize (⟨t.toArray⟩ : ByteArray) = T at *; clear hx
  go_enter Tryz.func100, Tryz.ntmps100
  go_wp2_with (first
    | (go_at_call 146
       refine HX.out.mono ?_; rintro e w1 ⟨⟨j, rfl, hj⟩, rfl⟩; have HJ : Hid (decide (0 ≤ j) = decide (t ∈ l)) := decide_eq_decide.2 hj
       clear hj)
    | fail)
  go_ret; (exact ⟨by rw [← HJ.out]; rfl, rfl⟩)

end Go.Proofs.YtpiaeapgjljjhaaGreat
/- Walks: lists of texts behind each other (slices.Grow, slices.Concat), and an append of texts. -/
namespace Go.Proofs.YtpiaeapgjljjhaaGreat
open Go.RowKit Go.Sort

theorem rowS_caps {B : Nat} {w : World} {T : TypeId} {sz n cap : Nat} {ad : Option Addr} {cs : List Value} (h : w.ownsRow B T sz (.slice ad n cap) n cs) : n ≤ cap ∧ cap ≤ maxLen := by
  rcases h.2 with ⟨hv, h0⟩ | ⟨g, cap', cur, hv, -, -, h1, h2, -⟩
  · simp only [Value.slice.injEq] at hv
    (exact ⟨by omega, by rw [hv.2.2]; simp⟩)
  · simp only [Value.slice.injEq, true_and] at hv
    rw [hv.2]; exact ⟨h1, h2⟩
theorem wp_appS {o : Oper} {a : Act} {w : World} {K : Act → World → Prop} {Q : Exit → Act → World → Prop} (s x : Operand) (hop : o.op = Op.call { callee := Callee.builtin Builtin.append, args := #[s, x], argTypes := #[34, 34] })
    (B : Nat) (is js : List (List UInt8)) (ad : Option Addr) (cp : Nat) (vx : Value) (hs : a.eval s = .slice ad is.length cp) (hown : w.ownsRow B 9 1 (.slice ad is.length cp) is.length (is.map encStr)) (hx : a.eval x = vx) (hg : SL w vx js) (hB : B ≤ w.heap.size) (hl : is.length + js.length ≤ 10000000)
    (h : ∀ ad3 cp3 w3, w3.ownsRow B 9 1 (.slice ad3 (is ++ js).length cp3) (is ++ js).length ((is ++ js).map encStr) → Kept (fun b => (Value.slice ad is.length cp).ownBlock ≠ some b) w w3 → (∀ b, (Value.slice ad3 (is ++ js).length cp3).ownBlock = some b → (Value.slice ad is.length cp).ownBlock = some b ∨ (w.heap.size ≤ b ∧ b < w3.heap.size)) → K (a.put o.dst (.slice ad3 (is ++ js).length cp3)) w3) : Oper.wp Tryz.prog o a w K Q := by
  obtain ⟨i0, hi, hz0, hz1, hz2⟩ := infoText; by_cases hne : js = []
  · subst hne
    obtain ⟨x0, c, rfl, -⟩ := hg
    have hsrc : Src Tryz.prog i0.size 34 (.slice x0 0 c) 0 [] w := by
      cases x0 with
      | none => exact Src.ofNil w Tryz.underlying34 c
      | some ad => exact Src.ofSlice w Tryz.underlying34 ad 0 c [] (by simp) (fun j u h => by simp at h) (fun u h => by cases h)
    have hrun := run_append_nothing (P := Tryz.prog) w 34 34 o.type 9 i0 Tryz.underlying34 hi ad is.length cp (rowS_caps hown).1 (.slice x0 0 c) hsrc; have hx' : a.eval x = .slice x0 0 c := hx; (have h9 := h ad cp w (by rw [List.append_nil]; exact hown) (Kept.refl _ _) (fun b hb => Or.inl (by rw [List.append_nil] at hb; exact hb))); rw [List.append_nil] at h9; unfold Oper.wp; simp [execOp, hop, resolve, invoke, builtin, hs, hx', hrun, Result.andThen]; exact h9
  · obtain ⟨x0, c, rfl, -, -, hcs⟩ := hg
    obtain ⟨bs, offs, rfl, hc⟩ := hcs hne; have hpos : 0 < js.length := List.length_pos_iff.2 hne
    refine wp_append_lies w s x 34 hop B 9 i0 (.string ⟨#[]⟩) 1 16 Tryz.underlying34 hi hz0 hz1 hz2 rfl (by decide) _ _ _ hs hown ⟨bs, offs, none⟩ js.length c (js.map encStr) hx (by simp) (fun j u hu => by
      rw [add_none]; rw [List.getElem?_map] at hu; obtain ⟨y, hy, rfl⟩ := Option.map_eq_some_iff.1 hu
      exact hc j y hy) (fun u hu => by
        obtain ⟨y, -, rfl⟩ := List.mem_map.1 hu
        rfl) hpos (by unfold maxLen; omega) (by omega) hB _ rfl ?_
    intro g3 cp3 w3 hown3 hgrow hat hlt3; have e : is.length + js.length = (is ++ js).length := List.length_append.symm; rw [e, ← List.map_append] at hown3; rw [e]
    exact h _ _ w3 hown3 ⟨hgrow.os, hgrow.tape, hgrow.output, hgrow.size, fun b hb hn => hgrow.block b hb fun e => hn e.symm⟩ fun b hb => by
      (have eb : g3 = b := by simpa [Value.ownBlock] using hb); subst eb
      rcases hat with h1 | h1
      · exact Or.inl h1
      · exact Or.inr ⟨by omega, hlt3⟩
theorem wpList_appS {ops : Array Oper} {rest : List Oper} {o : Oper} {a : Act} {w : World} {Q : Exit → Act → World → Prop} (hgd : o.guard = none) (s x : Operand) (hop : o.op = Op.call { callee := Callee.builtin Builtin.append, args := #[s, x], argTypes := #[34, 34] })
    (B : Nat) (is js : List (List UInt8)) (ad : Option Addr) (cp : Nat) (vx : Value) (hs : a.eval s = .slice ad is.length cp) (hown : w.ownsRow B 9 1 (.slice ad is.length cp) is.length (is.map encStr)) (hx : a.eval x = vx) (hg : SL w vx js) (hB : B ≤ w.heap.size) (hl : is.length + js.length ≤ 10000000)
    (h : ∀ ad3 cp3 w3, w3.ownsRow B 9 1 (.slice ad3 (is ++ js).length cp3) (is ++ js).length ((is ++ js).map encStr) → Kept (fun b => (Value.slice ad is.length cp).ownBlock ≠ some b) w w3 → (∀ b, (Value.slice ad3 (is ++ js).length cp3).ownBlock = some b → (Value.slice ad is.length cp).ownBlock = some b ∨ (w.heap.size ≤ b ∧ b < w3.heap.size)) → wpList Tryz.prog ops Q rest (a.put o.dst (.slice ad3 (is ++ js).length cp3)) w3) : wpList Tryz.prog ops Q (o :: rest) a w :=
  wpList_plain hgd fun _ hK => wp_appS s x hop B is js ad cp vx hs hown hx hg hB hl fun ad3 cp3 w3 h1 h2 h3 => hK _ _ (h ad3 cp3 w3 h1 h2 h3)
/-- Lists of texts in a list. -/
def SLs (w : World) (v : Value) (rs : List (List (List UInt8))) : Prop := ∃ ad cap, v = .slice ad rs.length cap ∧ rs.length ≤ cap ∧ cap ≤ maxLen ∧ (rs ≠ [] → ∃ b off, ad = some ⟨b, off, none⟩ ∧ ∀ (j : Nat) (r : List (List UInt8)), rs[j]? = some r → ∃ u, w.cell? ⟨b, off + j, none⟩ = some u ∧ SL w u r)
theorem SL.one {w : World} {b : Nat} {t : List UInt8} {T : TypeId} (h : w.heap[b]? = some (.cells #[.string ⟨t.toArray⟩] T (0, 0))) : SL w (.slice (some ⟨b, 0, none⟩) 1 1) [t] := by
  (refine ⟨_, 1, rfl, Nat.le_refl _, by simp [maxLen], fun _ => ⟨b, 0, rfl, fun j y hj => ?_⟩⟩); rw [Nat.zero_add, blk_cell h]
  match j, hj with
  | 0, hj => simp at hj; rw [← hj]; rfl
  | j + 1, hj => simp at hj

set_option maxRecDepth 10000 in
set_option maxHeartbeats 2000000 in
theorem growS_zero (w : World) :
    Calls Tryz.prog 166 #[.slice none 0 0, .int .i64 0] w fun e w' => e = .returned (.slice none 0 0) ∧ w' = w := by
  go_enter Tryz.func166, Tryz.ntmps166
  go_wp2_with fail; go_ret; exact ⟨rfl, rfl⟩

set_option maxRecDepth 10000 in
set_option maxHeartbeats 2000000 in
theorem growS_some (n : Nat) (hn : 0 < n) (hn2 : n ≤ 100000) (w : World) :
    Calls Tryz.prog 166 #[.slice none 0 0, .int .i64 (n : Nat)] w fun e w' => ∃ g cp, e = .returned (.slice (some ⟨g, 0, none⟩) 0 cp) ∧ w'.ownsRow w.heap.size 9 1 (.slice (some ⟨g, 0, none⟩) 0 cp) 0 [] ∧ Below w.heap.size w w' := by
  obtain ⟨i0, hi, hz0, hz1, hz2⟩ := infoText; (have hnI : (0 : Int) < (n : Int) := by omega); (have hnJ : (n : Int) ≤ 100000 := by omega)
  have hrz : ∀ ty, (Builtin.append_ #[34, 3] ty #[.slice none 0 0, .int .i64 (n : Nat)]).run Tryz.prog w = .ok (.slice (some ⟨w.heap.size, 0, none⟩) n (grownCap w n 0 9)) (w.drew.alloc (.cells (#[] ++ Builtin.zeroCells (Value.string ⟨#[]⟩).cells n ++ Builtin.zeroCells (Value.string ⟨#[]⟩).cells (grownCap w n 0 9 - n)) 9)) := fun ty => by
    (have h := Lib.run_append_grow_zeros w 34 3 ty 9 i0 (.string ⟨#[]⟩) .i64 .i64 Tryz.underlying34 Tryz.underlying3 hi hz0 none 0 0 [] (run_firstCells_none w.drew i0.size 0 0 0) n hn (by omega) (by omega) (by omega) (by rw [hz2]; omega) (by rw [hz2]; exact growslice_fits (by omega) (by omega))); simpa using h
  have hGn : n ≤ grownCap w n 0 9 := grownCap_ge w _ _ _; (have hGm : grownCap w n 0 9 ≤ maxLen := grownCap_le_maxLen w n 0 9 (by unfold maxLen; omega)); generalize grownCap w n 0 9 = G at *; (have hG63 : (G : Int) ≤ 9223372036854775807 := by unfold maxLen at hGm; omega)
  have hOw : (w.drew.alloc (.cells (#[] ++ Builtin.zeroCells (Value.string ⟨#[]⟩).cells n ++ Builtin.zeroCells (Value.string ⟨#[]⟩).cells (G - n)) 9)).ownsRow w.heap.size 9 1 (.slice (some ⟨w.heap.size, 0, none⟩) 0 G) 0 [] := by
    refine ⟨rfl, Or.inr ⟨w.heap.size, G, _, rfl, Nat.le_refl _, blk_new _ _, Nat.zero_le _, hGm, ?_, rfl⟩⟩; have h3 : (Value.string ⟨#[]⟩).cells.size = 1 := rfl; rw [Array.size_append, Array.size_append, size_zeroCells, size_zeroCells, h3]; simp only [Array.size_empty]; omega
  have HOw : Hid (World.ownsRow _ _ _ _ _ _ _) := hOw; have hBw : Below w.heap.size w (w.drew.alloc (.cells (#[] ++ Builtin.zeroCells (Value.string ⟨#[]⟩).cells n ++ Builtin.zeroCells (Value.string ⟨#[]⟩).cells (G - n)) 9)) := below_more (Below.refl _ w).drew _; generalize w.drew.alloc _ = W at *; clear hOw hz0 hz1 hz2 hi
  go_enter Tryz.func166, Tryz.ntmps166
  go_wp2_with (first
    | (at_builtin
       refine Lib.wpList_append_run _ rfl _ _ _ _ rfl _ _ rfl rfl _ _ (hrz _) ?_)
    | fail)
  all_goals
    go_ret; exact ⟨_, _, rfl, HOw.out, hBw⟩

/-- A row of items of one's own. -/
def OwnS (B : Nat) (is : List (List UInt8)) (ad : Option Addr) (cp : Nat) (w : World) : Prop := w.ownsRow B 9 1 (.slice ad is.length cp) is.length (is.map encStr)
theorem growS_any (n : Nat) (hn : n ≤ 100000) (w : World) :
    Calls Tryz.prog 166 #[.slice none 0 0, .int .i64 (n : Nat)] w fun e w' => ∃ ad cp, e = .returned (.slice ad 0 cp) ∧ OwnS w.heap.size [] ad cp w' ∧ Below w.heap.size w w' := by
  rcases Nat.eq_zero_or_pos n with rfl | h0
  · refine (growS_zero w).mono ?_
    rintro e w' ⟨rfl, rfl⟩; exact ⟨none, 0, rfl, ⟨rfl, Or.inl ⟨rfl, rfl⟩⟩, Below.refl _ _⟩
  · refine (growS_some n h0 hn w).mono ?_
    rintro e w' ⟨g, cp, rfl, ho, hb⟩; exact ⟨_, _, rfl, ho, hb⟩
theorem OwnS.app {W w2 w3 : World} {is : List (List UInt8)} {ad : Option Addr} {cp : Nat} (B : Below W.heap.size W w2) (h : OwnS W.heap.size is ad cp w2) (hk : Kept (fun b => (Value.slice ad is.length cp).ownBlock ≠ some b) w2 w3) : Below W.heap.size W w3 := by
  (have hb : ∀ j, j < W.heap.size → w3.heap[j]? = w2.heap[j]? := fun j hj => hk.block j (by have := B.size; omega) (fun e => by have := (World.ownsRow.lt h j e).1; omega)); (exact ⟨hk.os.trans B.os, hk.tape.trans B.tape, hk.output.trans B.output, by have := hk.size; have := B.size; omega, fun j hj => (hb j hj).trans (B.block j hj)⟩)

set_option maxRecDepth 10000 in
set_option maxHeartbeats 8000000 in
theorem concat_s (rs : List (List (List UInt8))) (hl : rs.flatten.length ≤ 100000) (hr : rs.length ≤ 1000) (v : Value) (w : World) (hv : SLs w v rs) :
    Calls Tryz.prog 113 #[v] w fun e w' => ∃ ad cp, e = .returned (.slice ad rs.flatten.length cp) ∧ OwnS w.heap.size rs.flatten ad cp w' ∧ Below w.heap.size w w' := by
  have HV : Hid (SLs w v rs) := hv; obtain ⟨adV, cpV, rfl, hv1, hv2, -⟩ := hv; have HLn : Hid (rs.flatten.length ≤ 100000) := hl; (have hrI : (rs.length : Int) ≤ 1000 := by omega); (have hcI : (rs.length : Int) ≤ (cpV : Int) := by omega)
  have row : ∀ k, k < rs.length → ∃ r b off u ad cp, rs[k]? = some r ∧ adV = some ⟨b, off, none⟩ ∧ u = .slice ad r.length cp ∧ w.cell? ⟨b, off + k, none⟩ = some u ∧ SL w u r := fun k hk => by
    obtain ⟨ad', cap', e, -, -, h4⟩ := HV.out; simp only [Value.slice.injEq, true_and] at e; obtain ⟨rfl, rfl⟩ := e; (obtain ⟨b, off, h5, h7⟩ := h4 (fun e => by rw [e] at hk; simp at hk)); obtain ⟨u, h8, h9⟩ := h7 k _ (List.getElem?_eq_getElem hk); obtain ⟨a1, c1, rfl, h10⟩ := h9; exact ⟨_, b, off, _, a1, c1, List.getElem?_eq_getElem hk, h5, rfl, h8, a1, c1, rfl, h10⟩
  have HR : Hid (∀ k, k < rs.length → ∃ r b off u ad cp, rs[k]? = some r ∧ adV = some ⟨b, off, none⟩ ∧ u = .slice ad r.length cp ∧ w.cell? ⟨b, off + k, none⟩ = some u ∧ SL w u r) := row
  have HT : Hid (∀ k r, rs[k]? = some r → (rs.take (k + 1)).flatten = (rs.take k).flatten ++ r ∧ (rs.take k).flatten.length + r.length ≤ 100000) := fun k r h => by
    (have h1 : (rs.take (k + 1)).flatten = (rs.take k).flatten ++ r := by rw [List.take_add_one, h, List.flatten_append]; simp); refine ⟨h1, ?_⟩; (have h2 : ((rs.take (k + 1)).flatten ++ (rs.drop (k + 1)).flatten).length ≤ 100000 := by rw [← List.flatten_append, List.take_append_drop]; exact hl); rw [h1] at h2; simp only [List.length_append] at h2; omega
  clear row hv1 hv2 hl hr
  go_enter Tryz.func113, Tryz.ntmps113
  go_wp2_with fail
  go_loopg [11, 3] rs.length (fun g c o wr => ∃ k n, k ≤ rs.length ∧ g = rs.length - k ∧ c = .int .i64 (k : Nat) ∧ o = .int .i64 (n : Nat) ∧ Hid (n = (rs.take k).flatten.length) ∧ wr = w)
  case atStart => exact ⟨0, 0, by omega, by omega, rfl, rfl, by show _ = _; simp, rfl⟩
  case round =>
    obtain ⟨k, n, hk, hg, rfl, rfl, HN, hw⟩ := hrel; have hw' := hw.symm; subst hw'; have HG : Hid (gk = rs.length - k) := hg; clear hg; by_cases hlt : k < rs.length
    · obtain ⟨r, b, off, u, ad, cp, h1, rfl, rfl, h2, -⟩ := HR.out k hlt
      obtain ⟨h3, h4⟩ := HT.out k r h1
      have HN2 : Hid (n + r.length = (rs.take (k + 1)).flatten.length) := by
        have := HN.out; show _ = _; rw [h3, List.length_append]; omega
      (have hltI : (k : Int) < (rs.length : Int) := by omega); (have hltc : (k : Int) < (cpV : Int) := by omega); (have hnI : (n : Int) + (r.length : Int) ≤ 100000 := by have := HN.out; omega); (have hwr : IntKind.i64.wrap ((n : Int) + (r.length : Int)) = (n : Int) + (r.length : Int) := by rw [IntKind.wrap_i64]; omega); (have hng : ¬ (n : Int) + (r.length : Int) < 0 := by omega); clear h1 h3 h4; go_wp2_with fail
      go_roundg (rs.length - (k + 1))
      case measure => have := HG.out; omega
      case rel => exact ⟨k + 1, n + r.length, by omega, rfl, by go_num, by go_num, HN2, rfl⟩
    · have hkk : k = rs.length := by omega
      subst hkk; (have hn : n ≤ 100000 := by have h1 := HN.out; have h2 := HLn.out; rw [List.take_length] at h1; omega); have HNn : Hid (n ≤ 100000) := hn; clear hlt hk hn; go_wp2_with fail; refine (growS_any n HNn.out w).mono ?_; rintro e w2 ⟨ad0, cp0, rfl, hA, B2⟩; have HA : Hid (OwnS w.heap.size [] ad0 cp0 w2) := hA; have HB2 : Hid (Below w.heap.size w w2) := B2; clear hA B2; go_wp2_with fail
      go_loopg [27, 6] rs.length (fun g c o wr => ∃ k is ad cp, k ≤ rs.length ∧ g = rs.length - k ∧ c = .int .i64 (k : Nat) ∧ o = .slice ad is.length cp ∧ Hid (is = (rs.take k).flatten) ∧ Hid (OwnS w.heap.size is ad cp wr) ∧ Hid (Below w.heap.size w wr))
      case atStart => exact ⟨0, [], ad0, cp0, by omega, by omega, rfl, rfl, by show _ = _; simp, HA, HB2⟩
      case round =>
        obtain ⟨k, is, ad, cp, hk, hg, rfl, rfl, HI, HO, HW⟩ := hrel; have HG2 : Hid (gk = rs.length - k) := hg; clear hg; by_cases hlt : k < rs.length
        · obtain ⟨r, b, off, u, ad2, cp2, h1, rfl, rfl, h2, h5⟩ := HR.out k hlt
          obtain ⟨h3, h4⟩ := HT.out k r h1; have g2 := (HW.out.cell (p := ⟨b, off + k, none⟩) (lt_of_cell h2)).trans h2
          have HI2 : Hid (is ++ r = (rs.take (k + 1)).flatten) := by
            have := HI.out; show _ = _; rw [h3, this]
          have HRw : Hid (SL wr (.slice ad2 r.length cp2) r) := h5.up HW.out; (have HLi : Hid (is.length + r.length ≤ 10000000) := by have := HI.out; show _ ≤ _; rw [this]; omega); have HLs : Hid (w.heap.size ≤ wr.heap.size) := HW.out.size; (have hltI : (k : Int) < (rs.length : Int) := by omega); (have hltc : (k : Int) < (cpV : Int) := by omega); clear h1 h3 h4 h2 h5
          go_wp2_with (first
            | (at_builtin
               go_loud (refine wpList_appS rfl _ _ rfl w.heap.size is r ad cp _ rfl HO.out rfl HRw.out HLs.out HLi.out ?_)
               intro ad3 cp3 w3 hown3 hk3 hat3; have HO3 : Hid (OwnS w.heap.size (is ++ r) ad3 cp3 w3) := hown3; have HB3 : Hid (Below w.heap.size w w3) := OwnS.app HW.out HO.out hk3
               clear hown3 hk3 hat3)
            | fail)
          go_roundg (rs.length - (k + 1))
          case measure => have := HG2.out; omega
          case rel => exact ⟨k + 1, is ++ r, ad3, cp3, by omega, rfl, by go_num, by simp, HI2, HO3, HB3⟩
        · have hkk : k = rs.length := by omega
          subst hkk; have hI := HI.out; rw [List.take_length] at hI; clear hlt hk; go_wp2_with fail; go_ret; (exact ⟨ad, cp, by rw [hI]; rfl, by rw [← hI]; exact HO.out, HW.out⟩)
end Go.Proofs.YtpiaeapgjljjhaaGreat
/- Words and expressions of first order as data, and in memory. -/
namespace Go.Proofs.YtpiaeapgjljjhaaGreat
open Go.RowKit

inductive Wd where
  | mk (name : ByteArray) (args : List Wd)
inductive Ex where
  | mk (kind : Int) (name : ByteArray) (words : List Wd) (kids : List Ex)
mutual
def Wd.size : Wd → Nat
  | .mk _ ar => Wd.sizes ar + 1
def Wd.sizes : List Wd → Nat
  | [] => 0
  | x :: xs => Wd.size x + Wd.sizes xs
end
mutual
def Ex.size : Ex → Nat
  | .mk _ _ ws ks => Wd.sizes ws + Ex.sizes ks + 1
def Ex.sizes : List Ex → Nat
  | [] => 0
  | x :: xs => Ex.size x + Ex.sizes xs
end
theorem wsizes_get {l : List Wd} {i : Nat} {x : Wd} (h : l[i]? = some x) : x.size ≤ Wd.sizes l := by
  induction l generalizing i with
  | nil => simp at h
  | cons g gs ih =>
    cases i with
    | zero => simp at h; subst h; simp [Wd.sizes]
    | succ i => have := ih (i := i) (by simpa using h); simp [Wd.sizes]; omega
theorem esizes_get {l : List Ex} {i : Nat} {x : Ex} (h : l[i]? = some x) : x.size ≤ Ex.sizes l := by
  induction l generalizing i with
  | nil => simp at h
  | cons g gs ih =>
    cases i with
    | zero => simp at h; subst h; simp [Ex.sizes]
    | succ i => have := ih (i := i) (by simpa using h); simp [Ex.sizes]; omega
mutual
/-- A word in memory. -/
def WRp (w : World) : Wd → Value → Prop
  | .mk n ar, v => ∃ sl cap, v = .agg #[.string n, .slice sl ar.length cap] ∧ n.size ≤ maxLen ∧ ar.length ≤ cap ∧ cap ≤ maxLen ∧ (ar ≠ [] → ∃ b off, sl = some ⟨b, off, none⟩ ∧ WRps w b off ar)
def WRps (w : World) (b : Nat) : Nat → List Wd → Prop
  | _, [] => True
  | off, x :: xs => (∃ c0 c1, w.cell? ⟨b, off, none⟩ = some c0 ∧ w.cell? ⟨b, off + 1, none⟩ = some c1 ∧ WRp w x (.agg #[c0, c1])) ∧ WRps w b (off + 2) xs
end
theorem WRp.def {w : World} {n : ByteArray} {ar : List Wd} {v : Value} : WRp w (.mk n ar) v ↔ ∃ sl cap, v = .agg #[.string n, .slice sl ar.length cap] ∧ n.size ≤ maxLen ∧ ar.length ≤ cap ∧ cap ≤ maxLen ∧ (ar ≠ [] → ∃ b off, sl = some ⟨b, off, none⟩ ∧ WRps w b off ar) := by
  rw [WRp]
theorem WRps.nil {w : World} {b off : Nat} : WRps w b off [] := by rw [WRps]; trivial
theorem WRps.cons {w : World} {b off : Nat} {x : Wd} {xs : List Wd} : WRps w b off (x :: xs) ↔ (∃ c0 c1, w.cell? ⟨b, off, none⟩ = some c0 ∧ w.cell? ⟨b, off + 1, none⟩ = some c1 ∧ WRp w x (.agg #[c0, c1])) ∧ WRps w b (off + 2) xs := by
  rw [WRps]
mutual
theorem WRp.keep {w w' : World} (hc : ∀ a : Addr, a.block < w.heap.size → (∀ c, w.cell? a = some c → w'.cell? a = some c)) : ∀ (x : Wd) (v : Value), WRp w x v → WRp w' x v
  | .mk n ar, v, h => by
    rw [WRp.def] at h ⊢; obtain ⟨sl, cap, hv, hn, hl, hc', hk⟩ := h; (refine ⟨sl, cap, hv, hn, hl, hc', fun hne => ?_⟩); obtain ⟨b, off, hsl, hr⟩ := hk hne; exact ⟨b, off, hsl, WRps.keep hc off ar hr⟩
theorem WRps.keep {w w' : World} (hc : ∀ a : Addr, a.block < w.heap.size → (∀ c, w.cell? a = some c → w'.cell? a = some c)) {b : Nat} : ∀ (off : Nat) (xs : List Wd), WRps w b off xs → WRps w' b off xs
  | _, [], _ => WRps.nil
  | off, x :: xs, h => by
    rw [WRps.cons] at h ⊢; obtain ⟨⟨c0, c1, h0, h1, hr⟩, hrs⟩ := h; exact ⟨⟨c0, c1, hc _ (lt_of_cell h0) _ h0, hc _ (lt_of_cell h1) _ h1, WRp.keep hc x _ hr⟩, WRps.keep hc (off + 2) xs hrs⟩
end
theorem WRp.up {w w' : World} {x : Wd} {v : Value} (h : WRp w x v) (hb : Below w.heap.size w w') : WRp w' x v := WRp.keep (fun _ hlt _ hc => (hb.cell hlt).trans hc) x v h
theorem WRps.up {w w' : World} {b off : Nat} {xs : List Wd} (h : WRps w b off xs) (hb : Below w.heap.size w w') : WRps w' b off xs := WRps.keep (fun _ hlt _ hc => (hb.cell hlt).trans hc) off xs h
theorem WRps.at {w : World} {b : Nat} : ∀ {off : Nat} {xs : List Wd} (_ : WRps w b off xs) (i : Nat) (n : ByteArray) (ar : List Wd), xs[i]? = some (.mk n ar) → ∃ sl cap, w.cell? ⟨b, off + i * 2, none⟩ = some (.string n) ∧ w.cell? ⟨b, off + i * 2 + 1, none⟩ = some (.slice sl ar.length cap) ∧ WRp w (.mk n ar) (.agg #[.string n, .slice sl ar.length cap])
  | _, [], _, i, n, ar, h => by simp at h
  | off, x :: xs, hr, i, n, ar, h => by
    obtain ⟨h1, h2⟩ := WRps.cons.1 hr
    cases i with
    | zero =>
      (have e : x = .mk n ar := by simpa using h); subst e; obtain ⟨c0, c1, g0, g1, hr1⟩ := h1; obtain ⟨sl, cap, hv, hr'⟩ := WRp.def.1 hr1; simp only [Value.agg.injEq, Array.mk.injEq, List.cons.injEq, and_true] at hv; obtain ⟨rfl, rfl⟩ := hv
      exact ⟨sl, cap, by simpa using g0, by simpa using g1, hr1⟩
    | succ i =>
      (obtain ⟨sl, cap, g0, g1, g2⟩ := WRps.at h2 i n ar (by simpa using h)); (rw [show off + 2 + i * 2 = off + (i + 1) * 2 by omega] at g0 g1); exact ⟨sl, cap, g0, g1, g2⟩
/-- A list of words that lies in a slice. -/
def WL (w : World) (v : Value) (l : List Wd) : Prop := ∃ sl cap, v = .slice sl l.length cap ∧ l.length ≤ cap ∧ cap ≤ maxLen ∧ (l ≠ [] → ∃ b off, sl = some ⟨b, off, none⟩ ∧ WRps w b off l)
theorem WL.up {w w' : World} {v : Value} {l : List Wd} (h : WL w v l) (hb : Below w.heap.size w w') : WL w' v l := by
  obtain ⟨sl, cap, e, h1, h2, h3⟩ := h; (refine ⟨sl, cap, e, h1, h2, fun hne => ?_⟩); obtain ⟨b, off, e2, hr⟩ := h3 hne; exact ⟨b, off, e2, hr.up hb⟩
theorem WRp.args {w : World} {n : ByteArray} {ar : List Wd} {sl : Option Addr} {len cap : Nat} {s : Value} (h : WRp w (.mk n ar) (.agg #[s, .slice sl len cap])) : s = .string n ∧ n.size ≤ maxLen ∧ len = ar.length ∧ WL w (.slice sl len cap) ar := by
  obtain ⟨sl', cap', e, h1, h2, h3, h4⟩ := WRp.def.1 h; simp only [Value.agg.injEq, Array.mk.injEq, List.cons.injEq, Value.slice.injEq, and_true] at e; obtain ⟨rfl, rfl, rfl, rfl⟩ := e; exact ⟨rfl, h1, rfl, sl, cap, rfl, h2, h3, h4⟩
theorem WL.at {w : World} {sl : Option Addr} {len cap : Nat} {l : List Wd} (h : WL w (.slice sl len cap) l) (i : Nat) (n : ByteArray) (ar : List Wd) (hf : l[i]? = some (.mk n ar)) : ∃ b off sl2 cap2, sl = some ⟨b, off, none⟩ ∧ w.cell? ⟨b, off + i * 2, none⟩ = some (.string n) ∧ w.cell? ⟨b, off + i * 2 + 1, none⟩ = some (.slice sl2 ar.length cap2) ∧ WRp w (.mk n ar) (.agg #[.string n, .slice sl2 ar.length cap2]) := by
  obtain ⟨sl', cap', hv, h1, h2, h3⟩ := h; simp only [Value.slice.injEq] at hv; obtain ⟨rfl, rfl, rfl⟩ := hv; (obtain ⟨b, off, rfl, hr⟩ := h3 (fun e => by rw [e] at hf; simp at hf)); obtain ⟨sl2, cap2, g0, g1, g2⟩ := hr.at i n ar hf; exact ⟨b, off, sl2, cap2, rfl, g0, g1, g2⟩
mutual
/-- An expression in memory. -/
def ERp (w : World) : Ex → Value → Prop
  | .mk k n ws ks, v => ∃ sw cw sk ck, v = .agg #[.int .i64 k, .string n, .slice sw ws.length cw, .slice sk ks.length ck] ∧ n.size ≤ maxLen ∧ WL w (.slice sw ws.length cw) ws ∧ ks.length ≤ ck ∧ ck ≤ maxLen ∧ (ks ≠ [] → ∃ b off, sk = some ⟨b, off, none⟩ ∧ ERps w b off ks)
def ERps (w : World) (b : Nat) : Nat → List Ex → Prop
  | _, [] => True
  | off, x :: xs => (∃ c0 c1 c2 c3, w.cell? ⟨b, off, none⟩ = some c0 ∧ w.cell? ⟨b, off + 1, none⟩ = some c1 ∧ w.cell? ⟨b, off + 2, none⟩ = some c2 ∧ w.cell? ⟨b, off + 3, none⟩ = some c3 ∧ ERp w x (.agg #[c0, c1, c2, c3])) ∧ ERps w b (off + 4) xs
end
theorem ERp.def {w : World} {k : Int} {n : ByteArray} {ws : List Wd} {ks : List Ex} {v : Value} : ERp w (.mk k n ws ks) v ↔ ∃ sw cw sk ck, v = .agg #[.int .i64 k, .string n, .slice sw ws.length cw, .slice sk ks.length ck] ∧ n.size ≤ maxLen ∧ WL w (.slice sw ws.length cw) ws ∧ ks.length ≤ ck ∧ ck ≤ maxLen ∧ (ks ≠ [] → ∃ b off, sk = some ⟨b, off, none⟩ ∧ ERps w b off ks) := by
  rw [ERp]
theorem ERps.nil {w : World} {b off : Nat} : ERps w b off [] := by rw [ERps]; trivial
theorem ERps.cons {w : World} {b off : Nat} {x : Ex} {xs : List Ex} : ERps w b off (x :: xs) ↔ (∃ c0 c1 c2 c3, w.cell? ⟨b, off, none⟩ = some c0 ∧ w.cell? ⟨b, off + 1, none⟩ = some c1 ∧ w.cell? ⟨b, off + 2, none⟩ = some c2 ∧ w.cell? ⟨b, off + 3, none⟩ = some c3 ∧ ERp w x (.agg #[c0, c1, c2, c3])) ∧ ERps w b (off + 4) xs := by
  rw [ERps]
mutual
theorem ERp.up {w w' : World} (hb : Below w.heap.size w w') : ∀ (x : Ex) (v : Value), ERp w x v → ERp w' x v
  | .mk k n ws ks, v, h => by
    rw [ERp.def] at h ⊢; obtain ⟨sw, cw, sk, ck, hv, hn, hw, hl, hc', hk⟩ := h; (refine ⟨sw, cw, sk, ck, hv, hn, hw.up hb, hl, hc', fun hne => ?_⟩); obtain ⟨b, off, hsl, hr⟩ := hk hne; exact ⟨b, off, hsl, ERps.up hb off ks hr⟩
theorem ERps.up {w w' : World} (hb : Below w.heap.size w w') {b : Nat} : ∀ (off : Nat) (xs : List Ex), ERps w b off xs → ERps w' b off xs
  | _, [], _ => ERps.nil
  | off, x :: xs, h => by
    rw [ERps.cons] at h ⊢; obtain ⟨⟨c0, c1, c2, c3, h0, h1, h2, h3, hr⟩, hrs⟩ := h; exact ⟨⟨c0, c1, c2, c3, (hb.cell (lt_of_cell h0)).trans h0, (hb.cell (lt_of_cell h1)).trans h1, (hb.cell (lt_of_cell h2)).trans h2, (hb.cell (lt_of_cell h3)).trans h3, ERp.up hb x _ hr⟩, ERps.up hb (off + 4) xs hrs⟩
end
theorem ERps.at {w : World} {b : Nat} : ∀ {off : Nat} {xs : List Ex} (_ : ERps w b off xs) (i : Nat) (k : Int) (n : ByteArray) (ws : List Wd) (ks : List Ex), xs[i]? = some (.mk k n ws ks) → ∃ sw cw sk ck, w.cell? ⟨b, off + i * 4, none⟩ = some (.int .i64 k) ∧ w.cell? ⟨b, off + i * 4 + 1, none⟩ = some (.string n) ∧ w.cell? ⟨b, off + i * 4 + 2, none⟩ = some (.slice sw ws.length cw) ∧ w.cell? ⟨b, off + i * 4 + 3, none⟩ = some (.slice sk ks.length ck) ∧ ERp w (.mk k n ws ks) (.agg #[.int .i64 k, .string n, .slice sw ws.length cw, .slice sk ks.length ck])
  | _, [], _, i, k, n, ws, ks, h => by simp at h
  | off, x :: xs, hr, i, k, n, ws, ks, h => by
    obtain ⟨h1, h2⟩ := ERps.cons.1 hr
    cases i with
    | zero =>
      (have e : x = .mk k n ws ks := by simpa using h); subst e; obtain ⟨c0, c1, c2, c3, g0, g1, g2, g3, hr1⟩ := h1; obtain ⟨sw, cw, sk, ck, hv, hr'⟩ := ERp.def.1 hr1; simp only [Value.agg.injEq, Array.mk.injEq, List.cons.injEq, and_true] at hv; obtain ⟨rfl, rfl, rfl, rfl⟩ := hv
      exact ⟨sw, cw, sk, ck, by simpa using g0, by simpa using g1, by simpa using g2, by simpa using g3, hr1⟩
    | succ i =>
      (obtain ⟨sw, cw, sk, ck, g0, g1, g2, g3, g4⟩ := ERps.at h2 i k n ws ks (by simpa using h)); (rw [show off + 4 + i * 4 = off + (i + 1) * 4 by omega] at g0 g1 g2 g3); exact ⟨sw, cw, sk, ck, g0, g1, g2, g3, g4⟩
end Go.Proofs.YtpiaeapgjljjhaaGreat
/- Walks: names of first order. -/
namespace Go.Proofs.YtpiaeapgjljjhaaGreat
open Go.RowKit

def capB (c : UInt8) : Bool := decide (65 ≤ c.toNat) && decide (c.toNat ≤ 90)
def lettB (c : UInt8) : Bool := capB c || (decide (97 ≤ c.toNat) && decide (c.toNat ≤ 122))
/-- A big name. -/
def isBg (l : List UInt8) : Bool := match l with
  | [] => false
  | c :: l => decide (l.length + 1 ≤ 8) && capB c && (c :: l).all lettB
set_option maxHeartbeats 1000000 in
theorem var_any (s : ByteArray) (hs : s.size ≤ maxLen) (w : World) :
    Calls Tryz.prog 62 #[.string s] w fun e w' => e = .returned (.bool (isNm s.data.toList)) ∧ Below w.heap.size w w' := by
  (have hck := fun v (w : World) h => check_any (.mk 1 s []) v w h); have hcn := code_name s; have HC : Hid (∀ v w, _ → Calls Tryz.prog 107 #[v] w _) := hck; (have HL : Hid (∀ w, Rep w (fun _ => True) (.mk 1 s []) (.agg #[.int .i64 1, .string s, .slice none 0 0])) := fun w => Rep.leaf hs); (have hfc := fun a b w => fault_code a b w); clear hck hs
  rcases hb : isNm s.data.toList with _ | _
  · have hcn' : (Fm.mk 1 s []).code = (8, 0) := by rw [hcn, hb]; rfl
    rw [hcn'] at HC; clear hcn'; clear hcn hb
    go_enter Tryz.func62, Tryz.ntmps62
    go_wp2_with (first
      | (go_at_call 107
         refine (HC.out _ _ (HL.out _)).mono ?_
         rintro e w1 ⟨rfl, hb1⟩)
      | fail)
    go_ret; exact ⟨rfl, hb1⟩
  · have hcn' : (Fm.mk 1 s []).code = (0, 0) := by rw [hcn, hb]; rfl
    rw [hcn'] at HC; clear hcn'; clear hcn hb
    go_enter Tryz.func62, Tryz.ntmps62
    go_wp2_with (first
      | (go_at_call 107
         refine (HC.out _ _ (HL.out _)).mono ?_
         rintro e w1 ⟨rfl, hb1⟩)
      | fail)
    go_ret; exact ⟨rfl, hb1⟩
set_option maxHeartbeats 1000000 in
theorem cap_any (c : UInt8) (w : World) :
    Calls Tryz.prog 162 #[.int .u8 (c.toNat : Int)] w fun e w' => e = .returned (.bool (capB c)) ∧ w' = w := by
  unfold capB; by_cases h1 : (65 : Int) ≤ (c.toNat : Int)
  · by_cases h2 : (c.toNat : Int) ≤ 90
    · go_enter Tryz.func162, Tryz.ntmps162
      go_wp2; go_ret; (exact ⟨ret_bool (by rw [eq_comm, Bool.and_eq_true, decide_eq_true_iff, decide_eq_true_iff]; omega), rfl⟩)
    · go_enter Tryz.func162, Tryz.ntmps162
      go_wp2; go_ret; (exact ⟨ret_bool (by rw [eq_comm, Bool.and_eq_false_iff, decide_eq_false_iff_not, decide_eq_false_iff_not]; omega), rfl⟩)
  · go_enter Tryz.func162, Tryz.ntmps162
    go_wp2; go_ret; (exact ⟨ret_bool (by rw [eq_comm, Bool.and_eq_false_iff, decide_eq_false_iff_not, decide_eq_false_iff_not]; omega), rfl⟩)
set_option maxHeartbeats 1000000 in
theorem lett_any (c : UInt8) (w : World) :
    Calls Tryz.prog 163 #[.int .u8 (c.toNat : Int)] w fun e w' => e = .returned (.bool (lettB c)) ∧ w' = w := by
  (have HC : Hid (∀ w, Calls Tryz.prog 162 #[.int .u8 (c.toNat : Int)] w fun e w' => e = .returned (.bool (capB c)) ∧ w' = w) := fun w => cap_any c w); unfold lettB
  rcases hb : capB c with _ | _
  · rw [hb] at HC
    clear hb; by_cases h1 : (97 : Int) ≤ (c.toNat : Int)
    · by_cases h2 : (c.toNat : Int) ≤ 122
      · go_enter Tryz.func163, Tryz.ntmps163
        go_wp2_with (go_at_call 162; refine (HC.out _).mono ?_; rintro e w1 ⟨rfl, rfl⟩); go_ret; (exact ⟨ret_bool (by rw [eq_comm, Bool.false_or, Bool.and_eq_true, decide_eq_true_iff, decide_eq_true_iff]; omega), rfl⟩)
      · go_enter Tryz.func163, Tryz.ntmps163
        go_wp2_with (go_at_call 162; refine (HC.out _).mono ?_; rintro e w1 ⟨rfl, rfl⟩); go_ret; (exact ⟨ret_bool (by rw [Bool.eq_iff_iff]; simp; omega), rfl⟩)
    · go_enter Tryz.func163, Tryz.ntmps163
      go_wp2_with (go_at_call 162; refine (HC.out _).mono ?_; rintro e w1 ⟨rfl, rfl⟩); go_ret; (exact ⟨ret_bool (by rw [Bool.eq_iff_iff]; simp; omega), rfl⟩)
  · rw [hb] at HC
    clear hb
    go_enter Tryz.func163, Tryz.ntmps163
    go_wp2_with (go_at_call 162; refine (HC.out _).mono ?_; rintro e w1 ⟨rfl, rfl⟩); go_ret; (exact ⟨ret_bool (by simp), rfl⟩)
theorem isBg_cons {c : UInt8} {l : List UInt8} (h8 : (c :: l).length ≤ 8) (hc : capB c = true) : isBg (c :: l) = (c :: l).all lettB := by
  (have : l.length + 1 ≤ 8 := by simpa using h8); unfold isBg; simp only [this, hc, decide_true, Bool.true_and]
set_option maxHeartbeats 1000000 in
theorem big_any (s : ByteArray) (w : World) :
    Calls Tryz.prog 109 #[.string s] w fun e w' => e = .returned (.bool (isBg s.data.toList)) ∧ w' = w := by
  have HB : Hid (s.data.toList.length = s.size) := Array.length_toList; by_cases h0 : s.data.toList = []
  · have e : s = ⟨#[]⟩ := by
      cases s with
      | mk d => simp at h0; rw [h0]
    subst e
    go_enter Tryz.func109, Tryz.ntmps109
    go_wp2_with fail; go_ret; exact ⟨ret_bool rfl, rfl⟩
  have he : s.toList.isEmpty = false := by
    rw [ByteArray.toList_eq]
    cases hh : s.data.toList with
    | nil => exact absurd hh h0
    | cons _ _ => rfl
  obtain ⟨c, l, hcl⟩ : ∃ c l, s.data.toList = c :: l := by
    cases hh : s.data.toList with
    | nil => exact absurd hh h0
    | cons c l => exact ⟨c, l, rfl⟩
  (have hA0 : At s 0 (c :: l) := ⟨Nat.zero_le _, by rw [← hcl]; simp⟩); (have hs0 : 0 < s.size := by have := HB.out; rw [hcl] at this; simp at this; omega); have hhd : s[0] = c := hA0.head hs0; have HCL : Hid (s.data.toList = c :: l ∧ At s 0 (c :: l)) := ⟨hcl, hA0⟩; clear h0 hcl hA0; by_cases h8 : s.size ≤ 8
  case neg =>
    (have h8I : (8 : Int) < (s.size : Int) := by omega); clear hhd
    go_enter Tryz.func109, Tryz.ntmps109
    go_wp2_with fail; go_ret; refine ⟨ret_bool ?_, rfl⟩; (have h3 : ¬ l.length + 1 ≤ 8 := by have := HB.out; rw [HCL.out.1] at this; simp at this; omega); rw [HCL.out.1]; simp only [isBg, h3, decide_false, Bool.false_and]
  (have h8I : (s.size : Int) ≤ 8 := by omega); (have H8 : Hid ((c :: l).length ≤ 8) := by have := HB.out; rw [HCL.out.1] at this; show _ ≤ _; omega); (have HC : Hid (∀ w, Calls Tryz.prog 162 #[.int .u8 (s[0].toNat : Int)] w fun e w' => e = .returned (.bool (capB c)) ∧ w' = w) := fun w => by rw [hhd]; exact cap_any c w); (have hs0I : (0 : Int) < (s.size : Int) := by omega); clear hhd h8
  rcases hcb : capB c with _ | _
  · rw [hcb] at HC
    go_enter Tryz.func109, Tryz.ntmps109
    go_wp2_with (go_at_call 162; refine (HC.out _).mono ?_; rintro e w1 ⟨rfl, rfl⟩); go_ret; refine ⟨ret_bool ?_, rfl⟩; rw [HCL.out.1]; simp only [isBg, hcb, Bool.and_false, Bool.false_and]
  · rw [hcb] at HC
    (have HR : Hid (isBg s.data.toList = (c :: l).all lettB) := by show _ = _; rw [HCL.out.1]; exact isBg_cons H8.out hcb); clear hcb
    go_enter Tryz.func109, Tryz.ntmps109
    go_wp2_with (go_at_call 162; refine (HC.out _).mono ?_; rintro e w1 ⟨rfl, rfl⟩)
    go_loop [19] (fun v => ∃ k l2, At s k l2 ∧ v = .int .i64 (k : Nat) ∧ (c :: l).all lettB = l2.all lettB) (fun v => s.size - (intOf v).toNat)
    case atStart => exact ⟨0, c :: l, HCL.out.2, rfl, rfl⟩
    case round =>
      obtain ⟨k, l2, ha, rfl, hl⟩ := hrel; have hlen := ha.len; have HL : Hid (At s k l2 ∧ (c :: l).all lettB = l2.all lettB) := ⟨ha, hl⟩; clear ha hl
      cases l2 with
      | nil =>
        simp at hlen; (have hd : decide ((k : Int) < (s.size : Int)) = false := by simp; omega); go_wp2_with fail; go_ret
        exact ⟨ret_bool (by rw [HR.out, HL.out.2]; rfl), rfl⟩
      | cons x l2 =>
        simp at hlen; (have hlt' : k < s.size := by omega); (have hlt : (k : Int) < (s.size : Int) := by omega); have hhd : s[k] = x := HL.out.1.head hlt'; (have hlc : ∀ w, Calls Tryz.prog 163 #[.int .u8 (s[k].toNat : Int)] w fun e w' => e = .returned (.bool (lettB x)) ∧ w' = w := fun w => by rw [hhd]; exact lett_any x w); (have HLc : Hid (∀ w, Calls Tryz.prog 163 #[.int .u8 (s[k].toNat : Int)] w fun e w' => e = .returned (.bool (lettB x)) ∧ w' = w) := hlc); clear hhd hlc
        rcases hxb : lettB x with _ | _
        · have HN : Hid ((c :: l).all lettB = false) := by show _ = _; rw [HL.out.2, List.all_cons, hxb]; rfl
          rw [hxb] at HLc; clear hxb; go_wp2_with (go_at_call 163; refine (HLc.out _).mono ?_; rintro e w2 ⟨rfl, rfl⟩); go_ret; (exact ⟨ret_bool (by rw [HR.out, HN.out]), rfl⟩)
        · have HN : Hid (At s (k + 1) l2 ∧ (c :: l).all lettB = l2.all lettB) := ⟨HL.out.1.cons, by rw [HL.out.2, List.all_cons, hxb]; rfl⟩
          rw [hxb] at HLc; clear hxb; go_wp2_with (go_at_call 163; refine (HLc.out _).mono ?_; rintro e w2 ⟨rfl, rfl⟩)
          go_round
          case rel => exact ⟨k + 1, l2, HN.out.1, by go_num, HN.out.2⟩
          case measure => simp [intOf]; omega
/-- A variable or a big name. -/
def anyB (l : List UInt8) : Bool := isNm l || isBg l
set_option maxHeartbeats 1000000 in
theorem anyName_any (s : ByteArray) (w : World) (hs : s.size ≤ maxLen) :
    Calls Tryz.prog 161 #[.string s] w fun e w' => e = .returned (.bool (anyB s.data.toList)) ∧ Below w.heap.size w w' := by
  (have HV : Hid (∀ w, Calls Tryz.prog 62 #[.string s] w fun e w' => e = .returned (.bool (isNm s.data.toList)) ∧ Below w.heap.size w w') := fun w => var_any s hs w); (have HBg : Hid (∀ w, Calls Tryz.prog 109 #[.string s] w fun e w' => e = .returned (.bool (isBg s.data.toList)) ∧ w' = w) := fun w => big_any s w); unfold anyB; clear hs; generalize isNm s.data.toList = gb at *
  rcases hb : isBg s.data.toList with _ | _
  · rw [hb] at HBg
    clear hb; rw [Bool.or_false]
    go_enter Tryz.func161, Tryz.ntmps161
    go_wp2_with (first
      | (go_at_call 109; refine (HBg.out _).mono ?_; rintro e w2 ⟨rfl, h2⟩; obtain rfl : w = w2 := h2.symm)
      | (go_at_call 62; refine (HV.out _).mono ?_; rintro e w1 ⟨rfl, hb1⟩)
      | fail)
    go_ret; exact ⟨rfl, hb1⟩
  · rw [hb] at HBg
    clear hb; rw [Bool.or_true]
    go_enter Tryz.func161, Tryz.ntmps161
    go_wp2_with (first
      | (go_at_call 109; refine (HBg.out _).mono ?_; rintro e w2 ⟨rfl, h2⟩; obtain rfl : w = w2 := h2.symm)
      | fail)
    go_ret; exact ⟨rfl, Below.refl _ _⟩
end Go.Proofs.YtpiaeapgjljjhaaGreat
