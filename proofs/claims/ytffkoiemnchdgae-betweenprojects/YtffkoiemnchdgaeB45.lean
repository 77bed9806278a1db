/- Texts of one proof, one behind the other: BLC, BLT, BM3, BLP. -/
import Derived.Test.YtffkoiemnchdgaeB44
import Derived.Test.YtffkoiemnchdgaeB43
import Derived.Test.YtffkoiemnchdgaeB14
import Derived.Test.YtffkoiemnchdgaeB12
import Derived.Test.YtffkoiemnchdgaeB31
import Derived.Test.YtffkoiemnchdgaeB11
/- Walks: BetweenCraig. -/
namespace Go.Proofs.Ytffkoiemnchdgae
open Go.RowKit Go.Sort

theorem rep_leafW {w w' : World} {ok ok' : Nat → Prop} {k : Int} {n : ByteArray} {v : Value} (h : Rep w ok (.mk k n []) v) : Rep w' ok' (.mk k n []) v := by
  obtain ⟨sl, cap, h1, h2, h3, h4, h5⟩ := Rep.def.1 h; (exact Rep.def.2 ⟨sl, cap, h1, h2, h3, h4, fun hne => absurd rfl hne⟩)
end Go.Proofs.Ytffkoiemnchdgae
/- Walks: BetweenTwice. -/
namespace Go.Proofs.Ytffkoiemnchdgae
open Go.RowKit Go.Sort

/-- What Project answers, where f is plain and has few names. -/
def pjF (f : Fm) (l : List (List UInt8)) : Fm := if (vcode f l).1 = 0 then projF f l else zF
theorem project_any (f : Fm) (l : List (List UInt8)) (ht : (tgcode [f]).1 = 0) (hmx : ∀ t ∈ l, t.length ≤ maxLen) (v u : Value) (w : World) (hrep : Rep w (fun _ => True) f v) (hu : SL w u l) :
    Calls Try.prog 23 #[v, u] w fun e w' => ∃ x, e = .returned (.tuple #[x, .agg #[.int .i64 (vcode f l).1, .int .i64 (vcode f l).2]]) ∧ Rep w' (fun _ => True) (pjF f l) x ∧ Below w.heap.size w w' := by
  unfold pjF; by_cases hc : (vcode f l).1 = 0
  · rw [if_pos hc, vcode_zero hc]
    exact project_ok f l v u w hrep hu ht hmx hc
  · rw [if_neg hc]
    refine (project_bad2 f l v u w hrep hu ht hmx hc).mono ?_; rintro e w' ⟨rfl, hb⟩; exact ⟨_, rfl, rep_zF w', hb⟩
end Go.Proofs.Ytffkoiemnchdgae
/- Between formulas, the plain part: what a projection says, row by row; a long list that is copied. -/
namespace Go.Proofs.Ytffkoiemnchdgae
open Go.RowKit Go.Sort

theorem rowN_filterA (r : Nat) (p : List UInt8 → Bool) : ∀ (l : List (List UInt8)) (i : Nat), (∀ (j : Nat) (t : List UInt8), l[j]? = some t → p t = r.testBit (i + j)) → rowN r l i = l.filter p
  | [], i, _ => rfl
  | t :: l, i, h => by
    have h0 := h 0 t rfl
    have ih := rowN_filterA r p l (i + 1) fun j x hx => by
      (have := h (j + 1) x (by simpa using hx))
      rwa [show i + (j + 1) = i + 1 + j by omega] at this
    rw [rowN, List.filter_cons, h0, ih]; rfl
theorem rowN_filter {l : List (List UInt8)} (hn : l.Nodup) (r : Nat) : rowN r l 0 = l.filter (colP r l) := by
  (refine rowN_filterA r _ l 0 fun j t ht => ?_); have hm := List.mem_of_getElem? ht
  have hj : j < l.length := by
    rcases Nat.lt_or_ge j l.length with h | h
    · exact h
    · rw [List.getElem?_eq_none h] at ht; cases ht
  unfold colP; rw [if_pos hm, Nat.zero_add]
  congr 1
  rw [List.getElem?_eq_getElem hj] at ht; have e := Option.some.inj ht; rw [← e]; exact List.Nodup.idxOf_getElem hn j hj
/-- Is some row of all names one of f that has just these of the names that stay? -/
def anyP (f : Fm) (all ins row : List (List UInt8)) (j : Nat) : Bool := (List.range j).any fun m => tvL f (rowN m all 0) && decide ((rowN m all 0).filter (fun t => decide (t ∈ ins)) = row)
theorem anyP_succ (f : Fm) (all ins row : List (List UInt8)) (j : Nat) : anyP f all ins row (j + 1) = (anyP f all ins row j || (tvL f (rowN j all 0) && decide ((rowN j all 0).filter (fun t => decide (t ∈ ins)) = row))) := by
  unfold anyP; rw [List.range_succ, List.any_append]
  simp
theorem proj_rows {f : Fm} (hp : f.pcode.1 = 0) (U : List (List UInt8)) (k : Nat) : tvL (projF f U) (rowN k (keptN f U) 0) = anyP f (nmsU f) (keptN f U) (rowN k (keptN f U) 0) (2 ^ (nmsU f).length) := by
  have hf := (pc_fine hp).1; have hn := nmsU_nodup f; have hk : (keptN f U).Nodup := hn.filter _; (have hall : ∀ t ∈ nmsT f, t ∈ nmsU f := fun t ht => (nmsU_mem f t).2 ht); (have hin : ∀ t, t ∈ keptN f U ↔ t ∈ nmsU f ∧ t ∈ U := fun t => by unfold keptN; rw [List.mem_filter]; simp); (have hrow : ∀ t, t ∈ keptN f U → decide (t ∈ rowN k (keptN f U) 0) = colP k (keptN f U) t := fun t ht => row_digit hk k ht)
  have key : ∀ m, (rowN m (nmsU f) 0).filter (fun t => decide (t ∈ keptN f U)) = rowN k (keptN f U) 0 ↔ ∀ t ∈ keptN f U, colP m (nmsU f) t = colP k (keptN f U) t := fun m => by
    have e1 : (rowN m (nmsU f) 0).filter (fun t => decide (t ∈ keptN f U)) = (keptN f U).filter (colP m (nmsU f)) := by
      rw [rowN_filter hn, List.filter_filter]; unfold keptN; rw [List.filter_filter]; (refine List.filter_congr fun t ht => ?_); (have : decide (t ∈ (nmsU f).filter fun t => decide (t ∈ U)) = decide (t ∈ U) := by simp [List.mem_filter, ht]); rw [this, Bool.and_comm]
    rw [e1, rowN_filter hk]
    constructor
    · intro h t ht
      (have : (t ∈ (keptN f U).filter (colP m (nmsU f))) ↔ (t ∈ (keptN f U).filter (colP k (keptN f U))) := by rw [h]); rw [List.mem_filter, List.mem_filter] at this; simp only [ht, true_and] at this; exact Bool.eq_iff_iff.2 this
    · intro h
      exact List.filter_congr h
  rw [Bool.eq_iff_iff]; (show tv (fun t => decide (t ∈ rowN k (keptN f U) 0)) (projF f U) = true ↔ _); rw [projF_tv hp]; unfold anyP; rw [List.any_eq_true]
  constructor
  · rintro ⟨q2, h⟩
    (obtain ⟨m, hm, hc⟩ := row_with hn (mixQ U (fun t => decide (t ∈ rowN k (keptN f U) 0)) q2)); refine ⟨m, List.mem_range.2 hm, ?_⟩; (rw [tvL_rows hf hn hall, tv_same hf fun t ht => hc t (hall t ht), h, Bool.true_and]); (refine decide_eq_true ((key m).2 fun t ht => ?_)); have hh := (hin t).1 ht; rw [hc t hh.1]; unfold mixQ; rw [if_pos hh.2]; exact hrow t ht
  · rintro ⟨m, hm, h⟩
    rw [Bool.and_eq_true] at h; have h2 := (key m).1 (of_decide_eq_true h.2); refine ⟨colP m (nmsU f), ?_⟩; rw [← h.1, tvL_rows hf hn hall]; (refine tv_same hf fun t ht => ?_); unfold mixQ; by_cases hu : t ∈ U
    · rw [if_pos hu]
      have hk1 := (hin t).2 ⟨hall t ht, hu⟩; show decide (t ∈ rowN k (keptN f U) 0) = _; rw [hrow t hk1, h2 t hk1]
    · rw [if_neg hu]

theorem wpList_appL {ops : Array Oper} {rest : List Oper} {o : Oper} {a : Act} {w : World} {Q : Exit → Act → World → Prop} (hgd : o.guard = none) (s x : Operand) (hop : o.op = Op.call { callee := Callee.builtin Builtin.append, args := #[s, x], argTypes := #[43, 43] })
    (js : List (List UInt8)) (vx : Value) (hs : a.eval s = .slice none 0 0) (hx : a.eval x = vx) (hg : SL w vx js) (hl : js.length ≤ 8796093022208)
    (h : ∀ ad3 cp3 w3, SL w3 (.slice ad3 js.length cp3) js → Below w.heap.size w w3 → wpList Try.prog ops Q rest (a.put o.dst (.slice ad3 js.length cp3)) w3) : wpList Try.prog ops Q (o :: rest) a w := by
  (refine wpList_plain hgd fun K hK => ?_); obtain ⟨i0, hi, hz0, hz1, hz2⟩ := infoText; have hown : w.ownsRow w.heap.size 9 1 (.slice none 0 0) 0 [] := ⟨rfl, Or.inl ⟨rfl, rfl⟩⟩; by_cases hne : js = []
  · subst hne
    obtain ⟨x0, c, rfl, -⟩ := hg
    have hsrc : Src Try.prog i0.size 43 (.slice x0 0 c) 0 [] w := by
      cases x0 with
      | none => exact Src.ofNil w Try.underlying43 c
      | some ad => exact Src.ofSlice w Try.underlying43 ad 0 c [] (by simp) (fun j u h => by simp at h) (fun u h => by cases h)
    have hrun := run_append_nothing (P := Try.prog) w 43 43 o.type 9 i0 Try.underlying43 hi none 0 0 (Nat.le_refl _) (.slice x0 0 c) hsrc; have hx' : a.eval x = .slice x0 0 c := hx; (have h9 := hK _ _ (h none 0 w (SL.nil0 (by simp [maxLen])) (Below.refl _ _))); unfold Oper.wp; simp [execOp, hop, resolve, invoke, builtin, hs, hx', hrun, Result.andThen]; exact h9
  · obtain ⟨x0, c, rfl, -, -, hcs⟩ := hg
    obtain ⟨bs, offs, rfl, hc⟩ := hcs hne; have hpos : 0 < js.length := List.length_pos_iff.2 hne
    refine wp_append_lies w s x 43 hop w.heap.size 9 i0 (.string ⟨#[]⟩) 1 16 Try.underlying43 hi hz0 hz1 hz2 rfl (by decide) _ _ _ hs hown ⟨bs, offs, none⟩ js.length c (js.map encStr) hx (by simp) (fun j u hu => by
      rw [add_none]; rw [List.getElem?_map] at hu; obtain ⟨y, hy, rfl⟩ := Option.map_eq_some_iff.1 hu
      exact hc j y hy) (fun u hu => by
        obtain ⟨y, -, rfl⟩ := List.mem_map.1 hu
        rfl) hpos (by unfold maxLen; omega) (by omega) (Nat.le_refl _) _ rfl ?_
    intro g3 cp3 w3 hown3 hgrow hat hlt3; rw [Nat.zero_add, List.nil_append] at hown3; rw [Nat.zero_add]; (exact hK _ _ (h _ _ w3 (TL.sl (KS.list (B := w.heap.size) hown3)) ⟨hgrow.os, hgrow.tape, hgrow.output, hgrow.size, fun b hb => hgrow.block b hb fun e => by cases e⟩))

set_option maxHeartbeats 2000000 in
theorem textsD_any (l m : List (List UInt8)) (v u : Value) (w : World) (h : SL w v l) (h' : SL w u m) :
    Calls Try.prog 27 #[v, u] w fun e w' => e = .returned (.bool (decide (l = m))) ∧ Below w.heap.size w w' := by
  obtain ⟨ad, cap, rfl, h1, h2, h3⟩ := h; obtain ⟨ad', cap', rfl, h1', h2', h3'⟩ := h'; (have hlI : (l.length : Int) ≤ 9223372036854775807 := by unfold maxLen at h2; omega); have H3 : Hid (l ≠ [] → ∃ g off, ad = some ⟨g, off, none⟩ ∧ ∀ (j : Nat) (t : List UInt8), l[j]? = some t → w.cell? ⟨g, off + j, none⟩ = some (.string ⟨t.toArray⟩)) := h3; have H4 : Hid (m ≠ [] → ∃ g off, ad' = some ⟨g, off, none⟩ ∧ ∀ (j : Nat) (t : List UInt8), m[j]? = some t → w.cell? ⟨g, off + j, none⟩ = some (.string ⟨t.toArray⟩)) := h3'; (have HN0 : Hid (∀ i : Nat, l[i]? ≠ m[i]? → decide (l = m) = false) := fun i hi => decide_eq_false fun e => hi (by rw [e]))
  have HY0 : Hid (l.length = m.length → (∀ i : Nat, i < l.length → l[i]? = m[i]?) → decide (l = m) = true) := fun he hi => decide_eq_true (List.ext_getElem? fun i => by
    rcases Nat.lt_or_ge i l.length with h | h
    · exact hi i h
    · rw [List.getElem?_eq_none h, List.getElem?_eq_none (by omega)])
  (have HL0 : Hid (l.length ≠ m.length → decide (l = m) = false) := fun he => decide_eq_false fun e => he (by rw [e])); generalize decide (l = m) = res at *; clear h3 h3'; by_cases hl : l.length = m.length
  · have HY : Hid ((∀ i : Nat, i < l.length → l[i]? = m[i]?) → res = true) := HY0.out hl
    have HLe : Hid (l.length = m.length) := hl; generalize hgl : m.length = gl at *; subst hl; clear HY0 HL0
    go_enter Try.func27, Try.ntmps27
    go_wp2_with fail
    go_loopg [5] l.length (fun g c wr => ∃ i, i ≤ l.length ∧ g = l.length - i ∧ c = .int .i64 (i : Nat) ∧ Below w.heap.size w wr ∧ Hid (∀ j : Nat, j < i → l[j]? = m[j]?))
    case atStart => exact ⟨0, by omega, by omega, rfl, Below.refl _ _, fun j hj => absurd hj (Nat.not_lt_zero _)⟩
    case round =>
      obtain ⟨i, hi, hg, rfl, hbr, HN⟩ := hrel; have HG : Hid (gk = l.length - i) := hg; clear hg; by_cases hlt : i < l.length
      · obtain ⟨x, hx⟩ : ∃ x, l[i]? = some x := ⟨_, List.getElem?_eq_getElem hlt⟩
        (obtain ⟨y, hy⟩ : ∃ y, m[i]? = some y := ⟨_, List.getElem?_eq_getElem (by omega)⟩); (obtain ⟨g, off, rfl, hc⟩ := H3.out (fun e => by rw [e] at hlt; simp at hlt)); (obtain ⟨g', off', rfl, hc'⟩ := H4.out (fun e => by rw [e] at hy; simp at hy)); have g0 := (hbr.cell (p := ⟨g, off + i, none⟩) (lt_of_cell (hc i x hx))).trans (hc i x hx); have g1 := (hbr.cell (p := ⟨g', off' + i, none⟩) (lt_of_cell (hc' i y hy))).trans (hc' i y hy); (have hltI : (i : Int) < (l.length : Int) := by omega); (have hlc : (i : Int) < (cap : Int) := by omega); (have hlc' : (i : Int) < (cap' : Int) := by omega); have HI : Hid (i < l.length) := hlt; by_cases hxy : x = y
        · subst hxy
          have HNN : Hid (∀ j : Nat, j < i + 1 → l[j]? = m[j]?) := fun j hj => by
            rcases Nat.lt_or_ge j i with h | h
            · exact HN.out j h
            · obtain rfl : j = i := by omega
              rw [hx, hy]
          clear hc hc' hx hy H3 H4 HN0 HY hlt hi; go_wp2_with fail
          go_quiet (fail)
          go_wp2_with fail
          go_roundg (l.length - (i + 1))
          case measure => have := HG.out; have := HI.out; omega
          case rel => exact ⟨i + 1, HI.out, rfl, by go_num, below_drewN hbr _, HNN⟩
        · have HF : Hid (res = false) := HN0.out i (by rw [hx, hy]; simpa using hxy)
          have hne : ((⟨x.toArray⟩ : ByteArray).toList == (⟨y.toArray⟩ : ByteArray).toList) = false := by
            rw [beq_eq_false_iff_ne, Ne, txt_eq]; exact hxy
          generalize hb : (⟨x.toArray⟩ : ByteArray) = X at *; generalize hb2 : (⟨y.toArray⟩ : ByteArray) = Y at *; clear hb hb2 hc hc' hx hy H3 H4 HN0 HY hlt hi; go_wp2_with fail
          go_quiet (fail)
          go_wp2_with fail; go_ret; (exact ⟨by rw [HF.out]; rfl, below_drewN hbr _⟩)
      · have HF : Hid (res = true) := HY.out fun j hj => HN.out j (by omega)
        (have hge : ¬ (i : Int) < (l.length : Int) := by omega); clear H3 H4 HN0 HY; go_wp2_with fail; go_ret; (exact ⟨by rw [HF.out]; rfl, hbr⟩)
  · have HF : Hid (res = false) := HL0.out hl
    (have hlI2 : ((l.length : Int) != (m.length : Int)) = true := by simp; omega); (have hlI3 : ¬ (l.length : Int) = (m.length : Int) := by omega); clear H3 H4 HN0 HY0 HL0
    go_enter Try.func27, Try.ntmps27
    go_wp2_with fail; go_ret; (exact ⟨by rw [HF.out]; rfl, Below.refl _ _⟩)
end Go.Proofs.Ytffkoiemnchdgae
/- Walks: BetweenProjects. -/
namespace Go.Proofs.Ytffkoiemnchdgae
open Go.RowKit Go.Sort

/-- What Project says, whatever f is. -/
def qcode (f : Fm) (l : List (List UInt8)) : Int × Int := if (tgcode [f]).1 = 0 then vcode f l else tgcode [f]
def qF (f : Fm) (l : List (List UInt8)) : Fm := if (qcode f l).1 = 0 then projF f l else zF
theorem projectQ (f : Fm) (l : List (List UInt8)) (hmx : ∀ t ∈ l, t.length ≤ maxLen) (v u : Value) (w : World) (hrep : Rep w (fun _ => True) f v) (hu : SL w u l) :
    Calls Try.prog 23 #[v, u] w fun e w' => ∃ x, e = .returned (.tuple #[x, .agg #[.int .i64 (qcode f l).1, .int .i64 (qcode f l).2]]) ∧ Rep w' (fun _ => True) (qF f l) x ∧ Below w.heap.size w w' := by
  unfold qF qcode; by_cases ht : (tgcode [f]).1 = 0
  · rw [if_pos ht]
    exact project_any f l ht hmx v u w hrep hu
  · rw [if_neg ht, if_neg ht]
    refine (project_bad1 f l v u w hrep hu ht).mono ?_; rintro e w' ⟨rfl, hb⟩; exact ⟨_, rfl, rep_zF w', hb⟩

set_option maxRecDepth 10000 in
set_option maxHeartbeats 16000000 in
theorem projects_law (f : Fm) (names : List (List UInt8)) (v u : Value) (w : World) (hv : Rep w (fun _ => True) f v) (hu : SL w u names) (hmx : ∀ t ∈ names, t.length ≤ maxLen) (hla : names.length ≤ 8796093022208) :
    Calls Try.prog 5 #[v, u] w fun e w' => e = .returned (.bool true) ∧ Below w.heap.size w w' := by
  (have HBe : Hid (∀ W, Calls Try.prog 12 #[] W _) := fun W => betweenBegun_any W); (have HVf : Hid (∀ v W, Rep W (fun _ => True) f v → Calls Try.prog 13 #[v, .int .i64 0] W _) := fun v W h => vast2_any f v W h); (have HOw : Hid (Slim f → ∀ v W, Rep W (fun _ => True) f v → Calls Try.prog 15 #[v] W _) := fun hs v W h => own_any f v W hs h); (have HBf : Hid (∀ v W, FL W v [f] → Calls Try.prog 16 #[v] W _) := fun v W h => bfault_any [f] (by simp) v W h); (have HPj : Hid (∀ v u W, Rep W (fun _ => True) f v → SL W u names → Calls Try.prog 23 #[v, u] W _) := fun v u W h h' => projectQ f names hmx v u W h h'); (have HF : Hid (∀ c a W, Calls Try.prog 19 #[.int .i64 c, .int .i64 a] W fun e w' => e = .returned (.agg #[.int .i64 c, .int .i64 a]) ∧ Below W.heap.size W w') := fun c a W => mkF_any c a W); have HNmx : Hid (∀ t ∈ names, t.length ≤ maxLen) := hmx; (have HTz : Hid ((tgcode [f]).1 = 0 → tgcode [f] = (0, 0)) := fun h => tg_zero h)
  have HTn : Hid ((tgcode [f]).1 ≠ 0 → qcode f names = tgcode [f] ∧ qF f names = zF) := fun h => by
    (have h1 : qcode f names = tgcode [f] := by unfold qcode; rw [if_neg h]); (exact ⟨h1, by unfold qF; rw [h1, if_neg h]⟩)
  have HQv : Hid ((tgcode [f]).1 = 0 → (1000 < names.length → qcode f names = (2, 0)) ∧ (names.length ≤ 1000 → qcode f names = badTo names names.length)) := fun h => by
    (have h1 : qcode f names = vcode f names := by unfold qcode; rw [if_pos h]); (have hp := tg_plain h (f := f) (by simp)); (refine ⟨fun hl => ?_, fun hl => ?_⟩)
    · rw [h1]; unfold vcode; rw [if_pos hp, if_pos hl]
    · rw [h1]; exact vcode_plain (pcode_ok hp).2.2 names hl
  (have HDz0 : Hid ((qcode f names).1 ≠ 0 → qF f names = zF) := fun h => by unfold qF; rw [if_neg h])
  have HOk0 : Hid ((tgcode [f]).1 = 0 → (qcode f names).1 = 0 → (∀ v W, FL W v [f] → Calls Try.prog 17 #[v] W fun e w' => ∃ x, e = .returned x ∧ TL w' x (nmsU f) ∧ Below W.heap.size W w') ∧
      (∀ v u W, Rep W (fun _ => True) (qF f names) v → SL W u (keptN f names) → Calls Try.prog 21 #[v, u] W fun e w' => e = .returned (.bool true) ∧ Below W.heap.size W w') ∧
      (∀ l v u W, Rep W (fun _ => True) (qF f names) v → SL W u l → Calls Try.prog 26 #[v, u] W fun e w' => e = .returned (.bool (tvL (qF f names) l)) ∧ Below W.heap.size W w') ∧
      (∀ l v u W, Rep W (fun _ => True) f v → SL W u l → Calls Try.prog 26 #[v, u] W fun e w' => e = .returned (.bool (tvL f l)) ∧ Below W.heap.size W w') ∧
      (∀ j, tvL (qF f names) (rowN j (keptN f names) 0) = anyP f (nmsU f) (keptN f names) (rowN j (keptN f names) 0) (2 ^ (nmsU f).length)) ∧ (nmsU f).length ≤ 6 ∧ keptN f names = (nmsU f).filter fun t => decide (t ∈ names)) := fun ht hc => by
    (have hp := tg_plain ht (f := f) (by simp)); (have h6 := nmsU_six ht (f := f) (by simp)); have hm := projF_made hp h6 names; (have e : qF f names = projF f names := by unfold qF; rw [if_pos hc]); rw [e]; (exact ⟨fun v W h => namesIn_any f (pc_fine hp).2 v W h, fun v u W h h' => plainAns_any _ _ _ 379 hm (by omega) (fun _ h => h) v u W h h', fun l v u W h h' => trueR_any l _ v u W hm.fine h h', fun l v u W h h' => trueR_any l f v u W (pc_fine hp).1 h h', fun j => proj_rows hp names j, h6, rfl⟩)
  generalize tgcode [f] = tgc at *; generalize hqc : qcode f names = qc at *; clear hqc; generalize qF f names = D at *; generalize keptN f names = UC at *; generalize nmsU f = UF at *; obtain ⟨k, n, ks⟩ := f; obtain ⟨sl, cap, rfl⟩ := slice_shape hv; (have HRf : Hid (Rep w (fun _ => True) (.mk k n ks) (.agg #[.int .i64 k, .string n, .slice sl ks.length cap])) := hv); have HNm : Hid (SL w u names) := hu; have HLa : Hid (names.length ≤ 8796093022208) := hla; (have hlaI : (names.length : Int) ≤ 8796093022208 := by omega); obtain ⟨adn, cpn, rfl, hn1, hn2, hn3⟩ := hu; have HN3 : Hid (names ≠ [] → ∃ g off, adn = some ⟨g, off, none⟩ ∧ ∀ (j : Nat) (t : List UInt8), names[j]? = some t → w.cell? ⟨g, off + j, none⟩ = some (.string ⟨t.toArray⟩)) := hn3; (have hlcI : (names.length : Int) ≤ (cpn : Int) := by omega); have hB0 := below_more (Below.refl _ w) (.cells #[.int .i64 k, .string n, .slice sl ks.length cap] 24 (0, 0)); clear hv hmx hn1 hn2 hn3 hla
  go_enter Try.func5, Try.ntmps5
  go_wp2_with fail; refine (HBe.out _).mono ?_; rintro e w1 ⟨rfl, hb1⟩; have HB1 : Hid (Below w.heap.size w w1) := below_join hB0 hb1; have Q0 : Hid (w1.heap[w.heap.size]? = some (.cells #[.int .i64 k, .string n, .slice sl ks.length cap] 24 (0, 0))) := below_keep hb1 (blk_new w _); clear hb1 hB0 HBe; obtain ⟨a0, a1, a2, -⟩ := blk3 Q0.out; go_wp2_with fail; refine (HVf.out _ _ (HRf.out.up HB1.out)).mono ?_; rintro e w2 ⟨⟨bb, rfl, hbb⟩, hb2⟩; have HB2 : Hid (Below w.heap.size w w2) := below_join HB1.out hb2; have R0 : Hid (w2.heap[w.heap.size]? = some (.cells #[.int .i64 k, .string n, .slice sl ks.length cap] 24 (0, 0))) := below_keep hb2 Q0.out; clear hb2 a0 a1 a2 Q0 HB1 HVf
  cases bb
  case true =>
    clear hbb; go_wp2_with fail; go_ret; exact ⟨rfl, HB2.out⟩
  case false =>
    (have HOf : Hid (∀ v W, Rep W (fun _ => True) (.mk k n ks) v → Calls Try.prog 15 #[v] W fun e w' => ∃ u, e = .returned u ∧ Rep w' (W.heap.size ≤ ·) (.mk k n ks) u ∧ Below W.heap.size W w') := HOw.out (hbb rfl)); clear hbb HOw; obtain ⟨a0, a1, a2, -⟩ := blk3 R0.out; go_wp2_with fail; refine (HOf.out _ _ (HRf.out.up HB2.out)).mono ?_; rintro e w3 ⟨uo, rfl, huo, hb3⟩; obtain ⟨so, co, rfl⟩ := slice_shape huo; (have HRo : Hid (Rep w3 (fun _ => True) (.mk k n ks) (.agg #[.int .i64 k, .string n, .slice so ks.length co])) := huo.weak fun _ _ _ => trivial); have HB3 : Hid (Below w.heap.size w w3) := below_join HB2.out hb3; have S0 : Hid (w3.heap[w.heap.size]? = some (.cells #[.int .i64 k, .string n, .slice sl ks.length cap] 24 (0, 0))) := below_keep hb3 R0.out; clear hb3 huo a0 a1 a2 R0 HB2 HOf
    go_wp2_with (first
      | (at_builtin
         refine wpList_appL rfl _ _ rfl names _ rfl rfl (HNm.out.up HB3.out) HLa.out ?_; intro adc cpc w4 hs4 hb4; have HS4 : Hid (SL w4 (.slice adc names.length cpc) names) := hs4; (have HRo4 : Hid (Rep w4 (fun _ => True) (.mk k n ks) (.agg #[.int .i64 k, .string n, .slice so ks.length co])) := HRo.out.up hb4); have HB4 : Hid (Below w.heap.size w w4) := below_join HB3.out hb4; have T0 : Hid (w4.heap[w.heap.size]? = some (.cells #[.int .i64 k, .string n, .slice sl ks.length cap] 24 (0, 0))) := below_keep hb4 S0.out
         clear hs4 hb4)
      | fail)
    refine (HPj.out _ _ _ HRo4.out HS4.out).mono ?_; rintro e w5 ⟨x, rfl, hx, hb5⟩
    rcases hED : D with ⟨kh, nh, ksh⟩
    have hx2 := hx; rw [hED] at hx2; obtain ⟨sh, ch, rfl⟩ := slice_shape hx2; (have HRh : Hid (Rep w5 (fun _ => True) D (.agg #[.int .i64 kh, .string nh, .slice sh ksh.length ch])) := hx); have HDe : Hid (D = .mk kh nh ksh) := hED; have HB5 : Hid (Below w.heap.size w w5) := below_join HB4.out hb5; have V0 : Hid (w5.heap[w.heap.size]? = some (.cells #[.int .i64 k, .string n, .slice sl ks.length cap] 24 (0, 0))) := below_keep hb5 T0.out; clear hb5 hx hx2 hED S0 T0 HB3 HB4 HRo HRo4 HS4 HPj; obtain ⟨ic, jc⟩ := qc; simp only
    go_upto_region 6 with fail
    obtain ⟨Y, hY⟩ : ∃ Y, Y = (w5.alloc (.cells #[.int .i64 kh, .string nh, .slice sh ksh.length ch] 24 (0, 0))).alloc (.cells #[.int .i64 ic, .int .i64 jc] 33 (0, 0)) := ⟨_, rfl⟩; rw [← hY]; (have hbY : Below w5.heap.size w5 Y := by rw [hY]; exact below_more (below_more (Below.refl _ _) _) _); (have Y5 : Hid (Y.heap[w5.heap.size]? = some (.cells #[.int .i64 kh, .string nh, .slice sh ksh.length ch] 24 (0, 0))) := by rw [hY]; exact alloc_keep (blk_new w5 _) _); (have Y6 : Hid (Y.heap[w5.heap.size + 1]? = some (.cells #[.int .i64 ic, .int .i64 jc] 33 (0, 0))) := by rw [hY]; exact blk_2nd w5 _ _); have Y0 : Hid (Y.heap[w.heap.size]? = some (.cells #[.int .i64 k, .string n, .slice sl ks.length cap] 24 (0, 0))) := below_keep hbY V0.out; have HBY : Hid (Below w.heap.size w Y) := below_join HB5.out hbY; (have HRhY : Hid (Rep Y (fun _ => True) D (.agg #[.int .i64 kh, .string nh, .slice sh ksh.length ch])) := HRh.out.up hbY); obtain ⟨b5, hb5e⟩ : ∃ b5, b5 = w5.heap.size := ⟨_, rfl⟩; obtain ⟨b6, hb6e⟩ : ∃ b6, b6 = w5.heap.size + 1 := ⟨_, rfl⟩; rw [← hb5e] at Y5; rw [← hb6e] at Y6; rw [← hb6e, ← hb5e]; clear hY hbY V0 HB5 hb5e hb6e; obtain ⟨a0, a1, a2, -⟩ := blk3 Y0.out; go_wp2_with fail; have hbm : Below Y.heap.size Y (Y.alloc (.cells #[.int .i64 k, .string n, .slice sl ks.length cap] 24 (0, 0))) := (Below.refl _ _).alloc (Nat.le_refl _) _; refine (HBf.out _ _ (FL.alone (blk_new Y _) ((HRf.out.up HBY.out).up hbm))).mono ?_; rintro e w6 ⟨rfl, hb6⟩; have HB6 : Hid (Below Y.heap.size Y w6) := below_join hbm hb6; have y5 : b5 < w6.heap.size := lt_of_block (below_keep HB6.out Y5.out); have y6 : b6 < w6.heap.size := lt_of_block (below_keep HB6.out Y6.out); have y0 : w.heap.size < w6.heap.size := lt_of_block (below_keep HB6.out Y0.out); clear hb6 hbm a0 a1 a2; by_cases htg : tgc.1 = 0
    · have htz : tgc = (0, 0) := HTz.out htg
      subst htz; obtain ⟨hq1, hq2⟩ := HQv.out rfl; have hok := HOk0.out rfl; clear HTz HTn HQv HOk0 htg; simp only; obtain ⟨G, hG⟩ : ∃ G, G = w6.alloc (.cells #[.int .i64 0, .int .i64 0] 33 (0, 0)) := ⟨_, rfl⟩; (have hbG : Below w6.heap.size w6 G := by rw [hG]; exact (Below.refl _ _).alloc (Nat.le_refl _) _); (have G7 : Hid (G.heap[w6.heap.size]? = some (.cells #[.int .i64 0, .int .i64 0] 33 (0, 0))) := by rw [hG]; exact blk_new w6 _); have HBG : Hid (Below Y.heap.size Y G) := below_join HB6.out hbG; obtain ⟨o0, o1, o2, o3⟩ := blk2 G7.out; by_cases hl : 1000 < names.length
      · have hqc := hq1 hl
        have hic : ic = 2 ∧ jc = 0 := ⟨congrArg Prod.fst hqc, congrArg Prod.snd hqc⟩; obtain ⟨rfl, rfl⟩ := hic; (have HDz : Hid (D = zF) := HDz0.out (by decide)); (have hlI : (1000 : Int) < (names.length : Int) := by omega); clear hq1 hq2 hok hqc hl HDz0
        go_upto_region 8 with fail
        rw [← hG]; clear hG hbG; go_wp2_with fail; refine (HF.out _ _ _).mono ?_; rintro e w7 ⟨rfl, hb7⟩; have HB7 : Hid (Below Y.heap.size Y w7) := below_join HBG.out hb7; have q7 := below_keep hb7 G7.out; have s7 := set2 q7 (.int .i64 2) (.int .i64 0); (have n5 := (far2 (W := w7) (r := w6.heap.size) (x := b5) (by omega) (.int .i64 2) (.int .i64 0)).trans (below_keep HB7.out Y5.out)); (have n6 := (far2 (W := w7) (r := w6.heap.size) (x := b6) (by omega) (.int .i64 2) (.int .i64 0)).trans (below_keep HB7.out Y6.out)); (have bN := below_put2 (w := w) (r := w6.heap.size) (by omega) (below_join HBY.out HB7.out) (.int .i64 2) (.int .i64 0)); clear o0 o1 o2 o3 hb7; obtain ⟨o0, o1, o2, o3⟩ := blk2 q7
        go_upto_region 9 with fail
        obtain ⟨F, hF⟩ : ∃ F, F = (w7.setCell ⟨w6.heap.size, 0, none⟩ (.int .i64 2)).setCell ⟨w6.heap.size, 1, none⟩ (.int .i64 0) := ⟨_, rfl⟩; rw [← hF] at s7 n5 n6 bN ⊢; have N5 : Hid (F.heap[b5]? = some _) := n5; have N6 : Hid (F.heap[b6]? = some _) := n6; have N7 : Hid (F.heap[w6.heap.size]? = some _) := s7; have HBN : Hid (Below w.heap.size w F) := bN; clear hF s7 n5 n6 bN q7 o0 o1 o2 o3; (have zl : (0 : Int) < (names.length : Int) := by omega); go_wp2_with fail
        go_loopg [8] 1 (fun g c wr => g = 1 ∧ c = .int .i64 0 ∧ wr = F)
        case atStart => exact ⟨rfl, rfl, rfl⟩
        case round =>
          obtain ⟨rfl, rfl, hw9⟩ := hrel; have hw8 := hw9.symm; subst hw8; obtain ⟨c0, c1, c2, -⟩ := blk3 N5.out; obtain ⟨m0, m1, -⟩ := blk2 N6.out; obtain ⟨o0, o1, -⟩ := blk2 N7.out; have hDz := HDe.out; rw [HDz.out] at hDz; unfold zF at hDz
          injection hDz with e1 e2 e3
          subst e1 e2 e3; (have hrF : Rep F (fun _ => True) (.mk 0 ⟨#[]⟩ []) (.agg #[.int .i64 0, .string ⟨#[]⟩, .slice sh 0 ch]) := rep_leafW (w := w5) (by have := HRh.out; rw [HDz.out] at this; exact this)); (have HRF : Hid (Rep F (fun _ => True) (.mk 0 ⟨#[]⟩ []) (.agg #[.int .i64 0, .string ⟨#[]⟩, .slice sh 0 ch])) := hrF); clear hrF; go_wp2_with fail; refine (none_any 0 ⟨#[]⟩ [] _ _ HRF.out).mono ?_; rintro e w9 ⟨rfl, hb9⟩; have B9 := below_join HBN.out hb9; clear hb9 c0 c1 c2 m0 m1 o0 o1; go_wp2_with fail; go_ret; exact ⟨rfl, B9⟩
      · have hqc := hq2 (by omega)
        (have hlI : ¬ (1000 : Int) < (names.length : Int) := by omega); have HQc : Hid ((ic, jc) = badTo names names.length) := hqc; have hok2 := hok; have HOk3 : Hid (ic = 0 → _) := hok2; clear hq1 hq2 hok hok2 hqc hl
        go_upto_region 9 with fail
        rw [← hG]; clear hG hbG o0 o1 o2 o3; (have hB7 : Hid (badTo names 0 = (0, 0)) := by show _ = _; unfold badTo; simp); go_wp2_with fail
        go_loopg [8] names.length (fun g c wr => ∃ j, j ≤ names.length ∧ g = names.length - j ∧ c = .int .i64 (j : Nat) ∧ Hid (Below Y.heap.size Y wr) ∧ Hid (wr.heap[w6.heap.size]? = some (.cells #[.int .i64 (badTo names j).1, .int .i64 (badTo names j).2] 33 (0, 0))))
        case atStart => exact ⟨0, by omega, by omega, rfl, HBG, by show _ = _; rw [hB7.out]; exact G7.out⟩
        case round =>
          obtain ⟨j, hj, hg, rfl, HBr, HQr⟩ := hrel; have HG9 : Hid (gk = names.length - j) := hg; clear hg; by_cases hbj : (badTo names j).1 = 0
          · have hany : (names.take j).any (fun t => !isNm t) = false := by
              cases hx : (names.take j).any (fun t => !isNm t)
              · rfl
              · unfold badTo at hbj; rw [hx] at hbj; cases hbj
            (have hb0 : badTo names j = (0, 0) := by unfold badTo; rw [hany]; rfl); rw [hb0] at HQr; simp only at HQr; by_cases hlt : j < names.length
            · obtain ⟨t, ht⟩ : ∃ x, names[j]? = some x := ⟨_, List.getElem?_eq_getElem hlt⟩
              (obtain ⟨gn, offn, rfl, hcn⟩ := HN3.out (fun e => by rw [e] at hlt; simp at hlt)); have g0 : wr.cell? ⟨gn, offn + j, none⟩ = some (.string ⟨t.toArray⟩) := ((below_join HBY.out HBr.out).cell (p := ⟨gn, offn + j, none⟩) (lt_of_cell (hcn j t ht))).trans (hcn j t ht); have hnx := badTo_next ht hany; (have HIs : Hid (Calls Try.prog 24 #[.string ⟨t.toArray⟩] wr _) := refName_any ⟨t.toArray⟩ (by simpa [ByteArray.size] using HNmx.out t (List.mem_of_getElem? ht)) wr); have HJ : Hid (j < names.length) := hlt; (have hltI : (j : Int) < (names.length : Int) := by omega); (have hltc : (j : Int) < (cpn : Int) := by omega); obtain ⟨o0, o1, o2, o3⟩ := blk2 HQr.out; clear hcn ht hlt hj hany hb0 hbj
              cases hnm : isNm t
              · rw [hnm] at hnx
                have HNx : Hid (badTo names (j + 1) = (8, ((j : Nat) : Int))) := hnx; have hIs := HIs.out; have hnm' : isNm (⟨t.toArray⟩ : ByteArray).data.toList = false := hnm; rw [hnm'] at hIs; have HIs2 : Hid (Calls Try.prog 24 #[.string ⟨t.toArray⟩] wr _) := hIs; generalize (⟨t.toArray⟩ : ByteArray) = T at *; clear hnx hIs HIs hnm hnm'; go_wp2_with fail; refine HIs2.out.mono ?_; rintro e w7 ⟨rfl, hw7⟩; have hw7' := hw7.symm; subst hw7'; go_wp2_with fail; refine (HF.out _ _ _).mono ?_; rintro e w8 ⟨rfl, hb8⟩; have q8 := below_keep hb8 HQr.out; have HB8 : Hid (Below Y.heap.size Y w8) := below_join HBr.out hb8; have hyY : Y.heap.size ≤ w6.heap.size := HB6.out.size; have HQ8 : Hid (((w8.setCell ⟨w6.heap.size, 0, none⟩ (.int .i64 8)).setCell ⟨w6.heap.size, 1, none⟩ (.int .i64 (j : Nat))).heap[w6.heap.size]? = some (.cells #[.int .i64 8, .int .i64 (j : Nat)] 33 (0, 0))) := set2 q8 _ _; have HB9 : Hid (Below Y.heap.size Y ((w8.setCell ⟨w6.heap.size, 0, none⟩ (.int .i64 8)).setCell ⟨w6.heap.size, 1, none⟩ (.int .i64 (j : Nat)))) := below_put2 hyY HB8.out _ _; clear o0 o1 o2 o3 hb8; obtain ⟨o0, o1, o2, o3⟩ := blk2 q8; go_wp2_with fail
                go_roundg (names.length - (j + 1))
                case measure => have := HG9.out; have := HJ.out; omega
                case rel => exact ⟨j + 1, HJ.out, rfl, by go_num, HB9, by show _ = _; rw [HNx.out]; exact HQ8.out⟩
              · rw [hnm] at hnx
                have HNx : Hid (badTo names (j + 1) = (0, 0)) := hnx; have hIs := HIs.out; have hnm' : isNm (⟨t.toArray⟩ : ByteArray).data.toList = true := hnm; rw [hnm'] at hIs; have HIs2 : Hid (Calls Try.prog 24 #[.string ⟨t.toArray⟩] wr _) := hIs; generalize (⟨t.toArray⟩ : ByteArray) = T at *; clear hnx hIs HIs hnm hnm'; go_wp2_with fail; refine HIs2.out.mono ?_; rintro e w7 ⟨rfl, hw7⟩; have hw7' := hw7.symm; subst hw7'; go_wp2_with fail
                go_roundg (names.length - (j + 1))
                case measure => have := HG9.out; have := HJ.out; omega
                case rel => exact ⟨j + 1, HJ.out, rfl, by go_num, HBr, by show _ = _; rw [HNx.out]; exact HQr.out⟩
            · have hjj : j = names.length := by omega
              subst hjj; have hqe := HQc.out; rw [hb0] at hqe; have hic : ic = 0 ∧ jc = 0 := ⟨congrArg Prod.fst hqe, congrArg Prod.snd hqe⟩; obtain ⟨rfl, rfl⟩ := hic; have hok4 := HOk3.out rfl; (have HOk : Hid (True → _) := fun _ => hok4); (have hge : ¬ (names.length : Int) < (names.length : Int) := by omega); obtain ⟨F, hF⟩ : ∃ F, F = wr := ⟨_, rfl⟩; subst hF; have N0 : Hid (F.heap[w.heap.size]? = some (.cells #[.int .i64 k, .string n, .slice sl ks.length cap] 24 (0, 0))) := below_keep HBr.out Y0.out; have N5 : Hid (F.heap[b5]? = some (.cells #[.int .i64 kh, .string nh, .slice sh ksh.length ch] 24 (0, 0))) := below_keep HBr.out Y5.out; have N6 : Hid (F.heap[b6]? = some (.cells #[.int .i64 0, .int .i64 0] 33 (0, 0))) := below_keep HBr.out Y6.out; have N7 : Hid (F.heap[w6.heap.size]? = some (.cells #[.int .i64 0, .int .i64 0] 33 (0, 0))) := HQr; have HBN : Hid (Below w.heap.size w F) := below_join HBY.out HBr.out; (have HRhF : Hid (Rep F (fun _ => True) D (.agg #[.int .i64 kh, .string nh, .slice sh ksh.length ch])) := HRhY.out.up HBr.out); clear hlt hj hany hb0 hbj hqe hok4 HOk3 HQc; obtain ⟨g1, g2, g3, g4, g5, g6, g7⟩ := HOk.out trivial; (have HNf : Hid (∀ v W, FL W v [.mk k n ks] → Calls Try.prog 17 #[v] W fun e w' => ∃ x, e = .returned x ∧ TL w' x UF ∧ Below W.heap.size W w') := g1); (have HCo : Hid (∀ l, l.length ≤ 6 → ∀ m v u W, SL W v l → SL W u m → Calls Try.prog 22 #[v, u] W fun e w' => ∃ x, e = .returned x ∧ TL w' x (l.filter fun t => decide (t ∈ m)) ∧ Below W.heap.size W w') := fun l hl m v u W h h' => common_any l m (by omega) v u W h h'); (have HPl : Hid (∀ v u W, Rep W (fun _ => True) D v → SL W u UC → Calls Try.prog 21 #[v, u] W fun e w' => e = .returned (.bool true) ∧ Below W.heap.size W w') := g2); (have HTh : Hid (∀ l v u W, Rep W (fun _ => True) D v → SL W u l → Calls Try.prog 26 #[v, u] W fun e w' => e = .returned (.bool (tvL D l)) ∧ Below W.heap.size W w') := g3); (have HTf : Hid (∀ l v u W, Rep W (fun _ => True) (.mk k n ks) v → SL W u l → Calls Try.prog 26 #[v, u] W fun e w' => e = .returned (.bool (tvL (.mk k n ks) l)) ∧ Below W.heap.size W w') := g4); have HEq : Hid (∀ j, tvL D (rowN j UC 0) = anyP (.mk k n ks) UF UC (rowN j UC 0) (2 ^ UF.length)) := g5; (have HU6 : Hid (UF.length ≤ 6 ∧ UC = UF.filter fun t => decide (t ∈ names)) := ⟨g6, g7⟩); clear g1 g2 g3 g4 g5 g6 g7 HOk; obtain ⟨c0, c1, c2, -⟩ := blk3 N0.out; obtain ⟨m0, m1, -⟩ := blk2 N6.out; obtain ⟨o0, o1, -⟩ := blk2 N7.out; go_wp2_with fail; have hbm : Below F.heap.size F (F.alloc (.cells #[.int .i64 k, .string n, .slice sl ks.length cap] 24 (0, 0))) := (Below.refl _ _).alloc (Nat.le_refl _) _; refine (HNf.out _ _ (FL.alone (blk_new F _) ((HRf.out.up HBN.out).up hbm))).mono ?_; rintro e wa ⟨xa, rfl, hxa, hba⟩; have HSa : Hid (SL wa xa UF) := hxa.sl; obtain ⟨ada, cpa, rfl, -⟩ := hxa; have HBa : Hid (Below F.heap.size F wa) := below_join hbm hba; clear hba hbm c0 c1 c2 m0 m1 o0 o1 HNf; go_wp2_with fail; refine (HCo.out UF HU6.out.1 names _ _ _ HSa.out (HNm.out.up (below_join HBN.out HBa.out))).mono ?_; rintro e wb ⟨xb, rfl, hxb, hbb⟩; rw [← HU6.out.2] at hxb; have HSb : Hid (SL wb xb UC) := hxb.sl; obtain ⟨adb, cpb, rfl, -⟩ := hxb; have HBb : Hid (Below F.heap.size F wb) := below_join HBa.out hbb; have HSa2 : Hid (SL wb (.slice ada UF.length cpa) UF) := HSa.out.up hbb; clear hbb HSa; obtain ⟨c0, c1, c2, -⟩ := blk3 (below_keep HBb.out N5.out); go_wp2_with fail; refine (HPl.out _ _ _ (HRhF.out.up HBb.out) HSb.out).mono ?_; rintro e wc ⟨rfl, hbc⟩; have HBc : Hid (Below F.heap.size F wc) := below_join HBb.out hbc; have SA : Hid (SL wc (.slice ada UF.length cpa) UF) := HSa2.out.up hbc; have SB : Hid (SL wc (.slice adb UC.length cpb) UC) := HSb.out.up hbc; have C0 : Hid (wc.heap[w.heap.size]? = some (.cells #[.int .i64 k, .string n, .slice sl ks.length cap] 24 (0, 0))) := below_keep HBc.out N0.out; have C5 : Hid (wc.heap[b5]? = some (.cells #[.int .i64 kh, .string nh, .slice sh ksh.length ch] 24 (0, 0))) := below_keep HBc.out N5.out; (have RHc : Hid (Rep wc (fun _ => True) D (.agg #[.int .i64 kh, .string nh, .slice sh ksh.length ch])) := HRhF.out.up HBc.out); (have RFc : Hid (Rep wc (fun _ => True) (.mk k n ks) (.agg #[.int .i64 k, .string n, .slice sl ks.length cap])) := (HRf.out.up HBN.out).up HBc.out)
              have HBwc : Hid (Below w.heap.size w wc) := below_join HBN.out HBc.out; (have hUC6 : UC.length ≤ 6 := by rw [HU6.out.2]; exact Nat.le_trans (List.length_filter_le _ _) HU6.out.1); have hUF6 := HU6.out.1; clear hbc c0 c1 c2 HSa2 HSb HPl; obtain ⟨hwF, hF1, hF2⟩ := shl_row UF.length hUF6; obtain ⟨hwC, hC1, hC2⟩ := shl_row UC.length hUC6; obtain ⟨MF, hMF⟩ : ∃ M, M = 2 ^ UF.length := ⟨_, rfl⟩; obtain ⟨MC, hMC⟩ : ∃ M, M = 2 ^ UC.length := ⟨_, rfl⟩; rw [← hMF] at hwF hF1 hF2 HEq; rw [← hMC] at hwC hC1 hC2; have HWF : Hid (wrap64 ((2 : Int) ^ UF.length) = ((MF : Nat) : Int)) := hwF; have HWC : Hid (wrap64 ((2 : Int) ^ UC.length) = ((MC : Nat) : Int)) := hwC; have hFI : (UF.length : Int) ≤ 6 := Int.ofNat_le.mpr hUF6; have hCI : (UC.length : Int) ≤ 6 := Int.ofNat_le.mpr hUC6; have HU66 : Hid (UC.length ≤ 6 ∧ UF.length ≤ 6) := ⟨hUC6, hUF6⟩; have HMM : Hid (1 ≤ MF ∧ MF ≤ 64 ∧ 1 ≤ MC ∧ MC ≤ 64) := ⟨hF1, hF2, hC1, hC2⟩; have hMCI : (MC : Int) ≤ 64 := Int.ofNat_le.mpr hC2; have hMFI : (MF : Int) ≤ 64 := Int.ofNat_le.mpr hF2; clear hwF hwC hMF hMC hUC6 hUF6 hF1 hF2 hC1 hC2 hlcI hlaI hlI hge y5 y6 y0; go_wp2_with fail
              go_loopg [11] MC (fun g cc wr => ∃ j, j ≤ MC ∧ g = MC - j ∧ cc = .int .i64 (j : Nat) ∧ Hid (Below wc.heap.size wc wr))
              case atStart => exact ⟨0, by have := HMM.out; omega, by omega, rfl, Below.refl _ _⟩
              case round =>
                obtain ⟨j, hj, hg, rfl, HBr⟩ := hrel; have HG : Hid (gk = MC - j) := hg; clear hg; by_cases hlt : j < MC
                · have hltI : (j : Int) < (MC : Int) := Int.ofNat_lt.mpr hlt
                  (have HJ : Hid (j < MC ∧ j ≤ 100000) := ⟨hlt, Nat.le_trans (Nat.le_of_lt hlt) (Nat.le_trans HMM.out.2.2.2 (by decide))⟩); clear hlt hj; have hwC := HWC.out; go_wp2_with fail; clear hwC; (refine (row_any j HJ.out.2 UC (by have := HU66.out; omega) _ _ (SB.out.up HBr.out)).mono ?_); rintro e wd ⟨yd, rfl, hyd, hbd⟩; have HYd : Hid (SL wd yd (rowN j UC 0)) := hyd.sl; obtain ⟨ady, cpy, rfl, -⟩ := hyd; have HBd : Hid (Below wc.heap.size wc wd) := below_join HBr.out hbd; have HEj : Hid (tvL D (rowN j UC 0) = anyP (.mk k n ks) UF UC (rowN j UC 0) MF) := HEq.out j; generalize rowN j UC 0 = R at *; clear hbd; go_wp2_with fail
                  go_loopg [14, 13] MF (fun g cc ss wr => ∃ i, i ≤ MF ∧ g = MF - i ∧ cc = .int .i64 (i : Nat) ∧ ss = .bool (anyP (.mk k n ks) UF UC R i) ∧ Hid (Below wd.heap.size wd wr))
                  case atStart => exact ⟨0, by omega, by omega, rfl, rfl, Below.refl _ _⟩
                  case round =>
                    obtain ⟨i, hi, hg2, rfl, rfl, HBs⟩ := hrel; have HG2 : Hid (gk = MF - i) := hg2; clear hg2; have HBe : Hid (Below wc.heap.size wc wr) := below_join HBd.out HBs.out; have HYr : Hid (SL wr (.slice ady R.length cpy) R) := HYd.out.up HBs.out; by_cases hlt2 : i < MF
                    · have hltI2 : (i : Int) < (MF : Int) := by omega
                      (have HJ2 : Hid (i < MF ∧ i ≤ 100000) := ⟨hlt2, by have := HMM.out; omega⟩); (have HA1 : Hid (anyP (.mk k n ks) UF UC R (i + 1) = (anyP (.mk k n ks) UF UC R i || (tvL (.mk k n ks) (rowN i UF 0) && decide ((rowN i UF 0).filter (fun t => decide (t ∈ UC)) = R)))) := anyP_succ _ _ _ _ _); (have hrl : (rowN i UF 0).length ≤ 6 := by have := rowN_len i UF 0; have := HU66.out; omega); generalize anyP (.mk k n ks) UF UC R i = aa at *; clear hlt2 hi; have hwF := HWF.out; go_wp2_with fail; clear hwF; (refine (row_any i HJ2.out.2 UF (by have := HU66.out; omega) _ _ (SA.out.up HBe.out)).mono ?_); rintro e w7 ⟨y7, rfl, hy7, hb7⟩; have HY7 : Hid (SL w7 y7 (rowN i UF 0)) := hy7.sl; obtain ⟨ad7, cp7, rfl, -⟩ := hy7; have HB7 : Hid (Below wc.heap.size wc w7) := below_join HBe.out hb7; have HB7s : Hid (Below wd.heap.size wd w7) := below_join HBs.out hb7; have HR7 : Hid (SL w7 (.slice ady R.length cpy) R) := HYr.out.up hb7; generalize rowN i UF 0 = O at *; clear hb7
                      cases aa
                      case true =>
                        (have HAv : Hid (anyP (.mk k n ks) UF UC R (i + 1) = true) := by have := HA1.out; rwa [Bool.true_or] at this); go_wp2_with fail
                        go_roundg (MF - (i + 1))
                        case measure => have := HG2.out; have := HJ2.out; omega
                        case rel => exact ⟨i + 1, HJ2.out.1, rfl, by go_num, by rw [HAv.out], HB7s⟩
                      case false =>
                        obtain ⟨d0, d1, d2, -⟩ := blk3 (below_keep HB7.out C0.out); go_wp2_with fail; refine (HTf.out O _ _ _ (RFc.out.up HB7.out) HY7.out).mono ?_; rintro e w8 ⟨rfl, hb8⟩; have HB8 : Hid (Below wc.heap.size wc w8) := below_join HB7.out hb8; have HB8s : Hid (Below wd.heap.size wd w8) := below_join HB7s.out hb8; have HR8 : Hid (SL w8 (.slice ady R.length cpy) R) := HR7.out.up hb8; have HY8 : Hid (SL w8 (.slice ad7 O.length cp7) O) := HY7.out.up hb8; clear hb8 d0 d1 d2; generalize tvL (.mk k n ks) O = tf at *
                        cases tf
                        case false =>
                          (have HAv : Hid (anyP (.mk k n ks) UF UC R (i + 1) = false) := by have := HA1.out; rwa [Bool.false_or, Bool.false_and] at this); go_wp2_with fail
                          go_roundg (MF - (i + 1))
                          case measure => have := HG2.out; have := HJ2.out; omega
                          case rel => exact ⟨i + 1, HJ2.out.1, rfl, by go_num, by rw [HAv.out], HB8s⟩
                        case true =>
                          go_wp2_with fail; refine (HCo.out O hrl UC _ _ _ HY8.out (SB.out.up HB8.out)).mono ?_; rintro e w9 ⟨x9, rfl, hx9, hb9⟩; (have HX9 : Hid (SL w9 x9 (O.filter fun t => decide (t ∈ UC))) := hx9.sl); obtain ⟨ad9, cp9, rfl, -⟩ := hx9; have HB9s : Hid (Below wd.heap.size wd w9) := below_join HB8s.out hb9; have HR9 : Hid (SL w9 (.slice ady R.length cpy) R) := HR8.out.up hb9; (have HAv : Hid (anyP (.mk k n ks) UF UC R (i + 1) = decide (O.filter (fun t => decide (t ∈ UC)) = R)) := by have := HA1.out; rwa [Bool.false_or, Bool.true_and] at this); (have HTx : Hid (∀ v u W, SL W v (O.filter fun t => decide (t ∈ UC)) → SL W u R → Calls Try.prog 27 #[v, u] W fun e w' => e = .returned (.bool (decide (O.filter (fun t => decide (t ∈ UC)) = R))) ∧ Below W.heap.size W w') := fun v u W h h' => textsD_any _ _ v u W h h'); (generalize decide (O.filter (fun t => decide (t ∈ UC)) = R) = dd at *); (generalize O.filter (fun t => decide (t ∈ UC)) = OF at *); clear hb9; go_wp2_with fail; refine (HTx.out _ _ _ HX9.out HR9.out).mono ?_; rintro e w10 ⟨rfl, hb10⟩; have HB10 : Hid (Below wd.heap.size wd w10) := below_join HB9s.out hb10; clear hb10; go_wp2_with fail
                          go_roundg (MF - (i + 1))
                          case measure => have := HG2.out; have := HJ2.out; omega
                          case rel => exact ⟨i + 1, HJ2.out.1, rfl, by go_num, by rw [HAv.out], HB10⟩
                    · have hii : i = MF := by omega
                      subst hii; (have hge : ¬ (i : Int) < (i : Int) := by omega); obtain ⟨d0, d1, d2, -⟩ := blk3 (below_keep HBe.out C5.out); (have HThR : Hid (∀ v u W, Rep W (fun _ => True) D v → SL W u R → Calls Try.prog 26 #[v, u] W fun e w' => e = .returned (.bool (tvL D R)) ∧ Below W.heap.size W w') := HTh.out R); have hEj := HEj.out; rw [hEj] at HThR; generalize anyP (.mk k n ks) UF UC R i = aa at *; clear hlt2 hi hEj; have hwF := HWF.out; go_wp2_with fail; clear hwF; refine (HThR.out _ _ _ (RHc.out.up HBe.out) HYr.out).mono ?_; rintro e w8 ⟨rfl, hb8⟩; have HB8 : Hid (Below wc.heap.size wc w8) := below_join HBe.out hb8; (have hne : (aa != aa) = false := by cases aa <;> rfl); clear hb8 d0 d1 d2; go_wp2_with fail
                      go_roundg (MC - (j + 1))
                      case measure => have := HG.out; have := HJ.out; omega
                      case rel => exact ⟨j + 1, HJ.out.1, rfl, by go_num, HB8⟩
                · have hge : ¬ (j : Int) < (MC : Int) := by omega
                  clear hlt; have hwC := HWC.out; go_wp2_with fail; go_ret; exact ⟨rfl, below_join HBwc.out HBr.out⟩
          · have hany : (names.take j).any (fun t => !isNm t) = true := by
              cases hx : (names.take j).any (fun t => !isNm t)
              · unfold badTo at hbj; rw [hx] at hbj; exact absurd rfl hbj
              · rfl
            have hst := badTo_stay hany hj; have hqe := HQc.out; rw [hst] at hqe; rw [← hqe] at HQr hbj; simp only at HQr hbj; have HDz : Hid (D = zF) := HDz0.out hbj; (have hcn : (ic == 0) = false := by simpa using hbj); (have hcm : (ic != 0) = true := by simpa using hbj); obtain ⟨F, hF⟩ : ∃ F, F = wr := ⟨_, rfl⟩; subst hF; have N5 : Hid (F.heap[b5]? = some (.cells #[.int .i64 kh, .string nh, .slice sh ksh.length ch] 24 (0, 0))) := below_keep HBr.out Y5.out; have N6 : Hid (F.heap[b6]? = some (.cells #[.int .i64 ic, .int .i64 jc] 33 (0, 0))) := below_keep HBr.out Y6.out; have N7 : Hid (F.heap[w6.heap.size]? = some (.cells #[.int .i64 ic, .int .i64 jc] 33 (0, 0))) := HQr; have HBN : Hid (Below w.heap.size w F) := below_join HBY.out HBr.out; (have hjI : (j : Int) ≤ (names.length : Int) := by omega); clear hany hst hqe hj HOk3 HQc; by_cases hlt : (j : Int) < (names.length : Int)
            · clear hjI
              obtain ⟨c0, c1, c2, -⟩ := blk3 N5.out; obtain ⟨m0, m1, -⟩ := blk2 N6.out; obtain ⟨o0, o1, -⟩ := blk2 N7.out; have hDz := HDe.out; rw [HDz.out] at hDz; unfold zF at hDz
              injection hDz with e1 e2 e3
              subst e1 e2 e3; (have hrF : Rep F (fun _ => True) (.mk 0 ⟨#[]⟩ []) (.agg #[.int .i64 0, .string ⟨#[]⟩, .slice sh 0 ch]) := rep_leafW (w := w5) (by have := HRh.out; rw [HDz.out] at this; exact this)); (have HRF : Hid (Rep F (fun _ => True) (.mk 0 ⟨#[]⟩ []) (.agg #[.int .i64 0, .string ⟨#[]⟩, .slice sh 0 ch])) := hrF); clear hrF; go_wp2_with fail; refine (none_any 0 ⟨#[]⟩ [] _ _ HRF.out).mono ?_; rintro e w9 ⟨rfl, hb9⟩; have B9 := below_join HBN.out hb9; clear hb9 c0 c1 c2 m0 m1 o0 o1; go_wp2_with fail; go_ret; exact ⟨rfl, B9⟩
            · clear hjI
              obtain ⟨c0, c1, c2, -⟩ := blk3 N5.out; obtain ⟨m0, m1, -⟩ := blk2 N6.out; obtain ⟨o0, o1, -⟩ := blk2 N7.out; have hDz := HDe.out; rw [HDz.out] at hDz; unfold zF at hDz
              injection hDz with e1 e2 e3
              subst e1 e2 e3; (have hrF : Rep F (fun _ => True) (.mk 0 ⟨#[]⟩ []) (.agg #[.int .i64 0, .string ⟨#[]⟩, .slice sh 0 ch]) := rep_leafW (w := w5) (by have := HRh.out; rw [HDz.out] at this; exact this)); (have HRF : Hid (Rep F (fun _ => True) (.mk 0 ⟨#[]⟩ []) (.agg #[.int .i64 0, .string ⟨#[]⟩, .slice sh 0 ch])) := hrF); clear hrF; go_wp2_with fail; refine (none_any 0 ⟨#[]⟩ [] _ _ HRF.out).mono ?_; rintro e w9 ⟨rfl, hb9⟩; have B9 := below_join HBN.out hb9; clear hb9 c0 c1 c2 m0 m1 o0 o1; go_wp2_with fail; go_ret; exact ⟨rfl, B9⟩
    · obtain ⟨hm1, hm2⟩ := HTn.out htg
      obtain ⟨tc, td⟩ := tgc; simp only at htg; have hic : ic = tc ∧ jc = td := ⟨congrArg Prod.fst hm1, congrArg Prod.snd hm1⟩; obtain ⟨rfl, rfl⟩ := hic; have HDz : Hid (D = zF) := hm2; (have hcn : (ic == 0) = false := by simpa using htg); (have hcm : (ic != 0) = true := by simpa using htg); clear hm1 hm2 HTz HTn HQv HOk0 HDz0; simp only; obtain ⟨F, hF⟩ : ∃ F, F = w6.alloc (.cells #[.int .i64 ic, .int .i64 jc] 33 (0, 0)) := ⟨_, rfl⟩; (have hbF : Below w6.heap.size w6 F := by rw [hF]; exact (Below.refl _ _).alloc (Nat.le_refl _) _); (have N7 : Hid (F.heap[w6.heap.size]? = some (.cells #[.int .i64 ic, .int .i64 jc] 33 (0, 0))) := by rw [hF]; exact blk_new w6 _); have hbG := below_join HB6.out hbF; have N5 : Hid (F.heap[b5]? = some (.cells #[.int .i64 kh, .string nh, .slice sh ksh.length ch] 24 (0, 0))) := below_keep hbG Y5.out; have N6 : Hid (F.heap[b6]? = some (.cells #[.int .i64 ic, .int .i64 jc] 33 (0, 0))) := below_keep hbG Y6.out; have HBN : Hid (Below w.heap.size w F) := below_join HBY.out hbG
      go_upto_region 9 with fail
      rw [← hF]; clear hF hbF hbG; go_wp2_with fail
      go_loopg [8] 1 (fun g c wr => g = 1 ∧ c = .int .i64 0 ∧ wr = F)
      case atStart => exact ⟨rfl, rfl, rfl⟩
      case round =>
        obtain ⟨rfl, rfl, hw9⟩ := hrel; have hw8 := hw9.symm; subst hw8; by_cases hlt : (0 : Int) < (names.length : Int)
        · have hz9 := hlt
          obtain ⟨c0, c1, c2, -⟩ := blk3 N5.out; obtain ⟨m0, m1, -⟩ := blk2 N6.out; obtain ⟨o0, o1, -⟩ := blk2 N7.out; have hDz := HDe.out; rw [HDz.out] at hDz; unfold zF at hDz
          injection hDz with e1 e2 e3
          subst e1 e2 e3; (have hrF : Rep F (fun _ => True) (.mk 0 ⟨#[]⟩ []) (.agg #[.int .i64 0, .string ⟨#[]⟩, .slice sh 0 ch]) := rep_leafW (w := w5) (by have := HRh.out; rw [HDz.out] at this; exact this)); (have HRF : Hid (Rep F (fun _ => True) (.mk 0 ⟨#[]⟩ []) (.agg #[.int .i64 0, .string ⟨#[]⟩, .slice sh 0 ch])) := hrF); clear hrF; go_wp2_with fail; refine (none_any 0 ⟨#[]⟩ [] _ _ HRF.out).mono ?_; rintro e w9 ⟨rfl, hb9⟩; have B9 := below_join HBN.out hb9; clear hb9 c0 c1 c2 m0 m1 o0 o1; go_wp2_with fail; go_ret; exact ⟨rfl, B9⟩
        · have hz9 := hlt
          obtain ⟨c0, c1, c2, -⟩ := blk3 N5.out; obtain ⟨m0, m1, -⟩ := blk2 N6.out; obtain ⟨o0, o1, -⟩ := blk2 N7.out; have hDz := HDe.out; rw [HDz.out] at hDz; unfold zF at hDz
          injection hDz with e1 e2 e3
          subst e1 e2 e3; (have hrF : Rep F (fun _ => True) (.mk 0 ⟨#[]⟩ []) (.agg #[.int .i64 0, .string ⟨#[]⟩, .slice sh 0 ch]) := rep_leafW (w := w5) (by have := HRh.out; rw [HDz.out] at this; exact this)); (have HRF : Hid (Rep F (fun _ => True) (.mk 0 ⟨#[]⟩ []) (.agg #[.int .i64 0, .string ⟨#[]⟩, .slice sh 0 ch])) := hrF); clear hrF; go_wp2_with fail; refine (none_any 0 ⟨#[]⟩ [] _ _ HRF.out).mono ?_; rintro e w9 ⟨rfl, hb9⟩; have B9 := below_join HBN.out hb9; clear hb9 c0 c1 c2 m0 m1 o0 o1; go_wp2_with fail; go_ret; exact ⟨rfl, B9⟩
end Go.Proofs.Ytffkoiemnchdgae
