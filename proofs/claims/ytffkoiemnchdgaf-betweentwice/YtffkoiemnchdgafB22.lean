/- Texts of one proof, one behind the other: Tr6, Tr7, Tr10, TV0. -/
import Derived.Test.YtffkoiemnchdgafB20
import Derived.Test.YtffkoiemnchdgafB21
import Derived.Test.YtffkoiemnchdgafB18
/- Walks: the first place of a bool; the names that are true in a row. -/
namespace Go.Proofs.Ytffkoiemnchdgaf
open Go.RowKit Go.Sort

/-- The names that are true in a row. -/
def rowN (r : Nat) : List (List UInt8) → Nat → List (List UInt8)
  | [], _ => []
  | t :: l, i => if r.testBit i then t :: rowN r l (i + 1) else rowN r l (i + 1)
theorem rowN_snoc (r : Nat) : ∀ (l : List (List UInt8)) (i : Nat) (t : List UInt8), rowN r (l ++ [t]) i = rowN r l i ++ if r.testBit (i + l.length) then [t] else []
  | [], i, t => by simp [rowN]
  | s :: l, i, t => by
    (rw [List.cons_append, rowN, rowN, rowN_snoc r l (i + 1) t, List.length_cons, show i + 1 + l.length = i + (l.length + 1) by omega])
    split <;> simp
theorem rowN_len (r : Nat) : ∀ (l : List (List UInt8)) (i : Nat), (rowN r l i).length ≤ l.length
  | [], i => by simp [rowN]
  | s :: l, i => by
    rw [rowN]; have := rowN_len r l (i + 1)
    split <;> simp <;> omega

theorem below_grown {B : Nat} {W w w5 : World} {ad : Option Addr} {cy n : Nat} {o : Obj} {xs : List Value} {T : TypeId} (hB : Below B W w) (hBs : B ≤ w.heap.size) (hk : w.ownsRow B T 1 (.slice ad n cy) n xs) (hg5 : (w.alloc o).grownBy w5 (Value.slice ad n cy).ownBlock) : Below B W w5 := by
  have h1 : Below B W (w.alloc o) := hB.alloc hBs o; (exact h1.trans ⟨hg5.os, hg5.tape, hg5.output, hg5.size, fun j hj => hg5.block j (by simp; omega) (fun e => by have := (World.ownsRow.lt hk j e.symm).1; omega)⟩)

end Go.Proofs.Ytffkoiemnchdgaf
/- Walks: namesOfPlain, Rows. -/
namespace Go.Proofs.Ytffkoiemnchdgaf
open Go.RowKit Go.Sort

theorem code_split (f : Fm) : f.code.1 = 0 → ∃ s, chk f 0 = .ok s := fun h => code_chk (code_zero h)
theorem pcode_ok {f : Fm} (h : f.pcode.1 = 0) : (∃ s, chk f 0 = .ok s) ∧ Plain f ∧ f.pcode = (0, 0) := by
  unfold Fm.pcode at *; by_cases hc : f.code.1 = 0
  · rw [if_pos hc] at h ⊢
    rcases hm : (modal f 0).2 with _ | _
    · refine ⟨code_split f hc, ?_, by simp⟩
      rw [modal_idx] at hm; exact hm
    · rw [hm] at h; simp at h
  · rw [if_neg hc] at h
    exact absurd h hc
theorem pcode_of {f : Fm} {s : Nat} (h : chk f 0 = .ok s) (hp : Plain f) : f.pcode = (0, 0) := by
  (have hc : f.code = (0, 0) := by simp only [Fm.code, h]); unfold Fm.pcode; rw [hc, if_pos rfl, modal_idx]; have : (mIdx (allN f) 0).2 = false := hp; rw [this]; rfl

mutual
theorem fine_nodes : ∀ (f : Fm), Fine f → ∀ g ∈ allN f, Fine g
  | .mk k n ks, h, g, hg => by
    rw [allN] at hg
    rcases List.mem_cons.1 hg with rfl | hg
    · exact h
    · exact fine_nodess ks (fun x hx => by
        obtain ⟨i, hi, rfl⟩ := List.getElem_of_mem hx
        exact h.kid i _ (List.getElem?_eq_getElem hi)) g hg
theorem fine_nodess : ∀ (fs : List Fm), (∀ x ∈ fs, Fine x) → ∀ g ∈ allNs fs, Fine g
  | [], _, g, hg => by rw [allNs] at hg; cases hg
  | f :: fs, h, g, hg => by
    rw [allNs] at hg
    rcases List.mem_append.1 hg with hg | hg
    · exact fine_nodes f (h f (List.mem_cons_self ..)) g hg
    · exact fine_nodess fs (fun x hx => h x (List.mem_cons_of_mem _ hx)) g hg
end
theorem nmsOf_mem : ∀ (l : List Fm) (t : ByteArray), t ∈ nmsOf l ↔ ∃ ks, Fm.mk 1 t ks ∈ l
  | [], t => by simp [nmsOf]
  | .mk k n ks :: l, t => by
    rw [nmsOf]
    split
    · rename_i hk
      subst hk; rw [List.mem_cons, nmsOf_mem l t]
      constructor
      · rintro (rfl | ⟨x, hx⟩)
        · exact ⟨ks, List.mem_cons_self ..⟩
        · exact ⟨x, List.mem_cons_of_mem _ hx⟩
      · rintro ⟨x, hx⟩
        rcases List.mem_cons.1 hx with h | h
        · injection h with _ h _; exact Or.inl h
        · exact Or.inr ⟨x, h⟩
    · rename_i hk
      rw [nmsOf_mem l t]
      constructor
      · rintro ⟨x, hx⟩; exact ⟨x, List.mem_cons_of_mem _ hx⟩
      · rintro ⟨x, hx⟩
        rcases List.mem_cons.1 hx with h | h
        · injection h with h _ _; exact absurd h.symm hk
        · exact ⟨x, h⟩
theorem nmsU_nm {f : Fm} (hf : Fine f) (t : List UInt8) (ht : t ∈ nmsU f) : isNm t = true := by
  rw [nmsU_mem] at ht; unfold nmsT at ht; obtain ⟨b, hb, rfl⟩ := List.mem_map.1 ht; obtain ⟨ks, hk⟩ := (nmsOf_mem _ _).1 hb; have := fine_nodes f hf _ hk
  rcases this.forms with ⟨m, e, hn⟩ | e | e | ⟨c, g, hk, e, hg⟩ | ⟨c, g, g', hk, e, hg, hg'⟩
  · cases e; exact hn
  · cases e
  · cases e
  · injection e with e _ _; subst e; rcases hk with h | h | h <;> cases h
  · injection e with e _ _; subst e; rcases hk with h | h | h <;> cases h
theorem nmsU_nodup (f : Fm) : (nmsU f).Nodup := (nmsU_rising f).imp fun h e => by subst e; exact lt_irr _ h
theorem TL.sl {w : World} {v : Value} {l : List (List UInt8)} (h : TL w v l) : SL w v l := by
  obtain ⟨ad, cap, h1, h2, h3, h4⟩ := h; (refine ⟨ad, cap, h1, h2, h3, fun hne => ?_⟩); obtain ⟨g, h5, h6⟩ := h4 hne; (exact ⟨g, 0, h5, fun j t ht => by rw [Nat.zero_add]; exact h6 j t ht⟩)

end Go.Proofs.Ytffkoiemnchdgaf
/- Walks: isNoName, IndexFunc over texts, Value. -/
namespace Go.Proofs.Ytffkoiemnchdgaf
open Go.RowKit Go.Sort

theorem code_name (s : ByteArray) : (Fm.mk 1 s []).code = if isNm s.data.toList then (0, 0) else (8, 0) := by
  by_cases h : isNm s.data.toList = true
  · rw [if_pos h]
    (have := chk_fine (.mk 1 s []) 0 (by have := fine_name (l := s.data.toList) h; exact this) (by rw [size_leaf]; omega)); simp only [Fm.code, this]
  · rw [if_neg h]
    have hn : nodeF 1 s 0 = some 8 := by
      (have h1 : kindB 1 = true := by decide); (have h2 : kidsN 1 = 0 := by decide); (have h3 : nameB 1 s = true := by simp [nameB, h]); simp [nodeF, h1, h2, h3]
    have : chk (.mk 1 s []) 0 = .bad 8 0 := by
      rw [chk]; simp [hn]
    simp only [Fm.code, this]; rfl

theorem fault_code (a b : Int) (w : World) : (Instr.field 29 (.agg #[.int .i64 a, .int .i64 b]) 0).run Try.prog w = .ok (.int .i64 a) w := by kernel_rfl

set_option maxHeartbeats 1000000 in
theorem isNoName_any (s : ByteArray) (hs : s.size ≤ maxLen) (w : World) :
    Calls Try.prog 99 #[.string s] w fun e w' => e = .returned (.bool (!isNm s.data.toList)) ∧ Below w.heap.size w w' := by
  (have hck := fun v (w : World) h => check_any (.mk 1 s []) v w h); have hcn := code_name s; have HC : Hid (∀ v w, _ → Calls Try.prog 117 #[v] w _) := hck; (have HL : Hid (∀ w, Rep w (fun _ => True) (.mk 1 s []) (.agg #[.int .i64 1, .string s, .slice none 0 0])) := fun w => Rep.leaf hs); (have hfc := fun a b w => fault_code a b w); clear hck hs
  rcases hb : isNm s.data.toList with _ | _
  · have hcn' : (Fm.mk 1 s []).code = (8, 0) := by rw [hcn, hb]; rfl
    rw [hcn'] at HC; clear hcn'; clear hcn hb
    go_enter Try.func99, Try.ntmps99
    go_wp2_with (first
      | (go_at_call 117
         refine (HC.out _ _ (HL.out _)).mono ?_
         rintro e w1 ⟨rfl, hb1⟩)
      | fail)
    go_ret; exact ⟨rfl, hb1⟩
  · have hcn' : (Fm.mk 1 s []).code = (0, 0) := by rw [hcn, hb]; rfl
    rw [hcn'] at HC; clear hcn'; clear hcn hb
    go_enter Try.func99, Try.ntmps99
    go_wp2_with (first
      | (go_at_call 117
         refine (HC.out _ _ (HL.out _)).mono ?_
         rintro e w1 ⟨rfl, hb1⟩)
      | fail)
    go_ret; exact ⟨rfl, hb1⟩

/-- What is asked of texts, whatever they are. -/
structure PredS (fn : Nat) (cap : Array Value) (p : List UInt8 → Bool) (Ok : World → Prop) : Prop where
  up : ∀ {w w' : World}, Ok w → Below w.heap.size w w' → Ok w'
  ent : ∀ (v : Value) (w : World), (callFunc fn (#[v] ++ cap)).run Try.prog w = .ok (.enter fn (#[v] ++ cap)) w
  call : ∀ (t : List UInt8) (w : World), Ok w → t.length ≤ maxLen → Calls Try.prog fn (#[.string ⟨t.toArray⟩] ++ cap) w fun e w' => e = .returned (.bool (p t)) ∧ Below w.heap.size w w'

/-- Where it is so first, or -1. -/
def fIdxP (p : List UInt8 → Bool) (l : List (List UInt8)) : Int := if l.any p then (l.findIdx p : Nat) else -1

theorem findIdx_at {p : List UInt8 → Bool} {l : List (List UInt8)} {i : Nat} {t : List UInt8} (h : (l.take i).any p = false) (ht : l[i]? = some t) (hp : p t = true) : l.findIdx p = i := by
  have hi : i < l.length := by
    rcases Nat.lt_or_ge i l.length with h' | h'
    · exact h'
    · rw [List.getElem?_eq_none h'] at ht; cases ht
  rw [List.getElem?_eq_getElem hi] at ht; have e := Option.some.inj ht; rw [List.findIdx_eq hi]; (refine ⟨by rw [e]; exact hp, fun j hj => ?_⟩); (have := (List.any_eq_false.1 h) (l[j]'(by omega)) (List.mem_take_iff_getElem.2 ⟨j, by omega, rfl⟩)); simpa using this

set_option maxHeartbeats 2000000 in
theorem idxFunc_str {fn : Nat} {cp : Array Value} {p : List UInt8 → Bool} {Ok : World → Prop} (A : PredS fn cp p Ok) (l : List (List UInt8)) (hmx : ∀ t ∈ l, t.length ≤ maxLen) (v : Value) (w : World) (hv : SL w v l) (hok : Ok w) :
    Calls Try.prog 98 #[v, .func (.func fn) #[] cp] w fun e w' => e = .returned (.int .i64 (fIdxP p l)) ∧ Below w.heap.size w w' := by
  obtain ⟨ad, cap, rfl, h1, h2, h3⟩ := hv; (have hlI : (l.length : Int) ≤ 9223372036854775807 := by unfold maxLen at h2; omega); have H3 : Hid (l ≠ [] → ∃ g off, ad = some ⟨g, off, none⟩ ∧ ∀ (j : Nat) (t : List UInt8), l[j]? = some t → w.cell? ⟨g, off + j, none⟩ = some (.string ⟨t.toArray⟩)) := h3; (have HA : Hid (∀ (t : List UInt8) (w : World), Ok w → t.length ≤ maxLen → Calls Try.prog fn (#[.string ⟨t.toArray⟩] ++ cp) w fun e w' => e = .returned (.bool (p t)) ∧ Below w.heap.size w w') := A.call); have HU : Hid (∀ {w w' : World}, Ok w → Below w.heap.size w w' → Ok w') := A.up; have HMx : Hid (∀ t ∈ l, t.length ≤ maxLen) := hmx; have HO : Hid (Ok w) := hok; have hcf := A.ent; clear h3 hmx hok A
  go_enter Try.func98, Try.ntmps98
  go_wp2_with fail
  go_loopg [8] l.length (fun g c wr => ∃ i, i ≤ l.length ∧ g = l.length - i ∧ c = .int .i64 (i : Nat) ∧ Below w.heap.size w wr ∧ Hid ((l.take i).any p = false))
  case atStart => exact ⟨0, by omega, by omega, rfl, Below.refl _ _, by show _ = _; rfl⟩
  case round =>
    obtain ⟨i, hi, hg, rfl, hbr, HN⟩ := hrel; have HG : Hid (gk = l.length - i) := hg; clear hg; by_cases hlt : i < l.length
    · obtain ⟨t, ht⟩ : ∃ x, l[i]? = some x := ⟨_, List.getElem?_eq_getElem hlt⟩
      (obtain ⟨g, off, rfl, hc⟩ := H3.out (fun e => by rw [e] at hlt; simp at hlt)); have g0 := (hbr.cell (p := ⟨g, off + i, none⟩) (lt_of_cell (hc i t ht))).trans (hc i t ht); (have hltI : (i : Int) < (l.length : Int) := by omega); (have hlc : (i : Int) < (cap : Int) := by omega); have hcc := HA.out t wr (HU.out HO.out hbr) (HMx.out t (List.mem_of_getElem? ht))
      have HXi : Hid (p t = true → fIdxP p l = ((i : Nat) : Int)) := fun hp => by
        unfold fIdxP; rw [if_pos (List.any_eq_true.2 ⟨t, List.mem_of_getElem? ht, hp⟩), findIdx_at HN.out ht hp]
      have HXn : Hid (p t = false → (l.take (i + 1)).any p = false) := fun hp => by
        rw [List.take_add_one, ht, List.any_append, HN.out]; simp [hp]
      generalize p t = bb at *; have HCC : Hid (Calls Try.prog fn _ wr _) := hcc; generalize (⟨t.toArray⟩ : ByteArray) = T at *; clear hc ht H3 hcc; go_wp2_with fail; refine HCC.out.mono ?_; rintro e w1 ⟨rfl, hb1⟩; have B1 := below_join hbr hb1
      cases bb
      · have HX := HXn.out (by first | rfl | trivial)
        have HX' : Hid ((l.take (i + 1)).any p = false) := HX; clear HX HXn HXi; go_wp2_with fail
        go_roundg (l.length - (i + 1))
        case measure => have := HG.out; omega
        case rel => exact ⟨i + 1, by omega, rfl, by go_num, B1, HX'⟩
      · have HX := HXi.out (by first | rfl | trivial)
        have HX' : Hid (fIdxP p l = ((i : Nat) : Int)) := HX; clear HX HXn HXi; go_wp2_with fail; go_ret; (exact ⟨by rw [HX'.out]; rfl, B1⟩)
    · have HT : Hid (fIdxP p l = -1) := by
        have := HN.out; (rw [List.take_of_length_le (by omega)] at this); show _ = _; unfold fIdxP; rw [this]; rfl
      (have hge : ¬ (i : Int) < (l.length : Int) := by omega); clear H3 HN; go_wp2_with fail; go_ret; (exact ⟨by rw [HT.out]; rfl, hbr⟩)

theorem noName_in (cap : Array Value) (w : World) : (callFunc 99 cap).run Try.prog w = .ok (.enter 99 cap) w := by
  simp [go_sem]
theorem predNoName : PredS 99 #[] (fun t => !isNm t) (fun _ => True) where
  up := fun _ _ => trivial
  ent := fun _ w => noName_in _ w
  call := fun t w _ h => isNoName_any ⟨t.toArray⟩ (by simpa [ByteArray.size] using h) w
end Go.Proofs.Ytffkoiemnchdgaf
/- The plain mathematics of TruthValues: a row as a list of names, and as digits. -/
namespace Go.Proofs.Ytffkoiemnchdgaf
open Go.Sort

theorem tv_congr (p q : List UInt8 → Bool) : ∀ (m : Nat) (f : Fm), f.size ≤ m → Fine f → (∀ t ∈ nmsT f, p t = q t) → tv p f = tv q f
  | 0, .mk k n ks, h, _, _ => by rw [Fm.size] at h; omega
  | m + 1, f, h, hf, hpq => by
    rcases hf.forms with ⟨n, rfl, hn⟩ | rfl | rfl | ⟨k, g, hk, rfl, hg⟩ | ⟨k, g, g', hk, rfl, hg, hg'⟩
    · rw [tv_name, tv_name]
      (exact hpq _ (by unfold nmsT; rw [allN_leaf]; simp [nmsOf]))
    · rw [tv_true, tv_true]
    · rw [tv_false, tv_false]
    · rw [size_one] at h
      have hsub : ∀ t ∈ nmsT g, t ∈ nmsT (.mk k ⟨#[]⟩ [g]) := fun t ht => by
        unfold nmsT at *; rw [allN_one, nmsOf]
        split
        · rw [List.map_cons]; exact List.mem_cons_of_mem _ ht
        · exact ht
      (have ih := tv_congr p q m g (by omega) hg fun t ht => hpq t (hsub t ht)); rw [tv, tvs, tvs, tv, tvs, tvs, ih]
      rcases hk with rfl | rfl | rfl <;> rfl
    · rw [size_two] at h
      have hsub : ∀ t, t ∈ nmsT g ∨ t ∈ nmsT g' → t ∈ nmsT (.mk k ⟨#[]⟩ [g, g']) := fun t ht => by
        unfold nmsT at *; rw [allN_two, nmsOf]
        have : t ∈ (nmsOf (allN g ++ allN g')).map (·.data.toList) := by
          rw [nmsOf_append, List.map_append, List.mem_append]; exact ht
        split
        · rw [List.map_cons]; exact List.mem_cons_of_mem _ this
        · exact this
      (have ih := tv_congr p q m g (by omega) hg fun t ht => hpq t (hsub t (Or.inl ht))); (have ih' := tv_congr p q m g' (by omega) hg' fun t ht => hpq t (hsub t (Or.inr ht))); rw [tv, tvs, tvs, tvs, tv, tvs, tvs, tvs, ih, ih']
      rcases hk with rfl | rfl | rfl <;> rfl

theorem rowN_mem (r : Nat) : ∀ (l : List (List UInt8)) (i : Nat) (t : List UInt8), t ∈ rowN r l i ↔ ∃ j, l[j]? = some t ∧ r.testBit (i + j) = true
  | [], i, t => by simp [rowN]
  | s :: l, i, t => by
    rw [rowN]; have ih := rowN_mem r l (i + 1) t
    have hsp : (∃ j, (s :: l)[j]? = some t ∧ r.testBit (i + j) = true) ↔ (s = t ∧ r.testBit i = true) ∨ ∃ j, l[j]? = some t ∧ r.testBit (i + 1 + j) = true := by
      constructor
      · rintro ⟨j, h1, h2⟩
        cases j with
        | zero => simp at h1; exact Or.inl ⟨h1, by simpa using h2⟩
        | succ j => exact Or.inr ⟨j, by simpa using h1, by rw [show i + 1 + j = i + (j + 1) by omega]; exact h2⟩
      · rintro (⟨h1, h2⟩ | ⟨j, h1, h2⟩)
        · exact ⟨0, by simp [h1], by simpa using h2⟩
        · exact ⟨j + 1, by simpa using h1, by rw [show i + (j + 1) = i + 1 + j by omega]; exact h2⟩
    rw [hsp]
    split
    · rename_i hb
      rw [List.mem_cons, ih]
      constructor
      · rintro (h | h)
        · exact Or.inl ⟨h.symm, hb⟩
        · exact Or.inr h
      · rintro (⟨h, -⟩ | h)
        · exact Or.inl h.symm
        · exact Or.inr h
    · rename_i hb
      rw [ih]
      constructor
      · exact Or.inr
      · rintro (⟨-, h⟩ | h)
        · exact absurd h hb
        · exact h

/-- A name of the list is true in a row just where its digit is 1. -/
theorem row_digit {l : List (List UInt8)} (hn : l.Nodup) (r : Nat) {t : List UInt8} (ht : t ∈ l) : decide (t ∈ rowN r l 0) = colP r l t := by
  obtain ⟨i, hi, hit⟩ := List.getElem_of_mem ht; (have hg : l[i]? = some t := by rw [List.getElem?_eq_getElem hi, hit]); have hix := idxOf_of_get hn hg; unfold colP; rw [if_pos ht, hix]
  rcases hb : r.testBit i with _ | _
  · refine decide_eq_false fun h => ?_
    obtain ⟨j, h1, h2⟩ := (rowN_mem r l 0 t).1 h; have := idxOf_of_get hn h1; rw [Nat.zero_add] at h2; (have hji : j = i := by omega); rw [hji, hb] at h2
    cases h2
  · exact decide_eq_true ((rowN_mem r l 0 t).2 ⟨i, hg, by rw [Nat.zero_add]; exact hb⟩)

theorem tv_row {f : Fm} (hf : Fine f) (l : List (List UInt8)) (hn : l.Nodup) (hl : ∀ t ∈ nmsT f, t ∈ l) (r : Nat) : tv (fun t => decide (t ∈ rowN r l 0)) f = tv (colP r l) f :=
  tv_congr _ _ f.size f (Nat.le_refl _) hf fun t ht => row_digit hn r (hl t ht)

end Go.Proofs.Ytffkoiemnchdgaf
