/- Texts of one proof, one behind the other: Math12, Swaps1. -/
import Derived.Test.YtffkoiemnchdgaaB25
import Derived.Test.YtffkoiemnchdgaaB22
import Derived.Test.YtffkoiemnchdgaaB24
import Derived.Test.YtffkoiemnchdgaaB17
/- What a formula for a name does to names and sizes. -/
namespace Go.Proofs.Ytffkoiemnchdgaa

theorem hasN_kind {nm : ByteArray} {k : Int} {n : ByteArray} {ks : List Fm} (h : k ≠ 1) : hasN nm (.mk k n ks) = false := by simp [hasN, h]

theorem put_leaf (nm : ByteArray) (g : Fm) (n : ByteArray) : putF nm g (.mk 1 n []) = if n.data.toList = nm.data.toList then g else .mk 1 n [] := by
  rw [putF, putFs]; by_cases h : n.data.toList = nm.data.toList
  · rw [if_pos h, if_pos (by simp [hasN, h])]
  · rw [if_neg h, if_neg (by simp [hasN, h])]
theorem put_other (nm : ByteArray) (g : Fm) {k : Int} (hk : k ≠ 1) (n : ByteArray) (ks : List Fm) : putF nm g (.mk k n ks) = .mk k n (ks.map (putF nm g)) := by
  rw [putF, hasN_kind hk, putFs_map]; rfl

theorem fine_put (nm : ByteArray) {g : Fm} (hg : Fine g) : ∀ (m : Nat) (f : Fm), f.size ≤ m → Fine f → Fine (putF nm g f)
  | 0, .mk k n ks, h, _ => by rw [Fm.size] at h; omega
  | m + 1, f, h, hf => by
    rcases hf.forms with ⟨n, rfl, hn⟩ | rfl | rfl | ⟨k, x, hk, rfl, hx⟩ | ⟨k, x, y, hk, rfl, hx, hy⟩
    · rw [put_leaf]
      split
      · exact hg
      · exact hf
    · rw [put_other _ _ (by decide)]; exact hf
    · rw [put_other _ _ (by decide)]; exact hf
    · rw [size_one] at h
      (rw [put_other _ _ (by omega)]); (exact fine_one k _ hk (fine_put nm hg m x (by omega) hx))
    · rw [size_two] at h
      (rw [put_other _ _ (by omega)]); (exact fine_two k _ _ hk (fine_put nm hg m x (by omega) hx) (fine_put nm hg m y (by omega) hy))

theorem allN_leaf (k : Int) (n : ByteArray) : allN (.mk k n []) = [.mk k n []] := by rw [allN, allNs]
theorem allN_one (k : Int) (n : ByteArray) (f : Fm) : allN (.mk k n [f]) = .mk k n [f] :: allN f := by rw [allN, allNs, allNs, List.append_nil]
theorem allN_two (k : Int) (n : ByteArray) (f g : Fm) : allN (.mk k n [f, g]) = .mk k n [f, g] :: (allN f ++ allN g) := by rw [allN, allNs, allNs, allNs, List.append_nil]

theorem size_put (nm : ByteArray) (g : Fm) : ∀ (m : Nat) (f : Fm), f.size ≤ m → Fine f → (putF nm g f).size = cntW nm g.size (allN f)
  | 0, .mk k n ks, h, _ => by rw [Fm.size] at h; omega
  | m + 1, f, h, hf => by
    rcases hf.forms with ⟨n, rfl, hn⟩ | rfl | rfl | ⟨k, x, hk, rfl, hx⟩ | ⟨k, x, y, hk, rfl, hx, hy⟩
    · rw [put_leaf, allN_leaf, cntW, cntW]
      by_cases e : n.data.toList = nm.data.toList
      · rw [if_pos e, if_pos (by simp [hasN, e])]; rfl
      · rw [if_neg e, if_neg (by simp [hasN, e]), size_leaf]
    · rw [put_other _ _ (by decide), allN_leaf, cntW, cntW, hasN_kind (by decide)]; rw [List.map_nil, size_leaf]; rfl
    · rw [put_other _ _ (by decide), allN_leaf, cntW, cntW, hasN_kind (by decide)]; rw [List.map_nil, size_leaf]; rfl
    · rw [size_one] at h
      (have := size_put nm g m x (by omega) hx); (rw [put_other _ _ (by omega), allN_one, cntW, hasN_kind (by omega), List.map_cons, List.map_nil, size_one, this])
      simp; omega
    · rw [size_two] at h
      (have h1 := size_put nm g m x (by omega) hx); (have h2 := size_put nm g m y (by omega) hy); (rw [put_other _ _ (by omega), allN_two, cntW, cntW_append, hasN_kind (by omega), List.map_cons, List.map_cons, List.map_nil, size_two, h1, h2])
      simp; omega

theorem put_self (nm : ByteArray) : ∀ (m : Nat) (f : Fm), f.size ≤ m → Fine f → putF nm (.mk 1 nm []) f = f
  | 0, .mk k n ks, h, _ => by rw [Fm.size] at h; omega
  | m + 1, f, h, hf => by
    rcases hf.forms with ⟨n, rfl, hn⟩ | rfl | rfl | ⟨k, x, hk, rfl, hx⟩ | ⟨k, x, y, hk, rfl, hx, hy⟩
    · rw [put_leaf]
      split
      · rename_i e
        (have : n = nm := by apply ByteArray.ext; apply Array.ext'; exact e); rw [this]
      · rfl
    · rw [put_other _ _ (by decide)]; rfl
    · rw [put_other _ _ (by decide)]; rfl
    · rw [size_one] at h
      (rw [put_other _ _ (by omega), List.map_cons, List.map_nil, put_self nm m x (by omega) hx])
    · rw [size_two] at h
      (rw [put_other _ _ (by omega), List.map_cons, List.map_cons, List.map_nil, put_self nm m x (by omega) hx, put_self nm m y (by omega) hy])

theorem nmsT_leaf1 (n : ByteArray) : nmsT (.mk 1 n []) = [n.data.toList] := by
  unfold nmsT; rw [allN_leaf]; rfl
theorem nmsT_leaf {k : Int} (hk : k ≠ 1) (n : ByteArray) : nmsT (.mk k n []) = [] := by
  unfold nmsT; rw [allN_leaf, nmsOf, if_neg hk]; rfl
theorem nmsT_one {k : Int} (hk : k ≠ 1) (n : ByteArray) (f : Fm) : nmsT (.mk k n [f]) = nmsT f := by
  unfold nmsT; rw [allN_one, nmsOf, if_neg hk]
theorem nmsT_two {k : Int} (hk : k ≠ 1) (n : ByteArray) (f g : Fm) : nmsT (.mk k n [f, g]) = nmsT f ++ nmsT g := by
  unfold nmsT; rw [allN_two, nmsOf, if_neg hk, nmsOf_append, List.map_append]

theorem names_put (nm : ByteArray) (g : Fm) : ∀ (m : Nat) (f : Fm), f.size ≤ m → Fine f → ∀ t, t ∈ nmsT (putF nm g f) ↔ (t ∈ nmsT f ∧ t ≠ nm.data.toList) ∨ (nm.data.toList ∈ nmsT f ∧ t ∈ nmsT g)
  | 0, .mk k n ks, h, _ => by rw [Fm.size] at h; omega
  | m + 1, f, h, hf => by
    intro t
    rcases hf.forms with ⟨n, rfl, hn⟩ | rfl | rfl | ⟨k, x, hk, rfl, hx⟩ | ⟨k, x, y, hk, rfl, hx, hy⟩
    · rw [put_leaf, nmsT_leaf1]
      by_cases e : n.data.toList = nm.data.toList
      · rw [if_pos e, e]
        simp only [List.mem_singleton]
        constructor
        · exact fun h => Or.inr ⟨trivial, h⟩
        · rintro (⟨h1, h2⟩ | ⟨-, h⟩)
          · exact absurd h1 h2
          · exact h
      · rw [if_neg e, nmsT_leaf1]
        simp only [List.mem_singleton]
        constructor
        · rintro rfl; exact Or.inl ⟨rfl, e⟩
        · rintro (⟨h1, -⟩ | ⟨h1, -⟩)
          · exact h1
          · exact absurd h1.symm e
    · rw [put_other _ _ (by decide), List.map_nil, nmsT_leaf (by decide)]; simp
    · rw [put_other _ _ (by decide), List.map_nil, nmsT_leaf (by decide)]; simp
    · rw [size_one] at h
      (rw [put_other _ _ (by omega), List.map_cons, List.map_nil, nmsT_one (by omega), nmsT_one (by omega)]); (exact names_put nm g m x (by omega) hx t)
    · rw [size_two] at h
      (rw [put_other _ _ (by omega), List.map_cons, List.map_cons, List.map_nil, nmsT_two (by omega), nmsT_two (by omega)]); simp only [List.mem_append]; (rw [names_put nm g m x (by omega) hx t, names_put nm g m y (by omega) hy t])
      constructor
      · rintro ((⟨a, b⟩ | ⟨a, b⟩) | (⟨a, b⟩ | ⟨a, b⟩))
        · exact Or.inl ⟨Or.inl a, b⟩
        · exact Or.inr ⟨Or.inl a, b⟩
        · exact Or.inl ⟨Or.inr a, b⟩
        · exact Or.inr ⟨Or.inr a, b⟩
      · rintro (⟨a | a, b⟩ | ⟨a | a, b⟩)
        · exact Or.inl (Or.inl ⟨a, b⟩)
        · exact Or.inr (Or.inl ⟨a, b⟩)
        · exact Or.inl (Or.inr ⟨a, b⟩)
        · exact Or.inr (Or.inr ⟨a, b⟩)
end Go.Proofs.Ytffkoiemnchdgaa
/- Walks: what FormulaSwaps calls. -/
namespace Go.Proofs.Ytffkoiemnchdgaa
open Go.RowKit

theorem txt_eq (a b : List UInt8) : ((⟨a.toArray⟩ : ByteArray).toList = (⟨b.toArray⟩ : ByteArray).toList) ↔ a = b := by
  rw [ByteArray.toList_eq, ByteArray.toList_eq]

set_option maxHeartbeats 1000000 in
theorem hasText_any (l : List (List UInt8)) (t : List UInt8) (v : Value) (w : World) (h : TL w v l) :
    Calls Try.prog 32 #[v, .string ⟨t.toArray⟩] w fun e w' => e = .returned (.bool (decide (t ∈ l))) ∧ w' = w := by
  obtain ⟨ad, cap, rfl, h1, h2, h3⟩ := h; (have hlI : (l.length : Int) ≤ 9223372036854775807 := by unfold maxLen at h2; omega); have H3 : Hid (l ≠ [] → ∃ g, ad = some ⟨g, 0, none⟩ ∧ ∀ (j : Nat) (t : List UInt8), l[j]? = some t → w.cell? ⟨g, j, none⟩ = some (.string ⟨t.toArray⟩)) := h3; clear h3
  go_enter Try.func32, Try.ntmps32
  go_wp2_with fail
  go_loopg [5] l.length (fun g c wr => ∃ i, i ≤ l.length ∧ g = l.length - i ∧ c = .int .i64 (i : Nat) ∧ wr = w ∧ Hid (t ∉ l.take i))
  case atStart => exact ⟨0, by omega, by omega, rfl, rfl, by show _ ∉ _; simp⟩
  case round =>
    obtain ⟨i, hi, hg, rfl, rfl, HN⟩ := hrel; have HG : Hid (gk = l.length - i) := hg; clear hg; by_cases hlt : i < l.length
    · obtain ⟨x, hx⟩ : ∃ x, l[i]? = some x := ⟨_, List.getElem?_eq_getElem hlt⟩
      (obtain ⟨g, rfl, hc⟩ := H3.out (fun e => by rw [e] at hlt; simp at hlt)); have g0 := hc i x hx; (have hltI : (i : Int) < (l.length : Int) := by omega); (have hlc : (i : Int) < (cap : Int) := by omega); have HX : Hid (l[i]? = some x) := hx; clear hc hx H3; by_cases hxt : x = t
      · subst hxt
        have HD : Hid (decide (x ∈ l) = true) := by
          show _ = _; exact decide_eq_true (List.mem_of_getElem? HX.out)
        go_wp2_with fail; go_ret; (exact ⟨by rw [HD.out]; rfl, rfl⟩)
      · have hne : ((⟨x.toArray⟩ : ByteArray).toList == (⟨t.toArray⟩ : ByteArray).toList) = false := by
          rw [beq_eq_false_iff_ne, Ne, txt_eq]; exact hxt
        have HNN : Hid (t ∉ l.take (i + 1)) := by
          show _ ∉ _; rw [List.take_add_one, HX.out]; intro hm
          rcases List.mem_append.1 hm with h | h
          · exact HN.out h
          · simp at h; exact hxt h.symm
        generalize hb : (⟨x.toArray⟩ : ByteArray) = X at *; generalize hb2 : (⟨t.toArray⟩ : ByteArray) = Y at *; clear hb hb2 HX; go_wp2_with fail
        go_roundg (l.length - (i + 1))
        case measure => have := HG.out; omega
        case rel => exact ⟨i + 1, by omega, rfl, by go_num, rfl, HNN⟩
    · have HD : Hid (decide (t ∈ l) = false) := by
        show _ = _; have := HN.out; (rw [List.take_of_length_le (by omega)] at this); exact decide_eq_false this
      (have hge : ¬ (i : Int) < (l.length : Int) := by omega); clear H3 HN; go_wp2_with fail; go_ret; (exact ⟨by rw [HD.out]; rfl, rfl⟩)

set_option maxHeartbeats 1000000 in
theorem named_any (n : ByteArray) (w : World) :
    Calls Try.prog 31 #[.string n] w fun e w' => e = .returned (.agg #[.int .i64 1, .string n, .slice none 0 0]) ∧ Below w.heap.size w w' := by
  have B := (Below.refl w.heap.size w).alloc (Nat.le_refl _)
  go_enter Try.func31, Try.ntmps31
  go_wp2_with fail; (exact bodyPost_ret (v := .agg #[.int .i64 1, .string n, .slice none 0 0]) (by simp [results, Try.results31, go_sem]) rfl ⟨rfl, B _⟩)

theorem code_zero {f : Fm} (h : f.code.1 = 0) : f.code = (0, 0) := by
  rcases hx : chk f 0 with s | ⟨c, a⟩
  · simp only [Fm.code, hx]
  · have := chk_code f 0 c a hx
    simp only [Fm.code, hx] at h; exact absurd h this
theorem code_chk {f : Fm} (h : f.code = (0, 0)) : ∃ s, chk f 0 = .ok s := by
  rcases hx : chk f 0 with s | ⟨c, a⟩
  · exact ⟨s, rfl⟩
  · have := chk_code f 0 c a hx
    simp only [Fm.code, hx] at h; exact absurd (Prod.mk.inj h).1 this

/-- What Put answers. -/
inductive PutR (f : Fm) (nm : ByteArray) (g : Fm) : Fm → Int → Int → Prop
  | ok (h1 : f.code = (0, 0)) (h2 : g.code = (0, 0)) (h3 : isNm nm.data.toList = true) (h4 : cntW nm g.size (allN f) ≤ 200) : PutR f nm g (putF nm g f) 0 0
  | bad1 (c a : Int) (hc : c ≠ 0) (h1 : f.code = (c, a)) : PutR f nm g (.mk 0 e0 []) c a
  | bad2 (c a : Int) (hc : c ≠ 0) (h1 : f.code = (0, 0)) (h2 : g.code = (c, a)) : PutR f nm g (.mk 0 e0 []) c a
  | bad3 (h1 : f.code = (0, 0)) (h2 : g.code = (0, 0)) (h3 : isNm nm.data.toList = false) : PutR f nm g (.mk 0 e0 []) 8 0
  | bad4 (h1 : f.code = (0, 0)) (h2 : g.code = (0, 0)) (h3 : isNm nm.data.toList = true) (h4 : 200 < cntW nm g.size (allN f)) : PutR f nm g (.mk 0 e0 []) 10 0

theorem put_any (f g : Fm) (nm : ByteArray) (hnm : nm.size ≤ maxLen) : ∃ r c a, PutR f nm g r c a ∧ ∀ v u w, Rep w (fun _ => True) f v → Rep w (fun _ => True) g u →
    Calls Try.prog 22 #[v, .string nm, u] w fun e w' => ∃ x, e = .returned (.tuple #[x, .agg #[.int .i64 c, .int .i64 a]]) ∧ Rep w' (w.heap.size ≤ ·) r x ∧ Below w.heap.size w w' := by
  (have hz : ∀ (c a : Int) (w : World) (e : Ending) (w' : World), (e = .returned (.tuple #[.agg #[.int .i64 0, .string ⟨#[]⟩, .slice none 0 0], .agg #[.int .i64 c, .int .i64 a]]) ∧ Below w.heap.size w w') → ∃ x, e = .returned (.tuple #[x, .agg #[.int .i64 c, .int .i64 a]]) ∧ Rep w' (w.heap.size ≤ ·) (.mk 0 e0 []) x ∧ Below w.heap.size w w' := fun c a w e w' h => ⟨_, h.1, Rep.leaf (by decide), h.2⟩); by_cases hf : f.code.1 = 0
  · have hf' := code_zero hf
    by_cases hg : g.code.1 = 0
    · have hg' := code_zero hg
      rcases hn : isNm nm.data.toList with _ | _
      · exact ⟨_, _, _, .bad3 hf' hg' hn, fun v u w h1 h2 => (put_bad3 f g hf' hg' v u nm w h1 h2 hnm hn).mono (hz _ _ _)⟩
      · by_cases hc : 200 < cntW nm g.size (allN f)
        · exact ⟨_, _, _, .bad4 hf' hg' hn hc, fun v u w h1 h2 => (put_bad4 f g hf' hg' v u nm w h1 h2 hnm hn hc).mono (hz _ _ _)⟩
        · exact ⟨_, _, _, .ok hf' hg' hn (by omega), fun v u w h1 h2 => put_ok f g hf' hg' v u nm w h1 h2 hnm hn hc⟩
    · exact ⟨_, _, _, .bad2 g.code.1 g.code.2 hg hf' rfl, fun v u w h1 h2 => (put_bad2 f g g.code.1 g.code.2 hg hf' rfl v u nm w h1 h2).mono (hz _ _ _)⟩
  · exact ⟨_, _, _, .bad1 f.code.1 f.code.2 hf rfl, fun v u w h1 h2 => (put_bad1 f g f.code.1 f.code.2 hf rfl v u nm w h1 h2).mono (hz _ _ _)⟩

theorem PutR.zero {f : Fm} {nm : ByteArray} {g r : Fm} {a : Int} (h : PutR f nm g r 0 a) : a = 0 ∧ r = putF nm g f ∧ f.code = (0, 0) ∧ g.code = (0, 0) ∧ isNm nm.data.toList = true ∧ cntW nm g.size (allN f) ≤ 200 := by
  cases h with
  | ok h1 h2 h3 h4 => exact ⟨rfl, rfl, h1, h2, h3, h4⟩
  | bad1 _ _ hc _ => exact absurd rfl hc
  | bad2 _ _ hc _ _ => exact absurd rfl hc

theorem cnt_one (nm : ByteArray) : ∀ l : List Fm, cntW nm 1 l = l.length
  | [] => rfl
  | x :: l => by
    rw [cntW, cnt_one nm l, List.length_cons]
    split <;> omega

/-- A name put for itself. -/
theorem put_same {f : Fm} {nm : ByteArray} {r : Fm} {c a : Int} (h : PutR f nm (.mk 1 nm []) r c a) (hc : c = 0) : r = f := by
  subst hc; obtain ⟨-, rfl, h1, -⟩ := h.zero; obtain ⟨s, hs⟩ := code_chk h1; exact put_self nm f.size f (Nat.le_refl _) (fine_of_chk f 0 s hs)
/-- Where anything may be put for a name, the name may. -/
theorem put_named {f : Fm} {nm : ByteArray} {r : Fm} {c a : Int} (h : PutR f nm (.mk 1 nm []) r c a) (h1 : f.code = (0, 0)) (h3 : isNm nm.data.toList = true) : c = 0 := by
  have hfn : Fine (.mk 1 nm []) := by
    have := fine_name (l := nm.data.toList) h3; exact this
  have hn : (Fm.mk 1 nm []).code = (0, 0) := by
    (have := chk_fine (.mk 1 nm []) 0 hfn (by rw [size_leaf]; omega)); simp only [Fm.code, this]
  obtain ⟨s, hs⟩ := code_chk h1; have hsz := chk_size hs
  cases h with
  | ok => rfl
  | bad1 c a hc e => rw [h1] at e; exact absurd (Prod.mk.inj e).1.symm hc
  | bad2 c a hc _ e => rw [hn] at e; exact absurd (Prod.mk.inj e).1.symm hc
  | bad3 _ _ e => rw [h3] at e; cases e
  | bad4 _ _ _ e => rw [size_leaf, cnt_one, allN_len] at e; omega

/-- What is put in is as it should be, and has these names. -/
theorem put_names {f : Fm} {nm : ByteArray} {g r : Fm} {a : Int} (h : PutR f nm g r 0 a) : (∃ s, chk f 0 = .ok s) ∧ (∃ s, chk g 0 = .ok s) ∧ (∃ s, chk r 0 = .ok s) ∧ ∀ t, t ∈ nmsU r ↔ (t ∈ nmsU f ∧ t ≠ nm.data.toList) ∨ (nm.data.toList ∈ nmsU f ∧ t ∈ nmsU g) := by
  obtain ⟨-, rfl, h1, h2, h3, h4⟩ := h.zero; obtain ⟨s, hs⟩ := code_chk h1; obtain ⟨s', hs'⟩ := code_chk h2; have ff := fine_of_chk f 0 s hs; have fg := fine_of_chk g 0 s' hs'; (refine ⟨⟨s, hs⟩, ⟨s', hs'⟩, ⟨_, chk_fine _ 0 (fine_put nm fg f.size f (Nat.le_refl _) ff) ?_⟩, fun t => ?_⟩)
  · rw [size_put nm g f.size f (Nat.le_refl _) ff]; omega
  · simp only [nmsU_mem]
    exact names_put nm g f.size f (Nat.le_refl _) ff t
end Go.Proofs.Ytffkoiemnchdgaa
