/- Texts of one proof, one behind the other: TM1, BM1. -/
import Derived.Test.YtffkoiemnchdgafB23
import Derived.Test.YtffkoiemnchdgafB24
import Derived.Test.YtffkoiemnchdgafB18
import Derived.Test.YtffkoiemnchdgafB25
import Derived.Test.YtffkoiemnchdgafB22
/- Walks: Made and what it asks. -/
namespace Go.Proofs.Ytffkoiemnchdgaf
open Go.RowKit Go.Sort

set_option maxHeartbeats 1000000 in
theorem indexS_any (l : List (List UInt8)) (t : List UInt8) (v : Value) (w : World) (h : SL w v l) :
    Calls Try.prog 105 #[v, .string ⟨t.toArray⟩] w fun e w' => (∃ j : Int, e = .returned (.int .i64 j) ∧ (0 ≤ j ↔ t ∈ l)) ∧ w' = w := by
  obtain ⟨ad, cap, rfl, h1, h2, h3⟩ := h; (have hlI : (l.length : Int) ≤ 9223372036854775807 := by unfold maxLen at h2; omega); have H3 : Hid (l ≠ [] → ∃ g off, ad = some ⟨g, off, none⟩ ∧ ∀ (j : Nat) (t : List UInt8), l[j]? = some t → w.cell? ⟨g, off + j, none⟩ = some (.string ⟨t.toArray⟩)) := h3; clear h3
  go_enter Try.func105, Try.ntmps105
  go_wp2_with fail
  go_loopg [8] l.length (fun g c wr => ∃ i, i ≤ l.length ∧ g = l.length - i ∧ c = .int .i64 (i : Nat) ∧ wr = w ∧ Hid (t ∉ l.take i))
  case atStart => exact ⟨0, by omega, by omega, rfl, rfl, by show _ ∉ _; simp⟩
  case round =>
    obtain ⟨i, hi, hg, rfl, rfl, HN⟩ := hrel; have HG : Hid (gk = l.length - i) := hg; clear hg; by_cases hlt : i < l.length
    · obtain ⟨x, hx⟩ : ∃ x, l[i]? = some x := ⟨_, List.getElem?_eq_getElem hlt⟩
      (obtain ⟨g, off, rfl, hc⟩ := H3.out (fun e => by rw [e] at hlt; simp at hlt)); have g0 := hc i x hx; (have hltI : (i : Int) < (l.length : Int) := by omega); (have hlc : (i : Int) < (cap : Int) := by omega); have HX : Hid (l[i]? = some x) := hx; clear hc hx H3; by_cases hxt : t = x
      · subst hxt
        have HD : Hid (t ∈ l) := List.mem_of_getElem? HX.out; go_wp2_with fail; go_ret; (exact ⟨⟨(i : Int), rfl, fun _ => HD.out, fun _ => by omega⟩, rfl⟩)
      · have hne : ((⟨t.toArray⟩ : ByteArray).toList == (⟨x.toArray⟩ : ByteArray).toList) = false := by
          rw [beq_eq_false_iff_ne, Ne, txt_eq]; exact hxt
        have HNN : Hid (t ∉ l.take (i + 1)) := by
          show _ ∉ _; rw [List.take_add_one, HX.out]; intro hm
          rcases List.mem_append.1 hm with h | h
          · exact HN.out h
          · simp at h; exact hxt h
        generalize hb : (⟨x.toArray⟩ : ByteArray) = X at *; generalize hb2 : (⟨t.toArray⟩ : ByteArray) = Y at *; clear hb hb2 HX; go_wp2_with fail
        go_roundg (l.length - (i + 1))
        case measure => have := HG.out; omega
        case rel => exact ⟨i + 1, by omega, rfl, by go_num, rfl, HNN⟩
    · have HD : Hid (t ∉ l) := by
        have := HN.out; (rw [List.take_of_length_le (by omega)] at this); exact this
      (have hge : ¬ (i : Int) < (l.length : Int) := by omega); clear H3 HN; go_wp2_with fail; go_ret; (exact ⟨⟨-1, rfl, fun h => absurd h (by omega), fun h => absurd h HD.out⟩, rfl⟩)

set_option maxHeartbeats 1000000 in
theorem containsS_any (l : List (List UInt8)) (t : List UInt8) (v : Value) (w : World) (h : SL w v l) :
    Calls Try.prog 71 #[v, .string ⟨t.toArray⟩] w fun e w' => e = .returned (.bool (decide (t ∈ l))) ∧ w' = w := by
  have hx := indexS_any l t v w h; have HX : Hid (Calls Try.prog 105 _ w _) := hx; obtain ⟨ad, cap, rfl, -⟩ := h; generalize (⟨t.toArray⟩ : ByteArray) = T at *; clear hx
  go_enter Try.func71, Try.ntmps71
  go_wp2_with (first
    | (go_at_call 105
       refine HX.out.mono ?_; rintro e w1 ⟨⟨j, rfl, hj⟩, rfl⟩; have HJ : Hid (decide (0 ≤ j) = decide (t ∈ l)) := decide_eq_decide.2 hj
       clear hj)
    | fail)
  go_ret; (exact ⟨by rw [← HJ.out]; rfl, rfl⟩)

end Go.Proofs.Ytffkoiemnchdgaf
/- Between formulas, the plain part: what is written name by name, and where it is true. -/
namespace Go.Proofs.Ytffkoiemnchdgaf
open Go.RowKit Go.Sort

theorem pc_fine {f : Fm} (h : f.pcode.1 = 0) : Fine f ∧ f.size ≤ 200 := by
  obtain ⟨s, hs⟩ := (pcode_ok h).1; exact ⟨fine_of_chk _ 0 s hs, chk_size hs⟩
/-- Can some of the names be held beside those that are, so that it is so? -/
def someL (p : List (List UInt8) → Bool) : List (List UInt8) → List (List UInt8) → Bool
  | [], h => p h
  | n :: ns, h => someL p ns h || someL p ns (h ++ [n])

theorem someL_iff (p : List (List UInt8) → Bool) : ∀ (ns h : List (List UInt8)), ns.Nodup → (someL p ns h = true ↔ ∃ q : List UInt8 → Bool, p (h ++ ns.filter q) = true)
  | [], h, _ => by simp [someL]
  | n :: ns, h, hn => by
    obtain ⟨h1, h2⟩ := List.nodup_cons.1 hn; rw [someL, Bool.or_eq_true, someL_iff p ns h h2, someL_iff p ns _ h2]
    have key : ∀ (b : Bool) (q : List UInt8 → Bool), ns.filter (fun t => if t = n then b else q t) = ns.filter q := fun b q => by
      (refine List.filter_congr fun t ht => ?_); (exact if_neg (fun e : t = n => h1 (by rw [← e]; exact ht)))
    constructor
    · rintro (⟨q, hq⟩ | ⟨q, hq⟩)
      · refine ⟨fun t => if t = n then false else q t, ?_⟩
        rw [List.filter_cons, key]; simpa using hq
      · refine ⟨fun t => if t = n then true else q t, ?_⟩
        rw [List.filter_cons, key]; simpa [List.append_assoc] using hq
    · rintro ⟨q, hq⟩
      rw [List.filter_cons] at hq
      rcases hb : q n with _ | _
      · left; refine ⟨q, ?_⟩; simpa [hb] using hq
      · right; refine ⟨q, ?_⟩; simpa [hb, List.append_assoc] using hq

def ttF : Fm := .mk 2 ⟨#[]⟩ []
def ffF : Fm := .mk 3 ⟨#[]⟩ []
def varF (n : List UInt8) : Fm := .mk 1 ⟨n.toArray⟩ []
def eitherF (f : Fm) : Fm → Fm
  | .mk k n ks => if k = 4 then .mk 7 ⟨#[]⟩ [ks.getD 0 ttF, f] else .mk 6 ⟨#[]⟩ [f, .mk k n ks]
/-- One of two formulas, as the name is true or false. -/
def decF (n : List UInt8) (a b : Fm) : Fm :=
  if sameB a b then a
  else if a.kind = 2 ∧ b.kind = 3 then varF n
  else if a.kind = 3 ∧ b.kind = 2 then .mk 4 ⟨#[]⟩ [varF n]
  else if a.kind = 2 then eitherF (varF n) b
  else if a.kind = 3 then .mk 5 ⟨#[]⟩ [.mk 4 ⟨#[]⟩ [varF n], b]
  else if b.kind = 2 then .mk 7 ⟨#[]⟩ [varF n, a]
  else if b.kind = 3 then .mk 5 ⟨#[]⟩ [varF n, a]
  else .mk 5 ⟨#[]⟩ [.mk 7 ⟨#[]⟩ [varF n, a], eitherF (varF n) b]

def writL (p : List (List UInt8) → Bool) : List (List UInt8) → List (List UInt8) → Fm
  | [], h => if p h then ttF else ffF
  | n :: ns, h => decF n (writL p ns (h ++ [n])) (writL p ns h)

/-- Made well, with no names but these, and of no more nodes. -/
structure MadeF (l : List (List UInt8)) (s : Nat) (f : Fm) : Prop where
  fine : Fine f
  plain : Plain f
  names : ∀ t ∈ nmsT f, t ∈ l
  size : f.size ≤ s

theorem plainL (k : Int) (n : ByteArray) (h : isM k = false) : Plain (.mk k n []) := by
  rw [plain_iff]; intro g hg; rw [allN, allNs] at hg; simp at hg; subst hg; exact h
theorem plainK {k : Int} {n : ByteArray} {ks : List Fm} (h : isM k = false) (hk : ∀ g ∈ ks, Plain g) : Plain (.mk k n ks) := by
  have hs : ∀ (l : List Fm), (∀ g ∈ l, Plain g) → ∀ g ∈ allNs l, isM g.kind = false := by
    intro l
    induction l with
    | nil => intro _ g hg; rw [allNs] at hg; simp at hg
    | cons a tl ih =>
      intro hl g hg; rw [allNs] at hg
      rcases List.mem_append.1 hg with hg | hg
      · exact (plain_iff a).1 (hl a (by simp)) g hg
      · exact ih (fun x hx => hl x (by simp [hx])) g hg
  rw [plain_iff]; intro g hg; rw [allN] at hg
  rcases List.mem_cons.1 hg with rfl | hg
  · exact h
  · exact hs ks hk g hg
theorem MadeF.mono {l l' : List (List UInt8)} {s s' : Nat} {f : Fm} (h : MadeF l s f) (hl : ∀ t ∈ l, t ∈ l') (hs : s ≤ s') : MadeF l' s' f := ⟨h.fine, h.plain, fun t ht => hl t (h.names t ht), Nat.le_trans h.size hs⟩
theorem made_tt : MadeF [] 1 ttF := ⟨fine_leaf 2 (Or.inl rfl), plainL _ _ rfl, fun t ht => by rw [ttF, nmsT_leaf (by decide)] at ht; simp at ht, by rw [ttF, size_leaf]; omega⟩
theorem made_ff : MadeF [] 1 ffF := ⟨fine_leaf 3 (Or.inr rfl), plainL _ _ rfl, fun t ht => by rw [ffF, nmsT_leaf (by decide)] at ht; simp at ht, by rw [ffF, size_leaf]; omega⟩
theorem made_var {n : List UInt8} (h : isNm n = true) : MadeF [n] 1 (varF n) := ⟨fine_name h, plainL _ _ rfl, fun t ht => by rw [varF, nmsT_leaf1] at ht; simpa using ht, by rw [varF, size_leaf]; omega⟩
theorem made_not {l : List (List UInt8)} {s : Nat} {f : Fm} (h : MadeF l s f) : MadeF l (s + 1) (.mk 4 ⟨#[]⟩ [f]) :=
  ⟨fine_one 4 f (Or.inl rfl) h.fine, plainK rfl (fun g hg => by simp at hg; subst hg; exact h.plain), fun t ht => by rw [nmsT_one (by decide)] at ht; exact h.names t ht, by rw [size_one]; have := h.size; omega⟩
theorem made_two {k : Int} (hk : k = 5 ∨ k = 6 ∨ k = 7) {l : List (List UInt8)} {s s' : Nat} {f g : Fm} (h : MadeF l s f) (h' : MadeF l s' g) : MadeF l (s + s' + 1) (.mk k ⟨#[]⟩ [f, g]) :=
  ⟨fine_two k f g hk h.fine h'.fine, plainK (by rcases hk with rfl | rfl | rfl <;> rfl) (fun x hx => by simp at hx; rcases hx with rfl | rfl; exact h.plain; exact h'.plain), fun t ht => by
    (rw [nmsT_two (by omega)] at ht)
    rcases List.mem_append.1 ht with ht | ht
    · exact h.names t ht
    · exact h'.names t ht, by rw [size_two]; have := h.size; have := h'.size; omega⟩

theorem kind_two {f : Fm} (h : Fine f) (hk : f.kind = 2) : f = ttF := by
  rcases h.forms with ⟨n, rfl, hn⟩ | rfl | rfl | ⟨k, g, h1, rfl, hg⟩ | ⟨k, g, g', h1, rfl, hg, hg'⟩
  · cases hk
  · rfl
  · cases hk
  · simp only [Fm.kind] at hk; omega
  · simp only [Fm.kind] at hk; omega
theorem kind_three {f : Fm} (h : Fine f) (hk : f.kind = 3) : f = ffF := by
  rcases h.forms with ⟨n, rfl, hn⟩ | rfl | rfl | ⟨k, g, h1, rfl, hg⟩ | ⟨k, g, g', h1, rfl, hg, hg'⟩
  · cases hk
  · cases hk
  · rfl
  · simp only [Fm.kind] at hk; omega
  · simp only [Fm.kind] at hk; omega
theorem either_tv (q : List UInt8 → Bool) (f : Fm) {g : Fm} (hg : Fine g) : tv q (eitherF f g) = (tv q f || tv q g) := by
  by_cases h4 : g.kind = 4
  · rcases hg.forms with ⟨n, rfl, hn⟩ | rfl | rfl | ⟨k, x, h1, rfl, hx⟩ | ⟨k, x, x', h1, rfl, hx, hx'⟩
    · cases h4
    · cases h4
    · cases h4
    · simp only [Fm.kind] at h4; subst h4
      rw [eitherF, if_pos rfl]; show tv q (.mk 7 ⟨#[]⟩ [x, f]) = _; (rw [tv_then, tv_not]; cases tv q x <;> cases tv q f <;> rfl)
    · simp only [Fm.kind] at h4; omega
  · obtain ⟨k, n, ks⟩ := g
    (rw [eitherF, if_neg (by simpa [Fm.kind] using h4), tv_or])
theorem either_made {l : List (List UInt8)} {s s' : Nat} {f g : Fm} (hf : MadeF l s f) (h : MadeF l s' g) : MadeF l (s + s' + 1) (eitherF f g) := by
  by_cases h4 : g.kind = 4
  · rcases h.fine.forms with ⟨n, rfl, hn⟩ | rfl | rfl | ⟨k, x, h1, rfl, hx⟩ | ⟨k, x, x', h1, rfl, hx, hx'⟩
    · cases h4
    · cases h4
    · cases h4
    · simp only [Fm.kind] at h4; subst h4
      rw [eitherF, if_pos rfl]; have hs := h.size; rw [size_one] at hs; (have hx' : MadeF l s' x := ⟨hx, h.plain.kid (by simp), fun t ht => h.names t (by rw [nmsT_one (by decide)]; exact ht), by omega⟩); (exact (made_two (Or.inr (Or.inr rfl)) hx' hf).mono (fun _ h => h) (by omega))
    · simp only [Fm.kind] at h4; omega
  · obtain ⟨k, n, ks⟩ := g
    (rw [eitherF, if_neg (by simpa [Fm.kind] using h4)]); exact made_two (Or.inr (Or.inl rfl)) hf h

theorem tv_var (q : List UInt8 → Bool) (n : List UInt8) : tv q (varF n) = q n := by rw [varF, tv_name]
theorem dec_tv (q : List UInt8 → Bool) (n : List UInt8) {a b : Fm} (ha : Fine a) (hb : Fine b) : tv q (decF n a b) = if q n then tv q a else tv q b := by
  unfold decF; by_cases h0 : sameB a b = true
  · rw [if_pos h0, sameB_eq a b h0]; simp
  rw [if_neg h0]; (have e2 : a.kind = 2 → tv q a = true := fun h => by rw [kind_two ha h]; exact tv_true q); (have e3 : a.kind = 3 → tv q a = false := fun h => by rw [kind_three ha h]; exact tv_false q); (have f2 : b.kind = 2 → tv q b = true := fun h => by rw [kind_two hb h]; exact tv_true q); (have f3 : b.kind = 3 → tv q b = false := fun h => by rw [kind_three hb h]; exact tv_false q); by_cases h1 : a.kind = 2 ∧ b.kind = 3
  · rw [if_pos h1, tv_var, e2 h1.1, f3 h1.2]; cases q n <;> rfl
  rw [if_neg h1]; by_cases h2 : a.kind = 3 ∧ b.kind = 2
  · rw [if_pos h2, tv_not, tv_var, e3 h2.1, f2 h2.2]; cases q n <;> rfl
  rw [if_neg h2]; by_cases h3 : a.kind = 2
  · rw [if_pos h3, either_tv q _ hb, tv_var, e2 h3]; cases q n <;> simp
  rw [if_neg h3]; by_cases h4 : a.kind = 3
  · rw [if_pos h4, tv_and, tv_not, tv_var, e3 h4]; cases q n <;> simp
  rw [if_neg h4]; by_cases h5 : b.kind = 2
  · rw [if_pos h5, tv_then, tv_var, f2 h5]; cases q n <;> simp
  rw [if_neg h5]; by_cases h6 : b.kind = 3
  · rw [if_pos h6, tv_and, tv_var, f3 h6]; cases q n <;> simp
  (rw [if_neg h6, tv_and, tv_then, either_tv q _ hb, tv_var]; cases q n <;> simp)
theorem dec_made {l : List (List UInt8)} {s s' : Nat} {n : List UInt8} (hn : isNm n = true) (hm : n ∈ l) {a b : Fm} (ha : MadeF l s a) (hb : MadeF l s' b) : MadeF l (s + s' + 5) (decF n a b) := by
  (have hv : MadeF l 1 (varF n) := (made_var hn).mono (fun t ht => by simp at ht; subst ht; exact hm) (Nat.le_refl _)); unfold decF; (have k5 := fun (x y : Fm) s s' (hx : MadeF l s x) (hy : MadeF l s' y) => made_two (Or.inl rfl : (5 : Int) = 5 ∨ (5 : Int) = 6 ∨ (5 : Int) = 7) hx hy); (have k7 := fun (x y : Fm) s s' (hx : MadeF l s x) (hy : MadeF l s' y) => made_two (Or.inr (Or.inr rfl) : (7 : Int) = 5 ∨ (7 : Int) = 6 ∨ (7 : Int) = 7) hx hy)
  repeat' split
  · exact ha.mono (fun _ h => h) (by omega)
  · exact hv.mono (fun _ h => h) (by omega)
  · exact (made_not hv).mono (fun _ h => h) (by omega)
  · exact (either_made hv hb).mono (fun _ h => h) (by omega)
  · exact (k5 _ _ _ _ (made_not hv) hb).mono (fun _ h => h) (by omega)
  · exact (k7 _ _ _ _ hv ha).mono (fun _ h => h) (by omega)
  · exact (k5 _ _ _ _ hv ha).mono (fun _ h => h) (by omega)
  · exact (k5 _ _ _ _ (k7 _ _ _ _ hv ha) (either_made hv hb)).mono (fun _ h => h) (by omega)

/-- A bound on the nodes of what is written. -/
def wB : Nat → Nat
  | 0 => 1
  | n + 1 => 2 * wB n + 5
theorem writL_made (p : List (List UInt8) → Bool) : ∀ (ns h : List (List UInt8)), (∀ t ∈ ns, isNm t = true) → MadeF ns (wB ns.length) (writL p ns h)
  | [], h, _ => by
    rw [writL]
    split
    · exact made_tt
    · exact made_ff
  | n :: ns, h, hn => by
    (have i1 := (writL_made p ns (h ++ [n]) (fun t ht => hn t (by simp [ht]))).mono (l' := n :: ns) (fun t ht => by simp [ht]) (Nat.le_refl _)); (have i2 := (writL_made p ns h (fun t ht => hn t (by simp [ht]))).mono (l' := n :: ns) (fun t ht => by simp [ht]) (Nat.le_refl _)); rw [writL]; (refine (dec_made (hn n (by simp)) (by simp) i1 i2).mono (fun _ h => h) ?_); rw [List.length_cons, wB]; omega
theorem writL_tv (p : List (List UInt8) → Bool) (q : List UInt8 → Bool) : ∀ (ns h : List (List UInt8)), (∀ t ∈ ns, isNm t = true) → tv q (writL p ns h) = p (h ++ ns.filter q)
  | [], h, _ => by
    rw [writL, List.filter_nil, List.append_nil]
    cases p h
    · exact tv_false q
    · exact tv_true q
  | n :: ns, h, hn => by
    (have hn' : ∀ t ∈ ns, isNm t = true := fun t ht => hn t (by simp [ht])); rw [writL, dec_tv q n (writL_made p ns _ hn').fine (writL_made p ns _ hn').fine, writL_tv p q ns _ hn', writL_tv p q ns _ hn', List.filter_cons]
    cases q n
    · simp
    · simp [List.append_assoc]
theorem wB_mono {m n : Nat} (h : m ≤ n) : wB m ≤ wB n := by
  induction h with
  | refl => exact Nat.le_refl _
  | step _ ih => rw [wB]; omega
theorem wB_six {n : Nat} (h : n ≤ 6) : wB n ≤ 379 := Nat.le_trans (wB_mono h) (by decide)
end Go.Proofs.Ytffkoiemnchdgaf
