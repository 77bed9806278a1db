/- Texts of one proof, one behind the other: Names1, Names2, Math12, Parts1. -/
import Derived.Test.YtlmjnglcdgkomaaB11
import Derived.Test.YtlmjnglcdgkomaaB08
import Derived.Test.YtlmjnglcdgkomaaB10
import Derived.Deep.RegionLaw
import Derived.Test.YtlmjnglcdgkomaaB03
import Derived.Sort.OwnSorted
import Derived.Deep.DeepCutAuto
import Derived.Test.YtlmjnglcdgkomaaB07
/- Walks: the names in a formula, as they come. -/
namespace Go.Proofs.Ytlmjnglcdgkomaa
open Go.RowKit

theorem infoText : ∃ i, Try.prog.info? 9 = some i ∧ i.zero = some (.string ⟨#[]⟩) ∧ i.size = 1 ∧ i.bytes = 16 := by
  (obtain ⟨i, hi, h⟩ := Option.map_eq_some_iff.1 (show (Try.prog.info? 9).map (fun i => (i.zero, i.size, i.bytes)) = some (some (.string ⟨#[]⟩), 1, 16) by kernel_rfl)); simp only [Prod.mk.injEq] at h; exact ⟨i, hi, h.1, h.2.1, h.2.2⟩

def nmsOf : List Fm → List ByteArray
  | [] => []
  | .mk k n _ :: fs => if k = 1 then n :: nmsOf fs else nmsOf fs
theorem nmsOf_append : ∀ a b : List Fm, nmsOf (a ++ b) = nmsOf a ++ nmsOf b
  | [], b => rfl
  | .mk k n ks :: a, b => by
    rw [List.cons_append, nmsOf, nmsOf, nmsOf_append a b]
    split <;> rfl
theorem nmsOf_len : ∀ a : List Fm, (nmsOf a).length ≤ a.length
  | [] => Nat.le_refl _
  | .mk k n ks :: a => by
    have := nmsOf_len a; rw [nmsOf]
    split <;> simp <;> omega

/-- The list of names that have come so far. -/
def InvN (cb : Nat) (done : List Fm) (ob : Option Nat) (w : World) : Prop := ∃ ad cp, w.heap[cb]? = some (.cells #[.slice ad (nmsOf done).length cp] 39 (0, 0)) ∧ ob = (Value.slice ad (nmsOf done).length cp).ownBlock ∧ w.ownsRow (cb + 1) 9 1 (.slice ad (nmsOf done).length cp) (nmsOf done).length ((nmsOf done).map Value.string)

set_option maxHeartbeats 2000000 in
theorem names1_no (cb : Nat) (k : Int) (hk : k ≠ 1) (n : ByteArray) (ks : List Fm) (v : Value) (w : World) (hrep : Rep w (fun _ => True) (.mk k n ks) v) :
    Calls Try.prog 53 #[v, .pointer (some ⟨cb, 0, none⟩)] w fun e w' => e = .returned (.tuple #[]) ∧ Below w.heap.size w w' := by
  obtain ⟨sl, cap, rfl⟩ := slice_shape hrep; (have hkJ : (k == 1) = false := by simpa using hk); have B := (Below.refl w.heap.size w).alloc (Nat.le_refl _); clear hrep
  go_enter Try.func53, Try.ntmps53
  go_wp2_with fail
  go_end0
  exact ⟨rfl, B _⟩

theorem owns_set {w : World} {cb : Nat} {T : TypeId} {sz : Nat} {v : Value} {n : Nat} {xs : List Value} (h : w.ownsRow (cb + 1) T sz v n xs) (u : Value) : (w.setCell ⟨cb, 0, none⟩ u).ownsRow (cb + 1) T sz v n xs := by
  obtain ⟨h1, h2⟩ := h; refine ⟨h1, ?_⟩
  rcases h2 with h2 | ⟨g, cap, cur, hv, hg, hh, r⟩
  · exact Or.inl h2
  · exact Or.inr ⟨g, cap, cur, hv, hg, (Below.heap_setCell _ _ _ _ (by simp; omega)).trans hh, r⟩
theorem kept_grown {ok : Nat → Prop} {w w' : World} {ob : Option Nat} (h : w.grownBy w' ob) (hi : ∀ k, ok k → ob ≠ some k) : Kept ok w w' :=
  ⟨h.os, h.tape, h.output, h.size, fun k hk ho => h.block k hk (fun e => hi k ho e.symm)⟩

set_option maxHeartbeats 4000000 in
theorem names1_yes (cb : Nat) (n : ByteArray) (hn : n.size ≤ 8) (ks : List Fm) (v : Value) (w : World) (hrep : Rep w (fun _ => True) (.mk 1 n ks) v) (L : Nat) (hL : L ≤ 200) (ad : Option Addr) (cp : Nat) (xs : List Value) (h1 : w.heap[cb]? = some (.cells #[.slice ad L cp] 39 (0, 0))) (h2 : w.ownsRow (cb + 1) 9 1 (.slice ad L cp) L xs) :
    Calls Try.prog 53 #[v, .pointer (some ⟨cb, 0, none⟩)] w fun e w' => e = .returned (.tuple #[]) ∧ ∃ g cp', w'.heap[cb]? = some (.cells #[.slice (some ⟨g, 0, none⟩) (L + 1) cp'] 39 (0, 0)) ∧ w'.ownsRow (cb + 1) 9 1 (.slice (some ⟨g, 0, none⟩) (L + 1) cp') (L + 1) (xs ++ [.string n]) ∧ Kept (fun b => b ≠ cb ∧ (Value.slice ad L cp).ownBlock ≠ some b) w w' ∧ ((Value.slice ad L cp).ownBlock = some g ∨ w.heap.size ≤ g) := by
  obtain ⟨sl, cap, rfl⟩ := slice_shape hrep; clear hrep; obtain ⟨i0, hi, hz0, hz1, hz2⟩ := infoText; (have hcl : ∀ w, Calls Try.prog 54 #[.string n] w fun e w' => e = .returned (.string n) ∧ Below w.heap.size w w' := fun w => clone_any n w (by omega)); have HCl : Hid (∀ w, Calls Try.prog 54 #[.string n] w _) := hcl; have HO : Hid (w.ownsRow (cb + 1) 9 1 (.slice ad L cp) L xs) := h2; have zc := lt_of_block h1; clear hcl h2
  go_enter Try.func53, Try.ntmps53
  go_wp2_with fail; have p0 := blk_new w (.cells #[.int .i64 1, .string n, .slice sl ks.length cap] 24 (0, 0)); have p1 := alloc_keep h1 (.cells #[.int .i64 1, .string n, .slice sl ks.length cap] 24 (0, 0)); have HO0 : Hid ((w.alloc (.cells #[.int .i64 1, .string n, .slice sl ks.length cap] 24 (0, 0))).ownsRow (cb + 1) 9 1 (.slice ad L cp) L xs) := owns_up HO.out ((Below.refl _ w).alloc (Nat.le_refl _) _); (have HK0 : Hid (Kept (fun b => b ≠ cb ∧ (Value.slice ad L cp).ownBlock ≠ some b) w (w.alloc (.cells #[.int .i64 1, .string n, .slice sl ks.length cap] 24 (0, 0)))) := (Kept.refl _ w).alloc _); (have hs0 : w.heap.size ≤ (w.alloc (.cells #[.int .i64 1, .string n, .slice sl ks.length cap] 24 (0, 0))).heap.size := by simp); generalize w.alloc (.cells #[.int .i64 1, .string n, .slice sl ks.length cap] 24 (0, 0)) = w0 at *; obtain ⟨a0, a1, a2, -⟩ := blk3 p0; obtain ⟨c0, c1⟩ := blk1 p1; have z0 := lt_of_block p0; have z1 := lt_of_block p1
  go_region_law
    (first
     | (have hown := owns_up (owns_up HO0.out hb1') ((Below.refl _ w1).alloc (Nat.le_refl _) (.cells #[.string n] 9 (0, 0)))
        (refine step_append_lies _ rfl _ _ 39 rfl (cb + 1) 9 i0 (.string ⟨#[]⟩) 1 16 Try.underlying39 hi hz0 hz1 hz2 rfl (by decide) _ _ _ rfl hown ⟨w1.heap.size, 0, none⟩ 1 1 [.string n] rfl rfl ?_ ?_ (by omega) (by unfold maxLen; omega) (by omega) (by simp; omega) _ rfl ?_)
        · intro j u hu
          rw [add_none, Nat.zero_add, blk_cell (blk_new w1 _)]; simpa using hu
        · intro u hu
          simp at hu
          rcases hu with rfl; rfl
        intro g3 cp3 w3 hown3 hgrow hat hlt3; have hgrow' : (w1.alloc (.cells #[.string n] 9 (0, 0))).grownBy w3 (Value.slice ad L cp).ownBlock := hgrow; have hat' : (Value.slice ad L cp).ownBlock = some g3 ∨ g3 = (w1.alloc (.cells #[.string n] 9 (0, 0))).heap.size := hat; clear hgrow hat; have HG3 : Hid ((w1.alloc (.cells #[.string n] 9 (0, 0))).grownBy w3 (Value.slice ad L cp).ownBlock) := hgrow'; have HA3 : Hid ((Value.slice ad L cp).ownBlock = some g3 ∨ g3 = (w1.alloc (.cells #[.string n] 9 (0, 0))).heap.size) := hat'; have HW3 : Hid (w3.ownsRow (cb + 1) 9 1 (.slice (some ⟨g3, 0, none⟩) (L + 1) cp3) (L + 1) (xs ++ [.string n])) := hown3; (have r3 := (hgrow'.block cb (by simp; omega) (fun e => by have := (hown.lt cb e.symm).1; omega)).trans (alloc_keep r2 _)); clear hgrow' hat' hown3 hown; clear c0 c1; obtain ⟨c0, c1⟩ := blk1 r3
        have y5 := HG3.out.size)
     | (go_simp
        refine (HCl.out _).mono ?_; rintro e w1 ⟨rfl, hb1⟩; have hb1' : Below w0.heap.size w0 w1 := (Below.refl _ w0).drew.trans hb1; clear hb1; have r2 := below_keep hb1' p1; clear c0 c1; obtain ⟨c0, c1⟩ := blk1 r2; have y4 : cb < w1.heap.size := lt_of_block r2; have y6 := hb1'.size
        dsimp only)
     | fail)
  all_goals
    go_end0
    refine ⟨rfl, g3, cp3, set1 r3 _, owns_set HW3.out _, ?_, ?_⟩
    · exact ((((HK0.out.trans (kept_of_below hb1' fun _ h _ => h)).alloc _).trans (kept_grown HG3.out fun k h => h.2))).setCell (fun _ h => h.1 rfl) _
    · rcases HA3.out with h | h
      · exact Or.inl h
      · refine Or.inr ?_
        simp at h; omega

theorem names1_in (cap : Array Value) (w : World) : (callFunc 53 cap).run Try.prog w = .ok (.enter 53 cap) w := by
  simp [go_sem]

theorem names_visit (B cb : Nat) (h : B ≤ cb) : Visit 53 #[.pointer (some ⟨cb, 0, none⟩)] B cb (InvN cb) where
  hB := h
  lt := fun hi => by
    obtain ⟨ad, cp, h1, h2, h3⟩ := hi; (refine ⟨lt_of_block h1, fun g e => ?_⟩); rw [h2] at e; have := h3.lt g e; omega
  alloc := fun o hi => by
    obtain ⟨ad, cp, h1, h2, h3⟩ := hi; exact ⟨ad, cp, alloc_keep h1 o, h2, owns_up h3 ((Below.refl _ _).alloc (Nat.le_refl _) _)⟩
  ent := fun v w => names1_in _ w
  call := fun done ob f v w hl hf hrep hi => by
    obtain ⟨ad, cp, h1, h2, h3⟩ := hi; have hL := nmsOf_len done; obtain ⟨k, n, ks⟩ := f; by_cases hk : k = 1
    · subst hk
      (refine (names1_yes cb n hf.small.1 ks v w hrep.all (nmsOf done).length (by omega) ad cp _ h1 h3).mono ?_); rintro e w' ⟨rfl, g, cp', q1, q2, q3, q4⟩; (have e1 : nmsOf (done ++ [Fm.mk 1 n ks]) = nmsOf done ++ [n] := by rw [nmsOf_append]; rfl); (refine ⟨rfl, some g, ⟨some ⟨g, 0, none⟩, cp', ?_⟩, by rw [h2]; exact q3, ?_⟩)
      · rw [e1, List.length_append, List.map_append]
        exact ⟨q1, rfl, q2⟩
      · rcases q4 with h | h
        · exact Or.inl (by rw [h2, h])
        · exact Or.inr ⟨g, rfl, h⟩
    · refine (names1_no cb k hk n ks v w hrep.all).mono ?_
      rintro e w' ⟨rfl, hb⟩
      have e1 : nmsOf (done ++ [Fm.mk k n ks]) = nmsOf done := by
        rw [nmsOf_append, nmsOf, if_neg hk, nmsOf, List.append_nil]
      (refine ⟨rfl, ob, ⟨ad, cp, ?_⟩, kept_of_below hb (fun _ h _ => h), Or.inl rfl⟩); rw [e1]; exact ⟨below_keep hb h1, h2, owns_up h3 hb⟩
end Go.Proofs.Ytlmjnglcdgkomaa
/- Walks: Names. -/
namespace Go.Proofs.Ytlmjnglcdgkomaa
open Go.RowKit Go.Sort

abbrev srt (ss : List (List UInt8)) : List (List UInt8) := ss.mergeSort fun x y => decide (x ≤ y)

theorem sort_any (base g cap : Nat) (ss : List (List UInt8)) (hl : ss.length ≤ 200) (w : World) (hown : w.ownsRow base 9 1 (.slice (some ⟨g, 0, none⟩) ss.length cap) ss.length (ss.map encStr)) :
    Calls Try.prog 55 #[.slice (some ⟨g, 0, none⟩) ss.length cap] w fun e w' => e = .returned (.tuple #[]) ∧ w'.ownsRow base 9 1 (.slice (some ⟨g, 0, none⟩) ss.length cap) ss.length ((srt ss).map encStr) ∧ w.grownBy w' (some g) := by
  rcases hown.2 with ⟨h, -⟩ | ⟨g', cap', cur, hv, hg, hh, h1, h2, h3, h4⟩
  · cases h
  · cases hv
    rw [Nat.mul_one] at h4; (refine (Try.slices_Sort_string g 0 cap ss w (holds_of_block hh h4) (lt_of_block hh) (by omega)).mono ?_); rintro e w' ⟨rfl, n, os, rfl⟩; exact ⟨rfl, ownsRow_sorted (List.length_mergeSort ..) hg hh h1 h2 h3, grownBy_sorted _⟩

theorem compact_len (zs : List (List UInt8)) : (Lib.compact zs).length ≤ zs.length := by
  unfold Lib.compact Lib.compactUpTo; rw [List.length_map]; (exact Nat.le_trans (List.length_filter_le _ _) (by simp))

theorem compact_mem (zs : List (List UInt8)) (t : List UInt8) : t ∈ Lib.compact zs ↔ t ∈ zs := by
  unfold Lib.compact Lib.compactUpTo
  constructor
  · intro h
    obtain ⟨j, hj, rfl⟩ := List.mem_map.1 h; have hj := List.mem_range.1 (List.mem_filter.1 hj).1; (rw [getElem!_pos _ j (by simpa using hj)])
    simp
  · intro h
    obtain ⟨j, hj, rfl⟩ := List.getElem_of_mem h
    have key : ∀ j, j < zs.length → zs.toArray[j]! ∈ ((List.range zs.length).filter (Lib.keeps zs.toArray)).map (zs.toArray[·]!) := by
      intro j
      induction j with
      | zero => intro hj; exact List.mem_map.2 ⟨0, List.mem_filter.2 ⟨List.mem_range.2 hj, by simp [Lib.keeps]⟩, rfl⟩
      | succ j ih =>
        intro hj; by_cases hk : Lib.keeps zs.toArray (j + 1) = true
        · exact List.mem_map.2 ⟨j + 1, List.mem_filter.2 ⟨List.mem_range.2 hj, hk⟩, rfl⟩
        · have e : zs.toArray[j + 1]! = zs.toArray[j]! := by
            simpa [Lib.keeps] using hk
          rw [e]; (exact ih (by omega))
    have := key j hj; (rw [getElem!_pos _ j (by simpa using hj)] at this); simpa using this

theorem uniq_any (base g cap : Nat) (zs : List (List UInt8)) (hl : zs.length ≤ 200) (w : World) (hown : w.ownsRow base 9 1 (.slice (some ⟨g, 0, none⟩) zs.length cap) zs.length (zs.map encStr)) :
    Calls Try.prog 56 #[.slice (some ⟨g, 0, none⟩) zs.length cap] w fun e w' => e = .returned (.slice (some ⟨g, 0, none⟩) (Lib.compact zs).length cap) ∧ (∀ (j : Nat) (t : List UInt8), (Lib.compact zs)[j]? = some t → w'.cell? ⟨g, j, none⟩ = some (encStr t)) ∧ w.grownBy w' (some g) := by
  have hcl := compact_len zs
  rcases hown.2 with ⟨h, -⟩ | ⟨g', cap', cur, hv, hg, hh, h1, h2, h3, h4⟩
  · cases h
  · cases hv
    rw [Nat.mul_one] at h4; have hH := holds_of_block hh h4; (refine (Try.slices_Compact_string g 0 cap zs w hH (by omega) h1).mono ?_); rintro e w' ⟨rfl, q, rfl⟩; (refine ⟨rfl, fun j t ht => ?_, ?_⟩)
    · have hj : j < (Lib.compact zs).length := by
        rcases Nat.lt_or_ge j (Lib.compact zs).length with h | h
        · exact h
        · rw [List.getElem?_eq_none h] at ht; cases ht
      (have := cell?_putRow encStr (Sort.ahead w q) g 0 zs.toArray (Lib.compact zs ++ List.replicate (zs.length - (Lib.compact zs).length) []).toArray (holds_ahead _ _ _ _ _ _ hH) (by simp; omega) j (by simp; omega)); rw [Nat.zero_add] at this; rw [this]
      congr 2
      (rw [getElem!_pos _ j (by simp; omega)]); simp only [List.getElem_toArray]; rw [List.getElem_append_left hj]; rw [List.getElem?_eq_getElem hj] at ht; exact Option.some.inj ht
    · have := grownBy_sorted (w := w) (g := g) (n := q) (os := #[]) (Lib.compact zs ++ List.replicate (zs.length - (Lib.compact zs).length) []).toArray
      rwa [grow_empty] at this

/-- A list of texts in memory. -/
def TL (w : World) (v : Value) (l : List (List UInt8)) : Prop := ∃ ad cap, v = .slice ad l.length cap ∧ l.length ≤ cap ∧ cap ≤ maxLen ∧ (l ≠ [] → ∃ g, ad = some ⟨g, 0, none⟩ ∧ ∀ (j : Nat) (t : List UInt8), l[j]? = some t → w.cell? ⟨g, j, none⟩ = some (.string ⟨t.toArray⟩))
theorem TL.up {w w' : World} {v : Value} {l : List (List UInt8)} (h : TL w v l) (hb : Below w.heap.size w w') : TL w' v l := by
  obtain ⟨ad, cap, h1, h2, h3, h4⟩ := h; (refine ⟨ad, cap, h1, h2, h3, fun hne => ?_⟩); obtain ⟨g, h5, h6⟩ := h4 hne
  exact ⟨g, h5, fun j t ht => by
    have := h6 j t ht; rw [hb.cell (p := ⟨g, j, none⟩) (lt_of_cell this)]
    exact this⟩
theorem TL.nil {w : World} : TL w (.slice none 0 0) [] := ⟨none, 0, rfl, by simp, by simp, fun h => absurd rfl h⟩

/-- The names in a formula, each once, rising. -/
def nmsT (f : Fm) : List (List UInt8) := (nmsOf (allN f)).map (·.data.toList)
def nmsU (f : Fm) : List (List UInt8) := Lib.compact (srt (nmsT f))
theorem nmsU_mem (f : Fm) (t : List UInt8) : t ∈ nmsU f ↔ t ∈ nmsT f := by
  unfold nmsU; rw [compact_mem]; exact List.mem_mergeSort

theorem map_enc (l : List ByteArray) : (l.map (·.data.toList)).map encStr = l.map Value.string := by
  rw [List.map_map]; apply List.map_congr_left; intro b _; rfl

theorem uniq_nil : Lib.compact (srt []) = [] := by
  have : (Lib.compact (srt [])).length ≤ (srt []).length := compact_len _; rw [List.length_mergeSort] at this; (exact List.length_eq_zero_iff.1 (by simpa using this))

set_option maxHeartbeats 4000000 in
theorem names_ok (f : Fm) (v : Value) (w : World) (hrep : Rep w (fun _ => True) f v) (s : Nat) (hc : chk f 0 = .ok s) :
    Calls Try.prog 20 #[v] w fun e w' => ∃ x, e = .returned (.tuple #[x, .agg #[.int .i64 0, .int .i64 0]]) ∧ TL w' x (nmsU f) ∧ Below w.heap.size w w' := by
  (have hck := fun v (w : World) h => check_any f v w h); (have hcode : f.code = (0, 0) := by simp only [Fm.code, hc]); rw [hcode] at hck; have hsz := chk_size hc; have hfi := fine_of_chk f 0 s hc; (have hea := fun cb hcb v wx h hi => each_any (names_visit w.heap.size cb hcb) none f v wx hsz hfi h hi); (have hm := hrep.move (ok' := (· < w.heap.size)) fun b hb _ => ⟨rfl, hb⟩)
  have hnl : (nmsT f).length ≤ 200 := by
    unfold nmsT; have := nmsOf_len (allN f); rw [allN_len] at this; rw [List.length_map]; omega
  have hnt : (nmsT f).length = (nmsOf (allN f)).length := List.length_map ..; have hme : (nmsT f).map encStr = (nmsOf (allN f)).map Value.string := map_enc _; have hnu : nmsU f = Lib.compact (srt (nmsT f)) := rfl; obtain ⟨k, n, ks⟩ := f; obtain ⟨sl, cap, rfl⟩ := slice_shape hrep; have HC : Hid (∀ v w, _ → Calls Try.prog 12 #[v] w _) := hck; have HE : Hid (∀ (cb : Nat) (hcb : w.heap.size ≤ cb) (v : Value) (wx : World), Rep wx (· < w.heap.size) (.mk k n ks) v → InvN cb [] none wx → Calls Try.prog 52 _ wx _) := hea; have HM : Hid (Rep w (· < w.heap.size) (.mk k n ks) (.agg #[.int .i64 k, .string n, .slice sl ks.length cap])) := hm; have HT : Hid ((nmsT (.mk k n ks)).map encStr = (nmsOf (allN (.mk k n ks))).map Value.string ∧ (nmsT (.mk k n ks)).length = (nmsOf (allN (.mk k n ks))).length ∧ nmsU (.mk k n ks) = Lib.compact (srt (nmsT (.mk k n ks))) ∧ (nmsT (.mk k n ks)).length ≤ 200) := ⟨hme, hnt, hnu, hnl⟩; (have hmf : ∀ (fn : Fn) (first cap : Array Value) (w : World), (Instr.makeFunc fn first cap).run Try.prog w = .ok (.func fn first cap) w := fun _ _ _ _ => rfl); clear hck hcode hc hea hm hnl hnt hme hnu; generalize nmsT (.mk k n ks) = T at *; generalize nmsU (.mk k n ks) = U at *
  go_enter Try.func20, Try.ntmps20
  go_wp2_with (first
    | (go_at_call 12
       refine (HC.out _ _ ((hrep.more _).more _)).mono ?_; rintro e w1 ⟨rfl, hb1⟩; have z1 := hb1.size; simp at z1; have q0 := below_keep hb1 (alloc_keep (blk_new w _) _); have q1 := below_keep hb1 (blk_new (w.alloc _) _); (rw [show (w.alloc _).heap.size = w.heap.size + 1 by simp] at q1); have B1 := below_join (below_more (below_more (Below.refl _ w) _) _) hb1; have M1 : Hid (Rep w1 (· < w.heap.size) (.mk k n ks) (.agg #[.int .i64 k, .string n, .slice sl ks.length cap])) := HM.out.low B1; obtain ⟨a0, a1, a2, -⟩ := blk3 q0; have y0 : w.heap.size < w1.heap.size := lt_of_block q0
       have y1 : w.heap.size + 1 < w1.heap.size := lt_of_block q1)
    | (go_at_call 52
       have nb := blk_new (w1.alloc (.cells #[.int .i64 0, .int .i64 0] 29 (0, 0))) (.cells #[.slice none 0 0] 39 (0, 0)); (rw [show (w1.alloc (.cells #[.int .i64 0, .int .i64 0] 29 (0, 0))).heap.size = w1.heap.size + 1 by simp] at nb); (refine (HE.out (w1.heap.size + 1) (by omega) _ _ (M1.out.low (((Below.refl _ w1).alloc (by omega) _).alloc (by simp; omega) _)) ⟨none, 0, nb, rfl, ⟨rfl, Or.inl ⟨rfl, rfl⟩⟩⟩).mono ?_); rintro e w2 ⟨rfl, ob', ⟨ad, cp, c1, c2, c3⟩, hk2, -⟩; (have r1 : w2.heap[w.heap.size + 1]? = some (.cells #[.int .i64 0, .int .i64 0] 29 (0, 0)) := (hk2.block _ (by simp; omega) ⟨by omega, by simp⟩).trans (alloc_keep (alloc_keep q1 _) _)); (have B2 : Below w.heap.size w w2 := (below_more (below_more B1 _) _).trans (hk2.below (by simp; omega) (fun b hb => ⟨by omega, by simp⟩))); have HR : Hid (w2.ownsRow (w1.heap.size + 1 + 1) 9 1 (.slice ad (nmsOf (allN (.mk k n ks))).length cp) (nmsOf (allN (.mk k n ks))).length ((nmsOf (allN (.mk k n ks))).map Value.string)) := c3; rw [← HT.out.2.1] at c1; have zc := lt_of_block c1; clear c2 c3 hk2 nb
       have HD : Hid ((ad = none ∧ T = [] ∧ cp = 0) ∨ ∃ g, ad = some ⟨g, 0, none⟩ ∧ w1.heap.size + 1 + 1 ≤ g ∧ w2.ownsRow (w1.heap.size + 1 + 1) 9 1 (.slice (some ⟨g, 0, none⟩) T.length cp) T.length (T.map encStr)) := by
         have h := HR.out; rw [← HT.out.1, ← HT.out.2.1] at h
         rcases h.2 with ⟨hv, h0⟩ | ⟨g, cap', cur, hv, hg, -⟩
         · simp only [Value.slice.injEq] at hv
           exact Or.inl ⟨hv.1, List.length_eq_zero_iff.1 h0, hv.2.2⟩
         · simp only [Value.slice.injEq, true_and] at hv
           rw [hv.1] at h; exact Or.inr ⟨g, hv.1, hg, h⟩
       clear HR; have hd := HD.out; clear HD
       rcases hd with ⟨rfl, hT, rfl⟩ | ⟨g, rfl, hgg, hown⟩
       case' inl =>
         subst hT; have HUn : Hid (U = []) := HT.out.2.2.1.trans uniq_nil
         replace c1 : w2.heap[w1.heap.size + 1]? = some (.cells #[.slice none 0 0] 39 (0, 0)) := c1
       case' inr =>
         have HO : Hid (w2.ownsRow (w1.heap.size + 1 + 1) 9 1 (.slice (some ⟨g, 0, none⟩) T.length cp) T.length (T.map encStr)) := hown; clear hown
       all_goals obtain ⟨k1, k2⟩ := blk1 c1)
    | (go_at_call 55
       have ho := HO.out; refine (sort_any (w1.heap.size + 1 + 1) g cp T HT.out.2.2.2 _ ho).mono ?_; rintro e w3 ⟨rfl, ho3, hg3⟩; have HO3 : Hid (w3.ownsRow (w1.heap.size + 1 + 1) 9 1 (.slice (some ⟨g, 0, none⟩) T.length cp) T.length ((srt T).map encStr)) := ho3; (have s1 := (hg3.block _ zc (fun e => by have : w1.heap.size + 1 = g := Option.some.inj e; omega)).trans c1); (have s2 := (hg3.block _ (lt_of_block r1) (fun e => by have : w.heap.size + 1 = g := Option.some.inj e; omega)).trans r1); (have B3 : Below w.heap.size w w3 := B2.trans ⟨hg3.os, hg3.tape, hg3.output, hg3.size, fun j hj => hg3.block j (by have := B2.size; omega) (fun e => by have : j = g := Option.some.inj e; omega)⟩); clear ho3 hg3 k1 k2
       obtain ⟨k1, k2⟩ := blk1 s1)
    | (go_at_call 55
       have hu := HUn.out; refine (Try.slices_Sort_string_none _ _ _).mono ?_; rintro e w3 ⟨rfl, rfl⟩
       obtain ⟨p0, p1, p2, p3⟩ := blk2 r1)
    | (go_at_call 56
       have ho := HO3.out; have hsl : (srt T).length = T.length := List.length_mergeSort ..; (have hun := uniq_any (w1.heap.size + 1 + 1) g cp (srt T) (by rw [hsl]; exact HT.out.2.2.2) w3 (by rw [hsl]; exact ho)); rw [hsl, ← HT.out.2.2.1] at hun; refine hun.mono ?_; rintro e w4 ⟨rfl, hcells, hg4⟩; (have t2 := (hg4.block _ (lt_of_block s2) (fun e => by have : w.heap.size + 1 = g := Option.some.inj e; omega)).trans s2); (have B4 : Below w.heap.size w w4 := B3.trans ⟨hg4.os, hg4.tape, hg4.output, hg4.size, fun j hj => hg4.block j (by have := B3.size; omega) (fun e => by have : j = g := Option.some.inj e; omega)⟩); have HCe : Hid (∀ (j : Nat) (t : List UInt8), U[j]? = some t → w4.cell? ⟨g, j, none⟩ = some (encStr t)) := hcells
       have HUl : Hid (U.length ≤ cp ∧ cp ≤ maxLen) := by
         have h1 := compact_len (srt T); rw [hsl, ← HT.out.2.2.1] at h1
         rcases ho.2 with ⟨hv, -⟩ | ⟨g', cap', cur, hv, -, -, h2, h3, -⟩
         · cases hv
         · cases hv
           (exact ⟨by omega, h3⟩)
       clear hun hcells hg4
       obtain ⟨p0, p1, p2, p3⟩ := blk2 t2)
    | (go_at_call 56
       have hu := HUn.out; refine (Try.slices_Compact_string_empty _ _ _).mono ?_
       rintro e w4 ⟨rfl, rfl⟩)
    | fail)
  · have f2 := set2 t2 (.int .i64 0) (.int .i64 0)
    (have b2 := (B4.setCell (p := ⟨w.heap.size + 1, 0, none⟩) (by simp) (.int .i64 0)).setCell (p := ⟨w.heap.size + 1, 1, none⟩) (by simp) (.int .i64 0))
    have TF : TL ((w4.setCell ⟨w.heap.size + 1, 0, none⟩ (.int .i64 0)).setCell ⟨w.heap.size + 1, 1, none⟩ (.int .i64 0)) (.slice (some ⟨g, 0, none⟩) U.length cp) U := by
      (refine ⟨_, cp, rfl, HUl.out.1, HUl.out.2, fun _ => ⟨g, rfl, fun j t ht => ?_⟩⟩); (rw [World.cell?_setCell_far _ _ _ _ (by simp; omega), World.cell?_setCell_far _ _ _ _ (by simp; omega)]); exact HCe.out j t ht
    generalize World.setCell _ _ _ = F at f2 b2 TF ⊢; clear p0 p1 p2 p3; obtain ⟨p0, p1, -⟩ := blk2 f2; (exact bodyPost_ret (v := .tuple #[.slice (some ⟨g, 0, none⟩) U.length cp, .agg #[.int .i64 0, .int .i64 0]]) (by simp [results, Try.results20, go_sem, p0, p1]) rfl ⟨_, rfl, TF, b2⟩)
  · have f2 := set2 r1 (.int .i64 0) (.int .i64 0)
    (have b2 := (B2.setCell (p := ⟨w.heap.size + 1, 0, none⟩) (by simp) (.int .i64 0)).setCell (p := ⟨w.heap.size + 1, 1, none⟩) (by simp) (.int .i64 0)); generalize World.setCell _ _ _ = F at f2 b2 ⊢; clear p0 p1 p2 p3; obtain ⟨p0, p1, -⟩ := blk2 f2; (exact bodyPost_ret (v := .tuple #[.slice none 0 0, .agg #[.int .i64 0, .int .i64 0]]) (by simp [results, Try.results20, go_sem, p0, p1]) rfl ⟨_, rfl, by rw [HUn.out]; exact TL.nil, b2⟩)
end Go.Proofs.Ytlmjnglcdgkomaa
/- What a formula for a name does to names and sizes. -/
namespace Go.Proofs.Ytlmjnglcdgkomaa

theorem allN_leaf (k : Int) (n : ByteArray) : allN (.mk k n []) = [.mk k n []] := by rw [allN, allNs]
theorem allN_one (k : Int) (n : ByteArray) (f : Fm) : allN (.mk k n [f]) = .mk k n [f] :: allN f := by rw [allN, allNs, allNs, List.append_nil]
theorem allN_two (k : Int) (n : ByteArray) (f g : Fm) : allN (.mk k n [f, g]) = .mk k n [f, g] :: (allN f ++ allN g) := by rw [allN, allNs, allNs, allNs, List.append_nil]

end Go.Proofs.Ytlmjnglcdgkomaa
/- Walks: lists of texts and of formulas, as the yardstick compares them. -/
namespace Go.Proofs.Ytlmjnglcdgkomaa
open Go.RowKit

set_option maxHeartbeats 1000000 in
theorem texts_same (l : List (List UInt8)) (v u : Value) (w : World) (h : TL w v l) (h' : TL w u l) :
    Calls Try.prog 23 #[v, u] w fun e w' => e = .returned (.bool true) ∧ Below w.heap.size w w' := by
  obtain ⟨ad, cap, rfl, h1, h2, h3⟩ := h; obtain ⟨ad', cap', rfl, h1', h2', h3'⟩ := h'; (have hlI : (l.length : Int) ≤ 9223372036854775807 := by unfold maxLen at h2; omega); have H3 : Hid (l ≠ [] → ∃ g, ad = some ⟨g, 0, none⟩ ∧ ∀ (j : Nat) (t : List UInt8), l[j]? = some t → w.cell? ⟨g, j, none⟩ = some (.string ⟨t.toArray⟩)) := h3; have H4 : Hid (l ≠ [] → ∃ g, ad' = some ⟨g, 0, none⟩ ∧ ∀ (j : Nat) (t : List UInt8), l[j]? = some t → w.cell? ⟨g, j, none⟩ = some (.string ⟨t.toArray⟩)) := h3'; clear h3 h3'
  go_enter Try.func23, Try.ntmps23
  go_wp2_with fail
  go_loopg [5] l.length (fun g c wr => ∃ i, i ≤ l.length ∧ g = l.length - i ∧ c = .int .i64 (i : Nat) ∧ Below w.heap.size w wr ∧ (∀ a : Addr, wr.cell? a = w.cell? a))
  case atStart => exact ⟨0, by omega, by omega, rfl, Below.refl _ _, fun _ => rfl⟩
  case round =>
    obtain ⟨i, hi, hg, rfl, hbr, hce⟩ := hrel; have HG : Hid (gk = l.length - i) := hg; have HCe : Hid (∀ a : Addr, wr.cell? a = w.cell? a) := hce; clear hg hce; by_cases hlt : i < l.length
    · obtain ⟨x, hx⟩ : ∃ x, l[i]? = some x := ⟨_, List.getElem?_eq_getElem hlt⟩
      (obtain ⟨g, rfl, hc⟩ := H3.out (fun e => by rw [e] at hlt; simp at hlt)); (obtain ⟨g', rfl, hc'⟩ := H4.out (fun e => by rw [e] at hlt; simp at hlt)); have g0 := (HCe.out _).trans (hc i x hx); have g1 := (HCe.out _).trans (hc' i x hx); (have hltI : (i : Int) < (l.length : Int) := by omega); (have hlc : (i : Int) < (cap : Int) := by omega); (have hlc' : (i : Int) < (cap' : Int) := by omega); clear hc hc' hx H3 H4; generalize (⟨x.toArray⟩ : ByteArray) = X at *; go_wp2_with fail
      go_quiet (fail)
      go_wp2_with fail
      go_roundg (l.length - (i + 1))
      case measure => have := HG.out; omega
      case rel => exact ⟨i + 1, by omega, rfl, by go_num, ⟨hbr.os, hbr.tape, hbr.output, hbr.size, hbr.block⟩, fun a => HCe.out a⟩
    · have hge : ¬ (i : Int) < (l.length : Int) := by omega
      clear H3 H4; go_wp2_with fail; go_ret; exact ⟨rfl, hbr⟩

/-- A list of formulas in memory. -/
def FL (w : World) (v : Value) (fs : List Fm) : Prop := ∃ ad cap, v = .slice ad fs.length cap ∧ fs.length ≤ cap ∧ cap ≤ maxLen ∧ (fs ≠ [] → ∃ b off, ad = some ⟨b, off, none⟩ ∧ Reps w (fun _ => True) b off fs)
end Go.Proofs.Ytlmjnglcdgkomaa
