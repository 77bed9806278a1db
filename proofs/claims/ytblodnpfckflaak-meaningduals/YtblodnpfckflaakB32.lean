/- Texts of one proof, one behind the other: SN5, SN6. -/
import Derived.Test.YtblodnpfckflaakB30
/- Walks: look (what Check says of one function or predicate). -/
namespace Go.Proofs.Ytblodnpfckflaak
open Go.RowKit Go.Sort Go.Maps Go.WideMaps

/-- What look says. -/
def lkF (N : Nat) (seen : Bool) (nm : List UInt8) (ar : Int) (filled : Nat) : Option Int := if seen = true ∨ isBg nm = false then some 8 else if ar < 0 ∨ 3 < ar then some 3 else if filled ≠ N ^ ar.toNat then some 9 else none
def LkPost (o : Option Int) (bm c : Nat) (mu : List UInt8 → Option Value) (nm : List UInt8) (at_ : Nat) (w : World) (e : Ending) (w' : World) : Prop := match o with
  | some code => e = .panicked (stopC code (at_ : Nat)) ∧ Below w.heap.size w w'
  | none => e = .returned (.tuple #[]) ∧ GMap w' bm (gPut mu nm (.int .i64 (at_ : Nat))) (c + 1) ∧ Kept (· ≠ bm) w w'
set_option maxRecDepth 10000 in
set_option maxHeartbeats 8000000 in
theorem look_nm (N : Nat) (hN : N ≤ 8) (bm c : Nat) (hc : c ≤ 1000) (mu : List UInt8 → Option Value) (nm : ByteArray) (hn : nm.size ≤ maxLen) (ar : Int) (filled at_ : Nat) (w : World) (hg : GMap w bm mu c) (hmu : ∀ s v, mu s = some v → ∃ x : Int, v = .int .i64 x) :
    Calls Try.prog 52 #[.agg #[.int .i64 (N : Nat), .map (some bm)], .string nm, .int .i64 ar, .int .i64 (filled : Nat), .int .i64 (at_ : Nat)] w (LkPost (lkF N (mu nm.data.toList).isSome nm.data.toList ar filled) bm c mu nm.data.toList at_ w) := by
  obtain ⟨W, hWe⟩ : ∃ W, w.alloc (.cells #[.int .i64 (N : Nat), .map (some bm)] 90 (0, 0)) = W := ⟨_, rfl⟩; (have hBW : Below w.heap.size w W := by rw [← hWe]; exact below_more (Below.refl _ _) _); (have hq : W.heap[w.heap.size]? = some (.cells #[.int .i64 (N : Nat), .map (some bm)] 90 (0, 0)) := by rw [← hWe]; exact blk_new _ _); have hgW := hg.up hBW; have HG : Hid (GMap W bm mu c) := hgW; have HBW : Hid (Below w.heap.size w W) := hBW; have hlk := hgW.lookOk (okT_of hn) Try.underlying55 zeroInt 0; rw [str_eta] at hlk
  obtain ⟨x, hx⟩ : ∃ x : Int, (mu nm.data.toList).getD (.int .i64 0) = .int .i64 x := by
    rcases hm : mu nm.data.toList with _ | v
    · exact ⟨0, rfl⟩
    · obtain ⟨x, rfl⟩ := hmu _ v hm
      exact ⟨x, rfl⟩
  rw [hx] at hlk; (have HBg : Hid (∀ w, Calls Try.prog 68 #[.string nm] w fun e w' => e = .returned (.bool (isBg nm.data.toList)) ∧ w' = w) := fun w => big_any nm w); have HO : Hid (OkT nm.data.toList ∧ c ≤ 1000) := ⟨okT_of hn, hc⟩; obtain ⟨a0, a1, a2, a3⟩ := blk2 hq; have hs1 := lt_of_block hq; have hlk0 : (Instr.lookup 55 (.map (some bm)) (.string nm) true).run Try.prog W = .ok (.tuple #[.int .i64 x, .bool (mu nm.data.toList).isSome]) W := hlk; clear hg hmu hn hc hBW hq hgW hlk hx; unfold lkF
  rcases hsn : (mu nm.data.toList).isSome with _ | _
  case true =>
    rw [hsn] at hlk0; rw [if_pos (Or.inl rfl)]; clear hsn
    go_enter Try.func52, Try.ntmps52
    go_wp2_with (first
      | (go_at_call 54; refine (stop_any _ _ _).mono ?_; rintro e w4 ⟨rfl, rfl⟩)
      | fail)
    exact ⟨rfl, rfl, HBW.out⟩
  rw [hsn] at hlk0; clear hsn
  rcases hbg : isBg nm.data.toList with _ | _
  · rw [hbg] at HBg
    rw [if_pos (Or.inr rfl)]; clear hbg
    go_enter Try.func52, Try.ntmps52
    go_wp2_with (first
      | (go_at_call 68; refine (HBg.out _).mono ?_; rintro e w3 ⟨rfl, h3⟩; obtain rfl : W = w3 := h3.symm)
      | (go_at_call 54; refine (stop_any _ _ _).mono ?_; rintro e w4 ⟨rfl, rfl⟩)
      | fail)
    exact ⟨rfl, rfl, HBW.out⟩
  rw [hbg] at HBg; (rw [if_neg (by simp)]); clear hbg; by_cases hlo : ar < 0
  · rw [if_pos (Or.inl hlo)]
    go_enter Try.func52, Try.ntmps52
    go_wp2_with (first
      | (go_at_call 68; refine (HBg.out _).mono ?_; rintro e w3 ⟨rfl, h3⟩; obtain rfl : W = w3 := h3.symm)
      | (go_at_call 54; refine (stop_any _ _ _).mono ?_; rintro e w4 ⟨rfl, rfl⟩)
      | fail)
    exact ⟨rfl, rfl, HBW.out⟩
  by_cases hhi : 3 < ar
  · rw [if_pos (Or.inr hhi)]
    go_enter Try.func52, Try.ntmps52
    go_wp2_with (first
      | (go_at_call 68; refine (HBg.out _).mono ?_; rintro e w3 ⟨rfl, h3⟩; obtain rfl : W = w3 := h3.symm)
      | (go_at_call 54; refine (stop_any _ _ _).mono ?_; rintro e w4 ⟨rfl, rfl⟩)
      | fail)
    exact ⟨rfl, rfl, HBW.out⟩
  (rw [if_neg (fun h => h.elim hlo hhi)]); (obtain ⟨r, rfl⟩ : ∃ r : Nat, ar = (r : Int) := ⟨ar.toNat, by omega⟩); (have HPw : Hid (∀ w, Calls Try.prog 24 #[.int .i64 (N : Nat), .int .i64 (r : Nat)] w fun e w' => e = .returned (.int .i64 ((N ^ r : Nat) : Int)) ∧ w' = w) := fun w => power_any N r hN (by omega) w); have er : (r : Int).toNat = r := Int.toNat_natCast r; rw [er]; generalize N ^ r = P at *; clear er hN; by_cases hfl : filled = P
  · have hJ : ((filled : Int) != (P : Int)) = false := by rw [bne_eq_false_iff_eq]; omega
    (rw [if_neg (fun h => h hfl)]); clear hfl
    go_enter Try.func52, Try.ntmps52
    go_wp2_with (first
      | (go_at_call 68; refine (HBg.out _).mono ?_; rintro e w3 ⟨rfl, h3⟩; obtain rfl : W = w3 := h3.symm)
      | (go_at_call 24; refine (HPw.out _).mono ?_; rintro e w3 ⟨rfl, h3⟩; obtain rfl : W = w3 := h3.symm)
      | (at_mapUpdate
         (refine wpList_gput rfl _ _ _ 55 3 rfl Try.underlying55 bm c nm.data.toList mu HO.out.1 (by have := HO.out.2; unfold maxLen; omega) HG.out rfl (by show _ = Value.string ⟨nm.data.toList.toArray⟩; rw [str_eta]; rfl) (.int .i64 (at_ : Nat)) rfl ?_); intro w5 hg5 hk5; (have HX5 : Hid (GMap w5 bm (gPut mu nm.data.toList (.int .i64 (at_ : Nat))) (c + 1) ∧ Kept (· ≠ bm) w w5) := ⟨hg5, (kept_of_below HBW.out fun _ h _ => h).trans hk5⟩)
         clear hg5 hk5)
      | fail)
    go_end0
    exact ⟨rfl, HX5.out.1, HX5.out.2⟩
  · have hJ : ((filled : Int) != (P : Int)) = true := by rw [bne_iff_ne]; omega
    rw [if_pos hfl]; clear hfl
    go_enter Try.func52, Try.ntmps52
    go_wp2_with (first
      | (go_at_call 68; refine (HBg.out _).mono ?_; rintro e w3 ⟨rfl, h3⟩; obtain rfl : W = w3 := h3.symm)
      | (go_at_call 24; refine (HPw.out _).mono ?_; rintro e w3 ⟨rfl, h3⟩; obtain rfl : W = w3 := h3.symm)
      | (go_at_call 54; refine (stop_any _ _ _).mono ?_; rintro e w4 ⟨rfl, rfl⟩)
      | fail)
    exact ⟨rfl, rfl, HBW.out⟩
end Go.Proofs.Ytblodnpfckflaak
/- Walks: ContainsFunc at numbers, for what is no thing. -/
namespace Go.Proofs.Ytblodnpfckflaak
open Go.RowKit Go.Sort Go.Maps Go.WideMaps

set_option maxHeartbeats 2000000 in
theorem noThing_any (N : Nat) (y : Int) (sb : Nat) (c1 c2 : Value) (w : World) (hq : w.heap[sb]? = some (.cells #[.int .i64 (N : Nat), c1, c2] 25 (0, 0))) :
    Calls Try.prog 49 #[.int .i64 y, .pointer (some ⟨sb, 0, none⟩)] w fun e w' => e = .returned (.bool (!thingB N y)) ∧ w' = w := by
  obtain ⟨a0, a1, a2, -⟩ := blk3 hq; (have HTh : Hid (∀ w, Calls Try.prog 38 #[.int .i64 (N : Nat), .int .i64 y] w fun e w' => e = .returned (.bool (thingB N y)) ∧ w' = w) := fun w => isThing_any N y w); have HW : Hid (w = w) := rfl; clear hq
  go_enter Try.func49, Try.ntmps49
  go_wp2_with (first
    | (go_at_call 38; refine (HTh.out _).mono ?_; rintro e w5 ⟨rfl, h5⟩; obtain rfl : w = w5 := h5.symm)
    | fail)
  go_ret; exact ⟨rfl, rfl⟩
theorem noThing_in (cap : Array Value) (w : World) : (callFunc 49 cap).run Try.prog w = .ok (.enter 49 cap) w := by
  simp [go_sem]
set_option maxRecDepth 10000 in
set_option maxHeartbeats 4000000 in
theorem indexNo_any (N : Nat) (l : List Int) (v : Value) (sb : Nat) (c1 c2 : Value) (w : World) (hl : IL w v l) (hq : w.heap[sb]? = some (.cells #[.int .i64 (N : Nat), c1, c2] 25 (0, 0))) :
    Calls Try.prog 71 #[v, .func (.func 49) #[] #[.pointer (some ⟨sb, 0, none⟩)]] w fun e w' => (∃ j : Int, e = .returned (.int .i64 j) ∧ (0 ≤ j ↔ (l.any fun y => !thingB N y) = true)) ∧ w' = w := by
  obtain ⟨ad, cp, rfl, h1, h2, h3⟩ := hl; have HX : Hid (l ≠ [] → ∃ g off, ad = some ⟨g, off, none⟩ ∧ ∀ (j : Nat) (x : Int), l[j]? = some x → w.cell? ⟨g, off + j, none⟩ = some (.int .i64 x)) := h3; have HQ : Hid (w.heap[sb]? = some (.cells #[.int .i64 (N : Nat), c1, c2] 25 (0, 0))) := hq; (have hlI : ((l.length : Nat) : Int) ≤ 9223372036854775807 := by unfold maxLen at h2; omega); have hcf := noThing_in #[]; clear h1 h2 h3 hq
  go_enter Try.func71, Try.ntmps71
  go_wp2_with fail
  go_loopg [8, 5] l.length (fun g c b wr => ∃ i, i ≤ l.length ∧ g = l.length - i ∧ c = .int .i64 (i : Nat) ∧ Hid (((l.take i).any fun y => !thingB N y) = false) ∧ Hid (wr = w))
  case atStart => exact ⟨0, by omega, by omega, rfl, rfl, rfl⟩
  case round =>
    obtain ⟨i, hile, hg, rfl, HE, HW⟩ := hrel; have hw := HW.out; subst hw; have HG : Hid (gk = l.length - i) := hg; clear hg; by_cases hlt : i < l.length
    · obtain ⟨t, ht⟩ : ∃ x, l[i]? = some x := ⟨_, List.getElem?_eq_getElem hlt⟩
      (obtain ⟨g, off, rfl, hc⟩ := HX.out (fun e => by rw [e] at hlt; simp at hlt)); have g0 := hc i t ht; (have hltI : (i : Int) < (l.length : Int) := by omega); (have HC : Hid (Calls Try.prog 49 #[.int .i64 t, .pointer (some ⟨sb, 0, none⟩)] wr fun e w' => e = .returned (.bool (!thingB N t)) ∧ w' = wr) := noThing_any N t sb c1 c2 wr HQ.out)
      have HTk : Hid (((l.take (i + 1)).any fun y => !thingB N y) = !thingB N t) := by
        show _ = _; rw [List.take_add_one, ht, List.any_append, HE.out]
        simp
      have HMx : Hid (t ∈ l ∧ i < l.length) := ⟨List.mem_of_getElem? ht, hlt⟩; clear hc ht hlt hile
      rcases hs : thingB N t with _ | _
      · rw [hs] at HC
        have HF : Hid ((l.any fun y => !thingB N y) = true) := by
          show _ = _; rw [List.any_eq_true]; (exact ⟨t, HMx.out.1, by rw [hs]; rfl⟩)
        clear hs
        go_wp2_with (first
          | (go_at_call 49; refine HC.out.mono ?_; rintro e w5 ⟨rfl, h5⟩; obtain rfl : wr = w5 := h5.symm)
          | fail)
        go_ret; (exact ⟨⟨_, rfl, fun _ => HF.out, fun _ => by omega⟩, rfl⟩)
      · rw [hs] at HC HTk
        clear hs
        go_wp2_with (first
          | (go_at_call 49; refine HC.out.mono ?_; rintro e w5 ⟨rfl, h5⟩; obtain rfl : wr = w5 := h5.symm)
          | fail)
        go_roundg (l.length - (i + 1))
        case measure => have := HG.out; have := HMx.out.2; omega
        case rel => exact ⟨i + 1, HMx.out.2, rfl, by go_num, HTk, rfl⟩
    · have hge : ¬ (i : Int) < (l.length : Int) := by omega
      have HF : Hid ((l.any fun y => !thingB N y) = false) := by
        have := HE.out; (rw [List.take_of_length_le (by omega)] at this); exact this
      clear hlt hile HX; go_wp2_with fail; go_ret
      exact ⟨⟨_, rfl, fun h => absurd h (by omega), fun h => by
        obtain ⟨x, hx, h3⟩ := h; have h2 := HF.out; rw [List.any_eq_false] at h2; have h4 := h2 x hx; rw [h3] at h4
        exact absurd rfl h4⟩, rfl⟩
set_option maxHeartbeats 2000000 in
theorem containsNo_any (N : Nat) (l : List Int) (v : Value) (sb : Nat) (c1 c2 : Value) (w : World) (hl : IL w v l) (hq : w.heap[sb]? = some (.cells #[.int .i64 (N : Nat), c1, c2] 25 (0, 0))) :
    Calls Try.prog 53 #[v, .func (.func 49) #[] #[.pointer (some ⟨sb, 0, none⟩)]] w fun e w' => e = .returned (.bool (l.any fun y => !thingB N y)) ∧ w' = w := by
  have HX : Hid (Calls Try.prog 71 _ w _) := indexNo_any N l v sb c1 c2 w hl hq; obtain ⟨ad, cp, rfl, -⟩ := hl; clear hq; (generalize (l.any fun y => !thingB N y) = r at *)
  go_enter Try.func53, Try.ntmps53
  go_wp2_with (first
    | (go_at_call 71
       refine HX.out.mono ?_; rintro e w5 ⟨⟨j, rfl, hj⟩, h5⟩; obtain rfl : w = w5 := h5.symm; have HJ : Hid (0 ≤ j ↔ r = true) := hj
       clear hj)
    | fail)
  go_ret; refine ⟨ret_bool ?_, rfl⟩; have := HJ.out; rw [Bool.eq_iff_iff]; simpa using this
end Go.Proofs.Ytblodnpfckflaak
