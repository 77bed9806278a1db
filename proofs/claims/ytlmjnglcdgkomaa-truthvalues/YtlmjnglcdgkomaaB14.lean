/- Texts of one proof, one behind the other: Tr4, Tr5, TC1, TC2. -/
import Derived.Test.YtlmjnglcdgkomaaB09
import Derived.Test.YtlmjnglcdgkomaaB11
import Derived.Laws.BitsLemmas
import Derived.Deep.RegionHeld3
/- Walks: digits of a row; what Value and column ask of names. -/
namespace Go.Proofs.Ytlmjnglcdgkomaa
open Go.RowKit Go.Maps Go.WideMaps

theorem wraps_i64 (n : Int) (h0 : 0 ≤ n) (h1 : n < 2 ^ 62) : IntKind.i64.wrap n = n := by
  (have e : ((2 : Int) ^ 62) = 4611686018427387904 := by decide); rw [e] at h1; unfold IntKind.wrap IntKind.bits IntKind.signed; simp only []; (have e2 : ((2 : Int) ^ 64) = 18446744073709551616 := by decide); (have e3 : ((2 : Int) ^ (64 - 1)) = 9223372036854775808 := by decide); rw [e2, e3]; (have : n % 18446744073709551616 = n := by omega); rw [this]; (have : ¬ n ≥ 9223372036854775808 := by omega); simp [this]

/-- The i-th digit of a row, as the walk spells it. -/
theorem digit_bit (r i : Nat) (hr : r ≤ 100000) : (bits BinOp.and IntKind.i64 ((r : Int) / 2 ^ min i 64) 1 == 1) = r.testBit i := by
  have hd : ((r : Int) / 2 ^ min i 64) = ((r / 2 ^ min i 64 : Nat) : Int) := by
    rw [Int.natCast_ediv]; simp
  have hle : r / 2 ^ min i 64 ≤ 100000 := Nat.le_trans (Nat.div_le_self _ _) hr; (have e : (2 : Nat) ^ 62 = 4611686018427387904 := by decide); rw [hd]; (have h := (bits_nat .i64 62 (by decide) wraps_i64 (r / 2 ^ min i 64) 1 (by omega) (by decide)).1); have h' : bits BinOp.and IntKind.i64 ((r / 2 ^ min i 64 : Nat) : Int) 1 = (((r / 2 ^ min i 64) &&& 1 : Nat) : Int) := h; rw [h', Nat.and_one_is_mod]
  have hm : r / 2 ^ min i 64 % 2 = r / 2 ^ i % 2 := by
    rcases Nat.lt_or_ge i 64 with h1 | h1
    · rw [Nat.min_eq_left (by omega)]
    · rw [Nat.min_eq_right h1]
      have z1 : r / 2 ^ 64 = 0 := Nat.div_eq_of_lt (by have : (2 : Nat) ^ 64 = 18446744073709551616 := by decide
                                                       omega)
      have z2 : r / 2 ^ i = 0 := Nat.div_eq_of_lt (Nat.lt_of_lt_of_le (by have : (2 : Nat) ^ 64 = 18446744073709551616 := by decide
                                                                          omega) (Nat.pow_le_pow_right (by omega) h1))
      rw [z1, z2]
  rw [hm, Nat.testBit_eq_decide_div_mod_eq]
  rcases Nat.mod_two_eq_zero_or_one (r / 2 ^ i) with h | h <;> rw [h] <;> decide

set_option maxHeartbeats 1000000 in
theorem digit_any (r i : Nat) (hr : r ≤ 100000) (hi : i ≤ 1000) (w : World) :
    Calls Try.prog 102 #[.int .i64 (r : Nat), .int .i64 (i : Nat)] w fun e w' => e = .returned (.bool (r.testBit i)) ∧ w' = w := by
  (have hrI : (r : Int) ≤ 100000 := by omega); (have hiI : (i : Int) ≤ 1000 := by omega)
  go_enter Try.func102, Try.ntmps102
  go_wp2_with fail; go_ret; (exact ⟨congrArg (fun b => Ending.returned (Value.bool b)) (digit_bit r i hr), rfl⟩)

/-- What Value asks. -/
def OkV (cb : Nat) (l : List (List UInt8)) (w : World) : Prop := ∃ b, w.heap[cb]? = some (.cells #[.map (some b)] 103 (0, 0)) ∧ PM w b l

theorem PM.up {w w' : World} {b : Nat} {l : List (List UInt8)} (h : PM w b l) (hb : Below w.heap.size w w') : PM w' b l := by
  obtain ⟨n, D, hown, h1, h2, h3⟩ := h; refine ⟨n, D, ?_, h1, h2, h3⟩; obtain ⟨es, clock, he, r⟩ := hown; exact ⟨es, clock, below_keep hb he, r⟩

set_option maxHeartbeats 1000000 in
theorem value1_any (cb : Nat) (l : List (List UInt8)) (n : ByteArray) (w : World) (hok : OkV cb l w) (hn : n.size ≤ 8) :
    Calls Try.prog 71 (#[.string n] ++ #[.pointer (some ⟨cb, 0, none⟩)]) w fun e w' => e = .returned (.bool (decide (n.data.toList ∈ l))) ∧ Below w.heap.size w w' := by
  obtain ⟨b, hcb, m, D, hown, hm, h1, h2⟩ := hok; obtain ⟨t, rfl⟩ : ∃ t : List UInt8, n = ⟨t.toArray⟩ := ⟨n.data.toList, rfl⟩; (have hl8 : t.length ≤ 8 := by simpa [ByteArray.size] using hn); (have hkey := keyStr t (by unfold maxLen; omega)); (have HD : Hid (Maps.has D (.string t) = decide (t ∈ l)) := h1 t (by unfold maxLen; omega)); obtain ⟨c1, -⟩ := blk1 hcb; have he : ((⟨t.toArray⟩ : ByteArray).data.toList) = t := rfl; rw [he]; generalize (⟨t.toArray⟩ : ByteArray) = T at *; clear h1 h2 hcb; show Calls Try.prog 71 #[.string T, .pointer (some ⟨cb, 0, none⟩)] w _
  go_enter Try.func71, Try.ntmps71
  go_wp2_with (first
    | (at_lookup
       refine wpList_lookup_own_ok_int _ rfl _ _ 103 rfl 9 3 .i64 strKeyed Try.underlying103 Try.underlying3 (zeroInt _) b m _ rfl hown _ _ rfl hkey ?_; intro c hat hwc
       rw [HD.out])
    | fail)
  go_ret; exact ⟨rfl, Below.refl _ _⟩

theorem value1_in (cap : Array Value) (w : World) : (callFunc 71 cap).run Try.prog w = .ok (.enter 71 cap) w := by
  simp [go_sem]

theorem asksV (cb : Nat) (l : List (List UInt8)) : Asks 71 #[.pointer (some ⟨cb, 0, none⟩)] (fun t => decide (t ∈ l)) (OkV cb l) where
  up := fun ⟨b, h1, h2⟩ hb => ⟨b, below_keep hb h1, h2.up hb⟩
  ent := fun _ w => value1_in _ w
  call := fun n w hok hn => value1_any cb l n w hok hn

/-- What column asks: a digit of the row. -/
def colP (r : Nat) (l : List (List UInt8)) (t : List UInt8) : Bool := r.testBit (if t ∈ l then l.idxOf t else 0)
def OkC (rb pb r : Nat) (l : List (List UInt8)) (w : World) : Prop := ∃ b, w.heap[rb]? = some (.cells #[.int .i64 (r : Nat)] 3 (0, 0)) ∧ w.heap[pb]? = some (.cells #[.map (some b)] 103 (0, 0)) ∧ PM w b l

theorem idxOf_of_get {l : List (List UInt8)} (hn : l.Nodup) {i : Nat} {s : List UInt8} (h : l[i]? = some s) : l.idxOf s = i := by
  have hi : i < l.length := by
    rcases Nat.lt_or_ge i l.length with h' | h'
    · exact h'
    · rw [List.getElem?_eq_none h'] at h; cases h
  rw [List.getElem?_eq_getElem hi] at h; have := Option.some.inj h; subst this; exact hn.idxOf_getElem i hi

set_option maxHeartbeats 1000000 in
theorem column1_any (rb pb r : Nat) (l : List (List UInt8)) (hnd : l.Nodup) (hl : l.length ≤ 1000) (hr : r ≤ 100000) (n : ByteArray) (w : World) (hok : OkC rb pb r l w) (hn : n.size ≤ 8) :
    Calls Try.prog 101 (#[.string n] ++ #[.pointer (some ⟨rb, 0, none⟩), .pointer (some ⟨pb, 0, none⟩)]) w fun e w' => e = .returned (.bool (colP r l n.data.toList)) ∧ Below w.heap.size w w' := by
  obtain ⟨b, hrb, hpb, m, D, hown, hm, h1, h2⟩ := hok; obtain ⟨t, rfl⟩ : ∃ t : List UInt8, n = ⟨t.toArray⟩ := ⟨n.data.toList, rfl⟩; (have hl8 : t.length ≤ 8 := by simpa [ByteArray.size] using hn); (have hkey := keyStr t (by unfold maxLen; omega))
  have hat : ∀ c : Int, D.atKey (.string t) (.lit (.int .i64 0)) = .lit (.int .i64 c) → c = ((if t ∈ l then l.idxOf t else 0 : Nat) : Int) := fun c hc => by
    by_cases ht : t ∈ l
    · obtain ⟨i, hi, hz⟩ := h2 t ht
      rw [hz] at hc; rw [if_pos ht, idxOf_of_get hnd hi]; simp only [DataW.lit.injEq, Lit.int.injEq, true_and] at hc; omega
    · rw [atKey_of_not_has (by rw [h1 t (by unfold maxLen; omega)]; exact decide_eq_false ht)] at hc
      rw [if_neg ht]; simp only [DataW.lit.injEq, Lit.int.injEq, true_and] at hc; omega
  have hile : (if t ∈ l then l.idxOf t else 0 : Nat) ≤ 1000 := by
    split
    · have := List.idxOf_le_length (a := t) (l := l); omega
    · omega
  have he : ((⟨t.toArray⟩ : ByteArray).data.toList) = t := rfl; rw [he]; (have HR : Hid (colP r l t = r.testBit (if t ∈ l then l.idxOf t else 0)) := rfl); (have HAt : Hid (∀ c : Int, D.atKey (.string t) (.lit (.int .i64 0)) = .lit (.int .i64 c) → c = ((if t ∈ l then l.idxOf t else 0 : Nat) : Int)) := hat); (generalize (if t ∈ l then l.idxOf t else 0 : Nat) = i at *); generalize colP r l t = cp at *; obtain ⟨c1, -⟩ := blk1 hrb; obtain ⟨c2, -⟩ := blk1 hpb; generalize (⟨t.toArray⟩ : ByteArray) = T at *; clear h1 h2 hrb hpb hat; show Calls Try.prog 101 #[.string T, .pointer (some ⟨rb, 0, none⟩), .pointer (some ⟨pb, 0, none⟩)] w _
  go_enter Try.func101, Try.ntmps101
  go_wp2_with (first
    | (at_lookup
       refine wpList_lookup_own_int _ rfl _ _ 103 rfl 9 3 .i64 strKeyed Try.underlying103 Try.underlying3 (zeroInt _) b m _ rfl hown _ _ rfl hkey ?_; intro c hat hwc; obtain rfl := HAt.out c hat
       clear hat hwc)
    | (go_at_call 102
       refine (digit_any r i hr hile _).mono ?_
       rintro e w1 ⟨rfl, rfl⟩)
    | fail)
  go_ret; (exact ⟨by rw [HR.out]; rfl, Below.refl _ _⟩)

theorem column1_in (cap : Array Value) (w : World) : (callFunc 101 cap).run Try.prog w = .ok (.enter 101 cap) w := by
  simp [go_sem]

theorem asksC (rb pb r : Nat) (l : List (List UInt8)) (hnd : l.Nodup) (hl : l.length ≤ 1000) (hr : r ≤ 100000) : Asks 101 #[.pointer (some ⟨rb, 0, none⟩), .pointer (some ⟨pb, 0, none⟩)] (colP r l) (OkC rb pb r l) where
  up := fun ⟨b, h1, h2, h3⟩ hb => ⟨b, below_keep hb h1, below_keep hb h2, h3.up hb⟩
  ent := fun _ w => column1_in _ w
  call := fun n w hok hn => column1_any rb pb r l hnd hl hr n w hok hn
end Go.Proofs.Ytlmjnglcdgkomaa
/- Walks: column. -/
namespace Go.Proofs.Ytlmjnglcdgkomaa
open Go.RowKit Go.Maps Go.WideMaps

/-- A list of bools in memory. -/
def BL (w : World) (v : Value) (l : List Bool) : Prop := ∃ ad cap, v = .slice ad l.length cap ∧ l.length ≤ cap ∧ cap ≤ maxLen ∧ (l ≠ [] → ∃ g off, ad = some ⟨g, off, none⟩ ∧ ∀ (j : Nat) (b : Bool), l[j]? = some b → w.cell? ⟨g, off + j, none⟩ = some (.bool b))
theorem BL.up {w w' : World} {v : Value} {l : List Bool} (h : BL w v l) (hb : Below w.heap.size w w') : BL w' v l := by
  obtain ⟨ad, cap, h1, h2, h3, h4⟩ := h; (refine ⟨ad, cap, h1, h2, h3, fun hne => ?_⟩); obtain ⟨g, off, h5, h6⟩ := h4 hne
  exact ⟨g, off, h5, fun j t ht => by
    have := h6 j t ht; rw [hb.cell (p := ⟨g, off + j, none⟩) (lt_of_cell this)]
    exact this⟩
theorem BL.nil {w : World} : BL w (.slice none 0 0) [] := ⟨none, 0, rfl, by simp, by simp, fun h => absurd rfl h⟩

/-- A formula's column: row by row of names. -/
def colL (f : Fm) (l : List (List UInt8)) : List Bool := (List.range (2 ^ l.length)).map fun r => tv (colP r l) f

theorem infoBool : ∃ i, Try.prog.info? 4 = some i ∧ i.zero = some (.bool false) ∧ i.size = 1 ∧ i.bytes = 1 := by
  (obtain ⟨i, hi, h⟩ := Option.map_eq_some_iff.1 (show (Try.prog.info? 4).map (fun i => (i.zero, i.size, i.bytes)) = some (some (.bool false), 1, 1) by kernel_rfl)); simp only [Prod.mk.injEq] at h; exact ⟨i, hi, h.1, h.2.1, h.2.2⟩

theorem make_bools (M : Nat) (hM : M ≤ 1000) : ∃ C : Array Value, C.size = M ∧ ∀ w : World, (Instr.makeSlice 58 (.int .i64 (M : Nat)) (.int .i64 (M : Nat))).run Try.prog w = .ok (.slice (some ⟨w.heap.size, 0, none⟩) M M) (w.alloc (.cells C 4 (0, 0))) := by
  obtain ⟨i, hi, hz, hs, hb⟩ := infoBool; (refine ⟨madeCells (Value.bool false).cells (M * 1), by rw [size_madeCells]; omega, fun w => ?_⟩); (have := run_makeSlice (P := Try.prog) w 58 4 i _ Try.underlying58 hi hz .i64 .i64 (M : Int) (M : Int) (by omega) (Int.le_refl _) (by rw [hs]; simp; omega) (by rw [hb]; omega) (by omega)); rw [hs] at this; simpa using this

theorem shl_row (N : Nat) (h : N ≤ 6) : wrap64 ((2 : Int) ^ N) = ((2 ^ N : Nat) : Int) ∧ 1 ≤ 2 ^ N ∧ 2 ^ N ≤ 64 := by
  (have : N = 0 ∨ N = 1 ∨ N = 2 ∨ N = 3 ∨ N = 4 ∨ N = 5 ∨ N = 6 := by omega)
  rcases this with rfl | rfl | rfl | rfl | rfl | rfl | rfl <;> exact ⟨by unfold wrap64; decide, by decide, by decide⟩

theorem blk_sec (w : World) (o o' : Obj) : ((w.alloc o).alloc o').heap[w.heap.size + 1]? = some o' := by
  have := blk_new (w.alloc o) o'
  rwa [show (w.alloc o).heap.size = w.heap.size + 1 by simp] at this

/-- One cell more. -/
theorem set_cell {w : World} {g j : Nat} {C : Array Value} {T : TypeId} (h : w.heap[g]? = some (.cells C T (0, 0))) (u : Value) : (w.setCell ⟨g, j, none⟩ u).heap[g]? = some (.cells (C.setIfInBounds j u) T (0, 0)) := by
  simp [World.setCell, Array.getElem?_modify, h]

set_option maxHeartbeats 4000000 in
set_option maxRecDepth 20000 in
theorem column_any (f : Fm) (hf : Fine f) (hp : Plain f) (l : List (List UInt8)) (hl : l.length ≤ 6) (hnd : l.Nodup) (hsm : ∀ t ∈ l, t.length ≤ 8) (v u : Value) (w : World) (hv : Rep w (fun _ => True) f v) (hu : SL w u l) :
    Calls Try.prog 74 #[v, u] w fun e w' => ∃ x, e = .returned x ∧ BL w' x (colL f l) ∧ Below w.heap.size w w' := by
  (have hpl := fun v w h => placesOf_any l (by omega) hsm v w h); (have htr := fun rb pb r (hr : r ≤ 100000) v w h o => isTrue_any (asksC rb pb r l hnd (by omega) hr) f v w hf hp h o); obtain ⟨k, n, ks⟩ := f; obtain ⟨sl, cap, rfl⟩ := slice_shape hv; have HPl : Hid (∀ v w, SL w v l → Calls Try.prog 70 _ w _) := hpl; (have HTr : Hid (∀ rb pb r, r ≤ 100000 → ∀ v w, Rep w (fun _ => True) (.mk k n ks) v → OkC rb pb r l w → Calls Try.prog 72 _ w _) := htr); have HU : Hid (SL w u l) := hu; obtain ⟨ad, cp, rfl, -⟩ := hu; (have hlI : (l.length : Int) ≤ 6 := by omega); obtain ⟨hw, hM1, hM2⟩ := shl_row l.length hl; (have HC : Hid (colL (.mk k n ks) l = (List.range (2 ^ l.length)).map fun r => tv (colP r l) (.mk k n ks)) := rfl); generalize colL (.mk k n ks) l = CL at *; generalize 2 ^ l.length = M at *; (obtain ⟨C, hC, hmk⟩ := make_bools M (by omega)); (have hMI : (M : Int) ≤ 64 := by omega); clear hpl htr hsm hl
  go_enter Try.func74, Try.ntmps74
  go_wp2_with (first
    | (go_at_call 70
       refine (HPl.out _ _ (HU.out.up (below_more (Below.refl _ w) _))).mono ?_; rintro e w1 ⟨rfl, hpm, hb1⟩; have HPM : Hid (PM w1 _ l) := hpm; have q0 := below_keep hb1 (blk_new w _); have B1 := below_join (below_more (Below.refl _ w) _) hb1
       clear hpm)
    | fail)
  have HPM' : Hid (PM w1 (w.heap.size + 1) l) := by
    have := HPM.out
    rwa [show (w.alloc (.cells #[.int .i64 k, .string n, .slice sl ks.length cap] 24 (0, 0))).heap.size = w.heap.size + 1 by simp] at this
  clear HPM HPl HU hw hmk; have z0 := lt_of_block q0; (have hmf : ∀ (fn : Fn) (first cap : Array Value) (w : World), (Instr.makeFunc fn first cap).run Try.prog w = .ok (.func fn first cap) w := fun _ _ _ _ => rfl)
  go_loopg [16] M (fun g c wr => ∃ r D, r ≤ M ∧ g = M - r ∧ c = .int .i64 (r : Nat) ∧ Below w1.heap.size w1 wr ∧ wr.heap[w1.heap.size]? = some (.cells #[.map (some (w.heap.size + 1))] 103 (0, 0)) ∧ wr.heap[w1.heap.size + 1]? = some (.cells D 4 (0, 0)) ∧ D.size = M ∧ Hid (∀ j, j < r → D[j]? = some (.bool (tv (colP j l) (.mk k n ks)))))
  case atStart =>
    (exact ⟨0, C, by omega, by omega, rfl, below_more (below_more (Below.refl _ w1) _) _, alloc_keep (blk_new _ _) _, blk_sec _ _ _, hC, fun j h => absurd h (Nat.not_lt_zero _)⟩)
  case round =>
    obtain ⟨r, D, hr, hg, rfl, hbr, q1, q2, hD, HD⟩ := hrel; have HG : Hid (gk = M - r) := hg; clear hg; have q0' := below_keep hbr q0; obtain ⟨a0, a1, a2, -⟩ := blk3 q0'; have zr := lt_of_block q2; have zr1 := lt_of_block q1; have zr0 := lt_of_block q0'; by_cases hlt : r < M
    · have hltI : (r : Int) < (M : Int) := by omega
      have e0 := blk_cell q2 r; have e1 := blk_fz q2 r; (rw [Array.getElem?_eq_getElem (by omega)] at e0); generalize D[r] = old at e0; have q3 := blk_new wr (.cells #[.int .i64 (r : Nat)] 3 (0, 0)); (have HCa := HTr.out wr.heap.size w1.heap.size r (by omega) (.agg #[.int .i64 k, .string n, .slice sl ks.length cap]) ((wr.alloc (.cells #[.int .i64 (r : Nat)] 3 (0, 0))).drew) (hv.up ((below_more (below_join B1 hbr) _).drew)) ⟨w.heap.size + 1, q3, alloc_keep q1 _, (HPM'.out.up hbr).up ((Below.refl _ wr).alloc (Nat.le_refl _) _).drew⟩); have HX : Hid (Calls Try.prog 72 _ _ _) := HCa; clear HCa
      have HNx : Hid (∀ x : Bool, x = tv (colP r l) (.mk k n ks) → ∀ j, j < r + 1 → (D.setIfInBounds r (.bool x))[j]? = some (.bool (tv (colP j l) (.mk k n ks)))) := fun x hx j hj => by
        by_cases e : j = r
        · subst e; rw [hx, Array.getElem?_setIfInBounds_self_of_lt (by omega)]
        · rw [Array.getElem?_setIfInBounds_ne (by omega)]
          (exact HD.out j (by omega))
      generalize tv (colP r l) (.mk k n ks) = bb at HX HNx; obtain ⟨b0, b1⟩ := blk1 q3; (have n1 : ¬ w1.heap.size + 1 = w.heap.size := by omega); (have n2 : ¬ w.heap.size = w1.heap.size + 1 := by omega); (have n3 : ¬ w1.heap.size + 1 = wr.heap.size := by omega); (have n4 : ¬ wr.heap.size = w1.heap.size + 1 := by omega); go_wp2_with fail
      go_region_held3 (fun w' => w'.cell? ⟨w.heap.size, 0, none⟩ = some (.int .i64 k) ∧ w'.cell? ⟨w.heap.size, 1, none⟩ = some (.string n) ∧ w'.cell? ⟨w.heap.size, 2, none⟩ = some (.slice sl ks.length cap) ∧ w'.cell? ⟨wr.heap.size, 0, none⟩ = some (.int .i64 (r : Nat))) (go_keep)
        (first
         | (go_at_call 72
            refine HX.out.mono ?_; rintro e w2 ⟨rfl, hb2⟩; have hb2' : Below (wr.alloc (.cells #[.int .i64 (r : Nat)] 3 (0, 0))).heap.size (wr.alloc (.cells #[.int .i64 (r : Nat)] 3 (0, 0))) w2 := (Below.refl _ _).drew.trans hb2; have r2 := below_keep hb2' (alloc_keep q2 _); have r1 := below_keep hb2' (alloc_keep q1 _); have r0 := below_keep hb2' (alloc_keep q0' _); have r3 := below_keep hb2' q3; have BW := below_join (below_more hbr _) hb2'; clear e0 e1; have e0 := blk_cell r2 r; have e1 := blk_fz r2 r; (rw [Array.getElem?_eq_getElem (by omega)] at e0); generalize D[r] = old at e0; obtain ⟨f0, f1, f2, -⟩ := blk3 r0; obtain ⟨f3, -⟩ := blk1 r3
            clear hb2)
         | fail)
      all_goals
        go_wp2_with fail; (have t1 : (w2.setCell ⟨w1.heap.size + 1, r, none⟩ (.bool bb)).heap[w1.heap.size]? = _ := (Below.heap_setCell _ _ _ _ (by simp)).trans r1); have t2 := set_cell (j := r) r2 (.bool bb); (have BF : Below w1.heap.size w1 (w2.setCell ⟨w1.heap.size + 1, r, none⟩ (.bool bb)) := BW.setCell (by simp) _)
        go_roundg (M - (r + 1))
        case measure => have := HG.out; omega
        case rel => exact ⟨r + 1, D.setIfInBounds r (.bool bb), by omega, rfl, by go_num, BF, t1, t2, by simp [hD], HNx.out bb rfl⟩
    · have HE : Hid (∀ j, j < M → D[j]? = some (.bool (tv (colP j l) (.mk k n ks)))) := fun j hj => HD.out j (by omega)
      (have hge : ¬ (r : Int) < (M : Int) := by omega); clear HD; go_wp2_with fail; go_ret; refine ⟨_, rfl, ?_, below_join B1 hbr⟩; (have hlen : CL.length = M := by rw [HC.out]; simp); (refine ⟨some ⟨w1.heap.size + 1, 0, none⟩, M, by rw [hlen]; rfl, by omega, by unfold maxLen; omega, fun _ => ⟨w1.heap.size + 1, 0, rfl, fun j b hb => ?_⟩⟩)
      have hj : j < M := by
        rcases Nat.lt_or_ge j M with h | h
        · exact h
        · rw [List.getElem?_eq_none (by omega)] at hb; cases hb
      rw [HC.out, List.getElem?_map, List.getElem?_range hj] at hb; rw [Nat.zero_add, blk_cell q2, HE.out j hj]; simpa using hb
end Go.Proofs.Ytlmjnglcdgkomaa
/- Walks: tables; the classes of Post's, one by one. -/
namespace Go.Proofs.Ytlmjnglcdgkomaa
open Go.RowKit

/-- A table as data. -/
structure Tb where
  n : Nat
  bits : List Bool

/-- A table that is none is not asked of its class. -/
def Tb.Ok (t : Tb) : Prop := t.n ≤ 4 ∧ t.bits.length = 2 ^ t.n

def TR (w : World) (t : Tb) (v : Value) : Prop := ∃ ad cap, v = .agg #[.int .i64 (t.n : Nat), .slice ad t.bits.length cap] ∧ BL w (.slice ad t.bits.length cap) t.bits
theorem TR.up {w w' : World} {t : Tb} {v : Value} (h : TR w t v) (hb : Below w.heap.size w w') : TR w' t v := by
  obtain ⟨ad, cap, h1, h2⟩ := h; exact ⟨ad, cap, h1, h2.up hb⟩

def cls0 (l : List Bool) : Bool := !l.getD 0 false
def cls1 (l : List Bool) : Bool := l.getD (l.length - 1) false
def cls2 (l : List Bool) : Bool := (List.range l.length).all fun k => l.getD k false != l.getD (l.length - 1 - k) false
def cls3 (n : Nat) (l : List Bool) : Bool := (List.range l.length).all fun r => (List.range n).all fun i => !(l.getD r false && !l.getD (r ||| 2 ^ i) false)
def sumTo (l : List Bool) (r : Nat) : Nat → Bool
  | 0 => l.getD 0 false
  | i + 1 => if (l.getD (2 ^ i) false != l.getD 0 false) && r.testBit i then !sumTo l r i else sumTo l r i
def cls4 (n : Nat) (l : List Bool) : Bool := (List.range l.length).all fun r => !(sumTo l r n != l.getD r false)

theorem Tb.Ok.len {t : Tb} (h : t.Ok) : 1 ≤ t.bits.length ∧ t.bits.length ≤ 16 := by
  obtain ⟨h1, h2⟩ := h; rw [h2]; (have : t.n = 0 ∨ t.n = 1 ∨ t.n = 2 ∨ t.n = 3 ∨ t.n = 4 := by omega)
  rcases this with h | h | h | h | h <;> rw [h] <;> decide

/-- Its cells. -/
theorem TR.cells {w : World} {t : Tb} {v : Value} (h : TR w t v) (hok : t.Ok) : ∃ g off cap, v = .agg #[.int .i64 (t.n : Nat), .slice (some ⟨g, off, none⟩) t.bits.length cap] ∧ t.bits.length ≤ cap ∧ ∀ j, j < t.bits.length → w.cell? ⟨g, off + j, none⟩ = some (.bool (t.bits.getD j false)) := by
  obtain ⟨ad, cap, rfl, ad', cap', h1, h2, h3, h4⟩ := h; simp only [Value.slice.injEq, true_and] at h1; obtain ⟨rfl, rfl⟩ := h1; have := hok.len; (obtain ⟨g, off, rfl, h5⟩ := h4 (fun e => by rw [e] at this; simp at this)); (refine ⟨g, off, cap, rfl, h2, fun j hj => h5 j _ ?_⟩); rw [List.getD_eq_getElem?_getD, List.getElem?_eq_getElem hj]; rfl

theorem range_all_take (f : Nat → Bool) (n i : Nat) (hi : i < n) (_h : ∀ j, j < i → f j = true) (hf : f i = false) : (List.range n).all f = false := by
  rw [List.all_eq_false]; (exact ⟨i, List.mem_range.2 hi, by simp [hf]⟩)
theorem range_all (f : Nat → Bool) (n : Nat) (h : ∀ j, j < n → f j = true) : (List.range n).all f = true := by
  rw [List.all_eq_true]; (exact fun j hj => h j (List.mem_range.1 hj))

set_option maxHeartbeats 1000000 in
theorem class0_any (t : Tb) (hok : t.Ok) (v : Value) (w : World) (h : TR w t v) :
    Calls Try.prog 124 #[v] w fun e w' => e = .returned (.bool (cls0 t.bits)) ∧ Below w.heap.size w w' := by
  obtain ⟨g, off, cap, rfl, hc, hcells⟩ := h.cells hok; have hl := hok.len; have B0 := below_more (Below.refl _ w) (.cells #[.int .i64 (t.n : Nat), .slice (some ⟨g, off, none⟩) t.bits.length cap] 100 (0, 0)); (have c0 := (B0.cell (p := ⟨g, off + 0, none⟩) (lt_of_cell (hcells 0 (by omega)))).trans (hcells 0 (by omega))); rw [Nat.add_zero] at c0; have HR : Hid (cls0 t.bits = !t.bits.getD 0 false) := rfl; generalize t.bits.getD 0 false = bb at *; (have hlI : (1 : Int) ≤ (t.bits.length : Int) := by omega); (have hlc : (1 : Int) ≤ (cap : Int) := by omega); (have hlI0 : (0 : Int) < (t.bits.length : Int) := by omega); (have hlc0 : (0 : Int) < (cap : Int) := by omega); clear hcells h hok
  go_enter Try.func124, Try.ntmps124
  go_wp2_with fail; go_ret; (exact ⟨by rw [HR.out]; rfl, B0⟩)

set_option maxHeartbeats 1000000 in
theorem class1_any (t : Tb) (hok : t.Ok) (v : Value) (w : World) (h : TR w t v) :
    Calls Try.prog 125 #[v] w fun e w' => e = .returned (.bool (cls1 t.bits)) ∧ Below w.heap.size w w' := by
  obtain ⟨g, off, cap, rfl, hc, hcells⟩ := h.cells hok; have hl := hok.len; (obtain ⟨L, hL⟩ : ∃ L, t.bits.length = L + 1 := ⟨t.bits.length - 1, by omega⟩); have B0 := below_more (Below.refl _ w) (.cells #[.int .i64 (t.n : Nat), .slice (some ⟨g, off, none⟩) t.bits.length cap] 100 (0, 0)); (have c0 := (B0.cell (p := ⟨g, off + L, none⟩) (lt_of_cell (hcells L (by omega)))).trans (hcells L (by omega))); (have HR : Hid (cls1 t.bits = t.bits.getD L false) := by show _ = _; unfold cls1; rw [hL]; rfl); generalize t.bits.getD L false = bb at *; generalize t.bits.length = M at *; subst hL; (have hlI : (L : Int) ≤ 15 := by omega); (have hlc : (L : Int) < (cap : Int) := by omega); clear hcells h hok
  go_enter Try.func125, Try.ntmps125
  go_wp2_with fail; go_ret; (exact ⟨by rw [HR.out]; rfl, B0⟩)
end Go.Proofs.Ytlmjnglcdgkomaa
/- Walks: isSelfDual, isRising, isSum. -/
namespace Go.Proofs.Ytlmjnglcdgkomaa
open Go.RowKit

set_option maxHeartbeats 2000000 in
theorem selfDual_any (t : Tb) (hok : t.Ok) (v : Value) (w : World) (h : TR w t v) :
    Calls Try.prog 126 #[v] w fun e w' => e = .returned (.bool (cls2 t.bits)) ∧ Below w.heap.size w w' := by
  obtain ⟨g, off, cap, rfl, hc, hcells⟩ := h.cells hok; have hl := hok.len; (obtain ⟨L, hL⟩ : ∃ L, t.bits.length = L + 1 := ⟨t.bits.length - 1, by omega⟩); have q0 := blk_new w (.cells #[.int .i64 (t.n : Nat), .slice (some ⟨g, off, none⟩) t.bits.length cap] 100 (0, 0)); have B0 := below_more (Below.refl _ w) (.cells #[.int .i64 (t.n : Nat), .slice (some ⟨g, off, none⟩) t.bits.length cap] 100 (0, 0)); have HCe : Hid (∀ j, j < t.bits.length → w.cell? ⟨g, off + j, none⟩ = some (.bool (t.bits.getD j false))) := hcells; (have HR : Hid (cls2 t.bits = (List.range (L + 1)).all fun k => t.bits.getD k false != t.bits.getD (L - k) false) := by show _ = _; unfold cls2; rw [hL]; rfl); generalize cls2 t.bits = res at *; generalize t.bits.length = M at *; subst hL; (have hlI : (L : Int) ≤ 15 := by omega); clear hcells h hok
  go_enter Try.func126, Try.ntmps126
  go_wp2_with fail
  go_loopg [13] (L + 1) (fun gk c wr => ∃ i, i ≤ L + 1 ∧ gk = L + 1 - i ∧ c = .int .i64 (i : Nat) ∧ Below w.heap.size w wr ∧ wr.heap[w.heap.size]? = some (.cells #[.int .i64 (t.n : Nat), .slice (some ⟨g, off, none⟩) (L + 1) cap] 100 (0, 0)) ∧ Hid (∀ j, j < i → (t.bits.getD j false != t.bits.getD (L - j) false) = true))
  case atStart => exact ⟨0, by omega, by omega, rfl, B0, q0, fun j h => absurd h (Nat.not_lt_zero _)⟩
  case round =>
    obtain ⟨i, hi, hg, rfl, hbr, q1, HN⟩ := hrel; have HG : Hid (gk = L + 1 - i) := hg; clear hg; obtain ⟨a0, a1, -⟩ := blk2 q1; by_cases hlt : i < L + 1
    · have g0 := (hbr.cell (p := ⟨g, off + i, none⟩) (lt_of_cell (HCe.out i hlt))).trans (HCe.out i hlt)
      (obtain ⟨d, hd⟩ : ∃ d, L = d + i := ⟨L - i, by omega⟩); (have g1 := (hbr.cell (p := ⟨g, off + d, none⟩) (lt_of_cell (HCe.out d (by omega)))).trans (HCe.out d (by omega)))
      have HX : Hid (∀ b, (t.bits.getD i false != t.bits.getD (L - i) false) = b → (b = true → ∀ j, j < i + 1 → (t.bits.getD j false != t.bits.getD (L - j) false) = true) ∧ (b = false → res = false)) := fun b hb => ⟨fun hbt j hj => by
          by_cases e : j = i
          · subst e; rw [hb]; exact hbt
          · exact HN.out j (by omega), fun hbf => by
          rw [HR.out]
          exact range_all_take _ _ i hlt HN.out (by rw [hb]; exact hbf)⟩
      (have hLi : L - i = d := by omega); rw [hLi] at HX; generalize t.bits.getD i false = x at *; generalize t.bits.getD d false = y at *; (have hltI : (i : Int) < (L : Int) + 1 := by omega); (have hlcI : (i : Int) < (cap : Int) := by omega); (have hdI : (L : Int) - (i : Int) = (d : Int) := by omega); (have hdc : (d : Int) < (cap : Int) := by omega); (have hdL : (d : Int) < (L : Int) + 1 := by omega); clear hd hLi; by_cases hxy : x = y
      · have HE : Hid (res = false) := (HX.out false (by subst hxy; simp)).2 rfl
        (have hxe : (x == y) = true := by simpa using hxy); clear HX hxy; go_wp2_with fail; go_ret; (exact ⟨by rw [HE.out]; rfl, hbr⟩)
      · have HE : Hid (∀ j, j < i + 1 → (t.bits.getD j false != t.bits.getD (L - j) false) = true) := (HX.out true (by simpa using hxy)).1 rfl
        (have hxe : (x == y) = false := by simpa using hxy); clear HX hxy; go_wp2_with fail
        go_roundg (L + 1 - (i + 1))
        case measure => have := HG.out; omega
        case rel => exact ⟨i + 1, by omega, rfl, by go_num, hbr, q1, HE⟩
    · have HE : Hid (res = true) := by
        show _ = _; rw [HR.out]; (exact range_all _ _ fun j hj => HN.out j (by omega))
      (have hge : ¬ (i : Int) < (L : Int) + 1 := by omega); clear HN; go_wp2_with fail; go_ret; (exact ⟨by rw [HE.out]; rfl, hbr⟩)

theorem or_row (r i : Nat) (n : Nat) (hn : n ≤ 4) (hr : r < 2 ^ n) (hi : i < n) : r ||| 2 ^ i < 2 ^ n ∧ bits BinOp.or IntKind.i64 (r : Int) ((2 ^ i : Nat) : Int) = ((r ||| 2 ^ i : Nat) : Int) := by
  (have h1 : 2 ^ i < 2 ^ n := Nat.pow_lt_pow_right (by omega) hi); refine ⟨Nat.or_lt_two_pow hr h1, ?_⟩; (have h2 : 2 ^ n ≤ 2 ^ 62 := Nat.pow_le_pow_right (by omega) (by omega)); (exact (bits_nat .i64 62 (by decide) wraps_i64 r (2 ^ i) (by omega) (by omega)).2)

set_option maxHeartbeats 4000000 in
theorem rising_any (t : Tb) (hok : t.Ok) (v : Value) (w : World) (h : TR w t v) :
    Calls Try.prog 127 #[v] w fun e w' => e = .returned (.bool (cls3 t.n t.bits)) ∧ Below w.heap.size w w' := by
  obtain ⟨g, off, cap, rfl, hc, hcells⟩ := h.cells hok; have hl := hok.len; obtain ⟨hn4, hlen⟩ := hok; have q0 := blk_new w (.cells #[.int .i64 (t.n : Nat), .slice (some ⟨g, off, none⟩) t.bits.length cap] 100 (0, 0)); have B0 := below_more (Below.refl _ w) (.cells #[.int .i64 (t.n : Nat), .slice (some ⟨g, off, none⟩) t.bits.length cap] 100 (0, 0)); have HCe : Hid (∀ j, j < t.bits.length → w.cell? ⟨g, off + j, none⟩ = some (.bool (t.bits.getD j false))) := hcells; (have HR : Hid (cls3 t.n t.bits = (List.range t.bits.length).all fun r => (List.range t.n).all fun i => !(t.bits.getD r false && !t.bits.getD (r ||| 2 ^ i) false)) := rfl); generalize cls3 t.n t.bits = res at *; have HLn : Hid (t.bits.length = 2 ^ t.n) := hlen; clear hlen; generalize t.bits.length = M at *; (have hMI : (M : Int) ≤ 16 := by omega); obtain ⟨N, bs⟩ := t; simp only at *; (have hNI : (N : Int) ≤ 4 := by omega); clear hcells h
  go_enter Try.func127, Try.ntmps127
  go_wp2_with fail
  go_loopg [9] M (fun gk c wr => ∃ r, r ≤ M ∧ gk = M - r ∧ c = .int .i64 (r : Nat) ∧ Below w.heap.size w wr ∧ wr.heap[w.heap.size]? = some (.cells #[.int .i64 (N : Nat), .slice (some ⟨g, off, none⟩) M cap] 100 (0, 0)) ∧ Hid (∀ j, j < r → ((List.range N).all fun i => !(bs.getD j false && !bs.getD (j ||| 2 ^ i) false)) = true))
  case atStart => exact ⟨0, by omega, by omega, rfl, B0, q0, fun j h => absurd h (Nat.not_lt_zero _)⟩
  case round =>
    obtain ⟨r, hr, hg, rfl, hbr, q1, HN⟩ := hrel; have HG : Hid (gk = M - r) := hg; clear hg; obtain ⟨a0, a1, -⟩ := blk2 q1; by_cases hlt : r < M
    · have g0 := (hbr.cell (p := ⟨g, off + r, none⟩) (lt_of_cell (HCe.out r hlt))).trans (HCe.out r hlt)
      have HX1 : Hid (((List.range N).all fun i => !(bs.getD r false && !bs.getD (r ||| 2 ^ i) false)) = true → ∀ j, j < r + 1 → ((List.range N).all fun i => !(bs.getD j false && !bs.getD (j ||| 2 ^ i) false)) = true) := fun hb j hj => by
          by_cases e : j = r
          · subst e; exact hb
          · exact HN.out j (by omega)
      have HX2 : Hid (((List.range N).all fun i => !(bs.getD r false && !bs.getD (r ||| 2 ^ i) false)) = false → res = false) := fun hb => by
          rw [HR.out]; exact range_all_take _ _ r hlt HN.out hb
      generalize bs.getD r false = x at *; (have hltI : (r : Int) < (M : Int) := by omega); (have hlcI : (r : Int) < (cap : Int) := by omega); obtain ⟨W0, hW0⟩ : ∃ W0, W0 = wr := ⟨_, rfl⟩; subst hW0; go_wp2_with fail
      go_loopg [16] N (fun gk c wr => ∃ i, i ≤ N ∧ gk = N - i ∧ c = .int .i64 (i : Nat) ∧ Below W0.heap.size W0 wr ∧ Hid (∀ j, j < i → (!(x && !bs.getD (r ||| 2 ^ j) false)) = true))
      case atStart => exact ⟨0, by omega, by omega, rfl, Below.refl _ _, fun j h => absurd h (Nat.not_lt_zero _)⟩
      case round =>
        obtain ⟨i, hi, hg2, rfl, hbz, HY⟩ := hrel; have HG2 : Hid (gk = N - i) := hg2; clear hg2 g0 a0 a1; have BZ := below_join hbr hbz; have q2 := below_keep hbz q1; obtain ⟨a0, a1, -⟩ := blk2 q2; by_cases hiN : i < N
        · obtain ⟨hq1, hq2⟩ := or_row r i N hn4 (by have := HLn.out; omega) hiN
          (have g1 := (BZ.cell (p := ⟨g, off + (r ||| 2 ^ i), none⟩) (lt_of_cell (HCe.out _ (by have := HLn.out; omega)))).trans (HCe.out (r ||| 2 ^ i) (by have := HLn.out; omega))); (have hqM : r ||| 2 ^ i < M := by have := HLn.out; omega); (have hw := (shl_row i (by omega)).1)
          have HX3 : Hid ((!(x && !bs.getD (r ||| 2 ^ i) false)) = true → ∀ j, j < i + 1 → (!(x && !bs.getD (r ||| 2 ^ j) false)) = true) := fun hb j hj => by
            by_cases e : j = i
            · subst e; exact hb
            · exact HY.out j (by omega)
          (have HX4 : Hid ((!(x && !bs.getD (r ||| 2 ^ i) false)) = false → res = false) := fun hb => HX2.out (range_all_take _ _ i hiN HY.out hb)); generalize bs.getD (r ||| 2 ^ i) false = y at *; generalize r ||| 2 ^ i = q at *; generalize 2 ^ i = P at *; (have hiI : (i : Int) < (N : Int) := by omega); (have hqI : (q : Int) < (M : Int) := by omega); (have hqc : (q : Int) < (cap : Int) := by omega); clear hq1 hqM
          cases x
          · have HE := HX3.out (by simp)
            have HE' : Hid (∀ j, j < i + 1 → (!(false && !bs.getD (r ||| 2 ^ j) false)) = true) := HE; clear HE HX3 HX4 HX1 HX2; go_wp2_with fail
            go_quiet (fail)
            go_wp2_with fail
            go_roundg (N - (i + 1))
            case measure => have := HG2.out; omega
            case rel => exact ⟨i + 1, by omega, rfl, by go_num, ⟨hbz.os, hbz.tape, hbz.output, hbz.size, hbz.block⟩, HE'⟩
          · cases y
            · have HE : Hid (res = false) := HX4.out (by simp)
              clear HX3 HX4 HX1 HX2; go_wp2_with fail
              go_quiet (fail)
              go_wp2_with fail; go_ret; (exact ⟨by rw [HE.out]; rfl, ⟨BZ.os, BZ.tape, BZ.output, BZ.size, BZ.block⟩⟩)
            · have HE := HX3.out (by simp)
              have HE' : Hid (∀ j, j < i + 1 → (!(true && !bs.getD (r ||| 2 ^ j) false)) = true) := HE; clear HE HX3 HX4 HX1 HX2; go_wp2_with fail
              go_quiet (fail)
              go_wp2_with fail
              go_roundg (N - (i + 1))
              case measure => have := HG2.out; omega
              case rel => exact ⟨i + 1, by omega, rfl, by go_num, ⟨hbz.os, hbz.tape, hbz.output, hbz.size, hbz.block⟩, HE'⟩
        · have HE := HX1.out (range_all _ _ fun j hj => HY.out j (by omega))
          (have HE' : Hid (∀ j, j < r + 1 → ((List.range N).all fun i => !(bs.getD j false && !bs.getD (j ||| 2 ^ i) false)) = true) := HE); (have hge : ¬ (i : Int) < (N : Int) := by omega); clear HE HX1 HX2 HY; go_wp2_with fail
          go_roundg (M - (r + 1))
          case measure => have := HG.out; omega
          case rel => exact ⟨r + 1, by omega, rfl, by go_num, BZ, q2, HE'⟩
    · have HE : Hid (res = true) := by
        show _ = _; rw [HR.out]; (exact range_all _ _ fun j hj => HN.out j (by omega))
      (have hge : ¬ (r : Int) < (M : Int) := by omega); clear HN; go_wp2_with fail; go_ret; (exact ⟨by rw [HE.out]; rfl, hbr⟩)
end Go.Proofs.Ytlmjnglcdgkomaa
