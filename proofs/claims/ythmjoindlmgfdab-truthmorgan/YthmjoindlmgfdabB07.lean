/- Texts of one proof, one behind the other: Tr4, Tr5, Tr6. -/
import Derived.Test.YthmjoindlmgfdabB06
import Derived.Laws.BitsLemmas
import Derived.Deep.RegionHeld3
/- Walks: digits of a row; what Value and column ask of names. -/
namespace Go.Proofs.Ythmjoindlmgfdab
open Go.RowKit Go.Maps Go.WideMaps

theorem wraps_i64 (n : Int) (h0 : 0 ≤ n) (h1 : n < 2 ^ 62) : IntKind.i64.wrap n = n := by
  have e : ((2 : Int) ^ 62) = 4611686018427387904 := by decide
  rw [e] at h1
  unfold IntKind.wrap IntKind.bits IntKind.signed
  simp only []
  have e2 : ((2 : Int) ^ 64) = 18446744073709551616 := by decide
  have e3 : ((2 : Int) ^ (64 - 1)) = 9223372036854775808 := by decide
  rw [e2, e3]
  have : n % 18446744073709551616 = n := by omega
  rw [this]
  have : ¬ n ≥ 9223372036854775808 := by omega
  simp [this]

/-- The i-th digit of a row, as the walk spells it. -/
theorem digit_bit (r i : Nat) (hr : r ≤ 100000) : (bits BinOp.and IntKind.i64 ((r : Int) / 2 ^ min i 64) 1 == 1) = r.testBit i := by
  have hd : ((r : Int) / 2 ^ min i 64) = ((r / 2 ^ min i 64 : Nat) : Int) := by
    rw [Int.natCast_ediv]; simp
  have hle : r / 2 ^ min i 64 ≤ 100000 := Nat.le_trans (Nat.div_le_self _ _) hr
  have e : (2 : Nat) ^ 62 = 4611686018427387904 := by decide
  rw [hd]
  have h := (bits_nat .i64 62 (by decide) wraps_i64 (r / 2 ^ min i 64) 1 (by omega) (by decide)).1
  have h' : bits BinOp.and IntKind.i64 ((r / 2 ^ min i 64 : Nat) : Int) 1 = (((r / 2 ^ min i 64) &&& 1 : Nat) : Int) := h
  rw [h', Nat.and_one_is_mod]
  have hm : r / 2 ^ min i 64 % 2 = r / 2 ^ i % 2 := by
    rcases Nat.lt_or_ge i 64 with h1 | h1
    · rw [Nat.min_eq_left (by omega)]
    · rw [Nat.min_eq_right h1]
      have z1 : r / 2 ^ 64 = 0 := Nat.div_eq_of_lt (by have : (2 : Nat) ^ 64 = 18446744073709551616 := by decide
                                                       omega)
      have z2 : r / 2 ^ i = 0 := Nat.div_eq_of_lt (Nat.lt_of_lt_of_le (by have : (2 : Nat) ^ 64 = 18446744073709551616 := by decide
                                                                          omega) (Nat.pow_le_pow_right (by omega) h1))
      rw [z1, z2]
  rw [hm, Nat.testBit_eq_decide_div_mod_eq]
  rcases Nat.mod_two_eq_zero_or_one (r / 2 ^ i) with h | h <;> rw [h] <;> decide

set_option maxHeartbeats 1000000 in
theorem digit_any (r i : Nat) (hr : r ≤ 100000) (hi : i ≤ 1000) (w : World) :
    Calls Try.prog 61 #[.int .i64 (r : Nat), .int .i64 (i : Nat)] w fun e w' => e = .returned (.bool (r.testBit i)) ∧ w' = w := by
  have hrI : (r : Int) ≤ 100000 := by omega
  have hiI : (i : Int) ≤ 1000 := by omega
  go_enter Try.func61, Try.ntmps61
  go_wp2_with fail
  go_ret
  exact ⟨congrArg (fun b => Ending.returned (Value.bool b)) (digit_bit r i hr), rfl⟩

/-- What Value asks. -/
def OkV (cb : Nat) (l : List (List UInt8)) (w : World) : Prop := ∃ b, w.heap[cb]? = some (.cells #[.map (some b)] 75 (0, 0)) ∧ PM w b l

theorem PM.up {w w' : World} {b : Nat} {l : List (List UInt8)} (h : PM w b l) (hb : Below w.heap.size w w') : PM w' b l := by
  obtain ⟨n, D, hown, h1, h2, h3⟩ := h
  refine ⟨n, D, ?_, h1, h2, h3⟩
  obtain ⟨es, clock, he, r⟩ := hown
  exact ⟨es, clock, below_keep hb he, r⟩

set_option maxHeartbeats 1000000 in
theorem value1_any (cb : Nat) (l : List (List UInt8)) (n : ByteArray) (w : World) (hok : OkV cb l w) (hn : n.size ≤ 8) :
    Calls Try.prog 45 (#[.string n] ++ #[.pointer (some ⟨cb, 0, none⟩)]) w fun e w' => e = .returned (.bool (decide (n.data.toList ∈ l))) ∧ Below w.heap.size w w' := by
  obtain ⟨b, hcb, m, D, hown, hm, h1, h2⟩ := hok
  obtain ⟨t, rfl⟩ : ∃ t : List UInt8, n = ⟨t.toArray⟩ := ⟨n.data.toList, rfl⟩
  have hl8 : t.length ≤ 8 := by simpa [ByteArray.size] using hn
  have hkey := keyStr t (by unfold maxLen; omega)
  have HD : Hid (Maps.has D (.string t) = decide (t ∈ l)) := h1 t (by unfold maxLen; omega)
  obtain ⟨c1, -⟩ := blk1 hcb
  have he : ((⟨t.toArray⟩ : ByteArray).data.toList) = t := rfl
  rw [he]
  generalize (⟨t.toArray⟩ : ByteArray) = T at *
  clear h1 h2 hcb
  show Calls Try.prog 45 #[.string T, .pointer (some ⟨cb, 0, none⟩)] w _
  go_enter Try.func45, Try.ntmps45
  go_wp2_with (first
    | (at_lookup
       refine wpList_lookup_own_ok_int _ rfl _ _ 75 rfl 9 3 .i64 strKeyed Try.underlying75 Try.underlying3 (zeroInt _) b m _ rfl hown _ _ rfl hkey ?_
       intro c hat hwc
       rw [HD.out])
    | fail)
  go_ret
  exact ⟨rfl, Below.refl _ _⟩

theorem value1_in (cap : Array Value) (w : World) : (callFunc 45 cap).run Try.prog w = .ok (.enter 45 cap) w := by
  simp [go_sem]

theorem asksV (cb : Nat) (l : List (List UInt8)) : Asks 45 #[.pointer (some ⟨cb, 0, none⟩)] (fun t => decide (t ∈ l)) (OkV cb l) where
  up := fun ⟨b, h1, h2⟩ hb => ⟨b, below_keep hb h1, h2.up hb⟩
  ent := fun _ w => value1_in _ w
  call := fun n w hok hn => value1_any cb l n w hok hn

/-- What column asks: a digit of the row. -/
def colP (r : Nat) (l : List (List UInt8)) (t : List UInt8) : Bool := r.testBit (if t ∈ l then l.idxOf t else 0)
def OkC (rb pb r : Nat) (l : List (List UInt8)) (w : World) : Prop := ∃ b, w.heap[rb]? = some (.cells #[.int .i64 (r : Nat)] 3 (0, 0)) ∧ w.heap[pb]? = some (.cells #[.map (some b)] 75 (0, 0)) ∧ PM w b l

theorem idxOf_of_get {l : List (List UInt8)} (hn : l.Nodup) {i : Nat} {s : List UInt8} (h : l[i]? = some s) : l.idxOf s = i := by
  have hi : i < l.length := by
    rcases Nat.lt_or_ge i l.length with h' | h'
    · exact h'
    · rw [List.getElem?_eq_none h'] at h; cases h
  rw [List.getElem?_eq_getElem hi] at h
  have := Option.some.inj h
  subst this
  exact hn.idxOf_getElem i hi

set_option maxHeartbeats 1000000 in
theorem column1_any (rb pb r : Nat) (l : List (List UInt8)) (hnd : l.Nodup) (hl : l.length ≤ 1000) (hr : r ≤ 100000) (n : ByteArray) (w : World) (hok : OkC rb pb r l w) (hn : n.size ≤ 8) :
    Calls Try.prog 60 (#[.string n] ++ #[.pointer (some ⟨rb, 0, none⟩), .pointer (some ⟨pb, 0, none⟩)]) w fun e w' => e = .returned (.bool (colP r l n.data.toList)) ∧ Below w.heap.size w w' := by
  obtain ⟨b, hrb, hpb, m, D, hown, hm, h1, h2⟩ := hok
  obtain ⟨t, rfl⟩ : ∃ t : List UInt8, n = ⟨t.toArray⟩ := ⟨n.data.toList, rfl⟩
  have hl8 : t.length ≤ 8 := by simpa [ByteArray.size] using hn
  have hkey := keyStr t (by unfold maxLen; omega)
  have hat : ∀ c : Int, D.atKey (.string t) (.lit (.int .i64 0)) = .lit (.int .i64 c) → c = ((if t ∈ l then l.idxOf t else 0 : Nat) : Int) := fun c hc => by
    by_cases ht : t ∈ l
    · obtain ⟨i, hi, hz⟩ := h2 t ht
      rw [hz] at hc
      rw [if_pos ht, idxOf_of_get hnd hi]
      simp only [DataW.lit.injEq, Lit.int.injEq, true_and] at hc
      omega
    · rw [atKey_of_not_has (by rw [h1 t (by unfold maxLen; omega)]; exact decide_eq_false ht)] at hc
      rw [if_neg ht]
      simp only [DataW.lit.injEq, Lit.int.injEq, true_and] at hc
      omega
  have hile : (if t ∈ l then l.idxOf t else 0 : Nat) ≤ 1000 := by
    split
    · have := List.idxOf_le_length (a := t) (l := l); omega
    · omega
  have he : ((⟨t.toArray⟩ : ByteArray).data.toList) = t := rfl
  rw [he]
  have HR : Hid (colP r l t = r.testBit (if t ∈ l then l.idxOf t else 0)) := rfl
  have HAt : Hid (∀ c : Int, D.atKey (.string t) (.lit (.int .i64 0)) = .lit (.int .i64 c) → c = ((if t ∈ l then l.idxOf t else 0 : Nat) : Int)) := hat
  generalize (if t ∈ l then l.idxOf t else 0 : Nat) = i at *
  generalize colP r l t = cp at *
  obtain ⟨c1, -⟩ := blk1 hrb
  obtain ⟨c2, -⟩ := blk1 hpb
  generalize (⟨t.toArray⟩ : ByteArray) = T at *
  clear h1 h2 hrb hpb hat
  show Calls Try.prog 60 #[.string T, .pointer (some ⟨rb, 0, none⟩), .pointer (some ⟨pb, 0, none⟩)] w _
  go_enter Try.func60, Try.ntmps60
  go_wp2_with (first
    | (at_lookup
       refine wpList_lookup_own_int _ rfl _ _ 75 rfl 9 3 .i64 strKeyed Try.underlying75 Try.underlying3 (zeroInt _) b m _ rfl hown _ _ rfl hkey ?_
       intro c hat hwc
       obtain rfl := HAt.out c hat
       clear hat hwc)
    | (go_at_call 61
       refine (digit_any r i hr hile _).mono ?_
       rintro e w1 ⟨rfl, rfl⟩)
    | fail)
  go_ret
  exact ⟨by rw [HR.out]; rfl, Below.refl _ _⟩

theorem column1_in (cap : Array Value) (w : World) : (callFunc 60 cap).run Try.prog w = .ok (.enter 60 cap) w := by
  simp [go_sem]

theorem asksC (rb pb r : Nat) (l : List (List UInt8)) (hnd : l.Nodup) (hl : l.length ≤ 1000) (hr : r ≤ 100000) : Asks 60 #[.pointer (some ⟨rb, 0, none⟩), .pointer (some ⟨pb, 0, none⟩)] (colP r l) (OkC rb pb r l) where
  up := fun ⟨b, h1, h2, h3⟩ hb => ⟨b, below_keep hb h1, below_keep hb h2, h3.up hb⟩
  ent := fun _ w => column1_in _ w
  call := fun n w hok hn => column1_any rb pb r l hnd hl hr n w hok hn
end Go.Proofs.Ythmjoindlmgfdab
/- Walks: column. -/
namespace Go.Proofs.Ythmjoindlmgfdab
open Go.RowKit Go.Maps Go.WideMaps

/-- A list of bools in memory. -/
def BL (w : World) (v : Value) (l : List Bool) : Prop := ∃ ad cap, v = .slice ad l.length cap ∧ l.length ≤ cap ∧ cap ≤ maxLen ∧ (l ≠ [] → ∃ g off, ad = some ⟨g, off, none⟩ ∧ ∀ (j : Nat) (b : Bool), l[j]? = some b → w.cell? ⟨g, off + j, none⟩ = some (.bool b))
theorem BL.up {w w' : World} {v : Value} {l : List Bool} (h : BL w v l) (hb : Below w.heap.size w w') : BL w' v l := by
  obtain ⟨ad, cap, h1, h2, h3, h4⟩ := h
  refine ⟨ad, cap, h1, h2, h3, fun hne => ?_⟩
  obtain ⟨g, off, h5, h6⟩ := h4 hne
  exact ⟨g, off, h5, fun j t ht => by
    have := h6 j t ht
    rw [hb.cell (p := ⟨g, off + j, none⟩) (lt_of_cell this)]
    exact this⟩
theorem BL.nil {w : World} : BL w (.slice none 0 0) [] := ⟨none, 0, rfl, by simp, by simp, fun h => absurd rfl h⟩

/-- A formula's column: row by row of names. -/
def colL (f : Fm) (l : List (List UInt8)) : List Bool := (List.range (2 ^ l.length)).map fun r => tv (colP r l) f

theorem infoBool : ∃ i, Try.prog.info? 4 = some i ∧ i.zero = some (.bool false) ∧ i.size = 1 ∧ i.bytes = 1 := by
  obtain ⟨i, hi, h⟩ := Option.map_eq_some_iff.1 (show (Try.prog.info? 4).map (fun i => (i.zero, i.size, i.bytes)) = some (some (.bool false), 1, 1) by kernel_rfl)
  simp only [Prod.mk.injEq] at h
  exact ⟨i, hi, h.1, h.2.1, h.2.2⟩

theorem make_bools (M : Nat) (hM : M ≤ 1000) : ∃ C : Array Value, C.size = M ∧ ∀ w : World, (Instr.makeSlice 31 (.int .i64 (M : Nat)) (.int .i64 (M : Nat))).run Try.prog w = .ok (.slice (some ⟨w.heap.size, 0, none⟩) M M) (w.alloc (.cells C 4 (0, 0))) := by
  obtain ⟨i, hi, hz, hs, hb⟩ := infoBool
  refine ⟨madeCells (Value.bool false).cells (M * 1), by rw [size_madeCells]; omega, fun w => ?_⟩
  have := run_makeSlice (P := Try.prog) w 31 4 i _ Try.underlying31 hi hz .i64 .i64 (M : Int) (M : Int) (by omega) (Int.le_refl _) (by rw [hs]; simp; omega) (by rw [hb]; omega) (by omega)
  rw [hs] at this
  simpa using this

theorem shl_row (N : Nat) (h : N ≤ 6) : wrap64 ((2 : Int) ^ N) = ((2 ^ N : Nat) : Int) ∧ 1 ≤ 2 ^ N ∧ 2 ^ N ≤ 64 := by
  have : N = 0 ∨ N = 1 ∨ N = 2 ∨ N = 3 ∨ N = 4 ∨ N = 5 ∨ N = 6 := by omega
  rcases this with rfl | rfl | rfl | rfl | rfl | rfl | rfl <;> exact ⟨by unfold wrap64; decide, by decide, by decide⟩

theorem blk_sec (w : World) (o o' : Obj) : ((w.alloc o).alloc o').heap[w.heap.size + 1]? = some o' := by
  have := blk_new (w.alloc o) o'
  rwa [show (w.alloc o).heap.size = w.heap.size + 1 by simp] at this

/-- One cell more. -/
theorem set_cell {w : World} {g j : Nat} {C : Array Value} {T : TypeId} (h : w.heap[g]? = some (.cells C T (0, 0))) (u : Value) : (w.setCell ⟨g, j, none⟩ u).heap[g]? = some (.cells (C.setIfInBounds j u) T (0, 0)) := by
  simp [World.setCell, Array.getElem?_modify, h]

set_option maxHeartbeats 4000000 in
set_option maxRecDepth 20000 in
theorem column_any (f : Fm) (hf : Fine f) (hp : Plain f) (l : List (List UInt8)) (hl : l.length ≤ 6) (hnd : l.Nodup) (hsm : ∀ t ∈ l, t.length ≤ 8) (v u : Value) (w : World) (hv : Rep w (fun _ => True) f v) (hu : SL w u l) :
    Calls Try.prog 37 #[v, u] w fun e w' => ∃ x, e = .returned x ∧ BL w' x (colL f l) ∧ Below w.heap.size w w' := by
  have hpl := fun v w h => placesOf_any l (by omega) hsm v w h
  have htr := fun rb pb r (hr : r ≤ 100000) v w h o => isTrue_any (asksC rb pb r l hnd (by omega) hr) f v w hf hp h o
  obtain ⟨k, n, ks⟩ := f
  obtain ⟨sl, cap, rfl⟩ := slice_shape hv
  have HPl : Hid (∀ v w, SL w v l → Calls Try.prog 44 _ w _) := hpl
  have HTr : Hid (∀ rb pb r, r ≤ 100000 → ∀ v w, Rep w (fun _ => True) (.mk k n ks) v → OkC rb pb r l w → Calls Try.prog 46 _ w _) := htr
  have HU : Hid (SL w u l) := hu
  obtain ⟨ad, cp, rfl, -⟩ := hu
  have hlI : (l.length : Int) ≤ 6 := by omega
  obtain ⟨hw, hM1, hM2⟩ := shl_row l.length hl
  have HC : Hid (colL (.mk k n ks) l = (List.range (2 ^ l.length)).map fun r => tv (colP r l) (.mk k n ks)) := rfl
  generalize colL (.mk k n ks) l = CL at *
  generalize 2 ^ l.length = M at *
  obtain ⟨C, hC, hmk⟩ := make_bools M (by omega)
  have hMI : (M : Int) ≤ 64 := by omega
  clear hpl htr hsm hl
  go_enter Try.func37, Try.ntmps37
  go_wp2_with (first
    | (go_at_call 44
       refine (HPl.out _ _ (HU.out.up (below_more (Below.refl _ w) _))).mono ?_
       rintro e w1 ⟨rfl, hpm, hb1⟩
       have HPM : Hid (PM w1 _ l) := hpm
       have q0 := below_keep hb1 (blk_new w _)
       have B1 := below_join (below_more (Below.refl _ w) _) hb1
       clear hpm)
    | fail)
  have HPM' : Hid (PM w1 (w.heap.size + 1) l) := by
    have := HPM.out
    rwa [show (w.alloc (.cells #[.int .i64 k, .string n, .slice sl ks.length cap] 37 (0, 0))).heap.size = w.heap.size + 1 by simp] at this
  clear HPM HPl HU hw hmk
  have z0 := lt_of_block q0
  have hmf : ∀ (fn : Fn) (first cap : Array Value) (w : World), (Instr.makeFunc fn first cap).run Try.prog w = .ok (.func fn first cap) w := fun _ _ _ _ => rfl
  go_loopg [16] M (fun g c wr => ∃ r D, r ≤ M ∧ g = M - r ∧ c = .int .i64 (r : Nat) ∧ Below w1.heap.size w1 wr ∧ wr.heap[w1.heap.size]? = some (.cells #[.map (some (w.heap.size + 1))] 75 (0, 0)) ∧ wr.heap[w1.heap.size + 1]? = some (.cells D 4 (0, 0)) ∧ D.size = M ∧ Hid (∀ j, j < r → D[j]? = some (.bool (tv (colP j l) (.mk k n ks)))))
  case atStart =>
    exact ⟨0, C, by omega, by omega, rfl, below_more (below_more (Below.refl _ w1) _) _, alloc_keep (blk_new _ _) _, blk_sec _ _ _, hC, fun j h => absurd h (Nat.not_lt_zero _)⟩
  case round =>
    obtain ⟨r, D, hr, hg, rfl, hbr, q1, q2, hD, HD⟩ := hrel
    have HG : Hid (gk = M - r) := hg
    clear hg
    have q0' := below_keep hbr q0
    obtain ⟨a0, a1, a2, -⟩ := blk3 q0'
    have zr := lt_of_block q2
    have zr1 := lt_of_block q1
    have zr0 := lt_of_block q0'
    by_cases hlt : r < M
    · have hltI : (r : Int) < (M : Int) := by omega
      have e0 := blk_cell q2 r
      have e1 := blk_fz q2 r
      rw [Array.getElem?_eq_getElem (by omega)] at e0
      generalize D[r] = old at e0
      have q3 := blk_new wr (.cells #[.int .i64 (r : Nat)] 3 (0, 0))
      have HCa := HTr.out wr.heap.size w1.heap.size r (by omega) (.agg #[.int .i64 k, .string n, .slice sl ks.length cap]) ((wr.alloc (.cells #[.int .i64 (r : Nat)] 3 (0, 0))).drew) (hv.up ((below_more (below_join B1 hbr) _).drew)) ⟨w.heap.size + 1, q3, alloc_keep q1 _, (HPM'.out.up hbr).up ((Below.refl _ wr).alloc (Nat.le_refl _) _).drew⟩
      have HX : Hid (Calls Try.prog 46 _ _ _) := HCa
      clear HCa
      have HNx : Hid (∀ x : Bool, x = tv (colP r l) (.mk k n ks) → ∀ j, j < r + 1 → (D.setIfInBounds r (.bool x))[j]? = some (.bool (tv (colP j l) (.mk k n ks)))) := fun x hx j hj => by
        by_cases e : j = r
        · subst e; rw [hx, Array.getElem?_setIfInBounds_self_of_lt (by omega)]
        · rw [Array.getElem?_setIfInBounds_ne (by omega)]
          exact HD.out j (by omega)
      generalize tv (colP r l) (.mk k n ks) = bb at HX HNx
      obtain ⟨b0, b1⟩ := blk1 q3
      have n1 : ¬ w1.heap.size + 1 = w.heap.size := by omega
      have n2 : ¬ w.heap.size = w1.heap.size + 1 := by omega
      have n3 : ¬ w1.heap.size + 1 = wr.heap.size := by omega
      have n4 : ¬ wr.heap.size = w1.heap.size + 1 := by omega
      go_wp2_with fail
      go_region_held3 (fun w' => w'.cell? ⟨w.heap.size, 0, none⟩ = some (.int .i64 k) ∧ w'.cell? ⟨w.heap.size, 1, none⟩ = some (.string n) ∧ w'.cell? ⟨w.heap.size, 2, none⟩ = some (.slice sl ks.length cap) ∧ w'.cell? ⟨wr.heap.size, 0, none⟩ = some (.int .i64 (r : Nat))) (go_keep)
        (first
         | (go_at_call 46
            refine HX.out.mono ?_
            rintro e w2 ⟨rfl, hb2⟩
            have hb2' : Below (wr.alloc (.cells #[.int .i64 (r : Nat)] 3 (0, 0))).heap.size (wr.alloc (.cells #[.int .i64 (r : Nat)] 3 (0, 0))) w2 := (Below.refl _ _).drew.trans hb2
            have r2 := below_keep hb2' (alloc_keep q2 _)
            have r1 := below_keep hb2' (alloc_keep q1 _)
            have r0 := below_keep hb2' (alloc_keep q0' _)
            have r3 := below_keep hb2' q3
            have BW := below_join (below_more hbr _) hb2'
            clear e0 e1
            have e0 := blk_cell r2 r
            have e1 := blk_fz r2 r
            rw [Array.getElem?_eq_getElem (by omega)] at e0
            generalize D[r] = old at e0
            obtain ⟨f0, f1, f2, -⟩ := blk3 r0
            obtain ⟨f3, -⟩ := blk1 r3
            clear hb2)
         | fail)
      all_goals
        go_wp2_with fail
        have t1 : (w2.setCell ⟨w1.heap.size + 1, r, none⟩ (.bool bb)).heap[w1.heap.size]? = _ := (Below.heap_setCell _ _ _ _ (by simp)).trans r1
        have t2 := set_cell (j := r) r2 (.bool bb)
        have BF : Below w1.heap.size w1 (w2.setCell ⟨w1.heap.size + 1, r, none⟩ (.bool bb)) := BW.setCell (by simp) _
        go_roundg (M - (r + 1))
        case measure => have := HG.out; omega
        case rel => exact ⟨r + 1, D.setIfInBounds r (.bool bb), by omega, rfl, by go_num, BF, t1, t2, by simp [hD], HNx.out bb rfl⟩
    · have HE : Hid (∀ j, j < M → D[j]? = some (.bool (tv (colP j l) (.mk k n ks)))) := fun j hj => HD.out j (by omega)
      have hge : ¬ (r : Int) < (M : Int) := by omega
      clear HD
      go_wp2_with fail
      go_ret
      refine ⟨_, rfl, ?_, below_join B1 hbr⟩
      have hlen : CL.length = M := by rw [HC.out]; simp
      refine ⟨some ⟨w1.heap.size + 1, 0, none⟩, M, by rw [hlen]; rfl, by omega, by unfold maxLen; omega, fun _ => ⟨w1.heap.size + 1, 0, rfl, fun j b hb => ?_⟩⟩
      have hj : j < M := by
        rcases Nat.lt_or_ge j M with h | h
        · exact h
        · rw [List.getElem?_eq_none (by omega)] at hb; cases hb
      rw [HC.out, List.getElem?_map, List.getElem?_range hj] at hb
      rw [Nat.zero_add, blk_cell q2, HE.out j hj]
      simpa using hb
end Go.Proofs.Ythmjoindlmgfdab
/- Walks: the first place of a bool; the names that are true in a row. -/
namespace Go.Proofs.Ythmjoindlmgfdab
open Go.RowKit Go.Sort

/-- Where a bool stands first, or -1. -/
def fIdx (l : List Bool) (b : Bool) : Int := if b ∈ l then (l.idxOf b : Nat) else -1

set_option maxHeartbeats 1000000 in
theorem index_bool (l : List Bool) (hl : l.length ≤ 1000) (b : Bool) (v : Value) (w : World) (h : BL w v l) :
    Calls Try.prog 40 #[v, .bool b] w fun e w' => e = .returned (.int .i64 (fIdx l b)) ∧ w' = w := by
  obtain ⟨ad, cap, rfl, h1, h2, h3⟩ := h
  have hlI : (l.length : Int) ≤ 1000 := by omega
  have H3 : Hid (l ≠ [] → ∃ g off, ad = some ⟨g, off, none⟩ ∧ ∀ (j : Nat) (b : Bool), l[j]? = some b → w.cell? ⟨g, off + j, none⟩ = some (.bool b)) := h3
  clear h3
  go_enter Try.func40, Try.ntmps40
  go_wp2_with fail
  go_loopg [8] l.length (fun g c wr => ∃ i, i ≤ l.length ∧ g = l.length - i ∧ c = .int .i64 (i : Nat) ∧ wr = w ∧ Hid (b ∉ l.take i))
  case atStart => exact ⟨0, by omega, by omega, rfl, rfl, by show _ ∉ _; simp⟩
  case round =>
    obtain ⟨i, hi, hg, rfl, rfl, HN⟩ := hrel
    have HG : Hid (gk = l.length - i) := hg
    clear hg
    by_cases hlt : i < l.length
    · obtain ⟨x, hx⟩ : ∃ x, l[i]? = some x := ⟨_, List.getElem?_eq_getElem hlt⟩
      obtain ⟨g, off, rfl, hc⟩ := H3.out (fun e => by rw [e] at hlt; simp at hlt)
      have g0 := hc i x hx
      have hltI : (i : Int) < (l.length : Int) := by omega
      have hlc : (i : Int) < (cap : Int) := by omega
      have HX : Hid (l[i]? = some x) := hx
      clear hc hx H3
      by_cases hxt : b = x
      · subst hxt
        have HD : Hid (fIdx l b = ((i : Nat) : Int)) := by
          show _ = _
          have hm : b ∈ l := List.mem_of_getElem? HX.out
          have hdec : l = l.take i ++ b :: l.drop (i + 1) := by
            have := HX.out
            rw [List.getElem?_eq_getElem hlt] at this
            have e := Option.some.inj this
            rw [← e, ← List.drop_eq_getElem_cons hlt, List.take_append_drop]
          have hix : l.idxOf b = i := by
            rw [hdec, List.idxOf_append, if_neg HN.out, List.idxOf_cons_self, List.length_take]
            omega
          unfold fIdx
          rw [if_pos hm, hix]
        go_wp2_with fail
        go_ret
        exact ⟨by rw [HD.out]; rfl, rfl⟩
      · have hne : (b == x) = false := by simpa using hxt
        have HNN : Hid (b ∉ l.take (i + 1)) := by
          show _ ∉ _
          rw [List.take_add_one, HX.out]
          intro hm
          rcases List.mem_append.1 hm with h | h
          · exact HN.out h
          · simp at h; exact hxt h
        clear HX
        go_wp2_with fail
        go_roundg (l.length - (i + 1))
        case measure => have := HG.out; omega
        case rel => exact ⟨i + 1, by omega, rfl, by go_num, rfl, HNN⟩
    · have HD : Hid (fIdx l b = -1) := by
        show _ = _
        have := HN.out
        rw [List.take_of_length_le (by omega)] at this
        exact if_neg this
      have hge : ¬ (i : Int) < (l.length : Int) := by omega
      clear H3 HN
      go_wp2_with fail
      go_ret
      exact ⟨by rw [HD.out]; rfl, rfl⟩

/-- The names that are true in a row. -/
def rowN (r : Nat) : List (List UInt8) → Nat → List (List UInt8)
  | [], _ => []
  | t :: l, i => if r.testBit i then t :: rowN r l (i + 1) else rowN r l (i + 1)
theorem rowN_snoc (r : Nat) : ∀ (l : List (List UInt8)) (i : Nat) (t : List UInt8), rowN r (l ++ [t]) i = rowN r l i ++ if r.testBit (i + l.length) then [t] else []
  | [], i, t => by simp [rowN]
  | s :: l, i, t => by
    rw [List.cons_append, rowN, rowN, rowN_snoc r l (i + 1) t, List.length_cons, show i + 1 + l.length = i + (l.length + 1) by omega]
    split <;> simp
theorem rowN_len (r : Nat) : ∀ (l : List (List UInt8)) (i : Nat), (rowN r l i).length ≤ l.length
  | [], i => by simp [rowN]
  | s :: l, i => by
    rw [rowN]
    have := rowN_len r l (i + 1)
    split <;> simp <;> omega

theorem below_grown {B : Nat} {W w w5 : World} {ad : Option Addr} {cy n : Nat} {o : Obj} {xs : List Value} {T : TypeId} (hB : Below B W w) (hBs : B ≤ w.heap.size) (hk : w.ownsRow B T 1 (.slice ad n cy) n xs) (hg5 : (w.alloc o).grownBy w5 (Value.slice ad n cy).ownBlock) : Below B W w5 := by
  have h1 : Below B W (w.alloc o) := hB.alloc hBs o
  exact h1.trans ⟨hg5.os, hg5.tape, hg5.output, hg5.size, fun j hj => hg5.block j (by simp; omega) (fun e => by have := (World.ownsRow.lt hk j e.symm).1; omega)⟩

set_option maxHeartbeats 2000000 in
theorem trueIn_any (r : Nat) (hr : r ≤ 100000) (l : List (List UInt8)) (hl : l.length ≤ 1000) (u : Value) (w : World) (hu : SL w u l) :
    Calls Try.prog 41 #[.int .i64 (r : Nat), u] w fun e w' => ∃ x, e = .returned x ∧ TL w' x (rowN r l 0) ∧ Below w.heap.size w w' := by
  obtain ⟨ad, cap, rfl, h1, h2, h3⟩ := hu
  have hlI : (l.length : Int) ≤ 1000 := by omega
  have H3 : Hid (l ≠ [] → ∃ g off, ad = some ⟨g, off, none⟩ ∧ ∀ (j : Nat) (t : List UInt8), l[j]? = some t → w.cell? ⟨g, off + j, none⟩ = some (.string ⟨t.toArray⟩)) := h3
  obtain ⟨i0, hi, hz0, hz1, hz2⟩ := infoText
  clear h3
  go_enter Try.func41, Try.ntmps41
  go_wp2_with fail
  go_loopg [10, 5] l.length (fun g c o wr => ∃ i ad cy, i ≤ l.length ∧ g = l.length - i ∧ c = .int .i64 (i : Nat) ∧ o = .slice ad (rowN r (l.take i) 0).length cy ∧ Below w.heap.size w wr ∧ Hid (KS w.heap.size wr ad cy (rowN r (l.take i) 0)))
  case atStart => exact ⟨0, none, 0, by omega, by omega, rfl, rfl, Below.refl _ _, KS.nil⟩
  case round =>
    obtain ⟨i, ad', cy, hile, hg, rfl, rfl, hbr, HK⟩ := hrel
    have HG : Hid (gk = l.length - i) := hg
    clear hg
    by_cases hlt : i < l.length
    · obtain ⟨t, ht⟩ : ∃ x, l[i]? = some x := ⟨_, List.getElem?_eq_getElem hlt⟩
      obtain ⟨g, off, rfl, hc⟩ := H3.out (fun e => by rw [e] at hlt; simp at hlt)
      have g0 := (hbr.cell (p := ⟨g, off + i, none⟩) (lt_of_cell (hc i t ht))).trans (hc i t ht)
      have hltI : (i : Int) < (l.length : Int) := by omega
      have hlc : (i : Int) < (cap : Int) := by omega
      have hti : (l.take i).length = i := by rw [List.length_take]; omega
      have hT : rowN r (l.take (i + 1)) 0 = rowN r (l.take i) 0 ++ if r.testBit i then [t] else [] := by
        rw [List.take_add_one, ht]
        show rowN r (_ ++ [t]) 0 = _
        rw [rowN_snoc, hti, Nat.zero_add]
      have hRl := rowN_len r (l.take i) 0
      have hdi := digit_any r i hr (by omega)
      generalize hR : rowN r (l.take i) 0 = R at *
      rw [hti] at hRl
      have HDi : Hid (∀ w, Calls Try.prog 61 _ w _) := hdi
      clear hc ht H3 hdi hR
      rcases hb : r.testBit i with _ | _
      · rw [hb] at hT HDi
        have HT : Hid (rowN r (l.take (i + 1)) 0 = R) := by
          show _ = _
          rw [hT]; simp
        clear hT hb
        go_wp2_with (first
          | (go_at_call 61
             refine (HDi.out _).mono ?_
             rintro e w1 ⟨rfl, rfl⟩)
          | fail)
        go_roundg (l.length - (i + 1))
        case measure => have := HG.out; omega
        case rel => exact ⟨i + 1, ad', cy, by omega, rfl, by go_num, by rw [HT.out], hbr, by show KS _ _ _ _ _; rw [HT.out]; exact HK.out⟩
      · rw [hb] at hT HDi
        have HT : Hid (rowN r (l.take (i + 1)) 0 = R ++ [t]) := by
          show _ = _
          rw [hT]; simp
        clear hT hb
        go_wp2_with (first
          | (go_at_call 61
             refine (HDi.out _).mono ?_
             rintro e w1 ⟨rfl, hw1⟩
             have hw2 := hw1.symm
             subst hw2)
          | (at_builtin
             refine wpList_append_lies _ rfl _ _ 38 rfl w.heap.size 9 i0 (.string ⟨#[]⟩) 1 16 Try.underlying38 hi hz0 hz1 hz2 rfl (by decide) _ _ _ rfl (owns_up HK.out ((Below.refl _ wr).alloc (Nat.le_refl _) (.cells #[.string ⟨t.toArray⟩] 9 (0, 0)))) ⟨wr.heap.size, 0, none⟩ 1 1 [.string ⟨t.toArray⟩] rfl rfl ?_ ?_ (by omega) (by unfold maxLen; omega) (by omega) (by have := hbr.size; simp; omega) _ rfl ?_
             · intro j u hu
               rw [add_none, Nat.zero_add, blk_cell (blk_new wr _)]
               simpa using hu
             · intro u hu
               simp at hu
               rcases hu with rfl; rfl
             intro g5 cp5 w5 hown5 hgrow5 hat5 hlt5
             have BF := below_grown hbr hbr.size HK.out hgrow5
             have HKN : Hid (KS w.heap.size w5 (some ⟨g5, 0, none⟩) cp5 (R ++ [t])) := by
               show KS _ _ _ _ _
               unfold KS
               rw [List.map_append, List.length_append]
               exact hown5
             clear hown5 hgrow5 hat5)
          | fail)
        go_roundg (l.length - (i + 1))
        case measure => have := HG.out; omega
        case rel => exact ⟨i + 1, some ⟨g5, 0, none⟩, cp5, by omega, rfl, by go_num, by rw [HT.out, List.length_append]; rfl, BF, by show KS _ _ _ _ _; rw [HT.out]; exact HKN.out⟩
    · have HKE : Hid (KS w.heap.size wr ad' cy (rowN r l 0)) := by
        have := HK.out
        rw [List.take_of_length_le (by omega)] at this
        exact this
      have hTE : rowN r (l.take i) 0 = rowN r l 0 := by rw [List.take_of_length_le (by omega)]
      have hge : ¬ (i : Int) < (l.length : Int) := by omega
      clear HK H3
      rw [hTE]
      clear hTE
      go_wp2_with fail
      go_ret
      exact ⟨_, rfl, HKE.out.list, hbr⟩
end Go.Proofs.Ythmjoindlmgfdab
