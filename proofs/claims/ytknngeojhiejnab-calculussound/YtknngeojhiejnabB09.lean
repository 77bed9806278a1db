/- Texts of one proof, one behind the other: TY3, TY4, TZ1, CM1, CM2. -/
import Derived.Test.YtknngeojhiejnabB08
/- Walks: the yardstick's True. -/
namespace Go.Proofs.Ytknngeojhiejnab
open Go.RowKit Go.Sort

/-- A list of bools that is being made. -/
def KB (B : Nat) (w : World) (ad : Option Addr) (cap : Nat) (l : List Bool) : Prop := w.ownsRow B 4 1 (.slice ad l.length cap) l.length (l.map Value.bool)
theorem KB.nil {B : Nat} {w : World} : KB B w none 0 [] := ⟨rfl, Or.inl ⟨rfl, rfl⟩⟩
theorem KB.up {B : Nat} {w w' : World} {ad : Option Addr} {cap : Nat} {l : List Bool} (h : KB B w ad cap l) (hb : Below w.heap.size w w') : KB B w' ad cap l := owns_up h hb
theorem KB.ne {B : Nat} {w : World} {ad : Option Addr} {cap : Nat} {l : List Bool} (h : KB B w ad cap l) (hl : l ≠ []) : ∃ g, ad = some ⟨g, 0, none⟩ ∧ l.length ≤ cap ∧ cap ≤ maxLen ∧ ∀ (j : Nat) (b : Bool), l[j]? = some b → w.cell? ⟨g, j, none⟩ = some (.bool b) := by
  have h' := h
  rcases h'.2 with ⟨hv, h0⟩ | ⟨g, cap', cur, hv, hg, hh, h1, h2, -⟩
  · exact absurd (List.length_eq_zero_iff.1 h0) hl
  · simp only [Value.slice.injEq, true_and] at hv
    obtain ⟨rfl, rfl⟩ := hv
    refine ⟨g, rfl, h1, h2, fun j b hb => ?_⟩
    have := h.cells (g := g) rfl j (.bool b) (by rw [List.getElem?_map, hb]; rfl)
    rw [add_none, Nat.zero_add] at this
    exact this
theorem KB.list {B : Nat} {w : World} {ad : Option Addr} {cap : Nat} {l : List Bool} (h : KB B w ad cap l) : BL w (.slice ad l.length cap) l := by
  by_cases hl : l = []
  · subst hl
    rcases h.2 with ⟨hv, h0⟩ | ⟨g, cap', cur, hv, hg, hh, h1, h2, -⟩
    · simp only [Value.slice.injEq] at hv
      exact ⟨ad, cap, rfl, by simp, by rw [hv.2.2]; simp, fun h => absurd rfl h⟩
    · simp only [Value.slice.injEq, true_and] at hv
      exact ⟨ad, cap, rfl, by simp, by rw [hv.2]; exact h2, fun h => absurd rfl h⟩
  · obtain ⟨g, rfl, h1, h2, h3⟩ := h.ne hl
    exact ⟨_, cap, rfl, h1, h2, fun _ => ⟨g, 0, rfl, fun j b hb => by rw [Nat.zero_add]; exact h3 j b hb⟩⟩

def TrueR (l : List (List UInt8)) (m : Nat) : Prop := ∀ (f : Fm) (v u : Value) (w : World), f.size < m → Fine f → Rep w (fun _ => True) f v → SL w u l →
  Calls Try.prog 20 #[v, u] w fun e w' => e = .returned (.bool (tv (fun t => decide (t ∈ l)) f)) ∧ Below w.heap.size w w'

theorem tvs_take (p : List UInt8 → Bool) : ∀ (ks : List Fm) (i : Nat) (f : Fm), ks[i]? = some f → (tvs p ks).take (i + 1) = (tvs p ks).take i ++ [tv p f]
  | [], i, f, h => by simp at h
  | k :: ks, 0, f, h => by simp at h; subst h; rw [tvs]; simp
  | k :: ks, i + 1, f, h => by
    have := tvs_take p ks i f (by simpa using h)
    rw [tvs, List.take_succ_cons, List.take_succ_cons, this, List.cons_append]
theorem tvs_len (p : List UInt8 → Bool) : ∀ ks : List Fm, (tvs p ks).length = ks.length
  | [] => by rw [tvs]; rfl
  | k :: ks => by rw [tvs, List.length_cons, List.length_cons, tvs_len p ks]

set_option maxHeartbeats 8000000 in
theorem trueR_step (l : List (List UInt8)) (m : Nat) (ih : TrueR l m) : TrueR l (m + 1) := by
  intro f v u w hm hfi hrep hu
  obtain ⟨k, n, ks⟩ := f
  obtain ⟨sl, cap, rfl, hx1, hx2, hx3, hx4⟩ := Rep.def.1 hrep
  have HX : Hid (ks ≠ [] → ∃ b off, sl = some ⟨b, off, none⟩ ∧ True ∧ Reps w (fun _ => True) b off ks) := hx4
  have HU : Hid (SL w u l) := hu
  obtain ⟨adU, cpU, rfl, -⟩ := hu
  have hk2 := hfi.small.2
  have hkI : (ks.length : Int) ≤ 2 := by omega
  obtain ⟨i0, hi, hz0, hz1, hz2⟩ := infoBool
  have q0 := blk_new w (.cells #[.int .i64 k, .string n, .slice sl ks.length cap] 37 (0, 0))
  have B0 := below_more (Below.refl _ w) (.cells #[.int .i64 k, .string n, .slice sl ks.length cap] 37 (0, 0))
  have HF : Hid (Fine (.mk k n ks)) := hfi
  have HV : Hid (∀ bs, bs = tvs (fun t => decide (t ∈ l)) ks → tv (fun t => decide (t ∈ l)) (.mk k n ks) = val k (decide (n.data.toList ∈ l)) bs) := fun bs hb => by rw [hb, tv]
  have htl := tvs_len (fun t => decide (t ∈ l)) ks
  generalize tv (fun t => decide (t ∈ l)) (.mk k n ks) = res at *
  obtain ⟨bs, hbs⟩ : ∃ bs, bs = tvs (fun t => decide (t ∈ l)) ks := ⟨_, rfl⟩
  have HBs : Hid (bs = tvs (fun t => decide (t ∈ l)) ks) := hbs
  rw [← hbs] at htl
  clear hx4 hfi hbs hrep
  go_enter Try.func20, Try.ntmps20
  go_wp2_with fail
  go_loopg [6, 5] ks.length (fun g c o wr => ∃ i ad cy, i ≤ ks.length ∧ g = ks.length - i ∧ c = .int .i64 (i : Nat) ∧ o = .slice ad (bs.take i).length cy ∧ Below w.heap.size w wr ∧ wr.heap[w.heap.size]? = some (.cells #[.int .i64 k, .string n, .slice sl ks.length cap] 37 (0, 0)) ∧ Hid (KB (w.heap.size + 1) wr ad cy (bs.take i)))
  case atStart => exact ⟨0, none, 0, by omega, by omega, rfl, rfl, B0, q0, KB.nil⟩
  case round =>
    obtain ⟨i, ad, cy, hile, hg, rfl, rfl, hbr, q1, HK⟩ := hrel
    have HG : Hid (gk = ks.length - i) := hg
    clear hg
    obtain ⟨a0, a1, a2, -⟩ := blk3 q1
    have z1 := lt_of_block q1
    by_cases hlt : i < ks.length
    · obtain ⟨⟨k2, n2, ks2⟩, hki⟩ : ∃ f, ks[i]? = some f := ⟨_, List.getElem?_eq_getElem hlt⟩
      have hltI : (i : Int) < (ks.length : Int) := by omega
      have hlc : (i : Int) < (cap : Int) := by omega
      obtain ⟨b, off, rfl, -, hrs⟩ := HX.out (fun e => by rw [e] at hlt; simp at hlt)
      obtain ⟨sl2, cap2, g0, g1, g2, hrep2⟩ := (hrs.up hbr).at i k2 n2 ks2 hki
      have hsz : (Fm.mk k2 n2 ks2).size < m := by have := sizes_get hki; rw [Fm.size] at hm; omega
      have hca := fun v u wx h hu => ih (.mk k2 n2 ks2) v u wx hsz (HF.out.kid i _ hki) h hu
      have hT : bs.take (i + 1) = bs.take i ++ [tv (fun t => decide (t ∈ l)) (.mk k2 n2 ks2)] := by rw [HBs.out]; exact tvs_take _ _ _ _ hki
      have hRl : (bs.take i).length ≤ 2 := by rw [List.length_take]; omega
      generalize tv (fun t => decide (t ∈ l)) (.mk k2 n2 ks2) = y at *
      have HT : Hid (bs.take (i + 1) = bs.take i ++ [y]) := hT
      clear hT
      generalize bs.take i = R at *
      have HC : Hid (∀ v u wx, _ → SL wx u l → Calls Try.prog 20 _ wx _) := hca
      clear hki hrs HX hca
      go_wp2_with (first
        | (go_at_call 20
           refine (HC.out _ _ _ hrep2 (HU.out.up hbr)).mono ?_
           rintro e w2 ⟨rfl, hb2⟩
           have q2 := below_keep hb2 q1
           have B2 := below_join hbr hb2
           have HK2 : Hid (KB (w.heap.size + 1) w2 ad cy R) := HK.out.up hb2
           have z2 := lt_of_block q2)
        | (at_builtin
           refine wpList_append_lies _ rfl _ _ 31 rfl (w.heap.size + 1) 4 i0 (.bool false) 1 1 Try.underlying31 hi hz0 hz1 hz2 rfl (by decide) _ _ _ rfl (owns_up HK2.out ((Below.refl _ w2).alloc (Nat.le_refl _) (.cells #[.bool y] 4 (0, 0)))) ⟨w2.heap.size, 0, none⟩ 1 1 [.bool y] rfl rfl ?_ ?_ (by omega) (by unfold maxLen; omega) (by omega) (by simp; omega) _ rfl ?_
           · intro j u hu
             rw [add_none, Nat.zero_add, blk_cell (blk_new w2 _)]
             simpa using hu
           · intro u hu
             simp at hu
             rcases hu with rfl; rfl
           intro g5 cp5 w5 hown5 hgrow5 hat5 hlt5
           have BB := below_grown (show Below (w.heap.size + 1) w2 w2 from Below.refl _ _) (by omega) HK2.out hgrow5
           have q5 := (BB.block w.heap.size (by omega)).trans q2
           have BF := B2.trans (BB.mono (Nat.le_succ _))
           have HKN : Hid (KB (w.heap.size + 1) w5 (some ⟨g5, 0, none⟩) cp5 (R ++ [y])) := by
             show KB _ _ _ _ _
             unfold KB
             rw [List.map_append, List.length_append]
             exact hown5
           clear hown5 hgrow5 hat5)
        | fail)
      go_roundg (ks.length - (i + 1))
      case measure => have := HG.out; omega
      case rel => exact ⟨i + 1, some ⟨g5, 0, none⟩, cp5, by omega, rfl, by go_num, by rw [HT.out, List.length_append]; rfl, BF, q5, by show KB _ _ _ _ _; rw [HT.out]; exact HKN.out⟩
    · obtain rfl : i = ks.length := by omega
      have hTE : bs.take ks.length = bs := List.take_of_length_le (by omega)
      rw [hTE] at HK ⊢
      have HR : Hid (res = val k (decide (n.data.toList ∈ l)) bs) := HV.out bs HBs.out
      have HTl : Hid (bs.length = ks.length) := htl
      clear hTE HX HBs HV htl hile hlt hkI hk2 hx1 hx2 hx3 hm
      rcases HF.out.forms with ⟨n', e, hn⟩ | e | e | ⟨k', g, hk, e, hg⟩ | ⟨k', g, g', hk, e, hg, hg'⟩
      · cases e
        have hht := hasText_sl l n.data.toList _ wr (HU.out.up hbr)
        have HHt : Hid (Calls Try.prog 18 #[.slice adU l.length cpU, .string n] wr _) := hht
        have HR2 : Hid (res = decide (n.data.toList ∈ l)) := HR.out
        clear hht hn HR HK
        generalize decide (n.data.toList ∈ l) = bb at *
        go_wp2_with (first
          | (go_at_call 18
             refine HHt.out.mono ?_
             rintro e w2 ⟨rfl, rfl⟩)
          | fail)
        go_ret
        exact ⟨by rw [HR2.out]; rfl, hbr⟩
      · cases e
        have HR2 : Hid (res = true) := HR.out
        clear HR HK
        go_wp2_with fail
        go_ret
        exact ⟨by rw [HR2.out]; rfl, hbr⟩
      · cases e
        have HR2 : Hid (res = false) := HR.out
        clear HR HK
        go_wp2_with fail
        go_ret
        exact ⟨by rw [HR2.out]; rfl, hbr⟩
      · cases e
        obtain ⟨x, rfl⟩ : ∃ x, bs = [x] := by
          match bs, HTl.out with
          | [x], _ => exact ⟨x, rfl⟩
        clear HTl
        obtain ⟨gB, rfl, hc1, hc2, hcs⟩ := HK.out.ne (by simp)
        have c0 := hcs 0 x rfl
        have hcI : (1 : Int) ≤ (cy : Int) := by simp at hc1; omega
        clear hcs HK
        rcases hk with rfl | rfl | rfl
        · have HR2 : Hid (res = !x) := HR.out
          clear HR
          go_wp2_with fail
          go_ret
          exact ⟨by rw [HR2.out]; rfl, hbr⟩
        · have HR2 : Hid (res = false) := HR.out
          clear HR
          go_wp2_with fail
          go_ret
          exact ⟨by rw [HR2.out]; rfl, hbr⟩
        · have HR2 : Hid (res = false) := HR.out
          clear HR
          go_wp2_with fail
          go_ret
          exact ⟨by rw [HR2.out]; rfl, hbr⟩
      · cases e
        obtain ⟨x, y, rfl⟩ : ∃ x y, bs = [x, y] := by
          match bs, HTl.out with
          | [x, y], _ => exact ⟨x, y, rfl⟩
        clear HTl
        obtain ⟨gB, rfl, hc1, hc2, hcs⟩ := HK.out.ne (by simp)
        have c0 := hcs 0 x rfl
        have c1 := hcs 1 y rfl
        have hcI : (2 : Int) ≤ (cy : Int) := by simp at hc1; omega
        clear hcs HK
        rcases hk with rfl | rfl | rfl
        · have HR2 : Hid (res = (x && y)) := HR.out
          clear HR
          cases x
          all_goals
            go_wp2_with fail
            go_ret
            exact ⟨by rw [HR2.out]; simp, hbr⟩
        · have HR2 : Hid (res = (x || y)) := HR.out
          clear HR
          cases x
          all_goals
            go_wp2_with fail
            go_ret
            exact ⟨by rw [HR2.out]; simp, hbr⟩
        · have HR2 : Hid (res = (!x || y)) := HR.out
          clear HR
          cases y
          all_goals
            go_wp2_with fail
            go_ret
            exact ⟨by rw [HR2.out]; simp, hbr⟩

theorem trueRs_all (l : List (List UInt8)) : ∀ m, TrueR l m
  | 0 => fun _ _ _ _ h => absurd h (Nat.not_lt_zero _)
  | m + 1 => trueR_step l m (trueRs_all l m)

theorem trueR_any (l : List (List UInt8)) (f : Fm) (v u : Value) (w : World) (hf : Fine f) (hrep : Rep w (fun _ => True) f v) (hu : SL w u l) :
    Calls Try.prog 20 #[v, u] w fun e w' => e = .returned (.bool (tv (fun t => decide (t ∈ l)) f)) ∧ Below w.heap.size w w' :=
  trueRs_all l (f.size + 1) f v u w (Nat.lt_succ_self _) hf hrep hu
end Go.Proofs.Ytknngeojhiejnab
/- Walks: the yardstick's PlainFault. -/
namespace Go.Proofs.Ytknngeojhiejnab
open Go.RowKit Go.Sort

set_option maxHeartbeats 1000000 in
theorem mkF_any (c a : Int) (w : World) : Calls Try.prog 16 #[.int .i64 c, .int .i64 a] w fun e w' => e = .returned (.agg #[.int .i64 c, .int .i64 a]) ∧ Below w.heap.size w w' := by
  have B := below_more (Below.refl _ w) (.cells #[.int .i64 c, .int .i64 a] 25 (0, 0))
  go_enter Try.func16, Try.ntmps16
  go_wp2_with fail
  exact bodyPost_ret (v := .agg #[.int .i64 c, .int .i64 a]) (by simp [results, Try.results16, go_sem]) rfl ⟨rfl, B⟩

end Go.Proofs.Ytknngeojhiejnab
/- Walks: the opposite of a formula. -/
namespace Go.Proofs.Ytknngeojhiejnab
open Go.RowKit Go.Sort

set_option maxHeartbeats 1000000 in
theorem bothP_any (ok : Nat → Prop) (k : Int) (f g : Fm) (v u : Value) (w : World) (ho : ∀ b, w.heap.size ≤ b → ok b) (hv : Rep w ok f v) (hu : Rep w ok g u) :
    Calls Try.prog 25 #[.int .i64 k, v, u] w fun e w' => ∃ x, e = .returned x ∧ Rep w' ok (.mk k ⟨#[]⟩ [f, g]) x ∧ Below w.heap.size w w' := by
  obtain ⟨k1, n1, ks1⟩ := f
  obtain ⟨k2, n2, ks2⟩ := g
  obtain ⟨sl1, cp1, rfl⟩ := slice_shape hv
  obtain ⟨sl2, cp2, rfl⟩ := slice_shape hu
  have HV : Hid (Rep w ok (.mk k1 n1 ks1) (.agg #[.int .i64 k1, .string n1, .slice sl1 ks1.length cp1])) := hv
  have HU : Hid (Rep w ok (.mk k2 n2 ks2) (.agg #[.int .i64 k2, .string n2, .slice sl2 ks2.length cp2])) := hu
  have HO : Hid (∀ b, w.heap.size ≤ b → ok b) := ho
  clear hv hu ho
  go_enter Try.func25, Try.ntmps25
  go_wp2_with fail
  have q := blk_new (((w.alloc (.cells #[.int .i64 k1, .string n1, .slice sl1 ks1.length cp1] 37 (0, 0))).alloc (.cells #[.int .i64 k2, .string n2, .slice sl2 ks2.length cp2] 37 (0, 0))).alloc (.cells #[.int .i64 k, .string ⟨#[]⟩, .slice (some ⟨w.heap.size + 1 + 1 + 1, 0, none⟩) 2 2] 37 (0, 0))) (.cells #[.int .i64 k1, .string n1, .slice sl1 ks1.length cp1, .int .i64 k2, .string n2, .slice sl2 ks2.length cp2] 37 (0, 0))
  rw [show (((w.alloc (.cells #[.int .i64 k1, .string n1, .slice sl1 ks1.length cp1] 37 (0, 0))).alloc (.cells #[.int .i64 k2, .string n2, .slice sl2 ks2.length cp2] 37 (0, 0))).alloc (.cells #[.int .i64 k, .string ⟨#[]⟩, .slice (some ⟨w.heap.size + 1 + 1 + 1, 0, none⟩) 2 2] 37 (0, 0))).heap.size = w.heap.size + 1 + 1 + 1 by simp] at q
  have B := below_more (below_more (below_more (below_more (Below.refl _ w) (.cells #[.int .i64 k1, .string n1, .slice sl1 ks1.length cp1] 37 (0, 0))) (.cells #[.int .i64 k2, .string n2, .slice sl2 ks2.length cp2] 37 (0, 0))) (.cells #[.int .i64 k, .string ⟨#[]⟩, .slice (some ⟨w.heap.size + 1 + 1 + 1, 0, none⟩) 2 2] 37 (0, 0))) (.cells #[.int .i64 k1, .string n1, .slice sl1 ks1.length cp1, .int .i64 k2, .string n2, .slice sl2 ks2.length cp2] 37 (0, 0))
  exact bodyPost_ret (v := .agg #[.int .i64 k, .string ⟨#[]⟩, .slice (some ⟨w.heap.size + 1 + 1 + 1, 0, none⟩) 2 2]) (by simp [results, Try.results25, go_sem]) rfl ⟨_, rfl, Rep.two q (HO.out _ (by omega)) (HV.out.up' B) (HU.out.up' B), B⟩

set_option maxHeartbeats 1000000 in
theorem ofP_any (ok : Nat → Prop) (k : Int) (f : Fm) (v : Value) (w : World) (ho : ∀ b, w.heap.size ≤ b → ok b) (hv : Rep w ok f v) :
    Calls Try.prog 53 #[.int .i64 k, v] w fun e w' => ∃ x, e = .returned x ∧ Rep w' ok (.mk k ⟨#[]⟩ [f]) x ∧ Below w.heap.size w w' := by
  obtain ⟨k1, n1, ks1⟩ := f
  obtain ⟨sl1, cp1, rfl⟩ := slice_shape hv
  have HV : Hid (Rep w ok (.mk k1 n1 ks1) (.agg #[.int .i64 k1, .string n1, .slice sl1 ks1.length cp1])) := hv
  have HO : Hid (∀ b, w.heap.size ≤ b → ok b) := ho
  clear hv ho
  go_enter Try.func53, Try.ntmps53
  go_wp2_with fail
  have q := blk_new ((w.alloc (.cells #[.int .i64 k1, .string n1, .slice sl1 ks1.length cp1] 37 (0, 0))).alloc (.cells #[.int .i64 k, .string ⟨#[]⟩, .slice (some ⟨w.heap.size + 1 + 1, 0, none⟩) 1 1] 37 (0, 0))) (.cells #[.int .i64 k1, .string n1, .slice sl1 ks1.length cp1] 37 (0, 0))
  rw [show ((w.alloc (.cells #[.int .i64 k1, .string n1, .slice sl1 ks1.length cp1] 37 (0, 0))).alloc (.cells #[.int .i64 k, .string ⟨#[]⟩, .slice (some ⟨w.heap.size + 1 + 1, 0, none⟩) 1 1] 37 (0, 0))).heap.size = w.heap.size + 1 + 1 by simp] at q
  have B := below_more (below_more (below_more (Below.refl _ w) (.cells #[.int .i64 k1, .string n1, .slice sl1 ks1.length cp1] 37 (0, 0))) (.cells #[.int .i64 k, .string ⟨#[]⟩, .slice (some ⟨w.heap.size + 1 + 1, 0, none⟩) 1 1] 37 (0, 0))) (.cells #[.int .i64 k1, .string n1, .slice sl1 ks1.length cp1] 37 (0, 0))
  exact bodyPost_ret (v := .agg #[.int .i64 k, .string ⟨#[]⟩, .slice (some ⟨w.heap.size + 1 + 1, 0, none⟩) 1 1]) (by simp [results, Try.results53, go_sem]) rfl ⟨_, rfl, Rep.one q (HO.out _ (by omega)) (HV.out.up' B), B⟩

end Go.Proofs.Ytknngeojhiejnab
/- Proofs as data, and what the checker says of them. -/
namespace Go.Proofs.Ytknngeojhiejnab

instance : BEq Fm := ⟨sameB⟩
instance : LawfulBEq Fm where
  eq_of_beq := fun {a b} h => sameB_eq a b h
  rfl := fun {a} => sameB_refl a
instance : DecidableEq Fm := fun a b => if h : (a == b) = true then isTrue (eq_of_beq h) else isFalse fun e => h (by rw [e]; exact sameB_refl b)

theorem hasF_mem (n : Fm) (fs : List Fm) : hasF n fs = true ↔ n ∈ fs := by
  unfold hasF
  rw [List.any_eq_true]
  constructor
  · rintro ⟨g, hg, h⟩
    rw [← sameB_eq g n h]; exact hg
  · exact fun h => ⟨n, h, sameB_refl n⟩

/-- A proof: rule, formula, its end's two sides, and the proofs in it. -/
inductive Pf where
  | mk (rule : ByteArray) (f : Fm) (l r : List Fm) (ks : List Pf) : Pf
def Pf.rule : Pf → ByteArray
  | .mk a _ _ _ _ => a
def Pf.f : Pf → Fm
  | .mk _ f _ _ _ => f
def Pf.l : Pf → List Fm
  | .mk _ _ l _ _ => l
def Pf.r : Pf → List Fm
  | .mk _ _ _ r _ => r
def Pf.ks : Pf → List Pf
  | .mk _ _ _ _ ks => ks

/-- The code of the first formula that is not plain, and its number. -/
def firstBad : List Fm → Nat → Int × Int
  | [], _ => (0, 0)
  | f :: fs, i => if f.pcode.1 = 0 then firstBad fs (i + 1) else (f.pcode.1, (i : Nat))
def seqCode (l r : List Fm) : Int × Int := if 60 < l.length + r.length then (2, 0) else firstBad (l ++ r) 0

inductive Ru
  | ax | tr | fa | andL | andR | orL | thenR | notR | contrL | orR | thenL | notL | contrR | cut | orR1 | orR2
  deriving DecidableEq

/-- The rules' names: ax, true, false, and-l, and-r, or-l, then-r, not-r, contr-l, or-r, then-l, not-l, contr-r, cut, or-r1, or-r2; weak. -/
def Ru.text : Ru → List UInt8
  | ax => [97, 120]
  | tr => [116, 114, 117, 101]
  | fa => [102, 97, 108, 115, 101]
  | andL => [97, 110, 100, 45, 108]
  | andR => [97, 110, 100, 45, 114]
  | orL => [111, 114, 45, 108]
  | thenR => [116, 104, 101, 110, 45, 114]
  | notR => [110, 111, 116, 45, 114]
  | contrL => [99, 111, 110, 116, 114, 45, 108]
  | orR => [111, 114, 45, 114]
  | thenL => [116, 104, 101, 110, 45, 108]
  | notL => [110, 111, 116, 45, 108]
  | contrR => [99, 111, 110, 116, 114, 45, 114]
  | cut => [99, 117, 116]
  | orR1 => [111, 114, 45, 114, 49]
  | orR2 => [111, 114, 45, 114, 50]
def weakT : List UInt8 := [119, 101, 97, 107]
/-- The rules of a calculus. -/
def rulesL (i : Bool) : List Ru := [.ax, .tr, .fa, .andL, .andR, .orL, .thenR, .notR, .contrL] ++ if i then [.orR1, .orR2, .thenL, .notL, .cut] else [.orR, .thenL, .notL, .contrR, .cut]
def ruleOf (i : Bool) (t : List UInt8) : Option Ru := (rulesL i).find? fun r => decide (r.text = t)

def Fm.kidA : Fm → Fm
  | .mk _ _ (a :: _) => a
  | f => f
def Fm.kidB : Fm → Fm
  | .mk _ _ (_ :: b :: _) => b
  | f => f
/-- The premises, if the rule applies. -/
def prem (i : Bool) (q : Ru) (f : Fm) (l r : List Fm) : Option (List (List Fm × List Fm)) :=
  let g := l.erase f
  let d := r.erase f
  let a := f.kidA
  let b := f.kidB
  match q with
  | .ax => if f ∈ l ∧ f ∈ r then some [] else none
  | .tr => if f.kind = 2 ∧ f ∈ r then some [] else none
  | .fa => if f.kind = 3 ∧ f ∈ l then some [] else none
  | .andL => if f.kind = 5 ∧ f ∈ l then some [(g ++ [a, b], r)] else none
  | .andR => if f.kind = 5 ∧ f ∈ r then some [(l, d ++ [a]), (l, d ++ [b])] else none
  | .orL => if f.kind = 6 ∧ f ∈ l then some [(g ++ [a], r), (g ++ [b], r)] else none
  | .thenR => if f.kind = 7 ∧ f ∈ r then some [(l ++ [a], d ++ [b])] else none
  | .notR => if f.kind = 4 ∧ f ∈ r then some [(l ++ [a], d)] else none
  | .contrL => if f ∈ l then some [(l ++ [f], r)] else none
  | .orR => if f.kind = 6 ∧ f ∈ r then some [(l, d ++ [a, b])] else none
  | .thenL => if f.kind = 7 ∧ f ∈ l then some [(g, if i then [a] else r ++ [a]), (g ++ [b], r)] else none
  | .notL => if f.kind = 4 ∧ f ∈ l then some [(g, if i then [a] else r ++ [a])] else none
  | .contrR => if f ∈ r then some [(l, r ++ [f])] else none
  | .cut => some [(l, if i then [f] else r ++ [f]), (l ++ [f], r)]
  | .orR1 => if f.kind = 6 ∧ f ∈ r then some [(l, [a])] else none
  | .orR2 => if f.kind = 6 ∧ f ∈ r then some [(l, [b])] else none

/-- Has no formula more often than. -/
def within : List Fm → List Fm → Bool
  | [], _ => true
  | f :: l, m => decide (f ∈ m) && within l (m.erase f)
def isEq (l m : List Fm) : Bool := decide (l.length = m.length) && within l m
def kidsC : List Pf → List (List Fm × List Fm) → Int
  | k :: ks, s :: ss => if isEq k.l s.1 && isEq k.r s.2 then kidsC ks ss else 7
  | _, _ => 0
def weakC (f : Fm) (l r : List Fm) (ks : List Pf) : Int :=
  if f = .mk 0 ⟨#[]⟩ [] then (match ks with
    | [k] => if within k.l l && within k.r r then 0 else 7
    | _ => 9) else 5
def stepC (i : Bool) : Pf → Int
  | .mk a f l r ks =>
    if (seqCode l r).1 ≠ 0 ∨ (i = true ∧ 1 < r.length) then 5
    else if a.data.toList = weakT then weakC f l r ks
    else match ruleOf i a.data.toList with
      | none => 4
      | some q => if f.pcode.1 ≠ 0 then 5 else match prem i q f l r with
        | none => 7
        | some ss => if ks.length ≠ ss.length then 9 else kidsC ks ss

mutual
def look (i : Bool) : Pf → Nat → Nat → Nat → (Int × Int) × Nat × Nat
  | .mk a f l r ks, deep, steps, cuts =>
    if steps = 20000 ∨ 400 < deep then ((2, 0), steps, cuts)
    else if stepC i (.mk a f l r ks) ≠ 0 then ((stepC i (.mk a f l r ks), (steps : Nat)), steps + 1, cuts)
    else looks i ks (deep + 1) (steps + 1) (if a.data.toList = Ru.cut.text then cuts + 1 else cuts)
def looks (i : Bool) : List Pf → Nat → Nat → Nat → (Int × Int) × Nat × Nat
  | [], _, s, c => ((0, 0), s, c)
  | k :: ks, d, s, c => if (look i k d s c).1.1 ≠ 0 then look i k d s c else looks i ks d (look i k d s c).2.1 (look i k d s c).2.2
end

/-! What is proved is true. -/
def Valid (l r : List Fm) : Prop := ∀ p, (∀ f ∈ l, tv p f = true) → ∃ g ∈ r, tv p g = true

theorem within_count : ∀ (l m : List Fm), within l m = true ↔ ∀ f, l.count f ≤ m.count f
  | [], m => by simp [within]
  | f :: l, m => by
    rw [within, Bool.and_eq_true, decide_eq_true_eq, within_count l (m.erase f)]
    constructor
    · rintro ⟨hm, h⟩ g
      have := h g
      rw [List.count_erase] at this
      rw [List.count_cons]
      have hp := List.count_pos_iff.2 hm
      by_cases e : f == g
      · have e' : f = g := eq_of_beq e
        subst e'
        simp only [beq_self_eq_true, if_true] at this ⊢
        omega
      · rw [if_neg e] at *
        omega
    · intro h
      have hf := h f
      rw [List.count_cons_self] at hf
      refine ⟨List.count_pos_iff.1 (by omega), fun g => ?_⟩
      have := h g
      rw [List.count_cons] at this
      rw [List.count_erase]
      by_cases e : f == g
      · rw [if_pos e] at *
        omega
      · rw [if_neg e] at *
        omega
theorem within_sub {l m : List Fm} (h : within l m = true) : ∀ f ∈ l, f ∈ m := fun f hf => by
  have := (within_count l m).1 h f
  have hp := List.count_pos_iff.2 hf
  exact List.count_pos_iff.1 (by omega)
theorem count_sum_perm {l m : List Fm} (hl : l.length = m.length) (h : within l m = true) : l.Perm m := by
  induction l generalizing m with
  | nil =>
    have : m = [] := List.length_eq_zero_iff.1 (by simpa using hl.symm)
    rw [this]
  | cons f l ih =>
    rw [within, Bool.and_eq_true, decide_eq_true_eq] at h
    have hm := h.1
    have := ih (m := m.erase f) (by
      have := List.length_erase_of_mem hm
      simp only [List.length_cons] at hl
      omega) h.2
    exact (List.Perm.cons f this).trans (List.perm_cons_erase hm).symm
theorem isEq_perm (l m : List Fm) : isEq l m = true ↔ l.Perm m := by
  unfold isEq
  rw [Bool.and_eq_true, decide_eq_true_eq]
  constructor
  · exact fun h => count_sum_perm h.1 h.2
  · exact fun h => ⟨h.length_eq, (within_count l m).2 fun f => Nat.le_of_eq (h.count_eq f)⟩
end Go.Proofs.Ytknngeojhiejnab
/- What is proved is true. -/
namespace Go.Proofs.Ytknngeojhiejnab

theorem fine_one_of {f : Fm} (hf : Fine f) (hk : f.kind = 4) : ∃ a, f = .mk 4 ⟨#[]⟩ [a] ∧ f.kidA = a ∧ Fine a := by
  rcases hf.forms with ⟨n, rfl, hn⟩ | rfl | rfl | ⟨k, g, h, rfl, hg⟩ | ⟨k, g, g', h, rfl, hg, hg'⟩
  · cases hk
  · cases hk
  · cases hk
  · have : k = 4 := hk
    subst this
    exact ⟨g, rfl, rfl, hg⟩
  · have : k = 4 := hk
    omega
theorem fine_two_of {f : Fm} (hf : Fine f) (hk : f.kind = 5 ∨ f.kind = 6 ∨ f.kind = 7) : ∃ a b, f = .mk f.kind ⟨#[]⟩ [a, b] ∧ f.kidA = a ∧ f.kidB = b ∧ Fine a ∧ Fine b := by
  rcases hf.forms with ⟨n, rfl, hn⟩ | rfl | rfl | ⟨k, g, h, rfl, hg⟩ | ⟨k, g, g', h, rfl, hg, hg'⟩
  · rcases hk with h | h | h <;> cases h
  · rcases hk with h | h | h <;> cases h
  · rcases hk with h | h | h <;> cases h
  · have : k = 5 ∨ k = 6 ∨ k = 7 := hk
    omega
  · exact ⟨g, g', rfl, rfl, rfl, hg, hg'⟩

theorem prem_sound (i : Bool) (q : Ru) {f : Fm} (hf : Fine f) {l r : List Fm} {ss : List (List Fm × List Fm)} (h : prem i q f l r = some ss) (hs : ∀ s ∈ ss, Valid s.1 s.2) : Valid l r := by
  intro p hl
  cases q with
  | ax =>
    simp only [prem] at h
    split at h
    · rename_i hc
      exact ⟨f, hc.2, hl f hc.1⟩
    · cases h
  | tr =>
    simp only [prem] at h
    split at h
    · rename_i hc
      refine ⟨f, hc.2, ?_⟩
      rcases hf.forms with ⟨n, rfl, hn⟩ | rfl | rfl | ⟨k, g, h, rfl, hg⟩ | ⟨k, g, g', h, rfl, hg, hg'⟩
      · cases hc.1
      · rw [tv_true]
      · cases hc.1
      · have : k = 2 := hc.1
        omega
      · have : k = 2 := hc.1
        omega
    · cases h
  | fa =>
    simp only [prem] at h
    split at h
    · rename_i hc
      have := hl f hc.2
      rcases hf.forms with ⟨n, rfl, hn⟩ | rfl | rfl | ⟨k, g, h, rfl, hg⟩ | ⟨k, g, g', h, rfl, hg, hg'⟩
      · cases hc.1
      · cases hc.1
      · rw [tv_false] at this; cases this
      · have : k = 3 := hc.1
        omega
      · have : k = 3 := hc.1
        omega
    · cases h
  | andL =>
    simp only [prem] at h
    split at h
    · rename_i hc
      cases h
      obtain ⟨a, b, e, ea, eb, -, -⟩ := fine_two_of hf (Or.inl hc.1)
      have ht := hl f hc.2
      rw [e, hc.1, tv_and, Bool.and_eq_true] at ht
      refine hs _ List.mem_cons_self p fun x hx => ?_
      rcases List.mem_append.1 hx with hx | hx
      · exact hl x (List.mem_of_mem_erase hx)
      · rw [ea, eb] at hx
        simp at hx
        rcases hx with rfl | rfl
        · exact ht.1
        · exact ht.2
    · cases h
  | andR =>
    simp only [prem] at h
    split at h
    · rename_i hc
      cases h
      obtain ⟨a, b, e, ea, eb, -, -⟩ := fine_two_of hf (Or.inl hc.1)
      obtain ⟨x, hx, hxt⟩ := hs _ List.mem_cons_self p hl
      obtain ⟨y, hy, hyt⟩ := hs _ (List.mem_cons_of_mem _ List.mem_cons_self) p hl
      rcases List.mem_append.1 hx with hx | hx
      · exact ⟨x, List.mem_of_mem_erase hx, hxt⟩
      · rcases List.mem_append.1 hy with hy | hy
        · exact ⟨y, List.mem_of_mem_erase hy, hyt⟩
        · simp at hx hy
          refine ⟨f, hc.2, ?_⟩
          rw [e, hc.1, tv_and, ← ea, ← eb, ← hx, ← hy, hxt, hyt]
          rfl
    · cases h
  | orL =>
    simp only [prem] at h
    split at h
    · rename_i hc
      cases h
      obtain ⟨a, b, e, ea, eb, -, -⟩ := fine_two_of hf (Or.inr (Or.inl hc.1))
      have ht := hl f hc.2
      rw [e, hc.1, tv_or, Bool.or_eq_true] at ht
      rcases ht with ht | ht
      · refine hs _ List.mem_cons_self p fun x hx => ?_
        rcases List.mem_append.1 hx with hx | hx
        · exact hl x (List.mem_of_mem_erase hx)
        · rw [ea] at hx; simp at hx; rw [hx]; exact ht
      · refine hs _ (List.mem_cons_of_mem _ List.mem_cons_self) p fun x hx => ?_
        rcases List.mem_append.1 hx with hx | hx
        · exact hl x (List.mem_of_mem_erase hx)
        · rw [eb] at hx; simp at hx; rw [hx]; exact ht
    · cases h
  | thenR =>
    simp only [prem] at h
    split at h
    · rename_i hc
      cases h
      obtain ⟨a, b, e, ea, eb, -, -⟩ := fine_two_of hf (Or.inr (Or.inr hc.1))
      cases hta : tv p a
      · refine ⟨f, hc.2, ?_⟩
        rw [e, hc.1, tv_then, hta]; rfl
      · obtain ⟨x, hx, hxt⟩ := hs _ List.mem_cons_self p fun x hx => by
          rcases List.mem_append.1 hx with hx | hx
          · exact hl x hx
          · rw [ea] at hx; simp at hx; rw [hx]; exact hta
        rcases List.mem_append.1 hx with hx | hx
        · exact ⟨x, List.mem_of_mem_erase hx, hxt⟩
        · rw [eb] at hx
          simp at hx
          refine ⟨f, hc.2, ?_⟩
          rw [e, hc.1, tv_then, ← hx, hxt, Bool.or_true]
    · cases h
  | notR =>
    simp only [prem] at h
    split at h
    · rename_i hc
      cases h
      obtain ⟨a, e, ea, -⟩ := fine_one_of hf hc.1
      cases hta : tv p a
      · refine ⟨f, hc.2, ?_⟩
        rw [e, tv_not, hta]; rfl
      · obtain ⟨x, hx, hxt⟩ := hs _ List.mem_cons_self p fun x hx => by
          rcases List.mem_append.1 hx with hx | hx
          · exact hl x hx
          · rw [ea] at hx; simp at hx; rw [hx]; exact hta
        exact ⟨x, List.mem_of_mem_erase hx, hxt⟩
    · cases h
  | contrL =>
    simp only [prem] at h
    split at h
    · rename_i hc
      cases h
      refine hs _ List.mem_cons_self p fun x hx => ?_
      rcases List.mem_append.1 hx with hx | hx
      · exact hl x hx
      · simp at hx; rw [hx]; exact hl f hc
    · cases h
  | orR =>
    simp only [prem] at h
    split at h
    · rename_i hc
      cases h
      obtain ⟨a, b, e, ea, eb, -, -⟩ := fine_two_of hf (Or.inr (Or.inl hc.1))
      obtain ⟨x, hx, hxt⟩ := hs _ List.mem_cons_self p hl
      rcases List.mem_append.1 hx with hx | hx
      · exact ⟨x, List.mem_of_mem_erase hx, hxt⟩
      · rw [ea, eb] at hx
        simp at hx
        refine ⟨f, hc.2, ?_⟩
        rw [e, hc.1, tv_or]
        rcases hx with rfl | rfl
        · rw [hxt]; rfl
        · rw [hxt, Bool.or_true]
    · cases h
  | thenL =>
    simp only [prem] at h
    split at h
    · rename_i hc
      cases h
      obtain ⟨a, b, e, ea, eb, -, -⟩ := fine_two_of hf (Or.inr (Or.inr hc.1))
      have ht := hl f hc.2
      rw [e, hc.1, tv_then, Bool.or_eq_true] at ht
      have hgl : ∀ x ∈ l.erase f, tv p x = true := fun x hx => hl x (List.mem_of_mem_erase hx)
      obtain ⟨x, hx, hxt⟩ := hs _ List.mem_cons_self p hgl
      have hx' : x = a ∨ x ∈ r := by
        revert hx
        cases i
        · intro hx
          simp only [Bool.false_eq_true, if_false] at hx
          rcases List.mem_append.1 hx with h | h
          · exact Or.inr h
          · rw [ea] at h; simp at h; exact Or.inl h
        · intro hx
          simp only [if_true] at hx
          rw [ea] at hx; simp at hx; exact Or.inl hx
      rcases hx' with rfl | hx'
      · rw [hxt] at ht
        have hb : tv p b = true := by simpa using ht
        refine hs _ (List.mem_cons_of_mem _ List.mem_cons_self) p fun y hy => ?_
        rcases List.mem_append.1 hy with hy | hy
        · exact hgl y hy
        · rw [eb] at hy; simp at hy; rw [hy]; exact hb
      · exact ⟨x, hx', hxt⟩
    · cases h
  | notL =>
    simp only [prem] at h
    split at h
    · rename_i hc
      cases h
      obtain ⟨a, e, ea, -⟩ := fine_one_of hf hc.1
      have ht := hl f hc.2
      rw [e, tv_not] at ht
      obtain ⟨x, hx, hxt⟩ := hs _ List.mem_cons_self p fun x hx => hl x (List.mem_of_mem_erase hx)
      have hx' : x = a ∨ x ∈ r := by
        revert hx
        cases i
        · intro hx
          simp only [Bool.false_eq_true, if_false] at hx
          rcases List.mem_append.1 hx with h | h
          · exact Or.inr h
          · rw [ea] at h; simp at h; exact Or.inl h
        · intro hx
          simp only [if_true] at hx
          rw [ea] at hx; simp at hx; exact Or.inl hx
      rcases hx' with rfl | hx'
      · rw [hxt] at ht; cases ht
      · exact ⟨x, hx', hxt⟩
    · cases h
  | contrR =>
    simp only [prem] at h
    split at h
    · rename_i hc
      cases h
      obtain ⟨x, hx, hxt⟩ := hs _ List.mem_cons_self p hl
      rcases List.mem_append.1 hx with hx | hx
      · exact ⟨x, hx, hxt⟩
      · simp at hx; exact ⟨f, hc, by rw [← hx]; exact hxt⟩
    · cases h
  | cut =>
    simp only [prem] at h
    cases h
    obtain ⟨x, hx, hxt⟩ := hs _ List.mem_cons_self p hl
    have hx' : x = f ∨ x ∈ r := by
      revert hx
      cases i
      · intro hx
        simp only [Bool.false_eq_true, if_false] at hx
        rcases List.mem_append.1 hx with h | h
        · exact Or.inr h
        · simp at h; exact Or.inl h
      · intro hx
        simp only [if_true] at hx
        simp at hx; exact Or.inl hx
    rcases hx' with rfl | hx'
    · refine hs _ (List.mem_cons_of_mem _ List.mem_cons_self) p fun y hy => ?_
      rcases List.mem_append.1 hy with hy | hy
      · exact hl y hy
      · simp at hy; rw [hy]; exact hxt
    · exact ⟨x, hx', hxt⟩
  | orR1 =>
    simp only [prem] at h
    split at h
    · rename_i hc
      cases h
      obtain ⟨a, b, e, ea, eb, -, -⟩ := fine_two_of hf (Or.inr (Or.inl hc.1))
      obtain ⟨x, hx, hxt⟩ := hs _ List.mem_cons_self p hl
      rw [ea] at hx
      simp at hx
      refine ⟨f, hc.2, ?_⟩
      rw [e, hc.1, tv_or, ← hx, hxt]; rfl
    · cases h
  | orR2 =>
    simp only [prem] at h
    split at h
    · rename_i hc
      cases h
      obtain ⟨a, b, e, ea, eb, -, -⟩ := fine_two_of hf (Or.inr (Or.inl hc.1))
      obtain ⟨x, hx, hxt⟩ := hs _ List.mem_cons_self p hl
      rw [eb] at hx
      simp at hx
      refine ⟨f, hc.2, ?_⟩
      rw [e, hc.1, tv_or, ← hx, hxt, Bool.or_true]
    · cases h

theorem Valid.perm {l l' r r' : List Fm} (h : Valid l r) (hl : l.Perm l') (hr : r.Perm r') : Valid l' r' := fun p hp => by
  obtain ⟨g, hg, ht⟩ := h p fun f hf => hp f (hl.mem_iff.1 hf)
  exact ⟨g, hr.mem_iff.1 hg, ht⟩
theorem kidsC_zero : ∀ {ks : List Pf} {ss : List (List Fm × List Fm)}, ks.length = ss.length → kidsC ks ss = 0 → ∀ s ∈ ss, ∃ k ∈ ks, k.l.Perm s.1 ∧ k.r.Perm s.2
  | [], [], _, _, s, hs => by cases hs
  | [], _ :: _, h, _, _, _ => by cases h
  | _ :: _, [], h, _, _, _ => by cases h
  | k :: ks, s :: ss, hl, h, u, hu => by
    rw [kidsC] at h
    split at h
    · rename_i hb
      rw [Bool.and_eq_true] at hb
      rcases List.mem_cons.1 hu with rfl | hu
      · exact ⟨k, List.mem_cons_self, (isEq_perm _ _).1 hb.1, (isEq_perm _ _).1 hb.2⟩
      · obtain ⟨k', hk', hp⟩ := kidsC_zero (by simpa using hl) h u hu
        exact ⟨k', List.mem_cons_of_mem _ hk', hp⟩
    · cases h

/-- A step that is fine leads from what is valid to what is. -/
theorem step_sound (i : Bool) (p : Pf) (h : stepC i p = 0) (hk : ∀ k ∈ p.ks, Valid k.l k.r) : Valid p.l p.r := by
  obtain ⟨a, f, l, r, ks⟩ := p
  rw [stepC] at h
  split at h
  · cases h
  · split at h
    · unfold weakC at h
      split at h
      · split at h
        · rename_i k
          split at h
          · rename_i hb
            rw [Bool.and_eq_true] at hb
            intro q hq
            obtain ⟨g, hg, ht⟩ := hk k List.mem_cons_self q fun x hx => hq x (within_sub hb.1 x hx)
            exact ⟨g, within_sub hb.2 g hg, ht⟩
          · cases h
        · cases h
      · cases h
    · split at h
      · cases h
      · rename_i q hq
        split at h
        · cases h
        · rename_i hp
          split at h
          · cases h
          · rename_i ss hss
            split at h
            · cases h
            · rename_i hlen
              have hp0 : f.pcode.1 = 0 := Classical.byContradiction fun e => hp e
              have hlen' : ks.length = ss.length := Classical.byContradiction fun e => hlen e
              obtain ⟨⟨sz, hsz⟩, -⟩ := pcode_ok hp0
              refine prem_sound i q (fine_of_chk f 0 sz hsz) hss fun s hs => ?_
              obtain ⟨k, hkm, h1, h2⟩ := kidsC_zero hlen' h s hs
              exact (hk k hkm).perm h1 h2

mutual
theorem look_sound (i : Bool) : ∀ (p : Pf) (d s c : Nat), (look i p d s c).1.1 = 0 → Valid p.l p.r
  | .mk a f l r ks, d, s, c, h => by
    rw [look] at h
    split at h
    · cases h
    · split at h
      · rename_i hs
        exact absurd h hs
      · rename_i hs
        have hs' : stepC i (.mk a f l r ks) = 0 := Classical.byContradiction fun e => hs e
        exact step_sound i (.mk a f l r ks) hs' (looks_sound i ks _ _ _ h)
theorem looks_sound (i : Bool) : ∀ (ks : List Pf) (d s c : Nat), (looks i ks d s c).1.1 = 0 → ∀ k ∈ ks, Valid k.l k.r
  | [], _, _, _, _, k, hk => by cases hk
  | k :: ks, d, s, c, h, u, hu => by
    rw [looks] at h
    split at h
    · rename_i hn
      exact absurd h hn
    · rename_i hn
      have hn' : (look i k d s c).1.1 = 0 := Classical.byContradiction fun e => hn e
      rcases List.mem_cons.1 hu with e | hu
      · rw [e]
        exact look_sound i k d s c hn'
      · exact looks_sound i ks _ _ _ h u hu
end
end Go.Proofs.Ytknngeojhiejnab
