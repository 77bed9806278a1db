/- Texts of one proof, one behind the other: SP2. -/
import Derived.Test.YtblodnpfckflaakB38
import Derived.Test.YtblodnpfckflaakB19
/- Walks: nodesOfWords, nodesOf and Count of the yardstick: how many nodes they list. (gen/sp2.py) -/
namespace Go.Proofs.Ytblodnpfckflaak
open Go.RowKit Go.Sort

theorem infoRn : ∃ i, Try.prog.info? 71 = some i ∧ i.zero = some (.agg #[.int .i64 0, .string ⟨#[]⟩, .slice none 0 0, .slice none 0 0, .string ⟨#[]⟩, .slice none 0 0, .bool false]) ∧ i.size = 7 ∧ i.bytes = 120 := by
  (obtain ⟨i, hi, h⟩ := Option.map_eq_some_iff.1 (show (Try.prog.info? 71).map (fun i => (i.zero, i.size, i.bytes)) = some (some (.agg #[.int .i64 0, .string ⟨#[]⟩, .slice none 0 0, .slice none 0 0, .string ⟨#[]⟩, .slice none 0 0, .bool false]), 7, 120) by kernel_rfl)); simp only [Prod.mk.injEq] at h; exact ⟨i, hi, h.1, h.2.1, h.2.2⟩
/-- Cells that each are one. -/
def Ones (cs : List Value) : Prop := ∀ u ∈ cs, u.oneCell' = true
theorem Ones.app {a b : List Value} (h : Ones a) (k : Ones b) : Ones (a ++ b) := by
  intro u hu
  rcases List.mem_append.1 hu with h1 | h1
  · exact h u h1
  · exact k u h1
/-- What a list of nodes is known by: its length. -/
def NdEnd (B : Nat) (w : World) (sz most : Nat) (e : Ending) (w' : World) : Prop := ∃ n ad cp cs, n = min sz most ∧ e = .returned (.slice ad n cp) ∧ w'.ownsRow B 71 7 (.slice ad n cp) n cs ∧ Ones cs ∧ Below B w w'
theorem wsizes_appS (a b : List Wd) : Wd.sizes (a ++ b) = Wd.sizes a + Wd.sizes b := by
  induction a with
  | nil => simp [Wd.sizes]
  | cons x xs ih => simp [Wd.sizes, ih]; omega
theorem esizes_app (a b : List Ex) : Ex.sizes (a ++ b) = Ex.sizes a + Ex.sizes b := by
  induction a with
  | nil => simp [Ex.sizes]
  | cons x xs ih => simp [Ex.sizes, ih]; omega
theorem take_snocG {α : Type} {l : List α} {i : Nat} {x : α} (h : l[i]? = some x) : l.take (i + 1) = l.take i ++ [x] := by
  rw [List.take_add_one, h]; rfl

def NdW (m : Nat) : Prop := ∀ (l : List Wd) (v : Value) (most : Nat) (w0 w : World), Wd.sizes l < m → WL w0 v l → Below w0.heap.size w0 w → most ≤ 100001 →
  Calls Try.prog 30 #[v, .int .i64 ((most : Int) - 1)] w fun e w' => NdEnd w.heap.size w (Wd.sizes l) most e w'

set_option maxRecDepth 10000 in
set_option maxHeartbeats 4000000 in
theorem ndw_step (m : Nat) (ih : NdW m) : NdW (m + 1) := by
  intro l v most w0 w hm hv hb0 hmo; have HX : Hid (WL w0 v l) := hv; have HB0 : Hid (Below w0.heap.size w0 w) := hb0; obtain ⟨sl, cap, rfl, hx2, hx3, -⟩ := hv; (have hlI : ((l.length : Nat) : Int) ≤ 9223372036854775807 := by unfold maxLen at hx3; omega); (have hcI : (l.length : Int) ≤ (cap : Int) := by omega); (have hmI : (most : Int) ≤ 100001 := by omega); have HMo : Hid (most ≤ 100001 ∧ Wd.sizes l < m + 1) := ⟨hmo, hm⟩; obtain ⟨i0, hi0, hz0, hz1, hz2⟩ := infoRn; clear hb0 hx2 hx3 hm hmo
  go_enter Try.func30, Try.ntmps30
  go_wp2_with fail
  go_loopg [6, 5] l.length (fun gg cc x wr => ∃ i n ad cp cs, i ≤ l.length ∧ gg = l.length - i ∧ cc = .int .i64 (i : Nat) ∧ x = .slice ad n cp ∧ Hid (n = min (Wd.sizes (l.take i)) most) ∧ Hid (wr.ownsRow w.heap.size 71 7 (.slice ad n cp) n cs) ∧ Hid (Ones cs) ∧ Hid (Below w.heap.size w wr))
  case atStart => exact ⟨0, 0, none, 0, [], by omega, by omega, rfl, rfl, by show 0 = _; simp [Wd.sizes], ⟨rfl, Or.inl ⟨rfl, rfl⟩⟩, (by intro u hu; simp at hu), Below.refl _ _⟩
  case round =>
    obtain ⟨i, n, ad, cp, cs, hi, hg, rfl, rfl, HN, HO, HQ, HB⟩ := hrel; have HGk : Hid (gk = l.length - i) := hg; clear hg; (have hnI : (n : Int) ≤ (most : Int) := by have := HN.out; omega); by_cases hlt : i < l.length
    · obtain ⟨⟨n2, ar2⟩, hki⟩ : ∃ f, l[i]? = some f := ⟨_, List.getElem?_eq_getElem hlt⟩
      (have hlt2 : (i : Int) < (l.length : Int) := by omega)
      have hsn : Wd.sizes (l.take (i + 1)) = Wd.sizes (l.take i) + (Wd.sizes ar2 + 1) := by
        rw [take_snocG hki, wsizes_appS]; simp [Wd.sizes, Wd.size]
      have hst2 : Wd.sizes (l.take (i + 1)) ≤ Wd.sizes l := by
        have := wsizes_appS (l.take (i + 1)) (l.drop (i + 1)); rw [List.take_append_drop] at this; omega
      have HI : Hid (i < l.length) := hlt; by_cases hnm : n < most
      · obtain ⟨b, off, sl2, cap2, rfl, y0, y1, hr⟩ := HX.out.at i n2 ar2 hki
        have HBw : Hid (Below w0.heap.size w0 wr) := below_join HB0.out HB.out; have x0 := (HBw.out.cell (lt_of_cell y0)).trans y0; have x1 := (HBw.out.cell (lt_of_cell y1)).trans y1; have HCe : Hid (w0.cell? ⟨b, off + i * 2 + 1, none⟩ = some (.slice sl2 ar2.length cap2)) := y1; (have HN2 : Hid (n = Wd.sizes (l.take i)) := by show _ = _; have := HN.out; omega); (have HSn : Hid (Wd.sizes (l.take (i + 1)) = n + 1 + Wd.sizes ar2 ∧ n + 1 + Wd.sizes ar2 ≤ Wd.sizes l) := by have := HN2.out; exact ⟨by omega, by omega⟩); (obtain ⟨md, hmd⟩ : ∃ md : Nat, md + (n + 1) = most := ⟨most - (n + 1), by omega⟩); have HMd : Hid (md + (n + 1) = most) := hmd; (have HRec : Hid (∀ W, Below w0.heap.size w0 W → Calls Try.prog 30 #[.slice sl2 ar2.length cap2, .int .i64 ((md : Int) - 1)] W _) := fun W hW => ih ar2 _ md w0 W (by have := HSn.out; have := HMo.out; omega) hr.args.2.2.2 hW (by have := HMo.out; omega)); (have hsub : (most : Int) - 1 - ((n : Int) + 1) = (md : Int) - 1 := by omega); (have hnI2 : (n : Int) ≤ (most : Int) - 1 := by omega); (have hnI3 : (n : Int) ≤ 100001 := by omega); clear hki y0 y1 hr hlt hi hsn hst2 hmd hnm hnI
        go_wp2_with (first
          | (at_builtin
             have hown := rowM_up HO.out ((Below.refl _ wr).alloc (Nat.le_refl _) (.cells #[.int .i64 0, .string ⟨#[]⟩, .slice none 0 0, .slice none 0 0, .string n2, .slice sl2 ar2.length cap2, .bool true] 71 (0, 0))); have hbs := HB.out.size; (refine wpList_appG rfl _ _ 48 rfl w.heap.size 71 i0 (.agg #[.int .i64 0, .string ⟨#[]⟩, .slice none 0 0, .slice none 0 0, .string ⟨#[]⟩, .slice none 0 0, .bool false]) 7 120 Try.underlying48 hi0 hz0 hz1 hz2 rfl (by decide) ad n cp cs rfl hown (some ⟨wr.heap.size, 0, none⟩) 1 1 [.int .i64 0, .string ⟨#[]⟩, .slice none 0 0, .slice none 0 0, .string n2, .slice sl2 ar2.length cap2, .bool true] rfl rfl (fun _ => ⟨wr.heap.size, 0, rfl, fun j u hu => ?_⟩) ?_ (by unfold maxLen; omega) (by omega) (by simp; omega) ?_)
             · rw [Nat.zero_add, blk_cell (blk_new wr _)]
               simpa using hu
             · intro u hu
               simp at hu
               rcases hu with rfl | rfl | rfl | rfl | rfl | rfl | rfl <;> rfl
             intro ad3 cp3 w3 hown3 hk3; have HO3 : Hid (w3.ownsRow w.heap.size 71 7 (.slice ad3 (n + 1) cp3) (n + 1) (cs ++ [.int .i64 0, .string ⟨#[]⟩, .slice none 0 0, .slice none 0 0, .string n2, .slice sl2 ar2.length cap2, .bool true])) := hown3; (have HB3 : Hid (Below w.heap.size w w3) := kept_row (HB.out.alloc hbs _) (by simp; omega) hown hk3); have z3 := ((below_join HB0.out HB3.out).cell (lt_of_cell HCe.out)).trans HCe.out
             clear hown hown3 hk3 hbs x0 x1)
          | fail)
        refine (HRec.out w3 (below_join HB0.out HB3.out)).mono ?_; rintro _ w4 ⟨S2, ad4, cp4, ds, hS2, rfl, ho4, hq4, hb4⟩; have HS2 : Hid (S2 = min (Wd.sizes ar2) md) := hS2; have HO4 : Hid (w4.ownsRow w3.heap.size 71 7 (.slice ad4 S2 cp4) S2 ds) := ho4; have HQ4 : Hid (Ones ds) := hq4; have HB4 : Hid (Below w.heap.size w w4) := below_join HB3.out hb4; have HO5 : Hid (w4.ownsRow w.heap.size 71 7 (.slice ad3 (n + 1) cp3) (n + 1) (cs ++ [.int .i64 0, .string ⟨#[]⟩, .slice none 0 0, .slice none 0 0, .string n2, .slice sl2 ar2.length cap2, .bool true])) := rowM_up HO3.out hb4; clear ho4 hq4 hb4 z3 hS2
        go_wp2_with (first
          | (at_builtin
             have hbs := HB4.out.size; have hso := HS2.out; have hmd := HMd.out; (refine wpList_appG rfl _ _ 48 rfl w.heap.size 71 i0 (.agg #[.int .i64 0, .string ⟨#[]⟩, .slice none 0 0, .slice none 0 0, .string ⟨#[]⟩, .slice none 0 0, .bool false]) 7 120 Try.underlying48 hi0 hz0 hz1 hz2 rfl (by decide) ad3 (n + 1) cp3 _ rfl HO5.out ad4 S2 cp4 ds rfl HO4.out.1 (fun hpos => ?_) HQ4.out (by unfold maxLen; omega) (by omega) hbs ?_)
             · obtain ⟨g, rfl, hc⟩ := rowM_cells HO4.out hpos
               exact ⟨g, 0, rfl, hc⟩
             intro ad5 cp5 w5 hown5 hk5; have HO6 : Hid (w5.ownsRow w.heap.size 71 7 (.slice ad5 (n + 1 + S2) cp5) (n + 1 + S2) ((cs ++ [.int .i64 0, .string ⟨#[]⟩, .slice none 0 0, .slice none 0 0, .string n2, .slice sl2 ar2.length cap2, .bool true]) ++ ds)) := hown5; have HB6 : Hid (Below w.heap.size w w5) := kept_row HB4.out hbs HO5.out hk5
             clear hown5 hk5 hbs hso hmd)
          | fail)
        go_roundg (l.length - (i + 1))
        case measure => have := HGk.out; have := HI.out; omega
        case rel =>
          (refine ⟨i + 1, n + 1 + S2, ad5, cp5, (cs ++ [.int .i64 0, .string ⟨#[]⟩, .slice none 0 0, .slice none 0 0, .string n2, .slice sl2 ar2.length cap2, .bool true]) ++ ds, HI.out, rfl, by go_num, rfl, ?_, HO6, ?_, HB6⟩)
          · show _ = _
            have := HSn.out; have := HS2.out; have := HMd.out; omega
          · refine (HQ.out.app ?_).app HQ4.out
            intro u hu; simp at hu
            rcases hu with rfl | rfl | rfl | rfl | rfl | rfl | rfl <;> rfl
      · have hnI2 : ¬ (n : Int) ≤ (most : Int) - 1 := by omega
        (have HE : Hid (n = min (Wd.sizes l) most) := by show _ = _; have := HN.out; omega); clear hki hlt hi hsn hst2 hnm hnI; go_wp2_with fail; go_ret; exact ⟨n, ad, cp, cs, HE.out, rfl, HO.out, HQ.out, HB.out⟩
    · have hii : l.length = i := by omega
      subst hii; (have hge : ¬ (l.length : Int) < (l.length : Int) := by omega); clear hlt hi hnI; go_wp2_with fail; go_ret; have h1 := HN.out; rw [List.take_length] at h1; exact ⟨n, ad, cp, cs, h1, rfl, HO.out, HQ.out, HB.out⟩
theorem ndw_all : ∀ m, NdW m
  | 0 => fun _ _ _ _ _ h => absurd h (Nat.not_lt_zero _)
  | m + 1 => ndw_step m (ndw_all m)
end Go.Proofs.Ytblodnpfckflaak
