/- Texts of one proof, one behind the other: SB6, SB7. -/
import Derived.Test.YtlmjnglcdgkomahB16
import Derived.Test.YtlmjnglcdgkomahB11
import Derived.Maps.OwnSet
import Derived.Maps.OwnOps
import Derived.DeepKeys4
/- Walks: numbers given out in the order in which keys come first (numberOf), for texts and for what worlds see. -/
namespace Go.Proofs.Ytlmjnglcdgkomah
open Go.RowKit Go.Maps Go.WideMaps

/-- Where a key stands. -/
def ixK {α : Type} [DecidableEq α] (l : List α) (k : α) : Nat := l.idxOf k
/-- Keys and their numbers, in a map. -/
def NuM {α : Type} [DecidableEq α] (kt : TypeId) (key : α → Lit) (Ok : α → Prop) (w : World) (b : Nat) (l : List α) : Prop := ∃ (n : Nat) (D : DataW Unit), w.ownsMap Try.prog kt (plainElem Try.prog 3) b n D ∧ n ≤ l.length ∧ Maps.size D = l.length ∧ (∀ s, Ok s → Maps.has D (key s) = decide (s ∈ l)) ∧ (∀ s, s ∈ l → Ok s) ∧ ∀ s, s ∈ l → ∀ z, D.atKey (key s) z = .lit (.int .i64 (ixK l s : Nat))
theorem NuM.nil {α : Type} [DecidableEq α] {kt : TypeId} {key : α → Lit} {Ok : α → Prop} {w : World} : NuM kt key Ok (w.alloc (.map #[] 0)) w.heap.size [] :=
  ⟨0, .map [], World.ownsMap_made _ _ _ _, Nat.le_refl _, rfl, fun s _ => by simp [has_eq], fun s h => (by cases h), fun s h => (by cases h)⟩
theorem NuM.snoc {α : Type} [DecidableEq α] {kt : TypeId} {key : α → Lit} {Ok : α → Prop} (hinj : ∀ a b, Ok a → Ok b → key a = key b → a = b) (hlit : ∀ a, WideAt.IsKeyLit (key a)) {w' : World} {b : Nat} {l : List α} {t : α} {n : Nat} {D : DataW Unit} (ht : Ok t) (htl : t ∉ l) (hn : n ≤ l.length) (hD : Tidy D) (hM : IsMap D) (h0 : Maps.size D = l.length) (h1 : ∀ s, Ok s → Maps.has D (key s) = decide (s ∈ l)) (h2 : ∀ s, s ∈ l → Ok s) (h3 : ∀ s, s ∈ l → ∀ z, D.atKey (key s) z = .lit (.int .i64 (ixK l s : Nat)))
    (h : w'.ownsMap Try.prog kt (plainElem Try.prog 3) b (n + 1) (D.put (key t) (.lit (.int .i64 (l.length : Nat))))) : NuM kt key Ok w' b (l ++ [t]) := by
  (refine ⟨n + 1, _, h, by simp; omega, ?_, fun s hs => ?_, fun s hs => ?_, fun s hs z => ?_⟩)
  · rw [Go.Maps.size_put hD, h1 t ht, decide_eq_false htl]
    simp [h0]
  · by_cases e : s = t
    · subst e; rw [has_put_same hM (hlit _)]; simp
    · rw [has_put_other (fun h => e (by first | exact hinj _ _ hs ht h | exact (hinj _ _ ht hs h).symm)), h1 s hs]; simp [e]
  · rcases List.mem_append.1 hs with h4 | h4
    · exact h2 s h4
    · simp at h4; rw [h4]; exact ht
  · by_cases e : s = t
    · subst e
      rw [atKey_put_same hM (hlit _) _ z, ixK, idxOf_new htl]
    · have hs' : s ∈ l := by simpa [e] using hs
      (rw [atKey_put_other (fun h => e (by first | exact hinj _ _ (h2 s hs') ht h | exact (hinj _ _ ht (h2 s hs') h).symm)), h3 s hs' z, ixK, ixK, idxOf_pre hs'])
theorem NuM.same {α : Type} [DecidableEq α] {kt : TypeId} {key : α → Lit} {Ok : α → Prop} {w w' : World} {b : Nat} {l : List α} (h : NuM kt key Ok w b l) (e : w'.heap[b]? = w.heap[b]?) : NuM kt key Ok w' b l := by
  obtain ⟨n, D, ⟨es, clock, hb, r⟩, r2⟩ := h; exact ⟨n, D, ⟨es, clock, e.trans hb, r⟩, r2⟩
theorem NuM.lt {α : Type} [DecidableEq α] {kt : TypeId} {key : α → Lit} {Ok : α → Prop} {w : World} {b : Nat} {l : List α} (h : NuM kt key Ok w b l) : b < w.heap.size := by
  obtain ⟨n, D, ⟨es, clock, hb, r⟩, r2⟩ := h; exact lt_of_block hb
/-- The number that a key has or gets. -/
def nuK {α : Type} [DecidableEq α] (l : List α) (k : α) : Nat := if k ∈ l then ixK l k else l.length
theorem extK_one {α : Type} [DecidableEq α] (l : List α) (k : α) : extK l [k] = if k ∈ l then l else l ++ [k] := rfl
/-- Look-ups in such a map. -/
theorem NuM.look {α : Type} [DecidableEq α] {kt mt : TypeId} {key : α → Lit} {Ok : α → Prop} (K : Keyed Try.prog kt) (hmt : Try.prog.underlying mt = some (.map kt 3)) {w : World} {b : Nat} {l : List α} (h : NuM kt key Ok w b l) {k : α} (hk : Ok k) {kv : Value} (hkey : keyOf Try.prog kt kv = some (key k)) :
    ∃ (c : Int) (d : Bool), (k ∈ l → c = (ixK l k : Nat) ∧ d = true) ∧ (k ∉ l → d = false) ∧ ∀ x, (Instr.lookup mt (.map (some b)) kv true).run Try.prog (w.drewN x) = .ok (.tuple #[.int .i64 c, .bool d]) (w.drewN x) := by
  obtain ⟨nn, D, hmap, -, -, hh1, -, hh3⟩ := h
  have look : ∀ x, ∃ c, (Instr.lookup mt (.map (some b)) kv true).run Try.prog (w.drewN x) = .ok (.tuple #[.int .i64 c, .bool (Maps.has D (key k))]) (w.drewN x) ∧ D.atKey (key k) (.lit (.int .i64 0)) = .lit (.int .i64 c) ∧ (Lit.int .i64 c).wf = true := fun x => by
    have hm : (w.drewN x).ownsMap Try.prog kt (plainElem Try.prog 3) b nn D := hmap; (obtain ⟨v, pl, hrun, hv⟩ := hm.look_ok K hmt (zeroInt _) (plainElem_int Try.underlying3 (WalkArith.wf_i64 (by omega))) hkey); obtain ⟨c, rfl, hz, hw⟩ := plainElem_int_inv Try.underlying3 hv; (exact ⟨c, hrun, by injection hz, hw⟩)
  obtain ⟨c, -, hat, hcw⟩ := look 0; (refine ⟨c, Maps.has D (key k), fun hin => ⟨?_, by rw [hh1 k hk]; exact decide_eq_true hin⟩, fun hin => by rw [hh1 k hk]; exact decide_eq_false hin, fun x => ?_⟩)
  · have h1 := (hh3 k hin (.lit (.int .i64 0))).symm.trans hat
    exact (Lit.int.inj (DataW.lit.inj h1)).2.symm
  · obtain ⟨c', hrun, hat', -⟩ := look x
    rw [hat] at hat'; have : c = c' := (Lit.int.inj (DataW.lit.inj hat')).2; rw [this]; exact hrun
theorem kept_reflS (ok : Nat → Prop) (w : World) : Kept ok w w := ⟨rfl, rfl, rfl, Nat.le_refl _, fun _ _ _ => rfl⟩
theorem kept_grownS {w w' : World} {b : Nat} (h : w.grownBy w' (some b)) : Kept (fun x => x ≠ b) w w' := ⟨h.os, h.tape, h.output, h.size, fun x hx hn => h.block x hx fun e => hn (Option.some.inj e)⟩
def OkT (t : List UInt8) : Prop := t.length ≤ maxLen
abbrev NuT (w : World) (b : Nat) (l : List (List UInt8)) : Prop := NuM 9 (fun t => Lit.string t) OkT w b l
set_option maxRecDepth 10000 in
set_option maxHeartbeats 4000000 in
theorem numberT_any (k : List UInt8) (hk : k.length ≤ 1000) (b : Nat) (l : List (List UInt8)) (hl : l.length ≤ 1000) (w : World) (h : NuT w b l) :
    Calls Try.prog 111 #[.string ⟨k.toArray⟩, .map (some b)] w fun e w' => e = .returned (.int .i64 (nuK l k : Nat)) ∧ NuT w' b (extK l [k]) ∧ Kept (fun x => x ≠ b) w w' := by
  (have hok : OkT k := by unfold OkT maxLen; omega); have hkey := keyStr k hok; obtain ⟨c, d, hci, hcn, hlk⟩ := NuM.look strKeyed Try.underlying159 h hok hkey; have hlk0 : (Instr.lookup 159 (.map (some b)) (.string ⟨k.toArray⟩) true).run Try.prog w = .ok (.tuple #[.int .i64 c, .bool d]) w := hlk 0; obtain ⟨n, D, hown, hn, hsz, hh1, hh2, hh3⟩ := h; have HM : Hid (NuT w b l) := ⟨n, D, hown, hn, hsz, hh1, hh2, hh3⟩; (have HN : Hid (k ∉ l → ∀ w', w'.ownsMap Try.prog 9 (plainElem Try.prog 3) b (n + 1) (D.put (.string k) (.lit (.int .i64 (l.length : Nat)))) → NuT w' b (l ++ [k])) := fun hnl w' hw' => NuM.snoc (key := fun t => Lit.string t) (fun a b _ _ e => by injection e) (fun a => by first | trivial | exact True.intro | simp [WideAt.IsKeyLit]) hok hnl hn (hown.tidy strKeyed) hown.isMap hsz hh1 hh2 hh3 hw'); (have hnm : n < maxLen := by unfold maxLen; omega); generalize (⟨k.toArray⟩ : ByteArray) = T at *; clear hlk hh1 hh2 hh3
  go_enter Try.func111, Try.ntmps111
  by_cases hin : k ∈ l
  · obtain ⟨rfl, rfl⟩ := hci hin
    (have HR : Hid (nuK l k = ixK l k) := by show _ = _; rw [nuK, if_pos hin]); (have HE : Hid (extK l [k] = l) := by show _ = _; rw [extK_one, if_pos hin]); clear hci hcn hin hown hkey hsz; go_wp2_with fail; go_ret; (exact ⟨by rw [HR.out]; rfl, by rw [HE.out]; exact HM.out, kept_reflS _ _⟩)
  · have hd := hcn hin
    subst hd; (have HR : Hid (nuK l k = l.length) := by show _ = _; rw [nuK, if_neg hin]); (have HE : Hid (extK l [k] = l ++ [k]) := by show _ = _; rw [extK_one, if_neg hin]); have HN2 := HN.out hin; clear hci hcn hin
    go_wp2_with (first
      | (at_len; refine wpList_len_own _ rfl _ 159 rfl 9 3 Try.underlying159 _ b n D rfl hown ?_; rw [hsz])
      | (at_mapUpdate
         (refine wpList_mapUpdate_own _ rfl _ _ _ 159 rfl 9 3 strKeyed Try.underlying159 _ b n _ rfl hown hnm _ _ _ rfl rfl hkey _ [] (plainElem_int Try.underlying3 (WalkArith.wf_i64 (by omega))) ?_); intro w1 hown1 hgrow1; have HR1 : Hid (NuT w1 b (l ++ [k])) := HN2 _ hown1; have HG1 : Hid (w.grownBy w1 (some b)) := hgrow1
         clear hown1 hgrow1)
      | fail)
    go_ret; (exact ⟨by rw [HR.out]; rfl, by rw [HE.out]; exact HR1.out, kept_grownS HG1.out⟩)
end Go.Proofs.Ytlmjnglcdgkomah
/- Walks: numbers of what parts worlds (numberOf at sights). -/
namespace Go.Proofs.Ytlmjnglcdgkomah
open Go.RowKit Go.Maps Go.WideMaps

theorem laidS : laidOutB Try.prog = true := by kernel_rfl
theorem sightLaw : Keyed Try.prog 165 := Keyed.of_law (deep_law_laid laidS (m := 3) (by omega) (of_decide_eq_true (by kernel_rfl)) (by kernel_rfl) (by kernel_rfl))
def sightLits (p : Nat × Nat) : List Lit := [.int .i64 (p.1 : Nat), .int .u64 (p.2 : Nat)]
def sightKey (p : Nat × Nat) : Lit := .string (keyBytes (sightLits p))
def OkS2 (p : Nat × Nat) : Prop := p.1 < 1099511627776 ∧ p.2 < 1099511627776
theorem wf_u64n {n : Nat} (h : n < 1099511627776) : (Lit.int .u64 (n : Nat)).wf = true := WalkArith.wf_u64 (by omega)
theorem keySight (p : Nat × Nat) (h : OkS2 p) : keyOf Try.prog 165 (.agg #[.int .i64 (p.1 : Nat), .int .u64 (p.2 : Nat)]) = some (sightKey p) := by
  obtain ⟨c, s⟩ := p; (have hc : (Lit.int .i64 (c : Nat)).wf = true := WalkArith.wf_i64 (by have := h.1; simp only at this; omega)); have hs : (Lit.int .u64 (s : Nat)).wf = true := wf_u64n h.2; (have h1 : Try.prog.keyType 165 = true := by kernel_rfl); (have h2 : (Value.agg #[.int .i64 (c : Nat), .int .u64 (s : Nat)]).formed Try.prog 165 = true := by kernel_rfl); (obtain ⟨d, hd⟩ : ∃ d, Try.prog.types.size = d + 2 := ⟨Try.prog.types.size - 2, by kernel_rfl⟩); unfold keyOf; rw [Try.underlying165]; simp only [h1, h2, hd]; (have c1 : Try.prog.cellsOf 3 = 1 := by kernel_rfl); (have c2 : Try.prog.cellsOf 71 = 1 := by kernel_rfl); (have c4 : Try.prog.cellsOf 165 = 2 := by kernel_rfl); simp [Program.keyLits, Value.cells, sightLits, sightKey, Try.underlying165, Try.underlying3, Try.underlying71, c1, c2, c4, hc, hs]
theorem sightKey_inj (p q : Nat × Nat) (hp : OkS2 p) (hq : OkS2 q) (e : sightKey p = sightKey q) : p = q := by
  (have e' : keyBytes (sightLits p) = keyBytes (sightLits q) := by unfold sightKey at e; injection e)
  have h := keyBytes_inj (l := sightLits p) (l' := sightLits q) ⟨rfl, rfl, trivial⟩ (by
    intro x hx; simp [sightLits] at hx
    rcases hx with rfl | rfl
    · exact WalkArith.wf_i64 (by have := hp.1; omega)
    · exact wf_u64n hp.2) (by
    intro x hx; simp [sightLits] at hx
    rcases hx with rfl | rfl
    · exact WalkArith.wf_i64 (by have := hq.1; omega)
    · exact wf_u64n hq.2) e'
  simp only [sightLits, List.cons.injEq, Lit.int.injEq, true_and, and_true] at h; (exact Prod.ext (by exact_mod_cast h.1) (by exact_mod_cast h.2))
abbrev NuS (w : World) (b : Nat) (l : List (Nat × Nat)) : Prop := NuM 165 sightKey OkS2 w b l
set_option maxRecDepth 10000 in
set_option maxHeartbeats 4000000 in
theorem numberS_any (p : Nat × Nat) (hok : OkS2 p) (b : Nat) (l : List (Nat × Nat)) (hl : l.length ≤ 1000) (w : World) (h0 : NuS w b l) :
    Calls Try.prog 113 #[.agg #[.int .i64 (p.1 : Nat), .int .u64 (p.2 : Nat)], .map (some b)] w fun e w' => e = .returned (.int .i64 (nuK l p : Nat)) ∧ NuS w' b (extK l [p]) ∧ Kept (fun x => x ≠ b) w w' := by
  have hkey := keySight p hok; obtain ⟨X, hX⟩ : ∃ X, X = w.alloc (.cells #[.int .i64 (p.1 : Nat), .int .u64 (p.2 : Nat)] 165 (0, 0)) := ⟨_, rfl⟩; (have hxb : X.heap[w.heap.size]? = some (.cells #[.int .i64 (p.1 : Nat), .int .u64 (p.2 : Nat)] 165 (0, 0)) := by rw [hX]; exact blk_new _ _); (have h : NuS X b l := NuM.same h0 (by rw [hX]; exact Below.heap_alloc _ _ _ (NuM.lt h0))); have hbn : b ≠ w.heap.size := Nat.ne_of_lt (NuM.lt h0); (have HB : Hid (Below w.heap.size w X) := by rw [hX]; exact below_more (Below.refl _ w) _); have HXe : Hid (w.alloc (.cells #[.int .i64 (p.1 : Nat), .int .u64 (p.2 : Nat)] 165 (0, 0)) = X) := hX.symm; have hlB : b < X.heap.size := NuM.lt h; obtain ⟨g0, g1, -⟩ := blk2 hxb; obtain ⟨c, d, hci, hcn, hlk⟩ := NuM.look sightLaw Try.underlying162 h hok hkey; have hlk0 : (Instr.lookup 162 (.map (some b)) (.agg #[.int .i64 (p.1 : Nat), .int .u64 (p.2 : Nat)]) true).run Try.prog X = .ok (.tuple #[.int .i64 c, .bool d]) X := hlk 0; obtain ⟨n, D, hown, hn, hsz, hh1, hh2, hh3⟩ := h; have HM : Hid (NuS X b l) := ⟨n, D, hown, hn, hsz, hh1, hh2, hh3⟩; (have HN : Hid (p ∉ l → ∀ w', w'.ownsMap Try.prog 165 (plainElem Try.prog 3) b (n + 1) (D.put (sightKey p) (.lit (.int .i64 (l.length : Nat)))) → NuS w' b (l ++ [p])) := fun hnl w' hw' => NuM.snoc (key := sightKey) sightKey_inj (fun a => by unfold sightKey; first | trivial | exact True.intro | simp [WideAt.IsKeyLit]) hok hnl hn (hown.tidy sightLaw) hown.isMap hsz hh1 hh2 hh3 hw'); (have hnm : n < maxLen := by unfold maxLen; omega); have HBn : Hid (b ≠ w.heap.size) := hbn; clear hX hlk hh1 hh2 hh3 h0 hxb hbn
  go_enter Try.func113, Try.ntmps113
  go_upto_region 1 with fail
  rw [HXe.out]; by_cases hin : p ∈ l
  · obtain ⟨rfl, rfl⟩ := hci hin
    (have HR : Hid (nuK l p = ixK l p) := by show _ = _; rw [nuK, if_pos hin]); (have HE : Hid (extK l [p] = l) := by show _ = _; rw [extK_one, if_pos hin]); clear hci hcn hin hown hkey hsz; go_wp2_with fail; go_ret; (exact ⟨by rw [HR.out]; rfl, by rw [HE.out]; exact HM.out, kept_of_below HB.out fun _ h _ => h⟩)
  · have hd := hcn hin
    subst hd; (have HR : Hid (nuK l p = l.length) := by show _ = _; rw [nuK, if_neg hin]); (have HE : Hid (extK l [p] = l ++ [p]) := by show _ = _; rw [extK_one, if_neg hin]); have HN2 := HN.out hin; clear hci hcn hin
    go_wp2_with (first
      | (at_len; refine wpList_len_own _ rfl _ 162 rfl 165 3 Try.underlying162 _ b n D rfl hown ?_; rw [hsz])
      | (at_mapUpdate
         (refine wpList_mapUpdate_own _ rfl _ _ _ 162 rfl 165 3 sightLaw Try.underlying162 _ b n _ rfl hown hnm _ _ _ rfl rfl hkey _ [] (plainElem_int Try.underlying3 (WalkArith.wf_i64 (by omega))) ?_); intro w1 hown1 hgrow1; have HR1 : Hid (NuS w1 b (l ++ [p])) := HN2 _ hown1; have HG1 : Hid (X.grownBy w1 (some b)) := hgrow1
         clear hown1 hgrow1)
      | fail)
    go_ret; (refine ⟨by rw [HR.out]; rfl, by rw [HE.out]; exact HR1.out, ?_⟩); (have h1 : Kept (fun x => x ≠ b) X w1 := kept_grownS HG1.out); (exact ⟨h1.os.trans HB.out.os, h1.tape.trans HB.out.tape, h1.output.trans HB.out.output, Nat.le_trans HB.out.size h1.size, fun x hx hn => (h1.block x (Nat.lt_of_lt_of_le hx HB.out.size) hn).trans (HB.out.block x hx)⟩)
end Go.Proofs.Ytlmjnglcdgkomah
