/- Texts of one proof, one behind the other: SM9. -/
import Derived.Test.YtblodnpfckflaakB25
/- Walks: eachBigName, whatever visits; hasMeanings. -/
namespace Go.Proofs.Ytblodnpfckflaak
open Go.RowKit Go.Sort Go.Maps Go.WideMaps

/-- The big names among words. -/
def bgWl : List Wd → List BgN
  | [] => []
  | .mk n ar :: l => (if isBg n.data.toList = true then [(n, false, ar.length)] else []) ++ bgWl l
theorem bgWl_app : ∀ a b : List Wd, bgWl (a ++ b) = bgWl a ++ bgWl b
  | [], b => rfl
  | .mk n ar :: a, b => by rw [List.cons_append, bgWl, bgWl, bgWl_app a b, List.append_assoc]
theorem bgWl_len : ∀ l : List Wd, (bgWl l).length ≤ l.length
  | [] => Nat.le_refl _
  | .mk n ar :: l => by
    have := bgWl_len l; rw [bgWl, List.length_append, List.length_cons]
    split <;> simp <;> omega
def bgE : Ex → List BgN
  | .mk k n ws _ => (if k = 1 then [(n, true, ws.length)] else []) ++ bgWl (prWs ws)
/-- The big names of expressions that stand in one. -/
def bgEl : List (Ex × Bd) → List BgN
  | [] => []
  | p :: l => bgE p.1 ++ bgEl l
theorem bgEl_app : ∀ a b : List (Ex × Bd), bgEl (a ++ b) = bgEl a ++ bgEl b
  | [], b => rfl
  | p :: a, b => by rw [List.cons_append, bgEl, bgEl, bgEl_app a b, List.append_assoc]
theorem bgE_len (x : Ex) : (bgE x).length ≤ Wd.sizes (exWs x) + 1 := by
  obtain ⟨k, n, ws, ks⟩ := x; have h1 := bgWl_len (prWs ws); rw [prWs_len] at h1; show (bgE (.mk k n ws ks)).length ≤ Wd.sizes ws + 1; rw [bgE, List.length_append]
  split <;> simp <;> omega
theorem bgEl_len : ∀ l : List (Ex × Bd), (bgEl l).length ≤ ownSz l
  | [] => Nat.le_refl _
  | p :: l => by
    have h1 := bgEl_len l; have h2 := bgE_len p.1; rw [bgEl, List.length_append, ownSz]; omega
/-- What visits big names. -/
structure VisN (w0 : World) (fn : Nat) (cap : Array Value) (M : Nat) (Inv : List BgN → (Nat → Prop) → World → Prop) : Prop where
  lt : ∀ {done T w}, Inv done T w → ∀ b, T b → w0.heap.size ≤ b ∧ b < w.heap.size
  stay : ∀ {done T w w'}, Inv done T w → Kept (fun b => T b ∨ b < w0.heap.size) w w' → Inv done T w'
  ent : ∀ (u v x : Value) (w : World), (callFunc fn (#[u, v, x] ++ cap)).run Try.prog w = .ok (.enter fn (#[u, v, x] ++ cap)) w
  call : ∀ done T nm p l w, done.length < M → nm.size ≤ maxLen → Below w0.heap.size w0 w → Inv done T w →
    Calls Try.prog fn (#[.string nm, .bool p, .int .i64 (l : Nat)] ++ cap) w fun e w' => e = .returned (.tuple #[]) ∧ VEnd (Inv (done ++ [(nm, p, l)])) T w w'
/-- The visitor of names and the variable that holds it (block vb). -/
def InvB (w0 : World) (fn : Nat) (cap : Array Value) (vb : Nat) (Inv : List BgN → (Nat → Prop) → World → Prop) (done : List BgN) (T : Nat → Prop) (w : World) : Prop := ∃ T0, Inv done T0 w ∧ w.heap[vb]? = some (.cells #[.func (.func fn) #[] cap] 82 (0, 0)) ∧ ¬ T0 vb ∧ w0.heap.size ≤ vb ∧ ∀ b, T b ↔ T0 b ∨ b = vb
section
variable {w0 : World} {fn : Nat} {cap : Array Value} {M : Nat} {Inv : List BgN → (Nat → Prop) → World → Prop}
theorem InvB.lt {vb : Nat} (V : VisN w0 fn cap M Inv) {done : List BgN} {T : Nat → Prop} {w : World} (h : InvB w0 fn cap vb Inv done T w) : ∀ b, T b → w0.heap.size ≤ b ∧ b < w.heap.size := by
  obtain ⟨T0, h1, h2, -, h4, h5⟩ := h; intro b hb
  rcases (h5 b).1 hb with h | rfl
  · exact V.lt h1 b h
  · exact ⟨h4, lt_of_block h2⟩
theorem InvB.stay {vb : Nat} (V : VisN w0 fn cap M Inv) {done : List BgN} {T : Nat → Prop} {w w' : World} (h : InvB w0 fn cap vb Inv done T w) (hk : Kept (fun b => T b ∨ b < w0.heap.size) w w') : InvB w0 fn cap vb Inv done T w' := by
  obtain ⟨T0, h1, h2, h3, h4, h5⟩ := h; (exact ⟨T0, V.stay h1 (hk.mono fun b _ hb => hb.imp (fun h => (h5 b).2 (Or.inl h)) id), (hk.block vb (lt_of_block h2) (Or.inl ((h5 vb).2 (Or.inr rfl)))).trans h2, h3, h4, h5⟩)
/-- Behind a visit. -/
theorem InvB.next {vb : Nat} {d2 : List BgN} {T T0 : Nat → Prop} {w w' : World} (h2 : w.heap[vb]? = some (.cells #[.func (.func fn) #[] cap] 82 (0, 0))) (h3 : ¬ T0 vb) (h4 : w0.heap.size ≤ vb) (h5 : ∀ b, T b ↔ T0 b ∨ b = vb) (hv : VEnd (Inv d2) T0 w w') : VEnd (InvB w0 fn cap vb Inv d2) T w w' := by
  obtain ⟨T1, g1, g2, g3⟩ := hv; (refine ⟨fun b => T1 b ∨ b = vb, ⟨T1, g1, (g2.block vb (lt_of_block h2) h3).trans h2, fun h => ?_, h4, fun b => Iff.rfl⟩, g2.mono fun b _ hb h => hb ((h5 b).2 (Or.inl h)), fun b hb => ?_⟩)
  · rcases g3 vb h with h | h
    · exact h3 h
    · have := lt_of_block h2; omega
  · rcases hb with hb | rfl
    · rcases g3 b hb with h | h
      · exact Or.inl ((h5 b).2 (Or.inl h))
      · exact Or.inr h
    · exact Or.inl ((h5 _).2 (Or.inr rfl))
set_option maxRecDepth 10000 in
set_option maxHeartbeats 4000000 in
/-- The closure that looks at a word. -/
theorem bigW_any (V : VisN w0 fn cap M Inv) (vb : Nat) (done : List BgN) (T : Nat → Prop) (x : Wd) (v : Value) (w : World) (hM : done.length < M) (hr : WRp w0 x v) (hb : Below w0.heap.size w0 w) (hi : InvB w0 fn cap vb Inv done T w) :
    Calls Try.prog 67 #[v, .pointer (some ⟨vb, 0, none⟩)] w fun e w' => e = .returned (.tuple #[]) ∧ VEnd (InvB w0 fn cap vb Inv (done ++ bgWl [x])) T w w' := by
  have HV : Hid (VisN w0 fn cap M Inv) := V; have HI : Hid (InvB w0 fn cap vb Inv done T w) := hi; have HT : Hid (∀ b, T b → w0.heap.size ≤ b ∧ b < w.heap.size) := hi.lt V; obtain ⟨n, ar⟩ := x; obtain ⟨sl, cp, rfl, hn, hl1, hl2, -⟩ := WRp.def.1 hr; (have hlI : ((ar.length : Nat) : Int) ≤ 9223372036854775807 := by unfold maxLen at hl2; omega); obtain ⟨W, hWe⟩ : ∃ W, w.alloc (.cells #[.string n, .slice sl ar.length cp] 69 (0, 0)) = W := ⟨_, rfl⟩; (have hBW : Below w.heap.size w W := by rw [← hWe]; exact below_more (Below.refl _ _) _); (have hq : W.heap[w.heap.size]? = some (.cells #[.string n, .slice sl ar.length cp] 69 (0, 0)) := by rw [← hWe]; exact blk_new _ _); have HBW : Hid (Below w.heap.size w W) := hBW
  have hiW : InvB w0 fn cap vb Inv done T W := hi.stay V (kept_of_below hBW fun b _ h => by rcases h with h | h; · exact (hi.lt V b h).2
                                                                                            · have := hb.size; omega)
  obtain ⟨a0, a1, -⟩ := blk2 hq; have hs1 := lt_of_block hq; (have HBg : Hid (∀ w, Calls Try.prog 68 #[.string n] w fun e w' => e = .returned (.bool (isBg n.data.toList)) ∧ w' = w) := fun w => big_any n w); (have hE : bgWl [Wd.mk n ar] = if isBg n.data.toList = true then [(n, false, ar.length)] else [] := by rw [bgWl, bgWl, List.append_nil]); obtain ⟨T0, g1, g2, g3, g4, g5⟩ := hiW
  rcases hg : isBg n.data.toList with _ | _
  · rw [hg] at HBg
    (have HE : Hid (VEnd (InvB w0 fn cap vb Inv (done ++ bgWl [Wd.mk n ar])) T w W) := ⟨T, by rw [hE, hg]; simp only [Bool.false_eq_true, if_false, List.append_nil]; exact ⟨T0, g1, g2, g3, g4, g5⟩, kept_of_below hBW fun _ h _ => h, fun b h => Or.inl h⟩); clear hr hb hi hn hl1 hl2 hBW hq hE hg g1 g2 g3 g4 g5 V
    go_enter Try.func67, Try.ntmps67
    go_wp2_with (first
      | (go_at_call 68; refine (HBg.out _).mono ?_; rintro e w3 ⟨rfl, h3⟩; obtain rfl : W = w3 := h3.symm)
      | fail)
    go_end0
    exact ⟨rfl, HE.out⟩
  · rw [hg] at HBg
    (have HC : Hid (Calls Try.prog fn (#[.string n, .bool false, .int .i64 (ar.length : Nat)] ++ cap) W fun e w' => e = .returned (.tuple #[]) ∧ VEnd (Inv (done ++ [(n, false, ar.length)])) T0 W w') := V.call done T0 n false ar.length W hM hn (hb.trans (hBW.mono hb.size)) g1); have HG : Hid (W.heap[vb]? = some (.cells #[.func (.func fn) #[] cap] 82 (0, 0)) ∧ ¬ T0 vb ∧ w0.heap.size ≤ vb ∧ ∀ b, T b ↔ T0 b ∨ b = vb) := ⟨g2, g3, g4, g5⟩; (have HE : Hid (bgWl [Wd.mk n ar] = [(n, false, ar.length)]) := by show _ = _; rw [hE, hg]; rfl); obtain ⟨b0, b1⟩ := blk1 g2; have hcf := V.ent; clear hr hb hi hn hl1 hl2 hBW hq hE hg g1 g2 g3 g4 g5 V
    go_enter Try.func67, Try.ntmps67
    go_wp2_with (first
      | (go_at_call 68; refine (HBg.out _).mono ?_; rintro e w3 ⟨rfl, h3⟩; obtain rfl : W = w3 := h3.symm)
      | fail)
    refine HC.out.mono ?_; rintro e w4 ⟨rfl, hv4⟩; (have HF : Hid (VEnd (InvB w0 fn cap vb Inv (done ++ bgWl [Wd.mk n ar])) T w w4) := VEnd.pre HBW.out (by rw [HE.out]; exact InvB.next HG.out.1 HG.out.2.1 HG.out.2.2.1 HG.out.2.2.2 hv4)); clear hv4; go_wp2_with fail
    go_end0
    exact ⟨rfl, HF.out⟩
theorem bigW_in (cap : Array Value) (w : World) : (callFunc 67 cap).run Try.prog w = .ok (.enter 67 cap) w := by
  simp [go_sem]
theorem bigE_in (cap : Array Value) (w : World) : (callFunc 65 cap).run Try.prog w = .ok (.enter 65 cap) w := by
  simp [go_sem]
theorem bigW_visit (V : VisN w0 fn cap M Inv) (vb : Nat) (done : List BgN) (K : Nat) (hK : done.length + K ≤ M) : VisW w0 67 #[.pointer (some ⟨vb, 0, none⟩)] K (fun dw => InvB w0 fn cap vb Inv (done ++ bgWl dw)) where
  lt := fun h => InvB.lt V h
  stay := fun h hk => InvB.stay V h hk
  ent := fun v w => bigW_in _ w
  call := fun dw T x v w hl hr hb hi => by
    (refine (bigW_any V vb (done ++ bgWl dw) T x v w (by have := bgWl_len dw; rw [List.length_append]; omega) hr hb hi).mono ?_); rintro e w' ⟨rfl, hv⟩; (refine ⟨rfl, VEnd.imp hv fun T' h => ?_⟩); show InvB _ _ _ _ _ _ _ _; rw [bgWl_app, ← List.append_assoc]; exact h
end
end Go.Proofs.Ytblodnpfckflaak
