/- Texts of one proof, one behind the other: SM7, SM8, SM9, SN1. -/
import Derived.Test.YtblodnpfckflaakGreatB27
/- Walks: nested: how many quantifiers stand in one another. -/
namespace Go.Proofs.YtblodnpfckflaakGreat
open Go.RowKit Go.Sort Go.Maps Go.WideMaps

def mxB : List (Ex × Bd) → Nat
  | [] => 0
  | p :: l => max p.2.length (mxB l)
theorem mxB_app : ∀ a b : List (Ex × Bd), mxB (a ++ b) = max (mxB a) (mxB b)
  | [], b => by rw [List.nil_append, mxB]; omega
  | p :: a, b => by rw [List.cons_append, mxB, mxB, mxB_app a b]; omega
/-- How many quantifiers stand in one another. -/
def nestN (x : Ex) : Nat := mxB (prE [] x)
def InvM (cb : Nat) (done : List (Ex × Bd)) (T : Nat → Prop) (w : World) : Prop := w.heap[cb]? = some (.cells #[.int .i64 (mxB done : Nat)] 3 (0, 0)) ∧ ∀ b, T b ↔ b = cb
set_option maxHeartbeats 2000000 in
theorem nested1_any (cb : Nat) (x : Ex) (v : Value) (w0 w : World) (hrep : ERp w0 x v) (ad : Option Addr) (cp l m : Nat) (hl : l ≤ 100000) (hm : m ≤ 100000) (h : w.heap[cb]? = some (.cells #[.int .i64 (m : Nat)] 3 (0, 0))) :
    Calls Tryz.prog 94 #[v, .slice ad l cp, .pointer (some ⟨cb, 0, none⟩)] w fun e w' => e = .returned (.tuple #[]) ∧ w'.heap[cb]? = some (.cells #[.int .i64 (max m l : Nat)] 3 (0, 0)) ∧ Kept (· ≠ cb) w w' := by
  obtain ⟨k, n, ws, ks⟩ := x; obtain ⟨sw, cw, sk, ck, rfl, -⟩ := ERp.def.1 hrep; have h1 := alloc_keep h (.cells #[.int .i64 k, .string n, .slice sw ws.length cw, .slice sk ks.length ck] 29 (0, 0)); obtain ⟨a0, a1⟩ := blk1 h1; have hcb := lt_of_block h; have H0 : Hid (w.heap[cb]? = some (.cells #[.int .i64 (m : Nat)] 3 (0, 0))) := h; (have hmx : max (m : Int) (l : Int) = ((max m l : Nat) : Int) := by omega); (have hlI : (l : Int) ≤ 100000 := by omega); (have hmI : (m : Int) ≤ 100000 := by omega); clear hrep h h1 hl hm; by_cases hlm : l ≤ m
  · have e : max m l = m := by omega
    (have hI : ¬ (m : Int) < (l : Int) := by omega); (have hI2 : (l : Int) ≤ (m : Int) := by omega); rw [e] at hmx ⊢; clear hlm e
    go_enter Tryz.func94, Tryz.ntmps94
    go_wp2_with fail
    go_end0
    (exact ⟨rfl, alloc_keep (set1 H0.out _) _, ((Kept.refl _ w).setCell (p := ⟨cb, 0, none⟩) (fun _ h => h rfl) _).alloc _⟩)
  · have e : max m l = l := by omega
    (have hI : (m : Int) < (l : Int) := by omega); (have hI2 : (m : Int) ≤ (l : Int) := by omega); rw [e] at hmx ⊢; clear hlm e
    go_enter Tryz.func94, Tryz.ntmps94
    go_wp2_with fail
    go_end0
    (exact ⟨rfl, alloc_keep (set1 H0.out _) _, ((Kept.refl _ w).setCell (p := ⟨cb, 0, none⟩) (fun _ h => h rfl) _).alloc _⟩)
theorem nested1_in (cap : Array Value) (w : World) : (callFunc 94 cap).run Tryz.prog w = .ok (.enter 94 cap) w := by
  simp [go_sem]
def InvM2 (M cb : Nat) (done : List (Ex × Bd)) (T : Nat → Prop) (w : World) : Prop := InvM cb done T w ∧ mxB done ≤ M
theorem nested_visit (w0 : World) (cb M : Nat) (hM : M ≤ 100000) (hcb : w0.heap.size ≤ cb) : VisE w0 94 #[.pointer (some ⟨cb, 0, none⟩)] M (InvM2 M cb) where
  lt := fun h b hb => by
    have e := (h.1.2 b).1 hb; subst e; exact ⟨hcb, lt_of_block h.1.1⟩
  stay := fun h hk => ⟨⟨(hk.block _ (lt_of_block h.1.1) (Or.inl ((h.1.2 _).2 rfl))).trans h.1.1, h.1.2⟩, h.2⟩
  ent := fun v u w => nested1_in _ w
  call := fun done T x bd v ad cp w hl hbd hrep hk hn hb hi => by
    (refine (nested1_any cb x v w0 w hrep ad cp bd.length (mxB done) (by omega) (by have := hi.2; omega) hi.1.1).mono ?_); rintro e w' ⟨rfl, h1, h2⟩; (have e : mxB (done ++ [(x, bd)]) = max (mxB done) bd.length := by rw [mxB_app, mxB, mxB]; simp); (refine ⟨rfl, T, ⟨⟨by rw [e]; exact h1, hi.1.2⟩, by have := hi.2; omega⟩, h2.mono fun b _ h e => h ((hi.1.2 b).2 e), fun b h => Or.inl h⟩)
set_option maxHeartbeats 2000000 in
theorem nested_any (x : Ex) (v : Value) (w : World) (hs : x.size ≤ 100000) (hrep : ERp w x v) :
    Calls Tryz.prog 52 #[v] w fun e w' => e = .returned (.int .i64 (nestN x : Nat)) ∧ Below w.heap.size w w' := by
  have HE : Hid (∀ W, Below w.heap.size w W → w.heap.size ≤ W.heap.size → Calls Tryz.prog 93 #[v, .func (.func 94) #[] #[.pointer (some ⟨W.heap.size, 0, none⟩)]] (W.alloc (.cells #[.int .i64 0] 3 (0, 0))) fun e w' => e = .returned (.tuple #[]) ∧ VEnd (InvM2 100000 W.heap.size (prE [] x)) (fun b => b = W.heap.size) (W.alloc (.cells #[.int .i64 0] 3 (0, 0))) w') := fun W h1 h2 =>
    eachE_any (by omega) (nested_visit w W.heap.size 100000 (Nat.le_refl _) h2) _ x v _ hs hrep (below_more h1 _) ⟨⟨blk_new _ _, fun b => Iff.rfl⟩, by rw [mxB]; omega⟩
  (have hmf : ∀ (fn : Fn) (first cap : Array Value) (w : World), (Instr.makeFunc fn first cap).run Tryz.prog w = .ok (.func fn first cap) w := fun _ _ _ _ => rfl); obtain ⟨k, n, ws, ks⟩ := x; obtain ⟨sw, cw, sk, ck, rfl, -⟩ := ERp.def.1 hrep; have hq0 := blk_new w (.cells #[.int .i64 k, .string n, .slice sw ws.length cw, .slice sk ks.length ck] 29 (0, 0)); have HB : Hid (Below w.heap.size w (w.alloc (.cells #[.int .i64 k, .string n, .slice sw ws.length cw, .slice sk ks.length ck] 29 (0, 0)))) := below_more (Below.refl w.heap.size w) _; have hq1 := alloc_keep hq0 (.cells #[.int .i64 0] 3 (0, 0)); obtain ⟨b0, b1, b2, b3⟩ := blk4L hq1; have HEw := HE.out _ HB.out HB.out.size; have HEv : Hid (Calls Tryz.prog 93 _ _ _) := HEw; (rw [show (w.alloc (.cells #[.int .i64 k, .string n, .slice sw ws.length cw, .slice sk ks.length ck] 29 (0, 0))).heap.size = w.heap.size + 1 by simp] at HEv); clear hs hrep HE HEw hq0 hq1
  go_enter Tryz.func52, Tryz.ntmps52
  go_wp2_with (first
    | (go_at_call 93
       refine HEv.out.mono ?_; rintro e w2 ⟨rfl, T', ⟨⟨h1, -⟩, -⟩, hk, -⟩; (have HK : Hid (Below w.heap.size w w2) := (below_more HB.out _).trans (hk.below (by simp; omega) fun b hb e => by omega)); obtain ⟨k0, k1⟩ := blk1 h1
       clear h1 hk)
    | fail)
  go_ret; exact ⟨rfl, HK.out⟩
end Go.Proofs.YtblodnpfckflaakGreat
/- Walks: hasMeanings. -/
namespace Go.Proofs.YtblodnpfckflaakGreat
open Go.RowKit Go.Sort Go.Maps Go.WideMaps

/-- A big name as it stands there: it, whether as a predicate, with how many places. -/
abbrev BgN := ByteArray × Bool × Nat
def okN (V : VwD) (x : BgN) : Bool := if x.2.1 then (match V.pd x.1.data.toList with | some q => q.ar == (x.2.2 : Int) | none => false) else (match V.fn x.1.data.toList with | some q => q.ar == (x.2.2 : Int) | none => false)
set_option maxRecDepth 10000 in
set_option maxHeartbeats 4000000 in
theorem means1_any (V : VwD) (va : Vals) (w0 w : World) (bf bp bv c vb hb : Nat) (nm : ByteArray) (hn : nm.size ≤ maxLen) (p : Bool) (l : Nat) (h0 : Bool) (hA : VwA w0 V va bf bp bv c w) (hv : w.heap[vb]? = some (.cells #[.int .i64 (V.n : Nat), .map (some bf), .map (some bp), .map (some bv)] 94 (0, 0))) (hh : w.heap[hb]? = some (.cells #[.bool h0] 4 (0, 0))) :
    Calls Tryz.prog 92 #[.string nm, .bool p, .int .i64 (l : Nat), .pointer (some ⟨vb, 0, none⟩), .pointer (some ⟨hb, 0, none⟩)] w fun e w' => e = .returned (.tuple #[]) ∧ w'.heap[hb]? = some (.cells #[.bool (h0 && okN V (nm, p, l))] 4 (0, 0)) ∧ Kept (· ≠ hb) w w' := by
  have H0 : Hid (w.heap[hb]? = some (.cells #[.bool h0] 4 (0, 0))) := hh; (have HF : Hid (∀ b o, Kept (· ≠ hb) w ((w.setCell ⟨hb, 0, none⟩ b).alloc o)) := fun b o => ((Kept.refl _ w).setCell (p := ⟨hb, 0, none⟩) (fun _ h => h rfl) _).alloc _); obtain ⟨a0, a1, a2, a3⟩ := blk4L hv; obtain ⟨b0, b1⟩ := blk1 hh; have hl1 := lt_of_block hv; have hl2 := lt_of_block hh; (have hne : hb ≠ vb := fun e => by rw [e, hv] at hh; simp at hh)
  cases p
  · obtain ⟨mu, kk, hg, hmu⟩ := hA.fn
    have hlk := hg.lookOk (okT_of hn) Tryz.underlying90 zeroFn 0; rw [str_eta] at hlk; have hm0 := hmu nm.data.toList (okT_of hn)
    rcases hf : V.fn nm.data.toList with _ | f
    · rw [hf] at hm0
      have hlk0 : (Instr.lookup 90 (.map (some bf)) (.string nm) true).run Tryz.prog w = .ok (.tuple #[.agg #[.string ⟨#[]⟩, .int .i64 0, .slice none 0 0], .bool false]) w := by
        have h9 := hlk; rw [show mu nm.data.toList = none from hm0] at h9; exact h9
      (have HR : Hid ((h0 && okN V (nm, false, l)) = false) := by show _ = _; unfold okN; simp [hf]); clear hA hv hh hg hmu hlk hm0 hf hn
      cases h0
      all_goals
        go_enter Tryz.func92, Tryz.ntmps92
        go_wp2_with fail
        go_end0
        (exact ⟨rfl, by rw [HR.out]; exact alloc_keep (set1 H0.out _) _, HF.out _ _⟩)
    · rw [hf] at hm0
      obtain ⟨vf, e1, sf, cf, rfl, -, -⟩ := hm0
      have hlk0 : (Instr.lookup 90 (.map (some bf)) (.string nm) true).run Tryz.prog w = .ok (.tuple #[.agg #[.string f.nm, .int .i64 f.ar, .slice sf f.tab.length cf], .bool true]) w := by
        have h9 := hlk; rw [e1] at h9; exact h9
      (have HR : Hid ((h0 && okN V (nm, false, l)) = (h0 && (f.ar == (l : Int)))) := by show _ = _; unfold okN; simp [hf]); clear hA hv hh hg hmu hlk e1 hf hn; generalize hE : (f.ar == (l : Int)) = eb at *
      cases h0
      all_goals cases eb
      all_goals
        go_enter Tryz.func92, Tryz.ntmps92
        go_wp2_with fail
        go_end0
        (exact ⟨rfl, by rw [HR.out]; exact alloc_keep (set1 H0.out _) _, HF.out _ _⟩)
  · obtain ⟨mu, kk, hg, hmu⟩ := hA.pd
    have hlk := hg.lookOk (okT_of hn) Tryz.underlying91 zeroPd 0; rw [str_eta] at hlk; have hm0 := hmu nm.data.toList (okT_of hn)
    rcases hf : V.pd nm.data.toList with _ | f
    · rw [hf] at hm0
      have hlk0 : (Instr.lookup 91 (.map (some bp)) (.string nm) true).run Tryz.prog w = .ok (.tuple #[.agg #[.string ⟨#[]⟩, .int .i64 0, .slice none 0 0], .bool false]) w := by
        have h9 := hlk; rw [show mu nm.data.toList = none from hm0] at h9; exact h9
      (have HR : Hid ((h0 && okN V (nm, true, l)) = false) := by show _ = _; unfold okN; simp [hf]); clear hA hv hh hg hmu hlk hm0 hf hn
      cases h0
      all_goals
        go_enter Tryz.func92, Tryz.ntmps92
        go_wp2_with fail
        go_end0
        (exact ⟨rfl, by rw [HR.out]; exact alloc_keep (set1 H0.out _) _, HF.out _ _⟩)
    · rw [hf] at hm0
      obtain ⟨vf, e1, sf, cf, rfl, -, -⟩ := hm0
      have hlk0 : (Instr.lookup 91 (.map (some bp)) (.string nm) true).run Tryz.prog w = .ok (.tuple #[.agg #[.string f.nm, .int .i64 f.ar, .slice sf f.bits.length cf], .bool true]) w := by
        have h9 := hlk; rw [e1] at h9; exact h9
      (have HR : Hid ((h0 && okN V (nm, true, l)) = (h0 && (f.ar == (l : Int)))) := by show _ = _; unfold okN; simp [hf]); clear hA hv hh hg hmu hlk e1 hf hn; generalize hE : (f.ar == (l : Int)) = eb at *
      cases h0
      all_goals cases eb
      all_goals
        go_enter Tryz.func92, Tryz.ntmps92
        go_wp2_with fail
        go_end0
        (exact ⟨rfl, by rw [HR.out]; exact alloc_keep (set1 H0.out _) _, HF.out _ _⟩)
end Go.Proofs.YtblodnpfckflaakGreat
/- Walks: eachBigName, whatever visits; hasMeanings. -/
namespace Go.Proofs.YtblodnpfckflaakGreat
open Go.RowKit Go.Sort Go.Maps Go.WideMaps

/-- The big names among words. -/
def bgWl : List Wd → List BgN
  | [] => []
  | .mk n ar :: l => (if isBg n.data.toList = true then [(n, false, ar.length)] else []) ++ bgWl l
theorem bgWl_app : ∀ a b : List Wd, bgWl (a ++ b) = bgWl a ++ bgWl b
  | [], b => rfl
  | .mk n ar :: a, b => by rw [List.cons_append, bgWl, bgWl, bgWl_app a b, List.append_assoc]
theorem bgWl_len : ∀ l : List Wd, (bgWl l).length ≤ l.length
  | [] => Nat.le_refl _
  | .mk n ar :: l => by
    have := bgWl_len l; rw [bgWl, List.length_append, List.length_cons]
    split <;> simp <;> omega
def bgE : Ex → List BgN
  | .mk k n ws _ => (if k = 1 then [(n, true, ws.length)] else []) ++ bgWl (prWs ws)
/-- The big names of expressions that stand in one. -/
def bgEl : List (Ex × Bd) → List BgN
  | [] => []
  | p :: l => bgE p.1 ++ bgEl l
theorem bgEl_app : ∀ a b : List (Ex × Bd), bgEl (a ++ b) = bgEl a ++ bgEl b
  | [], b => rfl
  | p :: a, b => by rw [List.cons_append, bgEl, bgEl, bgEl_app a b, List.append_assoc]
theorem bgE_len (x : Ex) : (bgE x).length ≤ Wd.sizes (exWs x) + 1 := by
  obtain ⟨k, n, ws, ks⟩ := x; have h1 := bgWl_len (prWs ws); rw [prWs_len] at h1; show (bgE (.mk k n ws ks)).length ≤ Wd.sizes ws + 1; rw [bgE, List.length_append]
  split <;> simp <;> omega
theorem bgEl_len : ∀ l : List (Ex × Bd), (bgEl l).length ≤ ownSz l
  | [] => Nat.le_refl _
  | p :: l => by
    have h1 := bgEl_len l; have h2 := bgE_len p.1; rw [bgEl, List.length_append, ownSz]; omega
/-- What visits big names. -/
structure VisN (w0 : World) (fn : Nat) (cap : Array Value) (M : Nat) (Inv : List BgN → (Nat → Prop) → World → Prop) : Prop where
  lt : ∀ {done T w}, Inv done T w → ∀ b, T b → w0.heap.size ≤ b ∧ b < w.heap.size
  stay : ∀ {done T w w'}, Inv done T w → Kept (fun b => T b ∨ b < w0.heap.size) w w' → Inv done T w'
  ent : ∀ (u v x : Value) (w : World), (callFunc fn (#[u, v, x] ++ cap)).run Tryz.prog w = .ok (.enter fn (#[u, v, x] ++ cap)) w
  call : ∀ done T nm p l w, done.length < M → nm.size ≤ maxLen → Below w0.heap.size w0 w → Inv done T w →
    Calls Tryz.prog fn (#[.string nm, .bool p, .int .i64 (l : Nat)] ++ cap) w fun e w' => e = .returned (.tuple #[]) ∧ VEnd (Inv (done ++ [(nm, p, l)])) T w w'
/-- The visitor of names and the variable that holds it (block vb). -/
def InvB (w0 : World) (fn : Nat) (cap : Array Value) (vb : Nat) (Inv : List BgN → (Nat → Prop) → World → Prop) (done : List BgN) (T : Nat → Prop) (w : World) : Prop := ∃ T0, Inv done T0 w ∧ w.heap[vb]? = some (.cells #[.func (.func fn) #[] cap] 146 (0, 0)) ∧ ¬ T0 vb ∧ w0.heap.size ≤ vb ∧ ∀ b, T b ↔ T0 b ∨ b = vb
section
variable {w0 : World} {fn : Nat} {cap : Array Value} {M : Nat} {Inv : List BgN → (Nat → Prop) → World → Prop}
theorem InvB.lt {vb : Nat} (V : VisN w0 fn cap M Inv) {done : List BgN} {T : Nat → Prop} {w : World} (h : InvB w0 fn cap vb Inv done T w) : ∀ b, T b → w0.heap.size ≤ b ∧ b < w.heap.size := by
  obtain ⟨T0, h1, h2, -, h4, h5⟩ := h; intro b hb
  rcases (h5 b).1 hb with h | rfl
  · exact V.lt h1 b h
  · exact ⟨h4, lt_of_block h2⟩
theorem InvB.stay {vb : Nat} (V : VisN w0 fn cap M Inv) {done : List BgN} {T : Nat → Prop} {w w' : World} (h : InvB w0 fn cap vb Inv done T w) (hk : Kept (fun b => T b ∨ b < w0.heap.size) w w') : InvB w0 fn cap vb Inv done T w' := by
  obtain ⟨T0, h1, h2, h3, h4, h5⟩ := h; (exact ⟨T0, V.stay h1 (hk.mono fun b _ hb => hb.imp (fun h => (h5 b).2 (Or.inl h)) id), (hk.block vb (lt_of_block h2) (Or.inl ((h5 vb).2 (Or.inr rfl)))).trans h2, h3, h4, h5⟩)
/-- Behind a visit. -/
theorem InvB.next {vb : Nat} {d2 : List BgN} {T T0 : Nat → Prop} {w w' : World} (h2 : w.heap[vb]? = some (.cells #[.func (.func fn) #[] cap] 146 (0, 0))) (h3 : ¬ T0 vb) (h4 : w0.heap.size ≤ vb) (h5 : ∀ b, T b ↔ T0 b ∨ b = vb) (hv : VEnd (Inv d2) T0 w w') : VEnd (InvB w0 fn cap vb Inv d2) T w w' := by
  obtain ⟨T1, g1, g2, g3⟩ := hv; (refine ⟨fun b => T1 b ∨ b = vb, ⟨T1, g1, (g2.block vb (lt_of_block h2) h3).trans h2, fun h => ?_, h4, fun b => Iff.rfl⟩, g2.mono fun b _ hb h => hb ((h5 b).2 (Or.inl h)), fun b hb => ?_⟩)
  · rcases g3 vb h with h | h
    · exact h3 h
    · have := lt_of_block h2; omega
  · rcases hb with hb | rfl
    · rcases g3 b hb with h | h
      · exact Or.inl ((h5 b).2 (Or.inl h))
      · exact Or.inr h
    · exact Or.inl ((h5 _).2 (Or.inr rfl))
set_option maxRecDepth 10000 in
set_option maxHeartbeats 4000000 in
/-- The closure that looks at a word. -/
theorem bigW_any (V : VisN w0 fn cap M Inv) (vb : Nat) (done : List BgN) (T : Nat → Prop) (x : Wd) (v : Value) (w : World) (hM : done.length < M) (hr : WRp w0 x v) (hb : Below w0.heap.size w0 w) (hi : InvB w0 fn cap vb Inv done T w) :
    Calls Tryz.prog 140 #[v, .pointer (some ⟨vb, 0, none⟩)] w fun e w' => e = .returned (.tuple #[]) ∧ VEnd (InvB w0 fn cap vb Inv (done ++ bgWl [x])) T w w' := by
  have HV : Hid (VisN w0 fn cap M Inv) := V; have HI : Hid (InvB w0 fn cap vb Inv done T w) := hi; have HT : Hid (∀ b, T b → w0.heap.size ≤ b ∧ b < w.heap.size) := hi.lt V; obtain ⟨n, ar⟩ := x; obtain ⟨sl, cp, rfl, hn, hl1, hl2, -⟩ := WRp.def.1 hr; (have hlI : ((ar.length : Nat) : Int) ≤ 9223372036854775807 := by unfold maxLen at hl2; omega); obtain ⟨W, hWe⟩ : ∃ W, w.alloc (.cells #[.string n, .slice sl ar.length cp] 31 (0, 0)) = W := ⟨_, rfl⟩; (have hBW : Below w.heap.size w W := by rw [← hWe]; exact below_more (Below.refl _ _) _); (have hq : W.heap[w.heap.size]? = some (.cells #[.string n, .slice sl ar.length cp] 31 (0, 0)) := by rw [← hWe]; exact blk_new _ _); have HBW : Hid (Below w.heap.size w W) := hBW
  have hiW : InvB w0 fn cap vb Inv done T W := hi.stay V (kept_of_below hBW fun b _ h => by rcases h with h | h; · exact (hi.lt V b h).2
                                                                                            · have := hb.size; omega)
  obtain ⟨a0, a1, -⟩ := blk2 hq; have hs1 := lt_of_block hq; (have HBg : Hid (∀ w, Calls Tryz.prog 77 #[.string n] w fun e w' => e = .returned (.bool (isBg n.data.toList)) ∧ w' = w) := fun w => big_any n w); (have hE : bgWl [Wd.mk n ar] = if isBg n.data.toList = true then [(n, false, ar.length)] else [] := by rw [bgWl, bgWl, List.append_nil]); obtain ⟨T0, g1, g2, g3, g4, g5⟩ := hiW
  rcases hg : isBg n.data.toList with _ | _
  · rw [hg] at HBg
    (have HE : Hid (VEnd (InvB w0 fn cap vb Inv (done ++ bgWl [Wd.mk n ar])) T w W) := ⟨T, by rw [hE, hg]; simp only [Bool.false_eq_true, if_false, List.append_nil]; exact ⟨T0, g1, g2, g3, g4, g5⟩, kept_of_below hBW fun _ h _ => h, fun b h => Or.inl h⟩); clear hr hb hi hn hl1 hl2 hBW hq hE hg g1 g2 g3 g4 g5 V
    go_enter Tryz.func140, Tryz.ntmps140
    go_wp2_with (first
      | (go_at_call 77; refine (HBg.out _).mono ?_; rintro e w3 ⟨rfl, h3⟩; obtain rfl : W = w3 := h3.symm)
      | fail)
    go_end0
    exact ⟨rfl, HE.out⟩
  · rw [hg] at HBg
    (have HC : Hid (Calls Tryz.prog fn (#[.string n, .bool false, .int .i64 (ar.length : Nat)] ++ cap) W fun e w' => e = .returned (.tuple #[]) ∧ VEnd (Inv (done ++ [(n, false, ar.length)])) T0 W w') := V.call done T0 n false ar.length W hM hn (hb.trans (hBW.mono hb.size)) g1); have HG : Hid (W.heap[vb]? = some (.cells #[.func (.func fn) #[] cap] 146 (0, 0)) ∧ ¬ T0 vb ∧ w0.heap.size ≤ vb ∧ ∀ b, T b ↔ T0 b ∨ b = vb) := ⟨g2, g3, g4, g5⟩; (have HE : Hid (bgWl [Wd.mk n ar] = [(n, false, ar.length)]) := by show _ = _; rw [hE, hg]; rfl); obtain ⟨b0, b1⟩ := blk1 g2; have hcf := V.ent; clear hr hb hi hn hl1 hl2 hBW hq hE hg g1 g2 g3 g4 g5 V
    go_enter Tryz.func140, Tryz.ntmps140
    go_wp2_with (first
      | (go_at_call 77; refine (HBg.out _).mono ?_; rintro e w3 ⟨rfl, h3⟩; obtain rfl : W = w3 := h3.symm)
      | fail)
    refine HC.out.mono ?_; rintro e w4 ⟨rfl, hv4⟩; (have HF : Hid (VEnd (InvB w0 fn cap vb Inv (done ++ bgWl [Wd.mk n ar])) T w w4) := VEnd.pre HBW.out (by rw [HE.out]; exact InvB.next HG.out.1 HG.out.2.1 HG.out.2.2.1 HG.out.2.2.2 hv4)); clear hv4; go_wp2_with fail
    go_end0
    exact ⟨rfl, HF.out⟩
theorem bigW_in (cap : Array Value) (w : World) : (callFunc 140 cap).run Tryz.prog w = .ok (.enter 140 cap) w := by
  simp [go_sem]
theorem bigE_in (cap : Array Value) (w : World) : (callFunc 139 cap).run Tryz.prog w = .ok (.enter 139 cap) w := by
  simp [go_sem]
theorem bigW_visit (V : VisN w0 fn cap M Inv) (vb : Nat) (done : List BgN) (K : Nat) (hK : done.length + K ≤ M) : VisW w0 140 #[.pointer (some ⟨vb, 0, none⟩)] K (fun dw => InvB w0 fn cap vb Inv (done ++ bgWl dw)) where
  lt := fun h => InvB.lt V h
  stay := fun h hk => InvB.stay V h hk
  ent := fun v w => bigW_in _ w
  call := fun dw T x v w hl hr hb hi => by
    (refine (bigW_any V vb (done ++ bgWl dw) T x v w (by have := bgWl_len dw; rw [List.length_append]; omega) hr hb hi).mono ?_); rintro e w' ⟨rfl, hv⟩; (refine ⟨rfl, VEnd.imp hv fun T' h => ?_⟩); show InvB _ _ _ _ _ _ _ _; rw [bgWl_app, ← List.append_assoc]; exact h
end
end Go.Proofs.YtblodnpfckflaakGreat
/- Walks: eachBigName; hasMeanings. -/
namespace Go.Proofs.YtblodnpfckflaakGreat
open Go.RowKit Go.Sort Go.Maps Go.WideMaps

section
variable {w0 : World} {fn : Nat} {cap : Array Value} {M : Nat} {Inv : List BgN → (Nat → Prop) → World → Prop}
set_option maxRecDepth 10000 in
set_option maxHeartbeats 4000000 in
/-- The closure that looks at an expression. -/
theorem bigE_any (V : VisN w0 fn cap M Inv) (vb : Nat) (done : List BgN) (T : Nat → Prop) (x : Ex) (v u : Value) (w : World) (hM : done.length + (Wd.sizes (exWs x) + 1) ≤ M) (hr : ERp w0 x v) (hb : Below w0.heap.size w0 w) (hi : InvB w0 fn cap vb Inv done T w) :
    Calls Tryz.prog 139 #[v, u, .pointer (some ⟨vb, 0, none⟩)] w fun e w' => e = .returned (.tuple #[]) ∧ VEnd (InvB w0 fn cap vb Inv (done ++ bgE x)) T w w' := by
  have HV : Hid (VisN w0 fn cap M Inv) := V; obtain ⟨k, n, ws, ks⟩ := x; obtain ⟨sw, cw, sk, ck, rfl, hn, hwl, -⟩ := ERp.def.1 hr; have hM' : done.length + (Wd.sizes ws + 1) ≤ M := hM
  have hwm : ws.length ≤ maxLen := by
    obtain ⟨sl', cap', e, g1, g2, -⟩ := hwl; omega
  (have hlI : ((ws.length : Nat) : Int) ≤ 9223372036854775807 := by unfold maxLen at hwm; omega); obtain ⟨W, hWe⟩ : ∃ W, w.alloc (.cells #[.int .i64 k, .string n, .slice sw ws.length cw, .slice sk ks.length ck] 29 (0, 0)) = W := ⟨_, rfl⟩; (have hBW : Below w.heap.size w W := by rw [← hWe]; exact below_more (Below.refl _ _) _); (have hq : W.heap[w.heap.size]? = some (.cells #[.int .i64 k, .string n, .slice sw ws.length cw, .slice sk ks.length ck] 29 (0, 0)) := by rw [← hWe]; exact blk_new _ _); have HQ : Hid (W.heap[w.heap.size]? = some (.cells #[.int .i64 k, .string n, .slice sw ws.length cw, .slice sk ks.length ck] 29 (0, 0))) := hq; have HBW : Hid (Below w.heap.size w W) := hBW; have HT : Hid (∀ b, T b → w0.heap.size ≤ b ∧ b < w.heap.size) := hi.lt V; have HB0 : Hid (Below w0.heap.size w0 W) := hb.trans (hBW.mono hb.size)
  have hiW : InvB w0 fn cap vb Inv done T W := hi.stay V (kept_of_below hBW fun b _ h => by
    rcases h with h | h
    · exact (hi.lt V b h).2
    · have := hb.size; omega)
  obtain ⟨a0, a1, a2, a3⟩ := blk4L hq; have hs1 := lt_of_block hq
  have HWd : Hid (∀ d T' W', d.length + Wd.sizes ws ≤ M → Below w0.heap.size w0 W' → InvB w0 fn cap vb Inv d T' W' → Calls Tryz.prog 108 #[.slice sw ws.length cw, .func (.func 140) #[] #[.pointer (some ⟨vb, 0, none⟩)]] W' fun e w' => e = .returned (.tuple #[]) ∧ VEnd (InvB w0 fn cap vb Inv (d ++ bgWl (prWs ws))) T' W' w') := fun d T' W' h1 h2 h3 => by
    (have := eachWord_any (bigW_visit HV.out vb d (Wd.sizes ws) h1) [] T' ws _ W' (by simp) hwl h2 (by show InvB _ _ _ _ _ _ _ _; rw [bgWl, List.append_nil]; exact h3)); rw [List.nil_append] at this; exact this
  (have hmf : ∀ (fn : Fn) (first cap : Array Value) (w : World), (Instr.makeFunc fn first cap).run Tryz.prog w = .ok (.func fn first cap) w := fun _ _ _ _ => rfl); have HIW : Hid (InvB w0 fn cap vb Inv done T W) := hiW; have HMx : Hid (done.length + (Wd.sizes ws + 1) ≤ M) := hM'; by_cases hk : k = 1
  · subst hk
    (have HE : Hid (bgE (.mk 1 n ws ks) = [(n, true, ws.length)] ++ bgWl (prWs ws)) := by show _ = _; rw [bgE, if_pos rfl]); obtain ⟨T0, g1, g2, g3, g4, g5⟩ := hiW; (have HC : Hid (Calls Tryz.prog fn (#[.string n, .bool true, .int .i64 (ws.length : Nat)] ++ cap) W fun e w' => e = .returned (.tuple #[]) ∧ VEnd (Inv (done ++ [(n, true, ws.length)])) T0 W w') := V.call done T0 n true ws.length W (by omega) hn (hb.trans (hBW.mono hb.size)) g1); have HG : Hid (W.heap[vb]? = some (.cells #[.func (.func fn) #[] cap] 146 (0, 0)) ∧ ¬ T0 vb ∧ w0.heap.size ≤ vb ∧ ∀ b, T b ↔ T0 b ∨ b = vb) := ⟨g2, g3, g4, g5⟩; obtain ⟨b0, b1⟩ := blk1 g2; have hcf := V.ent; clear hr hb hi hn hwl hwm hBW hq g1 g2 g3 g4 g5 V hM hM'
    go_enter Tryz.func139, Tryz.ntmps139
    go_wp2_with fail; refine HC.out.mono ?_; rintro e w4 ⟨rfl, hv4⟩; obtain ⟨T4, hi4, hk4, ht4⟩ := InvB.next HG.out.1 HG.out.2.1 HG.out.2.2.1 HG.out.2.2.2 hv4; (have HI4 : Hid (InvB w0 fn cap vb Inv (done ++ [(n, true, ws.length)]) T4 w4 ∧ Kept (fun b => ¬ T b) W w4 ∧ ∀ b, T4 b → T b ∨ W.heap.size ≤ b) := ⟨hi4, hk4, ht4⟩); have HB4 : Hid (Below w0.heap.size w0 w4) := vis_below HB0.out (HIW.out.lt HV.out) hk4; (have q4 := (hk4.block w.heap.size hs1 (fun h => by have := (HT.out _ h).2; omega)).trans HQ.out); clear a0 a1 a2 a3 hv4 hi4 hk4 ht4 b0 b1; obtain ⟨a0, a1, a2, a3⟩ := blk4L q4; clear q4
    go_wp2_with (first
      | (go_at_call 108
         (refine (HWd.out _ T4 _ (by have := HMx.out; rw [List.length_append, List.length_singleton]; omega) HB4.out HI4.out.1).mono ?_); rintro e w5 ⟨rfl, hv5⟩; (have HF : Hid (VEnd (InvB w0 fn cap vb Inv (done ++ bgE (.mk 1 n ws ks))) T w w5) := VEnd.pre HBW.out (VEnd.trans HI4.out.2.1 HI4.out.2.2 (by rw [HE.out, ← List.append_assoc]; exact hv5)))
         clear hv5)
      | fail)
    go_end0
    exact ⟨rfl, HF.out⟩
  · have hkJ : (k == 1) = false := by simpa using hk
    (have HE : Hid (bgE (.mk k n ws ks) = bgWl (prWs ws)) := by show _ = _; rw [bgE, if_neg hk, List.nil_append]); clear hr hb hi hn hwl hwm hBW hq V hM hM' hiW hk
    go_enter Tryz.func139, Tryz.ntmps139
    go_wp2_with (first
      | (go_at_call 108
         (refine (HWd.out _ T _ (by have := HMx.out; omega) HB0.out HIW.out).mono ?_); rintro e w5 ⟨rfl, hv5⟩; (have HF : Hid (VEnd (InvB w0 fn cap vb Inv (done ++ bgE (.mk k n ws ks))) T w w5) := VEnd.pre HBW.out (by rw [HE.out]; exact hv5))
         clear hv5)
      | fail)
    go_end0
    exact ⟨rfl, HF.out⟩
theorem bigE_visit (V : VisN w0 fn cap M Inv) (vb : Nat) : VisE w0 139 #[.pointer (some ⟨vb, 0, none⟩)] M (fun d => InvB w0 fn cap vb Inv (bgEl d)) where
  lt := fun h => InvB.lt V h
  stay := fun h hk => InvB.stay V h hk
  ent := fun v u w => bigE_in _ w
  call := fun done T x bd v ad cp w hl hbd hrep hk hn hb hi => by
    refine (bigE_any V vb (bgEl done) T x v _ w (by
      have h1 := bgEl_len done; obtain ⟨k, n, ws, ks⟩ := x; rw [Ex.size] at hl; show _ + (Wd.sizes ws + 1) ≤ M
      omega) hrep hb hi).mono ?_
    rintro e w' ⟨rfl, hv⟩; (refine ⟨rfl, VEnd.imp hv fun T' h => ?_⟩); show InvB _ _ _ _ _ _ _ _; rw [bgEl_app, bgEl, bgEl, List.append_nil]; exact h
theorem InvB.fin {vb : Nat} {d : List BgN} {T : Nat → Prop} {w W w5 : World} (hBW : Below w.heap.size w W) (hvb : w.heap.size ≤ vb) (hv : VEnd (InvB w0 fn cap vb Inv d) (fun b => T b ∨ b = vb) W w5) : VEnd (Inv d) T w w5 := by
  obtain ⟨T5, ⟨T6, i6, -, g3, -, g5⟩, hk5, ht5⟩ := hv; have hs := hBW.size; (refine ⟨T6, i6, ?_, fun b hb => ?_⟩)
  · refine ⟨hk5.os.trans hBW.os, hk5.tape.trans hBW.tape, hk5.output.trans hBW.output, Nat.le_trans hBW.size hk5.size, fun b hb hn => ?_⟩
    (rw [hk5.block b (by omega) (fun h => h.elim hn (fun e => by omega)), hBW.block b hb])
  · rcases ht5 b ((g5 b).2 (Or.inl hb)) with (h | h) | h
    · exact Or.inl h
    · exact Or.inr (by omega)
    · exact Or.inr (by omega)
set_option maxHeartbeats 4000000 in
theorem eachBig_any (hM : M ≤ 100000) (V : VisN w0 fn cap M Inv) (T : Nat → Prop) (x : Ex) (v : Value) (w : World) (hs : x.size ≤ M) (hrep : ERp w0 x v) (hb : Below w0.heap.size w0 w) (hi : Inv [] T w) :
    Calls Tryz.prog 91 #[v, .func (.func fn) #[] cap] w fun e w' => e = .returned (.tuple #[]) ∧ VEnd (Inv (bgEl (prE [] x))) T w w' := by
  have hT := V.lt hi; obtain ⟨W1, hW1⟩ : ∃ W, W = w.alloc (.cells #[v] 29 (0, 0)) := ⟨_, rfl⟩; obtain ⟨k, n, ws, ks⟩ := x; obtain ⟨sw, cw, sk, ck, rfl, -⟩ := ERp.def.1 hrep; obtain ⟨W, hWe⟩ : ∃ W, (w.alloc (.cells #[.int .i64 k, .string n, .slice sw ws.length cw, .slice sk ks.length ck] 29 (0, 0))).alloc (.cells #[.func (.func fn) #[] cap] 146 (0, 0)) = W := ⟨_, rfl⟩; (have hBW : Below w.heap.size w W := by rw [← hWe]; exact below_more (below_more (Below.refl _ _) _) _); (have hq : W.heap[w.heap.size]? = some (.cells #[.int .i64 k, .string n, .slice sw ws.length cw, .slice sk ks.length ck] 29 (0, 0)) := by rw [← hWe]; exact alloc_keep (blk_new _ _) _)
  have hq2 : W.heap[w.heap.size + 1]? = some (.cells #[.func (.func fn) #[] cap] 146 (0, 0)) := by
    have := blk_new (w.alloc (.cells #[.int .i64 k, .string n, .slice sw ws.length cw, .slice sk ks.length ck] 29 (0, 0))) (.cells #[.func (.func fn) #[] cap] 146 (0, 0)); rw [← hWe]; simpa using this
  have hiW : Inv [] T W := V.stay hi (kept_of_below hBW fun b _ h => by
    rcases h with h | h
    · exact (hT b h).2
    · have := hb.size; omega)
  have HE : Hid (Calls Tryz.prog 93 #[.agg #[.int .i64 k, .string n, .slice sw ws.length cw, .slice sk ks.length ck], .func (.func 139) #[] #[.pointer (some ⟨w.heap.size + 1, 0, none⟩)]] W fun e w' => e = .returned (.tuple #[]) ∧ VEnd (InvB w0 fn cap (w.heap.size + 1) Inv (bgEl (prE [] (.mk k n ws ks)))) (fun b => T b ∨ b = w.heap.size + 1) W w') :=
    eachE_any hM (bigE_visit V (w.heap.size + 1)) _ (.mk k n ws ks) _ W hs hrep (hb.trans (hBW.mono hb.size)) ⟨T, hiW, hq2, fun h => by have := (hT _ h).2; omega, by have := hb.size; omega, fun b => Iff.rfl⟩
  have HBW : Hid (Below w.heap.size w W) := hBW; have HT : Hid (∀ b, T b → w0.heap.size ≤ b ∧ b < w.heap.size) := hT; (have hmf : ∀ (fn : Fn) (first cap : Array Value) (w : World), (Instr.makeFunc fn first cap).run Tryz.prog w = .ok (.func fn first cap) w := fun _ _ _ _ => rfl); obtain ⟨a0, a1, a2, a3⟩ := blk4L hq; have hs1 := lt_of_block hq; clear hrep hb hi hs hBW hq hq2 hiW hT hW1 V
  go_enter Tryz.func91, Tryz.ntmps91
  go_wp2_with (first
    | (go_at_call 93
       refine HE.out.mono ?_; rintro e w5 ⟨rfl, hv5⟩; (have HF : Hid (VEnd (Inv (bgEl (prE [] (.mk k n ws ks)))) T w w5) := InvB.fin HBW.out (by omega) hv5)
       clear hv5)
    | fail)
  go_end0
  exact ⟨rfl, HF.out⟩
end
end Go.Proofs.YtblodnpfckflaakGreat
