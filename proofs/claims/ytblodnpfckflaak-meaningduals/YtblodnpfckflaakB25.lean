/- Texts of one proof, one behind the other: SM7, SM8. -/
import Derived.Test.YtblodnpfckflaakB24
/- Walks: nested: how many quantifiers stand in one another. -/
namespace Go.Proofs.Ytblodnpfckflaak
open Go.RowKit Go.Sort Go.Maps Go.WideMaps

def mxB : List (Ex × Bd) → Nat
  | [] => 0
  | p :: l => max p.2.length (mxB l)
theorem mxB_app : ∀ a b : List (Ex × Bd), mxB (a ++ b) = max (mxB a) (mxB b)
  | [], b => by rw [List.nil_append, mxB]; omega
  | p :: a, b => by rw [List.cons_append, mxB, mxB, mxB_app a b]; omega
/-- How many quantifiers stand in one another. -/
def nestN (x : Ex) : Nat := mxB (prE [] x)
def InvM (cb : Nat) (done : List (Ex × Bd)) (T : Nat → Prop) (w : World) : Prop := w.heap[cb]? = some (.cells #[.int .i64 (mxB done : Nat)] 3 (0, 0)) ∧ ∀ b, T b ↔ b = cb
set_option maxHeartbeats 2000000 in
theorem nested1_any (cb : Nat) (x : Ex) (v : Value) (w0 w : World) (hrep : ERp w0 x v) (ad : Option Addr) (cp l m : Nat) (hl : l ≤ 100000) (hm : m ≤ 100000) (h : w.heap[cb]? = some (.cells #[.int .i64 (m : Nat)] 3 (0, 0))) :
    Calls Try.prog 42 #[v, .slice ad l cp, .pointer (some ⟨cb, 0, none⟩)] w fun e w' => e = .returned (.tuple #[]) ∧ w'.heap[cb]? = some (.cells #[.int .i64 (max m l : Nat)] 3 (0, 0)) ∧ Kept (· ≠ cb) w w' := by
  obtain ⟨k, n, ws, ks⟩ := x; obtain ⟨sw, cw, sk, ck, rfl, -⟩ := ERp.def.1 hrep; have h1 := alloc_keep h (.cells #[.int .i64 k, .string n, .slice sw ws.length cw, .slice sk ks.length ck] 29 (0, 0)); obtain ⟨a0, a1⟩ := blk1 h1; have hcb := lt_of_block h; have H0 : Hid (w.heap[cb]? = some (.cells #[.int .i64 (m : Nat)] 3 (0, 0))) := h; (have hmx : max (m : Int) (l : Int) = ((max m l : Nat) : Int) := by omega); (have hlI : (l : Int) ≤ 100000 := by omega); (have hmI : (m : Int) ≤ 100000 := by omega); clear hrep h h1 hl hm; by_cases hlm : l ≤ m
  · have e : max m l = m := by omega
    (have hI : ¬ (m : Int) < (l : Int) := by omega); (have hI2 : (l : Int) ≤ (m : Int) := by omega); rw [e] at hmx ⊢; clear hlm e
    go_enter Try.func42, Try.ntmps42
    go_wp2_with fail
    go_end0
    (exact ⟨rfl, alloc_keep (set1 H0.out _) _, ((Kept.refl _ w).setCell (p := ⟨cb, 0, none⟩) (fun _ h => h rfl) _).alloc _⟩)
  · have e : max m l = l := by omega
    (have hI : (m : Int) < (l : Int) := by omega); (have hI2 : (m : Int) ≤ (l : Int) := by omega); rw [e] at hmx ⊢; clear hlm e
    go_enter Try.func42, Try.ntmps42
    go_wp2_with fail
    go_end0
    (exact ⟨rfl, alloc_keep (set1 H0.out _) _, ((Kept.refl _ w).setCell (p := ⟨cb, 0, none⟩) (fun _ h => h rfl) _).alloc _⟩)
theorem nested1_in (cap : Array Value) (w : World) : (callFunc 42 cap).run Try.prog w = .ok (.enter 42 cap) w := by
  simp [go_sem]
def InvM2 (M cb : Nat) (done : List (Ex × Bd)) (T : Nat → Prop) (w : World) : Prop := InvM cb done T w ∧ mxB done ≤ M
theorem nested_visit (w0 : World) (cb M : Nat) (hM : M ≤ 100000) (hcb : w0.heap.size ≤ cb) : VisE w0 42 #[.pointer (some ⟨cb, 0, none⟩)] M (InvM2 M cb) where
  lt := fun h b hb => by
    have e := (h.1.2 b).1 hb; subst e; exact ⟨hcb, lt_of_block h.1.1⟩
  stay := fun h hk => ⟨⟨(hk.block _ (lt_of_block h.1.1) (Or.inl ((h.1.2 _).2 rfl))).trans h.1.1, h.1.2⟩, h.2⟩
  ent := fun v u w => nested1_in _ w
  call := fun done T x bd v ad cp w hl hbd hrep hk hn hb hi => by
    (refine (nested1_any cb x v w0 w hrep ad cp bd.length (mxB done) (by omega) (by have := hi.2; omega) hi.1.1).mono ?_); rintro e w' ⟨rfl, h1, h2⟩; (have e : mxB (done ++ [(x, bd)]) = max (mxB done) bd.length := by rw [mxB_app, mxB, mxB]; simp); (refine ⟨rfl, T, ⟨⟨by rw [e]; exact h1, hi.1.2⟩, by have := hi.2; omega⟩, h2.mono fun b _ h e => h ((hi.1.2 b).2 e), fun b h => Or.inl h⟩)
set_option maxHeartbeats 2000000 in
theorem nested_any (x : Ex) (v : Value) (w : World) (hs : x.size ≤ 100000) (hrep : ERp w x v) :
    Calls Try.prog 23 #[v] w fun e w' => e = .returned (.int .i64 (nestN x : Nat)) ∧ Below w.heap.size w w' := by
  have HE : Hid (∀ W, Below w.heap.size w W → w.heap.size ≤ W.heap.size → Calls Try.prog 41 #[v, .func (.func 42) #[] #[.pointer (some ⟨W.heap.size, 0, none⟩)]] (W.alloc (.cells #[.int .i64 0] 3 (0, 0))) fun e w' => e = .returned (.tuple #[]) ∧ VEnd (InvM2 100000 W.heap.size (prE [] x)) (fun b => b = W.heap.size) (W.alloc (.cells #[.int .i64 0] 3 (0, 0))) w') := fun W h1 h2 =>
    eachE_any (by omega) (nested_visit w W.heap.size 100000 (Nat.le_refl _) h2) _ x v _ hs hrep (below_more h1 _) ⟨⟨blk_new _ _, fun b => Iff.rfl⟩, by rw [mxB]; omega⟩
  (have hmf : ∀ (fn : Fn) (first cap : Array Value) (w : World), (Instr.makeFunc fn first cap).run Try.prog w = .ok (.func fn first cap) w := fun _ _ _ _ => rfl); obtain ⟨k, n, ws, ks⟩ := x; obtain ⟨sw, cw, sk, ck, rfl, -⟩ := ERp.def.1 hrep; have hq0 := blk_new w (.cells #[.int .i64 k, .string n, .slice sw ws.length cw, .slice sk ks.length ck] 29 (0, 0)); have HB : Hid (Below w.heap.size w (w.alloc (.cells #[.int .i64 k, .string n, .slice sw ws.length cw, .slice sk ks.length ck] 29 (0, 0)))) := below_more (Below.refl w.heap.size w) _; have hq1 := alloc_keep hq0 (.cells #[.int .i64 0] 3 (0, 0)); obtain ⟨b0, b1, b2, b3⟩ := blk4L hq1; have HEw := HE.out _ HB.out HB.out.size; have HEv : Hid (Calls Try.prog 41 _ _ _) := HEw; (rw [show (w.alloc (.cells #[.int .i64 k, .string n, .slice sw ws.length cw, .slice sk ks.length ck] 29 (0, 0))).heap.size = w.heap.size + 1 by simp] at HEv); clear hs hrep HE HEw hq0 hq1
  go_enter Try.func23, Try.ntmps23
  go_wp2_with (first
    | (go_at_call 41
       refine HEv.out.mono ?_; rintro e w2 ⟨rfl, T', ⟨⟨h1, -⟩, -⟩, hk, -⟩; (have HK : Hid (Below w.heap.size w w2) := (below_more HB.out _).trans (hk.below (by simp; omega) fun b hb e => by omega)); obtain ⟨k0, k1⟩ := blk1 h1
       clear h1 hk)
    | fail)
  go_ret; exact ⟨rfl, HK.out⟩
end Go.Proofs.Ytblodnpfckflaak
/- Walks: hasMeanings. -/
namespace Go.Proofs.Ytblodnpfckflaak
open Go.RowKit Go.Sort Go.Maps Go.WideMaps

/-- A big name as it stands there: it, whether as a predicate, with how many places. -/
abbrev BgN := ByteArray × Bool × Nat
def okN (V : VwD) (x : BgN) : Bool := if x.2.1 then (match V.pd x.1.data.toList with | some q => q.ar == (x.2.2 : Int) | none => false) else (match V.fn x.1.data.toList with | some q => q.ar == (x.2.2 : Int) | none => false)
set_option maxRecDepth 10000 in
set_option maxHeartbeats 4000000 in
theorem means1_any (V : VwD) (va : Vals) (w0 w : World) (bf bp bv c vb hb : Nat) (nm : ByteArray) (hn : nm.size ≤ maxLen) (p : Bool) (l : Nat) (h0 : Bool) (hA : VwA w0 V va bf bp bv c w) (hv : w.heap[vb]? = some (.cells #[.int .i64 (V.n : Nat), .map (some bf), .map (some bp), .map (some bv)] 57 (0, 0))) (hh : w.heap[hb]? = some (.cells #[.bool h0] 4 (0, 0))) :
    Calls Try.prog 40 #[.string nm, .bool p, .int .i64 (l : Nat), .pointer (some ⟨vb, 0, none⟩), .pointer (some ⟨hb, 0, none⟩)] w fun e w' => e = .returned (.tuple #[]) ∧ w'.heap[hb]? = some (.cells #[.bool (h0 && okN V (nm, p, l))] 4 (0, 0)) ∧ Kept (· ≠ hb) w w' := by
  have H0 : Hid (w.heap[hb]? = some (.cells #[.bool h0] 4 (0, 0))) := hh; (have HF : Hid (∀ b o, Kept (· ≠ hb) w ((w.setCell ⟨hb, 0, none⟩ b).alloc o)) := fun b o => ((Kept.refl _ w).setCell (p := ⟨hb, 0, none⟩) (fun _ h => h rfl) _).alloc _); obtain ⟨a0, a1, a2, a3⟩ := blk4L hv; obtain ⟨b0, b1⟩ := blk1 hh; have hl1 := lt_of_block hv; have hl2 := lt_of_block hh; (have hne : hb ≠ vb := fun e => by rw [e, hv] at hh; simp at hh)
  cases p
  · obtain ⟨mu, kk, hg, hmu⟩ := hA.fn
    have hlk := hg.lookOk (okT_of hn) Try.underlying53 zeroFn 0; rw [str_eta] at hlk; have hm0 := hmu nm.data.toList (okT_of hn)
    rcases hf : V.fn nm.data.toList with _ | f
    · rw [hf] at hm0
      have hlk0 : (Instr.lookup 53 (.map (some bf)) (.string nm) true).run Try.prog w = .ok (.tuple #[.agg #[.string ⟨#[]⟩, .int .i64 0, .slice none 0 0], .bool false]) w := by
        have h9 := hlk; rw [show mu nm.data.toList = none from hm0] at h9; exact h9
      (have HR : Hid ((h0 && okN V (nm, false, l)) = false) := by show _ = _; unfold okN; simp [hf]); clear hA hv hh hg hmu hlk hm0 hf hn
      cases h0
      all_goals
        go_enter Try.func40, Try.ntmps40
        go_wp2_with fail
        go_end0
        (exact ⟨rfl, by rw [HR.out]; exact alloc_keep (set1 H0.out _) _, HF.out _ _⟩)
    · rw [hf] at hm0
      obtain ⟨vf, e1, sf, cf, rfl, -, -⟩ := hm0
      have hlk0 : (Instr.lookup 53 (.map (some bf)) (.string nm) true).run Try.prog w = .ok (.tuple #[.agg #[.string f.nm, .int .i64 f.ar, .slice sf f.tab.length cf], .bool true]) w := by
        have h9 := hlk; rw [e1] at h9; exact h9
      (have HR : Hid ((h0 && okN V (nm, false, l)) = (h0 && (f.ar == (l : Int)))) := by show _ = _; unfold okN; simp [hf]); clear hA hv hh hg hmu hlk e1 hf hn; generalize hE : (f.ar == (l : Int)) = eb at *
      cases h0
      all_goals cases eb
      all_goals
        go_enter Try.func40, Try.ntmps40
        go_wp2_with fail
        go_end0
        (exact ⟨rfl, by rw [HR.out]; exact alloc_keep (set1 H0.out _) _, HF.out _ _⟩)
  · obtain ⟨mu, kk, hg, hmu⟩ := hA.pd
    have hlk := hg.lookOk (okT_of hn) Try.underlying54 zeroPd 0; rw [str_eta] at hlk; have hm0 := hmu nm.data.toList (okT_of hn)
    rcases hf : V.pd nm.data.toList with _ | f
    · rw [hf] at hm0
      have hlk0 : (Instr.lookup 54 (.map (some bp)) (.string nm) true).run Try.prog w = .ok (.tuple #[.agg #[.string ⟨#[]⟩, .int .i64 0, .slice none 0 0], .bool false]) w := by
        have h9 := hlk; rw [show mu nm.data.toList = none from hm0] at h9; exact h9
      (have HR : Hid ((h0 && okN V (nm, true, l)) = false) := by show _ = _; unfold okN; simp [hf]); clear hA hv hh hg hmu hlk hm0 hf hn
      cases h0
      all_goals
        go_enter Try.func40, Try.ntmps40
        go_wp2_with fail
        go_end0
        (exact ⟨rfl, by rw [HR.out]; exact alloc_keep (set1 H0.out _) _, HF.out _ _⟩)
    · rw [hf] at hm0
      obtain ⟨vf, e1, sf, cf, rfl, -, -⟩ := hm0
      have hlk0 : (Instr.lookup 54 (.map (some bp)) (.string nm) true).run Try.prog w = .ok (.tuple #[.agg #[.string f.nm, .int .i64 f.ar, .slice sf f.bits.length cf], .bool true]) w := by
        have h9 := hlk; rw [e1] at h9; exact h9
      (have HR : Hid ((h0 && okN V (nm, true, l)) = (h0 && (f.ar == (l : Int)))) := by show _ = _; unfold okN; simp [hf]); clear hA hv hh hg hmu hlk e1 hf hn; generalize hE : (f.ar == (l : Int)) = eb at *
      cases h0
      all_goals cases eb
      all_goals
        go_enter Try.func40, Try.ntmps40
        go_wp2_with fail
        go_end0
        (exact ⟨rfl, by rw [HR.out]; exact alloc_keep (set1 H0.out _) _, HF.out _ _⟩)
end Go.Proofs.Ytblodnpfckflaak
