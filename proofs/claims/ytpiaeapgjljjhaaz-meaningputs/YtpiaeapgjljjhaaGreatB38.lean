/- Texts of one proof, one behind the other: SN9, SO0. -/
import Derived.Test.YtpiaeapgjljjhaaGreatB36
/- Walks: meaning.Check. -/
namespace Go.Proofs.YtpiaeapgjljjhaaGreat
open Go.RowKit Go.Sort Go.Maps Go.WideMaps

/-- What Check says of a structure. -/
def stcode (s : StD) : Int × Int := if 1 ≤ s.n ∧ s.n ≤ 8 ∧ s.funs.length ≤ 10 ∧ s.preds.length ≤ 10 then lscode s.n.toNat s else (2, 0)
set_option maxRecDepth 10000 in
set_option maxHeartbeats 8000000 in
theorem stCheck_any (s : StD) (v : Value) (w : World) (hS : StR w s v) :
    Calls Tryz.prog 74 #[v] w fun e w' => e = .returned (.agg #[.int .i64 (stcode s).1, .int .i64 (stcode s).2]) ∧ Below w.heap.size w w' := by
  have hS' := hS; obtain ⟨af, cf, ap, cp, rfl, hF, hP⟩ := hS; obtain ⟨W, hWe⟩ : ∃ W, (w.alloc (.cells #[.int .i64 s.n, .slice af s.funs.length cf, .slice ap s.preds.length cp] 62 (0, 0))).alloc (.cells #[.int .i64 0, .int .i64 0] 30 (0, 0)) = W := ⟨_, rfl⟩; (have hBW : Below w.heap.size w W := by rw [← hWe]; exact below_more (below_more (Below.refl _ _) _) _); (have hq0 : W.heap[w.heap.size]? = some (.cells #[.int .i64 s.n, .slice af s.funs.length cf, .slice ap s.preds.length cp] 62 (0, 0)) := by rw [← hWe]; exact alloc_keep (blk_new _ _) _)
  have hq1 : W.heap[w.heap.size + 1]? = some (.cells #[.int .i64 0, .int .i64 0] 30 (0, 0)) := by
    have := blk_new (w.alloc (.cells #[.int .i64 s.n, .slice af s.funs.length cf, .slice ap s.preds.length cp] 62 (0, 0))) (.cells #[.int .i64 0, .int .i64 0] 30 (0, 0)); rw [← hWe]; simpa using this
  have HBW : Hid (Below w.heap.size w W) := hBW; have HQ1 : Hid (W.heap[w.heap.size + 1]? = some (.cells #[.int .i64 0, .int .i64 0] 30 (0, 0))) := hq1; have hSW := hS'.up hBW; (have hfm : s.funs.length ≤ maxLen := by obtain ⟨_, _, e, h1, h2, _⟩ := hF; omega); (have hpm : s.preds.length ≤ maxLen := by obtain ⟨_, _, e, h1, h2, _⟩ := hP; omega); (have hfI : ((s.funs.length : Nat) : Int) ≤ 9223372036854775807 := by unfold maxLen at hfm; omega); (have hpI : ((s.preds.length : Nat) : Int) ≤ 9223372036854775807 := by unfold maxLen at hpm; omega); obtain ⟨a0, a1, a2, -⟩ := blk3 hq0; obtain ⟨k1, k2, k3, k4⟩ := blk2 hq1; have hs1 := lt_of_block hq0; have hs2 := lt_of_block hq1; by_cases hok : 1 ≤ s.n ∧ s.n ≤ 8 ∧ s.funs.length ≤ 10 ∧ s.preds.length ≤ 10
  case neg =>
    (have hE : stcode s = (2, 0) := by unfold stcode; rw [if_neg hok]); rw [hE]; clear hE hfm hpm hSW hS' hF hP hBW hq0 hq1; by_cases h1 : s.n < 1
    · clear hok
      go_enter Tryz.func74, Tryz.ntmps74
      go_wp2_with fail; have f2 := set2 HQ1.out (.int .i64 2) (.int .i64 0); (have b2 := (HBW.out.setCell (p := ⟨w.heap.size + 1, 0, none⟩) (by simp) (.int .i64 2)).setCell (p := ⟨w.heap.size + 1, 1, none⟩) (by simp) (.int .i64 0)); generalize World.setCell _ _ _ = F at f2 b2 ⊢; clear k1 k2 k3 k4; obtain ⟨k1, k2, -⟩ := blk2 f2; (exact bodyPost_ret (v := .agg #[.int .i64 2, .int .i64 0]) (by simp [results, Tryz.results74, go_sem, k1, k2]) rfl ⟨rfl, b2⟩)
    by_cases h8 : 8 < s.n
    · clear hok
      go_enter Tryz.func74, Tryz.ntmps74
      go_wp2_with fail; have f2 := set2 HQ1.out (.int .i64 2) (.int .i64 0); (have b2 := (HBW.out.setCell (p := ⟨w.heap.size + 1, 0, none⟩) (by simp) (.int .i64 2)).setCell (p := ⟨w.heap.size + 1, 1, none⟩) (by simp) (.int .i64 0)); generalize World.setCell _ _ _ = F at f2 b2 ⊢; clear k1 k2 k3 k4; obtain ⟨k1, k2, -⟩ := blk2 f2; (exact bodyPost_ret (v := .agg #[.int .i64 2, .int .i64 0]) (by simp [results, Tryz.results74, go_sem, k1, k2]) rfl ⟨rfl, b2⟩)
    by_cases hle : s.preds.length ≤ s.funs.length
    · have hle1 : (s.preds.length : Int) ≤ (s.funs.length : Int) := by omega
      (have hle2 : ¬ (s.funs.length : Int) < (s.preds.length : Int) := by omega); (have hmx : max (s.funs.length : Int) (s.preds.length : Int) = (s.funs.length : Int) := by omega); (have h10 : (10 : Int) < (s.funs.length : Int) := by omega); clear hok hle
      go_enter Tryz.func74, Tryz.ntmps74
      go_wp2_with fail; have f2 := set2 HQ1.out (.int .i64 2) (.int .i64 0); (have b2 := (HBW.out.setCell (p := ⟨w.heap.size + 1, 0, none⟩) (by simp) (.int .i64 2)).setCell (p := ⟨w.heap.size + 1, 1, none⟩) (by simp) (.int .i64 0)); generalize World.setCell _ _ _ = F at f2 b2 ⊢; clear k1 k2 k3 k4; obtain ⟨k1, k2, -⟩ := blk2 f2; (exact bodyPost_ret (v := .agg #[.int .i64 2, .int .i64 0]) (by simp [results, Tryz.results74, go_sem, k1, k2]) rfl ⟨rfl, b2⟩)
    · have hle1 : (s.funs.length : Int) < (s.preds.length : Int) := by omega
      (have hle2 : (s.funs.length : Int) ≤ (s.preds.length : Int) := by omega); (have hmx : max (s.funs.length : Int) (s.preds.length : Int) = (s.preds.length : Int) := by omega); (have h10 : (10 : Int) < (s.preds.length : Int) := by omega); clear hok hle
      go_enter Tryz.func74, Tryz.ntmps74
      go_wp2_with fail; have f2 := set2 HQ1.out (.int .i64 2) (.int .i64 0); (have b2 := (HBW.out.setCell (p := ⟨w.heap.size + 1, 0, none⟩) (by simp) (.int .i64 2)).setCell (p := ⟨w.heap.size + 1, 1, none⟩) (by simp) (.int .i64 0)); generalize World.setCell _ _ _ = F at f2 b2 ⊢; clear k1 k2 k3 k4; obtain ⟨k1, k2, -⟩ := blk2 f2; (exact bodyPost_ret (v := .agg #[.int .i64 2, .int .i64 0]) (by simp [results, Tryz.results74, go_sem, k1, k2]) rfl ⟨rfl, b2⟩)
  obtain ⟨o1, o2, o3, o4⟩ := hok; (have hE : stcode s = lscode s.n.toNat s := by unfold stcode; rw [if_pos ⟨o1, o2, o3, o4⟩])
  have HL : Hid (Calls Tryz.prog 117 #[.agg #[.int .i64 s.n, .slice af s.funs.length cf, .slice ap s.preds.length cp]] W fun e w' => e = .returned (.agg #[.int .i64 (stcode s).1, .int .i64 (stcode s).2]) ∧ Below W.heap.size W w') := by
    show Calls _ _ _ _ _; rw [hE]; (exact listsFault_any s.n.toNat (by omega) s (by omega) _ W hSW o3 o4)
  generalize stcode s = E at *; obtain ⟨cc, aa⟩ := E; (have h8 : ¬ 8 < s.n := by omega); (have h1 : ¬ s.n < 1 := by omega); (have hmxx : ¬ (10 : Int) < max (s.funs.length : Int) (s.preds.length : Int) := by omega); by_cases hle : s.preds.length ≤ s.funs.length
  · have hle1 : (s.preds.length : Int) ≤ (s.funs.length : Int) := by omega
    (have hle2 : ¬ (s.funs.length : Int) < (s.preds.length : Int) := by omega); (have hmx : max (s.funs.length : Int) (s.preds.length : Int) = (s.funs.length : Int) := by omega); (have h10 : ¬ (10 : Int) < (s.funs.length : Int) := by omega); clear hle hE hfm hpm hSW hS' hF hP hBW hq0 hq1 o3 o4 hmxx
    go_enter Tryz.func74, Tryz.ntmps74
    go_wp2_with (first
      | (go_at_call 117
         refine HL.out.mono ?_; rintro e w4 ⟨rfl, hb4⟩; have HB4 : Hid (Below w.heap.size w w4) := below_join HBW.out hb4; have HQ4 : Hid (w4.heap[w.heap.size + 1]? = some (.cells #[.int .i64 0, .int .i64 0] 30 (0, 0))) := below_keep hb4 HQ1.out; clear k1 k2 k3 k4 hb4
         obtain ⟨k1, k2, k3, k4⟩ := blk2 HQ4.out)
      | fail)
    have f2 := set2 HQ4.out (.int .i64 cc) (.int .i64 aa); (have b2 := (HB4.out.setCell (p := ⟨w.heap.size + 1, 0, none⟩) (by simp) (.int .i64 cc)).setCell (p := ⟨w.heap.size + 1, 1, none⟩) (by simp) (.int .i64 aa)); generalize World.setCell _ _ _ = F at f2 b2 ⊢; clear k1 k2 k3 k4; obtain ⟨k1, k2, -⟩ := blk2 f2; (exact bodyPost_ret (v := .agg #[.int .i64 cc, .int .i64 aa]) (by simp [results, Tryz.results74, go_sem, k1, k2]) rfl ⟨rfl, b2⟩)
  · have hle1 : (s.funs.length : Int) < (s.preds.length : Int) := by omega
    (have hle2 : (s.funs.length : Int) ≤ (s.preds.length : Int) := by omega); (have hmx : max (s.funs.length : Int) (s.preds.length : Int) = (s.preds.length : Int) := by omega); (have h10 : ¬ (10 : Int) < (s.preds.length : Int) := by omega); clear hle hE hfm hpm hSW hS' hF hP hBW hq0 hq1 o3 o4 hmxx
    go_enter Tryz.func74, Tryz.ntmps74
    go_wp2_with (first
      | (go_at_call 117
         refine HL.out.mono ?_; rintro e w4 ⟨rfl, hb4⟩; have HB4 : Hid (Below w.heap.size w w4) := below_join HBW.out hb4; have HQ4 : Hid (w4.heap[w.heap.size + 1]? = some (.cells #[.int .i64 0, .int .i64 0] 30 (0, 0))) := below_keep hb4 HQ1.out; clear k1 k2 k3 k4 hb4
         obtain ⟨k1, k2, k3, k4⟩ := blk2 HQ4.out)
      | fail)
    have f2 := set2 HQ4.out (.int .i64 cc) (.int .i64 aa); (have b2 := (HB4.out.setCell (p := ⟨w.heap.size + 1, 0, none⟩) (by simp) (.int .i64 cc)).setCell (p := ⟨w.heap.size + 1, 1, none⟩) (by simp) (.int .i64 aa)); generalize World.setCell _ _ _ = F at f2 b2 ⊢; clear k1 k2 k3 k4; obtain ⟨k1, k2, -⟩ := blk2 f2; (exact bodyPost_ret (v := .agg #[.int .i64 cc, .int .i64 aa]) (by simp [results, Tryz.results74, go_sem, k1, k2]) rfl ⟨rfl, b2⟩)
end Go.Proofs.YtpiaeapgjljjhaaGreat
/- Plain: what Check and hasMeanings say of an expression in a structure. -/
namespace Go.Proofs.YtpiaeapgjljjhaaGreat
open Go.RowKit Go.Sort Go.Maps Go.WideMaps

mutual
def EOk : Ex → Prop
  | .mk k n ws ks => enodeF k n ws.length ks.length = none ∧ EOks ks
def EOks : List Ex → Prop
  | [] => True
  | x :: xs => EOk x ∧ EOks xs
end
mutual
theorem echk_eok : ∀ (x : Ex) (s : Nat) (p f : PlF) (s' : Nat) (p' f' : PlF), echk x s p f = .ok s' p' f' → EOk x
  | .mk k n ws ks, s, p, f, s', p', f', h => by
    rw [echk] at h
    split at h
    · cases h
    · split at h
      · cases h
      · rename_i hn
        split at h
        · cases h
        · split at h
          · cases h
          · rw [EOk]
            exact ⟨hn, echks_eok ks _ _ _ _ _ _ h⟩
theorem echks_eok : ∀ (l : List Ex) (s : Nat) (p f : PlF) (s' : Nat) (p' f' : PlF), echks l s p f = .ok s' p' f' → EOks l
  | [], _, _, _, _, _, _, _ => by rw [EOks]; trivial
  | x :: xs, s, p, f, s', p', f', h => by
    rw [echks] at h
    split at h
    · cases h
    · rename_i h1
      rw [EOks]; exact ⟨echk_eok x _ _ _ _ _ _ h1, echks_eok xs _ _ _ _ _ _ h⟩
end
theorem enode_kids {k : Int} {n : ByteArray} {wl kl : Nat} (h : enodeF k n wl kl = none) : ekindB k = true ∧ ewordsB k wl = true ∧ (kl : Int) = ekidsN k ∧ enameB k n.data.toList = true := by
  unfold enodeF at h
  split at h
  · cases h
  · rename_i h1
    split at h
    · cases h
    · rename_i h2
      split at h
      · cases h
      · rename_i h3
        (refine ⟨by simpa using h1, ?_, ?_, by simpa using h3⟩)
        · rcases hb : ewordsB k wl with _ | _
          · exact absurd (Or.inl hb) h2
          · rfl
        · exact Classical.byContradiction fun e => h2 (Or.inr e)
mutual
theorem wmn_of {V : VwD} (hb : ∀ t f, V.fn t = some f → isBg t = true) : ∀ x : Wd, (∀ b ∈ bgWl (prW x), okN V b = true) → WMn V x
  | .mk n ar, h => by
    rw [WMn]; intro f hf; rw [prW, bgWl, if_pos (hb _ f hf)] at h; (have h1 := h (n, false, ar.length) (by simp)); unfold okN at h1; simp only [Bool.false_eq_true, if_false, hf] at h1; (exact ⟨by simpa using h1, wmns_of hb ar fun b hm => h b (by simp [hm])⟩)
theorem wmns_of {V : VwD} (hb : ∀ t f, V.fn t = some f → isBg t = true) : ∀ l : List Wd, (∀ b ∈ bgWl (prWs l), okN V b = true) → WMns V l
  | [], _ => by rw [WMns]; trivial
  | x :: xs, h => by
    rw [prWs, bgWl_app] at h; rw [WMns]; (exact ⟨wmn_of hb x fun b hm => h b (List.mem_append.2 (Or.inl hm)), wmns_of hb xs fun b hm => h b (List.mem_append.2 (Or.inr hm))⟩)
end
mutual
theorem emn_of {V : VwD} (hb : ∀ t f, V.fn t = some f → isBg t = true) : ∀ (bd : Bd) (x : Ex), EOk x → (∀ b ∈ bgEl (prE bd x), okN V b = true) → EMn V x
  | bd, .mk k n ws ks, ho, h => by
    rw [EOk] at ho; obtain ⟨g1, g2, g3, g4⟩ := enode_kids ho.1; rw [prE, bgEl] at h; (have hx : ∀ b ∈ bgE (.mk k n ws ks), okN V b = true := fun b hm => h b (List.mem_append.2 (Or.inl hm))); rw [bgE] at hx; rw [EMn]; (refine ⟨fun e => ?_, fun e => ?_, fun e => ?_, fun e => ?_, wmns_of hb ws fun b hm => hx b (List.mem_append.2 (Or.inr hm)), emns_of hb (bdIn bd k n) ks ho.2 fun b hm => h b (List.mem_append.2 (Or.inr hm))⟩)
    · have h1 := hx (n, true, ws.length) (by rw [if_pos e]; simp)
      unfold okN at h1; simp only [if_true] at h1
      rcases hp : V.pd n.data.toList with _ | p
      · rw [hp] at h1; simp at h1
      · rw [hp] at h1
        (exact ⟨p, rfl, by simpa using h1⟩)
    · subst e
      unfold ewordsB at g2; simpa using g2
    · unfold ekidsN at g3
      rw [if_pos e] at g3; omega
    · unfold ekidsN at g3
      (rw [if_neg (by omega), if_pos e] at g3); omega
theorem emns_of {V : VwD} (hb : ∀ t f, V.fn t = some f → isBg t = true) : ∀ (bd : Bd) (l : List Ex), EOks l → (∀ b ∈ bgEl (prEs bd l), okN V b = true) → EMns V l
  | _, [], _, _ => by rw [EMns]; trivial
  | bd, x :: xs, ho, h => by
    rw [EOks] at ho; rw [prEs, bgEl_app] at h; rw [EMns]; (exact ⟨emn_of hb bd x ho.1 fun b hm => h b (List.mem_append.2 (Or.inl hm)), emns_of hb bd xs ho.2 fun b hm => h b (List.mem_append.2 (Or.inr hm))⟩)
end
mutual
def dq : Ex → Nat
  | .mk k _ _ ks => if quanB k = true then dqs ks + 1 else dqs ks
def dqs : List Ex → Nat
  | [] => 0
  | x :: xs => max (dq x) (dqs xs)
end
theorem quan_one {k : Int} {n : ByteArray} {wl kl : Nat} (h : enodeF k n wl kl = none) (hq : quanB k = true) : kl = 1 := by
  obtain ⟨-, -, g3, -⟩ := enode_kids h; unfold ekidsN at g3; unfold quanB at hq; (have : k = 9 ∨ k = 10 := by simpa using hq); rw [if_pos (Or.inr this)] at g3; omega
mutual
theorem dq_le : ∀ (bd : Bd) (x : Ex), EOk x → bd.length + dq x ≤ mxB (prE bd x)
  | bd, .mk k n ws ks, ho => by
    rw [EOk] at ho; rw [prE, mxB, dq]
    rcases hq : quanB k with _ | _
    · rw [if_neg (by simp)]
      (have e : bdIn bd k n = bd := by unfold bdIn; rw [hq]; rfl); rw [e]
      rcases ks with _ | ⟨x, xs⟩
      · rw [dqs]; show bd.length + 0 ≤ max bd.length _; omega
      · have := dqs_le bd (x :: xs) ho.2 (by simp)
        show _ ≤ max bd.length _; omega
    · rw [if_pos rfl]
      (have e : bdIn bd k n = bd ++ [n.data.toList] := by unfold bdIn; rw [hq]; rfl); rw [e]; have h1 := quan_one ho.1 hq; (have := dqs_le (bd ++ [n.data.toList]) ks ho.2 (fun e2 => by rw [e2] at h1; simp at h1)); rw [List.length_append, List.length_singleton] at this; show _ ≤ max bd.length _; omega
theorem dqs_le : ∀ (bd : Bd) (l : List Ex), EOks l → l ≠ [] → bd.length + dqs l ≤ mxB (prEs bd l)
  | _, [], _, h => absurd rfl h
  | bd, x :: xs, ho, _ => by
    rw [EOks] at ho; rw [prEs, mxB_app, dqs]; have h1 := dq_le bd x ho.1
    rcases xs with _ | ⟨y, ys⟩
    · rw [dqs]; omega
    · have h2 := dqs_le bd (y :: ys) ho.2 (by simp)
      omega
end
theorem pow10 {a b : Nat} (h : a ≤ b) : 10 ^ a ≤ 10 ^ b := Nat.pow_le_pow_right (by omega) h
mutual
theorem ecost_le {N : Nat} (hN : N ≤ 8) : ∀ x : Ex, EOk x → ecost N x + 1 ≤ x.size * 10 ^ dq x
  | .mk k n ws ks, ho => by
    rw [EOk] at ho; have h1 := ecosts_le hN ks ho.2; rw [ecost, dq, Ex.size]
    rcases hq : quanB k with _ | _
    · rw [if_neg (by simp), if_neg (by simp)]
      (have hp : 0 < 10 ^ dqs ks := Nat.pow_pos (by omega)); rw [Nat.add_mul, Nat.add_mul, Nat.one_mul]; omega
    · rw [if_pos rfl, if_pos rfl, Nat.pow_succ]
      have h2 := quan_one ho.1 hq; rw [h2] at h1; (have hp : 0 < 10 ^ dqs ks := Nat.pow_pos (by omega)); have h3 : N * (ecosts N ks + 1) ≤ 8 * (Ex.sizes ks * 10 ^ dqs ks) := Nat.mul_le_mul hN h1
      have h4 : (Wd.sizes ws + Ex.sizes ks + 1) * (10 ^ dqs ks * 10) = (Wd.sizes ws * 10 ^ dqs ks) * 10 + (Ex.sizes ks * 10 ^ dqs ks) * 10 + 10 ^ dqs ks * 10 := by
        rw [Nat.add_mul, Nat.add_mul, Nat.one_mul, Nat.mul_assoc, Nat.mul_assoc]
      rw [h4]; omega
theorem ecosts_le {N : Nat} (hN : N ≤ 8) : ∀ l : List Ex, EOks l → ecosts N l + l.length ≤ Ex.sizes l * 10 ^ dqs l
  | [], _ => by rw [ecosts, Ex.sizes]; simp
  | x :: xs, ho => by
    rw [EOks] at ho; have h1 := ecost_le hN x ho.1; have h2 := ecosts_le hN xs ho.2; rw [ecosts, Ex.sizes, dqs, List.length_cons, Nat.add_mul]; (have h3 : x.size * 10 ^ dq x ≤ x.size * 10 ^ max (dq x) (dqs xs) := Nat.mul_le_mul_left _ (pow10 (by omega))); (have h4 : Ex.sizes xs * 10 ^ dqs xs ≤ Ex.sizes xs * 10 ^ max (dq x) (dqs xs) := Nat.mul_le_mul_left _ (pow10 (by omega))); omega
end
/-- What isTrue costs is bounded, where quantifiers do not nest too deep. -/
theorem ecost_bound {N : Nat} (hN : N ≤ 8) {x : Ex} (ho : EOk x) (hs : x.size ≤ 200) (hn : nestN x ≤ 6) : ecost N x ≤ 200000000 := by
  have h1 := ecost_le hN x ho; have h2 := dq_le [] x ho
  have h3 : dq x ≤ 6 := by
    unfold nestN at hn; simp only [List.length_nil, Nat.zero_add] at h2; omega
  have h4 : x.size * 10 ^ dq x ≤ 200 * 10 ^ 6 := Nat.mul_le_mul hs (pow10 h3); (have h5 : 200 * 10 ^ 6 = 200000000 := by decide); omega
/-- What lists that are fine say of each. -/
theorem lk_none {N : Nat} {sn : Bool} {nm : List UInt8} {ar : Int} {fl : Nat} (h : lkF N sn nm ar fl = none) : isBg nm = true ∧ 0 ≤ ar ∧ ar ≤ 3 ∧ fl = N ^ ar.toNat := by
  unfold lkF at h
  split at h
  · cases h
  · rename_i h1
    split at h
    · cases h
    · rename_i h2
      split at h
      · cases h
      · rename_i h3
        (refine ⟨?_, by omega, by omega, Classical.byContradiction h3⟩)
        rcases hb : isBg nm with _ | _
        · exact absurd (Or.inr hb) h1
        · rfl
theorem fnf_none {N : Nat} : ∀ (l : List FnD) (i : Nat) (sn : List (List UInt8)), cfF N i sn l = none → ∀ f ∈ l, isBg f.nm.data.toList = true ∧ 0 ≤ f.ar ∧ f.ar ≤ 3 ∧ f.tab.length = N ^ f.ar.toNat ∧ ∀ y ∈ f.tab, thingB N y = true
  | [], _, _, _, f, h => by cases h
  | g :: l, i, sn, h, f, hm => by
    rw [cfF] at h
    split at h
    · cases h
    · rename_i h1
      split at h
      · cases h
      · rename_i h2
        rcases List.mem_cons.1 hm with rfl | hm
        · obtain ⟨a, b, c, d⟩ := lk_none h1
          (refine ⟨a, b, c, d, fun y hy => ?_⟩)
          rcases hb : thingB N y with _ | _
          · exact absurd (List.any_eq_true.2 ⟨y, hy, by rw [hb]; rfl⟩) h2
          · rfl
        · exact fnf_none l _ _ h f hm
theorem pdf_none {N : Nat} : ∀ (l : List PdD) (i : Nat) (sn : List (List UInt8)), pfF N i sn l = none → ∀ f ∈ l, isBg f.nm.data.toList = true ∧ 0 ≤ f.ar ∧ f.ar ≤ 3 ∧ f.bits.length = N ^ f.ar.toNat
  | [], _, _, _, f, h => by cases h
  | g :: l, i, sn, h, f, hm => by
    rw [pfF] at h
    split at h
    · cases h
    · rename_i h1
      rcases List.mem_cons.1 hm with rfl | hm
      · exact lk_none h1
      · exact pdf_none l _ _ h f hm
theorem fn_mem : ∀ (l : List FnD) (a : Option FnD) (t : List UInt8) (f : FnD), l.foldl (fun a f => if t = f.nm.data.toList then some f else a) a = some f → a = some f ∨ (f ∈ l ∧ t = f.nm.data.toList)
  | [], a, t, f, h => Or.inl h
  | g :: l, a, t, f, h => by
    rw [List.foldl_cons] at h
    rcases fn_mem l _ t f h with h1 | h1
    · split at h1
      · rename_i h2
        cases h1
        exact Or.inr ⟨List.mem_cons_self .., h2⟩
      · exact Or.inl h1
    · exact Or.inr ⟨List.mem_cons_of_mem _ h1.1, h1.2⟩
theorem pd_mem : ∀ (l : List PdD) (a : Option PdD) (t : List UInt8) (f : PdD), l.foldl (fun a f => if t = f.nm.data.toList then some f else a) a = some f → a = some f ∨ (f ∈ l ∧ t = f.nm.data.toList)
  | [], a, t, f, h => Or.inl h
  | g :: l, a, t, f, h => by
    rw [List.foldl_cons] at h
    rcases pd_mem l _ t f h with h1 | h1
    · split at h1
      · rename_i h2
        cases h1
        exact Or.inr ⟨List.mem_cons_self .., h2⟩
      · exact Or.inl h1
    · exact Or.inr ⟨List.mem_cons_of_mem _ h1.1, h1.2⟩
theorem va_mem : ∀ (l : List (List UInt8 × Int)) (a : Option Nat) (t : List UInt8) (x : Nat), l.foldl (fun a p => if t = p.1 then some p.2.toNat else a) a = some x → a = some x ∨ ∃ p ∈ l, x = p.2.toNat
  | [], a, t, f, h => Or.inl h
  | g :: l, a, t, f, h => by
    rw [List.foldl_cons] at h
    rcases va_mem l _ t f h with h1 | ⟨p, hp, e⟩
    · split at h1
      · cases h1
        exact Or.inr ⟨g, List.mem_cons_self .., rfl⟩
      · exact Or.inl h1
    · exact Or.inr ⟨p, List.mem_cons_of_mem _ hp, e⟩
theorem lk_code {N : Nat} {sn : Bool} {nm : List UInt8} {ar : Int} {fl : Nat} {c : Int} (h : lkF N sn nm ar fl = some c) : c ≠ 0 := by
  unfold lkF at h
  split at h
  · cases h; decide
  · split at h
    · cases h; decide
    · split at h
      · cases h; decide
      · cases h
theorem fnf_code {N : Nat} : ∀ (l : List FnD) (i : Nat) (sn : List (List UInt8)) (p : Int × Nat), cfF N i sn l = some p → p.1 ≠ 0
  | [], _, _, p, h => by cases h
  | g :: l, i, sn, p, h => by
    rw [cfF] at h
    split at h
    · rename_i h1
      cases h
      exact lk_code h1
    · split at h
      · cases h
        show (5 : Int) ≠ 0
        decide
      · exact fnf_code l _ _ p h
theorem pdf_code {N : Nat} : ∀ (l : List PdD) (i : Nat) (sn : List (List UInt8)) (p : Int × Nat), pfF N i sn l = some p → p.1 ≠ 0
  | [], _, _, p, h => by cases h
  | g :: l, i, sn, p, h => by
    rw [pfF] at h
    split at h
    · rename_i h1
      cases h
      exact lk_code h1
    · exact pdf_code l _ _ p h
/-- A structure that Check passes. -/
theorem st_ok {s : StD} (h : (stcode s).1 = 0) : stcode s = (0, 0) ∧ 1 ≤ s.n ∧ s.n ≤ 8 ∧ s.funs.length ≤ 10 ∧ s.preds.length ≤ 10 ∧ VOk (vwOf s) ∧ ∀ t f, (vwOf s).fn t = some f → isBg t = true := by
  unfold stcode at h ⊢
  split at h
  case isFalse => exact absurd h (by decide)
  rename_i ho
  rw [if_pos ho]
  have hls : lsF s.n.toNat s = none := by
    unfold lscode at h; unfold lsF at h ⊢
    rcases h1 : cfF s.n.toNat 0 [] s.funs with _ | p
    · rw [h1] at h
      simp only at h ⊢
      rcases h2 : pfF s.n.toNat s.funs.length [] s.preds with _ | p
      · rfl
      · rw [h2] at h
        exact absurd h (pdf_code _ _ _ _ h2)
    · rw [h1] at h
      exact absurd h (fnf_code _ _ _ _ h1)
  have hcf : cfF s.n.toNat 0 [] s.funs = none := by
    unfold lsF at hls
    split at hls
    · cases hls
    · assumption
  have hpf : pfF s.n.toNat s.funs.length [] s.preds = none := by
    unfold lsF at hls; rw [hcf] at hls; exact hls
  (have hn : ((vwOf s).n : Int) = s.n := by show ((s.n.toNat : Nat) : Int) = s.n; omega); (refine ⟨by unfold lscode; rw [hls], ho.1, ho.2.1, ho.2.2.1, ho.2.2.2, ⟨?_, ?_, fun t f hf => ?_, fun t f hf => ?_⟩, fun t f hf => ?_⟩)
  · show 1 ≤ s.n.toNat; omega
  · show s.n.toNat ≤ 8; omega
  · rcases fn_mem s.funs none t f hf with h1 | h1
    · cases h1
    · obtain ⟨a, b, c, d, e⟩ := fnf_none _ _ _ hcf f h1.1
      (refine ⟨b, c, by rw [d]; rfl, fun x hx => ?_⟩); have := e x hx; unfold thingB at this; simp only [Bool.and_eq_true, decide_eq_true_eq] at this; exact this
  · rcases pd_mem s.preds none t f hf with h1 | h1
    · cases h1
    · obtain ⟨a, b, c, d⟩ := pdf_none _ _ _ hpf f h1.1
      (exact ⟨b, c, by rw [d]; rfl⟩)
  · rcases fn_mem s.funs none t f hf with h1 | h1
    · cases h1
    · rw [h1.2]
      exact (fnf_none _ _ _ hcf f h1.1).1
theorem vf_all {n : Nat} : ∀ (l : List (List UInt8 × Int)) (i : Nat), (vfAt n i l).1 = 0 → vfAt n i l = (0, 0) ∧ ∀ p ∈ l, isNm p.1 = true ∧ thingB n p.2 = true
  | [], i, _ => ⟨rfl, fun p h => by cases h⟩
  | q :: l, i, h => by
    rw [vfAt] at h ⊢
    split at h
    · exact absurd h (by show ¬ (8 : Int) = 0; decide)
    · rename_i h1
      rw [if_neg h1]
      split at h
      · exact absurd h (by show ¬ (3 : Int) = 0; decide)
      · rename_i h2
        rw [if_neg h2]; obtain ⟨g1, g2⟩ := vf_all l _ h; (refine ⟨g1, fun p hp => ?_⟩)
        rcases List.mem_cons.1 hp with rfl | hp
        · exact ⟨by simpa using h1, by simpa using h2⟩
        · exact g2 p hp
/-- Values that are fine. -/
theorem vf_ok {n : Nat} {names : List (List UInt8)} {vals : List Int} (h : (vfcode n names vals).1 = 0) : vfcode n names vals = (0, 0) ∧ names.length = vals.length ∧ names.length ≤ 20 ∧ ∀ p ∈ names.zip vals, isNm p.1 = true ∧ thingB n p.2 = true := by
  unfold vfcode at h ⊢
  split at h
  · rename_i h1
    rw [if_pos h1]; obtain ⟨g1, g2⟩ := vf_all _ _ h; exact ⟨g1, h1.1, h1.2, g2⟩
  · exact absurd h (by decide)
theorem va_lt {n : Nat} (hn : 1 ≤ n) {l : List (List UInt8 × Int)} (h : ∀ p ∈ l, thingB n p.2 = true) (t : List UInt8) : vz (vaAt l) t < n := by
  unfold vz
  rcases hv : vaAt l t with _ | x
  · show 0 < n; omega
  · rcases va_mem l none t x hv with h1 | ⟨p, hp, e⟩
    · cases h1
    · have := h p hp
      unfold thingB at this; simp only [Bool.and_eq_true, decide_eq_true_eq] at this; show x < n; omega
end Go.Proofs.YtpiaeapgjljjhaaGreat
