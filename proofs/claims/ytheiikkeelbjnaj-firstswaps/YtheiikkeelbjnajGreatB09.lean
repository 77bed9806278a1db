/- Texts of one proof, one behind the other: FW1, FW2, FW3, FW4, PA5. -/
import Derived.Test.YtheiikkeelbjnajGreatB07
/- Words and expressions of first order as data, and in memory. -/
namespace Go.Proofs.YtheiikkeelbjnajGreat
open Go.RowKit

inductive Wd where
  | mk (name : ByteArray) (args : List Wd)
inductive Ex where
  | mk (kind : Int) (name : ByteArray) (words : List Wd) (kids : List Ex)
mutual
def Wd.size : Wd → Nat
  | .mk _ ar => Wd.sizes ar + 1
def Wd.sizes : List Wd → Nat
  | [] => 0
  | x :: xs => Wd.size x + Wd.sizes xs
end
mutual
def Ex.size : Ex → Nat
  | .mk _ _ ws ks => Wd.sizes ws + Ex.sizes ks + 1
def Ex.sizes : List Ex → Nat
  | [] => 0
  | x :: xs => Ex.size x + Ex.sizes xs
end
theorem wsizes_get {l : List Wd} {i : Nat} {x : Wd} (h : l[i]? = some x) : x.size ≤ Wd.sizes l := by
  induction l generalizing i with
  | nil => simp at h
  | cons g gs ih =>
    cases i with
    | zero => simp at h; subst h; simp [Wd.sizes]
    | succ i => have := ih (i := i) (by simpa using h); simp [Wd.sizes]; omega
theorem esizes_get {l : List Ex} {i : Nat} {x : Ex} (h : l[i]? = some x) : x.size ≤ Ex.sizes l := by
  induction l generalizing i with
  | nil => simp at h
  | cons g gs ih =>
    cases i with
    | zero => simp at h; subst h; simp [Ex.sizes]
    | succ i => have := ih (i := i) (by simpa using h); simp [Ex.sizes]; omega
mutual
/-- A word in memory. -/
def WRp (w : World) : Wd → Value → Prop
  | .mk n ar, v => ∃ sl cap, v = .agg #[.string n, .slice sl ar.length cap] ∧ n.size ≤ maxLen ∧ ar.length ≤ cap ∧ cap ≤ maxLen ∧ (ar ≠ [] → ∃ b off, sl = some ⟨b, off, none⟩ ∧ WRps w b off ar)
def WRps (w : World) (b : Nat) : Nat → List Wd → Prop
  | _, [] => True
  | off, x :: xs => (∃ c0 c1, w.cell? ⟨b, off, none⟩ = some c0 ∧ w.cell? ⟨b, off + 1, none⟩ = some c1 ∧ WRp w x (.agg #[c0, c1])) ∧ WRps w b (off + 2) xs
end
theorem WRp.def {w : World} {n : ByteArray} {ar : List Wd} {v : Value} : WRp w (.mk n ar) v ↔ ∃ sl cap, v = .agg #[.string n, .slice sl ar.length cap] ∧ n.size ≤ maxLen ∧ ar.length ≤ cap ∧ cap ≤ maxLen ∧ (ar ≠ [] → ∃ b off, sl = some ⟨b, off, none⟩ ∧ WRps w b off ar) := by
  rw [WRp]
theorem WRps.nil {w : World} {b off : Nat} : WRps w b off [] := by rw [WRps]; trivial
theorem WRps.cons {w : World} {b off : Nat} {x : Wd} {xs : List Wd} : WRps w b off (x :: xs) ↔ (∃ c0 c1, w.cell? ⟨b, off, none⟩ = some c0 ∧ w.cell? ⟨b, off + 1, none⟩ = some c1 ∧ WRp w x (.agg #[c0, c1])) ∧ WRps w b (off + 2) xs := by
  rw [WRps]
mutual
theorem WRp.keep {w w' : World} (hc : ∀ a : Addr, a.block < w.heap.size → (∀ c, w.cell? a = some c → w'.cell? a = some c)) : ∀ (x : Wd) (v : Value), WRp w x v → WRp w' x v
  | .mk n ar, v, h => by
    rw [WRp.def] at h ⊢; obtain ⟨sl, cap, hv, hn, hl, hc', hk⟩ := h; (refine ⟨sl, cap, hv, hn, hl, hc', fun hne => ?_⟩); obtain ⟨b, off, hsl, hr⟩ := hk hne; exact ⟨b, off, hsl, WRps.keep hc off ar hr⟩
theorem WRps.keep {w w' : World} (hc : ∀ a : Addr, a.block < w.heap.size → (∀ c, w.cell? a = some c → w'.cell? a = some c)) {b : Nat} : ∀ (off : Nat) (xs : List Wd), WRps w b off xs → WRps w' b off xs
  | _, [], _ => WRps.nil
  | off, x :: xs, h => by
    rw [WRps.cons] at h ⊢; obtain ⟨⟨c0, c1, h0, h1, hr⟩, hrs⟩ := h; exact ⟨⟨c0, c1, hc _ (lt_of_cell h0) _ h0, hc _ (lt_of_cell h1) _ h1, WRp.keep hc x _ hr⟩, WRps.keep hc (off + 2) xs hrs⟩
end
theorem WRp.up {w w' : World} {x : Wd} {v : Value} (h : WRp w x v) (hb : Below w.heap.size w w') : WRp w' x v := WRp.keep (fun _ hlt _ hc => (hb.cell hlt).trans hc) x v h
theorem WRps.up {w w' : World} {b off : Nat} {xs : List Wd} (h : WRps w b off xs) (hb : Below w.heap.size w w') : WRps w' b off xs := WRps.keep (fun _ hlt _ hc => (hb.cell hlt).trans hc) off xs h
theorem WRps.at {w : World} {b : Nat} : ∀ {off : Nat} {xs : List Wd} (_ : WRps w b off xs) (i : Nat) (n : ByteArray) (ar : List Wd), xs[i]? = some (.mk n ar) → ∃ sl cap, w.cell? ⟨b, off + i * 2, none⟩ = some (.string n) ∧ w.cell? ⟨b, off + i * 2 + 1, none⟩ = some (.slice sl ar.length cap) ∧ WRp w (.mk n ar) (.agg #[.string n, .slice sl ar.length cap])
  | _, [], _, i, n, ar, h => by simp at h
  | off, x :: xs, hr, i, n, ar, h => by
    obtain ⟨h1, h2⟩ := WRps.cons.1 hr
    cases i with
    | zero =>
      (have e : x = .mk n ar := by simpa using h); subst e; obtain ⟨c0, c1, g0, g1, hr1⟩ := h1; obtain ⟨sl, cap, hv, hr'⟩ := WRp.def.1 hr1; simp only [Value.agg.injEq, Array.mk.injEq, List.cons.injEq, and_true] at hv; obtain ⟨rfl, rfl⟩ := hv
      exact ⟨sl, cap, by simpa using g0, by simpa using g1, hr1⟩
    | succ i =>
      (obtain ⟨sl, cap, g0, g1, g2⟩ := WRps.at h2 i n ar (by simpa using h)); (rw [show off + 2 + i * 2 = off + (i + 1) * 2 by omega] at g0 g1); exact ⟨sl, cap, g0, g1, g2⟩
/-- A list of words that lies in a slice. -/
def WL (w : World) (v : Value) (l : List Wd) : Prop := ∃ sl cap, v = .slice sl l.length cap ∧ l.length ≤ cap ∧ cap ≤ maxLen ∧ (l ≠ [] → ∃ b off, sl = some ⟨b, off, none⟩ ∧ WRps w b off l)
theorem WL.up {w w' : World} {v : Value} {l : List Wd} (h : WL w v l) (hb : Below w.heap.size w w') : WL w' v l := by
  obtain ⟨sl, cap, e, h1, h2, h3⟩ := h; (refine ⟨sl, cap, e, h1, h2, fun hne => ?_⟩); obtain ⟨b, off, e2, hr⟩ := h3 hne; exact ⟨b, off, e2, hr.up hb⟩
theorem WRp.args {w : World} {n : ByteArray} {ar : List Wd} {sl : Option Addr} {len cap : Nat} {s : Value} (h : WRp w (.mk n ar) (.agg #[s, .slice sl len cap])) : s = .string n ∧ n.size ≤ maxLen ∧ len = ar.length ∧ WL w (.slice sl len cap) ar := by
  obtain ⟨sl', cap', e, h1, h2, h3, h4⟩ := WRp.def.1 h; simp only [Value.agg.injEq, Array.mk.injEq, List.cons.injEq, Value.slice.injEq, and_true] at e; obtain ⟨rfl, rfl, rfl, rfl⟩ := e; exact ⟨rfl, h1, rfl, sl, cap, rfl, h2, h3, h4⟩
theorem WL.at {w : World} {sl : Option Addr} {len cap : Nat} {l : List Wd} (h : WL w (.slice sl len cap) l) (i : Nat) (n : ByteArray) (ar : List Wd) (hf : l[i]? = some (.mk n ar)) : ∃ b off sl2 cap2, sl = some ⟨b, off, none⟩ ∧ w.cell? ⟨b, off + i * 2, none⟩ = some (.string n) ∧ w.cell? ⟨b, off + i * 2 + 1, none⟩ = some (.slice sl2 ar.length cap2) ∧ WRp w (.mk n ar) (.agg #[.string n, .slice sl2 ar.length cap2]) := by
  obtain ⟨sl', cap', hv, h1, h2, h3⟩ := h; simp only [Value.slice.injEq] at hv; obtain ⟨rfl, rfl, rfl⟩ := hv; (obtain ⟨b, off, rfl, hr⟩ := h3 (fun e => by rw [e] at hf; simp at hf)); obtain ⟨sl2, cap2, g0, g1, g2⟩ := hr.at i n ar hf; exact ⟨b, off, sl2, cap2, rfl, g0, g1, g2⟩
mutual
/-- An expression in memory. -/
def ERp (w : World) : Ex → Value → Prop
  | .mk k n ws ks, v => ∃ sw cw sk ck, v = .agg #[.int .i64 k, .string n, .slice sw ws.length cw, .slice sk ks.length ck] ∧ n.size ≤ maxLen ∧ WL w (.slice sw ws.length cw) ws ∧ ks.length ≤ ck ∧ ck ≤ maxLen ∧ (ks ≠ [] → ∃ b off, sk = some ⟨b, off, none⟩ ∧ ERps w b off ks)
def ERps (w : World) (b : Nat) : Nat → List Ex → Prop
  | _, [] => True
  | off, x :: xs => (∃ c0 c1 c2 c3, w.cell? ⟨b, off, none⟩ = some c0 ∧ w.cell? ⟨b, off + 1, none⟩ = some c1 ∧ w.cell? ⟨b, off + 2, none⟩ = some c2 ∧ w.cell? ⟨b, off + 3, none⟩ = some c3 ∧ ERp w x (.agg #[c0, c1, c2, c3])) ∧ ERps w b (off + 4) xs
end
theorem ERp.def {w : World} {k : Int} {n : ByteArray} {ws : List Wd} {ks : List Ex} {v : Value} : ERp w (.mk k n ws ks) v ↔ ∃ sw cw sk ck, v = .agg #[.int .i64 k, .string n, .slice sw ws.length cw, .slice sk ks.length ck] ∧ n.size ≤ maxLen ∧ WL w (.slice sw ws.length cw) ws ∧ ks.length ≤ ck ∧ ck ≤ maxLen ∧ (ks ≠ [] → ∃ b off, sk = some ⟨b, off, none⟩ ∧ ERps w b off ks) := by
  rw [ERp]
theorem ERps.nil {w : World} {b off : Nat} : ERps w b off [] := by rw [ERps]; trivial
theorem ERps.cons {w : World} {b off : Nat} {x : Ex} {xs : List Ex} : ERps w b off (x :: xs) ↔ (∃ c0 c1 c2 c3, w.cell? ⟨b, off, none⟩ = some c0 ∧ w.cell? ⟨b, off + 1, none⟩ = some c1 ∧ w.cell? ⟨b, off + 2, none⟩ = some c2 ∧ w.cell? ⟨b, off + 3, none⟩ = some c3 ∧ ERp w x (.agg #[c0, c1, c2, c3])) ∧ ERps w b (off + 4) xs := by
  rw [ERps]
mutual
theorem ERp.up {w w' : World} (hb : Below w.heap.size w w') : ∀ (x : Ex) (v : Value), ERp w x v → ERp w' x v
  | .mk k n ws ks, v, h => by
    rw [ERp.def] at h ⊢; obtain ⟨sw, cw, sk, ck, hv, hn, hw, hl, hc', hk⟩ := h; (refine ⟨sw, cw, sk, ck, hv, hn, hw.up hb, hl, hc', fun hne => ?_⟩); obtain ⟨b, off, hsl, hr⟩ := hk hne; exact ⟨b, off, hsl, ERps.up hb off ks hr⟩
theorem ERps.up {w w' : World} (hb : Below w.heap.size w w') {b : Nat} : ∀ (off : Nat) (xs : List Ex), ERps w b off xs → ERps w' b off xs
  | _, [], _ => ERps.nil
  | off, x :: xs, h => by
    rw [ERps.cons] at h ⊢; obtain ⟨⟨c0, c1, c2, c3, h0, h1, h2, h3, hr⟩, hrs⟩ := h; exact ⟨⟨c0, c1, c2, c3, (hb.cell (lt_of_cell h0)).trans h0, (hb.cell (lt_of_cell h1)).trans h1, (hb.cell (lt_of_cell h2)).trans h2, (hb.cell (lt_of_cell h3)).trans h3, ERp.up hb x _ hr⟩, ERps.up hb (off + 4) xs hrs⟩
end
theorem ERps.at {w : World} {b : Nat} : ∀ {off : Nat} {xs : List Ex} (_ : ERps w b off xs) (i : Nat) (k : Int) (n : ByteArray) (ws : List Wd) (ks : List Ex), xs[i]? = some (.mk k n ws ks) → ∃ sw cw sk ck, w.cell? ⟨b, off + i * 4, none⟩ = some (.int .i64 k) ∧ w.cell? ⟨b, off + i * 4 + 1, none⟩ = some (.string n) ∧ w.cell? ⟨b, off + i * 4 + 2, none⟩ = some (.slice sw ws.length cw) ∧ w.cell? ⟨b, off + i * 4 + 3, none⟩ = some (.slice sk ks.length ck) ∧ ERp w (.mk k n ws ks) (.agg #[.int .i64 k, .string n, .slice sw ws.length cw, .slice sk ks.length ck])
  | _, [], _, i, k, n, ws, ks, h => by simp at h
  | off, x :: xs, hr, i, k, n, ws, ks, h => by
    obtain ⟨h1, h2⟩ := ERps.cons.1 hr
    cases i with
    | zero =>
      (have e : x = .mk k n ws ks := by simpa using h); subst e; obtain ⟨c0, c1, c2, c3, g0, g1, g2, g3, hr1⟩ := h1; obtain ⟨sw, cw, sk, ck, hv, hr'⟩ := ERp.def.1 hr1; simp only [Value.agg.injEq, Array.mk.injEq, List.cons.injEq, and_true] at hv; obtain ⟨rfl, rfl, rfl, rfl⟩ := hv
      exact ⟨sw, cw, sk, ck, by simpa using g0, by simpa using g1, by simpa using g2, by simpa using g3, hr1⟩
    | succ i =>
      (obtain ⟨sw, cw, sk, ck, g0, g1, g2, g3, g4⟩ := ERps.at h2 i k n ws ks (by simpa using h)); (rw [show off + 4 + i * 4 = off + (i + 1) * 4 by omega] at g0 g1 g2 g3); exact ⟨sw, cw, sk, ck, g0, g1, g2, g3, g4⟩
end Go.Proofs.YtheiikkeelbjnajGreat
/- Walks: names of first order. -/
namespace Go.Proofs.YtheiikkeelbjnajGreat
open Go.RowKit

def capB (c : UInt8) : Bool := decide (65 ≤ c.toNat) && decide (c.toNat ≤ 90)
def lettB (c : UInt8) : Bool := capB c || (decide (97 ≤ c.toNat) && decide (c.toNat ≤ 122))
/-- A big name. -/
def isBg (l : List UInt8) : Bool := match l with
  | [] => false
  | c :: l => decide (l.length + 1 ≤ 8) && capB c && (c :: l).all lettB
set_option maxHeartbeats 1000000 in
theorem var_any (s : ByteArray) (hs : s.size ≤ maxLen) (w : World) :
    Calls Tryz.prog 46 #[.string s] w fun e w' => e = .returned (.bool (isNm s.data.toList)) ∧ Below w.heap.size w w' := by
  (have hck := fun v (w : World) h => check_any (.mk 1 s []) v w h); have hcn := code_name s; have HC : Hid (∀ v w, _ → Calls Tryz.prog 96 #[v] w _) := hck; (have HL : Hid (∀ w, Rep w (fun _ => True) (.mk 1 s []) (.agg #[.int .i64 1, .string s, .slice none 0 0])) := fun w => Rep.leaf hs); (have hfc := fun a b w => fault_code a b w); clear hck hs
  rcases hb : isNm s.data.toList with _ | _
  · have hcn' : (Fm.mk 1 s []).code = (8, 0) := by rw [hcn, hb]; rfl
    rw [hcn'] at HC; clear hcn'; clear hcn hb
    go_enter Tryz.func46, Tryz.ntmps46
    go_wp2_with (first
      | (go_at_call 96
         refine (HC.out _ _ (HL.out _)).mono ?_
         rintro e w1 ⟨rfl, hb1⟩)
      | fail)
    go_ret; exact ⟨rfl, hb1⟩
  · have hcn' : (Fm.mk 1 s []).code = (0, 0) := by rw [hcn, hb]; rfl
    rw [hcn'] at HC; clear hcn'; clear hcn hb
    go_enter Tryz.func46, Tryz.ntmps46
    go_wp2_with (first
      | (go_at_call 96
         refine (HC.out _ _ (HL.out _)).mono ?_
         rintro e w1 ⟨rfl, hb1⟩)
      | fail)
    go_ret; exact ⟨rfl, hb1⟩
set_option maxHeartbeats 1000000 in
theorem cap_any (c : UInt8) (w : World) :
    Calls Tryz.prog 148 #[.int .u8 (c.toNat : Int)] w fun e w' => e = .returned (.bool (capB c)) ∧ w' = w := by
  unfold capB; by_cases h1 : (65 : Int) ≤ (c.toNat : Int)
  · by_cases h2 : (c.toNat : Int) ≤ 90
    · go_enter Tryz.func148, Tryz.ntmps148
      go_wp2; go_ret; (exact ⟨ret_bool (by rw [eq_comm, Bool.and_eq_true, decide_eq_true_iff, decide_eq_true_iff]; omega), rfl⟩)
    · go_enter Tryz.func148, Tryz.ntmps148
      go_wp2; go_ret; (exact ⟨ret_bool (by rw [eq_comm, Bool.and_eq_false_iff, decide_eq_false_iff_not, decide_eq_false_iff_not]; omega), rfl⟩)
  · go_enter Tryz.func148, Tryz.ntmps148
    go_wp2; go_ret; (exact ⟨ret_bool (by rw [eq_comm, Bool.and_eq_false_iff, decide_eq_false_iff_not, decide_eq_false_iff_not]; omega), rfl⟩)
set_option maxHeartbeats 1000000 in
theorem lett_any (c : UInt8) (w : World) :
    Calls Tryz.prog 149 #[.int .u8 (c.toNat : Int)] w fun e w' => e = .returned (.bool (lettB c)) ∧ w' = w := by
  (have HC : Hid (∀ w, Calls Tryz.prog 148 #[.int .u8 (c.toNat : Int)] w fun e w' => e = .returned (.bool (capB c)) ∧ w' = w) := fun w => cap_any c w); unfold lettB
  rcases hb : capB c with _ | _
  · rw [hb] at HC
    clear hb; by_cases h1 : (97 : Int) ≤ (c.toNat : Int)
    · by_cases h2 : (c.toNat : Int) ≤ 122
      · go_enter Tryz.func149, Tryz.ntmps149
        go_wp2_with (go_at_call 148; refine (HC.out _).mono ?_; rintro e w1 ⟨rfl, rfl⟩); go_ret; (exact ⟨ret_bool (by rw [eq_comm, Bool.false_or, Bool.and_eq_true, decide_eq_true_iff, decide_eq_true_iff]; omega), rfl⟩)
      · go_enter Tryz.func149, Tryz.ntmps149
        go_wp2_with (go_at_call 148; refine (HC.out _).mono ?_; rintro e w1 ⟨rfl, rfl⟩); go_ret; (exact ⟨ret_bool (by rw [Bool.eq_iff_iff]; simp; omega), rfl⟩)
    · go_enter Tryz.func149, Tryz.ntmps149
      go_wp2_with (go_at_call 148; refine (HC.out _).mono ?_; rintro e w1 ⟨rfl, rfl⟩); go_ret; (exact ⟨ret_bool (by rw [Bool.eq_iff_iff]; simp; omega), rfl⟩)
  · rw [hb] at HC
    clear hb
    go_enter Tryz.func149, Tryz.ntmps149
    go_wp2_with (go_at_call 148; refine (HC.out _).mono ?_; rintro e w1 ⟨rfl, rfl⟩); go_ret; (exact ⟨ret_bool (by simp), rfl⟩)
theorem isBg_cons {c : UInt8} {l : List UInt8} (h8 : (c :: l).length ≤ 8) (hc : capB c = true) : isBg (c :: l) = (c :: l).all lettB := by
  (have : l.length + 1 ≤ 8 := by simpa using h8); unfold isBg; simp only [this, hc, decide_true, Bool.true_and]
set_option maxHeartbeats 1000000 in
theorem big_any (s : ByteArray) (w : World) :
    Calls Tryz.prog 100 #[.string s] w fun e w' => e = .returned (.bool (isBg s.data.toList)) ∧ w' = w := by
  have HB : Hid (s.data.toList.length = s.size) := Array.length_toList; by_cases h0 : s.data.toList = []
  · have e : s = ⟨#[]⟩ := by
      cases s with
      | mk d => simp at h0; rw [h0]
    subst e
    go_enter Tryz.func100, Tryz.ntmps100
    go_wp2_with fail; go_ret; exact ⟨ret_bool rfl, rfl⟩
  have he : s.toList.isEmpty = false := by
    rw [ByteArray.toList_eq]
    cases hh : s.data.toList with
    | nil => exact absurd hh h0
    | cons _ _ => rfl
  obtain ⟨c, l, hcl⟩ : ∃ c l, s.data.toList = c :: l := by
    cases hh : s.data.toList with
    | nil => exact absurd hh h0
    | cons c l => exact ⟨c, l, rfl⟩
  (have hA0 : At s 0 (c :: l) := ⟨Nat.zero_le _, by rw [← hcl]; simp⟩); (have hs0 : 0 < s.size := by have := HB.out; rw [hcl] at this; simp at this; omega); have hhd : s[0] = c := hA0.head hs0; have HCL : Hid (s.data.toList = c :: l ∧ At s 0 (c :: l)) := ⟨hcl, hA0⟩; clear h0 hcl hA0; by_cases h8 : s.size ≤ 8
  case neg =>
    (have h8I : (8 : Int) < (s.size : Int) := by omega); clear hhd
    go_enter Tryz.func100, Tryz.ntmps100
    go_wp2_with fail; go_ret; refine ⟨ret_bool ?_, rfl⟩; (have h3 : ¬ l.length + 1 ≤ 8 := by have := HB.out; rw [HCL.out.1] at this; simp at this; omega); rw [HCL.out.1]; simp only [isBg, h3, decide_false, Bool.false_and]
  (have h8I : (s.size : Int) ≤ 8 := by omega); (have H8 : Hid ((c :: l).length ≤ 8) := by have := HB.out; rw [HCL.out.1] at this; show _ ≤ _; omega); (have HC : Hid (∀ w, Calls Tryz.prog 148 #[.int .u8 (s[0].toNat : Int)] w fun e w' => e = .returned (.bool (capB c)) ∧ w' = w) := fun w => by rw [hhd]; exact cap_any c w); (have hs0I : (0 : Int) < (s.size : Int) := by omega); clear hhd h8
  rcases hcb : capB c with _ | _
  · rw [hcb] at HC
    go_enter Tryz.func100, Tryz.ntmps100
    go_wp2_with (go_at_call 148; refine (HC.out _).mono ?_; rintro e w1 ⟨rfl, rfl⟩); go_ret; refine ⟨ret_bool ?_, rfl⟩; rw [HCL.out.1]; simp only [isBg, hcb, Bool.and_false, Bool.false_and]
  · rw [hcb] at HC
    (have HR : Hid (isBg s.data.toList = (c :: l).all lettB) := by show _ = _; rw [HCL.out.1]; exact isBg_cons H8.out hcb); clear hcb
    go_enter Tryz.func100, Tryz.ntmps100
    go_wp2_with (go_at_call 148; refine (HC.out _).mono ?_; rintro e w1 ⟨rfl, rfl⟩)
    go_loop [19] (fun v => ∃ k l2, At s k l2 ∧ v = .int .i64 (k : Nat) ∧ (c :: l).all lettB = l2.all lettB) (fun v => s.size - (intOf v).toNat)
    case atStart => exact ⟨0, c :: l, HCL.out.2, rfl, rfl⟩
    case round =>
      obtain ⟨k, l2, ha, rfl, hl⟩ := hrel; have hlen := ha.len; have HL : Hid (At s k l2 ∧ (c :: l).all lettB = l2.all lettB) := ⟨ha, hl⟩; clear ha hl
      cases l2 with
      | nil =>
        simp at hlen; (have hd : decide ((k : Int) < (s.size : Int)) = false := by simp; omega); go_wp2_with fail; go_ret
        exact ⟨ret_bool (by rw [HR.out, HL.out.2]; rfl), rfl⟩
      | cons x l2 =>
        simp at hlen; (have hlt' : k < s.size := by omega); (have hlt : (k : Int) < (s.size : Int) := by omega); have hhd : s[k] = x := HL.out.1.head hlt'; (have hlc : ∀ w, Calls Tryz.prog 149 #[.int .u8 (s[k].toNat : Int)] w fun e w' => e = .returned (.bool (lettB x)) ∧ w' = w := fun w => by rw [hhd]; exact lett_any x w); (have HLc : Hid (∀ w, Calls Tryz.prog 149 #[.int .u8 (s[k].toNat : Int)] w fun e w' => e = .returned (.bool (lettB x)) ∧ w' = w) := hlc); clear hhd hlc
        rcases hxb : lettB x with _ | _
        · have HN : Hid ((c :: l).all lettB = false) := by show _ = _; rw [HL.out.2, List.all_cons, hxb]; rfl
          rw [hxb] at HLc; clear hxb; go_wp2_with (go_at_call 149; refine (HLc.out _).mono ?_; rintro e w2 ⟨rfl, rfl⟩); go_ret; (exact ⟨ret_bool (by rw [HR.out, HN.out]), rfl⟩)
        · have HN : Hid (At s (k + 1) l2 ∧ (c :: l).all lettB = l2.all lettB) := ⟨HL.out.1.cons, by rw [HL.out.2, List.all_cons, hxb]; rfl⟩
          rw [hxb] at HLc; clear hxb; go_wp2_with (go_at_call 149; refine (HLc.out _).mono ?_; rintro e w2 ⟨rfl, rfl⟩)
          go_round
          case rel => exact ⟨k + 1, l2, HN.out.1, by go_num, HN.out.2⟩
          case measure => simp [intOf]; omega
/-- A variable or a big name. -/
def anyB (l : List UInt8) : Bool := isNm l || isBg l
set_option maxHeartbeats 1000000 in
theorem anyName_any (s : ByteArray) (w : World) (hs : s.size ≤ maxLen) :
    Calls Tryz.prog 147 #[.string s] w fun e w' => e = .returned (.bool (anyB s.data.toList)) ∧ Below w.heap.size w w' := by
  (have HV : Hid (∀ w, Calls Tryz.prog 46 #[.string s] w fun e w' => e = .returned (.bool (isNm s.data.toList)) ∧ Below w.heap.size w w') := fun w => var_any s hs w); (have HBg : Hid (∀ w, Calls Tryz.prog 100 #[.string s] w fun e w' => e = .returned (.bool (isBg s.data.toList)) ∧ w' = w) := fun w => big_any s w); unfold anyB; clear hs; generalize isNm s.data.toList = gb at *
  rcases hb : isBg s.data.toList with _ | _
  · rw [hb] at HBg
    clear hb; rw [Bool.or_false]
    go_enter Tryz.func147, Tryz.ntmps147
    go_wp2_with (first
      | (go_at_call 100; refine (HBg.out _).mono ?_; rintro e w2 ⟨rfl, h2⟩; obtain rfl : w = w2 := h2.symm)
      | (go_at_call 46; refine (HV.out _).mono ?_; rintro e w1 ⟨rfl, hb1⟩)
      | fail)
    go_ret; exact ⟨rfl, hb1⟩
  · rw [hb] at HBg
    clear hb; rw [Bool.or_true]
    go_enter Tryz.func147, Tryz.ntmps147
    go_wp2_with (first
      | (go_at_call 100; refine (HBg.out _).mono ?_; rintro e w2 ⟨rfl, h2⟩; obtain rfl : w = w2 := h2.symm)
      | fail)
    go_ret; exact ⟨rfl, Below.refl _ _⟩
end Go.Proofs.YtheiikkeelbjnajGreat
/- Walks: what Check of first order says of one node. -/
namespace Go.Proofs.YtheiikkeelbjnajGreat
open Go.RowKit

def ekidsN (k : Int) : Int := if k = 5 ∨ k = 9 ∨ k = 10 then 1 else if k = 6 ∨ k = 7 ∨ k = 8 then 2 else 0
def ekindB (k : Int) : Bool := decide (1 ≤ k) && decide (k ≤ 10)
def quanB (k : Int) : Bool := decide (k = 9) || decide (k = 10)
def ewordsB (k : Int) (len : Nat) : Bool := if k = 1 then true else if k = 2 then decide (len = 2) else decide (len = 0)
def enameB (k : Int) (n : List UInt8) : Bool := if k = 1 then isBg n else if quanB k = true then isNm n else n.isEmpty
/-- What is wrong at an expression's node. -/
def enodeF (k : Int) (n : ByteArray) (wl kl : Nat) : Option Int := if ekindB k = false then some 4 else if ewordsB k wl = false ∨ (kl : Int) ≠ ekidsN k then some 9 else if enameB k n.data.toList = false then some 8 else none
/-- What is wrong at a word's node. -/
def wnodeF (n : ByteArray) (al : Nat) : Option Int := if isNm n.data.toList = false ∧ isBg n.data.toList = false then some 8 else if isNm n.data.toList = true ∧ 0 < al then some 9 else none
set_option maxHeartbeats 1000000 in
theorem ekidsOf_any (k : Int) (w : World) :
    Calls Tryz.prog 180 #[.int .i64 k] w fun e w' => e = .returned (.tuple #[.int .i64 (ekidsN k), .bool (ekindB k)]) ∧ w' = w := by
  go_enter Tryz.func180, Tryz.ntmps180
  go_wp2
  all_goals
    go_ret2; refine ⟨tup_ib ?_ ?_, rfl⟩
  all_goals
    simp only [beq_iff_eq, beq_eq_false_iff_ne, ne_eq] at *
    first
      | (subst_vars; decide)
      | (unfold ekidsN; rw [if_neg (by omega), if_neg (by omega)])
      | (unfold ekindB; simp; omega)
set_option maxHeartbeats 1000000 in
theorem quan_any (k : Int) (w : World) :
    Calls Tryz.prog 108 #[.int .i64 k] w fun e w' => e = .returned (.bool (quanB k)) ∧ w' = w := by
  unfold quanB; by_cases h1 : k = 9
  · subst h1
    go_enter Tryz.func108, Tryz.ntmps108
    go_wp2; go_ret; exact ⟨ret_bool rfl, rfl⟩
  · have h1J : (k == 9) = false := by simpa using h1
    by_cases h2 : k = 10
    · subst h2
      go_enter Tryz.func108, Tryz.ntmps108
      go_wp2; go_ret; exact ⟨ret_bool rfl, rfl⟩
    · have h2J : (k == 10) = false := by simpa using h2
      (have hr : (decide (k = 9) || decide (k = 10)) = false := by simp [h1, h2]); rw [hr]; clear h1 h2 hr
      go_enter Tryz.func108, Tryz.ntmps108
      go_wp2; go_ret; exact ⟨ret_bool rfl, rfl⟩
set_option maxHeartbeats 2000000 in
theorem itsWords_any (k : Int) (n : ByteArray) (sw sk : Option Addr) (wl cw kl ck : Nat) (w : World) :
    Calls Tryz.prog 181 #[.agg #[.int .i64 k, .string n, .slice sw wl cw, .slice sk kl ck]] w fun e w' => e = .returned (.bool (ewordsB k wl)) ∧ Below w.heap.size w w' := by
  have hb := below_more (Below.refl w.heap.size w) (.cells #[.int .i64 k, .string n, .slice sw wl cw, .slice sk kl ck] 25 (0, 0)); have HB : Hid (Below w.heap.size w _) := hb; clear hb; unfold ewordsB; by_cases h1 : k = 1
  · subst h1
    go_enter Tryz.func181, Tryz.ntmps181
    go_wp2; go_ret; exact ⟨ret_bool rfl, HB.out⟩
  · have h1J : (k == 1) = false := by simpa using h1
    rw [if_neg h1]; by_cases h2 : k = 2
    · subst h2
      rw [if_pos rfl]; by_cases h3 : wl = 2
      · have h3J : ((wl : Int) == 2) = true := by simp; omega
        rw [decide_eq_true h3]; clear h3 h1 h1J
        go_enter Tryz.func181, Tryz.ntmps181
        go_wp2; go_ret; exact ⟨ret_bool rfl, HB.out⟩
      · have h3J : ((wl : Int) == 2) = false := by simp; omega
        rw [decide_eq_false h3]; clear h3 h1 h1J
        go_enter Tryz.func181, Tryz.ntmps181
        go_wp2; go_ret; exact ⟨ret_bool rfl, HB.out⟩
    · have h2J : (k == 2) = false := by simpa using h2
      rw [if_neg h2]; by_cases h3 : wl = 0
      · have h3J : ((wl : Int) == 0) = true := by simp; omega
        rw [decide_eq_true h3]; clear h3 h1 h2
        go_enter Tryz.func181, Tryz.ntmps181
        go_wp2; go_ret; exact ⟨ret_bool rfl, HB.out⟩
      · have h3J : ((wl : Int) == 0) = false := by simp; omega
        rw [decide_eq_false h3]; clear h3 h1 h2
        go_enter Tryz.func181, Tryz.ntmps181
        go_wp2; go_ret; exact ⟨ret_bool rfl, HB.out⟩
end Go.Proofs.YtheiikkeelbjnajGreat
/- Walks: what Check of first order says of one node, two. -/
namespace Go.Proofs.YtheiikkeelbjnajGreat
open Go.RowKit

set_option maxHeartbeats 2000000 in
theorem itsName_any (k : Int) (n : ByteArray) (hn : n.size ≤ maxLen) (sw sk : Option Addr) (wl cw kl ck : Nat) (w : World) :
    Calls Tryz.prog 182 #[.agg #[.int .i64 k, .string n, .slice sw wl cw, .slice sk kl ck]] w fun e w' => e = .returned (.bool (enameB k n.data.toList)) ∧ Below w.heap.size w w' := by
  have HB : Hid (Below w.heap.size w (w.alloc (.cells #[.int .i64 k, .string n, .slice sw wl cw, .slice sk kl ck] 25 (0, 0)))) := below_more (Below.refl w.heap.size w) _; (have HBg : Hid (∀ w, Calls Tryz.prog 100 #[.string n] w fun e w' => e = .returned (.bool (isBg n.data.toList)) ∧ w' = w) := fun w => big_any n w); (have HVr : Hid (∀ w, Calls Tryz.prog 46 #[.string n] w fun e w' => e = .returned (.bool (isNm n.data.toList)) ∧ Below w.heap.size w w') := fun w => var_any n hn w); (have HQu : Hid (∀ w, Calls Tryz.prog 108 #[.int .i64 k] w fun e w' => e = .returned (.bool (quanB k)) ∧ w' = w) := fun w => quan_any k w); unfold enameB; clear hn; by_cases h1 : k = 1
  · subst h1
    rw [if_pos rfl]; generalize isBg n.data.toList = bb at *
    go_enter Tryz.func182, Tryz.ntmps182
    go_wp2_with (first
      | (go_at_call 100; refine (HBg.out _).mono ?_; rintro e w1 ⟨rfl, rfl⟩)
      | fail)
    go_ret; exact ⟨ret_bool rfl, HB.out⟩
  · have h1J : (k == 1) = false := by simpa using h1
    rw [if_neg h1]; clear h1
    rcases hq : quanB k with _ | _
    · rw [hq] at HQu
      (rw [if_neg (by simp), ← ByteArray.toList_eq]); clear hq
      go_enter Tryz.func182, Tryz.ntmps182
      go_wp2_with (first
        | (go_at_call 108; refine (HQu.out _).mono ?_; rintro e w3 ⟨rfl, rfl⟩)
        | fail)
      go_ret; exact ⟨rfl, HB.out⟩
    · rw [hq] at HQu
      rw [if_pos rfl]; clear hq; generalize isNm n.data.toList = bb at *
      go_enter Tryz.func182, Tryz.ntmps182
      go_wp2_with (first
        | (go_at_call 108; refine (HQu.out _).mono ?_; rintro e w3 ⟨rfl, rfl⟩)
        | (go_at_call 46; refine (HVr.out _).mono ?_; rintro e w2 ⟨rfl, hb2⟩)
        | fail)
      go_ret; exact ⟨ret_bool rfl, below_join HB.out hb2⟩
/-- What looking at a node leaves. -/
def NdPost (o : Option Int) (at_ : Int) (w : World) (e : Ending) (w' : World) : Prop := (match o with
  | none => e = .returned (.tuple #[])
  | some c => e = .panicked (stopC c at_)) ∧ Below w.heap.size w w'
set_option maxHeartbeats 4000000 in
theorem checkExpr_any (k at_ : Int) (n : ByteArray) (hn : n.size ≤ maxLen) (sw sk : Option Addr) (wl cw kl ck : Nat) (w : World) :
    Calls Tryz.prog 141 #[.agg #[.int .i64 k, .string n, .slice sw wl cw, .slice sk kl ck], .int .i64 at_] w (NdPost (enodeF k n wl kl) at_ w) := by
  have HB : Hid (Below w.heap.size w (w.alloc (.cells #[.int .i64 k, .string n, .slice sw wl cw, .slice sk kl ck] 25 (0, 0)))) := below_more (Below.refl w.heap.size w) _; have HQ : Hid ((w.alloc (.cells #[.int .i64 k, .string n, .slice sw wl cw, .slice sk kl ck] 25 (0, 0))).heap[w.heap.size]? = some (.cells #[.int .i64 k, .string n, .slice sw wl cw, .slice sk kl ck] 25 (0, 0))) := blk_new _ _; (have HWd : Hid (∀ w, Calls Tryz.prog 181 #[.agg #[.int .i64 k, .string n, .slice sw wl cw, .slice sk kl ck]] w fun e w' => e = .returned (.bool (ewordsB k wl)) ∧ Below w.heap.size w w') := fun w => itsWords_any k n sw sk wl cw kl ck w); (have HNm : Hid (∀ w, Calls Tryz.prog 182 #[.agg #[.int .i64 k, .string n, .slice sw wl cw, .slice sk kl ck]] w fun e w' => e = .returned (.bool (enameB k n.data.toList)) ∧ Below w.heap.size w w') := fun w => itsName_any k n hn sw sk wl cw kl ck w); (have HKd : Hid (∀ w, Calls Tryz.prog 180 #[.int .i64 k] w fun e w' => e = .returned (.tuple #[.int .i64 (ekidsN k), .bool (ekindB k)]) ∧ w' = w) := fun w => ekidsOf_any k w); (have hse : ∀ a b : Int, True := fun _ _ => trivial); clear hn hse; unfold NdPost enodeF; generalize ekidsN k = kn at *; generalize enameB k n.data.toList = nb at *; generalize ewordsB k wl = wb at *
  rcases hk : ekindB k with _ | _
  · rw [hk] at HKd
    rw [if_pos rfl]; clear hk HNm HWd
    go_enter Tryz.func141, Tryz.ntmps141
    go_wp2_with (first
      | (go_at_call 180; refine (HKd.out _).mono ?_; rintro e w1 ⟨rfl, rfl⟩)
      | (go_at_call 122; refine (stop_any _ _ _).mono ?_; rintro e w4 ⟨rfl, rfl⟩)
      | fail)
    exact ⟨rfl, rfl, HB.out⟩
  rw [hk] at HKd; (rw [if_neg (by simp)]); clear hk
  rcases wb with _ | _
  · rw [if_pos (Or.inl rfl)]
    clear HNm
    go_enter Tryz.func141, Tryz.ntmps141
    go_wp2_with (first
      | (go_at_call 180; refine (HKd.out _).mono ?_; rintro e w1 ⟨rfl, rfl⟩)
      | (go_at_call 181; refine (HWd.out _).mono ?_; rintro e w2 ⟨rfl, hb2⟩)
      | (go_at_call 122; refine (stop_any _ _ _).mono ?_; rintro e w4 ⟨rfl, rfl⟩)
      | fail)
    exact ⟨rfl, rfl, below_join HB.out hb2⟩
  by_cases hkl : (kl : Int) = kn
  case neg =>
    rw [if_pos (Or.inr hkl)]; (have hkJ : ((kl : Int) != kn) = true := by simpa using hkl); clear HNm hkl
    go_enter Tryz.func141, Tryz.ntmps141
    go_wp2_with (first
      | (go_at_call 180; refine (HKd.out _).mono ?_; rintro e w1 ⟨rfl, rfl⟩)
      | (go_at_call 181; refine (HWd.out _).mono ?_; rintro e w2 ⟨rfl, hb2⟩; obtain ⟨q0, q1, q2, q3⟩ := blk4L (below_keep hb2 HQ.out))
      | (go_at_call 122; refine (stop_any _ _ _).mono ?_; rintro e w4 ⟨rfl, rfl⟩)
      | fail)
    exact ⟨rfl, rfl, below_join HB.out hb2⟩
  (rw [if_neg (fun h => h.elim (fun h => by cases h) (fun h => h hkl))]); (have hkJ : ((kl : Int) != kn) = false := by simpa using hkl); clear hkl
  rcases nb with _ | _
  · rw [if_pos rfl]
    go_enter Tryz.func141, Tryz.ntmps141
    go_wp2_with (first
      | (go_at_call 180; refine (HKd.out _).mono ?_; rintro e w1 ⟨rfl, rfl⟩)
      | (go_at_call 181; refine (HWd.out _).mono ?_; rintro e w2 ⟨rfl, hb2⟩; obtain ⟨q0, q1, q2, q3⟩ := blk4L (below_keep hb2 HQ.out))
      | (go_at_call 182; refine (HNm.out _).mono ?_; rintro e w3 ⟨rfl, hb3⟩)
      | (go_at_call 122; refine (stop_any _ _ _).mono ?_; rintro e w4 ⟨rfl, rfl⟩)
      | fail)
    exact ⟨rfl, rfl, below_join (below_join HB.out hb2) hb3⟩
  · rw [if_neg (by simp)]
    go_enter Tryz.func141, Tryz.ntmps141
    go_wp2_with (first
      | (go_at_call 180; refine (HKd.out _).mono ?_; rintro e w1 ⟨rfl, rfl⟩)
      | (go_at_call 181; refine (HWd.out _).mono ?_; rintro e w2 ⟨rfl, hb2⟩; obtain ⟨q0, q1, q2, q3⟩ := blk4L (below_keep hb2 HQ.out))
      | (go_at_call 182; refine (HNm.out _).mono ?_; rintro e w3 ⟨rfl, hb3⟩)
      | fail)
    go_end0
    exact ⟨rfl, below_join (below_join HB.out hb2) hb3⟩
set_option maxHeartbeats 4000000 in
theorem checkWord_any (at_ : Int) (n : ByteArray) (hn : n.size ≤ maxLen) (sl : Option Addr) (al cap : Nat) (w : World) :
    Calls Tryz.prog 99 #[.agg #[.string n, .slice sl al cap], .int .i64 at_] w (NdPost (wnodeF n al) at_ w) := by
  have HB : Hid (Below w.heap.size w (w.alloc (.cells #[.string n, .slice sl al cap] 27 (0, 0)))) := below_more (Below.refl w.heap.size w) _; have HQ : Hid ((w.alloc (.cells #[.string n, .slice sl al cap] 27 (0, 0))).heap[w.heap.size]? = some (.cells #[.string n, .slice sl al cap] 27 (0, 0))) := blk_new _ _; (have HAn : Hid (∀ w, Calls Tryz.prog 147 #[.string n] w fun e w' => e = .returned (.bool (anyB n.data.toList)) ∧ Below w.heap.size w w') := fun w => anyName_any n w hn); unfold anyB at HAn; (have HVr : Hid (∀ w, Calls Tryz.prog 46 #[.string n] w fun e w' => e = .returned (.bool (isNm n.data.toList)) ∧ Below w.heap.size w w') := fun w => var_any n hn w); clear hn; unfold NdPost wnodeF; generalize isNm n.data.toList = nb at *; generalize isBg n.data.toList = bb at *
  rcases nb with _ | _
  · rw [Bool.false_or] at HAn
    rcases bb with _ | _
    · rw [if_pos ⟨rfl, rfl⟩]
      go_enter Tryz.func99, Tryz.ntmps99
      go_wp2_with (first
        | (go_at_call 147; refine (HAn.out _).mono ?_; rintro e w2 ⟨rfl, hb2⟩; obtain ⟨q0, q1, -⟩ := blk2 (below_keep hb2 HQ.out))
        | (go_at_call 122; refine (stop_any _ _ _).mono ?_; rintro e w4 ⟨rfl, rfl⟩)
        | fail)
      exact ⟨rfl, rfl, below_join HB.out hb2⟩
    · rw [if_neg (by simp), if_neg (by simp)]
      by_cases hal : 0 < al
      · have halI : (0 : Int) < (al : Int) := by omega
        go_enter Tryz.func99, Tryz.ntmps99
        go_wp2_with (first
          | (go_at_call 147; refine (HAn.out _).mono ?_; rintro e w2 ⟨rfl, hb2⟩; obtain ⟨q0, q1, -⟩ := blk2 (below_keep hb2 HQ.out))
          | (go_at_call 46; refine (HVr.out _).mono ?_; rintro e w3 ⟨rfl, hb3⟩; obtain ⟨s0, s1, -⟩ := blk2 (below_keep hb3 (below_keep hb2 HQ.out)))
          | fail)
        go_end0
        exact ⟨rfl, below_join (below_join HB.out hb2) hb3⟩
      · have halI : ¬ (0 : Int) < (al : Int) := by omega
        go_enter Tryz.func99, Tryz.ntmps99
        go_wp2_with (first
          | (go_at_call 147; refine (HAn.out _).mono ?_; rintro e w2 ⟨rfl, hb2⟩; obtain ⟨q0, q1, -⟩ := blk2 (below_keep hb2 HQ.out))
          | fail)
        go_end0
        exact ⟨rfl, below_join HB.out hb2⟩
  · rw [Bool.true_or] at HAn
    by_cases hal : 0 < al
    · have halI : (0 : Int) < (al : Int) := by omega
      (rw [if_neg (by simp), if_pos ⟨rfl, hal⟩])
      go_enter Tryz.func99, Tryz.ntmps99
      go_wp2_with (first
        | (go_at_call 147; refine (HAn.out _).mono ?_; rintro e w2 ⟨rfl, hb2⟩; obtain ⟨q0, q1, -⟩ := blk2 (below_keep hb2 HQ.out))
        | (go_at_call 46; refine (HVr.out _).mono ?_; rintro e w3 ⟨rfl, hb3⟩; obtain ⟨s0, s1, -⟩ := blk2 (below_keep hb3 (below_keep hb2 HQ.out)))
        | (go_at_call 122; refine (stop_any _ _ _).mono ?_; rintro e w4 ⟨rfl, rfl⟩)
        | fail)
      exact ⟨rfl, rfl, below_join (below_join HB.out hb2) hb3⟩
    · have halI : ¬ (0 : Int) < (al : Int) := by omega
      (rw [if_neg (by simp), if_neg (by simp; omega)])
      go_enter Tryz.func99, Tryz.ntmps99
      go_wp2_with (first
        | (go_at_call 147; refine (HAn.out _).mono ?_; rintro e w2 ⟨rfl, hb2⟩; obtain ⟨q0, q1, -⟩ := blk2 (below_keep hb2 HQ.out))
        | fail)
      go_end0
      exact ⟨rfl, below_join HB.out hb2⟩
end Go.Proofs.YtheiikkeelbjnajGreat
/- Walks: the n-th ending (syntax.nth). -/
namespace Go.Proofs.YtheiikkeelbjnajGreat
open Go.RowKit Go.Sort

/-- The n-th small letter. -/
def lowB (r : Nat) : UInt8 := UInt8.ofNat (97 + r)
/-- The n-th ending. -/
def nthS (n : Nat) : List UInt8 := if n < 26 then [lowB n] else nthS (n / 26 - 1) ++ [lowB (n % 26)]
termination_by n
decreasing_by omega
theorem nthS_small {n : Nat} (h : n < 26) : nthS n = [lowB n] := by rw [nthS, if_pos h]
theorem nthS_big {n : Nat} (h : ¬ n < 26) : nthS n = nthS (n / 26 - 1) ++ [lowB (n % 26)] := by rw [nthS, if_neg h]
theorem nthS_len : ∀ (m n : Nat), n < m → (nthS n).length ≤ n + 1 ∧ 1 ≤ (nthS n).length
  | m + 1, n, h => by
    by_cases hn : n < 26
    · rw [nthS_small hn]; simp
    · rw [nthS_big hn, List.length_append]
      (have := nthS_len m (n / 26 - 1) (by omega))
      simp
      omega
theorem byte_inj : ∀ a b : Fin 26, lowB a.val = lowB b.val → a = b := by decide
theorem byte_eq {a b : Nat} (ha : a < 26) (hb : b < 26) (h : lowB a = lowB b) : a = b := congrArg Fin.val (byte_inj ⟨a, ha⟩ ⟨b, hb⟩ h)
theorem nthS_inj : ∀ (m n k : Nat), n < m → nthS n = nthS k → n = k
  | m + 1, n, k, h, e => by
    (by_cases hn : n < 26 <;> by_cases hk : k < 26)
    · rw [nthS_small hn, nthS_small hk] at e
      (exact byte_eq hn hk (by simpa using e))
    · rw [nthS_small hn, nthS_big hk] at e
      have h1 := congrArg List.length e; have := (nthS_len _ (k / 26 - 1) (Nat.lt_succ_self _)).2; simp at h1; rw [h1] at this; simp at this
    · rw [nthS_big hn, nthS_small hk] at e
      have h1 := congrArg List.length e; have := (nthS_len _ (n / 26 - 1) (Nat.lt_succ_self _)).2; simp at h1; rw [h1] at this; simp at this
    · rw [nthS_big hn, nthS_big hk] at e
      obtain ⟨e1, e2⟩ := List.append_inj' e rfl; (have h1 := nthS_inj m (n / 26 - 1) (k / 26 - 1) (by omega) e1); (have h2 := byte_eq (Nat.mod_lt _ (by omega)) (Nat.mod_lt _ (by omega)) (by simpa using e2)); omega
theorem lett_all : ∀ a : Fin 26, 97 ≤ (lowB a.val).toNat ∧ (lowB a.val).toNat ≤ 122 := by decide
theorem nthS_let : ∀ (m n : Nat), n < m → ∀ c ∈ nthS n, 97 ≤ c.toNat ∧ c.toNat ≤ 122
  | m + 1, n, h, c, hc => by
    by_cases hn : n < 26
    · rw [nthS_small hn] at hc
      obtain rfl := List.mem_singleton.1 hc; exact lett_all ⟨n, hn⟩
    · rw [nthS_big hn] at hc
      rcases List.mem_append.1 hc with hc | hc
      · exact nthS_let m (n / 26 - 1) (by omega) c hc
      · obtain rfl := List.mem_singleton.1 hc
        (exact lett_all ⟨n % 26, Nat.mod_lt _ (by omega)⟩)
theorem utf_all : ∀ a : Fin 26, Utf8.encode (97 + (a.val : Int)) = ⟨#[lowB a.val]⟩ := by decide +kernel
theorem utf_one {a : Nat} (h : a < 26) : Utf8.encode (97 + (a : Int)) = ⟨#[lowB a]⟩ := utf_all ⟨a, h⟩
set_option maxHeartbeats 4000000 in
set_option maxRecDepth 10000 in
theorem nth_any : ∀ (m n : Nat), n < m → n ≤ 10000000 → ∀ w : World, Calls Tryz.prog 136 #[.int .i64 (n : Nat)] w fun e w' => e = .returned (.string ⟨(nthS n).toArray⟩) ∧ w' = w
  | m + 1, n, h, hn, w => by
    (have hnI : (n : Int) ≤ 10000000 := by omega)
    have HU : Hid (Utf8.encode (97 + (n : Int) % 26) = ⟨#[lowB (n % 26)]⟩) := by
      show _ = _; (rw [show (n : Int) % 26 = ((n % 26 : Nat) : Int) by omega]); (exact utf_one (Nat.mod_lt _ (by omega)))
    by_cases hs : n < 26
    · have hsI : (n : Int) < 26 := by omega
      (have HE : Hid (nthS n = [lowB (n % 26)]) := by show _ = _; rw [nthS_small hs, Nat.mod_eq_of_lt hs]); clear hs h hn
      go_enter Tryz.func136, Tryz.ntmps136
      go_wp2_with fail; go_ret; refine ⟨?_, rfl⟩; show Ending.returned (.string (Utf8.encode (97 + (n : Int) % 26))) = _; rw [HU.out, HE.out]
    · have hsI : ¬ (n : Int) < 26 := by omega
      obtain ⟨q, hq⟩ : ∃ q : Int, (n : Int) / 26 - 1 = q := ⟨_, rfl⟩
      have HI : Hid (∀ w : World, Calls Tryz.prog 136 #[.int .i64 q] w fun e w' => e = .returned (.string ⟨(nthS (n / 26 - 1)).toArray⟩) ∧ w' = w) := fun w => by
        (rw [← hq, show (n : Int) / 26 - 1 = ((n / 26 - 1 : Nat) : Int) by omega]); (exact nth_any m (n / 26 - 1) (by omega) (by omega) w)
      have HE : Hid (nthS n = nthS (n / 26 - 1) ++ [lowB (n % 26)]) := nthS_big hs; have hl := (nthS_len _ (n / 26 - 1) (Nat.lt_succ_self _)).1; generalize nthS (n / 26 - 1) = Q at HI HE hl; (have hl2 : Q.length ≤ 10000001 := by omega); have HL : Hid (Q.length ≤ 10000001) := hl2; obtain ⟨S, hS⟩ : ∃ S : ByteArray, S = ⟨Q.toArray⟩ := ⟨_, rfl⟩; have HS : Hid (S = ⟨Q.toArray⟩) := hS; rw [← hS] at HI
      have hsz : ¬ 9223372036854775807 < S.size + 1 := by
        (have : S.size = Q.length := by rw [hS]; simp [ByteArray.size]); omega
      clear hs h hn hl hl2 hS
      go_enter Tryz.func136, Tryz.ntmps136
      go_wp2_with fail; refine (HI.out w).mono ?_; rintro _ w2 ⟨rfl, h2⟩; obtain rfl : w = w2 := h2.symm; rw [HU.out]; clear h2; go_wp2_with fail; go_ret; refine ⟨?_, rfl⟩; rw [HE.out, HS.out]
      have hcat : (⟨Q.toArray⟩ : ByteArray) ++ ⟨#[lowB (n % 26)]⟩ = ⟨(Q ++ [lowB (n % 26)]).toArray⟩ := by
        apply ByteArray.ext
        simp
      rw [← hcat]; rfl
end Go.Proofs.YtheiikkeelbjnajGreat
