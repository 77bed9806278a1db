/- Texts of one proof, one behind the other: FR3, FR4, FR6, FR7, FR8. -/
import Derived.Test.YtheiikkeelbjnajGreatB08
import Derived.Test.YtheiikkeelbjnajGreatB25
import Derived.Test.YtheiikkeelbjnajGreatB18
import Derived.Test.YtheiikkeelbjnajGreatB17
/- Walks: a text that is read (package scan): names. -/
namespace Go.Proofs.YtheiikkeelbjnajGreat
open Go.RowKit

/-- The letters with which a text begins. -/
def lettL (l : List UInt8) : List UInt8 := l.takeWhile lettB
theorem lettL_pre (l : List UInt8) : lettL l = l.take (lettL l).length := by
  induction l with
  | nil => simp [lettL]
  | cons c l ih =>
    unfold lettL at *; rw [List.takeWhile_cons]
    split
    · rw [List.length_cons, List.take_succ_cons, ← ih]
    · simp
theorem At.cut {t : ByteArray} {a k : Nat} {l : List UInt8} (h : At t a l) : (t.extract a (a + k)).data.toList = l.take k := by
  rw [← h.2, ByteArray.data_extract, Array.toList_extract, List.extract_eq_take_drop, Nat.add_sub_cancel_left]
/-- What reading a name leaves. -/
def NmPost (Pn : List UInt8 → Bool) (L : List UInt8) (t : ByteArray) (br : Nat) (e : Ending) (w' : World) : Prop :=
  if Pn (lettL L) = true then e = .returned (.string ⟨(lettL L).toArray⟩) ∧ ∃ a', At t a' (L.drop (lettL L).length) ∧ TS br w' t a' else e = .panicked (stopC 1 ((t.size - L.length : Nat) : Int))
set_option maxRecDepth 10000 in
set_option maxHeartbeats 4000000 in
theorem nameT_any (F : Nat) (Pn : List UInt8 → Bool) (hP : ∀ (s : ByteArray) (w : World), s.size ≤ maxLen → Calls Tryz.prog F #[.string s] w fun e w' => e = .returned (.bool (Pn s.data.toList)) ∧ Below w.heap.size w w') (hF : ∀ (cap : Array Value) (w : World), (callFunc F cap).run Tryz.prog w = .ok (.enter F cap) w)
    (br : Nat) (t : ByteArray) (ht : t.size ≤ 20000) (w : World) (a : Nat) (l : List UInt8) (ha : At t a l) (h : TS br w t a) :
    Calls Tryz.prog 211 #[.pointer (some ⟨br, 0, none⟩), .func (.func 149) #[] #[], .func (.func F) #[] #[]] w fun e w' => Kept (· ≠ br) w w' ∧ NmPost Pn (skipB l) t br e w' := by
  obtain ⟨L, hL⟩ : ∃ L, L = skipB l := ⟨_, rfl⟩; rw [← hL]; have HLs : Hid (L = skipB l) := hL; clear hL
  go_enter Tryz.func211, Tryz.ntmps211
  go_wp2_with (first
    | (go_at_call 178
       refine (skipT_any br t ht _ a l ha h).mono ?_; rintro e w1 ⟨rfl, ⟨a1, ha1, hr1⟩, hk1⟩; have f0 := hr1.c0
       have f1 := hr1.c1)
    | fail)
  rw [← HLs.out] at ha1; have HA : Hid (At t a1 L ∧ L = skipB l) := ⟨ha1, HLs.out⟩; have HR : Hid (TS br w1 t a1) := hr1; have HK : Hid (Kept (· ≠ br) w w1) := hk1; (have hl1 : (t.size : Int) ≤ 20000 := by omega); (have hin : ∀ (cap : Array Value) (w : World), (callFunc 149 cap).run Tryz.prog w = .ok (.enter 149 cap) w := fun cap w => by simp [go_sem]); have hla := ha1.len; clear ha1 hr1 hk1; (have HPn : Hid (∀ (s : ByteArray) (w : World), s.size ≤ maxLen → Calls Tryz.prog F #[.string s] w fun e w' => e = .returned (.bool (Pn s.data.toList)) ∧ Below w.heap.size w w') := hP); clear hP
  go_loop [7] (fun v => ∃ q l2, At t q l2 ∧ a1 ≤ q ∧ v = .int .i64 (q : Nat) ∧ (lettL L).length = (q - a1) + (lettL l2).length) (fun v => t.size - (intOf v).toNat)
  case atStart => exact ⟨a1, L, HA.out.1, Nat.le_refl _, rfl, by simp⟩
  case round =>
    obtain ⟨q, l2, ha2, haq, rfl, hl2⟩ := hrel; have hlen := ha2.len; have HL : Hid (At t q l2 ∧ (lettL L).length = (q - a1) + (lettL l2).length) := ⟨ha2, hl2⟩; (have HQ : Hid (a1 ≤ q ∧ q ≤ t.size) := ⟨haq, by omega⟩); (have h5a : (a1 : Int) ≤ (q : Int) := by omega); (have h5b : (q : Int) ≤ (t.size : Int) := by omega); clear ha2 hl2 haq
    cases l2 with
    | nil =>
      simp at hlen; (have hge : ¬ (q : Int) < (t.size : Int) := by omega); (have HE : Hid ((lettL L).length = q - a1) := by show _ = _; rw [HL.out.2]; simp [lettL]); clear hlen
      have HS : Hid ((t.extract a1 q).data.toList = lettL L ∧ (t.extract a1 q).size ≤ 20000) := by
        (have e : a1 + (q - a1) = q := by have := HQ.out; omega); refine ⟨?_, ?_⟩
        · have h9 := HA.out.1.cut (k := q - a1)
          rw [e] at h9; rw [h9, lettL_pre L, HE.out]
        · rw [ByteArray.size_extract]
          omega
      have HAt : Hid (At t q (L.drop (lettL L).length)) := by
        (have h9 := HA.out.1.drop (q - a1) (by have := HA.out.1.len; have := HQ.out; omega)); (rw [show a1 + (q - a1) = q by have := HQ.out; omega, ← HE.out] at h9); exact h9
      go_wp2_with fail
      go_quiet (fail)
      go_wp2_with fail; obtain ⟨S, hSe⟩ : ∃ S, S = t.extract a1 q := ⟨_, rfl⟩; rw [← hSe] at HS ⊢; clear hSe; (refine (HPn.out S _ (by have := HS.out.2; unfold maxLen; omega)).mono ?_); rintro _ w2 ⟨rfl, hb2⟩; have hb3 : Below w1.heap.size w1 w2 := ⟨hb2.os, hb2.tape, hb2.output, hb2.size, hb2.block⟩; have HR2 : Hid (TS br w2 t a1) := HR.out.same (hb3.block _ HR.out.lt); (have HK2 : Hid (Kept (· ≠ br) w w2) := HK.out.trans ⟨hb3.os, hb3.tape, hb3.output, hb3.size, fun k hk _ => hb3.block k hk⟩); rw [HS.out.1]; clear hb2 hb3
      rcases hpn : Pn (lettL L) with _ | _
      · go_wp2_with (first
          | (go_at_call 179
             refine (wrongT_any br t ht _ a1 L HA.out.1 HR2.out).mono ?_
             rintro e w3 ⟨rfl, hk3⟩)
          | fail)
        refine ⟨rfl, HK2.out.trans hk3, ?_⟩; unfold NmPost; (rw [if_neg (by rw [hpn]; simp), HA.out.2, skipB_idem])
      · have g0 := HR2.out.c0
        have g1 := HR2.out.c1; have g2 := HR2.out.fz; have hz := HS.out.2
        go_wp2_with (first
          | (go_at_call 62
             (refine (clone_any S _ (by omega)).mono ?_)
             rintro e w3 ⟨rfl, hb3⟩)
          | fail)
        go_ret; (have hk4 : Kept (· ≠ br) w (w2.setCell ⟨br, 1, none⟩ (.int .i64 (q : Nat))) := HK2.out.setCell (by simp) _); have hr4 := HR2.out.set1 q; (refine ⟨hk4.trans ⟨hb3.os, hb3.tape, hb3.output, hb3.size, fun k hk _ => hb3.block k hk⟩, ?_⟩); unfold NmPost; rw [if_pos hpn]; refine ⟨?_, q, HAt.out, hr4.same (hb3.block _ hr4.lt)⟩; rw [← HS.out.1, str_eta]
        rfl
    | cons c l2 =>
      simp at hlen; (have hlt : (q : Int) < (t.size : Int) := by omega); (have hlt' : q < t.size := by omega); have hhd : t[q] = c := HL.out.1.head hlt'; (have HLc : Hid (∀ w, Calls Tryz.prog 149 #[.int .u8 (t[q].toNat : Int)] w fun e w' => e = .returned (.bool (lettB c)) ∧ w' = w) := fun w => by rw [hhd]; exact lett_any c w); clear hhd hlen
      rcases hcb : lettB c with _ | _
      · rw [hcb] at HLc
        (have HE : Hid ((lettL L).length = q - a1) := by show _ = _; rw [HL.out.2]; unfold lettL; rw [List.takeWhile_cons, if_neg (by rw [hcb]; simp)]; simp); clear hcb
        have HS : Hid ((t.extract a1 q).data.toList = lettL L ∧ (t.extract a1 q).size ≤ 20000) := by
          (have e : a1 + (q - a1) = q := by have := HQ.out; omega); refine ⟨?_, ?_⟩
          · have h9 := HA.out.1.cut (k := q - a1)
            rw [e] at h9; rw [h9, lettL_pre L, HE.out]
          · rw [ByteArray.size_extract]
            omega
        have HAt : Hid (At t q (L.drop (lettL L).length)) := by
          (have h9 := HA.out.1.drop (q - a1) (by have := HA.out.1.len; have := HQ.out; omega)); (rw [show a1 + (q - a1) = q by have := HQ.out; omega, ← HE.out] at h9); exact h9
        go_wp2_with (first
          | (go_at_call 149; refine (HLc.out _).mono ?_; rintro e w2 ⟨rfl, h2⟩; obtain rfl : w1 = w2 := h2.symm)
          | fail)
        go_quiet (fail)
        go_wp2_with fail; obtain ⟨S, hSe⟩ : ∃ S, S = t.extract a1 q := ⟨_, rfl⟩; rw [← hSe] at HS ⊢; clear hSe; (refine (HPn.out S _ (by have := HS.out.2; unfold maxLen; omega)).mono ?_); rintro _ w2 ⟨rfl, hb2⟩; have hb3 : Below w1.heap.size w1 w2 := ⟨hb2.os, hb2.tape, hb2.output, hb2.size, hb2.block⟩; have HR2 : Hid (TS br w2 t a1) := HR.out.same (hb3.block _ HR.out.lt); (have HK2 : Hid (Kept (· ≠ br) w w2) := HK.out.trans ⟨hb3.os, hb3.tape, hb3.output, hb3.size, fun k hk _ => hb3.block k hk⟩); rw [HS.out.1]; clear hb2 hb3
        rcases hpn : Pn (lettL L) with _ | _
        · go_wp2_with (first
            | (go_at_call 179
               refine (wrongT_any br t ht _ a1 L HA.out.1 HR2.out).mono ?_
               rintro e w3 ⟨rfl, hk3⟩)
            | fail)
          refine ⟨rfl, HK2.out.trans hk3, ?_⟩; unfold NmPost; (rw [if_neg (by rw [hpn]; simp), HA.out.2, skipB_idem])
        · have g0 := HR2.out.c0
          have g1 := HR2.out.c1; have g2 := HR2.out.fz; have hz := HS.out.2
          go_wp2_with (first
            | (go_at_call 62
               (refine (clone_any S _ (by omega)).mono ?_)
               rintro e w3 ⟨rfl, hb3⟩)
            | fail)
          go_ret; (have hk4 : Kept (· ≠ br) w (w2.setCell ⟨br, 1, none⟩ (.int .i64 (q : Nat))) := HK2.out.setCell (by simp) _); have hr4 := HR2.out.set1 q; (refine ⟨hk4.trans ⟨hb3.os, hb3.tape, hb3.output, hb3.size, fun k hk _ => hb3.block k hk⟩, ?_⟩); unfold NmPost; rw [if_pos hpn]; refine ⟨?_, q, HAt.out, hr4.same (hb3.block _ hr4.lt)⟩; rw [← HS.out.1, str_eta]; rfl
      · rw [hcb] at HLc
        (have HN : Hid (At t (q + 1) l2 ∧ (lettL L).length = (q + 1 - a1) + (lettL l2).length) := ⟨HL.out.1.cons, by rw [HL.out.2]; unfold lettL; rw [List.takeWhile_cons, if_pos hcb, List.length_cons]; have := HQ.out; omega⟩); clear hcb
        go_wp2_with (first
          | (go_at_call 149; refine (HLc.out _).mono ?_; rintro e w2 ⟨rfl, h2⟩; obtain rfl : w1 = w2 := h2.symm)
          | fail)
        go_round
        case rel => exact ⟨q + 1, l2, HN.out.1, by have := HQ.out; omega, by go_num, HN.out.2⟩
        case measure => simp [intOf]; omega
end Go.Proofs.YtheiikkeelbjnajGreat
/- Walks: names as the reader of first order asks for them. -/
namespace Go.Proofs.YtheiikkeelbjnajGreat
open Go.RowKit

theorem nameV_any (br : Nat) (t : ByteArray) (ht : t.size ≤ 20000) (w : World) (a : Nat) (l : List UInt8) (ha : At t a l) (h : TS br w t a) :
    Calls Tryz.prog 211 #[.pointer (some ⟨br, 0, none⟩), .func (.func 149) #[] #[], .func (.func 46) #[] #[]] w fun e w' => Kept (· ≠ br) w w' ∧ NmPost isNm (skipB l) t br e w' :=
  nameT_any 46 isNm (fun s w hs => var_any s hs w) (fun cap w => by simp [go_sem]) br t ht w a l ha h
theorem nameA_any (br : Nat) (t : ByteArray) (ht : t.size ≤ 20000) (w : World) (a : Nat) (l : List UInt8) (ha : At t a l) (h : TS br w t a) :
    Calls Tryz.prog 211 #[.pointer (some ⟨br, 0, none⟩), .func (.func 149) #[] #[], .func (.func 147) #[] #[]] w fun e w' => Kept (· ≠ br) w w' ∧ NmPost anyB (skipB l) t br e w' :=
  nameT_any 147 anyB (fun s w hs => anyName_any s w hs) (fun cap w => by simp [go_sem]) br t ht w a l ha h
end Go.Proofs.YtheiikkeelbjnajGreat
/- The reader of first order as data: functions with fuel, what they answer from some fuel on. -/
namespace Go.Proofs.YtheiikkeelbjnajGreat

/-- What a reading answers: something and the rest, or what is left where it is wrong. -/
inductive Rd (α : Type) where
  | ok (x : α) (rest : List UInt8)
  | bad (rest : List UInt8)
def EvR {α : Type} (K : Nat → Option (Rd α)) (r : Rd α) : Prop := ∃ N, ∀ k, N ≤ k → K k = some r
theorem EvR.unique {α : Type} {K : Nat → Option (Rd α)} {r s : Rd α} (h : EvR K r) (k : EvR K s) : r = s := by
  obtain ⟨N, hN⟩ := h; obtain ⟨M, hM⟩ := k; have a := hN (max N M) (Nat.le_max_left _ _); have b := hM (max N M) (Nat.le_max_right _ _); rw [a] at b; exact Option.some.inj b
theorem EvR.step {α β : Type} {K : Nat → Option (Rd α)} {K' : Nat → Option (Rd β)} {r : Rd α} {x : Rd β} (h : EvR K r) (hs : ∀ k, K k = some r → K' (k + 1) = some x) : EvR K' x := by
  obtain ⟨N, hN⟩ := h; (refine ⟨N + 1, fun k hk => ?_⟩); (obtain ⟨k', rfl⟩ : ∃ k', k = k' + 1 := ⟨k - 1, by omega⟩); (exact hs k' (hN k' (by omega)))
theorem EvR.step2 {α β γ : Type} {K : Nat → Option (Rd α)} {K1 : Nat → Option (Rd β)} {K' : Nat → Option (Rd γ)} {r : Rd α} {s : Rd β} {x : Rd γ} (h : EvR K r) (h1 : EvR K1 s) (hs : ∀ k, K k = some r → K1 k = some s → K' (k + 1) = some x) : EvR K' x := by
  obtain ⟨N, hN⟩ := h; obtain ⟨M, hM⟩ := h1; (refine ⟨max N M + 1, fun k hk => ?_⟩); (obtain ⟨k', rfl⟩ : ∃ k', k = k' + 1 := ⟨k - 1, by omega⟩); (exact hs k' (hN k' (by omega)) (hM k' (by omega)))
theorem EvR.now {α : Type} {K' : Nat → Option (Rd α)} {x : Rd α} (hs : ∀ k, K' (k + 1) = some x) : EvR K' x :=
  ⟨1, fun k hk => by obtain ⟨k', rfl⟩ : ∃ k', k = k' + 1 := ⟨k - 1, by omega⟩; exact hs k'⟩

mutual
def rWord : Nat → List UInt8 → Option (Rd Wd)
  | 0, _ => none
  | n + 1, l =>
    if anyB (lettL (skipB l)) then
      if isBg (lettL (skipB l)) then
        match takeS [40] ((skipB l).drop (lettL (skipB l)).length) with
        | none => some (.ok (.mk ⟨(lettL (skipB l)).toArray⟩ []) (skipB ((skipB l).drop (lettL (skipB l)).length)))
        | some r =>
          match rWords n r with
          | none => none
          | some (.bad r1) => some (.bad r1)
          | some (.ok ws r1) => some (.ok (.mk ⟨(lettL (skipB l)).toArray⟩ ws) r1)
      else some (.ok (.mk ⟨(lettL (skipB l)).toArray⟩ []) ((skipB l).drop (lettL (skipB l)).length))
    else some (.bad (skipB l))
def rWords : Nat → List UInt8 → Option (Rd (List Wd))
  | 0, _ => none
  | n + 1, l =>
    match rWord n l with
    | none => none
    | some (.bad r) => some (.bad r)
    | some (.ok x r) => rMore n [x] r
def rMore : Nat → List Wd → List UInt8 → Option (Rd (List Wd))
  | 0, _, _ => none
  | n + 1, xs, l =>
    match takeS [44] l with
    | none =>
      match takeS [41] l with
      | none => some (.bad (skipB l))
      | some r => some (.ok xs r)
    | some r =>
      match rWord n r with
      | none => none
      | some (.bad r1) => some (.bad r1)
      | some (.ok x r1) => rMore n (xs ++ [x]) r1
end
theorem ev_word_none {l : List UInt8} (h : anyB (lettL (skipB l)) = false) : EvR (rWord · l) (.bad (skipB l)) :=
  EvR.now fun k => by simp [rWord, h]
theorem ev_word_var {l : List UInt8} (h : anyB (lettL (skipB l)) = true) (hb : isBg (lettL (skipB l)) = false) : EvR (rWord · l) (.ok (.mk ⟨(lettL (skipB l)).toArray⟩ []) ((skipB l).drop (lettL (skipB l)).length)) :=
  EvR.now fun k => by simp [rWord, h, hb]
theorem ev_word_big {l : List UInt8} (h : anyB (lettL (skipB l)) = true) (hb : isBg (lettL (skipB l)) = true) (ht : takeS [40] ((skipB l).drop (lettL (skipB l)).length) = none) : EvR (rWord · l) (.ok (.mk ⟨(lettL (skipB l)).toArray⟩ []) (skipB ((skipB l).drop (lettL (skipB l)).length))) :=
  EvR.now fun k => by simp [rWord, h, hb, ht]
theorem ev_word_bad {l r r1 : List UInt8} (h : anyB (lettL (skipB l)) = true) (hb : isBg (lettL (skipB l)) = true) (ht : takeS [40] ((skipB l).drop (lettL (skipB l)).length) = some r) (hw : EvR (rWords · r) (.bad r1)) : EvR (rWord · l) (.bad r1) :=
  hw.step fun k hk => by simp [rWord, h, hb, ht, hk]
theorem ev_word_ok {l r r1 : List UInt8} {ws : List Wd} (h : anyB (lettL (skipB l)) = true) (hb : isBg (lettL (skipB l)) = true) (ht : takeS [40] ((skipB l).drop (lettL (skipB l)).length) = some r) (hw : EvR (rWords · r) (.ok ws r1)) : EvR (rWord · l) (.ok (.mk ⟨(lettL (skipB l)).toArray⟩ ws) r1) :=
  hw.step fun k hk => by simp [rWord, h, hb, ht, hk]
theorem ev_words_bad {l r : List UInt8} (h : EvR (rWord · l) (.bad r)) : EvR (rWords · l) (.bad r) := h.step fun k hk => by simp only [rWords, hk]
theorem ev_words_ok {l r : List UInt8} {x : Wd} {y : Rd (List Wd)} (h : EvR (rWord · l) (.ok x r)) (h1 : EvR (rMore · [x] r) y) : EvR (rWords · l) y := h.step2 h1 fun k hk hk1 => by simp only [rWords, hk, hk1]
theorem ev_more_none {xs : List Wd} {l : List UInt8} (h : takeS [44] l = none) (h1 : takeS [41] l = none) : EvR (rMore · xs l) (.bad (skipB l)) := EvR.now fun k => by simp only [rMore, h, h1]
theorem ev_more_shut {xs : List Wd} {l r : List UInt8} (h : takeS [44] l = none) (h1 : takeS [41] l = some r) : EvR (rMore · xs l) (.ok xs r) := EvR.now fun k => by simp only [rMore, h, h1]
theorem ev_more_bad {xs : List Wd} {l r r1 : List UInt8} (h : takeS [44] l = some r) (h1 : EvR (rWord · r) (.bad r1)) : EvR (rMore · xs l) (.bad r1) := h1.step fun k hk => by simp only [rMore, h, hk]
theorem ev_more_ok {xs : List Wd} {l r r1 : List UInt8} {x : Wd} {y : Rd (List Wd)} (h : takeS [44] l = some r) (h1 : EvR (rWord · r) (.ok x r1)) (h2 : EvR (rMore · (xs ++ [x]) r1) y) : EvR (rMore · xs l) y := h1.step2 h2 fun k hk hk1 => by simp only [rMore, h, hk, hk1]

/-- One sign ahead of an expression, two expressions about a sign; behind an opening bracket. -/
def Rd.un (k : Int) (n : ByteArray) : Rd Ex → Rd Ex
  | .ok f r => .ok (.mk k n [] [f]) r
  | .bad r => .bad r
def Rd.shut : Rd Ex → Rd Ex
  | .ok f r => match takeS [41] r with
    | some r1 => .ok f r1
    | none => .bad (skipB r)
  | .bad r => .bad r
/-- Words: a predicate, or two words about '='. -/
def rOf (n : Nat) (l : List UInt8) : Option (Rd Ex) :=
  match rWord n l with
  | none => none
  | some (.bad r) => some (.bad r)
  | some (.ok x r) =>
    match takeS [61] r with
    | some r1 =>
      match rWord n r1 with
      | none => none
      | some (.bad r2) => some (.bad r2)
      | some (.ok y r2) => some (.ok (.mk 2 e0 [x, y] []) r2)
    | none => match x with
      | .mk nm ws => if isNm nm.data.toList then some (.bad (skipB r)) else some (.ok (.mk 1 nm ws []) (skipB r))
mutual
def rNot : Nat → List UInt8 → Option (Rd Ex)
  | 0, _ => none
  | n + 1, l =>
    match takeS [126] l with
    | some r => (rNot n r).map (Rd.un 5 e0)
    | none =>
    match takeS [33] l with
    | some r => rQu n 9 r
    | none =>
    match takeS [63] l with
    | some r => rQu n 10 r
    | none =>
    match takeS [40] l with
    | some r => (rThen n r).map Rd.shut
    | none =>
    match takeS [49] l with
    | some r => some (.ok (.mk 3 e0 [] []) r)
    | none =>
    match takeS [48] l with
    | some r => some (.ok (.mk 4 e0 [] []) r)
    | none => rOf n l
def rQu : Nat → Int → List UInt8 → Option (Rd Ex)
  | 0, _, _ => none
  | n + 1, k, l =>
    if isNm (lettL (skipB l)) then (rNot n ((skipB l).drop (lettL (skipB l)).length)).map (Rd.un k ⟨(lettL (skipB l)).toArray⟩)
    else some (.bad (skipB l))
def rAnd : Nat → List UInt8 → Option (Rd Ex)
  | 0, _ => none
  | n + 1, l =>
    match rNot n l with
    | none => none
    | some (.bad r) => some (.bad r)
    | some (.ok f r) => rAnds n f r
def rAnds : Nat → Ex → List UInt8 → Option (Rd Ex)
  | 0, _, _ => none
  | n + 1, f, l =>
    match takeS [38] l with
    | none => some (.ok f (skipB l))
    | some r =>
      match rNot n r with
      | none => none
      | some (.bad r1) => some (.bad r1)
      | some (.ok g r1) => rAnds n (.mk 6 e0 [] [f, g]) r1
def rOr : Nat → List UInt8 → Option (Rd Ex)
  | 0, _ => none
  | n + 1, l =>
    match rAnd n l with
    | none => none
    | some (.bad r) => some (.bad r)
    | some (.ok f r) => rOrs n f r
def rOrs : Nat → Ex → List UInt8 → Option (Rd Ex)
  | 0, _, _ => none
  | n + 1, f, l =>
    match takeS [124] l with
    | none => some (.ok f (skipB l))
    | some r =>
      match rAnd n r with
      | none => none
      | some (.bad r1) => some (.bad r1)
      | some (.ok g r1) => rOrs n (.mk 7 e0 [] [f, g]) r1
def rThen : Nat → List UInt8 → Option (Rd Ex)
  | 0, _ => none
  | n + 1, l =>
    match rOr n l with
    | none => none
    | some (.bad r) => some (.bad r)
    | some (.ok f r) =>
      match takeS [45, 62] r with
      | none => some (.ok f (skipB r))
      | some r1 =>
        match rThen n r1 with
        | none => none
        | some (.bad r2) => some (.bad r2)
        | some (.ok g r2) => some (.ok (.mk 8 e0 [] [f, g]) r2)
end
end Go.Proofs.YtheiikkeelbjnajGreat
/- Walks: a word that is read. -/
namespace Go.Proofs.YtheiikkeelbjnajGreat
open Go.RowKit Go.Sort

/-- What reading a word leaves. -/
def WdPost (br : Nat) (t : ByteArray) (l : List UInt8) (w : World) (e : Ending) (w' : World) : Prop :=
  Kept (· ≠ br) w w' ∧ ((∃ x r v a', EvR (rWord · l) (.ok x r) ∧ e = .returned v ∧ WQ w' (w.heap.size ≤ ·) x v ∧ At t a' r ∧ TS br w' t a' ∧ x.size + r.length ≤ l.length) ∨ (∃ r a', EvR (rWord · l) (.bad r) ∧ e = .panicked (stopC 1 (a' : Nat)) ∧ At t a' r))
/-- What reading words leaves. -/
def WdsPost (br : Nat) (t : ByteArray) (l : List UInt8) (w : World) (e : Ending) (w' : World) : Prop :=
  Kept (· ≠ br) w w' ∧ ((∃ xs r ad cap a', EvR (rWords · l) (.ok xs r) ∧ e = .returned (.slice ad xs.length cap) ∧ KWd w.heap.size w' ad cap xs ∧ At t a' r ∧ TS br w' t a' ∧ Wd.sizes xs + r.length ≤ l.length) ∨ (∃ r a', EvR (rWords · l) (.bad r) ∧ e = .panicked (stopC 1 (a' : Nat)) ∧ At t a' r))
def WdsReads (t : ByteArray) (m : Nat) : Prop :=
  ∀ (br a : Nat) (l : List UInt8) (w : World), At t a l → TS br w t a → l.length < m → Calls Tryz.prog 213 #[.pointer (some ⟨br, 0, none⟩)] w (WdsPost br t l w)

theorem anyB_pos {l : List UInt8} (h : anyB l = true) : 0 < l.length := by
  cases l with
  | nil => simp [anyB, isNm, isBg] at h
  | cons c l => simp
theorem skipB_suff (l : List UInt8) : skipB l = l.drop (l.length - (skipB l).length) := by
  induction l with
  | nil => simp [skipB]
  | cons c l ih =>
    have h := skipB_length l; simp only [skipB]
    split
    · rw [List.length_cons, show l.length + 1 - (skipB l).length = (l.length - (skipB l).length) + 1 by omega, List.drop_succ_cons]
      exact ih
    · simp
theorem At.skipped {t : ByteArray} {a : Nat} {l : List UInt8} (h : At t a l) : At t (t.size - (skipB l).length) (skipB l) := by
  have h1 := h.len; have h2 := skipB_length l; (have h3 := h.drop (l.length - (skipB l).length) (by omega)); rw [← skipB_suff] at h3
  rwa [show t.size - (skipB l).length = a + (l.length - (skipB l).length) by omega]
theorem TS.other {br : Nat} {w : World} {t : ByteArray} {a : Nat} (h : TS br w t a) {p : Addr} (hp : p.block ≠ br) (v : Value) : TS br (w.setCell p v) t a :=
  h.same (Below.heap_setCell _ _ _ _ (fun e => hp e.symm))
set_option maxHeartbeats 1000000 in
theorem word_none (br : Nat) (t : ByteArray) (ht : t.size ≤ 20000) (w : World) (a : Nat) (l : List UInt8) (ha : At t a l) (h : TS br w t a) (hN : anyB (lettL (skipB l)) = false) :
    Calls Tryz.prog 212 #[.pointer (some ⟨br, 0, none⟩)] w (WdPost br t l w) := by
  go_enter Tryz.func212, Tryz.ntmps212
  go_wp2_with (first
    | (go_at_call 211
       refine (nameA_any br t ht _ a l ha (h.alloc _)).mono ?_; rintro e w1 ⟨hk1, hp1⟩; (rw [NmPost, if_neg (by rw [hN]; exact Bool.false_ne_true)] at hp1)
       obtain rfl := hp1)
    | fail)
  exact ⟨rfl, ((Kept.refl _ _).alloc _).trans hk1, Or.inr ⟨_, _, ev_word_none hN, rfl, ha.skipped⟩⟩
set_option maxHeartbeats 1000000 in
theorem word_var (br : Nat) (t : ByteArray) (ht : t.size ≤ 20000) (w : World) (a : Nat) (l : List UInt8) (ha : At t a l) (h : TS br w t a) (hN : anyB (lettL (skipB l)) = true) (hB : isBg (lettL (skipB l)) = false) :
    Calls Tryz.prog 212 #[.pointer (some ⟨br, 0, none⟩)] w (WdPost br t l w) := by
  (have hne : w.heap.size ≠ br := by have := h.lt; omega); (have HP : Hid (0 < (lettL (skipB l)).length ∧ (lettL (skipB l)).length ≤ (skipB l).length ∧ (skipB l).length ≤ l.length ∧ l.length ≤ 20000) := ⟨anyB_pos hN, by rw [lettL_pre (skipB l)]; simp; omega, skipB_length l, by have := ha.len; omega⟩)
  go_enter Tryz.func212, Tryz.ntmps212
  go_wp2_with (first
    | (go_at_call 211
       refine (nameA_any br t ht _ a l ha (h.alloc _)).mono ?_; rintro e w1 ⟨hk1, hp1⟩; rw [NmPost, if_pos hN] at hp1
       obtain ⟨rfl, a1, ha1, hr1⟩ := hp1)
    | (go_at_call 100
       refine (big_any _ _).mono ?_; rintro e w2 ⟨rfl, hw2⟩; rw [hB]
       have q2 : w2.heap[w.heap.size]? = some (.cells #[.string ⟨#[]⟩, .slice none 0 0] 27 (0, 0)) := by
         have z1 := hk1.size; simp at z1; (rw [hw2, Below.heap_alloc _ _ _ (by omega)]); (exact (hk1.block _ (by simp) hne).trans (blk_new _ _))
       have q3 : w2.heap[w1.heap.size]? = some (.cells #[.string ⟨(lettL (skipB l)).toArray⟩, .slice none 0 0] 27 (0, 0)) := by
         rw [hw2]; exact blk_new _ _
       obtain ⟨k1, k2, k3, k4⟩ := blk2 q2; obtain ⟨m1, m2, m3, m4⟩ := blk2 q3; have HW : Hid (w2 = w1.alloc _) := hw2
       clear hw2)
    | fail)
  (have K2 : Kept (· ≠ br) w w2 := by rw [HW.out]; exact (((Kept.refl _ _).alloc _).trans hk1).alloc _); (have T2 : TS br w2 t a1 := by rw [HW.out]; exact hr1.alloc _); (refine bodyPost_ret (v := .agg #[.string ⟨(lettL (skipB l)).toArray⟩, .slice none 0 0]) (by simp [results, Tryz.results212, go_sem, k1, k2]) rfl ⟨?_, Or.inl ⟨.mk ⟨(lettL (skipB l)).toArray⟩ [], _, _, a1, ev_word_var hN hB, rfl, ?_, ha1, ?_, ?_⟩⟩)
  · exact (K2.setCell (fun h => by simp at h) _).setCell (fun h => by simp at h) _
  · have := HP.out
    (exact WQ.def.2 ⟨none, 0, rfl, by show (lettL (skipB l)).toArray.size ≤ maxLen; unfold maxLen; simp; omega, by simp, by simp, fun hne => absurd rfl hne⟩)
  · exact (T2.other hne _).other hne _
  · have := HP.out
    simp [Wd.size, Wd.sizes]; omega
end Go.Proofs.YtheiikkeelbjnajGreat
/- Walks: a word that is read: a big name, with args and without; all ways. -/
namespace Go.Proofs.YtheiikkeelbjnajGreat
open Go.RowKit Go.Sort

set_option maxHeartbeats 1000000 in
theorem word_big (br : Nat) (t : ByteArray) (ht : t.size ≤ 20000) (w : World) (a : Nat) (l : List UInt8) (ha : At t a l) (h : TS br w t a) (hN : anyB (lettL (skipB l)) = true) (hB : isBg (lettL (skipB l)) = true) (hT : takeS [40] ((skipB l).drop (lettL (skipB l)).length) = none) :
    Calls Tryz.prog 212 #[.pointer (some ⟨br, 0, none⟩)] w (WdPost br t l w) := by
  (have hne : w.heap.size ≠ br := by have := h.lt; omega); (have HP : Hid (0 < (lettL (skipB l)).length ∧ (lettL (skipB l)).length ≤ (skipB l).length ∧ (skipB l).length ≤ l.length ∧ l.length ≤ 20000) := ⟨anyB_pos hN, by rw [lettL_pre (skipB l)]; simp; omega, skipB_length l, by have := ha.len; omega⟩)
  go_enter Tryz.func212, Tryz.ntmps212
  go_wp2_with (first
    | (go_at_call 211
       refine (nameA_any br t ht _ a l ha (h.alloc _)).mono ?_; rintro e w1 ⟨hk1, hp1⟩; rw [NmPost, if_pos hN] at hp1
       obtain ⟨rfl, a1, ha1, hr1⟩ := hp1)
    | (go_at_call 100
       refine (big_any _ _).mono ?_; rintro e w2 ⟨rfl, hw2⟩; rw [hB]; have HW : Hid (w2 = w1.alloc (.cells #[.string ⟨(lettL (skipB l)).toArray⟩, .slice none 0 0] 27 (0, 0))) := hw2; (have hr2 : TS br w2 t a1 := by rw [hw2]; exact hr1.alloc _)
       clear hw2)
    | (go_at_call 176
       refine (takeT_no br t ⟨#[40]⟩ ht _ a1 _ ha1 hr2 hT).mono ?_; rintro e w3 ⟨rfl, ⟨a3, ha3, hr3⟩, hk3⟩; (have hn1 : w1.heap.size ≠ br := by have := hr1.lt; omega); (have K3 : Kept (· ≠ br) w w3 := by rw [HW.out] at hk3; exact ((((Kept.refl _ _).alloc _).trans hk1).alloc _).trans hk3)
       have q2 : w3.heap[w.heap.size]? = some (.cells #[.string ⟨#[]⟩, .slice none 0 0] 27 (0, 0)) := by
         have z1 := hk1.size; simp at z1; (rw [hk3.block _ (by rw [HW.out]; simp; omega) hne, HW.out, Below.heap_alloc _ _ _ (by omega)]); (exact (hk1.block _ (by simp) hne).trans (blk_new _ _))
       have q3 : w3.heap[w1.heap.size]? = some (.cells #[.string ⟨(lettL (skipB l)).toArray⟩, .slice none 0 0] 27 (0, 0)) := by
         (rw [hk3.block _ (by rw [HW.out]; simp) hn1, HW.out]); exact blk_new _ _
       obtain ⟨k1, k2, k3, k4⟩ := blk2 q2
       obtain ⟨m1, m2, m3, m4⟩ := blk2 q3)
    | fail)
  (refine bodyPost_ret (v := .agg #[.string ⟨(lettL (skipB l)).toArray⟩, .slice none 0 0]) (by simp [results, Tryz.results212, go_sem, k1, k2]) rfl ⟨?_, Or.inl ⟨.mk ⟨(lettL (skipB l)).toArray⟩ [], _, _, a3, ev_word_big hN hB hT, rfl, ?_, ha3, ?_, ?_⟩⟩)
  · exact (K3.setCell (fun h => by simp at h) _).setCell (fun h => by simp at h) _
  · have := HP.out
    (exact WQ.def.2 ⟨none, 0, rfl, by show (lettL (skipB l)).toArray.size ≤ maxLen; unfold maxLen; simp; omega, by simp, by simp, fun hne => absurd rfl hne⟩)
  · exact (hr3.other hne _).other hne _
  · have := HP.out
    have := skipB_length ((skipB l).drop (lettL (skipB l)).length); simp only [List.length_drop] at this; simp [Wd.size, Wd.sizes]; omega
set_option maxHeartbeats 1000000 in
theorem word_args (br : Nat) (t : ByteArray) (ht : t.size ≤ 20000) (w : World) (a m : Nat) (l r : List UInt8) (ha : At t a l) (h : TS br w t a) (hN : anyB (lettL (skipB l)) = true) (hB : isBg (lettL (skipB l)) = true) (hT : takeS [40] ((skipB l).drop (lettL (skipB l)).length) = some r) (hm : r.length < m) (ih : WdsReads t m) :
    Calls Tryz.prog 212 #[.pointer (some ⟨br, 0, none⟩)] w (WdPost br t l w) := by
  (have hne : w.heap.size ≠ br := by have := h.lt; omega)
  have HP : Hid (0 < (lettL (skipB l)).length ∧ (lettL (skipB l)).length ≤ (skipB l).length ∧ (skipB l).length ≤ l.length ∧ l.length ≤ 20000 ∧ r.length + 1 ≤ l.length - (lettL (skipB l)).length) := ⟨anyB_pos hN, by rw [lettL_pre (skipB l)]; simp; omega, skipB_length l, by have := ha.len; omega, by
    have h1 := takeS_len hT; have h2 := skipB_length l; simp only [List.length_drop, List.length_cons, List.length_nil] at h1
    omega⟩
  go_enter Tryz.func212, Tryz.ntmps212
  go_wp2_with (first
    | (go_at_call 211
       refine (nameA_any br t ht _ a l ha (h.alloc _)).mono ?_; rintro e w1 ⟨hk1, hp1⟩; rw [NmPost, if_pos hN] at hp1
       obtain ⟨rfl, a1, ha1, hr1⟩ := hp1)
    | (go_at_call 100
       refine (big_any _ _).mono ?_; rintro e w2 ⟨rfl, hw2⟩; rw [hB]; have HW : Hid (w2 = w1.alloc (.cells #[.string ⟨(lettL (skipB l)).toArray⟩, .slice none 0 0] 27 (0, 0))) := hw2; (have hr2 : TS br w2 t a1 := by rw [hw2]; exact hr1.alloc _)
       clear hw2)
    | (go_at_call 176
       (refine (takeT_yes br t ⟨#[40]⟩ ht (by decide) _ a1 _ r ha1 hr2 hT).mono ?_); rintro e w3 ⟨rfl, ⟨a3, ha3, hr3⟩, hk3⟩; (have hn1 : w1.heap.size ≠ br := by have := hr1.lt; omega); (have K3 : Kept (· ≠ br) w w3 := by rw [HW.out] at hk3; exact ((((Kept.refl _ _).alloc _).trans hk1).alloc _).trans hk3)
       have q2 : w3.heap[w.heap.size]? = some (.cells #[.string ⟨#[]⟩, .slice none 0 0] 27 (0, 0)) := by
         have z1 := hk1.size; simp at z1; (rw [hk3.block _ (by rw [HW.out]; simp; omega) hne, HW.out, Below.heap_alloc _ _ _ (by omega)]); (exact (hk1.block _ (by simp) hne).trans (blk_new _ _))
       have q3 : w3.heap[w1.heap.size]? = some (.cells #[.string ⟨(lettL (skipB l)).toArray⟩, .slice none 0 0] 27 (0, 0)) := by
         (rw [hk3.block _ (by rw [HW.out]; simp) hn1, HW.out])
         exact blk_new _ _)
    | (go_at_call 213
       refine (ih br a3 r w3 ha3 hr3 hm).mono ?_; rintro e w4 ⟨hk4, hor⟩; have p2 := (hk4.block _ (lt_of_block q2) hne).trans q2; have p3 := (hk4.block _ (lt_of_block q3) hn1).trans q3; obtain ⟨k1, k2, k3, k4⟩ := blk2 p2; obtain ⟨m1, m2, m3, m4⟩ := blk2 p3
       have hd : w1.heap.size ≠ w.heap.size := by
         have z1 := hk1.size; simp at z1; omega
       rcases hor with ⟨xs, r4, ad, cap, a4, hev, rfl, hkw, ha4, hr4, hz4⟩ | ⟨r4, a4, hev, rfl, ha4⟩)
    | fail)
  · have z3 := lt_of_block q3
    have z2 := lt_of_block q2; have hd2 := hd.symm; have zz := hk1.size; simp at zz; have hp := HP.out
    have hS : ∀ b, w3.heap.size ≤ b → b < w4.heap.size → (((w4.setCell ⟨w1.heap.size, 1, none⟩ (.slice ad xs.length cap)).setCell ⟨w.heap.size, 0, none⟩ (.string ⟨(lettL (skipB l)).toArray⟩)).setCell ⟨w.heap.size, 1, none⟩ (.slice ad xs.length cap)).heap[b]? = w4.heap[b]? := fun b hb _ => by
      (rw [Below.heap_setCell _ _ _ _ (by simp; omega), Below.heap_setCell _ _ _ _ (by simp; omega), Below.heap_setCell _ _ _ _ (by simp; omega)])
    (refine bodyPost_ret (v := .agg #[.string ⟨(lettL (skipB l)).toArray⟩, .slice ad xs.length cap]) (by simp [results, Tryz.results212, go_sem, k1, k2]) rfl ⟨?_, Or.inl ⟨.mk ⟨(lettL (skipB l)).toArray⟩ xs, r4, _, a4, ev_word_ok hN hB hT hev, rfl, ?_, ha4, ?_, ?_⟩⟩)
    · exact (((K3.trans hk4).setCell (fun h => by simp at h; omega) _).setCell (fun h => by simp at h) _).setCell (fun h => by simp at h) _
    · exact WQ.move (fun b _ hb => ⟨rfl, by omega⟩) _ _ ((hkw.same hS).rep ⟨(lettL (skipB l)).toArray⟩ (by show (lettL (skipB l)).toArray.size ≤ maxLen; unfold maxLen; simp; omega))
    · exact ((hr4.other hn1 _).other hne _).other hne _
    · simp only [Wd.size]; omega
  · exact ⟨rfl, K3.trans hk4, Or.inr ⟨r4, a4, ev_word_bad hN hB hT hev, rfl, ha4⟩⟩
def WdReads (t : ByteArray) (m : Nat) : Prop :=
  ∀ (br a : Nat) (l : List UInt8) (w : World), At t a l → TS br w t a → l.length < m → Calls Tryz.prog 212 #[.pointer (some ⟨br, 0, none⟩)] w (WdPost br t l w)
theorem wdRead_step (t : ByteArray) (ht : t.size ≤ 20000) (m : Nat) (ih : WdsReads t m) : WdReads t (m + 1) := by
  intro br a l w ha h hm
  rcases hN : anyB (lettL (skipB l)) with _ | _
  · exact word_none br t ht w a l ha h hN
  · rcases hB : isBg (lettL (skipB l)) with _ | _
    · exact word_var br t ht w a l ha h hN hB
    · rcases hT : takeS [40] ((skipB l).drop (lettL (skipB l)).length) with _ | r
      · exact word_big br t ht w a l ha h hN hB hT
      · refine word_args br t ht w a m l r ha h hN hB hT ?_ ih
        have h1 := takeS_len hT; have h2 := skipB_length l; simp only [List.length_drop, List.length_cons, List.length_nil] at h1; omega
end Go.Proofs.YtheiikkeelbjnajGreat
