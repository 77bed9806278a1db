/- Texts of one proof, one behind the other: BW9, SB4, PA5. -/
import Derived.Test.YtblodnpfckflaakGreatB10
import Derived.Test.YtblodnpfckflaakGreatB13
import Derived.Test.YtblodnpfckflaakGreatB01
import Derived.Test.YtblodnpfckflaakGreatB04
import Derived.Test.YtblodnpfckflaakGreatB06
import Derived.RangeFuncBox
import Derived.RangeFuncLeaves
import Derived.Shelf.Abstract
import Derived.WalkKit
import Derived.OwnWalkIn
import Derived.TacticsInMore
import Derived.LoopNIn
import Derived.LoopIn
/- Walks: what a formula says of names (projected). -/
namespace Go.Proofs.YtblodnpfckflaakGreat
open Go.RowKit Go.Sort

theorem KS.move {B : Nat} {w w' : World} {ad : Option Addr} {cy : Nat} {L : List (List UInt8)} (h : KS B w ad cy L) (hb : ∀ b, (Value.slice ad L.length cy).ownBlock = some b → w'.heap[b]? = w.heap[b]?) : KS B w' ad cy L := by
  rcases h.2 with ⟨h1, h2⟩ | ⟨g, cap, cur, h1, h2, h3, h4⟩
  · exact ⟨h.1, Or.inl ⟨h1, h2⟩⟩
  · refine ⟨h.1, Or.inr ⟨g, cap, cur, h1, h2, ?_, h4⟩⟩
    (rw [hb g (by rw [h1]; rfl)]; exact h3)

end Go.Proofs.YtblodnpfckflaakGreat
/- Walks: slices.AppendSeq, Collect and Sorted at texts that a list holds. -/
namespace Go.Proofs.YtblodnpfckflaakGreat
open Go.RowKit Go.Shelf Go.Sort

theorem blk_setS {w : World} {b i : Nat} {cs : Array Value} {T : TypeId} (h : w.heap[b]? = some (.cells cs T (0, 0))) (v : Value) : (w.setCell ⟨b, i, none⟩ v).heap[b]? = some (.cells (cs.setIfInBounds i v) T (0, 0)) := by
  simp [World.setCell, Array.getElem?_modify, h]
theorem blk_otherS {w : World} {b b' i : Nat} (v : Value) (h : b' ≠ b) : (w.setCell ⟨b, i, none⟩ v).heap[b']? = w.heap[b']? := by
  simp [World.setCell, Array.getElem?_modify, Ne.symm h]
end Go.Proofs.YtblodnpfckflaakGreat
/- Walks: the n-th ending (syntax.nth). -/
namespace Go.Proofs.YtblodnpfckflaakGreat
open Go.RowKit Go.Sort

/-- The n-th small letter. -/
def lowB (r : Nat) : UInt8 := UInt8.ofNat (97 + r)
/-- The n-th ending. -/
def nthS (n : Nat) : List UInt8 := if n < 26 then [lowB n] else nthS (n / 26 - 1) ++ [lowB (n % 26)]
termination_by n
decreasing_by omega
theorem nthS_small {n : Nat} (h : n < 26) : nthS n = [lowB n] := by rw [nthS, if_pos h]
theorem nthS_big {n : Nat} (h : ¬ n < 26) : nthS n = nthS (n / 26 - 1) ++ [lowB (n % 26)] := by rw [nthS, if_neg h]
theorem nthS_len : ∀ (m n : Nat), n < m → (nthS n).length ≤ n + 1 ∧ 1 ≤ (nthS n).length
  | m + 1, n, h => by
    by_cases hn : n < 26
    · rw [nthS_small hn]; simp
    · rw [nthS_big hn, List.length_append]
      (have := nthS_len m (n / 26 - 1) (by omega))
      simp
      omega
theorem byte_inj : ∀ a b : Fin 26, lowB a.val = lowB b.val → a = b := by decide
theorem byte_eq {a b : Nat} (ha : a < 26) (hb : b < 26) (h : lowB a = lowB b) : a = b := congrArg Fin.val (byte_inj ⟨a, ha⟩ ⟨b, hb⟩ h)
theorem nthS_inj : ∀ (m n k : Nat), n < m → nthS n = nthS k → n = k
  | m + 1, n, k, h, e => by
    (by_cases hn : n < 26 <;> by_cases hk : k < 26)
    · rw [nthS_small hn, nthS_small hk] at e
      (exact byte_eq hn hk (by simpa using e))
    · rw [nthS_small hn, nthS_big hk] at e
      have h1 := congrArg List.length e; have := (nthS_len _ (k / 26 - 1) (Nat.lt_succ_self _)).2; simp at h1; rw [h1] at this; simp at this
    · rw [nthS_big hn, nthS_small hk] at e
      have h1 := congrArg List.length e; have := (nthS_len _ (n / 26 - 1) (Nat.lt_succ_self _)).2; simp at h1; rw [h1] at this; simp at this
    · rw [nthS_big hn, nthS_big hk] at e
      obtain ⟨e1, e2⟩ := List.append_inj' e rfl; (have h1 := nthS_inj m (n / 26 - 1) (k / 26 - 1) (by omega) e1); (have h2 := byte_eq (Nat.mod_lt _ (by omega)) (Nat.mod_lt _ (by omega)) (by simpa using e2)); omega
theorem lett_all : ∀ a : Fin 26, 97 ≤ (lowB a.val).toNat ∧ (lowB a.val).toNat ≤ 122 := by decide
theorem nthS_let : ∀ (m n : Nat), n < m → ∀ c ∈ nthS n, 97 ≤ c.toNat ∧ c.toNat ≤ 122
  | m + 1, n, h, c, hc => by
    by_cases hn : n < 26
    · rw [nthS_small hn] at hc
      obtain rfl := List.mem_singleton.1 hc; exact lett_all ⟨n, hn⟩
    · rw [nthS_big hn] at hc
      rcases List.mem_append.1 hc with hc | hc
      · exact nthS_let m (n / 26 - 1) (by omega) c hc
      · obtain rfl := List.mem_singleton.1 hc
        (exact lett_all ⟨n % 26, Nat.mod_lt _ (by omega)⟩)
theorem utf_all : ∀ a : Fin 26, Utf8.encode (97 + (a.val : Int)) = ⟨#[lowB a.val]⟩ := by decide +kernel
theorem utf_one {a : Nat} (h : a < 26) : Utf8.encode (97 + (a : Int)) = ⟨#[lowB a]⟩ := utf_all ⟨a, h⟩
set_option maxHeartbeats 4000000 in
set_option maxRecDepth 10000 in
theorem nth_any : ∀ (m n : Nat), n < m → n ≤ 10000000 → ∀ w : World, Calls Tryz.prog 174 #[.int .i64 (n : Nat)] w fun e w' => e = .returned (.string ⟨(nthS n).toArray⟩) ∧ w' = w
  | m + 1, n, h, hn, w => by
    (have hnI : (n : Int) ≤ 10000000 := by omega)
    have HU : Hid (Utf8.encode (97 + (n : Int) % 26) = ⟨#[lowB (n % 26)]⟩) := by
      show _ = _; (rw [show (n : Int) % 26 = ((n % 26 : Nat) : Int) by omega]); (exact utf_one (Nat.mod_lt _ (by omega)))
    by_cases hs : n < 26
    · have hsI : (n : Int) < 26 := by omega
      (have HE : Hid (nthS n = [lowB (n % 26)]) := by show _ = _; rw [nthS_small hs, Nat.mod_eq_of_lt hs]); clear hs h hn
      go_enter Tryz.func174, Tryz.ntmps174
      go_wp2_with fail; go_ret; refine ⟨?_, rfl⟩; show Ending.returned (.string (Utf8.encode (97 + (n : Int) % 26))) = _; rw [HU.out, HE.out]
    · have hsI : ¬ (n : Int) < 26 := by omega
      obtain ⟨q, hq⟩ : ∃ q : Int, (n : Int) / 26 - 1 = q := ⟨_, rfl⟩
      have HI : Hid (∀ w : World, Calls Tryz.prog 174 #[.int .i64 q] w fun e w' => e = .returned (.string ⟨(nthS (n / 26 - 1)).toArray⟩) ∧ w' = w) := fun w => by
        (rw [← hq, show (n : Int) / 26 - 1 = ((n / 26 - 1 : Nat) : Int) by omega]); (exact nth_any m (n / 26 - 1) (by omega) (by omega) w)
      have HE : Hid (nthS n = nthS (n / 26 - 1) ++ [lowB (n % 26)]) := nthS_big hs; have hl := (nthS_len _ (n / 26 - 1) (Nat.lt_succ_self _)).1; generalize nthS (n / 26 - 1) = Q at HI HE hl; (have hl2 : Q.length ≤ 10000001 := by omega); have HL : Hid (Q.length ≤ 10000001) := hl2; obtain ⟨S, hS⟩ : ∃ S : ByteArray, S = ⟨Q.toArray⟩ := ⟨_, rfl⟩; have HS : Hid (S = ⟨Q.toArray⟩) := hS; rw [← hS] at HI
      have hsz : ¬ 9223372036854775807 < S.size + 1 := by
        (have : S.size = Q.length := by rw [hS]; simp [ByteArray.size]); omega
      clear hs h hn hl hl2 hS
      go_enter Tryz.func174, Tryz.ntmps174
      go_wp2_with fail; refine (HI.out w).mono ?_; rintro _ w2 ⟨rfl, h2⟩; obtain rfl : w = w2 := h2.symm; rw [HU.out]; clear h2; go_wp2_with fail; go_ret; refine ⟨?_, rfl⟩; rw [HE.out, HS.out]
      have hcat : (⟨Q.toArray⟩ : ByteArray) ++ ⟨#[lowB (n % 26)]⟩ = ⟨(Q ++ [lowB (n % 26)]).toArray⟩ := by
        apply ByteArray.ext
        simp
      rw [← hcat]; rfl
end Go.Proofs.YtblodnpfckflaakGreat
