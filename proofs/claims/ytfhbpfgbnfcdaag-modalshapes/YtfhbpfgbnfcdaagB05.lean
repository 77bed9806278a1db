/- Texts of one proof, one behind the other: Math6, Math9, MV1. -/
import Derived.Test.YtfhbpfgbnfcdaagB01
/- The plain mathematics of layer 1, six: what is read is as it should be. -/
namespace Go.Proofs.Ytfhbpfgbnfcdaag

theorem fine_name {l : List UInt8} (h : isNm l = true) : Fine (nmF l) :=
  Fine.mk _ _ _ (by
    (have : nodeF 1 ⟨l.toArray⟩ 0 = none := by simp [nodeF, kindB, kidsN, nameB, h])
    exact this) (fun i f hf => by simp at hf)

mutual
theorem chk_fine : ∀ (f : Fm) (s : Nat), Fine f → s + f.size ≤ 200 → chk f s = .ok (s + f.size)
  | .mk k n ks, s, h, hs => by
    rw [Fm.size] at hs; (rw [chk, if_neg (by omega), h.node, Fm.size]); (have := chks_fine ks (s + 1) (h.kid) (by omega)); simp only [this]
    congr 1; omega
theorem chks_fine : ∀ (fs : List Fm) (s : Nat), (∀ (i : Nat) (f : Fm), fs[i]? = some f → Fine f) → s + Fm.sizes fs ≤ 200 → chks fs s = .ok (s + Fm.sizes fs)
  | [], s, _, _ => by rw [chks, Fm.sizes]; rfl
  | f :: fs, s, h, hs => by
    rw [Fm.sizes] at hs; (rw [chks, chk_fine f s (h 0 f rfl) (by omega), Fm.sizes]); (have := chks_fine fs (s + f.size) (fun i g hg => h (i + 1) g (by simpa using hg)) (by omega)); simp only [this]
    congr 1; omega
end
end Go.Proofs.Ytfhbpfgbnfcdaag
/- The plain mathematics of layer 1, nine: a formula's nodes, at most so many. -/
namespace Go.Proofs.Ytfhbpfgbnfcdaag

/-! All nodes, each ahead of its kids. -/
mutual
def allN : Fm → List Fm
  | .mk k n ks => .mk k n ks :: allNs ks
def allNs : List Fm → List Fm
  | [] => []
  | f :: fs => allN f ++ allNs fs
end
mutual
theorem allN_len : ∀ f : Fm, (allN f).length = f.size
  | .mk k n ks => by rw [allN, List.length_cons, allNs_len ks, Fm.size]
theorem allNs_len : ∀ fs : List Fm, (allNs fs).length = Fm.sizes fs
  | [] => by rw [allNs, Fm.sizes]; rfl
  | f :: fs => by rw [allNs, List.length_append, allN_len f, allNs_len fs, Fm.sizes]
end

end Go.Proofs.Ytfhbpfgbnfcdaag
/- Where a formula is true at worlds, plain: boxes and diamonds. -/
namespace Go.Proofs.Ytfhbpfgbnfcdaag

/-- A node of a formula at a world, by what its kids are there and elsewhere: boxes and diamonds. -/
def mval (S : Nat → List Nat) (k : Int) (pn : Nat → Bool) (l : List (Nat → Bool)) (u : Nat) : Bool :=
  if k = 1 then pn u else if k = 4 then !(l.getD 0 (fun _ => false) u) else if k = 5 then l.getD 0 (fun _ => false) u && l.getD 1 (fun _ => false) u else if k = 6 then l.getD 0 (fun _ => false) u || l.getD 1 (fun _ => false) u else if k = 7 then !(l.getD 0 (fun _ => false) u) || l.getD 1 (fun _ => false) u else if k = 8 then (S u).all (l.getD 0 fun _ => false) else if k = 9 then (S u).any (l.getD 0 fun _ => false) else decide (k = 2)
mutual
def mtv (S : Nat → List Nat) (p : Nat → List UInt8 → Bool) : Fm → Nat → Bool
  | .mk k n ks => mval S k (fun u => p u n.data.toList) (mtvs S p ks)
def mtvs (S : Nat → List Nat) (p : Nat → List UInt8 → Bool) : List Fm → List (Nat → Bool)
  | [] => []
  | f :: fs => mtv S p f :: mtvs S p fs
end
theorem mtv_not (S : Nat → List Nat) (p : Nat → List UInt8 → Bool) (f : Fm) (n : ByteArray) : mtv S p (.mk 4 n [f]) = fun u => !mtv S p f u := by
  funext u; rw [mtv, mtvs, mtvs]; rfl
theorem mtv_and (S : Nat → List Nat) (p : Nat → List UInt8 → Bool) (f g : Fm) (n : ByteArray) : mtv S p (.mk 5 n [f, g]) = fun u => mtv S p f u && mtv S p g u := by
  funext u; rw [mtv, mtvs, mtvs, mtvs]; rfl
theorem mtv_or (S : Nat → List Nat) (p : Nat → List UInt8 → Bool) (f g : Fm) (n : ByteArray) : mtv S p (.mk 6 n [f, g]) = fun u => mtv S p f u || mtv S p g u := by
  funext u; rw [mtv, mtvs, mtvs, mtvs]; rfl
theorem mtv_then (S : Nat → List Nat) (p : Nat → List UInt8 → Bool) (f g : Fm) (n : ByteArray) : mtv S p (.mk 7 n [f, g]) = fun u => !mtv S p f u || mtv S p g u := by
  funext u; rw [mtv, mtvs, mtvs, mtvs]; rfl
theorem mtv_box (S : Nat → List Nat) (p : Nat → List UInt8 → Bool) (f : Fm) (n : ByteArray) : mtv S p (.mk 8 n [f]) = fun u => (S u).all (mtv S p f) := by
  funext u; rw [mtv, mtvs, mtvs]; rfl
theorem mtv_dia (S : Nat → List Nat) (p : Nat → List UInt8 → Bool) (f : Fm) (n : ByteArray) : mtv S p (.mk 9 n [f]) = fun u => (S u).any (mtv S p f) := by
  funext u; rw [mtv, mtvs, mtvs]; rfl
end Go.Proofs.Ytfhbpfgbnfcdaag
