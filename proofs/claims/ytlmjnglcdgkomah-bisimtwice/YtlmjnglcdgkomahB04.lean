/- Texts of one proof, one behind the other: Math3, Math4, Math6. -/
import Derived.Test.YtlmjnglcdgkomahB01
/- The plain mathematics of layer 1, three: what Check says. -/
namespace Go.Proofs.Ytlmjnglcdgkomah

def kidsN (k : Int) : Int := if k = 4 ∨ k = 8 ∨ k = 9 then 1 else if k = 5 ∨ k = 6 ∨ k = 7 then 2 else 0
def kindB (k : Int) : Bool := decide (1 ≤ k) && decide (k ≤ 9)
def nameB (k : Int) (n : ByteArray) : Bool := if k = 1 then !isNm n.data.toList else !n.data.toList.isEmpty

/-- What is wrong at a node, if something is. -/
def nodeF (k : Int) (n : ByteArray) (len : Nat) : Option Int :=
  if kindB k = false then some 4 else if (len : Int) ≠ kidsN k then some 9 else if nameB k n = true then some 8 else none

inductive Chk where
  | ok (seen : Nat)
  | bad (code : Int) (at_ : Nat)

mutual
def chk : Fm → Nat → Chk
  | .mk k n ks, s => if s = 200 then .bad 2 0 else match nodeF k n ks.length with
    | some c => .bad c s
    | none => chks ks (s + 1)
def chks : List Fm → Nat → Chk
  | [], s => .ok s
  | f :: fs, s => match chk f s with
    | .bad c a => .bad c a
    | .ok s' => chks fs s'
end

mutual
theorem chk_le : ∀ (f : Fm) (s s' : Nat), chk f s = .ok s' → s ≤ 200 → s' ≤ 200 ∧ s' = s + f.size
  | .mk k n ks, s, s', h, hs => by
    rw [chk] at h
    split at h
    · cases h
    · rename_i h2
      split at h
      · cases h
      · have := chks_le ks (s + 1) s' h (by omega)
        rw [Fm.size]; omega
theorem chks_le : ∀ (fs : List Fm) (s s' : Nat), chks fs s = .ok s' → s ≤ 200 → s' ≤ 200 ∧ s' = s + Fm.sizes fs
  | [], s, s', h, hs => by rw [chks] at h; cases h; simp [Fm.sizes]; exact hs
  | f :: fs, s, s', h, hs => by
    rw [chks] at h
    split at h
    · cases h
    · rename_i s1 h1
      have a := chk_le f s s1 h1 hs; have b := chks_le fs s1 s' h a.1; rw [Fm.sizes]; omega
end

/-- What Check answers. -/
def Fm.code (f : Fm) : Int × Int := match chk f 0 with
  | .ok _ => (0, 0)
  | .bad c a => (c, a)
end Go.Proofs.Ytlmjnglcdgkomah
/- The plain mathematics of layer 1, four: what Print writes. -/
namespace Go.Proofs.Ytlmjnglcdgkomah

/-- Each node is as it should be. -/
inductive Fine : Fm → Prop
  | mk (k : Int) (n : ByteArray) (ks : List Fm) (h : nodeF k n ks.length = none) (hk : ∀ (i : Nat) (f : Fm), ks[i]? = some f → Fine f) : Fine (.mk k n ks)

theorem Fine.node {k : Int} {n : ByteArray} {ks : List Fm} (h : Fine (.mk k n ks)) : nodeF k n ks.length = none := by cases h; assumption
theorem Fine.kid {k : Int} {n : ByteArray} {ks : List Fm} (h : Fine (.mk k n ks)) (i : Nat) (f : Fm) (hi : ks[i]? = some f) : Fine f := by
  cases h with
  | mk _ _ _ _ hk => exact hk i f hi

end Go.Proofs.Ytlmjnglcdgkomah
/- The plain mathematics of layer 1, six: what is read is as it should be. -/
namespace Go.Proofs.Ytlmjnglcdgkomah

theorem fine_name {l : List UInt8} (h : isNm l = true) : Fine (nmF l) :=
  Fine.mk _ _ _ (by
    (have : nodeF 1 ⟨l.toArray⟩ 0 = none := by simp [nodeF, kindB, kidsN, nameB, h])
    exact this) (fun i f hf => by simp at hf)

mutual
theorem chk_fine : ∀ (f : Fm) (s : Nat), Fine f → s + f.size ≤ 200 → chk f s = .ok (s + f.size)
  | .mk k n ks, s, h, hs => by
    rw [Fm.size] at hs; (rw [chk, if_neg (by omega), h.node, Fm.size]); (have := chks_fine ks (s + 1) (h.kid) (by omega)); simp only [this]
    congr 1; omega
theorem chks_fine : ∀ (fs : List Fm) (s : Nat), (∀ (i : Nat) (f : Fm), fs[i]? = some f → Fine f) → s + Fm.sizes fs ≤ 200 → chks fs s = .ok (s + Fm.sizes fs)
  | [], s, _, _ => by rw [chks, Fm.sizes]; rfl
  | f :: fs, s, h, hs => by
    rw [Fm.sizes] at hs; (rw [chks, chk_fine f s (h 0 f rfl) (by omega), Fm.sizes]); (have := chks_fine fs (s + f.size) (fun i g hg => h (i + 1) g (by simpa using hg)) (by omega)); simp only [this]
    congr 1; omega
end
end Go.Proofs.Ytlmjnglcdgkomah
