/- What a formula for a name does to names and sizes. -/
import Derived.Test.YtheaohoajgeomaaNames2
import Derived.Test.YtheaohoajgeomaaPut1
namespace Go.Proofs.Ytheaohoajgeomaa

theorem hasN_kind {nm : ByteArray} {k : Int} {n : ByteArray} {ks : List Fm} (h : k ≠ 1) : hasN nm (.mk k n ks) = false := by simp [hasN, h]

theorem put_leaf (nm : ByteArray) (g : Fm) (n : ByteArray) : putF nm g (.mk 1 n []) = if n.data.toList = nm.data.toList then g else .mk 1 n [] := by
  rw [putF, putFs]
  by_cases h : n.data.toList = nm.data.toList
  · rw [if_pos h, if_pos (by simp [hasN, h])]
  · rw [if_neg h, if_neg (by simp [hasN, h])]
theorem put_other (nm : ByteArray) (g : Fm) {k : Int} (hk : k ≠ 1) (n : ByteArray) (ks : List Fm) : putF nm g (.mk k n ks) = .mk k n (ks.map (putF nm g)) := by
  rw [putF, hasN_kind hk, putFs_map]; rfl

theorem fine_put (nm : ByteArray) {g : Fm} (hg : Fine g) : ∀ (m : Nat) (f : Fm), f.size ≤ m → Fine f → Fine (putF nm g f)
  | 0, .mk k n ks, h, _ => by rw [Fm.size] at h; omega
  | m + 1, f, h, hf => by
    rcases hf.forms with ⟨n, rfl, hn⟩ | rfl | rfl | ⟨k, x, hk, rfl, hx⟩ | ⟨k, x, y, hk, rfl, hx, hy⟩
    · rw [put_leaf]
      split
      · exact hg
      · exact hf
    · rw [put_other _ _ (by decide)]; exact hf
    · rw [put_other _ _ (by decide)]; exact hf
    · rw [size_one] at h
      rw [put_other _ _ (by omega)]
      exact fine_one k _ hk (fine_put nm hg m x (by omega) hx)
    · rw [size_two] at h
      rw [put_other _ _ (by omega)]
      exact fine_two k _ _ hk (fine_put nm hg m x (by omega) hx) (fine_put nm hg m y (by omega) hy)

theorem allN_leaf (k : Int) (n : ByteArray) : allN (.mk k n []) = [.mk k n []] := by rw [allN, allNs]
theorem allN_one (k : Int) (n : ByteArray) (f : Fm) : allN (.mk k n [f]) = .mk k n [f] :: allN f := by rw [allN, allNs, allNs, List.append_nil]
theorem allN_two (k : Int) (n : ByteArray) (f g : Fm) : allN (.mk k n [f, g]) = .mk k n [f, g] :: (allN f ++ allN g) := by rw [allN, allNs, allNs, allNs, List.append_nil]

theorem size_put (nm : ByteArray) (g : Fm) : ∀ (m : Nat) (f : Fm), f.size ≤ m → Fine f → (putF nm g f).size = cntW nm g.size (allN f)
  | 0, .mk k n ks, h, _ => by rw [Fm.size] at h; omega
  | m + 1, f, h, hf => by
    rcases hf.forms with ⟨n, rfl, hn⟩ | rfl | rfl | ⟨k, x, hk, rfl, hx⟩ | ⟨k, x, y, hk, rfl, hx, hy⟩
    · rw [put_leaf, allN_leaf, cntW, cntW]
      by_cases e : n.data.toList = nm.data.toList
      · rw [if_pos e, if_pos (by simp [hasN, e])]; rfl
      · rw [if_neg e, if_neg (by simp [hasN, e]), size_leaf]
    · rw [put_other _ _ (by decide), allN_leaf, cntW, cntW, hasN_kind (by decide)]; rw [List.map_nil, size_leaf]; rfl
    · rw [put_other _ _ (by decide), allN_leaf, cntW, cntW, hasN_kind (by decide)]; rw [List.map_nil, size_leaf]; rfl
    · rw [size_one] at h
      have := size_put nm g m x (by omega) hx
      rw [put_other _ _ (by omega), allN_one, cntW, hasN_kind (by omega), List.map_cons, List.map_nil, size_one, this]
      simp; omega
    · rw [size_two] at h
      have h1 := size_put nm g m x (by omega) hx
      have h2 := size_put nm g m y (by omega) hy
      rw [put_other _ _ (by omega), allN_two, cntW, cntW_append, hasN_kind (by omega), List.map_cons, List.map_cons, List.map_nil, size_two, h1, h2]
      simp; omega

theorem put_self (nm : ByteArray) : ∀ (m : Nat) (f : Fm), f.size ≤ m → Fine f → putF nm (.mk 1 nm []) f = f
  | 0, .mk k n ks, h, _ => by rw [Fm.size] at h; omega
  | m + 1, f, h, hf => by
    rcases hf.forms with ⟨n, rfl, hn⟩ | rfl | rfl | ⟨k, x, hk, rfl, hx⟩ | ⟨k, x, y, hk, rfl, hx, hy⟩
    · rw [put_leaf]
      split
      · rename_i e
        have : n = nm := by apply ByteArray.ext; apply Array.ext'; exact e
        rw [this]
      · rfl
    · rw [put_other _ _ (by decide)]; rfl
    · rw [put_other _ _ (by decide)]; rfl
    · rw [size_one] at h
      rw [put_other _ _ (by omega), List.map_cons, List.map_nil, put_self nm m x (by omega) hx]
    · rw [size_two] at h
      rw [put_other _ _ (by omega), List.map_cons, List.map_cons, List.map_nil, put_self nm m x (by omega) hx, put_self nm m y (by omega) hy]

theorem nmsT_leaf1 (n : ByteArray) : nmsT (.mk 1 n []) = [n.data.toList] := by
  unfold nmsT; rw [allN_leaf]; rfl
theorem nmsT_leaf {k : Int} (hk : k ≠ 1) (n : ByteArray) : nmsT (.mk k n []) = [] := by
  unfold nmsT; rw [allN_leaf, nmsOf, if_neg hk]; rfl
theorem nmsT_one {k : Int} (hk : k ≠ 1) (n : ByteArray) (f : Fm) : nmsT (.mk k n [f]) = nmsT f := by
  unfold nmsT; rw [allN_one, nmsOf, if_neg hk]
theorem nmsT_two {k : Int} (hk : k ≠ 1) (n : ByteArray) (f g : Fm) : nmsT (.mk k n [f, g]) = nmsT f ++ nmsT g := by
  unfold nmsT; rw [allN_two, nmsOf, if_neg hk, nmsOf_append, List.map_append]

theorem names_put (nm : ByteArray) (g : Fm) : ∀ (m : Nat) (f : Fm), f.size ≤ m → Fine f → ∀ t, t ∈ nmsT (putF nm g f) ↔ (t ∈ nmsT f ∧ t ≠ nm.data.toList) ∨ (nm.data.toList ∈ nmsT f ∧ t ∈ nmsT g)
  | 0, .mk k n ks, h, _ => by rw [Fm.size] at h; omega
  | m + 1, f, h, hf => by
    intro t
    rcases hf.forms with ⟨n, rfl, hn⟩ | rfl | rfl | ⟨k, x, hk, rfl, hx⟩ | ⟨k, x, y, hk, rfl, hx, hy⟩
    · rw [put_leaf, nmsT_leaf1]
      by_cases e : n.data.toList = nm.data.toList
      · rw [if_pos e, e]
        simp only [List.mem_singleton]
        constructor
        · exact fun h => Or.inr ⟨trivial, h⟩
        · rintro (⟨h1, h2⟩ | ⟨-, h⟩)
          · exact absurd h1 h2
          · exact h
      · rw [if_neg e, nmsT_leaf1]
        simp only [List.mem_singleton]
        constructor
        · rintro rfl; exact Or.inl ⟨rfl, e⟩
        · rintro (⟨h1, -⟩ | ⟨h1, -⟩)
          · exact h1
          · exact absurd h1.symm e
    · rw [put_other _ _ (by decide), List.map_nil, nmsT_leaf (by decide)]; simp
    · rw [put_other _ _ (by decide), List.map_nil, nmsT_leaf (by decide)]; simp
    · rw [size_one] at h
      rw [put_other _ _ (by omega), List.map_cons, List.map_nil, nmsT_one (by omega), nmsT_one (by omega)]
      exact names_put nm g m x (by omega) hx t
    · rw [size_two] at h
      rw [put_other _ _ (by omega), List.map_cons, List.map_cons, List.map_nil, nmsT_two (by omega), nmsT_two (by omega)]
      simp only [List.mem_append]
      rw [names_put nm g m x (by omega) hx t, names_put nm g m y (by omega) hy t]
      constructor
      · rintro ((⟨a, b⟩ | ⟨a, b⟩) | (⟨a, b⟩ | ⟨a, b⟩))
        · exact Or.inl ⟨Or.inl a, b⟩
        · exact Or.inr ⟨Or.inl a, b⟩
        · exact Or.inl ⟨Or.inr a, b⟩
        · exact Or.inr ⟨Or.inr a, b⟩
      · rintro (⟨a | a, b⟩ | ⟨a | a, b⟩)
        · exact Or.inl (Or.inl ⟨a, b⟩)
        · exact Or.inr (Or.inl ⟨a, b⟩)
        · exact Or.inl (Or.inr ⟨a, b⟩)
        · exact Or.inr (Or.inr ⟨a, b⟩)
end Go.Proofs.Ytheaohoajgeomaa
