/- Texts of one proof, one behind the other: Written3. -/
import Derived.Test.YtfhbpfgbnfcdaaaB25
/- Walks: a formula as the yardstick writes it, whole. -/
namespace Go.Proofs.Ytfhbpfgbnfcdaaa
open Go.RowKit

theorem wrs_all : ∀ (m : Nat) (f : Fm), f.size ≤ m → f.size ≤ 200 → Fine f → WrF f
  | 0, .mk k n ks, h, _, _ => by rw [Fm.size] at h; omega
  | m + 1, f, h, h2, hf => by
    rcases hf.forms with ⟨n, rfl, hn⟩ | rfl | rfl | ⟨k, g, hk, rfl, hg⟩ | ⟨k, g, g', hk, rfl, hg, hg'⟩
    · intro v w hr
      (have e : ofL (pr 0 (.mk 1 n [])) = n := by rw [pr_zero]; rfl); rw [e]; exact wr_name n v w hr
    · intro v w hr
      (have e : ofL (pr 0 (.mk 2 ⟨#[]⟩ [])) = ⟨#[49]⟩ := by rw [pr_zero]; rfl); rw [e]; exact wr_leaf2 _ v w hr
    · intro v w hr
      (have e : ofL (pr 0 (.mk 3 ⟨#[]⟩ [])) = ⟨#[48]⟩ := by rw [pr_zero]; rfl); rw [e]; exact wr_leaf3 _ v w hr
    · rw [size_one] at h h2
      (have ih := wrs_all m g (by omega) (by omega) hg); (have hl := (pr_len 200 g 3 (by omega) hg).2); have hi := ins_un hk hg h2 ih; (have hS : (ofL (pr 3 g)).size ≤ 20000 := by rw [ofL_size]; omega); (have e : ofL (pr 0 (.mk k ⟨#[]⟩ [g])) = ofL (sign1 k) ++ ofL (pr 3 g) := by rw [ofL_append, pr_zero, bareS]); unfold WrF; rw [e]; intro v w hr
      rcases hk with rfl | rfl | rfl
      · exact wr_un4 g _ hS v w hr hi
      · exact wr_un8 g _ hS v w hr hi
      · exact wr_un9 g _ hS v w hr hi
    · rw [size_two] at h h2
      (have s1 : 1 ≤ g.size := by obtain ⟨k, n, ks⟩ := g; rw [Fm.size]; omega); (have s2 : 1 ≤ g'.size := by obtain ⟨k, n, ks⟩ := g'; rw [Fm.size]; omega); (have ih := wrs_all m g (by omega) (by omega) hg); (have ih' := wrs_all m g' (by omega) (by omega) hg'); (have hl := (pr_len 200 g (leftB k) (by omega) hg).2); (have hl' := (pr_len 200 g' (rightB k) (by omega) hg').2); (have hi := ins_left hk hg hg' (by omega) ih); (have hj := ins_right hk hg hg' (by omega) ih'); rw [← ofL_append] at hi hj; (have hS : (ofL (pr (leftB k) g)).size ≤ 20000 := by rw [ofL_size]; omega); (have hT : (ofL (pr (rightB k) g')).size ≤ 20000 := by rw [ofL_size]; omega); (have e : ofL (pr 0 (.mk k ⟨#[]⟩ [g, g'])) = ofL (pr (leftB k) g) ++ ofL (sign2 k) ++ ofL (pr (rightB k) g') := by rw [ofL_append, ofL_append, pr_zero, bareS]); unfold WrF; rw [e]; intro v w hr
      rcases hk with rfl | rfl | rfl
      · exact wr_two5 g g' _ _ hS hT v w hr hi hj
      · exact wr_two6 g g' _ _ hS hT v w hr hi hj
      · exact wr_two7 g g' _ _ hS hT v w hr hi hj

theorem written_any (f : Fm) (s : Nat) (hc : chk f 0 = .ok s) : WrF f :=
  wrs_all f.size f (Nat.le_refl _) (chk_size hc) (fine_of_chk f 0 s hc)
end Go.Proofs.Ytfhbpfgbnfcdaaa
