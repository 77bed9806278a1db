/- Texts of one proof, one behind the other: Open5. -/
import Derived.Test.YtalnljnincnbdacGreatB12
/- An argument of type Sequent. -/
namespace Go.Proofs.YtalnljnincnbdacGreat
open Go.RowKit
section
variable {H : Type} {enc : TypeId × Value → H} {W : World} {spare : Nat → Bool} {held : Bool}
set_option maxRecDepth 100000 in
theorem sq_of_trod (fuel : Nat) (cs : List Value) (x : DataW H × List MemPlace) (h : DataW.trod enc Tryz.prog W 0 spare held fuel 24 cs = some x) : ∃ v u l r, cs = [v, u] ∧ FL W v l ∧ FL W u r := by
  obtain ⟨xs, n, hfu, -, hl, hlen, hf⟩ := DataW.trod_struct Tryz.underlying24 h; rw [cellsSq] at hl
  match cs, hl with
  | [c0, c1], _ =>
    have h0 := hf 0 _ rfl; have h1 := hf 1 _ rfl; simp at hlen
    match xs, hlen with
    | [y0, y1], _ =>
      simp [cells22] at h0 h1; obtain ⟨vl, l, hle, hlf⟩ := fl_of_trod _ _ _ h0; obtain ⟨vr, r, hre, hrf⟩ := fl_of_trod _ _ _ h1; simp at hle hre; subst hle hre; exact ⟨_, _, l, r, rfl, hlf, hrf⟩
end
end Go.Proofs.YtalnljnincnbdacGreat
