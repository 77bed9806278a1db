/- Texts of one proof, one behind the other: Written1. -/
import Derived.Test.YtfhbpfgbnfcdaaaB23
/- Walks: a formula as the yardstick writes it. -/
namespace Go.Proofs.Ytfhbpfgbnfcdaaa
open Go.RowKit

def ofL (l : List UInt8) : ByteArray := ⟨l.toArray⟩
theorem ofL_toList (l : List UInt8) : (ofL l).data.toList = l := rfl
theorem ofL_size (l : List UInt8) : (ofL l).size = l.length := rfl
theorem ofL_append (a b : List UInt8) : ofL a ++ ofL b = ofL (a ++ b) := by
  apply ByteArray.ext; apply Array.ext'; simp [ofL]
theorem ofL_brk (d : Bool) (l : List UInt8) : (if d = true then ofL l else ⟨#[40]⟩ ++ ofL l ++ ⟨#[41]⟩) = ofL (brk d l) := by
  cases d
  · show ofL [40] ++ ofL l ++ ofL [41] = _
    rw [ofL_append, ofL_append]; rfl
  · rfl

/-- What is written of f. -/
def WrF (f : Fm) : Prop := ∀ v w, Rep w (fun _ => True) f v → Calls Try.prog 16 #[v] w fun e w' => e = .returned (.string (ofL (pr 0 f))) ∧ Below w.heap.size w w'

theorem ins_un {c : Int} (hc : c = 4 ∨ c = 8 ∨ c = 9) {g : Fm} (hg : Fine g) (hs : g.size + 1 ≤ 200) (hw : WrF g) (v : Value) (w : World) (hrep : Rep w (fun _ => True) (.mk c e0 [g]) v) :
    Calls Try.prog 47 #[v, .int .i64 0, .string (ofL (sign1 c)), .string (ofL [])] w fun e w' => e = .returned (.string (ofL (pr 3 g))) ∧ Below w.heap.size w w' := by
  obtain ⟨x, hx, hd⟩ := dec_un hc hg hs; (have hl := pr_len 200 g 0 (by omega) hg); (have hsl : (sign1 c).length ≤ 2 := by rcases hc with rfl | rfl | rfl <;> decide)
  have := inside_any c e0 [g] (fine_one c g hc hg) 0 g rfl v (ofL (sign1 c)) (ofL []) (ofL (pr 0 g)) w hrep hw (by simp only [ofL_size, List.length_nil]; omega) x (by
    simp only [ofL_toList, List.append_nil]; exact hx) _ (hd _)
  rw [ofL_brk, brk_pr] at this; exact this

theorem ins_left {c : Int} (hc : c = 5 ∨ c = 6 ∨ c = 7) {g h : Fm} (hg : Fine g) (hh : Fine h) (hs : g.size + 2 ≤ 200) (hw : WrF g) (v : Value) (w : World) (hrep : Rep w (fun _ => True) (.mk c e0 [g, h]) v) :
    Calls Try.prog 47 #[v, .int .i64 0, .string (ofL []), .string (ofL (sign2 c ++ [97]))] w fun e w' => e = .returned (.string (ofL (pr (leftB c) g))) ∧ Below w.heap.size w w' := by
  obtain ⟨x, hx, hd⟩ := dec_left hc hg hs; (have hl := pr_len 200 g 0 (by omega) hg); (have hsl : (sign2 c).length ≤ 4 := by rcases hc with rfl | rfl | rfl <;> decide)
  have := inside_any c e0 [g, h] (fine_two c g h hc hg hh) 0 g rfl v (ofL []) (ofL (sign2 c ++ [97])) (ofL (pr 0 g)) w hrep hw (by simp only [ofL_size, List.length_nil, List.length_append, List.length_singleton]; omega) x (by
    simp only [ofL_toList, List.nil_append]; exact hx) _ (hd _)
  rw [ofL_brk, brk_pr] at this; exact this

theorem ins_right {c : Int} (hc : c = 5 ∨ c = 6 ∨ c = 7) {g h : Fm} (hg : Fine g) (hh : Fine h) (hs : h.size + 2 ≤ 200) (hw : WrF h) (v : Value) (w : World) (hrep : Rep w (fun _ => True) (.mk c e0 [g, h]) v) :
    Calls Try.prog 47 #[v, .int .i64 1, .string (ofL ([97] ++ sign2 c)), .string (ofL [])] w fun e w' => e = .returned (.string (ofL (pr (rightB c) h))) ∧ Below w.heap.size w w' := by
  obtain ⟨x, hx, hd⟩ := dec_right hc hh hs; (have hl := pr_len 200 h 0 (by omega) hh); (have hsl : (sign2 c).length ≤ 4 := by rcases hc with rfl | rfl | rfl <;> decide)
  have := inside_any c e0 [g, h] (fine_two c g h hc hg hh) 1 h rfl v (ofL ([97] ++ sign2 c)) (ofL []) (ofL (pr 0 h)) w hrep hw (by simp only [ofL_size, List.length_nil, List.length_append, List.length_singleton]; omega) x (by
    simp only [ofL_toList, List.append_nil]; exact hx) _ (hd _)
  rw [ofL_brk, brk_pr] at this; exact this
end Go.Proofs.Ytfhbpfgbnfcdaaa
