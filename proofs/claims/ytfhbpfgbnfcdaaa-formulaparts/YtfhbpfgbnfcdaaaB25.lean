/- Texts of one proof, one behind the other: Swaps1, Swaps3. -/
import Derived.Test.YtfhbpfgbnfcdaaaB22
import Derived.Test.YtfhbpfgbnfcdaaaB23
import Derived.Test.YtfhbpfgbnfcdaaaB12
import Derived.Test.YtfhbpfgbnfcdaaaB15
import Derived.Deep.DeepCutAuto
/- Walks: what FormulaSwaps calls. -/
namespace Go.Proofs.Ytfhbpfgbnfcdaaa
open Go.RowKit

theorem txt_eq (a b : List UInt8) : ((⟨a.toArray⟩ : ByteArray).toList = (⟨b.toArray⟩ : ByteArray).toList) ↔ a = b := by
  rw [ByteArray.toList_eq, ByteArray.toList_eq]

set_option maxHeartbeats 1000000 in
theorem hasText_any (l : List (List UInt8)) (t : List UInt8) (v : Value) (w : World) (h : TL w v l) :
    Calls Try.prog 32 #[v, .string ⟨t.toArray⟩] w fun e w' => e = .returned (.bool (decide (t ∈ l))) ∧ w' = w := by
  obtain ⟨ad, cap, rfl, h1, h2, h3⟩ := h; (have hlI : (l.length : Int) ≤ 9223372036854775807 := by unfold maxLen at h2; omega); have H3 : Hid (l ≠ [] → ∃ g, ad = some ⟨g, 0, none⟩ ∧ ∀ (j : Nat) (t : List UInt8), l[j]? = some t → w.cell? ⟨g, j, none⟩ = some (.string ⟨t.toArray⟩)) := h3; clear h3
  go_enter Try.func32, Try.ntmps32
  go_wp2_with fail
  go_loopg [5] l.length (fun g c wr => ∃ i, i ≤ l.length ∧ g = l.length - i ∧ c = .int .i64 (i : Nat) ∧ wr = w ∧ Hid (t ∉ l.take i))
  case atStart => exact ⟨0, by omega, by omega, rfl, rfl, by show _ ∉ _; simp⟩
  case round =>
    obtain ⟨i, hi, hg, rfl, rfl, HN⟩ := hrel; have HG : Hid (gk = l.length - i) := hg; clear hg; by_cases hlt : i < l.length
    · obtain ⟨x, hx⟩ : ∃ x, l[i]? = some x := ⟨_, List.getElem?_eq_getElem hlt⟩
      (obtain ⟨g, rfl, hc⟩ := H3.out (fun e => by rw [e] at hlt; simp at hlt)); have g0 := hc i x hx; (have hltI : (i : Int) < (l.length : Int) := by omega); (have hlc : (i : Int) < (cap : Int) := by omega); have HX : Hid (l[i]? = some x) := hx; clear hc hx H3; by_cases hxt : x = t
      · subst hxt
        have HD : Hid (decide (x ∈ l) = true) := by
          show _ = _; exact decide_eq_true (List.mem_of_getElem? HX.out)
        go_wp2_with fail; go_ret; (exact ⟨by rw [HD.out]; rfl, rfl⟩)
      · have hne : ((⟨x.toArray⟩ : ByteArray).toList == (⟨t.toArray⟩ : ByteArray).toList) = false := by
          rw [beq_eq_false_iff_ne, Ne, txt_eq]; exact hxt
        have HNN : Hid (t ∉ l.take (i + 1)) := by
          show _ ∉ _; rw [List.take_add_one, HX.out]; intro hm
          rcases List.mem_append.1 hm with h | h
          · exact HN.out h
          · simp at h; exact hxt h.symm
        generalize hb : (⟨x.toArray⟩ : ByteArray) = X at *; generalize hb2 : (⟨t.toArray⟩ : ByteArray) = Y at *; clear hb hb2 HX; go_wp2_with fail
        go_roundg (l.length - (i + 1))
        case measure => have := HG.out; omega
        case rel => exact ⟨i + 1, by omega, rfl, by go_num, rfl, HNN⟩
    · have HD : Hid (decide (t ∈ l) = false) := by
        show _ = _; have := HN.out; (rw [List.take_of_length_le (by omega)] at this); exact decide_eq_false this
      (have hge : ¬ (i : Int) < (l.length : Int) := by omega); clear H3 HN; go_wp2_with fail; go_ret; (exact ⟨by rw [HD.out]; rfl, rfl⟩)

theorem code_zero {f : Fm} (h : f.code.1 = 0) : f.code = (0, 0) := by
  rcases hx : chk f 0 with s | ⟨c, a⟩
  · simp only [Fm.code, hx]
  · have := chk_code f 0 c a hx
    simp only [Fm.code, hx] at h; exact absurd h this
theorem code_chk {f : Fm} (h : f.code = (0, 0)) : ∃ s, chk f 0 = .ok s := by
  rcases hx : chk f 0 with s | ⟨c, a⟩
  · exact ⟨s, rfl⟩
  · have := chk_code f 0 c a hx
    simp only [Fm.code, hx] at h; exact absurd (Prod.mk.inj h).1 this

/-- What Put answers. -/
inductive PutR (f : Fm) (nm : ByteArray) (g : Fm) : Fm → Int → Int → Prop
  | ok (h1 : f.code = (0, 0)) (h2 : g.code = (0, 0)) (h3 : isNm nm.data.toList = true) (h4 : cntW nm g.size (allN f) ≤ 200) : PutR f nm g (putF nm g f) 0 0
  | bad1 (c a : Int) (hc : c ≠ 0) (h1 : f.code = (c, a)) : PutR f nm g (.mk 0 e0 []) c a
  | bad2 (c a : Int) (hc : c ≠ 0) (h1 : f.code = (0, 0)) (h2 : g.code = (c, a)) : PutR f nm g (.mk 0 e0 []) c a
  | bad3 (h1 : f.code = (0, 0)) (h2 : g.code = (0, 0)) (h3 : isNm nm.data.toList = false) : PutR f nm g (.mk 0 e0 []) 8 0
  | bad4 (h1 : f.code = (0, 0)) (h2 : g.code = (0, 0)) (h3 : isNm nm.data.toList = true) (h4 : 200 < cntW nm g.size (allN f)) : PutR f nm g (.mk 0 e0 []) 10 0

theorem put_any (f g : Fm) (nm : ByteArray) (hnm : nm.size ≤ maxLen) : ∃ r c a, PutR f nm g r c a ∧ ∀ v u w, Rep w (fun _ => True) f v → Rep w (fun _ => True) g u →
    Calls Try.prog 22 #[v, .string nm, u] w fun e w' => ∃ x, e = .returned (.tuple #[x, .agg #[.int .i64 c, .int .i64 a]]) ∧ Rep w' (w.heap.size ≤ ·) r x ∧ Below w.heap.size w w' := by
  (have hz : ∀ (c a : Int) (w : World) (e : Ending) (w' : World), (e = .returned (.tuple #[.agg #[.int .i64 0, .string ⟨#[]⟩, .slice none 0 0], .agg #[.int .i64 c, .int .i64 a]]) ∧ Below w.heap.size w w') → ∃ x, e = .returned (.tuple #[x, .agg #[.int .i64 c, .int .i64 a]]) ∧ Rep w' (w.heap.size ≤ ·) (.mk 0 e0 []) x ∧ Below w.heap.size w w' := fun c a w e w' h => ⟨_, h.1, Rep.leaf (by decide), h.2⟩); by_cases hf : f.code.1 = 0
  · have hf' := code_zero hf
    by_cases hg : g.code.1 = 0
    · have hg' := code_zero hg
      rcases hn : isNm nm.data.toList with _ | _
      · exact ⟨_, _, _, .bad3 hf' hg' hn, fun v u w h1 h2 => (put_bad3 f g hf' hg' v u nm w h1 h2 hnm hn).mono (hz _ _ _)⟩
      · by_cases hc : 200 < cntW nm g.size (allN f)
        · exact ⟨_, _, _, .bad4 hf' hg' hn hc, fun v u w h1 h2 => (put_bad4 f g hf' hg' v u nm w h1 h2 hnm hn hc).mono (hz _ _ _)⟩
        · exact ⟨_, _, _, .ok hf' hg' hn (by omega), fun v u w h1 h2 => put_ok f g hf' hg' v u nm w h1 h2 hnm hn hc⟩
    · exact ⟨_, _, _, .bad2 g.code.1 g.code.2 hg hf' rfl, fun v u w h1 h2 => (put_bad2 f g g.code.1 g.code.2 hg hf' rfl v u nm w h1 h2).mono (hz _ _ _)⟩
  · exact ⟨_, _, _, .bad1 f.code.1 f.code.2 hf rfl, fun v u w h1 h2 => (put_bad1 f g f.code.1 f.code.2 hf rfl v u nm w h1 h2).mono (hz _ _ _)⟩

end Go.Proofs.Ytfhbpfgbnfcdaaa
/- Walks: FormulaSwaps, its first Put. -/
namespace Go.Proofs.Ytfhbpfgbnfcdaaa
open Go.RowKit

theorem blk_new2 (w : World) (o o' : Obj) : ((w.alloc o).alloc o').heap[w.heap.size + 1]? = some o' := by
  have := blk_new (w.alloc o) o'
  rwa [show (w.alloc o).heap.size = w.heap.size + 1 by simp] at this
theorem keep_drew {w : World} {k : Nat} {o : Obj} (h : w.heap[k]? = some o) : w.drew.heap[k]? = some o := h

end Go.Proofs.Ytfhbpfgbnfcdaaa
