/- Texts of one proof, one behind the other: KS0, KS1, KS2. -/
import Derived.Shelf.SortM.Plain
import Derived.Shelf.SortM.SortNone
import Derived.Shelf.SlicesE.Compact
import Derived.Shelf.SlicesE.Clone
import Derived.Shelf.SlicesE.DeleteFunc
import Derived.Test.YtalnljnincnbdacGreatProg
import Derived.Test.YtalnljnincnbdacGreatB24
import Derived.Test.YtalnljnincnbdacGreatB05
/- Four contracts of the library, laid at this program: slices.Sort, Compact, Clone, DeleteFunc at []item. -/
namespace Go.Proofs
open Go.Shelf
def Tryz.layItSort_ren : Go.Shelf.Ren := ⟨fun | 5 => 179 | 8 => 143 | 7 => 207 | 19 => 190 | 20 => 191 | 10 => 220 | 11 => 221 | 12 => 222 | 13 => 223 | 14 => 224 | 15 => 225 | 16 => 226 | 17 => 227 | 18 => 228 | 30 => 231 | 31 => 209 | 32 => 210 | 33 => 232 | 34 => 233 | 35 => 234 | 40 => 235 | n => n, fun | 23 => 78 | 25 => 82 | 3 => 3 | 32 => 219 | 22 => 78 | 0 => 0 | 44 => 265 | 46 => 117 | 4 => 4 | 36 => 258 | 35 => 257 | 41 => 175 | 5 => 5 | 9 => 9 | 53 => 284 | 57 => 288 | 63 => 303 | 64 => 304 | n => n, fun | n => n⟩
theorem Tryz.layItSort : Go.Proofs.SlLaysM.n5 Tryz.prog Tryz.layItSort_ren := {
  mixed := by kernel_rfl
  f5 := ⟨Tryz.f179.name, by decide, Tryz.func179.trans (congrArg some (by kernel_rfl))⟩
  f7 := ⟨Tryz.f207.name, by decide, Tryz.func207.trans (congrArg some (by kernel_rfl))⟩
  f8 := Tryz.func143.trans (congrArg some (by kernel_rfl))
  f10 := ⟨Tryz.f220.name, by decide, Tryz.func220.trans (congrArg some (by kernel_rfl))⟩
  f11 := ⟨Tryz.f221.name, by decide, Tryz.func221.trans (congrArg some (by kernel_rfl))⟩
  f12 := ⟨Tryz.f222.name, by decide, Tryz.func222.trans (congrArg some (by kernel_rfl))⟩
  f13 := ⟨Tryz.f223.name, by decide, Tryz.func223.trans (congrArg some (by kernel_rfl))⟩
  f14 := ⟨Tryz.f224.name, by decide, Tryz.func224.trans (congrArg some (by kernel_rfl))⟩
  f15 := ⟨Tryz.f225.name, by decide, Tryz.func225.trans (congrArg some (by kernel_rfl))⟩
  f16 := ⟨Tryz.f226.name, by decide, Tryz.func226.trans (congrArg some (by kernel_rfl))⟩
  f17 := ⟨Tryz.f227.name, by decide, Tryz.func227.trans (congrArg some (by kernel_rfl))⟩
  f18 := ⟨Tryz.f228.name, by decide, Tryz.func228.trans (congrArg some (by kernel_rfl))⟩
  f19 := Tryz.func190.trans (congrArg some (by kernel_rfl))
  f20 := Tryz.func191.trans (congrArg some (by kernel_rfl))
  f30 := ⟨Tryz.f231.name, by decide, Tryz.func231.trans (congrArg some (by kernel_rfl))⟩
  f31 := Tryz.func209.trans (congrArg some (by kernel_rfl))
  f32 := Tryz.func210.trans (congrArg some (by kernel_rfl))
  f33 := ⟨Tryz.f232.name, by decide, Tryz.func232.trans (congrArg some (by kernel_rfl))⟩
  f34 := ⟨Tryz.f233.name, by decide, Tryz.func233.trans (congrArg some (by kernel_rfl))⟩
  f35 := ⟨Tryz.f234.name, by decide, Tryz.func234.trans (congrArg some (by kernel_rfl))⟩
  f40 := ⟨Tryz.f235.name, by decide, Tryz.func235.trans (congrArg some (by kernel_rfl))⟩
  t0 := Tryz.underlying0
  a0 := Tryz.isAgg0
  z0 := Tryz.sizeOf0
  v0 := Tryz.zeroValue0
  t3 := Tryz.underlying3
  a3 := Tryz.isAgg3
  z3 := Tryz.sizeOf3
  v3 := Tryz.zeroValue3
  t4 := Tryz.underlying4
  a4 := Tryz.isAgg4
  z4 := Tryz.sizeOf4
  v4 := Tryz.zeroValue4
  t5 := Tryz.underlying5
  a5 := Tryz.isAgg5
  z5 := Tryz.sizeOf5
  v5 := Tryz.zeroValue5
  t9 := Tryz.underlying9
  a9 := Tryz.isAgg9
  z9 := Tryz.sizeOf9
  v9 := Tryz.zeroValue9
  t22 := Tryz.underlying78
  a22 := Tryz.isAgg78
  z22 := Tryz.sizeOf78
  v22 := Tryz.zeroValue78
  t23 := Tryz.underlying78
  a23 := Tryz.isAgg78
  z23 := Tryz.sizeOf78
  v23 := Tryz.zeroValue78
  t25 := Tryz.underlying82
  a25 := Tryz.isAgg82
  z25 := Tryz.sizeOf82
  v25 := Tryz.zeroValue82
  t32 := Tryz.underlying219
  a32 := Tryz.isAgg219
  z32 := Tryz.sizeOf219
  v32 := Tryz.zeroValue219
  t35 := Tryz.underlying257
  a35 := Tryz.isAgg257
  z35 := Tryz.sizeOf257
  v35 := Tryz.zeroValue257
  t36 := Tryz.underlying258
  a36 := Tryz.isAgg258
  z36 := Tryz.sizeOf258
  v36 := Tryz.zeroValue258
  t41 := Tryz.underlying175
  a41 := Tryz.isAgg175
  z41 := Tryz.sizeOf175
  v41 := Tryz.zeroValue175
  t44 := Tryz.underlying265
  a44 := Tryz.isAgg265
  z44 := Tryz.sizeOf265
  v44 := Tryz.zeroValue265
  t46 := Tryz.underlying117
  a46 := Tryz.isAgg117
  z46 := Tryz.sizeOf117
  v46 := Tryz.zeroValue117
  t53 := Tryz.underlying284
  a53 := Tryz.isAgg284
  z53 := Tryz.sizeOf284
  v53 := Tryz.zeroValue284
  t57 := Tryz.underlying288
  a57 := Tryz.isAgg288
  z57 := Tryz.sizeOf288
  v57 := Tryz.zeroValue288
  t63 := Tryz.underlying303
  a63 := Tryz.isAgg303
  z63 := Tryz.sizeOf303
  v63 := Tryz.zeroValue303
  t64 := Tryz.underlying304
  a64 := Tryz.isAgg304
  z64 := Tryz.sizeOf304
  v64 := Tryz.zeroValue304 }
def Tryz.layItComp_ren : Go.Shelf.Ren := ⟨fun | 43 => 180 | n => n, fun | 22 => 78 | 23 => 82 | 3 => 3 | 4 => 4 | 0 => 0 | n => n, fun | n => n⟩
theorem Tryz.layItComp : Go.Proofs.SlLaysE.n43 Tryz.prog Tryz.layItComp_ren := {
  mixed := by kernel_rfl
  f43 := ⟨Tryz.f180.name, by decide, Tryz.func180.trans (congrArg some (by kernel_rfl))⟩
  t0 := Tryz.underlying0
  a0 := Tryz.isAgg0
  z0 := Tryz.sizeOf0
  v0 := Tryz.zeroValue0
  t3 := Tryz.underlying3
  a3 := Tryz.isAgg3
  z3 := Tryz.sizeOf3
  v3 := Tryz.zeroValue3
  t4 := Tryz.underlying4
  a4 := Tryz.isAgg4
  z4 := Tryz.sizeOf4
  v4 := Tryz.zeroValue4
  t22 := Tryz.underlying78
  a22 := Tryz.isAgg78
  z22 := Tryz.sizeOf78
  v22 := Tryz.zeroValue78
  a23 := Tryz.isAgg82
  z23 := Tryz.sizeOf82 }
def Tryz.layItClone_ren : Go.Shelf.Ren := ⟨fun | 41 => 178 | n => n, fun | 22 => 78 | 23 => 82 | 4 => 4 | n => n, fun | n => n⟩
theorem Tryz.layItClone : Go.Proofs.SlLaysE0.n41 Tryz.prog Tryz.layItClone_ren := {
  mixed := by kernel_rfl
  f41 := ⟨Tryz.f178.name, by decide, Tryz.func178.trans (congrArg some (by kernel_rfl))⟩
  t4 := Tryz.underlying4
  a4 := Tryz.isAgg4
  z4 := Tryz.sizeOf4
  v4 := Tryz.zeroValue4
  t22 := Tryz.underlying78
  a22 := Tryz.isAgg78
  z22 := Tryz.sizeOf78
  v22 := Tryz.zeroValue78 }
def Tryz.layItDel_ren : Go.Shelf.Ren := ⟨fun | 10 => 177 | 6 => 94 | n => n, fun | 22 => 78 | 23 => 82 | 25 => 152 | 3 => 3 | 4 => 4 | 0 => 0 | n => n, fun | n => n⟩
theorem Tryz.layItDel : Go.Proofs.SlLaysH.n10 Tryz.prog Tryz.layItDel_ren := {
  mixed := by kernel_rfl
  f6 := ⟨Tryz.f94.name, by decide, Tryz.func94.trans (congrArg some (by kernel_rfl))⟩
  f10 := ⟨Tryz.f177.name, by decide, Tryz.func177.trans (congrArg some (by kernel_rfl))⟩
  t0 := Tryz.underlying0
  a0 := Tryz.isAgg0
  z0 := Tryz.sizeOf0
  v0 := Tryz.zeroValue0
  t3 := Tryz.underlying3
  a3 := Tryz.isAgg3
  z3 := Tryz.sizeOf3
  v3 := Tryz.zeroValue3
  t4 := Tryz.underlying4
  a4 := Tryz.isAgg4
  z4 := Tryz.sizeOf4
  v4 := Tryz.zeroValue4
  t22 := Tryz.underlying78
  a22 := Tryz.isAgg78
  z22 := Tryz.sizeOf78
  v22 := Tryz.zeroValue78
  a23 := Tryz.isAgg82
  z23 := Tryz.sizeOf82
  t25 := Tryz.underlying152
  a25 := Tryz.isAgg152
  z25 := Tryz.sizeOf152
  v25 := Tryz.zeroValue152 }
end Go.Proofs
/- The library's functions over rows of items. -/
namespace Go.Proofs.YtalnljnincnbdacGreat
open Go.RowKit Go.Sort Go.Shelf Go.Lib

/-- An item as a value. -/
def encI (n : Nat) : Value := .int .i64 (n : Nat)
theorem put_row_other {w : World} {g b q : Nat} (d : Array Nat) (h : b ≠ g) : (putRow encI (Sort.ahead w q) g 0 d).heap[b]? = w.heap[b]? := by
  simp [putRow, mapBlock, Sort.ahead, Array.getElem?_modify, Ne.symm h]
theorem put_row_size {w : World} {g q : Nat} (d : Array Nat) : (putRow encI (Sort.ahead w q) g 0 d).heap.size = w.heap.size := by
  simp [putRow, mapBlock, Sort.ahead]
theorem put_row_kept {w : World} {g q : Nat} (d : Array Nat) : Kept (fun b => b ≠ g) w (putRow encI (Sort.ahead w q) g 0 d) :=
  ⟨rfl, rfl, rfl, by rw [put_row_size]; exact Nat.le_refl _, fun b _ hb => put_row_other d hb⟩
theorem list_get! {l : List Nat} {j : Nat} (hj : j < l.length) : l.toArray[j]! = l[j] := by
  (rw [getElem!_pos _ j (by simpa using hj)])
  simp
/-- A row of one's own is held. -/
theorem holds_own {B : Nat} {w : World} {g cap : Nat} {l : List Nat} (h : w.ownsRow B 82 1 (.slice (some ⟨g, 0, none⟩) l.length cap) l.length (l.map fun i => (.int .i64 (i : Nat) : Value))) : Holds encI w g 0 l.toArray := by
  intro j hj; (have hj' : j < l.length := by simpa using hj); (obtain ⟨g', e, hc⟩ := row_cells h (by omega))
  cases e
  (have := hc j (.int .i64 (l[j] : Nat)) (by rw [List.getElem?_map, List.getElem?_eq_getElem hj']; rfl)); rw [add_none] at this; (refine ⟨by rw [list_get! hj']; exact this, ?_⟩)
  rcases h.2 with ⟨hv, -⟩ | ⟨g2, cap', cur, hv, -, hh, -⟩
  · cases hv
  · cases hv
    exact blk_fz hh _
theorem holds_irow {P : Nat → Prop} {w : World} {g n cap : Nat} {l m : List Nat} (h : Holds encI w g 0 (l ++ m).toArray) (hn : n = l.length) (hc : l.length ≤ cap) (hm : cap ≤ maxLen) (hp : P g) : IRow P w (.slice (some ⟨g, 0, none⟩) n cap) l := by
  subst hn; (refine ⟨_, cap, rfl, hc, hm, fun _ => ⟨g, 0, rfl, hp, fun j x hj => ?_⟩⟩); have hl := (List.getElem?_eq_some_iff.1 hj).1; (have := (h j (by simp; omega)).1); (rw [list_get! (by simp; omega), List.getElem_append_left hl] at this); rw [List.getElem?_eq_getElem hl] at hj; rw [this, Option.some.inj hj]; rfl

set_option maxRecDepth 10000 in
set_option maxHeartbeats 2000000 in
theorem index_it {P : Nat → Prop} (l : List Nat) (v : Value) (w : World) (hv : IRow P w v l) (t : Nat) : Calls Tryz.prog 193 #[v, .int .i64 (t : Nat)] w fun e w' => e = .returned (.int .i64 (fIdxN (fun y => decide (t = y)) l)) ∧ w' = w := by
  obtain ⟨ad, cap, rfl, h1, h2, h3⟩ := hv; (have hlI : (l.length : Int) ≤ 9223372036854775807 := by unfold maxLen at h2; omega); have H3 : Hid (l ≠ [] → ∃ g off, ad = some ⟨g, off, none⟩ ∧ P g ∧ ∀ (j x : Nat), l[j]? = some x → w.cell? ⟨g, off + j, none⟩ = some (.int .i64 (x : Nat))) := h3; clear h3
  go_enter Tryz.func193, Tryz.ntmps193
  go_wp2_with fail
  go_loopg [8] l.length (fun g c wr => ∃ i, i ≤ l.length ∧ g = l.length - i ∧ c = .int .i64 (i : Nat) ∧ wr = w ∧ Hid ((l.take i).any (fun y => decide (t = y)) = false))
  case atStart => exact ⟨0, by omega, by omega, rfl, rfl, by show _ = _; rfl⟩
  case round =>
    obtain ⟨i, hi, hg, rfl, rfl, HN⟩ := hrel; have HG : Hid (gk = l.length - i) := hg; clear hg; by_cases hlt : i < l.length
    · obtain ⟨y, hy⟩ : ∃ x, l[i]? = some x := ⟨_, List.getElem?_eq_getElem hlt⟩
      (obtain ⟨g, off, rfl, -, hc⟩ := H3.out (fun e => by rw [e] at hlt; simp at hlt)); have g0 := hc i y hy; (have hltI : (i : Int) < (l.length : Int) := by omega); (have hlc : (i : Int) < (cap : Int) := by omega)
      have HXi : Hid (t = y → fIdxN (fun y => decide (t = y)) l = ((i : Nat) : Int)) := fun hp => by
        unfold fIdxN; (rw [if_pos (List.any_eq_true.2 ⟨y, List.mem_of_getElem? hy, by simpa using hp⟩), findIdx_atN HN.out hy (by simpa using hp)])
      have HXn : Hid (¬ t = y → (l.take (i + 1)).any (fun y => decide (t = y)) = false) := fun hp => by
        rw [List.take_add_one, hy, List.any_append, HN.out]; simp [hp]
      clear hc hy H3; by_cases e : t = y
      · have HX' : Hid (fIdxN (fun y => decide (t = y)) l = ((i : Nat) : Int)) := HXi.out e
        (have eI : (t : Int) = (y : Int) := by omega); clear HXn HXi; subst e; go_wp2_with fail; go_ret; (exact ⟨by rw [HX'.out]; rfl, rfl⟩)
      · have HX' : Hid ((l.take (i + 1)).any (fun y => decide (t = y)) = false) := HXn.out e
        (have eI : ¬ (t : Int) = (y : Int) := by omega); clear HXn HXi; go_wp2_with fail
        go_roundg (l.length - (i + 1))
        case measure => have := HG.out; omega
        case rel => exact ⟨i + 1, by omega, rfl, by go_num, rfl, HX'⟩
    · have HT : Hid (fIdxN (fun y => decide (t = y)) l = -1) := by
        have := HN.out; (rw [List.take_of_length_le (by omega)] at this); show _ = _; unfold fIdxN; rw [this]; rfl
      (have hge : ¬ (i : Int) < (l.length : Int) := by omega); clear H3 HN; go_wp2_with fail; go_ret; (exact ⟨by rw [HT.out]; rfl, rfl⟩)
set_option maxHeartbeats 1000000 in
theorem contains_it {P : Nat → Prop} (l : List Nat) (v : Value) (w : World) (hv : IRow P w v l) (t : Nat) : Calls Tryz.prog 176 #[v, .int .i64 (t : Nat)] w fun e w' => e = .returned (.bool (l.contains t)) ∧ w' = w := by
  have hcall := index_it l v w hv t
  have hany : (l.any fun y => decide (t = y)) = l.contains t := by
    rw [List.contains_eq_any_beq]
    congr 1
  (have HX : Hid ((l.contains t = true → 0 ≤ fIdxN (fun y => decide (t = y)) l) ∧ (l.contains t = false → fIdxN (fun y => decide (t = y)) l = -1)) := ⟨fun h => by rw [fIdxN_neg, hany]; exact h, fun h => by unfold fIdxN; rw [hany, h]; rfl⟩); (generalize fIdxN (fun y => decide (t = y)) l = r at *); clear hany hv; generalize l.contains t = bb at *
  cases bb
  · have e := HX.out.2 (by first | rfl | trivial)
    subst e; clear HX
    go_enter Tryz.func176, Tryz.ntmps176
    go_wp2_with fail; refine hcall.mono ?_; rintro e w1 ⟨rfl, rfl⟩; go_wp2_with fail; go_ret; exact ⟨rfl, rfl⟩
  · have e := HX.out.1 (by first | rfl | trivial)
    clear HX
    go_enter Tryz.func176, Tryz.ntmps176
    go_wp2_with fail; refine hcall.mono ?_; rintro e w1 ⟨rfl, rfl⟩; go_wp2_with fail; go_ret; (exact ⟨by simp, rfl⟩)
/-- Is it fresh? The closure of overPremises. -/
theorem over1_in (args : Array Value) (w : World) : (callFunc 175 args).run Tryz.prog w = .ok (.enter 175 args) w := by
  simp [go_sem]
set_option maxHeartbeats 1000000 in
theorem over1_any {P : Nat → Prop} (c : Nat) (v : Value) (fr : List Nat) (w : World) (hc : w.cell? ⟨c, 0, none⟩ = some v) (hv : IRow P w v fr) (t : Nat) : Calls Tryz.prog 175 #[.int .i64 (t : Nat), .pointer (some ⟨c, 0, none⟩)] w fun e w' => e = .returned (.bool (fr.contains t)) ∧ w' = w := by
  have hcall := contains_it fr v w hv t; obtain ⟨ad, cap, rfl, -⟩ := hv; generalize fr.contains t = bb at *
  go_enter Tryz.func175, Tryz.ntmps175
  go_wp2_with fail; refine hcall.mono ?_; rintro e w1 ⟨rfl, rfl⟩; go_wp2_with fail; go_ret; exact ⟨rfl, rfl⟩
/-- What the closure reads. -/
structure FreshAt (c : Nat) (v : Value) (fr : List Nat) (Q : Nat → Prop) (w : World) : Prop where
  box : w.heap[c]? = some (.cells #[v] 78 (0, 0))
  row : IRow Q w v fr
theorem FreshAt.move {c : Nat} {v : Value} {fr : List Nat} {Q Q' : Nat → Prop} {w w' : World} (h : FreshAt c v fr Q w) (hc : w'.heap[c]? = w.heap[c]?) (hb : ∀ b, b < w.heap.size → Q b → w'.heap[b]? = w.heap[b]? ∧ Q' b) : FreshAt c v fr Q' w' := ⟨hc.trans h.box, h.row.move hb⟩
theorem predFresh {Q : Nat → Prop} (c : Nat) (v : Value) (fr : List Nat) : PredI 175 #[] #[.pointer (some ⟨c, 0, none⟩)] (fun i => fr.contains i) (fun _ => True) (FreshAt c v fr Q) where
  up h hb := h.move (hb.block c (lt_of_block h.box)) fun b hl hq => ⟨hb.block b hl, hq⟩
  ent _ w := over1_in _ w
  call t w h _ := (over1_any c v fr w (blk_cell h.box 0) h.row t).mono fun e w' he => ⟨he.1, by rw [he.2]; exact Below.refl _ _⟩
end Go.Proofs.YtalnljnincnbdacGreat
/- The library's functions over rows of items: copies, what is struck, sorted, each once. -/
namespace Go.Proofs.YtalnljnincnbdacGreat
open Go.RowKit Go.Sort Go.Shelf Go.Lib

theorem clone_it {P : Nat → Prop} (l : List Nat) (v : Value) (w : World) (hv : IRow P w v l) (hne : l ≠ []) (hl : l.length ≤ 10000000) : Calls Tryz.prog 178 #[v] w fun e w' => ∃ g cap, e = .returned (.slice (some ⟨g, 0, none⟩) l.length cap) ∧ w'.ownsRow w.heap.size 82 1 (.slice (some ⟨g, 0, none⟩) l.length cap) l.length (l.map fun i => (.int .i64 (i : Nat) : Value)) ∧ Below w.heap.size w w' := by
  obtain ⟨i0, hi, hz0, hz1, hz2⟩ := infoItem; obtain ⟨ad, cap, rfl, h1, h2, h3⟩ := hv; obtain ⟨b, off, rfl, -, hc⟩ := h3 hne
  have hcon := AnyE.slices_Clone Tryz.layItClone i0 (.int .i64 0) 1 8 hi hz0 hz1 hz2 rfl (by decide) Tryz.sizeOf82 b off l.length cap (l.map fun i => (.int .i64 (i : Nat) : Value)) w (by simp) (by unfold maxLen; omega) (by omega) (fun j u hu => by
    rw [List.getElem?_map] at hu; obtain ⟨y, hy, rfl⟩ := Option.map_eq_some_iff.1 hu
    exact hc j y hy) (fun u hu => by
      obtain ⟨y, -, rfl⟩ := List.mem_map.1 hu
      rfl)
  refine hcon.mono ?_; rintro e w' ⟨v', rfl, hown, -, hb⟩; have hown' := hown
  rcases hown'.2 with ⟨-, h0⟩ | ⟨g, cap', cur, rfl, -⟩
  · exact absurd (List.length_eq_zero_iff.1 h0) hne
  · exact ⟨g, cap', rfl, hown, hb⟩
theorem eqlI (P : Program) (T : TypeId) : EqlAt P T encI (fun x y => decide (x = y)) :=
  ⟨fun x y w => by
    have := (EqlAt.intD P T .i64).1 (x : Int) (y : Int) w; refine this.trans ?_
    congr 3
    rw [Bool.eq_iff_iff]; simp only [decide_eq_true_eq]
    omega, fun op a b x y w => (EqlAt.intD P T .i64).2 op a b (x : Int) (y : Int) w⟩
theorem neqI (P : Program) (T : TypeId) : NeqAt P T encI (fun x y => decide (x = y)) :=
  ⟨fun x y w => by
    have := (NeqAt.intD P T .i64).1 (x : Int) (y : Int) w; refine this.trans ?_
    congr 4
    rw [Bool.eq_iff_iff]; simp only [decide_eq_true_eq]
    omega, fun op a b x y w => (NeqAt.intD P T .i64).2 op a b (x : Int) (y : Int) w⟩
theorem oneI : OneCell encI := fun _ => rfl
theorem del_it {Q : Nat → Prop} (c : Nat) (vf : Value) (fr : List Nat) (l : List Nat) (g cap : Nat) (w : World) (hf : FreshAt c vf fr Q w) (hcg : c ≠ g) (hQ : ∀ b, Q b → b ≠ g) (hH : Holds encI w g 0 l.toArray) (hl : l.length ≤ 10000000) (hcap : l.length ≤ cap) (hcm : cap ≤ maxLen) :
    Calls Tryz.prog 177 #[.slice (some ⟨g, 0, none⟩) l.length cap, .func (.func 175) #[] #[.pointer (some ⟨c, 0, none⟩)]] w fun e w' => e = .returned (.slice (some ⟨g, 0, none⟩) (l.filter fun x => !fr.contains x).length cap) ∧ IRow (fun b => b = g) w' (.slice (some ⟨g, 0, none⟩) (l.filter fun x => !fr.contains x).length cap) (l.filter fun x => !fr.contains x) ∧ Kept (fun b => b ≠ g) w w' := by
  (have hsz : l.toArray.size = l.length := by simp)
  have hg : g < w.heap.size ∨ l = [] := by
    rcases Nat.eq_zero_or_pos l.length with h0 | h0
    · exact Or.inr (List.length_eq_zero_iff.1 h0)
    · exact Or.inl (lt_of_cell (hH 0 (by omega)).1)
  (have give : ∀ W, FreshAt c vf fr Q W → ∀ t, FnGives Tryz.prog 175 #[.pointer (some ⟨c, 0, none⟩)] #[encI t] (.bool (fr.contains t)) W := fun W hW t => (over1_any c vf fr W (blk_cell hW.box 0) hW.row t).mono fun e w' he => ⟨he.1, 0, he.2⟩)
  have hcon := AnyE.slices_DeleteFunc Tryz.layItDel encI oneI (fun x => fr.contains x) 175 #[.pointer (some ⟨c, 0, none⟩)] (fun args w => over1_in args w) 0 Tryz.zeroValue82 g 0 cap l.toArray w
    (fun W x hb => give W (hf.move (hb.block c (lt_of_block hf.box)) fun b hl hq => ⟨hb.block b hl, hq⟩) x)
    (fun n os dk x hdk => give _ (hf.move (Q' := Q) (by
      have h1 := lt_of_block hf.box; show ((putRow encI (Sort.ahead w n) g 0 dk).heap ++ os)[c]? = _
      rw [Array.getElem?_append_left (by rw [put_row_size]; exact h1), put_row_other dk hcg]) fun b hb hq => ⟨by
        show ((putRow encI (Sort.ahead w n) g 0 dk).heap ++ os)[b]? = _
        rw [Array.getElem?_append_left (by rw [put_row_size]; exact hb), put_row_other dk (hQ b hq)], hq⟩) x) hH (by rw [hsz]; omega) (by rw [hsz]; exact hcap)
  rw [hsz] at hcon; refine hcon.mono ?_; rintro e w' ⟨rfl, q, rfl⟩; (have hfl : (l.filter fun x => !fr.contains x).length ≤ l.length := List.length_filter_le _ _); refine ⟨rfl, ?_, put_row_kept _⟩; (have hH2 := holds_putRow encI (Sort.ahead w q) g 0 l.toArray ((l.filter fun x => !fr.contains x) ++ List.replicate (l.length - (l.filter fun x => !fr.contains x).length) 0).toArray (holds_ahead _ _ _ _ _ _ hH) (by rw [List.size_toArray, List.size_toArray, List.length_append, List.length_replicate]; omega)); (exact holds_irow hH2 rfl (by omega) hcm rfl)
theorem sort_it (l : List Nat) (g cap : Nat) (w : World) (hH : Holds encI w g 0 l.toArray) (hne : l ≠ []) (hl : l.length ≤ 10000000) :
    Calls Tryz.prog 179 #[.slice (some ⟨g, 0, none⟩) l.length cap] w fun e w' => e = .returned (.tuple #[]) ∧ ∃ l' : List Nat, l'.Perm l ∧ l'.Pairwise (· ≤ ·) ∧ Holds encI w' g 0 l'.toArray ∧ Kept (fun b => b ≠ g) w w' := by
  have hpos := List.length_pos_iff.2 hne; (have hg := lt_of_cell (hH 0 (by simpa using hpos)).1); simp only at hg; (obtain ⟨zs, hzs⟩ : ∃ zs : List Int, zs = l.map fun n : Nat => (n : Int) := ⟨_, rfl⟩); (have hzl : zs.length = l.length := by rw [hzs]; simp)
  have hHz : Holds (Value.int .i64) w g 0 zs.toArray := fun j hj => by
    (have hj' : j < l.length := by simpa [hzl] using hj); (obtain ⟨h1, h2⟩ := hH j (by simpa using hj')); refine ⟨?_, h2⟩; (rw [h1, list_get! hj', getElem!_pos _ j (by simpa [hzl] using hj')]); subst hzs; simp [encI]
  (have hcon := AnyM.slices_Sort_int Tryz.layItSort g 0 cap zs w hHz hg (by omega)); rw [hzl] at hcon; refine hcon.mono ?_; rintro e w' ⟨rfl, n, os, rfl⟩; (obtain ⟨ys, hys⟩ : ∃ ys, ys = zs.mergeSort fun x y => decide (x ≤ y) := ⟨_, rfl⟩); rw [← hys]; (have hperm : ys.Perm zs := by rw [hys]; exact List.mergeSort_perm ..); have hyl : ys.length = zs.length := hperm.length_eq
  have hsorted : ys.Pairwise (fun a b => decide (a ≤ b) = true) := by
    rw [hys]; (exact List.pairwise_mergeSort (fun a b c h1 h2 => by simp at h1 h2 ⊢; omega) (fun a b => by simp; omega) _)
  have hnn : ∀ y ∈ ys, ((y.toNat : Nat) : Int) = y := fun y hy => by
    have := hperm.mem_iff.1 hy; rw [hzs] at this; obtain ⟨m, -, rfl⟩ := List.mem_map.1 this
    simp
  have hmap : (ys.map Int.toNat).map (fun n : Nat => (n : Int)) = ys := by
    rw [List.map_map]; (exact (List.map_congr_left fun y hy => hnn y hy).trans (List.map_id _))
  refine ⟨rfl, ys.map Int.toNat, ?_, ?_, ?_, ?_⟩
  · have h1 := hperm.map Int.toNat
    refine h1.trans ?_; rw [hzs, List.map_map]; (exact List.Perm.of_eq ((List.map_congr_left fun m _ => by simp).trans (List.map_id _)))
  · rw [List.pairwise_map]
    (exact hsorted.imp fun h => Int.toNat_le_toNat (by simpa using h))
  · have hHp := holds_putRow (Value.int .i64) (Sort.ahead w n) g 0 zs.toArray ys.toArray (holds_ahead _ _ _ _ _ _ hHz) (by simpa using hyl)
    intro j hj; (have hj' : j < ys.length := by simpa using hj); (obtain ⟨h1, h2⟩ := hHp j (by simpa using hj')); (have hgs : g < (putRow (Value.int .i64) (Sort.ahead w n) g 0 ys.toArray).heap.size := by simpa [putRow, mapBlock, Sort.ahead] using hg)
    have hgb : (grow (putRow (Value.int .i64) (Sort.ahead w n) g 0 ys.toArray) os).heap[g]? = (putRow (Value.int .i64) (Sort.ahead w n) g 0 ys.toArray).heap[g]? := by
      show ((putRow (Value.int .i64) (Sort.ahead w n) g 0 ys.toArray).heap ++ os)[g]? = _; rw [Array.getElem?_append_left hgs]
    refine ⟨(cell_of_block (a := ⟨g, 0 + j, none⟩) hgb).trans (h1.trans ?_), ?_⟩
    · rw [list_get! (by simpa using hj'), getElem!_pos _ j (by simpa using hj')]
      simp only [encI, List.getElem_map, List.getElem_toArray]; rw [hnn _ (List.getElem_mem _)]
    · rw [← h2]
      unfold World.frozen?; simp only; rw [hgb]
  · refine ⟨rfl, rfl, rfl, ?_, fun b hb hne => ?_⟩
    · show _ ≤ ((putRow (Value.int .i64) (Sort.ahead w n) g 0 ys.toArray).heap ++ os).size
      rw [Array.size_append]; simp [putRow, mapBlock, Sort.ahead]
    · show ((putRow (Value.int .i64) (Sort.ahead w n) g 0 ys.toArray).heap ++ os)[b]? = _
      (rw [Array.getElem?_append_left (by simpa [putRow, mapBlock, Sort.ahead] using hb)]); simp [putRow, mapBlock, Sort.ahead, Array.getElem?_modify, Ne.symm hne]
theorem compact_once {l : List Nat} (h : l.Pairwise (· ≤ ·)) : ∀ m, m ≤ l.length → (compactUpTo l.toArray m).Pairwise (· < ·) ∧ ∀ y ∈ compactUpTo l.toArray m, ∃ j, j < m ∧ y = l.toArray[j]!
  | 0, _ => ⟨by simp [compactUpTo], fun y hy => by simp [compactUpTo] at hy⟩
  | m + 1, hm => by
    (obtain ⟨h1, h2⟩ := compact_once h m (by omega)); rw [compactUpTo_succ]; by_cases hk : keeps l.toArray m = true
    · rw [if_pos hk]
      (refine ⟨?_, fun y hy => ?_⟩)
      · rw [List.pairwise_append]
        (refine ⟨h1, by simp, fun y hy z hz => ?_⟩); rw [List.mem_singleton.1 hz]; obtain ⟨j, hj, rfl⟩ := h2 y hy; (rw [list_get! (by omega), list_get! (by omega)]); (have hle : ∀ a b, (ha : a < b) → (hb : b < l.length) → l[a] ≤ l[b] := fun a b ha hb => List.pairwise_iff_getElem.1 h a b (by omega) hb ha); (have hm0 : 0 < m := by omega)
        have hne : l[m] ≠ l[m - 1] := by
          have := of_decide_eq_true hk
          rcases this with h3 | h3
          · omega
          · rw [list_get! (by omega), list_get! (by omega)] at h3
            exact h3
        (have h4 := hle (m - 1) m (by omega) (by omega))
        rcases Nat.lt_or_ge j (m - 1) with h5 | h5
        · have := hle j (m - 1) h5 (by omega)
          omega
        · have : j = m - 1 := by omega
          subst this; omega
      · rcases List.mem_append.1 hy with hy | hy
        · obtain ⟨j, hj, e⟩ := h2 y hy
          (exact ⟨j, by omega, e⟩)
        · rw [List.mem_singleton.1 hy]
          (exact ⟨m, by omega, rfl⟩)
    · rw [if_neg hk, List.append_nil]
      (refine ⟨h1, fun y hy => ?_⟩); obtain ⟨j, hj, e⟩ := h2 y hy; (exact ⟨j, by omega, e⟩)
theorem compact_memN (l : List Nat) (y : Nat) : y ∈ compactUpTo l.toArray l.length ↔ y ∈ l := by
  constructor
  · intro h
    unfold compactUpTo at h; obtain ⟨j, hj, rfl⟩ := List.mem_map.1 h; have := List.mem_range.1 (List.mem_filter.1 hj).1; rw [list_get! this]; exact List.getElem_mem _
  · intro h
    obtain ⟨j, hj⟩ := List.getElem?_of_mem h; have hlt := (List.getElem?_eq_some_iff.1 hj).1; rw [List.getElem?_eq_getElem hlt] at hj
    have key : ∀ j, j < l.length → l.toArray[j]! ∈ compactUpTo l.toArray l.length := by
      intro j
      induction j with
      | zero => intro hj; exact List.mem_map.2 ⟨0, List.mem_filter.2 ⟨List.mem_range.2 hj, by simp [keeps]⟩, rfl⟩
      | succ j ih =>
        intro hj; by_cases hk : keeps l.toArray (j + 1) = true
        · exact List.mem_map.2 ⟨j + 1, List.mem_filter.2 ⟨List.mem_range.2 hj, hk⟩, rfl⟩
        · have e : l.toArray[j + 1]! = l.toArray[j]! := by simpa [keeps] using hk
          rw [e]; (exact ih (by omega))
    have := key j hlt; rw [list_get! hlt, Option.some.inj hj] at this; exact this
theorem comp_it (l : List Nat) (g cap : Nat) (w : World) (hH : Holds encI w g 0 l.toArray) (hs : l.Pairwise (· ≤ ·)) (hl : l.length ≤ 10000000) (hcap : l.length ≤ cap) (hcm : cap ≤ maxLen) :
    Calls Tryz.prog 180 #[.slice (some ⟨g, 0, none⟩) l.length cap] w fun e w' => ∃ l' : List Nat, e = .returned (.slice (some ⟨g, 0, none⟩) l'.length cap) ∧ IRow (fun b => b = g) w' (.slice (some ⟨g, 0, none⟩) l'.length cap) l' ∧ l'.Nodup ∧ (∀ y, y ∈ l' ↔ y ∈ l) ∧ Kept (fun b => b ≠ g) w w' := by
  (have hsz : l.toArray.size = l.length := by simp); (have hcon := AnyE.slices_Compact Tryz.layItComp encI oneI (eqlI _ _) (neqI _ _) 0 Tryz.zeroValue82 g 0 cap l.toArray w hH (by rw [hsz]; omega) (by rw [hsz]; exact hcap)); rw [hsz] at hcon; refine hcon.mono ?_; rintro e w' ⟨rfl, q, rfl⟩; obtain ⟨h1, -⟩ := compact_once hs l.length (Nat.le_refl _)
  have hcl : (compactUpTo l.toArray l.length).length ≤ l.length := by
    unfold compactUpTo; rw [List.length_map]; (exact Nat.le_trans (List.length_filter_le _ _) (by simp))
  (refine ⟨compactUpTo l.toArray l.length, rfl, ?_, h1.imp (fun h => Nat.ne_of_lt h), compact_memN l, put_row_kept _⟩); (have hH2 := holds_putRow encI (Sort.ahead w q) g 0 l.toArray (compactUpTo l.toArray l.length ++ List.replicate (l.length - (compactUpTo l.toArray l.length).length) 0).toArray (holds_ahead _ _ _ _ _ _ hH) (by rw [List.size_toArray, List.size_toArray, List.length_append, List.length_replicate]; omega)); (exact holds_irow hH2 rfl (by omega) hcm rfl)
end Go.Proofs.YtalnljnincnbdacGreat
