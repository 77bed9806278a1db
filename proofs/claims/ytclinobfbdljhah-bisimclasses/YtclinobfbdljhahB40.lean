/- Texts of one proof, one behind the other: SC2, SC3. -/
import Derived.Test.YtclinobfbdljhahB36
import Derived.Test.YtclinobfbdljhahB18
import Derived.Test.YtclinobfbdljhahB25
import Derived.Deep.QuietTactic
import Derived.BigQuiet
/- Walks: sameTexts of the yardstick. -/
namespace Go.Proofs.Ytclinobfbdljhah
open Go.RowKit

theorem all_take {α : Type} {l : List α} {p : α → Bool} {i : Nat} {x : α} (h : (l.take i).all p = true) (hx : l[i]? = some x) : (l.take (i + 1)).all p = p x := by
  rw [List.take_add_one, hx, List.all_append, h]
  simp
set_option maxRecDepth 10000 in
set_option maxHeartbeats 4000000 in
theorem sameT_any (a b : List (List UInt8)) (hal : a.length ≤ 30) (hbl : b.length ≤ 30) (v u : Value) (w : World) (hv : SL w v a) (hu : SL w u b) :
    Calls Try.prog 76 #[v, u] w fun e w' => e = .returned (.bool (sameT a b)) ∧ w' = w := by
  (have HA : Hid (∀ t, Calls Try.prog 45 #[v, .string ⟨t.toArray⟩] w fun e w' => e = .returned (.bool (decide (t ∈ a))) ∧ w' = w) := fun t => hasText_sl a t v w hv); (have HB : Hid (∀ t, Calls Try.prog 45 #[u, .string ⟨t.toArray⟩] w fun e w' => e = .returned (.bool (decide (t ∈ b))) ∧ w' = w) := fun t => hasText_sl b t u w hu); obtain ⟨ad1, cp1, rfl, h1, h2, h3⟩ := hv; obtain ⟨ad2, cp2, rfl, k1, k2, k3⟩ := hu; have H3 : Hid (a ≠ [] → ∃ g off, ad1 = some ⟨g, off, none⟩ ∧ ∀ (j : Nat) (t : List UInt8), a[j]? = some t → w.cell? ⟨g, off + j, none⟩ = some (.string ⟨t.toArray⟩)) := h3; have K3 : Hid (b ≠ [] → ∃ g off, ad2 = some ⟨g, off, none⟩ ∧ ∀ (j : Nat) (t : List UInt8), b[j]? = some t → w.cell? ⟨g, off + j, none⟩ = some (.string ⟨t.toArray⟩)) := k3; (have haI : (a.length : Int) ≤ 30 := by omega); (have hbI : (b.length : Int) ≤ 30 := by omega); (have hcI : (a.length : Int) ≤ (cp1 : Int) := by omega); (have hdI : (b.length : Int) ≤ (cp2 : Int) := by omega); clear h3 k3 h1 h2 k1 k2 hal hbl
  go_enter Try.func76, Try.ntmps76
  go_wp2_with fail
  go_loopg [5] a.length (fun g c wr => ∃ i, i ≤ a.length ∧ g = a.length - i ∧ c = .int .i64 (i : Nat) ∧ Hid ((a.take i).all (fun t => b.contains t) = true) ∧ wr = w)
  case atStart => exact ⟨0, by omega, by omega, rfl, by show _ = _; simp, rfl⟩
  case round =>
    obtain ⟨i, hi, hg, rfl, HT, rfl⟩ := hrel; have HGk : Hid (gk = a.length - i) := hg; clear hg; by_cases hlt : i < a.length
    · obtain ⟨t, ht⟩ : ∃ t, a[i]? = some t := ⟨_, List.getElem?_eq_getElem hlt⟩
      (obtain ⟨g, off, rfl, hc⟩ := H3.out (fun e => by rw [e] at hlt; simp at hlt)); have g0 := hc i t ht; (have hltI : (i : Int) < (a.length : Int) := by omega); (have hltc : (i : Int) < (cp1 : Int) := by omega); have HI : Hid (i < a.length) := hlt; (have HTs : Hid ((a.take (i + 1)).all (fun t => b.contains t) = b.contains t) := all_take HT.out ht); (have HCt : Hid (Calls Try.prog 45 #[.slice ad2 b.length cp2, .string ⟨t.toArray⟩] wr fun e w' => e = .returned (.bool (decide (t ∈ b))) ∧ w' = wr) := HB.out t); have HMt : Hid (t ∈ a) := List.mem_of_getElem? ht; generalize hTq : (⟨t.toArray⟩ : ByteArray) = T at *; clear hlt hi hc ht H3; go_wp2_with fail; refine HCt.out.mono ?_; rintro _ w9 ⟨rfl, e9⟩
      replace e9 := e9.symm
      subst e9; by_cases hm : t ∈ b
      · rw [decide_eq_true hm]
        (have HTt : Hid ((a.take (i + 1)).all (fun t => b.contains t) = true) := by rw [HTs.out]; exact List.contains_iff_mem.2 hm); clear hm; go_wp2_with fail
        go_roundg (a.length - (i + 1))
        case measure => have := HGk.out; have := HI.out; omega
        case rel => exact ⟨i + 1, HI.out, rfl, by go_num, HTt, rfl⟩
      · rw [decide_eq_false hm]
        have HF : Hid (sameT a b = false) := by
          show _ = _; rw [Bool.eq_false_iff]; intro e; exact hm ((sameT_iff.1 e t).1 HMt.out)
        clear hm; go_wp2_with fail; go_ret; (exact ⟨by rw [HF.out]; rfl, rfl⟩)
    · have hii : i = a.length := by omega
      subst hii; (have hge : ¬ (a.length : Int) < (a.length : Int) := by omega); rw [List.take_length] at HT; clear hlt hi HGk; go_wp2_with fail; obtain ⟨V, hV⟩ : ∃ V, V = wr := ⟨_, rfl⟩; subst hV
      go_loopg [6] b.length (fun g c wr => ∃ i, i ≤ b.length ∧ g = b.length - i ∧ c = .int .i64 (i : Nat) ∧ Hid ((b.take i).all (fun t => a.contains t) = true) ∧ wr = V)
      case atStart => exact ⟨0, by omega, by omega, rfl, by show _ = _; simp, rfl⟩
      case round =>
        obtain ⟨i, hi, hg, rfl, HU, rfl⟩ := hrel; have HGk : Hid (gk = b.length - i) := hg; clear hg; by_cases hlt : i < b.length
        · obtain ⟨t, ht⟩ : ∃ t, b[i]? = some t := ⟨_, List.getElem?_eq_getElem hlt⟩
          (obtain ⟨g, off, rfl, hc⟩ := K3.out (fun e => by rw [e] at hlt; simp at hlt)); have g0 := hc i t ht; (have hltI : (i : Int) < (b.length : Int) := by omega); (have hltc : (i : Int) < (cp2 : Int) := by omega); have HI : Hid (i < b.length) := hlt; (have HTs : Hid ((b.take (i + 1)).all (fun t => a.contains t) = a.contains t) := all_take HU.out ht); (have HCt : Hid (Calls Try.prog 45 #[.slice ad1 a.length cp1, .string ⟨t.toArray⟩] wr fun e w' => e = .returned (.bool (decide (t ∈ a))) ∧ w' = wr) := HA.out t); have HMt : Hid (t ∈ b) := List.mem_of_getElem? ht; generalize hTq : (⟨t.toArray⟩ : ByteArray) = T at *; clear hlt hi hc ht K3; go_wp2_with fail; refine HCt.out.mono ?_; rintro _ w9 ⟨rfl, e9⟩
          replace e9 := e9.symm
          subst e9; by_cases hm : t ∈ a
          · rw [decide_eq_true hm]
            (have HTt : Hid ((b.take (i + 1)).all (fun t => a.contains t) = true) := by rw [HTs.out]; exact List.contains_iff_mem.2 hm); clear hm; go_wp2_with fail
            go_roundg (b.length - (i + 1))
            case measure => have := HGk.out; have := HI.out; omega
            case rel => exact ⟨i + 1, HI.out, rfl, by go_num, HTt, rfl⟩
          · rw [decide_eq_false hm]
            have HF : Hid (sameT a b = false) := by
              show _ = _; rw [Bool.eq_false_iff]; intro e; exact hm ((sameT_iff.1 e t).2 HMt.out)
            clear hm; go_wp2_with fail; go_ret; (exact ⟨by rw [HF.out]; rfl, rfl⟩)
        · have hii : i = b.length := by omega
          subst hii; (have hge : ¬ (b.length : Int) < (b.length : Int) := by omega); rw [List.take_length] at HU; (have HF : Hid (sameT a b = true) := by show _ = _; rw [sameT, HT.out, HU.out]; rfl); clear hlt hi HGk; go_wp2_with fail; go_ret; (exact ⟨by rw [HF.out]; rfl, rfl⟩)
end Go.Proofs.Ytclinobfbdljhah
/- Walks: whether what a world sees is alike to something that another sees (covered). -/
namespace Go.Proofs.Ytclinobfbdljhah
open Go.RowKit

/-- A row of truth values. -/
def boolC (N : Nat) (P : Nat → Bool) : Array Value := ((List.range N).map fun v => Value.bool (P v)).toArray
theorem boolC_size (N : Nat) (P : Nat → Bool) : (boolC N P).size = N := by simp [boolC]
theorem boolC_get {N v : Nat} (P : Nat → Bool) (h : v < N) : (boolC N P)[v]? = some (.bool (P v)) := by simp [boolC, h]
theorem boolC_set {N v : Nat} (P : Nat → Bool) (b : Bool) : (boolC N P).setIfInBounds v (.bool b) = boolC N fun x => if x = v then b else P x := by
  apply Array.ext_getElem?; intro j; by_cases hj : j < N
  · rw [boolC_get _ hj]
    by_cases e : v = j
    · subst e
      (rw [Array.getElem?_setIfInBounds_self_of_lt (by rw [boolC_size]; exact hj)])
      simp
    · rw [Array.getElem?_setIfInBounds_ne e, boolC_get _ hj, if_neg fun h => e h.symm]
  · rw [Array.getElem?_eq_none (by simp [boolC_size]; omega), Array.getElem?_eq_none (by simp [boolC_size]; omega)]
theorem boolC_ext {N : Nat} {P Q : Nat → Bool} (h : ∀ v, v < N → P v = Q v) : boolC N P = boolC N Q := by
  unfold boolC
  congr 1
  (exact List.map_congr_left fun v hv => by rw [h v (List.mem_range.1 hv)])
def rowsC (N : Nat) (rb : Nat → Nat) : Array Value := ((List.range N).map fun u => Value.slice (some ⟨rb u, 0, none⟩) N N).toArray
theorem rowsC_get {N u : Nat} (rb : Nat → Nat) (h : u < N) : (rowsC N rb)[u]? = some (.slice (some ⟨rb u, 0, none⟩) N N) := by simp [rowsC, h]
/-- A square of truth values in memory. -/
structure MtR (w : World) (gi N : Nat) (rb : Nat → Nat) (M : Nat → Nat → Bool) : Prop where
  top : w.heap[gi]? = some (.cells (rowsC N rb) 54 (0, 0))
  row : ∀ u, u < N → w.heap[rb u]? = some (.cells (boolC N (M u)) 4 (0, 0))
  inj : ∀ u v, u < N → v < N → rb u = rb v → u = v
theorem MtR.up {w w' : World} {gi N : Nat} {rb : Nat → Nat} {M : Nat → Nat → Bool} (h : MtR w gi N rb M) (hb : Below w.heap.size w w') : MtR w' gi N rb M :=
  ⟨below_keep hb h.top, fun u hu => below_keep hb (h.row u hu), h.inj⟩
theorem MtR.cells {w : World} {gi N : Nat} {rb : Nat → Nat} {M : Nat → Nat → Bool} (h : MtR w gi N rb M) {u v : Nat} (hu : u < N) (hv : v < N) : w.cell? ⟨gi, u, none⟩ = some (.slice (some ⟨rb u, 0, none⟩) N N) ∧ w.cell? ⟨rb u, v, none⟩ = some (.bool (M u v)) :=
  ⟨(blk_cell h.top u).trans (rowsC_get rb hu), (blk_cell (h.row u hu) v).trans (boolC_get _ hv)⟩
/-- One value is written. -/
theorem MtR.set {w : World} {gi N : Nat} {rb : Nat → Nat} {M : Nat → Nat → Bool} (h : MtR w gi N rb M) {u v : Nat} (hu : u < N) (b : Bool) : MtR (w.setCell ⟨rb u, v, none⟩ (.bool b)) gi N rb (fun x y => if x = u ∧ y = v then b else M x y) := by
  (refine ⟨?_, fun x hx => ?_, h.inj⟩)
  · refine (blk_otherS _ fun e => ?_).trans h.top
    have h1 := h.top; rw [e, h.row u hu] at h1; simp at h1
  · by_cases e : x = u
    · subst e
      rw [blk_setS (h.row x hx), boolC_set]
      congr 2
      (exact boolC_ext fun y _ => by simp)
    · rw [blk_otherS _ fun e2 => e (h.inj x u hx hu e2), h.row x hx]
      congr 2
      (exact boolC_ext fun y _ => by simp [e])
theorem seen_mem {N : Nat} {rel : List (Int × Int)} (hin : InR N rel) {u x : Nat} : x ∈ seenTo N rel u N ↔ x < N ∧ relB rel u x = true := by
  rw [← seeR_eq hin, seeR, List.mem_filter, List.mem_range]
theorem seen_len {N : Nat} {rel : List (Int × Int)} (u : Nat) : (seenTo N rel u N).length ≤ N := by
  (have := List.length_filter_le (fun v => bitP N rel (u * N + v)) (List.range N)); rw [List.length_range] at this; exact this
theorem covM_seen {N : Nat} {rel : List (Int × Int)} (hin : InR N rel) (M : Nat → Nat → Bool) (u v : Nat) : covM N (relB rel) M u v = (seenTo N rel u N).all fun x => (seenTo N rel v N).any fun y => M x y := by
  rw [Bool.eq_iff_iff, covM_iff, List.all_eq_true]
  constructor
  · intro h x hx
    obtain ⟨h1, h2⟩ := (seen_mem hin).1 hx; obtain ⟨y, a, b, e⟩ := h x h1 h2; exact List.any_eq_true.2 ⟨y, (seen_mem hin).2 ⟨a, b⟩, e⟩
  · intro h x hx hr
    obtain ⟨y, hy, e⟩ := List.any_eq_true.1 (h x ((seen_mem hin).2 ⟨hx, hr⟩)); obtain ⟨a, b⟩ := (seen_mem hin).1 hy; exact ⟨y, a, b, e⟩
set_option maxRecDepth 10000 in
set_option maxHeartbeats 8000000 in
theorem cov_any {N : Nat} (hN : N ≤ 40) {rel : List (Int × Int)} (hin : InR N rel) {M : Nat → Nat → Bool} {rb : Nat → Nat} (u v B gs gi bS bI : Nat) (hu : u < N) (hv : v < N) (w : World) (hS : w.heap[bS]? = some (.cells #[.slice (some ⟨gs, 0, none⟩) N N] 91 (0, 0))) (hI : w.heap[bI]? = some (.cells #[.slice (some ⟨gi, 0, none⟩) N N] 89 (0, 0))) (hs : SnR B w gs N rel) (hm : MtR w gi N rb M) :
    Calls Try.prog 77 #[.int .i64 (u : Nat), .int .i64 (v : Nat), .pointer (some ⟨bS, 0, none⟩), .pointer (some ⟨bI, 0, none⟩)] w fun e w' => e = .returned (.bool (covM N (relB rel) M u v)) ∧ Below w.heap.size w w' := by
  obtain ⟨au, cu, hcu, hcu1, -, hcu2⟩ := hs.row hu; obtain ⟨av, cv, hcv, hcv1, -, hcv2⟩ := hs.row hv
  have HCu : Hid (∀ (j k : Nat), (seenTo N rel u N)[j]? = some k → ∃ b, au = some ⟨b, 0, none⟩ ∧ w.cell? ⟨b, j, none⟩ = some (.int .i64 (k : Nat))) := fun j k hj => by
    (obtain ⟨b, e, hc⟩ := hcu2 (by have := (List.getElem?_eq_some_iff.1 hj).1; omega)); exact ⟨b, e, hc j k hj⟩
  have HCv : Hid (∀ (j k : Nat), (seenTo N rel v N)[j]? = some k → ∃ b, av = some ⟨b, 0, none⟩ ∧ w.cell? ⟨b, j, none⟩ = some (.int .i64 (k : Nat))) := fun j k hj => by
    (obtain ⟨b, e, hc⟩ := hcv2 (by have := (List.getElem?_eq_some_iff.1 hj).1; omega)); exact ⟨b, e, hc j k hj⟩
  (have HMu : Hid (∀ x ∈ seenTo N rel u N, x < N) := fun x hx => ((seen_mem hin).1 hx).1); (have HMv : Hid (∀ x ∈ seenTo N rel v N, x < N) := fun x hx => ((seen_mem hin).1 hx).1); (have hlu : ((seenTo N rel u N).length : Int) ≤ 40 := by have := seen_len (rel := rel) (N := N) u; omega); (have hlv : ((seenTo N rel v N).length : Int) ≤ 40 := by have := seen_len (rel := rel) (N := N) v; omega); (have hcuI : ((seenTo N rel u N).length : Int) ≤ (cu : Int) := by omega); (have hcvI : ((seenTo N rel v N).length : Int) ≤ (cv : Int) := by omega); (have HRes : Hid (covM N (relB rel) M u v = (seenTo N rel u N).all fun x => (seenTo N rel v N).any fun y => M x y) := covM_seen hin M u v); (have HC : Hid (∀ W, Below w.heap.size w W → ∀ x y, x < N → y < N → W.cell? ⟨gi, x, none⟩ = some (.slice (some ⟨rb x, 0, none⟩) N N) ∧ W.cell? ⟨rb x, y, none⟩ = some (.bool (M x y))) := fun W hW x y hx hy => (hm.up hW).cells hx hy); have HS0 : Hid (w.heap[bS]? = some (.cells #[.slice (some ⟨gs, 0, none⟩) N N] 91 (0, 0))) := hS; have HI0 : Hid (w.heap[bI]? = some (.cells #[.slice (some ⟨gi, 0, none⟩) N N] 89 (0, 0))) := hI; have HU0 : Hid (w.cell? ⟨gs, u, none⟩ = some (.slice au (seenTo N rel u N).length cu)) := hcu; have HV0 : Hid (w.cell? ⟨gs, v, none⟩ = some (.slice av (seenTo N rel v N).length cv)) := hcv; (have huI : (u : Int) < (N : Int) := by omega); (have hvI : (v : Int) < (N : Int) := by omega); have HN : Hid (N ≤ 40) := hN; generalize seenTo N rel u N = su at *; generalize seenTo N rel v N = sv at *; generalize covM N (relB rel) M u v = res at *; have q0 : w.cell? ⟨bS, 0, none⟩ = some (.slice (some ⟨gs, 0, none⟩) N N) := blk_cell hS 0; clear hS hI hs hm hcu2 hcv2 hcu hcv hcu1 hcv1 hin hN; have z0 := HU0.out
  go_enter Try.func77, Try.ntmps77
  go_wp2_with fail; clear q0 z0
  go_loopg [7, 8, 9] su.length (fun g c y8 y9 wr => ∃ i, i ≤ su.length ∧ g = su.length - i ∧ c = .int .i64 (i : Nat) ∧ Hid ((su.take i).all (fun x => sv.any fun y => M x y) = true) ∧ Hid (Below w.heap.size w wr))
  case atStart => exact ⟨0, by omega, by omega, rfl, by show _ = _; simp, Below.refl _ _⟩
  case round =>
    obtain ⟨i, hi, hg, rfl, HT, HB⟩ := hrel; have HGk : Hid (gk = su.length - i) := hg; clear hg; have q0 : wr.cell? ⟨bS, 0, none⟩ = some (.slice (some ⟨gs, 0, none⟩) N N) := blk_cell (below_keep HB.out HS0.out) 0; have q1 := (HB.out.cell (lt_of_cell HU0.out)).trans HU0.out; have q2 := (HB.out.cell (lt_of_cell HV0.out)).trans HV0.out; by_cases hlt : i < su.length
    · obtain ⟨x, hx⟩ : ∃ x, su[i]? = some x := ⟨_, List.getElem?_eq_getElem hlt⟩
      have HXn : Hid (x < N) := HMu.out x (List.mem_of_getElem? hx); (have HTs : Hid ((su.take (i + 1)).all (fun x => sv.any fun y => M x y) = sv.any fun y => M x y) := all_take HT.out hx); have HXi : Hid (su[i]? = some x) := hx; (have hltI : (i : Int) < (su.length : Int) := by omega); have HI : Hid (i < su.length) := hlt; have HTa : Hid (x ∈ su) := List.mem_of_getElem? hx; clear hlt hi hx; go_wp2_with fail; clear q0 q1 q2; obtain ⟨V, hV⟩ : ∃ V, V = wr := ⟨_, rfl⟩; subst hV
      go_loopg [9, 8] sv.length (fun g c y8 wr => ∃ k, k ≤ sv.length ∧ g = sv.length - k ∧ c = .int .i64 (k : Nat) ∧ y8 = .bool ((sv.take k).any fun y => M x y) ∧ Hid (Below w.heap.size w wr))
      case atStart => exact ⟨0, by omega, by omega, rfl, by simp, HB⟩
      case round =>
        obtain ⟨k, hk, hg, rfl, rfl, HB2⟩ := hrel; have HGq : Hid (gk = sv.length - k) := hg; clear hg; have q0 : wr.cell? ⟨bS, 0, none⟩ = some (.slice (some ⟨gs, 0, none⟩) N N) := blk_cell (below_keep HB2.out HS0.out) 0; have q9 : wr.cell? ⟨bI, 0, none⟩ = some (.slice (some ⟨gi, 0, none⟩) N N) := blk_cell (below_keep HB2.out HI0.out) 0; have q1 := (HB2.out.cell (lt_of_cell HU0.out)).trans HU0.out; have q2 := (HB2.out.cell (lt_of_cell HV0.out)).trans HV0.out; by_cases hlt : k < sv.length
        · obtain ⟨y, hy⟩ : ∃ y, sv[k]? = some y := ⟨_, List.getElem?_eq_getElem hlt⟩
          have HYn : Hid (y < N) := HMv.out y (List.mem_of_getElem? hy)
          have HKs : Hid ((sv.take (k + 1)).any (fun y => M x y) = ((sv.take k).any (fun y => M x y) || M x y)) := by
            show _ = _; rw [List.take_add_one, hy, List.any_append]
            simp
          obtain ⟨b1, rfl, d1⟩ := HCu.out i x HXi.out; obtain ⟨b2, rfl, d2⟩ := HCv.out k y hy; have q3 := (HB2.out.cell (lt_of_cell d1)).trans d1; have q4 := (HB2.out.cell (lt_of_cell d2)).trans d2; obtain ⟨q5, q6⟩ := HC.out wr HB2.out x y HXn.out HYn.out; (have hltI : (k : Int) < (sv.length : Int) := by omega); (have hltc : (k : Int) < (cv : Int) := by omega); (have hltd : (i : Int) < (cu : Int) := by omega); (have hxI : (x : Int) < (N : Int) := by have := HXn.out; omega); (have hyI : (y : Int) < (N : Int) := by have := HYn.out; omega); have HI2 : Hid (k < sv.length) := hlt; (generalize (sv.take k).any (fun y => M x y) = ok at *); generalize M x y = mxy at *; clear hlt hk hy d1 d2
          cases ok
          · go_wp2_with fail
            go_quiet (fail)
            go_wp2_with fail
            go_roundg (sv.length - (k + 1))
            case measure => have := HGq.out; have := HI2.out; omega
            case rel => exact ⟨k + 1, HI2.out, rfl, by go_num, by rw [HKs.out]; simp, below_drewN HB2.out _⟩
          · go_wp2_with fail
            go_quiet (fail)
            go_wp2_with fail
            go_roundg (sv.length - (k + 1))
            case measure => have := HGq.out; have := HI2.out; omega
            case rel => exact ⟨k + 1, HI2.out, rfl, by go_num, by rw [HKs.out]; simp, below_drewN HB2.out _⟩
        · have hii : k = sv.length := by omega
          subst hii; (have hge : ¬ (sv.length : Int) < (sv.length : Int) := by omega); rw [List.take_length]; clear hlt hk HGq; (by_cases ha : (sv.any fun y => M x y) = true)
          · have HTt : Hid ((su.take (i + 1)).all (fun x => sv.any fun y => M x y) = true) := by rw [HTs.out]; exact ha
            rw [ha]; clear ha; go_wp2_with fail
            go_roundg (su.length - (i + 1))
            case measure => have := HGk.out; have := HI.out; omega
            case rel => exact ⟨i + 1, HI.out, rfl, by go_num, HTt, HB2⟩
          · have haf : (sv.any fun y => M x y) = false := by simpa using ha
            have HF : Hid (res = false) := by
              show _ = _; rw [HRes.out, Bool.eq_false_iff]; intro e; exact ha (List.all_eq_true.1 e x HTa.out)
            rw [haf]; clear ha haf; go_wp2_with fail; go_ret; (exact ⟨by rw [HF.out]; rfl, HB2.out⟩)
    · have hii : i = su.length := by omega
      subst hii; (have hge : ¬ (su.length : Int) < (su.length : Int) := by omega); rw [List.take_length] at HT; (have HF : Hid (res = true) := by show _ = _; rw [HRes.out, HT.out]); clear hlt hi HGk; go_wp2_with fail; go_ret; (exact ⟨by rw [HF.out]; rfl, HB.out⟩)
end Go.Proofs.Ytclinobfbdljhah
