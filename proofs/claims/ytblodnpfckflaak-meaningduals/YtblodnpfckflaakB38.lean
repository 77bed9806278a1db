/- Texts of one proof, one behind the other: SP1. -/
import Derived.Test.YtblodnpfckflaakB37
/- Walks: VastExpr and vastWords of the yardstick: they answer something. -/
namespace Go.Proofs.Ytblodnpfckflaak
open Go.RowKit Go.Sort Go.Maps Go.WideMaps

def AnyB (e : Ending) : Prop := ∃ b, e = .returned (.bool b)
theorem AnyB.get {e : Ending} (h : AnyB e) : ∃ b, e = .returned (.bool b) := h
def VWs (m : Nat) : Prop := ∀ (l : List Wd) (v : Value) (d : Nat) (w : World), Wd.sizes l < m → d ≤ 25001 → WL w v l → Calls Try.prog 15 #[v, .int .i64 (d : Nat)] w fun e w' => AnyB e ∧ w' = w
set_option maxRecDepth 10000 in
set_option maxHeartbeats 4000000 in
theorem vastW_step (m : Nat) (ih : VWs m) : VWs (m + 1) := by
  intro l v d w hm hd hl; have HX : Hid (WL w v l) := hl; obtain ⟨sl, cp, rfl, h1, h2, -⟩ := hl; (have hlI : ((l.length : Nat) : Int) ≤ 9223372036854775807 := by unfold maxLen at h2; omega); have HMx : Hid (Wd.sizes l < m + 1 ∧ d ≤ 25001) := ⟨hm, hd⟩; (have hdI : ((d : Nat) : Int) ≤ 25001 := by omega); clear hm h1 h2; by_cases hd2 : d ≤ 25000
  case neg =>
    (have hI : (25000 : Int) < (d : Int) := by omega); clear hd2
    go_enter Try.func15, Try.ntmps15
    go_wp2_with fail; go_ret; exact ⟨⟨_, rfl⟩, rfl⟩
  (have hI : ¬ (25000 : Int) < (d : Int) := by omega); by_cases hl2 : l.length ≤ 25000
  case neg =>
    (have hJ : (25000 : Int) < (l.length : Int) := by omega); clear hd2 hl2
    go_enter Try.func15, Try.ntmps15
    go_wp2_with fail; go_ret; exact ⟨⟨_, rfl⟩, rfl⟩
  (have hJ : ¬ (25000 : Int) < (l.length : Int) := by omega); have HD : Hid (d ≤ 25000) := hd2; clear hd2 hl2 hd
  go_enter Try.func15, Try.ntmps15
  go_wp2_with fail
  go_loopg [5] l.length (fun g c wr => ∃ i, i ≤ l.length ∧ g = l.length - i ∧ c = .int .i64 (i : Nat) ∧ Hid (wr = w))
  case atStart => exact ⟨0, by omega, by omega, rfl, rfl⟩
  case round =>
    obtain ⟨i, hile, hg, rfl, HW⟩ := hrel; have hw := HW.out; subst hw; have HG : Hid (gk = l.length - i) := hg; clear hg; by_cases hlt : i < l.length
    · obtain ⟨⟨n2, ar2⟩, hki⟩ : ∃ x, l[i]? = some x := ⟨_, List.getElem?_eq_getElem hlt⟩
      (have hltI : (i : Int) < (l.length : Int) := by omega); obtain ⟨b, off, sl2, cap2, rfl, z0, z1, hrep2⟩ := HX.out.at i n2 ar2 hki; (have hsz : Wd.sizes ar2 < m := by have := wsizes_get hki; have := HMx.out.1; rw [Wd.size] at *; omega)
      have HI : Hid (Calls Try.prog 15 #[.slice sl2 ar2.length cap2, .int .i64 ((d : Int) + 1)] wr fun e w' => AnyB e ∧ w' = wr) := by
        show Calls _ _ _ _ _; (have := ih ar2 (.slice sl2 ar2.length cap2) (d + 1) wr hsz (by have := HD.out; omega) hrep2.args.2.2.2); simpa using this
      have HLt : Hid (i < l.length) := hlt; clear hki hrep2 hlt hile hsz
      go_wp2_with (first
        | (go_at_call 15
           refine HI.out.mono ?_; rintro e w3 ⟨hA, h3⟩; obtain ⟨bb, rfl⟩ := hA.get; obtain rfl : wr = w3 := h3.symm
           cases bb)
        | fail)
      · go_roundg (l.length - (i + 1))
        case measure => have := HG.out; have := HLt.out; omega
        case rel => exact ⟨i + 1, HLt.out, rfl, by go_num, rfl⟩
      · go_ret
        exact ⟨⟨_, rfl⟩, rfl⟩
    · have hge : ¬ (i : Int) < (l.length : Int) := by omega
      clear hlt hile HX; go_wp2_with fail; go_ret; exact ⟨⟨_, rfl⟩, rfl⟩
theorem vastW_all : ∀ m, VWs m
  | 0 => fun _ _ _ _ h => absurd h (Nat.not_lt_zero _)
  | m + 1 => vastW_step m (vastW_all m)
def VEs (m : Nat) : Prop := ∀ (x : Ex) (v : Value) (d : Nat) (w : World), x.size < m → d ≤ 25001 → ERp w x v → Calls Try.prog 6 #[v, .int .i64 (d : Nat)] w fun e w' => AnyB e ∧ Below w.heap.size w w'
set_option maxRecDepth 10000 in
set_option maxHeartbeats 4000000 in
theorem vastE_step (m : Nat) (ih : VEs m) : VEs (m + 1) := by
  intro x v d w hm hd hrep; have HE : Hid (ERp w x v) := hrep; obtain ⟨k, n, ws, ks⟩ := x; obtain ⟨sw, cw, sk, ck, rfl, -, hwl, h1, h2, hks⟩ := ERp.def.1 hrep; (have hlI : ((ks.length : Nat) : Int) ≤ 9223372036854775807 := by unfold maxLen at h2; omega); (have hdI : ((d : Nat) : Int) ≤ 25001 := by omega); obtain ⟨W, hWe⟩ : ∃ W, w.alloc (.cells #[.int .i64 k, .string n, .slice sw ws.length cw, .slice sk ks.length ck] 29 (0, 0)) = W := ⟨_, rfl⟩; (have hBW : Below w.heap.size w W := by rw [← hWe]; exact below_more (Below.refl _ _) _); (have hq : W.heap[w.heap.size]? = some (.cells #[.int .i64 k, .string n, .slice sw ws.length cw, .slice sk ks.length ck] 29 (0, 0)) := by rw [← hWe]; exact blk_new _ _); have HQ : Hid (W.heap[w.heap.size]? = some (.cells #[.int .i64 k, .string n, .slice sw ws.length cw, .slice sk ks.length ck] 29 (0, 0))) := hq; have HBW : Hid (Below w.heap.size w W) := hBW; have HX : Hid (ks ≠ [] → ∃ b off, sk = some ⟨b, off, none⟩ ∧ ERps w b off ks) := hks; have HMx : Hid ((Ex.mk k n ws ks).size < m + 1 ∧ d ≤ 25001) := ⟨hm, hd⟩; (have HVw : Hid (Calls Try.prog 15 #[.slice sw ws.length cw, .int .i64 (d : Nat)] W fun e w' => AnyB e ∧ w' = W) := vastW_all (Wd.sizes ws + 1) ws _ d W (Nat.lt_succ_self _) hd (hwl.up hBW)); obtain ⟨a0, a1, a2, a3⟩ := blk4L hq; have hs := lt_of_block hq; clear hm hrep hwl h1 h2 hks hBW hq; by_cases hd2 : d ≤ 25000
  case neg =>
    (have hI : (25000 : Int) < (d : Int) := by omega); clear hd2 hd
    go_enter Try.func6, Try.ntmps6
    go_wp2_with fail; go_ret; exact ⟨⟨_, rfl⟩, HBW.out⟩
  (have hI : ¬ (25000 : Int) < (d : Int) := by omega); by_cases hl2 : ks.length ≤ 25000
  case neg =>
    (have hJ : (25000 : Int) < (ks.length : Int) := by omega); clear hd2 hl2 hd
    go_enter Try.func6, Try.ntmps6
    go_wp2_with fail; go_ret; exact ⟨⟨_, rfl⟩, HBW.out⟩
  (have hJ : ¬ (25000 : Int) < (ks.length : Int) := by omega); have HD : Hid (d ≤ 25000) := hd2; clear hd2 hl2 hd
  go_enter Try.func6, Try.ntmps6
  go_wp2_with (first
    | (go_at_call 15
       refine HVw.out.mono ?_; rintro e w3 ⟨hA, h3⟩; obtain ⟨bb, rfl⟩ := hA.get; obtain rfl : W = w3 := h3.symm
       cases bb)
    | fail)
  · clear a0 a1 a2 a3 hWe hs
    go_loopg [5] ks.length (fun g c wr => ∃ i, i ≤ ks.length ∧ g = ks.length - i ∧ c = .int .i64 (i : Nat) ∧ Hid (Below w.heap.size w wr) ∧ Hid (wr.heap[w.heap.size]? = some (.cells #[.int .i64 k, .string n, .slice sw ws.length cw, .slice sk ks.length ck] 29 (0, 0))))
    case atStart => exact ⟨0, by omega, by omega, rfl, HBW, HQ⟩
    case round =>
      obtain ⟨i, hile, hg, rfl, HBr, HQr⟩ := hrel; have HG : Hid (gk = ks.length - i) := hg; obtain ⟨a0, a1, a2, a3⟩ := blk4L HQr.out; have hs := lt_of_block HQr.out; clear hg; by_cases hlt : i < ks.length
      · obtain ⟨⟨k2, n2, ws2, ks2⟩, hki⟩ : ∃ x, ks[i]? = some x := ⟨_, List.getElem?_eq_getElem hlt⟩
        (have hltI : (i : Int) < (ks.length : Int) := by omega); (obtain ⟨b, off, rfl, hrs⟩ := HX.out (fun e => by rw [e] at hlt; simp at hlt)); obtain ⟨sw2, cw2, sk2, ck2, z0, z1, z2, z3, hrep2⟩ := hrs.at i k2 n2 ws2 ks2 hki; have y0 := (HBr.out.cell (lt_of_cell z0)).trans z0; have y1 := (HBr.out.cell (lt_of_cell z1)).trans z1; have y2 := (HBr.out.cell (lt_of_cell z2)).trans z2; have y3 := (HBr.out.cell (lt_of_cell z3)).trans z3; (have hsz : (Ex.mk k2 n2 ws2 ks2).size < m := by have := esizes_get hki; have := HMx.out.1; rw [Ex.size] at this; omega)
        have HI : Hid (Calls Try.prog 6 #[.agg #[.int .i64 k2, .string n2, .slice sw2 ws2.length cw2, .slice sk2 ks2.length ck2], .int .i64 ((d : Int) + 1)] wr fun e w' => AnyB e ∧ Below wr.heap.size wr w') := by
          show Calls _ _ _ _ _; (have := ih (.mk k2 n2 ws2 ks2) _ (d + 1) wr hsz (by have := HD.out; omega) (ERp.up HBr.out _ _ hrep2)); simpa using this
        have HLt : Hid (i < ks.length) := hlt; clear hki hrs hrep2 hlt hile hsz z0 z1 z2 z3
        go_wp2_with (first
          | (go_at_call 6
             refine HI.out.mono ?_; rintro e w3 ⟨hA, hb3⟩; obtain ⟨bb, rfl⟩ := hA.get; have HB3 : Hid (Below w.heap.size w w3) := below_join HBr.out hb3; have HQ3 : Hid (w3.heap[w.heap.size]? = some (.cells #[.int .i64 k, .string n, .slice sw ws.length cw, .slice (some ⟨b, off, none⟩) ks.length ck] 29 (0, 0))) := below_keep hb3 HQr.out; clear hb3 a0 a1 a2 a3
             cases bb)
          | fail)
        · go_roundg (ks.length - (i + 1))
          case measure => have := HG.out; have := HLt.out; omega
          case rel => exact ⟨i + 1, HLt.out, rfl, by go_num, HB3, HQ3⟩
        · go_ret
          exact ⟨⟨_, rfl⟩, HB3.out⟩
      · have hge : ¬ (i : Int) < (ks.length : Int) := by omega
        clear hlt hile HX; go_wp2_with fail; go_ret; exact ⟨⟨_, rfl⟩, HBr.out⟩
  · go_ret
    exact ⟨⟨_, rfl⟩, HBW.out⟩
theorem vastE_all : ∀ m, VEs m
  | 0 => fun _ _ _ _ h => absurd h (Nat.not_lt_zero _)
  | m + 1 => vastE_step m (vastE_all m)
theorem vastExpr_any (x : Ex) (v : Value) (w : World) (h : ERp w x v) :
    Calls Try.prog 6 #[v, .int .i64 0] w fun e w' => AnyB e ∧ Below w.heap.size w w' :=
  vastE_all (x.size + 1) x v 0 w (Nat.lt_succ_self _) (by omega) h
end Go.Proofs.Ytblodnpfckflaak
