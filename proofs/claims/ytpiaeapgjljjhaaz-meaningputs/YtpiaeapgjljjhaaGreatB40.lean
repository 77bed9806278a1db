/- Texts of one proof, one behind the other: SP1, SP2, SP4, SP5, SR1, RN2. -/
import Derived.Test.YtpiaeapgjljjhaaGreatB39
import Derived.Test.YtpiaeapgjljjhaaGreatB09
import Derived.Test.YtpiaeapgjljjhaaGreatB13
import Derived.Test.YtpiaeapgjljjhaaGreatB18
import Derived.Test.YtpiaeapgjljjhaaGreatB17
import Derived.Shelf.Strings.OnBuilder
import Derived.Shelf.Slices.Equal
import Derived.Shelf.Slices.Empties2
import Derived.Test.YtpiaeapgjljjhaaGreatProg
import Derived.Test.YtpiaeapgjljjhaaGreatB11
import Derived.Test.YtpiaeapgjljjhaaGreatB06
import Derived.Test.YtpiaeapgjljjhaaGreatB01
import Derived.Test.YtpiaeapgjljjhaaGreatB10
import Derived.RegionTactic
import Derived.Test.YtpiaeapgjljjhaaGreatB08
import Derived.Deep.RegionHeld3
import Derived.Test.YtpiaeapgjljjhaaGreatB05
import Derived.Test.YtpiaeapgjljjhaaGreatB04
import Derived.Deep.Upon
import Derived.Laws.EntriesVeiled
/- Walks: VastExpr and vastWords of the yardstick: they answer something. -/
namespace Go.Proofs.YtpiaeapgjljjhaaGreat
open Go.RowKit Go.Sort Go.Maps Go.WideMaps

def AnyB (e : Ending) : Prop := ∃ b, e = .returned (.bool b)
theorem AnyB.get {e : Ending} (h : AnyB e) : ∃ b, e = .returned (.bool b) := h
def VWs (m : Nat) : Prop := ∀ (l : List Wd) (v : Value) (d : Nat) (w : World), Wd.sizes l < m → d ≤ 25001 → WL w v l → Calls Tryz.prog 44 #[v, .int .i64 (d : Nat)] w fun e w' => AnyB e ∧ w' = w
set_option maxRecDepth 10000 in
set_option maxHeartbeats 4000000 in
theorem vastW_step (m : Nat) (ih : VWs m) : VWs (m + 1) := by
  intro l v d w hm hd hl; have HX : Hid (WL w v l) := hl; obtain ⟨sl, cp, rfl, h1, h2, -⟩ := hl; (have hlI : ((l.length : Nat) : Int) ≤ 9223372036854775807 := by unfold maxLen at h2; omega); have HMx : Hid (Wd.sizes l < m + 1 ∧ d ≤ 25001) := ⟨hm, hd⟩; (have hdI : ((d : Nat) : Int) ≤ 25001 := by omega); clear hm h1 h2; by_cases hd2 : d ≤ 25000
  case neg =>
    (have hI : (25000 : Int) < (d : Int) := by omega); clear hd2
    go_enter Tryz.func44, Tryz.ntmps44
    go_wp2_with fail; go_ret; exact ⟨⟨_, rfl⟩, rfl⟩
  (have hI : ¬ (25000 : Int) < (d : Int) := by omega); by_cases hl2 : l.length ≤ 25000
  case neg =>
    (have hJ : (25000 : Int) < (l.length : Int) := by omega); clear hd2 hl2
    go_enter Tryz.func44, Tryz.ntmps44
    go_wp2_with fail; go_ret; exact ⟨⟨_, rfl⟩, rfl⟩
  (have hJ : ¬ (25000 : Int) < (l.length : Int) := by omega); have HD : Hid (d ≤ 25000) := hd2; clear hd2 hl2 hd
  go_enter Tryz.func44, Tryz.ntmps44
  go_wp2_with fail
  go_loopg [5] l.length (fun g c wr => ∃ i, i ≤ l.length ∧ g = l.length - i ∧ c = .int .i64 (i : Nat) ∧ Hid (wr = w))
  case atStart => exact ⟨0, by omega, by omega, rfl, rfl⟩
  case round =>
    obtain ⟨i, hile, hg, rfl, HW⟩ := hrel; have hw := HW.out; subst hw; have HG : Hid (gk = l.length - i) := hg; clear hg; by_cases hlt : i < l.length
    · obtain ⟨⟨n2, ar2⟩, hki⟩ : ∃ x, l[i]? = some x := ⟨_, List.getElem?_eq_getElem hlt⟩
      (have hltI : (i : Int) < (l.length : Int) := by omega); obtain ⟨b, off, sl2, cap2, rfl, z0, z1, hrep2⟩ := HX.out.at i n2 ar2 hki; (have hsz : Wd.sizes ar2 < m := by have := wsizes_get hki; have := HMx.out.1; rw [Wd.size] at *; omega)
      have HI : Hid (Calls Tryz.prog 44 #[.slice sl2 ar2.length cap2, .int .i64 ((d : Int) + 1)] wr fun e w' => AnyB e ∧ w' = wr) := by
        show Calls _ _ _ _ _; (have := ih ar2 (.slice sl2 ar2.length cap2) (d + 1) wr hsz (by have := HD.out; omega) hrep2.args.2.2.2); simpa using this
      have HLt : Hid (i < l.length) := hlt; clear hki hrep2 hlt hile hsz
      go_wp2_with (first
        | (go_at_call 44
           refine HI.out.mono ?_; rintro e w3 ⟨hA, h3⟩; obtain ⟨bb, rfl⟩ := hA.get; obtain rfl : wr = w3 := h3.symm
           cases bb)
        | fail)
      · go_roundg (l.length - (i + 1))
        case measure => have := HG.out; have := HLt.out; omega
        case rel => exact ⟨i + 1, HLt.out, rfl, by go_num, rfl⟩
      · go_ret
        exact ⟨⟨_, rfl⟩, rfl⟩
    · have hge : ¬ (i : Int) < (l.length : Int) := by omega
      clear hlt hile HX; go_wp2_with fail; go_ret; exact ⟨⟨_, rfl⟩, rfl⟩
theorem vastW_all : ∀ m, VWs m
  | 0 => fun _ _ _ _ h => absurd h (Nat.not_lt_zero _)
  | m + 1 => vastW_step m (vastW_all m)
def VEs (m : Nat) : Prop := ∀ (x : Ex) (v : Value) (d : Nat) (w : World), x.size < m → d ≤ 25001 → ERp w x v → Calls Tryz.prog 9 #[v, .int .i64 (d : Nat)] w fun e w' => AnyB e ∧ Below w.heap.size w w'
set_option maxRecDepth 10000 in
set_option maxHeartbeats 4000000 in
theorem vastE_step (m : Nat) (ih : VEs m) : VEs (m + 1) := by
  intro x v d w hm hd hrep; have HE : Hid (ERp w x v) := hrep; obtain ⟨k, n, ws, ks⟩ := x; obtain ⟨sw, cw, sk, ck, rfl, -, hwl, h1, h2, hks⟩ := ERp.def.1 hrep; (have hlI : ((ks.length : Nat) : Int) ≤ 9223372036854775807 := by unfold maxLen at h2; omega); (have hdI : ((d : Nat) : Int) ≤ 25001 := by omega); obtain ⟨W, hWe⟩ : ∃ W, w.alloc (.cells #[.int .i64 k, .string n, .slice sw ws.length cw, .slice sk ks.length ck] 25 (0, 0)) = W := ⟨_, rfl⟩; (have hBW : Below w.heap.size w W := by rw [← hWe]; exact below_more (Below.refl _ _) _); (have hq : W.heap[w.heap.size]? = some (.cells #[.int .i64 k, .string n, .slice sw ws.length cw, .slice sk ks.length ck] 25 (0, 0)) := by rw [← hWe]; exact blk_new _ _); have HQ : Hid (W.heap[w.heap.size]? = some (.cells #[.int .i64 k, .string n, .slice sw ws.length cw, .slice sk ks.length ck] 25 (0, 0))) := hq; have HBW : Hid (Below w.heap.size w W) := hBW; have HX : Hid (ks ≠ [] → ∃ b off, sk = some ⟨b, off, none⟩ ∧ ERps w b off ks) := hks; have HMx : Hid ((Ex.mk k n ws ks).size < m + 1 ∧ d ≤ 25001) := ⟨hm, hd⟩; (have HVw : Hid (Calls Tryz.prog 44 #[.slice sw ws.length cw, .int .i64 (d : Nat)] W fun e w' => AnyB e ∧ w' = W) := vastW_all (Wd.sizes ws + 1) ws _ d W (Nat.lt_succ_self _) hd (hwl.up hBW)); obtain ⟨a0, a1, a2, a3⟩ := blk4L hq; have hs := lt_of_block hq; clear hm hrep hwl h1 h2 hks hBW hq; by_cases hd2 : d ≤ 25000
  case neg =>
    (have hI : (25000 : Int) < (d : Int) := by omega); clear hd2 hd
    go_enter Tryz.func9, Tryz.ntmps9
    go_wp2_with fail; go_ret; exact ⟨⟨_, rfl⟩, HBW.out⟩
  (have hI : ¬ (25000 : Int) < (d : Int) := by omega); by_cases hl2 : ks.length ≤ 25000
  case neg =>
    (have hJ : (25000 : Int) < (ks.length : Int) := by omega); clear hd2 hl2 hd
    go_enter Tryz.func9, Tryz.ntmps9
    go_wp2_with fail; go_ret; exact ⟨⟨_, rfl⟩, HBW.out⟩
  (have hJ : ¬ (25000 : Int) < (ks.length : Int) := by omega); have HD : Hid (d ≤ 25000) := hd2; clear hd2 hl2 hd
  go_enter Tryz.func9, Tryz.ntmps9
  go_wp2_with (first
    | (go_at_call 44
       refine HVw.out.mono ?_; rintro e w3 ⟨hA, h3⟩; obtain ⟨bb, rfl⟩ := hA.get; obtain rfl : W = w3 := h3.symm
       cases bb)
    | fail)
  · clear a0 a1 a2 a3 hWe hs
    go_loopg [5] ks.length (fun g c wr => ∃ i, i ≤ ks.length ∧ g = ks.length - i ∧ c = .int .i64 (i : Nat) ∧ Hid (Below w.heap.size w wr) ∧ Hid (wr.heap[w.heap.size]? = some (.cells #[.int .i64 k, .string n, .slice sw ws.length cw, .slice sk ks.length ck] 25 (0, 0))))
    case atStart => exact ⟨0, by omega, by omega, rfl, HBW, HQ⟩
    case round =>
      obtain ⟨i, hile, hg, rfl, HBr, HQr⟩ := hrel; have HG : Hid (gk = ks.length - i) := hg; obtain ⟨a0, a1, a2, a3⟩ := blk4L HQr.out; have hs := lt_of_block HQr.out; clear hg; by_cases hlt : i < ks.length
      · obtain ⟨⟨k2, n2, ws2, ks2⟩, hki⟩ : ∃ x, ks[i]? = some x := ⟨_, List.getElem?_eq_getElem hlt⟩
        (have hltI : (i : Int) < (ks.length : Int) := by omega); (obtain ⟨b, off, rfl, hrs⟩ := HX.out (fun e => by rw [e] at hlt; simp at hlt)); obtain ⟨sw2, cw2, sk2, ck2, z0, z1, z2, z3, hrep2⟩ := hrs.at i k2 n2 ws2 ks2 hki; have y0 := (HBr.out.cell (lt_of_cell z0)).trans z0; have y1 := (HBr.out.cell (lt_of_cell z1)).trans z1; have y2 := (HBr.out.cell (lt_of_cell z2)).trans z2; have y3 := (HBr.out.cell (lt_of_cell z3)).trans z3; (have hsz : (Ex.mk k2 n2 ws2 ks2).size < m := by have := esizes_get hki; have := HMx.out.1; rw [Ex.size] at this; omega)
        have HI : Hid (Calls Tryz.prog 9 #[.agg #[.int .i64 k2, .string n2, .slice sw2 ws2.length cw2, .slice sk2 ks2.length ck2], .int .i64 ((d : Int) + 1)] wr fun e w' => AnyB e ∧ Below wr.heap.size wr w') := by
          show Calls _ _ _ _ _; (have := ih (.mk k2 n2 ws2 ks2) _ (d + 1) wr hsz (by have := HD.out; omega) (ERp.up HBr.out _ _ hrep2)); simpa using this
        have HLt : Hid (i < ks.length) := hlt; clear hki hrs hrep2 hlt hile hsz z0 z1 z2 z3
        go_wp2_with (first
          | (go_at_call 9
             refine HI.out.mono ?_; rintro e w3 ⟨hA, hb3⟩; obtain ⟨bb, rfl⟩ := hA.get; have HB3 : Hid (Below w.heap.size w w3) := below_join HBr.out hb3; have HQ3 : Hid (w3.heap[w.heap.size]? = some (.cells #[.int .i64 k, .string n, .slice sw ws.length cw, .slice (some ⟨b, off, none⟩) ks.length ck] 25 (0, 0))) := below_keep hb3 HQr.out; clear hb3 a0 a1 a2 a3
             cases bb)
          | fail)
        · go_roundg (ks.length - (i + 1))
          case measure => have := HG.out; have := HLt.out; omega
          case rel => exact ⟨i + 1, HLt.out, rfl, by go_num, HB3, HQ3⟩
        · go_ret
          exact ⟨⟨_, rfl⟩, HB3.out⟩
      · have hge : ¬ (i : Int) < (ks.length : Int) := by omega
        clear hlt hile HX; go_wp2_with fail; go_ret; exact ⟨⟨_, rfl⟩, HBr.out⟩
  · go_ret
    exact ⟨⟨_, rfl⟩, HBW.out⟩
theorem vastE_all : ∀ m, VEs m
  | 0 => fun _ _ _ _ h => absurd h (Nat.not_lt_zero _)
  | m + 1 => vastE_step m (vastE_all m)
theorem vastExpr_any (x : Ex) (v : Value) (w : World) (h : ERp w x v) :
    Calls Tryz.prog 9 #[v, .int .i64 0] w fun e w' => AnyB e ∧ Below w.heap.size w w' :=
  vastE_all (x.size + 1) x v 0 w (Nat.lt_succ_self _) (by omega) h
end Go.Proofs.YtpiaeapgjljjhaaGreat
/- Walks: nodesOfWords, nodesOf and Count of the yardstick: how many nodes they list. (gen/sp2.py) -/
namespace Go.Proofs.YtpiaeapgjljjhaaGreat
open Go.RowKit Go.Sort

theorem take_snocG {α : Type} {l : List α} {i : Nat} {x : α} (h : l[i]? = some x) : l.take (i + 1) = l.take i ++ [x] := by
  rw [List.take_add_one, h]; rfl

end Go.Proofs.YtpiaeapgjljjhaaGreat
/- Walks: sameThings and the closures of MeaningDuals. -/
namespace Go.Proofs.YtpiaeapgjljjhaaGreat
open Go.RowKit Go.Sort

def samE2 : Ex := .mk 9 ⟨#[120]⟩ [] [.mk 9 ⟨#[121]⟩ [] [.mk 2 ⟨#[]⟩ [.mk ⟨#[120]⟩ [], .mk ⟨#[121]⟩ []] []]]
/-- An expression is answered. -/
def ExE (w : World) (x : Ex) (e : Ending) (w' : World) : Prop := ∃ v, e = .returned v ∧ ERp w' x v ∧ Below w.heap.size w w'
theorem blk_fourM (w : World) (A B C D : Obj) : ((((w.alloc A).alloc B).alloc C).alloc D).heap[w.heap.size]? = some A ∧ ((((w.alloc A).alloc B).alloc C).alloc D).heap[w.heap.size + 1]? = some B ∧ ((((w.alloc A).alloc B).alloc C).alloc D).heap[w.heap.size + 1 + 1]? = some C ∧ ((((w.alloc A).alloc B).alloc C).alloc D).heap[w.heap.size + 1 + 1 + 1]? = some D := by
  obtain ⟨p1, p2, p3⟩ := blk_threeM w A B C; refine ⟨alloc_keep p1 D, alloc_keep p2 D, alloc_keep p3 D, ?_⟩; have := blk_new (((w.alloc A).alloc B).alloc C) D; simpa using this
theorem cells4 {W : World} {b : Nat} {x0 x1 x2 x3 : Value} {T : TypeId} (h : W.heap[b]? = some (.cells #[x0, x1, x2, x3] T (0, 0))) : W.cell? ⟨b, 0, none⟩ = some x0 ∧ W.cell? ⟨b, 1, none⟩ = some x1 ∧ W.cell? ⟨b, 2, none⟩ = some x2 ∧ W.cell? ⟨b, 3, none⟩ = some x3 :=
  ⟨blk_cell h 0, blk_cell h 1, blk_cell h 2, blk_cell h 3⟩
set_option maxRecDepth 10000 in
set_option maxHeartbeats 4000000 in
theorem sth_any (w : World) : Calls Tryz.prog 71 #[] w fun e w' => ExE w samE2 e w' := by
  obtain ⟨q0, q1, q2, q3⟩ := blk_fourM w (.cells #[.int .i64 9, .string ⟨#[120]⟩, .slice none 0 0, .slice (some ⟨w.heap.size + 1 + 1 + 1, 0, none⟩) 1 1] 25 (0, 0)) (.cells #[.string ⟨#[120]⟩, .slice none 0 0, .string ⟨#[121]⟩, .slice none 0 0] 44 (0, 0)) (.cells #[.int .i64 2, .string ⟨#[]⟩, .slice (some ⟨w.heap.size + 1, 0, none⟩) 2 2, .slice none 0 0] 25 (0, 0)) (.cells #[.int .i64 9, .string ⟨#[121]⟩, .slice none 0 0, .slice (some ⟨w.heap.size + 1 + 1, 0, none⟩) 1 1] 25 (0, 0)); have hb : Below w.heap.size w ((((w.alloc (.cells #[.int .i64 9, .string ⟨#[120]⟩, .slice none 0 0, .slice (some ⟨w.heap.size + 1 + 1 + 1, 0, none⟩) 1 1] 25 (0, 0))).alloc (.cells #[.string ⟨#[120]⟩, .slice none 0 0, .string ⟨#[121]⟩, .slice none 0 0] 44 (0, 0))).alloc (.cells #[.int .i64 2, .string ⟨#[]⟩, .slice (some ⟨w.heap.size + 1, 0, none⟩) 2 2, .slice none 0 0] 25 (0, 0))).alloc (.cells #[.int .i64 9, .string ⟨#[121]⟩, .slice none 0 0, .slice (some ⟨w.heap.size + 1 + 1, 0, none⟩) 1 1] 25 (0, 0))) := below_more (below_more (below_more (below_more (Below.refl _ _) _) _) _) _; obtain ⟨W, hW⟩ : ∃ W, ((((w.alloc (.cells #[.int .i64 9, .string ⟨#[120]⟩, .slice none 0 0, .slice (some ⟨w.heap.size + 1 + 1 + 1, 0, none⟩) 1 1] 25 (0, 0))).alloc (.cells #[.string ⟨#[120]⟩, .slice none 0 0, .string ⟨#[121]⟩, .slice none 0 0] 44 (0, 0))).alloc (.cells #[.int .i64 2, .string ⟨#[]⟩, .slice (some ⟨w.heap.size + 1, 0, none⟩) 2 2, .slice none 0 0] 25 (0, 0))).alloc (.cells #[.int .i64 9, .string ⟨#[121]⟩, .slice none 0 0, .slice (some ⟨w.heap.size + 1 + 1, 0, none⟩) 1 1] 25 (0, 0))) = W := ⟨_, rfl⟩; have HWe : Hid (_ = W) := hW; rw [hW] at q0 q1 q2 q3 hb; obtain ⟨o0, o1, o2, o3⟩ := cells4 q0; obtain ⟨x0, x1, x2, x3⟩ := cells4 q1; obtain ⟨y0, y1, y2, y3⟩ := cells4 q2; obtain ⟨z0, z1, z2, z3⟩ := cells4 q3; (have wd : ∀ n : ByteArray, n.size ≤ maxLen → WRp W (.mk n []) (.agg #[.string n, .slice none 0 0]) := fun n hn => WRp.def.2 ⟨none, 0, rfl, hn, Nat.le_refl _, by decide, fun h => absurd rfl h⟩)
  have HR : Hid (ERp W samE2 (.agg #[.int .i64 9, .string ⟨#[120]⟩, .slice none 0 0, .slice (some ⟨w.heap.size + 1 + 1 + 1, 0, none⟩) 1 1])) := by
    show ERp _ _ _
    have h2 : ERp W (.mk 2 ⟨#[]⟩ [.mk ⟨#[120]⟩ [], .mk ⟨#[121]⟩ []] []) (.agg #[.int .i64 2, .string ⟨#[]⟩, .slice (some ⟨w.heap.size + 1, 0, none⟩) 2 2, .slice none 0 0]) := by
      (refine ERp.def.2 ⟨_, _, none, 0, rfl, by decide, ⟨_, _, rfl, Nat.le_refl _, by decide, fun _ => ⟨_, _, rfl, WRps.cons.2 ⟨⟨_, _, x0, x1, wd _ (by decide)⟩, WRps.cons.2 ⟨⟨_, _, x2, x3, wd _ (by decide)⟩, WRps.nil⟩⟩⟩⟩, Nat.le_refl _, by decide, fun h => absurd rfl h⟩)
    have h1 : ERp W (.mk 9 ⟨#[121]⟩ [] [.mk 2 ⟨#[]⟩ [.mk ⟨#[120]⟩ [], .mk ⟨#[121]⟩ []] []]) (.agg #[.int .i64 9, .string ⟨#[121]⟩, .slice none 0 0, .slice (some ⟨w.heap.size + 1 + 1, 0, none⟩) 1 1]) :=
      ERp.def.2 ⟨none, 0, _, _, rfl, by decide, ⟨_, _, rfl, Nat.le_refl _, by decide, fun h => absurd rfl h⟩, Nat.le_refl _, by decide, fun _ => ⟨_, _, rfl, ERps.cons.2 ⟨⟨_, _, _, _, y0, y1, y2, y3, h2⟩, ERps.nil⟩⟩⟩
    (exact ERp.def.2 ⟨none, 0, _, _, rfl, by decide, ⟨_, _, rfl, Nat.le_refl _, by decide, fun h => absurd rfl h⟩, Nat.le_refl _, by decide, fun _ => ⟨_, _, rfl, ERps.cons.2 ⟨⟨_, _, _, _, z0, z1, z2, z3, h1⟩, ERps.nil⟩⟩⟩)
  have HB : Hid (Below w.heap.size w W) := hb; clear q0 q1 q2 q3 hb x0 x1 x2 x3 y0 y1 y2 y3 z0 z1 z2 z3 wd hW
  go_enter Tryz.func71, Tryz.ntmps71
  go_wp2_with fail; rw [HWe.out]; (exact bodyPost_ret (v := .agg #[.int .i64 9, .string ⟨#[120]⟩, .slice none 0 0, .slice (some ⟨w.heap.size + 1 + 1 + 1, 0, none⟩) 1 1]) (by simp [results, Tryz.results71, go_sem, o0, o1, o2, o3]) rfl ⟨_, rfl, HR.out, HB.out⟩)
end Go.Proofs.YtpiaeapgjljjhaaGreat
/- Walks: meaningBegun. -/
namespace Go.Proofs.YtpiaeapgjljjhaaGreat
open Go.RowKit Go.Sort

theorem begun1 : vlE ⟨1, [], []⟩ samE2 [] [] = .tuple #[.bool true, .agg #[.int .i64 0, .int .i64 0]] := by
  (have h1 : vlcode ⟨1, [], []⟩ samE2 [] [] = (0, 0) := by decide +kernel); (have h2 : vlB ⟨1, [], []⟩ samE2 [] [] = true := by decide +kernel); unfold vlE; rw [h1, h2]
theorem begun2 : vlE ⟨2, [], []⟩ samE2 [] [] = .tuple #[.bool false, .agg #[.int .i64 0, .int .i64 0]] := by
  (have h1 : vlcode ⟨2, [], []⟩ samE2 [] [] = (0, 0) := by decide +kernel); (have h2 : vlB ⟨2, [], []⟩ samE2 [] [] = false := by decide +kernel); unfold vlE; rw [h1, h2]
theorem StR.bare (w : World) (n : Int) : StR w ⟨n, [], []⟩ (.agg #[.int .i64 n, .slice none 0 0, .slice none 0 0]) :=
  ⟨none, 0, none, 0, rfl, ⟨_, _, rfl, Nat.le_refl _, by decide, fun h => absurd rfl h⟩, ⟨_, _, rfl, Nat.le_refl _, by decide, fun h => absurd rfl h⟩⟩
theorem mval1 (u : Value) (w : World) (h : ERp w samE2 u) : Calls Tryz.prog 37 #[.agg #[.int .i64 1, .slice none 0 0, .slice none 0 0], u, .slice none 0 0, .slice none 0 0] w fun e w' => e = .returned (.tuple #[.bool true, .agg #[.int .i64 0, .int .i64 0]]) ∧ Below w.heap.size w w' := by
  (have := valueS_any ⟨1, [], []⟩ samE2 [] [] _ u (.slice none 0 0) (.slice none 0 0) w (StR.bare w 1) h ⟨_, _, rfl, Nat.le_refl _, by decide, fun h => absurd rfl h⟩ ⟨_, _, rfl, Nat.le_refl _, by decide, fun h => absurd rfl h⟩ (fun t ht => by simp at ht))
  rwa [begun1] at this
theorem mval2 (u : Value) (w : World) (h : ERp w samE2 u) : Calls Tryz.prog 37 #[.agg #[.int .i64 2, .slice none 0 0, .slice none 0 0], u, .slice none 0 0, .slice none 0 0] w fun e w' => e = .returned (.tuple #[.bool false, .agg #[.int .i64 0, .int .i64 0]]) ∧ Below w.heap.size w w' := by
  (have := valueS_any ⟨2, [], []⟩ samE2 [] [] _ u (.slice none 0 0) (.slice none 0 0) w (StR.bare w 2) h ⟨_, _, rfl, Nat.le_refl _, by decide, fun h => absurd rfl h⟩ ⟨_, _, rfl, Nat.le_refl _, by decide, fun h => absurd rfl h⟩ (fun t ht => by simp at ht))
  rwa [begun2] at this
set_option maxRecDepth 10000 in
set_option maxHeartbeats 4000000 in
theorem meaningBegun_any (w : World) : Calls Tryz.prog 34 #[] w fun e w' => e = .returned (.bool true) ∧ Below w.heap.size w w' := by
  go_enter Tryz.func34, Tryz.ntmps34
  go_wp2_with fail; refine (sth_any _).mono ?_; rintro _ w1 ⟨u1, rfl, hr1, hb1⟩; have HR1 : Hid (ERp w1 samE2 u1) := hr1; have HB1 : Hid (Below w.heap.size w w1) := hb1; clear hr1 hb1; go_wp2_with fail; refine (mval1 u1 w1 HR1.out).mono ?_; rintro _ w2 ⟨rfl, hb2⟩; have HB2 : Hid (Below w.heap.size w w2) := below_join HB1.out hb2; clear hb2; go_wp2_with fail; obtain ⟨W, hW⟩ : ∃ W, w2.alloc (.cells #[.int .i64 0, .int .i64 0] 30 (0, 0)) = W := ⟨_, rfl⟩; have hq := blk_new w2 (.cells #[.int .i64 0, .int .i64 0] 30 (0, 0)); (have hbW : Below w.heap.size w W := by rw [← hW]; exact HB2.out.alloc HB2.out.size _); rw [hW] at hq ⊢; clear hW; refine (sth_any _).mono ?_; rintro _ w3 ⟨u3, rfl, hr3, hb3⟩; have HR3 : Hid (ERp w3 samE2 u3) := hr3; have HB3 : Hid (Below w.heap.size w w3) := below_join hbW hb3; have HQ3 : Hid (w3.heap[w2.heap.size]? = some (.cells #[.int .i64 0, .int .i64 0] 30 (0, 0))) := below_keep hb3 hq; clear hr3 hb3 hbW hq; go_wp2_with fail; refine (mval2 u3 w3 HR3.out).mono ?_; rintro _ w4 ⟨rfl, hb4⟩; have HB4 : Hid (Below w.heap.size w w4) := below_join HB3.out hb4; have HQ4 : w4.heap[w2.heap.size]? = some (.cells #[.int .i64 0, .int .i64 0] 30 (0, 0)) := below_keep hb4 HQ3.out; have hs := lt_of_block HQ4; have c0 := blk_cell HQ4 0; (have HB5 : Hid (∀ o, Below w.heap.size w (w4.alloc o)) := fun o => HB4.out.alloc HB4.out.size o); clear hb4 HQ4; go_wp2_with fail; go_ret; exact ⟨rfl, HB5.out _⟩
end Go.Proofs.YtpiaeapgjljjhaaGreat
/- Walks: powerOf and StructureFault of the yardstick: they answer something. -/
namespace Go.Proofs.YtpiaeapgjljjhaaGreat
open Go.RowKit Go.Sort

set_option maxRecDepth 10000 in
set_option maxHeartbeats 4000000 in
theorem pwr_any (n k : Nat) (hn : n ≤ 8) (hk : k ≤ 3) (w : World) : Calls Tryz.prog 73 #[.int .i64 (n : Nat), .int .i64 (k : Nat)] w fun e w' => e = .returned (.int .i64 ((n ^ k : Nat) : Int)) ∧ w' = w := by
  have HK : Hid (n ≤ 8 ∧ k ≤ 3) := ⟨hn, hk⟩; (have hkI : ((k : Nat) : Int) ≤ 3 := by omega); clear hn hk
  go_enter Tryz.func73, Tryz.ntmps73
  go_wp2_with fail
  go_loopg [6, 5] k (fun gg i p wr => ∃ j q : Nat, j ≤ k ∧ gg = k - j ∧ i = .int .i64 (j : Nat) ∧ p = .int .i64 (q : Nat) ∧ Hid (q = n ^ j) ∧ Hid (wr = w))
  case atStart => exact ⟨0, 1, by omega, by omega, rfl, rfl, (by show 1 = _; simp), rfl⟩
  case round =>
    obtain ⟨j, q, hj, hg, rfl, rfl, HQ, HW⟩ := hrel; have hw := HW.out; subst hw; have HG : Hid (gk = k - j) := hg
    have hq8 : q ≤ 512 := by
      (have h1 : n ^ j ≤ 8 ^ 3 := Nat.le_trans (Nat.pow_le_pow_left HK.out.1 j) (Nat.pow_le_pow_right (by omega) (by have := HK.out.2; omega))); have := HQ.out; omega
    have hn8 := HK.out.1; (have hqI : (q : Int) ≤ 512 := by omega); (have hnI : (n : Int) ≤ 8 := by omega)
    have hm : ((q * n : Nat) : Int) ≤ 4096 := by
      have : q * n ≤ 512 * 8 := Nat.mul_le_mul hq8 hn8; omega
    (have hm2 : ((q * n : Nat) : Int) = (q : Int) * (n : Int) := by simp); rw [hm2] at hm; (have h0 : 0 ≤ (q : Int) * (n : Int) := by rw [← hm2]; omega); have HMu : Hid (((q * n : Nat) : Int) = (q : Int) * (n : Int)) := hm2; clear hg hq8 hn8 hm2; by_cases hlt : j < k
    · have hltI : (j : Int) < (k : Int) := by omega
      have HLt : Hid (j < k) := hlt; clear hlt hj; go_wp2_with fail
      go_roundg (k - (j + 1))
      case measure => have := HG.out; have := HLt.out; omega
      case rel => exact ⟨j + 1, q * n, HLt.out, rfl, by go_num, (by rw [HMu.out]), (by show _ = _; rw [HQ.out, Nat.pow_succ]), rfl⟩
    · have hge : ¬ (j : Int) < (k : Int) := by omega
      (have HE : Hid (j = k) := by show _ = _; omega); clear hlt hj; go_wp2_with fail; go_ret; refine ⟨?_, rfl⟩; rw [HQ.out, HE.out]
      simp
end Go.Proofs.YtpiaeapgjljjhaaGreat
/- Plain: a structure whose things are shifted answers the same. -/
namespace Go.Proofs.YtpiaeapgjljjhaaGreat
open Go.RowKit Go.Sort

theorem st_zero {s : StD} (h : (stcode s).1 = 0) : cfF s.n.toNat 0 [] s.funs = none ∧ pfF s.n.toNat s.funs.length [] s.preds = none := by
  unfold stcode at h
  split at h
  case isFalse => exact absurd h (by decide)
  unfold lscode lsF at h
  rcases h1 : cfF s.n.toNat 0 [] s.funs with _ | p
  · rw [h1] at h
    simp only at h
    rcases h2 : pfF s.n.toNat s.funs.length [] s.preds with _ | p
    · exact ⟨rfl, rfl⟩
    · rw [h2] at h
      exact absurd h (pdf_code _ _ _ _ h2)
  · rw [h1] at h
    exact absurd h (fnf_code _ _ _ _ h1)
end Go.Proofs.YtpiaeapgjljjhaaGreat
