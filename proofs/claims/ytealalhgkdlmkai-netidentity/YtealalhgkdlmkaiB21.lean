/- Texts of one proof, one behind the other: NTA, NTB, NTC. -/
import Derived.Test.YtealalhgkdlmkaiB20
import Derived.Maps.OwnOps
/- Walks: all links are laid: linkAll. -/
namespace Go.Proofs.Ytealalhgkdlmkai
open Go.RowKit Go.Sort

inductive LkR where
  | bad (c : Int) (a : Nat)
  | ok (mu : Nat → Option Nat) (c : Nat)
def muLink (mu : Nat → Option Nat) (p : Int × Int) : Nat → Option Nat := muPut (muPut mu p.1.toNat p.2.toNat) p.2.toNat p.1.toNat
def lkAll (nds : List Nd) (lvs : List Nat) : List (Int × Int) → Nat → (Nat → Option Nat) → Nat → LkR
  | [], _, mu, c => .ok mu c
  | p :: ps, i, mu, c => match lkBad nds lvs mu p with
    | some e => .bad e i
    | none => lkAll nds lvs ps (i + 1) (muLink mu p) (c + 2)
def firstFree (mu : Nat → Option Nat) (L : Nat) : Option Nat := (List.range L).find? fun j => !(mu j).isSome
/-- What linkAll says. -/
def linkC (nds : List Nd) (lvs : List Nat) (ax : List (Int × Int)) : LkR := if lvs.length < ax.length then .bad 2 0 else match lkAll nds lvs ax 0 (fun _ => none) 0 with
  | .bad c a => .bad c a
  | .ok mu c => match firstFree mu lvs.length with
    | some j => .bad 9 j
    | none => .ok mu c
def LAPost (bm : Nat) : LkR → Ending → World → Prop
  | .ok mu c, e, w' => e = .returned (.tuple #[]) ∧ MtM w' bm mu c
  | .bad c a, e, _ => e = .panicked (stopC c (a : Int))
theorem lkAll_drop {nds : List Nd} {lvs : List Nat} {ax : List (Int × Int)} {i : Nat} {p : Int × Int} (h : ax[i]? = some p) (mu : Nat → Option Nat) (c : Nat) : lkAll nds lvs (ax.drop i) i mu c = match lkBad nds lvs mu p with | some e => .bad e i | none => lkAll nds lvs (ax.drop (i + 1)) (i + 1) (muLink mu p) (c + 2) := by
  have hi := (List.getElem?_eq_some_iff.1 h).1; rw [List.drop_eq_getElem_cons hi, lkAll]; rw [List.getElem?_eq_getElem hi] at h; rw [Option.some.inj h]
theorem lkBad_none {nds : List Nd} {lvs : List Nat} {mu : Nat → Option Nat} {x y : Int} (h : lkBad nds lvs mu (x, y) = none) : ∃ a b : Nat, x = (a : Int) ∧ y = (b : Int) ∧ a < lvs.length ∧ b < lvs.length ∧ a ≠ b ∧ mu a = none ∧ mu b = none ∧ ∃ (na nb : Nat) (u v : Nd), lvs[a]? = some na ∧ lvs[b]? = some nb ∧ nds[na]? = some u ∧ nds[nb]? = some v ∧ fitB u v = true := by
  unfold lkBad at h; simp only at h
  split at h
  · cases h
  rename_i h1
  split at h
  · cases h
  rename_i h2
  obtain ⟨a, rfl, ha, hma⟩ := okL_none h1; obtain ⟨b, rfl, hb, hmb⟩ := okL_none h2; obtain ⟨na, hna⟩ : ∃ n, lvs[a]? = some n := ⟨_, List.getElem?_eq_getElem ha⟩; obtain ⟨nb, hnb⟩ : ∃ n, lvs[b]? = some n := ⟨_, List.getElem?_eq_getElem hb⟩; simp only [Int.toNat_natCast, hna, hnb] at h
  cases hu : nds[na]? with
  | none => simp [hu] at h
  | some u =>
    cases hv : nds[nb]? with
    | none => simp [hu, hv] at h
    | some v =>
      simp only [hu, hv] at h
      have h3 : fitB u v = true := by
        cases hf : fitB u v with
        | true => rfl
        | false => rw [hf] at h; simp at h
      (refine ⟨a, b, rfl, rfl, ha, hb, fun e => ?_, hma, hmb, na, nb, u, v, hna, hnb, hu, hv, h3⟩); subst e; rw [hna] at hnb
      cases hnb
      rw [hu] at hv
      cases hv
      simp [fitB] at h3
theorem kept_cellM {w w' : World} {bm c : Nat} {mu : Nat → Option Nat} (h : MtM w bm mu c) (hk : Kept (fun b => b ≠ bm) w w') {a : Addr} {v : Value} (hc : w.cell? a = some v) : w'.cell? a = some v := by
  have hne : a.block ≠ bm := fun e => by
    obtain ⟨n, D, ⟨es, clock, hb, r⟩, r2⟩ := h; rw [← e] at hb; simp [World.cell?, hb] at hc
  exact (cell_of_block (hk.block _ (lt_of_cell hc) hne)).trans hc
theorem PlanA.keptM {w w' : World} {T : Nat → Prop} {bp bm : Nat} {rv : Value} {nds : List Nd} {lvs : List Nat} (h : PlanA w T bp rv nds lvs) (hT : ¬ T bm) (hk : Kept (fun b => b ≠ bm) w w') : PlanA w' T bp rv nds lvs :=
  h.move (fun b hb hlt => hk.block b hlt fun e => hT (e ▸ hb)) (fun _ h => h)
theorem firstFree_some {mu : Nat → Option Nat} {L i : Nat} (hi : i < L) (hn : (mu i).isSome = false) (hb : ∀ j, j < i → (mu j).isSome = true) : firstFree mu L = some i := by
  unfold firstFree; rw [List.find?_range_eq_some]; (refine ⟨by simp [hn], by simpa using hi, fun j hj => by simp [hb j hj]⟩)
theorem firstFree_none {mu : Nat → Option Nat} {L : Nat} (hb : ∀ j, j < L → (mu j).isSome = true) : firstFree mu L = none := by
  unfold firstFree; rw [List.find?_eq_none]; intro j hj; simp [hb j (List.mem_range.1 hj)]
set_option maxRecDepth 10000 in
set_option maxHeartbeats 8000000 in
theorem linkAll_any {T : Nat → Prop} {bp bm : Nat} {rv : Value} {nds : List Nd} {lvs : List Nat} (hLv : LvIn nds lvs) (hl : lvs.length ≤ 200) (hT : ¬ T bm) (ax : List (Int × Int)) (v : Value) (w : World) (hv : PL w v ax) (hp : PlanA w T bp rv nds lvs) (hm : MtM w bm (fun _ => none) 0) :
    Calls Try.prog 60 #[nwV bp bm, v] w fun e w' => LAPost bm (linkC nds lvs ax) e w' ∧ Kept (fun b => b ≠ bm) w w' := by
  obtain ⟨ad, cap, rfl, hx2, hx3, hx4⟩ := hv; have HP : Hid (PlanA w T bp rv nds lvs) := hp; (have HMt : Hid (MtM w bm (fun _ => none) 0) := hm); have HLl : Hid (lvs.length ≤ 200) := hl; have HLv : Hid (LvIn nds lvs) := hLv; have HTb : Hid (¬ T bm) := hT; have HAx : Hid (ax ≠ [] → ∃ b off, ad = some ⟨b, off, none⟩ ∧ ∀ (j : Nat) (x y : Int), ax[j]? = some (x, y) → w.cell? ⟨b, off + j * 2, none⟩ = some (.int .i64 x) ∧ w.cell? ⟨b, off + j * 2 + 1, none⟩ = some (.int .i64 y)) := hx4; (have hlI : (lvs.length : Int) ≤ 200 := by omega); (have hcapI : (ax.length : Int) ≤ (cap : Int) := by omega); (have hcap2 : (cap : Int) ≤ 9223372036854775807 := by unfold maxLen at hx3; omega); obtain ⟨an, cn, al, cl, h0, h1, h2, hcn, hcl, -⟩ := hp.read; have HC2 : Hid (w.cell? ⟨bp, 2, none⟩ = some (.slice al lvs.length cl)) := h2; unfold nwV; obtain ⟨W, hW⟩ : ∃ W, W = w.alloc (.cells #[.pointer (some ⟨bp, 0, none⟩), .map (some bm)] 65 (0, 0)) := ⟨_, rfl⟩; (have hbW : Below w.heap.size w W := by rw [hW]; exact below_more (Below.refl _ w) _); (have HKW : Hid (Kept (fun b => b ≠ bm) w W) := kept_of_below hbW (fun _ h _ => h)); (have HX1 : Hid (W.heap[w.heap.size]? = some (.cells #[.pointer (some ⟨bp, 0, none⟩), .map (some bm)] 65 (0, 0))) := by rw [hW]; exact blk_new _ _); (have HBne : Hid (w.heap.size ≠ bm) := by have := hm.lt; show _ ≠ _; omega); (have HMW : Hid (MtM W bm (fun _ => none) 0) := hm.up hbW); obtain ⟨q0, q1, -⟩ := blk2 HX1.out; have c2 := kept_cellM HMt.out HKW.out HC2.out; have hWe := hW.symm; clear hW hbW hp hm h0 h1 h2 hcn hcl hl hLv hT hx2 hx3 hx4; by_cases hmany : lvs.length < ax.length
  · have HC : Hid (linkC nds lvs ax = .bad 2 0) := by show _ = _; rw [linkC, if_pos hmany]
    (have hmI : (lvs.length : Int) < (ax.length : Int) := by omega)
    go_enter Try.func60, Try.ntmps60
    go_wp2_with (first
      | (go_at_call 57; refine (stop_any _ _ _).mono ?_; rintro e w4 ⟨rfl, rfl⟩)
      | fail)
    refine ⟨rfl, ?_, HKW.out⟩; rw [HC.out]; rfl
  (have hmI : ¬ (lvs.length : Int) < (ax.length : Int) := by omega); (have haI : (ax.length : Int) ≤ 200 := by omega); (have HAl : Hid (ax.length ≤ 200) := by show _ ≤ _; have := HLl.out; omega)
  have HC : Hid (linkC nds lvs ax = match lkAll nds lvs ax 0 (fun _ => none) 0 with
    | .bad c a => .bad c a
    | .ok mu c => match firstFree mu lvs.length with
      | some j => .bad 9 j
      | none => .ok mu c) := by show _ = _; rw [linkC, if_neg hmany]
  clear hmany
  go_enter Try.func60, Try.ntmps60
  go_wp2_with fail; clear hWe q0 q1 c2
  go_loopg [19] ax.length (fun gg cc wr => ∃ i mu c, i ≤ ax.length ∧ gg = ax.length - i ∧ cc = .int .i64 (i : Nat) ∧ Hid (c ≤ 2 * i) ∧ Hid (lkAll nds lvs (ax.drop i) i mu c = lkAll nds lvs ax 0 (fun _ => none) 0) ∧ Hid (MtM wr bm mu c) ∧ Hid (Kept (fun b => b ≠ bm) W wr))
  case atStart => exact ⟨0, fun _ => none, 0, by omega, by omega, rfl, Nat.le_refl _, by show _ = _; rw [List.drop_zero], HMW, Kept.refl _ _⟩
  case round =>
    obtain ⟨i, mu, c, hi, hg, rfl, HCn, HE, HMq, HK⟩ := hrel; have HGk : Hid (gk = ax.length - i) := hg; clear hg; obtain ⟨V, hV⟩ : ∃ V, V = wr := ⟨_, rfl⟩; subst hV; (have HKw : Hid (Kept (fun b => b ≠ bm) w V) := HKW.out.trans HK.out); have hbx := (HK.out.block _ (lt_of_block HX1.out) HBne.out).trans HX1.out; by_cases hlt : i < ax.length
    · obtain ⟨⟨x, y⟩, hxy⟩ : ∃ p, ax[i]? = some p := ⟨_, List.getElem?_eq_getElem hlt⟩
      (obtain ⟨b9, o9, rfl, hcc⟩ := HAx.out (fun e => by rw [e] at hlt; simp at hlt)); obtain ⟨y0, y1⟩ := hcc i x y hxy; have x0 := kept_cellM HMt.out HKw.out y0; have x1 := kept_cellM HMt.out HKw.out y1; (have hltI : (i : Int) < (ax.length : Int) := by omega); have HI : Hid (i < ax.length) := hlt; have hds := HE.out; rw [lkAll_drop hxy] at hds; obtain ⟨V1, hV1⟩ : ∃ V1, V1 = V.alloc (.cells #[.int .i64 x, .int .i64 y] 57 (0, 0)) := ⟨_, rfl⟩; (have hbV : Below V.heap.size V V1 := by rw [hV1]; exact below_more (Below.refl _ _) _); (have HV1 : Hid (V1.heap[V.heap.size]? = some (.cells #[.int .i64 x, .int .i64 y] 57 (0, 0))) := by rw [hV1]; exact blk_new _ _); (have HK1 : Hid (Kept (fun b => b ≠ bm) W V1) := HK.out.trans (kept_of_below hbV (fun _ h _ => h))); have HM1 : Hid (MtM V1 bm mu c) := HMq.out.up hbV; have HP1 : Hid (PlanA V1 T bp rv nds lvs) := HP.out.keptM HTb.out (HKW.out.trans HK1.out); have HX9 : Hid (V1.heap[w.heap.size]? = some (.cells #[.pointer (some ⟨bp, 0, none⟩), .map (some bm)] 65 (0, 0))) := below_keep hbV hbx; have HCk : Hid (Calls Try.prog 87 #[.agg #[.pointer (some ⟨bp, 0, none⟩), .map (some bm)], .agg #[.int .i64 x, .int .i64 y], .int .i64 (i : Nat)] V1 _) := checkLink_any HLv.out HLl.out x y (i : Nat) V1 HP1.out HM1.out; obtain ⟨m0, m1, -⟩ := blk2 HV1.out; obtain ⟨n0, n1, -⟩ := blk2 HX9.out; have hVe := hV1.symm; clear hV1 hbV hbx hxy hcc y0 y1 hlt hi HE
      rcases hlb : lkBad nds lvs mu (x, y) with _ | e9
      · rw [hlb] at hds HCk
        simp only at hds; (have HD : Hid (lkAll nds lvs (ax.drop (i + 1)) (i + 1) (muLink mu (x, y)) (c + 2) = lkAll nds lvs ax 0 (fun _ => none) 0) := hds); obtain ⟨ka, kb, rfl, rfl, hka, hkb, hab, hma, hmb, -⟩ := lkBad_none hlb; (have HLk : Hid (∀ U, MtM U bm mu c → Calls Try.prog 80 #[.agg #[.pointer (some ⟨bp, 0, none⟩), .map (some bm)], .int .i64 (ka : Nat), .int .i64 (kb : Nat)] U fun e w' => e = .returned (.tuple #[]) ∧ MtM w' bm (muPut (muPut mu ka kb) kb ka) (c + 2) ∧ Kept (fun x => x ≠ bm) U w') := fun U hU => link_any (by have := HCn.out; have := HI.out; have := HAl.out; omega) (by have := HLl.out; omega) (by have := HLl.out; omega) hab hma hmb U hU); clear hds hlb hka hkb hab hma hmb; go_wp2_with fail; refine HCk.out.mono ?_; rintro _ V2 ⟨rfl, hb2⟩; have HX8 : Hid (V2.heap[w.heap.size]? = some (.cells #[.pointer (some ⟨bp, 0, none⟩), .map (some bm)] 65 (0, 0))) := below_keep hb2 HX9.out; have HV2 : Hid (V2.heap[V.heap.size]? = some (.cells #[.int .i64 (ka : Nat), .int .i64 (kb : Nat)] 57 (0, 0))) := below_keep hb2 HV1.out; have HM2 : Hid (MtM V2 bm mu c) := HM1.out.up hb2; (have HK2 : Hid (Kept (fun b => b ≠ bm) W V2) := HK1.out.trans (kept_of_below hb2 (fun _ h _ => h))); clear hVe m0 m1 n0 n1 hb2; obtain ⟨m0, m1, -⟩ := blk2 HV2.out; obtain ⟨n0, n1, -⟩ := blk2 HX8.out; go_wp2_with fail; refine (HLk.out _ HM2.out).mono ?_; rintro _ V3 ⟨rfl, hm3, hk3⟩; have HM3 : Hid (MtM V3 bm (muLink mu ((ka : Int), (kb : Int))) (c + 2)) := hm3; (have HK3 : Hid (Kept (fun b => b ≠ bm) W V3) := HK2.out.trans hk3); clear hm3 hk3 m0 m1 n0 n1; go_wp2_with fail
        go_roundg (ax.length - (i + 1))
        case measure => have := HGk.out; have := HI.out; omega
        case rel => exact ⟨i + 1, _, c + 2, HI.out, rfl, by go_num, by show _ ≤ _; have := HCn.out; omega, HD, HM3, HK3⟩
      · rw [hlb] at hds HCk
        simp only at hds; (have HD : Hid (linkC nds lvs ax = .bad e9 i) := by show _ = _; rw [HC.out, ← hds]); clear hds hlb; go_wp2_with fail; refine HCk.out.mono ?_; rintro _ V2 ⟨rfl, hb2⟩; (have HK2 : Hid (Kept (fun b => b ≠ bm) W V2) := HK1.out.trans (kept_of_below hb2 (fun _ h _ => h))); go_wp2_with fail; refine ⟨rfl, ?_, HKW.out.trans HK2.out⟩; rw [HD.out]; rfl
    · have hii : ax.length = i := by omega
      subst hii; (have hge : ¬ (ax.length : Int) < (ax.length : Int) := by omega); have hE := HE.out; rw [List.drop_length, lkAll] at hE; (have HC9 : Hid (linkC nds lvs ax = match firstFree mu lvs.length with | some j => .bad 9 j | none => .ok mu c) := by show _ = _; rw [HC.out, ← hE]); obtain ⟨n0, n1, -⟩ := blk2 hbx; have HbX : Hid (V.heap[w.heap.size]? = some (.cells #[.pointer (some ⟨bp, 0, none⟩), .map (some bm)] 65 (0, 0))) := hbx; have c2 := kept_cellM HMt.out HKw.out HC2.out; clear hlt hi hE hbx HE HC; go_wp2_with fail; clear n0 n1 c2
      go_loopg [41] lvs.length (fun gg cc wr => ∃ i, i ≤ lvs.length ∧ gg = lvs.length - i ∧ cc = .int .i64 (i : Nat) ∧ Hid (∀ j, j < i → (mu j).isSome = true) ∧ Hid (Below V.heap.size V wr))
      case atStart => exact ⟨0, by omega, by omega, rfl, fun j hj => absurd hj (Nat.not_lt_zero _), Below.refl _ _⟩
      case round =>
        obtain ⟨i, hi, hg, rfl, HA, HB⟩ := hrel; have HGk : Hid (gk = lvs.length - i) := hg; clear hg; (have HKr : Hid (Kept (fun b => b ≠ bm) w wr) := HKw.out.trans (kept_of_below HB.out (fun _ h _ => h))); obtain ⟨n0, n1, -⟩ := blk2 (below_keep HB.out HbX.out); by_cases hlt : i < lvs.length
        · have hltI : (i : Int) < (lvs.length : Int) := by omega
          have HI : Hid (i < lvs.length) := hlt; (have HLk : Hid (Calls Try.prog 78 #[.agg #[.pointer (some ⟨bp, 0, none⟩), .map (some bm)], .int .i64 (i : Nat)] wr _) := isLinked_any (by have := HLl.out; omega) wr (HMq.out.up HB.out))
          rcases hmk : (mu i).isSome with _ | _
          · rw [hmk] at HLk
            (have HF : Hid (linkC nds lvs ax = .bad 9 i) := by show _ = _; rw [HC9.out, firstFree_some hlt hmk HA.out]); clear hlt hi hmk
            go_wp2_with (first
              | (go_at_call 78; refine HLk.out.mono ?_; rintro e w5 ⟨rfl, hb5⟩)
              | (go_at_call 57; refine (stop_any _ _ _).mono ?_; rintro e w4 ⟨rfl, rfl⟩)
              | fail)
            (refine ⟨rfl, ?_, HKr.out.trans (kept_of_below hb5 (fun _ h _ => h))⟩); rw [HF.out]; rfl
          · rw [hmk] at HLk
            have HA2 : Hid (∀ j, j < i + 1 → (mu j).isSome = true) := fun j hj => by
              rcases Nat.lt_or_ge j i with h | h
              · exact HA.out j h
              · rw [show j = i by omega]; exact hmk
            clear hlt hi hmk
            go_wp2_with (first
              | (go_at_call 78; refine HLk.out.mono ?_; rintro e w5 ⟨rfl, hb5⟩)
              | fail)
            go_roundg (lvs.length - (i + 1))
            case measure => have := HGk.out; have := HI.out; omega
            case rel => exact ⟨i + 1, HI.out, rfl, by go_num, HA2, below_join HB.out hb5⟩
        · have hii : lvs.length = i := by omega
          subst hii; (have hge : ¬ (lvs.length : Int) < (lvs.length : Int) := by omega); (have HF : Hid (linkC nds lvs ax = .ok mu c) := by show _ = _; rw [HC9.out, firstFree_none HA.out]); clear hlt hi; go_wp2_with fail
          go_end0
          refine ⟨?_, HKr.out⟩; rw [HF.out]; exact ⟨rfl, HMq.out.up HB.out⟩
end Go.Proofs.Ytealalhgkdlmkai
/- Walks: networkOf and what it hands to Caught. -/
namespace Go.Proofs.Ytealalhgkdlmkai
open Go.RowKit Go.Sort Go.Maps Go.WideMaps

mutual
theorem lvsF_in : ∀ (f : Lm) (s : Nat), ∀ a ∈ lvsF f s, s ≤ a ∧ a < s + f.size
  | .mk k n g ks, s, a, h => by
    rw [lvsF] at h; rw [Lm.size]
    rcases List.mem_append.1 h with h | h
    · split at h
      · simp at h; omega
      · cases h
    · have := lvsL_in ks (s + 1) a h
      omega
theorem lvsL_in : ∀ (fs : List Lm) (s : Nat), ∀ a ∈ lvsL fs s, s ≤ a ∧ a < s + Lm.sizes fs
  | [], s, a, h => by rw [lvsL] at h; cases h
  | f :: fs, s, a, h => by
    rw [lvsL] at h; rw [Lm.sizes]
    rcases List.mem_append.1 h with h | h
    · have := lvsF_in f s a h
      omega
    · have := lvsL_in fs (s + f.size) a h
      omega
end
theorem lvIn_plan (l : List Lm) : LvIn (ndsL l 0) (lvsL l 0) := fun j a h => by
  rw [ndsL_len]; have := lvsL_in l 0 a (List.mem_of_getElem? h); omega
/-- What networkOf says: a fault, or the mates. -/
def netC (l : List Lm) (ax : List (Int × Int)) : LkR := match lcodeC l with
  | .bad c a => .bad c a
  | .ok _ => linkC (ndsL l 0) (lvsL l 0) ax
/-- A net of formulas in memory. -/
def NetAt (w : World) (bp bm : Nat) (l : List Lm) (mu : Nat → Option Nat) (c : Nat) : Prop := ∃ T ar cr, PlanA w T bp (.slice ar l.length cr) (ndsL l 0) (lvsL l 0) ∧ ¬ T bm ∧ OwnN 0 w ar cr (rtsL l 0) ∧ MtM w bm mu c
theorem NetAt.up {w w' : World} {bp bm c : Nat} {l : List Lm} {mu : Nat → Option Nat} (h : NetAt w bp bm l mu c) (hb : Below w.heap.size w w') : NetAt w' bp bm l mu c := by
  obtain ⟨T, ar, cr, h1, h2, h3, h4⟩ := h; exact ⟨T, ar, cr, h1.up hb, h2, rowM_up h3 hb, h4.up hb⟩
def NCPost (bn : Nat) (l : List Lm) : LkR → Ending → World → Prop
  | .ok mu c, e, w' => e = .returned (.tuple #[]) ∧ ∃ bp bm, w'.heap[bn]? = some (.cells #[.pointer (some ⟨bp, 0, none⟩), .map (some bm)] 65 (0, 0)) ∧ NetAt w' bp bm l mu c
  | .bad c a, e, w' => e = .panicked (stopC c (a : Int)) ∧ ∃ (pu : Option Addr) (pv : Option Nat), w'.heap[bn]? = some (.cells #[.pointer pu, .map pv] 65 (0, 0))
theorem set2N {w : World} {b : Nat} {x0 x1 : Value} {T : TypeId} (h : w.heap[b]? = some (.cells #[x0, x1] T (0, 0))) (u v : Value) : ((w.setCell ⟨b, 0, none⟩ u).setCell ⟨b, 1, none⟩ v).heap[b]? = some (.cells #[u, v] T (0, 0)) := by
  simp [World.setCell, Array.getElem?_modify, h]
set_option maxRecDepth 10000 in
set_option maxHeartbeats 4000000 in
theorem nclo_any (l : List Lm) (ax : List (Int × Int)) (vl va : Value) (bl bn ba : Nat) (w : World) (hl : LL w vl l) (ha : PL w va ax) (hbl : w.heap[bl]? = some (.cells #[vl] 22 (0, 0))) (hba : w.heap[ba]? = some (.cells #[va] 23 (0, 0))) (hbn : w.heap[bn]? = some (.cells #[.pointer none, .map none] 65 (0, 0))) :
    Calls Try.prog 59 #[.pointer (some ⟨bl, 0, none⟩), .pointer (some ⟨bn, 0, none⟩), .pointer (some ⟨ba, 0, none⟩)] w fun e w' => NCPost bn l (netC l ax) e w' ∧ Kept (fun b => b ≠ bn) w w' := by
  (have HCk : Hid (∀ W, LL W vl l → Calls Try.prog 36 #[vl] W fun e w' => CLPost (lcodeC l) e ∧ Below W.heap.size W w') := fun W h => checkList_any l vl W h); have HLl : Hid (LL w vl l) := hl; have HAx : Hid (PL w va ax) := ha; have HBl : Hid (w.heap[bl]? = some (.cells #[vl] 22 (0, 0))) := hbl; have HBa : Hid (w.heap[ba]? = some (.cells #[va] 23 (0, 0))) := hba; have HBn : Hid (w.heap[bn]? = some (.cells #[.pointer none, .map none] 65 (0, 0))) := hbn; (have HNe : Hid (ba ≠ bn) := fun e => by rw [e, hbn] at hba; simp only [Option.some.injEq, Obj.cells.injEq] at hba; exact absurd hba.2.1 (by decide)); have f0 : w.cell? ⟨bl, 0, none⟩ = some vl := blk_cell hbl 0; obtain ⟨sl, cap, hvl, -⟩ := hl; obtain ⟨asl, acap, hva, -⟩ := ha
  rcases hcode : lcodeC l with s | ⟨c, a⟩
  case bad =>
    (have HN : Hid (netC l ax = .bad c a) := by show _ = _; rw [netC, hcode]); rw [hcode] at HCk; subst hvl; subst hva; clear hcode hbl hba hbn
    go_enter Try.func59, Try.ntmps59
    go_wp2_with fail; refine (HCk.out _ HLl.out).mono ?_; rintro _ w1 ⟨rfl, hb1⟩; go_wp2_with fail; (refine ⟨rfl, ?_, kept_of_below hb1 (fun _ h _ => h)⟩); rw [HN.out]; exact ⟨rfl, _, _, below_keep hb1 HBn.out⟩
  case ok =>
    obtain ⟨g1, g2, g3, g4, -⟩ := lcodeC_ok hcode; (have HN : Hid (netC l ax = linkC (ndsL l 0) (lvsL l 0) ax) := by show _ = _; rw [netC, hcode]); (have HPl : Hid (∀ W, LL W vl l → Calls Try.prog 46 #[vl] W _) := fun W h => planOf_any l g3 g2 g4 vl W h); (have HLa : Hid (∀ (T : Nat → Prop) (bp bm : Nat) (rv : Value) W, ¬ T bm → PL W va ax → PlanA W T bp rv (ndsL l 0) (lvsL l 0) → MtM W bm (fun _ => none) 0 → Calls Try.prog 60 #[.agg #[.pointer (some ⟨bp, 0, none⟩), .map (some bm)], va] W fun e w' => LAPost bm (linkC (ndsL l 0) (lvsL l 0) ax) e w' ∧ Kept (fun b => b ≠ bm) W w') := fun T bp bm rv W h1 h2 h3 h4 => linkAll_any (lvIn_plan l) (by have := lvsL_len l 0; omega) h1 ax va W h2 h3 h4); rw [hcode] at HCk; subst hvl; subst hva; clear hcode hbl hba hbn g1 g2 g3 g4
    go_enter Try.func59, Try.ntmps59
    go_wp2_with fail; refine (HCk.out _ HLl.out).mono ?_; rintro _ w1 ⟨rfl, hb1⟩; have HB1 : Hid (Below w.heap.size w w1) := hb1; have f1 : w1.cell? ⟨bl, 0, none⟩ = some (.slice sl l.length cap) := blk_cell (below_keep hb1 HBl.out) 0; clear hb1 f0; go_wp2_with fail; refine (HPl.out _ (HLl.out.up HB1.out)).mono ?_; rintro _ w2 ⟨T, ar, cr, rfl, hpl, hrt, hT, hb2⟩; have HP2 : Hid (PlanA w2 T w1.heap.size (.slice ar l.length cr) (ndsL l 0) (lvsL l 0)) := hpl; have HR2 : Hid (OwnN w1.heap.size w2 ar cr (rtsL l 0)) := hrt; have HT2 : Hid (∀ b, T b → w1.heap.size ≤ b ∧ b < w2.heap.size) := hT; have HB2 : Hid (Below w1.heap.size w1 w2) := hb2; obtain ⟨w3, hw3⟩ : ∃ w3, w3 = w2.alloc (.map #[] 0) := ⟨_, rfl⟩; (have hb3 : Below w2.heap.size w2 w3 := by rw [hw3]; exact below_more (Below.refl _ _) _); (have HM3 : Hid (MtM w3 w2.heap.size (fun _ => none) 0) := by rw [hw3]; exact MtM.nil); have HBn3 : Hid (w3.heap[bn]? = some (.cells #[.pointer none, .map none] 65 (0, 0))) := below_keep hb3 (below_keep HB2.out (below_keep HB1.out HBn.out)); have HP3 : Hid (PlanA w3 T w1.heap.size (.slice ar l.length cr) (ndsL l 0) (lvsL l 0)) := HP2.out.up hb3; have HB3 : Hid (Below w.heap.size w w3) := below_join HB1.out (below_join HB2.out hb3); have HR3 : Hid (OwnN w1.heap.size w3 ar cr (rtsL l 0)) := rowM_up HR2.out hb3; (have HTm : Hid (¬ T w2.heap.size) := fun h => by have := HT2.out w2.heap.size h; omega); have hlt1 : bn < w1.heap.size := lt_of_block (below_keep HB1.out HBn.out); (have HnT : Hid (¬ T bn ∧ bn < w1.heap.size) := ⟨fun h => by have := HT2.out bn h; omega, hlt1⟩); (have HNm : Hid (bn ≠ w2.heap.size) := by show _ ≠ _; have := HB2.out.size; omega); clear hpl hrt hT hb2 hb3 f1 HP2 HR2 hlt1; obtain ⟨n0, n1, n2, n3⟩ := blk2 HBn3.out; obtain ⟨w4, hw4⟩ : ∃ w4, w4 = (w3.setCell ⟨bn, 0, none⟩ (.pointer (some ⟨w1.heap.size, 0, none⟩))).setCell ⟨bn, 1, none⟩ (.map (some w2.heap.size)) := ⟨_, rfl⟩; (have hfar : ∀ q, q ≠ bn → w4.heap[q]? = w3.heap[q]? := fun q hq => by rw [hw4, farM hq, farM hq]); (have HK4 : Hid (Kept (fun b => b ≠ bn) w3 w4) := by rw [hw4]; exact ((Kept.refl _ _).setCell (fun _ hn => hn rfl) _).setCell (fun _ hn => hn rfl) _); (have HP4 : Hid (PlanA w4 T w1.heap.size (.slice ar l.length cr) (ndsL l 0) (lvsL l 0)) := HP3.out.move (fun b hb _ => hfar b fun e => HnT.out.1 (e ▸ hb)) (fun _ h => h)); (have HM4 : Hid (MtM w4 w2.heap.size (fun _ => none) 0) := HM3.out.same (hfar _ (Ne.symm HNm.out))); (have HBn4 : Hid (w4.heap[bn]? = some (.cells #[.pointer (some ⟨w1.heap.size, 0, none⟩), .map (some w2.heap.size)] 65 (0, 0))) := by rw [hw4]; exact set2N HBn3.out _ _); (have HKw : Hid (Kept (fun b => b ≠ bn) w w4) := (kept_of_below HB3.out (fun _ h _ => h)).trans HK4.out); (have HR4 : Hid (OwnN w1.heap.size w4 ar cr (rtsL l 0)) := rowM_move HR3.out fun g cur e hg => hfar g fun e2 => by have := (HR3.out.lt g e).1; have := HnT.out.2; omega); have HBa4 : Hid (w4.heap[ba]? = some (.cells #[.slice asl ax.length acap] 23 (0, 0))) := (HKw.out.block ba (lt_of_block HBa.out) HNe.out).trans HBa.out
    have HA4 : Hid (PL w4 (.slice asl ax.length acap) ax) := by
      obtain ⟨ad, cp, e, h1, h2, h3⟩ := HAx.out; (refine ⟨ad, cp, e, h1, h2, fun hne => ?_⟩); obtain ⟨b, off, e2, h4⟩ := h3 hne; (refine ⟨b, off, e2, fun j x y hxy => ?_⟩); obtain ⟨c1, c2⟩ := h4 j x y hxy
      have key : ∀ (o : Nat) (z : Int), w.cell? ⟨b, o, none⟩ = some (.int .i64 z) → w4.cell? ⟨b, o, none⟩ = some (.int .i64 z) := fun o z hz => by
        have hne2 : b ≠ bn := fun e3 => by
          rw [e3, blk_cell HBn.out] at hz
          rcases o with _ | _ | o
          · cases hz
          · cases hz
          · simp at hz
        exact (cell_of_block (a := ⟨b, o, none⟩) (HKw.out.block b (lt_of_cell hz) hne2)).trans hz
      exact ⟨key _ _ c1, key _ _ c2⟩
    have f4 : w4.cell? ⟨ba, 0, none⟩ = some (.slice asl ax.length acap) := blk_cell HBa4.out 0; obtain ⟨m0, m1, -⟩ := blk2 HBn4.out; have hw3e := hw3.symm; have hw4e := hw4.symm; clear hw3 hw4 hfar; have hmm := @run_makeMap Try.prog; go_wp2_with fail; refine (HLa.out T _ _ _ _ HTm.out HA4.out HP4.out HM4.out).mono ?_; rintro _ w5 ⟨hla, hk5⟩; (have HK5 : Hid (Kept (fun b => b ≠ w2.heap.size) w4 w5) := hk5); have HB5 : Hid (w5.heap[bn]? = some (.cells #[.pointer (some ⟨w1.heap.size, 0, none⟩), .map (some w2.heap.size)] 65 (0, 0))) := (hk5.block _ (lt_of_block HBn4.out) HNm.out).trans HBn4.out
    have HKe : Hid (Kept (fun b => b ≠ bn) w w5) := by
      have h1 := HKw.out; have h2 := HB1.out.size; have h3 := HB2.out.size; (exact ⟨hk5.os.trans h1.os, hk5.tape.trans h1.tape, hk5.output.trans h1.output, Nat.le_trans h1.size hk5.size, fun k hk hok => (hk5.block k (Nat.lt_of_lt_of_le hk h1.size) (by omega)).trans (h1.block k hk hok)⟩)
    rcases hlk : linkC (ndsL l 0) (lvsL l 0) ax with ⟨c9, a9⟩ | ⟨mu, c9⟩
    · rw [hlk] at hla HN
      obtain rfl := hla; clear hlk; go_wp2_with fail; refine ⟨rfl, ?_, HKe.out⟩; rw [HN.out]; exact ⟨rfl, _, _, HB5.out⟩
    · rw [hlk] at hla HN
      obtain ⟨rfl, hm5⟩ := hla; have HM5 : Hid (MtM w5 w2.heap.size mu c9) := hm5; clear hlk hm5 m0 m1 f4 hw3e hw4e; go_wp2_with fail
      go_end0
      refine ⟨?_, HKe.out⟩; rw [HN.out]; have hP5 : PlanA w5 T w1.heap.size (.slice ar l.length cr) (ndsL l 0) (lvsL l 0) := HP4.out.keptM HTm.out HK5.out; (refine ⟨rfl, _, _, HB5.out, T, ar, cr, hP5, HTm.out, rowM_low (rowM_move HR4.out fun g cur e hg => HK5.out.block g (lt_of_block hg) fun e2 => ?_) (Nat.zero_le _), HM5.out⟩); exact MtM.noCells HM4.out _ _ _ (e2 ▸ hg)
end Go.Proofs.Ytealalhgkdlmkai
/- Walks: networkOf. -/
namespace Go.Proofs.Ytealalhgkdlmkai
open Go.RowKit Go.Sort Go.Maps Go.WideMaps

theorem nclo_in (cap : Array Value) (w : World) : (callFunc 59 cap).run Try.prog w = .ok (.enter 59 cap) w := by
  simp [go_sem]
/-- What networkOf answers. -/
def NWPost (l : List Lm) : LkR → Ending → World → Prop
  | .ok mu c, e, w' => ∃ bp bm, e = .returned (.tuple #[.agg #[.pointer (some ⟨bp, 0, none⟩), .map (some bm)], .agg #[.int .i64 0, .int .i64 0]]) ∧ NetAt w' bp bm l mu c
  | .bad c a, e, _ => ∃ (u : Option Addr) (v : Option Nat), e = .returned (.tuple #[.agg #[.pointer u, .map v], .agg #[.int .i64 c, .int .i64 (a : Int)]])
theorem NetAt.keepB {w w' : World} {bp bm c : Nat} {l : List Lm} {mu : Nat → Option Nat} (h : NetAt w bp bm l mu c) (hk : ∀ (b : Nat) (cs : Array Value) (T : TypeId), w.heap[b]? = some (.cells cs T (0, 0)) → T ≠ 65 → T ≠ 28 → w'.heap[b]? = w.heap[b]?) (hm : ∀ (b : Nat) (es : Array MapEntry) (clock : Nat), w.heap[b]? = some (.map es clock) → w'.heap[b]? = w.heap[b]?) : NetAt w' bp bm l mu c := by
  obtain ⟨T, ar, cr, ⟨an, cn, al, cl, h1, h2, h3, h4, h5, h6⟩, hT, h8, h9⟩ := h; (refine ⟨T, ar, cr, ⟨an, cn, al, cl, (hk _ _ _ h1 (by decide) (by decide)).trans h1, rowM_move h2 fun g cur _ hg => hk g cur _ hg (by decide) (by decide), rowM_move h3 fun g cur _ hg => hk g cur _ hg (by decide) (by decide), h4, h5, h6⟩, hT, rowM_move h8 fun g cur _ hg => hk g cur _ hg (by decide) (by decide), ?_⟩); obtain ⟨n, D, ⟨es, clock, hb, r⟩, r2⟩ := h9; exact ⟨n, D, ⟨es, clock, (hm _ _ _ hb).trans hb, r⟩, r2⟩
theorem four_new {w : World} {o0 o1 o2 o3 o4 : Obj} : (((((w.alloc o0).alloc o1).alloc o2).alloc o3).alloc o4).heap[w.heap.size]? = some o0 ∧ (((((w.alloc o0).alloc o1).alloc o2).alloc o3).alloc o4).heap[w.heap.size + 1]? = some o1 ∧ (((((w.alloc o0).alloc o1).alloc o2).alloc o3).alloc o4).heap[w.heap.size + 1 + 1]? = some o2 ∧ (((((w.alloc o0).alloc o1).alloc o2).alloc o3).alloc o4).heap[w.heap.size + 1 + 1 + 1]? = some o3 ∧ ((((w.alloc o0).alloc o1).alloc o2).alloc o3).heap.size = w.heap.size + 1 + 1 + 1 + 1 := by
  (have e1 : (w.alloc o0).heap.size = w.heap.size + 1 := by simp); (have e2 : ((w.alloc o0).alloc o1).heap.size = w.heap.size + 1 + 1 := by simp); (have e3 : (((w.alloc o0).alloc o1).alloc o2).heap.size = w.heap.size + 1 + 1 + 1 := by simp); (have e4 : ((((w.alloc o0).alloc o1).alloc o2).alloc o3).heap.size = w.heap.size + 1 + 1 + 1 + 1 := by simp); refine ⟨?_, ?_, ?_, ?_, e4⟩
  · exact alloc_keep (alloc_keep (alloc_keep (alloc_keep (blk_new _ _) _) _) _) _
  · refine alloc_keep (alloc_keep (alloc_keep ?_ _) _) _
    rw [← e1]; exact blk_new _ _
  · refine alloc_keep (alloc_keep ?_ _) _
    rw [← e2]; exact blk_new _ _
  · refine alloc_keep ?_ _
    rw [← e3]; exact blk_new _ _
set_option maxRecDepth 10000 in
set_option maxHeartbeats 4000000 in
theorem networkOf_any (l : List Lm) (ax : List (Int × Int)) (vl va : Value) (w : World) (hl : LL w vl l) (ha : PL w va ax) :
    Calls Try.prog 37 #[vl, va] w fun e w' => NWPost l (netC l ax) e w' ∧ Below w.heap.size w w' := by
  obtain ⟨sl, cap, hvl, -⟩ := id hl; obtain ⟨asl, acap, hva, -⟩ := id ha; (have hmf : ∀ (fn : Fn) (first cap : Array Value) (w : World), (Instr.makeFunc fn first cap).run Try.prog w = .ok (.func fn first cap) w := fun _ _ _ _ => rfl); obtain ⟨W, hW⟩ : ∃ W, W = (((w.alloc (.cells #[vl] 22 (0, 0))).alloc (.cells #[va] 23 (0, 0))).alloc (.cells #[.pointer none, .map none] 65 (0, 0))).alloc (.cells #[.int .i64 0, .int .i64 0] 28 (0, 0)) := ⟨_, rfl⟩; obtain ⟨p0, p1, p2, p3, psz⟩ := four_new (w := w) (o0 := .cells #[vl] 22 (0, 0)) (o1 := .cells #[va] 23 (0, 0)) (o2 := .cells #[.pointer none, .map none] 65 (0, 0)) (o3 := .cells #[.int .i64 0, .int .i64 0] 28 (0, 0)) (o4 := .cells #[.int .i64 0, .int .i64 0] 28 (0, 0)); rw [← hW] at p0 p1 p2 p3 psz; (have hbW : Below w.heap.size w (W.alloc (.cells #[.int .i64 0, .int .i64 0] 28 (0, 0))) := by rw [hW]; exact below_more (below_more (below_more (below_more (below_more (Below.refl _ w) _) _) _) _) _); have hcl := nclo_any l ax vl va w.heap.size (w.heap.size + 1 + 1) (w.heap.size + 1) (W.alloc (.cells #[.int .i64 0, .int .i64 0] 28 (0, 0))) (hl.up hbW) (ha.up hbW) p0 p1 p2
  have hcall : Calls Try.prog 34 #[.func (.func 59) #[] #[.pointer (some ⟨w.heap.size, 0, none⟩), .pointer (some ⟨w.heap.size + 1 + 1, 0, none⟩), .pointer (some ⟨w.heap.size + 1, 0, none⟩)]] W fun e w' => ∃ (u : Option Addr) (v : Option Nat), w'.heap[w.heap.size + 1 + 1]? = some (.cells #[.pointer u, .map v] 65 (0, 0)) ∧ w'.heap[w.heap.size + 1 + 1 + 1]? = some (.cells #[.int .i64 0, .int .i64 0] 28 (0, 0)) ∧ Below w.heap.size w w' ∧ match netC l ax with
      | .bad c a => e = .returned (.agg #[.int .i64 c, .int .i64 (a : Int)])
      | .ok mu c => e = .returned (.agg #[.int .i64 0, .int .i64 0]) ∧ ∃ bp bm, u = some ⟨bp, 0, none⟩ ∧ v = some bm ∧ NetAt w' bp bm l mu c := by
    (have hfb : W.heap.size ≠ w.heap.size + 1 + 1 := by omega)
    have join : ∀ w1 w2, Kept (fun b => b ≠ w.heap.size + 1 + 1) (W.alloc (.cells #[.int .i64 0, .int .i64 0] 28 (0, 0))) w1 → Kept (· ≠ W.heap.size) w1 w2 → Below w.heap.size w w2 := fun w1 w2 h1 h2 => by
      have hs := h1.size; (have e9 : (W.alloc (.cells #[.int .i64 0, .int .i64 0] 28 (0, 0))).heap.size = W.heap.size + 1 := by simp); refine hbW.trans ?_; (refine ⟨h2.os.trans h1.os, h2.tape.trans h1.tape, h2.output.trans h1.output, Nat.le_trans h1.size h2.size, fun k hk => ?_⟩); (rw [h2.block k (by omega) (by omega)]); (exact h1.block k (by omega) (by omega))
    rcases hn : netC l ax with ⟨c, a⟩ | ⟨mu, c⟩
    · rw [hn] at hcl
      (refine (caught_bad _ _ W (fun w1 => (∃ (u : Option Addr) (v : Option Nat), w1.heap[w.heap.size + 1 + 1]? = some (.cells #[.pointer u, .map v] 65 (0, 0))) ∧ Kept (fun b => b ≠ w.heap.size + 1 + 1) (W.alloc (.cells #[.int .i64 0, .int .i64 0] 28 (0, 0))) w1) c a (nclo_in _) (hcl.mono ?_)).mono ?_)
      · rintro e w1 ⟨⟨rfl, u, v, hu⟩, hk⟩
        (exact ⟨rfl, (hk.block _ (by simp) hfb).trans (blk_new _ _), ⟨u, v, hu⟩, hk⟩)
      · rintro e w2 ⟨rfl, w1, ⟨⟨u, v, hu⟩, hk⟩, hk2⟩
        (refine ⟨u, v, (hk2.block _ (lt_of_block hu) (by omega)).trans hu, ?_, join w1 w2 hk hk2, rfl⟩); (have h3 := (hk.block _ (lt_of_block p3) (by omega)).trans p3); (exact (hk2.block _ (lt_of_block h3) (by omega)).trans h3)
    · rw [hn] at hcl
      (refine (caught_ok _ _ W (fun w1 => (∃ bp bm, w1.heap[w.heap.size + 1 + 1]? = some (.cells #[.pointer (some ⟨bp, 0, none⟩), .map (some bm)] 65 (0, 0)) ∧ NetAt w1 bp bm l mu c) ∧ w1.heap[W.heap.size]? = some (.cells #[.int .i64 0, .int .i64 0] 28 (0, 0)) ∧ Kept (fun b => b ≠ w.heap.size + 1 + 1) (W.alloc (.cells #[.int .i64 0, .int .i64 0] 28 (0, 0))) w1) (nclo_in _) (hcl.mono ?_)).mono ?_)
      · rintro e w1 ⟨⟨rfl, bp, bm, hu, hnt⟩, hk⟩
        (exact ⟨rfl, (hk.block _ (by simp) hfb).trans (blk_new _ _), ⟨bp, bm, hu, hnt⟩, (hk.block _ (by simp) hfb).trans (blk_new _ _), hk⟩)
      · rintro e w2 ⟨rfl, w1, ⟨⟨bp, bm, hu, hnt⟩, hf1, hk⟩, hk2⟩
        (refine ⟨_, _, (hk2.block _ (lt_of_block hu) (by omega)).trans hu, ?_, join w1 w2 hk hk2, rfl, bp, bm, rfl, rfl, hnt.keepB (fun b cs T hb h1 h2 => hk2.block b (lt_of_block hb) fun e => ?_) (fun b es clock hb => hk2.block b (lt_of_block hb) fun e => ?_)⟩)
        · have h3 := (hk.block _ (lt_of_block p3) (by omega)).trans p3
          (exact (hk2.block _ (lt_of_block h3) (by omega)).trans h3)
        · rw [e, hf1] at hb
          simp only [Option.some.injEq, Obj.cells.injEq] at hb; exact h2 hb.2.1.symm
        · rw [e, hf1] at hb
          cases hb
  have HC : Hid (Calls Try.prog 34 _ W _) := hcall; have hWe := hW.symm; clear hcall hcl hbW p0 p1 p2 p3 psz hW hl ha; subst hvl; subst hva
  go_enter Try.func37, Try.ntmps37
  go_wp2_with fail; refine HC.out.mono ?_; rintro e w2 ⟨u, v, hu, hf, hb, hm⟩; have HU : Hid (w2.heap[w.heap.size + 1 + 1]? = some (.cells #[.pointer u, .map v] 65 (0, 0))) := hu; have HF : Hid (w2.heap[w.heap.size + 1 + 1 + 1]? = some (.cells #[.int .i64 0, .int .i64 0] 28 (0, 0))) := hf; have HB : Hid (Below w.heap.size w w2) := hb
  obtain ⟨c0, a0, rfl, HMq⟩ : ∃ c0 a0 : Int, e = .returned (.agg #[.int .i64 c0, .int .i64 a0]) ∧ Hid (match netC l ax with
      | .bad c a => c0 = c ∧ a0 = (a : Int)
      | .ok mu c => c0 = 0 ∧ a0 = 0 ∧ ∃ bp bm, u = some ⟨bp, 0, none⟩ ∧ v = some bm ∧ NetAt w2 bp bm l mu c) := by
    rcases hn : netC l ax with ⟨c, a⟩ | ⟨mu, c⟩
    · rw [hn] at hm
      exact ⟨c, a, hm, rfl, rfl⟩
    · rw [hn] at hm
      exact ⟨0, 0, hm.1, rfl, rfl, hm.2⟩
  clear hu hf hb hm hWe; obtain ⟨q0, q1, q2, q3⟩ := blk2 HF.out; obtain ⟨X, hX⟩ : ∃ X, X = (w2.setCell ⟨w.heap.size + 1 + 1 + 1, 0, none⟩ (.int .i64 c0)).setCell ⟨w.heap.size + 1 + 1 + 1, 1, none⟩ (.int .i64 a0) := ⟨_, rfl⟩; (have HXf : Hid (X.heap[w.heap.size + 1 + 1 + 1]? = some (.cells #[.int .i64 c0, .int .i64 a0] 28 (0, 0))) := by rw [hX]; exact set2N HF.out _ _)
  have HXu : Hid (X.heap[w.heap.size + 1 + 1]? = some (.cells #[.pointer u, .map v] 65 (0, 0))) := by
    (rw [hX, farM (by omega), farM (by omega)]; exact HU.out)
  (have HXB : Hid (Below w.heap.size w X) := by rw [hX]; exact (HB.out.setCell (p := ⟨w.heap.size + 1 + 1 + 1, 0, none⟩) (by simp; omega) _).setCell (p := ⟨w.heap.size + 1 + 1 + 1, 1, none⟩) (by simp; omega) _); (have HXk : Hid (∀ q, q ≠ w.heap.size + 1 + 1 + 1 → X.heap[q]? = w2.heap[q]?) := fun q hq => by rw [hX, farM hq, farM hq]); obtain ⟨d0, d1, d2, d3⟩ := blk2 HXf.out; obtain ⟨e0, e1, e2, e3⟩ := blk2 HXu.out; (have n5 : ¬ w.heap.size + 1 + 1 + 1 = w.heap.size + 1 + 1 := by omega); (have n6 : ¬ w.heap.size + 1 + 1 = w.heap.size + 1 + 1 + 1 := by omega); have hXe := hX.symm; clear hX; go_wp2_with fail; clear q0 q1 q2 q3 hXe
  go_region
  all_goals
    go_wp2_with fail; obtain ⟨F, hF⟩ : ∃ F, F = (((X.setCell ⟨w.heap.size + 1 + 1, 0, none⟩ (.pointer u)).setCell ⟨w.heap.size + 1 + 1, 1, none⟩ (.map v)).setCell ⟨w.heap.size + 1 + 1 + 1, 0, none⟩ (.int .i64 c0)).setCell ⟨w.heap.size + 1 + 1 + 1, 1, none⟩ (.int .i64 a0) := ⟨_, rfl⟩; (have HF0 : Hid (((X.setCell ⟨w.heap.size + 1 + 1, 0, none⟩ (.pointer u)).setCell ⟨w.heap.size + 1 + 1, 1, none⟩ (.map v)).heap[w.heap.size + 1 + 1 + 1]? = some (.cells #[.int .i64 c0, .int .i64 a0] 28 (0, 0))) := by show _ = _; rw [farM n5, farM n5]; exact HXf.out)
    have HF1 : Hid (F.heap[w.heap.size + 1 + 1]? = some (.cells #[.pointer u, .map v] 65 (0, 0))) := by
      rw [hF, farM n6, farM n6]; exact set2N HXu.out _ _
    (have HF2 : Hid (F.heap[w.heap.size + 1 + 1 + 1]? = some (.cells #[.int .i64 c0, .int .i64 a0] 28 (0, 0))) := by rw [hF]; exact set2N HF0.out _ _); (have HF3 : Hid (Below w.heap.size w F) := by rw [hF]; exact (((HXB.out.setCell (p := ⟨w.heap.size + 1 + 1, 0, none⟩) (by simp; omega) _).setCell (p := ⟨w.heap.size + 1 + 1, 1, none⟩) (by simp; omega) _).setCell (p := ⟨w.heap.size + 1 + 1 + 1, 0, none⟩) (by simp; omega) _).setCell (p := ⟨w.heap.size + 1 + 1 + 1, 1, none⟩) (by simp; omega) _); (have HF4 : Hid (∀ q, q ≠ w.heap.size + 1 + 1 → q ≠ w.heap.size + 1 + 1 + 1 → F.heap[q]? = w2.heap[q]?) := fun q h1 h2 => by rw [hF, farM h2, farM h2, farM h1, farM h1]; exact HXk.out q h2); rw [← hF]; clear hF HF0 d0 d1 d2 d3 e0 e1 e2 e3; obtain ⟨o6, o7, -⟩ := blk2 HF2.out; obtain ⟨o0, o1, -⟩ := blk2 HF1.out; (refine bodyPost_ret (v := .tuple #[.agg #[.pointer u, .map v], .agg #[.int .i64 c0, .int .i64 a0]]) (by simp [results, Try.results37, go_sem, o0, o1, o6, o7]) rfl ⟨?_, HF3.out.drew⟩); have hm := HMq.out
    rcases hn : netC l ax with ⟨c, a⟩ | ⟨mu, c⟩
    · rw [hn] at hm
      obtain ⟨rfl, rfl⟩ := hm; exact ⟨_, _, rfl⟩
    · rw [hn] at hm
      obtain ⟨rfl, rfl, bp, bm, rfl, rfl, hnt⟩ := hm; (refine ⟨bp, bm, rfl, hnt.keepB (fun b cs T hb h1 h2 => HF4.out b (fun e => ?_) (fun e => ?_)) (fun b es clock hb => HF4.out b (fun e => ?_) (fun e => ?_))⟩)
      · rw [e, HU.out] at hb
        simp only [Option.some.injEq, Obj.cells.injEq] at hb; exact h1 hb.2.1.symm
      · rw [e, HF.out] at hb
        simp only [Option.some.injEq, Obj.cells.injEq] at hb; exact h2 hb.2.1.symm
      · rw [e, HU.out] at hb
        cases hb
      · rw [e, HF.out] at hb
        cases hb
end Go.Proofs.Ytealalhgkdlmkai
