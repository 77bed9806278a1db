/- Texts of one proof, one behind the other: PB5, PB6, PB7, PB8. -/
import Derived.Test.YtheiikkeelbjnajGreatB21
import Derived.Test.YtheiikkeelbjnajGreatB26
import Derived.Test.YtheiikkeelbjnajGreatB23
import Derived.Test.YtheiikkeelbjnajGreatB10
import Derived.Test.YtheiikkeelbjnajGreatB22
/- Walks: what a bound variable is called (first.putter.boundName). -/
namespace Go.Proofs.YtheiikkeelbjnajGreat
open Go.RowKit Go.Sort

/-- A putter in memory: its words lie below w0, its names beyond. -/
structure PtR (w0 w : World) (pb nb : Nat) (nm : ByteArray) (y : Wd) (cg tk : List (List UInt8)) (k : Nat) : Prop where
  pt : ∃ (wn : ByteArray) (wa : Value) (adc : Option Addr) (cpc : Nat), w.heap[pb]? = some (.cells #[.string nm, .string wn, wa, .slice adc cg.length cpc, .pointer (some ⟨nb, 0, none⟩)] 152 (0, 0)) ∧ WRp w0 y (.agg #[.string wn, wa]) ∧ KS 0 w adc cpc cg
  nx : ∃ (adt : Option Addr) (cpt : Nat), w.heap[nb]? = some (.cells #[.string ⟨#[]⟩, .slice adt tk.length cpt, .int .i64 (k : Nat)] 185 (0, 0)) ∧ KS 0 w adt cpt tk
  base : Below w0.heap.size w0 w
  nb : w0.heap.size ≤ nb
theorem PtR.up {w0 w w' : World} {pb nb : Nat} {nm : ByteArray} {y : Wd} {cg tk : List (List UInt8)} {k : Nat} (h : PtR w0 w pb nb nm y cg tk k) (hb : Below w.heap.size w w') : PtR w0 w' pb nb nm y cg tk k := by
  obtain ⟨⟨wn, wa, adc, cpc, h1, h2, h3⟩, ⟨adt, cpt, h4, h5⟩, h6, h7⟩ := h; exact ⟨⟨wn, wa, adc, cpc, (hb.block _ (lt_of_block h1)).trans h1, h2, h3.up hb⟩, ⟨adt, cpt, (hb.block _ (lt_of_block h4)).trans h4, h5.up hb⟩, below_join h6 hb, h7⟩
theorem KS.off {B : Nat} {w w' : World} {ad : Option Addr} {cy : Nat} {L : List (List UInt8)} {nb : Nat} (h : KS B w ad cy L) (hk : Kept (· ≠ nb) w w') (hn : ∀ cs f, w.heap[nb]? ≠ some (.cells cs 9 f)) : KS B w' ad cy L := by
  rcases h.2 with ⟨e, e2⟩ | ⟨g, cap, cur, hv, h1, h2, h3⟩
  · exact ⟨h.1, Or.inl ⟨e, e2⟩⟩
  · exact ⟨h.1, Or.inr ⟨g, cap, cur, hv, h1, (hk.block g (lt_of_block h2) (fun e => hn _ _ (e ▸ h2))).trans h2, h3⟩⟩
/-- The name of the bound variable, and how many names were tried then. -/
def bnF (nm : ByteArray) (cg tk : List (List UInt8)) (k : Nat) (x : Ex) (n : ByteArray) : ByteArray × Nat :=
  if n.data.toList ∈ cg ∧ nm.data.toList ∈ fre (prE [] x) then (⟨(nthS (nxF [] tk (tk.length + 1) k)).toArray⟩, nxF [] tk (tk.length + 1) k + 1) else (n, k)
set_option maxRecDepth 100000 in
set_option maxHeartbeats 8000000 in
theorem boundName_any (w0 w : World) (pb nb : Nat) (nm : ByteArray) (y : Wd) (cg tk : List (List UInt8)) (k : Nat) (h : PtR w0 w pb nb nm y cg tk k) (htk : tk.length ≤ 10000) (hk : k ≤ 1000000) (kd : Int) (n : ByteArray) (ws : List Wd) (ks : List Ex) (hn : n.size ≤ 281474976710656) (hx : (Ex.mk kd n ws ks).size ≤ 100000) (v : Value) (hv : ERp w0 (.mk kd n ws ks) v) :
    Calls Tryz.prog 155 #[.pointer (some ⟨pb, 0, none⟩), v] w fun e w' => e = .returned (.string (bnF nm cg tk k (.mk kd n ws ks) n).1) ∧ PtR w0 w' pb nb nm y cg tk (bnF nm cg tk k (.mk kd n ws ks) n).2 ∧ Kept (· ≠ nb) w w' := by
  have HP : Hid (PtR w0 w pb nb nm y cg tk k) := h; have HV : Hid (ERp w0 (.mk kd n ws ks) v) := hv; have HS : Hid ((Ex.mk kd n ws ks).size ≤ 100000 ∧ tk.length ≤ 10000 ∧ k ≤ 1000000) := ⟨hx, htk, hk⟩; obtain ⟨⟨wn, wa, adc, cpc, h1, h2, h3⟩, ⟨adt, cpt, h4, h5⟩, h6, h7⟩ := h
  have HC1 : Hid (∀ W, Below w.heap.size w W → Calls Tryz.prog 112 #[.slice adc cg.length cpc, .string n] W fun e w' => e = .returned (.bool (decide (n.data.toList ∈ cg))) ∧ w' = W) := fun W hW => by
    have := containsS_any cg n.data.toList _ W (SL.own (h3.up hW))
    rwa [str_eta] at this
  (have HCl : Hid (∀ w, Calls Tryz.prog 62 #[.string n] w fun e w' => e = .returned (.string n) ∧ Below w.heap.size w w') := fun w => clone_any n w hn); obtain ⟨sw, cw, sk, ck, rfl, -⟩ := ERp.def.1 hv; have k0 : w.cell? ⟨pb, 0, none⟩ = some (.string nm) := blk_cell h1 0; have k3 : w.cell? ⟨pb, 3, none⟩ = some (.slice adc cg.length cpc) := blk_cell h1 3; have k4 : w.cell? ⟨pb, 4, none⟩ = some (.pointer (some ⟨nb, 0, none⟩)) := blk_cell h1 4; have zp := lt_of_block h1; have HH1 : Hid (w.heap[pb]? = some _) := h1; have HH4 : Hid (w.heap[nb]? = some _) := h4; have HK5 : Hid (KS 0 w adt cpt tk) := h5; clear hx htk hk hv h1 h2 h3 h4 h5 h6 h7 hn
  rcases hb : decide (n.data.toList ∈ cg) with _ | _
  · have HB : Hid (bnF nm cg tk k (.mk kd n ws ks) n = (n, k)) := if_neg fun hh => by simp at hb; exact hb hh.1
    rw [HB.out]; rw [hb] at HC1
    go_enter Tryz.func155, Tryz.ntmps155
    go_wp2_with fail; have HW : Hid (Below w.heap.size w (w.alloc (.cells #[.int .i64 kd, .string n, .slice sw ws.length cw, .slice sk ks.length ck] 25 (0, 0)))) := below_more (Below.refl _ w) _; have q := blk_new w (.cells #[.int .i64 kd, .string n, .slice sw ws.length cw, .slice sk ks.length ck] 25 (0, 0)); generalize w.alloc (.cells #[.int .i64 kd, .string n, .slice sw ws.length cw, .slice sk ks.length ck] 25 (0, 0)) = W at *; have k0' := (HW.out.cell (p := ⟨pb, 3, none⟩) zp).trans k3; have q1 : W.cell? ⟨w.heap.size, 1, none⟩ = some (.string n) := blk_cell q 1
    go_quiet (first
      | (go_at_call 112
         exact Calls.quiet_of_same (HC1 _ (by first | exact HW.out | exact below_drewN HW.out _)))
      | fail)
    go_wp2_with (first
      | (go_at_call 62
         refine (HCl.out _).mono ?_
         rintro e w3 ⟨rfl, hb3⟩)
      | fail)
    (have hB : Below w.heap.size w w3 := below_join (by first | exact HW.out | exact below_drewN HW.out _) hb3); go_ret; (exact ⟨rfl, HP.out.up hB, kept_of_below hB fun _ h _ => h⟩)
  · rw [hb] at HC1
    (have hin : n.data.toList ∈ cg := by simpa using hb); (have HF : Hid (∀ W, Below w.heap.size w W → Calls Tryz.prog 61 #[.agg #[.int .i64 kd, .string n, .slice sw ws.length cw, .slice sk ks.length ck]] W _) := fun W hW => freeIn_any (.mk kd n ws ks) _ W HS.out.1 (HV.out.up (below_join HP.out.base hW)))
    have HC2 : Hid (∀ W ad cp B, KS B W ad cp (fre (prE [] (.mk kd n ws ks))) → Calls Tryz.prog 112 #[.slice ad (fre (prE [] (.mk kd n ws ks))).length cp, .string nm] W fun e w' => e = .returned (.bool (decide (nm.data.toList ∈ fre (prE [] (.mk kd n ws ks))))) ∧ w' = W) := fun W ad cp B hk => by
      have := containsS_any (fre (prE [] (.mk kd n ws ks))) nm.data.toList _ W (SL.own hk)
      rwa [str_eta] at this
    have HIn : Hid (n.data.toList ∈ cg) := hin; unfold bnF; generalize fre (prE [] (.mk kd n ws ks)) = fr at *; generalize hb2 : decide (nm.data.toList ∈ fr) = b2 at HC2; have HB2 : Hid (decide (nm.data.toList ∈ fr) = b2) := hb2; (generalize hR : (if n.data.toList ∈ cg ∧ nm.data.toList ∈ fr then ((⟨(nthS (nxF [] tk (tk.length + 1) k)).toArray⟩ : ByteArray), nxF [] tk (tk.length + 1) k + 1) else (n, k)) = R); (have HR : Hid ((if n.data.toList ∈ cg ∧ nm.data.toList ∈ fr then ((⟨(nthS (nxF [] tk (tk.length + 1) k)).toArray⟩ : ByteArray), nxF [] tk (tk.length + 1) k + 1) else (n, k)) = R) := hR); clear hb hb2 hin hR
    go_enter Tryz.func155, Tryz.ntmps155
    go_wp2_with fail; have HW : Hid (Below w.heap.size w (w.alloc (.cells #[.int .i64 kd, .string n, .slice sw ws.length cw, .slice sk ks.length ck] 25 (0, 0)))) := below_more (Below.refl _ w) _; have q := blk_new w (.cells #[.int .i64 kd, .string n, .slice sw ws.length cw, .slice sk ks.length ck] 25 (0, 0)); generalize w.alloc (.cells #[.int .i64 kd, .string n, .slice sw ws.length cw, .slice sk ks.length ck] 25 (0, 0)) = W at *; have k0' := (HW.out.cell (p := ⟨pb, 0, none⟩) zp).trans k0; have k3' := (HW.out.cell (p := ⟨pb, 3, none⟩) zp).trans k3; have q0 : W.cell? ⟨w.heap.size, 0, none⟩ = some (.int .i64 kd) := blk_cell q 0; have q1 : W.cell? ⟨w.heap.size, 1, none⟩ = some (.string n) := blk_cell q 1; have q2 : W.cell? ⟨w.heap.size, 2, none⟩ = some (.slice sw ws.length cw) := blk_cell q 2; have q3 : W.cell? ⟨w.heap.size, 3, none⟩ = some (.slice sk ks.length ck) := blk_cell q 3; clear k0 k3 q
    go_region_held3 (fun w' => w'.cell? ⟨pb, 0, none⟩ = some (.string nm) ∧ w'.cell? ⟨pb, 3, none⟩ = some (.slice adc cg.length cpc) ∧ w'.cell? ⟨w.heap.size, 0, none⟩ = some (.int .i64 kd) ∧ w'.cell? ⟨w.heap.size, 1, none⟩ = some (.string n) ∧ w'.cell? ⟨w.heap.size, 2, none⟩ = some (.slice sw ws.length cw) ∧ w'.cell? ⟨w.heap.size, 3, none⟩ = some (.slice sk ks.length ck)) (go_keep)
      (first
       | (go_at_call 112
          refine (HC1 _ HW.out.drew).mono ?_
          rintro e w1 ⟨rfl, rfl⟩)
       | (go_at_call 61
          refine (HF.out _ HW.out.drew).mono ?_; rintro e w2 ⟨adf, cpf, rfl, hks, hb2⟩; have HKs : Hid (KS _ w2 adf cpf fr) := hks; have HW2 : Hid (Below W.heap.size W w2) := (Below.refl _ W).drew.trans hb2; have x0 := (HW2.out.cell (lt_of_cell k0')).trans k0'; have x3 := (HW2.out.cell (lt_of_cell k3')).trans k3'; have y0 := (HW2.out.cell (lt_of_cell q0)).trans q0; have y1 := (HW2.out.cell (lt_of_cell q1)).trans q1; have y2 := (HW2.out.cell (lt_of_cell q2)).trans q2; have y3 := (HW2.out.cell (lt_of_cell q3)).trans q3
          clear hks hb2)
       | (go_at_call 112
          refine (HC2.out _ _ _ _ HKs.out).mono ?_
          rintro e w4 ⟨rfl, rfl⟩)
       | fail)
    have HB2w : Hid (Below w.heap.size w w4) := below_join HW.out HW2.out; have HPu : Hid (PtR w0 w4 pb nb nm y cg tk k) := HP.out.up HB2w.out
    cases b2
    · have HBn : Hid ((if n.data.toList ∈ cg ∧ nm.data.toList ∈ fr then ((⟨(nthS (nxF [] tk (tk.length + 1) k)).toArray⟩ : ByteArray), nxF [] tk (tk.length + 1) k + 1) else (n, k)) = (n, k)) := if_neg fun hh => by have := HB2.out; simp at this; exact this hh.2
      have HRn : Hid (R = (n, k)) := HR.out.symm.trans HBn.out
      go_wp2_with (first
        | (go_at_call 62
           refine (HCl.out _).mono ?_
           rintro e w3 ⟨rfl, hb3⟩)
        | fail)
      have hB : Below w.heap.size w w3 := below_join HB2w.out hb3; go_ret; rw [HRn.out]; (exact ⟨rfl, HP.out.up hB, kept_of_below hB fun _ h _ => h⟩)
    · have HBn : Hid ((if n.data.toList ∈ cg ∧ nm.data.toList ∈ fr then ((⟨(nthS (nxF [] tk (tk.length + 1) k)).toArray⟩ : ByteArray), nxF [] tk (tk.length + 1) k + 1) else (n, k)) = (⟨(nthS (nxF [] tk (tk.length + 1) k)).toArray⟩, nxF [] tk (tk.length + 1) k + 1)) := if_pos ⟨HIn.out, by have := HB2.out; simpa using this⟩
      have HRn : Hid (R = (⟨(nthS (nxF [] tk (tk.length + 1) k)).toArray⟩, nxF [] tk (tk.length + 1) k + 1)) := HR.out.symm.trans HBn.out; (have HNx : Hid (Calls Tryz.prog 86 #[.pointer (some ⟨nb, 0, none⟩)] w4 _) := nextN_any nb ⟨#[]⟩ tk k HS.out.2.1 HS.out.2.2 (by decide) adt cpt 0 w4 ((HB2w.out.block _ (lt_of_block HH4.out)).trans HH4.out) (HK5.out.up HB2w.out)); have k4' : w4.cell? ⟨pb, 4, none⟩ = some (.pointer (some ⟨nb, 0, none⟩)) := (HB2w.out.cell (lt_of_cell k4)).trans k4
      go_wp2_with (first
        | (go_at_call 86
           refine HNx.out.mono ?_
           rintro e w3 ⟨rfl, hn3, hk3⟩)
        | fail)
      go_ret; rw [HRn.out]; (have hk : Kept (· ≠ nb) w w3 := (kept_of_below HB2w.out fun _ h _ => h).trans hk3); obtain ⟨⟨wn', wa', ad', cp', h1, h2, h3⟩, -, h6, h7⟩ := HPu.out
      have hnt : ∀ cs f, w4.heap[nb]? ≠ some (.cells cs 9 f) := fun cs f e => by
        have h8 := (HB2w.out.block _ (lt_of_block HH4.out)).trans HH4.out; rw [e] at h8; simp at h8
      (refine ⟨?_, ⟨⟨wn', wa', ad', cp', (hk3.block _ (lt_of_block h1) (fun e => ?_)).trans h1, h2, h3.off hk3 hnt⟩, ⟨adt, cpt, hn3, KS.off (HK5.out.up HB2w.out) hk3 hnt⟩, h6.trans (hk3.below h6.size fun k hk e => by omega), h7⟩, hk⟩)
      · rfl
      · have h8 := (HB2w.out.block _ (lt_of_block HH4.out)).trans HH4.out
        rw [← e, h1] at h8; simp at h8
end Go.Proofs.YtheiikkeelbjnajGreat
/- Plain: what first.putter.expr answers. -/
namespace Go.Proofs.YtheiikkeelbjnajGreat
open Go.RowKit Go.Sort

/-- The word of a bind: y's own, or a name alone. -/
def gY (y : Wd) : BT → Wd
  | (_, n, .slice none _ _) => .mk n []
  | _ => y
theorem lastB_app (bs : List BT) (t : BT) (g : BT → Wd) (n : ByteArray) : lastB (bs ++ [t]) g n = if t.1 = n then some (g t) else lastB bs g n := by
  unfold lastB; rw [List.reverse_append, List.reverse_cons, List.reverse_nil, List.nil_append, List.singleton_append]; by_cases h : t.1 = n
  · rw [List.find?_cons_of_pos (by simpa using h), if_pos h]; rfl
  · rw [List.find?_cons_of_neg (by simpa using h), if_neg h]
mutual
/-- The expression put, and how many names were tried then. -/
def pxF (nm : ByteArray) (y : Wd) (cg tk : List (List UInt8)) : Ex → List BT → Nat → Ex × Nat
  | .mk kd n ws ks, bs, k =>
    if quanB kd = true then
      let p := bnF nm cg tk k (.mk kd n ws ks) n
      let q := pxFs nm y cg tk ks (bs ++ [(n, p.1, .slice none 0 0)]) p.2
      (.mk kd p.1 (puWs (lastB bs (gY y)) ws) q.1, q.2)
    else
      let q := pxFs nm y cg tk ks bs k
      (.mk kd n (puWs (lastB bs (gY y)) ws) q.1, q.2)
def pxFs (nm : ByteArray) (y : Wd) (cg tk : List (List UInt8)) : List Ex → List BT → Nat → List Ex × Nat
  | [], _, k => ([], k)
  | x :: l, bs, k =>
    let p := pxF nm y cg tk x bs k
    let q := pxFs nm y cg tk l bs p.2
    (p.1 :: q.1, q.2)
end
theorem pxFs_nil {nm : ByteArray} {y : Wd} {cg tk : List (List UInt8)} {bs : List BT} {k : Nat} : pxFs nm y cg tk [] bs k = ([], k) := by rw [pxFs]
theorem pxFs_app {nm : ByteArray} {y : Wd} {cg tk : List (List UInt8)} {bs : List BT} : ∀ (l m : List Ex) (k : Nat), pxFs nm y cg tk (l ++ m) bs k = ((pxFs nm y cg tk l bs k).1 ++ (pxFs nm y cg tk m bs (pxFs nm y cg tk l bs k).2).1, (pxFs nm y cg tk m bs (pxFs nm y cg tk l bs k).2).2)
  | [], m, k => by rw [pxFs_nil]; rfl
  | x :: l, m, k => by
    rw [List.cons_append, pxFs, pxFs_app l m, pxFs]
    dsimp only
    rw [List.cons_append]
theorem pxFs_len {nm : ByteArray} {y : Wd} {cg tk : List (List UInt8)} {bs : List BT} : ∀ (l : List Ex) (k : Nat), (pxFs nm y cg tk l bs k).1.length = l.length
  | [], k => by rw [pxFs_nil]
  | x :: l, k => by
    rw [pxFs]; show ((_ :: (pxFs nm y cg tk l bs _).1 : List Ex)).length = _; rw [List.length_cons, pxFs_len l, List.length_cons]
/-- What comes out when a word is put for a variable. -/
def putX (nm : ByteArray) (y : Wd) (t0 : BT) (x : Ex) : Ex := (pxF nm y (vrs (prWs [y])) (avs (prE [] x) ++ vrs (prWs [y])) x [t0] 0).1
end Go.Proofs.YtheiikkeelbjnajGreat
/- Walks: a new putter (first.newPutter). -/
namespace Go.Proofs.YtheiikkeelbjnajGreat
open Go.RowKit Go.Sort

theorem KS.zero {B : Nat} {w : World} {ad : Option Addr} {cp : Nat} {l : List (List UInt8)} (h : KS B w ad cp l) : KS 0 w ad cp l := ⟨h.1, h.2.elim Or.inl fun ⟨g, cap, cur, hv, _, r⟩ => Or.inr ⟨g, cap, cur, hv, Nat.zero_le _, r⟩⟩
theorem newNames_any (B : ByteArray) (ad : Option Addr) (n cp : Nat) (w : World) : Calls Tryz.prog 83 #[.string B, .slice ad n cp] w fun e w' => e = .returned (.pointer (some ⟨w.heap.size, 0, none⟩)) ∧ w' = w.alloc (.cells #[.string B, .slice ad n cp, .int .i64 0] 185 (0, 0)) := by
  go_enter Tryz.func83, Tryz.ntmps83
  go_wp2_with fail; go_ret; exact ⟨rfl, rfl⟩
set_option maxRecDepth 10000 in
set_option maxHeartbeats 4000000 in
theorem newPutter_any (w : World) (x : Ex) (v : Value) (hx : x.size ≤ 20000) (hv : ERp w x v) (nm : ByteArray) (y : Wd) (u : Value) (hy : y.size ≤ 20000) (hu : WRp w y u) :
    Calls Tryz.prog 52 #[v, .string nm, u] w fun e w' => ∃ pb nb, e = .returned (.pointer (some ⟨pb, 0, none⟩)) ∧ PtR w w' pb nb nm y (vrs (prWs [y])) (avs (prE [] x) ++ vrs (prWs [y])) 0 ∧ w.heap.size ≤ pb ∧ Below w.heap.size w w' := by
  have HV : Hid (ERp w x v) := hv; have HU : Hid (WRp w y u) := hu; have HS : Hid (x.size ≤ 20000 ∧ y.size ≤ 20000) := ⟨hx, hy⟩; (have HVar : Hid (∀ W sl, WL W sl [y] → Calls Tryz.prog 103 #[sl] W fun e w' => ∃ ad cp, e = .returned (.slice ad (vrs (prWs [y])).length cp) ∧ KS W.heap.size w' ad cp (vrs (prWs [y])) ∧ Below W.heap.size W w') := fun W sl h => variables_any [y] sl W W (by rw [Wd.sizes, Wd.sizes]; omega) h (Below.refl _ _)); (have HAll : Hid (∀ W, Below w.heap.size w W → Calls Tryz.prog 105 #[v] W fun e w' => ∃ ad cp, e = .returned (.slice ad (avs (prE [] x)).length cp) ∧ KS W.heap.size w' ad cp (avs (prE [] x)) ∧ Below W.heap.size W w') := fun W h => allVars_any x v W (by omega) (ERp.up h _ _ hv)); (have hl1 : (avs (prE [] x)).length ≤ 20000 := by have := avs_len (prE [] x); rw [prE_own] at this; omega); (have hl2 : (vrs (prWs [y])).length ≤ 20000 := by have := vrs_len (prWs [y]); rw [prWs_len, Wd.sizes, Wd.sizes] at this; omega); generalize avs (prE [] x) = A at *; generalize vrs (prWs [y]) = C at *; have HL : Hid (A.length ≤ 20000 ∧ C.length ≤ 20000) := ⟨hl1, hl2⟩; obtain ⟨kd, n, ws, ks⟩ := x; obtain ⟨yn, ya⟩ := y; obtain ⟨sw, cw, sk, ck, rfl, -⟩ := ERp.def.1 hv; obtain ⟨sy, cy, rfl, -⟩ := WRp.def.1 hu; (have hc1 : (A.length : Int) ≤ 20000 := by omega); (have hc2 : (C.length : Int) ≤ 20000 := by omega); clear hx hv hy hu hl1 hl2
  go_enter Tryz.func52, Tryz.ntmps52
  go_wp2_with (first
    | (go_at_call 103
       obtain ⟨W, hW⟩ : ∃ W, W = ((w.alloc (.cells #[.int .i64 kd, .string n, .slice sw ws.length cw, .slice sk ks.length ck] 25 (0, 0))).alloc (.cells #[.string yn, .slice sy ya.length cy] 27 (0, 0))).alloc (.cells #[.string yn, .slice sy ya.length cy] 27 (0, 0)) := ⟨_, rfl⟩; (have HB : Hid (Below w.heap.size w W) := by rw [hW]; exact below_more (below_more (below_more (Below.refl _ w) _) _) _); (have HE : Hid (W.heap[w.heap.size]? = some (.cells #[.int .i64 kd, .string n, .slice sw ws.length cw, .slice sk ks.length ck] 25 (0, 0))) := by rw [hW]; exact alloc_keep (alloc_keep (blk_new _ _) _) _); (have HY : Hid (W.heap[w.heap.size + 1]? = some (.cells #[.string yn, .slice sy ya.length cy] 27 (0, 0))) := by rw [hW]; exact alloc_keep (blk_secE _ _ _) _)
       have HG : Hid (W.heap[w.heap.size + 1 + 1]? = some (.cells #[.string yn, .slice sy ya.length cy] 27 (0, 0))) := by
         rw [hW]; have := blk_new ((w.alloc (.cells #[.int .i64 kd, .string n, .slice sw ws.length cw, .slice sk ks.length ck] 25 (0, 0))).alloc (.cells #[.string yn, .slice sy ya.length cy] 27 (0, 0))) (.cells #[.string yn, .slice sy ya.length cy] 27 (0, 0)); rw [World.size_alloc, World.size_alloc] at this; exact this
       rw [← hW]; clear hW; refine (HVar.out W _ (WL.one HU.out HB.out HG.out)).mono ?_; rintro e w1 ⟨ad1, cp1, rfl, hk1, hb1⟩; have HK1 : Hid (KS W.heap.size w1 ad1 cp1 C) := hk1; have HB1 : Hid (Below w.heap.size w w1) := below_join HB.out hb1; have HE1 : Hid (w1.heap[w.heap.size]? = some (.cells #[.int .i64 kd, .string n, .slice sw ws.length cw, .slice sk ks.length ck] 25 (0, 0))) := below_keep hb1 HE.out; have HY1 : Hid (w1.heap[w.heap.size + 1]? = some (.cells #[.string yn, .slice sy ya.length cy] 27 (0, 0))) := below_keep hb1 HY.out; obtain ⟨a0, a1, a2, a3⟩ := blk4L HE1.out
       clear hk1 hb1)
    | (go_at_call 105
       refine (HAll.out w1 HB1.out).mono ?_; rintro e w2 ⟨ad2, cp2, rfl, hk2, hb2⟩; have HK2 : Hid (KS w1.heap.size w2 ad2 cp2 A) := hk2; have HK12 : Hid (KS W.heap.size w2 ad1 cp1 C) := HK1.out.up hb2; have HB2 : Hid (Below w.heap.size w w2) := below_join HB1.out hb2; have HY2 : Hid (w2.heap[w.heap.size + 1]? = some (.cells #[.string yn, .slice sy ya.length cy] 27 (0, 0))) := below_keep hb2 HY1.out
       clear hk2 hb2)
    | (go_at_call 104
       have hS : SLs (w2.alloc (.cells #[.slice ad2 A.length cp2, .slice ad1 C.length cp1] 49 (0, 0))) (.slice (some ⟨w2.heap.size, 0, none⟩) 2 2) [A, C] := ⟨_, 2, rfl, by simp, by simp [maxLen], fun _ => ⟨w2.heap.size, 0, rfl, fun j r hr => by
         match j with
         | 0 =>
           simp at hr; subst hr
           exact ⟨.slice ad2 A.length cp2, blk_cell (blk_new _ _) 0, SL.own (HK2.out.up (below_more (Below.refl _ w2) _))⟩
         | 1 =>
           simp at hr; subst hr
           exact ⟨.slice ad1 C.length cp1, blk_cell (blk_new _ _) 1, SL.own (HK12.out.up (below_more (Below.refl _ w2) _))⟩
         | j + 2 => simp at hr⟩⟩
       (refine (concat_s [A, C] (by have := HL.out; simp; omega) (by simp) _ _ hS).mono ?_); rintro e w3 ⟨ad3, cp3, rfl, hk3, hb3⟩; simp only [List.flatten_cons, List.flatten_nil, List.append_nil] at hk3 ⊢; (have HB3 : Hid (Below w.heap.size w w3) := below_join HB2.out ((below_more (Below.refl _ w2) _).trans (hb3.mono (by simp)))); have HK3 : Hid (KS 0 w3 ad3 cp3 (A ++ C)) := KS.zero hk3; have HK13 : Hid (KS W.heap.size w3 ad1 cp1 C) := (HK12.out.up (below_more (Below.refl _ w2) _)).up hb3; (have HY3 : Hid (w3.heap[w.heap.size + 1]? = some (.cells #[.string yn, .slice sy ya.length cy] 27 (0, 0))) := (hb3.block _ (by have := lt_of_block HY2.out; simp; omega)).trans (alloc_keep HY2.out _))
       clear hS hk3 hb3)
    | (go_at_call 83
       refine (newNames_any _ _ _ _ _).mono ?_; rintro e w4 ⟨rfl, hw4⟩; (have HY4 : Hid (w4.heap[w.heap.size + 1]? = some (.cells #[.string yn, .slice sy ya.length cy] 27 (0, 0))) := by show _ = _; rw [hw4]; exact alloc_keep HY3.out _); (have HN4 : Hid (w4.heap[w3.heap.size]? = some (.cells #[.string ⟨#[]⟩, .slice ad3 (A ++ C).length cp3, .int .i64 ((0 : Nat) : Int)] 185 (0, 0))) := by show _ = _; rw [hw4, List.length_append]; exact blk_new _ _); (have HB34 : Hid (Below w3.heap.size w3 w4) := by rw [hw4]; exact below_more (Below.refl _ w3) _); obtain ⟨y0, y1, y2, y3⟩ := blk2 HY4.out
       clear hw4)
    | fail)
  go_ret; have hB4 : Below w.heap.size w w4 := below_join HB3.out HB34.out; refine ⟨w4.heap.size, w3.heap.size, rfl, ⟨⟨yn, .slice sy ya.length cy, ad1, cp1, blk_new _ _, HU.out, ((KS.zero HK13.out).up HB34.out).up (below_more (Below.refl _ w4) _)⟩, ⟨ad3, cp3, alloc_keep HN4.out _, (HK3.out.up HB34.out).up (below_more (Below.refl _ w4) _)⟩, below_more hB4 _, HB3.out.size⟩, hB4.size, below_more hB4 _⟩
end Go.Proofs.YtheiikkeelbjnajGreat
/- Rows of one's own: expressions that are made, and binds. -/
namespace Go.Proofs.YtheiikkeelbjnajGreat
open Go.RowKit Go.Sort

theorem owns_move {B : Nat} {w w' : World} {sz n : Nat} {τ : TypeId} {v : Value} {cs : List Value} (h : w.ownsRow B τ sz v n cs) (hk : ∀ b, v.ownBlock = some b → w'.heap[b]? = w.heap[b]?) : w'.ownsRow B τ sz v n cs := by
  rcases h with ⟨h1, h2 | ⟨g, cap, cur, rfl, hb, hg, h3⟩⟩
  · exact ⟨h1, .inl h2⟩
  · exact ⟨h1, .inr ⟨g, cap, cur, rfl, hb, (hk g rfl).trans hg, h3⟩⟩
/-- Cells, four by four, that are such expressions. -/
def EQ4 (ok : Nat → Prop) (w : World) : List Value → List Ex → Prop
  | [], [] => True
  | c0 :: c1 :: c2 :: c3 :: cs, x :: xs => EQ w ok x (.agg #[c0, c1, c2, c3]) ∧ EQ4 ok w cs xs
  | _, _ => False
theorem EQ4.append {w : World} {ok : Nat → Prop} : ∀ {cs : List Value} {xs : List Ex} {ds : List Value} {ys : List Ex}, EQ4 ok w cs xs → EQ4 ok w ds ys → EQ4 ok w (cs ++ ds) (xs ++ ys)
  | [], [], _, _, _, k => k
  | _ :: _ :: _ :: _ :: _, _ :: _, _, _, h, k => ⟨h.1, EQ4.append h.2 k⟩
theorem EQ4.move {w w' : World} {ok ok' : Nat → Prop} (hc : ∀ b, b < w.heap.size → ok b → w'.heap[b]? = w.heap[b]? ∧ ok' b) : ∀ {cs : List Value} {xs : List Ex}, EQ4 ok w cs xs → EQ4 ok' w' cs xs
  | [], [], _ => trivial
  | _ :: _ :: _ :: _ :: _, _ :: _, h => ⟨EQ.move hc _ _ h.1, EQ4.move hc h.2⟩
theorem EQ4.reps {w : World} {ok : Nat → Prop} {b : Nat} : ∀ {cs : List Value} {xs : List Ex} (off : Nat), EQ4 ok w cs xs → (∀ (j : Nat) (u : Value), cs[j]? = some u → w.cell? ⟨b, off + j, none⟩ = some u) → EQs w ok b off xs
  | [], [], _, _, _ => EQs.nil
  | c0 :: c1 :: c2 :: c3 :: cs, f :: fs, off, h, hc => EQs.cons.2 ⟨⟨c0, c1, c2, c3, hc 0 c0 rfl, hc 1 c1 rfl, hc 2 c2 rfl, hc 3 c3 rfl, h.1⟩, EQ4.reps (off + 4) h.2 fun j u hu => by
      (have := hc (j + 4) u (by simpa using hu))
      rwa [show off + (j + 4) = off + 4 + j by omega] at this⟩
/-- A list of expressions that is made, in a row of one's own; the blocks of what is in it are of P. -/
def KEx (P : Nat → Prop) (B : Nat) (w : World) (ad : Option Addr) (cap : Nat) (xs : List Ex) : Prop := ∃ cs, w.ownsRow B 25 4 (.slice ad xs.length cap) xs.length cs ∧ EQ4 (fun b => P b ∧ (Value.slice ad xs.length cap).ownBlock ≠ some b) w cs xs
theorem KEx.nil {P : Nat → Prop} {B : Nat} {w : World} : KEx P B w none 0 [] := ⟨[], ⟨rfl, Or.inl ⟨rfl, rfl⟩⟩, trivial⟩
theorem KEx.same {P : Nat → Prop} {B : Nat} {w w' : World} {ad : Option Addr} {cap : Nat} {xs : List Ex} (h : KEx P B w ad cap xs) (hp : ∀ b, b < w.heap.size → P b → w'.heap[b]? = w.heap[b]?) (ho : ∀ b, (Value.slice ad xs.length cap).ownBlock = some b → w'.heap[b]? = w.heap[b]?) : KEx P B w' ad cap xs := by
  obtain ⟨cs, h1, h2⟩ := h; (exact ⟨cs, owns_move h1 ho, h2.move fun b hb hok => ⟨hp b hb hok.1, hok⟩⟩)
theorem infoEx : ∃ i, Tryz.prog.info? 25 = some i ∧ i.zero = some (.agg #[.int .i64 0, .string ⟨#[]⟩, .slice none 0 0, .slice none 0 0]) ∧ i.size = 4 ∧ i.bytes = 72 := by
  (obtain ⟨i, hi, h⟩ := Option.map_eq_some_iff.1 (show (Tryz.prog.info? 25).map (fun i => (i.zero, i.size, i.bytes)) = some (some (.agg #[.int .i64 0, .string ⟨#[]⟩, .slice none 0 0, .slice none 0 0]), 4, 72) by kernel_rfl)); simp only [Prod.mk.injEq] at h; exact ⟨i, hi, h.1, h.2.1, h.2.2⟩
/-- One expression more. -/
theorem KEx.app {P : Nat → Prop} {B : Nat} {w1 w3 : World} {o : Obj} {ad : Option Addr} {cp : Nat} {xs : List Ex} {x : Ex} {c0 c1 c2 c3 : Value} {cs : List Value} {g3 cp3 i : Nat} (hi : xs.length = i)
    (hlq : EQ4 (fun b => P b ∧ (Value.slice ad i cp).ownBlock ≠ some b) (w1.alloc o) cs xs)
    (hrep : EQ w1 (fun b => P b ∧ (Value.slice ad i cp).ownBlock ≠ some b) x (.agg #[c0, c1, c2, c3]))
    (hown3 : w3.ownsRow B 25 4 (.slice (some ⟨g3, 0, none⟩) (i + 1) cp3) (i + 1) (cs ++ [c0, c1, c2, c3]))
    (hgrow : (w1.alloc o).grownBy w3 (Value.slice ad i cp).ownBlock) (hat : (Value.slice ad i cp).ownBlock = some g3 ∨ g3 = (w1.alloc o).heap.size) :
    KEx P B w3 (some ⟨g3, 0, none⟩) cp3 (xs ++ [x]) := by
  subst hi; (have hs : (w1.alloc o).heap.size = w1.heap.size + 1 := by simp); refine ⟨cs ++ [c0, c1, c2, c3], ?_, ?_⟩
  · rw [List.length_append]; exact hown3
  · refine (hlq.append (ds := [c0, c1, c2, c3]) (ys := [x]) ⟨EQ.move (fun b hb hok => ⟨Below.heap_alloc _ _ _ hb, hok⟩) _ _ hrep, trivial⟩).move fun b hb hok => ⟨hgrow.block b hb (fun e => hok.2 e.symm), hok.1, fun e => ?_⟩
    (have e : g3 = b := by simpa [Value.ownBlock] using e)
    rcases hat with h | h
    · exact hok.2 (by rw [h, e])
    · omega
/-- The list is an expression's Kids. -/
theorem KEx.rep {P : Nat → Prop} {B : Nat} {w : World} {ad : Option Addr} {cap : Nat} {xs : List Ex} (h : KEx P B w ad cap xs) (hP : ∀ b, (Value.slice ad xs.length cap).ownBlock = some b → P b) {k : Int} {n : ByteArray} {ws : List Wd} {sw : Option Addr} {cw : Nat} (hn : n.size ≤ maxLen) (hw : WLQ w P sw cw ws) :
    EQ w P (.mk k n ws xs) (.agg #[.int .i64 k, .string n, .slice sw ws.length cw, .slice ad xs.length cap]) := by
  obtain ⟨cs, hown, hlq⟩ := h
  rcases hown.2 with ⟨hv, h0⟩ | ⟨b, cp, cur, hv, hg, hh, h1, h2, -⟩
  · simp only [Value.slice.injEq] at hv
    obtain ⟨rfl, -, rfl⟩ := hv; (exact EQ.def.2 ⟨sw, cw, none, 0, rfl, hn, hw, by omega, by simp, fun hne => absurd (List.length_eq_zero_iff.1 h0) hne⟩)
  · simp only [Value.slice.injEq, true_and] at hv
    obtain ⟨rfl, rfl⟩ := hv; (refine EQ.def.2 ⟨sw, cw, _, cap, rfl, hn, hw, h1, h2, fun _ => ⟨b, 0, rfl, hP b rfl, ?_⟩⟩)
    exact (hlq.move (ok' := P) fun b _ hb => ⟨rfl, hb.1⟩).reps (b := b) 0 fun j u hu => by
      have := hown.cells (g := b) rfl j u hu; rw [add_none] at this; exact this
/-- A made list of words as a list that lies in blocks of P. -/
theorem KWd.wlq {P : Nat → Prop} {B : Nat} {w : World} {ad : Option Addr} {cap : Nat} {xs : List Wd} (h : KWd B w ad cap xs) (hP : ∀ b, B ≤ b → b < w.heap.size → P b) : WLQ w P ad cap xs := by
  obtain ⟨-, -, -, h4⟩ := (h.rep ⟨#[]⟩ (Nat.zero_le _)).wlq; (exact h4.move fun b hb hok => ⟨rfl, hP b hok hb⟩)
/-- The cells of binds. -/
def bcs : List BT → List Value
  | [] => []
  | t :: l => .string t.1 :: .string t.2.1 :: t.2.2 :: bcs l
theorem bcs_app : ∀ a b : List BT, bcs (a ++ b) = bcs a ++ bcs b
  | [], b => rfl
  | t :: a, b => by rw [List.cons_append, bcs, bcs, bcs_app a b]; rfl
theorem bcs_len : ∀ a : List BT, (bcs a).length = a.length * 3
  | [] => rfl
  | t :: a => by rw [bcs, List.length_cons, List.length_cons, List.length_cons, bcs_len a, List.length_cons]; omega
theorem bcs_at : ∀ {l : List BT} {i : Nat} {t : BT}, l[i]? = some t → (bcs l)[i * 3]? = some (.string t.1) ∧ (bcs l)[i * 3 + 1]? = some (.string t.2.1) ∧ (bcs l)[i * 3 + 2]? = some t.2.2
  | [], i, t, h => by simp at h
  | s :: l, 0, t, h => by
    (have e : s = t := by simpa using h); subst e
    exact ⟨rfl, rfl, rfl⟩
  | s :: l, i + 1, t, h => by
    (have := bcs_at (l := l) (i := i) (by simpa using h)); (rw [bcs, show (i + 1) * 3 = i * 3 + 3 by omega]); simpa using this
/-- Binds in a row of one's own. -/
def KB (B : Nat) (w : World) (ad : Option Addr) (cap : Nat) (l : List BT) : Prop := w.ownsRow B 150 3 (.slice ad l.length cap) l.length (bcs l)
theorem KB.up {B : Nat} {w w' : World} {ad : Option Addr} {cap : Nat} {l : List BT} (h : KB B w ad cap l) (hb : Below w.heap.size w w') : KB B w' ad cap l := owns_up h hb
theorem KB.brow {B : Nat} {w : World} {ad : Option Addr} {cap : Nat} {l : List BT} (h : KB B w ad cap l) : BRow w (.slice ad l.length cap) l := by
  rcases h.2 with ⟨hv, h0⟩ | ⟨g, c, cur, hv, -, hg, h1, h2, h3, h4⟩
  · simp only [Value.slice.injEq] at hv
    obtain ⟨rfl, -, rfl⟩ := hv; (exact ⟨none, 0, rfl, by omega, by simp, fun hne => absurd (List.length_eq_zero_iff.1 h0) hne⟩)
  · simp only [Value.slice.injEq, true_and] at hv
    obtain ⟨rfl, rfl⟩ := hv; (refine ⟨_, cap, rfl, h1, h2, fun _ => ⟨g, 0, rfl, fun i t ht => ?_⟩⟩)
    have hc : ∀ (j : Nat) (u : Value), (bcs l)[j]? = some u → w.cell? ⟨g, 0 + j, none⟩ = some u := fun j u hu => by
      have := World.ownsRow.cells (g := g) h rfl j u hu; rw [add_none] at this; exact this
    obtain ⟨q0, q1, q2⟩ := bcs_at ht; exact ⟨hc _ _ q0, hc _ _ q1, hc _ _ q2⟩
theorem KB.pre {B : Nat} {w : World} {g cap : Nat} {l : List BT} {t : BT} (h : KB B w (some ⟨g, 0, none⟩) cap (l ++ [t])) : KB B w (some ⟨g, 0, none⟩) cap l := by
  rcases h.2 with ⟨hv, -⟩ | ⟨g', c, cur, hv, hb, hg, h1, h2, h3, h4⟩
  · cases hv
  · simp only [Value.slice.injEq, Option.some.injEq, Addr.mk.injEq, and_true, true_and] at hv
    obtain ⟨rfl, rfl⟩ := hv; rw [List.length_append, List.length_singleton] at h1; (refine ⟨bcs_len l, Or.inr ⟨g, cap, cur, rfl, hb, hg, by omega, h2, h3, ?_⟩⟩); have h5 := congrArg (List.take (l.length * 3)) h4; rw [List.take_take, bcs_app, List.take_left' (bcs_len l), List.length_append, List.length_singleton] at h5; rw [← h5]
    congr 1
    omega
theorem KB.lt {B : Nat} {w : World} {ad : Option Addr} {cap : Nat} {l : List BT} (h : KB B w ad cap l) : ∀ b, (Value.slice ad l.length cap).ownBlock = some b → B ≤ b ∧ b < w.heap.size := World.ownsRow.lt h
theorem KB.same {B : Nat} {w : World} {g cp cp' : Nat} {l l' : List BT} (h : KB B w (some ⟨g, 0, none⟩) cp l) (h' : KB B w (some ⟨g, 0, none⟩) cp' l') : cp = cp' := by
  rcases h.2 with ⟨hv, -⟩ | ⟨g1, c1, cur1, hv, -, hg, -, -, hs, -⟩
  · cases hv
  · rcases h'.2 with ⟨hv', -⟩ | ⟨g2, c2, cur2, hv', -, hg', -, -, hs', -⟩
    · cases hv'
    · simp only [Value.slice.injEq, true_and, Option.some.injEq, Addr.mk.injEq, and_true] at hv hv'
      obtain ⟨rfl, rfl⟩ := hv; obtain ⟨rfl, rfl⟩ := hv'; have e := Option.some.inj (hg.symm.trans hg')
      cases e
      omega
theorem infoBd : ∃ i, Tryz.prog.info? 150 = some i ∧ i.zero = some (.agg #[.string ⟨#[]⟩, .string ⟨#[]⟩, .slice none 0 0]) ∧ i.size = 3 ∧ i.bytes = 56 := by
  (obtain ⟨i, hi, h⟩ := Option.map_eq_some_iff.1 (show (Tryz.prog.info? 150).map (fun i => (i.zero, i.size, i.bytes)) = some (some (.agg #[.string ⟨#[]⟩, .string ⟨#[]⟩, .slice none 0 0]), 3, 56) by kernel_rfl)); simp only [Prod.mk.injEq] at h; exact ⟨i, hi, h.1, h.2.1, h.2.2⟩
/-- A bind appended: what was read of the row stays. -/
theorem wpList_appB {ops : Array Oper} {rest : List Oper} {o : Oper} {a : Act} {w : World} {Q : Exit → Act → World → Prop} (hgd : o.guard = none) (s x : Operand) (hop : o.op = Op.call { callee := Callee.builtin Builtin.append, args := #[s, x], argTypes := #[115, 115] })
    (B : Nat) (is : List BT) (t : BT) (h1c : t.2.2.oneCell' = true) (ad : Option Addr) (cp q : Nat) (Tq : TypeId) (hs : a.eval s = .slice ad is.length cp) (hown : KB B w ad cp is) (hx : a.eval x = .slice (some ⟨q, 0, none⟩) 1 1) (hq : w.heap[q]? = some (.cells #[.string t.1, .string t.2.1, t.2.2] Tq (0, 0))) (hB : B ≤ w.heap.size) (hl : is.length ≤ 100000)
    (h : ∀ g3 cp3 w3, KB B w3 (some ⟨g3, 0, none⟩) cp3 (is ++ [t]) → Kept (fun b => (Value.slice ad is.length cp).ownBlock ≠ some b) w w3 → ((Value.slice ad is.length cp).ownBlock = some g3 ∨ (w.heap.size ≤ g3 ∧ g3 < w3.heap.size)) → KB B w3 ad cp is → wpList Tryz.prog ops Q rest (a.put o.dst (.slice (some ⟨g3, 0, none⟩) (is.length + 1) cp3)) w3) : wpList Tryz.prog ops Q (o :: rest) a w := by
  (refine wpList_plain hgd fun _ hK => ?_); obtain ⟨i0, hi, hz0, hz1, hz2⟩ := infoBd
  have hnw : ∀ (j : Nat) (u : Value), [Value.string t.1, Value.string t.2.1, t.2.2][j]? = some u → w.cell? ((⟨q, 0, none⟩ : Addr).add j) = some u := fun j u hu => by
    rw [add_none, Nat.zero_add, blk_cell hq]; simpa using hu
  have h1c : ∀ u ∈ [Value.string t.1, Value.string t.2.1, t.2.2], u.oneCell' = true := fun u hu => by
    simp at hu
    rcases hu with rfl | rfl | rfl
    · rfl
    · rfl
    · exact h1c
  (obtain ⟨g3, cp3, w3, hr, h2, h3, h4, h5⟩ := run_append_lies (P := Tryz.prog) w 115 o.type B 150 i0 _ 3 56 Tryz.underlying115 hi hz0 hz1 hz2 rfl (by decide) _ _ _ hown ⟨q, 0, none⟩ 1 1 [.string t.1, .string t.2.1, t.2.2] rfl hnw h1c (by omega) (by unfold maxLen; omega) (by omega) hB _ rfl)
  have hks : KB B w3 ad cp is := by
    rcases hown.2 with ⟨hv, h0⟩ | ⟨g, cap, cur, hv, hbg, hg, hnc, hcm, hcs, htake⟩
    · simp only [Value.slice.injEq] at hv
      obtain ⟨rfl, -, rfl⟩ := hv; obtain rfl : is = [] := List.length_eq_zero_iff.1 h0; exact ⟨rfl, Or.inl ⟨rfl, rfl⟩⟩
    · simp only [Value.slice.injEq, true_and] at hv
      obtain ⟨rfl, rfl⟩ := hv; by_cases hroom : is.length + 1 ≤ cp
      · have hr2 := run_append_room (P := Tryz.prog) w 115 o.type 150 i0 Tryz.underlying115 hi g is.length cp cur hg ⟨q, 0, none⟩ 1 1 [.string t.1, .string t.2.1, t.2.2] (by rw [hz1]; rfl) hnw h1c hroom (by rw [hz1]; simp; omega)
        have e := hr.symm.trans hr2; simp only [Result.ok.injEq, Value.slice.injEq, Option.some.injEq, Addr.mk.injEq] at e; obtain ⟨⟨⟨rfl, -⟩, -⟩, -⟩ := e
        have e5 : cp3 = cp := by
          have e := hr.symm.trans hr2; simp only [Result.ok.injEq, Value.slice.injEq] at e; exact e.1.2.2
        subst e5
        have h6 : KB B w3 (some ⟨g3, 0, none⟩) cp3 (is ++ [t]) := by
          unfold KB; rw [List.length_append, bcs_app]; exact h2
        exact h6.pre
      · have hr2 := run_append_grow (P := Tryz.prog) w 115 o.type 150 i0 _ Tryz.underlying115 hi hz0 ⟨g, 0, none⟩ is.length cp (bcs is) (by rw [hz1]; exact bcs_len is) (World.ownsRow.cells (g := g) hown rfl) ⟨q, 0, none⟩ 1 1 [.string t.1, .string t.2.1, t.2.2] (by rw [hz1]; rfl) hnw (by omega) (by omega) (by rw [hz2]; exact growslice_fits (by omega) (by omega))
        have e := hr.symm.trans hr2; simp only [Result.ok.injEq] at e; rw [e.2]; exact KB.up hown (((Below.refl w.heap.size w).drew).alloc (Nat.le_refl _) _)
  have hfin := h g3 cp3 w3 (by
    unfold KB; rw [List.length_append, bcs_app]
    exact h2) ⟨h3.os, h3.tape, h3.output, h3.size, fun b hb hn => h3.block b hb fun e => hn e.symm⟩ (by
    rcases h4 with h | h
    · exact Or.inl h
    · exact Or.inr ⟨by omega, h5⟩) hks
  unfold Oper.wp execOp; simp only [hop, resolve, invoke, builtin, Sem.run_bind, Sem.run_pure, Result.andThen_ok, List.map_toArray, List.map_cons, List.map_nil, hs, hx, hr]; exact hK _ _ hfin
end Go.Proofs.YtheiikkeelbjnajGreat
