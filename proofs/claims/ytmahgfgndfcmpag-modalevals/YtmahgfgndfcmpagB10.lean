/- Texts of one proof, one behind the other: PartsIn1, NamesIn1, Tr6, Tr7, Tr10, TY2, TY4, TZ1, TY5, TV0, CM1, CB5, CC1, CC3, Free4, BW1, MD1, MD5, MD6. -/
import Derived.Test.YtmahgfgndfcmpagB09
import Derived.Test.YtmahgfgndfcmpagB04
import Derived.Deep.RegionLaw
import Derived.Deep.DeepCutAuto
import Derived.Test.YtmahgfgndfcmpagB06
import Derived.Test.YtmahgfgndfcmpagB07
import Derived.Test.YtmahgfgndfcmpagB08
import Derived.Sort.Walk0
import Derived.Deep.AppendSrc
import Derived.Laws.EntriesVeiled
import Derived.Lib.AppendZerosOnto
import Derived.Lib.SliceRun
import Derived.Test.YtmahgfgndfcmpagB01
import Derived.Maps.OwnSet
import Derived.Shelf.SlMaps.Copy
import Derived.Deep.Upon
import Derived.Deep.AppendLies
/- Walks: the parts of a formula, as the yardstick tells them. -/
namespace Go.Proofs.Ytmahgfgndfcmpag
open Go.RowKit

theorem walk_all (f : Fm) (h : f.size ≤ 20000) : walkL f 100000 = allN f := by
  (rw [walkL_take, List.take_of_length_le (by rw [allN_len]; omega)])

end Go.Proofs.Ytmahgfgndfcmpag
/- Walks: the names of a formula, as the yardstick tells them. -/
namespace Go.Proofs.Ytmahgfgndfcmpag
open Go.RowKit Go.Sort

/-- A list of texts that is being made. -/
def KS (B : Nat) (w : World) (ad : Option Addr) (cap : Nat) (l : List (List UInt8)) : Prop := w.ownsRow B 9 1 (.slice ad l.length cap) l.length (l.map encStr)
theorem KS.nil {B : Nat} {w : World} : KS B w none 0 [] := ⟨rfl, Or.inl ⟨rfl, rfl⟩⟩
theorem KS.up {B : Nat} {w w' : World} {ad : Option Addr} {cap : Nat} {l : List (List UInt8)} (h : KS B w ad cap l) (hb : Below w.heap.size w w') : KS B w' ad cap l := owns_up h hb
theorem KS.cell {B : Nat} {w : World} {g cap : Nat} {l : List (List UInt8)} (h : KS B w (some ⟨g, 0, none⟩) cap l) (j : Nat) (t : List UInt8) (ht : l[j]? = some t) : w.cell? ⟨g, j, none⟩ = some (.string ⟨t.toArray⟩) := by
  (have := h.cells (g := g) rfl j (encStr t) (by rw [List.getElem?_map, ht]; rfl)); rw [add_none, Nat.zero_add] at this; exact this
theorem KS.list {B : Nat} {w : World} {ad : Option Addr} {cap : Nat} {l : List (List UInt8)} (h : KS B w ad cap l) : TL w (.slice ad l.length cap) l := by
  have h' := h
  rcases h'.2 with ⟨hv, h0⟩ | ⟨g, cap', cur, hv, hg, hh, h1, h2, -⟩
  · simp only [Value.slice.injEq] at hv
    (exact ⟨ad, cap, rfl, by omega, by rw [hv.2.2]; simp, fun hne => absurd (List.length_eq_zero_iff.1 h0) hne⟩)
  · simp only [Value.slice.injEq, true_and] at hv
    obtain ⟨rfl, rfl⟩ := hv; (exact ⟨_, cap, rfl, h1, h2, fun _ => ⟨g, rfl, fun j t ht => h.cell j t ht⟩⟩)
theorem KS.ne {B : Nat} {w : World} {ad : Option Addr} {cap : Nat} {l : List (List UInt8)} (h : KS B w ad cap l) : (ad = none ∧ l = [] ∧ cap = 0) ∨ ∃ g, ad = some ⟨g, 0, none⟩ ∧ B ≤ g ∧ g < w.heap.size ∧ l.length ≤ cap ∧ cap ≤ maxLen := by
  rcases h.2 with ⟨hv, h0⟩ | ⟨g, cap', cur, hv, hg, hh, h1, h2, -⟩
  · simp only [Value.slice.injEq] at hv
    exact Or.inl ⟨hv.1, List.length_eq_zero_iff.1 h0, hv.2.2⟩
  · simp only [Value.slice.injEq, true_and] at hv
    obtain ⟨rfl, rfl⟩ := hv; exact Or.inr ⟨g, rfl, hg, lt_of_block hh, h1, h2⟩

theorem owns_take {w : World} {B g n cap : Nat} {T : TypeId} {xs : List Value} (h : w.ownsRow B T 1 (.slice (some ⟨g, 0, none⟩) n cap) n xs) (a : Nat) (ha : a ≤ n) : w.ownsRow B T 1 (.slice (some ⟨g, 0, none⟩) a cap) a (xs.take a) := by
  obtain ⟨h0, h⟩ := h
  rcases h with ⟨hv, -⟩ | ⟨g', cap', cur, hv, hg, hh, h1, h2, h3, h4⟩
  · cases hv
  · cases hv
    (refine ⟨by rw [List.length_take, h0]; omega, Or.inr ⟨g, cap, cur, rfl, hg, hh, by omega, h2, h3, ?_⟩⟩); rw [← h4, List.take_take]
    congr 1; omega

/-- Nothing appended. -/
theorem step_append_zero {P : Program} {ops : Array Oper} {o : Oper} {a : Act} {w : World} {K : Act → World → Prop} {Q : Exit → Act → World → Prop} {E : Prop} (hg : o.guard = none) (s x : Operand) (t : TypeId) (hop : o.op = Op.call { callee := Callee.builtin Builtin.append, args := #[s, x], argTypes := #[t, t] })
    (e : TypeId) (i : TypeInfo) (h1 : P.underlying t = some (.slice e)) (h2 : P.info? e = some i) (b off n cap : Nat) (hs : a.eval s = .slice (some ⟨b, off, none⟩) n cap) (hle : n ≤ cap) (x0 : Option Addr) (c : Nat) (hx : a.eval x = .slice x0 0 c)
    (hK : K (a.put o.dst (.slice (some ⟨b, off, none⟩) n cap)) w) : if Region.wanted o (yielded ops a.tmps) = true then Oper.wp P o a w K Q else E := by
  (have hw : Region.wanted o (yielded ops a.tmps) = true := by simp [Region.wanted, hg]); rw [if_pos hw]
  have hsrc : Src P i.size t (.slice x0 0 c) 0 [] w := by
    cases x0 with
    | none => exact Src.ofNil w h1 c
    | some ad => exact Src.ofSlice w h1 ad 0 c [] (by simp) (fun j u h => by simp at h) (fun u h => by cases h)
  (have hrun := run_append_room_src (P := P) w t t o.type e i h1 h2 b off n cap _ 0 [] hsrc (by omega) (fun j h => by simp at h) (fun j h => by simp at h)); (have hz : w.setCells b (off + n * i.size) [] = w := by simp [World.setCells]); rw [hz] at hrun; unfold Oper.wp; simp [execOp, hop, resolve, invoke, builtin, hs, hx, hrun, Result.andThen]; exact hK

theorem below_drewN {B : Nat} {w w' : World} (h : Below B w w') (n : Nat) : Below B w (w'.drewN n) := ⟨h.os, h.tape, h.output, h.size, h.block⟩
theorem enc_one (l : List (List UInt8)) : ∀ u ∈ l.map encStr, u.oneCell' = true := fun u hu => by
  obtain ⟨t, -, rfl⟩ := List.mem_map.1 hu; rfl
theorem KS.drop {B : Nat} {w : World} {g cap : Nat} {L : List (List UInt8)} (h : KS B w (some ⟨g, 0, none⟩) cap L) (a : Nat) : ∀ (j : Nat) (u : Value), ((L.drop a).map encStr)[j]? = some u → w.cell? ((⟨g, a, none⟩ : Addr).add j) = some u := fun j u hu => by
  rw [List.getElem?_map, List.getElem?_drop] at hu; obtain ⟨t, ht, rfl⟩ := Option.map_eq_some_iff.1 hu; rw [add_none]; exact h.cell (a + j) t ht
theorem KS.take {B : Nat} {w : World} {g cap : Nat} {L : List (List UInt8)} (h : KS B w (some ⟨g, 0, none⟩) cap L) (a : Nat) (ha : a ≤ L.length) : w.ownsRow B 9 1 (.slice (some ⟨g, 0, none⟩) a cap) a ((L.take a).map encStr) := by
  have := owns_take h a ha
  rwa [← List.map_take] at this
theorem KS.keep {B : Nat} {w w' : World} {g cap : Nat} {L : List (List UInt8)} (h : KS B w (some ⟨g, 0, none⟩) cap L) (he : w'.heap[g]? = w.heap[g]?) : KS B w' (some ⟨g, 0, none⟩) cap L := by
  obtain ⟨h1, h2⟩ := h; refine ⟨h1, ?_⟩
  rcases h2 with ⟨hv, -⟩ | ⟨g', cap', cur, hv, hg, hh, r⟩
  · cases hv
  · cases hv
    exact Or.inr ⟨g, cap, cur, rfl, hg, he.trans hh, r⟩

theorem mem_ins (L : List (List UInt8)) (t : List UInt8) (a : Nat) (x : List UInt8) : x ∈ L.take a ++ t :: L.drop a ↔ x ∈ L ∨ x = t := by
  have h := List.mem_append (a := x) (s := L.take a) (t := L.drop a); rw [List.take_append_drop] at h; rw [List.mem_append, List.mem_cons, h]
  constructor
  · rintro (h | h | h)
    · exact Or.inl (Or.inl h)
    · exact Or.inr h
    · exact Or.inl (Or.inr h)
  · rintro ((h | h) | h)
    · exact Or.inl h
    · exact Or.inr (Or.inr h)
    · exact Or.inr (Or.inl h)

/-- A name behind all others. -/
theorem app_end {B : Nat} {W w w5 : World} {ad : Option Addr} {cy g5 cp5 q : Nat} {o : Obj} {L : List (List UInt8)} {t : List UInt8} (hB : Below B W w) (hBs : B ≤ w.heap.size) (hk : KS B w ad cy L)
    (hg5 : ((w.drewN q).alloc o).grownBy w5 (Value.slice ad L.length cy).ownBlock) (ho : w5.ownsRow B 9 1 (.slice (some ⟨g5, 0, none⟩) (L.length + 1) cp5) (L.length + 1) (L.map encStr ++ [encStr t])) :
    KS B w5 (some ⟨g5, 0, none⟩) cp5 (L ++ [t]) ∧ Below B W w5 := by
  constructor
  · unfold KS
    rw [List.map_append, List.length_append]; exact ho
  · have h1 : Below B W ((w.drewN q).alloc o) := (below_drewN hB q).alloc hBs o
    (exact h1.trans ⟨hg5.os, hg5.tape, hg5.output, hg5.size, fun j hj => hg5.block j (by simp; omega) (fun e => by have := (World.ownsRow.lt hk j e.symm).1; omega)⟩)

/-- A name at its place: what the two appends leave. -/
theorem ins_end {B : Nat} {W w w4 w5 : World} {gL g5 cp5 a m q : Nat} {o : Obj} {L : List (List UInt8)} {t : List UInt8} (hB : Below B W w) (hBs : B ≤ w.heap.size) (hgB : B ≤ gL) (hm : a + m = (L.take a ++ t :: L.drop a).length)
    (hg4 : ((w.drewN q).alloc o).grownBy w4 (some w.heap.size)) (hg5 : w4.grownBy w5 (some gL)) (ho : w5.ownsRow B 9 1 (.slice (some ⟨g5, 0, none⟩) (a + m) cp5) (a + m) ((L.take a).map encStr ++ (t :: L.drop a).map encStr)) :
    KS B w5 (some ⟨g5, 0, none⟩) cp5 (L.take a ++ t :: L.drop a) ∧ Below B W w5 := by
  constructor
  · unfold KS
    rw [hm] at ho; rw [List.map_append]; exact ho
  · have h1 : Below B W ((w.drewN q).alloc o) := (below_drewN hB q).alloc hBs o
    (have h2 : Below B W w4 := h1.trans ⟨hg4.os, hg4.tape, hg4.output, hg4.size, fun j hj => hg4.block j (by simp; omega) (fun e => by have : j = w.heap.size := Option.some.inj e; omega)⟩)
    have hs4 : w.heap.size ≤ w4.heap.size := by
      have h := hg4.size; simp at h; omega
    (exact h2.trans ⟨hg5.os, hg5.tape, hg5.output, hg5.size, fun j hj => hg5.block j (by omega) (fun e => by have : j = gL := Option.some.inj e; omega)⟩)

set_option maxHeartbeats 4000000 in
theorem namesIn_big (f : Fm) (hs : f.size ≤ 20000) (v : Value) (w : World) (hv : FL w v [f]) :
    Calls Try.prog 20 #[v] w fun e w' => ∃ x, e = .returned x ∧ TL w' x (nmsU f) ∧ Below w.heap.size w w' := by
  obtain ⟨ad0, cap0, rfl, h1, h2, h3⟩ := hv; (obtain ⟨b0, off0, rfl, hrs0⟩ := h3 (by simp)); (have hwk := fun v w h => walk_any f v 100000 w (by omega) h); rw [walk_all f hs] at hwk; (have hNl : (allN f).length ≤ 20000 := by rw [allN_len]; exact hs); (have HNU : Hid (∀ L, Rising L → (∀ t, t ∈ L ↔ t ∈ (nmsOf (allN f)).map (·.data.toList)) → L = nmsU f) := fun L h1 h2 => rising_ext h1 (nmsU_rising f) fun t => by rw [nmsU_mem]; exact h2 t); generalize nmsU f = U at *; obtain ⟨k, n, ks⟩ := f; obtain ⟨sl, cap, g0, g1, g2, hrep0⟩ := hrs0.at 0 k n ks rfl; simp only [Nat.zero_mul, Nat.add_zero] at g0 g1 g2; have HW : Hid (∀ v w, _ → Calls Try.prog 26 _ w _) := hwk; (have hl1 : (1 : Int) ≤ (cap0 : Int) := by simp at h1; omega); obtain ⟨i0, hi, hz0, hz1, hz2⟩ := infoText; have HIo : Hid (Try.prog.info? 9 = some i0 ∧ i0.zero = some (.string ⟨#[]⟩) ∧ i0.size = 1 ∧ i0.bytes = 16) := ⟨hi, hz0, hz1, hz2⟩; clear hwk h3 hrs0 hi hz0 hz1 hz2 hs; generalize allN (.mk k n ks) = nodes at *
  go_enter Try.func20, Try.ntmps20
  go_wp2_with fail
  go_loopg [4, 3] 1 (fun g c o wr => (g = 1 ∧ c = .int .i64 0 ∧ o = .slice none 0 0 ∧ wr = w) ∨ (g = 0 ∧ c = .int .i64 1 ∧ TL wr o U ∧ Below w.heap.size w wr))
  case atStart => exact Or.inl ⟨rfl, rfl, rfl, rfl⟩
  case round =>
    rcases hrel with ⟨rfl, rfl, rfl, hw⟩ | ⟨rfl, rfl, hfl, hbr⟩
    · have hw' := hw.symm
      subst hw'
      go_wp2_with (first
        | (go_at_call 26
           refine (HW.out _ _ hrep0).mono ?_; rintro e w1 ⟨x, rfl, hlo, hb1⟩; obtain ⟨g, cp, rfl, hc1, hc2, hrs⟩ := hlo.reps; (have HS : Hid (Reps w1 (fun _ => True) g 0 nodes) := hrs); have z1 := hb1.size
           clear hlo hrs)
        | fail)
      obtain ⟨hi, hz0, hz1, hz2⟩ := HIo.out; (have hNI : (nodes.length : Int) ≤ 20000 := by omega); clear hrep0 g0 g1 g2 HW
      go_loopg [6, 3] nodes.length (fun g c o wz => ∃ j ad cy L, j ≤ nodes.length ∧ g = nodes.length - j ∧ c = .int .i64 (j : Nat) ∧ o = .slice ad L.length cy ∧ Below w1.heap.size w1 wz ∧ Hid (KS w1.heap.size wz ad cy L) ∧ L.length ≤ j ∧ Hid (Rising L ∧ ∀ t, t ∈ L ↔ t ∈ (nmsOf (nodes.take j)).map (·.data.toList)))
      case atStart => exact ⟨0, none, 0, [], by omega, by omega, rfl, rfl, Below.refl _ _, KS.nil, by simp, List.Pairwise.nil, fun t => by simp [nmsOf]⟩
      case round =>
        obtain ⟨j, ad, cy, L, hj, hg, rfl, rfl, hby, HK, hLj, HL⟩ := hrel; have HG : Hid (gk = nodes.length - j) := hg; clear hg; have zy := hby.size; by_cases hlt : j < nodes.length
        · obtain ⟨⟨k2, n2, ks2⟩, hki⟩ : ∃ f, nodes[j]? = some f := ⟨_, List.getElem?_eq_getElem hlt⟩
          obtain ⟨sl2, cap2, p0, p1, p2, hrep2⟩ := (HS.out.up hby).at j k2 n2 ks2 hki; rw [Nat.zero_add] at p0 p1 p2; (have hltI : (j : Int) < (nodes.length : Int) := by omega); (have hlc : (j : Int) < (cp : Int) := by omega)
          have hT : nmsOf (nodes.take (j + 1)) = nmsOf (nodes.take j) ++ if k2 = 1 then [n2] else [] := by
            rw [List.take_add_one, hki, nmsOf_append]; show _ ++ nmsOf [Fm.mk k2 n2 ks2] = _; rw [nmsOf]; rfl
          clear hrep2 p2; by_cases hk : k2 = 1
          · subst hk
            rw [if_pos rfl] at hT; obtain ⟨t, rfl⟩ : ∃ t : List UInt8, n2 = ⟨t.toArray⟩ := ⟨n2.data.toList, rfl⟩; have hha := hasText_any L t _ wr HK.out.list; by_cases hm : t ∈ L
            · rw [decide_eq_true hm] at hha
              have HA : Hid (Calls Try.prog 46 _ wr _) := hha
              have HT : Hid (∀ x, x ∈ L ↔ x ∈ (nmsOf (nodes.take (j + 1))).map (·.data.toList)) := fun x => by
                rw [hT, List.map_append, List.mem_append, HL.out.2 x]
                constructor
                · exact Or.inl
                · rintro (h | h)
                  · exact h
                  · simp at h; subst h; exact (HL.out.2 _).1 hm
              generalize (⟨t.toArray⟩ : ByteArray) = TT at *; clear hT hki hha
              go_wp2_with (first
                | (go_at_call 46
                   refine HA.out.mono ?_
                   rintro e w2 ⟨rfl, rfl⟩)
                | fail)
              go_roundg (nodes.length - (j + 1))
              case measure => have := HG.out; omega
              case rel => exact ⟨j + 1, ad, cy, L, by omega, rfl, by go_num, rfl, hby, HK, by omega, HL.out.1, HT.out⟩
            · rw [decide_eq_false hm] at hha
              have HA : Hid (Calls Try.prog 46 _ wr _) := hha; have HM : Hid (t ∉ L) := hm
              have HT : Hid (∀ M : List (List UInt8), (∀ x, x ∈ M ↔ x ∈ L ∨ x = t) → ∀ x, x ∈ M ↔ x ∈ (nmsOf (nodes.take (j + 1))).map (·.data.toList)) := fun M hM x => by
                rw [hT, List.map_append, List.mem_append, hM x, HL.out.2 x]
                simp
              clear hT hki hha hm; have HP : Hid (wr.cell? ⟨g, j * 3 + 1, none⟩ = some (.string ⟨t.toArray⟩)) := p1
              go_wp2_with (first
                | (go_at_call 46
                   refine HA.out.mono ?_; rintro e w2 ⟨rfl, hw2⟩; have hw3 := hw2.symm
                   subst hw3)
                | fail)
              (have hLI : (L.length : Int) ≤ 20000 := by omega); obtain ⟨W0, hW0⟩ : ∃ W0, W0 = wr := ⟨_, rfl⟩; subst hW0
              go_loopg [7] L.length (fun g c wz => ∃ a, a ≤ L.length ∧ g = L.length - a ∧ c = .int .i64 (a : Nat) ∧ Below W0.heap.size W0 wz ∧ Hid (∀ (i : Nat) (x : List UInt8), i < a → L[i]? = some x → x < t))
              case atStart => exact ⟨0, by omega, by omega, rfl, Below.refl _ _, fun i x h => absurd h (Nat.not_lt_zero _)⟩
              case round =>
                obtain ⟨a, ha, hg2, rfl, hbz, HX⟩ := hrel; have HG2 : Hid (gk = L.length - a) := hg2; have pz := (hbz.cell (p := ⟨g, j * 3 + 1, none⟩) (lt_of_cell p1)).trans p1; have HKz : Hid (KS w1.heap.size wr ad cy L) := HK.out.up hbz; clear hg2 p0 p1 HP HA; by_cases hal : a < L.length
                · obtain ⟨x, hx⟩ : ∃ x, L[a]? = some x := ⟨_, List.getElem?_eq_getElem hal⟩
                  (have haI : (a : Int) < (L.length : Int) := by omega)
                  rcases HKz.out.ne with ⟨-, h0, -⟩ | ⟨gL, rfl, hgB, hgz, hLc, hcm⟩
                  · rw [h0] at hal; simp at hal
                  have hx0 := HKz.out.cell a x hx; (have hac : (a : Int) < (cy : Int) := by omega); by_cases hxt : x < t
                  · have HXN : Hid (∀ (i : Nat) (y : List UInt8), i < a + 1 → L[i]? = some y → y < t) := fun i y hi hy => by
                      rcases Nat.lt_or_ge i a with h | h
                      · exact HX.out i y h hy
                      · obtain rfl : i = a := by omega
                        rw [hx] at hy; rw [← Option.some.inj hy]; exact hxt
                    (have hbl : Op.bytesLess x t = true := by rw [bytesLess_eq]; exact decide_eq_true hxt); have HBd : Hid (a < L.length) := hal; clear hx hxt hgB hgz hLc hcm hLj ha hal hj hlt; go_wp2_with fail
                    go_quiet (fail)
                    go_wp2_with fail
                    go_roundg (L.length - (a + 1))
                    case measure => have := HG2.out; have := HBd.out; omega
                    case rel => exact ⟨a + 1, HBd.out, rfl, by go_num, below_drewN hbz _, HXN⟩
                  · have hbl : Op.bytesLess x t = false := by rw [bytesLess_eq]; exact decide_eq_false hxt
                    (have HBd : Hid (w1.heap.size ≤ gL ∧ gL < wr.heap.size ∧ L.length ≤ cy ∧ cy ≤ maxLen ∧ a < L.length ∧ L.length ≤ 20000) := ⟨hgB, hgz, hLc, hcm, hal, by omega⟩); (have HRi : Hid (Rising (L.take a ++ t :: L.drop a)) := rising_ins HL.out.1 HX.out (fun y hy => by rw [hx] at hy; rw [← Option.some.inj hy]; exact hxt) HM.out); (have hLcI : (L.length : Int) ≤ (cy : Int) := by omega); have HJ : Hid (j < nodes.length ∧ L.length ≤ j) := ⟨hlt, hLj⟩; (have haI2 : (a : Int) ≤ (L.length : Int) := by omega); (have hacn : ¬ cy = a := by omega); (have hacy : a ≤ cy := by omega); (have haL : a ≤ L.length := by omega); clear hx hxt hgB hgz hLc hcm hLj ha hal hj hlt; go_wp2_with fail
                    go_quiet (fail)
                    go_wp2_with fail
                    go_region_law
                      (first
                       | (have hw4 := HW4.out
                          (refine step_append_lies _ rfl _ _ 48 rfl w1.heap.size 9 i0 (.string ⟨#[]⟩) 1 16 Try.underlying48 hi hz0 hz1 hz2 rfl (by decide) _ _ _ rfl HO4.out ⟨g4, 0, none⟩ (1 + (L.length - a)) cp4 ((t :: L.drop a).map encStr) rfl (by simp; omega) (fun j u hu => hw4.cells (g := g4) rfl j u hu) (enc_one _) (by omega) (by have := HBd.out; unfold maxLen; omega) (by have := HBd.out; omega) (by have := HBd.out; have := HG4.out.size; simp at this; have := hbz.size; omega) _ rfl ?_); intro g5 cp5 w5 hown5 hgrow5 hat5 hlt5; (have HE5 := ins_end (below_join hby hbz) (by have := hbz.size; omega) HBd.out.1 (by have := HBd.out; simp; omega) HG4.out hgrow5 hown5); have HE : Hid (KS w1.heap.size w5 (some ⟨g5, 0, none⟩) cp5 (L.take a ++ t :: L.drop a) ∧ Below w1.heap.size w1 w5) := HE5
                          clear HE5 hown5 hgrow5 hat5 hw4)
                       | (have hin : ((wr.drewN (nq + 1)).alloc (.cells #[.string ⟨t.toArray⟩] 9 (0, 0))).ownsRow wr.heap.size 9 1 (.slice (some ⟨wr.heap.size, 0, none⟩) 1 1) 1 [.string ⟨t.toArray⟩] := ⟨rfl, Or.inr ⟨wr.heap.size, 1, #[.string ⟨t.toArray⟩], rfl, Nat.le_refl _, blk_new _ _, by omega, by simp [maxLen], rfl, rfl⟩⟩
                          have hks : KS w1.heap.size ((wr.drewN (nq + 1)).alloc (.cells #[.string ⟨t.toArray⟩] 9 (0, 0))) (some ⟨gL, 0, none⟩) cy L := HKz.out.up ((below_drewN (Below.refl _ wr) _).alloc (Nat.le_refl _) _); (refine step_append_lies _ rfl _ _ 48 rfl wr.heap.size 9 i0 (.string ⟨#[]⟩) 1 16 Try.underlying48 hi hz0 hz1 hz2 rfl (by decide) _ _ _ rfl hin ⟨gL, a, none⟩ (L.length - a) (cy - a) ((L.drop a).map encStr) rfl (by simp) (hks.drop a) (enc_one _) (by have := HBd.out; omega) (by have := HBd.out; unfold maxLen; omega) (by have := HBd.out; omega) (by simp) _ rfl ?_); intro g4 cp4 w4 hown4 hgrow4 hat4 hlt4; have HW4 : Hid (w4.ownsRow wr.heap.size 9 1 (.slice (some ⟨g4, 0, none⟩) (1 + (L.length - a)) cp4) (1 + (L.length - a)) ((t :: L.drop a).map encStr)) := hown4; have HG4 : Hid (((wr.drewN (nq + 1)).alloc (.cells #[.string ⟨t.toArray⟩] 9 (0, 0))).grownBy w4 (some wr.heap.size)) := hgrow4; (have HO4 : Hid (w4.ownsRow w1.heap.size 9 1 (.slice (some ⟨gL, 0, none⟩) a cy) a ((L.take a).map encStr)) := (hks.keep (HG4.out.block gL (by have := HBd.out; simp; omega) (fun e => by have : gL = wr.heap.size := Option.some.inj e; have := HBd.out; omega))).take a (by have := HBd.out; omega))
                          clear hown4 hgrow4 hat4 hin hks)
                       | fail)
                    all_goals
                      go_wp2_with fail; (have hl2 : (L.take a ++ t :: L.drop a).length = L.length + 1 := by have := HBd.out; simp; omega)
                      go_roundg (nodes.length - (j + 1))
                      case measure => have := HG.out; have := HJ.out; omega
                      case rel => exact ⟨j + 1, some ⟨g5, 0, none⟩, cp5, L.take a ++ t :: L.drop a, by have := HJ.out; omega, rfl, by go_num, by rw [hl2, show a + (1 + (L.length - a)) = L.length + 1 by have := HBd.out; omega], HE.out.2, HE.out.1, by have := HJ.out; omega, HRi.out, HT.out _ (mem_ins L t a)⟩
                · obtain rfl : a = L.length := by omega
                  (have hal' : decide ((L.length : Int) < (L.length : Int)) = false := by simp)
                  have HRi : Hid (Rising (L ++ [t])) := by
                    (have := rising_ins HL.out.1 HX.out (fun y hy => by rw [List.getElem?_eq_none (Nat.le_refl _)] at hy; cases hy) HM.out)
                    rwa [List.take_length, List.drop_length] at this
                  (have HMI : Hid (∀ x, x ∈ L ++ [t] ↔ x ∈ L ∨ x = t) := fun x => by simp); (have HJ : Hid (j < nodes.length ∧ L.length ≤ j ∧ L.length ≤ 20000) := ⟨hlt, hLj, by omega⟩)
                  rcases HKz.out.ne with ⟨rfl, rfl, rfl⟩ | ⟨gL, rfl, hgB, hgz, hLc, hcm⟩
                  · clear hLj ha hal hj hlt
                    go_wp2_with fail
                    go_quiet (fail)
                    go_wp2_with fail
                    go_region_law
                      (first
                       | (refine step_append_lies _ rfl _ _ 48 rfl w1.heap.size 9 i0 (.string ⟨#[]⟩) 1 16 Try.underlying48 hi hz0 hz1 hz2 rfl (by decide) _ _ _ rfl (show World.ownsRow ((wr.drewN (nq + 1)).alloc (.cells #[.string ⟨t.toArray⟩] 9 (0, 0))) w1.heap.size 9 1 (.slice none 0 0) 0 [] from ⟨rfl, Or.inl ⟨rfl, rfl⟩⟩) ⟨wr.heap.size, 0, none⟩ 1 1 [.string ⟨t.toArray⟩] rfl rfl ?_ ?_ (by omega) (by unfold maxLen; omega) (by omega) (by have := hbz.size; simp; omega) _ rfl ?_
                          · intro i u hu
                            rw [add_none, Nat.zero_add, show wr.heap.size = (wr.drewN (nq + 1)).heap.size from rfl, blk_cell (blk_new (wr.drewN (nq + 1)) _)]; simpa using hu
                          · intro u hu
                            simp at hu
                            rcases hu with rfl; rfl
                          intro g5 cp5 w5 hown5 hgrow5 hat5 hlt5; (have HE5 := app_end (t := t) (below_join hby hbz) (by have := hbz.size; omega) HKz.out hgrow5 hown5); have HE : Hid (KS w1.heap.size w5 (some ⟨g5, 0, none⟩) cp5 (([] : List (List UInt8)) ++ [t]) ∧ Below w1.heap.size w1 w5) := HE5
                          clear HE5 hown5 hgrow5 hat5)
                       | fail)
                    all_goals
                      go_wp2_with fail
                      go_roundg (nodes.length - (j + 1))
                      case measure => have := HG.out; have := HJ.out; omega
                      case rel => exact ⟨j + 1, some ⟨g5, 0, none⟩, cp5, ([] : List (List UInt8)) ++ [t], by have := HJ.out; omega, rfl, by go_num, by simp, HE.out.2, HE.out.1, by simp, HRi.out, HT.out _ HMI.out⟩
                  · have hLcI : (L.length : Int) ≤ (cy : Int) := by omega
                    have HBd : Hid (w1.heap.size ≤ gL ∧ gL < wr.heap.size ∧ L.length ≤ cy ∧ cy ≤ maxLen) := ⟨hgB, hgz, hLc, hcm⟩; clear hLj ha hal hj hlt hgB hgz hcm; by_cases hcl : L.length = cy
                    · subst hcl
                      clear hLc; go_wp2_with fail
                      go_quiet (fail)
                      go_wp2_with fail
                      go_region_law
                        (first
                         | (refine step_append_lies _ rfl _ _ 48 rfl w1.heap.size 9 i0 (.string ⟨#[]⟩) 1 16 Try.underlying48 hi hz0 hz1 hz2 rfl (by decide) _ _ _ rfl (HKz.out.up ((below_drewN (Below.refl _ wr) (nq + 1)).alloc (Nat.le_refl _) (.cells #[.string ⟨t.toArray⟩] 9 (0, 0)))) ⟨wr.heap.size, 0, none⟩ 1 1 [.string ⟨t.toArray⟩] rfl rfl ?_ ?_ (by omega) (by have := HJ.out; unfold maxLen; simp at this ⊢; omega) (by have := HJ.out; simp at this ⊢; omega) (by have := hbz.size; simp; omega) _ rfl ?_
                            · intro i u hu
                              rw [add_none, Nat.zero_add, show wr.heap.size = (wr.drewN (nq + 1)).heap.size from rfl, blk_cell (blk_new (wr.drewN (nq + 1)) _)]; simpa using hu
                            · intro u hu
                              simp at hu
                              rcases hu with rfl; rfl
                            intro g5 cp5 w5 hown5 hgrow5 hat5 hlt5; (have HE5 := app_end (t := t) (below_join hby hbz) (by have := hbz.size; omega) HKz.out hgrow5 hown5); have HE : Hid (KS w1.heap.size w5 (some ⟨g5, 0, none⟩) cp5 (L ++ [t]) ∧ Below w1.heap.size w1 w5) := HE5
                            clear HE5 hown5 hgrow5 hat5)
                         | (refine step_append_zero rfl _ _ 48 rfl 9 i0 Try.underlying48 hi wr.heap.size 0 1 1 rfl (by omega) _ _ rfl ?_)
                         | fail)
                      all_goals
                        clear hal' hLcI; go_wp2_with fail
                        go_roundg (nodes.length - (j + 1))
                        case measure => have := HG.out; have := HJ.out; omega
                        case rel => exact ⟨j + 1, some ⟨g5, 0, none⟩, cp5, L ++ [t], by have := HJ.out; omega, rfl, by go_num, by simp, HE.out.2, HE.out.1, by have := HJ.out; simp at this ⊢; omega, HRi.out, HT.out _ HMI.out⟩
                    · have hacn : ¬ cy = L.length := fun e => hcl e.symm
                      go_wp2_with fail
                      go_quiet (fail)
                      go_wp2_with fail
                      go_region_law
                        (first
                         | (refine step_append_lies _ rfl _ _ 48 rfl w1.heap.size 9 i0 (.string ⟨#[]⟩) 1 16 Try.underlying48 hi hz0 hz1 hz2 rfl (by decide) _ _ _ rfl (HKz.out.up ((below_drewN (Below.refl _ wr) (nq + 1)).alloc (Nat.le_refl _) (.cells #[.string ⟨t.toArray⟩] 9 (0, 0)))) ⟨wr.heap.size, 0, none⟩ 1 1 [.string ⟨t.toArray⟩] rfl rfl ?_ ?_ (by omega) (by have := HJ.out; unfold maxLen; simp at this ⊢; omega) (by have := HJ.out; simp at this ⊢; omega) (by have := hbz.size; simp; omega) _ rfl ?_
                            · intro i u hu
                              rw [add_none, Nat.zero_add, show wr.heap.size = (wr.drewN (nq + 1)).heap.size from rfl, blk_cell (blk_new (wr.drewN (nq + 1)) _)]; simpa using hu
                            · intro u hu
                              simp at hu
                              rcases hu with rfl; rfl
                            intro g5 cp5 w5 hown5 hgrow5 hat5 hlt5; (have HE5 := app_end (t := t) (below_join hby hbz) (by have := hbz.size; omega) HKz.out hgrow5 hown5); have HE : Hid (KS w1.heap.size w5 (some ⟨g5, 0, none⟩) cp5 (L ++ [t]) ∧ Below w1.heap.size w1 w5) := HE5
                            clear HE5 hown5 hgrow5 hat5)
                         | (refine step_append_zero rfl _ _ 48 rfl 9 i0 Try.underlying48 hi wr.heap.size 0 1 1 rfl (by omega) _ _ rfl ?_)
                         | fail)
                      all_goals
                        clear hal' hLcI; go_wp2_with fail
                        go_roundg (nodes.length - (j + 1))
                        case measure => have := HG.out; have := HJ.out; omega
                        case rel => exact ⟨j + 1, some ⟨g5, 0, none⟩, cp5, L ++ [t], by have := HJ.out; omega, rfl, by go_num, by simp, HE.out.2, HE.out.1, by have := HJ.out; simp at this ⊢; omega, HRi.out, HT.out _ HMI.out⟩
          · rw [if_neg hk, List.append_nil] at hT
            have HT : Hid (nmsOf (nodes.take (j + 1)) = nmsOf (nodes.take j)) := hT; (have hkJ : (k2 != 1) = true := by simpa using hk); clear hT hki; go_wp2_with fail
            go_roundg (nodes.length - (j + 1))
            case measure => have := HG.out; omega
            case rel => exact ⟨j + 1, ad, cy, L, by omega, rfl, by go_num, rfl, hby, HK, by omega, HL.out.1, by rw [HT.out]; exact HL.out.2⟩
        · have HE : Hid (L = U) := HNU.out L HL.out.1 (by have := HL.out.2; rwa [List.take_of_length_le (by omega)] at this)
          (have hge : ¬ (j : Int) < (nodes.length : Int) := by omega); go_wp2_with fail
          go_roundg 0
          case measure => omega
          case rel => exact Or.inr ⟨rfl, rfl, by rw [← HE.out]; exact HK.out.list, below_join hb1 (hby.mono (Nat.le_refl _))⟩
    · have HF : Hid (TL wr _ U) := hfl
      obtain ⟨ad, cp, rfl, -⟩ := hfl; go_wp2_with fail; go_ret; exact ⟨_, rfl, HF.out, hbr⟩
theorem namesIn_any (f : Fm) (hs : f.size ≤ 200) (v : Value) (w : World) (hv : FL w v [f]) :
    Calls Try.prog 20 #[v] w fun e w' => ∃ x, e = .returned x ∧ TL w' x (nmsU f) ∧ Below w.heap.size w w' := namesIn_big f (by omega) v w hv
end Go.Proofs.Ytmahgfgndfcmpag
/- Walks: the first place of a bool; the names that are true in a row. -/
namespace Go.Proofs.Ytmahgfgndfcmpag
open Go.RowKit Go.Sort

/-- The names that are true in a row. -/
def rowN (r : Nat) : List (List UInt8) → Nat → List (List UInt8)
  | [], _ => []
  | t :: l, i => if r.testBit i then t :: rowN r l (i + 1) else rowN r l (i + 1)
theorem rowN_snoc (r : Nat) : ∀ (l : List (List UInt8)) (i : Nat) (t : List UInt8), rowN r (l ++ [t]) i = rowN r l i ++ if r.testBit (i + l.length) then [t] else []
  | [], i, t => by simp [rowN]
  | s :: l, i, t => by
    (rw [List.cons_append, rowN, rowN, rowN_snoc r l (i + 1) t, List.length_cons, show i + 1 + l.length = i + (l.length + 1) by omega])
    split <;> simp
theorem rowN_len (r : Nat) : ∀ (l : List (List UInt8)) (i : Nat), (rowN r l i).length ≤ l.length
  | [], i => by simp [rowN]
  | s :: l, i => by
    rw [rowN]; have := rowN_len r l (i + 1)
    split <;> simp <;> omega

theorem below_grown {B : Nat} {W w w5 : World} {ad : Option Addr} {cy n : Nat} {o : Obj} {xs : List Value} {T : TypeId} (hB : Below B W w) (hBs : B ≤ w.heap.size) (hk : w.ownsRow B T 1 (.slice ad n cy) n xs) (hg5 : (w.alloc o).grownBy w5 (Value.slice ad n cy).ownBlock) : Below B W w5 := by
  have h1 : Below B W (w.alloc o) := hB.alloc hBs o; (exact h1.trans ⟨hg5.os, hg5.tape, hg5.output, hg5.size, fun j hj => hg5.block j (by simp; omega) (fun e => by have := (World.ownsRow.lt hk j e.symm).1; omega)⟩)

end Go.Proofs.Ytmahgfgndfcmpag
/- Walks: namesOfPlain, Rows. -/
namespace Go.Proofs.Ytmahgfgndfcmpag
open Go.RowKit Go.Sort

mutual
theorem fine_nodes : ∀ (f : Fm), Fine f → ∀ g ∈ allN f, Fine g
  | .mk k n ks, h, g, hg => by
    rw [allN] at hg
    rcases List.mem_cons.1 hg with rfl | hg
    · exact h
    · exact fine_nodess ks (fun x hx => by
        obtain ⟨i, hi, rfl⟩ := List.getElem_of_mem hx
        exact h.kid i _ (List.getElem?_eq_getElem hi)) g hg
theorem fine_nodess : ∀ (fs : List Fm), (∀ x ∈ fs, Fine x) → ∀ g ∈ allNs fs, Fine g
  | [], _, g, hg => by rw [allNs] at hg; cases hg
  | f :: fs, h, g, hg => by
    rw [allNs] at hg
    rcases List.mem_append.1 hg with hg | hg
    · exact fine_nodes f (h f (List.mem_cons_self ..)) g hg
    · exact fine_nodess fs (fun x hx => h x (List.mem_cons_of_mem _ hx)) g hg
end
theorem nmsOf_mem : ∀ (l : List Fm) (t : ByteArray), t ∈ nmsOf l ↔ ∃ ks, Fm.mk 1 t ks ∈ l
  | [], t => by simp [nmsOf]
  | .mk k n ks :: l, t => by
    rw [nmsOf]
    split
    · rename_i hk
      subst hk; rw [List.mem_cons, nmsOf_mem l t]
      constructor
      · rintro (rfl | ⟨x, hx⟩)
        · exact ⟨ks, List.mem_cons_self ..⟩
        · exact ⟨x, List.mem_cons_of_mem _ hx⟩
      · rintro ⟨x, hx⟩
        rcases List.mem_cons.1 hx with h | h
        · injection h with _ h _; exact Or.inl h
        · exact Or.inr ⟨x, h⟩
    · rename_i hk
      rw [nmsOf_mem l t]
      constructor
      · rintro ⟨x, hx⟩; exact ⟨x, List.mem_cons_of_mem _ hx⟩
      · rintro ⟨x, hx⟩
        rcases List.mem_cons.1 hx with h | h
        · injection h with h _ _; exact absurd h.symm hk
        · exact ⟨x, h⟩
theorem nmsU_nm {f : Fm} (hf : Fine f) (t : List UInt8) (ht : t ∈ nmsU f) : isNm t = true := by
  rw [nmsU_mem] at ht; unfold nmsT at ht; obtain ⟨b, hb, rfl⟩ := List.mem_map.1 ht; obtain ⟨ks, hk⟩ := (nmsOf_mem _ _).1 hb; have := fine_nodes f hf _ hk
  rcases this.forms with ⟨m, e, hn⟩ | e | e | ⟨c, g, hk, e, hg⟩ | ⟨c, g, g', hk, e, hg, hg'⟩
  · cases e; exact hn
  · cases e
  · cases e
  · injection e with e _ _; subst e; rcases hk with h | h | h <;> cases h
  · injection e with e _ _; subst e; rcases hk with h | h | h <;> cases h
theorem nmsU_small {f : Fm} (hf : Fine f) (t : List UInt8) (ht : t ∈ nmsU f) : t.length ≤ 8 := by
  have := isNm_bd (nmsU_nm hf t ht); omega
theorem nmsU_nodup (f : Fm) : (nmsU f).Nodup := (nmsU_rising f).imp fun h e => by subst e; exact lt_irr _ h
theorem TL.sl {w : World} {v : Value} {l : List (List UInt8)} (h : TL w v l) : SL w v l := by
  obtain ⟨ad, cap, h1, h2, h3, h4⟩ := h; (refine ⟨ad, cap, h1, h2, h3, fun hne => ?_⟩); obtain ⟨g, h5, h6⟩ := h4 hne; (exact ⟨g, 0, h5, fun j t ht => by rw [Nat.zero_add]; exact h6 j t ht⟩)

end Go.Proofs.Ytmahgfgndfcmpag
/- Walks: isNoName, IndexFunc over texts, Value. -/
namespace Go.Proofs.Ytmahgfgndfcmpag
open Go.RowKit Go.Sort

theorem code_name (s : ByteArray) : (Fm.mk 1 s []).code = if isNm s.data.toList then (0, 0) else (8, 0) := by
  by_cases h : isNm s.data.toList = true
  · rw [if_pos h]
    (have := chk_fine (.mk 1 s []) 0 (by have := fine_name (l := s.data.toList) h; exact this) (by rw [size_leaf]; omega)); simp only [Fm.code, this]
  · rw [if_neg h]
    have hn : nodeF 1 s 0 = some 8 := by
      (have h1 : kindB 1 = true := by decide); (have h2 : kidsN 1 = 0 := by decide); (have h3 : nameB 1 s = true := by simp [nameB, h]); simp [nodeF, h1, h2, h3]
    have : chk (.mk 1 s []) 0 = .bad 8 0 := by
      rw [chk]; simp [hn]
    simp only [Fm.code, this]; rfl

theorem fault_code (a b : Int) (w : World) : (Instr.field 34 (.agg #[.int .i64 a, .int .i64 b]) 0).run Try.prog w = .ok (.int .i64 a) w := by kernel_rfl

/-- What is asked of texts, whatever they are. -/
structure PredS (fn : Nat) (cap : Array Value) (p : List UInt8 → Bool) (Ok : World → Prop) : Prop where
  up : ∀ {w w' : World}, Ok w → Below w.heap.size w w' → Ok w'
  ent : ∀ (v : Value) (w : World), (callFunc fn (#[v] ++ cap)).run Try.prog w = .ok (.enter fn (#[v] ++ cap)) w
  call : ∀ (t : List UInt8) (w : World), Ok w → t.length ≤ maxLen → Calls Try.prog fn (#[.string ⟨t.toArray⟩] ++ cap) w fun e w' => e = .returned (.bool (p t)) ∧ Below w.heap.size w w'

/-- Where it is so first, or -1. -/
def fIdxP (p : List UInt8 → Bool) (l : List (List UInt8)) : Int := if l.any p then (l.findIdx p : Nat) else -1

theorem findIdx_at {p : List UInt8 → Bool} {l : List (List UInt8)} {i : Nat} {t : List UInt8} (h : (l.take i).any p = false) (ht : l[i]? = some t) (hp : p t = true) : l.findIdx p = i := by
  have hi : i < l.length := by
    rcases Nat.lt_or_ge i l.length with h' | h'
    · exact h'
    · rw [List.getElem?_eq_none h'] at ht; cases ht
  rw [List.getElem?_eq_getElem hi] at ht; have e := Option.some.inj ht; rw [List.findIdx_eq hi]; (refine ⟨by rw [e]; exact hp, fun j hj => ?_⟩); (have := (List.any_eq_false.1 h) (l[j]'(by omega)) (List.mem_take_iff_getElem.2 ⟨j, by omega, rfl⟩)); simpa using this

set_option maxHeartbeats 2000000 in
theorem idxFunc_str {fn : Nat} {cp : Array Value} {p : List UInt8 → Bool} {Ok : World → Prop} (A : PredS fn cp p Ok) (l : List (List UInt8)) (hmx : ∀ t ∈ l, t.length ≤ maxLen) (v : Value) (w : World) (hv : SL w v l) (hok : Ok w) :
    Calls Try.prog 100 #[v, .func (.func fn) #[] cp] w fun e w' => e = .returned (.int .i64 (fIdxP p l)) ∧ Below w.heap.size w w' := by
  obtain ⟨ad, cap, rfl, h1, h2, h3⟩ := hv; (have hlI : (l.length : Int) ≤ 9223372036854775807 := by unfold maxLen at h2; omega); have H3 : Hid (l ≠ [] → ∃ g off, ad = some ⟨g, off, none⟩ ∧ ∀ (j : Nat) (t : List UInt8), l[j]? = some t → w.cell? ⟨g, off + j, none⟩ = some (.string ⟨t.toArray⟩)) := h3; (have HA : Hid (∀ (t : List UInt8) (w : World), Ok w → t.length ≤ maxLen → Calls Try.prog fn (#[.string ⟨t.toArray⟩] ++ cp) w fun e w' => e = .returned (.bool (p t)) ∧ Below w.heap.size w w') := A.call); have HU : Hid (∀ {w w' : World}, Ok w → Below w.heap.size w w' → Ok w') := A.up; have HMx : Hid (∀ t ∈ l, t.length ≤ maxLen) := hmx; have HO : Hid (Ok w) := hok; have hcf := A.ent; clear h3 hmx hok A
  go_enter Try.func100, Try.ntmps100
  go_wp2_with fail
  go_loopg [8] l.length (fun g c wr => ∃ i, i ≤ l.length ∧ g = l.length - i ∧ c = .int .i64 (i : Nat) ∧ Below w.heap.size w wr ∧ Hid ((l.take i).any p = false))
  case atStart => exact ⟨0, by omega, by omega, rfl, Below.refl _ _, by show _ = _; rfl⟩
  case round =>
    obtain ⟨i, hi, hg, rfl, hbr, HN⟩ := hrel; have HG : Hid (gk = l.length - i) := hg; clear hg; by_cases hlt : i < l.length
    · obtain ⟨t, ht⟩ : ∃ x, l[i]? = some x := ⟨_, List.getElem?_eq_getElem hlt⟩
      (obtain ⟨g, off, rfl, hc⟩ := H3.out (fun e => by rw [e] at hlt; simp at hlt)); have g0 := (hbr.cell (p := ⟨g, off + i, none⟩) (lt_of_cell (hc i t ht))).trans (hc i t ht); (have hltI : (i : Int) < (l.length : Int) := by omega); (have hlc : (i : Int) < (cap : Int) := by omega); have hcc := HA.out t wr (HU.out HO.out hbr) (HMx.out t (List.mem_of_getElem? ht))
      have HXi : Hid (p t = true → fIdxP p l = ((i : Nat) : Int)) := fun hp => by
        unfold fIdxP; rw [if_pos (List.any_eq_true.2 ⟨t, List.mem_of_getElem? ht, hp⟩), findIdx_at HN.out ht hp]
      have HXn : Hid (p t = false → (l.take (i + 1)).any p = false) := fun hp => by
        rw [List.take_add_one, ht, List.any_append, HN.out]; simp [hp]
      generalize p t = bb at *; have HCC : Hid (Calls Try.prog fn _ wr _) := hcc; generalize (⟨t.toArray⟩ : ByteArray) = T at *; clear hc ht H3 hcc; go_wp2_with fail; refine HCC.out.mono ?_; rintro e w1 ⟨rfl, hb1⟩; have B1 := below_join hbr hb1
      cases bb
      · have HX := HXn.out (by first | rfl | trivial)
        have HX' : Hid ((l.take (i + 1)).any p = false) := HX; clear HX HXn HXi; go_wp2_with fail
        go_roundg (l.length - (i + 1))
        case measure => have := HG.out; omega
        case rel => exact ⟨i + 1, by omega, rfl, by go_num, B1, HX'⟩
      · have HX := HXi.out (by first | rfl | trivial)
        have HX' : Hid (fIdxP p l = ((i : Nat) : Int)) := HX; clear HX HXn HXi; go_wp2_with fail; go_ret; (exact ⟨by rw [HX'.out]; rfl, B1⟩)
    · have HT : Hid (fIdxP p l = -1) := by
        have := HN.out; (rw [List.take_of_length_le (by omega)] at this); show _ = _; unfold fIdxP; rw [this]; rfl
      (have hge : ¬ (i : Int) < (l.length : Int) := by omega); clear H3 HN; go_wp2_with fail; go_ret; (exact ⟨by rw [HT.out]; rfl, hbr⟩)

end Go.Proofs.Ytmahgfgndfcmpag
/- Walks: the yardstick's HasText, True, Row. -/
namespace Go.Proofs.Ytmahgfgndfcmpag
open Go.RowKit Go.Sort

set_option maxHeartbeats 1000000 in
theorem hasText_sl (l : List (List UInt8)) (t : List UInt8) (v : Value) (w : World) (h : SL w v l) :
    Calls Try.prog 46 #[v, .string ⟨t.toArray⟩] w fun e w' => e = .returned (.bool (decide (t ∈ l))) ∧ w' = w := by
  obtain ⟨ad, cap, rfl, h1, h2, h3⟩ := h; (have hlI : (l.length : Int) ≤ 9223372036854775807 := by unfold maxLen at h2; omega); have H3 : Hid (l ≠ [] → ∃ g off, ad = some ⟨g, off, none⟩ ∧ ∀ (j : Nat) (t : List UInt8), l[j]? = some t → w.cell? ⟨g, off + j, none⟩ = some (.string ⟨t.toArray⟩)) := h3; clear h3
  go_enter Try.func46, Try.ntmps46
  go_wp2_with fail
  go_loopg [5] l.length (fun g c wr => ∃ i, i ≤ l.length ∧ g = l.length - i ∧ c = .int .i64 (i : Nat) ∧ wr = w ∧ Hid (t ∉ l.take i))
  case atStart => exact ⟨0, by omega, by omega, rfl, rfl, by show _ ∉ _; simp⟩
  case round =>
    obtain ⟨i, hi, hg, rfl, rfl, HN⟩ := hrel; have HG : Hid (gk = l.length - i) := hg; clear hg; by_cases hlt : i < l.length
    · obtain ⟨x, hx⟩ : ∃ x, l[i]? = some x := ⟨_, List.getElem?_eq_getElem hlt⟩
      (obtain ⟨g, off, rfl, hc⟩ := H3.out (fun e => by rw [e] at hlt; simp at hlt)); have g0 := hc i x hx; (have hltI : (i : Int) < (l.length : Int) := by omega); (have hlc : (i : Int) < (cap : Int) := by omega); have HX : Hid (l[i]? = some x) := hx; clear hc hx H3; by_cases hxt : x = t
      · subst hxt
        have HD : Hid (decide (x ∈ l) = true) := by
          show _ = _; exact decide_eq_true (List.mem_of_getElem? HX.out)
        go_wp2_with fail; go_ret; (exact ⟨by rw [HD.out]; rfl, rfl⟩)
      · have hne : ((⟨x.toArray⟩ : ByteArray).toList == (⟨t.toArray⟩ : ByteArray).toList) = false := by
          rw [beq_eq_false_iff_ne, Ne, txt_eq]; exact hxt
        have HNN : Hid (t ∉ l.take (i + 1)) := by
          show _ ∉ _; rw [List.take_add_one, HX.out]; intro hm
          rcases List.mem_append.1 hm with h | h
          · exact HN.out h
          · simp at h; exact hxt h.symm
        generalize hb : (⟨x.toArray⟩ : ByteArray) = X at *; generalize hb2 : (⟨t.toArray⟩ : ByteArray) = Y at *; clear hb hb2 HX; go_wp2_with fail
        go_roundg (l.length - (i + 1))
        case measure => have := HG.out; omega
        case rel => exact ⟨i + 1, by omega, rfl, by go_num, rfl, HNN⟩
    · have HD : Hid (decide (t ∈ l) = false) := by
        show _ = _; have := HN.out; (rw [List.take_of_length_le (by omega)] at this); exact decide_eq_false this
      (have hge : ¬ (i : Int) < (l.length : Int) := by omega); clear H3 HN; go_wp2_with fail; go_ret; (exact ⟨by rw [HD.out]; rfl, rfl⟩)

/-! The yardstick's row. -/
theorem half_bit (r i : Nat) : (r / 2 ^ i % 2 = 1) ↔ r.testBit i = true := by
  rw [Nat.testBit_eq_decide_div_mod_eq]; simp

end Go.Proofs.Ytmahgfgndfcmpag
/- Walks: the yardstick's PlainFault. -/
namespace Go.Proofs.Ytmahgfgndfcmpag
open Go.RowKit Go.Sort

set_option maxHeartbeats 1000000 in
theorem mkF_any (c a : Int) (w : World) : Calls Try.prog 21 #[.int .i64 c, .int .i64 a] w fun e w' => e = .returned (.agg #[.int .i64 c, .int .i64 a]) ∧ Below w.heap.size w w' := by
  have B := below_more (Below.refl _ w) (.cells #[.int .i64 c, .int .i64 a] 34 (0, 0))
  go_enter Try.func21, Try.ntmps21
  go_wp2_with fail; (exact bodyPost_ret (v := .agg #[.int .i64 c, .int .i64 a]) (by simp [results, Try.results21, go_sem]) rfl ⟨rfl, B⟩)

end Go.Proofs.Ytmahgfgndfcmpag
/- Walks: the opposite of a formula. -/
namespace Go.Proofs.Ytmahgfgndfcmpag
open Go.RowKit Go.Sort

set_option maxHeartbeats 1000000 in
theorem ofP_any (ok : Nat → Prop) (k : Int) (f : Fm) (v : Value) (w : World) (ho : ∀ b, w.heap.size ≤ b → ok b) (hv : Rep w ok f v) :
    Calls Try.prog 24 #[.int .i64 k, v] w fun e w' => ∃ x, e = .returned x ∧ Rep w' ok (.mk k ⟨#[]⟩ [f]) x ∧ Below w.heap.size w w' := by
  obtain ⟨k1, n1, ks1⟩ := f; obtain ⟨sl1, cp1, rfl⟩ := slice_shape hv; have HV : Hid (Rep w ok (.mk k1 n1 ks1) (.agg #[.int .i64 k1, .string n1, .slice sl1 ks1.length cp1])) := hv; have HO : Hid (∀ b, w.heap.size ≤ b → ok b) := ho; clear hv ho
  go_enter Try.func24, Try.ntmps24
  go_wp2_with fail; have q := blk_new ((w.alloc (.cells #[.int .i64 k1, .string n1, .slice sl1 ks1.length cp1] 28 (0, 0))).alloc (.cells #[.int .i64 k, .string ⟨#[]⟩, .slice (some ⟨w.heap.size + 1 + 1, 0, none⟩) 1 1] 28 (0, 0))) (.cells #[.int .i64 k1, .string n1, .slice sl1 ks1.length cp1] 28 (0, 0)); (rw [show ((w.alloc (.cells #[.int .i64 k1, .string n1, .slice sl1 ks1.length cp1] 28 (0, 0))).alloc (.cells #[.int .i64 k, .string ⟨#[]⟩, .slice (some ⟨w.heap.size + 1 + 1, 0, none⟩) 1 1] 28 (0, 0))).heap.size = w.heap.size + 1 + 1 by simp] at q); have B := below_more (below_more (below_more (Below.refl _ w) (.cells #[.int .i64 k1, .string n1, .slice sl1 ks1.length cp1] 28 (0, 0))) (.cells #[.int .i64 k, .string ⟨#[]⟩, .slice (some ⟨w.heap.size + 1 + 1, 0, none⟩) 1 1] 28 (0, 0))) (.cells #[.int .i64 k1, .string n1, .slice sl1 ks1.length cp1] 28 (0, 0)); (exact bodyPost_ret (v := .agg #[.int .i64 k, .string ⟨#[]⟩, .slice (some ⟨w.heap.size + 1 + 1, 0, none⟩) 1 1]) (by simp [results, Try.results24, go_sem]) rfl ⟨_, rfl, Rep.one q (HO.out _ (by omega)) (HV.out.up' B), B⟩)

end Go.Proofs.Ytmahgfgndfcmpag
/- Walks: bits; Rows and Valid in one. -/
namespace Go.Proofs.Ytmahgfgndfcmpag
open Go.RowKit Go.Sort

set_option maxHeartbeats 1000000 in
theorem bits_same (l : List Bool) (v u : Value) (w : World) (h : BL w v l) (h' : BL w u l) :
    Calls Try.prog 18 #[v, u] w fun e w' => e = .returned (.bool true) ∧ Below w.heap.size w w' := by
  obtain ⟨ad, cap, rfl, h1, h2, h3⟩ := h; obtain ⟨ad', cap', rfl, h1', h2', h3'⟩ := h'; (have hlI : (l.length : Int) ≤ 9223372036854775807 := by unfold maxLen at h2; omega); have H3 : Hid (l ≠ [] → ∃ g off, ad = some ⟨g, off, none⟩ ∧ ∀ (j : Nat) (b : Bool), l[j]? = some b → w.cell? ⟨g, off + j, none⟩ = some (.bool b)) := h3; have H3' : Hid (l ≠ [] → ∃ g off, ad' = some ⟨g, off, none⟩ ∧ ∀ (j : Nat) (b : Bool), l[j]? = some b → w.cell? ⟨g, off + j, none⟩ = some (.bool b)) := h3'; clear h3 h3'
  go_enter Try.func18, Try.ntmps18
  go_wp2_with fail
  go_loopg [5] l.length (fun g c wr => ∃ i, i ≤ l.length ∧ g = l.length - i ∧ c = .int .i64 (i : Nat) ∧ Below w.heap.size w wr)
  case atStart => exact ⟨0, by omega, by omega, rfl, Below.refl _ _⟩
  case round =>
    obtain ⟨i, hi, hg, rfl, hbr⟩ := hrel; have HG : Hid (gk = l.length - i) := hg; clear hg; by_cases hlt : i < l.length
    · obtain ⟨x, hx⟩ : ∃ x, l[i]? = some x := ⟨_, List.getElem?_eq_getElem hlt⟩
      (obtain ⟨g, off, rfl, hc⟩ := H3.out (fun e => by rw [e] at hlt; simp at hlt)); (obtain ⟨g', off', rfl, hc'⟩ := H3'.out (fun e => by rw [e] at hlt; simp at hlt)); have g0 := (hbr.cell (p := ⟨g, off + i, none⟩) (lt_of_cell (hc i x hx))).trans (hc i x hx); have g1 := (hbr.cell (p := ⟨g', off' + i, none⟩) (lt_of_cell (hc' i x hx))).trans (hc' i x hx); (have hltI : (i : Int) < (l.length : Int) := by omega); (have hlc : (i : Int) < (cap : Int) := by omega); (have hlc' : (i : Int) < (cap' : Int) := by omega); clear hc hc' hx H3 H3'; go_wp2_with fail
      go_quiet (fail)
      go_wp2_with fail
      go_roundg (l.length - (i + 1))
      case measure => have := HG.out; omega
      case rel => exact ⟨i + 1, by omega, rfl, by go_num, ⟨hbr.os, hbr.tape, hbr.output, hbr.size, hbr.block⟩⟩
    · have hge : ¬ (i : Int) < (l.length : Int) := by omega
      clear H3 H3'; go_wp2_with fail; go_ret; exact ⟨rfl, hbr⟩

end Go.Proofs.Ytmahgfgndfcmpag
/- The plain mathematics of TruthValues: a row as a list of names, and as digits. -/
namespace Go.Proofs.Ytmahgfgndfcmpag
open Go.Sort

theorem rowN_mem (r : Nat) : ∀ (l : List (List UInt8)) (i : Nat) (t : List UInt8), t ∈ rowN r l i ↔ ∃ j, l[j]? = some t ∧ r.testBit (i + j) = true
  | [], i, t => by simp [rowN]
  | s :: l, i, t => by
    rw [rowN]; have ih := rowN_mem r l (i + 1) t
    have hsp : (∃ j, (s :: l)[j]? = some t ∧ r.testBit (i + j) = true) ↔ (s = t ∧ r.testBit i = true) ∨ ∃ j, l[j]? = some t ∧ r.testBit (i + 1 + j) = true := by
      constructor
      · rintro ⟨j, h1, h2⟩
        cases j with
        | zero => simp at h1; exact Or.inl ⟨h1, by simpa using h2⟩
        | succ j => exact Or.inr ⟨j, by simpa using h1, by rw [show i + 1 + j = i + (j + 1) by omega]; exact h2⟩
      · rintro (⟨h1, h2⟩ | ⟨j, h1, h2⟩)
        · exact ⟨0, by simp [h1], by simpa using h2⟩
        · exact ⟨j + 1, by simpa using h1, by rw [show i + (j + 1) = i + 1 + j by omega]; exact h2⟩
    rw [hsp]
    split
    · rename_i hb
      rw [List.mem_cons, ih]
      constructor
      · rintro (h | h)
        · exact Or.inl ⟨h.symm, hb⟩
        · exact Or.inr h
      · rintro (⟨h, -⟩ | h)
        · exact Or.inl h.symm
        · exact Or.inr h
    · rename_i hb
      rw [ih]
      constructor
      · exact Or.inr
      · rintro (⟨-, h⟩ | h)
        · exact absurd h hb
        · exact h

end Go.Proofs.Ytmahgfgndfcmpag
/- Proofs as data, and what the checker says of them. -/
namespace Go.Proofs.Ytmahgfgndfcmpag

instance : BEq Fm := ⟨sameB⟩
instance : LawfulBEq Fm where
  eq_of_beq := fun {a b} h => sameB_eq a b h
  rfl := fun {a} => sameB_refl a
instance : DecidableEq Fm := fun a b => if h : (a == b) = true then isTrue (eq_of_beq h) else isFalse fun e => h (by rw [e]; exact sameB_refl b)

/-! What is proved is true. -/
end Go.Proofs.Ytmahgfgndfcmpag
/- Walks: bag.Without. -/
namespace Go.Proofs.Ytmahgfgndfcmpag
open Go.RowKit

theorem wrap_small (n : Nat) (h : n < 9223372036854775808) : IntKind.i64.wrap (n : Int) = (n : Int) := by
  (have h1 : (n : Int).toNat = n := by omega); simp [IntKind.wrap, IntKind.bits, IntKind.signed]; omega

end Go.Proofs.Ytmahgfgndfcmpag
/- Walks: calculus.CheckSequent, isNoEnd. -/
namespace Go.Proofs.Ytmahgfgndfcmpag
open Go.RowKit

theorem blk_two (w : World) (o o' : Obj) : ((w.alloc o).alloc o').heap[w.heap.size + 1]? = some o' := by
  have := blk_new (w.alloc o) o'
  rwa [show (w.alloc o).heap.size = w.heap.size + 1 by simp] at this
end Go.Proofs.Ytmahgfgndfcmpag
/- Sequents in memory; facts that stay. -/
namespace Go.Proofs.Ytmahgfgndfcmpag
open Go.RowKit

theorem FL.sing {w : World} {b : Nat} {T : TypeId} {c0 c1 c2 : Value} {f : Fm} (hb : w.heap[b]? = some (.cells #[c0, c1, c2] T (0, 0))) (h : Rep w (fun _ => True) f (.agg #[c0, c1, c2])) : FL w (.slice (some ⟨b, 0, none⟩) 1 1) [f] :=
  ⟨_, 1, rfl, Nat.le_refl _, by simp [maxLen], fun _ => ⟨b, 0, rfl, Reps.cons.2 ⟨⟨c0, c1, c2, blk_cell hb 0, blk_cell hb 1, blk_cell hb 2, h⟩, Reps.nil⟩⟩⟩
/-! The facts on the way through a region. -/
end Go.Proofs.Ytmahgfgndfcmpag
/- A frame behind a drawn region whose slots lie in a row. -/
namespace Go.Proofs.Ytmahgfgndfcmpag
open Go.RowKit

theorem frame_mid2 {ops : Array Oper} {tm : Array Value} {df : List Deferred} {a0 : Act} (lo n : Nat) (hin : (ops.toList.all fun o => match o.dst with | some d => decide (lo ≤ d ∧ lo + n > d) | none => true) = true) (hlen : lo + n ≤ a0.tmps.size) (h : OldSlots ops a0 ⟨tm, df⟩) : ∃ ys : List Value, ys.length = n ∧ tm = ⟨a0.tmps.toList.take lo ++ (ys ++ a0.tmps.toList.drop (lo + n))⟩ ∧ df = a0.defers := by
  obtain ⟨h1, h2, h3⟩ := h; have h1' : tm.toList.length = a0.tmps.toList.length := h1; have hl : lo + n ≤ a0.tmps.toList.length := hlen
  have old : ∀ t, (t < lo ∨ lo + n ≤ t) → tm.toList[t]? = a0.tmps.toList[t]? := fun t ht => by
    have := h3 t (by
      rw [List.all_eq_true] at hin ⊢; intro o ho; have := hin o ho
      cases hd : o.dst with
      | none => rfl
      | some d =>
        rw [hd] at this; have := of_decide_eq_true this; (refine bne_iff_ne.2 fun e => ?_); have e2 : d = t := Option.some.inj e; subst e2
        omega)
    simpa using this
  (refine ⟨(tm.toList.drop lo).take n, by rw [List.length_take, List.length_drop]; omega, ?_, h2⟩); apply Array.ext'; apply List.ext_getElem?; intro t
  rcases Nat.lt_or_ge t lo with ht | ht
  · rw [List.getElem?_append_left (by rw [List.length_take]; omega), List.getElem?_take_of_lt ht]
    exact old t (Or.inl ht)
  · rw [List.getElem?_append_right (by rw [List.length_take]; omega), List.length_take, Nat.min_eq_left (by omega)]
    rcases Nat.lt_or_ge t (lo + n) with ht2 | ht2
    · rw [List.getElem?_append_left (by rw [List.length_take, List.length_drop]; omega), List.getElem?_take_of_lt (by omega), List.getElem?_drop]
      congr 1
      omega
    · rw [List.getElem?_append_right (by rw [List.length_take, List.length_drop]; omega), List.length_take, List.length_drop, Nat.min_eq_left (by omega), List.getElem?_drop, old t (Or.inr ht2)]
      congr 1
      omega
end Go.Proofs.Ytmahgfgndfcmpag
/- Walks: lists of texts behind each other (slices.Grow, slices.Concat), and an append of texts. -/
namespace Go.Proofs.Ytmahgfgndfcmpag
open Go.RowKit Go.Sort

/-- Lists of texts in a list. -/
def SLs (w : World) (v : Value) (rs : List (List (List UInt8))) : Prop := ∃ ad cap, v = .slice ad rs.length cap ∧ rs.length ≤ cap ∧ cap ≤ maxLen ∧ (rs ≠ [] → ∃ b off, ad = some ⟨b, off, none⟩ ∧ ∀ (j : Nat) (r : List (List UInt8)), rs[j]? = some r → ∃ u, w.cell? ⟨b, off + j, none⟩ = some u ∧ SL w u r)
end Go.Proofs.Ytmahgfgndfcmpag
/- Models as data, in memory, and what is wrong with them. -/
namespace Go.Proofs.Ytmahgfgndfcmpag
open Go.RowKit

/-- A model: worlds, pairs, and the names of each world. -/
structure Mdl where
  n : Int
  rel : List (Int × Int)
  tr : List (List (List UInt8))
/-- Pairs in memory. -/
def PL (w : World) (v : Value) (rs : List (Int × Int)) : Prop := ∃ ad cap, v = .slice ad rs.length cap ∧ rs.length ≤ cap ∧ cap ≤ maxLen ∧ (rs ≠ [] → ∃ b off, ad = some ⟨b, off, none⟩ ∧ ∀ (j : Nat) (x y : Int), rs[j]? = some (x, y) → w.cell? ⟨b, off + j * 2, none⟩ = some (.int .i64 x) ∧ w.cell? ⟨b, off + j * 2 + 1, none⟩ = some (.int .i64 y))
theorem PL.up {w w' : World} {v : Value} {rs : List (Int × Int)} (h : PL w v rs) (hb : Below w.heap.size w w') : PL w' v rs := by
  obtain ⟨ad, cap, rfl, h1, h2, h3⟩ := h; (refine ⟨ad, cap, rfl, h1, h2, fun hne => ?_⟩); obtain ⟨b, off, rfl, hc⟩ := h3 hne; (refine ⟨b, off, rfl, fun j x y hj => ?_⟩); obtain ⟨c1, c2⟩ := hc j x y hj; exact ⟨(hb.cell (lt_of_cell c1)).trans c1, (hb.cell (lt_of_cell c2)).trans c2⟩
theorem SLs.upM {w w' : World} {v : Value} {rs : List (List (List UInt8))} (h : SLs w v rs) (hb : Below w.heap.size w w') : SLs w' v rs := by
  obtain ⟨ad, cap, rfl, h1, h2, h3⟩ := h; (refine ⟨ad, cap, rfl, h1, h2, fun hne => ?_⟩); obtain ⟨b, off, rfl, hc⟩ := h3 hne; (refine ⟨b, off, rfl, fun j r hj => ?_⟩); obtain ⟨u, c1, c2⟩ := hc j r hj; exact ⟨u, (hb.cell (lt_of_cell c1)).trans c1, c2.up hb⟩
/-- A model in memory. -/
def MR (w : World) (m : Mdl) (v : Value) : Prop := ∃ ra rc ta tc, v = .agg #[.int .i64 m.n, .slice ra m.rel.length rc, .slice ta m.tr.length tc] ∧ PL w (.slice ra m.rel.length rc) m.rel ∧ SLs w (.slice ta m.tr.length tc) m.tr ∧ ∀ l ∈ m.tr, ∀ t ∈ l, t.length ≤ maxLen
theorem MR.up {w w' : World} {m : Mdl} {v : Value} (h : MR w m v) (hb : Below w.heap.size w w') : MR w' m v := by
  obtain ⟨ra, rc, ta, tc, e, h1, h2, h3⟩ := h; exact ⟨ra, rc, ta, tc, e, h1.up hb, h2.upM hb, h3⟩
def pairBad (n : Int) (p : Int × Int) : Bool := decide (p.1 < 0) || decide (n ≤ p.1) || (decide (p.2 < 0) || decide (n ≤ p.2))
def wcode (l : List (List UInt8)) : Int := if 30 < l.length then 2 else if l.any (fun t => !isNm t) then 8 else 0
def wfirst : List (List (List UInt8)) → Nat → Int × Int
  | [], _ => (0, 0)
  | l :: ls, i => if wcode l = 0 then wfirst ls (i + 1) else (wcode l, (i : Nat))
/-- What is wrong with a model of at most so many worlds and pairs. -/
def mdcode (W P : Int) (m : Mdl) : Int × Int :=
  if m.n < 1 ∨ W < m.n ∨ P < (m.rel.length : Int) then (2, 0)
  else if (m.tr.length : Int) ≠ m.n then (9, 0)
  else if m.rel.any (pairBad m.n) then (3, ((m.rel.findIdx (pairBad m.n) : Nat) : Int))
  else wfirst m.tr 0
theorem any_take {α : Type} {l : List α} {p : α → Bool} {i : Nat} {x : α} (h : (l.take i).any p = false) (hx : l[i]? = some x) : (l.take (i + 1)).any p = p x := by
  rw [List.take_add_one, hx, List.any_append, h]
  simp
theorem findIdx_first {α : Type} {l : List α} {p : α → Bool} {i : Nat} {x : α} (h : (l.take i).any p = false) (hx : l[i]? = some x) (hp : p x = true) : l.findIdx p = i ∧ l.any p = true := by
  have hi : i < l.length := by
    rcases Nat.lt_or_ge i l.length with h | h
    · exact h
    · rw [List.getElem?_eq_none h] at hx; cases hx
  (have e : l[i] = x := by rw [List.getElem?_eq_getElem hi] at hx; exact Option.some.inj hx); refine ⟨?_, List.any_eq_true.2 ⟨x, List.mem_of_getElem? hx, hp⟩⟩; rw [List.findIdx_eq hi]; (refine ⟨by rw [e]; exact hp, fun j hj => ?_⟩); (have := (List.any_eq_false.1 h) (l[j]'(by omega)) (List.mem_take_iff_getElem.2 ⟨j, by omega, rfl⟩)); simpa using this
theorem wfirst_drop {ls : List (List (List UInt8))} {i : Nat} {l : List (List UInt8)} (h : ls[i]? = some l) (j : Nat) : wfirst (ls.drop i) j = if wcode l = 0 then wfirst (ls.drop (i + 1)) (j + 1) else (wcode l, ((j : Nat) : Int)) := by
  have hi : i < ls.length := by
    rcases Nat.lt_or_ge i ls.length with h1 | h1
    · exact h1
    · rw [List.getElem?_eq_none h1] at h; cases h
  (have e : ls[i] = l := by rw [List.getElem?_eq_getElem hi] at h; exact Option.some.inj h); rw [List.drop_eq_getElem_cons hi, e, wfirst]
end Go.Proofs.Ytmahgfgndfcmpag
/- Lists copied: an append behind nothing, whatever the elements; pairs and lists of texts of one's own. -/
namespace Go.Proofs.Ytmahgfgndfcmpag
open Go.RowKit Go.Sort

theorem infoPr : ∃ i, Try.prog.info? 82 = some i ∧ i.zero = some (.agg #[.int .i64 0, .int .i64 0]) ∧ i.size = 2 ∧ i.bytes = 16 := by
  (obtain ⟨i, hi, h⟩ := Option.map_eq_some_iff.1 (show (Try.prog.info? 82).map (fun i => (i.zero, i.size, i.bytes)) = some (some (.agg #[.int .i64 0, .int .i64 0]), 2, 16) by kernel_rfl)); simp only [Prod.mk.injEq] at h; exact ⟨i, hi, h.1, h.2.1, h.2.2⟩
theorem infoTx : ∃ i, Try.prog.info? 48 = some i ∧ i.zero = some (.slice none 0 0) ∧ i.size = 1 ∧ i.bytes = 24 := by
  (obtain ⟨i, hi, h⟩ := Option.map_eq_some_iff.1 (show (Try.prog.info? 48).map (fun i => (i.zero, i.size, i.bytes)) = some (some (.slice none 0 0), 1, 24) by kernel_rfl)); simp only [Prod.mk.injEq] at h; exact ⟨i, hi, h.1, h.2.1, h.2.2⟩
/-- An append behind nothing. -/
theorem step_app0 {ops : Array Oper} {o : Oper} {a : Act} {w : World} {K : Act → World → Prop} {Q : Exit → Act → World → Prop} {E : Prop} (hgd : o.guard = none) (s x : Operand) (t : TypeId) (hop : o.op = Op.call { callee := Callee.builtin Builtin.append, args := #[s, x], argTypes := #[t, t] })
    (e : TypeId) (i0 : TypeInfo) (z : Value) (size bytes : Nat) (ht : Try.prog.underlying t = some (.slice e)) (hi : Try.prog.info? e = some i0) (hz : i0.zero = some z) (hsize : i0.size = size) (hby : i0.bytes = bytes) (hzs : z.cells.size = size) (hsz : 0 < size)
    (x0 : Option Addr) (m c : Nat) (news : List Value) (hs : a.eval s = .slice none 0 0) (hx : a.eval x = .slice x0 m c) (hl : news.length = m * size) (hn : 0 < m → ∃ b off, x0 = some ⟨b, off, none⟩ ∧ ∀ j u, news[j]? = some u → w.cell? ⟨b, off + j, none⟩ = some u) (h1 : ∀ u ∈ news, u.oneCell' = true) (hmx : m ≤ maxLen) (hmb : m * bytes ≤ 140737488355328)
    (h : ∀ ad3 cp3 w3, w3.ownsRow w.heap.size e size (.slice ad3 m cp3) m news → Below w.heap.size w w3 → K (a.put o.dst (.slice ad3 m cp3)) w3) : if Region.wanted o (yielded ops a.tmps) = true then Oper.wp Try.prog o a w K Q else E := by
  (have hw : Region.wanted o (yielded ops a.tmps) = true := by simp [Region.wanted, hgd]); rw [if_pos hw]; (have hown : w.ownsRow w.heap.size e size (.slice none 0 0) 0 [] := ⟨by simp, Or.inl ⟨rfl, rfl⟩⟩)
  rcases Nat.eq_zero_or_pos m with hm | hm
  · subst hm
    (have hnil : news = [] := List.length_eq_zero_iff.1 (by rw [hl]; omega)); subst hnil
    have hsrc : Src Try.prog i0.size t (.slice x0 0 c) 0 [] w := by
      cases x0 with
      | none => exact Src.ofNil w ht c
      | some ad => exact Src.ofSlice w ht ad 0 c [] (by simp) (fun j u h => by simp at h) (fun u h => by cases h)
    have hrun := run_append_nothing (P := Try.prog) w t t o.type e i0 ht hi none 0 0 (Nat.le_refl _) (.slice x0 0 c) hsrc; have h9 := h none 0 w hown (Below.refl _ _); unfold Oper.wp; simp [execOp, hop, resolve, invoke, builtin, hs, hx, hrun, Result.andThen]; exact h9
  · obtain ⟨b, off, rfl, hc⟩ := hn hm
    (refine wp_append_lies w s x t hop w.heap.size e i0 z size bytes ht hi hz hsize hby hzs hsz _ _ _ hs hown ⟨b, off, none⟩ m c news hx hl (fun j u hu => by rw [add_none]; exact hc j u hu) h1 hm (by omega) (by rw [Nat.zero_add]; exact hmb) (Nat.le_refl _) _ rfl ?_); intro g3 cp3 w3 hown3 hgrow hat hlt3; rw [Nat.zero_add, List.nil_append] at hown3; rw [Nat.zero_add]; (exact h _ _ w3 hown3 ⟨hgrow.os, hgrow.tape, hgrow.output, hgrow.size, fun b hb => hgrow.block b hb fun e => by cases e⟩)
/-- The cells of pairs. -/
def encP : List (Int × Int) → List Value
  | [] => []
  | p :: rs => .int .i64 p.1 :: .int .i64 p.2 :: encP rs
theorem encP_len : ∀ rs, (encP rs).length = rs.length * 2
  | [] => rfl
  | p :: rs => by rw [encP, List.length_cons, List.length_cons, encP_len rs, List.length_cons]; omega
theorem encP_one : ∀ rs, ∀ u ∈ encP rs, u.oneCell' = true
  | [], _, h => by cases h
  | p :: rs, u, h => by
    rw [encP] at h
    rcases List.mem_cons.1 h with rfl | h
    · rfl
    rcases List.mem_cons.1 h with rfl | h
    · rfl
    exact encP_one rs u h
theorem encP_at : ∀ (rs : List (Int × Int)) (j : Nat) (x y : Int), rs[j]? = some (x, y) → (encP rs)[j * 2]? = some (.int .i64 x) ∧ (encP rs)[j * 2 + 1]? = some (.int .i64 y)
  | [], j, x, y, h => by simp at h
  | p :: rs, 0, x, y, h => by
    simp at h; subst h
    exact ⟨rfl, rfl⟩
  | p :: rs, j + 1, x, y, h => by
    (have h9 := encP_at rs j x y (by simpa using h)); (rw [encP, show (j + 1) * 2 = j * 2 + 1 + 1 by omega]); exact h9
theorem encP_of : ∀ (rs : List (Int × Int)) (j : Nat) (u : Value), (encP rs)[j]? = some u → ∃ i x y, rs[i]? = some (x, y) ∧ ((j = i * 2 ∧ u = .int .i64 x) ∨ (j = i * 2 + 1 ∧ u = .int .i64 y))
  | [], j, u, h => by simp [encP] at h
  | p :: rs, 0, u, h => by
    simp [encP] at h
    exact ⟨0, p.1, p.2, rfl, Or.inl ⟨rfl, h.symm⟩⟩
  | p :: rs, 1, u, h => by
    simp [encP] at h
    exact ⟨0, p.1, p.2, rfl, Or.inr ⟨rfl, h.symm⟩⟩
  | p :: rs, j + 2, u, h => by
    (obtain ⟨i, x, y, h1, h2⟩ := encP_of rs j u (by simpa [encP] using h)); (refine ⟨i + 1, x, y, by simpa using h1, ?_⟩)
    rcases h2 with ⟨h2, h3⟩ | ⟨h2, h3⟩
    · exact Or.inl ⟨by omega, h3⟩
    · exact Or.inr ⟨by omega, h3⟩
theorem rowM_caps {B : Nat} {w : World} {T : TypeId} {sz n cap : Nat} {ad : Option Addr} {cs : List Value} (h : w.ownsRow B T sz (.slice ad n cap) n cs) : n ≤ cap ∧ cap ≤ maxLen := by
  rcases h.2 with ⟨hv, h0⟩ | ⟨g, cap', cur, hv, -, -, h1, h2, -⟩
  · simp only [Value.slice.injEq] at hv
    (exact ⟨by omega, by rw [hv.2.2]; simp⟩)
  · simp only [Value.slice.injEq, true_and] at hv
    rw [hv.2]; exact ⟨h1, h2⟩
theorem rowM_cells {B : Nat} {w : World} {T : TypeId} {sz n cap : Nat} {ad : Option Addr} {cs : List Value} (h : w.ownsRow B T sz (.slice ad n cap) n cs) (hn : 0 < n) : ∃ g, ad = some ⟨g, 0, none⟩ ∧ ∀ j u, cs[j]? = some u → w.cell? ⟨g, 0 + j, none⟩ = some u := by
  rcases h.2 with ⟨hv, h0⟩ | ⟨g, cap', cur, hv, -, hh, h1, h2, h3, h4⟩
  · omega
  · simp only [Value.slice.injEq, true_and] at hv
    (refine ⟨g, hv.1, fun j u hj => ?_⟩); rw [Nat.zero_add, blk_cell hh]; rw [← h4, List.getElem?_take] at hj
    split at hj
    · simpa using hj
    · cases hj
/-- A row of one's own over a world that keeps its block. -/
theorem rowM_move {B : Nat} {w w' : World} {T : TypeId} {sz n : Nat} {v : Value} {cs : List Value} (h : w.ownsRow B T sz v n cs) (hk : ∀ g cur, v.ownBlock = some g → w.heap[g]? = some (.cells cur T (0, 0)) → w'.heap[g]? = w.heap[g]?) : w'.ownsRow B T sz v n cs := by
  refine ⟨h.1, ?_⟩
  rcases h.2 with h2 | ⟨g, cap, cur, hv, hg, hh, r⟩
  · exact Or.inl h2
  · exact Or.inr ⟨g, cap, cur, hv, hg, (hk g cur (by rw [hv]; rfl) hh).trans hh, r⟩
theorem rowM_up {B : Nat} {w w' : World} {T : TypeId} {sz n : Nat} {v : Value} {cs : List Value} (h : w.ownsRow B T sz v n cs) (hb : Below w.heap.size w w') : w'.ownsRow B T sz v n cs :=
  rowM_move h fun g _ _ hh => hb.block g (lt_of_block hh)
theorem rowM_low {B B' : Nat} {w : World} {T : TypeId} {sz n : Nat} {v : Value} {cs : List Value} (h : w.ownsRow B T sz v n cs) (hB : B' ≤ B) : w.ownsRow B' T sz v n cs := by
  refine ⟨h.1, ?_⟩
  rcases h.2 with h2 | ⟨g, cap, cur, hv, hg, r⟩
  · exact Or.inl h2
  · exact Or.inr ⟨g, cap, cur, hv, Nat.le_trans hB hg, r⟩
/-- Pairs of one's own. -/
theorem PL.own {B : Nat} {w : World} {ad : Option Addr} {cp : Nat} {rs : List (Int × Int)} (h : w.ownsRow B 82 2 (.slice ad rs.length cp) rs.length (encP rs)) : PL w (.slice ad rs.length cp) rs := by
  obtain ⟨h1, h2⟩ := rowM_caps h; (refine ⟨ad, cp, rfl, h1, h2, fun hne => ?_⟩); obtain ⟨g, rfl, hc⟩ := rowM_cells h (List.length_pos_iff.2 hne); (refine ⟨g, 0, rfl, fun j x y hj => ?_⟩); obtain ⟨e1, e2⟩ := encP_at rs j x y hj; (exact ⟨hc _ _ e1, by have := hc _ _ e2; rwa [show 0 + (j * 2 + 1) = 0 + j * 2 + 1 by omega] at this⟩)
/-- Texts of one's own. -/
theorem SL.own {B : Nat} {w : World} {ad : Option Addr} {cp : Nat} {l : List (List UInt8)} (h : w.ownsRow B 9 1 (.slice ad l.length cp) l.length (l.map encStr)) : SL w (.slice ad l.length cp) l := by
  obtain ⟨h1, h2⟩ := rowM_caps h; (refine ⟨ad, cp, rfl, h1, h2, fun hne => ?_⟩); obtain ⟨g, rfl, hc⟩ := rowM_cells h (List.length_pos_iff.2 hne); (exact ⟨g, 0, rfl, fun j t hj => hc _ _ (by rw [List.getElem?_map, hj]; rfl)⟩)
/-- Copies of lists of texts in a row: each a row of its own. -/
def TxsAre (B : Nat) (w : World) (us : List Value) (rs : List (List (List UInt8))) : Prop := us.length = rs.length ∧ ∀ (j : Nat) (r : List (List UInt8)), rs[j]? = some r → ∃ ad cp, us[j]? = some (.slice ad r.length cp) ∧ w.ownsRow B 9 1 (.slice ad r.length cp) r.length (r.map encStr)
theorem TxsAre.move {B : Nat} {w w' : World} {us : List Value} {rs : List (List (List UInt8))} (h : TxsAre B w us rs) (hk : ∀ g cur, B ≤ g → w.heap[g]? = some (.cells cur 9 (0, 0)) → w'.heap[g]? = w.heap[g]?) : TxsAre B w' us rs := by
  (refine ⟨h.1, fun j r hj => ?_⟩); obtain ⟨ad, cp, h1, h2⟩ := h.2 j r hj; (exact ⟨ad, cp, h1, rowM_move h2 fun g cur hg hh => hk g cur (h2.lt g hg).1 hh⟩)
theorem TxsAre.snoc {B : Nat} {w : World} {us : List Value} {rs : List (List (List UInt8))} (h : TxsAre B w us rs) {ad : Option Addr} {cp : Nat} {r : List (List UInt8)} (hr : w.ownsRow B 9 1 (.slice ad r.length cp) r.length (r.map encStr)) : TxsAre B w (us ++ [.slice ad r.length cp]) (rs ++ [r]) := by
  (refine ⟨by simp [h.1], fun j q hj => ?_⟩); by_cases e : j < rs.length
  · rw [List.getElem?_append_left e] at hj
    (rw [List.getElem?_append_left (by rw [h.1]; exact e)]); exact h.2 j q hj
  · rw [List.getElem?_append_right (by omega)] at hj
    obtain ⟨k, hk⟩ : ∃ k, j - rs.length = k := ⟨_, rfl⟩; rw [hk] at hj
    cases k with
    | zero =>
      simp at hj; subst hj; (rw [List.getElem?_append_right (by rw [h.1]; omega), h.1, hk])
      exact ⟨ad, cp, rfl, hr⟩
    | succ k => simp at hj
theorem TxsAre.sls {B : Nat} {w : World} {us : List Value} {rs : List (List (List UInt8))} (h : TxsAre B w us rs) {B' : Nat} {ad : Option Addr} {cp : Nat} (ho : w.ownsRow B' 48 1 (.slice ad rs.length cp) rs.length us) : SLs w (.slice ad rs.length cp) rs := by
  obtain ⟨h1, h2⟩ := rowM_caps ho; (refine ⟨ad, cp, rfl, h1, h2, fun hne => ?_⟩); obtain ⟨g, rfl, hc⟩ := rowM_cells ho (List.length_pos_iff.2 hne); (refine ⟨g, 0, rfl, fun j r hj => ?_⟩); obtain ⟨ad9, cp9, e1, e2⟩ := h.2 j r hj; exact ⟨_, hc _ _ e1, SL.own e2⟩
end Go.Proofs.Ytmahgfgndfcmpag
/- Walks: a model of one's own. -/
namespace Go.Proofs.Ytmahgfgndfcmpag
open Go.RowKit Go.Sort

theorem cons_lenM {n : Nat} {l : List Value} (h : l.length = n + 1) : ∃ v t, l = v :: t ∧ t.length = n := by
  cases l with
  | nil => cases h
  | cons v t => exact ⟨v, t, rfl, by simpa using h⟩
theorem someInjM {x y : Value} (h : some x = some y) : x = y := Option.some.inj h
theorem eval_tmpM {a : Act} {n : Nat} {v : Value} (h : a.tmps[n]? = some v) : a.eval (.tmp n) = v := by
  simp [Act.eval, h]
theorem rowM1 (l : List Value) (h0 : l.length = 1) : ∃ x0, l = [x0] := by
  obtain ⟨x0, l1, e0, h1⟩ := cons_lenM h0; have e1 : l1 = [] := List.length_eq_zero_iff.1 h1; subst e1 e0; exact ⟨x0, rfl⟩
theorem rowM6 (l : List Value) (h0 : l.length = 6) : ∃ x0 x1 x2 x3 x4 x5, l = [x0, x1, x2, x3, x4, x5] := by
  obtain ⟨x0, l1, e0, h1⟩ := cons_lenM h0; obtain ⟨x1, l2, e1, h2⟩ := cons_lenM h1; obtain ⟨x2, l3, e2, h3⟩ := cons_lenM h2; obtain ⟨x3, l4, e3, h4⟩ := cons_lenM h3; obtain ⟨x4, l5, e4, h5⟩ := cons_lenM h4; obtain ⟨x5, l6, e5, h6⟩ := cons_lenM h5; have e6 : l6 = [] := List.length_eq_zero_iff.1 h6; subst e6 e5 e4 e3 e2 e1 e0; exact ⟨x0, x1, x2, x3, x4, x5, rfl⟩
theorem rowM11 (l : List Value) (h0 : l.length = 11) : ∃ x0 x1 x2 x3 x4 x5 x6 x7 x8 x9 x10, l = [x0, x1, x2, x3, x4, x5, x6, x7, x8, x9, x10] := by
  obtain ⟨x0, l1, e0, h1⟩ := cons_lenM h0; obtain ⟨x1, l2, e1, h2⟩ := cons_lenM h1; obtain ⟨x2, l3, e2, h3⟩ := cons_lenM h2; obtain ⟨x3, l4, e3, h4⟩ := cons_lenM h3; obtain ⟨x4, l5, e4, h5⟩ := cons_lenM h4; obtain ⟨x5, l6, e5, h6⟩ := cons_lenM h5; obtain ⟨x6, l7, e6, h7⟩ := cons_lenM h6; obtain ⟨x7, l8, e7, h8⟩ := cons_lenM h7; obtain ⟨x8, l9, e8, h9⟩ := cons_lenM h8; obtain ⟨x9, l10, e9, h10⟩ := cons_lenM h9; obtain ⟨x10, l11, e10, h11⟩ := cons_lenM h10; have e11 : l11 = [] := List.length_eq_zero_iff.1 h11; subst e11 e10 e9 e8 e7 e6 e5 e4 e3 e2 e1 e0; exact ⟨x0, x1, x2, x3, x4, x5, x6, x7, x8, x9, x10, rfl⟩
theorem setM {w : World} {b : Nat} {x0 x1 x2 : Value} {T : TypeId} (h : w.heap[b]? = some (.cells #[x0, x1, x2] T (0, 0))) (y : Value) : (w.setCell ⟨b, 2, none⟩ y).heap[b]? = some (.cells #[x0, x1, y] T (0, 0)) := by
  simp [World.setCell, Array.getElem?_modify, h]
theorem set3M {w : World} {b : Nat} {x0 x1 x2 : Value} {T : TypeId} (h : w.heap[b]? = some (.cells #[x0, x1, x2] T (0, 0))) (y0 y1 y2 : Value) : (((w.setCell ⟨b, 0, none⟩ y0).setCell ⟨b, 1, none⟩ y1).setCell ⟨b, 2, none⟩ y2).heap[b]? = some (.cells #[y0, y1, y2] T (0, 0)) := by
  simp [World.setCell, Array.getElem?_modify, h]
theorem farM {W : World} {b x i : Nat} (h : x ≠ b) (v : Value) : (W.setCell ⟨b, i, none⟩ v).heap[x]? = W.heap[x]? := Below.heap_setCell _ _ _ _ (by simpa using h)
theorem rowM_ne {B : Nat} {w : World} {T T' : TypeId} {sz n g : Nat} {v : Value} {cs : List Value} {cur : Array Value} (h : w.ownsRow B T sz v n cs) (hg : w.heap[g]? = some (.cells cur T' (0, 0))) (hT : T' ≠ T) : v.ownBlock ≠ some g := fun e => by
  rcases h.2 with ⟨rfl, -⟩ | ⟨g', cap, cur', rfl, -, hh, -⟩
  · cases e
  · have : g' = g := by simpa [Value.ownBlock] using e
    subst this; rw [hh] at hg; simp only [Option.some.injEq, Obj.cells.injEq] at hg; exact hT hg.2.1.symm
structure GO where
  ad : Option Addr
  cp : Nat
  g : Nat
  ad' : Option Addr
  cp' : Nat
def GO.none0 : GO := ⟨none, 0, 0, none, 0⟩
def AppO (R : World) (S i : Nat) (r : List (List UInt8)) (us : List Value) (adT : Option Addr) (cpT : Nat) (y : GO) (w0 : World) : Prop :=
  w0.ownsRow S 48 1 (.slice y.ad' (i + 1) y.cp') (i + 1) (us ++ [.slice y.ad r.length y.cp]) ∧ w0.ownsRow R.heap.size 9 1 (.slice y.ad r.length y.cp) r.length (r.map encStr) ∧ Below S R w0 ∧ ∀ b, b < R.heap.size → (Value.slice adT i cpT).ownBlock ≠ some b → w0.heap[b]? = R.heap[b]?
/-- A list of texts copied and put behind the others. -/
structure StO (R : World) (S G i : Nat) (r : List (List UInt8)) (us : List Value) (adT : Option Addr) (cpT : Nat) (l7 l8 l9 l11 : Bool) (y : GO) (w : World) : Prop where
  below : l9 = false → Below R.heap.size R w
  own : l7 = true → l9 = false → w.ownsRow R.heap.size 9 1 (.slice y.ad r.length y.cp) r.length (r.map encStr)
  one : l8 = true → l9 = false → R.heap.size ≤ y.g ∧ w.heap[y.g]? = some (.cells #[.slice y.ad r.length y.cp] 48 (0, 0))
  app : l9 = true → ∃ w0, AppO R S i r us adT cpT y w0 ∧ w = cond l11 (w0.setCell ⟨G, 2, none⟩ (.slice y.ad' (i + 1) y.cp')) w0
section
variable {R : World} {S G i : Nat} {r : List (List UInt8)} {us : List Value} {adT : Option Addr} {cpT : Nat} {l7 l8 l9 l11 : Bool} {y : GO} {w w' : World}
theorem StO.mine (h : StO R S G i r us adT cpT l7 l8 l9 l11 y w) (e8 : l8 = false) (e9 : l9 = false) {ad : Option Addr} {cp : Nat} (ho : w'.ownsRow w.heap.size 9 1 (.slice ad r.length cp) r.length (r.map encStr)) (hb : Below w.heap.size w w') : StO R S G i r us adT cpT true l8 l9 l11 { y with ad := ad, cp := cp } w' :=
  ⟨fun _ => below_join (h.below e9) hb, fun _ _ => rowM_low ho (h.below e9).size, fun e => (by rw [e8] at e; cases e), fun e => (by rw [e9] at e; cases e)⟩
theorem StO.alloc (h : StO R S G i r us adT cpT l7 l8 l9 l11 y w) (e7 : l7 = true) (e9 : l9 = false) : StO R S G i r us adT cpT l7 true l9 l11 { y with g := w.heap.size } (w.alloc (.cells #[.slice y.ad r.length y.cp] 48 (0, 0))) :=
  ⟨fun _ => below_more (h.below e9) _, fun _ _ => rowM_up (h.own e7 e9) (below_more (Below.refl _ _) _), fun _ _ => ⟨(h.below e9).size, blk_new w _⟩, fun e => (by rw [e9] at e; cases e)⟩
theorem StO.append (h : StO R S G i r us adT cpT l7 l8 l9 l11 y w) (e7 : l7 = true) (e9 : l9 = false) (e11 : l11 = false) (hS : S ≤ R.heap.size) (hown : R.ownsRow S 48 1 (.slice adT i cpT) i us) {g3 cp3 : Nat} (hown3 : w'.ownsRow S 48 1 (.slice (some ⟨g3, 0, none⟩) (i + 1) cp3) (i + 1) (us ++ [.slice y.ad r.length y.cp])) (hgrow : w.grownBy w' (Value.slice adT i cpT).ownBlock) : StO R S G i r us adT cpT l7 l8 true l11 { y with ad' := some ⟨g3, 0, none⟩, cp' := cp3 } w' := by
  subst e11; have hb := h.below e9; have hs := hb.size; (refine ⟨fun e => (by cases e), fun _ e => (by cases e), fun _ e => (by cases e), fun _ => ⟨w', ⟨hown3, ?_, ?_, ?_⟩, rfl⟩⟩)
  · exact rowM_move (h.own e7 e9) fun g cur hg hh => hgrow.block g (lt_of_block hh) fun e => rowM_ne (rowM_up hown hb) hh (by decide) e.symm
  · exact (hb.mono hS).grown hgrow (by omega) fun k hk => (hown.lt k hk).1
  · exact fun b hl hn => (hgrow.block b (by omega) fun e => hn e.symm).trans (hb.block b hl)
theorem StO.store (h : StO R S G i r us adT cpT l7 l8 l9 l11 y w) (e9 : l9 = true) (e11 : l11 = false) : StO R S G i r us adT cpT l7 l8 l9 true y (w.setCell ⟨G, 2, none⟩ (.slice y.ad' (i + 1) y.cp')) := by
  subst e9 e11; obtain ⟨w0, h1, h2⟩ := h.app rfl; (exact ⟨fun e => (by cases e), fun _ e => (by cases e), fun _ e => (by cases e), fun _ => ⟨w0, h1, by rw [h2]; rfl⟩⟩)
end
set_option maxRecDepth 10000 in
set_option maxHeartbeats 8000000 in
theorem ownModel_any (m : Mdl) (hn1 : m.rel.length ≤ 8796093022208) (hn2 : m.tr.length ≤ 5864062014634) (hn3 : ∀ l ∈ m.tr, l.length ≤ 8796093022208) (v : Value) (w : World) (h : MR w m v) :
    Calls Try.prog 10 #[v] w fun e w' => ∃ u, e = .returned u ∧ MR w' m u ∧ Below w.heap.size w w' := by
  obtain ⟨n, rel, tr⟩ := m; obtain ⟨ra, rc, ta, tc, rfl, hpl, hsl, hmx⟩ := h; have HMx : Hid (∀ l ∈ tr, ∀ t ∈ l, t.length ≤ maxLen) := hmx; have HN3 : Hid (∀ l ∈ tr, l.length ≤ 8796093022208) := hn3; have HN1 : Hid (rel.length ≤ 8796093022208) := hn1; have HN2 : Hid (tr.length ≤ 5864062014634) := hn2; (have htrI : (tr.length : Int) ≤ 5864062014634 := by have := hn2; simp only at this; omega); obtain ⟨W, hW⟩ : ∃ W, W = (w.alloc (.cells #[.int .i64 n, .slice ra rel.length rc, .slice ta tr.length tc] 25 (0, 0))).alloc (.cells #[.int .i64 0, .slice none 0 0, .slice none 0 0] 25 (0, 0)) := ⟨_, rfl⟩; (have HB0 : Hid (Below w.heap.size w W) := by rw [hW]; exact below_more (below_more (Below.refl _ w) _) _); (have HX : Hid (W.heap[w.heap.size]? = some (.cells #[.int .i64 n, .slice ra rel.length rc, .slice ta tr.length tc] 25 (0, 0))) := by rw [hW]; exact alloc_keep (blk_new w _) _); (have HY : Hid (W.heap[w.heap.size + 1]? = some (.cells #[.int .i64 0, .slice none 0 0, .slice none 0 0] 25 (0, 0))) := by rw [hW]; exact blk_two w _ _); have HPl : Hid (PL W (.slice ra rel.length rc) rel) := hpl.up HB0.out; have hslW := hsl.upM HB0.out; obtain ⟨ad0, cap0, e0, hc1, hc2, hc3⟩ := hslW; simp only [Value.slice.injEq, true_and] at e0; obtain ⟨rfl, rfl⟩ := e0; have HSl : Hid (tr ≠ [] → ∃ b off, ta = some ⟨b, off, none⟩ ∧ ∀ (j : Nat) (r : List (List UInt8)), tr[j]? = some r → ∃ u, W.cell? ⟨b, off + j, none⟩ = some u ∧ SL W u r) := hc3; (have hcI : (tr.length : Int) ≤ (tc : Int) := by have := hc1; simp only at this; omega); clear hpl hsl hmx hn1 hn2 hn3 hc3
  go_enter Try.func10, Try.ntmps10
  go_wp2_with fail; rw [← hW]; clear hW
  refine wp_region_last (by kernel_rfl) [fun v _ => v = (.pointer (some ⟨w.heap.size, 0, none⟩)), fun v _ => v = .int .i64 n, fun v _ => v = (.pointer (some ⟨w.heap.size, 1, none⟩)), fun v _ => v = .slice ra rel.length rc,
    fun v w' => ∃ ad cp, v = .slice ad rel.length cp ∧ w'.ownsRow W.heap.size 82 2 (.slice ad rel.length cp) rel.length (encP rel),
    fun v w' => ∃ ad cp, v = .agg #[.int .i64 n, .slice ad rel.length cp, .slice none 0 0] ∧ w'.ownsRow W.heap.size 82 2 (.slice ad rel.length cp) rel.length (encP rel),
    fun v w' => ∃ g, v = .pointer (some ⟨g, 0, none⟩) ∧ W.heap.size ≤ g ∧ w'.heap[g]? = some (.cells #[.int .i64 0, .slice none 0 0, .slice none 0 0] 25 (0, 0))] ?_ (by kernel_rfl) (by kernel_rfl) 30 rfl (by kernel_rfl) 7 _ rfl rfl (by kernel_rfl) ?_ ?_
  · intro p hp
    simp only [List.mem_cons, List.not_mem_nil, or_false] at hp
    rcases hp with rfl | rfl | rfl | rfl | rfl | rfl | rfl
    all_goals first | exact fun _ _ _ h _ => h | exact fun _ _ _ ⟨ad, cp, e, h⟩ hb => ⟨ad, cp, e, rowM_up h hb⟩ | exact fun _ _ _ ⟨g, e, hg, h⟩ hb => ⟨g, e, hg, below_keep hb h⟩
  · refine ⟨?_, ?_, ?_, ?_, ?_, ?_, ?_, trivial⟩
    · intro a wx hB hold hdep K hK
      have t1 : a.tmps[1]? = some (.pointer (some ⟨w.heap.size, 0, none⟩)) := hold.2.2 1 rfl; clear hold hdep; go_simp; exact hK.out _ _ rfl (Below.refl _ _)
    · intro a wx hB hold hdep K hK
      obtain ⟨v5, t5, p5⟩ := hdep 0 rfl _ 5 rfl rfl; have e5 : v5 = (.pointer (some ⟨w.heap.size, 0, none⟩)) := p5; subst e5; obtain ⟨k0, k1, k2, -⟩ := blk3 (below_keep hB HX.out); clear hold hdep; go_simp; exact hK.out _ _ rfl (Below.refl _ _)
    · intro a wx hB hold hdep K hK
      have t1 : a.tmps[1]? = some (.pointer (some ⟨w.heap.size, 0, none⟩)) := hold.2.2 1 rfl; clear hold hdep; go_simp; exact hK.out _ _ rfl (Below.refl _ _)
    · intro a wx hB hold hdep K hK
      obtain ⟨v7, t7, p7⟩ := hdep 2 rfl _ 7 rfl rfl; have e7 : v7 = (.pointer (some ⟨w.heap.size, 1, none⟩)) := p7; subst e7; obtain ⟨k0, k1, k2, -⟩ := blk3 (below_keep hB HX.out); clear hold hdep; go_simp; exact hK.out _ _ rfl (Below.refl _ _)
    · intro a wx hB hold hdep K hK
      obtain ⟨v8, t8, p8⟩ := hdep 3 rfl _ 8 rfl rfl; have e8 : v8 = .slice ra rel.length rc := p8; subst e8; obtain ⟨i0, hi, hz0, hz1, hz2⟩ := infoPr; have hP := HPl.out.up hB; obtain ⟨ad9, cap9, e9, hd1, hd2, hd3⟩ := hP; simp only [Value.slice.injEq, true_and] at e9; obtain ⟨rfl, rfl⟩ := e9; have hn := HN1.out; clear hold hdep; (refine step_app0 rfl _ _ 22 rfl 82 i0 (.agg #[.int .i64 0, .int .i64 0]) 2 16 Try.underlying22 hi hz0 hz1 hz2 rfl (by decide) ra rel.length rc (encP rel) rfl (eval_tmpM t8) (encP_len rel) (fun hm => ?_) (encP_one rel) (by omega) (by omega) ?_)
      · obtain ⟨b, off, rfl, hc⟩ := hd3 (List.length_pos_iff.1 hm)
        (refine ⟨b, off, rfl, fun j u hj => ?_⟩); obtain ⟨i, x, y, h1, h2⟩ := encP_of rel j u hj; obtain ⟨c1, c2⟩ := hc i x y h1
        rcases h2 with ⟨rfl, rfl⟩ | ⟨rfl, rfl⟩
        · exact c1
        · exact c2
      · intro ad3 cp3 w3 h3 b3
        exact hK.out _ _ ⟨ad3, cp3, rfl, rowM_low h3 hB.size⟩ b3
    · intro a wx hB hold hdep K hK
      obtain ⟨v6, t6, p6⟩ := hdep 1 rfl _ 6 rfl rfl; have e6 : v6 = .int .i64 n := p6; obtain ⟨v9, t9, ad9, cp9, e9, h9⟩ := hdep 4 rfl _ 9 rfl rfl; subst e6 e9; have H9 : Hid (World.ownsRow _ _ _ _ _ _ _) := h9; clear hold hdep h9; go_simp; exact hK.out _ _ ⟨ad9, cp9, rfl, H9.out⟩ (Below.refl _ _)
    · intro a wx hB hold hdep K hK
      clear hold hdep; go_simp; exact hK.out _ _ ⟨wx.heap.size, rfl, hB.size, blk_new wx _⟩ (below_more (Below.refl _ _) _)
  · intro a wx hB hold hgot K hK
    (obtain ⟨vA, tA, ad9, cp9, eA, h9⟩ := hgot 5 _ 10 (by omega) rfl rfl); (obtain ⟨vB, tB, G, eB, hG, hGb⟩ := hgot 6 _ 3 (by omega) rfl rfl); subst eA eB; have HO9 : Hid (wx.ownsRow W.heap.size 82 2 (.slice ad9 rel.length cp9) rel.length (encP rel)) := h9; have HG9 : Hid (wx.heap[G]? = some (.cells #[.int .i64 0, .slice none 0 0, .slice none 0 0] 25 (0, 0))) := hGb; have HBx : Hid (Below W.heap.size W wx) := hB; have HGs : Hid (W.heap.size ≤ G) := hG; obtain ⟨y0, y1, y2, z0, z1, z2⟩ := blk3 hGb; obtain ⟨tm, df⟩ := a; (obtain ⟨ys, zs, hys, hzs, htm, rfl⟩ := frame_two 3 1 1 6 4 5 11 rfl rfl rfl (by kernel_rfl) (Nat.le_of_ble_eq_true rfl) hold); obtain ⟨x3, rfl⟩ := rowM1 ys hys; obtain ⟨x5, x6, x7, x8, x9, x10, rfl⟩ := rowM6 zs hzs; simp only [List.take_succ_cons, List.take_zero, List.drop_succ_cons, List.drop_zero, List.cons_append, List.nil_append] at htm; subst htm; obtain rfl : x3 = _ := someInjM tB; obtain rfl : x10 = _ := someInjM tA; clear hys hzs hold hgot tA tB h9 hGb hB hG; go_simp; refine hK.out _ _ ?_; clear hK y0 y1 y2 z0 z1 z2; obtain ⟨F, hF⟩ : ∃ F, F = ((wx.setCell ⟨G, 0, none⟩ (.int .i64 n)).setCell ⟨G, 1, none⟩ (.slice ad9 rel.length cp9)).setCell ⟨G, 2, none⟩ (.slice none 0 0) := ⟨_, rfl⟩; (have HFG : Hid (F.heap[G]? = some (.cells #[.int .i64 n, .slice ad9 rel.length cp9, .slice none 0 0] 25 (0, 0))) := by rw [hF]; exact set3M HG9.out _ _ _); (have hfar : ∀ b, b ≠ G → F.heap[b]? = wx.heap[b]? := fun b hb => by rw [hF, farM hb, farM hb, farM hb])
    have HFB : Hid (Below W.heap.size W F) := by
      rw [hF]; exact ((HBx.out.setCell (p := ⟨G, 0, none⟩) HGs.out _).setCell (p := ⟨G, 1, none⟩) HGs.out _).setCell (p := ⟨G, 2, none⟩) HGs.out _
    have HFO : Hid (F.ownsRow W.heap.size 82 2 (.slice ad9 rel.length cp9) rel.length (encP rel)) := rowM_move HO9.out fun g cur _ hh => hfar g fun e => by
      rw [e, HG9.out] at hh; simp only [Option.some.injEq, Obj.cells.injEq] at hh; (exact absurd hh.2.1 (by decide))
    rw [← hF]; clear hfar hF HO9 HG9 HBx; go_wp2_with fail
    go_loopg [4] tr.length (fun gg cc wr => ∃ i adT cpT us, i ≤ tr.length ∧ gg = tr.length - i ∧ cc = .int .i64 (i : Nat) ∧ Hid (wr.heap[G]? = some (.cells #[.int .i64 n, .slice ad9 rel.length cp9, .slice adT i cpT] 25 (0, 0))) ∧ Hid (wr.ownsRow W.heap.size 48 1 (.slice adT i cpT) i us) ∧ Hid (TxsAre W.heap.size wr us (tr.take i)) ∧ Hid (wr.ownsRow W.heap.size 82 2 (.slice ad9 rel.length cp9) rel.length (encP rel)) ∧ Hid (Below W.heap.size W wr))
    case atStart => exact ⟨0, none, 0, [], by omega, by omega, rfl, HFG, ⟨rfl, Or.inl ⟨rfl, rfl⟩⟩, ⟨rfl, fun j r h => by simp at h⟩, HFO, HFB⟩
    case round =>
      obtain ⟨i, adT, cpT, us, hi, hg, rfl, HGr, HOT, HTx, HOP, HBr⟩ := hrel; have HGk : Hid (gk = tr.length - i) := hg; clear hg; obtain ⟨k0, k1, k2, -⟩ := blk3 (below_keep HBr.out HX.out); by_cases hlt : i < tr.length
      · obtain ⟨r, hr⟩ : ∃ r, tr[i]? = some r := ⟨_, List.getElem?_eq_getElem hlt⟩
        (obtain ⟨b, off, rfl, hc⟩ := HSl.out (fun e => by rw [e] at hlt; simp at hlt)); obtain ⟨u, g0, hu⟩ := hc i r hr; have hu2 := hu.up HBr.out; obtain ⟨au, cu, rfl, hu3, hu4, hu5⟩ := hu2; have HU : Hid (r ≠ [] → ∃ g off, au = some ⟨g, off, none⟩ ∧ ∀ (j : Nat) (t : List UInt8), r[j]? = some t → wr.cell? ⟨g, off + j, none⟩ = some (.string ⟨t.toArray⟩)) := hu5; have HG0 : Hid (wr.cell? ⟨b, off + i, none⟩ = some (.slice au r.length cu)) := (HBr.out.cell (lt_of_cell g0)).trans g0; have HRn : Hid (r.length ≤ 8796093022208) := HN3.out r (List.mem_of_getElem? hr); (have hltI : (i : Int) < (tr.length : Int) := by omega); (have hltc : (i : Int) < (tc : Int) := by omega); have HI : Hid (i < tr.length) := hlt; have HRi : Hid (tr[i]? = some r) := hr; have HSR : Hid (W.heap.size ≤ wr.heap.size) := HBr.out.size; clear hc hu hu3 hu4 hu5 hlt hi hr g0; obtain ⟨R, hR⟩ : ∃ R, R = wr := ⟨_, rfl⟩; subst hR; go_wp2_with fail; (refine wp_region_gh (by kernel_rfl) (by kernel_rfl) (by kernel_rfl) 30 rfl (by kernel_rfl) [fun _ v _ => v = (.pointer (some ⟨G, 2, none⟩)), fun _ v _ => v = (.slice adT i cpT), fun _ v _ => v = (.pointer (some ⟨w.heap.size, 2, none⟩)), fun _ v _ => v = (.slice (some ⟨b, off, none⟩) tr.length tc), fun _ v _ => v = (.int .i64 (i : Nat)), fun _ v _ => v = (.pointer (some ⟨b, off + i, none⟩)), fun _ v _ => v = (.slice au r.length cu), fun y v _ => v = (.slice y.ad r.length y.cp), fun y v _ => v = (.slice (some ⟨y.g, 0, none⟩) 1 1), fun y v _ => v = (.slice y.ad' (i + 1) y.cp'), fun _ v _ => v = (.pointer (some ⟨G, 2, none⟩)), fun _ _ _ => True] (fun _ _ => true) (fun L => StO R W.heap.size G i r us adT cpT (L 7) (L 8) (L 9) (L 11)) (GO.none0) ?_ ?_ ?_)
        · exact fun wx h _ => ⟨fun _ => h, fun e => (by cases e), fun e => (by cases e), fun e => (by cases e)⟩
        · refine ⟨?_, ?_, ?_, ?_, ?_, ?_, ?_, ?_, ?_, ?_, ?_, ?_, trivial⟩
          · intro L y a wx hSt hLi hdl hcl hold hdep K hK
            have HSt : Hid (StO R W.heap.size G i r us adT cpT (L 7) (L 8) (L 9) (L 11) y wx) := hSt; clear hSt; have t3 : a.tmps[3]? = some (.pointer (some ⟨G, 0, none⟩)) := hold 3 rfl; clear hold hdep hdl hcl hLi; go_simp; (exact hK.out _ _ y HSt.out rfl (fun j hj hl => ⟨rfl, fun u h => h⟩))
          · intro L y a wx hSt hLi hdl hcl hold hdep K hK
            have HSt : Hid (StO R W.heap.size G i r us adT cpT (L 7) (L 8) (L 9) (L 11) y wx) := hSt; clear hSt; obtain ⟨v18, t18, q18⟩ := hdep 0 rfl _ 18 rfl rfl; have e18 : v18 = (.pointer (some ⟨G, 2, none⟩)) := q18 rfl; subst e18; (have e9 : L 9 = false := not_yet hLi fun h => (hcl 9 _ rfl h 1 rfl)); obtain ⟨d0, d1, d2, -⟩ := blk3 (below_keep (HSt.out.below e9) HGr.out); clear hold hdep hdl hcl hLi; go_simp; (exact hK.out _ _ y HSt.out rfl (fun j hj hl => ⟨rfl, fun u h => h⟩))
          · intro L y a wx hSt hLi hdl hcl hold hdep K hK
            have HSt : Hid (StO R W.heap.size G i r us adT cpT (L 7) (L 8) (L 9) (L 11) y wx) := hSt; clear hSt; have t1 : a.tmps[1]? = some (.pointer (some ⟨w.heap.size, 0, none⟩)) := hold 1 rfl; clear hold hdep hdl hcl hLi; go_simp; (exact hK.out _ _ y HSt.out rfl (fun j hj hl => ⟨rfl, fun u h => h⟩))
          · intro L y a wx hSt hLi hdl hcl hold hdep K hK
            have HSt : Hid (StO R W.heap.size G i r us adT cpT (L 7) (L 8) (L 9) (L 11) y wx) := hSt; clear hSt; obtain ⟨v20, t20, q20⟩ := hdep 2 rfl _ 20 rfl rfl; have e20 : v20 = (.pointer (some ⟨w.heap.size, 2, none⟩)) := q20 rfl; subst e20; (have e9 : L 9 = false := not_yet hLi fun h => (hcl 5 _ rfl (hcl 6 _ rfl (hcl 7 _ rfl (hcl 8 _ rfl (hcl 9 _ rfl h 8 rfl) 7 rfl) 6 rfl) 5 rfl) 3 rfl)); obtain ⟨d0, d1, d2, -⟩ := blk3 (below_keep (below_join HBr.out (HSt.out.below e9)) HX.out); clear hold hdep hdl hcl hLi; go_simp; (exact hK.out _ _ y HSt.out rfl (fun j hj hl => ⟨rfl, fun u h => h⟩))
          · intro L y a wx hSt hLi hdl hcl hold hdep K hK
            have HSt : Hid (StO R W.heap.size G i r us adT cpT (L 7) (L 8) (L 9) (L 11) y wx) := hSt; clear hSt; have t4 : a.tmps[4]? = some (.int .i64 (i : Nat)) := hold 4 rfl; clear hold hdep hdl hcl hLi; go_simp; (exact hK.out _ _ y HSt.out rfl (fun j hj hl => ⟨rfl, fun u h => h⟩))
          · intro L y a wx hSt hLi hdl hcl hold hdep K hK
            have HSt : Hid (StO R W.heap.size G i r us adT cpT (L 7) (L 8) (L 9) (L 11) y wx) := hSt; clear hSt; obtain ⟨v21, t21, q21⟩ := hdep 3 rfl _ 21 rfl rfl; have e21 : v21 = (.slice (some ⟨b, off, none⟩) tr.length tc) := q21 rfl; subst e21; obtain ⟨v22, t22, q22⟩ := hdep 4 rfl _ 22 rfl rfl; have e22 : v22 = (.int .i64 (i : Nat)) := q22 rfl; subst e22; clear hold hdep hdl hcl hLi; go_simp; (exact hK.out _ _ y HSt.out rfl (fun j hj hl => ⟨rfl, fun u h => h⟩))
          · intro L y a wx hSt hLi hdl hcl hold hdep K hK
            have HSt : Hid (StO R W.heap.size G i r us adT cpT (L 7) (L 8) (L 9) (L 11) y wx) := hSt; clear hSt; obtain ⟨v23, t23, q23⟩ := hdep 5 rfl _ 23 rfl rfl; have e23 : v23 = (.pointer (some ⟨b, off + i, none⟩)) := q23 rfl; subst e23; (have e9 : L 9 = false := not_yet hLi fun h => (hcl 7 _ rfl (hcl 8 _ rfl (hcl 9 _ rfl h 8 rfl) 7 rfl) 6 rfl)); have d0 := ((HSt.out.below e9).cell (lt_of_cell HG0.out)).trans HG0.out; clear hold hdep hdl hcl hLi; go_simp; (exact hK.out _ _ y HSt.out rfl (fun j hj hl => ⟨rfl, fun u h => h⟩))
          · intro L y a wx hSt hLi hdl hcl hold hdep K hK
            have HSt : Hid (StO R W.heap.size G i r us adT cpT (L 7) (L 8) (L 9) (L 11) y wx) := hSt; clear hSt; obtain ⟨v24, t24, q24⟩ := hdep 6 rfl _ 24 rfl rfl; have e24 : v24 = (.slice au r.length cu) := q24 rfl; subst e24; (have e9 : L 9 = false := not_yet hLi fun h => (hcl 8 _ rfl (hcl 9 _ rfl h 8 rfl) 7 rfl)); (have e8 : L 8 = false := not_yet hLi fun h => hcl 8 _ rfl h 7 rfl); obtain ⟨i0, hi, hz0, hz1, hz2⟩ := infoText; have hn := HRn.out; clear hold hdep hdl; (refine step_app0 rfl _ _ 48 rfl 9 i0 (.string ⟨#[]⟩) 1 16 Try.underlying48 hi hz0 hz1 hz2 rfl (by decide) au r.length cu (r.map encStr) rfl (eval_tmpM t24) (by simp) (fun hm => ?_) ?_ (by unfold maxLen; omega) (by omega) ?_)
            · obtain ⟨b9, off9, rfl, hc⟩ := HU.out (List.length_pos_iff.1 hm)
              (refine ⟨b9, off9, rfl, fun j u hu => ?_⟩); rw [List.getElem?_map] at hu; obtain ⟨x, hx, rfl⟩ := Option.map_eq_some_iff.1 hu; have := hc j x hx; exact ((HSt.out.below e9).cell (lt_of_cell this)).trans this
            · intro u hu
              obtain ⟨x, -, rfl⟩ := List.mem_map.1 hu; rfl
            intro ad3 cp3 w3 h3 b3; refine hK.out _ _ { y with ad := ad3, cp := cp3 } (HSt.out.mine e8 e9 h3 b3) rfl ?_; intro j hj hl
            rcases j with _ | _ | _ | _ | _ | _ | _ | _ | _ | _ | _ | _ | j
            · exact ⟨rfl, fun u h => h⟩
            · exact ⟨rfl, fun u h => h⟩
            · exact ⟨rfl, fun u h => h⟩
            · exact ⟨rfl, fun u h => h⟩
            · exact ⟨rfl, fun u h => h⟩
            · exact ⟨rfl, fun u h => h⟩
            · exact ⟨rfl, fun u h => h⟩
            · exact Bool.noConfusion (hLi.symm.trans hj)
            · exact ⟨rfl, fun u h => h⟩
            · exact ⟨rfl, fun u h => h⟩
            · exact ⟨rfl, fun u h => h⟩
            · exact ⟨rfl, fun u h => h⟩
            · exact ⟨rfl, fun u h => h⟩
          · intro L y a wx hSt hLi hdl hcl hold hdep K hK
            have HSt : Hid (StO R W.heap.size G i r us adT cpT (L 7) (L 8) (L 9) (L 11) y wx) := hSt; clear hSt; obtain ⟨v25, t25, q25⟩ := hdep 7 rfl _ 25 rfl rfl; have e25 : v25 = (.slice y.ad r.length y.cp) := q25 rfl; subst e25; (have e9 : L 9 = false := not_yet hLi fun h => (hcl 9 _ rfl h 8 rfl)); have e7 : L 7 = true := hdl 7 rfl; clear hold hdep hdl; go_simp; refine hK.out _ _ { y with g := wx.heap.size } (HSt.out.alloc e7 e9) rfl ?_; intro j hj hl
            rcases j with _ | _ | _ | _ | _ | _ | _ | _ | _ | _ | _ | _ | j
            · exact ⟨rfl, fun u h => h⟩
            · exact ⟨rfl, fun u h => h⟩
            · exact ⟨rfl, fun u h => h⟩
            · exact ⟨rfl, fun u h => h⟩
            · exact ⟨rfl, fun u h => h⟩
            · exact ⟨rfl, fun u h => h⟩
            · exact ⟨rfl, fun u h => h⟩
            · exact ⟨rfl, fun u h => h⟩
            · exact Bool.noConfusion (hLi.symm.trans hj)
            · exact ⟨rfl, fun u h => h⟩
            · exact ⟨rfl, fun u h => h⟩
            · exact ⟨rfl, fun u h => h⟩
            · exact ⟨rfl, fun u h => h⟩
          · intro L y a wx hSt hLi hdl hcl hold hdep K hK
            have HSt : Hid (StO R W.heap.size G i r us adT cpT (L 7) (L 8) (L 9) (L 11) y wx) := hSt; clear hSt; obtain ⟨v19, t19, q19⟩ := hdep 1 rfl _ 19 rfl rfl; have e19 : v19 = (.slice adT i cpT) := q19 rfl; subst e19; obtain ⟨v26, t26, q26⟩ := hdep 8 rfl _ 26 rfl rfl; have e26 : v26 = (.slice (some ⟨y.g, 0, none⟩) 1 1) := q26 rfl; subst e26; have e8 : L 8 = true := hdl 8 rfl; have e7 : L 7 = true := hcl 8 _ rfl e8 7 rfl; (have e11 : L 11 = false := not_yet hLi fun h => hcl 11 _ rfl h 9 rfl); obtain ⟨i0, hi, hz0, hz1, hz2⟩ := infoTx; have hn := HN2.out; have hi9 := HI.out; have hg9 := HSt.out.one e8 hLi; have hsr := HSR.out; have hsx := (HSt.out.below hLi).size; clear hold hdep hdl; (refine step_append_lies wx rfl _ _ 23 rfl W.heap.size 48 i0 (.slice none 0 0) 1 24 Try.underlying23 hi hz0 hz1 hz2 rfl (by decide) (.slice adT i cpT) i us (eval_tmpM t19) (rowM_up HOT.out (HSt.out.below hLi)) ⟨y.g, 0, none⟩ 1 1 [.slice y.ad r.length y.cp] (eval_tmpM t26) rfl ?_ ?_ (by omega) (by unfold maxLen; omega) (by omega) (by omega) _ rfl ?_)
            · intro j u hu
              rw [add_none, Nat.zero_add, blk_cell hg9.2]; simpa using hu
            · intro u hu
              simp at hu; subst hu; rfl
            intro g3 cp3 w3 hown3 hgrow hat hlt3; refine hK.out _ _ { y with ad' := some ⟨g3, 0, none⟩, cp' := cp3 } (HSt.out.append e7 hLi e11 hsr HOT.out hown3 hgrow) rfl ?_; intro j hj hl
            rcases j with _ | _ | _ | _ | _ | _ | _ | _ | _ | _ | _ | _ | j
            · exact ⟨rfl, fun u h => h⟩
            · exact ⟨rfl, fun u h => h⟩
            · exact ⟨rfl, fun u h => h⟩
            · exact ⟨rfl, fun u h => h⟩
            · exact ⟨rfl, fun u h => h⟩
            · exact ⟨rfl, fun u h => h⟩
            · exact ⟨rfl, fun u h => h⟩
            · exact ⟨rfl, fun u h => h⟩
            · exact ⟨rfl, fun u h => h⟩
            · exact Bool.noConfusion (hLi.symm.trans hj)
            · exact ⟨rfl, fun u h => h⟩
            · exact ⟨rfl, fun u h => h⟩
            · exact ⟨rfl, fun u h => h⟩
          · intro L y a wx hSt hLi hdl hcl hold hdep K hK
            have HSt : Hid (StO R W.heap.size G i r us adT cpT (L 7) (L 8) (L 9) (L 11) y wx) := hSt; clear hSt; have t3 : a.tmps[3]? = some (.pointer (some ⟨G, 0, none⟩)) := hold 3 rfl; clear hold hdep hdl hcl hLi; go_simp; (exact hK.out _ _ y HSt.out rfl (fun j hj hl => ⟨rfl, fun u h => h⟩))
          · intro L y a wx hSt hLi hdl hcl hold hdep K hK
            have HSt : Hid (StO R W.heap.size G i r us adT cpT (L 7) (L 8) (L 9) (L 11) y wx) := hSt; clear hSt; obtain ⟨v28, t28, q28⟩ := hdep 10 rfl _ 28 rfl rfl; have e28 : v28 = (.pointer (some ⟨G, 2, none⟩)) := q28 rfl; subst e28; obtain ⟨v27, t27, q27⟩ := hdep 9 rfl _ 27 rfl rfl; have e27 : v27 = (.slice y.ad' (i + 1) y.cp') := q27 rfl; subst e27; have e9 : L 9 = true := hdl 9 rfl; have hS9 := HSt.out.store e9 hLi
            have hGx : ∃ c0 c1 c2, wx.heap[G]? = some (.cells #[c0, c1, c2] 25 (0, 0)) := by
              obtain ⟨w0, h0, h1⟩ := HSt.out.app e9; rw [hLi] at h1; have h1' : wx = w0 := h1; subst h1'; (exact ⟨_, _, _, (h0.2.2.2 G (lt_of_block HGr.out) (rowM_ne HOT.out HGr.out (by decide))).trans HGr.out⟩)
            obtain ⟨c0, c1, c2, hGx⟩ := hGx; obtain ⟨d0, d1, d2, d3, d4, d5⟩ := blk3 hGx; clear hold hdep hdl hcl; go_simp; refine hK.out (.bool false) _ y hS9 trivial ?_; intro j hj hl
            rcases j with _ | _ | _ | _ | _ | _ | _ | _ | _ | _ | _ | _ | j
            · exact ⟨rfl, fun u h => h⟩
            · exact ⟨rfl, fun u h => h⟩
            · exact ⟨rfl, fun u h => h⟩
            · exact ⟨rfl, fun u h => h⟩
            · exact ⟨rfl, fun u h => h⟩
            · exact ⟨rfl, fun u h => h⟩
            · exact ⟨rfl, fun u h => h⟩
            · exact ⟨rfl, fun u h => h⟩
            · exact ⟨rfl, fun u h => h⟩
            · exact ⟨rfl, fun u h => h⟩
            · exact ⟨rfl, fun u h => h⟩
            · exact Bool.noConfusion (hLi.symm.trans hj)
            · exact ⟨rfl, fun u h => h⟩
        · intro L y a wx hall hSt hsz hdf hold hgot
          have hS : StO R W.heap.size G i r us adT cpT (L 7) (L 8) (L 9) (L 11) y wx := hSt; have e9 : L 9 = true := hall 9 (Nat.le_of_ble_eq_true rfl); have e11 : L 11 = true := hall 11 (Nat.le_of_ble_eq_true rfl); obtain ⟨w0, hA, hw0⟩ := hS.app e9; rw [e11] at hw0; have hw1 : wx = w0.setCell ⟨G, 2, none⟩ (.slice y.ad' (i + 1) y.cp') := hw0; obtain ⟨a1, a2, a3, a4⟩ := hA; (have hne := rowM_ne HOT.out HGr.out (by decide)); have hG0 := (a4 G (lt_of_block HGr.out) hne).trans HGr.out; (have HG9 : Hid (wx.heap[G]? = some (.cells #[.int .i64 n, .slice ad9 rel.length cp9, .slice y.ad' (i + 1) y.cp'] 25 (0, 0))) := by rw [hw1]; exact setM hG0 _)
          have hfar : ∀ (g : Nat) (cur : Array Value) (T : TypeId), w0.heap[g]? = some (.cells cur T (0, 0)) → T ≠ 25 → wx.heap[g]? = w0.heap[g]? := fun g cur T hg hT => by
            rw [hw1]; (refine farM (fun e => ?_) _); rw [e, hG0] at hg; simp only [Option.some.injEq, Obj.cells.injEq] at hg; exact hT hg.2.1.symm
          (have hkp : ∀ (g : Nat) (cur : Array Value) (T : TypeId), R.heap[g]? = some (.cells cur T (0, 0)) → T ≠ 48 → w0.heap[g]? = R.heap[g]? := fun g cur T hg hT => a4 g (lt_of_block hg) (rowM_ne HOT.out hg hT)); (have HO9 : Hid (wx.ownsRow W.heap.size 48 1 (.slice y.ad' (i + 1) y.cp') (i + 1) (us ++ [.slice y.ad r.length y.cp])) := rowM_move a1 fun g cur _ hh => hfar g cur _ hh (by decide)); (have hT0 : TxsAre W.heap.size w0 us (tr.take i) := HTx.out.move fun g cur _ hh => hkp g cur _ hh (by decide)); have hT1 := hT0.snoc (rowM_low a2 HSR.out); (have htk : tr.take i ++ [r] = tr.take (i + 1) := by rw [List.take_add_one, HRi.out]; rfl); rw [htk] at hT1; (have HT9 : Hid (TxsAre W.heap.size wx (us ++ [.slice y.ad r.length y.cp]) (tr.take (i + 1))) := hT1.move fun g cur _ hh => hfar g cur _ hh (by decide)); (have HP9 : Hid (wx.ownsRow W.heap.size 82 2 (.slice ad9 rel.length cp9) rel.length (encP rel)) := rowM_move (rowM_move HOP.out fun g cur _ hh => hkp g cur _ hh (by decide)) fun g cur _ hh => hfar g cur _ hh (by decide))
          have HB9 : Hid (Below W.heap.size W wx) := by
            rw [hw1]; exact (HBr.out.trans a3).setCell (p := ⟨G, 2, none⟩) HGs.out _
          clear hfar hkp hT0 hT1 htk hw0 hw1 a1 a2 a3 a4 hG0 hS e9 e11 hne; obtain ⟨tm, df⟩ := a; (obtain ⟨ys, hys, htm, rfl⟩ := frame_mid2 18 11 (by kernel_rfl) (Nat.le_of_ble_eq_true rfl) ⟨hsz, hdf, hold⟩); obtain ⟨x18, x19, x20, x21, x22, x23, x24, x25, x26, x27, x28, rfl⟩ := rowM11 ys hys; simp only [List.take_succ_cons, List.take_zero, List.drop_succ_cons, List.drop_zero, List.cons_append, List.nil_append] at htm; subst htm; clear hys hold hgot hall hSt hsz hdf k0 k1 k2; go_wp2_with fail
          go_roundg (tr.length - (i + 1))
          case measure => have := HGk.out; have := HI.out; omega
          case rel => exact ⟨i + 1, y.ad', y.cp', us ++ [.slice y.ad r.length y.cp], HI.out, rfl, by go_num, HG9, HO9, HT9, HP9, HB9⟩
      · have hii : i = tr.length := by omega
        subst hii; (have hge : ¬ (tr.length : Int) < (tr.length : Int) := by omega); obtain ⟨j0, j1, j2, -⟩ := blk3 HGr.out; obtain ⟨q0, q1, q2, s0, s1, s2⟩ := blk3 (below_keep HBr.out HY.out); clear hlt hi; go_wp2_with fail; (have hyG : w.heap.size + 1 ≠ G := by have := lt_of_block HY.out; have := HGs.out; omega); obtain ⟨E, hE⟩ : ∃ E, E = ((wr.setCell ⟨w.heap.size + 1, 0, none⟩ (.int .i64 n)).setCell ⟨w.heap.size + 1, 1, none⟩ (.slice ad9 rel.length cp9)).setCell ⟨w.heap.size + 1, 2, none⟩ (.slice adT tr.length cpT) := ⟨_, rfl⟩; rw [← hE]; (have hEy : E.heap[w.heap.size + 1]? = some (.cells #[.int .i64 n, .slice ad9 rel.length cp9, .slice adT tr.length cpT] 25 (0, 0)) := by rw [hE]; exact set3M (below_keep HBr.out HY.out) _ _ _); have hz := lt_of_block HY.out
        have hEB : Below w.heap.size w E := by
          rw [hE]; (exact (((HB0.out.trans (HBr.out.mono (by omega))).setCell (p := ⟨w.heap.size + 1, 0, none⟩) (by simp) _).setCell (p := ⟨w.heap.size + 1, 1, none⟩) (by simp) _).setCell (p := ⟨w.heap.size + 1, 2, none⟩) (by simp) _)
        (have hfar : ∀ b, W.heap.size ≤ b → E.heap[b]? = wr.heap[b]? := fun b hb => by rw [hE, farM (by omega), farM (by omega), farM (by omega)]); (have hP := PL.own (rowM_move HOP.out fun g cur hg _ => hfar g (HOP.out.lt g hg).1)); have hTx := HTx.out; rw [List.take_length] at hTx; (have hT := (hTx.move (w' := E) fun g _ hg _ => hfar g hg).sls (rowM_move HOT.out fun g cur hg _ => hfar g (HOT.out.lt g hg).1)); have HP9 : Hid (PL _ _ _) := hP; have HT9 : Hid (SLs _ _ _) := hT; clear hP hT hTx hfar j0 j1 j2 q0 q1 q2 s0 s1 s2 k0 k1 k2; obtain ⟨j0, j1, j2, -⟩ := blk3 hEy; (refine bodyPost_ret (v := .agg #[.int .i64 n, .slice ad9 rel.length cp9, .slice adT tr.length cpT]) (by clear hE; simp [results, Try.results10, go_sem, j0, j1, j2]) rfl ⟨_, rfl, ⟨ad9, cp9, adT, cpT, rfl, HP9.out, HT9.out, HMx.out⟩, hEB⟩)
end Go.Proofs.Ytmahgfgndfcmpag
