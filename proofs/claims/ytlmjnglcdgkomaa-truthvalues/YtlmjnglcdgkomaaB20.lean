/- Texts of one proof, one behind the other: NamesIn1. -/
import Derived.Test.YtlmjnglcdgkomaaB18
import Derived.Test.YtlmjnglcdgkomaaB16
import Derived.Test.YtlmjnglcdgkomaaB17
import Derived.Sort.Walk0
import Derived.Deep.AppendSrc
/- Walks: the names of a formula, as the yardstick tells them. -/
namespace Go.Proofs.Ytlmjnglcdgkomaa
open Go.RowKit Go.Sort

/-- A list of texts that is being made. -/
def KS (B : Nat) (w : World) (ad : Option Addr) (cap : Nat) (l : List (List UInt8)) : Prop := w.ownsRow B 9 1 (.slice ad l.length cap) l.length (l.map encStr)
theorem KS.nil {B : Nat} {w : World} : KS B w none 0 [] := ⟨rfl, Or.inl ⟨rfl, rfl⟩⟩
theorem KS.up {B : Nat} {w w' : World} {ad : Option Addr} {cap : Nat} {l : List (List UInt8)} (h : KS B w ad cap l) (hb : Below w.heap.size w w') : KS B w' ad cap l := owns_up h hb
theorem KS.cell {B : Nat} {w : World} {g cap : Nat} {l : List (List UInt8)} (h : KS B w (some ⟨g, 0, none⟩) cap l) (j : Nat) (t : List UInt8) (ht : l[j]? = some t) : w.cell? ⟨g, j, none⟩ = some (.string ⟨t.toArray⟩) := by
  (have := h.cells (g := g) rfl j (encStr t) (by rw [List.getElem?_map, ht]; rfl)); rw [add_none, Nat.zero_add] at this; exact this
theorem KS.list {B : Nat} {w : World} {ad : Option Addr} {cap : Nat} {l : List (List UInt8)} (h : KS B w ad cap l) : TL w (.slice ad l.length cap) l := by
  have h' := h
  rcases h'.2 with ⟨hv, h0⟩ | ⟨g, cap', cur, hv, hg, hh, h1, h2, -⟩
  · simp only [Value.slice.injEq] at hv
    (exact ⟨ad, cap, rfl, by omega, by rw [hv.2.2]; simp, fun hne => absurd (List.length_eq_zero_iff.1 h0) hne⟩)
  · simp only [Value.slice.injEq, true_and] at hv
    obtain ⟨rfl, rfl⟩ := hv; (exact ⟨_, cap, rfl, h1, h2, fun _ => ⟨g, rfl, fun j t ht => h.cell j t ht⟩⟩)
theorem KS.ne {B : Nat} {w : World} {ad : Option Addr} {cap : Nat} {l : List (List UInt8)} (h : KS B w ad cap l) : (ad = none ∧ l = [] ∧ cap = 0) ∨ ∃ g, ad = some ⟨g, 0, none⟩ ∧ B ≤ g ∧ g < w.heap.size ∧ l.length ≤ cap ∧ cap ≤ maxLen := by
  rcases h.2 with ⟨hv, h0⟩ | ⟨g, cap', cur, hv, hg, hh, h1, h2, -⟩
  · simp only [Value.slice.injEq] at hv
    exact Or.inl ⟨hv.1, List.length_eq_zero_iff.1 h0, hv.2.2⟩
  · simp only [Value.slice.injEq, true_and] at hv
    obtain ⟨rfl, rfl⟩ := hv; exact Or.inr ⟨g, rfl, hg, lt_of_block hh, h1, h2⟩

theorem owns_take {w : World} {B g n cap : Nat} {T : TypeId} {xs : List Value} (h : w.ownsRow B T 1 (.slice (some ⟨g, 0, none⟩) n cap) n xs) (a : Nat) (ha : a ≤ n) : w.ownsRow B T 1 (.slice (some ⟨g, 0, none⟩) a cap) a (xs.take a) := by
  obtain ⟨h0, h⟩ := h
  rcases h with ⟨hv, -⟩ | ⟨g', cap', cur, hv, hg, hh, h1, h2, h3, h4⟩
  · cases hv
  · cases hv
    (refine ⟨by rw [List.length_take, h0]; omega, Or.inr ⟨g, cap, cur, rfl, hg, hh, by omega, h2, h3, ?_⟩⟩); rw [← h4, List.take_take]
    congr 1; omega

/-- Nothing appended. -/
theorem step_append_zero {P : Program} {ops : Array Oper} {o : Oper} {a : Act} {w : World} {K : Act → World → Prop} {Q : Exit → Act → World → Prop} {E : Prop} (hg : o.guard = none) (s x : Operand) (t : TypeId) (hop : o.op = Op.call { callee := Callee.builtin Builtin.append, args := #[s, x], argTypes := #[t, t] })
    (e : TypeId) (i : TypeInfo) (h1 : P.underlying t = some (.slice e)) (h2 : P.info? e = some i) (b off n cap : Nat) (hs : a.eval s = .slice (some ⟨b, off, none⟩) n cap) (hle : n ≤ cap) (x0 : Option Addr) (c : Nat) (hx : a.eval x = .slice x0 0 c)
    (hK : K (a.put o.dst (.slice (some ⟨b, off, none⟩) n cap)) w) : if Region.wanted o (yielded ops a.tmps) = true then Oper.wp P o a w K Q else E := by
  (have hw : Region.wanted o (yielded ops a.tmps) = true := by simp [Region.wanted, hg]); rw [if_pos hw]
  have hsrc : Src P i.size t (.slice x0 0 c) 0 [] w := by
    cases x0 with
    | none => exact Src.ofNil w h1 c
    | some ad => exact Src.ofSlice w h1 ad 0 c [] (by simp) (fun j u h => by simp at h) (fun u h => by cases h)
  (have hrun := run_append_room_src (P := P) w t t o.type e i h1 h2 b off n cap _ 0 [] hsrc (by omega) (fun j h => by simp at h) (fun j h => by simp at h)); (have hz : w.setCells b (off + n * i.size) [] = w := by simp [World.setCells]); rw [hz] at hrun; unfold Oper.wp; simp [execOp, hop, resolve, invoke, builtin, hs, hx, hrun, Result.andThen]; exact hK

theorem below_drewN {B : Nat} {w w' : World} (h : Below B w w') (n : Nat) : Below B w (w'.drewN n) := ⟨h.os, h.tape, h.output, h.size, h.block⟩
theorem enc_one (l : List (List UInt8)) : ∀ u ∈ l.map encStr, u.oneCell' = true := fun u hu => by
  obtain ⟨t, -, rfl⟩ := List.mem_map.1 hu; rfl
theorem KS.drop {B : Nat} {w : World} {g cap : Nat} {L : List (List UInt8)} (h : KS B w (some ⟨g, 0, none⟩) cap L) (a : Nat) : ∀ (j : Nat) (u : Value), ((L.drop a).map encStr)[j]? = some u → w.cell? ((⟨g, a, none⟩ : Addr).add j) = some u := fun j u hu => by
  rw [List.getElem?_map, List.getElem?_drop] at hu; obtain ⟨t, ht, rfl⟩ := Option.map_eq_some_iff.1 hu; rw [add_none]; exact h.cell (a + j) t ht
theorem KS.take {B : Nat} {w : World} {g cap : Nat} {L : List (List UInt8)} (h : KS B w (some ⟨g, 0, none⟩) cap L) (a : Nat) (ha : a ≤ L.length) : w.ownsRow B 9 1 (.slice (some ⟨g, 0, none⟩) a cap) a ((L.take a).map encStr) := by
  have := owns_take h a ha
  rwa [← List.map_take] at this
theorem KS.keep {B : Nat} {w w' : World} {g cap : Nat} {L : List (List UInt8)} (h : KS B w (some ⟨g, 0, none⟩) cap L) (he : w'.heap[g]? = w.heap[g]?) : KS B w' (some ⟨g, 0, none⟩) cap L := by
  obtain ⟨h1, h2⟩ := h; refine ⟨h1, ?_⟩
  rcases h2 with ⟨hv, -⟩ | ⟨g', cap', cur, hv, hg, hh, r⟩
  · cases hv
  · cases hv
    exact Or.inr ⟨g, cap, cur, rfl, hg, he.trans hh, r⟩

theorem mem_ins (L : List (List UInt8)) (t : List UInt8) (a : Nat) (x : List UInt8) : x ∈ L.take a ++ t :: L.drop a ↔ x ∈ L ∨ x = t := by
  have h := List.mem_append (a := x) (s := L.take a) (t := L.drop a); rw [List.take_append_drop] at h; rw [List.mem_append, List.mem_cons, h]
  constructor
  · rintro (h | h | h)
    · exact Or.inl (Or.inl h)
    · exact Or.inr h
    · exact Or.inl (Or.inr h)
  · rintro ((h | h) | h)
    · exact Or.inl h
    · exact Or.inr (Or.inr h)
    · exact Or.inr (Or.inl h)

/-- A name behind all others. -/
theorem app_end {B : Nat} {W w w5 : World} {ad : Option Addr} {cy g5 cp5 q : Nat} {o : Obj} {L : List (List UInt8)} {t : List UInt8} (hB : Below B W w) (hBs : B ≤ w.heap.size) (hk : KS B w ad cy L)
    (hg5 : ((w.drewN q).alloc o).grownBy w5 (Value.slice ad L.length cy).ownBlock) (ho : w5.ownsRow B 9 1 (.slice (some ⟨g5, 0, none⟩) (L.length + 1) cp5) (L.length + 1) (L.map encStr ++ [encStr t])) :
    KS B w5 (some ⟨g5, 0, none⟩) cp5 (L ++ [t]) ∧ Below B W w5 := by
  constructor
  · unfold KS
    rw [List.map_append, List.length_append]; exact ho
  · have h1 : Below B W ((w.drewN q).alloc o) := (below_drewN hB q).alloc hBs o
    (exact h1.trans ⟨hg5.os, hg5.tape, hg5.output, hg5.size, fun j hj => hg5.block j (by simp; omega) (fun e => by have := (World.ownsRow.lt hk j e.symm).1; omega)⟩)

/-- A name at its place: what the two appends leave. -/
theorem ins_end {B : Nat} {W w w4 w5 : World} {gL g5 cp5 a m q : Nat} {o : Obj} {L : List (List UInt8)} {t : List UInt8} (hB : Below B W w) (hBs : B ≤ w.heap.size) (hgB : B ≤ gL) (hm : a + m = (L.take a ++ t :: L.drop a).length)
    (hg4 : ((w.drewN q).alloc o).grownBy w4 (some w.heap.size)) (hg5 : w4.grownBy w5 (some gL)) (ho : w5.ownsRow B 9 1 (.slice (some ⟨g5, 0, none⟩) (a + m) cp5) (a + m) ((L.take a).map encStr ++ (t :: L.drop a).map encStr)) :
    KS B w5 (some ⟨g5, 0, none⟩) cp5 (L.take a ++ t :: L.drop a) ∧ Below B W w5 := by
  constructor
  · unfold KS
    rw [hm] at ho; rw [List.map_append]; exact ho
  · have h1 : Below B W ((w.drewN q).alloc o) := (below_drewN hB q).alloc hBs o
    (have h2 : Below B W w4 := h1.trans ⟨hg4.os, hg4.tape, hg4.output, hg4.size, fun j hj => hg4.block j (by simp; omega) (fun e => by have : j = w.heap.size := Option.some.inj e; omega)⟩)
    have hs4 : w.heap.size ≤ w4.heap.size := by
      have h := hg4.size; simp at h; omega
    (exact h2.trans ⟨hg5.os, hg5.tape, hg5.output, hg5.size, fun j hj => hg5.block j (by omega) (fun e => by have : j = gL := Option.some.inj e; omega)⟩)

set_option maxHeartbeats 4000000 in
theorem namesIn_big (f : Fm) (hs : f.size ≤ 20000) (v : Value) (w : World) (hv : FL w v [f]) :
    Calls Try.prog 24 #[v] w fun e w' => ∃ x, e = .returned x ∧ TL w' x (nmsU f) ∧ Below w.heap.size w w' := by
  obtain ⟨ad0, cap0, rfl, h1, h2, h3⟩ := hv; (obtain ⟨b0, off0, rfl, hrs0⟩ := h3 (by simp)); (have hwk := fun v w h => walk_any f v 100000 w (by omega) h); rw [walk_all f hs] at hwk; (have hNl : (allN f).length ≤ 20000 := by rw [allN_len]; exact hs); (have HNU : Hid (∀ L, Rising L → (∀ t, t ∈ L ↔ t ∈ (nmsOf (allN f)).map (·.data.toList)) → L = nmsU f) := fun L h1 h2 => rising_ext h1 (nmsU_rising f) fun t => by rw [nmsU_mem]; exact h2 t); generalize nmsU f = U at *; obtain ⟨k, n, ks⟩ := f; obtain ⟨sl, cap, g0, g1, g2, hrep0⟩ := hrs0.at 0 k n ks rfl; simp only [Nat.zero_mul, Nat.add_zero] at g0 g1 g2; have HW : Hid (∀ v w, _ → Calls Try.prog 30 _ w _) := hwk; (have hl1 : (1 : Int) ≤ (cap0 : Int) := by simp at h1; omega); obtain ⟨i0, hi, hz0, hz1, hz2⟩ := infoText; have HIo : Hid (Try.prog.info? 9 = some i0 ∧ i0.zero = some (.string ⟨#[]⟩) ∧ i0.size = 1 ∧ i0.bytes = 16) := ⟨hi, hz0, hz1, hz2⟩; clear hwk h3 hrs0 hi hz0 hz1 hz2 hs; generalize allN (.mk k n ks) = nodes at *
  go_enter Try.func24, Try.ntmps24
  go_wp2_with fail
  go_loopg [4, 3] 1 (fun g c o wr => (g = 1 ∧ c = .int .i64 0 ∧ o = .slice none 0 0 ∧ wr = w) ∨ (g = 0 ∧ c = .int .i64 1 ∧ TL wr o U ∧ Below w.heap.size w wr))
  case atStart => exact Or.inl ⟨rfl, rfl, rfl, rfl⟩
  case round =>
    rcases hrel with ⟨rfl, rfl, rfl, hw⟩ | ⟨rfl, rfl, hfl, hbr⟩
    · have hw' := hw.symm
      subst hw'
      go_wp2_with (first
        | (go_at_call 30
           refine (HW.out _ _ hrep0).mono ?_; rintro e w1 ⟨x, rfl, hlo, hb1⟩; obtain ⟨g, cp, rfl, hc1, hc2, hrs⟩ := hlo.reps; (have HS : Hid (Reps w1 (fun _ => True) g 0 nodes) := hrs); have z1 := hb1.size
           clear hlo hrs)
        | fail)
      obtain ⟨hi, hz0, hz1, hz2⟩ := HIo.out; (have hNI : (nodes.length : Int) ≤ 20000 := by omega); clear hrep0 g0 g1 g2 HW
      go_loopg [6, 3] nodes.length (fun g c o wz => ∃ j ad cy L, j ≤ nodes.length ∧ g = nodes.length - j ∧ c = .int .i64 (j : Nat) ∧ o = .slice ad L.length cy ∧ Below w1.heap.size w1 wz ∧ Hid (KS w1.heap.size wz ad cy L) ∧ L.length ≤ j ∧ Hid (Rising L ∧ ∀ t, t ∈ L ↔ t ∈ (nmsOf (nodes.take j)).map (·.data.toList)))
      case atStart => exact ⟨0, none, 0, [], by omega, by omega, rfl, rfl, Below.refl _ _, KS.nil, by simp, List.Pairwise.nil, fun t => by simp [nmsOf]⟩
      case round =>
        obtain ⟨j, ad, cy, L, hj, hg, rfl, rfl, hby, HK, hLj, HL⟩ := hrel; have HG : Hid (gk = nodes.length - j) := hg; clear hg; have zy := hby.size; by_cases hlt : j < nodes.length
        · obtain ⟨⟨k2, n2, ks2⟩, hki⟩ : ∃ f, nodes[j]? = some f := ⟨_, List.getElem?_eq_getElem hlt⟩
          obtain ⟨sl2, cap2, p0, p1, p2, hrep2⟩ := (HS.out.up hby).at j k2 n2 ks2 hki; rw [Nat.zero_add] at p0 p1 p2; (have hltI : (j : Int) < (nodes.length : Int) := by omega); (have hlc : (j : Int) < (cp : Int) := by omega)
          have hT : nmsOf (nodes.take (j + 1)) = nmsOf (nodes.take j) ++ if k2 = 1 then [n2] else [] := by
            rw [List.take_add_one, hki, nmsOf_append]; show _ ++ nmsOf [Fm.mk k2 n2 ks2] = _; rw [nmsOf]; rfl
          clear hrep2 p2; by_cases hk : k2 = 1
          · subst hk
            rw [if_pos rfl] at hT; obtain ⟨t, rfl⟩ : ∃ t : List UInt8, n2 = ⟨t.toArray⟩ := ⟨n2.data.toList, rfl⟩; have hha := hasText_any L t _ wr HK.out.list; by_cases hm : t ∈ L
            · rw [decide_eq_true hm] at hha
              have HA : Hid (Calls Try.prog 32 _ wr _) := hha
              have HT : Hid (∀ x, x ∈ L ↔ x ∈ (nmsOf (nodes.take (j + 1))).map (·.data.toList)) := fun x => by
                rw [hT, List.map_append, List.mem_append, HL.out.2 x]
                constructor
                · exact Or.inl
                · rintro (h | h)
                  · exact h
                  · simp at h; subst h; exact (HL.out.2 _).1 hm
              generalize (⟨t.toArray⟩ : ByteArray) = TT at *; clear hT hki hha
              go_wp2_with (first
                | (go_at_call 32
                   refine HA.out.mono ?_
                   rintro e w2 ⟨rfl, rfl⟩)
                | fail)
              go_roundg (nodes.length - (j + 1))
              case measure => have := HG.out; omega
              case rel => exact ⟨j + 1, ad, cy, L, by omega, rfl, by go_num, rfl, hby, HK, by omega, HL.out.1, HT.out⟩
            · rw [decide_eq_false hm] at hha
              have HA : Hid (Calls Try.prog 32 _ wr _) := hha; have HM : Hid (t ∉ L) := hm
              have HT : Hid (∀ M : List (List UInt8), (∀ x, x ∈ M ↔ x ∈ L ∨ x = t) → ∀ x, x ∈ M ↔ x ∈ (nmsOf (nodes.take (j + 1))).map (·.data.toList)) := fun M hM x => by
                rw [hT, List.map_append, List.mem_append, hM x, HL.out.2 x]
                simp
              clear hT hki hha hm; have HP : Hid (wr.cell? ⟨g, j * 3 + 1, none⟩ = some (.string ⟨t.toArray⟩)) := p1
              go_wp2_with (first
                | (go_at_call 32
                   refine HA.out.mono ?_; rintro e w2 ⟨rfl, hw2⟩; have hw3 := hw2.symm
                   subst hw3)
                | fail)
              (have hLI : (L.length : Int) ≤ 20000 := by omega); obtain ⟨W0, hW0⟩ : ∃ W0, W0 = wr := ⟨_, rfl⟩; subst hW0
              go_loopg [7] L.length (fun g c wz => ∃ a, a ≤ L.length ∧ g = L.length - a ∧ c = .int .i64 (a : Nat) ∧ Below W0.heap.size W0 wz ∧ Hid (∀ (i : Nat) (x : List UInt8), i < a → L[i]? = some x → x < t))
              case atStart => exact ⟨0, by omega, by omega, rfl, Below.refl _ _, fun i x h => absurd h (Nat.not_lt_zero _)⟩
              case round =>
                obtain ⟨a, ha, hg2, rfl, hbz, HX⟩ := hrel; have HG2 : Hid (gk = L.length - a) := hg2; have pz := (hbz.cell (p := ⟨g, j * 3 + 1, none⟩) (lt_of_cell p1)).trans p1; have HKz : Hid (KS w1.heap.size wr ad cy L) := HK.out.up hbz; clear hg2 p0 p1 HP HA; by_cases hal : a < L.length
                · obtain ⟨x, hx⟩ : ∃ x, L[a]? = some x := ⟨_, List.getElem?_eq_getElem hal⟩
                  (have haI : (a : Int) < (L.length : Int) := by omega)
                  rcases HKz.out.ne with ⟨-, h0, -⟩ | ⟨gL, rfl, hgB, hgz, hLc, hcm⟩
                  · rw [h0] at hal; simp at hal
                  have hx0 := HKz.out.cell a x hx; (have hac : (a : Int) < (cy : Int) := by omega); by_cases hxt : x < t
                  · have HXN : Hid (∀ (i : Nat) (y : List UInt8), i < a + 1 → L[i]? = some y → y < t) := fun i y hi hy => by
                      rcases Nat.lt_or_ge i a with h | h
                      · exact HX.out i y h hy
                      · obtain rfl : i = a := by omega
                        rw [hx] at hy; rw [← Option.some.inj hy]; exact hxt
                    (have hbl : Op.bytesLess x t = true := by rw [bytesLess_eq]; exact decide_eq_true hxt); have HBd : Hid (a < L.length) := hal; clear hx hxt hgB hgz hLc hcm hLj ha hal hj hlt; go_wp2_with fail
                    go_quiet (fail)
                    go_wp2_with fail
                    go_roundg (L.length - (a + 1))
                    case measure => have := HG2.out; have := HBd.out; omega
                    case rel => exact ⟨a + 1, HBd.out, rfl, by go_num, below_drewN hbz _, HXN⟩
                  · have hbl : Op.bytesLess x t = false := by rw [bytesLess_eq]; exact decide_eq_false hxt
                    (have HBd : Hid (w1.heap.size ≤ gL ∧ gL < wr.heap.size ∧ L.length ≤ cy ∧ cy ≤ maxLen ∧ a < L.length ∧ L.length ≤ 20000) := ⟨hgB, hgz, hLc, hcm, hal, by omega⟩); (have HRi : Hid (Rising (L.take a ++ t :: L.drop a)) := rising_ins HL.out.1 HX.out (fun y hy => by rw [hx] at hy; rw [← Option.some.inj hy]; exact hxt) HM.out); (have hLcI : (L.length : Int) ≤ (cy : Int) := by omega); have HJ : Hid (j < nodes.length ∧ L.length ≤ j) := ⟨hlt, hLj⟩; (have haI2 : (a : Int) ≤ (L.length : Int) := by omega); (have hacn : ¬ cy = a := by omega); (have hacy : a ≤ cy := by omega); (have haL : a ≤ L.length := by omega); clear hx hxt hgB hgz hLc hcm hLj ha hal hj hlt; go_wp2_with fail
                    go_quiet (fail)
                    go_wp2_with fail
                    go_region_law
                      (first
                       | (have hw4 := HW4.out
                          (refine step_append_lies _ rfl _ _ 39 rfl w1.heap.size 9 i0 (.string ⟨#[]⟩) 1 16 Try.underlying39 hi hz0 hz1 hz2 rfl (by decide) _ _ _ rfl HO4.out ⟨g4, 0, none⟩ (1 + (L.length - a)) cp4 ((t :: L.drop a).map encStr) rfl (by simp; omega) (fun j u hu => hw4.cells (g := g4) rfl j u hu) (enc_one _) (by omega) (by have := HBd.out; unfold maxLen; omega) (by have := HBd.out; omega) (by have := HBd.out; have := HG4.out.size; simp at this; have := hbz.size; omega) _ rfl ?_); intro g5 cp5 w5 hown5 hgrow5 hat5 hlt5; (have HE5 := ins_end (below_join hby hbz) (by have := hbz.size; omega) HBd.out.1 (by have := HBd.out; simp; omega) HG4.out hgrow5 hown5); have HE : Hid (KS w1.heap.size w5 (some ⟨g5, 0, none⟩) cp5 (L.take a ++ t :: L.drop a) ∧ Below w1.heap.size w1 w5) := HE5
                          clear HE5 hown5 hgrow5 hat5 hw4)
                       | (have hin : ((wr.drewN (nq + 1)).alloc (.cells #[.string ⟨t.toArray⟩] 9 (0, 0))).ownsRow wr.heap.size 9 1 (.slice (some ⟨wr.heap.size, 0, none⟩) 1 1) 1 [.string ⟨t.toArray⟩] := ⟨rfl, Or.inr ⟨wr.heap.size, 1, #[.string ⟨t.toArray⟩], rfl, Nat.le_refl _, blk_new _ _, by omega, by simp [maxLen], rfl, rfl⟩⟩
                          have hks : KS w1.heap.size ((wr.drewN (nq + 1)).alloc (.cells #[.string ⟨t.toArray⟩] 9 (0, 0))) (some ⟨gL, 0, none⟩) cy L := HKz.out.up ((below_drewN (Below.refl _ wr) _).alloc (Nat.le_refl _) _); (refine step_append_lies _ rfl _ _ 39 rfl wr.heap.size 9 i0 (.string ⟨#[]⟩) 1 16 Try.underlying39 hi hz0 hz1 hz2 rfl (by decide) _ _ _ rfl hin ⟨gL, a, none⟩ (L.length - a) (cy - a) ((L.drop a).map encStr) rfl (by simp) (hks.drop a) (enc_one _) (by have := HBd.out; omega) (by have := HBd.out; unfold maxLen; omega) (by have := HBd.out; omega) (by simp) _ rfl ?_); intro g4 cp4 w4 hown4 hgrow4 hat4 hlt4; have HW4 : Hid (w4.ownsRow wr.heap.size 9 1 (.slice (some ⟨g4, 0, none⟩) (1 + (L.length - a)) cp4) (1 + (L.length - a)) ((t :: L.drop a).map encStr)) := hown4; have HG4 : Hid (((wr.drewN (nq + 1)).alloc (.cells #[.string ⟨t.toArray⟩] 9 (0, 0))).grownBy w4 (some wr.heap.size)) := hgrow4; (have HO4 : Hid (w4.ownsRow w1.heap.size 9 1 (.slice (some ⟨gL, 0, none⟩) a cy) a ((L.take a).map encStr)) := (hks.keep (HG4.out.block gL (by have := HBd.out; simp; omega) (fun e => by have : gL = wr.heap.size := Option.some.inj e; have := HBd.out; omega))).take a (by have := HBd.out; omega))
                          clear hown4 hgrow4 hat4 hin hks)
                       | fail)
                    all_goals
                      go_wp2_with fail; (have hl2 : (L.take a ++ t :: L.drop a).length = L.length + 1 := by have := HBd.out; simp; omega)
                      go_roundg (nodes.length - (j + 1))
                      case measure => have := HG.out; have := HJ.out; omega
                      case rel => exact ⟨j + 1, some ⟨g5, 0, none⟩, cp5, L.take a ++ t :: L.drop a, by have := HJ.out; omega, rfl, by go_num, by rw [hl2, show a + (1 + (L.length - a)) = L.length + 1 by have := HBd.out; omega], HE.out.2, HE.out.1, by have := HJ.out; omega, HRi.out, HT.out _ (mem_ins L t a)⟩
                · obtain rfl : a = L.length := by omega
                  (have hal' : decide ((L.length : Int) < (L.length : Int)) = false := by simp)
                  have HRi : Hid (Rising (L ++ [t])) := by
                    (have := rising_ins HL.out.1 HX.out (fun y hy => by rw [List.getElem?_eq_none (Nat.le_refl _)] at hy; cases hy) HM.out)
                    rwa [List.take_length, List.drop_length] at this
                  (have HMI : Hid (∀ x, x ∈ L ++ [t] ↔ x ∈ L ∨ x = t) := fun x => by simp); (have HJ : Hid (j < nodes.length ∧ L.length ≤ j ∧ L.length ≤ 20000) := ⟨hlt, hLj, by omega⟩)
                  rcases HKz.out.ne with ⟨rfl, rfl, rfl⟩ | ⟨gL, rfl, hgB, hgz, hLc, hcm⟩
                  · clear hLj ha hal hj hlt
                    go_wp2_with fail
                    go_quiet (fail)
                    go_wp2_with fail
                    go_region_law
                      (first
                       | (refine step_append_lies _ rfl _ _ 39 rfl w1.heap.size 9 i0 (.string ⟨#[]⟩) 1 16 Try.underlying39 hi hz0 hz1 hz2 rfl (by decide) _ _ _ rfl (show World.ownsRow ((wr.drewN (nq + 1)).alloc (.cells #[.string ⟨t.toArray⟩] 9 (0, 0))) w1.heap.size 9 1 (.slice none 0 0) 0 [] from ⟨rfl, Or.inl ⟨rfl, rfl⟩⟩) ⟨wr.heap.size, 0, none⟩ 1 1 [.string ⟨t.toArray⟩] rfl rfl ?_ ?_ (by omega) (by unfold maxLen; omega) (by omega) (by have := hbz.size; simp; omega) _ rfl ?_
                          · intro i u hu
                            rw [add_none, Nat.zero_add, show wr.heap.size = (wr.drewN (nq + 1)).heap.size from rfl, blk_cell (blk_new (wr.drewN (nq + 1)) _)]; simpa using hu
                          · intro u hu
                            simp at hu
                            rcases hu with rfl; rfl
                          intro g5 cp5 w5 hown5 hgrow5 hat5 hlt5; (have HE5 := app_end (t := t) (below_join hby hbz) (by have := hbz.size; omega) HKz.out hgrow5 hown5); have HE : Hid (KS w1.heap.size w5 (some ⟨g5, 0, none⟩) cp5 (([] : List (List UInt8)) ++ [t]) ∧ Below w1.heap.size w1 w5) := HE5
                          clear HE5 hown5 hgrow5 hat5)
                       | fail)
                    all_goals
                      go_wp2_with fail
                      go_roundg (nodes.length - (j + 1))
                      case measure => have := HG.out; have := HJ.out; omega
                      case rel => exact ⟨j + 1, some ⟨g5, 0, none⟩, cp5, ([] : List (List UInt8)) ++ [t], by have := HJ.out; omega, rfl, by go_num, by simp, HE.out.2, HE.out.1, by simp, HRi.out, HT.out _ HMI.out⟩
                  · have hLcI : (L.length : Int) ≤ (cy : Int) := by omega
                    have HBd : Hid (w1.heap.size ≤ gL ∧ gL < wr.heap.size ∧ L.length ≤ cy ∧ cy ≤ maxLen) := ⟨hgB, hgz, hLc, hcm⟩; clear hLj ha hal hj hlt hgB hgz hcm; by_cases hcl : L.length = cy
                    · subst hcl
                      clear hLc; go_wp2_with fail
                      go_quiet (fail)
                      go_wp2_with fail
                      go_region_law
                        (first
                         | (refine step_append_lies _ rfl _ _ 39 rfl w1.heap.size 9 i0 (.string ⟨#[]⟩) 1 16 Try.underlying39 hi hz0 hz1 hz2 rfl (by decide) _ _ _ rfl (HKz.out.up ((below_drewN (Below.refl _ wr) (nq + 1)).alloc (Nat.le_refl _) (.cells #[.string ⟨t.toArray⟩] 9 (0, 0)))) ⟨wr.heap.size, 0, none⟩ 1 1 [.string ⟨t.toArray⟩] rfl rfl ?_ ?_ (by omega) (by have := HJ.out; unfold maxLen; simp at this ⊢; omega) (by have := HJ.out; simp at this ⊢; omega) (by have := hbz.size; simp; omega) _ rfl ?_
                            · intro i u hu
                              rw [add_none, Nat.zero_add, show wr.heap.size = (wr.drewN (nq + 1)).heap.size from rfl, blk_cell (blk_new (wr.drewN (nq + 1)) _)]; simpa using hu
                            · intro u hu
                              simp at hu
                              rcases hu with rfl; rfl
                            intro g5 cp5 w5 hown5 hgrow5 hat5 hlt5; (have HE5 := app_end (t := t) (below_join hby hbz) (by have := hbz.size; omega) HKz.out hgrow5 hown5); have HE : Hid (KS w1.heap.size w5 (some ⟨g5, 0, none⟩) cp5 (L ++ [t]) ∧ Below w1.heap.size w1 w5) := HE5
                            clear HE5 hown5 hgrow5 hat5)
                         | (refine step_append_zero rfl _ _ 39 rfl 9 i0 Try.underlying39 hi wr.heap.size 0 1 1 rfl (by omega) _ _ rfl ?_)
                         | fail)
                      all_goals
                        clear hal' hLcI; go_wp2_with fail
                        go_roundg (nodes.length - (j + 1))
                        case measure => have := HG.out; have := HJ.out; omega
                        case rel => exact ⟨j + 1, some ⟨g5, 0, none⟩, cp5, L ++ [t], by have := HJ.out; omega, rfl, by go_num, by simp, HE.out.2, HE.out.1, by have := HJ.out; simp at this ⊢; omega, HRi.out, HT.out _ HMI.out⟩
                    · have hacn : ¬ cy = L.length := fun e => hcl e.symm
                      go_wp2_with fail
                      go_quiet (fail)
                      go_wp2_with fail
                      go_region_law
                        (first
                         | (refine step_append_lies _ rfl _ _ 39 rfl w1.heap.size 9 i0 (.string ⟨#[]⟩) 1 16 Try.underlying39 hi hz0 hz1 hz2 rfl (by decide) _ _ _ rfl (HKz.out.up ((below_drewN (Below.refl _ wr) (nq + 1)).alloc (Nat.le_refl _) (.cells #[.string ⟨t.toArray⟩] 9 (0, 0)))) ⟨wr.heap.size, 0, none⟩ 1 1 [.string ⟨t.toArray⟩] rfl rfl ?_ ?_ (by omega) (by have := HJ.out; unfold maxLen; simp at this ⊢; omega) (by have := HJ.out; simp at this ⊢; omega) (by have := hbz.size; simp; omega) _ rfl ?_
                            · intro i u hu
                              rw [add_none, Nat.zero_add, show wr.heap.size = (wr.drewN (nq + 1)).heap.size from rfl, blk_cell (blk_new (wr.drewN (nq + 1)) _)]; simpa using hu
                            · intro u hu
                              simp at hu
                              rcases hu with rfl; rfl
                            intro g5 cp5 w5 hown5 hgrow5 hat5 hlt5; (have HE5 := app_end (t := t) (below_join hby hbz) (by have := hbz.size; omega) HKz.out hgrow5 hown5); have HE : Hid (KS w1.heap.size w5 (some ⟨g5, 0, none⟩) cp5 (L ++ [t]) ∧ Below w1.heap.size w1 w5) := HE5
                            clear HE5 hown5 hgrow5 hat5)
                         | (refine step_append_zero rfl _ _ 39 rfl 9 i0 Try.underlying39 hi wr.heap.size 0 1 1 rfl (by omega) _ _ rfl ?_)
                         | fail)
                      all_goals
                        clear hal' hLcI; go_wp2_with fail
                        go_roundg (nodes.length - (j + 1))
                        case measure => have := HG.out; have := HJ.out; omega
                        case rel => exact ⟨j + 1, some ⟨g5, 0, none⟩, cp5, L ++ [t], by have := HJ.out; omega, rfl, by go_num, by simp, HE.out.2, HE.out.1, by have := HJ.out; simp at this ⊢; omega, HRi.out, HT.out _ HMI.out⟩
          · rw [if_neg hk, List.append_nil] at hT
            have HT : Hid (nmsOf (nodes.take (j + 1)) = nmsOf (nodes.take j)) := hT; (have hkJ : (k2 != 1) = true := by simpa using hk); clear hT hki; go_wp2_with fail
            go_roundg (nodes.length - (j + 1))
            case measure => have := HG.out; omega
            case rel => exact ⟨j + 1, ad, cy, L, by omega, rfl, by go_num, rfl, hby, HK, by omega, HL.out.1, by rw [HT.out]; exact HL.out.2⟩
        · have HE : Hid (L = U) := HNU.out L HL.out.1 (by have := HL.out.2; rwa [List.take_of_length_le (by omega)] at this)
          (have hge : ¬ (j : Int) < (nodes.length : Int) := by omega); go_wp2_with fail
          go_roundg 0
          case measure => omega
          case rel => exact Or.inr ⟨rfl, rfl, by rw [← HE.out]; exact HK.out.list, below_join hb1 (hby.mono (Nat.le_refl _))⟩
    · have HF : Hid (TL wr _ U) := hfl
      obtain ⟨ad, cp, rfl, -⟩ := hfl; go_wp2_with fail; go_ret; exact ⟨_, rfl, HF.out, hbr⟩
theorem namesIn_any (f : Fm) (hs : f.size ≤ 200) (v : Value) (w : World) (hv : FL w v [f]) :
    Calls Try.prog 24 #[v] w fun e w' => ∃ x, e = .returned x ∧ TL w' x (nmsU f) ∧ Below w.heap.size w w' := namesIn_big f (by omega) v w hv
end Go.Proofs.Ytlmjnglcdgkomaa
