/- Texts of one proof, one behind the other: FR5, PB2, PB3. -/
import Derived.Test.YtheiikkeelbjnajGreatB09
import Derived.Test.YtheiikkeelbjnajGreatB07
import Derived.Test.YtheiikkeelbjnajGreatB12
import Derived.Test.YtheiikkeelbjnajGreatB10
import Derived.Shelf.Strings.OnBuilder
import Derived.Shelf.Slices.Equal
import Derived.Shelf.Slices.Empties2
import Derived.Test.YtheiikkeelbjnajGreatProg
import Derived.Deep.OwnRows
import Derived.Laws.BitsLemmas
import Derived.Deep.RegionHeld3
import Derived.Deep.RegionLaw
import Derived.Test.YtheiikkeelbjnajGreatB01
import Derived.Test.YtheiikkeelbjnajGreatB05
import Derived.RegionTactic
import Derived.Deep.Upon
import Derived.Test.YtheiikkeelbjnajGreatB13
/- Words in memory of their own: for lists of words that are made. -/
namespace Go.Proofs.YtheiikkeelbjnajGreat
open Go.RowKit Go.Sort

mutual
/-- A word whose args lie in blocks of ok. -/
def WQ (w : World) (ok : Nat → Prop) : Wd → Value → Prop
  | .mk n ar, v => ∃ sl cap, v = .agg #[.string n, .slice sl ar.length cap] ∧ n.size ≤ maxLen ∧ ar.length ≤ cap ∧ cap ≤ maxLen ∧ (ar ≠ [] → ∃ b off, sl = some ⟨b, off, none⟩ ∧ ok b ∧ WQs w ok b off ar)
def WQs (w : World) (ok : Nat → Prop) (b : Nat) : Nat → List Wd → Prop
  | _, [] => True
  | off, x :: xs => (∃ c0 c1, w.cell? ⟨b, off, none⟩ = some c0 ∧ w.cell? ⟨b, off + 1, none⟩ = some c1 ∧ WQ w ok x (.agg #[c0, c1])) ∧ WQs w ok b (off + 2) xs
end
theorem WQ.def {w : World} {ok : Nat → Prop} {n : ByteArray} {ar : List Wd} {v : Value} : WQ w ok (.mk n ar) v ↔ ∃ sl cap, v = .agg #[.string n, .slice sl ar.length cap] ∧ n.size ≤ maxLen ∧ ar.length ≤ cap ∧ cap ≤ maxLen ∧ (ar ≠ [] → ∃ b off, sl = some ⟨b, off, none⟩ ∧ ok b ∧ WQs w ok b off ar) := by
  rw [WQ]
theorem WQs.nil {w : World} {ok : Nat → Prop} {b off : Nat} : WQs w ok b off [] := by rw [WQs]; trivial
theorem WQs.cons {w : World} {ok : Nat → Prop} {b off : Nat} {x : Wd} {xs : List Wd} : WQs w ok b off (x :: xs) ↔ (∃ c0 c1, w.cell? ⟨b, off, none⟩ = some c0 ∧ w.cell? ⟨b, off + 1, none⟩ = some c1 ∧ WQ w ok x (.agg #[c0, c1])) ∧ WQs w ok b (off + 2) xs := by
  rw [WQs]
mutual
theorem WQ.move {w w' : World} {ok ok' : Nat → Prop} (hc : ∀ b, b < w.heap.size → ok b → w'.heap[b]? = w.heap[b]? ∧ ok' b) : ∀ (x : Wd) (v : Value), WQ w ok x v → WQ w' ok' x v
  | .mk n ar, v, h => by
    rw [WQ.def] at h ⊢; obtain ⟨sl, cap, hv, hn, hl, hc', hk⟩ := h; (refine ⟨sl, cap, hv, hn, hl, hc', fun hne => ?_⟩); obtain ⟨b, off, hsl, hb, hr⟩ := hk hne
    have hlt : b < w.heap.size := by
      cases ar with
      | nil => exact absurd rfl hne
      | cons f fs =>
        obtain ⟨⟨c0, -, h0, -⟩, -⟩ := WQs.cons.1 hr; exact lt_of_cell h0
    exact ⟨b, off, hsl, (hc b hlt hb).2, WQs.move hc hb off ar hr⟩
theorem WQs.move {w w' : World} {ok ok' : Nat → Prop} (hc : ∀ b, b < w.heap.size → ok b → w'.heap[b]? = w.heap[b]? ∧ ok' b) {b : Nat} (hb : ok b) : ∀ (off : Nat) (xs : List Wd), WQs w ok b off xs → WQs w' ok' b off xs
  | _, [], _ => WQs.nil
  | off, f :: fs, h => by
    rw [WQs.cons] at h ⊢; obtain ⟨⟨c0, c1, h0, h1, hr⟩, hrs⟩ := h; (have hk : ∀ o, w'.cell? ⟨b, o, none⟩ = w.cell? ⟨b, o, none⟩ := fun o => cell_of_block (hc b (lt_of_cell h0) hb).1); exact ⟨⟨c0, c1, (hk _).trans h0, (hk _).trans h1, WQ.move hc f _ hr⟩, WQs.move hc hb (off + 2) fs hrs⟩
end
mutual
theorem WQ.rep {w : World} {ok : Nat → Prop} : ∀ (x : Wd) (v : Value), WQ w ok x v → WRp w x v
  | .mk n ar, v, h => by
    rw [WQ.def] at h; rw [WRp.def]; obtain ⟨sl, cap, hv, hn, hl, hc', hk⟩ := h; (refine ⟨sl, cap, hv, hn, hl, hc', fun hne => ?_⟩); obtain ⟨b, off, hsl, -, hr⟩ := hk hne; exact ⟨b, off, hsl, WQs.reps off ar hr⟩
theorem WQs.reps {w : World} {ok : Nat → Prop} {b : Nat} : ∀ (off : Nat) (xs : List Wd), WQs w ok b off xs → WRps w b off xs
  | _, [], _ => WRps.nil
  | off, f :: fs, h => by
    rw [WQs.cons] at h; rw [WRps.cons]; obtain ⟨⟨c0, c1, h0, h1, hr⟩, hrs⟩ := h; exact ⟨⟨c0, c1, h0, h1, WQ.rep f _ hr⟩, WQs.reps (off + 2) fs hrs⟩
end
/-- Cells, two by two, that are such words. -/
def WQ2 (ok : Nat → Prop) (w : World) : List Value → List Wd → Prop
  | [], [] => True
  | c0 :: c1 :: cs, x :: xs => WQ w ok x (.agg #[c0, c1]) ∧ WQ2 ok w cs xs
  | _, _ => False
theorem WQ2.append {w : World} {ok : Nat → Prop} : ∀ {cs : List Value} {xs : List Wd} {ds : List Value} {ys : List Wd}, WQ2 ok w cs xs → WQ2 ok w ds ys → WQ2 ok w (cs ++ ds) (xs ++ ys)
  | [], [], _, _, _, k => k
  | _ :: _ :: _, _ :: _, _, _, h, k => ⟨h.1, WQ2.append h.2 k⟩
theorem WQ2.move {w w' : World} {ok ok' : Nat → Prop} (hc : ∀ b, b < w.heap.size → ok b → w'.heap[b]? = w.heap[b]? ∧ ok' b) : ∀ {cs : List Value} {xs : List Wd}, WQ2 ok w cs xs → WQ2 ok' w' cs xs
  | [], [], _ => trivial
  | _ :: _ :: _, _ :: _, h => ⟨WQ.move hc _ _ h.1, WQ2.move hc h.2⟩
theorem WQ2.reps {w : World} {ok : Nat → Prop} {b : Nat} : ∀ {cs : List Value} {xs : List Wd} (off : Nat), WQ2 ok w cs xs → (∀ (j : Nat) (u : Value), cs[j]? = some u → w.cell? ⟨b, off + j, none⟩ = some u) → WQs w ok b off xs
  | [], [], _, _, _ => WQs.nil
  | c0 :: c1 :: cs, f :: fs, off, h, hc => WQs.cons.2 ⟨⟨c0, c1, hc 0 c0 rfl, hc 1 c1 rfl, h.1⟩, WQ2.reps (off + 2) h.2 fun j u hu => by
      (have := hc (j + 2) u (by simpa using hu))
      rwa [show off + (j + 2) = off + 2 + j by omega] at this⟩
/-- A list of words that is made: in a row of one's own. -/
def KWd (B : Nat) (w : World) (ad : Option Addr) (cap : Nat) (xs : List Wd) : Prop := ∃ cs, w.ownsRow B 27 2 (.slice ad xs.length cap) xs.length cs ∧ WQ2 (fun b => B ≤ b ∧ (Value.slice ad xs.length cap).ownBlock ≠ some b) w cs xs
theorem KWd.same {B : Nat} {w w' : World} {ad : Option Addr} {cap : Nat} {xs : List Wd} (h : KWd B w ad cap xs) (hb : ∀ b, B ≤ b → b < w.heap.size → w'.heap[b]? = w.heap[b]?) : KWd B w' ad cap xs := by
  obtain ⟨cs, ⟨h1, h2⟩, h3⟩ := h; (refine ⟨cs, ⟨h1, ?_⟩, h3.move fun b hb1 hb2 => ⟨hb b hb2.1 hb1, hb2⟩⟩)
  rcases h2 with h2 | ⟨g, cap, cur, hv, hg, hh, r⟩
  · exact Or.inl h2
  · exact Or.inr ⟨g, cap, cur, hv, hg, (hb g hg (lt_of_block hh)).trans hh, r⟩
/-- One word more. -/
theorem KWd.app {B : Nat} {w1 w3 : World} {o : Obj} {ad : Option Addr} {cp : Nat} {xs : List Wd} {x : Wd} {c0 c1 : Value} {cs : List Value} {g3 cp3 i : Nat} (hi : xs.length = i) (hB : B ≤ w1.heap.size)
    (hown : (w1.alloc o).ownsRow B 27 2 (.slice ad i cp) i cs) (hlq : WQ2 (fun b => B ≤ b ∧ (Value.slice ad i cp).ownBlock ≠ some b) (w1.alloc o) cs xs)
    (hrep : WQ w1 (fun b => B ≤ b ∧ (Value.slice ad i cp).ownBlock ≠ some b) x (.agg #[c0, c1]))
    (hown3 : w3.ownsRow B 27 2 (.slice (some ⟨g3, 0, none⟩) (i + 1) cp3) (i + 1) (cs ++ [c0, c1]))
    (hgrow : (w1.alloc o).grownBy w3 (Value.slice ad i cp).ownBlock) (hat : (Value.slice ad i cp).ownBlock = some g3 ∨ g3 = (w1.alloc o).heap.size) :
    Below B w1 w3 ∧ KWd B w3 (some ⟨g3, 0, none⟩) cp3 (xs ++ [x]) := by
  subst hi; (have hs : (w1.alloc o).heap.size = w1.heap.size + 1 := by simp); have hs2 := hgrow.size; (refine ⟨⟨hgrow.os, hgrow.tape, hgrow.output, by omega, fun j hj => ?_⟩, cs ++ [c0, c1], ?_, ?_⟩)
  · rw [hgrow.block j (by omega) (fun e => by have := (hown.lt j e.symm).1; omega), Below.heap_alloc _ _ _ (by omega)]
  · rw [List.length_append]; exact hown3
  · refine (hlq.append (ds := [c0, c1]) (ys := [x]) ⟨WQ.move (fun b hb hok => ⟨Below.heap_alloc _ _ _ hb, hok⟩) _ _ hrep, trivial⟩).move fun b hb hok => ⟨hgrow.block b hb (fun e => hok.2 e.symm), hok.1, fun e => ?_⟩
    (have e : g3 = b := by simpa [Value.ownBlock] using e)
    rcases hat with h | h
    · exact hok.2 (by rw [h, e])
    · omega
/-- The list is a word's args. -/
theorem KWd.rep {B : Nat} {w : World} {ad : Option Addr} {cap : Nat} {xs : List Wd} (h : KWd B w ad cap xs) (n : ByteArray) (hn : n.size ≤ maxLen) : WQ w (B ≤ ·) (.mk n xs) (.agg #[.string n, .slice ad xs.length cap]) := by
  obtain ⟨cs, hown, hlq⟩ := h
  rcases hown.2 with ⟨hv, h0⟩ | ⟨b, cp, cur, hv, hg, hh, h1, h2, -⟩
  · simp only [Value.slice.injEq] at hv
    obtain ⟨rfl, -, rfl⟩ := hv; (exact WQ.def.2 ⟨none, 0, rfl, hn, by omega, by simp, fun hne => absurd (List.length_eq_zero_iff.1 h0) hne⟩)
  · simp only [Value.slice.injEq, true_and] at hv
    obtain ⟨rfl, rfl⟩ := hv; (refine WQ.def.2 ⟨_, cap, rfl, hn, h1, h2, fun _ => ⟨b, 0, rfl, hg, ?_⟩⟩)
    have := (hlq.move (ok' := (B ≤ ·)) fun b _ hb => ⟨rfl, hb.1⟩).reps (b := b) 0 fun j u hu => by
      have := hown.cells (g := b) rfl j u hu; rw [add_none] at this; exact this
    exact this
theorem infoWd : ∃ i, Tryz.prog.info? 27 = some i ∧ i.zero = some (.agg #[.string ⟨#[]⟩, .slice none 0 0]) ∧ i.size = 2 ∧ i.bytes = 40 := by
  (obtain ⟨i, hi, h⟩ := Option.map_eq_some_iff.1 (show (Tryz.prog.info? 27).map (fun i => (i.zero, i.size, i.bytes)) = some (some (.agg #[.string ⟨#[]⟩, .slice none 0 0]), 2, 40) by kernel_rfl)); simp only [Prod.mk.injEq] at h; exact ⟨i, hi, h.1, h.2.1, h.2.2⟩
theorem wsizes_app : ∀ (l m : List Wd), Wd.sizes (l ++ m) = Wd.sizes l + Wd.sizes m
  | [], m => by simp [Wd.sizes]
  | x :: l, m => by simp only [List.cons_append, Wd.sizes, wsizes_app l m]; omega
theorem wlen_sizes : ∀ (l : List Wd), l.length ≤ Wd.sizes l
  | [] => by simp
  | .mk _ _ :: l => by have := wlen_sizes l; simp only [List.length_cons, Wd.sizes, Wd.size]; omega
/-- A list of one word, made. -/
theorem KWd.one {B : Nat} {w : World} {x : Wd} {c0 c1 : Value} (hB : B ≤ w.heap.size) (h : WQ w (B ≤ ·) x (.agg #[c0, c1])) : KWd B (w.alloc (.cells #[c0, c1] 27 (0, 0))) (some ⟨w.heap.size, 0, none⟩) 1 [x] := by
  (refine ⟨[c0, c1], ⟨rfl, Or.inr ⟨w.heap.size, 1, #[c0, c1], rfl, hB, blk_new _ _, by simp, by simp [maxLen], rfl, rfl⟩⟩, ?_, trivial⟩); (refine WQ.move (fun b hb hok => ⟨Below.heap_alloc _ _ _ hb, hok, fun e => ?_⟩) _ _ h); (have e : w.heap.size = b := by simpa [Value.ownBlock] using e); omega
theorem Kept.trans' {ok : Nat → Prop} {w u v : World} (h : Kept ok w u) (k : Below w.heap.size u v) : Kept ok w v :=
  ⟨k.os.trans h.os, k.tape.trans h.tape, k.output.trans h.output, Nat.le_trans h.size k.size, fun b hb ho => (k.block b hb).trans (h.block b hb ho)⟩
end Go.Proofs.YtheiikkeelbjnajGreat
/- Walks: words put for variables (syntax.PutAll, put, Copy). -/
namespace Go.Proofs.YtheiikkeelbjnajGreat
open Go.RowKit Go.Shelf Go.Sort
attribute [local go_sem] Oper.semAt_some

/-- A word in memory with all its blocks new. -/
def NewW (w w' : World) (x : Wd) (v : Value) : Prop := WQ w' (w.heap.size ≤ ·) x v ∧ Below w.heap.size w w'
mutual
/-- All names are short enough to be copied. -/
def Wsm : Wd → Prop
  | .mk n ar => n.size ≤ 281474976710656 ∧ Wsms ar
def Wsms : List Wd → Prop
  | [] => True
  | x :: l => Wsm x ∧ Wsms l
end
theorem wsms_at : ∀ {l : List Wd} {i : Nat} {x : Wd}, Wsms l → l[i]? = some x → Wsm x
  | y :: l, 0, x, hs, h => by simp at h; subst h; rw [Wsms] at hs; exact hs.1
  | y :: l, i + 1, x, hs, h => by rw [Wsms] at hs; exact wsms_at (l := l) (i := i) hs.2 (by simpa using h)
/-- put, whatever the binds, of words of fewer nodes than m. -/
def PutS (bv : Value) (w0 : World) (f : Wd → Wd) (m : Nat) : Prop := ∀ (x : Wd) (v : Value) (w : World), x.size < m → Wsm x → WRp w0 x v → Below w0.heap.size w0 w →
  Calls Tryz.prog 173 #[v, bv] w fun e w' => ∃ u, e = .returned u ∧ NewW w w' (f x) u
def PutAllS (bv : Value) (w0 : World) (f : Wd → Wd) (m : Nat) : Prop := ∀ (l : List Wd) (v : Value) (w : World), Wd.sizes l < m → Wsms l → WL w0 v l → Below w0.heap.size w0 w →
  Calls Tryz.prog 132 #[v, bv] w fun e w' => ∃ ad cp, e = .returned (.slice ad l.length cp) ∧ KWd w.heap.size w' ad cp (l.map f) ∧ Below w.heap.size w w'
theorem sizes_at : ∀ {l : List Wd} {i : Nat} {x : Wd}, l[i]? = some x → x.size ≤ Wd.sizes l
  | y :: l, 0, x, h => by simp at h; subst h; rw [Wd.sizes]; omega
  | y :: l, i + 1, x, h => by have := sizes_at (l := l) (i := i) (by simpa using h); rw [Wd.sizes]; omega
theorem take_snocW {l : List Wd} {i : Nat} {x : Wd} (h : l[i]? = some x) : l.take (i + 1) = l.take i ++ [x] := by rw [List.take_add_one, h]; rfl
theorem wd_eta : ∀ x : Wd, x = .mk (match x with | .mk n _ => n) (match x with | .mk _ a => a)
  | .mk _ _ => rfl
theorem KWd.none (B : Nat) (w : World) : KWd B w none 0 [] := ⟨[], ⟨rfl, Or.inl ⟨rfl, rfl⟩⟩, trivial⟩
set_option maxRecDepth 10000 in
set_option maxHeartbeats 4000000 in
theorem putAll_of (bv : Value) (w0 : World) (f : Wd → Wd) (m : Nat) (hm : m ≤ 1000000) (ih : PutS bv w0 f m) : PutAllS bv w0 f m := by
  intro l v w hs hsm hl hb0; have HX : Hid (WL w0 v l) := hl; have HB0 : Hid (Below w0.heap.size w0 w) := hb0; have HIH : Hid (PutS bv w0 f m) := ih; have HSm : Hid (Wsms l) := hsm; obtain ⟨sl, cap, rfl, hx2, hx3, -⟩ := hl; have hls := wlen_sizes l; (have hlI : (l.length : Int) ≤ 1000000 := by omega); (have hcI : (l.length : Int) ≤ (cap : Int) := by omega); (have HS : Hid (Wd.sizes l < m ∧ m ≤ 1000000 ∧ l.length ≤ 1000000) := ⟨hs, hm, by omega⟩); clear hs hb0 ih hm hls hx2 hx3 hsm
  go_enter Tryz.func132, Tryz.ntmps132
  go_wp2_with fail
  go_loopg [10, 5] l.length (fun gg cc x wr => ∃ (i : Nat) (ad : Option Addr) (cp : Nat), i ≤ l.length ∧ gg = l.length - i ∧ cc = .int .i64 (i : Nat) ∧ x = .slice ad i cp ∧ Hid (KWd w.heap.size wr ad cp ((l.take i).map f)) ∧ Hid (Below w.heap.size w wr))
  case atStart => exact ⟨0, none, 0, by omega, by omega, rfl, rfl, KWd.none _ _, Below.refl _ _⟩
  case round =>
    obtain ⟨i, ad, cp, hi, hg, rfl, rfl, HK, HB⟩ := hrel; have HGk : Hid (gk = l.length - i) := hg; clear hg; by_cases hlt : i < l.length
    · obtain ⟨⟨n2, ws2⟩, hki⟩ : ∃ x, l[i]? = some x := ⟨_, List.getElem?_eq_getElem hlt⟩
      obtain ⟨b, off, sl2, cap2, rfl, y0, y1, hr⟩ := HX.out.at i n2 ws2 hki; have HBw : Hid (Below w0.heap.size w0 wr) := below_join HB0.out HB.out; have x0 := (HBw.out.cell (lt_of_cell y0)).trans y0; have x1 := (HBw.out.cell (lt_of_cell y1)).trans y1; (have HTk : Hid ((l.take (i + 1)).map f = (l.take i).map f ++ [f (.mk n2 ws2)]) := by show _ = _; rw [take_snocW hki, List.map_append]; rfl); (have hlt2 : (i : Int) < (l.length : Int) := by omega); (have HI : Hid (i < l.length ∧ ((l.take i).map f).length = i) := ⟨hlt, by rw [List.length_map, List.length_take]; omega⟩); have hsx := sizes_at hki; (have HC : Hid (∀ W, Below w0.heap.size w0 W → Calls Tryz.prog 173 #[.agg #[.string n2, .slice sl2 ws2.length cap2], bv] W _) := fun W hW => HIH.out (.mk n2 ws2) _ W (by have := HS.out; omega) (wsms_at HSm.out hki) hr hW); obtain ⟨i0, hi0, hz0, hz1, hz2⟩ := infoWd; have HIo : Hid (Tryz.prog.info? 27 = some i0 ∧ i0.zero = some (.agg #[.string ⟨#[]⟩, .slice none 0 0]) ∧ i0.size = 2 ∧ i0.bytes = 40) := ⟨hi0, hz0, hz1, hz2⟩; clear hki y0 y1 hr hlt hi hsx hi0 hz0 hz1 hz2
      go_wp2_with (first
        | (go_at_call 173
           refine (HC.out _ (below_more HBw.out _)).mono ?_; rintro e w4 ⟨u4, rfl, hq4, hb4⟩; obtain ⟨n4, ar4, hx4⟩ : ∃ n4 ar4, f (.mk n2 ws2) = .mk n4 ar4 := ⟨_, _, wd_eta _⟩; have HX4 : Hid (f (.mk n2 ws2) = .mk n4 ar4) := hx4; rw [hx4] at hq4; obtain ⟨sl4, cap4, rfl, -⟩ := WQ.def.1 hq4; have HQ4 : Hid (WQ w4 ((wr.alloc (.cells #[.string n2, .slice sl2 ws2.length cap2] 27 (0, 0))).heap.size ≤ ·) (.mk n4 ar4) (.agg #[.string n4, .slice sl4 ar4.length cap4])) := hq4; (have HB4 : Hid (Below wr.heap.size wr w4) := (below_more (Below.refl _ wr) _).trans (hb4.mono (by simp)))
           clear hx4 hq4 hb4)
        | (at_builtin
           have hS := HB.out.size; have hS4 := HB4.out.size
           have hkA : KWd w.heap.size (w4.alloc (.cells #[.string n4, .slice sl4 ar4.length cap4] 27 (0, 0))) ad cp ((l.take i).map f) := HK.out.same fun b hb1 hb2 => by
             (rw [Below.heap_alloc _ _ _ (by omega)]); exact HB4.out.block b hb2
           have HOB : Hid (∀ b, (wr.alloc (.cells #[.string n2, .slice sl2 ws2.length cap2] 27 (0, 0))).heap.size ≤ b → w.heap.size ≤ b ∧ (Value.slice ad i cp).ownBlock ≠ some b) := fun b hb => by
             (have hb' : wr.heap.size + 1 ≤ b := by simpa using hb); obtain ⟨cs, ho, -⟩ := HK.out; rw [HI.out.2] at ho; (exact ⟨by omega, fun e => by have := (ho.lt b e).2; omega⟩)
           obtain ⟨cs, hown, hlq⟩ := hkA; rw [HI.out.2] at hown hlq; have hI1 := HI.out.1; have hSS := HS.out; (refine wpList_append_lies _ rfl _ _ 22 rfl w.heap.size 27 i0 (.agg #[.string ⟨#[]⟩, .slice none 0 0]) 2 40 Tryz.underlying22 HIo.out.1 HIo.out.2.1 HIo.out.2.2.1 HIo.out.2.2.2 rfl (by decide) _ _ _ rfl hown ⟨w4.heap.size, 0, none⟩ 1 1 [.string n4, .slice sl4 ar4.length cap4] rfl rfl ?_ ?_ (by omega) (by unfold maxLen; omega) (by omega) (by simp; omega) _ rfl ?_)
           · intro j u hu
             rw [add_none, Nat.zero_add, blk_cell (blk_new w4 _)]; simpa using hu
           · intro u hu
             simp at hu
             rcases hu with rfl | rfl <;> rfl
           intro g5 cp5 w5 hown5 hgrow5 hat5 hlt5; (obtain ⟨hbB, hko⟩ := KWd.app HI.out.2 (by omega) hown hlq (WQ.move (fun b _ hb2 => ⟨rfl, HOB.out b hb2⟩) _ _ HQ4.out) hown5 hgrow5 hat5); have HK5 : Hid (Below w.heap.size w4 w5 ∧ KWd w.heap.size w5 (some ⟨g5, 0, none⟩) cp5 ((l.take i).map f ++ [.mk n4 ar4])) := ⟨hbB, hko⟩
           clear hbB hko hown5 hgrow5 hat5 hown hlq hS hS4 HOB hI1 hSS)
        | fail)
      go_roundg (l.length - (i + 1))
      case measure => have := HGk.out; have := HI.out; omega
      case rel => exact ⟨i + 1, _, _, HI.out.1, rfl, by simp, rfl, by show KWd _ _ _ _ _; rw [HTk.out, HX4.out]; exact HK5.out.2, (below_join HB.out HB4.out).trans HK5.out.1⟩
    · have hie : i = l.length := by omega
      subst hie; rw [List.take_length] at HK; go_wp2_with fail; go_ret; exact ⟨ad, cp, rfl, HK.out, HB.out⟩
end Go.Proofs.YtheiikkeelbjnajGreat
/- Walks: one word put (syntax.put), whatever the binds. -/
namespace Go.Proofs.YtheiikkeelbjnajGreat
open Go.RowKit Go.Shelf Go.Sort
attribute [local go_sem] Oper.semAt_some

mutual
def puW (h : ByteArray → Option Wd) : Wd → Wd
  | .mk n ar => match h n with
    | some y => y
    | none => .mk n (puWs h ar)
def puWs (h : ByteArray → Option Wd) : List Wd → List Wd
  | [] => []
  | x :: l => puW h x :: puWs h l
end
theorem puWs_map (h : ByteArray → Option Wd) : ∀ l, puWs h l = l.map (puW h)
  | [] => by rw [puWs]; rfl
  | x :: l => by rw [puWs, puWs_map h l]; rfl
mutual
theorem puW_none : ∀ x : Wd, puW (fun _ => none) x = x
  | .mk n ar => by rw [puW, puWs_none ar]
theorem puWs_none : ∀ l : List Wd, puWs (fun _ => none) l = l
  | [] => by rw [puWs]
  | x :: l => by rw [puWs, puW_none x, puWs_none l]
end
/-- The last bind of a name. -/
def lastB (bs : List BT) (g : BT → Wd) (n : ByteArray) : Option Wd := (bs.reverse.find? fun t => decide (t.1 = n)).map g
/-- The binds' words are copied. -/
def CopyOK (w0 : World) (bs : List BT) (g : BT → Wd) : Prop := ∀ t ∈ bs, (∃ a n c, t.2.2 = .slice a n c) ∧ ∀ W, Below w0.heap.size w0 W → Calls Tryz.prog 197 #[.agg #[.string t.2.1, t.2.2]] W fun e w' => ∃ u, e = .returned u ∧ NewW W w' (g t) u
mutual
theorem WQ.keep {w w' : World} {ok : Nat → Prop} (hc : ∀ (a : Addr) (c : Value), w.cell? a = some c → w'.cell? a = some c) : ∀ (x : Wd) (v : Value), WQ w ok x v → WQ w' ok x v
  | .mk n ar, v, h => by
    rw [WQ.def] at h ⊢; obtain ⟨sl, cap, hv, hn, hl, hc', hk⟩ := h; (refine ⟨sl, cap, hv, hn, hl, hc', fun hne => ?_⟩); obtain ⟨b, off, hsl, hb, hr⟩ := hk hne; exact ⟨b, off, hsl, hb, WQs.keep hc off ar hr⟩
theorem WQs.keep {w w' : World} {ok : Nat → Prop} (hc : ∀ (a : Addr) (c : Value), w.cell? a = some c → w'.cell? a = some c) {b : Nat} : ∀ (off : Nat) (xs : List Wd), WQs w ok b off xs → WQs w' ok b off xs
  | _, [], _ => WQs.nil
  | off, f :: fs, h => by
    rw [WQs.cons] at h ⊢; obtain ⟨⟨c0, c1, h0, h1, hr⟩, hrs⟩ := h; exact ⟨⟨c0, c1, hc _ _ h0, hc _ _ h1, WQ.keep hc f _ hr⟩, WQs.keep hc (off + 2) fs hrs⟩
end
theorem cell_cells {w : World} {a : Addr} {c : Value} (h : w.cell? a = some c) : ∃ o, w.heap[a.block]? = some o ∧ o.isCells = true := by
  cases e : w.heap[a.block]? with
  | none => simp [World.cell?, e] at h
  | some o => cases o <;> simp [World.cell?, e] at h <;> exact ⟨_, rfl, rfl⟩
theorem grown_cell {w w' : World} {row : Option Nat} (hg : w.grownBy w' row) (hr : ∀ r, row = some r → ∃ o : Obj, w.heap[r]? = some o ∧ o.isCells = false) {a : Addr} {c : Value} (h : w.cell? a = some c) : w'.cell? a = some c := by
  obtain ⟨o, h1, h2⟩ := cell_cells h; exact (cell_of_block (grownBy_keeps_cells hg hr h1 h2)).trans h
theorem backB_snd {bs : List BT} {k : Nat} (hk : k ≤ bs.length) : (backB bs k).map Prod.snd = bs.reverse.take k := by
  apply List.ext_getElem?; intro i; simp only [backB, List.map_map, List.getElem?_map, List.getElem?_take]; by_cases hi : i < k
  · rw [List.getElem?_range hi, if_pos hi, List.getElem?_reverse (by omega)]
    simp only [Option.map_some, Function.comp]; (rw [List.getD_eq_getElem?_getD, List.getElem?_eq_getElem (by omega)]); rfl
  · rw [if_neg hi, List.getElem?_eq_none (by simp; omega)]
    rfl
theorem last_none {bs : List BT} {g : BT → Wd} {n : ByteArray} {ys : List {y : Nat × BT // y.2 ∈ bs}} (h : ys.map Subtype.val = backB bs bs.length) (hno : ∀ y ∈ ys, y.1.2.1 ≠ n) : lastB bs g n = none := by
  unfold lastB; have h1 := backB_snd (Nat.le_refl bs.length); (rw [← h, List.take_of_length_le (by simp)] at h1); rw [← h1, List.find?_eq_none.2, Option.map_none]; intro x hx; obtain ⟨y, hy, rfl⟩ := List.mem_map.1 hx; obtain ⟨z, hz, rfl⟩ := List.mem_map.1 hy; simpa using hno z hz
theorem last_some {bs : List BT} {g : BT → Wd} {n : ByteArray} {ys : List {y : Nat × BT // y.2 ∈ bs}} {y : {y : Nat × BT // y.2 ∈ bs}} {k : Nat} (hk : k ≤ bs.length) (h : (ys ++ [y]).map Subtype.val = backB bs k) (hno : ∀ y ∈ ys, y.1.2.1 ≠ n) (hy : y.1.2.1 = n) : lastB bs g n = some (g y.1.2) := by
  unfold lastB; have h1 := backB_snd hk; rw [← h] at h1; rw [← List.take_append_drop k bs.reverse, ← h1, List.find?_append]; simp only [List.map_append, List.map_cons, List.map_nil, List.find?_append]; rw [List.find?_eq_none.2]
  · rw [List.find?_cons_of_pos (by simpa using hy)]; rfl
  · intro x hx
    obtain ⟨z, hz, rfl⟩ := List.mem_map.1 hx; obtain ⟨u, hu, rfl⟩ := List.mem_map.1 hz; simpa using hno u hu
/-- None of the binds so far speaks of the name. -/
def NoN {bs : List BT} (n : ByteArray) (pre : List {y : Nat × BT // y.2 ∈ bs}) : Prop := ∀ y ∈ pre, y.1.2.1 ≠ n
theorem put_obj_otherP {w : World} {D b : Nat} (o : Obj) (h : b ≠ D) : (w.putObj D o).heap[b]? = w.heap[b]? := by
  simp [World.putObj, Ne.symm h]
/-- In put's loop over the binds. -/
structure PutI (w : World) (n : ByteArray) (sv bv : Value) (W : World) : Prop where
  below : Below w.heap.size w W
  c0 : W.heap[w.heap.size]? = some (.cells #[.string n, sv] 27 (0, 0))
  c1 : W.heap[w.heap.size + 1]? = some (.cells #[.string ⟨#[]⟩, .slice none 0 0] 27 (0, 0))
  c2 : W.heap[w.heap.size + 1 + 1]? = some (.cells #[bv] 115 (0, 0))
theorem PutI.own {w : World} {n : ByteArray} {sv bv : Value} {W W' : World} {row : Option Nat} (h : PutI w n sv bv W) (hg : W.grownBy W' row) (hr : ∀ r, row = some r → w.heap.size ≤ r ∧ ∃ o : Obj, W.heap[r]? = some o ∧ o.isCells = false) : PutI w n sv bv W' :=
  ⟨h.below.grown hg h.below.size fun k e => (hr k e).1, (grownBy_keeps_cells hg (fun r e => (hr r e).2) h.c0 rfl).trans h.c0, (grownBy_keeps_cells hg (fun r e => (hr r e).2) h.c1 rfl).trans h.c1, (grownBy_keeps_cells hg (fun r e => (hr r e).2) h.c2 rfl).trans h.c2⟩
/-- A bind's word was copied. -/
def PutX {bs : List BT} (w : World) (n : ByteArray) (g : BT → Wd) (pre : List {y : Nat × BT // y.2 ∈ bs}) (W : World) : Prop :=
  Below w.heap.size w W ∧ ∃ (u0 : ByteArray) (u1 : Value) (ys : List {y : Nat × BT // y.2 ∈ bs}) (y : {y : Nat × BT // y.2 ∈ bs}), W.heap[w.heap.size + 1]? = some (.cells #[.string u0, u1] 27 (0, 0)) ∧ WQ W (w.heap.size ≤ ·) (g y.1.2) (.agg #[.string u0, u1]) ∧ pre = ys ++ [y] ∧ (∀ z ∈ ys, z.1.2.1 ≠ n) ∧ y.1.2.1 = n
theorem PutX.own {bs : List BT} {w : World} {n : ByteArray} {g : BT → Wd} {pre : List {y : Nat × BT // y.2 ∈ bs}} {W W' : World} {row : Option Nat} (h : PutX w n g pre W) (hg : W.grownBy W' row) (hr : ∀ r, row = some r → w.heap.size ≤ r ∧ ∃ o : Obj, W.heap[r]? = some o ∧ o.isCells = false) : PutX w n g pre W' := by
  obtain ⟨hb, u0, u1, ys, y, h1, h2, h3⟩ := h; (exact ⟨hb.grown hg hb.size fun k e => (hr k e).1, u0, u1, ys, y, (grownBy_keeps_cells hg (fun r e => (hr r e).2) h1 rfl).trans h1, WQ.keep (fun a c hc => grown_cell hg (fun r e => (hr r e).2) hc) _ _ h2, h3⟩)
set_option maxRecDepth 100000 in
set_option maxHeartbeats 8000000 in
theorem put_step (w0 : World) (bv : Value) (bs : List BT) (g : BT → Wd) (hbs : bs.length ≤ 400000) (had : ∀ a n c, bv = .slice (some a) n c → a.block < w0.heap.size) (hbr : BRow w0 bv bs) (hcp : CopyOK w0 bs g) (m : Nat) (hm : m ≤ 1000000) (ih : PutAllS bv w0 (puW (lastB bs g)) m) : PutS bv w0 (puW (lastB bs g)) (m + 1) := by
  intro x v w hs hsm hx hb0; obtain ⟨n, ar⟩ := x; have HX : Hid (WRp w0 (.mk n ar) v) := hx; have HB0 : Hid (Below w0.heap.size w0 w) := hb0; have HBR : Hid (BRow w0 bv bs) := hbr; obtain ⟨sl, cap, rfl, hn, hl1, hl2, -⟩ := WRp.def.1 hx; obtain ⟨ad, bc, rfl, -⟩ := hbr; clear hx hb0; refine (callsIn_wide (n := 4)).1 ?_; refine callsIn_of_wp_marks Tryz.func173 rfl trivial ?_ rfl; simp only [Tryz.ntmps173, List.size_toArray, List.length_cons, List.length_nil, Nat.reduceAdd, Nat.reduceSub, Array.replicate_succ, Array.replicate_zero, List.push_toArray, List.append_toArray, List.nil_append, List.cons_append]
  gi_wp2_with (refine ⟨trivial, ?_⟩; gi_at_call 196; refine (callsIn_wide.2 (backwardB_in _ _ _ _)).mono ?_; rintro e w' ⟨rfl, rfl⟩)
  obtain ⟨W0, hW0⟩ : ∃ W0, W0 = (((w.alloc (.cells #[.string n, .slice sl ar.length cap] 27 (0, 0))).alloc (.cells #[.string ⟨#[]⟩, .slice none 0 0] 27 (0, 0))).alloc (.cells #[.slice ad bs.length bc] 115 (0, 0))) := ⟨_, rfl⟩
  have HI0 : Hid (PutI w n (.slice sl ar.length cap) (.slice ad bs.length bc) W0) := by
    refine ⟨?_, ?_, ?_, ?_⟩
    · rw [hW0]; exact below_more (below_more (below_more (Below.refl _ w) _) _) _
    · rw [hW0]; exact alloc_keep (alloc_keep (blk_new w _) _) _
    · rw [hW0]; exact alloc_keep (blk_two w _ _) _
    · rw [hW0]
      have := blk_new ((w.alloc (.cells #[.string n, .slice sl ar.length cap] 27 (0, 0))).alloc (.cells #[.string ⟨#[]⟩, .slice none 0 0] 27 (0, 0))) (.cells #[.slice ad bs.length bc] 115 (0, 0)); rw [World.size_alloc, World.size_alloc] at this; exact this
  (have hz0 : W0.heap.size = w.heap.size + 3 := by rw [hW0]; simp); have HZ0 : Hid (W0.heap.size = w.heap.size + 3) := hz0; rw [← hW0]; clear hW0; have HBs : Hid (bs.length ≤ 400000) := hbs; have HCp : Hid (CopyOK w0 bs g) := hcp; (have HAd : Hid (∀ a, ad = some a → a.block < w.heap.size) := fun a ha => by have := had a _ _ (by rw [ha]); have := HB0.out.size; omega); have HIh : Hid (PutAllS (.slice ad bs.length bc) w0 (puW (lastB bs g)) m) := ih; (have HSz : Hid ((Wd.mk n ar).size < m + 1 ∧ m ≤ 1000000 ∧ n.size ≤ 281474976710656 ∧ Wsms ar) := ⟨hs, hm, by rw [Wsm] at hsm; exact hsm⟩); clear hbs hcp had ih hs hm hsm
  refine wpIn_rangeFunc_ownH rfl (by omega) (gf := 204) (lb := #[.pointer (some ⟨w.heap.size + 1 + 1, 0, none⟩)]) rfl trivial (enters_of Tryz.func204 (by kernel_rfl) rfl)
    (backB_stops _ (by omega) (w.heap.size + 1 + 1) ad bc bs HBs.out W0 (lt_of_block HI0.out.c2) (blk_cell HI0.out.c2 0) (HBR.out.up (below_join HB0.out HI0.out.below)))
    (fun h1 h2 => ⟨h2.1.trans h1.1, fun a ha => (h2.2 a ha).trans (h1.2 a ha)⟩) ?hKb (Below.refl _ _) (fun _ => rfl)
    (fun (pre : List {y : Nat × BT // y.2 ∈ bs}) W => PutI w n (.slice sl ar.length cap) (.slice ad bs.length bc) W ∧ NoN n pre)
    (fun c (pre : List {y : Nat × BT // y.2 ∈ bs}) W => c = .ret ∧ PutX w n g pre W)
    ?hI ?hIx ?h0
    (fun (y : {y : Nat × BT // y.2 ∈ bs}) a' W => ∃ c : Nat, w.heap.size + 3 ≤ c ∧ W.heap[c]? = some (.cells #[.string y.1.2.1, .string y.1.2.2.1, y.1.2.2.2] 150 (0, 0)) ∧ a' = { tmps := #[.agg #[.string n, .slice sl ar.length cap], .slice ad bs.length bc, .pointer (some ⟨w.heap.size, 0, none⟩), undef, .pointer (some ⟨w.heap.size + 1, 0, none⟩), undef, .pointer (some ⟨c, 0, none⟩), .slice ad bs.length bc, .func (.func 204) #[] #[.pointer (some ⟨w.heap.size + 1 + 1, 0, none⟩)], .int .i64 (y.1.1 : Nat), bval y.1.2, undef, undef, undef, undef, undef, undef, undef, undef, undef, undef, undef, undef, undef, undef, undef, undef], defers := [] })
    ?hAx ?assign ?body ?done ?stop
  case hKb =>
    intro W l o o' hl hW ho hw; (refine ⟨?_, fun a ha => ?_⟩)
    · simp [World.putObj, Array.getElem?_setIfInBounds]
      omega
    · have := HAd.out a ha
      simp [World.putObj, Array.getElem?_setIfInBounds]; omega
  case hI =>
    intro pre A B row hs hg hr; (exact ⟨hs.1.own hg fun r e => ⟨by have := (hr r e).1; omega, (hr r e).2⟩, hs.2⟩)
  case hIx =>
    intro c pre A B row hs hg hr; (exact ⟨hs.1, hs.2.own hg fun r e => ⟨by have := (hr r e).1; omega, (hr r e).2⟩⟩)
  case h0 => exact ⟨HI0.out, fun y hy => by cases hy⟩
  case hAx =>
    rintro y a' _ A B row ⟨c, h1, h2, h3⟩ hg hr; (exact ⟨c, h1, (grownBy_keeps_cells hg (fun r e => (hr r e).2) h2 rfl).trans h2, h3⟩)
  case assign =>
    rintro l pre ⟨⟨j, t⟩, hty⟩ W K ⟨hI, hno⟩ hK; obtain ⟨t0, t1, t2⟩ := t; obtain ⟨⟨ta, tn, tc, ht2⟩, -⟩ := HCp.out _ hty; simp only at ht2; subst ht2
    have HK : Hid (∀ W', W' = W.alloc (.cells #[.string t0, .string t1, .slice ta tn tc] 150 (0, 0)) → K { tmps := #[.agg #[.string n, .slice sl ar.length cap], .slice ad bs.length bc, .pointer (some ⟨w.heap.size, 0, none⟩), undef, .pointer (some ⟨w.heap.size + 1, 0, none⟩), undef, .pointer (some ⟨W.heap.size, 0, none⟩), .slice ad bs.length bc, .func (.func 204) #[] #[.pointer (some ⟨w.heap.size + 1 + 1, 0, none⟩)], .int .i64 (j : Nat), bval (t0, t1, .slice ta tn tc), undef, undef, undef, undef, undef, undef, undef, undef, undef, undef, undef, undef, undef, undef, undef, undef], defers := [] } W') := by
      rintro W' rfl; (refine hK _ _ ⟨by simp, fun k o _ hk _ => alloc_keep hk _⟩ ⟨?_, fun a ha => ?_⟩ ⟨hI.own (World.grownBy_alloc W _ none) (fun r e => by cases e), hno⟩ ⟨W.heap.size, ?_, blk_new _ _, rfl⟩)
      · exact Below.heap_alloc _ _ _ (lt_of_block hI.c2)
      · exact Below.heap_alloc _ _ _ (Nat.lt_of_lt_of_le (HAd.out a ha) hI.below.size)
      · have := lt_of_block hI.c2; omega
    clear hK hI hno; unfold bval at HK ⊢
    gi_wp2
    exact HK.out _ rfl
  case body =>
    rintro l pre ⟨⟨j, t⟩, hty⟩ a' W hl - ⟨hI, hno⟩ ⟨c, hc3, hcc, rfl⟩ -; obtain ⟨t0, t1, t2⟩ := t; obtain ⟨⟨ta, tn, tc, ht2⟩, hcp⟩ := HCp.out _ hty; simp only at ht2; subst ht2; simp only at hcc; obtain ⟨k0, k1, k2, -⟩ := blk3 hcc; have HI : Hid (PutI w n (.slice sl ar.length cap) (.slice ad bs.length bc) W) := hI; have HNo : Hid (NoN n pre) := hno; obtain ⟨e0, e1⟩ := blk2 hI.c0; have HC : Hid (∀ W', Below w0.heap.size w0 W' → Calls Tryz.prog 197 #[.agg #[.string t1, .slice ta tn tc]] W' _) := hcp; clear hI hno hcp hcc; unfold bval; by_cases hne : t0 = n
    · have htt : (t0.toList == n.toList) = true := by rw [hne]; simp
      gi_wp2_with (refine ⟨trivial, ?_⟩; gi_at_call 197; refine (CallsIn.inRound l (callsIn_wide.2 (HC.out _ (below_join HB0.out HI.out.below)))).mono ?_; rintro e w2 ⟨u, rfl, hq, hb⟩; obtain ⟨n4, ar4, hx4⟩ : ∃ n4 ar4, g (t0, t1, .slice ta tn tc) = .mk n4 ar4 := ⟨_, _, wd_eta _⟩; rw [hx4] at hq; obtain ⟨sl4, cap4, rfl, -⟩ := WQ.def.1 hq; have p1 : w2.heap[w.heap.size + 1]? = some (.cells #[.string ⟨#[]⟩, .slice none 0 0] 27 (0, 0)) := (hb.block _ (lt_of_block HI.out.c1)).trans HI.out.c1; obtain ⟨f0, f1, f2, f3⟩ := blk2 p1; have HQ : Hid (WQ w2 (W.heap.size ≤ ·) (g (t0, t1, .slice ta tn tc)) (.agg #[.string n4, .slice sl4 ar4.length cap4])) := (by rw [hx4]; exact hq); have HB2 : Hid (Below W.heap.size W w2) := hb; have HP1 : Hid (w2.heap[w.heap.size + 1]? = some (.cells #[.string ⟨#[]⟩, .slice none 0 0] 27 (0, 0))) := p1; clear hx4 hq hb p1)
      have hl1' := lt_of_block HI.out.c1; have hsz := HI.out.below.size; (refine ⟨⟨?_, fun k o hB hk _ => ?_⟩, rfl, ?_, n4, .slice sl4 ar4.length cap4, pre, ⟨(j, t0, t1, .slice ta tn tc), hty⟩, ?_, ?_, rfl, HNo.out, hne⟩)
      · have := HB2.out.size
        simpa using this
      · have hk2 : k < W.heap.size := lt_of_block hk
        (rw [blk_otherS _ (by omega), blk_otherS _ (by omega), HB2.out.block _ hk2]); exact hk
      · exact ((below_join HI.out.below HB2.out).setCell (Nat.le_succ _) _).setCell (Nat.le_succ _) _
      · rw [blk_setS (blk_setS HP1.out _)]
        rfl
      · refine WQ.move (fun b hb hok => ⟨?_, by omega⟩) _ _ HQ.out
        (rw [blk_otherS _ (by omega), blk_otherS _ (by omega)])
    · have htt : (t0.toList == n.toList) = false := by
        rw [ByteArray.toList_eq, ByteArray.toList_eq]; (have h2 : t0.data ≠ n.data := fun e => hne (by cases t0; cases n; simp_all)); simpa using h2
      gi_wp2
      (refine ⟨KeepsFrom.refl _ _, ⟨rfl, fun _ _ => rfl⟩, HI.out, fun y hy => ?_⟩)
      rcases List.mem_append.1 hy with h | h
      · exact HNo.out y h
      · rw [List.mem_singleton.1 h]; exact hne
  case done =>
    rintro D ys W hD hS ⟨hI, hno⟩ hK; have hlast := last_none (g := g) hS hno; have HI : Hid (PutI w n (.slice sl ar.length cap) (.slice ad bs.length bc) W) := hI; have HKD : Hid (W.heap[D]? = some (.deferred (some []))) := hK; (have HD : Hid (w.heap.size + 3 ≤ D) := by have := HZ0.out; show _ ≤ _; omega); have HLast : Hid (lastB bs g n = none) := hlast; (have hcl : ∀ w, Calls Tryz.prog 62 #[.string n] w fun e w' => e = .returned (.string n) ∧ Below w.heap.size w w' := fun w => clone_any n w HSz.out.2.2.1); have HCl : Hid (∀ w, Calls Tryz.prog 62 #[.string n] w _) := hcl; (have HPa : Hid (∀ W, Below w0.heap.size w0 W → Calls Tryz.prog 132 #[.slice sl ar.length cap, .slice ad bs.length bc] W _) := fun W' hW => HIh.out ar _ W' (by have := HSz.out.1; rw [Wd.size] at this; omega) HSz.out.2.2.2 HX.out.args.2.2.2 hW); obtain ⟨e0, e1, e2, e3⟩ := blk2 hI.c0; obtain ⟨g0, g1, g2, g3⟩ := blk2 hI.c1; clear hI hno hlast hcl hK hD
    gi_wp2
    refine wpIn_wide.2 ?_
    go_region_held3 (fun w' => w'.cell? ⟨w.heap.size, 0, none⟩ = some (.string n) ∧ w'.cell? ⟨w.heap.size, 1, none⟩ = some (.slice sl ar.length cap)) (go_keep)
      (first
       | (go_at_call 62
          refine (HCl.out _).mono ?_; rintro e w1 ⟨rfl, hb1⟩; have HB1 : Hid (Below W.heap.size W w1) := (Below.refl _ W).drew.trans hb1; have x0 := (HB1.out.cell (lt_of_cell e0)).trans e0; have x1 := (HB1.out.cell (lt_of_cell e1)).trans e1
          clear hb1)
       | (go_at_call 132
          refine (HPa.out _ (below_join HB0.out (below_join HI.out.below HB1.out))).mono ?_; rintro e w2 ⟨ad2, cp2, rfl, hk2, hb2⟩; have HK2 : Hid (KWd w1.heap.size w2 ad2 cp2 (ar.map (puW (lastB bs g)))) := hk2; have HB2 : Hid (Below W.heap.size W w2) := below_join HB1.out hb2; have q1 : w2.heap[w.heap.size + 1]? = some (.cells #[.string ⟨#[]⟩, .slice none 0 0] 27 (0, 0)) := (HB2.out.block _ (lt_of_block HI.out.c1)).trans HI.out.c1; have HQ1 : Hid (w2.heap[w.heap.size + 1]? = some (.cells #[.string ⟨#[]⟩, .slice none 0 0] 27 (0, 0))) := q1; obtain ⟨y0, y1, y2, y3⟩ := blk2 q1; have z0 := (HB2.out.cell (lt_of_cell e0)).trans e0; have z1 := (HB2.out.cell (lt_of_cell e1)).trans e1
          clear hk2 hb2 q1)
       | fail)
    gi_wp2
    have hD3 := HD.out
    have hK2 : ((w2.setCell ⟨w.heap.size + 1, 0, none⟩ (.string n)).setCell ⟨w.heap.size + 1, 1, none⟩ (.slice ad2 ar.length cp2)).heap[D]? = some (.deferred (some [])) := by
      (rw [blk_otherS _ (by omega), blk_otherS _ (by omega), HB2.out.block _ (lt_of_block HKD.out)]); exact HKD.out
    (refine ⟨by simp, .inl ⟨_, _, rfl, run_takeDeferred hK2, ?_⟩⟩); have hs1 : W.heap.size ≤ w1.heap.size := HB1.out.size; have hlow := lt_of_block HI.out.c2; have hsz := HI.out.below.size
    have hc1 : ((w2.setCell ⟨w.heap.size + 1, 0, none⟩ (.string n)).setCell ⟨w.heap.size + 1, 1, none⟩ (.slice ad2 ar.length cp2)).heap[w.heap.size + 1]? = some (.cells #[.string n, .slice ad2 ar.length cp2] 27 (0, 0)) := by
      rw [blk_setS (blk_setS HQ1.out _)]; rfl
    (have hw := (HK2.out.rep n (Nat.le_trans HSz.out.2.2.1 (by decide)))); (have hw2 : WQ ((w2.setCell ⟨w.heap.size + 1, 0, none⟩ (.string n)).setCell ⟨w.heap.size + 1, 1, none⟩ (.slice ad2 ar.length cp2)) (w.heap.size ≤ ·) (.mk n (ar.map (puW (lastB bs g)))) (.agg #[.string n, .slice ad2 (ar.map (puW (lastB bs g))).length cp2]) := WQ.move (fun b hb hok => ⟨by rw [blk_otherS _ (by omega), blk_otherS _ (by omega)], by omega⟩) _ _ hw); rw [List.length_map] at hw2; have hBf : Below w.heap.size w ((w2.setCell ⟨w.heap.size + 1, 0, none⟩ (.string n)).setCell ⟨w.heap.size + 1, 1, none⟩ (.slice ad2 ar.length cp2)) := ((below_join HI.out.below HB2.out).setCell (Nat.le_succ _) _).setCell (Nat.le_succ _) _; generalize (w2.setCell ⟨w.heap.size + 1, 0, none⟩ (.string n)).setCell ⟨w.heap.size + 1, 1, none⟩ (.slice ad2 ar.length cp2) = Wg at *
    have e1' : (Wg.putObj D (.deferred none)).heap[w.heap.size + 1]? = some (.cells #[.string n, .slice ad2 ar.length cp2] 27 (0, 0)) := by
      (rw [put_obj_otherP _ (by omega)]); exact hc1
    have hg : Wg.grownBy (Wg.putObj D (.deferred none)) (some D) := grownBy_putObj' Wg D _
    have hrr : ∀ r, some D = some r → w.heap.size ≤ r ∧ ∃ o : Obj, Wg.heap[r]? = some o ∧ o.isCells = false := fun r e => by
      cases e
      (exact ⟨by omega, _, hK2, rfl⟩)
    (have h2' := WQ.keep (fun a c hc => grown_cell hg (fun r e => (hrr r e).2) hc) _ _ hw2); (have hB' : Below w.heap.size w (Wg.putObj D (.deferred none)) := hBf.grown hg hBf.size fun k e => (hrr k e).1); generalize Wg.putObj D (.deferred none) = Wf at *; obtain ⟨m1, m2, -⟩ := blk2 e1'; (refine ⟨.agg #[.string n, .slice ad2 ar.length cp2], by simp [results, Tryz.results173, go_sem, m1, m2], _, rfl, ?_, hB'⟩); rw [puW, HLast.out, puWs_map]; exact h2'
  case stop =>
    rintro D c pre W hD ⟨k, hk, hpre⟩ ⟨rfl, hB, u0, u1, ys, y, h1, h2, rfl, hno, hy⟩ hK; have hlast := last_some (g := g) hk hpre hno hy; (have hnd : D ≠ w.heap.size + 1 := by have := HZ0.out; omega)
    gi_wp2
    (refine ⟨by simp, .inl ⟨_, _, rfl, run_takeDeferred hK, ?_⟩⟩)
    have e1 : (W.putObj D (.deferred none)).heap[w.heap.size + 1]? = some (.cells #[.string u0, u1] 27 (0, 0)) := by
      rw [put_obj_otherP _ hnd.symm]; exact h1
    have hg : W.grownBy (W.putObj D (.deferred none)) (some D) := grownBy_putObj' W D _
    have hrr : ∀ r, some D = some r → w.heap.size ≤ r ∧ ∃ o : Obj, W.heap[r]? = some o ∧ o.isCells = false := fun r e => by
      cases e
      (exact ⟨by have := HZ0.out; omega, _, hK, rfl⟩)
    (have h2' : WQ (W.putObj D (.deferred none)) (w.heap.size ≤ ·) (g y.1.2) (.agg #[.string u0, u1]) := WQ.keep (fun a c hc => grown_cell hg (fun r e => (hrr r e).2) hc) _ _ h2); (have hB' : Below w.heap.size w (W.putObj D (.deferred none)) := hB.grown hg hB.size fun k e => (hrr k e).1); generalize W.putObj D (.deferred none) = Wf at *; obtain ⟨m1, m2, -⟩ := blk2 e1; (refine ⟨.agg #[.string u0, u1], by simp [results, Tryz.results173, go_sem, m1, m2], _, rfl, ?_, hB'⟩); rw [puW, hlast]; exact h2'
end Go.Proofs.YtheiikkeelbjnajGreat
