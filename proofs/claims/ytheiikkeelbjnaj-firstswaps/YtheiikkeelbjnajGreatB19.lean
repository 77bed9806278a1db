/- Texts of one proof, one behind the other: SY1, SY2, SY3. -/
import Derived.Test.YtheiikkeelbjnajGreatB16
import Derived.Test.YtheiikkeelbjnajGreatB10
/- Walks: EachWord of package syntax, whatever visits. -/
namespace Go.Proofs.YtheiikkeelbjnajGreat
open Go.RowKit

mutual
/-- A word and what is in it, each ahead of its Args. -/
def prW : Wd → List Wd
  | .mk n ar => .mk n ar :: prWs ar
def prWs : List Wd → List Wd
  | [] => []
  | x :: xs => prW x ++ prWs xs
end
theorem prWs_app : ∀ a b : List Wd, prWs (a ++ b) = prWs a ++ prWs b
  | [], b => by rw [prWs]; rfl
  | x :: a, b => by rw [List.cons_append, prWs, prWs, prWs_app a b, List.append_assoc]
theorem prWs_take {l : List Wd} {i : Nat} {x : Wd} (h : l[i]? = some x) : prWs (l.take (i + 1)) = prWs (l.take i) ++ prW x := by
  rw [List.take_add_one, h, prWs_app]
  congr 1
  show prWs [x] = _; rw [prWs, prWs, List.append_nil]
mutual
theorem prW_len : ∀ x : Wd, (prW x).length = x.size
  | .mk n ar => by rw [prW, List.length_cons, prWs_len ar, Wd.size]
theorem prWs_len : ∀ l : List Wd, (prWs l).length = Wd.sizes l
  | [] => by rw [prWs, Wd.sizes]; rfl
  | x :: xs => by rw [prWs, List.length_append, prW_len x, prWs_len xs, Wd.sizes]
end
theorem wsizes_take : ∀ (l : List Wd) (i : Nat) (x : Wd), l[i]? = some x → Wd.sizes (l.take i) + x.size ≤ Wd.sizes l
  | [], i, f, h => by simp at h
  | k :: ks, 0, f, h => by simp at h; subst h; simp [Wd.sizes]
  | k :: ks, i + 1, f, h => by
    (have := wsizes_take ks i f (by simpa using h)); simp only [List.take_succ_cons, Wd.sizes]; omega

/-- What a visit leaves: what was to be kept, with blocks of its own that are the old ones or new. -/
def VEnd (I : (Nat → Prop) → World → Prop) (T : Nat → Prop) (w w' : World) : Prop := ∃ T', I T' w' ∧ Kept (fun b => ¬ T b) w w' ∧ ∀ b, T' b → T b ∨ w.heap.size ≤ b
theorem VEnd.trans {J : (Nat → Prop) → World → Prop} {T T1 : Nat → Prop} {w w1 w2 : World} (hk : Kept (fun b => ¬ T b) w w1) (ht : ∀ b, T1 b → T b ∨ w.heap.size ≤ b) (h2 : VEnd J T1 w1 w2) : VEnd J T w w2 := by
  obtain ⟨T2, hj, k2, t2⟩ := h2; (refine ⟨T2, hj, ⟨k2.os.trans hk.os, k2.tape.trans hk.tape, k2.output.trans hk.output, Nat.le_trans hk.size k2.size, fun b hb hok => ?_⟩, fun b hb => ?_⟩)
  · rw [k2.block b (Nat.lt_of_lt_of_le hb hk.size) (fun e => ?_), hk.block b hb hok]
    rcases ht b e with h | h
    · exact hok h
    · omega
  · rcases t2 b hb with h | h
    · exact ht b h
    · have := hk.size
      (exact Or.inr (by omega))
/-- What visits words. -/
structure VisW (w0 : World) (fn : Nat) (cap : Array Value) (M : Nat) (Inv : List Wd → (Nat → Prop) → World → Prop) : Prop where
  lt : ∀ {done T w}, Inv done T w → ∀ b, T b → w0.heap.size ≤ b ∧ b < w.heap.size
  stay : ∀ {done T w w'}, Inv done T w → Kept (fun b => T b ∨ b < w0.heap.size) w w' → Inv done T w'
  ent : ∀ (v : Value) (w : World), (callFunc fn (#[v] ++ cap)).run Tryz.prog w = .ok (.enter fn (#[v] ++ cap)) w
  call : ∀ done T x v w, done.length < M → WRp w0 x v → Below w0.heap.size w0 w → Inv done T w →
    Calls Tryz.prog fn (#[v] ++ cap) w fun e w' => e = .returned (.tuple #[]) ∧ VEnd (Inv (done ++ [x])) T w w'
theorem vis_below {w0 w w' : World} {T : Nat → Prop} (hb : Below w0.heap.size w0 w) (ht : ∀ b, T b → w0.heap.size ≤ b ∧ b < w.heap.size) (hk : Kept (fun b => ¬ T b) w w') : Below w0.heap.size w0 w' :=
  hb.trans (hk.below hb.size fun b hb2 h => by have := (ht b h).1; omega)
def EWs (w0 : World) (fn : Nat) (cap : Array Value) (M : Nat) (Inv : List Wd → (Nat → Prop) → World → Prop) (m : Nat) : Prop := ∀ done T (l : List Wd) v w, Wd.sizes l < m → done.length + Wd.sizes l ≤ M → WL w0 v l → Below w0.heap.size w0 w → Inv done T w →
  Calls Tryz.prog 150 #[v, .func (.func fn) #[] cap] w fun e w' => e = .returned (.tuple #[]) ∧ VEnd (Inv (done ++ prWs l)) T w w'
/-- So far in a list of words. -/
structure EWAt (Inv : List Wd → (Nat → Prop) → World → Prop) (done : List Wd) (T : Nat → Prop) (w : World) (Tr : Nat → Prop) (wr : World) : Prop where
  inv : Inv done Tr wr
  kept : Kept (fun b => ¬ T b) w wr
  own : ∀ b, Tr b → T b ∨ w.heap.size ≤ b
set_option maxHeartbeats 4000000 in
theorem eachWord_step {w0 : World} {fn : Nat} {cap : Array Value} {M : Nat} {Inv : List Wd → (Nat → Prop) → World → Prop} (V : VisW w0 fn cap M Inv) (m : Nat) (ih : EWs w0 fn cap M Inv m) : EWs w0 fn cap M Inv (m + 1) := by
  intro done T l v w hm hN hwl hb hinv; have HX : Hid (WL w0 v l) := hwl; obtain ⟨sl, cp, rfl, hx1, hx2, -⟩ := hwl; have HV : Hid (VisW w0 fn cap M Inv) := V; have HT : Hid (∀ b, T b → w0.heap.size ≤ b ∧ b < w.heap.size) := V.lt hinv; (have hlenI : ((l.length : Nat) : Int) ≤ 9223372036854775807 := by unfold maxLen at hx2; omega); have hcf := V.ent; have HB : Hid (Below w0.heap.size w0 w) := hb; (have HA0 : Hid (EWAt Inv (done ++ prWs (l.take 0)) T w T w) := ⟨by rw [List.take_zero, prWs, List.append_nil]; exact hinv, Kept.refl _ _, fun b h => Or.inl h⟩); have HN : Hid (Wd.sizes l < m + 1 ∧ done.length + Wd.sizes l ≤ M) := ⟨hm, hN⟩; clear V hinv hb hm hN hx1 hx2
  go_enter Tryz.func150, Tryz.ntmps150
  go_wp2_with fail
  go_loopg [8] l.length (fun g c wr => ∃ i Tr, i ≤ l.length ∧ g = l.length - i ∧ c = .int .i64 (i : Nat) ∧ Hid (EWAt Inv (done ++ prWs (l.take i)) T w Tr wr))
  case atStart => exact ⟨0, T, by omega, by omega, rfl, HA0⟩
  case round =>
    obtain ⟨i, Tr, hile, hg, rfl, HAr⟩ := hrel; have HG : Hid (gk = l.length - i) := hg; have HBr : Hid (Below w0.heap.size w0 wr) := vis_below HB.out HT.out HAr.out.kept; clear hg; by_cases hlt : i < l.length
    · obtain ⟨⟨n2, ar2⟩, hki⟩ : ∃ x, l[i]? = some x := ⟨_, List.getElem?_eq_getElem hlt⟩
      (have hltI : (i : Int) < (l.length : Int) := by omega); obtain ⟨b, off, sl2, cap2, rfl, z0, z1, hrep2⟩ := HX.out.at i n2 ar2 hki; have y0 := (HBr.out.cell (lt_of_cell z0)).trans z0; have y1 := (HBr.out.cell (lt_of_cell z1)).trans z1; have hs1 := wsizes_take l i _ hki; have hs2 : Wd.sizes (l.take i) = (prWs (l.take i)).length := (prWs_len _).symm; (have HC : Hid (∀ W, Below w0.heap.size w0 W → Inv (done ++ prWs (l.take i)) Tr W → Calls Tryz.prog fn (#[.agg #[.string n2, .slice sl2 ar2.length cap2]] ++ cap) W _) := fun W h1 h2 => HV.out.call _ Tr _ _ W (by have := HN.out.2; rw [Wd.size] at hs1; rw [List.length_append, ← hs2]; omega) hrep2 h1 h2); (have HIH : Hid (∀ T2 W, Below w0.heap.size w0 W → Inv (done ++ prWs (l.take i) ++ [.mk n2 ar2]) T2 W → Calls Tryz.prog 150 #[.slice sl2 ar2.length cap2, .func (.func fn) #[] cap] W _) := fun T2 W h1 h2 => ih _ T2 ar2 _ W (by have := wsizes_get hki; have := HN.out.1; rw [Wd.size] at *; omega) (by have := HN.out.2; rw [Wd.size] at hs1; rw [List.length_append, List.length_append, ← hs2, List.length_singleton]; omega) hrep2.args.2.2.2 h1 h2); (have HD : Hid (prWs (l.take (i + 1)) = prWs (l.take i) ++ ([.mk n2 ar2] ++ prWs ar2)) := by show _ = _; rw [prWs_take hki, prW]; rfl); clear hki z0 z1 hrep2 hs1 hs2 HX; go_wp2_with fail; refine (HC.out _ (below_more HBr.out _) (HV.out.stay HAr.out.inv ((Kept.refl _ _).alloc _))).mono ?_; rintro e w2 ⟨rfl, T2, hi2, hk2, ht2⟩; (have q2 : w2.heap[wr.heap.size]? = some (.cells #[.string n2, .slice sl2 ar2.length cap2] 27 (0, 0)) := (hk2.block _ (by simp) (fun h => by have := (HV.out.lt HAr.out.inv _ h).2; omega)).trans (blk_new _ _))
      have HA2 : Hid (EWAt Inv (done ++ prWs (l.take i) ++ [.mk n2 ar2]) Tr wr T2 w2) := ⟨hi2, ((Kept.refl _ _).alloc _).trans hk2, fun b hb => by
        rcases ht2 b hb with h | h
        · exact Or.inl h
        · exact Or.inr (by simp at h; omega)⟩
      have HB2 : Hid (Below w0.heap.size w0 w2) := vis_below HBr.out (HV.out.lt HAr.out.inv) HA2.out.kept; obtain ⟨e0, e1, -⟩ := blk2 q2; clear hi2 hk2 ht2 HC q2
      go_wp2_with (first
        | (go_at_call 150
           refine (HIH.out T2 _ HB2.out HA2.out.inv).mono ?_; rintro e w3 ⟨rfl, hv3⟩
           have HV3 : Hid (VEnd (Inv (done ++ prWs (l.take (i + 1)))) T w w3) := by
             show VEnd _ _ _ _; rw [HD.out]; have h3 := VEnd.trans HAr.out.kept HAr.out.own (VEnd.trans HA2.out.kept HA2.out.own hv3); simpa only [List.append_assoc] using h3
           clear hv3)
        | fail)
      obtain ⟨T3, hi3, hk3, ht3⟩ := HV3.out; have HA3 : Hid (EWAt Inv (done ++ prWs (l.take (i + 1))) T w T3 w3) := ⟨hi3, hk3, ht3⟩; clear hi3 hk3 ht3
      go_roundg (l.length - (i + 1))
      case measure => have := HG.out; omega
      case rel => exact ⟨i + 1, T3, by omega, rfl, by go_num, HA3⟩
    · have hge : ¬ (i : Int) < (l.length : Int) := by omega
      have HE : Hid (VEnd (Inv (done ++ prWs l)) T w wr) := by
        have := HAr.out; (rw [List.take_of_length_le (by omega)] at this); exact ⟨Tr, this.inv, this.kept, this.own⟩
      clear HX HAr; go_wp2_with fail
      go_end0
      exact ⟨rfl, HE.out⟩
theorem eachWord_all {w0 : World} {fn : Nat} {cap : Array Value} {M : Nat} {Inv : List Wd → (Nat → Prop) → World → Prop} (V : VisW w0 fn cap M Inv) : ∀ m, EWs w0 fn cap M Inv m
  | 0 => fun _ _ _ _ _ h => absurd h (Nat.not_lt_zero _)
  | m + 1 => eachWord_step V m (eachWord_all V m)
theorem eachWord_any {w0 : World} {fn : Nat} {cap : Array Value} {M : Nat} {Inv : List Wd → (Nat → Prop) → World → Prop} (V : VisW w0 fn cap M Inv) (done : List Wd) (T : Nat → Prop) (l : List Wd) (v : Value) (w : World) (hM : done.length + Wd.sizes l ≤ M) (hl : WL w0 v l) (hb : Below w0.heap.size w0 w) (hi : Inv done T w) :
    Calls Tryz.prog 150 #[v, .func (.func fn) #[] cap] w fun e w' => e = .returned (.tuple #[]) ∧ VEnd (Inv (done ++ prWs l)) T w w' :=
  eachWord_all V (Wd.sizes l + 1) done T l v w (Nat.lt_succ_self _) hM hl hb hi
end Go.Proofs.YtheiikkeelbjnajGreat
/- Walks: a captured list of texts; Variables of package syntax. -/
namespace Go.Proofs.YtheiikkeelbjnajGreat
open Go.RowKit Go.Sort

/-- A list of texts in a variable of its own (block cb), and the blocks that are its own. -/
def LVar (w : World) (cb : Nat) (L : List (List UInt8)) (T : Nat → Prop) : Prop := ∃ ad cp, w.heap[cb]? = some (.cells #[.slice ad L.length cp] 49 (0, 0)) ∧ KS (cb + 1) w ad cp L ∧ ∀ b, T b ↔ b = cb ∨ (Value.slice ad L.length cp).ownBlock = some b
theorem LVar.lt {w : World} {cb : Nat} {L : List (List UInt8)} {T : Nat → Prop} (h : LVar w cb L T) : ∀ b, T b → cb ≤ b ∧ b < w.heap.size := by
  obtain ⟨ad, cp, h1, h2, h3⟩ := h; intro b hb
  rcases (h3 b).1 hb with rfl | e
  · exact ⟨Nat.le_refl _, lt_of_block h1⟩
  · have := World.ownsRow.lt h2 b e
    (exact ⟨by omega, this.2⟩)
theorem LVar.stay {w w' : World} {cb : Nat} {L : List (List UInt8)} {T : Nat → Prop} (h : LVar w cb L T) (hb : ∀ b, T b → w'.heap[b]? = w.heap[b]?) : LVar w' cb L T := by
  obtain ⟨ad, cp, h1, h2, h3⟩ := h; (exact ⟨ad, cp, (hb cb ((h3 cb).2 (Or.inl rfl))).trans h1, h2.move fun b e => hb b ((h3 b).2 (Or.inr e)), h3⟩)
theorem LVar.new {w : World} : LVar (w.alloc (.cells #[.slice none 0 0] 49 (0, 0))) w.heap.size [] (fun b => b = w.heap.size) :=
  ⟨none, 0, blk_new _ _, KS.nil, fun b => ⟨Or.inl, fun h => h.elim id fun e => by cases e⟩⟩
theorem LVar.put {w w3 : World} {cb cp cp3 : Nat} {L M : List (List UInt8)} {ad ad3 : Option Addr} {T : Nat → Prop} {o : Obj} (hv : w.heap[cb]? = some (.cells #[.slice ad L.length cp] 49 (0, 0))) (hk : KS (cb + 1) w ad cp L) (ht : ∀ b, T b ↔ b = cb ∨ (Value.slice ad L.length cp).ownBlock = some b)
    (hown : KS (cb + 1) w3 ad3 cp3 M) (hk3 : Kept (fun b => (Value.slice ad L.length cp).ownBlock ≠ some b) (w.alloc o) w3) (hat : ∀ b, (Value.slice ad3 M.length cp3).ownBlock = some b → (Value.slice ad L.length cp).ownBlock = some b ∨ ((w.alloc o).heap.size ≤ b ∧ b < w3.heap.size)) :
    VEnd (fun T' w' => LVar w' cb M T') T w (w3.setCell ⟨cb, 0, none⟩ (.slice ad3 M.length cp3)) := by
  (have hsz : (w.alloc o).heap.size = w.heap.size + 1 := by simp); (have hka : ∀ b, b < w.heap.size → (Value.slice ad L.length cp).ownBlock ≠ some b → w3.heap[b]? = w.heap[b]? := fun b hb hn => (hk3.block b (by omega) hn).trans (Below.heap_alloc _ _ _ hb)); have hcl := lt_of_block hv; (have hv3 := (hka cb hcl fun e => by have := (World.ownsRow.lt hk cb e).1; omega).trans hv); (have far : ∀ b, b ≠ cb → (w3.setCell ⟨cb, 0, none⟩ (.slice ad3 M.length cp3)).heap[b]? = w3.heap[b]? := fun b hb => Below.heap_setCell _ _ _ _ (by simpa using hb)); (refine ⟨fun b => b = cb ∨ (Value.slice ad3 M.length cp3).ownBlock = some b, ⟨ad3, cp3, set1 hv3 _, hown.move fun b hb => far b (by have := (World.ownsRow.lt hown b hb).1; omega), fun b => Iff.rfl⟩, ?_, fun b hb => ?_⟩)
  · exact ⟨hk3.os, hk3.tape, hk3.output, by have := hk3.size; simp [World.setCell]; omega, fun b hb hn => (far b fun e => hn ((ht b).2 (Or.inl e))).trans (hka b hb fun e => hn ((ht b).2 (Or.inr e)))⟩
  · rcases hb with rfl | hb
    · exact Or.inl ((ht b).2 (Or.inl rfl))
    · rcases hat b hb with h1 | h1
      · exact Or.inl ((ht b).2 (Or.inr h1))
      · exact Or.inr (by omega)
theorem VEnd.imp {I J : (Nat → Prop) → World → Prop} {T : Nat → Prop} {w w' : World} (h : VEnd I T w w') (hi : ∀ T', I T' w' → J T' w') : VEnd J T w w' := by
  obtain ⟨T', h1, h2⟩ := h; exact ⟨T', hi T' h1, h2⟩
/-- Something was made ahead of it. -/
theorem VEnd.pre {I : (Nat → Prop) → World → Prop} {T : Nat → Prop} {w w1 w' : World} (hb : Below w.heap.size w w1) (h : VEnd I T w1 w') : VEnd I T w w' :=
  VEnd.trans (kept_of_below hb fun _ h _ => h) (fun _ h => Or.inl h) h
def Wd.nm : Wd → List UInt8
  | .mk n _ => n.data.toList
/-- The variables among words. -/
def vrs (l : List Wd) : List (List UInt8) := (l.map Wd.nm).filter isNm
theorem vrs_app (a b : List Wd) : vrs (a ++ b) = vrs a ++ vrs b := by unfold vrs; rw [List.map_append, List.filter_append]
theorem vrs_len (a : List Wd) : (vrs a).length ≤ a.length := by
  unfold vrs; (exact Nat.le_trans (List.length_filter_le _ _) (by simp))
def InvV (cb : Nat) (done : List Wd) (T : Nat → Prop) (w : World) : Prop := LVar w cb (vrs done) T
set_option maxHeartbeats 2000000 in
theorem vars1_no (cb : Nat) (n : ByteArray) (hn : n.size ≤ maxLen) (sl : Option Addr) (al cap : Nat) (hv : isNm n.data.toList = false) (w : World) :
    Calls Tryz.prog 152 #[.agg #[.string n, .slice sl al cap], .pointer (some ⟨cb, 0, none⟩)] w fun e w' => e = .returned (.tuple #[]) ∧ Below w.heap.size w w' := by
  (have HV : Hid (∀ w, Calls Tryz.prog 46 #[.string n] w fun e w' => e = .returned (.bool false) ∧ Below w.heap.size w w') := fun w => by rw [← hv]; exact var_any n hn w); have HB := below_more (Below.refl w.heap.size w) (.cells #[.string n, .slice sl al cap] 27 (0, 0)); clear hn hv
  go_enter Tryz.func152, Tryz.ntmps152
  go_wp2_with (first
    | (go_at_call 46; refine (HV.out _).mono ?_; rintro e w2 ⟨rfl, hb2⟩)
    | fail)
  go_end0
  exact ⟨rfl, below_join HB hb2⟩
set_option maxHeartbeats 4000000 in
theorem vars1_yes (cb : Nat) (n : ByteArray) (hn : n.size ≤ maxLen) (sl : Option Addr) (al cap : Nat) (hv : isNm n.data.toList = true) (w : World) (L : List (List UInt8)) (hL : L.length ≤ 100000) (T : Nat → Prop) (h : LVar w cb L T) :
    Calls Tryz.prog 152 #[.agg #[.string n, .slice sl al cap], .pointer (some ⟨cb, 0, none⟩)] w fun e w' => e = .returned (.tuple #[]) ∧ VEnd (fun T' w' => LVar w' cb (L ++ [n.data.toList]) T') T w w' := by
  (have HV : Hid (∀ w, Calls Tryz.prog 46 #[.string n] w fun e w' => e = .returned (.bool true) ∧ Below w.heap.size w w') := fun w => by rw [← hv]; exact var_any n hn w); have HB : Hid (Below w.heap.size w (w.alloc (.cells #[.string n, .slice sl al cap] 27 (0, 0)))) := below_more (Below.refl w.heap.size w) _; have HQ : Hid ((w.alloc (.cells #[.string n, .slice sl al cap] 27 (0, 0))).heap[w.heap.size]? = some (.cells #[.string n, .slice sl al cap] 27 (0, 0))) := blk_new _ _; obtain ⟨ad, cp, h1, h2, h3⟩ := h; have H1 : Hid (w.heap[cb]? = some (.cells #[.slice ad L.length cp] 49 (0, 0))) := h1; have H2 : Hid (KS (cb + 1) w ad cp L) := h2; have H3 : Hid (∀ b, T b ↔ b = cb ∨ (Value.slice ad L.length cp).ownBlock = some b) := h3; have HLn : Hid (L.length ≤ 100000) := hL; have HSz : Hid (cb + 1 ≤ w.heap.size) := lt_of_block h1; clear hn hv hL h1 h2 h3
  go_enter Tryz.func152, Tryz.ntmps152
  go_wp2_with (first
    | (go_at_call 46; refine (HV.out _).mono ?_; rintro e w2 ⟨rfl, hb2⟩
       have HB2 : Hid (Below w.heap.size w w2) := below_join HB.out hb2; obtain ⟨q0, q1, -⟩ := blk2 (below_keep hb2 HQ.out); obtain ⟨v0, v1⟩ := blk1 (below_keep HB2.out H1.out)
       clear hb2)
    | (at_builtin
       (refine wpList_appS rfl _ _ rfl (cb + 1) L [n.data.toList] ad cp _ rfl ((H2.out.up HB2.out).up ((Below.refl _ _).alloc (Nat.le_refl _) _)) rfl (SL.one (by rw [str_eta]; exact blk_new w2 _)) (by have := HSz.out; have := HB2.out.size; simp; omega) (by have := HLn.out; simp; omega) ?_); intro ad3 cp3 w3 hown3 hk3 hat3; (have HE : Hid (VEnd (fun T' w' => LVar w' cb (L ++ [n.data.toList]) T') T w (w3.setCell ⟨cb, 0, none⟩ (.slice ad3 (L ++ [n.data.toList]).length cp3))) := VEnd.pre HB2.out (LVar.put (below_keep HB2.out H1.out) (H2.out.up HB2.out) H3.out hown3 hk3 hat3)); (have hv3 := (hk3.block cb (by have := HSz.out; have := HB2.out.size; simp; omega) (fun e => by have := (World.ownsRow.lt H2.out _ e).1; omega)).trans (alloc_keep (below_keep HB2.out H1.out) _)); clear v0 v1; obtain ⟨v0, v1⟩ := blk1 hv3
       clear hown3 hk3 hat3 hv3)
    | fail)
  go_end0
  refine ⟨rfl, ?_⟩; have := HE.out; rw [List.length_append] at this; exact this
theorem vars1_in (cap : Array Value) (w : World) : (callFunc 152 cap).run Tryz.prog w = .ok (.enter 152 cap) w := by
  simp [go_sem]
theorem vars_visit (w0 : World) (cb M : Nat) (hM : M ≤ 100000) (hcb : w0.heap.size ≤ cb) : VisW w0 152 #[.pointer (some ⟨cb, 0, none⟩)] M (InvV cb) where
  lt := fun h b hb => by have := LVar.lt h b hb; exact ⟨by omega, this.2⟩
  stay := fun h hk => LVar.stay h fun b hb => hk.block b (LVar.lt h b hb).2 (Or.inl hb)
  ent := fun v w => vars1_in _ w
  call := fun done T x v w hl hrep hb hi => by
    obtain ⟨n, ar⟩ := x; obtain ⟨sl, cap, rfl, hn, -⟩ := WRp.def.1 hrep
    rcases hx : isNm n.data.toList with _ | _
    · refine (vars1_no cb n hn sl _ cap hx w).mono ?_
      rintro e w' ⟨rfl, hb'⟩; (have e1 : vrs (done ++ [Wd.mk n ar]) = vrs done := by rw [vrs_app]; simp [vrs, Wd.nm, hx]); (refine ⟨rfl, T, ?_, kept_of_below hb' fun _ h _ => h, fun b h => Or.inl h⟩); show LVar _ _ _ _; rw [e1]; (exact LVar.stay hi fun b hb2 => hb'.block b (LVar.lt hi b hb2).2)
    · refine (vars1_yes cb n hn sl _ cap hx w _ (by have := vrs_len done; omega) T hi).mono ?_
      rintro e w' ⟨rfl, hv⟩; (have e1 : vrs (done ++ [Wd.mk n ar]) = vrs done ++ [n.data.toList] := by rw [vrs_app]; simp [vrs, Wd.nm, hx]); (exact ⟨rfl, VEnd.imp hv fun T' h => by show LVar _ _ _ _; rw [e1]; exact h⟩)
set_option maxHeartbeats 2000000 in
/-- Variables: a list of its own. -/
theorem variables_any (l : List Wd) (v : Value) (w0 w : World) (hs : Wd.sizes l ≤ 100000) (hl : WL w0 v l) (hb : Below w0.heap.size w0 w) :
    Calls Tryz.prog 103 #[v] w fun e w' => ∃ ad cp, e = .returned (.slice ad (vrs (prWs l)).length cp) ∧ KS w.heap.size w' ad cp (vrs (prWs l)) ∧ Below w.heap.size w w' := by
  have HE : Hid (Calls Tryz.prog 150 #[v, .func (.func 152) #[] #[.pointer (some ⟨w.heap.size, 0, none⟩)]] (w.alloc (.cells #[.slice none 0 0] 49 (0, 0))) fun e w' => e = .returned (.tuple #[]) ∧ VEnd (InvV w.heap.size ([] ++ prWs l)) (fun b => b = w.heap.size) (w.alloc (.cells #[.slice none 0 0] 49 (0, 0))) w') :=
    eachWord_any (vars_visit w0 w.heap.size 100000 (Nat.le_refl _) hb.size) [] _ l v _ (by simpa using hs) hl (below_more hb _) LVar.new
  (have hmf : ∀ (fn : Fn) (first cap : Array Value) (w : World), (Instr.makeFunc fn first cap).run Tryz.prog w = .ok (.func fn first cap) w := fun _ _ _ _ => rfl); (have hcl : w.heap.size < (w.alloc (.cells #[.slice none 0 0] 49 (0, 0))).heap.size := by simp); obtain ⟨sl, cap, rfl, -⟩ := hl; rw [List.nil_append] at HE; clear hs hb
  go_enter Tryz.func103, Tryz.ntmps103
  go_wp2_with (first
    | (go_at_call 150
       refine HE.out.mono ?_; rintro e w2 ⟨rfl, T', ⟨ad, cp, h1, h2, h3⟩, hk, -⟩; (have HK : Hid (KS (w.heap.size + 1) w2 ad cp (vrs (prWs l)) ∧ Below w.heap.size w w2) := ⟨h2, (below_more (Below.refl _ w) _).trans (hk.below (by simp) fun b hb e => by omega)⟩); obtain ⟨k0, k1⟩ := blk1 h1
       clear h1 h2 h3 hk)
    | fail)
  go_ret
  exact ⟨ad, cp, rfl, ⟨HK.out.1.1, by
    rcases HK.out.1.2 with h | ⟨g, c, cur, e, hg, r⟩
    · exact Or.inl h
    · exact Or.inr ⟨g, c, cur, e, by omega, r⟩⟩, HK.out.2⟩
end Go.Proofs.YtheiikkeelbjnajGreat
/- Walks: eachExpr of package syntax, whatever visits. -/
namespace Go.Proofs.YtheiikkeelbjnajGreat
open Go.RowKit Go.Sort

abbrev Bd := List (List UInt8)
/-- What is bound in an expression's Kids. -/
def bdIn (bd : Bd) (k : Int) (n : ByteArray) : Bd := if quanB k = true then bd ++ [n.data.toList] else bd
mutual
/-- An expression and what is in it, each with what is bound where it stands. -/
def prE (bd : Bd) : Ex → List (Ex × Bd)
  | .mk k n ws ks => (.mk k n ws ks, bd) :: prEs (bdIn bd k n) ks
def prEs (bd : Bd) : List Ex → List (Ex × Bd)
  | [] => []
  | x :: xs => prE bd x ++ prEs bd xs
end
theorem prEs_app (bd : Bd) : ∀ a b : List Ex, prEs bd (a ++ b) = prEs bd a ++ prEs bd b
  | [], b => by rw [prEs]; rfl
  | x :: a, b => by rw [List.cons_append, prEs, prEs, prEs_app bd a b, List.append_assoc]
theorem prEs_take {bd : Bd} {l : List Ex} {i : Nat} {x : Ex} (h : l[i]? = some x) : prEs bd (l.take (i + 1)) = prEs bd (l.take i) ++ prE bd x := by
  rw [List.take_add_one, h, prEs_app]
  congr 1
  show prEs bd [x] = _; rw [prEs, prEs, List.append_nil]
mutual
theorem prE_len : ∀ (bd : Bd) (x : Ex), (prE bd x).length ≤ x.size
  | bd, .mk k n ws ks => by have := prEs_len (bdIn bd k n) ks; rw [prE, List.length_cons, Ex.size]; omega
theorem prEs_len : ∀ (bd : Bd) (l : List Ex), (prEs bd l).length ≤ Ex.sizes l
  | _, [] => by rw [prEs, Ex.sizes]; exact Nat.le_refl _
  | bd, x :: xs => by have := prE_len bd x; have := prEs_len bd xs; rw [prEs, List.length_append, Ex.sizes]; omega
end
def exWs : Ex → List Wd
  | .mk _ _ ws _ => ws
/-- Expressions in the list of what stands in one are together no larger than it (their own words counted). -/
def ownSz : List (Ex × Bd) → Nat
  | [] => 0
  | p :: l => Wd.sizes (exWs p.1) + 1 + ownSz l
theorem ownSz_app : ∀ a b : List (Ex × Bd), ownSz (a ++ b) = ownSz a + ownSz b
  | [], b => by rw [List.nil_append, ownSz]; omega
  | p :: a, b => by rw [List.cons_append, ownSz, ownSz, ownSz_app a b]; omega
mutual
theorem prE_own : ∀ (bd : Bd) (x : Ex), ownSz (prE bd x) = x.size
  | bd, .mk k n ws ks => by rw [prE, ownSz, prEs_own _ ks, Ex.size]; show Wd.sizes ws + 1 + _ = _; omega
theorem prEs_own : ∀ (bd : Bd) (l : List Ex), ownSz (prEs bd l) = Ex.sizes l
  | _, [] => by rw [prEs, Ex.sizes]; rfl
  | bd, x :: xs => by rw [prEs, ownSz_app, prE_own bd x, prEs_own bd xs, Ex.sizes]
end
theorem esizes_take : ∀ (l : List Ex) (i : Nat) (x : Ex), l[i]? = some x → Ex.sizes (l.take i) + x.size ≤ Ex.sizes l
  | [], i, f, h => by simp at h
  | k :: ks, 0, f, h => by simp at h; subst h; simp [Ex.sizes]
  | k :: ks, i + 1, f, h => by
    (have := esizes_take ks i f (by simpa using h)); simp only [List.take_succ_cons, Ex.sizes]; omega
/-- What visits expressions. M bounds how many there are, D how deep they stand. -/
structure VisE (w0 : World) (fn : Nat) (cap : Array Value) (M : Nat) (Inv : List (Ex × Bd) → (Nat → Prop) → World → Prop) : Prop where
  lt : ∀ {done T w}, Inv done T w → ∀ b, T b → w0.heap.size ≤ b ∧ b < w.heap.size
  stay : ∀ {done T w w'}, Inv done T w → Kept (fun b => T b ∨ b < w0.heap.size) w w' → Inv done T w'
  ent : ∀ (v u : Value) (w : World), (callFunc fn (#[v, u] ++ cap)).run Tryz.prog w = .ok (.enter fn (#[v, u] ++ cap)) w
  call : ∀ done T x (bd : Bd) v ad cp w, ownSz done + x.size ≤ M → bd.length ≤ M → ERp w0 x v → KS w0.heap.size w ad cp bd → (∀ b, (Value.slice ad bd.length cp).ownBlock = some b → ¬ T b) → Below w0.heap.size w0 w → Inv done T w →
    Calls Tryz.prog fn (#[v, .slice ad bd.length cp] ++ cap) w fun e w' => e = .returned (.tuple #[]) ∧ VEnd (Inv (done ++ [(x, bd)])) T w w'
/-- What eachExpr leaves: besides what VEnd says, the row of bound names may grow, but not what is read of it. -/
def XEnd (I : (Nat → Prop) → World → Prop) (T : Nat → Prop) (B : Nat) (ad : Option Addr) (cp : Nat) (bd : Bd) (w w' : World) : Prop := ∃ T', I T' w' ∧ Kept (fun b => ¬ T b ∧ (Value.slice ad bd.length cp).ownBlock ≠ some b) w w' ∧ (∀ b, T' b → T b ∨ w.heap.size ≤ b) ∧ KS B w' ad cp bd
def EEx (w0 : World) (fn : Nat) (cap : Array Value) (M : Nat) (Inv : List (Ex × Bd) → (Nat → Prop) → World → Prop) (m : Nat) : Prop := ∀ done T (x : Ex) (bd : Bd) v ad cp w, x.size < m → ownSz done + x.size ≤ M → bd.length + x.size ≤ M → ERp w0 x v → KS w0.heap.size w ad cp bd → (∀ b, (Value.slice ad bd.length cp).ownBlock = some b → ¬ T b) → Below w0.heap.size w0 w → Inv done T w →
  Calls Tryz.prog 157 #[v, .slice ad bd.length cp, .func (.func fn) #[] cap] w fun e w' => e = .returned (.tuple #[]) ∧ XEnd (Inv (done ++ prE bd x)) T w0.heap.size ad cp bd w w'
theorem KS.pre {B : Nat} {w : World} {g cp : Nat} {bd : Bd} {t : List UInt8} (h : KS B w (some ⟨g, 0, none⟩) cp (bd ++ [t])) : KS B w (some ⟨g, 0, none⟩) cp bd := by
  (have := h.take bd.length (by simp)); rw [List.take_left'  rfl] at this; exact this
/-- So far in the Kids, with the row of names that are bound there. -/
structure EXAt (Inv : List (Ex × Bd) → (Nat → Prop) → World → Prop) (w0 : World) (done : List (Ex × Bd)) (T : Nat → Prop) (ad : Option Addr) (cp : Nat) (bd : Bd) (ad' : Option Addr) (cp' : Nat) (bd' : Bd) (w : World) (Tr : Nat → Prop) (wr : World) : Prop where
  inv : Inv done Tr wr
  kept : Kept (fun b => ¬ T b ∧ (Value.slice ad bd.length cp).ownBlock ≠ some b) w wr
  own : ∀ b, Tr b → T b ∨ w.heap.size ≤ b
  ks : KS w0.heap.size wr ad cp bd
  ks' : KS w0.heap.size wr ad' cp' bd'
  ne : ∀ b, (Value.slice ad' bd'.length cp').ownBlock = some b → ¬ Tr b
  nea : ∀ b, (Value.slice ad bd.length cp).ownBlock = some b → ¬ Tr b
  same : ∀ b, (Value.slice ad' bd'.length cp').ownBlock = some b → (Value.slice ad bd.length cp).ownBlock = some b ∨ w.heap.size ≤ b
  ext : (ad' = ad ∧ cp' = cp ∧ bd' = bd) ∨ ∃ t, bd' = bd ++ [t]
theorem keptXE {T Tr : Nat → Prop} {w w1 w2 : World} {O O' : Option Nat} (h : Kept (fun b => ¬ T b ∧ O ≠ some b) w w1) (ht : ∀ b, Tr b → T b ∨ w.heap.size ≤ b) (ho : ∀ b, O' = some b → O = some b ∨ w.heap.size ≤ b) (k : Kept (fun b => ¬ Tr b ∧ O' ≠ some b) w1 w2) : Kept (fun b => ¬ T b ∧ O ≠ some b) w w2 := by
  (refine ⟨k.os.trans h.os, k.tape.trans h.tape, k.output.trans h.output, Nat.le_trans h.size k.size, fun b hb hok => ?_⟩); (rw [k.block b (Nat.lt_of_lt_of_le hb h.size) ⟨fun e => ?_, fun e => ?_⟩, h.block b hb hok])
  · rcases ht b e with h | h
    · exact hok.1 h
    · omega
  · rcases ho b e with h | h
    · exact hok.2 h
    · omega
theorem ex_below {w0 w w' : World} {T : Nat → Prop} {ad : Option Addr} {cp : Nat} {bd : Bd} (hb : Below w0.heap.size w0 w) (ht : ∀ b, T b → w0.heap.size ≤ b ∧ b < w.heap.size) (hk0 : KS w0.heap.size w ad cp bd) (hk : Kept (fun b => ¬ T b ∧ (Value.slice ad bd.length cp).ownBlock ≠ some b) w w') : Below w0.heap.size w0 w' :=
  hb.trans (hk.below hb.size fun b hb2 => ⟨fun h => by have := (ht b h).1; omega, fun e => by have := (World.ownsRow.lt hk0 b e).1; omega⟩)
/-- A text appended: what was read of the row stays. -/
theorem wpList_appK {ops : Array Oper} {rest : List Oper} {o : Oper} {a : Act} {w : World} {Q : Exit → Act → World → Prop} (hgd : o.guard = none) (s x : Operand) (hop : o.op = Op.call { callee := Callee.builtin Builtin.append, args := #[s, x], argTypes := #[49, 49] })
    (B : Nat) (is : List (List UInt8)) (t : List UInt8) (ad : Option Addr) (cp q : Nat) (Tq : TypeId) (hs : a.eval s = .slice ad is.length cp) (hown : KS B w ad cp is) (hx : a.eval x = .slice (some ⟨q, 0, none⟩) 1 1) (hq : w.heap[q]? = some (.cells #[.string ⟨t.toArray⟩] Tq (0, 0))) (hB : B ≤ w.heap.size) (hl : is.length ≤ 100000)
    (h : ∀ g3 cp3 w3, KS B w3 (some ⟨g3, 0, none⟩) cp3 (is ++ [t]) → Kept (fun b => (Value.slice ad is.length cp).ownBlock ≠ some b) w w3 → ((Value.slice ad is.length cp).ownBlock = some g3 ∨ (w.heap.size ≤ g3 ∧ g3 < w3.heap.size)) → KS B w3 ad cp is → wpList Tryz.prog ops Q rest (a.put o.dst (.slice (some ⟨g3, 0, none⟩) (is.length + 1) cp3)) w3) : wpList Tryz.prog ops Q (o :: rest) a w := by
  (refine wpList_plain hgd fun _ hK => ?_); obtain ⟨i0, hi, hz0, hz1, hz2⟩ := infoText
  have hnw : ∀ (j : Nat) (u : Value), [Value.string ⟨t.toArray⟩][j]? = some u → w.cell? ((⟨q, 0, none⟩ : Addr).add j) = some u := fun j u hu => by
    rw [add_none, Nat.zero_add, blk_cell hq]; simpa using hu
  have h1c : ∀ u ∈ [Value.string ⟨t.toArray⟩], u.oneCell' = true := fun u hu => by
    simp at hu; subst hu; rfl
  (obtain ⟨g3, cp3, w3, hr, h2, h3, h4, h5⟩ := run_append_lies (P := Tryz.prog) w 49 o.type B 9 i0 (.string ⟨#[]⟩) 1 16 Tryz.underlying49 hi hz0 hz1 hz2 rfl (by decide) _ _ _ hown ⟨q, 0, none⟩ 1 1 [.string ⟨t.toArray⟩] rfl hnw h1c (by omega) (by unfold maxLen; omega) (by omega) hB _ rfl)
  have hks : KS B w3 ad cp is := by
    rcases hown.2 with ⟨hv, h0⟩ | ⟨g, cap, cur, hv, hbg, hg, hnc, hcm, hcs, htake⟩
    · simp only [Value.slice.injEq] at hv
      obtain ⟨rfl, -, rfl⟩ := hv; obtain rfl : is = [] := List.length_eq_zero_iff.1 h0; exact KS.nil
    · simp only [Value.slice.injEq, true_and] at hv
      obtain ⟨rfl, rfl⟩ := hv; by_cases hroom : is.length + 1 ≤ cp
      · have hr2 := run_append_room (P := Tryz.prog) w 49 o.type 9 i0 Tryz.underlying49 hi g is.length cp cur hg ⟨q, 0, none⟩ 1 1 [.string ⟨t.toArray⟩] (by rw [hz1]; rfl) hnw h1c hroom (by rw [hz1]; simp; omega)
        have e := hr.symm.trans hr2; simp only [Result.ok.injEq, Value.slice.injEq, Option.some.injEq, Addr.mk.injEq] at e; obtain ⟨⟨⟨rfl, -⟩, -⟩, -⟩ := e
        have e5 : cp3 = cp := by
          have e := hr.symm.trans hr2; simp only [Result.ok.injEq, Value.slice.injEq] at e; exact e.1.2.2
        subst e5
        have h6 : KS B w3 (some ⟨g3, 0, none⟩) cp3 (is ++ [t]) := by
          unfold KS; rw [List.length_append, List.map_append]; exact h2
        exact h6.pre
      · have hr2 := run_append_grow (P := Tryz.prog) w 49 o.type 9 i0 (.string ⟨#[]⟩) Tryz.underlying49 hi hz0 ⟨g, 0, none⟩ is.length cp (is.map encStr) (by rw [hz1]; simp) (hown.cells (g := g) rfl) ⟨q, 0, none⟩ 1 1 [.string ⟨t.toArray⟩] (by rw [hz1]; rfl) hnw (by omega) (by omega) (by rw [hz2]; exact growslice_fits (by omega) (by omega))
        have e := hr.symm.trans hr2; simp only [Result.ok.injEq] at e; rw [e.2]; exact hown.up (((Below.refl w.heap.size w).drew).alloc (Nat.le_refl _) _)
  have hfin := h g3 cp3 w3 (by
    unfold KS; rw [List.length_append, List.map_append]
    exact h2) ⟨h3.os, h3.tape, h3.output, h3.size, fun b hb hn => h3.block b hb fun e => hn e.symm⟩ (by
    rcases h4 with h | h
    · exact Or.inl h
    · exact Or.inr ⟨by omega, h5⟩) hks
  unfold Oper.wp execOp; simp only [hop, resolve, invoke, builtin, Sem.run_bind, Sem.run_pure, Result.andThen_ok, List.map_toArray, List.map_cons, List.map_nil, hs, hx, hr]; exact hK _ _ hfin
/-- Behind the append of a bound name. -/
theorem exAt_app {w0 : World} {fn : Nat} {cap : Array Value} {M : Nat} {Inv : List (Ex × Bd) → (Nat → Prop) → World → Prop} (V : VisE w0 fn cap M Inv) {done : List (Ex × Bd)} {T : Nat → Prop} {ad : Option Addr} {cp cp3 g3 : Nat} {bd : Bd} {t : List UInt8} {w w1 w3 : World} {T1 : Nat → Prop} {o : Obj} 
    (h : EXAt Inv w0 done T ad cp bd ad cp bd w T1 w1) (hown : KS w0.heap.size w3 (some ⟨g3, 0, none⟩) cp3 (bd ++ [t])) (hk3 : Kept (fun b => (Value.slice ad bd.length cp).ownBlock ≠ some b) (w1.alloc o) w3) (hat : (Value.slice ad bd.length cp).ownBlock = some g3 ∨ ((w1.alloc o).heap.size ≤ g3 ∧ g3 < w3.heap.size)) (hks : KS w0.heap.size w3 ad cp bd) :
    EXAt Inv w0 done T ad cp bd (some ⟨g3, 0, none⟩) cp3 (bd ++ [t]) w T1 w3 := by
  have hol := World.ownsRow.lt h.ks; (have hk4 : Kept (fun b => (Value.slice ad bd.length cp).ownBlock ≠ some b) w1 w3 := ((Kept.refl _ _).alloc _).trans hk3); (refine ⟨V.stay h.inv (hk4.mono fun b _ hb e => ?_), h.kept.trans (hk4.mono fun _ _ h => h.2), h.own, hks, hown, fun b e ht => ?_, h.nea, fun b e => ?_, Or.inr ⟨t, rfl⟩⟩)
  · rcases hb with hb | hb
    · exact h.nea b e hb
    · have := (hol b e).1; omega
  · have e2 : g3 = b := Option.some.inj e
    subst e2
    rcases hat with h5 | h5
    · exact h.nea g3 h5 ht
    · have := (V.lt h.inv g3 ht).2
      simp at h5; omega
  · have e2 : g3 = b := Option.some.inj e
    subst e2
    rcases hat with h5 | h5
    · exact Or.inl h5
    · have := h.kept.size
      (exact Or.inr (by simp at h5; omega))
theorem ks_same {B : Nat} {w : World} {g cp cp' : Nat} {l l' : List (List UInt8)} (h : KS B w (some ⟨g, 0, none⟩) cp l) (h' : KS B w (some ⟨g, 0, none⟩) cp' l') : cp = cp' := by
  rcases h.2 with ⟨hv, -⟩ | ⟨g1, c1, cur1, hv, -, hg, -, -, hs, -⟩
  · cases hv
  · rcases h'.2 with ⟨hv', -⟩ | ⟨g2, c2, cur2, hv', -, hg', -, -, hs', -⟩
    · cases hv'
    · simp only [Value.slice.injEq, true_and, Option.some.injEq, Addr.mk.injEq, and_true] at hv hv'
      obtain ⟨rfl, rfl⟩ := hv; obtain ⟨rfl, rfl⟩ := hv'; have e := Option.some.inj (hg.symm.trans hg')
      cases e
      omega
/-- Behind a Kid. -/
theorem exAt_next {w0 : World} {Inv : List (Ex × Bd) → (Nat → Prop) → World → Prop} {done d2 : List (Ex × Bd)} {T : Nat → Prop} {ad ad' : Option Addr} {cp cp' : Nat} {bd bd' : Bd} {w wr w4 : World} {Tr : Nat → Prop} {o : Obj}
    (h : EXAt Inv w0 done T ad cp bd ad' cp' bd' w Tr wr) (hx : XEnd (Inv (done ++ d2)) Tr w0.heap.size ad' cp' bd' (wr.alloc o) w4) : ∃ T4, EXAt Inv w0 (done ++ d2) T ad cp bd ad' cp' bd' w T4 w4 := by
  obtain ⟨T4, hi, hk, ht, hks'⟩ := hx; (have hsz : (wr.alloc o).heap.size = wr.heap.size + 1 := by simp); (have k4 : Kept (fun b => ¬ Tr b ∧ (Value.slice ad' bd'.length cp').ownBlock ≠ some b) wr w4 := ((Kept.refl _ _).alloc _).trans hk); have hol := World.ownsRow.lt h.ks; have hol' := World.ownsRow.lt h.ks'; have hs := h.kept.size; (refine ⟨T4, hi, keptXE h.kept h.own h.same k4, fun b hb => ?_, ?_, hks', fun b e hb => ?_, fun b e hb => ?_, h.same, h.ext⟩)
  · rcases ht b hb with h1 | h1
    · exact h.own b h1
    · exact Or.inr (by omega)
  · rcases h.ks.ne with ⟨rfl, rfl, rfl⟩ | ⟨g, rfl, -⟩
    · exact KS.nil
    · by_cases hg : (Value.slice ad' bd'.length cp').ownBlock = some g
      · rcases h.ext with ⟨rfl, rfl, rfl⟩ | ⟨t, rfl⟩
        · exact hks'
        · rcases h.ks'.ne with ⟨rfl, -, -⟩ | ⟨g', rfl, -⟩
          · cases hg
          · obtain rfl : g' = g := Option.some.inj hg
            obtain rfl := ks_same h.ks h.ks'.pre; exact hks'.pre
      · exact h.ks.move fun b e => by
          have e2 : g = b := Option.some.inj e; subst e2; exact k4.block _ (hol _ e).2 ⟨h.nea _ e, hg⟩
  · rcases ht b hb with h1 | h1
    · exact h.ne b e h1
    · have := (hol' b e).2; omega
  · rcases ht b hb with h1 | h1
    · exact h.nea b e h1
    · have := (hol b e).2; omega
set_option maxRecDepth 10000 in
set_option maxHeartbeats 16000000 in
theorem eachExpr_step {w0 : World} {fn : Nat} {cap : Array Value} {M : Nat} {Inv : List (Ex × Bd) → (Nat → Prop) → World → Prop} (hM : M ≤ 100000) (V : VisE w0 fn cap M Inv) (m : Nat) (ih : EEx w0 fn cap M Inv m) : EEx w0 fn cap M Inv (m + 1) := by
  intro done T x bd v ad cp w hm hN hD hrep hks hne hb hinv; have HRx : Hid (ERp w0 x v) := hrep; obtain ⟨k, n, ws, ks⟩ := x; obtain ⟨sw, cw, sk, ck, rfl, hx1, hx2, hx3, hx4, hx5⟩ := ERp.def.1 hrep; have HXk : Hid (ks ≠ [] → ∃ b off, sk = some ⟨b, off, none⟩ ∧ ERps w0 b off ks) := hx5; have HV : Hid (VisE w0 fn cap M Inv) := V; (have hlenI : ((ks.length : Nat) : Int) ≤ 9223372036854775807 := by unfold maxLen at hx4; omega); have hcf := V.ent; have HB : Hid (Below w0.heap.size w0 w) := hb; have HT : Hid (∀ b, T b → w0.heap.size ≤ b ∧ b < w.heap.size) := V.lt hinv; have HKS : Hid (KS w0.heap.size w ad cp bd) := hks; have HNe : Hid (∀ b, (Value.slice ad bd.length cp).ownBlock = some b → ¬ T b) := hne; have HSz : Hid ((Ex.mk k n ws ks).size < m + 1 ∧ ownSz done + (Ex.mk k n ws ks).size ≤ M ∧ bd.length + (Ex.mk k n ws ks).size ≤ M ∧ M ≤ 100000) := ⟨hm, hN, hD, hM⟩; (have HC : Hid (∀ W, Below w0.heap.size w0 W → KS w0.heap.size W ad cp bd → Inv done T W → Calls Tryz.prog fn (#[.agg #[.int .i64 k, .string n, .slice sw ws.length cw, .slice sk ks.length ck], .slice ad bd.length cp] ++ cap) W _) := fun W h1 h2 h3 => V.call done T (.mk k n ws ks) bd _ ad cp W hN (by omega) hrep h2 hne h1 h3); have HI : Hid (Inv done T w) := hinv; (have HQu : Hid (∀ w, Calls Tryz.prog 108 #[.int .i64 k] w fun e w' => e = .returned (.bool (quanB k)) ∧ w' = w) := fun w => quan_any k w); (have HPr : Hid (prE bd (.mk k n ws ks) = (.mk k n ws ks, bd) :: prEs (bdIn bd k n) ks) := by show _ = _; rw [prE]); (have HIH : Hid (∀ (x2 : Ex) (v2 : Value) (done2 : List (Ex × Bd)) (T2 : Nat → Prop) (bd2 : Bd) (ad2 : Option Addr) (cp2 : Nat) (W : World), x2.size < m → ownSz done2 + x2.size ≤ M → bd2.length + x2.size ≤ M → ERp w0 x2 v2 → KS w0.heap.size W ad2 cp2 bd2 → (∀ b, (Value.slice ad2 bd2.length cp2).ownBlock = some b → ¬ T2 b) → Below w0.heap.size w0 W → Inv done2 T2 W → Calls Tryz.prog 157 #[v2, .slice ad2 bd2.length cp2, .func (.func fn) #[] cap] W fun e w' => e = .returned (.tuple #[]) ∧ XEnd (Inv (done2 ++ prE bd2 x2)) T2 w0.heap.size ad2 cp2 bd2 W w') := fun x2 v2 done2 T2 bd2 ad2 cp2 W h1 h2 h3 h4 h5 h6 h7 h8 => ih done2 T2 x2 bd2 v2 ad2 cp2 W h1 h2 h3 h4 h5 h6 h7 h8); have hq0 := blk_new w (.cells #[.int .i64 k, .string n, .slice sw ws.length cw, .slice sk ks.length ck] 25 (0, 0)); obtain ⟨b0, b1, b2, b3⟩ := blk4L hq0; clear V hm hN hD hM hrep hks hne hb hinv hx1 hx2 hx3 hx4 hx5 ih hq0
  go_enter Tryz.func157, Tryz.ntmps157
  go_wp2_with fail; refine (HC.out _ (below_more HB.out _) (HKS.out.up (below_more (Below.refl _ _) _)) (HV.out.stay HI.out ((Kept.refl _ _).alloc _))).mono ?_; rintro e w1 ⟨rfl, T1, hi1, hk1, ht1⟩; have HOl : Hid (∀ b, (Value.slice ad bd.length cp).ownBlock = some b → w0.heap.size ≤ b ∧ b < w.heap.size) := World.ownsRow.lt HKS.out; (have q1 : w1.heap[w.heap.size]? = some (.cells #[.int .i64 k, .string n, .slice sw ws.length cw, .slice sk ks.length ck] 25 (0, 0)) := (hk1.block _ (by simp) (fun h => by have := (HT.out _ h).2; omega)).trans (blk_new _ _)); have HQ1 : Hid (w1.heap[w.heap.size]? = some (.cells #[.int .i64 k, .string n, .slice sw ws.length cw, .slice sk ks.length ck] 25 (0, 0))) := q1
  have HA1 : Hid (EXAt Inv w0 (done ++ [(.mk k n ws ks, bd)]) T ad cp bd ad cp bd w T1 w1) := by
    (have hk0 : Kept (fun b => ¬ T b) w w1 := ((Kept.refl _ _).alloc _).trans hk1); (have ht0 : ∀ b, T1 b → T b ∨ w.heap.size ≤ b := fun b h => (ht1 b h).elim Or.inl fun h => Or.inr (by simp at h; omega)); (have hks1 : KS w0.heap.size w1 ad cp bd := HKS.out.move fun b h => hk0.block b (HOl.out b h).2 (HNe.out b h))
    have hn1 : ∀ b, (Value.slice ad bd.length cp).ownBlock = some b → ¬ T1 b := fun b h e => by
      rcases ht0 b e with h2 | h2
      · exact HNe.out b h h2
      · have := (HOl.out b h).2; omega
    (exact ⟨hi1, hk0.mono fun _ _ h => h.1, ht0, hks1, hks1, hn1, hn1, fun b h => Or.inl h, Or.inl ⟨rfl, rfl, rfl⟩⟩)
  have HB1 : Hid (Below w0.heap.size w0 w1) := ex_below HB.out HT.out HKS.out HA1.out.kept
  have HNw : Hid (¬ T1 w.heap.size ∧ w.heap.size < w1.heap.size) := ⟨fun h => by
    rcases ht1 _ h with h2 | h2
    · have := (HT.out _ h2).2; omega
    · simp at h2; omega, lt_of_block q1⟩
  clear hi1 hk1 ht1 HC b0 b1 b2 b3; obtain ⟨c0, c1, c2, c3⟩ := blk4L q1; clear q1
  rcases hq : quanB k with _ | _
  · rw [hq] at HQu
    (have HBd : Hid (prE bd (.mk k n ws ks) = (.mk k n ws ks, bd) :: prEs bd ks) := by show _ = _; rw [HPr.out, bdIn, hq]; rfl); (have HDp : Hid (bd.length + Ex.sizes ks ≤ M) := by have := HSz.out.2.2.1; rw [Ex.size] at this; show _ ≤ _; omega); clear hq HPr
    go_wp2_with (first
      | (go_at_call 108; refine (HQu.out _).mono ?_; rintro e w3 ⟨rfl, h3⟩; obtain rfl : w1 = w3 := h3.symm)
      | fail)
    go_loopg [23] ks.length (fun g c wr => ∃ i Tr, i ≤ ks.length ∧ g = ks.length - i ∧ c = .int .i64 (i : Nat) ∧ Hid (EXAt Inv w0 (done ++ [(.mk k n ws ks, bd)] ++ prEs bd (ks.take i)) T ad cp bd ad cp bd w Tr wr))
    case atStart => exact ⟨0, T1, by omega, by omega, rfl, by show EXAt _ _ _ _ _ _ _ _ _ _ _ _ _; rw [List.take_zero, prEs, List.append_nil]; exact HA1.out⟩
    case round =>
      obtain ⟨i, Tr, hile, hg, rfl, HAr⟩ := hrel; have HG : Hid (gk = ks.length - i) := hg; have HBr : Hid (Below w0.heap.size w0 wr) := ex_below HB.out HT.out HKS.out HAr.out.kept; clear hg; by_cases hlt : i < ks.length
      · obtain ⟨⟨k2, n2, ws2, ks2⟩, hki⟩ : ∃ x, ks[i]? = some x := ⟨_, List.getElem?_eq_getElem hlt⟩
        (have hltI : (i : Int) < (ks.length : Int) := by omega); (obtain ⟨b, off, rfl, hrs⟩ := HXk.out (fun e => by rw [e] at hlt; simp at hlt)); obtain ⟨sw2, cw2, sk2, ck2, z0, z1, z2, z3, hrep2⟩ := hrs.at i k2 n2 ws2 ks2 hki; have y0 := (HBr.out.cell (lt_of_cell z0)).trans z0; have y1 := (HBr.out.cell (lt_of_cell z1)).trans z1; have y2 := (HBr.out.cell (lt_of_cell z2)).trans z2; have y3 := (HBr.out.cell (lt_of_cell z3)).trans z3; have hs1 := esizes_take ks i _ hki; have hs2 := prEs_len bd (ks.take i); have hs3 := esizes_get hki
        have HIHk : Hid (∀ W, Below w0.heap.size w0 W → KS w0.heap.size W ad cp bd → Inv (done ++ [(.mk k n ws ks, bd)] ++ prEs bd (ks.take i)) Tr W → Calls Tryz.prog 157 #[.agg #[.int .i64 k2, .string n2, .slice sw2 ws2.length cw2, .slice sk2 ks2.length ck2], .slice ad bd.length cp, .func (.func fn) #[] cap] W fun e w' => e = .returned (.tuple #[]) ∧ XEnd (Inv (done ++ [(.mk k n ws ks, bd)] ++ prEs bd (ks.take i) ++ prE bd (.mk k2 n2 ws2 ks2))) Tr w0.heap.size ad cp bd W w') := fun W h1 h2 h3 => by
          (have h9 := HIH.out (.mk k2 n2 ws2 ks2) _ (done ++ [(.mk k n ws ks, bd)] ++ prEs bd (ks.take i)) Tr bd ad cp W (by have := HSz.out.1; rw [Ex.size] at this; omega) (by have := HSz.out.2.1; rw [Ex.size] at this; rw [ownSz_app, ownSz_app, prEs_own]; show ownSz done + (Wd.sizes ws + 1 + 0) + _ + _ ≤ _; omega) (by have := HDp.out; omega) hrep2 h2 HAr.out.ne h1 h3); exact h9
        have HD : Hid (prEs bd (ks.take (i + 1)) = prEs bd (ks.take i) ++ prE bd (.mk k2 n2 ws2 ks2)) := prEs_take hki; clear hki hrs z0 z1 z2 z3 hrep2 hs1 hs2 hs3 HXk
        go_wp2_with (first
          | (go_at_call 157
             refine (HIHk.out _ (below_more HBr.out _) (HAr.out.ks'.up (below_more (Below.refl _ _) _)) (HV.out.stay HAr.out.inv ((Kept.refl _ _).alloc _))).mono ?_; rintro e w4 ⟨rfl, hx4⟩
             have HX4 : Hid (∃ T4, EXAt Inv w0 (done ++ [(.mk k n ws ks, bd)] ++ prEs bd (ks.take (i + 1))) T ad cp bd ad cp bd w T4 w4) := (by
               have h8 := exAt_next HAr.out hx4; rw [List.append_assoc _ _ (prE bd _), ← HD.out] at h8
               exact h8)
             clear hx4)
          | fail)
        obtain ⟨T4, ha4⟩ := HX4.out; have HA4 : Hid (EXAt Inv w0 (done ++ [(.mk k n ws ks, bd)] ++ prEs bd (ks.take (i + 1))) T ad cp bd ad cp bd w T4 w4) := ha4; clear ha4
        go_roundg (ks.length - (i + 1))
        case measure => have := HG.out; omega
        case rel => exact ⟨i + 1, T4, by omega, rfl, by go_num, HA4⟩
      · have hge : ¬ (i : Int) < (ks.length : Int) := by omega
        have HE : Hid (XEnd (Inv (done ++ prE bd (.mk k n ws ks))) T w0.heap.size ad cp bd w wr) := by
          have := HAr.out; (rw [List.take_of_length_le (by omega)] at this); refine ⟨Tr, ?_, this.kept, this.own, this.ks⟩; rw [HBd.out]; have h2 := this.inv; rw [List.append_assoc] at h2; exact h2
        clear HAr HXk; go_wp2_with fail
        go_end0
        exact ⟨rfl, HE.out⟩
  · rw [hq] at HQu
    (have HBd : Hid (prE bd (.mk k n ws ks) = (.mk k n ws ks, bd) :: prEs (bd ++ [n.data.toList]) ks) := by show _ = _; rw [HPr.out, bdIn, hq]; rfl); (have HDp : Hid ((bd ++ [n.data.toList]).length + Ex.sizes ks ≤ M) := by have := HSz.out.2.2.1; rw [Ex.size] at this; show _ ≤ _; rw [List.length_append, List.length_singleton]; omega); clear hq HPr
    go_wp2_with (first
      | (go_at_call 108; refine (HQu.out _).mono ?_; rintro e w3 ⟨rfl, h3⟩; obtain rfl : w1 = w3 := h3.symm)
      | (at_builtin
         (refine wpList_appK rfl _ _ rfl w0.heap.size bd n.data.toList ad cp w1.heap.size 9 rfl (HA1.out.ks.up (below_more (Below.refl _ _) _)) rfl (by rw [str_eta]; exact blk_new w1 _) (by have := HB1.out.size; simp; omega) (by have := HSz.out; omega) ?_); intro g3 cp3 w3 hown3 hk3 hat3 hks3; have HA3 : Hid (EXAt Inv w0 (done ++ [(.mk k n ws ks, bd)]) T ad cp bd (some ⟨g3, 0, none⟩) cp3 (bd ++ [n.data.toList]) w T1 w3) := exAt_app HV.out HA1.out hown3 hk3 hat3 hks3; (have q3 : w3.heap[w.heap.size]? = some (.cells #[.int .i64 k, .string n, .slice sw ws.length cw, .slice sk ks.length ck] 25 (0, 0)) := (hk3.block _ (by have := HNw.out.2; simp; omega) (fun e => by have := (HOl.out _ e).2; omega)).trans (alloc_keep HQ1.out _)); have HB3 : Hid (Below w0.heap.size w0 w3) := ex_below HB.out HT.out HKS.out HA3.out.kept; clear c0 c1 c2 c3; obtain ⟨c0, c1, c2, c3⟩ := blk4L q3; have HQ3 : Hid (w3.heap[w.heap.size]? = some (.cells #[.int .i64 k, .string n, .slice sw ws.length cw, .slice sk ks.length ck] 25 (0, 0))) := q3; (have hl3 : ((bd.length + 1 : Nat) : Int) = ((bd ++ [n.data.toList]).length : Nat) := by simp)
         clear hown3 hk3 hat3 hks3 q3)
      | fail)
    go_loopg [23] ks.length (fun g c wr => ∃ i Tr, i ≤ ks.length ∧ g = ks.length - i ∧ c = .int .i64 (i : Nat) ∧ Hid (EXAt Inv w0 (done ++ [(.mk k n ws ks, bd)] ++ prEs (bd ++ [n.data.toList]) (ks.take i)) T ad cp bd (some ⟨g3, 0, none⟩) cp3 (bd ++ [n.data.toList]) w Tr wr))
    case atStart => exact ⟨0, T1, by omega, by omega, rfl, by show EXAt _ _ _ _ _ _ _ _ _ _ _ _ _; rw [List.take_zero, prEs, List.append_nil]; exact HA3.out⟩
    case round =>
      obtain ⟨i, Tr, hile, hg, rfl, HAr⟩ := hrel; have HG : Hid (gk = ks.length - i) := hg; have HBr : Hid (Below w0.heap.size w0 wr) := ex_below HB.out HT.out HKS.out HAr.out.kept; clear hg; by_cases hlt : i < ks.length
      · obtain ⟨⟨k2, n2, ws2, ks2⟩, hki⟩ : ∃ x, ks[i]? = some x := ⟨_, List.getElem?_eq_getElem hlt⟩
        (have hltI : (i : Int) < (ks.length : Int) := by omega); (obtain ⟨b, off, rfl, hrs⟩ := HXk.out (fun e => by rw [e] at hlt; simp at hlt)); obtain ⟨sw2, cw2, sk2, ck2, z0, z1, z2, z3, hrep2⟩ := hrs.at i k2 n2 ws2 ks2 hki; have y0 := (HBr.out.cell (lt_of_cell z0)).trans z0; have y1 := (HBr.out.cell (lt_of_cell z1)).trans z1; have y2 := (HBr.out.cell (lt_of_cell z2)).trans z2; have y3 := (HBr.out.cell (lt_of_cell z3)).trans z3; have hs1 := esizes_take ks i _ hki; have hs2 := prEs_len (bd ++ [n.data.toList]) (ks.take i); have hs3 := esizes_get hki
        have HIHk : Hid (∀ W, Below w0.heap.size w0 W → KS w0.heap.size W (some ⟨g3, 0, none⟩) cp3 (bd ++ [n.data.toList]) → Inv (done ++ [(.mk k n ws ks, bd)] ++ prEs (bd ++ [n.data.toList]) (ks.take i)) Tr W → Calls Tryz.prog 157 #[.agg #[.int .i64 k2, .string n2, .slice sw2 ws2.length cw2, .slice sk2 ks2.length ck2], .slice (some ⟨g3, 0, none⟩) (bd.length + 1) cp3, .func (.func fn) #[] cap] W fun e w' => e = .returned (.tuple #[]) ∧ XEnd (Inv (done ++ [(.mk k n ws ks, bd)] ++ prEs (bd ++ [n.data.toList]) (ks.take i) ++ prE (bd ++ [n.data.toList]) (.mk k2 n2 ws2 ks2))) Tr w0.heap.size (some ⟨g3, 0, none⟩) cp3 (bd ++ [n.data.toList]) W w') := fun W h1 h2 h3 => by
          (have h9 := HIH.out (.mk k2 n2 ws2 ks2) _ (done ++ [(.mk k n ws ks, bd)] ++ prEs (bd ++ [n.data.toList]) (ks.take i)) Tr (bd ++ [n.data.toList]) (some ⟨g3, 0, none⟩) cp3 W (by have := HSz.out.1; rw [Ex.size] at this; omega) (by have := HSz.out.2.1; rw [Ex.size] at this; rw [ownSz_app, ownSz_app, prEs_own]; show ownSz done + (Wd.sizes ws + 1 + 0) + _ + _ ≤ _; omega) (by have := HDp.out; omega) hrep2 h2 HAr.out.ne h1 h3); rw [List.length_append, List.length_singleton] at h9; exact h9
        have HD : Hid (prEs (bd ++ [n.data.toList]) (ks.take (i + 1)) = prEs (bd ++ [n.data.toList]) (ks.take i) ++ prE (bd ++ [n.data.toList]) (.mk k2 n2 ws2 ks2)) := prEs_take hki; clear hki hrs z0 z1 z2 z3 hrep2 hs1 hs2 hs3 HXk
        go_wp2_with (first
          | (go_at_call 157
             refine (HIHk.out _ (below_more HBr.out _) (HAr.out.ks'.up (below_more (Below.refl _ _) _)) (HV.out.stay HAr.out.inv ((Kept.refl _ _).alloc _))).mono ?_; rintro e w4 ⟨rfl, hx4⟩
             have HX4 : Hid (∃ T4, EXAt Inv w0 (done ++ [(.mk k n ws ks, bd)] ++ prEs (bd ++ [n.data.toList]) (ks.take (i + 1))) T ad cp bd (some ⟨g3, 0, none⟩) cp3 (bd ++ [n.data.toList]) w T4 w4) := (by
               have h8 := exAt_next HAr.out hx4; rw [List.append_assoc _ _ (prE (bd ++ [n.data.toList]) _), ← HD.out] at h8
               exact h8)
             clear hx4)
          | fail)
        obtain ⟨T4, ha4⟩ := HX4.out; have HA4 : Hid (EXAt Inv w0 (done ++ [(.mk k n ws ks, bd)] ++ prEs (bd ++ [n.data.toList]) (ks.take (i + 1))) T ad cp bd (some ⟨g3, 0, none⟩) cp3 (bd ++ [n.data.toList]) w T4 w4) := ha4; clear ha4
        go_roundg (ks.length - (i + 1))
        case measure => have := HG.out; omega
        case rel => exact ⟨i + 1, T4, by omega, rfl, by go_num, HA4⟩
      · have hge : ¬ (i : Int) < (ks.length : Int) := by omega
        have HE : Hid (XEnd (Inv (done ++ prE bd (.mk k n ws ks))) T w0.heap.size ad cp bd w wr) := by
          have := HAr.out; (rw [List.take_of_length_le (by omega)] at this); refine ⟨Tr, ?_, this.kept, this.own, this.ks⟩; rw [HBd.out]; have h2 := this.inv; rw [List.append_assoc] at h2; exact h2
        clear HAr HXk; go_wp2_with fail
        go_end0
        exact ⟨rfl, HE.out⟩
theorem eachExpr_all {w0 : World} {fn : Nat} {cap : Array Value} {M : Nat} {Inv : List (Ex × Bd) → (Nat → Prop) → World → Prop} (hM : M ≤ 100000) (V : VisE w0 fn cap M Inv) : ∀ m, EEx w0 fn cap M Inv m
  | 0 => fun _ _ _ _ _ _ _ _ h => absurd h (Nat.not_lt_zero _)
  | m + 1 => eachExpr_step hM V m (eachExpr_all hM V m)
set_option maxHeartbeats 2000000 in
theorem eachE_any {w0 : World} {fn : Nat} {cap : Array Value} {M : Nat} {Inv : List (Ex × Bd) → (Nat → Prop) → World → Prop} (hM : M ≤ 100000) (V : VisE w0 fn cap M Inv) (T : Nat → Prop) (x : Ex) (v : Value) (w : World) (hx : x.size ≤ M) (hrep : ERp w0 x v) (hb : Below w0.heap.size w0 w) (hi : Inv [] T w) :
    Calls Tryz.prog 110 #[v, .func (.func fn) #[] cap] w fun e w' => e = .returned (.tuple #[]) ∧ VEnd (Inv (prE [] x)) T w w' := by
  (have HE : Hid (∀ W, Below w0.heap.size w0 W → Inv [] T W → Calls Tryz.prog 157 #[v, .slice none 0 0, .func (.func fn) #[] cap] W fun e w' => e = .returned (.tuple #[]) ∧ XEnd (Inv ([] ++ prE [] x)) T w0.heap.size none 0 [] W w') := fun W h1 h2 => eachExpr_all hM V (x.size + 1) [] T x [] v none 0 W (Nat.lt_succ_self _) (by rw [ownSz]; omega) (by simpa using hx) hrep KS.nil (fun b e => by cases e) h1 h2); have HB : Hid (Below w0.heap.size w0 w) := hb; have HI : Hid (Inv [] T w) := hi; have HV : Hid (VisE w0 fn cap M Inv) := V; obtain ⟨k, n, ws, ks⟩ := x; obtain ⟨sw, cw, sk, ck, rfl, -⟩ := ERp.def.1 hrep; clear hx hrep hb hi V
  go_enter Tryz.func110, Tryz.ntmps110
  go_wp2_with (first
    | (go_at_call 157
       refine (HE.out _ (below_more HB.out _) (HV.out.stay HI.out ((Kept.refl _ _).alloc _))).mono ?_; rintro e w2 ⟨rfl, T', hi', hk, ht, -⟩; (have HF : Hid (VEnd (Inv (prE [] (.mk k n ws ks))) T w w2) := VEnd.pre (below_more (Below.refl _ _) _) ⟨T', hi', hk.mono fun _ _ h => ⟨h, fun e => by cases e⟩, ht⟩)
       clear hi' hk ht)
    | fail)
  go_end0
  exact ⟨rfl, HF.out⟩
end Go.Proofs.YtheiikkeelbjnajGreat
