/- Texts of one proof, one behind the other: MS4. -/
import Derived.Test.YtfhbpfgbnfcdaagB25
import Derived.Test.YtfhbpfgbnfcdaagB16
/- Walks: what is so of all worlds, and of all with those that they see. -/
namespace Go.Proofs.Ytfhbpfgbnfcdaag
open Go.RowKit Go.Sort

/-- Numbers in memory. -/
def NL (w : World) (v : Value) (l : List Nat) : Prop := ∃ ad cap, v = .slice ad l.length cap ∧ l.length ≤ cap ∧ cap ≤ maxLen ∧ (l ≠ [] → ∃ b, ad = some ⟨b, 0, none⟩ ∧ ∀ (j n : Nat), l[j]? = some n → w.cell? ⟨b, j, none⟩ = some (.int .i64 (n : Nat)))
theorem NL.up {w w' : World} {v : Value} {l : List Nat} (h : NL w v l) (hb : Below w.heap.size w w') : NL w' v l := by
  obtain ⟨ad, cap, h1, h2, h3, h4⟩ := h; (refine ⟨ad, cap, h1, h2, h3, fun hne => ?_⟩); obtain ⟨b, h5, h6⟩ := h4 hne; (exact ⟨b, h5, fun j n hj => (hb.cell (lt_of_cell (h6 j n hj))).trans (h6 j n hj)⟩)
def memTo (P : Nat → Bool) (i : Nat) : List Nat := (List.range i).filter P
theorem memTo_succ (P : Nat → Bool) (i : Nat) : memTo P (i + 1) = if P i = true then memTo P i ++ [i] else memTo P i := by
  rw [memTo, List.range_succ, List.filter_append, memTo]; (by_cases h : P i = true <;> simp [h])
theorem memTo_len (P : Nat → Bool) (i : Nat) : (memTo P i).length ≤ i := by
  have := List.length_filter_le P (List.range i)
  rwa [List.length_range] at this
set_option maxRecDepth 10000 in
set_option maxHeartbeats 4000000 in
theorem set_members {N : Nat} (hN : N ≤ 40) (P : Nat → Bool) (w : World) :
    Calls Try.prog 78 #[.int .u64 (bm N P : Nat), .int .i64 (N : Nat)] w fun e w' => ∃ x, e = .returned x ∧ NL w' x (memTo P N) ∧ Below w.heap.size w w' := by
  (have hNI : (N : Int) ≤ 40 := by omega); (have HH : Hid (∀ n, n < N → ∀ w, Calls Try.prog 51 #[.int .u64 (bm N P : Nat), .int .i64 (n : Nat)] w fun e w' => e = .returned (.bool (P n)) ∧ w' = w) := fun n hn w => set_has hN P n hn w); have HN : Hid (N ≤ 40) := hN; generalize bm N P = s at *; clear hN
  go_enter Try.func78, Try.ntmps78
  go_wp2_with fail
  go_loopg [8, 5] N (fun gg cc x wr => ∃ i ad cp, i ≤ N ∧ gg = N - i ∧ cc = .int .i64 (i : Nat) ∧ x = .slice ad (memTo P i).length cp ∧ Hid (wr.ownsRow w.heap.size 3 1 (.slice ad (memTo P i).length cp) (memTo P i).length ((memTo P i).map encI)) ∧ Hid (Below w.heap.size w wr))
  case atStart => exact ⟨0, none, 0, by omega, by omega, rfl, rfl, ⟨rfl, Or.inl ⟨rfl, rfl⟩⟩, Below.refl _ _⟩
  case round =>
    obtain ⟨i, ad, cp, hi, hg, rfl, rfl, HOw, HB⟩ := hrel; have HGk : Hid (gk = N - i) := hg; clear hg; by_cases hlt : i < N
    · have hltI : (i : Int) < (N : Int) := by omega
      have HI : Hid (i < N) := hlt; (have HSc : Hid (memTo P (i + 1) = if P i = true then memTo P i ++ [i] else memTo P i) := memTo_succ P i); have HLn : Hid ((memTo P i).length ≤ i) := memTo_len P i; generalize memTo P i = LL at *; (have hlnI : (LL.length : Int) ≤ 40 := by have := HLn.out; have := HN.out; omega); clear hlt hi; go_wp2_with fail; refine (HH.out i HI.out wr).mono ?_; rintro _ w9 ⟨rfl, e9⟩
      replace e9 := e9.symm
      subst e9; by_cases hp : P i = true
      · rw [hp] at HSc ⊢
        obtain ⟨i0, hi0, hz0, hz1, hz2⟩ := infoI9; clear hp
        go_wp2_with (first
          | (at_builtin
             have hsz := HB.out.size; have hlm := HLn.out; have hnm := HN.out; have hil := HI.out; have hown := rowM_up HOw.out ((Below.refl _ wr).alloc (Nat.le_refl _) (.cells #[.int .i64 (i : Nat)] 3 (0, 0))); (refine wpList_append_lies _ rfl _ _ 58 rfl w.heap.size 3 i0 (.int .i64 0) 1 8 Try.underlying58 hi0 hz0 hz1 hz2 rfl (by decide) (.slice ad LL.length cp) LL.length (LL.map encI) rfl hown ⟨wr.heap.size, 0, none⟩ 1 1 [.int .i64 (i : Nat)] rfl rfl ?_ ?_ (by omega) (by unfold maxLen; omega) (by omega) (by simp; omega) _ rfl ?_)
             · intro j u hu
               rw [add_none, Nat.zero_add, blk_cell (blk_new wr _)]; simpa using hu
             · intro u hu
               simp at hu; subst hu; rfl
             intro g3 cp3 w3 hown3 hgrow hat hlt3; have hgrow' : (wr.alloc (.cells #[.int .i64 (i : Nat)] 3 (0, 0))).grownBy w3 (Value.slice ad LL.length cp).ownBlock := hgrow; have hlt' := HOw.out.lt; (have HB3 : Hid (Below w.heap.size w w3) := ((HB.out.alloc hsz _).grown hgrow' (by simp; omega) fun k hk => by have := (hlt' k hk).1; omega)); have HOw3 : Hid (w3.ownsRow w.heap.size 3 1 (.slice (some ⟨g3, 0, none⟩) (LL.length + 1) cp3) (LL.length + 1) (LL.map encI ++ [.int .i64 (i : Nat)])) := hown3
             clear hgrow hgrow' hat hown3 hown hlt' hsz hlt3 hi0 hz0 hz1 hz2 hlm hnm hil)
          | fail)
        (have HSc9 : memTo P (i + 1) = LL ++ [i] := by rw [HSc.out]; rfl); (have hl9 : (memTo P (i + 1)).length = LL.length + 1 := by rw [HSc9]; simp)
        go_roundg (N - (i + 1))
        case measure => have := HGk.out; have := HI.out; omega
        case rel =>
          (refine ⟨i + 1, some ⟨g3, 0, none⟩, cp3, HI.out, rfl, by go_num, by rw [hl9], ?_, HB3⟩); rw [hl9, HSc9, List.map_append]; exact HOw3
      · have hpf : P i = false := by simpa using hp
        rw [hpf] at HSc ⊢; clear hp hpf; go_wp2_with fail; (have HSc9 : memTo P (i + 1) = LL := by rw [HSc.out]; rfl)
        go_roundg (N - (i + 1))
        case measure => have := HGk.out; have := HI.out; omega
        case rel => exact ⟨i + 1, ad, cp, HI.out, rfl, by go_num, by rw [HSc9], by rw [HSc9]; exact HOw, HB⟩
    · have hii : N = i := by omega
      subst hii; (have hge : ¬ (N : Int) < (N : Int) := by omega); clear hlt hi; go_wp2_with fail; go_ret; obtain ⟨c1, c2⟩ := rowM_caps HOw.out; (refine ⟨_, rfl, ⟨ad, cp, rfl, c1, c2, fun hne => ?_⟩, HB.out⟩); obtain ⟨b, rfl, hc⟩ := rowM_cells HOw.out (List.length_pos_iff.2 hne); (refine ⟨b, rfl, fun j m hj => ?_⟩); (have := hc j (encI m) (by rw [List.getElem?_map, hj]; rfl))
      rwa [Nat.zero_add] at this
/-- What is asked of a world: it only makes memory. -/
structure AskN (N fn : Nat) (cap : Array Value) (q : Nat → Bool) (Ok : World → Prop) : Prop where
  up : ∀ {w w' : World}, Ok w → Below w.heap.size w w' → Ok w'
  ent : ∀ (v : Value) (w : World), (callFunc fn (#[v] ++ cap)).run Try.prog w = .ok (.enter fn (#[v] ++ cap)) w
  call : ∀ (u : Nat) (w : World), u < N → Ok w → Calls Try.prog fn (#[.int .i64 (u : Nat)] ++ cap) w fun e w' => e = .returned (.bool (q u)) ∧ Below w.heap.size w w'
set_option maxHeartbeats 2000000 in
theorem ofAll_any {N fn : Nat} (hN : N ≤ 40) {cap : Array Value} {q : Nat → Bool} {Ok : World → Prop} (A : AskN N fn cap q Ok) (g : Nat) (w : World) (hok : Ok w) :
    Calls Try.prog 68 #[.slice (some ⟨g, 0, none⟩) N N, .func (.func fn) #[] cap] w fun e w' => e = .returned (.bool ((List.range N).all q)) ∧ Below w.heap.size w w' := by
  (have hNI : (N : Int) ≤ 40 := by omega); have hcf := A.ent; (have HA : Hid (∀ (u : Nat) (w : World), u < N → Ok w → Calls Try.prog fn (#[.int .i64 (u : Nat)] ++ cap) w fun e w' => e = .returned (.bool (q u)) ∧ Below w.heap.size w w') := A.call); have HU : Hid (∀ {w w' : World}, Ok w → Below w.heap.size w w' → Ok w') := A.up; have HO : Hid (Ok w) := hok
  have HR : Hid (((List.range N).all q = true ↔ ∀ u, u < N → q u = true)) := by
    show _ ↔ _; rw [List.all_eq_true]; simp only [List.mem_range]
  generalize (List.range N).all q = res at *; clear hok A hN
  go_enter Try.func68, Try.ntmps68
  go_wp2_with fail
  go_loopg [8] N (fun gg c wr => ∃ i, i ≤ N ∧ gg = N - i ∧ c = .int .i64 (i : Nat) ∧ Hid (∀ u, u < i → q u = true) ∧ Hid (Below w.heap.size w wr))
  case atStart => exact ⟨0, by omega, by omega, rfl, fun u h => absurd h (Nat.not_lt_zero _), Below.refl _ _⟩
  case round =>
    obtain ⟨i, hi, hg, rfl, HQ, HB⟩ := hrel; have HGk : Hid (gk = N - i) := hg; clear hg; by_cases hlt : i < N
    · have hltI : (i : Int) < (N : Int) := by omega
      have HC : Hid (Calls Try.prog fn (#[.int .i64 (i : Nat)] ++ cap) wr _) := HA.out i wr hlt (HU.out HO.out HB.out); have HI : Hid (i < N) := hlt; obtain ⟨bb, hbb⟩ : ∃ bb, bb = q i := ⟨_, rfl⟩; rw [← hbb] at HC; have HBB : Hid (bb = q i) := hbb; clear hlt hi hbb; go_wp2_with fail; refine HC.out.mono ?_; rintro _ w1 ⟨rfl, hb1⟩; have HB1 : Hid (Below w.heap.size w w1) := below_join HB.out hb1; clear hb1
      cases bb
      · go_wp2_with fail
        go_ret; refine ⟨?_, HB1.out⟩
        have : res = false := by
          cases hr : res with
          | false => rfl
          | true =>
            have := HR.out.1 hr i HI.out; rw [← HBB.out] at this
            cases this
        rw [this]; rfl
      · go_wp2_with fail
        go_roundg (N - (i + 1))
        case measure => have := HGk.out; have := HI.out; omega
        case rel =>
          (refine ⟨i + 1, HI.out, rfl, by go_num, fun u hu => ?_, HB1⟩); by_cases e : u = i
          · rw [e, ← HBB.out]
          · exact HQ.out u (by omega)
    · have hii : i = N := by omega
      subst hii; (have hge : ¬ (i : Int) < (i : Int) := by omega); clear hlt hi; go_wp2_with fail; go_ret; refine ⟨?_, HB.out⟩; rw [HR.out.2 HQ.out]; rfl
/-- What is asked of a world and one that it sees. -/
structure AskP (N fn : Nat) (cap : Array Value) (q : Nat → Nat → Bool) (Ok : World → Prop) : Prop where
  up : ∀ {w w' : World}, Ok w → Below w.heap.size w w' → Ok w'
  ent : ∀ (v u : Value) (w : World), (callFunc fn (#[v, u] ++ cap)).run Try.prog w = .ok (.enter fn (#[v, u] ++ cap)) w
  call : ∀ (u v : Nat) (w : World), u < N → v < N → Ok w → Calls Try.prog fn (#[.int .i64 (u : Nat), .int .i64 (v : Nat)] ++ cap) w fun e w' => e = .returned (.bool (q u v)) ∧ Below w.heap.size w w'
/-- What the closure of ofAllSeen reads. -/
def OkS (N fn : Nat) (cap : Array Value) (R : Nat → Nat → Bool) (g fb cb : Nat) (Ok : World → Prop) (w : World) : Prop := w.heap[fb]? = some (.cells #[.slice (some ⟨g, 0, none⟩) N N] 68 (0, 0)) ∧ w.heap[cb]? = some (.cells #[.func (.func fn) #[] cap] 103 (0, 0)) ∧ FR w g N R ∧ Ok w
theorem rowS9 (l : List Value) (h0 : l.length = 9) : ∃ x0 x1 x2 x3 x4 x5 x6 x7 x8, l = [x0, x1, x2, x3, x4, x5, x6, x7, x8] := by
  obtain ⟨x0, l1, e0, h1⟩ := cons_lenM h0; obtain ⟨x1, l2, e1, h2⟩ := cons_lenM h1; obtain ⟨x2, l3, e2, h3⟩ := cons_lenM h2; obtain ⟨x3, l4, e3, h4⟩ := cons_lenM h3; obtain ⟨x4, l5, e4, h5⟩ := cons_lenM h4; obtain ⟨x5, l6, e5, h6⟩ := cons_lenM h5; obtain ⟨x6, l7, e6, h7⟩ := cons_lenM h6; obtain ⟨x7, l8, e7, h8⟩ := cons_lenM h7; obtain ⟨x8, l9, e8, h9⟩ := cons_lenM h8; have e9 : l9 = [] := List.length_eq_zero_iff.1 h9; subst e9 e8 e7 e6 e5 e4 e3 e2 e1 e0; exact ⟨x0, x1, x2, x3, x4, x5, x6, x7, x8, rfl⟩
set_option maxRecDepth 10000 in
set_option maxHeartbeats 4000000 in
theorem seen1_any {N fn : Nat} (hN : N ≤ 40) {cap : Array Value} {q : Nat → Nat → Bool} {Ok : World → Prop} (A : AskP N fn cap q Ok) (R : Nat → Nat → Bool) (g fb cb u : Nat) (hu : u < N) (w : World) (hok : OkS N fn cap R g fb cb Ok w) :
    Calls Try.prog 77 (#[.int .i64 (u : Nat)] ++ #[.pointer (some ⟨fb, 0, none⟩), .pointer (some ⟨cb, 0, none⟩)]) w fun e w' => e = .returned (.bool ((seeR N R u).all (q u))) ∧ Below w.heap.size w w' := by
  obtain ⟨h1, h2, h3, h4⟩ := hok; (have hNI : (N : Int) ≤ 40 := by omega); (have huI : (u : Int) < (N : Int) := by omega); have hcf := A.ent; (have HA : Hid (∀ (u v : Nat) (w : World), u < N → v < N → Ok w → Calls Try.prog fn (#[.int .i64 (u : Nat), .int .i64 (v : Nat)] ++ cap) w fun e w' => e = .returned (.bool (q u v)) ∧ Below w.heap.size w w') := A.call); have HUp : Hid (∀ {w w' : World}, Ok w → Below w.heap.size w w' → Ok w') := A.up; have HO : Hid (Ok w) := h4; have HU0 : Hid (u < N) := hu; have HX0 : Hid (w.heap[fb]? = some (.cells #[.slice (some ⟨g, 0, none⟩) N N] 68 (0, 0))) := h1; have HX1 : Hid (w.heap[cb]? = some (.cells #[.func (.func fn) #[] cap] 103 (0, 0))) := h2; obtain ⟨s, hs⟩ : ∃ s, s = bm N (R u) := ⟨_, rfl⟩; (have HC0 : Hid (w.cell? ⟨g, u, none⟩ = some (.int .u64 (s : Nat))) := by rw [hs]; exact h3 u hu); obtain ⟨LL, hLL⟩ : ∃ LL, LL = seeR N R u := ⟨_, rfl⟩
  have HMb : Hid (∀ w, Calls Try.prog 78 #[.int .u64 (s : Nat), .int .i64 (N : Nat)] w fun e w' => ∃ x, e = .returned x ∧ NL w' x LL ∧ Below w.heap.size w w') := fun w => by
    rw [hs, hLL]; exact set_members hN (R u) w
  (have HLt : Hid (∀ v ∈ LL, v < N) := fun v hv => by rw [hLL] at hv; exact (mem_seeR.1 hv).1)
  have HR : Hid ((seeR N R u).all (q u) = true ↔ ∀ (j v : Nat), LL[j]? = some v → q u v = true) := by
    show _ ↔ _; rw [List.all_eq_true, hLL]; (exact ⟨fun h j v hj => h v (List.mem_of_getElem? hj), fun h v hv => by obtain ⟨j, hj⟩ := List.getElem?_of_mem hv; exact h j v hj⟩)
  (have hln : LL.length ≤ 40 := by rw [hLL]; exact Nat.le_trans (memTo_len (R u) N) hN); (have hlnI : (LL.length : Int) ≤ 40 := by omega); generalize (seeR N R u).all (q u) = res at *; clear h1 h2 h3 h4 hu hs hLL hln A hN; show Calls Try.prog 77 #[.int .i64 (u : Nat), .pointer (some ⟨fb, 0, none⟩), .pointer (some ⟨cb, 0, none⟩)] w _
  go_enter Try.func77, Try.ntmps77
  go_wp2_with fail; (refine wp_region_free (by kernel_rfl) [fun v _ => v = (.slice (some ⟨g, 0, none⟩) N N), fun v _ => v = (.int .i64 (u : Nat)), fun v _ => v = (.pointer (some ⟨g, u, none⟩)), fun v _ => v = (.int .u64 (s : Nat)), fun v _ => v = (.slice (some ⟨g, 0, none⟩) N N), fun v _ => v = (.int .i64 (N : Nat)), fun v w => NL w v LL, fun v _ => v = (.int .i64 (LL.length : Nat)), fun v _ => v = (.int .i64 0)] ?_ (by kernel_rfl) (by kernel_rfl) 25 rfl (by kernel_rfl) ?_ ?_)
  · intro p hp
    simp only [List.mem_cons, List.not_mem_nil, or_false] at hp
    rcases hp with rfl | rfl | rfl | rfl | rfl | rfl | rfl | rfl | rfl
    · exact fun _ _ _ h _ => h
    · exact fun _ _ _ h _ => h
    · exact fun _ _ _ h _ => h
    · exact fun _ _ _ h _ => h
    · exact fun _ _ _ h _ => h
    · exact fun _ _ _ h _ => h
    · exact fun _ _ _ h hb => NL.up h hb
    · exact fun _ _ _ h _ => h
    · exact fun _ _ _ h _ => h
  · refine ⟨?_, ?_, ?_, ?_, ?_, ?_, ?_, ?_, ?_, trivial⟩
    · intro a wx hB hold hdep K hK
      have t1 : a.tmps[1]? = some (.pointer (some ⟨fb, 0, none⟩)) := hold.2.2 1 rfl; obtain ⟨k0, -⟩ := blk1 (below_keep hB HX0.out); clear hold hdep; go_simp; exact hK.out _ _ rfl (Below.refl _ _)
    · intro a wx hB hold hdep K hK
      have t0 : a.tmps[0]? = some (.int .i64 (u : Nat)) := hold.2.2 0 rfl; clear hold hdep; go_simp; exact hK.out _ _ rfl (Below.refl _ _)
    · intro a wx hB hold hdep K hK
      obtain ⟨v7, t7, p7⟩ := hdep 0 rfl _ 7 rfl rfl; have e7 : v7 = (.slice (some ⟨g, 0, none⟩) N N) := p7; subst e7; obtain ⟨v8, t8, p8⟩ := hdep 1 rfl _ 8 rfl rfl; have e8 : v8 = (.int .i64 (u : Nat)) := p8; subst e8; clear hold hdep; go_simp; exact hK.out _ _ rfl (Below.refl _ _)
    · intro a wx hB hold hdep K hK
      obtain ⟨v9, t9, p9⟩ := hdep 2 rfl _ 9 rfl rfl; have e9 : v9 = (.pointer (some ⟨g, u, none⟩)) := p9; subst e9; have c9 := (hB.cell (lt_of_cell HC0.out)).trans HC0.out; clear hold hdep; go_simp; exact hK.out _ _ rfl (Below.refl _ _)
    · intro a wx hB hold hdep K hK
      have t1 : a.tmps[1]? = some (.pointer (some ⟨fb, 0, none⟩)) := hold.2.2 1 rfl; obtain ⟨k0, -⟩ := blk1 (below_keep hB HX0.out); clear hold hdep; go_simp; exact hK.out _ _ rfl (Below.refl _ _)
    · intro a wx hB hold hdep K hK
      obtain ⟨v11, t11, p11⟩ := hdep 4 rfl _ 11 rfl rfl; have e11 : v11 = (.slice (some ⟨g, 0, none⟩) N N) := p11; subst e11; clear hold hdep; go_simp; exact hK.out _ _ rfl (Below.refl _ _)
    · intro a wx hB hold hdep K hK
      obtain ⟨v10, t10, p10⟩ := hdep 3 rfl _ 10 rfl rfl; have e10 : v10 = (.int .u64 (s : Nat)) := p10; subst e10; obtain ⟨v12, t12, p12⟩ := hdep 5 rfl _ 12 rfl rfl; have e12 : v12 = (.int .i64 (N : Nat)) := p12; subst e12; have HW : Hid (Calls Try.prog 78 #[.int .u64 (s : Nat), .int .i64 (N : Nat)] wx _) := HMb.out wx; clear hold hdep; go_simp; refine HW.out.mono ?_; rintro _ w9 ⟨x9, rfl, hn9, hb9⟩; have H9 : Hid (NL w9 x9 LL) := hn9; clear hn9; go_simp; exact hK.out _ _ H9.out hb9
    · intro a wx hB hold hdep K hK
      obtain ⟨v13, t13, p13⟩ := hdep 6 rfl _ 13 rfl rfl; (have P13 : Hid ((fun v w => NL w v LL) v13 wx) := p13); clear p13; obtain ⟨ad9, cp9, rfl, -⟩ := P13.out; clear hold hdep; go_simp; exact hK.out _ _ rfl (Below.refl _ _)
    · intro a wx hB hold hdep K hK
      clear hold hdep; go_simp; exact hK.out _ _ rfl (Below.refl _ _)
  · intro a wx hB hold hgot
    obtain ⟨vN, tvN, pvN⟩ := hgot 6 _ 13 rfl rfl; obtain ⟨vA, tvA, pvA⟩ := hgot 7 _ 14 rfl rfl; have evA : vA = (.int .i64 (LL.length : Nat)) := pvA; subst evA; obtain ⟨vB, tvB, pvB⟩ := hgot 8 _ 15 rfl rfl; have evB : vB = (.int .i64 0) := pvB; subst evB; have HBx : Hid (Below w.heap.size w wx) := hB; obtain ⟨ad, cp, rfl, n1, n2, n3⟩ := pvN; have HN3 : Hid (LL ≠ [] → ∃ b, ad = some ⟨b, 0, none⟩ ∧ ∀ (j n : Nat), LL[j]? = some n → wx.cell? ⟨b, j, none⟩ = some (.int .i64 (n : Nat))) := n3; (have hcI : (LL.length : Int) ≤ (cp : Int) := by omega); obtain ⟨tm, df⟩ := a; (obtain ⟨ys, hys, htm, rfl⟩ := frame_mid2 7 9 (by kernel_rfl) (Nat.le_of_ble_eq_true rfl) hold); obtain ⟨x7, x8, x9, x10, x11, x12, x13, x14, x15, rfl⟩ := rowS9 ys hys; simp only [List.take_succ_cons, List.take_zero, List.drop_succ_cons, List.drop_zero, List.cons_append, List.nil_append] at htm; subst htm; obtain rfl : x13 = _ := someInjM tvN; obtain rfl : x14 = _ := someInjM tvA; obtain rfl : x15 = _ := someInjM tvB; clear hys hold hgot tvN tvA pvA tvB pvB hB n1 n2 n3; go_wp2_with fail; show Code.wp _ _ _ ⟨#[_, _, _, _, _, _, _, _, _, _, _, _, _, _, _, _, _, _, _, _, _, _, _, _, _], _⟩ _
    go_loopg [15] LL.length (fun gg c wr => ∃ i, i ≤ LL.length ∧ gg = LL.length - i ∧ c = .int .i64 (i : Nat) ∧ Hid (∀ (j v : Nat), j < i → LL[j]? = some v → q u v = true) ∧ Hid (Below wx.heap.size wx wr))
    case atStart => exact ⟨0, by omega, by omega, rfl, fun j v h => absurd h (Nat.not_lt_zero _), Below.refl _ _⟩
    case round =>
      obtain ⟨i, hi, hg, rfl, HQ, HB⟩ := hrel; have HGk : Hid (gk = LL.length - i) := hg; clear hg; by_cases hlt : i < LL.length
      · obtain ⟨v, hr⟩ : ∃ r, LL[i]? = some r := ⟨_, List.getElem?_eq_getElem hlt⟩
        (obtain ⟨b, rfl, hc⟩ := HN3.out (fun e => by rw [e] at hlt; simp at hlt)); have g0 := (HB.out.cell (lt_of_cell (hc i v hr))).trans (hc i v hr); have HBw : Hid (Below w.heap.size w wr) := below_join HBx.out HB.out; have g1 := (blk1 (below_keep HBw.out HX1.out)).1; (have hltI : (i : Int) < (LL.length : Int) := by omega); (have hltc : (i : Int) < (cp : Int) := by omega); have hvN := HLt.out v (List.mem_of_getElem? hr); have HC : Hid (Calls Try.prog fn (#[.int .i64 (u : Nat), .int .i64 (v : Nat)] ++ cap) wr _) := HA.out u v wr HU0.out hvN (HUp.out HO.out HBw.out); have HI : Hid (i < LL.length) := hlt; have HRi : Hid (LL[i]? = some v) := hr; obtain ⟨bb, hbb⟩ : ∃ bb, bb = q u v := ⟨_, rfl⟩; rw [← hbb] at HC; have HBB : Hid (bb = q u v) := hbb; clear hlt hi hbb hc hr hvN; go_wp2_with fail; refine HC.out.mono ?_; rintro _ w1 ⟨rfl, hb1⟩; have HB1 : Hid (Below wx.heap.size wx w1) := below_join HB.out hb1; clear hb1 g0 g1
        cases bb
        · go_wp2_with fail
          go_ret; refine ⟨?_, below_join HBx.out HB1.out⟩
          have : res = false := by
            cases hr : res with
            | false => rfl
            | true =>
              have := HR.out.1 hr i v HRi.out; rw [← HBB.out] at this
              cases this
          rw [this]; rfl
        · go_wp2_with fail
          go_roundg (LL.length - (i + 1))
          case measure => have := HGk.out; have := HI.out; omega
          case rel =>
            (refine ⟨i + 1, HI.out, rfl, by go_num, fun j x hj hx => ?_, HB1⟩); by_cases e : j = i
            · rw [e, HRi.out] at hx
              cases hx
              exact HBB.out.symm
            · exact HQ.out j x (by omega) hx
      · have hii : i = LL.length := by omega
        subst hii; (have hge : ¬ (LL.length : Int) < (LL.length : Int) := by omega); clear hlt hi; go_wp2_with fail; go_ret; refine ⟨?_, below_join HBx.out HB.out⟩
        rw [HR.out.2 fun j v hj => HQ.out j v (by
          rcases Nat.lt_or_ge j LL.length with h | h
          · exact h
          · rw [List.getElem?_eq_none h] at hj; cases hj) hj]
        rfl
theorem seen1_in (cap : Array Value) (w : World) : (callFunc 77 cap).run Try.prog w = .ok (.enter 77 cap) w := by
  simp [go_sem]
theorem askSeen {N fn : Nat} (hN : N ≤ 40) {cap : Array Value} {q : Nat → Nat → Bool} {Ok : World → Prop} (A : AskP N fn cap q Ok) (R : Nat → Nat → Bool) (g fb cb : Nat) : AskN N 77 #[.pointer (some ⟨fb, 0, none⟩), .pointer (some ⟨cb, 0, none⟩)] (fun u => (seeR N R u).all (q u)) (OkS N fn cap R g fb cb Ok) where
  up := fun ⟨h1, h2, h3, h4⟩ hb => ⟨below_keep hb h1, below_keep hb h2, h3.up hb, A.up h4 hb⟩
  ent := fun _ w => seen1_in _ w
  call := fun u w hu hok => seen1_any hN A R g fb cb u hu w hok
set_option maxHeartbeats 2000000 in
theorem ofSeen_any {N fn : Nat} (hN : N ≤ 40) {cap : Array Value} {q : Nat → Nat → Bool} {Ok : World → Prop} (A : AskP N fn cap q Ok) (R : Nat → Nat → Bool) (g : Nat) (w : World) (hF : FR w g N R) (hok : Ok w) :
    Calls Try.prog 69 #[.slice (some ⟨g, 0, none⟩) N N, .func (.func fn) #[] cap] w fun e w' => e = .returned (.bool ((List.range N).all fun u => (seeR N R u).all (q u))) ∧ Below w.heap.size w w' := by
  obtain ⟨W, hW⟩ : ∃ W, W = (w.alloc (.cells #[.slice (some ⟨g, 0, none⟩) N N] 68 (0, 0))).alloc (.cells #[.func (.func fn) #[] cap] 103 (0, 0)) := ⟨_, rfl⟩; (have HBW : Hid (Below w.heap.size w W) := by rw [hW]; exact below_more (below_more (Below.refl _ w) _) _); (have h0 : W.heap[w.heap.size]? = some (.cells #[.slice (some ⟨g, 0, none⟩) N N] 68 (0, 0)) := by rw [hW]; exact alloc_keep (blk_new _ _) _); (have h1 : W.heap[w.heap.size + 1]? = some (.cells #[.func (.func fn) #[] cap] 103 (0, 0)) := by rw [hW]; exact blk_secE _ _ _); have HC : Hid (Calls Try.prog 68 #[.slice (some ⟨g, 0, none⟩) N N, .func (.func 77) #[] #[.pointer (some ⟨w.heap.size, 0, none⟩), .pointer (some ⟨w.heap.size + 1, 0, none⟩)]] W _) := ofAll_any hN (askSeen hN A R g w.heap.size (w.heap.size + 1)) g W ⟨h0, h1, hF.up HBW.out, A.up hok HBW.out⟩; (have hmf : ∀ (fn : Fn) (first cap : Array Value) (w : World), (Instr.makeFunc fn first cap).run Try.prog w = .ok (.func fn first cap) w := fun _ _ _ _ => rfl); (generalize ((List.range N).all fun u => (seeR N R u).all (q u)) = res at *); clear h0 h1 hF hok A
  go_enter Try.func69, Try.ntmps69
  go_wp2_with fail; rw [← hW]; refine HC.out.mono ?_; rintro _ w1 ⟨rfl, hb1⟩; have HB1 : Hid (Below w.heap.size w w1) := below_join HBW.out hb1; clear hb1 hW; go_wp2_with fail; go_ret; exact ⟨rfl, HB1.out⟩
end Go.Proofs.Ytfhbpfgbnfcdaag
