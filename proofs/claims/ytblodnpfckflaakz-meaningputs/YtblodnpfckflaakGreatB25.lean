/- Texts of one proof, one behind the other: SM3, SM4, SM5. -/
import Derived.Test.YtblodnpfckflaakGreatB23
/- Walks: thing. -/
namespace Go.Proofs.YtblodnpfckflaakGreat
open Go.RowKit Go.Sort Go.Maps Go.WideMaps

set_option maxRecDepth 10000 in
set_option maxHeartbeats 8000000 in
theorem thing_step (m : Nat) (ih : Places m) : Things (m + 1) := by
  intro V va w0 w bf bp bv c x v hm hV hva hmn hrep hA; obtain ⟨n, ar⟩ := x; obtain ⟨sl, cap, rfl, hn, hal, hcap, -⟩ := WRp.def.1 hrep; have hwl := hrep.args.2.2.2; obtain ⟨W, hWe⟩ : ∃ W, (w.alloc (.cells #[.int .i64 (V.n : Nat), .map (some bf), .map (some bp), .map (some bv)] 94 (0, 0))).alloc (.cells #[.string n, .slice sl ar.length cap] 31 (0, 0)) = W := ⟨_, rfl⟩; (have hBW : Below w.heap.size w W := by rw [← hWe]; exact below_more (below_more (Below.refl _ _) _) _); (have hq1 : W.heap[w.heap.size]? = some (.cells #[.int .i64 (V.n : Nat), .map (some bf), .map (some bp), .map (some bv)] 94 (0, 0)) := by rw [← hWe]; exact alloc_keep (blk_new _ _) _)
  have hq2 : W.heap[w.heap.size + 1]? = some (.cells #[.string n, .slice sl ar.length cap] 31 (0, 0)) := by
    have := blk_new (w.alloc (.cells #[.int .i64 (V.n : Nat), .map (some bf), .map (some bp), .map (some bv)] 94 (0, 0))) (.cells #[.string n, .slice sl ar.length cap] 31 (0, 0)); rw [← hWe]; simpa using this
  have hAW := hA.up hBW; obtain ⟨mu, k, hg, hmu⟩ := hAW.fn; have hlk := hg.lookOk (okT_of hn) Tryz.underlying90 zeroFn 0; rw [str_eta] at hlk; have hlk0 : (Instr.lookup 90 (.map (some bf)) (.string n) true).run Tryz.prog W = .ok (.tuple #[(mu n.data.toList).getD (.agg #[.string ⟨#[]⟩, .int .i64 0, .slice none 0 0]), .bool (mu n.data.toList).isSome]) W := hlk; have hmn0 := hmu n.data.toList (okT_of hn); have HA : Hid (VwA w0 V va bf bp bv c W) := hAW; have HQ1 : Hid (W.heap[w.heap.size]? = some (.cells #[.int .i64 (V.n : Nat), .map (some bf), .map (some bp), .map (some bv)] 94 (0, 0))) := hq1; have HQ2 : Hid (W.heap[w.heap.size + 1]? = some (.cells #[.string n, .slice sl ar.length cap] 31 (0, 0))) := hq2; have HBW : Hid (Below w.heap.size w W) := hBW; obtain ⟨a0, a1, a2, a3⟩ := blk4L hq1; obtain ⟨b0, b1, -⟩ := blk2 hq2; rw [WMn] at hmn; have hz1 := lt_of_block hq1; have hz2 := lt_of_block hq2; clear hlk hg hmu
  rcases hf : V.fn n.data.toList with _ | f
  · rw [hf] at hmn0
    simp only at hmn0; rw [hmn0] at hlk0; simp only [Option.getD_none, Option.isSome_none] at hlk0; (have hR : wv V (vz va) (.mk n ar) = vz va n.data.toList := by rw [wv, hf])
    have hlv : ∀ o, (Instr.lookup 92 (.map (some bv)) (.string n) false).run Tryz.prog (W.alloc o) = .ok (.int .i64 (vz va n.data.toList : Nat)) (W.alloc o) := fun o => by
      have h9 := (hAW.vl.up (below_more (Below.refl _ _) o)).look (okT_of hn) Tryz.underlying92 zeroInt 0; rw [str_eta] at h9
      have h8 : ((fun s => (va s).map fun x => Value.int .i64 (x : Nat)) n.data.toList).getD (.int .i64 0) = .int .i64 (vz va n.data.toList : Nat) := by
        unfold vz; show ((va n.data.toList).map _).getD _ = _
        cases va n.data.toList <;> rfl
      rw [h8] at h9; exact h9
    rw [hR]; clear hmn0 hf hm hV hva hmn hrep hA hal hcap hwl hBW hq1 hq2 hAW; generalize vz va n.data.toList = R at *
    go_enter Tryz.func96, Tryz.ntmps96
    go_wp2_with fail; go_ret; exact ⟨rfl, below_more HBW.out _⟩
  · rw [hf] at hmn0
    obtain ⟨vf, e1, sf, cf, rfl, hf1, hf2⟩ := hmn0; rw [e1] at hlk0; simp only [Option.getD_some, Option.isSome_some] at hlk0; obtain ⟨g1, g2⟩ := hmn f hf; obtain ⟨o1, o2, o3, o4⟩ := hV.fn _ f hf; have hpl := wpl_lt hV hva ar g2; (have hl3 : ar.length ≤ 3 := by omega)
    have hfl : f.tab.length = V.n ^ ar.length := by
      (have e : f.ar.toNat = ar.length := by omega); rw [e] at o3
      exact_mod_cast o3
    (have hi : wpl V (vz va) ar < f.tab.length := by omega); obtain ⟨x, hx⟩ : ∃ x, f.tab[wpl V (vz va) ar]? = some x := ⟨_, List.getElem?_eq_getElem hi⟩
    have hR : ((wv V (vz va) (.mk n ar) : Nat) : Int) = x := by
      rw [wv, hf]; simp only; rw [List.getD_eq_getElem?_getD, hx, Option.getD_some]; have := (o4 x (List.mem_of_getElem? hx)).1; omega
    (have hP : ∀ W', Below w.heap.size w W' → Calls Tryz.prog 95 #[.agg #[.int .i64 (V.n : Nat), .map (some bf), .map (some bp), .map (some bv)], .slice sl ar.length cap] W' fun e w' => e = .returned (.int .i64 (wpl V (vz va) ar : Nat)) ∧ Below W'.heap.size W' w' := fun W' h => ih V va w0 W' bf bp bv c ar _ (by rw [Wd.size] at hm; omega) hl3 hV hva g2 hwl (hA.up h)); obtain ⟨adf, cpf, ef, hf3, hf4, hf5⟩ := hf2; simp only [Value.slice.injEq, true_and] at ef; obtain ⟨rfl, rfl⟩ := ef; (obtain ⟨gt, off, rfl, hfc⟩ := hf5 (fun e => by rw [e] at hi; simp at hi)); have hxc := hfc _ x hx; rw [hR]; generalize wpl V (vz va) ar = p at *; (have hpI : (p : Int) < (f.tab.length : Int) := by omega); (have HP : Hid (∀ W', Below w.heap.size w W' → Calls Tryz.prog 95 #[.agg #[.int .i64 (V.n : Nat), .map (some bf), .map (some bp), .map (some bv)], .slice sl ar.length cap] W' fun e w' => e = .returned (.int .i64 (p : Nat)) ∧ Below W'.heap.size W' w') := hP); have HX0 : Hid (W.cell? ⟨gt, off + p, none⟩ = some (.int .i64 x)) := (hAW.below.cell (lt_of_cell hxc)).trans hxc; clear e1 hf hm hV hva hmn hrep hA hal hcap hwl hBW hq1 hq2 hAW g1 g2 o1 o2 o3 o4 hpl hl3 hfl hi hx hR hP hf1 hf3 hf4 hf5 hfc hxc; obtain ⟨W3, hW3⟩ : ∃ X, W.alloc (.cells #[.string f.nm, .int .i64 f.ar, .slice (some ⟨gt, off, none⟩) f.tab.length cf] 73 (0, 0)) = X := ⟨_, rfl⟩; (have hB3 : Below W.heap.size W W3 := by rw [← hW3]; exact below_more (Below.refl _ _) _); have HB3 : Hid (Below w.heap.size w W3) := below_join HBW.out hB3; have HX3 : Hid (W3.cell? ⟨gt, off + p, none⟩ = some (.int .i64 x)) := (hB3.cell (lt_of_cell HX0.out)).trans HX0.out; have q1 := below_keep hB3 HQ1.out; have q2 := below_keep hB3 HQ2.out; (have q3 : W3.heap[W.heap.size]? = some (.cells #[.string f.nm, .int .i64 f.ar, .slice (some ⟨gt, off, none⟩) f.tab.length cf] 73 (0, 0)) := by rw [← hW3]; exact blk_new _ _); have HQ3 : Hid (W3.heap[w.heap.size]? = some (.cells #[.int .i64 (V.n : Nat), .map (some bf), .map (some bp), .map (some bv)] 94 (0, 0)) ∧ W3.heap[w.heap.size + 1]? = some (.cells #[.string n, .slice sl ar.length cap] 31 (0, 0)) ∧ W3.heap[W.heap.size]? = some (.cells #[.string f.nm, .int .i64 f.ar, .slice (some ⟨gt, off, none⟩) f.tab.length cf] 73 (0, 0))) := ⟨q1, q2, q3⟩; have hx3 := HX3.out; have hs1 := lt_of_block q1; have hs2 := lt_of_block q2; have hs3 := lt_of_block q3; clear hB3
    go_enter Tryz.func96, Tryz.ntmps96
    go_wp2_with fail; clear a0 a1 a2 a3 b0 b1; obtain ⟨a0, a1, a2, a3⟩ := blk4L q1; obtain ⟨b0, b1, -⟩ := blk2 q2; obtain ⟨c0, c1, c2, -⟩ := blk3 q3; clear q1 q2 q3 hlk0 hWe hW3
    go_region_held3 (fun w' => w'.cell? ⟨W.heap.size, 2, none⟩ = some (.slice (some ⟨gt, off, none⟩) f.tab.length cf) ∧ w'.cell? ⟨w.heap.size, 0, none⟩ = some (.int .i64 (V.n : Nat)) ∧ w'.cell? ⟨w.heap.size, 1, none⟩ = some (.map (some bf)) ∧ w'.cell? ⟨w.heap.size, 2, none⟩ = some (.map (some bp)) ∧ w'.cell? ⟨w.heap.size, 3, none⟩ = some (.map (some bv)) ∧ w'.cell? ⟨w.heap.size + 1, 1, none⟩ = some (.slice sl ar.length cap) ∧ w'.cell? ⟨gt, off + p, none⟩ = some (.int .i64 x)) (go_keep)
      (first
       | (go_at_call 95
          refine (HP.out _ HB3.out.drew).mono ?_; rintro e w4 ⟨rfl, hb4⟩; have hb5 : Below W3.heap.size W3 w4 := (Below.refl _ W3).drew.trans hb4; obtain ⟨d0, d1, d2, d3⟩ := blk4L (below_keep hb5 HQ3.out.1); obtain ⟨f0, f1, -⟩ := blk2 (below_keep hb5 HQ3.out.2.1); obtain ⟨h0, h1, h2, -⟩ := blk3 (below_keep hb5 HQ3.out.2.2); have hx5 := (hb5.cell (lt_of_cell HX3.out)).trans HX3.out; have HB5 : Hid (Below w.heap.size w w4) := below_join HB3.out hb5
          clear hb4 hb5)
       | fail)
    all_goals
      go_wp2_with fail; go_ret; exact ⟨rfl, HB5.out⟩
theorem things_all : ∀ m, Things m
  | 0 => fun _ _ _ _ _ _ _ _ _ _ h => absurd h (Nat.not_lt_zero _)
  | m + 1 => thing_step m (place_step m (things_all m))
theorem thingV_any {V : VwD} {va : Vals} {w0 w : World} {bf bp bv c : Nat} {x : Wd} {v : Value} (hV : VOk V) (hva : ∀ s, vz va s < V.n) (hm : WMn V x) (hr : WRp w0 x v) (hA : VwA w0 V va bf bp bv c w) :
    Calls Tryz.prog 96 #[.agg #[.int .i64 (V.n : Nat), .map (some bf), .map (some bp), .map (some bv)], v] w fun e w' => e = .returned (.int .i64 (wv V (vz va) x : Nat)) ∧ Below w.heap.size w w' :=
  things_all (x.size + 1) V va w0 w bf bp bv c x v (Nat.lt_succ_self _) hV hva hm hr hA
theorem placeV_any {V : VwD} {va : Vals} {w0 w : World} {bf bp bv c : Nat} {l : List Wd} {v : Value} (hV : VOk V) (hva : ∀ s, vz va s < V.n) (hm : WMns V l) (h3 : l.length ≤ 3) (hr : WL w0 v l) (hA : VwA w0 V va bf bp bv c w) :
    Calls Tryz.prog 95 #[.agg #[.int .i64 (V.n : Nat), .map (some bf), .map (some bp), .map (some bv)], v] w fun e w' => e = .returned (.int .i64 (wpl V (vz va) l : Nat)) ∧ Below w.heap.size w w' :=
  place_step (Wd.sizes l + 1) (things_all _) V va w0 w bf bp bv c l v (Nat.lt_succ_self _) h3 hV hva hm hr hA
end Go.Proofs.YtblodnpfckflaakGreat
/- Walks: isForSome, whatever is asked. -/
namespace Go.Proofs.YtblodnpfckflaakGreat
open Go.RowKit Go.Sort Go.Maps Go.WideMaps

def vset (va : List UInt8 → Nat) (s : List UInt8) (t : Nat) : List UInt8 → Nat := fun j => if j = s then t else va j
theorem vset_vset (va : List UInt8 → Nat) (s : List UInt8) (t u : Nat) : vset (vset va s t) s u = vset va s u := by
  funext j
  unfold vset; (by_cases h : j = s <;> simp [h])
theorem vset_self (va : List UInt8 → Nat) (s : List UInt8) : va = vset va s (va s) := by
  funext j
  unfold vset; (by_cases h : j = s <;> simp [h])
theorem vset_same (va : List UInt8 → Nat) (s : List UInt8) (t : Nat) : vset (vset va s t) s (va s) = va := by
  funext j
  unfold vset; (by_cases h : j = s <;> simp [h])
def vput (va : Vals) (s : List UInt8) (t : Nat) : Vals := fun j => if j = s then some t else va j
theorem vz_put (va : Vals) (s : List UInt8) (t : Nat) : vz (vput va s t) = vset (vz va) s t := by
  funext j
  unfold vz vput vset; (by_cases h : j = s <;> simp [h])
theorem gput_vput (va : Vals) (s : List UInt8) (t : Nat) : gPut (fun s => (va s).map fun x => Value.int .i64 (x : Nat)) s (.int .i64 (t : Nat)) = fun j => (vput va s t j).map fun x => Value.int .i64 (x : Nat) := by
  funext j
  unfold gPut vput; (by_cases h : j = s <;> simp [h])
theorem vset_lt {va : List UInt8 → Nat} {N : Nat} (h : ∀ s, va s < N) {t : Nat} (ht : t < N) (n : List UInt8) : ∀ s, vset va n t s < N := fun s => by
  unfold vset
  split
  · exact ht
  · exact h s
/-- What isTrue leaves: the same values (those that were not there may be 0 now). -/
def TrPost (w0 : World) (V : VwD) (va : Vals) (bf bp bv c : Nat) (b : Bool) (w : World) (e : Ending) (w' : World) : Prop := e = .returned (.bool b) ∧ ∃ va', VwA w0 V va' bf bp bv c w' ∧ vz va' = vz va ∧ Kept (· ≠ bv) w w'
/-- So far among the things. -/
structure FSAt (w0 : World) (V : VwD) (va : Vals) (bf bp bv c : Nat) (n : List UInt8) (F : (List UInt8 → Nat) → Bool) (K : Nat) (w : World) (i : Nat) (fd : Bool) (wr : World) : Prop where
  at' : ∃ vi ci u, VwA w0 V vi bf bp bv ci wr ∧ vz vi = vset (vz va) n u ∧ u < V.n ∧ ci ≤ c + i * (K + 1)
  kept : Kept (· ≠ bv) w wr
  fd : fd = (List.range i).any fun t => F (vset (vz va) n t)
set_option maxRecDepth 10000 in
set_option maxHeartbeats 8000000 in
theorem forSome_any (V : VwD) (va : Vals) (w0 w : World) (bf bp bv c : Nat) (n : ByteArray) (hn : n.size ≤ maxLen) (fn : Nat) (cap : Array Value) (hcf : ∀ w : World, (callFunc fn cap).run Tryz.prog w = .ok (.enter fn cap) w) (F : (List UInt8 → Nat) → Bool) (K : Nat) (hV : VOk V) (hva : ∀ s, vz va s < V.n) (hA : VwA w0 V va bf bp bv c w) (hM : c + V.n * (K + 1) + 1 ≤ 1000000000000)
    (hcall : ∀ vi ci W, VwA w0 V vi bf bp bv ci W → (∀ s, vz vi s < V.n) → Kept (· ≠ bv) w W → ci + K ≤ 1000000000000 → Calls Tryz.prog fn cap W (TrPost w0 V vi bf bp bv (ci + K) (F (vz vi)) W)) :
    Calls Tryz.prog 97 #[.agg #[.int .i64 (V.n : Nat), .map (some bf), .map (some bp), .map (some bv)], .string n, .func (.func fn) #[] cap] w (TrPost w0 V va bf bp bv (c + V.n * (K + 1) + 1) ((List.range V.n).any fun t => F (vset (vz va) n.data.toList t)) w) := by
  obtain ⟨W, hWe⟩ : ∃ W, w.alloc (.cells #[.int .i64 (V.n : Nat), .map (some bf), .map (some bp), .map (some bv)] 94 (0, 0)) = W := ⟨_, rfl⟩; (have hBW : Below w.heap.size w W := by rw [← hWe]; exact below_more (Below.refl _ _) _); (have hq1 : W.heap[w.heap.size]? = some (.cells #[.int .i64 (V.n : Nat), .map (some bf), .map (some bp), .map (some bv)] 94 (0, 0)) := by rw [← hWe]; exact blk_new _ _); have hAW := hA.up hBW; have hok := okT_of hn
  have hlk0 : (Instr.lookup 92 (.map (some bv)) (.string n) false).run Tryz.prog W = .ok (.int .i64 (vz va n.data.toList : Nat)) W := by
    have h9 := hAW.vl.look hok Tryz.underlying92 zeroInt 0; rw [str_eta] at h9
    have h8 : ((fun s => (va s).map fun x => Value.int .i64 (x : Nat)) n.data.toList).getD (.int .i64 0) = .int .i64 (vz va n.data.toList : Nat) := by
      unfold vz; show ((va n.data.toList).map _).getD _ = _
      cases va n.data.toList <;> rfl
    rw [h8] at h9; exact h9
  (have HC : Hid (∀ vi ci W', VwA w0 V vi bf bp bv ci W' → (∀ s, vz vi s < V.n) → Kept (· ≠ bv) W W' → ci + K ≤ 1000000000000 → Calls Tryz.prog fn cap W' (TrPost w0 V vi bf bp bv (ci + K) (F (vz vi)) W')) := fun vi ci W' h1 h2 h3 h4 => hcall vi ci W' h1 h2 ((kept_of_below hBW fun _ h _ => h).trans h3) h4); have HO : Hid (VOk V ∧ (∀ s, vz va s < V.n) ∧ c + V.n * (K + 1) + 1 ≤ 1000000000000 ∧ OkT n.data.toList) := ⟨hV, hva, hM, hok⟩; have HQ : Hid (W.heap[w.heap.size]? = some (.cells #[.int .i64 (V.n : Nat), .map (some bf), .map (some bp), .map (some bv)] 94 (0, 0))) := hq1; (have HKW : Hid (Kept (· ≠ bv) w W) := kept_of_below hBW fun _ h _ => h); (have HF0 : Hid (FSAt w0 V va bf bp bv c n.data.toList F K W 0 false W) := ⟨⟨va, c, vz va n.data.toList, hAW, vset_self _ _, hva _, by omega⟩, Kept.refl _ _, rfl⟩); (have hne : w.heap.size ≠ bv := fun e => by have := hA.vl.lt; omega); have HNe : Hid (w.heap.size ≠ bv) := hne; (have hNI : ((V.n : Nat) : Int) ≤ 8 := by have := hV.n8; omega); obtain ⟨a0, a1, a2, a3⟩ := blk4L hq1; clear hV hva hA hM hcall hBW hq1 hAW hok hne; generalize hR : vz va n.data.toList = R at *
  go_enter Tryz.func97, Tryz.ntmps97
  go_wp2_with fail; clear a0 a1 a2 a3 hlk0 hWe
  go_loopg [8, 9] V.n (fun g f t wr => ∃ i fd, i ≤ V.n ∧ g = V.n - i ∧ t = .int .i64 (i : Nat) ∧ f = .bool fd ∧ Hid (FSAt w0 V va bf bp bv c n.data.toList F K W i fd wr) ∧ (fd = true → i < V.n + 1))
  case atStart => exact ⟨0, false, by omega, by omega, rfl, rfl, HF0, fun h => by cases h⟩
  case round =>
    obtain ⟨i, fd, hile, hg, rfl, rfl, HF, -⟩ := hrel; have HG : Hid (gk = V.n - i) := hg; obtain ⟨vi, ci, u, hA, hvz, hu, hci⟩ := HF.out.at'; have HA : Hid (VwA w0 V vi bf bp bv ci wr) := hA; have HZ : Hid (vz vi = vset (vz va) n.data.toList u ∧ u < V.n ∧ ci ≤ c + i * (K + 1)) := ⟨hvz, hu, hci⟩; have hq := (HF.out.kept.block w.heap.size (lt_of_block HQ.out) HNe.out).trans HQ.out; have HQr : Hid (wr.heap[w.heap.size]? = some (.cells #[.int .i64 (V.n : Nat), .map (some bf), .map (some bp), .map (some bv)] 94 (0, 0))) := hq; have hik : i * (K + 1) ≤ V.n * (K + 1) := Nat.mul_le_mul_right _ hile
    have HCi : Hid (ci + 1 ≤ 1000000000000 ∧ (i < V.n → ci + 1 + K ≤ c + (i + 1) * (K + 1) ∧ ci + 1 + K ≤ 1000000000000) ∧ ci + 1 ≤ c + V.n * (K + 1) + 1) := by
      have h1 := HO.out.2.2.1; have h2 : (i + 1) * (K + 1) = i * (K + 1) + (K + 1) := Nat.succ_mul _ _; (refine ⟨by omega, fun h => ?_, by omega⟩); have h3 : (i + 1) * (K + 1) ≤ V.n * (K + 1) := Nat.mul_le_mul_right _ h; omega
    obtain ⟨c0, c1, c2, c3⟩ := blk4L hq; have HI : Hid (i ≤ V.n) := hile; clear hg hA hvz hu hci hq hik hile
    have HX : Hid (∀ w5, GMap w5 bv (gPut (fun s => (vi s).map fun x => .int .i64 (x : Nat)) n.data.toList (.int .i64 (R : Nat))) (ci + 1) → Kept (· ≠ bv) wr w5 → fd = ((List.range V.n).any fun t => F (vset (vz va) n.data.toList t)) → TrPost w0 V va bf bp bv (c + V.n * (K + 1) + 1) ((List.range V.n).any fun t => F (vset (vz va) n.data.toList t)) w (.returned (.bool fd)) w5) := fun w5 h1 h2 h3 => by
      (refine ⟨by rw [h3], vput vi n.data.toList R, ?_, ?_, HKW.out.trans (HF.out.kept.trans h2)⟩)
      · have h4 := HA.out.turn h2 (by rw [← gput_vput]; exact h1)
        exact { h4 with vl := h4.vl.more HCi.out.2.2 }
      · rw [vz_put, HZ.out.1, ← hR, vset_same]
    (have HFd : Hid (fd = (List.range i).any fun t => F (vset (vz va) n.data.toList t)) := HF.out.fd)
    rcases fd with _ | _
    · by_cases hlt : i < V.n
      · have hltI : (i : Int) < (V.n : Int) := by omega
        have HLt : Hid (i < V.n) := hlt; clear hlt HX
        go_wp2_with (first
          | (at_mapUpdate
             (refine wpList_gput rfl _ _ _ 92 3 rfl Tryz.underlying92 bv ci n.data.toList _ HO.out.2.2.2 (by have := HCi.out.1; unfold maxLen; omega) HA.out.vl rfl (by show _ = Value.string ⟨n.data.toList.toArray⟩; rw [str_eta]; rfl) (.int .i64 (i : Nat)) rfl ?_); intro w5 hg5 hk5; rw [gput_vput] at hg5; have HA5 : Hid (VwA w0 V (vput vi n.data.toList i) bf bp bv (ci + 1) w5) := HA.out.turn hk5 hg5; have HK5 : Hid (Kept (· ≠ bv) W w5) := HF.out.kept.trans hk5
             clear hg5 hk5)
          | fail)
        (refine (HC.out _ _ _ HA5.out (by rw [vz_put, HZ.out.1, vset_vset]; exact vset_lt HO.out.2.1 HLt.out _) HK5.out (HCi.out.2.1 HLt.out).2).mono ?_); rintro e w6 ⟨rfl, v6, hA6, hz6, hk6⟩
        have HF6 : Hid (FSAt w0 V va bf bp bv c n.data.toList F K W (i + 1) (F (vz (vput vi n.data.toList i))) w6) := by
          (have ez : vz (vput vi n.data.toList i) = vset (vz va) n.data.toList i := by rw [vz_put, HZ.out.1, vset_vset]); refine ⟨⟨v6, ci + 1 + K, i, hA6, hz6.trans ez, HLt.out, (HCi.out.2.1 HLt.out).1⟩, HK5.out.trans hk6, ?_⟩; rw [ez, List.range_succ, List.any_append, ← HFd.out]
          simp
        have hq6 := (HK5.out.trans hk6).block w.heap.size (lt_of_block HQ.out) HNe.out; rw [HQ.out] at hq6; clear c0 c1 c2 c3 hA6 hz6 hk6; obtain ⟨c0, c1, c2, c3⟩ := blk4L hq6; generalize F (vz (vput vi n.data.toList i)) = fd6 at *; clear hq6; go_wp2_with fail
        go_roundg (V.n - (i + 1))
        case measure => have := HG.out; have := HLt.out; omega
        case rel => exact ⟨i + 1, fd6, HLt.out, rfl, by go_num, rfl, HF6, fun _ => by have := HLt.out; omega⟩
      · have hge : ¬ (i : Int) < (V.n : Int) := by omega
        have hE : false = ((List.range V.n).any fun t => F (vset (vz va) n.data.toList t)) := by
          (have e : i = V.n := by have := HI.out; omega); rw [← e]; exact HFd.out
        (have HE : Hid (false = ((List.range V.n).any fun t => F (vset (vz va) n.data.toList t))) := hE); clear hlt hE
        go_wp2_with (first
          | (at_mapUpdate
             (refine wpList_gput rfl _ _ _ 92 3 rfl Tryz.underlying92 bv ci n.data.toList _ HO.out.2.2.2 (by have := HCi.out.1; unfold maxLen; omega) HA.out.vl rfl (by show _ = Value.string ⟨n.data.toList.toArray⟩; rw [str_eta]; rfl) (.int .i64 (R : Nat)) rfl ?_); intro w5 hg5 hk5; have HP5 := HX.out w5 hg5 hk5 HE.out
             clear hg5 hk5)
          | fail)
        go_ret; exact HP5
    · have hE : true = ((List.range V.n).any fun t => F (vset (vz va) n.data.toList t)) := by
        have h1 := HFd.out.symm; rw [List.any_eq_true] at h1; obtain ⟨t, ht, h2⟩ := h1
        symm
        rw [List.any_eq_true]; exact ⟨t, List.mem_range.2 (Nat.lt_of_lt_of_le (List.mem_range.1 ht) HI.out), h2⟩
      (have HE : Hid (true = ((List.range V.n).any fun t => F (vset (vz va) n.data.toList t))) := hE); clear hE; by_cases hlt : i < V.n
      · have hltI : (i : Int) < (V.n : Int) := by omega
        clear hlt
        go_wp2_with (first
          | (at_mapUpdate
             (refine wpList_gput rfl _ _ _ 92 3 rfl Tryz.underlying92 bv ci n.data.toList _ HO.out.2.2.2 (by have := HCi.out.1; unfold maxLen; omega) HA.out.vl rfl (by show _ = Value.string ⟨n.data.toList.toArray⟩; rw [str_eta]; rfl) (.int .i64 (R : Nat)) rfl ?_); intro w5 hg5 hk5; have HP5 := HX.out w5 hg5 hk5 HE.out
             clear hg5 hk5)
          | fail)
        go_ret; exact HP5
      · have hge : ¬ (i : Int) < (V.n : Int) := by omega
        clear hlt
        go_wp2_with (first
          | (at_mapUpdate
             (refine wpList_gput rfl _ _ _ 92 3 rfl Tryz.underlying92 bv ci n.data.toList _ HO.out.2.2.2 (by have := HCi.out.1; unfold maxLen; omega) HA.out.vl rfl (by show _ = Value.string ⟨n.data.toList.toArray⟩; rw [str_eta]; rfl) (.int .i64 (R : Nat)) rfl ?_); intro w5 hg5 hk5; have HP5 := HX.out w5 hg5 hk5 HE.out
             clear hg5 hk5)
          | fail)
        go_ret; exact HP5
end Go.Proofs.YtblodnpfckflaakGreat
/- Expressions in a structure, as data; closures of isTrue. -/
namespace Go.Proofs.YtblodnpfckflaakGreat
open Go.RowKit Go.Sort Go.Maps Go.WideMaps

def kidF (fs : List ((List UInt8 → Nat) → Bool)) (i : Nat) : (List UInt8 → Nat) → Bool := fs.getD i fun _ => false
/-- What an expression is, by what its Kids are. -/
def evN (V : VwD) (k : Int) (n : List UInt8) (ws : List Wd) (fs : List ((List UInt8 → Nat) → Bool)) (va : List UInt8 → Nat) : Bool :=
  if k = 1 then (match V.pd n with | some p => p.bits.getD (wpl V va ws) false | none => false)
  else if k = 2 then (match ws with | a :: b :: _ => wv V va a == wv V va b | _ => false)
  else if k = 3 then true
  else if k = 5 then !(kidF fs 0 va)
  else if k = 6 then kidF fs 0 va && kidF fs 1 va
  else if k = 7 then kidF fs 0 va || kidF fs 1 va
  else if k = 8 then !(kidF fs 0 va) || kidF fs 1 va
  else if k = 9 then !((List.range V.n).any fun t => !(kidF fs 0 (vset va n t)))
  else if k = 10 then (List.range V.n).any fun t => kidF fs 0 (vset va n t)
  else false
mutual
def ev (V : VwD) : Ex → (List UInt8 → Nat) → Bool
  | .mk k n ws ks => evN V k n.data.toList ws (evs V ks)
def evs (V : VwD) : List Ex → List ((List UInt8 → Nat) → Bool)
  | [] => []
  | x :: xs => ev V x :: evs V xs
end
mutual
/-- How often isTrue may write a value. -/
def ecost (N : Nat) : Ex → Nat
  | .mk k _ _ ks => if quanB k = true then N * (ecosts N ks + 1) + 1 else ecosts N ks
def ecosts (N : Nat) : List Ex → Nat
  | [] => 0
  | x :: xs => ecost N x + ecosts N xs
end
mutual
/-- All names of an expression mean something, and it has the Words and Kids of its kind. -/
def EMn (V : VwD) : Ex → Prop
  | .mk k n ws ks => (k = 1 → ∃ p, V.pd n.data.toList = some p ∧ p.ar = (ws.length : Int)) ∧ (k = 2 → ws.length = 2) ∧ (k = 5 ∨ k = 9 ∨ k = 10 → ks.length = 1) ∧ (k = 6 ∨ k = 7 ∨ k = 8 → ks.length = 2) ∧ WMns V ws ∧ EMns V ks
def EMns (V : VwD) : List Ex → Prop
  | [] => True
  | x :: xs => EMn V x ∧ EMns V xs
end
theorem EMns.get {V : VwD} : ∀ {l : List Ex} {i : Nat} {x : Ex}, EMns V l → l[i]? = some x → EMn V x
  | [], i, x, _, h => by simp at h
  | y :: l, 0, x, hm, h => by
    rw [EMns] at hm
    simp at h; subst h; exact hm.1
  | y :: l, i + 1, x, hm, h => by
    rw [EMns] at hm; (exact EMns.get hm.2 (by simpa using h))
theorem zeroPd (w : World) : (zeroValue 77).run Tryz.prog w = .ok (.agg #[.string ⟨#[]⟩, .int .i64 0, .slice none 0 0]) w := by simp [go_sem]
def ETrues (m : Nat) : Prop := ∀ (V : VwD) (va : Vals) (w0 w : World) (bf bp bv c : Nat) (x : Ex) (v : Value), x.size < m → VOk V → (∀ s, vz va s < V.n) → EMn V x → ERp w0 x v → VwA w0 V va bf bp bv c w → c + ecost V.n x ≤ 1000000000000 →
  Calls Tryz.prog 54 #[.agg #[.int .i64 (V.n : Nat), .map (some bf), .map (some bp), .map (some bv)], v] w (TrPost w0 V va bf bp bv (c + ecost V.n x) (ev V x (vz va)) w)
theorem isTrue1_in (cap : Array Value) (w : World) : (callFunc 98 cap).run Tryz.prog w = .ok (.enter 98 cap) w := by
  simp [go_sem]
theorem isTrue2_in (cap : Array Value) (w : World) : (callFunc 99 cap).run Tryz.prog w = .ok (.enter 99 cap) w := by
  simp [go_sem]
set_option maxRecDepth 10000 in
set_option maxHeartbeats 4000000 in
/-- The two closures: the Kid, turned or not. -/
theorem isTrueC (qd : Bool) (m : Nat) (ih : ETrues m) (V : VwD) (va : Vals) (w0 w : World) (bf bp bv c : Nat) (k : Int) (n : ByteArray) (ws : List Wd) (x : Ex) (sw sk : Option Addr) (cw ck : Nat) (b2 b3 : Nat) (hx : x.size < m) (hV : VOk V) (hva : ∀ s, vz va s < V.n) (hmn : EMn V x) (hrep : ERp w0 (.mk k n ws [x]) (.agg #[.int .i64 k, .string n, .slice sw ws.length cw, .slice sk 1 ck])) (hA : VwA w0 V va bf bp bv c w) (hc : c + ecost V.n x ≤ 1000000000000)
    (hq2 : w.heap[b2]? = some (.cells #[.int .i64 (V.n : Nat), .map (some bf), .map (some bp), .map (some bv)] 94 (0, 0))) (hq3 : w.heap[b3]? = some (.cells #[.int .i64 k, .string n, .slice sw ws.length cw, .slice sk 1 ck] 29 (0, 0))) :
    Calls Tryz.prog (if qd then 98 else 99) #[.pointer (some ⟨b2, 0, none⟩), .pointer (some ⟨b3, 0, none⟩)] w (TrPost w0 V va bf bp bv (c + ecost V.n x) (qd != ev V x (vz va)) w) := by
  obtain ⟨sw', cw', sk', ck', e, -, -, -, -, hks⟩ := ERp.def.1 hrep; simp only [Value.agg.injEq, Array.mk.injEq, List.cons.injEq, Value.slice.injEq, and_true, true_and, List.length_singleton] at e; obtain ⟨⟨rfl, rfl⟩, rfl, rfl⟩ := e; (obtain ⟨g, off, rfl, hr⟩ := hks (by simp)); obtain ⟨k2, n2, ws2, ks2⟩ := x; obtain ⟨sw2, cw2, sk2, ck2, z0, z1, z2, z3, hrep2⟩ := hr.at 0 k2 n2 ws2 ks2 rfl; rw [Nat.zero_mul, Nat.add_zero] at z0 z1 z2 z3; have y0 := (hA.below.cell (lt_of_cell z0)).trans z0; have y1 := (hA.below.cell (lt_of_cell z1)).trans z1; have y2 := (hA.below.cell (lt_of_cell z2)).trans z2; have y3 := (hA.below.cell (lt_of_cell z3)).trans z3; (have HE : Hid (∀ W, Below w.heap.size w W → Calls Tryz.prog 54 #[.agg #[.int .i64 (V.n : Nat), .map (some bf), .map (some bp), .map (some bv)], .agg #[.int .i64 k2, .string n2, .slice sw2 ws2.length cw2, .slice sk2 ks2.length ck2]] W (TrPost w0 V va bf bp bv (c + ecost V.n (.mk k2 n2 ws2 ks2)) (ev V (.mk k2 n2 ws2 ks2) (vz va)) W)) := fun W h => ih V va w0 W bf bp bv c _ _ hx hV hva hmn hrep2 (hA.up h) hc); obtain ⟨a0, a1, a2, a3⟩ := blk4L hq2; obtain ⟨c0, c1, c2, c3⟩ := blk4L hq3; generalize ev V (.mk k2 n2 ws2 ks2) (vz va) = r at *; generalize ecost V.n (.mk k2 n2 ws2 ks2) = q at *; (have hlc : (0 : Int) < ((1 : Nat) : Int) := by omega); (have HQ2 : Hid (w.heap[b2]? = some (.cells #[.int .i64 (V.n : Nat), .map (some bf), .map (some bp), .map (some bv)] 94 (0, 0)) ∧ b2 ≠ bv) := ⟨hq2, fun e => hA.vl.noCells _ _ _ (by rw [← e]; exact hq2)⟩); (have HQ3 : Hid (w.heap[b3]? = some (.cells #[.int .i64 k, .string n, .slice sw ws.length cw, .slice (some ⟨g, off, none⟩) 1 ck] 29 (0, 0)) ∧ b3 ≠ bv) := ⟨hq3, fun e => hA.vl.noCells _ _ _ (by rw [← e]; exact hq3)⟩); (have HG : Hid (g ≠ bv ∧ g < w.heap.size) := ⟨by have h1 : g < w0.heap.size := lt_of_cell z0; have := hA.gv; omega, lt_of_cell y0⟩); have HY : Hid (w.cell? ⟨g, off, none⟩ = some (.int .i64 k2) ∧ w.cell? ⟨g, off + 1, none⟩ = some (.string n2) ∧ w.cell? ⟨g, off + 2, none⟩ = some (.slice sw2 ws2.length cw2) ∧ w.cell? ⟨g, off + 3, none⟩ = some (.slice sk2 ks2.length ck2)) := ⟨y0, y1, y2, y3⟩; clear hx hV hva hmn hrep hA hc hq2 hq3 z0 z1 z2 z3 hrep2 hr hks ih
  cases qd
  · show Calls Tryz.prog 99 _ _ _
    go_enter Tryz.func99, Tryz.ntmps99
    go_wp2_with fail
    go_region_held3 (fun w' => w'.cell? ⟨b2, 0, none⟩ = some (.int .i64 (V.n : Nat)) ∧ w'.cell? ⟨b2, 1, none⟩ = some (.map (some bf)) ∧ w'.cell? ⟨b2, 2, none⟩ = some (.map (some bp)) ∧ w'.cell? ⟨b2, 3, none⟩ = some (.map (some bv)) ∧ w'.cell? ⟨b3, 3, none⟩ = some (.slice (some ⟨g, off, none⟩) 1 ck) ∧ w'.cell? ⟨g, off, none⟩ = some (.int .i64 k2) ∧ w'.cell? ⟨g, off + 1, none⟩ = some (.string n2) ∧ w'.cell? ⟨g, off + 2, none⟩ = some (.slice sw2 ws2.length cw2) ∧ w'.cell? ⟨g, off + 3, none⟩ = some (.slice sk2 ks2.length ck2)) (go_keep)
      (first
       | (go_at_call 54
          refine (HE.out _ (Below.refl _ _).drew).mono ?_; rintro e w4 ⟨rfl, v4, hA4, hz4, hk4⟩; have hk5 : Kept (· ≠ bv) w w4 := ⟨hk4.os, hk4.tape, hk4.output, hk4.size, hk4.block⟩; have HP : Hid (∃ va', VwA w0 V va' bf bp bv (c + q) w4 ∧ vz va' = vz va ∧ Kept (· ≠ bv) w w4) := ⟨v4, hA4, hz4, hk5⟩; obtain ⟨d0, d1, d2, d3⟩ := blk4L ((hk5.block _ (lt_of_block HQ2.out.1) HQ2.out.2).trans HQ2.out.1); obtain ⟨f0, f1, f2, f3⟩ := blk4L ((hk5.block _ (lt_of_block HQ3.out.1) HQ3.out.2).trans HQ3.out.1); have hb : w4.heap[g]? = w.heap[g]? := hk5.block _ HG.out.2 HG.out.1; have g0 := (cell_of_block (a := ⟨g, off, none⟩) hb).trans HY.out.1; have g1 := (cell_of_block (a := ⟨g, off + 1, none⟩) hb).trans HY.out.2.1; have g2 := (cell_of_block (a := ⟨g, off + 2, none⟩) hb).trans HY.out.2.2.1; have g3 := (cell_of_block (a := ⟨g, off + 3, none⟩) hb).trans HY.out.2.2.2
          clear hA4 hz4 hk4 hk5 hb)
       | fail)
    all_goals
      go_wp2_with fail; go_ret; (exact ⟨ret_bool (by cases r <;> rfl), HP.out⟩)
  · show Calls Tryz.prog 98 _ _ _
    go_enter Tryz.func98, Tryz.ntmps98
    go_wp2_with fail
    go_region_held3 (fun w' => w'.cell? ⟨b2, 0, none⟩ = some (.int .i64 (V.n : Nat)) ∧ w'.cell? ⟨b2, 1, none⟩ = some (.map (some bf)) ∧ w'.cell? ⟨b2, 2, none⟩ = some (.map (some bp)) ∧ w'.cell? ⟨b2, 3, none⟩ = some (.map (some bv)) ∧ w'.cell? ⟨b3, 3, none⟩ = some (.slice (some ⟨g, off, none⟩) 1 ck) ∧ w'.cell? ⟨g, off, none⟩ = some (.int .i64 k2) ∧ w'.cell? ⟨g, off + 1, none⟩ = some (.string n2) ∧ w'.cell? ⟨g, off + 2, none⟩ = some (.slice sw2 ws2.length cw2) ∧ w'.cell? ⟨g, off + 3, none⟩ = some (.slice sk2 ks2.length ck2)) (go_keep)
      (first
       | (go_at_call 54
          refine (HE.out _ (Below.refl _ _).drew).mono ?_; rintro e w4 ⟨rfl, v4, hA4, hz4, hk4⟩; have hk5 : Kept (· ≠ bv) w w4 := ⟨hk4.os, hk4.tape, hk4.output, hk4.size, hk4.block⟩; have HP : Hid (∃ va', VwA w0 V va' bf bp bv (c + q) w4 ∧ vz va' = vz va ∧ Kept (· ≠ bv) w w4) := ⟨v4, hA4, hz4, hk5⟩; obtain ⟨d0, d1, d2, d3⟩ := blk4L ((hk5.block _ (lt_of_block HQ2.out.1) HQ2.out.2).trans HQ2.out.1); obtain ⟨f0, f1, f2, f3⟩ := blk4L ((hk5.block _ (lt_of_block HQ3.out.1) HQ3.out.2).trans HQ3.out.1); have hb : w4.heap[g]? = w.heap[g]? := hk5.block _ HG.out.2 HG.out.1; have g0 := (cell_of_block (a := ⟨g, off, none⟩) hb).trans HY.out.1; have g1 := (cell_of_block (a := ⟨g, off + 1, none⟩) hb).trans HY.out.2.1; have g2 := (cell_of_block (a := ⟨g, off + 2, none⟩) hb).trans HY.out.2.2.1; have g3 := (cell_of_block (a := ⟨g, off + 3, none⟩) hb).trans HY.out.2.2.2
          clear hA4 hz4 hk4 hk5 hb)
       | fail)
    all_goals
      go_wp2_with fail; go_ret; (exact ⟨ret_bool (by cases r <;> rfl), HP.out⟩)
end Go.Proofs.YtblodnpfckflaakGreat
