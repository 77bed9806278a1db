/- Texts of one proof, one behind the other: FX5, FX6, FX7, FX8. -/
import Derived.Test.YtheiikkeelbjnajGreatB20
/- Walks: expressions written: bare and write. -/
namespace Go.Proofs.YtheiikkeelbjnajGreat
open Go.RowKit

set_option maxRecDepth 10000 in
set_option maxHeartbeats 2000000 in
theorem bareE1 (w0 : World) (b : Nat) (bs : List Value) (n : ByteArray) (ws : List Wd) (sw sk : Option Addr) (cw ck : Nat) (w : World) (hb0 : Below w0.heap.size w0 w) (hw : WRF w0.heap.size b bs w) (hx : WL w0 (.slice sw ws.length cw) ws) (hlen : bs.length + (wdS (.mk n ws)).length ≤ 100000) :
    Calls Tryz.prog 143 #[.pointer (some ⟨b, 0, none⟩), .agg #[.int .i64 1, .string n, .slice sw ws.length cw, .slice sk 0 ck]] w (WPoF w0.heap.size b bs (wdS (.mk n ws)) w) := by
  have HB0 : Hid (Below w0.heap.size w0 w) := hb0; have HBs : Hid (w0.heap.size ≤ w.heap.size) := hb0.size; have HW : Hid (WRF w0.heap.size b bs w) := hw; (have HCa : Hid (∀ W, Below w0.heap.size w0 W → WRF w0.heap.size b bs W → Calls Tryz.prog 183 #[.pointer (some ⟨b, 0, none⟩), .string n, .slice sw ws.length cw] W (WPoF w0.heap.size b bs (wdS (.mk n ws)) W)) := fun W h1 h2 => calls_all _ w0 b bs n ws _ W (Nat.lt_succ_self _) hx h1 h2 hlen); clear hb0 hw hx hlen
  go_enter Tryz.func143, Tryz.ntmps143
  go_wp2_with (first
    | (go_at_call 183
       refine (HCa.out _ (HB0.out.trans ((Below.refl _ w).alloc HBs.out _)) (HW.out.alloc _)).mono ?_
       rintro e w1 ⟨rfl, hw1, hb1, hk1⟩)
    | fail)
  go_end0
  exact ⟨rfl, hw1, ((Below.refl _ w).alloc HBs.out _).trans hb1, ((WK.refl b w).alloc _).trans hk1⟩
set_option maxRecDepth 10000 in
set_option maxHeartbeats 2000000 in
theorem bareE2 (w0 : World) (b : Nat) (bs : List Value) (n : ByteArray) (ws : List Wd) (sw sk : Option Addr) (cw ck : Nat) (w : World) (hb0 : Below w0.heap.size w0 w) (hw : WRF w0.heap.size b bs w) (hx : WL w0 (.slice sw ws.length cw) ws) (hlen : bs.length + (wdsS [32, 61, 32] ws).length ≤ 100000) :
    Calls Tryz.prog 143 #[.pointer (some ⟨b, 0, none⟩), .agg #[.int .i64 2, .string n, .slice sw ws.length cw, .slice sk 0 ck]] w (WPoF w0.heap.size b bs (wdsS [32, 61, 32] ws) w) := by
  have HB0 : Hid (Below w0.heap.size w0 w) := hb0; have HBs : Hid (w0.heap.size ≤ w.heap.size) := hb0.size; have HW : Hid (WRF w0.heap.size b bs w) := hw; (have HCa : Hid (∀ W, Below w0.heap.size w0 W → WRF w0.heap.size b bs W → Calls Tryz.prog 184 #[.pointer (some ⟨b, 0, none⟩), .slice sw ws.length cw, .string ⟨#[32, 61, 32]⟩] W (WPoF w0.heap.size b bs (wdsS [32, 61, 32] ws) W)) := fun W h1 h2 => words_of _ (calls_all _) w0 b bs ⟨#[32, 61, 32]⟩ ws _ W (Nat.le_refl _) hx h1 h2 hlen); clear hb0 hw hx hlen
  go_enter Tryz.func143, Tryz.ntmps143
  go_wp2_with (first
    | (go_at_call 184
       refine (HCa.out _ (HB0.out.trans ((Below.refl _ w).alloc HBs.out _)) (HW.out.alloc _)).mono ?_
       rintro e w1 ⟨rfl, hw1, hb1, hk1⟩)
    | fail)
  go_end0
  exact ⟨rfl, hw1, ((Below.refl _ w).alloc HBs.out _).trans hb1, ((WK.refl b w).alloc _).trans hk1⟩
set_option maxRecDepth 10000 in
set_option maxHeartbeats 2000000 in
theorem bareE3 (w0 : World) (b : Nat) (bs : List Value) (n : ByteArray) (ws : List Wd) (sw sk : Option Addr) (cw ck : Nat) (w : World) (hb0 : Below w0.heap.size w0 w) (hw : WRF w0.heap.size b bs w) (hlen : bs.length + 1 ≤ 100000) :
    Calls Tryz.prog 143 #[.pointer (some ⟨b, 0, none⟩), .agg #[.int .i64 3, .string n, .slice sw ws.length cw, .slice sk 0 ck]] w (WPoF w0.heap.size b bs [49] w) := by
  have HB0 : Hid (Below w0.heap.size w0 w) := hb0; have HBs : Hid (w0.heap.size ≤ w.heap.size) := hb0.size; have HW : Hid (WRF w0.heap.size b bs w) := hw; (have hsz : bs.length + (⟨#[49]⟩ : ByteArray).size ≤ 140737488355328 := by have : (⟨#[49]⟩ : ByteArray).size = 1 := rfl; omega); clear hb0 hw hlen
  go_enter Tryz.func143, Tryz.ntmps143
  go_wp2_with (first
    | (go_at_call 144
       (refine (write_stringF w0.heap.size b bs ⟨#[49]⟩ _ (HW.out.alloc _) hsz (by have := HBs.out; simp; omega)).mono ?_)
       rintro e w1 ⟨rfl, hw1, hb1, hk1⟩)
    | fail)
  go_end0
  exact ⟨rfl, hw1, ((Below.refl _ w).alloc HBs.out _).trans hb1, ((WK.refl b w).alloc _).trans hk1⟩
set_option maxRecDepth 10000 in
set_option maxHeartbeats 2000000 in
theorem bareE4 (w0 : World) (b : Nat) (bs : List Value) (n : ByteArray) (ws : List Wd) (sw sk : Option Addr) (cw ck : Nat) (w : World) (hb0 : Below w0.heap.size w0 w) (hw : WRF w0.heap.size b bs w) (hlen : bs.length + 1 ≤ 100000) :
    Calls Tryz.prog 143 #[.pointer (some ⟨b, 0, none⟩), .agg #[.int .i64 4, .string n, .slice sw ws.length cw, .slice sk 0 ck]] w (WPoF w0.heap.size b bs [48] w) := by
  have HB0 : Hid (Below w0.heap.size w0 w) := hb0; have HBs : Hid (w0.heap.size ≤ w.heap.size) := hb0.size; have HW : Hid (WRF w0.heap.size b bs w) := hw; (have hsz : bs.length + (⟨#[48]⟩ : ByteArray).size ≤ 140737488355328 := by have : (⟨#[48]⟩ : ByteArray).size = 1 := rfl; omega); clear hb0 hw hlen
  go_enter Tryz.func143, Tryz.ntmps143
  go_wp2_with (first
    | (go_at_call 144
       (refine (write_stringF w0.heap.size b bs ⟨#[48]⟩ _ (HW.out.alloc _) hsz (by have := HBs.out; simp; omega)).mono ?_)
       rintro e w1 ⟨rfl, hw1, hb1, hk1⟩)
    | fail)
  go_end0
  exact ⟨rfl, hw1, ((Below.refl _ w).alloc HBs.out _).trans hb1, ((WK.refl b w).alloc _).trans hk1⟩
theorem pre_bytes (c : UInt8) (n : ByteArray) : ((⟨#[c]⟩ ++ n) ++ ⟨#[32]⟩ : ByteArray).data.toList = [c] ++ n.data.toList ++ [32] := by simp
set_option maxRecDepth 10000 in
set_option maxHeartbeats 2000000 in
theorem bareE5 (m : Nat) (ih : WriS m) (w0 : World) (b : Nat) (bs : List Value) (n : ByteArray) (ws : List Wd) (sw sk : Option Addr) (cw ck : Nat) (w : World) (hb0 : Below w0.heap.size w0 w) (hw : WRF w0.heap.size b bs w) (f : Ex) (hn8 : n.size ≤ 8) (hf : f.size < m) (hfine : EFine f) (hrep : ERp w0 (.mk 5 n ws [f]) (.agg #[.int .i64 5, .string n, .slice sw ws.length cw, .slice sk 1 ck])) (hlen : bs.length + ([126] ++ exP 3 f).length ≤ 100000) :
    Calls Tryz.prog 143 #[.pointer (some ⟨b, 0, none⟩), .agg #[.int .i64 5, .string n, .slice sw ws.length cw, .slice sk 1 ck]] w (WPoF w0.heap.size b bs ([126] ++ exP 3 f) w) := by
  have HB0 : Hid (Below w0.heap.size w0 w) := hb0; have HBs : Hid (w0.heap.size ≤ w.heap.size) := hb0.size; have HW : Hid (WRF w0.heap.size b bs w) := hw
  have HCa : Hid (∀ W, Below w0.heap.size w0 W → WRF w0.heap.size b bs W → Calls Tryz.prog 185 #[.pointer (some ⟨b, 0, none⟩), .string ⟨#[126]⟩, .agg #[.int .i64 5, .string n, .slice sw ws.length cw, .slice sk 1 ck]] W (WPoF w0.heap.size b bs ([126] ++ exP 3 f) W)) := fun W h1 h2 => by
    have hx := prefE_step m ih w0 b bs 5 n ⟨#[126]⟩ ws f sw sk cw ck W hf hfine hrep h1 h2; exact hx hlen
  (have hz1 : ¬ 9223372036854775807 < 1 + n.size := by omega); (have hz2 : ¬ 9223372036854775807 < 1 + n.size + 1 := by omega); obtain ⟨S, hS⟩ : ∃ S, S = [126] ++ exP 3 f := ⟨_, rfl⟩; rw [← hS] at HCa ⊢; clear hb0 hw hlen hrep hS
  go_enter Tryz.func143, Tryz.ntmps143
  go_wp2_with (first
    | (go_at_call 185
       refine (HCa.out _ (HB0.out.trans ((Below.refl _ w).alloc HBs.out _)) (HW.out.alloc _)).mono ?_
       rintro e w1 ⟨rfl, hw1, hb1, hk1⟩)
    | fail)
  go_end0
  exact ⟨rfl, hw1, ((Below.refl _ w).alloc HBs.out _).trans hb1, ((WK.refl b w).alloc _).trans hk1⟩
set_option maxRecDepth 10000 in
set_option maxHeartbeats 2000000 in
theorem bareE9 (m : Nat) (ih : WriS m) (w0 : World) (b : Nat) (bs : List Value) (n : ByteArray) (ws : List Wd) (sw sk : Option Addr) (cw ck : Nat) (w : World) (hb0 : Below w0.heap.size w0 w) (hw : WRF w0.heap.size b bs w) (f : Ex) (hn8 : n.size ≤ 8) (hf : f.size < m) (hfine : EFine f) (hrep : ERp w0 (.mk 9 n ws [f]) (.agg #[.int .i64 9, .string n, .slice sw ws.length cw, .slice sk 1 ck])) (hlen : bs.length + (([33] ++ n.data.toList ++ [32]) ++ exP 3 f).length ≤ 100000) :
    Calls Tryz.prog 143 #[.pointer (some ⟨b, 0, none⟩), .agg #[.int .i64 9, .string n, .slice sw ws.length cw, .slice sk 1 ck]] w (WPoF w0.heap.size b bs (([33] ++ n.data.toList ++ [32]) ++ exP 3 f) w) := by
  have HB0 : Hid (Below w0.heap.size w0 w) := hb0; have HBs : Hid (w0.heap.size ≤ w.heap.size) := hb0.size; have HW : Hid (WRF w0.heap.size b bs w) := hw
  have HCa : Hid (∀ W, Below w0.heap.size w0 W → WRF w0.heap.size b bs W → Calls Tryz.prog 185 #[.pointer (some ⟨b, 0, none⟩), .string ((⟨#[33]⟩ ++ n) ++ ⟨#[32]⟩), .agg #[.int .i64 9, .string n, .slice sw ws.length cw, .slice sk 1 ck]] W (WPoF w0.heap.size b bs (([33] ++ n.data.toList ++ [32]) ++ exP 3 f) W)) := fun W h1 h2 => by
    have hx := prefE_step m ih w0 b bs 9 n ((⟨#[33]⟩ ++ n) ++ ⟨#[32]⟩) ws f sw sk cw ck W hf hfine hrep h1 h2; rw [pre_bytes] at hx; exact hx hlen
  (have hz1 : ¬ 9223372036854775807 < 1 + n.size := by omega); (have hz2 : ¬ 9223372036854775807 < 1 + n.size + 1 := by omega); obtain ⟨S, hS⟩ : ∃ S, S = ([33] ++ n.data.toList ++ [32]) ++ exP 3 f := ⟨_, rfl⟩; rw [← hS] at HCa ⊢; clear hb0 hw hlen hrep hS
  go_enter Tryz.func143, Tryz.ntmps143
  go_wp2_with (first
    | (go_at_call 185
       refine (HCa.out _ (HB0.out.trans ((Below.refl _ w).alloc HBs.out _)) (HW.out.alloc _)).mono ?_
       rintro e w1 ⟨rfl, hw1, hb1, hk1⟩)
    | fail)
  go_end0
  exact ⟨rfl, hw1, ((Below.refl _ w).alloc HBs.out _).trans hb1, ((WK.refl b w).alloc _).trans hk1⟩
set_option maxRecDepth 10000 in
set_option maxHeartbeats 2000000 in
theorem bareE10 (m : Nat) (ih : WriS m) (w0 : World) (b : Nat) (bs : List Value) (n : ByteArray) (ws : List Wd) (sw sk : Option Addr) (cw ck : Nat) (w : World) (hb0 : Below w0.heap.size w0 w) (hw : WRF w0.heap.size b bs w) (f : Ex) (hn8 : n.size ≤ 8) (hf : f.size < m) (hfine : EFine f) (hrep : ERp w0 (.mk 10 n ws [f]) (.agg #[.int .i64 10, .string n, .slice sw ws.length cw, .slice sk 1 ck])) (hlen : bs.length + (([63] ++ n.data.toList ++ [32]) ++ exP 3 f).length ≤ 100000) :
    Calls Tryz.prog 143 #[.pointer (some ⟨b, 0, none⟩), .agg #[.int .i64 10, .string n, .slice sw ws.length cw, .slice sk 1 ck]] w (WPoF w0.heap.size b bs (([63] ++ n.data.toList ++ [32]) ++ exP 3 f) w) := by
  have HB0 : Hid (Below w0.heap.size w0 w) := hb0; have HBs : Hid (w0.heap.size ≤ w.heap.size) := hb0.size; have HW : Hid (WRF w0.heap.size b bs w) := hw
  have HCa : Hid (∀ W, Below w0.heap.size w0 W → WRF w0.heap.size b bs W → Calls Tryz.prog 185 #[.pointer (some ⟨b, 0, none⟩), .string ((⟨#[63]⟩ ++ n) ++ ⟨#[32]⟩), .agg #[.int .i64 10, .string n, .slice sw ws.length cw, .slice sk 1 ck]] W (WPoF w0.heap.size b bs (([63] ++ n.data.toList ++ [32]) ++ exP 3 f) W)) := fun W h1 h2 => by
    have hx := prefE_step m ih w0 b bs 10 n ((⟨#[63]⟩ ++ n) ++ ⟨#[32]⟩) ws f sw sk cw ck W hf hfine hrep h1 h2; rw [pre_bytes] at hx; exact hx hlen
  (have hz1 : ¬ 9223372036854775807 < 1 + n.size := by omega); (have hz2 : ¬ 9223372036854775807 < 1 + n.size + 1 := by omega); obtain ⟨S, hS⟩ : ∃ S, S = ([63] ++ n.data.toList ++ [32]) ++ exP 3 f := ⟨_, rfl⟩; rw [← hS] at HCa ⊢; clear hb0 hw hlen hrep hS
  go_enter Tryz.func143, Tryz.ntmps143
  go_wp2_with (first
    | (go_at_call 185
       refine (HCa.out _ (HB0.out.trans ((Below.refl _ w).alloc HBs.out _)) (HW.out.alloc _)).mono ?_
       rintro e w1 ⟨rfl, hw1, hb1, hk1⟩)
    | fail)
  go_end0
  exact ⟨rfl, hw1, ((Below.refl _ w).alloc HBs.out _).trans hb1, ((WK.refl b w).alloc _).trans hk1⟩
set_option maxRecDepth 10000 in
set_option maxHeartbeats 2000000 in
theorem bareE6 (m : Nat) (ih : WriS m) (w0 : World) (b : Nat) (bs : List Value) (n : ByteArray) (ws : List Wd) (sw sk : Option Addr) (cw ck : Nat) (w : World) (hb0 : Below w0.heap.size w0 w) (hw : WRF w0.heap.size b bs w) (f h : Ex) (hf : f.size < m) (hh : h.size < m) (hfine : EFine f) (gfine : EFine h) (hrep : ERp w0 (.mk 6 n ws [f, h]) (.agg #[.int .i64 6, .string n, .slice sw ws.length cw, .slice sk 2 ck])) (hlen : bs.length + (exP 2 f ++ [32, 38, 32] ++ exP 3 h).length ≤ 100000) :
    Calls Tryz.prog 143 #[.pointer (some ⟨b, 0, none⟩), .agg #[.int .i64 6, .string n, .slice sw ws.length cw, .slice sk 2 ck]] w (WPoF w0.heap.size b bs (exP 2 f ++ [32, 38, 32] ++ exP 3 h) w) := by
  have HB0 : Hid (Below w0.heap.size w0 w) := hb0; have HBs : Hid (w0.heap.size ≤ w.heap.size) := hb0.size; have HW : Hid (WRF w0.heap.size b bs w) := hw; (have HCa : Hid (∀ W, Below w0.heap.size w0 W → WRF w0.heap.size b bs W → Calls Tryz.prog 186 #[.pointer (some ⟨b, 0, none⟩), .agg #[.int .i64 6, .string n, .slice sw ws.length cw, .slice sk 2 ck], .int .i64 2, .string ⟨#[32, 38, 32]⟩, .int .i64 3] W (WPoF w0.heap.size b bs (exP 2 f ++ [32, 38, 32] ++ exP 3 h) W)) := fun W h1 h2 => infE_step m ih w0 b bs 6 2 3 n ⟨#[32, 38, 32]⟩ ws f h sw sk cw ck W hf hh hfine gfine hrep h1 h2 hlen); clear hb0 hw hlen hrep
  go_enter Tryz.func143, Tryz.ntmps143
  go_wp2_with (first
    | (go_at_call 186
       refine (HCa.out _ (HB0.out.trans ((Below.refl _ w).alloc HBs.out _)) (HW.out.alloc _)).mono ?_
       rintro e w1 ⟨rfl, hw1, hb1, hk1⟩)
    | fail)
  go_end0
  exact ⟨rfl, hw1, ((Below.refl _ w).alloc HBs.out _).trans hb1, ((WK.refl b w).alloc _).trans hk1⟩
set_option maxRecDepth 10000 in
set_option maxHeartbeats 2000000 in
theorem bareE7 (m : Nat) (ih : WriS m) (w0 : World) (b : Nat) (bs : List Value) (n : ByteArray) (ws : List Wd) (sw sk : Option Addr) (cw ck : Nat) (w : World) (hb0 : Below w0.heap.size w0 w) (hw : WRF w0.heap.size b bs w) (f h : Ex) (hf : f.size < m) (hh : h.size < m) (hfine : EFine f) (gfine : EFine h) (hrep : ERp w0 (.mk 7 n ws [f, h]) (.agg #[.int .i64 7, .string n, .slice sw ws.length cw, .slice sk 2 ck])) (hlen : bs.length + (exP 1 f ++ [32, 124, 32] ++ exP 2 h).length ≤ 100000) :
    Calls Tryz.prog 143 #[.pointer (some ⟨b, 0, none⟩), .agg #[.int .i64 7, .string n, .slice sw ws.length cw, .slice sk 2 ck]] w (WPoF w0.heap.size b bs (exP 1 f ++ [32, 124, 32] ++ exP 2 h) w) := by
  have HB0 : Hid (Below w0.heap.size w0 w) := hb0; have HBs : Hid (w0.heap.size ≤ w.heap.size) := hb0.size; have HW : Hid (WRF w0.heap.size b bs w) := hw; (have HCa : Hid (∀ W, Below w0.heap.size w0 W → WRF w0.heap.size b bs W → Calls Tryz.prog 186 #[.pointer (some ⟨b, 0, none⟩), .agg #[.int .i64 7, .string n, .slice sw ws.length cw, .slice sk 2 ck], .int .i64 1, .string ⟨#[32, 124, 32]⟩, .int .i64 2] W (WPoF w0.heap.size b bs (exP 1 f ++ [32, 124, 32] ++ exP 2 h) W)) := fun W h1 h2 => infE_step m ih w0 b bs 7 1 2 n ⟨#[32, 124, 32]⟩ ws f h sw sk cw ck W hf hh hfine gfine hrep h1 h2 hlen); clear hb0 hw hlen hrep
  go_enter Tryz.func143, Tryz.ntmps143
  go_wp2_with (first
    | (go_at_call 186
       refine (HCa.out _ (HB0.out.trans ((Below.refl _ w).alloc HBs.out _)) (HW.out.alloc _)).mono ?_
       rintro e w1 ⟨rfl, hw1, hb1, hk1⟩)
    | fail)
  go_end0
  exact ⟨rfl, hw1, ((Below.refl _ w).alloc HBs.out _).trans hb1, ((WK.refl b w).alloc _).trans hk1⟩
set_option maxRecDepth 10000 in
set_option maxHeartbeats 2000000 in
theorem bareE8 (m : Nat) (ih : WriS m) (w0 : World) (b : Nat) (bs : List Value) (n : ByteArray) (ws : List Wd) (sw sk : Option Addr) (cw ck : Nat) (w : World) (hb0 : Below w0.heap.size w0 w) (hw : WRF w0.heap.size b bs w) (f h : Ex) (hf : f.size < m) (hh : h.size < m) (hfine : EFine f) (gfine : EFine h) (hrep : ERp w0 (.mk 8 n ws [f, h]) (.agg #[.int .i64 8, .string n, .slice sw ws.length cw, .slice sk 2 ck])) (hlen : bs.length + (exP 1 f ++ [32, 45, 62, 32] ++ exP 0 h).length ≤ 100000) :
    Calls Tryz.prog 143 #[.pointer (some ⟨b, 0, none⟩), .agg #[.int .i64 8, .string n, .slice sw ws.length cw, .slice sk 2 ck]] w (WPoF w0.heap.size b bs (exP 1 f ++ [32, 45, 62, 32] ++ exP 0 h) w) := by
  have HB0 : Hid (Below w0.heap.size w0 w) := hb0; have HBs : Hid (w0.heap.size ≤ w.heap.size) := hb0.size; have HW : Hid (WRF w0.heap.size b bs w) := hw; (have HCa : Hid (∀ W, Below w0.heap.size w0 W → WRF w0.heap.size b bs W → Calls Tryz.prog 186 #[.pointer (some ⟨b, 0, none⟩), .agg #[.int .i64 8, .string n, .slice sw ws.length cw, .slice sk 2 ck], .int .i64 1, .string ⟨#[32, 45, 62, 32]⟩, .int .i64 0] W (WPoF w0.heap.size b bs (exP 1 f ++ [32, 45, 62, 32] ++ exP 0 h) W)) := fun W h1 h2 => infE_step m ih w0 b bs 8 1 0 n ⟨#[32, 45, 62, 32]⟩ ws f h sw sk cw ck W hf hh hfine gfine hrep h1 h2 hlen); clear hb0 hw hlen hrep
  go_enter Tryz.func143, Tryz.ntmps143
  go_wp2_with (first
    | (go_at_call 186
       refine (HCa.out _ (HB0.out.trans ((Below.refl _ w).alloc HBs.out _)) (HW.out.alloc _)).mono ?_
       rintro e w1 ⟨rfl, hw1, hb1, hk1⟩)
    | fail)
  go_end0
  exact ⟨rfl, hw1, ((Below.refl _ w).alloc HBs.out _).trans hb1, ((WK.refl b w).alloc _).trans hk1⟩
end Go.Proofs.YtheiikkeelbjnajGreat
/- Walks: write, whole. -/
namespace Go.Proofs.YtheiikkeelbjnajGreat
open Go.RowKit

theorem nm_small {n : ByteArray} (h : isNm n.data.toList = true) : n.size ≤ 8 := by
  have h1 := isNm_le h
  rwa [show n.data.toList.length = n.size from Array.length_toList] at h1
theorem exB_any (m : Nat) (ih : WriS m) (w0 : World) (b : Nat) (bs : List Value) (f : Ex) (v : Value) (w : World) (hf : f.size < m + 1) (hfine : EFine f) (hrep : ERp w0 f v) (hb0 : Below w0.heap.size w0 w) (hw : WRF w0.heap.size b bs w) (hlen : bs.length + (exB f).length ≤ 100000) :
    Calls Tryz.prog 143 #[.pointer (some ⟨b, 0, none⟩), v] w (WPoF w0.heap.size b bs (exB f) w) := by
  cases hfine with
  | pred n ws hn =>
    obtain ⟨sw, cw, sk, ck, rfl, -, hx, -⟩ := ERp.def.1 hrep
    exact bareE1 w0 b bs n ws sw sk cw ck w hb0 hw hx hlen
  | same ws hl =>
    obtain ⟨sw, cw, sk, ck, rfl, -, hx, -⟩ := ERp.def.1 hrep
    exact bareE2 w0 b bs _ ws sw sk cw ck w hb0 hw hx hlen
  | leaf k hk =>
    obtain ⟨sw, cw, sk, ck, rfl, -, hx, -⟩ := ERp.def.1 hrep
    rcases hk with rfl | rfl
    · exact bareE3 w0 b bs _ [] sw sk cw ck w hb0 hw hlen
    · exact bareE4 w0 b bs _ [] sw sk cw ck w hb0 hw hlen
  | not g hg =>
    obtain ⟨sw, cw, sk, ck, rfl, -, hx, -⟩ := ERp.def.1 hrep; (have hs : g.size < m := by simp only [Ex.size, Ex.sizes, Wd.sizes] at hf; omega)
    exact bareE5 m ih w0 b bs _ [] sw sk cw ck w hb0 hw g (Nat.zero_le _) hs hg hrep hlen
  | quan k n g hk hn hg =>
    obtain ⟨sw, cw, sk, ck, rfl, -, hx, -⟩ := ERp.def.1 hrep; (have hs : g.size < m := by simp only [Ex.size, Ex.sizes, Wd.sizes] at hf; omega)
    rcases hk with rfl | rfl
    · exact bareE9 m ih w0 b bs n [] sw sk cw ck w hb0 hw g (nm_small hn) hs hg hrep hlen
    · exact bareE10 m ih w0 b bs n [] sw sk cw ck w hb0 hw g (nm_small hn) hs hg hrep hlen
  | two k g h hk hg hh =>
    obtain ⟨sw, cw, sk, ck, rfl, -, hx, -⟩ := ERp.def.1 hrep; (have hs : g.size < m ∧ h.size < m := by simp only [Ex.size, Ex.sizes, Wd.sizes] at hf; omega)
    rcases hk with rfl | rfl | rfl
    · exact bareE6 m ih w0 b bs _ [] sw sk cw ck w hb0 hw g h hs.1 hs.2 hg hh hrep hlen
    · exact bareE7 m ih w0 b bs _ [] sw sk cw ck w hb0 hw g h hs.1 hs.2 hg hh hrep hlen
    · exact bareE8 m ih w0 b bs _ [] sw sk cw ck w hb0 hw g h hs.1 hs.2 hg hh hrep hlen
set_option maxRecDepth 10000 in
set_option maxHeartbeats 4000000 in
theorem writeE_step (m : Nat) (ih : WriS m) : WriS (m + 1) := by
  intro w0 b bs least f v w hf hfine hrep hb0 hw hlen; (have hbare := fun bs w => exB_any m ih w0 b bs f v w hf hfine hrep); have hpr := exP_bare least f; obtain ⟨k, n, ws, ks⟩ := f; obtain ⟨sw, cw, sk, ck, rfl, -⟩ := ERp.def.1 hrep; have hpr : exP least (.mk k n ws ks) = brk (decide (least ≤ bindE k)) (exB (.mk k n ws ks)) := hpr; rw [hpr] at hlen ⊢; clear hpr; generalize exB (.mk k n ws ks) = s at *; have HB : Hid (∀ (bs : List Value) (w : World), Below w0.heap.size w0 w → WRF w0.heap.size b bs w → bs.length + s.length ≤ 100000 → Calls Tryz.prog 143 #[.pointer (some ⟨b, 0, none⟩), .agg #[.int .i64 k, .string n, .slice sw ws.length cw, .slice sk ks.length ck]] w (WPoF w0.heap.size b bs s w)) := hbare; have HB0 : Hid (Below w0.heap.size w0 w) := hb0; have HBs : Hid (w0.heap.size ≤ w.heap.size) := hb0.size; have HBl : Hid (b < w.heap.size) := hw.lt; have HW : Hid (WRF w0.heap.size b bs w) := hw; clear hbare hb0 hw hrep hfine hf; by_cases hle : least ≤ bindE k
  · have hd : decide (least ≤ bindE k) = true := by simpa using hle
    rw [hd] at hlen ⊢; have HL : Hid (bs.length + s.length ≤ 100000) := hlen; clear hlen; simp only [brk, if_true]
    go_enter Tryz.func93, Tryz.ntmps93
    go_wp2_with (first
      | (go_at_call 142; refine (bindE_any k _).mono ?_; rintro e w1 ⟨rfl, rfl⟩)
      | (go_at_call 143
         refine (HB.out bs _ (HB0.out.trans ((Below.refl _ w).alloc HBs.out _)) (HW.out.alloc _) HL.out).mono ?_
         rintro e w1 ⟨rfl, hw1, hb1, hk1⟩)
      | fail)
    go_end0
    exact ⟨rfl, hw1, ((Below.refl _ w).alloc HBs.out _).trans hb1, ((WK.refl b w).alloc _).trans hk1⟩
  · have hd : decide (least ≤ bindE k) = false := by simpa using hle
    rw [hd] at hlen ⊢; have HL : Hid (bs.length + ([40] ++ s ++ [41]).length ≤ 100000) := hlen; clear hlen; simp only [brk, Bool.false_eq_true, if_false]; (have s1 : bs.length + (⟨#[40]⟩ : ByteArray).size ≤ 140737488355328 := by have : (⟨#[40]⟩ : ByteArray).size = 1 := rfl; have := HL.out; omega); (have s2 : (bs ++ Lib.strCells ⟨#[40]⟩).length + s.length ≤ 100000 := by have := HL.out; rw [List.length_append, strCells_eq, Lib.byteCells_length]; simp at this ⊢; omega); (have s3 : (bs ++ Lib.strCells ⟨#[40]⟩ ++ Lib.byteCells s).length + (⟨#[41]⟩ : ByteArray).size ≤ 140737488355328 := by have : (⟨#[41]⟩ : ByteArray).size = 1 := rfl; rw [List.length_append, Lib.byteCells_length]; omega)
    go_enter Tryz.func93, Tryz.ntmps93
    go_wp2_with (first
      | (go_at_call 142; refine (bindE_any k _).mono ?_; rintro e w1 ⟨rfl, rfl⟩)
      | (go_at_call_of 144 (Value.string ⟨#[40]⟩)
         (refine (write_stringF w0.heap.size b bs ⟨#[40]⟩ _ (HW.out.alloc _) s1 (by have := HBs.out; simp; omega)).mono ?_); rintro e w1 ⟨rfl, hw1, hb1, hk1⟩; have z1 := hb1.size; simp at z1; (have q1 := hk1.block _ _ (blk_new _ _) (by have := HBl.out; omega) (fun c fr h => by cases h))
         obtain ⟨g1, g2, g3, g4⟩ := blk4L q1)
      | (go_at_call 143
         refine (HB.out _ _ (HB0.out.trans (((Below.refl _ w).alloc HBs.out _).trans hb1)) hw1 s2).mono ?_; rintro e w2 ⟨rfl, hw2, hb2, hk2⟩
         have z2 := hb2.size)
      | (go_at_call_of 144 (Value.string ⟨#[41]⟩)
         (refine (write_stringF w0.heap.size b _ ⟨#[41]⟩ _ hw2 s3 (by have := HBs.out; omega)).mono ?_)
         rintro e w3 ⟨rfl, hw3, hb3, hk3⟩)
      | fail)
    go_end0
    refine ⟨rfl, ?_, (((Below.refl _ w).alloc HBs.out _).trans hb1).trans (hb2.trans hb3), ((WK.refl b w).alloc _).trans (hk1.trans (hk2.trans hk3))⟩; rw [strCells_eq, strCells_eq, List.append_assoc, List.append_assoc, ← byteCells_append, ← byteCells_append] at hw3; simpa using hw3
theorem writesE_all : ∀ m, WriS m
  | 0 => fun _ _ _ _ _ _ _ h => absurd h (Nat.not_lt_zero _)
  | m + 1 => writeE_step m (writesE_all m)
end Go.Proofs.YtheiikkeelbjnajGreat
/- Plain: what Check passes is fine, and what is written of it is short. -/
namespace Go.Proofs.YtheiikkeelbjnajGreat
open Go.RowKit

mutual
/-- All names are short. -/
def WFn : Wd → Prop
  | .mk n ar => n.size ≤ 8 ∧ WFns ar
def WFns : List Wd → Prop
  | [] => True
  | x :: xs => WFn x ∧ WFns xs
end
mutual
def EWf : Ex → Prop
  | .mk _ n ws ks => n.size ≤ 8 ∧ WFns ws ∧ EWfs ks
def EWfs : List Ex → Prop
  | [] => True
  | x :: xs => EWf x ∧ EWfs xs
end
theorem bg_small {n : ByteArray} (h : isBg n.data.toList = true) : n.size ≤ 8 ∧ 1 ≤ n.size := by
  have e : n.data.toList.length = n.size := Array.length_toList
  cases hl : n.data.toList with
  | nil => rw [hl] at h; simp [isBg] at h
  | cons c l =>
    rw [hl] at h e; simp [isBg] at h; simp at e; omega
theorem wnode_small {n : ByteArray} {al : Nat} (h : wnodeF n al = none) : n.size ≤ 8 := by
  unfold wnodeF at h
  split at h
  · cases h
  · rename_i h1
    rcases hn : isNm n.data.toList with _ | _
    · rcases hb : isBg n.data.toList with _ | _
      · exact absurd ⟨hn, hb⟩ h1
      · exact (bg_small hb).1
    · exact nm_small hn
mutual
theorem wchk_fine : ∀ (x : Wd) (s : Nat) (p f : PlF) (s' : Nat) (p' f' : PlF), wchk x s p f = .ok s' p' f' → WFn x
  | .mk n ar, s, p, f, s', p', f', h => by
    rw [wchk] at h
    split at h
    · cases h
    · split at h
      · cases h
      · rename_i h2
        rw [WFn]; refine ⟨wnode_small h2, ?_⟩
        split at h
        · split at h
          · cases h
          · exact wchks_fine ar _ _ _ _ _ _ h
        · exact wchks_fine ar _ _ _ _ _ _ h
theorem wchks_fine : ∀ (l : List Wd) (s : Nat) (p f : PlF) (s' : Nat) (p' f' : PlF), wchks l s p f = .ok s' p' f' → WFns l
  | [], s, p, f, s', p', f', h => by rw [WFns]; trivial
  | x :: xs, s, p, f, s', p', f', h => by
    rw [wchks] at h
    split at h
    · cases h
    · rename_i s1 p1 f1 h1
      rw [WFns]; exact ⟨wchk_fine x _ _ _ _ _ _ h1, wchks_fine xs _ _ _ _ _ _ h⟩
end
theorem enode_none {k : Int} {n : ByteArray} {wl kl : Nat} (h : enodeF k n wl kl = none) : ekindB k = true ∧ ewordsB k wl = true ∧ (kl : Int) = ekidsN k ∧ enameB k n.data.toList = true := by
  unfold enodeF at h
  split at h
  · cases h
  · rename_i h1
    split at h
    · cases h
    · rename_i h2
      split at h
      · cases h
      · rename_i h3
        (refine ⟨by simpa using h1, ?_, ?_, by simpa using h3⟩)
        · rcases hw : ewordsB k wl with _ | _
          · exact absurd (Or.inl hw) h2
          · rfl
        · exact Decidable.byContradiction fun h4 => h2 (Or.inr h4)
theorem nil_of_empty {n : ByteArray} (h : n.data.toList.isEmpty = true) : n = ⟨#[]⟩ := by
  cases n with
  | mk d => simp at h; rw [h]
theorem efine_mk {k : Int} {n : ByteArray} {ws : List Wd} {ks : List Ex} (h : enodeF k n ws.length ks.length = none) (hk : ∀ f ∈ ks, EFine f) : EFine (.mk k n ws ks) ∧ n.size ≤ 8 := by
  obtain ⟨h1, h2, h3, h4⟩ := enode_none h
  have hr : k = 1 ∨ k = 2 ∨ k = 3 ∨ k = 4 ∨ k = 5 ∨ k = 6 ∨ k = 7 ∨ k = 8 ∨ k = 9 ∨ k = 10 := by
    unfold ekindB at h1; simp at h1; omega
  have two : ∀ {k : Int}, (k = 6 ∨ k = 7 ∨ k = 8) → ewordsB k ws.length = true → (ks.length : Int) = ekidsN k → enameB k n.data.toList = true → EFine (.mk k n ws ks) ∧ n.size ≤ 8 := fun {k} hk6 g2 g3 g4 => by
    have e1 : ws = [] := by
      unfold ewordsB at g2; (rw [if_neg (by omega), if_neg (by omega)] at g2); simpa using g2
    have e2 : n = ⟨#[]⟩ := by
      unfold enameB quanB at g4; (rw [if_neg (by omega), if_neg (by simp; omega)] at g4); exact nil_of_empty g4
    have e3 : ks.length = 2 := by
      unfold ekidsN at g3; (rw [if_neg (by omega), if_pos (by omega)] at g3); omega
    subst e1 e2
    match ks, e3 with
    | [f, g], _ => exact ⟨EFine.two k f g hk6 (hk f (by simp)) (hk g (by simp)), Nat.zero_le _⟩
  have quan : ∀ {k : Int}, (k = 9 ∨ k = 10) → ewordsB k ws.length = true → (ks.length : Int) = ekidsN k → enameB k n.data.toList = true → EFine (.mk k n ws ks) ∧ n.size ≤ 8 := fun {k} hk6 g2 g3 g4 => by
    have e1 : ws = [] := by
      unfold ewordsB at g2; (rw [if_neg (by omega), if_neg (by omega)] at g2); simpa using g2
    have e2 : isNm n.data.toList = true := by
      unfold enameB quanB at g4; (rw [if_neg (by omega), if_pos (by simp; omega)] at g4); exact g4
    have e3 : ks.length = 1 := by
      unfold ekidsN at g3; (rw [if_pos (by omega)] at g3); omega
    subst e1
    match ks, e3 with
    | [f], _ => exact ⟨EFine.quan k n f hk6 e2 (hk f (by simp)), nm_small e2⟩
  rcases hr with rfl | rfl | rfl | rfl | rfl | rfl | rfl | rfl | rfl | rfl
  · have e1 : isBg n.data.toList = true := by simpa [enameB] using h4
    (have e3 : ks = [] := by simpa [ekidsN] using h3); subst e3; exact ⟨EFine.pred n ws e1, (bg_small e1).1⟩
  · have e1 : ws.length = 2 := by simpa [ewordsB] using h2
    (have e2 : n = ⟨#[]⟩ := nil_of_empty (by simpa [enameB, quanB] using h4)); (have e3 : ks = [] := by simpa [ekidsN] using h3); subst e2 e3; exact ⟨EFine.same ws e1, Nat.zero_le _⟩
  · have e1 : ws = [] := by simpa [ewordsB] using h2
    (have e2 : n = ⟨#[]⟩ := nil_of_empty (by simpa [enameB, quanB] using h4)); (have e3 : ks = [] := by simpa [ekidsN] using h3); subst e1 e2 e3; exact ⟨EFine.leaf 3 (Or.inl rfl), Nat.zero_le _⟩
  · have e1 : ws = [] := by simpa [ewordsB] using h2
    (have e2 : n = ⟨#[]⟩ := nil_of_empty (by simpa [enameB, quanB] using h4)); (have e3 : ks = [] := by simpa [ekidsN] using h3); subst e1 e2 e3; exact ⟨EFine.leaf 4 (Or.inr rfl), Nat.zero_le _⟩
  · have e1 : ws = [] := by simpa [ewordsB] using h2
    (have e2 : n = ⟨#[]⟩ := nil_of_empty (by simpa [enameB, quanB] using h4)); (have e3 : ks.length = 1 := by simp [ekidsN] at h3; omega); subst e1 e2
    match ks, e3 with
    | [f], _ => exact ⟨EFine.not f (hk f (by simp)), Nat.zero_le _⟩
  · exact two (Or.inl rfl) h2 h3 h4
  · exact two (Or.inr (Or.inl rfl)) h2 h3 h4
  · exact two (Or.inr (Or.inr rfl)) h2 h3 h4
  · exact quan (Or.inl rfl) h2 h3 h4
  · exact quan (Or.inr rfl) h2 h3 h4
mutual
theorem echk_fine : ∀ (x : Ex) (s : Nat) (p f : PlF) (s' : Nat) (p' f' : PlF), echk x s p f = .ok s' p' f' → EFine x ∧ EWf x
  | .mk k n ws ks, s, p, f, s', p', f', h => by
    rw [echk] at h
    split at h
    · cases h
    · split at h
      · cases h
      · rename_i h2
        split at h
        · cases h
        · split at h
          · cases h
          · rename_i s1 p1 f1 h1
            have a := wchks_fine ws _ _ _ _ _ _ h1; obtain ⟨b1, b2⟩ := echks_fine ks _ _ _ _ _ _ h; obtain ⟨c1, c2⟩ := efine_mk h2 b1; rw [EWf]; exact ⟨c1, c2, a, b2⟩
theorem echks_fine : ∀ (l : List Ex) (s : Nat) (p f : PlF) (s' : Nat) (p' f' : PlF), echks l s p f = .ok s' p' f' → (∀ x ∈ l, EFine x) ∧ EWfs l
  | [], s, p, f, s', p', f', h => by rw [EWfs]; exact ⟨fun x hx => (by cases hx), trivial⟩
  | x :: xs, s, p, f, s', p', f', h => by
    rw [echks] at h
    split at h
    · cases h
    · rename_i s1 p1 f1 h1
      obtain ⟨a1, a2⟩ := echk_fine x _ _ _ _ _ _ h1; obtain ⟨b1, b2⟩ := echks_fine xs _ _ _ _ _ _ h; rw [EWfs]; (refine ⟨fun y hy => ?_, a2, b2⟩)
      rcases List.mem_cons.1 hy with rfl | hy
      · exact a1
      · exact b1 y hy
end
mutual
theorem wdS_len : ∀ x : Wd, WFn x → (wdS x).length + 2 ≤ 12 * x.size
  | .mk n [], h => by
    rw [WFn] at h; have e : n.data.toList.length = n.size := Array.length_toList; rw [wdS, Wd.size, Wd.sizes]
    omega
  | .mk n (x :: xs), h => by
    rw [WFn, WFns] at h; have e : n.data.toList.length = n.size := Array.length_toList; have a := wdS_len x h.2.1; have b := wdsR_len xs h.2.2; rw [wdS, Wd.size, Wd.sizes]; simp only [List.length_append, List.length_cons, List.length_nil]; omega
theorem wdsR_len : ∀ xs : List Wd, WFns xs → (wdsR [44, 32] xs).length ≤ 12 * Wd.sizes xs
  | [], _ => by rw [wdsR]; simp
  | x :: xs, h => by
    rw [WFns] at h; have a := wdS_len x h.1; have b := wdsR_len xs h.2; rw [wdsR, Wd.sizes]; simp only [List.length_append, List.length_cons, List.length_nil]; omega
end
theorem wdsR_len3 : ∀ xs : List Wd, WFns xs → (wdsR [32, 61, 32] xs).length ≤ 13 * Wd.sizes xs
  | [], _ => by rw [wdsR]; simp
  | x :: xs, h => by
    rw [WFns] at h; have a := wdS_len x h.1; have b := wdsR_len3 xs h.2; (have c : 1 ≤ x.size := by cases x; rw [Wd.size]; omega); rw [wdsR, Wd.sizes]; simp only [List.length_append, List.length_cons, List.length_nil]; omega
theorem brk_lenE (b : Bool) (s : List UInt8) : s.length ≤ (brk b s).length ∧ (brk b s).length ≤ s.length + 2 := by
  cases b
  · simp [brk]; omega
  · simp [brk]
theorem exP_len {f : Ex} (h : EFine f) : EWf f → ∀ least, (exP least f).length ≤ 16 * f.size ∧ 1 ≤ (exP least f).length := by
  induction h with
  | pred n ws hn =>
    intro hw least; rw [EWf] at hw; have hs := bg_small hn; have e : n.data.toList.length = n.size := Array.length_toList; (have a := wdS_len (.mk n ws) (by rw [WFn]; exact ⟨hw.1, hw.2.1⟩)); have c := brk_lenE (decide (least ≤ bindE 1)) (wdS (.mk n ws)); (have d : n.data.toList.length ≤ (wdS (.mk n ws)).length := by rw [wdS_eq, List.length_append]; omega); (have hb : exP least (.mk 1 n ws []) = brk (decide (least ≤ bindE 1)) (wdS (.mk n ws)) := by rw [exP, leafE, if_pos rfl]); rw [hb, Ex.size, Ex.sizes]; rw [Wd.size] at a
    omega
  | same ws hl =>
    intro hw least; rw [EWf] at hw
    match ws, hl with
    | [x, y], _ =>
      rw [WFns] at hw; have a := wdS_len x hw.2.1.1; have b := wdsR_len3 [y] hw.2.1.2; have c := brk_lenE (decide (least ≤ bindE 2)) (wdsS [32, 61, 32] [x, y]); (have hb : exP least (.mk 2 ⟨#[]⟩ [x, y] []) = brk (decide (least ≤ bindE 2)) (wdsS [32, 61, 32] [x, y]) := by rw [exP, leafE, if_neg (by decide), if_pos rfl]); (have d : (wdsS [32, 61, 32] [x, y]).length = (wdS x).length + (wdsR [32, 61, 32] [y]).length := by rw [wdsS, List.length_append]); (have d2 : 3 ≤ (wdsR [32, 61, 32] [y]).length := by rw [wdsR]; simp only [List.length_append, List.length_cons, List.length_nil]; omega); rw [hb, Ex.size, Ex.sizes, Wd.sizes]
      omega
  | leaf k hk =>
    intro _ least; rw [exP, Ex.size, Ex.sizes, Wd.sizes]; have c := brk_lenE (decide (least ≤ bindE k)) (leafE k ⟨#[]⟩ []); (have d : (leafE k ⟨#[]⟩ []).length = 1 := by rcases hk with rfl | rfl <;> rfl)
    omega
  | not f _ ih =>
    intro hw least; rw [EWf, EWfs] at hw; have a := ih hw.2.2.1 3; have c := brk_lenE (decide (least ≤ bindE 5)) (signE 5 ⟨#[]⟩ ++ exP 3 f); have d : (signE 5 ⟨#[]⟩).length = 1 := rfl; rw [exP, Ex.size, Ex.sizes, Ex.sizes, Wd.sizes]; rw [List.length_append] at c
    omega
  | quan k n f hk hn _ ih =>
    intro hw least; rw [EWf, EWfs] at hw; have e : n.data.toList.length = n.size := Array.length_toList; have a := ih hw.2.2.1 3; have c := brk_lenE (decide (least ≤ bindE k)) (signE k n ++ exP 3 f); (have d : (signE k n).length = n.size + 2 := by rcases hk with rfl | rfl <;> simp [signE, e]); rw [exP, Ex.size, Ex.sizes, Ex.sizes, Wd.sizes]; rw [List.length_append] at c
    omega
  | two k f g hk _ _ ih1 ih2 =>
    intro hw least; rw [EWf, EWfs, EWfs] at hw; have a := ih1 hw.2.2.1 (leftE k); have b := ih2 hw.2.2.2.1 (rightE k); have c := brk_lenE (decide (least ≤ bindE k)) (exP (leftE k) f ++ sign2E k ++ exP (rightE k) g); (have d : (sign2E k).length ≤ 4 := by rcases hk with rfl | rfl | rfl <;> decide); rw [exP, Ex.size, Ex.sizes, Ex.sizes, Ex.sizes, Wd.sizes]; rw [List.length_append, List.length_append] at c; omega
end Go.Proofs.YtheiikkeelbjnajGreat
/- Walks: first.Print. -/
namespace Go.Proofs.YtheiikkeelbjnajGreat
open Go.RowKit

set_option maxHeartbeats 1000000 in
theorem eprint_ok (f : Ex) (v : Value) (w : World) (hrep : ERp w f v) (s : Nat) (p9 f9 : PlF) (hc : echk f 0 (fun _ => none) (fun _ => none) = .ok s p9 f9) :
    Calls Tryz.prog 43 #[v] w fun e w' => e = .returned (.tuple #[.string ⟨(exP 0 f).toArray⟩, .agg #[.int .i64 0, .int .i64 0]]) ∧ Below w.heap.size w w' := by
  (have hck := fun (w : World) h => echeck_any f v w h); (have hcode : ecode f = (0, 0) := by simp only [ecode, hc]); rw [hcode] at hck; obtain ⟨hfine, hwf⟩ := echk_fine f _ _ _ _ _ _ hc; (have hsz := echk_le f _ _ _ _ _ _ hc (by omega)); have hlen := exP_len hfine hwf 0; (have hwr := fun (w0 : World) (b : Nat) (w : World) h1 h2 h3 => writesE_all (f.size + 1) w0 b [] 0 f v w (Nat.lt_succ_self _) hfine h1 h2 h3 (by simp; omega)); obtain ⟨k, n, ws, ks⟩ := f; obtain ⟨sw, cw, sk, ck, rfl, -⟩ := ERp.def.1 hrep; (have HC : Hid (∀ w, ERp w (.mk k n ws ks) (.agg #[.int .i64 k, .string n, .slice sw ws.length cw, .slice sk ks.length ck]) → Calls Tryz.prog 45 #[.agg #[.int .i64 k, .string n, .slice sw ws.length cw, .slice sk ks.length ck]] w fun e w' => e = .returned (.agg #[.int .i64 0, .int .i64 0]) ∧ Below w.heap.size w w') := hck); have HW : Hid (∀ (w0 : World) (b : Nat) (w : World), ERp w0 (.mk k n ws ks) (.agg #[.int .i64 k, .string n, .slice sw ws.length cw, .slice sk ks.length ck]) → Below w0.heap.size w0 w → WRF w0.heap.size b [] w → Calls Tryz.prog 93 #[.pointer (some ⟨b, 0, none⟩), .agg #[.int .i64 k, .string n, .slice sw ws.length cw, .slice sk ks.length ck], .int .i64 0] w (WPoF w0.heap.size b [] (exP 0 (.mk k n ws ks)) w)) := hwr; (have HN : Hid (exP 0 (.mk k n ws ks) ≠ []) := by intro h; rw [h] at hlen; simp at hlen); clear hck hcode hc hlen hwr hfine hsz hwf; generalize exP 0 (.mk k n ws ks) = out at *
  go_enter Tryz.func43, Tryz.ntmps43
  go_wp2_with (first
    | (go_at_call 45
       refine (HC.out _ (ERp.up (below_more (below_more (Below.refl _ _) _) _) _ _ hrep)).mono ?_; rintro e w1 ⟨rfl, hb1⟩; have z1 := hb1.size; simp at z1
       have q1 : w1.heap[w.heap.size + 1]? = some (.cells #[.int .i64 0, .int .i64 0] 32 (0, 0)) := by
         (rw [hb1.block _ (by simp)]); have := blk_new (w.alloc (.cells #[.int .i64 k, .string n, .slice sw ws.length cw, .slice sk ks.length ck] 25 (0, 0))) (.cells #[.int .i64 0, .int .i64 0] 32 (0, 0)); simpa using this
       have q0 : w1.heap[w.heap.size]? = some (.cells #[.int .i64 k, .string n, .slice sw ws.length cw, .slice sk ks.length ck] 25 (0, 0)) := by
         (rw [hb1.block _ (by simp; omega), Below.heap_alloc _ _ _ (by simp)]); exact blk_new _ _
       (have b1 : Below w.heap.size w w1 := ((((Below.refl _ w).alloc (Nat.le_refl _) _).alloc (by simp) _).trans (hb1.mono (by simp; omega)))); obtain ⟨g1, g2, g3, g4⟩ := blk4L q0; (have d0 : w.heap.size < w1.heap.size := by omega)
       have d3 : w.heap.size + 1 < w1.heap.size := by omega)
    | (go_at_call 93
       (have e9 : (w1.alloc (.cells #[.int .i64 0, .int .i64 0] 32 (0, 0))).heap.size = w1.heap.size + 1 := by simp); have hwr9 := HW.out (w1.alloc (.cells #[.int .i64 0, .int .i64 0] 32 (0, 0))) (w1.heap.size + 1) ((w1.alloc (.cells #[.int .i64 0, .int .i64 0] 32 (0, 0))).alloc (.cells #[.pointer none, .slice none 0 0] 133 (0, 0))) (ERp.up (below_more b1 _) _ _ hrep) (below_more (Below.refl _ _) _); rw [e9] at hwr9; refine (hwr9 ?_).mono ?_
       · refine Or.inl ⟨Nat.le_refl _, .slice none 0 0, ?_, ⟨rfl, Or.inl ⟨rfl, rfl⟩⟩, by simp [Value.ownBlock]⟩
         have := blk_new (w1.alloc (.cells #[.int .i64 0, .int .i64 0] 32 (0, 0))) (.cells #[.pointer none, .slice none 0 0] 133 (0, 0)); simpa using this
       rintro e w2 ⟨rfl, hw2, hb2, hk2⟩)
    | (go_at_call 94
       refine (string_anyF (w1.heap.size + 1) (w1.heap.size + 1) out _ hw2 HN.out).mono ?_; rintro e w3 ⟨rfl, hb3⟩
       have q3 : w3.heap[w.heap.size + 1]? = some (.cells #[.int .i64 0, .int .i64 0] 32 (0, 0)) := by
         (rw [hb3.block _ (by omega), hb2.block _ (by omega), Below.heap_alloc _ _ _ (by simp; omega), Below.heap_alloc _ _ _ (by omega)]); exact q1
       obtain ⟨k1, k2, k3, k4⟩ := blk2 q3)
    | fail)
  have z2 := hb2.size; have z3 := hb3.size; simp at z2; have f2 := set2 q3 (.int .i64 0) (.int .i64 0); (have bb : Below w.heap.size w w3 := (((b1.alloc (by omega) _).alloc (by simp; omega) _).trans (hb2.mono (by omega))).trans (hb3.mono (by omega))); (have b2 := (bb.setCell (p := ⟨w.heap.size + 1, 0, none⟩) (by simp) (.int .i64 0)).setCell (p := ⟨w.heap.size + 1, 1, none⟩) (by simp) (.int .i64 0)); generalize World.setCell _ _ _ = F at f2 b2 ⊢; clear k1 k2 k3 k4; obtain ⟨k1, k2, -⟩ := blk2 f2; (exact bodyPost_ret (v := .tuple #[.string ⟨out.toArray⟩, .agg #[.int .i64 0, .int .i64 0]]) (by simp [results, Tryz.results43, go_sem, k1, k2]) rfl ⟨rfl, b2⟩)
end Go.Proofs.YtheiikkeelbjnajGreat
