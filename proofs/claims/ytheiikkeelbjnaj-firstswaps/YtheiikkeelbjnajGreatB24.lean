/- Texts of one proof, one behind the other: PA1. -/
import Derived.Test.YtheiikkeelbjnajGreatB19
/- Walks: how many nodes words have (syntax.WordsSize). -/
namespace Go.Proofs.YtheiikkeelbjnajGreat
open Go.RowKit Go.Sort

/-- A captured number. -/
def NVar (w : World) (cb n : Nat) (T : Nat → Prop) : Prop := w.heap[cb]? = some (.cells #[.int .i64 (n : Nat)] 3 (0, 0)) ∧ ∀ b, T b ↔ b = cb
theorem NVar.lt {w : World} {cb n : Nat} {T : Nat → Prop} (h : NVar w cb n T) (b : Nat) (hb : T b) : cb ≤ b ∧ b < w.heap.size := by
  have := (h.2 b).1 hb; have := lt_of_block h.1; omega
theorem NVar.stay {w w' : World} {cb n : Nat} {T : Nat → Prop} (h : NVar w cb n T) (e : ∀ b, T b → w'.heap[b]? = w.heap[b]?) : NVar w' cb n T := ⟨(e cb ((h.2 cb).2 rfl)).trans h.1, h.2⟩
def InvWz (cb : Nat) (done : List Wd) (T : Nat → Prop) (w : World) : Prop := NVar w cb done.length T
set_option maxHeartbeats 2000000 in
theorem wsize1_any (cb n : Nat) (hn : n ≤ 100000) (nm : ByteArray) (sl : Option Addr) (al cap : Nat) (T : Nat → Prop) (w : World) (h : NVar w cb n T) :
    Calls Tryz.prog 151 #[.agg #[.string nm, .slice sl al cap], .pointer (some ⟨cb, 0, none⟩)] w fun e w' => e = .returned (.tuple #[]) ∧ VEnd (fun T' w' => NVar w' cb (n + 1) T') T w w' := by
  have H : Hid (NVar w cb n T) := h; have hl := lt_of_block h.1; obtain ⟨W, hW⟩ : ∃ W, w.alloc (.cells #[.string nm, .slice sl al cap] 27 (0, 0)) = W := ⟨_, rfl⟩; (have hq : W.heap[cb]? = some (.cells #[.int .i64 (n : Nat)] 3 (0, 0)) := by rw [← hW]; exact alloc_keep h.1 _); have HQ : Hid (W.heap[cb]? = some (.cells #[.int .i64 (n : Nat)] 3 (0, 0))) := hq; (have HB : Hid (Below w.heap.size w W) := by rw [← hW]; exact below_more (Below.refl _ w) _); obtain ⟨k0, k1⟩ := blk1 hq; have hl2 := lt_of_block hq; (have hnI : ((n : Nat) : Int) ≤ 100000 := by omega); clear h hl hq hn
  go_enter Tryz.func151, Tryz.ntmps151
  go_wp2_with fail
  go_end0
  (refine ⟨rfl, T, ⟨set1 HQ.out _, H.out.2⟩, ?_, fun b hb => Or.inl hb⟩); (have hk : Kept (fun b => ¬ T b) w W := ⟨HB.out.os, HB.out.tape, HB.out.output, HB.out.size, fun b hb _ => HB.out.block b hb⟩); (exact hk.setCell (p := ⟨cb, 0, none⟩) (fun _ hnt => hnt ((H.out.2 cb).2 rfl)) _)
theorem wsize1_in (cap : Array Value) (w : World) : (callFunc 151 cap).run Tryz.prog w = .ok (.enter 151 cap) w := by
  simp [go_sem]
theorem wsize_visit (w0 : World) (cb M : Nat) (hM : M ≤ 100000) (hcb : w0.heap.size ≤ cb) : VisW w0 151 #[.pointer (some ⟨cb, 0, none⟩)] M (InvWz cb) where
  lt := fun h b hb => by have := NVar.lt h b hb; exact ⟨by omega, this.2⟩
  stay := fun h hk => NVar.stay h fun b hb => hk.block b (NVar.lt h b hb).2 (Or.inl hb)
  ent := fun v w => wsize1_in _ w
  call := fun done T x v w hl hrep hb hi => by
    obtain ⟨n, ar⟩ := x; obtain ⟨sl, cap, rfl, hn, -⟩ := WRp.def.1 hrep; (refine (wsize1_any cb done.length (by omega) n sl _ cap T w hi).mono ?_); rintro e w' ⟨rfl, hv⟩; refine ⟨rfl, ?_⟩; (have e1 : (done ++ [Wd.mk n ar]).length = done.length + 1 := by simp); unfold InvWz; rw [e1]; exact hv
set_option maxHeartbeats 2000000 in
theorem wordsSize_any (l : List Wd) (v : Value) (w0 w : World) (hs : Wd.sizes l ≤ 100000) (hl : WL w0 v l) (hb : Below w0.heap.size w0 w) :
    Calls Tryz.prog 102 #[v] w fun e w' => e = .returned (.int .i64 (Wd.sizes l : Nat)) ∧ Below w.heap.size w w' := by
  have HE : Hid (Calls Tryz.prog 150 #[v, .func (.func 151) #[] #[.pointer (some ⟨w.heap.size, 0, none⟩)]] (w.alloc (.cells #[.int .i64 0] 3 (0, 0))) fun e w' => e = .returned (.tuple #[]) ∧ VEnd (InvWz w.heap.size ([] ++ prWs l)) (fun b => b = w.heap.size) (w.alloc (.cells #[.int .i64 0] 3 (0, 0))) w') :=
    eachWord_any (wsize_visit w0 w.heap.size 100000 (Nat.le_refl _) hb.size) [] _ l v _ (by simpa using hs) hl (below_more hb _) ⟨blk_new _ _, fun b => Iff.rfl⟩
  (have hmf : ∀ (fn : Fn) (first cap : Array Value) (w : World), (Instr.makeFunc fn first cap).run Tryz.prog w = .ok (.func fn first cap) w := fun _ _ _ _ => rfl); (have hcl : w.heap.size < (w.alloc (.cells #[.int .i64 0] 3 (0, 0))).heap.size := by simp); obtain ⟨sl, cap, rfl, -⟩ := hl; rw [List.nil_append] at HE; clear hs hb
  go_enter Tryz.func102, Tryz.ntmps102
  go_wp2_with (first
    | (go_at_call 150
       refine HE.out.mono ?_; rintro e w2 ⟨rfl, T', ⟨h1, h2⟩, hk, -⟩; (have HK : Hid (Below w.heap.size w w2) := (below_more (Below.refl _ w) _).trans (hk.below (by simp) fun b hb e => by omega)); rw [prWs_len] at h1; obtain ⟨k0, k1⟩ := blk1 h1
       clear h1 h2 hk)
    | fail)
  go_ret; exact ⟨rfl, HK.out⟩
end Go.Proofs.YtheiikkeelbjnajGreat
