/- Texts of one proof, one behind the other: CS1. -/
import Derived.Test.YtlmjnglcdgkomacB38
import Derived.Test.YtlmjnglcdgkomacB12
/- A proof with a formula for a name: plain. -/
namespace Go.Proofs.Ytlmjnglcdgkomac
open Go.RowKit

theorem putF_keeps (nm : ByteArray) (g : Fm) (k : Int) (n : ByteArray) (ks : List Fm) (hk : k ≠ 1) : putF nm g (.mk k n ks) = .mk k n (ks.map (putF nm g)) := by
  rw [putF, putFs_map, if_neg]; unfold hasN; simp [hk]
theorem within_perm {l m m' : List Fm} (h : within l m = true) (hp : m.Perm m') : within l m' = true := by
  rw [within_count] at h ⊢; intro f; rw [← hp.count_eq]; exact h f
theorem map_erase_perm (φ : Fm → Fm) {f : Fm} {m : List Fm} (h : f ∈ m) : ((m.map φ).erase (φ f)).Perm ((m.erase f).map φ) := by
  have h1 : (m.map φ).Perm (φ f :: (m.erase f).map φ) := (List.perm_cons_erase h).map φ; have h2 := h1.erase (φ f); rw [List.erase_cons_head] at h2; exact h2
theorem within_map (φ : Fm → Fm) : ∀ (l m : List Fm), within l m = true → within (l.map φ) (m.map φ) = true
  | [], _, _ => rfl
  | f :: l, m, h => by
    rw [within, Bool.and_eq_true, decide_eq_true_eq] at h; rw [List.map_cons, within, Bool.and_eq_true, decide_eq_true_eq]; exact ⟨List.mem_map_of_mem h.1, within_perm (within_map φ l _ h.2) (map_erase_perm φ h.1).symm⟩

mutual
/-- A proof with a formula for a name. -/
def Pf.sub (nm : ByteArray) (g : Fm) : Pf → Pf
  | .mk a f l r ks => .mk a (putF nm g f) (l.map (putF nm g)) (r.map (putF nm g)) (Pf.subs nm g ks)
def Pf.subs (nm : ByteArray) (g : Fm) : List Pf → List Pf
  | [] => []
  | k :: ks => k.sub nm g :: Pf.subs nm g ks
end
theorem subs_map (nm : ByteArray) (g : Fm) : ∀ ks, Pf.subs nm g ks = ks.map (Pf.sub nm g)
  | [] => by rw [Pf.subs]; rfl
  | k :: ks => by rw [Pf.subs, subs_map nm g ks]; rfl
theorem subs_len (nm : ByteArray) (g : Fm) (ks : List Pf) : (Pf.subs nm g ks).length = ks.length := by rw [subs_map, List.length_map]
theorem sub_l (nm : ByteArray) (g : Fm) (k : Pf) : (k.sub nm g).l = k.l.map (putF nm g) := by cases k; rw [Pf.sub]; rfl
theorem sub_r (nm : ByteArray) (g : Fm) (k : Pf) : (k.sub nm g).r = k.r.map (putF nm g) := by cases k; rw [Pf.sub]; rfl

/-- Premises under a map. -/
def MpR (φ : Fm → Fm) : List (List Fm × List Fm) → List (List Fm × List Fm) → Prop
  | [], [] => True
  | s :: ss, t :: ts => t.1.Perm (s.1.map φ) ∧ t.2.Perm (s.2.map φ) ∧ MpR φ ss ts
  | _, _ => False
theorem MpR.len {φ : Fm → Fm} : ∀ {ss ts : List (List Fm × List Fm)}, MpR φ ss ts → ts.length = ss.length
  | [], [], _ => rfl
  | s :: ss, t :: ts, h => by rw [List.length_cons, List.length_cons, MpR.len h.2.2]
  | [], _ :: _, h => h.elim
  | _ :: _, [], h => h.elim
theorem kidsC_sub {nm : ByteArray} {g : Fm} : ∀ {ks : List Pf} {ss ts : List (List Fm × List Fm)}, MpR (putF nm g) ss ts → kidsC ks ss = 0 → kidsC (Pf.subs nm g ks) ts = 0
  | [], ss, ts, _, _ => by rw [Pf.subs]; cases ts <;> rfl
  | k :: ks, [], [], _, _ => by rw [Pf.subs]; rfl
  | k :: ks, s :: ss, t :: ts, h, h0 => by
    rw [kidsC] at h0
    split at h0
    · rename_i hb
      rw [Bool.and_eq_true, isEq_perm, isEq_perm] at hb; rw [Pf.subs, kidsC, if_pos]
      · exact kidsC_sub h.2.2 h0
      · rw [Bool.and_eq_true, isEq_perm, isEq_perm, sub_l, sub_r]
        exact ⟨(hb.1.map _).trans h.1.symm, (hb.2.map _).trans h.2.1.symm⟩
    · cases h0
  | _ :: _, [], _ :: _, h, _ => h.elim
  | _ :: _, _ :: _, [], h, _ => h.elim
theorem prem_sub (i : Bool) (q : Ru) (nm : ByteArray) (g f : Fm) (hf : Fine f) (l r : List Fm) (ss : List (List Fm × List Fm)) (h : prem i q f l r = some ss) : ∃ ts, prem i q (putF nm g f) (l.map (putF nm g)) (r.map (putF nm g)) = some ts ∧ MpR (putF nm g) ss ts := by
  (have hl : f ∈ l → putF nm g f ∈ l.map (putF nm g) := fun h => List.mem_map_of_mem h); (have hr : f ∈ r → putF nm g f ∈ r.map (putF nm g) := fun h => List.mem_map_of_mem h); (have el : f ∈ l → ((l.map (putF nm g)).erase (putF nm g f)).Perm ((l.erase f).map (putF nm g)) := fun h => map_erase_perm _ h); (have er : f ∈ r → ((r.map (putF nm g)).erase (putF nm g f)).Perm ((r.erase f).map (putF nm g)) := fun h => map_erase_perm _ h)
  have kk : f.kind ≠ 1 → (putF nm g f).kind = f.kind := fun h => by
    obtain ⟨k, n, ks⟩ := f; rw [putF_keeps nm g k n ks h]; rfl
  have ka : f.kind = 4 → (putF nm g f).kidA = putF nm g f.kidA := fun h => by
    obtain ⟨a, e, ea, -⟩ := fine_one_of hf h; (rw [ea, e, putF_keeps nm g _ _ _ (by decide)]); rfl
  have kab : f.kind = 5 ∨ f.kind = 6 ∨ f.kind = 7 → (putF nm g f).kidA = putF nm g f.kidA ∧ (putF nm g f).kidB = putF nm g f.kidB := fun h => by
    obtain ⟨a, b, e, ea, eb, -, -⟩ := fine_two_of hf h; (rw [ea, eb, e, putF_keeps nm g _ _ _ (by omega)]); exact ⟨rfl, rfl⟩
  generalize putF nm g = φ at *
  cases q <;> simp only [prem] at h ⊢
  case ax =>
    split at h
    · rename_i hc
      cases h
      exact ⟨[], if_pos ⟨hl hc.1, hr hc.2⟩, trivial⟩
    · cases h
  case tr =>
    split at h
    · rename_i hc
      cases h
      (exact ⟨[], if_pos ⟨(kk (by omega)).trans hc.1, hr hc.2⟩, trivial⟩)
    · cases h
  case fa =>
    split at h
    · rename_i hc
      cases h
      (exact ⟨[], if_pos ⟨(kk (by omega)).trans hc.1, hl hc.2⟩, trivial⟩)
    · cases h
  case andL =>
    split at h
    · rename_i hc
      cases h
      have e2 := kab (Or.inl hc.1); simp only [e2.1, e2.2]; (exact ⟨_, if_pos ⟨(kk (by omega)).trans hc.1, hl hc.2⟩, by rw [List.map_append]; exact (el hc.2).append_right _, List.Perm.refl _, trivial⟩)
    · cases h
  case andR =>
    split at h
    · rename_i hc
      cases h
      have e2 := kab (Or.inl hc.1); simp only [e2.1, e2.2]; (exact ⟨_, if_pos ⟨(kk (by omega)).trans hc.1, hr hc.2⟩, List.Perm.refl _, by rw [List.map_append]; exact (er hc.2).append_right _, List.Perm.refl _, by rw [List.map_append]; exact (er hc.2).append_right _, trivial⟩)
    · cases h
  case orL =>
    split at h
    · rename_i hc
      cases h
      have e2 := kab ((Or.inr ∘ Or.inl) hc.1); simp only [e2.1, e2.2]; (exact ⟨_, if_pos ⟨(kk (by omega)).trans hc.1, hl hc.2⟩, by rw [List.map_append]; exact (el hc.2).append_right _, List.Perm.refl _, by rw [List.map_append]; exact (el hc.2).append_right _, List.Perm.refl _, trivial⟩)
    · cases h
  case thenR =>
    split at h
    · rename_i hc
      cases h
      have e2 := kab ((Or.inr ∘ Or.inr) hc.1); simp only [e2.1, e2.2]; (exact ⟨_, if_pos ⟨(kk (by omega)).trans hc.1, hr hc.2⟩, by rw [List.map_append]; exact List.Perm.refl _, by rw [List.map_append]; exact (er hc.2).append_right _, trivial⟩)
    · cases h
  case notR =>
    split at h
    · rename_i hc
      cases h
      simp only [ka hc.1]; (exact ⟨_, if_pos ⟨(kk (by omega)).trans hc.1, hr hc.2⟩, by rw [List.map_append]; exact List.Perm.refl _, er hc.2, trivial⟩)
    · cases h
  case contrL =>
    split at h
    · rename_i hc
      cases h
      (exact ⟨_, if_pos (hl hc), by rw [List.map_append]; exact List.Perm.refl _, List.Perm.refl _, trivial⟩)
    · cases h
  case orR =>
    split at h
    · rename_i hc
      cases h
      have e2 := kab ((Or.inr ∘ Or.inl) hc.1); simp only [e2.1, e2.2]; (exact ⟨_, if_pos ⟨(kk (by omega)).trans hc.1, hr hc.2⟩, List.Perm.refl _, by rw [List.map_append]; exact (er hc.2).append_right _, trivial⟩)
    · cases h
  case thenL =>
    split at h
    · rename_i hc
      cases h
      have e2 := kab ((Or.inr ∘ Or.inr) hc.1); simp only [e2.1, e2.2]; (exact ⟨_, if_pos ⟨(kk (by omega)).trans hc.1, hl hc.2⟩, el hc.2, by cases i <;> simp, by rw [List.map_append]; exact (el hc.2).append_right _, List.Perm.refl _, trivial⟩)
    · cases h
  case notL =>
    split at h
    · rename_i hc
      cases h
      simp only [ka hc.1]; (exact ⟨_, if_pos ⟨(kk (by omega)).trans hc.1, hl hc.2⟩, el hc.2, by cases i <;> simp, trivial⟩)
    · cases h
  case contrR =>
    split at h
    · rename_i hc
      cases h
      (exact ⟨_, if_pos (hr hc), List.Perm.refl _, by rw [List.map_append]; exact List.Perm.refl _, trivial⟩)
    · cases h
  case cut =>
    cases h
    (exact ⟨_, rfl, List.Perm.refl _, by cases i <;> simp, by rw [List.map_append]; exact List.Perm.refl _, List.Perm.refl _, trivial⟩)
  case orR1 =>
    split at h
    · rename_i hc
      cases h
      have e2 := kab ((Or.inr ∘ Or.inl) hc.1); simp only [e2.1]; (exact ⟨_, if_pos ⟨(kk (by omega)).trans hc.1, hr hc.2⟩, List.Perm.refl _, List.Perm.refl _, trivial⟩)
    · cases h
  case orR2 =>
    split at h
    · rename_i hc
      cases h
      have e2 := kab ((Or.inr ∘ Or.inl) hc.1); simp only [e2.2]; (exact ⟨_, if_pos ⟨(kk (by omega)).trans hc.1, hr hc.2⟩, List.Perm.refl _, List.Perm.refl _, trivial⟩)
    · cases h
theorem stepC_sub (i : Bool) (nm : ByteArray) (g : Fm) (a : ByteArray) (f : Fm) (l r : List Fm) (ks : List Pf) (hq : (seqCode (l.map (putF nm g)) (r.map (putF nm g))).1 = 0) (hp : a.data.toList ≠ weakT → (putF nm g f).pcode.1 = 0) (h : stepC i (.mk a f l r ks) = 0) : stepC i (.mk a (putF nm g f) (l.map (putF nm g)) (r.map (putF nm g)) (Pf.subs nm g ks)) = 0 := by
  rw [stepC] at h ⊢
  split at h
  · cases h
  · rename_i hn
    (rw [if_neg (fun e => e.elim (fun e => e hq) fun e => hn (Or.inr (by rw [List.length_map] at e; exact e)))])
    split at h
    · rename_i hw
      rw [if_pos hw]; unfold weakC at h ⊢
      split at h
      · rename_i hg
        (rw [hg, putF_keeps nm g 0 _ _ (by decide), List.map_nil, if_pos rfl])
        split at h
        · rename_i k
          split at h
          · rename_i hb
            rw [Bool.and_eq_true] at hb; simp only [Pf.subs]; rw [if_pos]; rw [Bool.and_eq_true, sub_l, sub_r]; exact ⟨within_map _ _ _ hb.1, within_map _ _ _ hb.2⟩
          · cases h
        · cases h
      · cases h
    · rename_i hw
      rw [if_neg hw]
      split at h
      · cases h
      · rename_i q hq'
        split at h
        · cases h
        · rename_i hp0
          (rw [if_neg (fun e => e (hp hw))])
          split at h
          · cases h
          · rename_i ss hss
            (have hp1 : f.pcode.1 = 0 := Classical.byContradiction fun e => hp0 e); obtain ⟨⟨sz, hsz⟩, -⟩ := pcode_ok hp1; obtain ⟨ts, hts, hev⟩ := prem_sub i q nm g f (fine_of_chk f 0 sz hsz) l r ss hss; rw [hts]; simp only
            split at h
            · cases h
            · rename_i hlen
              (rw [if_neg (by rw [subs_len, hev.len]; exact hlen)]); exact kidsC_sub hev h
mutual
/-- Every step, with the formula for the name, is well made. -/
def Pf.fits (nm : ByteArray) (g : Fm) : Pf → Prop
  | .mk a f l r ks => (seqCode (l.map (putF nm g)) (r.map (putF nm g))).1 = 0 ∧ (a.data.toList ≠ weakT → (putF nm g f).pcode.1 = 0) ∧ Pf.fitsL nm g ks
def Pf.fitsL (nm : ByteArray) (g : Fm) : List Pf → Prop
  | [] => True
  | k :: ks => k.fits nm g ∧ Pf.fitsL nm g ks
end
mutual
/-- **A proof stays one.** -/
theorem look_sub (i : Bool) (nm : ByteArray) (g : Fm) : ∀ (p : Pf) (d s c : Nat), (look i p d s c).1.1 = 0 → p.fits nm g → look i (p.sub nm g) d s c = look i p d s c
  | .mk a f l r ks, d, s, c, h, hsh => by
    rw [Pf.fits] at hsh; rw [Pf.sub]; rw [look_def] at h ⊢; rw [look_def]
    split at h
    · cases h
    · rename_i h1
      rw [if_neg h1, if_neg h1]
      split at h
      · rename_i h2
        exact absurd h h2
      · rename_i h2
        (have h3 : stepC i (.mk a f l r ks) = 0 := Classical.byContradiction fun e => h2 e); (rw [if_neg h2, if_neg (fun e => e (stepC_sub i nm g a f l r ks hsh.1 hsh.2.1 h3))]); exact looks_sub i nm g ks _ _ _ h hsh.2.2
theorem looks_sub (i : Bool) (nm : ByteArray) (g : Fm) : ∀ (ks : List Pf) (d s c : Nat), (looks i ks d s c).1.1 = 0 → Pf.fitsL nm g ks → looks i (Pf.subs nm g ks) d s c = looks i ks d s c
  | [], _, _, _, _, _ => by rw [Pf.subs]
  | k :: ks, d, s, c, h, hsh => by
    rw [Pf.fitsL] at hsh; rw [looks] at h
    split at h
    · rename_i hn
      exact absurd h hn
    · rename_i hn
      (have hn' : (look i k d s c).1.1 = 0 := Classical.byContradiction fun e => hn e); rw [Pf.subs, looks, looks, look_sub i nm g k d s c hn' hsh.1, if_neg hn, looks_sub i nm g ks _ _ _ h hsh.2]; rw [if_neg hn]
end
end Go.Proofs.Ytlmjnglcdgkomac
