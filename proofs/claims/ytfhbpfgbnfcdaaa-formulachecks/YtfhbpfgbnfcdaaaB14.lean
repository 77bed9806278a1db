/- Texts of one proof, one behind the other: Tok1, Climb0. -/
import Derived.Test.YtfhbpfgbnfcdaaaB13
import Derived.Test.YtfhbpfgbnfcdaaaB06
/- Walks: the yardstick's names and tokens. -/
namespace Go.Proofs.Ytfhbpfgbnfcdaaa
open Go.RowKit

set_option maxHeartbeats 1000000 in
theorem refName_any (s : ByteArray) (hs : s.size ≤ maxLen) (w : World) :
    Calls Try.prog 27 #[.string s] w fun e w' => e = .returned (.bool (isNm s.data.toList)) ∧ w' = w := by
  have hsz : s.data.toList.length = s.size := Array.length_toList; unfold maxLen at hs; have HN : Hid (isNm s.data.toList = (allLow s.data.toList && decide (0 < s.data.toList.length) && decide (s.data.toList.length < 9))) := isNm_all _; have HZ : Hid (s.data.toList.length = s.size) := hsz; clear hsz
  go_enter Try.func27, Try.ntmps27
  go_wp2
  go_loop [3] (fun v => ∃ k l, At s k l ∧ v = .int .i64 (k : Nat) ∧ allLow s.data.toList = allLow l) (fun v => s.size - (intOf v).toNat)
  case atStart => exact ⟨0, s.data.toList, ⟨Nat.zero_le _, by simp⟩, rfl, rfl⟩
  case round =>
    obtain ⟨k, l, ha, rfl, hl⟩ := hrel; have hlen := ha.len; have HL : Hid (At s k l ∧ allLow s.data.toList = allLow l) := ⟨ha, hl⟩; clear ha hl
    cases l with
    | nil =>
      simp at hlen; (have hd : decide ((k : Int) < (s.size : Int)) = false := by simp; omega); go_wp2
      all_goals
        go_ret; refine ⟨ret_bool ?_, rfl⟩; rw [HN.out, HL.out.2, HZ.out]; rw [Bool.eq_iff_iff]; simp only [allLow, List.all_nil, Bool.true_and, Bool.and_eq_true, decide_eq_true_eq, Bool.false_eq_true, false_iff]
        omega
    | cons c l =>
      simp at hlen; (have hlt' : k < s.size := by omega); (have hlt : (k : Int) < (s.size : Int) := by omega); have hhd : s[k] = c := HL.out.1.head hlt'; by_cases hc : lower c
      · have hx : (97 : Int) ≤ (s[k].toNat : Int) := by rw [hhd]; simp [lower] at hc; omega
        (have hy : (s[k].toNat : Int) ≤ 122 := by rw [hhd]; simp [lower] at hc; omega); (have HM : Hid (At s (k + 1) l ∧ allLow s.data.toList = allLow l) := ⟨HL.out.1.cons, by rw [HL.out.2]; simp only [allLow, List.all_cons, hc, Bool.true_and]⟩); clear hhd hc; go_wp2
        go_round
        case rel => exact ⟨k + 1, l, HM.out.1, by go_num, HM.out.2⟩
        case measure => simp [intOf]; omega
      · have hx : ¬ ((97 : Int) ≤ (s[k].toNat : Int) ∧ (s[k].toNat : Int) ≤ 122) := by rw [hhd]; simp [lower] at hc; omega
        have HM : Hid (allLow s.data.toList = false) := by
          show _ = _; rw [HL.out.2]; simp only [allLow, List.all_cons, Bool.eq_false_iff.2 hc, Bool.false_and]
        clear hhd hc; go_wp2
        all_goals
          go_ret; refine ⟨ret_bool ?_, rfl⟩; rw [HN.out, HM.out]; rfl

/-- A piece of a text. -/
theorem At.piece {t : ByteArray} {a : Nat} {l : List UInt8} (h : At t a l) (k : Nat) : (t.extract a (a + k)).data.toList = l.take k := by
  rw [← h.2, ByteArray.data_extract, Array.toList_extract, List.extract_eq_take_drop]
  congr 1; omega

theorem prefix_take {s l : List UInt8} : s.isPrefixOf l = true ↔ s.length ≤ l.length ∧ l.take s.length = s := by
  rw [List.isPrefixOf_iff_prefix]
  constructor
  · intro h
    exact ⟨h.length_le, (List.prefix_iff_eq_take.1 h).symm⟩
  · rintro ⟨-, h⟩
    rw [← h]; exact List.take_prefix _ _

/-- What a token is answered as. -/
def TPost (t : ByteArray) (l : List UInt8) (w : World) (e : Ending) (w' : World) : Prop :=
  ∃ a1 a2, e = .returned (.tuple #[.string ⟨(tok l).1.toArray⟩, .int .i64 (a1 : Nat), .int .i64 (a2 : Nat)]) ∧ At t a1 (tok l).2.1 ∧ At t a2 (tok l).2.2 ∧ Below w.heap.size w w'

theorem TPost.of {t : ByteArray} {l : List UInt8} {w w' : World} {s : ByteArray} {x y : Int} (a1 a2 : Nat) {tk r q : List UInt8} (ht : tok l = (tk, r, q)) (hs : s = ⟨tk.toArray⟩) (hx : x = a1) (hy : y = a2) (h1 : At t a1 r) (h2 : At t a2 q) (hb : Below w.heap.size w w') :
    TPost t l w (.returned (.tuple #[.string s, .int .i64 x, .int .i64 y])) w' := by
  subst hs hx hy; (exact ⟨a1, a2, by rw [ht], by rw [ht]; exact h1, by rw [ht]; exact h2, hb⟩)

set_option maxRecDepth 100000 in
set_option maxHeartbeats 2000000 in
theorem token_any (t : ByteArray) (ht : t.size ≤ 40000) (a : Nat) (l : List UInt8) (ha : At t a l) (w : World) :
    Calls Try.prog 51 #[.string t, .int .i64 a] w (TPost t l w) := by
  (have htI : (t.size : Int) ≤ 40000 := by omega)
  go_enter Try.func51, Try.ntmps51
  go_wp2
  go_loopg [1] l.length (fun g v wr => w = wr ∧ ∃ a' l', At t a' l' ∧ v = .int .i64 (a' : Nat) ∧ l'.length = g ∧ Hid (skipB l' = skipB l))
  case atStart => exact ⟨rfl, a, l, ha, rfl, rfl, rfl⟩
  case round =>
    obtain ⟨rfl, a', l', ha', rfl, hg, HS⟩ := hrel; have hlen := ha'.len; have HA : Hid (At t a' l' ∧ l'.length = gk) := ⟨ha', hg⟩; clear ha' hg ha
    cases l' with
    | nil =>
      simp at hlen; subst hlen; (have hd : decide ((t.size : Int) < (t.size : Int)) = false := by simp)
      have ht : tok l = ([], [], []) := by
        have : skipB l = [] := HS.out.symm; simp [tok, this]
      have HT : Hid (tok l = ([], [], [])) := ht; clear ht; go_wp2; go_ret3
      exact TPost.of t.size t.size HT.out rfl rfl rfl HA.out.1 HA.out.1 (Below.refl _ _)
    | cons c l' =>
      simp at hlen; (have hlt : (a' : Int) < (t.size : Int) := by omega); (have hlt' : a' < t.size := by omega); have hhd : t[a'] = c := HA.out.1.head hlt'; by_cases h1 : blank c
      · have hx : ((t[a'].toNat : Int) = 32) ∨ ((t[a'].toNat : Int) = 10) := by
          rw [hhd]; simp only [blank, Bool.or_eq_true, beq_iff_eq] at h1
          rcases h1 with h | h <;> subst h
          · left; rfl
          · right; rfl
        (have HN : Hid (At t (a' + 1) l' ∧ skipB l' = skipB l) := ⟨HA.out.1.cons, by rw [← HS.out, skipB, if_pos h1]⟩); clear hhd h1
        rcases hx with hx | hx
        all_goals
          go_wp2
          go_roundg l'.length
          case measure => have := HA.out.2; simp at this; omega
          case rel => exact ⟨rfl, a' + 1, l', HN.out.1, by go_num, rfl, HN.out.2⟩
      · have hx : ¬ ((t[a'].toNat : Int) = 32) := by
          (rw [hhd]; intro h; apply h1; have : c = 32 := UInt8.toNat_inj.1 (by simpa using (Int.ofNat.inj h)); simp [blank, this])
        have hy : ¬ ((t[a'].toNat : Int) = 10) := by
          (rw [hhd]; intro h; apply h1; have : c = 10 := UInt8.toNat_inj.1 (by simpa using (Int.ofNat.inj h)); simp [blank, this])
        (have hx' : ((t[a'].toNat : Int) == 32) = false := by simpa using hx); (have hy' : ((t[a'].toNat : Int) == 10) = false := by simpa using hy); (have hR : skipB l = c :: l' := by rw [← HS.out, skipB, if_neg h1]); have HR : Hid (skipB l = c :: l') := hR; (have hne : ((a' : Int) == (t.size : Int)) = false := by simp; omega); clear hhd h1 hR; go_wp2
        have hc0 : ∀ j, j < 10 → (w.alloc (.cells #[.string ⟨#[45, 62]⟩, .string ⟨#[91, 93]⟩, .string ⟨#[60, 62]⟩, .string ⟨#[126]⟩, .string ⟨#[38]⟩, .string ⟨#[124]⟩, .string ⟨#[40]⟩, .string ⟨#[41]⟩, .string ⟨#[49]⟩, .string ⟨#[48]⟩] 9 (0, 0))).cell? ⟨w.heap.size, j, none⟩ = some (.string ⟨(sg j).toArray⟩) := by
          intro j hj; rw [blk_cell (blk_new _ _) j]; (have : j = 0 ∨ j = 1 ∨ j = 2 ∨ j = 3 ∨ j = 4 ∨ j = 5 ∨ j = 6 ∨ j = 7 ∨ j = 8 ∨ j = 9 := by omega)
          rcases this with e | e | e | e | e | e | e | e | e | e <;> subst e <;> rfl
        have HC : Hid (∀ j, j < 10 → World.cell? _ _ = some (.string ⟨(sg j).toArray⟩)) := hc0; clear hc0; have hb0 : Below w.heap.size w (w.alloc (.cells #[.string ⟨#[45, 62]⟩, .string ⟨#[91, 93]⟩, .string ⟨#[60, 62]⟩, .string ⟨#[126]⟩, .string ⟨#[38]⟩, .string ⟨#[124]⟩, .string ⟨#[40]⟩, .string ⟨#[41]⟩, .string ⟨#[49]⟩, .string ⟨#[48]⟩] 9 (0, 0))) := (Below.refl _ _).alloc (Nat.le_refl _) _
        go_loopg [8] 10 (fun g v wx => ∃ k, k ≤ 10 ∧ g = 10 - k ∧ v = .int .i64 (k : Nat) ∧ Hid (∀ j, j < 10 → wx.cell? ⟨w.heap.size, j, none⟩ = some (.string ⟨(sg j).toArray⟩)) ∧ Below w.heap.size w wx ∧ Hid (signAt 10 0 (c :: l') = signAt (10 - k) k (c :: l')))
        case atStart => exact ⟨0, by omega, rfl, rfl, HC, hb0, rfl⟩
        case round =>
          clear HC hb0; obtain ⟨k, hk, hg, rfl, HC, hbx, HS2⟩ := hrel; have HG : Hid (gk = 10 - k) := hg; clear hg; have AA : Hid (At t a' (c :: l')) := HA.out.1; clear HA HS; by_cases hk10 : k < 10
          · have hcell := HC.out k hk10
            (have hkI : (k : Int) < 10 := by omega); have hsl := sg_len k
            have hst : signAt (10 - k) k (c :: l') = if (sg k).isPrefixOf (c :: l') then some k else signAt (10 - (k + 1)) (k + 1) (c :: l') := by
              (rw [show 10 - k = (10 - (k + 1)) + 1 by omega]; rfl)
            have hsz : (⟨(sg k).toArray⟩ : ByteArray).size = (sg k).length := rfl; (have hslI : ((sg k).length : Int) ≤ 2 := by omega); by_cases hpf : (sg k).isPrefixOf (c :: l') = true
            · have hpt := prefix_take.1 hpf
              rw [if_pos hpf] at hst
              have hpc : t.extract a' (a' + (sg k).length) = ⟨(sg k).toArray⟩ := by
                apply ByteArray.ext; apply Array.ext'; rw [AA.out.piece, hpt.2]
              (have hle : (a' : Int) + ((sg k).length : Int) ≤ (t.size : Int) := by have := hpt.1; simp at this; omega)
              have HT : Hid (tok l = (sg k, c :: l', (c :: l').drop (sg k).length)) := by
                show _ = _; simp only [tok, HR.out, HS2.out, hst]; rfl
              have HL : Hid ((sg k).length ≤ (c :: l').length) := hpt.1; clear hpf hpt hst HS2; generalize sg k = sk at *; go_wp2
              go_quiet (fail)
              go_wp2; go_ret3; (exact TPost.of a' (a' + sk.length) HT.out rfl rfl (by omega) AA.out (AA.out.drop _ HL.out) (show Below _ _ (World.drewN _ _) from ⟨hbx.os, hbx.tape, hbx.output, hbx.size, hbx.block⟩))
            · rw [if_neg hpf] at hst
              (have HN : Hid (signAt 10 0 (c :: l') = signAt (10 - (k + 1)) (k + 1) (c :: l')) := by rw [← hst]; exact HS2.out); have HH : Hid (∀ j, j < 10 → wr.cell? ⟨w.heap.size, j, none⟩ = some (.string ⟨(sg j).toArray⟩)) := HC.out; by_cases hle : a' + (sg k).length ≤ t.size
              · have hleI : (a' : Int) + ((sg k).length : Int) ≤ (t.size : Int) := by omega
                obtain ⟨pc, hpc⟩ : ∃ pc, t.extract a' (a' + (sg k).length) = pc := ⟨_, rfl⟩
                have hpn : (pc.toList == sg k) = false := by
                  rw [← hpc, ByteArray.toList_eq, AA.out.piece, beq_eq_false_iff_ne]; intro e; (exact hpf (prefix_take.2 ⟨by simp; omega, e⟩))
                clear hpf hst HS2 HC hle; (have KB : Hid (k + 1 ≤ 10 ∧ 10 - (k + 1) < gk) := ⟨by omega, by have := HG.out; omega⟩); generalize sg k = sk at *; go_wp2
                go_quiet (fail)
                go_wp2
                go_roundg (10 - (k + 1))
                case measure => exact KB.out.2
                case rel => exact ⟨k + 1, KB.out.1, rfl, by go_num, HH, ⟨hbx.os, hbx.tape, hbx.output, hbx.size, hbx.block⟩, HN⟩
              · have hleI : decide ((a' : Int) + ((sg k).length : Int) ≤ (t.size : Int)) = false := by simp; omega
                clear hpf hst HS2 HC hle; (have KB : Hid (k + 1 ≤ 10 ∧ 10 - (k + 1) < gk) := ⟨by omega, by have := HG.out; omega⟩); generalize sg k = sk at *; go_wp2
                go_quiet (fail)
                go_wp2
                go_roundg (10 - (k + 1))
                case measure => exact KB.out.2
                case rel => exact ⟨k + 1, KB.out.1, rfl, by go_num, HH, ⟨hbx.os, hbx.tape, hbx.output, hbx.size, hbx.block⟩, HN⟩
          · obtain rfl : k = 10 := by omega
            have hno : signAt 10 0 (c :: l') = none := HS2.out; clear hk10 HS2 HC; go_wp2; have AL : Hid ((letters (c :: l')).length ≤ (c :: l').length) := letters_length _
            go_loopg [10] (c :: l').length (fun g v wx => wr = wx ∧ ∃ j m, At t j m ∧ v = .int .i64 (j : Nat) ∧ m.length = g ∧ Hid (a' + (letters (c :: l')).length = j + (letters m).length))
            case atStart => exact ⟨rfl, a', c :: l', AA.out, rfl, rfl, rfl⟩
            case round =>
              obtain ⟨rfl, j, m, hj, rfl, hg, HJ⟩ := hrel; have hlj := hj.len; have HM : Hid (At t j m ∧ m.length = gk) := ⟨hj, hg⟩; clear hj hg
              cases m with
              | nil =>
                simp at hlj; subst hlj; (have hd : decide ((t.size : Int) < (t.size : Int)) = false := by simp); (have hjj : t.size = a' + (letters (c :: l')).length := by have h0 : (letters ([] : List UInt8)).length = 0 := rfl; have := HJ.out; omega)
                have hpl : (t.extract a' t.size).data.toList = letters (c :: l') := by
                  have := AA.out.piece (letters (c :: l')).length; rw [← hjj, ← letters_prefix] at this; exact this
                have hpc : t.extract a' t.size = ⟨(letters (c :: l')).toArray⟩ := by
                  apply ByteArray.ext; apply Array.ext'; rw [hpl]
                (have hajI : (a' : Int) ≤ (t.size : Int) := by omega)
                have hin := refName_any ⟨(letters (c :: l')).toArray⟩ (by
                  have : (⟨(letters (c :: l')).toArray⟩ : ByteArray).size = (letters (c :: l')).length := rfl; have := AL.out
                  unfold maxLen; simp at this; omega)
                rw [show (⟨(letters (c :: l')).toArray⟩ : ByteArray).data.toList = letters (c :: l') from rfl] at hin; (have HQ : Hid (At t a' (c :: l') ∧ At t (a' + 1) l' ∧ At t t.size ((c :: l').drop (letters (c :: l')).length)) := ⟨AA.out, AA.out.cons, by have := AA.out.drop _ AL.out; rw [← hjj] at this; exact this⟩)
                have HT : Hid (tok l = if isNm (letters (c :: l')) then (letters (c :: l'), c :: l', (c :: l').drop (letters (c :: l')).length) else ([63], c :: l', l')) := by
                  show _ = _; simp only [tok, HR.out, hno]; rfl
                clear hjj hpl hno HJ; generalize letters (c :: l') = lt at *
                rcases hnm : isNm lt with _ | _
                · rw [hnm] at hin HT
                  (have HT2 : Hid (tok l = ([63], c :: l', l')) := by have := HT.out; rw [if_neg (by decide)] at this; exact this); clear HT hnm
                  go_wp2_with (first
                    | (go_at_call 27; refine (hin _).mono ?_; rintro e w1 ⟨rfl, rfl⟩)
                    | fail)
                  go_ret3; (exact TPost.of a' (a' + 1) HT2.out rfl rfl (by omega) HQ.out.1 HQ.out.2.1 hbx)
                · rw [hnm] at hin HT
                  (have HT2 : Hid (tok l = (lt, c :: l', (c :: l').drop lt.length)) := by have := HT.out; rw [if_pos rfl] at this; exact this); clear HT hnm
                  go_wp2_with (first
                    | (go_at_call 27; refine (hin _).mono ?_; rintro e w1 ⟨rfl, rfl⟩)
                    | fail)
                  go_ret3; exact TPost.of a' t.size HT2.out rfl rfl rfl HQ.out.1 HQ.out.2.2 hbx

              | cons d m =>
                simp at hlj; (have jlt : (j : Int) < (t.size : Int) := by omega); (have jlt' : j < t.size := by omega); have jhd : t[j] = d := HM.out.1.head jlt'; by_cases hdl : lower d
                · have hx2 : (97 : Int) ≤ (t[j].toNat : Int) := by rw [jhd]; simp [lower] at hdl; omega
                  (have hy2 : (t[j].toNat : Int) ≤ 122 := by rw [jhd]; simp [lower] at hdl; omega); (have HN : Hid (At t (j + 1) m ∧ a' + (letters (c :: l')).length = (j + 1) + (letters m).length) := ⟨HM.out.1.cons, by rw [HJ.out, letters, if_pos hdl]; simp; omega⟩); (have HK : Hid (m.length < gk) := by have := HM.out.2; simp at this; show _ < _; omega); clear jhd hdl HJ; go_wp2
                  go_roundg m.length
                  case measure => exact HK.out
                  case rel => exact ⟨rfl, j + 1, m, HN.out.1, by go_num, rfl, HN.out.2⟩
                · have hx2 : ¬ ((97 : Int) ≤ (t[j].toNat : Int) ∧ (t[j].toNat : Int) ≤ 122) := by rw [jhd]; simp [lower] at hdl; omega
                  (have hjj : j = a' + (letters (c :: l')).length := by have h0 : (letters (d :: m)).length = 0 := (by rw [letters, if_neg hdl]; rfl); have := HJ.out; omega); (have hpl : (t.extract a' j).data.toList = letters (c :: l') := by rw [hjj, AA.out.piece, ← letters_prefix])
                  have hpc : t.extract a' j = ⟨(letters (c :: l')).toArray⟩ := by
                    apply ByteArray.ext; apply Array.ext'; rw [hpl]
                  (have hajI : (a' : Int) ≤ (j : Int) := by omega); (have hjI : (j : Int) ≤ (t.size : Int) := by omega)
                  have hin := refName_any ⟨(letters (c :: l')).toArray⟩ (by
                    have : (⟨(letters (c :: l')).toArray⟩ : ByteArray).size = (letters (c :: l')).length := rfl; have := AL.out
                    unfold maxLen; simp at this; omega)
                  rw [show (⟨(letters (c :: l')).toArray⟩ : ByteArray).data.toList = letters (c :: l') from rfl] at hin; (have HQ : Hid (At t a' (c :: l') ∧ At t (a' + 1) l' ∧ At t j ((c :: l').drop (letters (c :: l')).length)) := ⟨AA.out, AA.out.cons, by rw [hjj]; exact AA.out.drop _ AL.out⟩)
                  have HT : Hid (tok l = if isNm (letters (c :: l')) then (letters (c :: l'), c :: l', (c :: l').drop (letters (c :: l')).length) else ([63], c :: l', l')) := by
                    show _ = _; simp only [tok, HR.out, hno]; rfl
                  clear hjj hpl hno HJ jhd hdl; generalize letters (c :: l') = lt at *
                  rcases hnm : isNm lt with _ | _
                  · rw [hnm] at hin HT
                    (have HT2 : Hid (tok l = ([63], c :: l', l')) := by have := HT.out; rw [if_neg (by decide)] at this; exact this); clear HT hnm
                    go_wp2_with (first
                      | (go_at_call 27; refine (hin _).mono ?_; rintro e w1 ⟨rfl, rfl⟩)
                      | fail)
                    all_goals
                      go_ret3; (exact TPost.of a' (a' + 1) HT2.out rfl rfl (by omega) HQ.out.1 HQ.out.2.1 hbx)
                  · rw [hnm] at hin HT
                    (have HT2 : Hid (tok l = (lt, c :: l', (c :: l').drop lt.length)) := by have := HT.out; rw [if_pos rfl] at this; exact this); clear HT hnm
                    go_wp2_with (first
                      | (go_at_call 27; refine (hin _).mono ?_; rintro e w1 ⟨rfl, rfl⟩)
                      | fail)
                    all_goals
                      go_ret3; exact TPost.of a' j HT2.out rfl rfl rfl HQ.out.1 HQ.out.2.2 hbx
end Go.Proofs.Ytfhbpfgbnfcdaaa
/- Walks: reading by climbing: what it leaves; ranks of signs. -/
namespace Go.Proofs.Ytfhbpfgbnfcdaaa
open Go.RowKit

def rk (l : List UInt8) : Int := if l = [45, 62] then 1 else if l = [124] then 2 else if l = [38] then 3 else 0

set_option maxHeartbeats 1000000 in
theorem rank_any (s : ByteArray) (w : World) :
    Calls Try.prog 85 #[.string s] w fun e w' => e = .returned (.int .i64 (rk s.data.toList)) ∧ w' = w := by
  go_enter Try.func85, Try.ntmps85
  go_wp2
  all_goals
    go_ret; refine ⟨ret_int ?_, rfl⟩; simp only [ByteArray.toList_eq, beq_iff_eq, beq_eq_false_iff_ne, ne_eq] at *
    simp_all [rk]

theorem signAt_some : ∀ (m k : Nat) (r : List UInt8) (j : Nat), signAt m k r = some j → k ≤ j ∧ j < k + m ∧ (sg j).isPrefixOf r = true
  | 0, k, r, j, h => by rw [signAt] at h; cases h
  | m + 1, k, r, j, h => by
    rw [signAt] at h
    split at h
    · rename_i hp; cases h; exact ⟨Nat.le_refl _, by omega, hp⟩
    · obtain ⟨h1, h2, h3⟩ := signAt_some m (k + 1) r j h
      (exact ⟨by omega, by omega, h3⟩)

theorem rk_none {l : List UInt8} (h1 : takeS [38] l = none) (h2 : takeS [124] l = none) (h3 : takeS [45, 62] l = none) : rk (tok l).1 = 0 := by
  have pf : ∀ s, takeS s l = none → s.isPrefixOf (skipB l) = false := fun s h => by
    unfold takeS at h
    split at h
    · cases h
    · rename_i hp; exact Bool.eq_false_iff.2 hp
  unfold tok; simp only
  split
  · rfl
  · split
    · rename_i k hk
      have p1 := pf _ h1; have p2 := pf _ h2; have p3 := pf _ h3; obtain ⟨-, hk10, hkp⟩ := signAt_some 10 0 _ k hk; (have : k = 0 ∨ k = 1 ∨ k = 2 ∨ k = 3 ∨ k = 4 ∨ k = 5 ∨ k = 6 ∨ k = 7 ∨ k = 8 ∨ k = 9 := by omega)
      rcases this with e | e | e | e | e | e | e | e | e | e <;> subst e
      · exact absurd (hkp.symm.trans p3) (by decide)
      · show rk (sg 1) = 0; decide
      · show rk (sg 2) = 0; decide
      · show rk (sg 3) = 0; decide
      · exact absurd (hkp.symm.trans p1) (by decide)
      · exact absurd (hkp.symm.trans p2) (by decide)
      · show rk (sg 6) = 0; decide
      · show rk (sg 7) = 0; decide
      · show rk (sg 8) = 0; decide
      · show rk (sg 9) = 0; decide
    · split
      · rename_i hn
        have hp := isNm_bd hn
        have hl : letters (skipB l) ≠ [45, 62] ∧ letters (skipB l) ≠ [124] ∧ letters (skipB l) ≠ [38] := by
          have aux : ∀ (c : UInt8) (m : List UInt8), lower c = false → letters (skipB l) ≠ c :: m := fun c m hc e => by
            cases h : skipB l with
            | nil => rw [h, letters] at e; cases e
            | cons d n =>
              rw [h, letters] at e
              split at e
              · rename_i hd
                rw [(List.cons.inj e).1, hc] at hd; cases hd
              · cases e
          exact ⟨aux _ _ rfl, aux _ _ rfl, aux _ _ rfl⟩
        simp only [rk, hl.1, hl.2.1, hl.2.2, if_false]
      · rfl

theorem sg_head (k : Nat) (hk : k < 10) : ∃ c m, sg k = c :: m ∧ lower c = false ∧ c ≠ 63 := by
  (have : k = 0 ∨ k = 1 ∨ k = 2 ∨ k = 3 ∨ k = 4 ∨ k = 5 ∨ k = 6 ∨ k = 7 ∨ k = 8 ∨ k = 9 := by omega)
  rcases this with e | e | e | e | e | e | e | e | e | e <;> subst e <;> exact ⟨_, _, rfl, by decide, by decide⟩

theorem letters_head {l : List UInt8} {c : UInt8} {m : List UInt8} (h : letters l = c :: m) : lower c = true := by
  cases l with
  | nil => rw [letters] at h; cases h
  | cons d n =>
    rw [letters] at h
    split at h
    · rename_i hd; rw [← (List.cons.inj h).1]; exact hd
    · cases h

/-- A token that reads as a sign is that sign. -/
theorem tok_conv {k : Nat} (hk : k < 10) {l : List UInt8} (h : (tok l).1 = sg k) : ∃ q, takeS (sg k) l = some q := by
  obtain ⟨c, m, hc, hl, hq⟩ := sg_head k hk; unfold tok at h; simp only at h
  split at h
  · rw [hc] at h; cases h
  · split at h
    · rename_i j hj
      have hp := (signAt_some 10 0 _ j hj).2.2; have h : sg j = sg k := h; rw [h] at hp; (exact ⟨_, by unfold takeS; rw [if_pos hp]⟩)
    · split at h
      · have h : letters (skipB l) = sg k := h
        rw [hc] at h; have := letters_head h; rw [hl] at this; cases this
      · have h : [63] = sg k := h
        rw [hc] at h; exact absurd (List.cons.inj h).1.symm hq
theorem tok_ne {k : Nat} (hk : k < 10) {l : List UInt8} (h : takeS (sg k) l = none) : ((tok l).1 == sg k) = false := by
  rw [beq_eq_false_iff_ne]; intro e; obtain ⟨q, hq⟩ := tok_conv hk e; rw [h] at hq; cases hq

/-- A name that stands first. -/
theorem tok_name {l : List UInt8} (h : isNm (letters (skipB l)) = true) : tok l = (letters (skipB l), skipB l, (skipB l).drop (letters (skipB l)).length) := by
  have hb := isNm_bd h
  obtain ⟨c, m, hc⟩ : ∃ c m, letters (skipB l) = c :: m := by
    cases hh : letters (skipB l) with
    | nil => rw [hh] at hb; simp at hb
    | cons c m => exact ⟨c, m, rfl⟩
  have hlow := letters_head hc
  obtain ⟨n, hn⟩ : ∃ n, skipB l = c :: n := by
    cases hs : skipB l with
    | nil => rw [hs, letters] at hc; cases hc
    | cons d n =>
      rw [hs, letters] at hc
      split at hc
      · exact ⟨n, by rw [(List.cons.inj hc).1]⟩
      · cases hc
  have hsg : signAt 10 0 (skipB l) = none := by
    have aux : ∀ k, k < 10 → (sg k).isPrefixOf (skipB l) = false := fun k hk => by
      obtain ⟨d, p, hd, hld, -⟩ := sg_head k hk; rw [hd, hn, List.isPrefixOf, lower_ne hlow hld]; rfl
    simp [signAt, aux]
  (have hne : skipB l ≠ [] := by rw [hn]; simp); simp only [tok, hne, if_false, hsg, h, if_true]

/-- Neither a sign that may stand first nor a name. -/
theorem tok_other {l : List UInt8} (hn : isNm (letters (skipB l)) = false) : isNm (tok l).1 = false := by
  unfold tok; simp only
  split
  · rfl
  · split
    · rename_i k hk
      have hk10 := (signAt_some 10 0 _ k hk).2.1; (have : k = 0 ∨ k = 1 ∨ k = 2 ∨ k = 3 ∨ k = 4 ∨ k = 5 ∨ k = 6 ∨ k = 7 ∨ k = 8 ∨ k = 9 := by omega); show isNm (sg k) = false
      rcases this with e | e | e | e | e | e | e | e | e | e <;> subst e <;> decide
    · rw [hn]; rfl

/-- What a climb leaves. -/
def CPost (least : Nat) (t : ByteArray) (l : List UInt8) (w : World) (e : Ending) (w' : World) : Prop :=
  Below w.heap.size w w' ∧ ((∃ f r v a' r', Ev (tgt least · l) (.ok f r) ∧ e = .returned (.tuple #[v, .int .i64 (a' : Nat), .int .i64 (-1)]) ∧ Rep w' (w.heap.size ≤ ·) f v ∧ At t a' r' ∧ skipB r' = skipB r ∧ r'.length ≤ l.length) ∨
    (∃ r g v a', Ev (tgt least · l) (.bad r) ∧ e = .returned (.tuple #[v, .int .i64 0, .int .i64 (a' : Nat)]) ∧ At t a' r ∧ Rep w' (w.heap.size ≤ ·) g v))

def Climbs (t : ByteArray) (m : Nat) : Prop := ∀ (least a : Nat) (l : List UInt8) (w : World), 1 ≤ least → least ≤ 4 → At t a l → l.length < m →
  Calls Try.prog 50 #[.string t, .int .i64 a, .int .i64 least] w (CPost least t l w)

theorem eqv_ok {y : Res} {f : Fm} {l : List UInt8} (h : eqv y (.ok f (skipB l))) : ∃ r, y = .ok f r ∧ skipB l = skipB r := by
  cases y with
  | ok g r => exact ⟨r, by rw [h.1], by rw [h.2, skipB_idem]⟩
  | bad r => exact absurd h (fun h => h.elim)
theorem eqv_bad {y : Res} {r : List UInt8} (h : eqv y (.bad r)) : y = .bad r := by
  cases y with
  | ok g s => exact absurd h (fun h => h.elim)
  | bad s => rw [show s = r from h]
end Go.Proofs.Ytfhbpfgbnfcdaaa
