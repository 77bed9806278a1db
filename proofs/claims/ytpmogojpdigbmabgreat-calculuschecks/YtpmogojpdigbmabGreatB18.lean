/- Texts of one proof, one behind the other: CE4, CE5, CE6. -/
import Derived.Test.YtpmogojpdigbmabGreatB17
/- Walks: the maps of rules (made by gen/ce3.py). -/
namespace Go.Proofs.YtpmogojpdigbmabGreat
open Go.RowKit Go.Maps Go.WideMaps

set_option maxRecDepth 10000 in
set_option maxHeartbeats 8000000 in
theorem commonRules_any (w : World) : Calls Tryz.prog 32 #[] w fun e w' => ∃ L, e = .returned (.map (some w.heap.size)) ∧ MW (fun _ => True) w w.heap.size L [.ax, .tr, .fa, .andL, .andR, .orL, .thenR, .notR, .contrL] w' := by
  have hmm := @run_makeMap Tryz.prog; (have HM : Hid (MW (fun _ => True) w w.heap.size [] [] (w.alloc (.map #[] 0))) := ⟨RMap.made w, fun _ _ => trivial, below_more (Below.refl _ w) _, by simp⟩)
  go_enter Tryz.func32, Tryz.ntmps32
  (obtain ⟨wi0, hr0, hM0⟩ := MW.ins HM.out .ax (.func (.func 44) #[] #[]) (by simp) (fun i _ => ax_rule i _ _)); have hu0 : (Instr.mapUpdate 47 (.map (some w.heap.size)) (.string ⟨#[97, 120]⟩) (.func (.func 44) #[] #[])).run Tryz.prog (w.alloc (.map #[] 0)) = .ok () wi0 := hr0; (have HM0 : Hid (MW (fun _ => True) w w.heap.size ([] ++ [(Ru.ax.text, (.func (.func 44) #[] #[]))]) ([] ++ [.ax]) wi0) := hM0); clear hr0 hM0 HM; go_wp2_with fail; (refine (atRight_any (I := fun _ => True) .tr (fun i _ => nothing_p 2) (fun i _ f l r => rfl) _ HM0.out.lt).mono ?_); rintro e wc1 ⟨fn1, cp1, rfl, hR1, hb1⟩; have HR1 : Hid (∀ i, _ → RuleFn i .tr (.func (.func fn1) #[] cp1) w.heap.size wc1) := hR1; (have Hm1 : Hid (MW (fun _ => True) w w.heap.size [(Ru.ax.text, (.func (.func 44) #[] #[]))] [.ax] wc1) := HM0.out.up hb1); clear hu0 hR1 hb1 HM0; (obtain ⟨wi1, hr1, hM1⟩ := MW.ins Hm1.out .tr (.func (.func fn1) #[] cp1) (by simp) (HR1.out)); have hu1 : (Instr.mapUpdate 47 (.map (some w.heap.size)) (.string ⟨#[116, 114, 117, 101]⟩) (.func (.func fn1) #[] cp1)).run Tryz.prog wc1 = .ok () wi1 := hr1; (have HM1 : Hid (MW (fun _ => True) w w.heap.size ([(Ru.ax.text, (.func (.func 44) #[] #[]))] ++ [(Ru.tr.text, (.func (.func fn1) #[] cp1))]) ([.ax] ++ [.tr]) wi1) := hM1); clear hr1 hM1 Hm1; go_wp2_with fail; (refine (atLeft_any (I := fun _ => True) .fa (fun i _ => nothing_p 3) (fun i _ f l r => rfl) _ HM1.out.lt).mono ?_); rintro e wc2 ⟨fn2, cp2, rfl, hR2, hb2⟩; have HR2 : Hid (∀ i, _ → RuleFn i .fa (.func (.func fn2) #[] cp2) w.heap.size wc2) := hR2; (have Hm2 : Hid (MW (fun _ => True) w w.heap.size [(Ru.ax.text, (.func (.func 44) #[] #[])), (Ru.tr.text, (.func (.func fn1) #[] cp1))] [.ax, .tr] wc2) := HM1.out.up hb2); clear hu1 hR2 hb2 HM1; (obtain ⟨wi2, hr2, hM2⟩ := MW.ins Hm2.out .fa (.func (.func fn2) #[] cp2) (by simp) (HR2.out)); have hu2 : (Instr.mapUpdate 47 (.map (some w.heap.size)) (.string ⟨#[102, 97, 108, 115, 101]⟩) (.func (.func fn2) #[] cp2)).run Tryz.prog wc2 = .ok () wi2 := hr2; (have HM2 : Hid (MW (fun _ => True) w w.heap.size ([(Ru.ax.text, (.func (.func 44) #[] #[])), (Ru.tr.text, (.func (.func fn1) #[] cp1))] ++ [(Ru.fa.text, (.func (.func fn2) #[] cp2))]) ([.ax, .tr] ++ [.fa]) wi2) := hM2); clear hr2 hM2 Hm2; go_wp2_with fail; (refine (atLeft_any (I := fun _ => True) .andL (fun i _ => and_l_p) (fun i _ f l r => rfl) _ HM2.out.lt).mono ?_); rintro e wc3 ⟨fn3, cp3, rfl, hR3, hb3⟩; have HR3 : Hid (∀ i, _ → RuleFn i .andL (.func (.func fn3) #[] cp3) w.heap.size wc3) := hR3; (have Hm3 : Hid (MW (fun _ => True) w w.heap.size [(Ru.ax.text, (.func (.func 44) #[] #[])), (Ru.tr.text, (.func (.func fn1) #[] cp1)), (Ru.fa.text, (.func (.func fn2) #[] cp2))] [.ax, .tr, .fa] wc3) := HM2.out.up hb3); clear hu2 hR3 hb3 HM2; (obtain ⟨wi3, hr3, hM3⟩ := MW.ins Hm3.out .andL (.func (.func fn3) #[] cp3) (by simp) (HR3.out)); have hu3 : (Instr.mapUpdate 47 (.map (some w.heap.size)) (.string ⟨#[97, 110, 100, 45, 108]⟩) (.func (.func fn3) #[] cp3)).run Tryz.prog wc3 = .ok () wi3 := hr3; (have HM3 : Hid (MW (fun _ => True) w w.heap.size ([(Ru.ax.text, (.func (.func 44) #[] #[])), (Ru.tr.text, (.func (.func fn1) #[] cp1)), (Ru.fa.text, (.func (.func fn2) #[] cp2))] ++ [(Ru.andL.text, (.func (.func fn3) #[] cp3))]) ([.ax, .tr, .fa] ++ [.andL]) wi3) := hM3); clear hr3 hM3 Hm3; go_wp2_with fail; (refine (atRight_any (I := fun _ => True) .andR (fun i _ => and_r_p) (fun i _ f l r => rfl) _ HM3.out.lt).mono ?_); rintro e wc4 ⟨fn4, cp4, rfl, hR4, hb4⟩; have HR4 : Hid (∀ i, _ → RuleFn i .andR (.func (.func fn4) #[] cp4) w.heap.size wc4) := hR4; (have Hm4 : Hid (MW (fun _ => True) w w.heap.size [(Ru.ax.text, (.func (.func 44) #[] #[])), (Ru.tr.text, (.func (.func fn1) #[] cp1)), (Ru.fa.text, (.func (.func fn2) #[] cp2)), (Ru.andL.text, (.func (.func fn3) #[] cp3))] [.ax, .tr, .fa, .andL] wc4) := HM3.out.up hb4); clear hu3 hR4 hb4 HM3; (obtain ⟨wi4, hr4, hM4⟩ := MW.ins Hm4.out .andR (.func (.func fn4) #[] cp4) (by simp) (HR4.out)); have hu4 : (Instr.mapUpdate 47 (.map (some w.heap.size)) (.string ⟨#[97, 110, 100, 45, 114]⟩) (.func (.func fn4) #[] cp4)).run Tryz.prog wc4 = .ok () wi4 := hr4
  (have HM4 : Hid (MW (fun _ => True) w w.heap.size ([(Ru.ax.text, (.func (.func 44) #[] #[])), (Ru.tr.text, (.func (.func fn1) #[] cp1)), (Ru.fa.text, (.func (.func fn2) #[] cp2)), (Ru.andL.text, (.func (.func fn3) #[] cp3))] ++ [(Ru.andR.text, (.func (.func fn4) #[] cp4))]) ([.ax, .tr, .fa, .andL] ++ [.andR]) wi4) := hM4); clear hr4 hM4 Hm4; go_wp2_with fail; (refine (atLeft_any (I := fun _ => True) .orL (fun i _ => or_l_p) (fun i _ f l r => rfl) _ HM4.out.lt).mono ?_); rintro e wc5 ⟨fn5, cp5, rfl, hR5, hb5⟩; have HR5 : Hid (∀ i, _ → RuleFn i .orL (.func (.func fn5) #[] cp5) w.heap.size wc5) := hR5; (have Hm5 : Hid (MW (fun _ => True) w w.heap.size [(Ru.ax.text, (.func (.func 44) #[] #[])), (Ru.tr.text, (.func (.func fn1) #[] cp1)), (Ru.fa.text, (.func (.func fn2) #[] cp2)), (Ru.andL.text, (.func (.func fn3) #[] cp3)), (Ru.andR.text, (.func (.func fn4) #[] cp4))] [.ax, .tr, .fa, .andL, .andR] wc5) := HM4.out.up hb5); clear hu4 hR5 hb5 HM4; (obtain ⟨wi5, hr5, hM5⟩ := MW.ins Hm5.out .orL (.func (.func fn5) #[] cp5) (by simp) (HR5.out)); have hu5 : (Instr.mapUpdate 47 (.map (some w.heap.size)) (.string ⟨#[111, 114, 45, 108]⟩) (.func (.func fn5) #[] cp5)).run Tryz.prog wc5 = .ok () wi5 := hr5; (have HM5 : Hid (MW (fun _ => True) w w.heap.size ([(Ru.ax.text, (.func (.func 44) #[] #[])), (Ru.tr.text, (.func (.func fn1) #[] cp1)), (Ru.fa.text, (.func (.func fn2) #[] cp2)), (Ru.andL.text, (.func (.func fn3) #[] cp3)), (Ru.andR.text, (.func (.func fn4) #[] cp4))] ++ [(Ru.orL.text, (.func (.func fn5) #[] cp5))]) ([.ax, .tr, .fa, .andL, .andR] ++ [.orL]) wi5) := hM5); clear hr5 hM5 Hm5; go_wp2_with fail; (refine (atRight_any (I := fun _ => True) .thenR (fun i _ => then_r_p) (fun i _ f l r => rfl) _ HM5.out.lt).mono ?_); rintro e wc6 ⟨fn6, cp6, rfl, hR6, hb6⟩; have HR6 : Hid (∀ i, _ → RuleFn i .thenR (.func (.func fn6) #[] cp6) w.heap.size wc6) := hR6; (have Hm6 : Hid (MW (fun _ => True) w w.heap.size [(Ru.ax.text, (.func (.func 44) #[] #[])), (Ru.tr.text, (.func (.func fn1) #[] cp1)), (Ru.fa.text, (.func (.func fn2) #[] cp2)), (Ru.andL.text, (.func (.func fn3) #[] cp3)), (Ru.andR.text, (.func (.func fn4) #[] cp4)), (Ru.orL.text, (.func (.func fn5) #[] cp5))] [.ax, .tr, .fa, .andL, .andR, .orL] wc6) := HM5.out.up hb6); clear hu5 hR6 hb6 HM5; (obtain ⟨wi6, hr6, hM6⟩ := MW.ins Hm6.out .thenR (.func (.func fn6) #[] cp6) (by simp) (HR6.out)); have hu6 : (Instr.mapUpdate 47 (.map (some w.heap.size)) (.string ⟨#[116, 104, 101, 110, 45, 114]⟩) (.func (.func fn6) #[] cp6)).run Tryz.prog wc6 = .ok () wi6 := hr6; (have HM6 : Hid (MW (fun _ => True) w w.heap.size ([(Ru.ax.text, (.func (.func 44) #[] #[])), (Ru.tr.text, (.func (.func fn1) #[] cp1)), (Ru.fa.text, (.func (.func fn2) #[] cp2)), (Ru.andL.text, (.func (.func fn3) #[] cp3)), (Ru.andR.text, (.func (.func fn4) #[] cp4)), (Ru.orL.text, (.func (.func fn5) #[] cp5))] ++ [(Ru.thenR.text, (.func (.func fn6) #[] cp6))]) ([.ax, .tr, .fa, .andL, .andR, .orL] ++ [.thenR]) wi6) := hM6); clear hr6 hM6 Hm6; go_wp2_with fail; (refine (atRight_any (I := fun _ => True) .notR (fun i _ => not_r_p) (fun i _ f l r => rfl) _ HM6.out.lt).mono ?_); rintro e wc7 ⟨fn7, cp7, rfl, hR7, hb7⟩; have HR7 : Hid (∀ i, _ → RuleFn i .notR (.func (.func fn7) #[] cp7) w.heap.size wc7) := hR7; (have Hm7 : Hid (MW (fun _ => True) w w.heap.size [(Ru.ax.text, (.func (.func 44) #[] #[])), (Ru.tr.text, (.func (.func fn1) #[] cp1)), (Ru.fa.text, (.func (.func fn2) #[] cp2)), (Ru.andL.text, (.func (.func fn3) #[] cp3)), (Ru.andR.text, (.func (.func fn4) #[] cp4)), (Ru.orL.text, (.func (.func fn5) #[] cp5)), (Ru.thenR.text, (.func (.func fn6) #[] cp6))] [.ax, .tr, .fa, .andL, .andR, .orL, .thenR] wc7) := HM6.out.up hb7); clear hu6 hR7 hb7 HM6; (obtain ⟨wi7, hr7, hM7⟩ := MW.ins Hm7.out .notR (.func (.func fn7) #[] cp7) (by simp) (HR7.out)); have hu7 : (Instr.mapUpdate 47 (.map (some w.heap.size)) (.string ⟨#[110, 111, 116, 45, 114]⟩) (.func (.func fn7) #[] cp7)).run Tryz.prog wc7 = .ok () wi7 := hr7; (have HM7 : Hid (MW (fun _ => True) w w.heap.size ([(Ru.ax.text, (.func (.func 44) #[] #[])), (Ru.tr.text, (.func (.func fn1) #[] cp1)), (Ru.fa.text, (.func (.func fn2) #[] cp2)), (Ru.andL.text, (.func (.func fn3) #[] cp3)), (Ru.andR.text, (.func (.func fn4) #[] cp4)), (Ru.orL.text, (.func (.func fn5) #[] cp5)), (Ru.thenR.text, (.func (.func fn6) #[] cp6))] ++ [(Ru.notR.text, (.func (.func fn7) #[] cp7))]) ([.ax, .tr, .fa, .andL, .andR, .orL, .thenR] ++ [.notR]) wi7) := hM7)
  clear hr7 hM7 Hm7; (obtain ⟨wi8, hr8, hM8⟩ := MW.ins HM7.out .contrL (.func (.func 58) #[] #[]) (by simp) (fun i _ => contr_l_rule i _ _)); have hu8 : (Instr.mapUpdate 47 (.map (some w.heap.size)) (.string ⟨#[99, 111, 110, 116, 114, 45, 108]⟩) (.func (.func 58) #[] #[])).run Tryz.prog wi7 = .ok () wi8 := hr8; (have HM8 : Hid (MW (fun _ => True) w w.heap.size ([(Ru.ax.text, (.func (.func 44) #[] #[])), (Ru.tr.text, (.func (.func fn1) #[] cp1)), (Ru.fa.text, (.func (.func fn2) #[] cp2)), (Ru.andL.text, (.func (.func fn3) #[] cp3)), (Ru.andR.text, (.func (.func fn4) #[] cp4)), (Ru.orL.text, (.func (.func fn5) #[] cp5)), (Ru.thenR.text, (.func (.func fn6) #[] cp6)), (Ru.notR.text, (.func (.func fn7) #[] cp7))] ++ [(Ru.contrL.text, (.func (.func 58) #[] #[]))]) ([.ax, .tr, .fa, .andL, .andR, .orL, .thenR, .notR] ++ [.contrL]) wi8) := hM8); clear hr8 hM8 HM7; go_wp2_with fail; go_ret; exact ⟨_, rfl, HM8.out⟩

set_option maxRecDepth 10000 in
set_option maxHeartbeats 8000000 in
theorem classicRules_any (w : World) : Calls Tryz.prog 35 #[] w fun e w' => ∃ L, e = .returned (.map (some w.heap.size)) ∧ MW (fun i => i = false) w w.heap.size L [.orR, .thenL, .notL, .contrR, .cut] w' := by
  have hmm := @run_makeMap Tryz.prog; (have HM : Hid (MW (fun i => i = false) w w.heap.size [] [] (w.alloc (.map #[] 0))) := ⟨RMap.made w, fun _ _ => trivial, below_more (Below.refl _ w) _, by simp⟩)
  go_enter Tryz.func35, Tryz.ntmps35
  go_wp2_with fail; (refine (atRight_any (I := fun i => i = false) .orR (fun i hi => or_r_p) (fun i hi f l r => by subst hi; rfl) _ HM.out.lt).mono ?_); rintro e wc0 ⟨fn0, cp0, rfl, hR0, hb0⟩; have HR0 : Hid (∀ i, _ → RuleFn i .orR (.func (.func fn0) #[] cp0) w.heap.size wc0) := hR0; (have Hm0 : Hid (MW (fun i => i = false) w w.heap.size [] [] wc0) := HM.out.up hb0); clear hR0 hb0 HM; (obtain ⟨wi0, hr0, hM0⟩ := MW.ins Hm0.out .orR (.func (.func fn0) #[] cp0) (by simp) (HR0.out)); have hu0 : (Instr.mapUpdate 47 (.map (some w.heap.size)) (.string ⟨#[111, 114, 45, 114]⟩) (.func (.func fn0) #[] cp0)).run Tryz.prog wc0 = .ok () wi0 := hr0; (have HM0 : Hid (MW (fun i => i = false) w w.heap.size ([] ++ [(Ru.orR.text, (.func (.func fn0) #[] cp0))]) ([] ++ [.orR]) wi0) := hM0); clear hr0 hM0 Hm0; go_wp2_with fail; (refine (atLeft_any (I := fun i => i = false) .thenL (fun i hi => then_lc_p) (fun i hi f l r => by subst hi; rfl) _ HM0.out.lt).mono ?_); rintro e wc1 ⟨fn1, cp1, rfl, hR1, hb1⟩; have HR1 : Hid (∀ i, _ → RuleFn i .thenL (.func (.func fn1) #[] cp1) w.heap.size wc1) := hR1; (have Hm1 : Hid (MW (fun i => i = false) w w.heap.size [(Ru.orR.text, (.func (.func fn0) #[] cp0))] [.orR] wc1) := HM0.out.up hb1); clear hu0 hR1 hb1 HM0; (obtain ⟨wi1, hr1, hM1⟩ := MW.ins Hm1.out .thenL (.func (.func fn1) #[] cp1) (by simp) (HR1.out)); have hu1 : (Instr.mapUpdate 47 (.map (some w.heap.size)) (.string ⟨#[116, 104, 101, 110, 45, 108]⟩) (.func (.func fn1) #[] cp1)).run Tryz.prog wc1 = .ok () wi1 := hr1; (have HM1 : Hid (MW (fun i => i = false) w w.heap.size ([(Ru.orR.text, (.func (.func fn0) #[] cp0))] ++ [(Ru.thenL.text, (.func (.func fn1) #[] cp1))]) ([.orR] ++ [.thenL]) wi1) := hM1); clear hr1 hM1 Hm1; go_wp2_with fail; (refine (atLeft_any (I := fun i => i = false) .notL (fun i hi => not_lc_p) (fun i hi f l r => by subst hi; rfl) _ HM1.out.lt).mono ?_); rintro e wc2 ⟨fn2, cp2, rfl, hR2, hb2⟩; have HR2 : Hid (∀ i, _ → RuleFn i .notL (.func (.func fn2) #[] cp2) w.heap.size wc2) := hR2; (have Hm2 : Hid (MW (fun i => i = false) w w.heap.size [(Ru.orR.text, (.func (.func fn0) #[] cp0)), (Ru.thenL.text, (.func (.func fn1) #[] cp1))] [.orR, .thenL] wc2) := HM1.out.up hb2); clear hu1 hR2 hb2 HM1; (obtain ⟨wi2, hr2, hM2⟩ := MW.ins Hm2.out .notL (.func (.func fn2) #[] cp2) (by simp) (HR2.out)); have hu2 : (Instr.mapUpdate 47 (.map (some w.heap.size)) (.string ⟨#[110, 111, 116, 45, 108]⟩) (.func (.func fn2) #[] cp2)).run Tryz.prog wc2 = .ok () wi2 := hr2; (have HM2 : Hid (MW (fun i => i = false) w w.heap.size ([(Ru.orR.text, (.func (.func fn0) #[] cp0)), (Ru.thenL.text, (.func (.func fn1) #[] cp1))] ++ [(Ru.notL.text, (.func (.func fn2) #[] cp2))]) ([.orR, .thenL] ++ [.notL]) wi2) := hM2); clear hr2 hM2 Hm2; (obtain ⟨wi3, hr3, hM3⟩ := MW.ins HM2.out .contrR (.func (.func 67) #[] #[]) (by simp) (fun i hi => by subst hi; exact contr_r_rule _ _)); have hu3 : (Instr.mapUpdate 47 (.map (some w.heap.size)) (.string ⟨#[99, 111, 110, 116, 114, 45, 114]⟩) (.func (.func 67) #[] #[])).run Tryz.prog wi2 = .ok () wi3 := hr3; (have HM3 : Hid (MW (fun i => i = false) w w.heap.size ([(Ru.orR.text, (.func (.func fn0) #[] cp0)), (Ru.thenL.text, (.func (.func fn1) #[] cp1)), (Ru.notL.text, (.func (.func fn2) #[] cp2))] ++ [(Ru.contrR.text, (.func (.func 67) #[] #[]))]) ([.orR, .thenL, .notL] ++ [.contrR]) wi3) := hM3); clear hr3 hM3 HM2; (obtain ⟨wi4, hr4, hM4⟩ := MW.ins HM3.out .cut (.func (.func 68) #[] #[]) (by simp) (fun i hi => by subst hi; exact cut_c_rule _ _)); have hu4 : (Instr.mapUpdate 47 (.map (some w.heap.size)) (.string ⟨#[99, 117, 116]⟩) (.func (.func 68) #[] #[])).run Tryz.prog wi3 = .ok () wi4 := hr4; (have HM4 : Hid (MW (fun i => i = false) w w.heap.size ([(Ru.orR.text, (.func (.func fn0) #[] cp0)), (Ru.thenL.text, (.func (.func fn1) #[] cp1)), (Ru.notL.text, (.func (.func fn2) #[] cp2)), (Ru.contrR.text, (.func (.func 67) #[] #[]))] ++ [(Ru.cut.text, (.func (.func 68) #[] #[]))]) ([.orR, .thenL, .notL, .contrR] ++ [.cut]) wi4) := hM4); clear hr4 hM4 HM3; go_wp2_with fail; go_ret; exact ⟨_, rfl, HM4.out⟩

set_option maxRecDepth 10000 in
set_option maxHeartbeats 8000000 in
theorem intuitRules_any (w : World) : Calls Tryz.prog 34 #[] w fun e w' => ∃ L, e = .returned (.map (some w.heap.size)) ∧ MW (fun i => i = true) w w.heap.size L [.orR1, .orR2, .thenL, .notL, .cut] w' := by
  have hmm := @run_makeMap Tryz.prog; (have HM : Hid (MW (fun i => i = true) w w.heap.size [] [] (w.alloc (.map #[] 0))) := ⟨RMap.made w, fun _ _ => trivial, below_more (Below.refl _ w) _, by simp⟩)
  go_enter Tryz.func34, Tryz.ntmps34
  go_wp2_with fail; (refine (atRight_any (I := fun i => i = true) .orR1 (fun i hi => or_r1_p) (fun i hi f l r => by subst hi; rfl) _ HM.out.lt).mono ?_); rintro e wc0 ⟨fn0, cp0, rfl, hR0, hb0⟩; have HR0 : Hid (∀ i, _ → RuleFn i .orR1 (.func (.func fn0) #[] cp0) w.heap.size wc0) := hR0; (have Hm0 : Hid (MW (fun i => i = true) w w.heap.size [] [] wc0) := HM.out.up hb0); clear hR0 hb0 HM; (obtain ⟨wi0, hr0, hM0⟩ := MW.ins Hm0.out .orR1 (.func (.func fn0) #[] cp0) (by simp) (HR0.out)); have hu0 : (Instr.mapUpdate 47 (.map (some w.heap.size)) (.string ⟨#[111, 114, 45, 114, 49]⟩) (.func (.func fn0) #[] cp0)).run Tryz.prog wc0 = .ok () wi0 := hr0; (have HM0 : Hid (MW (fun i => i = true) w w.heap.size ([] ++ [(Ru.orR1.text, (.func (.func fn0) #[] cp0))]) ([] ++ [.orR1]) wi0) := hM0); clear hr0 hM0 Hm0; go_wp2_with fail; (refine (atRight_any (I := fun i => i = true) .orR2 (fun i hi => or_r2_p) (fun i hi f l r => by subst hi; rfl) _ HM0.out.lt).mono ?_); rintro e wc1 ⟨fn1, cp1, rfl, hR1, hb1⟩; have HR1 : Hid (∀ i, _ → RuleFn i .orR2 (.func (.func fn1) #[] cp1) w.heap.size wc1) := hR1; (have Hm1 : Hid (MW (fun i => i = true) w w.heap.size [(Ru.orR1.text, (.func (.func fn0) #[] cp0))] [.orR1] wc1) := HM0.out.up hb1); clear hu0 hR1 hb1 HM0; (obtain ⟨wi1, hr1, hM1⟩ := MW.ins Hm1.out .orR2 (.func (.func fn1) #[] cp1) (by simp) (HR1.out)); have hu1 : (Instr.mapUpdate 47 (.map (some w.heap.size)) (.string ⟨#[111, 114, 45, 114, 50]⟩) (.func (.func fn1) #[] cp1)).run Tryz.prog wc1 = .ok () wi1 := hr1; (have HM1 : Hid (MW (fun i => i = true) w w.heap.size ([(Ru.orR1.text, (.func (.func fn0) #[] cp0))] ++ [(Ru.orR2.text, (.func (.func fn1) #[] cp1))]) ([.orR1] ++ [.orR2]) wi1) := hM1); clear hr1 hM1 Hm1; go_wp2_with fail; (refine (atLeft_any (I := fun i => i = true) .thenL (fun i hi => then_li_p) (fun i hi f l r => by subst hi; rfl) _ HM1.out.lt).mono ?_); rintro e wc2 ⟨fn2, cp2, rfl, hR2, hb2⟩; have HR2 : Hid (∀ i, _ → RuleFn i .thenL (.func (.func fn2) #[] cp2) w.heap.size wc2) := hR2; (have Hm2 : Hid (MW (fun i => i = true) w w.heap.size [(Ru.orR1.text, (.func (.func fn0) #[] cp0)), (Ru.orR2.text, (.func (.func fn1) #[] cp1))] [.orR1, .orR2] wc2) := HM1.out.up hb2); clear hu1 hR2 hb2 HM1; (obtain ⟨wi2, hr2, hM2⟩ := MW.ins Hm2.out .thenL (.func (.func fn2) #[] cp2) (by simp) (HR2.out)); have hu2 : (Instr.mapUpdate 47 (.map (some w.heap.size)) (.string ⟨#[116, 104, 101, 110, 45, 108]⟩) (.func (.func fn2) #[] cp2)).run Tryz.prog wc2 = .ok () wi2 := hr2; (have HM2 : Hid (MW (fun i => i = true) w w.heap.size ([(Ru.orR1.text, (.func (.func fn0) #[] cp0)), (Ru.orR2.text, (.func (.func fn1) #[] cp1))] ++ [(Ru.thenL.text, (.func (.func fn2) #[] cp2))]) ([.orR1, .orR2] ++ [.thenL]) wi2) := hM2); clear hr2 hM2 Hm2; go_wp2_with fail; (refine (atLeft_any (I := fun i => i = true) .notL (fun i hi => not_li_p) (fun i hi f l r => by subst hi; rfl) _ HM2.out.lt).mono ?_); rintro e wc3 ⟨fn3, cp3, rfl, hR3, hb3⟩; have HR3 : Hid (∀ i, _ → RuleFn i .notL (.func (.func fn3) #[] cp3) w.heap.size wc3) := hR3; (have Hm3 : Hid (MW (fun i => i = true) w w.heap.size [(Ru.orR1.text, (.func (.func fn0) #[] cp0)), (Ru.orR2.text, (.func (.func fn1) #[] cp1)), (Ru.thenL.text, (.func (.func fn2) #[] cp2))] [.orR1, .orR2, .thenL] wc3) := HM2.out.up hb3); clear hu2 hR3 hb3 HM2; (obtain ⟨wi3, hr3, hM3⟩ := MW.ins Hm3.out .notL (.func (.func fn3) #[] cp3) (by simp) (HR3.out)); have hu3 : (Instr.mapUpdate 47 (.map (some w.heap.size)) (.string ⟨#[110, 111, 116, 45, 108]⟩) (.func (.func fn3) #[] cp3)).run Tryz.prog wc3 = .ok () wi3 := hr3; (have HM3 : Hid (MW (fun i => i = true) w w.heap.size ([(Ru.orR1.text, (.func (.func fn0) #[] cp0)), (Ru.orR2.text, (.func (.func fn1) #[] cp1)), (Ru.thenL.text, (.func (.func fn2) #[] cp2))] ++ [(Ru.notL.text, (.func (.func fn3) #[] cp3))]) ([.orR1, .orR2, .thenL] ++ [.notL]) wi3) := hM3); clear hr3 hM3 Hm3; (obtain ⟨wi4, hr4, hM4⟩ := MW.ins HM3.out .cut (.func (.func 63) #[] #[]) (by simp) (fun i hi => by subst hi; exact cut_i_rule _ _)); have hu4 : (Instr.mapUpdate 47 (.map (some w.heap.size)) (.string ⟨#[99, 117, 116]⟩) (.func (.func 63) #[] #[])).run Tryz.prog wi3 = .ok () wi4 := hr4
  (have HM4 : Hid (MW (fun i => i = true) w w.heap.size ([(Ru.orR1.text, (.func (.func fn0) #[] cp0)), (Ru.orR2.text, (.func (.func fn1) #[] cp1)), (Ru.thenL.text, (.func (.func fn2) #[] cp2)), (Ru.notL.text, (.func (.func fn3) #[] cp3))] ++ [(Ru.cut.text, (.func (.func 63) #[] #[]))]) ([.orR1, .orR2, .thenL, .notL] ++ [.cut]) wi4) := hM4); clear hr4 hM4 HM3; go_wp2_with fail; go_ret; exact ⟨_, rfl, HM4.out⟩

end Go.Proofs.YtpmogojpdigbmabGreat
/- Walks: the rules of a calculus. -/
namespace Go.Proofs.YtpmogojpdigbmabGreat
open Go.RowKit Go.Maps Go.WideMaps

def ents (L : List (List UInt8 × Value)) : List (Lit × DataW Value) := L.map fun p => (.string p.1, .held p.2)
theorem putAll_ents (L : List (List UInt8 × Value)) : putAll L = (ents L).foldl (fun D p => D.put p.1 p.2) (.map []) := by
  unfold putAll ents; rw [List.foldl_map]
theorem ents_keys (L : List (List UInt8 × Value)) : ∀ p ∈ ents L, WideAt.IsKeyLit p.1 := fun p hp => by
  obtain ⟨x, _, rfl⟩ := List.mem_map.1 hp
  first | trivial | exact True.intro | simp [WideAt.IsKeyLit]
theorem same_str (a b : List UInt8) : (Lit.string a).sameKey (.string b) = decide (a = b) := by
  by_cases h : a = b
  · subst h
    rw [decide_eq_true rfl]; (exact WideAt.sameKey_self (by first | trivial | exact True.intro | simp [WideAt.IsKeyLit]))
  · rw [decide_eq_false h]
    (exact sameKey_ne fun e => h (by injection e))
theorem putAll_has (L : List (List UInt8 × Value)) (t : List UInt8) : Maps.has (putAll L) (.string t) = L.any fun p => decide (p.1 = t) := by
  rw [putAll_ents, has_foldPut _ _ _ isMap_empty (ents_keys L)]; unfold ents; rw [List.any_map]; have : Maps.has (.map [] : DataW Value) (.string t) = false := rfl; rw [this, Bool.false_or]
  congr 1
  funext p
  exact same_str _ _
theorem putAll_at (L : List (List UInt8 × Value)) (hn : (L.map (·.1)).Nodup) (t : List UInt8) (v : Value) (h : (t, v) ∈ L) (z : DataW Value) : (putAll L).atKey (.string t) z = .held v := by
  rw [putAll_ents, atKey_foldPut _ _ _ _ isMap_empty (ents_keys L)]
  · have hf : (ents L).find? (fun p => p.1.sameKey (.string t)) = some (.string t, .held v) := by
      unfold ents; rw [List.find?_map]
      have : L.find? ((fun p : Lit × DataW Value => p.1.sameKey (.string t)) ∘ fun p : List UInt8 × Value => ((Lit.string p.1, DataW.held p.2) : Lit × DataW Value)) = some (t, v) := by
        have e : ((fun p : Lit × DataW Value => p.1.sameKey (.string t)) ∘ fun p : List UInt8 × Value => ((Lit.string p.1, DataW.held p.2) : Lit × DataW Value)) = fun p => decide (p.1 = t) := by
          funext p
          exact same_str _ _
        rw [e]
        induction L with
        | nil => cases h
        | cons p L ih =>
          simp only [List.map_cons, List.nodup_cons] at hn
          rcases List.mem_cons.1 h with rfl | h
          · simp
          · have hne : p.1 ≠ t := fun e => hn.1 (List.mem_map.2 ⟨(t, v), h, e.symm⟩)
            (rw [List.find?_cons_of_neg (by simpa using hne)]); exact ih hn.2 h
      rw [this]; rfl
    rw [hf]
  · unfold ents
    rw [List.pairwise_map]; refine (List.pairwise_map.1 hn).imp ?_; intro a b hab e; (exact hab (by injection e))

theorem RL.texts {i : Bool} {B : Nat} {w : World} : ∀ {L : List (List UInt8 × Value)} {qs : List Ru}, RL i B w L qs → L.map (·.1) = qs.map Ru.text
  | [], [], _ => rfl
  | _ :: _, _ :: _, h => by rw [List.map_cons, List.map_cons, h.1, RL.texts h.2.2]
theorem RL.mem {i : Bool} {B : Nat} {w : World} {q : Ru} : ∀ {L : List (List UInt8 × Value)} {qs : List Ru}, RL i B w L qs → q ∈ qs → ∃ v, (q.text, v) ∈ L ∧ RuleFn i q v B w
  | [], [], _, h => by cases h
  | p :: L, q' :: qs, h, hq => by
    rcases List.mem_cons.1 hq with rfl | hq
    · exact ⟨p.2, by rw [← h.1]; exact List.mem_cons_self, h.2.1⟩
    · obtain ⟨v, h1, h2⟩ := RL.mem h.2.2 hq
      exact ⟨v, List.mem_cons_of_mem _ h1, h2⟩

/-- The rules of a calculus, in a map. -/
def RulesAt (i : Bool) (w : World) (b : Nat) : Prop := ∃ n D, w.ownsMap Tryz.prog 9 heldR b n D ∧ (∀ t : List UInt8, Maps.has D (.string t) = (ruleOf i t).isSome) ∧
  ∀ (t : List UInt8) (q : Ru), ruleOf i t = some q → ∃ v B, (∀ z, D.atKey (.string t) z = .held v) ∧ RuleFn i q v B w
theorem RulesAt.up {i : Bool} {w w' : World} {b : Nat} (h : RulesAt i w b) (hb : Below w.heap.size w w') : RulesAt i w' b := by
  obtain ⟨n, D, h1, h2, h3⟩ := h; (refine ⟨n, D, h1.kept (grown_of_below hb) (by simp), h2, fun t q hq => ?_⟩); obtain ⟨v, B, h4, h5⟩ := h3 t q hq; exact ⟨v, B, h4, h5.over (over_below hb)⟩

theorem merge_has {H : Type} {Dd : DataW H} {es : List (Lit × DataW H)} (hd : IsMap Dd) (hk : ∀ p ∈ es, WideAt.IsKeyLit p.1) (k : Lit) : Maps.has (Lib.mergeD Dd (.map es)) k = (Maps.has Dd k || Maps.has (.map es) k) := by
  unfold Lib.mergeD; rw [has_foldPut k es Dd hd hk, has_eq]
theorem merge_at {H : Type} {Dd : DataW H} {es : List (Lit × DataW H)} (hd : IsMap Dd) (hk : ∀ p ∈ es, WideAt.IsKeyLit p.1) (hp : es.Pairwise (fun p q => p.1 ≠ q.1)) (k : Lit) (z : DataW H) : (Lib.mergeD Dd (.map es)).atKey k z = if Maps.has (.map es) k = true then (DataW.map es).atKey k z else Dd.atKey k z := by
  unfold Lib.mergeD; rw [atKey_foldPut k z es Dd hd hk hp, has_eq]
  cases hf : es.find? (fun p => p.1.sameKey k) with
  | none =>
    have : es.any (fun p => p.1.sameKey k) = false := by
      rw [List.any_eq_false]; intro p hp'; have := List.find?_eq_none.1 hf p hp'; simpa using this
    rw [this]
    rfl
  | some p =>
    have h1 := List.find?_some hf; (have : es.any (fun p => p.1.sameKey k) = true := List.any_eq_true.2 ⟨p, List.mem_of_find?_eq_some hf, h1⟩); rw [this, if_pos rfl]; have h2 := WideAt.sameKey_eq h1; rw [← h2]; exact (WideAt.atKey_mem z (hk p (List.mem_of_find?_eq_some hf)) hp (List.mem_of_find?_eq_some hf)).symm
end Go.Proofs.YtpmogojpdigbmabGreat
/- Walks: calculus.rules. -/
namespace Go.Proofs.YtpmogojpdigbmabGreat
open Go.RowKit Go.Maps Go.WideMaps

def commonQ : List Ru := [.ax, .tr, .fa, .andL, .andR, .orL, .thenR, .notR, .contrL]
def moreQ (i : Bool) : List Ru := if i then [.orR1, .orR2, .thenL, .notL, .cut] else [.orR, .thenL, .notL, .contrR, .cut]
theorem rulesL_eq (i : Bool) : rulesL i = commonQ ++ moreQ i := by cases i <;> rfl
theorem texts_nodup (i : Bool) : ((rulesL i).map Ru.text).Nodup := by cases i <;> decide
theorem any_texts {L : List (List UInt8 × Value)} {qs : List Ru} (h : L.map (·.1) = qs.map Ru.text) (t : List UInt8) : (L.any fun p => decide (p.1 = t)) = qs.any fun q => decide (q.text = t) := by
  (have h1 : (L.any fun p => decide (p.1 = t)) = (L.map (·.1)).any fun x => decide (x = t) := by rw [List.any_map]; rfl); (have h2 : (qs.any fun q => decide (q.text = t)) = (qs.map Ru.text).any fun x => decide (x = t) := by rw [List.any_map]; rfl); rw [h1, h2, h]
theorem find_some_any {α : Type} (p : α → Bool) (l : List α) : (l.find? p).isSome = l.any p := by
  induction l with
  | nil => rfl
  | cons x l ih =>
    by_cases h : p x = true
    · rw [List.find?_cons_of_pos h, List.any_cons, h]; rfl
    · rw [List.find?_cons_of_neg h, List.any_cons, ih]
      simp only [Bool.not_eq_true] at h; rw [h, Bool.false_or]

/-- Two maps of rules in one. -/
theorem merged_rules {i : Bool} {B B' b n : Nat} {w : World} {L M : List (List UInt8 × Value)} (h1 : RL i B w L commonQ) (h2 : RL i B' w M (moreQ i)) (ho : w.ownsMap Tryz.prog 9 heldR b n (Lib.mergeD (putAll L) (putAll M)))
    {w0 : World} {b0 n0 : Nat} (hM : w0.ownsMap Tryz.prog 9 heldR b0 n0 (putAll M)) {w1 : World} {b1 n1 : Nat} (hL : w1.ownsMap Tryz.prog 9 heldR b1 n1 (putAll L)) : RulesAt i w b := by
  obtain ⟨es, hes, hpw, hkl⟩ := hM.entries strKeyed; have hnd := texts_nodup i; rw [rulesL_eq, List.map_append, List.nodup_append] at hnd
  have hhas : ∀ t : List UInt8, Maps.has (Lib.mergeD (putAll L) (putAll M)) (.string t) = (ruleOf i t).isSome := fun t => by
    unfold ruleOf; rw [hes, merge_has hL.isMap hkl, ← hes, putAll_has, putAll_has, any_texts h1.texts, any_texts h2.texts, find_some_any, rulesL_eq, List.any_append]
  (refine ⟨n, _, ho, hhas, fun t q hq => ?_⟩)
  have hqt : q.text = t := by
    have := List.find?_some hq; simpa using this
  have hqm := List.mem_of_find?_eq_some hq; rw [rulesL_eq, List.mem_append] at hqm; (have hmh : ∀ t : List UInt8, Maps.has (putAll M) (.string t) = (moreQ i).any fun q => decide (q.text = t) := fun t => by rw [putAll_has, any_texts h2.texts]); by_cases hm : q ∈ moreQ i
  · obtain ⟨v, hv, hr⟩ := h2.mem hm
    (refine ⟨v, B', fun z => ?_, hr⟩)
    have hh : Maps.has (.map es) (.string t) = true := by
      rw [← hes, hmh, List.any_eq_true]; (exact ⟨q, hm, by rw [hqt]; simp⟩)
    rw [hes, merge_at hL.isMap hkl hpw, if_pos hh, ← hes, ← hqt]; (exact putAll_at M (by rw [h2.texts]; exact hnd.2.1) q.text v hv z)
  · have hc : q ∈ commonQ := hqm.resolve_right hm
    obtain ⟨v, hv, hr⟩ := h1.mem hc; (refine ⟨v, B, fun z => ?_, hr⟩)
    have hh : ¬ Maps.has (.map es) (.string t) = true := by
      rw [← hes, hmh, List.any_eq_true]; rintro ⟨q', hq', he⟩; (have he' : q'.text = t := by simpa using he); (exact hnd.2.2 q.text (List.mem_map.2 ⟨q, hc, rfl⟩) q'.text (List.mem_map.2 ⟨q', hq', rfl⟩) (by rw [hqt, he']))
    rw [hes, merge_at hL.isMap hkl hpw, if_neg hh, ← hqt]; (exact putAll_at L (by rw [h1.texts]; exact hnd.1) q.text v hv z)

theorem merged_end {i : Bool} {I : Bool → Prop} {w w1 w2 w3 : World} {L M : List (List UInt8 × Value)} {n : Nat} (hi : I i) (h1 : MW (fun _ => True) w w.heap.size L commonQ w1) (h2 : MW I w1 w1.heap.size M (moreQ i) w2) (ho : w3.ownsMap Tryz.prog 9 heldR w.heap.size n (Lib.mergeD (putAll L) (putAll M))) (hg : w2.grownBy w3 (some w.heap.size)) :
    RulesAt i w3 w.heap.size ∧ Below w.heap.size w w3 := by
  have h12 := h2.below; refine ⟨merged_rules (((h1.rl i trivial).over (over_below h12)).over (over_grown hg)) ((h2.rl i hi).over (over_mono (over_grown hg) (Nat.le_of_lt h1.lt))) ho h2.map h1.map, ?_⟩; (exact below_map (below_join h1.below h12) hg (Nat.le_refl _) (by have := h12.size; have := h1.lt; omega))

theorem rulesCopy_any (bd bs nd ns : Nat) (Dd Ds : DataW Value) (w : World) (hd : w.ownsMap Tryz.prog 9 heldR bd nd Dd) (hs : w.ownsMap Tryz.prog 9 heldR bs ns Ds) (hne : bd ≠ bs) (hroom : nd + Maps.size Ds ≤ maxLen) :
    Calls Tryz.prog 33 #[.map (some bd), .map (some bs)] w fun e w' => e = .returned (.tuple #[]) ∧ w'.ownsMap Tryz.prog 9 heldR bd (nd + Maps.size Ds) (Lib.mergeD Dd Ds) ∧ w.grownBy w' (some bd) := by
  refine (AnyX.maps_Copy Tryz.copyLays strKeyed heldR bd bs nd ns Dd Ds w hd hs hne hroom).mono ?_; rintro e w' ⟨h1, h2, -, h4⟩; exact ⟨h1, h2, h4⟩

theorem RL.length {i : Bool} {B : Nat} {w : World} {L : List (List UInt8 × Value)} {qs : List Ru} (h : RL i B w L qs) : L.length = qs.length := by
  have := congrArg List.length h.texts; simpa using this

set_option maxHeartbeats 2000000 in
theorem rules_any (i : Bool) (w : World) : Calls Tryz.prog 19 #[.bool i] w fun e w' => ∃ b, e = .returned (.map (some b)) ∧ RulesAt i w' b ∧ Below w.heap.size w w' := by
  cases i
  · go_enter Tryz.func19, Tryz.ntmps19
    go_wp2_with fail; refine (commonRules_any w).mono ?_; rintro e w1 ⟨L, rfl, hL⟩; (have HL : Hid (MW (fun _ => True) w w.heap.size L commonQ w1) := hL); clear hL; go_wp2_with fail; refine (classicRules_any w1).mono ?_; rintro e w2 ⟨M, rfl, hM⟩; (have HM : Hid (MW (fun i => i = false) w1 w1.heap.size M (moreQ false) w2) := hM); clear hM; go_wp2_with fail; (refine (rulesCopy_any w.heap.size w1.heap.size _ _ _ _ w2 (HL.out.map.up HM.out.below) HM.out.map (by have := HL.out.lt; omega) ?_).mono ?_)
    · have h1 := (HL.out.rl false trivial).length
      have h2 := (HM.out.rl false rfl).length; have h3 := HM.out.map.size_le; rw [h1]; rw [h2] at h3; unfold maxLen; have : commonQ.length = 9 := rfl; have : (moreQ false).length = 5 := rfl; omega
    rintro e w3 ⟨rfl, ho, hg⟩; (have hE := merged_end (i := false) (I := fun i => i = false) rfl HL.out HM.out ho hg); have HE : Hid (RulesAt false w3 w.heap.size ∧ Below w.heap.size w w3) := hE; clear hE ho hg; go_wp2_with fail; go_ret; exact ⟨_, rfl, HE.out⟩
  · go_enter Tryz.func19, Tryz.ntmps19
    go_wp2_with fail; refine (commonRules_any w).mono ?_; rintro e w1 ⟨L, rfl, hL⟩; (have HL : Hid (MW (fun _ => True) w w.heap.size L commonQ w1) := hL); clear hL; go_wp2_with fail; refine (intuitRules_any w1).mono ?_; rintro e w2 ⟨M, rfl, hM⟩; (have HM : Hid (MW (fun i => i = true) w1 w1.heap.size M (moreQ true) w2) := hM); clear hM; go_wp2_with fail; (refine (rulesCopy_any w.heap.size w1.heap.size _ _ _ _ w2 (HL.out.map.up HM.out.below) HM.out.map (by have := HL.out.lt; omega) ?_).mono ?_)
    · have h1 := (HL.out.rl true trivial).length
      have h2 := (HM.out.rl true rfl).length; have h3 := HM.out.map.size_le; rw [h1]; rw [h2] at h3; unfold maxLen; have : commonQ.length = 9 := rfl; have : (moreQ true).length = 5 := rfl; omega
    rintro e w3 ⟨rfl, ho, hg⟩; (have hE := merged_end (i := true) (I := fun i => i = true) rfl HL.out HM.out ho hg); have HE : Hid (RulesAt true w3 w.heap.size ∧ Below w.heap.size w w3) := hE; clear hE ho hg; go_wp2_with fail; go_ret; exact ⟨_, rfl, HE.out⟩
end Go.Proofs.YtpmogojpdigbmabGreat
