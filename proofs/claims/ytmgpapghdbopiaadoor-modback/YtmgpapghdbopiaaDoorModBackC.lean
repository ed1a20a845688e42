/-
  ModBack, where what is read is wrong, and both modules are right.
-/
import Derived.Test.YtmgpapghdbopiaaDoorModBackA
namespace Go.Proofs.YtmgpapghdbopiaaDoor
open Go.RowKit
namespace Ve

set_option maxRecDepth 100000 in
set_option maxHeartbeats 4000000 in
theorem back_n2 (p v q u s : ByteArray) (A : Nat → Addr) (m : Int) (w : World) (S : Te w A m) (hs : s.size ≤ 150) (hp : p.size ≤ 90) (hv : v.size ≤ 60) (hq : q.size ≤ 90) (hu : u.size ≤ 60)
    (hr : readErr s.data.toList ≠ 0) (ha : modErr p.data.toList v.data.toList = 0) (hb : modErr q.data.toList u.data.toList = 0) :
    Calls Tryd.prog 4 #[.agg #[.string p, .string v], .agg #[.string q, .string u], .string s] w fun e w' => e = .returned (.bool true) ∧ Below w.heap.size w w' := by
  have HM := hid (Mb.start p v q u S 36 36)
  have HV := hid (moduled_any A m _ HM.out.te)
  have HR := hid (fun W (SW : Te W A m) => mread_any s A m W (by omega) SW)
  have HCA := hid (fun W (SW : Te W A m) => mcheck_any p v A m W (by omega) (by omega) SW)
  have HTA := hid (fun W (SW : Te W A m) => mtext_any p v A m W (by omega) (by omega) SW)
  have HCB := hid (fun W (SW : Te W A m) => mcheck_any q u A m W (by omega) (by omega) SW)
  have HEA := hid (modText_is ha)
  have HRA := hid (text_right ha)
  have HOA := hid (text_one ha)
  have HTB := hid (fun W (SW : Te W A m) => mtext_any q u A m W (by omega) (by omega) SW)
  have HAB := hid (fun W (SW : Te W A m) => ahead_any p v q u A m W (by omega) (by omega) SW)
  have HBA := hid (fun W (SW : Te W A m) => ahead_any q u p v A m W (by omega) (by omega) SW)
  have HA2 := hid (ahead_two ha hb)
  have HTS := hid (text_same ha hb)
  have hnab := fun W => modNeq p v q u W
  have heab := fun W => modEql p v q u W
  have HDQ := hid (show decide (p = q ∧ v = u) = decide (p.data.toList = q.data.toList ∧ v.data.toList = u.data.toList) by
    rw [decide_eq_decide]
    exact ⟨fun e => by rw [e.1, e.2]; exact ⟨rfl, rfl⟩, fun e => ⟨str_ext e.1, str_ext e.2⟩⟩)
  rw [← HDQ.out] at HA2
  generalize hdd : decide (p = q ∧ v = u) = d at *
  generalize aheadB p.data.toList v.data.toList q.data.toList u.data.toList = x at *
  generalize aheadB q.data.toList u.data.toList p.data.toList v.data.toList = y at *
  have HX4 := hid (show (x = true ∧ y = true ∧ d = true) ∨ (x = false ∧ y = false ∧ d = true) ∨ (x = true ∧ y = false ∧ d = false) ∨ (x = false ∧ y = true ∧ d = false) by
    have := HA2.out
    revert this
    cases x <;> cases y <;> cases d <;> decide)
  clear hdd
  have HRR := hid hr
  have HPS := hid hp
  have HVS := hid hv
  have hgd := modGuard
  rw [ha, errA0] at HCA
  clear ha
  rw [hb, errA0] at HCB
  clear hb
  clear S hr
  go_enter Tryd.func4, Tryd.ntmps4
  go_wp2_with fail
  refine HV.out.mono ?_
  rintro e w1 ⟨rfl, hb1⟩
  have HM1 := hid (HM.out.below hb1)
  have a0 := HM1.out.a0
  have a1 := HM1.out.a1
  have b0 := HM1.out.b0
  have b1 := HM1.out.b1
  clear hb1
  go_wp2_with fail
  refine (HR.out _ HM1.out.te).mono ?_
  rintro e w2 ⟨⟨P, V, ev, rfl, hev, hg, hn⟩, hb2⟩
  have HM2 := hid (HM1.out.below hb2)
  clear hb2 a0 a1 b0 b1
  obtain ⟨rfl, rfl⟩ := hn HRR.out
  obtain ⟨a9, ha9⟩ := errA_ne A HRR.out
  rw [ha9] at hev
  subst hev
  have hne0 := fun W => modNeq ⟨#[]⟩ ⟨#[]⟩ ⟨#[]⟩ ⟨#[]⟩ W
  simp only [and_self, decide_true, Bool.not_true] at hne0
  have HBX := hid ((Below.refl w2.heap.size w2).alloc (Nat.le_refl _) (.cells #[.string ⟨#[]⟩, .string ⟨#[]⟩] 36))
  have HM4 := hid (HM2.out.below HBX.out)
  clear hg hn ha9
  have a0 := HM4.out.a0
  have a1 := HM4.out.a1
  have b0 := HM4.out.b0
  have b1 := HM4.out.b1
  go_wp2_with fail
  refine (HCA.out _ HM4.out.te).mono ?_
  rintro e w5 ⟨rfl, hb5⟩
  have HM5 := hid (HM4.out.below hb5)
  clear hb5 a0 a1 b0 b1
  have a0 := HM5.out.a0
  have a1 := HM5.out.a1
  have b0 := HM5.out.b0
  have b1 := HM5.out.b1
  go_wp2_with fail
  refine (HTA.out _ HM5.out.te).mono ?_
  rintro e w6 ⟨T6, rfl, hT6, hb6⟩
  have HM6 := hid (HM5.out.below hb6)
  clear hb6 a0 a1 b0 b1
  have hT6' := hT6.trans HEA.out
  have h6s : T6.size < 999999 := by
    have h1 := size_of hT6'
    simp at h1
    have := HPS.out
    have := HVS.out
    omega
  have HRT := hid (fun W (SW : Te W A m) => mread_any T6 A m W h6s SW)
  rw [hT6'] at HRT
  clear hT6 hT6' h6s
  go_wp2_with fail
  refine (HRT.out _ HM6.out.te).mono ?_
  rintro e w7 ⟨⟨P7, V7, ev7, rfl, hev7, hg7, _⟩, hb7⟩
  obtain ⟨hP7, hV7⟩ := hg7 HRA.out
  rw [HOA.out] at hP7 hV7
  obtain rfl : P7 = p := str_ext hP7
  obtain rfl : V7 = v := str_ext hV7
  rw [HRA.out, errA0] at hev7
  subst hev7
  have HM7 := hid (HM6.out.below hb7)
  have HBY := hid ((Below.refl w7.heap.size w7).alloc (Nat.le_refl _) (.cells #[.string P7, .string V7] 36))
  have HM8 := hid (HM7.out.below HBY.out)
  have hne7 := fun W => modNeq P7 V7 P7 V7 W
  simp only [and_self, decide_true, Bool.not_true] at hne7
  have a0 := HM8.out.a0
  have a1 := HM8.out.a1
  have b0 := HM8.out.b0
  have b1 := HM8.out.b1
  clear hg7 hP7 hV7 hb7
  go_wp2_with fail
  refine (HCB.out _ HM8.out.te).mono ?_
  rintro e w9 ⟨rfl, hb9⟩
  have HM9 := hid (HM8.out.below hb9)
  clear hb9 a0 a1 b0 b1
  have a0 := HM9.out.a0
  have a1 := HM9.out.a1
  have b0 := HM9.out.b0
  have b1 := HM9.out.b1
  rcases HX4.out with ⟨rfl, rfl, rfl⟩ | ⟨rfl, rfl, rfl⟩ | ⟨rfl, rfl, rfl⟩ | ⟨rfl, rfl, rfl⟩
  all_goals
    go_wp2_with fail
    go_region_held (fun W => W.cell? ⟨w.heap.size, 0, none⟩ = some (.string P7) ∧ W.cell? ⟨w.heap.size, 1, none⟩ = some (.string V7) ∧ W.cell? ⟨w.heap.size + 1, 0, none⟩ = some (.string q) ∧ W.cell? ⟨w.heap.size + 1, 1, none⟩ = some (.string u) ∧ Hid (Mb w W A m w.heap.size P7 V7 q u)) (first | exact HMd.out.held | exact HMc.out.held | exact HMb.out.held | exact HMa.out.held | exact HM9.out.drew.held) (first
      | (go_at_call_of 14 (#[Value.agg #[Value.string P7, Value.string V7], Value.agg #[Value.string q, Value.string u]]); refine (HAB.out _ ?_).mono ?_; exact HM9.out.drew.te; rintro e w' ⟨rfl, hb⟩; have HMa := hid (HM9.out.drew.below hb); clear hb)
      | (go_at_call_of 14 (#[Value.agg #[Value.string q, Value.string u], Value.agg #[Value.string P7, Value.string V7]]); refine (HBA.out _ ?_).mono ?_; exact HMa.out.te; rintro e w' ⟨rfl, hb⟩; have HMb := hid (HMa.out.below hb); clear hb)
      | (go_at_call_of 12 (Value.agg #[Value.string P7, Value.string V7]); refine (HTA.out _ ?_).mono ?_; exact HMb.out.te; rintro e w' ⟨Ta, rfl, hT, hb⟩; have HXa := hid hT; have HMc := hid (HMb.out.below hb); clear hT hb)
      | (go_at_call_of 12 (Value.agg #[Value.string q, Value.string u]); refine (HTB.out _ ?_).mono ?_; exact HMc.out.te; rintro e w' ⟨Tb, rfl, hT, hb⟩; have HXb := hid hT; have HMd := hid (HMc.out.below hb); clear hT hb))
    all_goals
      go_wp2_with fail
      go_ret
      refine ⟨ret_bool ?_, HMd.out.bl⟩
      have h8 := str_same Ta Tb
      have h9 := HDQ.out
      rw [HXa.out, HXb.out, decide_eq_decide.2 HTS.out, ← h9] at h8
      first | (rw [h8]; rfl) | rw [h8]
end Ve
end Go.Proofs.YtmgpapghdbopiaaDoor
