/-
  pewholderlaw1.ModTells walked: true for any text and any two modules; nothing old in memory turns.
-/
import Derived.Test.YtmgpapghdbopiaaGreatDoorModuled
import Derived.Test.YtmgpapghdbopiaaGreatDoorRefM
import Derived.Test.YtmgpapghdbopiaaGreatDoorCoded
import Derived.Deep.RegionHeld
namespace Go.Proofs.YtmgpapghdbopiaaGreatDoor
open Go.RowKit
namespace Ve

theorem modErr_err (p v : List UInt8) : modErr p v = 0 ∨ modErr p v = 1 ∨ modErr p v = 2 ∨ modErr p v = 4 := by
  unfold modErr
  by_cases h0 : pathErr p = 0
  · rw [if_pos h0]
    by_cases h1 : verErr v = 0
    · rw [if_pos h1]
      cases fitsB (nAt v 0) (pathN p)
      · right; right; right; rfl
      · left; rfl
    · rw [if_neg h1]
      rcases verErr_err v with h | h | h <;> omega
  · rw [if_neg h0]; exact pathErr_err p
theorem readErr_err (l : List UInt8) : readErr l = 0 ∨ readErr l = 1 ∨ readErr l = 2 ∨ readErr l = 4 := by
  unfold readErr
  split
  · exact modErr_err _ _
  · right; left; rfl
theorem coded_errA (A : Nat → Addr) (m : Int) (c : Nat) (w : World) (S : Te w A m) (hc : c = 0 ∨ c = 1 ∨ c = 2 ∨ c = 4) :
    Calls Tryz.prog 9 #[errA A c, .int .i64 (c : Nat)] w fun e w' => e = .returned (.bool true) ∧ Below w.heap.size w w' := by
  rcases hc with rfl | rfl | rfl | rfl
  · exact Er.coded_nil w
  · exact Er.coded_sen A 0 w S.sen (by omega)
  · exact Er.coded_sen A 1 w S.sen (by omega)
  · exact Er.coded_sen A 3 w S.sen (by omega)

set_option maxRecDepth 100000 in
set_option maxHeartbeats 2000000 in
theorem mtells_long (s p v q u : ByteArray) (A : Nat → Addr) (m : Int) (w : World) (S : Te w A m) (hl : 150 < s.size ∨ 90 < p.size ∨ 60 < v.size ∨ 90 < q.size ∨ 60 < u.size)
    (hp : p.size ≤ maxLen) (hv : v.size ≤ maxLen) (hq : q.size ≤ maxLen) (hu : u.size ≤ maxLen) (hs : s.size ≤ maxLen) :
    Calls Tryz.prog 5 #[.string s, .agg #[.string p, .string v], .agg #[.string q, .string u]] w fun e w' => e = .returned (.bool true) ∧ Below w.heap.size w w' := by
  have HM := hid (Mb.start p v q u S 45 45)
  have HV := hid (moduled_any A m _ HM.out.te)
  clear S
  unfold maxLen at hp hv hq hu hs
  by_cases h0 : 150 < s.size
  · go_enter Tryz.func5, Tryz.ntmps5
    go_wp2_with fail
    refine HV.out.mono ?_
    rintro e w1 ⟨rfl, hb1⟩
    have HM1 := hid (HM.out.below hb1)
    have a0 := HM1.out.a0
    have a1 := HM1.out.a1
    have b0 := HM1.out.b0
    have b1 := HM1.out.b1
    clear hb1
    go_wp2_with fail
    go_ret
    exact ⟨rfl, HM1.out.bl⟩
  · skip
    by_cases h1 : 90 < p.size
    · go_enter Tryz.func5, Tryz.ntmps5
      go_wp2_with fail
      refine HV.out.mono ?_
      rintro e w1 ⟨rfl, hb1⟩
      have HM1 := hid (HM.out.below hb1)
      have a0 := HM1.out.a0
      have a1 := HM1.out.a1
      have b0 := HM1.out.b0
      have b1 := HM1.out.b1
      clear hb1
      go_wp2_with fail
      go_ret
      exact ⟨rfl, HM1.out.bl⟩
    · skip
      by_cases h2 : 60 < v.size
      · go_enter Tryz.func5, Tryz.ntmps5
        go_wp2_with fail
        refine HV.out.mono ?_
        rintro e w1 ⟨rfl, hb1⟩
        have HM1 := hid (HM.out.below hb1)
        have a0 := HM1.out.a0
        have a1 := HM1.out.a1
        have b0 := HM1.out.b0
        have b1 := HM1.out.b1
        clear hb1
        go_wp2_with fail
        go_ret
        exact ⟨rfl, HM1.out.bl⟩
      · skip
        by_cases h3 : 90 < q.size
        · go_enter Tryz.func5, Tryz.ntmps5
          go_wp2_with fail
          refine HV.out.mono ?_
          rintro e w1 ⟨rfl, hb1⟩
          have HM1 := hid (HM.out.below hb1)
          have a0 := HM1.out.a0
          have a1 := HM1.out.a1
          have b0 := HM1.out.b0
          have b1 := HM1.out.b1
          clear hb1
          go_wp2_with fail
          go_ret
          exact ⟨rfl, HM1.out.bl⟩
        · skip
          have h4 : 60 < u.size := by omega
          go_enter Tryz.func5, Tryz.ntmps5
          go_wp2_with fail
          refine HV.out.mono ?_
          rintro e w1 ⟨rfl, hb1⟩
          have HM1 := hid (HM.out.below hb1)
          have a0 := HM1.out.a0
          have a1 := HM1.out.a1
          have b0 := HM1.out.b0
          have b1 := HM1.out.b1
          clear hb1
          go_wp2_with fail
          go_ret
          exact ⟨rfl, HM1.out.bl⟩

set_option maxRecDepth 100000 in
set_option maxHeartbeats 8000000 in
theorem mtells_short (s p v q u : ByteArray) (A : Nat → Addr) (m : Int) (w : World) (S : Te w A m) (hs : s.size ≤ 150) (hp : p.size ≤ 90) (hv : v.size ≤ 60) (hq : q.size ≤ 90) (hu : u.size ≤ 60) :
    Calls Tryz.prog 5 #[.string s, .agg #[.string p, .string v], .agg #[.string q, .string u]] w fun e w' => e = .returned (.bool true) ∧ Below w.heap.size w w' := by
  have HM := hid (Mb.start p v q u S 45 45)
  have HV := hid (moduled_any A m _ HM.out.te)
  have HSA := hid (fun W (SW : Te W A m) => msplit_any p A m W (by omega) SW)
  have HSB := hid (fun W => splitPath_any p W (by omega))
  have HPA := hid (fun W (SW : Te W A m) => mpath_any p A m W (by omega) SW)
  have HPE := hid (fun W => pathError_any p W (by omega))
  have HC1 := hid (fun W (SW : Te W A m) => coded_errA A m (pathErr p.data.toList) W SW (pathErr_err _))
  have HIA := hid (fun W => isAhead_any p v q u W (by omega) (by omega))
  have HCA := hid (fun W (SW : Te W A m) => mcheck_any p v A m W (by omega) (by omega) SW)
  have HME := hid (fun W => modError_any p v W (by omega) (by omega))
  have HC2 := hid (fun W (SW : Te W A m) => coded_errA A m (modErr p.data.toList v.data.toList) W SW (modErr_err _ _))
  have HTA := hid (fun W (SW : Te W A m) => mtext_any p v A m W (by omega) (by omega) SW)
  have HTR := hid (fun W => modTxt_any p v W (by omega) (by omega))
  have HAB := hid (fun W (SW : Te W A m) => ahead_any p v q u A m W (by omega) (by omega) SW)
  have HRD := hid (fun W (SW : Te W A m) => mread_any s A m W (by omega) SW)
  have HRM := hid (fun W => readMod_any s W (by omega))
  have HC3 := hid (fun W (SW : Te W A m) => coded_errA A m (readErr s.data.toList) W SW (readErr_err _))
  have hgd := modGuard
  generalize splitN p.data.toList = sn at *
  generalize errA A (pathErr p.data.toList) = ev1 at *
  generalize ((pathErr p.data.toList : Nat) : Int) = c1 at *
  generalize errA A (modErr p.data.toList v.data.toList) = ev2 at *
  generalize ((modErr p.data.toList v.data.toList : Nat) : Int) = c2 at *
  generalize aheadB p.data.toList v.data.toList q.data.toList u.data.toList = ab at *
  clear S
  go_enter Tryz.func5, Tryz.ntmps5
  go_wp2_with fail
  refine HV.out.mono ?_
  rintro e w1 ⟨rfl, hb1⟩
  have HM1 := hid (HM.out.below hb1)
  have a0 := HM1.out.a0
  have a1 := HM1.out.a1
  have b0 := HM1.out.b0
  have b1 := HM1.out.b1
  clear hb1
  go_wp2_with fail
  refine (HSA.out _ HM1.out.te).mono ?_
  rintro e w2 ⟨H1, rfl, hH1, hb2⟩
  have HM2 := hid (HM1.out.below hb2)
  clear hb2 a0 a1 b0 b1
  have a0 := HM2.out.a0
  have a1 := HM2.out.a1
  have b0 := HM2.out.b0
  have b1 := HM2.out.b1
  have HH1 := hid hH1
  clear hH1
  go_wp2_with fail
  refine (HSB.out _).mono ?_
  rintro e w3 ⟨H2, rfl, hH2, hb3⟩
  obtain rfl : H2 = H1 := str_ext (hH2.trans HH1.out.symm)
  have hhh := str_refl H2
  have HM3 := hid (HM2.out.below hb3)
  clear hb3 a0 a1 b0 b1 hH2
  have a0 := HM3.out.a0
  have a1 := HM3.out.a1
  have b0 := HM3.out.b0
  have b1 := HM3.out.b1
  go_wp2_with fail
  go_region_held (fun W => W.cell? ⟨w.heap.size, 0, none⟩ = some (.string p) ∧ W.cell? ⟨w.heap.size, 1, none⟩ = some (.string v) ∧ W.cell? ⟨w.heap.size + 1, 0, none⟩ = some (.string q) ∧ W.cell? ⟨w.heap.size + 1, 1, none⟩ = some (.string u) ∧ Hid (Mb w W A m w.heap.size p v q u)) (first | exact HMc.out.held | exact HMb.out.held | exact HMa.out.held | exact HM3.out.drew.held) (first
    | (go_at_call 24; refine (HPA.out _ ?_).mono ?_; exact HM3.out.drew.te; rintro e w' ⟨rfl, hb⟩; have HMa := hid (HM3.out.drew.below hb); clear hb)
    | (go_at_call 25; refine (HPE.out _).mono ?_; rintro e w' ⟨rfl, hb⟩; have HMb := hid (HMa.out.below hb); clear hb)
    | (go_at_call 9; refine (HC1.out _ ?_).mono ?_; exact HMb.out.te; rintro e w' ⟨rfl, hb⟩; have HMc := hid (HMb.out.below hb); clear hb))
  all_goals
    clear a0 a1 b0 b1
    have a0 := HMc.out.a0
    have a1 := HMc.out.a1
    have b0 := HMc.out.b0
    have b1 := HMc.out.b1
    go_wp2_with fail
    refine (HIA.out _).mono ?_
    rintro e w4 ⟨rfl, hb4⟩
    have HM4 := hid (HMc.out.below hb4)
    clear hb4 a0 a1 b0 b1
    have a0 := HM4.out.a0
    have a1 := HM4.out.a1
    have b0 := HM4.out.b0
    have b1 := HM4.out.b1
    go_wp2_with fail
    go_region_held (fun W => W.cell? ⟨w.heap.size, 0, none⟩ = some (.string p) ∧ W.cell? ⟨w.heap.size, 1, none⟩ = some (.string v) ∧ W.cell? ⟨w.heap.size + 1, 0, none⟩ = some (.string q) ∧ W.cell? ⟨w.heap.size + 1, 1, none⟩ = some (.string u) ∧ Hid (Mb w W A m w.heap.size p v q u)) (first | exact HNf.out.held | exact HNe.out.held | exact HNd.out.held | exact HNc.out.held | exact HNb.out.held | exact HNa.out.held | exact HM4.out.drew.held) (first
      | (go_at_call 27; refine (HCA.out _ ?_).mono ?_; exact HM4.out.drew.te; rintro e w' ⟨rfl, hb⟩; have HNa := hid (HM4.out.drew.below hb); clear hb)
      | (go_at_call 28; refine (HME.out _).mono ?_; rintro e w' ⟨rfl, hb⟩; have HNb := hid (HNa.out.below hb); clear hb)
      | (go_at_call 9; refine (HC2.out _ ?_).mono ?_; exact HNb.out.te; rintro e w' ⟨rfl, hb⟩; have HNc := hid (HNb.out.below hb); clear hb)
      | (go_at_call 29; refine (HTA.out _ ?_).mono ?_; exact HNc.out.te; rintro e w' ⟨T1, rfl, hT, hb⟩; have HT1 := hid hT; have HNd := hid (HNc.out.below hb); clear hT hb)
      | (go_at_call 30; refine (HTR.out _).mono ?_; rintro e w' ⟨T2, rfl, hT, hb⟩; obtain rfl : T2 = T1 := str_ext (hT.trans HT1.out.symm); have htt := str_refl T2; have HNe := hid (HNd.out.below hb); clear hT hb)
      | (go_at_call 31; refine (HAB.out _ ?_).mono ?_; exact HNe.out.te; rintro e w' ⟨rfl, hb⟩; have HNf := hid (HNe.out.below hb); clear hb))
    all_goals
      clear a0 a1 b0 b1
      have a0 := HNf.out.a0
      have a1 := HNf.out.a1
      have b0 := HNf.out.b0
      have b1 := HNf.out.b1
      go_wp2_with fail
      refine (HRD.out _ HNf.out.te).mono ?_
      rintro e w5 ⟨⟨P, V, ev, rfl, hev, hg, hn⟩, hb5⟩
      have HM5 := hid (HNf.out.below hb5)
      rw [← hev] at HC3
      have HGN := hid (And.intro hg hn)
      have HBX := hid ((Below.refl w5.heap.size w5).alloc (Nat.le_refl _) (.cells #[.string P, .string V] 45))
      have HM6 := hid (HM5.out.below HBX.out)
      obtain ⟨evt, evv, rfl⟩ | rfl : (∃ t x, ev = .iface t x) ∨ ev = .nilIface := by
        rw [hev]
        by_cases h : readErr s.data.toList = 0
        · right; rw [h]; rfl
        · left
          obtain ⟨a9, ha9⟩ := errA_ne A h
          exact ⟨_, _, ha9⟩
      all_goals
        clear hb5 hg hn hev a0 a1 b0 b1
        go_wp2_with fail
        refine (HRM.out _).mono ?_
        rintro e w7 ⟨⟨P', V', rfl, hg', hn'⟩, hb7⟩
        obtain ⟨rfl, rfl⟩ : P' = P ∧ V' = V := by
          by_cases h : readErr s.data.toList = 0
          · exact ⟨str_ext ((hg' h).1.trans (HGN.out.1 h).1.symm), str_ext ((hg' h).2.trans (HGN.out.1 h).2.symm)⟩
          · exact ⟨(hn' h).1.trans (HGN.out.2 h).1.symm, (hn' h).2.trans (HGN.out.2 h).2.symm⟩
        have HM7 := hid (HM6.out.below hb7)
        have HX7 := hid (res2 (hb7.mono (by simp)))
        have HBY := hid ((Below.refl w7.heap.size w7).alloc (Nat.le_refl _) (.cells #[.string P', .string V'] 45))
        have HM8 := hid (HM7.out.below HBY.out)
        have HX8 := hid (And.intro (cell_below HBY.out HX7.out.1.1) (cell_below HBY.out HX7.out.1.2))
        have HZ7 := hid HX7.out.2
        generalize ((readErr s.data.toList : Nat) : Int) = c3 at *
        clear hb7 hg' hn'
        go_wp2_with fail
        refine (HC3.out _ HM8.out.te).mono ?_
        rintro e w9 ⟨rfl, hb9⟩
        have HM9 := hid (HM8.out.below hb9)
        have x0 := cell_below hb9 HX8.out.1
        have x1 := cell_below hb9 HX8.out.2
        obtain ⟨⟨y0, y1⟩, yz⟩ := res2 (hb9.mono (by simp))
        have heq := fun W => modEql P' V' P' V' W
        simp only [and_self, decide_true] at heq
        clear hb9
        go_wp2_with fail
        go_ret
        exact ⟨rfl, HM9.out.bl⟩

theorem modTells_any (s p v q u : ByteArray) (A : Nat → Addr) (m : Int) (w : World) (S : Te w A m) (hp : p.size ≤ maxLen) (hv : v.size ≤ maxLen) (hq : q.size ≤ maxLen) (hu : u.size ≤ maxLen) (hs : s.size ≤ maxLen) :
    Calls Tryz.prog 5 #[.string s, .agg #[.string p, .string v], .agg #[.string q, .string u]] w fun e w' => e = .returned (.bool true) ∧ Below w.heap.size w w' := by
  by_cases hl : 150 < s.size ∨ 90 < p.size ∨ 60 < v.size ∨ 90 < q.size ∨ 60 < u.size
  · exact mtells_long s p v q u A m w S hl hp hv hq hu hs
  · exact mtells_short s p v q u A m w S (by omega) (by omega) (by omega) (by omega) (by omega)
end Ve
end Go.Proofs.YtmgpapghdbopiaaGreatDoor
