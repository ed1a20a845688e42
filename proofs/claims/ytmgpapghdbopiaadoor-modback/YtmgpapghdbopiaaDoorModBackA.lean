/-
  pewholderlaw1.ModBack walked: true for any two modules and any text; nothing old in memory turns.
-/
import Derived.Test.YtmgpapghdbopiaaDoorModP
import Derived.Test.YtmgpapghdbopiaaDoorModQ
import Derived.Deep.RegionHeld
namespace Go.Proofs.YtmgpapghdbopiaaDoor
open Go.RowKit
namespace Ve

def k3 : ByteArray := ⟨#[97, 47, 98, 47, 118, 50, 64, 118, 50, 46, 48, 46, 49]⟩
def k3p : ByteArray := ⟨#[97, 47, 98, 47, 118, 50]⟩
def k3v : ByteArray := ⟨#[118, 50, 46, 48, 46, 49]⟩
def k3h : ByteArray := ⟨#[97, 47, 98]⟩
theorem k3_err : readErr k3.data.toList = 0 := by kernel_rfl
theorem k3_p : (one 64 k3.data.toList).1 = k3p.data.toList := by kernel_rfl
theorem k3_v : (one 64 k3.data.toList).2.1 = k3v.data.toList := by kernel_rfl
theorem k3_pe : pathErr k3p.data.toList = 0 := by kernel_rfl
theorem k3_n : pathN k3p.data.toList = 2 := by kernel_rfl
theorem k3_h : pathH k3p.data.toList = k3h.data.toList := by kernel_rfl
theorem k3_t : modText k3p.data.toList k3v.data.toList = k3.data.toList := by kernel_rfl

set_option maxHeartbeats 1000000 in
theorem moduled_any (A : Nat → Addr) (m : Int) (w : World) (S : Te w A m) :
    Calls Tryd.prog 10 #[] w fun e w' => e = .returned (.bool true) ∧ Below w.heap.size w w' := by
  have HS := hid S
  have H1 := hid (mread_any k3 A m w (by decide) S)
  clear S
  go_enter Tryd.func10, Tryd.ntmps10
  go_wp2_with fail
  refine H1.out.mono ?_
  rintro e w1 ⟨⟨P, V, ev, rfl, hev, hg, _⟩, hb1⟩
  obtain ⟨hP, hV⟩ := hg k3_err
  obtain rfl : P = k3p := str_ext (hP.trans k3_p)
  obtain rfl : V = k3v := str_ext (hV.trans k3_v)
  rw [k3_err, errA0] at hev
  subst hev
  have HB1 := hid hb1
  have HBA := hid ((Below.refl w1.heap.size w1).alloc (Nat.le_refl _) (.cells #[.string k3p, .string k3v] 36))
  have HSA := hid ((HS.out.below hb1).below HBA.out)
  clear hb1 hg hP hV
  go_wp2_with fail
  refine (msplit_ok k3p A m _ (by decide) HSA.out k3_pe).mono ?_
  rintro e w2 ⟨H, rfl, hH, hb2⟩
  obtain rfl : H = k3h := str_ext (hH.trans k3_h)
  rw [k3_n]
  have HS2 := hid (HSA.out.below hb2)
  obtain ⟨⟨r0, r1⟩, rz⟩ := res2 (hb2.mono (by simp))
  have HB2 := hid ((HB1.out.trans (HBA.out.mono HB1.out.size)).trans (hb2.mono (by have := HB1.out.size; simp; omega)))
  have e1 : (k3p.toList == [97, 47, 98, 47, 118, 50]) = true := by rw [ByteArray.toList_eq]; rfl
  have e2 : (k3h.toList == [97, 47, 98]) = true := by rw [ByteArray.toList_eq]; rfl
  have e3 : (k3.toList == [97, 47, 98, 47, 118, 50, 64, 118, 50, 46, 48, 46, 49]) = true := by rw [ByteArray.toList_eq]; rfl
  clear hH hb2
  go_wp2_with fail
  refine (mtext_any k3p k3v A m _ (by decide) (by decide) HS2.out).mono ?_
  rintro e w3 ⟨T, rfl, hT, hb3⟩
  obtain rfl : T = k3 := str_ext (hT.trans k3_t)
  have HB3 := hid (HB2.out.trans (hb3.mono HB2.out.size))
  clear hT hb3
  go_wp2_with fail
  go_ret
  exact ⟨rfl, HB3.out⟩

/-- Where the two modules lie. -/
structure Mb (w0 w : World) (A : Nat → Addr) (m : Int) (N : Nat) (p v q u : ByteArray) : Prop where
  te : Te w A m
  bl : Below w0.heap.size w0 w
  a0 : w.cell? ⟨N, 0, none⟩ = some (.string p)
  a1 : w.cell? ⟨N, 1, none⟩ = some (.string v)
  b0 : w.cell? ⟨N + 1, 0, none⟩ = some (.string q)
  b1 : w.cell? ⟨N + 1, 1, none⟩ = some (.string u)
theorem Mb.below {w0 w w' : World} {A : Nat → Addr} {m : Int} {N : Nat} {p v q u : ByteArray} (h : Mb w0 w A m N p v q u) (hb : Below w.heap.size w w') : Mb w0 w' A m N p v q u :=
  ⟨h.te.below hb, h.bl.trans (hb.mono h.bl.size), cell_below hb h.a0, cell_below hb h.a1, cell_below hb h.b0, cell_below hb h.b1⟩
theorem Mb.start {w : World} {A : Nat → Addr} {m : Int} (p v q u : ByteArray) (S : Te w A m) (T U : TypeId) : Mb w ((w.alloc (.cells #[.string p, .string v] T)).alloc (.cells #[.string q, .string u] U)) A m w.heap.size p v q u := by
  have hb := ((Below.refl w.heap.size w).alloc (Nat.le_refl _) (.cells #[.string p, .string v] T)).alloc (by simp) (.cells #[.string q, .string u] U)
  refine ⟨S.below hb, hb, ?_, ?_, ?_, ?_⟩ <;> simp
theorem Mb.drew {w0 w : World} {A : Nat → Addr} {m : Int} {N : Nat} {p v q u : ByteArray} (h : Mb w0 w A m N p v q u) : Mb w0 w.drew A m N p v q u := h.below (below_drawn w 1)
theorem Mb.held {w0 w : World} {A : Nat → Addr} {m : Int} {N : Nat} {p v q u : ByteArray} (h : Mb w0 w A m N p v q u) :
    w.cell? ⟨N, 0, none⟩ = some (.string p) ∧ w.cell? ⟨N, 1, none⟩ = some (.string v) ∧ w.cell? ⟨N + 1, 0, none⟩ = some (.string q) ∧ w.cell? ⟨N + 1, 1, none⟩ = some (.string u) ∧ Hid (Mb w0 w A m N p v q u) :=
  ⟨h.a0, h.a1, h.b0, h.b1, h⟩
theorem str_same (a b : ByteArray) : (a.toList == b.toList) = decide (a.data.toList = b.data.toList) := by
  rw [ByteArray.toList_eq, ByteArray.toList_eq, Bool.eq_iff_iff]; simp
theorem str_nil : ((⟨#[]⟩ : ByteArray).toList == []) = true := by rw [ByteArray.toList_eq]; rfl

set_option maxRecDepth 100000 in
set_option maxHeartbeats 2000000 in
theorem back_long (p v q u s : ByteArray) (A : Nat → Addr) (m : Int) (w : World) (S : Te w A m) (hl : 150 < s.size ∨ 90 < p.size ∨ 60 < v.size ∨ 90 < q.size ∨ 60 < u.size)
    (hp : p.size ≤ maxLen) (hv : v.size ≤ maxLen) (hq : q.size ≤ maxLen) (hu : u.size ≤ maxLen) (hs : s.size ≤ maxLen) :
    Calls Tryd.prog 4 #[.agg #[.string p, .string v], .agg #[.string q, .string u], .string s] w fun e w' => e = .returned (.bool true) ∧ Below w.heap.size w w' := by
  have HM := hid (Mb.start p v q u S 36 36)
  have HV := hid (moduled_any A m _ HM.out.te)
  clear S
  unfold maxLen at hp hv hq hu hs
  by_cases h0 : 150 < s.size
  · go_enter Tryd.func4, Tryd.ntmps4
    go_wp2_with fail
    refine HV.out.mono ?_
    rintro e w1 ⟨rfl, hb1⟩
    have HM1 := hid (HM.out.below hb1)
    have a0 := HM1.out.a0
    have a1 := HM1.out.a1
    have b0 := HM1.out.b0
    have b1 := HM1.out.b1
    clear hb1
    go_wp2_with fail
    go_ret
    exact ⟨rfl, HM1.out.bl⟩
  · skip
    by_cases h1 : 90 < p.size
    · go_enter Tryd.func4, Tryd.ntmps4
      go_wp2_with fail
      refine HV.out.mono ?_
      rintro e w1 ⟨rfl, hb1⟩
      have HM1 := hid (HM.out.below hb1)
      have a0 := HM1.out.a0
      have a1 := HM1.out.a1
      have b0 := HM1.out.b0
      have b1 := HM1.out.b1
      clear hb1
      go_wp2_with fail
      go_ret
      exact ⟨rfl, HM1.out.bl⟩
    · skip
      by_cases h2 : 60 < v.size
      · go_enter Tryd.func4, Tryd.ntmps4
        go_wp2_with fail
        refine HV.out.mono ?_
        rintro e w1 ⟨rfl, hb1⟩
        have HM1 := hid (HM.out.below hb1)
        have a0 := HM1.out.a0
        have a1 := HM1.out.a1
        have b0 := HM1.out.b0
        have b1 := HM1.out.b1
        clear hb1
        go_wp2_with fail
        go_ret
        exact ⟨rfl, HM1.out.bl⟩
      · skip
        by_cases h3 : 90 < q.size
        · go_enter Tryd.func4, Tryd.ntmps4
          go_wp2_with fail
          refine HV.out.mono ?_
          rintro e w1 ⟨rfl, hb1⟩
          have HM1 := hid (HM.out.below hb1)
          have a0 := HM1.out.a0
          have a1 := HM1.out.a1
          have b0 := HM1.out.b0
          have b1 := HM1.out.b1
          clear hb1
          go_wp2_with fail
          go_ret
          exact ⟨rfl, HM1.out.bl⟩
        · skip
          have h4 : 60 < u.size := by omega
          go_enter Tryd.func4, Tryd.ntmps4
          go_wp2_with fail
          refine HV.out.mono ?_
          rintro e w1 ⟨rfl, hb1⟩
          have HM1 := hid (HM.out.below hb1)
          have a0 := HM1.out.a0
          have a1 := HM1.out.a1
          have b0 := HM1.out.b0
          have b1 := HM1.out.b1
          clear hb1
          go_wp2_with fail
          go_ret
          exact ⟨rfl, HM1.out.bl⟩

set_option maxRecDepth 100000 in
set_option maxHeartbeats 4000000 in
theorem back_r0 (p v q u s : ByteArray) (A : Nat → Addr) (m : Int) (w : World) (S : Te w A m) (hs : s.size ≤ 150) (hp : p.size ≤ 90) (hv : v.size ≤ 60) (hq : q.size ≤ 90) (hu : u.size ≤ 60)
    (hr : readErr s.data.toList = 0) (ha : modErr p.data.toList v.data.toList ≠ 0) :
    Calls Tryd.prog 4 #[.agg #[.string p, .string v], .agg #[.string q, .string u], .string s] w fun e w' => e = .returned (.bool true) ∧ Below w.heap.size w w' := by
  have HM := hid (Mb.start p v q u S 36 36)
  have HV := hid (moduled_any A m _ HM.out.te)
  have HR := hid (fun W (SW : Te W A m) => mread_any s A m W (by omega) SW)
  have HCA := hid (fun W (SW : Te W A m) => mcheck_any p v A m W (by omega) (by omega) SW)
  have HTA := hid (fun W (SW : Te W A m) => mtext_any p v A m W (by omega) (by omega) SW)
  have HRR := hid hr
  have HPS := hid hp
  have HVS := hid hv
  have hgd := modGuard
  have HEA := hid (modText_no ha)
  obtain ⟨aA, haA⟩ := errA_ne A ha
  rw [haA] at HCA
  clear ha haA
  clear S hr
  go_enter Tryd.func4, Tryd.ntmps4
  go_wp2_with fail
  refine HV.out.mono ?_
  rintro e w1 ⟨rfl, hb1⟩
  have HM1 := hid (HM.out.below hb1)
  have a0 := HM1.out.a0
  have a1 := HM1.out.a1
  have b0 := HM1.out.b0
  have b1 := HM1.out.b1
  clear hb1
  go_wp2_with fail
  refine (HR.out _ HM1.out.te).mono ?_
  rintro e w2 ⟨⟨P, V, ev, rfl, hev, hg, hn⟩, hb2⟩
  have HM2 := hid (HM1.out.below hb2)
  clear hb2 a0 a1 b0 b1
  obtain ⟨hP, hV⟩ := hg HRR.out
  rw [HRR.out, errA0] at hev
  subst hev
  have HPV := hid (show modText P.data.toList V.data.toList = s.data.toList by rw [hP, hV]; exact (read_right HRR.out).2)
  have hP9 : P.size < 999999 := by
    have h1 := size_of hP
    have h2 := (one_le 64 s.data.toList).1
    simp at h2; omega
  have hV9 : V.size < 999999 := by
    have h1 := size_of hV
    have h2 := (one_le 64 s.data.toList).2
    simp at h2; omega
  have HTX := hid (fun W (SW : Te W A m) => mtext_any P V A m W hP9 hV9 SW)
  have hss := str_refl s
  have HBX := hid ((Below.refl w2.heap.size w2).alloc (Nat.le_refl _) (.cells #[.string P, .string V] 36))
  have HM3 := hid (HM2.out.below HBX.out)
  clear hg hn hP hV hP9 hV9
  go_wp2_with fail
  refine (HTX.out _ HM3.out.te).mono ?_
  rintro e w3 ⟨T, rfl, hT, hb3⟩
  obtain rfl : T = s := str_ext (hT.trans HPV.out)
  have HM4 := hid (HM3.out.below hb3)
  clear hT hb3
  have a0 := HM4.out.a0
  have a1 := HM4.out.a1
  have b0 := HM4.out.b0
  have b1 := HM4.out.b1
  go_wp2_with fail
  refine (HCA.out _ HM4.out.te).mono ?_
  rintro e w5 ⟨rfl, hb5⟩
  have HM5 := hid (HM4.out.below hb5)
  clear hb5 a0 a1 b0 b1
  have a0 := HM5.out.a0
  have a1 := HM5.out.a1
  have b0 := HM5.out.b0
  have b1 := HM5.out.b1
  go_wp2_with fail
  refine (HTA.out _ HM5.out.te).mono ?_
  rintro e w6 ⟨T6, rfl, hT6, hb6⟩
  have HM6 := hid (HM5.out.below hb6)
  clear hb6 a0 a1 b0 b1
  obtain rfl : T6 = ⟨#[]⟩ := str_ext (hT6.trans HEA.out)
  have hnil := str_nil
  clear hT6
  go_wp2_with fail
  go_ret
  exact ⟨rfl, HM6.out.bl⟩

set_option maxRecDepth 100000 in
set_option maxHeartbeats 4000000 in
theorem back_r1 (p v q u s : ByteArray) (A : Nat → Addr) (m : Int) (w : World) (S : Te w A m) (hs : s.size ≤ 150) (hp : p.size ≤ 90) (hv : v.size ≤ 60) (hq : q.size ≤ 90) (hu : u.size ≤ 60)
    (hr : readErr s.data.toList = 0) (ha : modErr p.data.toList v.data.toList = 0) (hb : modErr q.data.toList u.data.toList ≠ 0) :
    Calls Tryd.prog 4 #[.agg #[.string p, .string v], .agg #[.string q, .string u], .string s] w fun e w' => e = .returned (.bool true) ∧ Below w.heap.size w w' := by
  have HM := hid (Mb.start p v q u S 36 36)
  have HV := hid (moduled_any A m _ HM.out.te)
  have HR := hid (fun W (SW : Te W A m) => mread_any s A m W (by omega) SW)
  have HCA := hid (fun W (SW : Te W A m) => mcheck_any p v A m W (by omega) (by omega) SW)
  have HTA := hid (fun W (SW : Te W A m) => mtext_any p v A m W (by omega) (by omega) SW)
  have HCB := hid (fun W (SW : Te W A m) => mcheck_any q u A m W (by omega) (by omega) SW)
  have HEA := hid (modText_is ha)
  have HRA := hid (text_right ha)
  have HOA := hid (text_one ha)
  have HRR := hid hr
  have HPS := hid hp
  have HVS := hid hv
  have hgd := modGuard
  rw [ha, errA0] at HCA
  clear ha
  obtain ⟨aB, haB⟩ := errA_ne A hb
  rw [haB] at HCB
  clear hb haB
  clear S hr
  go_enter Tryd.func4, Tryd.ntmps4
  go_wp2_with fail
  refine HV.out.mono ?_
  rintro e w1 ⟨rfl, hb1⟩
  have HM1 := hid (HM.out.below hb1)
  have a0 := HM1.out.a0
  have a1 := HM1.out.a1
  have b0 := HM1.out.b0
  have b1 := HM1.out.b1
  clear hb1
  go_wp2_with fail
  refine (HR.out _ HM1.out.te).mono ?_
  rintro e w2 ⟨⟨P, V, ev, rfl, hev, hg, hn⟩, hb2⟩
  have HM2 := hid (HM1.out.below hb2)
  clear hb2 a0 a1 b0 b1
  obtain ⟨hP, hV⟩ := hg HRR.out
  rw [HRR.out, errA0] at hev
  subst hev
  have HPV := hid (show modText P.data.toList V.data.toList = s.data.toList by rw [hP, hV]; exact (read_right HRR.out).2)
  have hP9 : P.size < 999999 := by
    have h1 := size_of hP
    have h2 := (one_le 64 s.data.toList).1
    simp at h2; omega
  have hV9 : V.size < 999999 := by
    have h1 := size_of hV
    have h2 := (one_le 64 s.data.toList).2
    simp at h2; omega
  have HTX := hid (fun W (SW : Te W A m) => mtext_any P V A m W hP9 hV9 SW)
  have hss := str_refl s
  have HBX := hid ((Below.refl w2.heap.size w2).alloc (Nat.le_refl _) (.cells #[.string P, .string V] 36))
  have HM3 := hid (HM2.out.below HBX.out)
  clear hg hn hP hV hP9 hV9
  go_wp2_with fail
  refine (HTX.out _ HM3.out.te).mono ?_
  rintro e w3 ⟨T, rfl, hT, hb3⟩
  obtain rfl : T = s := str_ext (hT.trans HPV.out)
  have HM4 := hid (HM3.out.below hb3)
  clear hT hb3
  have a0 := HM4.out.a0
  have a1 := HM4.out.a1
  have b0 := HM4.out.b0
  have b1 := HM4.out.b1
  go_wp2_with fail
  refine (HCA.out _ HM4.out.te).mono ?_
  rintro e w5 ⟨rfl, hb5⟩
  have HM5 := hid (HM4.out.below hb5)
  clear hb5 a0 a1 b0 b1
  have a0 := HM5.out.a0
  have a1 := HM5.out.a1
  have b0 := HM5.out.b0
  have b1 := HM5.out.b1
  go_wp2_with fail
  refine (HTA.out _ HM5.out.te).mono ?_
  rintro e w6 ⟨T6, rfl, hT6, hb6⟩
  have HM6 := hid (HM5.out.below hb6)
  clear hb6 a0 a1 b0 b1
  have hT6' := hT6.trans HEA.out
  have h6s : T6.size < 999999 := by
    have h1 := size_of hT6'
    simp at h1
    have := HPS.out
    have := HVS.out
    omega
  have HRT := hid (fun W (SW : Te W A m) => mread_any T6 A m W h6s SW)
  rw [hT6'] at HRT
  clear hT6 hT6' h6s
  go_wp2_with fail
  refine (HRT.out _ HM6.out.te).mono ?_
  rintro e w7 ⟨⟨P7, V7, ev7, rfl, hev7, hg7, _⟩, hb7⟩
  obtain ⟨hP7, hV7⟩ := hg7 HRA.out
  rw [HOA.out] at hP7 hV7
  obtain rfl : P7 = p := str_ext hP7
  obtain rfl : V7 = v := str_ext hV7
  rw [HRA.out, errA0] at hev7
  subst hev7
  have HM7 := hid (HM6.out.below hb7)
  have HBY := hid ((Below.refl w7.heap.size w7).alloc (Nat.le_refl _) (.cells #[.string P7, .string V7] 36))
  have HM8 := hid (HM7.out.below HBY.out)
  have hne7 := fun W => modNeq P7 V7 P7 V7 W
  simp only [and_self, decide_true, Bool.not_true] at hne7
  have a0 := HM8.out.a0
  have a1 := HM8.out.a1
  have b0 := HM8.out.b0
  have b1 := HM8.out.b1
  clear hg7 hP7 hV7 hb7
  go_wp2_with fail
  refine (HCB.out _ HM8.out.te).mono ?_
  rintro e w9 ⟨rfl, hb9⟩
  have HM9 := hid (HM8.out.below hb9)
  clear hb9 a0 a1 b0 b1
  go_wp2_with fail
  go_ret
  exact ⟨rfl, HM9.out.bl⟩

set_option maxRecDepth 100000 in
set_option maxHeartbeats 4000000 in
theorem back_n0 (p v q u s : ByteArray) (A : Nat → Addr) (m : Int) (w : World) (S : Te w A m) (hs : s.size ≤ 150) (hp : p.size ≤ 90) (hv : v.size ≤ 60) (hq : q.size ≤ 90) (hu : u.size ≤ 60)
    (hr : readErr s.data.toList ≠ 0) (ha : modErr p.data.toList v.data.toList ≠ 0) :
    Calls Tryd.prog 4 #[.agg #[.string p, .string v], .agg #[.string q, .string u], .string s] w fun e w' => e = .returned (.bool true) ∧ Below w.heap.size w w' := by
  have HM := hid (Mb.start p v q u S 36 36)
  have HV := hid (moduled_any A m _ HM.out.te)
  have HR := hid (fun W (SW : Te W A m) => mread_any s A m W (by omega) SW)
  have HCA := hid (fun W (SW : Te W A m) => mcheck_any p v A m W (by omega) (by omega) SW)
  have HTA := hid (fun W (SW : Te W A m) => mtext_any p v A m W (by omega) (by omega) SW)
  have HRR := hid hr
  have HPS := hid hp
  have HVS := hid hv
  have hgd := modGuard
  have HEA := hid (modText_no ha)
  obtain ⟨aA, haA⟩ := errA_ne A ha
  rw [haA] at HCA
  clear ha haA
  clear S hr
  go_enter Tryd.func4, Tryd.ntmps4
  go_wp2_with fail
  refine HV.out.mono ?_
  rintro e w1 ⟨rfl, hb1⟩
  have HM1 := hid (HM.out.below hb1)
  have a0 := HM1.out.a0
  have a1 := HM1.out.a1
  have b0 := HM1.out.b0
  have b1 := HM1.out.b1
  clear hb1
  go_wp2_with fail
  refine (HR.out _ HM1.out.te).mono ?_
  rintro e w2 ⟨⟨P, V, ev, rfl, hev, hg, hn⟩, hb2⟩
  have HM2 := hid (HM1.out.below hb2)
  clear hb2 a0 a1 b0 b1
  obtain ⟨rfl, rfl⟩ := hn HRR.out
  obtain ⟨a9, ha9⟩ := errA_ne A HRR.out
  rw [ha9] at hev
  subst hev
  have hne0 := fun W => modNeq ⟨#[]⟩ ⟨#[]⟩ ⟨#[]⟩ ⟨#[]⟩ W
  simp only [and_self, decide_true, Bool.not_true] at hne0
  have HBX := hid ((Below.refl w2.heap.size w2).alloc (Nat.le_refl _) (.cells #[.string ⟨#[]⟩, .string ⟨#[]⟩] 36))
  have HM4 := hid (HM2.out.below HBX.out)
  clear hg hn ha9
  have a0 := HM4.out.a0
  have a1 := HM4.out.a1
  have b0 := HM4.out.b0
  have b1 := HM4.out.b1
  go_wp2_with fail
  refine (HCA.out _ HM4.out.te).mono ?_
  rintro e w5 ⟨rfl, hb5⟩
  have HM5 := hid (HM4.out.below hb5)
  clear hb5 a0 a1 b0 b1
  have a0 := HM5.out.a0
  have a1 := HM5.out.a1
  have b0 := HM5.out.b0
  have b1 := HM5.out.b1
  go_wp2_with fail
  refine (HTA.out _ HM5.out.te).mono ?_
  rintro e w6 ⟨T6, rfl, hT6, hb6⟩
  have HM6 := hid (HM5.out.below hb6)
  clear hb6 a0 a1 b0 b1
  obtain rfl : T6 = ⟨#[]⟩ := str_ext (hT6.trans HEA.out)
  have hnil := str_nil
  clear hT6
  go_wp2_with fail
  go_ret
  exact ⟨rfl, HM6.out.bl⟩

set_option maxRecDepth 100000 in
set_option maxHeartbeats 4000000 in
theorem back_n1 (p v q u s : ByteArray) (A : Nat → Addr) (m : Int) (w : World) (S : Te w A m) (hs : s.size ≤ 150) (hp : p.size ≤ 90) (hv : v.size ≤ 60) (hq : q.size ≤ 90) (hu : u.size ≤ 60)
    (hr : readErr s.data.toList ≠ 0) (ha : modErr p.data.toList v.data.toList = 0) (hb : modErr q.data.toList u.data.toList ≠ 0) :
    Calls Tryd.prog 4 #[.agg #[.string p, .string v], .agg #[.string q, .string u], .string s] w fun e w' => e = .returned (.bool true) ∧ Below w.heap.size w w' := by
  have HM := hid (Mb.start p v q u S 36 36)
  have HV := hid (moduled_any A m _ HM.out.te)
  have HR := hid (fun W (SW : Te W A m) => mread_any s A m W (by omega) SW)
  have HCA := hid (fun W (SW : Te W A m) => mcheck_any p v A m W (by omega) (by omega) SW)
  have HTA := hid (fun W (SW : Te W A m) => mtext_any p v A m W (by omega) (by omega) SW)
  have HCB := hid (fun W (SW : Te W A m) => mcheck_any q u A m W (by omega) (by omega) SW)
  have HEA := hid (modText_is ha)
  have HRA := hid (text_right ha)
  have HOA := hid (text_one ha)
  have HRR := hid hr
  have HPS := hid hp
  have HVS := hid hv
  have hgd := modGuard
  rw [ha, errA0] at HCA
  clear ha
  obtain ⟨aB, haB⟩ := errA_ne A hb
  rw [haB] at HCB
  clear hb haB
  clear S hr
  go_enter Tryd.func4, Tryd.ntmps4
  go_wp2_with fail
  refine HV.out.mono ?_
  rintro e w1 ⟨rfl, hb1⟩
  have HM1 := hid (HM.out.below hb1)
  have a0 := HM1.out.a0
  have a1 := HM1.out.a1
  have b0 := HM1.out.b0
  have b1 := HM1.out.b1
  clear hb1
  go_wp2_with fail
  refine (HR.out _ HM1.out.te).mono ?_
  rintro e w2 ⟨⟨P, V, ev, rfl, hev, hg, hn⟩, hb2⟩
  have HM2 := hid (HM1.out.below hb2)
  clear hb2 a0 a1 b0 b1
  obtain ⟨rfl, rfl⟩ := hn HRR.out
  obtain ⟨a9, ha9⟩ := errA_ne A HRR.out
  rw [ha9] at hev
  subst hev
  have hne0 := fun W => modNeq ⟨#[]⟩ ⟨#[]⟩ ⟨#[]⟩ ⟨#[]⟩ W
  simp only [and_self, decide_true, Bool.not_true] at hne0
  have HBX := hid ((Below.refl w2.heap.size w2).alloc (Nat.le_refl _) (.cells #[.string ⟨#[]⟩, .string ⟨#[]⟩] 36))
  have HM4 := hid (HM2.out.below HBX.out)
  clear hg hn ha9
  have a0 := HM4.out.a0
  have a1 := HM4.out.a1
  have b0 := HM4.out.b0
  have b1 := HM4.out.b1
  go_wp2_with fail
  refine (HCA.out _ HM4.out.te).mono ?_
  rintro e w5 ⟨rfl, hb5⟩
  have HM5 := hid (HM4.out.below hb5)
  clear hb5 a0 a1 b0 b1
  have a0 := HM5.out.a0
  have a1 := HM5.out.a1
  have b0 := HM5.out.b0
  have b1 := HM5.out.b1
  go_wp2_with fail
  refine (HTA.out _ HM5.out.te).mono ?_
  rintro e w6 ⟨T6, rfl, hT6, hb6⟩
  have HM6 := hid (HM5.out.below hb6)
  clear hb6 a0 a1 b0 b1
  have hT6' := hT6.trans HEA.out
  have h6s : T6.size < 999999 := by
    have h1 := size_of hT6'
    simp at h1
    have := HPS.out
    have := HVS.out
    omega
  have HRT := hid (fun W (SW : Te W A m) => mread_any T6 A m W h6s SW)
  rw [hT6'] at HRT
  clear hT6 hT6' h6s
  go_wp2_with fail
  refine (HRT.out _ HM6.out.te).mono ?_
  rintro e w7 ⟨⟨P7, V7, ev7, rfl, hev7, hg7, _⟩, hb7⟩
  obtain ⟨hP7, hV7⟩ := hg7 HRA.out
  rw [HOA.out] at hP7 hV7
  obtain rfl : P7 = p := str_ext hP7
  obtain rfl : V7 = v := str_ext hV7
  rw [HRA.out, errA0] at hev7
  subst hev7
  have HM7 := hid (HM6.out.below hb7)
  have HBY := hid ((Below.refl w7.heap.size w7).alloc (Nat.le_refl _) (.cells #[.string P7, .string V7] 36))
  have HM8 := hid (HM7.out.below HBY.out)
  have hne7 := fun W => modNeq P7 V7 P7 V7 W
  simp only [and_self, decide_true, Bool.not_true] at hne7
  have a0 := HM8.out.a0
  have a1 := HM8.out.a1
  have b0 := HM8.out.b0
  have b1 := HM8.out.b1
  clear hg7 hP7 hV7 hb7
  go_wp2_with fail
  refine (HCB.out _ HM8.out.te).mono ?_
  rintro e w9 ⟨rfl, hb9⟩
  have HM9 := hid (HM8.out.below hb9)
  clear hb9 a0 a1 b0 b1
  go_wp2_with fail
  go_ret
  exact ⟨rfl, HM9.out.bl⟩
end Ve
end Go.Proofs.YtmgpapghdbopiaaDoor
