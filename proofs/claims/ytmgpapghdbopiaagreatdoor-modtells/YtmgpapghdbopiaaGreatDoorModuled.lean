/-
  The closed fact of the modules' statements (moduled); Path of package mod; where two modules lie.
-/
import Derived.Test.YtmgpapghdbopiaaGreatDoorModQ
namespace Go.Proofs.YtmgpapghdbopiaaGreatDoor
open Go.RowKit
namespace Ve

def k3 : ByteArray := ⟨#[97, 47, 98, 47, 118, 50, 64, 118, 50, 46, 48, 46, 49]⟩
def k3p : ByteArray := ⟨#[97, 47, 98, 47, 118, 50]⟩
def k3v : ByteArray := ⟨#[118, 50, 46, 48, 46, 49]⟩
def k3h : ByteArray := ⟨#[97, 47, 98]⟩
theorem k3_err : readErr k3.data.toList = 0 := by kernel_rfl
theorem k3_p : (one 64 k3.data.toList).1 = k3p.data.toList := by kernel_rfl
theorem k3_v : (one 64 k3.data.toList).2.1 = k3v.data.toList := by kernel_rfl
theorem k3_pe : pathErr k3p.data.toList = 0 := by kernel_rfl
theorem k3_n : pathN k3p.data.toList = 2 := by kernel_rfl
theorem k3_h : pathH k3p.data.toList = k3h.data.toList := by kernel_rfl
theorem k3_t : modText k3p.data.toList k3v.data.toList = k3.data.toList := by kernel_rfl

set_option maxHeartbeats 1000000 in
theorem moduled_any (A : Nat → Addr) (m : Int) (w : World) (S : Te w A m) :
    Calls Tryz.prog 21 #[] w fun e w' => e = .returned (.bool true) ∧ Below w.heap.size w w' := by
  have HS := hid S
  have H1 := hid (mread_any k3 A m w (by decide) S)
  clear S
  go_enter Tryz.func21, Tryz.ntmps21
  go_wp2_with fail
  refine H1.out.mono ?_
  rintro e w1 ⟨⟨P, V, ev, rfl, hev, hg, _⟩, hb1⟩
  obtain ⟨hP, hV⟩ := hg k3_err
  obtain rfl : P = k3p := str_ext (hP.trans k3_p)
  obtain rfl : V = k3v := str_ext (hV.trans k3_v)
  rw [k3_err, errA0] at hev
  subst hev
  have HB1 := hid hb1
  have HBA := hid ((Below.refl w1.heap.size w1).alloc (Nat.le_refl _) (.cells #[.string k3p, .string k3v] 45))
  have HSA := hid ((HS.out.below hb1).below HBA.out)
  clear hb1 hg hP hV
  go_wp2_with fail
  refine (msplit_ok k3p A m _ (by decide) HSA.out k3_pe).mono ?_
  rintro e w2 ⟨H, rfl, hH, hb2⟩
  obtain rfl : H = k3h := str_ext (hH.trans k3_h)
  rw [k3_n]
  have HS2 := hid (HSA.out.below hb2)
  obtain ⟨⟨r0, r1⟩, rz⟩ := res2 (hb2.mono (by simp))
  have HB2 := hid ((HB1.out.trans (HBA.out.mono HB1.out.size)).trans (hb2.mono (by have := HB1.out.size; simp; omega)))
  have e1 : (k3p.toList == [97, 47, 98, 47, 118, 50]) = true := by rw [ByteArray.toList_eq]; rfl
  have e2 : (k3h.toList == [97, 47, 98]) = true := by rw [ByteArray.toList_eq]; rfl
  have e3 : (k3.toList == [97, 47, 98, 47, 118, 50, 64, 118, 50, 46, 48, 46, 49]) = true := by rw [ByteArray.toList_eq]; rfl
  clear hH hb2
  go_wp2_with fail
  refine (mtext_any k3p k3v A m _ (by decide) (by decide) HS2.out).mono ?_
  rintro e w3 ⟨T, rfl, hT, hb3⟩
  obtain rfl : T = k3 := str_ext (hT.trans k3_t)
  have HB3 := hid (HB2.out.trans (hb3.mono HB2.out.size))
  clear hT hb3
  go_wp2_with fail
  go_ret
  exact ⟨rfl, HB3.out⟩

/-- Where the two modules lie. -/
structure Mb (w0 w : World) (A : Nat → Addr) (m : Int) (N : Nat) (p v q u : ByteArray) : Prop where
  te : Te w A m
  bl : Below w0.heap.size w0 w
  a0 : w.cell? ⟨N, 0, none⟩ = some (.string p)
  a1 : w.cell? ⟨N, 1, none⟩ = some (.string v)
  b0 : w.cell? ⟨N + 1, 0, none⟩ = some (.string q)
  b1 : w.cell? ⟨N + 1, 1, none⟩ = some (.string u)
theorem Mb.below {w0 w w' : World} {A : Nat → Addr} {m : Int} {N : Nat} {p v q u : ByteArray} (h : Mb w0 w A m N p v q u) (hb : Below w.heap.size w w') : Mb w0 w' A m N p v q u :=
  ⟨h.te.below hb, h.bl.trans (hb.mono h.bl.size), cell_below hb h.a0, cell_below hb h.a1, cell_below hb h.b0, cell_below hb h.b1⟩
theorem Mb.start {w : World} {A : Nat → Addr} {m : Int} (p v q u : ByteArray) (S : Te w A m) (T U : TypeId) : Mb w ((w.alloc (.cells #[.string p, .string v] T)).alloc (.cells #[.string q, .string u] U)) A m w.heap.size p v q u := by
  have hb := ((Below.refl w.heap.size w).alloc (Nat.le_refl _) (.cells #[.string p, .string v] T)).alloc (by simp) (.cells #[.string q, .string u] U)
  refine ⟨S.below hb, hb, ?_, ?_, ?_, ?_⟩ <;> simp
theorem Mb.drew {w0 w : World} {A : Nat → Addr} {m : Int} {N : Nat} {p v q u : ByteArray} (h : Mb w0 w A m N p v q u) : Mb w0 w.drew A m N p v q u := h.below (below_drawn w 1)
theorem Mb.held {w0 w : World} {A : Nat → Addr} {m : Int} {N : Nat} {p v q u : ByteArray} (h : Mb w0 w A m N p v q u) :
    w.cell? ⟨N, 0, none⟩ = some (.string p) ∧ w.cell? ⟨N, 1, none⟩ = some (.string v) ∧ w.cell? ⟨N + 1, 0, none⟩ = some (.string q) ∧ w.cell? ⟨N + 1, 1, none⟩ = some (.string u) ∧ Hid (Mb w0 w A m N p v q u) :=
  ⟨h.a0, h.a1, h.b0, h.b1, h⟩
theorem str_same (a b : ByteArray) : (a.toList == b.toList) = decide (a.data.toList = b.data.toList) := by
  rw [ByteArray.toList_eq, ByteArray.toList_eq, Bool.eq_iff_iff]; simp
theorem str_nil : ((⟨#[]⟩ : ByteArray).toList == []) = true := by rw [ByteArray.toList_eq]; rfl


set_option maxHeartbeats 1000000 in
theorem mpath_any (s : ByteArray) (A : Nat → Addr) (m : Int) (w : World) (hs : s.size < 4294967281) (S : Te w A m) :
    Calls Tryz.prog 24 #[.string s] w fun e w' => e = .returned (errA A (pathErr s.data.toList)) ∧ Below w.heap.size w w' := by
  have HP := hid (readPath_any s A m w hs S)
  clear S
  go_enter Tryz.func24, Tryz.ntmps24
  go_wp2_with fail
  refine HP.out.mono ?_
  rintro e w1 ⟨⟨H, n, ev, rfl, hv, _, _⟩, hb⟩
  have HB := hid hb
  have HE := hid hv
  clear hb hv
  go_wp2_with fail
  go_ret
  exact ⟨by rw [HE.out]; rfl, HB.out⟩
end Ve
end Go.Proofs.YtmgpapghdbopiaaGreatDoor
