/-
  The closed fact of the statements on versions (versed) is true.
-/
import Derived.Test.YtmgpapghdbopiaaGreatDoorVerM
import Derived.KernelRfl
namespace Go.Proofs.YtmgpapghdbopiaaGreatDoor
open Go.RowKit
namespace Ve

def s1 : ByteArray := ⟨#[118, 49, 46, 50, 48, 46, 51, 45, 114, 99, 46, 49]⟩
def s2 : ByteArray := ⟨#[118, 49, 46, 50, 48, 46, 51]⟩
theorem k_err1 : verErr s1.data.toList = 0 := by kernel_rfl
theorem k_err2 : verErr s2.data.toList = 0 := by kernel_rfl
theorem k_n0 : nAt s1.data.toList 0 = 1 := by kernel_rfl
theorem k_n1 : nAt s1.data.toList 1 = 20 := by kernel_rfl
theorem k_n2 : nAt s1.data.toList 2 = 3 := by kernel_rfl
theorem k_m0 : nAt s2.data.toList 0 = 1 := by kernel_rfl
theorem k_m1 : nAt s2.data.toList 1 = 20 := by kernel_rfl
theorem k_m2 : nAt s2.data.toList 2 = 3 := by kernel_rfl
theorem k_m : ∀ i, i < 3 → nAt s1.data.toList i = nAt s2.data.toList i := by
  intro i hi
  match i, hi with
  | 0, _ => exact k_n0.trans k_m0.symm
  | 1, _ => exact k_n1.trans k_m1.symm
  | 2, _ => exact k_n2.trans k_m2.symm
theorem k_p1 : preOf s1.data.toList = [[114, 99], [49]] := by kernel_rfl
theorem k_p2 : preOf s2.data.toList = [] := by kernel_rfl
theorem k_pre : pre [[114, 99], [49]] = 0 := by kernel_rfl
theorem k_text : textOf 1 20 3 [[114, 99], [49]] = s1.data.toList := by
  rw [textOf_pre, k_pre]
  have h1 : Lib.itoa 1 = [49] := by unfold Lib.itoa; rw [if_neg (by omega)]; exact Lib.decDigits_one (i := 1) (by omega)
  have h2 : Lib.itoa 20 = [50, 48] := by unfold Lib.itoa; rw [if_neg (by omega)]; exact Lib.decDigits_two (i := 20) (by omega) (by omega)
  have h3 : Lib.itoa 3 = [51] := by unfold Lib.itoa; rw [if_neg (by omega)]; exact Lib.decDigits_one (i := 3) (by omega)
  unfold core3
  rw [h1, h2, h3]
  decide

set_option maxHeartbeats 1000000 in
theorem versed_any (aT aB : Addr) (m : Int) (w : World) (S : Vs w aT aB m) (htab : Lib.TabIs Tryz.prog w powName .u64 Lib.pow10Tab) :
    Calls Tryz.prog 6 #[] w fun e w' => e = .returned (.bool true) ∧ Below w.heap.size w w' := by
  have HS := hid S
  have HTB := hid htab
  have H1 := hid (vsplit_good s1 aT aB m w (by decide) S k_err1)
  rw [k_n0, k_n1, k_n2, k_p1] at H1
  clear S htab
  go_enter Tryz.func6, Tryz.ntmps6
  go_wp2_with fail
  refine H1.out.mono ?_
  rintro e w1 ⟨v, X, rfl, hX, hst, hb1⟩
  have hXl : X.length = 2 := by rw [← bl_len, hX]; rfl
  have hXn : X ≠ [] := by intro h; rw [h] at hXl; cases hXl
  obtain ⟨b, rfl, hbz, hcel⟩ : ∃ b, v = .slice (some ⟨b, 0, none⟩) X.length X.length ∧ b < w1.heap.size ∧ ∀ j (h : j < X.length), w1.cell? ⟨b, 0 + j, none⟩ = some (.string X[j]) := by
    rcases hst with ⟨h, _⟩ | ⟨_, b, h, h2, h3⟩
    · exact absurd h hXn
    · exact ⟨b, h, h2, h3⟩
  have HB1 := hid hb1
  have hba : Below w1.heap.size w1 (w1.alloc (.cells #[.int .i64 1, .int .i64 20, .int .i64 3, .slice (some ⟨b, 0, none⟩) X.length X.length] 30)) := (Below.refl _ _).alloc (Nat.le_refl _) _
  have HBA := hid (hb1.trans (hba.mono hb1.size))
  have hXz : ∀ x, x ∈ X → x.size ≤ maxLen := fun x hx => by
    have : x.data.toList ∈ bl X := bl_mem hx
    rw [hX] at this
    have h2 : x.data.toList.length ≤ 2 := by
      rcases List.mem_cons.1 this with h | h
      · rw [h]; decide
      · rw [List.mem_singleton.1 h]; decide
    rw [len_eq] at h2
    unfold maxLen; omega
  have HTX := hid (text_any 1 20 3 X (.slice (some ⟨b, 0, none⟩) X.length X.length) aT aB m _ ((HS.out.below hb1).below hba) (tab_below (tab_below HTB.out hb1) hba) (by omega) hXz (by rw [hX]; decide) (Or.inr ⟨hXn, b, X.length, rfl, Nat.le_refl _, Nat.lt_of_lt_of_le hbz hba.size, fun j h => cell_below hba (hcel j h)⟩))
  rw [hX, k_text] at HTX
  have h2b : ((X.length : Int) == 2) = true := beq_iff_eq.2 (by omega)
  clear hst hb1 hX hXl hXn hbz hcel hba hXz
  go_wp2_with fail
  refine HTX.out.mono ?_
  rintro e w2 ⟨T, rfl, hT, hb2⟩
  have hTe : T = s1 := str_ext hT
  subst hTe
  have HB2 := hid (HBA.out.trans (hb2.mono (by simp; exact Nat.le_succ_of_le HB1.out.size)))
  have heq : (s1.toList == [118, 49, 46, 50, 48, 46, 51, 45, 114, 99, 46, 49]) = true := by rw [ByteArray.toList_eq]; rfl
  have HL := hid (less_pre s1 s2 aT aB m w2 (by decide) (by decide) (HS.out.below HB2.out) k_err1 k_err2 k_m (by rw [k_p1]; simp) k_p2)
  clear hT hb2 HTX
  go_wp2_with fail
  refine HL.out.mono ?_
  rintro e w3 ⟨rfl, hb3⟩
  have HBF := hid (HB2.out.trans (hb3.mono HB2.out.size))
  clear hb3
  go_wp2_with fail
  go_ret
  exact ⟨rfl, HBF.out⟩
end Ve
end Go.Proofs.YtmgpapghdbopiaaGreatDoor
