/-
  The card of pewholderlaw3.PkgOnes: true for every input; the input reads as it did. Conditions: the row's own cells, which the card ties.
-/
import Derived.Test.YtjndahjfodnllaaGreatDoorPo11
import Derived.Test.YtjndahjfodnllaaGreatDoorCards
import Derived.Test.YtjndahjfodnllaaGreatDoorTie
import Derived.SevenTiedAt
namespace Go.Proofs.YtjndahjfodnllaaGreatDoor
open Go.ChangeShapes Go.WideShapes Go.ChangeAt Go.RowKit Go.ChangeMaps Go.Joins

theorem pkgOnes_factI : (Rows.pkgOnesRow.inPlace == Tryz.pinned.checked.prog.inPlace 3) = true := by kernel_rfl
theorem pkgOnes_factU : (Rows.pkgOnesRow.unfollowed == Tryz.pinned.checked.prog.unfollowed 3) = true := by kernel_rfl
theorem pkgOnes_factR : (Rows.pkgOnesRow.recurses == Tryz.pinned.checked.prog.recurses 3) = true := by kernel_rfl
theorem pkgOnes_factN : (Rows.pkgOnesRow.named == Tryz.pinned.checked.prog.varsNamed 3) = true := by kernel_rfl
theorem pkgOnes_facts : joinedFacts Tryz.pinned.checked.prog 3 Tryz.f3 Rows.pkgOnesSpec Rows.pkgOnesRow = true := by
  unfold joinedFacts
  rw [pkgOnes_factI, pkgOnes_factU, pkgOnes_factR, pkgOnes_factN]
  kernel_rfl

theorem pkgOnes_row_holds : Rows.PkgOnesSaid :=
  OpenClaim.holds_of_wide 3 Tryz.f3 rfl rfl rfl rfl rfl rfl rfl ⟨rfl, rfl, rfl, rfl, rfl⟩ rfl rfl rfl rfl rfl (by kernel_rfl) Tryz.func3 pkgOnes_facts
    (of_decide_eq_true (by kernel_rfl)) (by unfold Func.isWrapper; rw [if_neg (of_decide_eq_false (by kernel_rfl))]; exact ⟨rfl, rfl⟩)
    (fun os started H enc _ => Ve.pkgOnes_lifted os started H enc)

theorem pkgOnes_holds : Rows.PkgOnesCardSaid :=
  Claim7.holds_tied_plain_at .later [] Rows.pkgOnesCard.laidKinds true Rows.pkgOnesCard.stood.harness true
    pkgOnes_row_holds (fun _ h => by cases h) (by kernel_rfl) (fun _ h => by cases h) pkgOnes_row_tie rfl ⟨rfl, rfl⟩ (by kernel_rfl) rfl
    (fun f fn hf hfn => by
      obtain rfl : f = 3 := Option.some.inj ((show Tryz.prog.funcNamed Rows.pkgOnesRow.func = some 3 by kernel_rfl).symm.trans hf) |>.symm
      obtain rfl : fn = Tryz.f3 := (Option.some.inj (Tryz.func3.symm.trans hfn)).symm
      exact ⟨by kernel_rfl, fun j t ht => Ve.wants2 t (Array.mem_of_getElem? ht)⟩)
    (by kernel_rfl)
#print axioms pkgOnes_holds
end Go.Proofs.YtjndahjfodnllaaGreatDoor
