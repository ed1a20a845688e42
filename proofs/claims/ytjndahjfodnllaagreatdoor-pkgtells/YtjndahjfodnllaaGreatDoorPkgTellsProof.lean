/-
  The card of pewholderlaw3.PkgTells: true for every input; the input reads as it did. Conditions: the row's own cells, which the card ties.
-/
import Derived.Test.YtjndahjfodnllaaGreatDoorPt11
import Derived.Test.YtjndahjfodnllaaGreatDoorCards
import Derived.Test.YtjndahjfodnllaaGreatDoorTie
import Derived.SevenTiedAt
namespace Go.Proofs.YtjndahjfodnllaaGreatDoor
open Go.ChangeShapes Go.WideShapes Go.ChangeAt Go.RowKit Go.ChangeMaps Go.Joins

theorem pkgTells_factI : (Rows.pkgTellsRow.inPlace == Tryz.pinned.checked.prog.inPlace 4) = true := by kernel_rfl
theorem pkgTells_factU : (Rows.pkgTellsRow.unfollowed == Tryz.pinned.checked.prog.unfollowed 4) = true := by kernel_rfl
theorem pkgTells_factR : (Rows.pkgTellsRow.recurses == Tryz.pinned.checked.prog.recurses 4) = true := by kernel_rfl
theorem pkgTells_factN : (Rows.pkgTellsRow.named == Tryz.pinned.checked.prog.varsNamed 4) = true := by kernel_rfl
theorem pkgTells_facts : joinedFacts Tryz.pinned.checked.prog 4 Tryz.f4 Rows.pkgTellsSpec Rows.pkgTellsRow = true := by
  unfold joinedFacts
  rw [pkgTells_factI, pkgTells_factU, pkgTells_factR, pkgTells_factN]
  kernel_rfl

theorem pkgTells_row_holds : Rows.PkgTellsSaid :=
  OpenClaim.holds_of_wide 4 Tryz.f4 rfl rfl rfl rfl rfl rfl rfl ⟨rfl, rfl, rfl, rfl, rfl⟩ rfl rfl rfl rfl rfl (by kernel_rfl) Tryz.func4 pkgTells_facts
    (of_decide_eq_true (by kernel_rfl)) (by unfold Func.isWrapper; rw [if_neg (of_decide_eq_false (by kernel_rfl))]; exact ⟨rfl, rfl⟩)
    (fun os started H enc _ => Ve.pkgTells_lifted os started H enc)

theorem pkgTells_holds : Rows.PkgTellsCardSaid :=
  Claim7.holds_tied_plain_at .later [] Rows.pkgTellsCard.laidKinds true Rows.pkgTellsCard.stood.harness true
    pkgTells_row_holds (fun _ h => by cases h) (by kernel_rfl) (fun _ h => by cases h) pkgTells_row_tie rfl ⟨rfl, rfl⟩ (by kernel_rfl) rfl
    (fun f fn hf hfn => by
      obtain rfl : f = 4 := Option.some.inj ((show Tryz.prog.funcNamed Rows.pkgTellsRow.func = some 4 by kernel_rfl).symm.trans hf) |>.symm
      obtain rfl : fn = Tryz.f4 := (Option.some.inj (Tryz.func4.symm.trans hfn)).symm
      exact ⟨by kernel_rfl, fun j t ht => Ve.wants2 t (Array.mem_of_getElem? ht)⟩)
    (by kernel_rfl)
#print axioms pkgTells_holds
end Go.Proofs.YtjndahjfodnllaaGreatDoor
