/-
  The card of pewholderlaw2.UpTells: true for every input; the input reads as it did. Conditions: the row's own cells, which the card ties.
-/
import Derived.Test.YtanponneancajaaGreatDoorBt15
import Derived.Test.YtanponneancajaaGreatDoorCards
import Derived.Test.YtanponneancajaaGreatDoorTie
import Derived.SevenTiedAt
namespace Go.Proofs.YtanponneancajaaGreatDoor
open Go.ChangeShapes Go.WideShapes Go.ChangeAt Go.RowKit Go.ChangeMaps Go.Joins

theorem upTells_factI : (Rows.upTellsRow.inPlace == Tryz.pinned.checked.prog.inPlace 6) = true := by kernel_rfl
theorem upTells_factU : (Rows.upTellsRow.unfollowed == Tryz.pinned.checked.prog.unfollowed 6) = true := by kernel_rfl
theorem upTells_factR : (Rows.upTellsRow.recurses == Tryz.pinned.checked.prog.recurses 6) = true := by kernel_rfl
theorem upTells_factN : (Rows.upTellsRow.named == Tryz.pinned.checked.prog.varsNamed 6) = true := by kernel_rfl
theorem upTells_facts : joinedFacts Tryz.pinned.checked.prog 6 Tryz.f6 Rows.upTellsSpec Rows.upTellsRow = true := by
  unfold joinedFacts
  rw [upTells_factI, upTells_factU, upTells_factR, upTells_factN]
  kernel_rfl

theorem upTells_row_holds : Rows.UpTellsSaid :=
  OpenClaim.holds_of_wide 6 Tryz.f6 rfl rfl rfl rfl rfl rfl rfl ⟨rfl, rfl, rfl, rfl, rfl⟩ rfl rfl rfl rfl rfl (by kernel_rfl) Tryz.func6 upTells_facts
    (of_decide_eq_true (by kernel_rfl)) (by unfold Func.isWrapper; rw [if_neg (of_decide_eq_false (by kernel_rfl))]; exact ⟨rfl, rfl⟩)
    (fun os started H enc _ => Ve.upTells_lifted os started H enc)

theorem upTells_holds : Rows.UpTellsCardSaid :=
  Claim7.holds_tied_plain_at .later [] Rows.upTellsCard.laidKinds true Rows.upTellsCard.stood.harness true
    upTells_row_holds (fun _ h => by cases h) (by kernel_rfl) (fun _ h => by cases h) upTells_row_tie rfl ⟨rfl, rfl⟩ (by kernel_rfl) rfl
    (fun f fn hf hfn => by
      obtain rfl : f = 6 := Option.some.inj ((show Tryz.prog.funcNamed Rows.upTellsRow.func = some 6 by kernel_rfl).symm.trans hf) |>.symm
      obtain rfl : fn = Tryz.f6 := (Option.some.inj (Tryz.func6.symm.trans hfn)).symm
      exact ⟨by kernel_rfl, fun j t ht => Ve.wants2 t (Array.mem_of_getElem? ht)⟩)
    (by kernel_rfl)
#print axioms upTells_holds
end Go.Proofs.YtanponneancajaaGreatDoor
