/-
  The card of pewholderlaw2.UpNews: true for every input; the input reads as it did. Conditions: the row's own cells, which the card ties.
-/
import Derived.Test.YtanponneancajaaGreatDoorBn8
import Derived.Test.YtanponneancajaaGreatDoorCards
import Derived.Test.YtanponneancajaaGreatDoorTie
import Derived.SevenTiedAt
namespace Go.Proofs.YtanponneancajaaGreatDoor
open Go.ChangeShapes Go.WideShapes Go.ChangeAt Go.RowKit Go.ChangeMaps Go.Joins

theorem upNews_factI : (Rows.upNewsRow.inPlace == Tryz.pinned.checked.prog.inPlace 5) = true := by kernel_rfl
theorem upNews_factU : (Rows.upNewsRow.unfollowed == Tryz.pinned.checked.prog.unfollowed 5) = true := by kernel_rfl
theorem upNews_factR : (Rows.upNewsRow.recurses == Tryz.pinned.checked.prog.recurses 5) = true := by kernel_rfl
theorem upNews_factN : (Rows.upNewsRow.named == Tryz.pinned.checked.prog.varsNamed 5) = true := by kernel_rfl
theorem upNews_facts : joinedFacts Tryz.pinned.checked.prog 5 Tryz.f5 Rows.upNewsSpec Rows.upNewsRow = true := by
  unfold joinedFacts
  rw [upNews_factI, upNews_factU, upNews_factR, upNews_factN]
  kernel_rfl

theorem upNews_row_holds : Rows.UpNewsSaid :=
  OpenClaim.holds_of_wide 5 Tryz.f5 rfl rfl rfl rfl rfl rfl rfl ⟨rfl, rfl, rfl, rfl, rfl⟩ rfl rfl rfl rfl rfl (by kernel_rfl) Tryz.func5 upNews_facts
    (of_decide_eq_true (by kernel_rfl)) (by unfold Func.isWrapper; rw [if_neg (of_decide_eq_false (by kernel_rfl))]; exact ⟨rfl, rfl⟩)
    (fun os started H enc _ => Ve.upNews_lifted os started H enc)

theorem upNews_holds : Rows.UpNewsCardSaid :=
  Claim7.holds_tied_plain_at .later [] Rows.upNewsCard.laidKinds true Rows.upNewsCard.stood.harness true
    upNews_row_holds (fun _ h => by cases h) (by kernel_rfl) (fun _ h => by cases h) upNews_row_tie rfl ⟨rfl, rfl⟩ (by kernel_rfl) rfl
    (fun f fn hf hfn => by
      obtain rfl : f = 5 := Option.some.inj ((show Tryz.prog.funcNamed Rows.upNewsRow.func = some 5 by kernel_rfl).symm.trans hf) |>.symm
      obtain rfl : fn = Tryz.f5 := (Option.some.inj (Tryz.func5.symm.trans hfn)).symm
      exact ⟨by kernel_rfl, fun j t ht => Ve.wants2 t (Array.mem_of_getElem? ht)⟩)
    (by kernel_rfl)
#print axioms upNews_holds
end Go.Proofs.YtanponneancajaaGreatDoor
