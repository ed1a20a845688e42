/-
  The card of pewholderlaw3.SumsTell: true for every input; the input reads as it did. Conditions: the row's own cells, which the card ties.
-/
import Derived.Test.YtpafkniapacfdaaGreatDoorSs50
import Derived.Test.YtpafkniapacfdaaGreatDoorCards
import Derived.Test.YtpafkniapacfdaaGreatDoorTie
import Derived.SevenTiedAt
namespace Go.Proofs.YtpafkniapacfdaaGreatDoor
open Go.ChangeShapes Go.WideShapes Go.ChangeAt Go.RowKit Go.ChangeMaps Go.Joins

theorem sumsTell_factI : (Rows.sumsTellRow.inPlace == Tryz.pinned.checked.prog.inPlace 4) = true := by kernel_rfl
theorem sumsTell_factU : (Rows.sumsTellRow.unfollowed == Tryz.pinned.checked.prog.unfollowed 4) = true := by kernel_rfl
theorem sumsTell_factR : (Rows.sumsTellRow.recurses == Tryz.pinned.checked.prog.recurses 4) = true := by kernel_rfl
theorem sumsTell_factN : (Rows.sumsTellRow.named == Tryz.pinned.checked.prog.varsNamed 4) = true := by kernel_rfl
theorem sumsTell_facts : joinedFacts Tryz.pinned.checked.prog 4 Tryz.f4 Rows.sumsTellSpec Rows.sumsTellRow = true := by
  unfold joinedFacts
  rw [sumsTell_factI, sumsTell_factU, sumsTell_factR, sumsTell_factN]
  kernel_rfl

theorem sumsTell_row_holds : Rows.SumsTellSaid :=
  OpenClaim.holds_of_wide 4 Tryz.f4 rfl rfl rfl rfl rfl rfl rfl ⟨rfl, rfl, rfl, rfl, rfl⟩ rfl rfl rfl rfl rfl (by kernel_rfl) Tryz.func4 sumsTell_facts
    (of_decide_eq_true (by kernel_rfl)) (by unfold Func.isWrapper; rw [if_neg (of_decide_eq_false (by kernel_rfl))]; exact ⟨rfl, rfl⟩)
    (fun os started H enc _ => Ve.sumsTell_lifted os started H enc)

theorem sumsTell_holds : Rows.SumsTellCardSaid :=
  Claim7.holds_tied_plain_at .later [] Rows.sumsTellCard.laidKinds true Rows.sumsTellCard.stood.harness true
    sumsTell_row_holds (fun _ h => by cases h) (by kernel_rfl) (fun _ h => by cases h) sumsTell_row_tie rfl ⟨rfl, rfl⟩ (by kernel_rfl) rfl
    (fun f fn hf hfn => by
      obtain rfl : f = 4 := Option.some.inj ((show Tryz.prog.funcNamed Rows.sumsTellRow.func = some 4 by kernel_rfl).symm.trans hf) |>.symm
      obtain rfl : fn = Tryz.f4 := (Option.some.inj (Tryz.func4.symm.trans hfn)).symm
      exact ⟨by kernel_rfl, fun j t ht => Ve.wants2 t (Array.mem_of_getElem? ht)⟩)
    (by kernel_rfl)
#print axioms sumsTell_holds
end Go.Proofs.YtpafkniapacfdaaGreatDoor
