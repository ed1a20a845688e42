/-
  The card of pewholderlaw3.SumsHold: true for every input; the input reads as it did. Conditions: the row's own cells, which the card ties.
-/
import Derived.Test.YtpafkniapacfdaaGreatDoorSq47
import Derived.Test.YtpafkniapacfdaaGreatDoorCards
import Derived.Test.YtpafkniapacfdaaGreatDoorTie
import Derived.SevenTiedAt
namespace Go.Proofs.YtpafkniapacfdaaGreatDoor
open Go.ChangeShapes Go.WideShapes Go.ChangeAt Go.RowKit Go.ChangeMaps Go.Joins

theorem sumsHold_factI : (Rows.sumsHoldRow.inPlace == Tryz.pinned.checked.prog.inPlace 3) = true := by kernel_rfl
theorem sumsHold_factU : (Rows.sumsHoldRow.unfollowed == Tryz.pinned.checked.prog.unfollowed 3) = true := by kernel_rfl
theorem sumsHold_factR : (Rows.sumsHoldRow.recurses == Tryz.pinned.checked.prog.recurses 3) = true := by kernel_rfl
theorem sumsHold_factN : (Rows.sumsHoldRow.named == Tryz.pinned.checked.prog.varsNamed 3) = true := by kernel_rfl
theorem sumsHold_facts : joinedFacts Tryz.pinned.checked.prog 3 Tryz.f3 Rows.sumsHoldSpec Rows.sumsHoldRow = true := by
  unfold joinedFacts
  rw [sumsHold_factI, sumsHold_factU, sumsHold_factR, sumsHold_factN]
  kernel_rfl

theorem sumsHold_row_holds : Rows.SumsHoldSaid :=
  OpenClaim.holds_of_wide 3 Tryz.f3 rfl rfl rfl rfl rfl rfl rfl ⟨rfl, rfl, rfl, rfl, rfl⟩ rfl rfl rfl rfl rfl (by kernel_rfl) Tryz.func3 sumsHold_facts
    (of_decide_eq_true (by kernel_rfl)) (by unfold Func.isWrapper; rw [if_neg (of_decide_eq_false (by kernel_rfl))]; exact ⟨rfl, rfl⟩)
    (fun os started H enc _ => Ve.sumsHold_lifted os started H enc)

theorem sumsHold_holds : Rows.SumsHoldCardSaid :=
  Claim7.holds_tied_plain_at .later [] Rows.sumsHoldCard.laidKinds true Rows.sumsHoldCard.stood.harness true
    sumsHold_row_holds (fun _ h => by cases h) (by kernel_rfl) (fun _ h => by cases h) sumsHold_row_tie rfl ⟨rfl, rfl⟩ (by kernel_rfl) rfl
    (fun f fn hf hfn => by
      obtain rfl : f = 3 := Option.some.inj ((show Tryz.prog.funcNamed Rows.sumsHoldRow.func = some 3 by kernel_rfl).symm.trans hf) |>.symm
      obtain rfl : fn = Tryz.f3 := (Option.some.inj (Tryz.func3.symm.trans hfn)).symm
      exact ⟨by kernel_rfl, fun j t ht => Ve.wants2 t (Array.mem_of_getElem? ht)⟩)
    (by kernel_rfl)
#print axioms sumsHold_holds
end Go.Proofs.YtpafkniapacfdaaGreatDoor
