/-
  The card of pewholderlaw3.QueryHolds: true for every input; the input reads as it did. Conditions: the row's own cells, which the card ties.
-/
import Derived.Test.YtmbphngmaglgmaaGreatDoorQh11
import Derived.Test.YtmbphngmaglgmaaGreatDoorCards
import Derived.Test.YtmbphngmaglgmaaGreatDoorTie
import Derived.SevenTiedAt
namespace Go.Proofs.YtmbphngmaglgmaaGreatDoor
open Go.ChangeShapes Go.WideShapes Go.ChangeAt Go.RowKit Go.ChangeMaps Go.Joins

theorem queryHolds_factI : (Rows.queryHoldsRow.inPlace == Tryz.pinned.checked.prog.inPlace 3) = true := by kernel_rfl
theorem queryHolds_factU : (Rows.queryHoldsRow.unfollowed == Tryz.pinned.checked.prog.unfollowed 3) = true := by kernel_rfl
theorem queryHolds_factR : (Rows.queryHoldsRow.recurses == Tryz.pinned.checked.prog.recurses 3) = true := by kernel_rfl
theorem queryHolds_factN : (Rows.queryHoldsRow.named == Tryz.pinned.checked.prog.varsNamed 3) = true := by kernel_rfl
theorem queryHolds_facts : joinedFacts Tryz.pinned.checked.prog 3 Tryz.f3 Rows.queryHoldsSpec Rows.queryHoldsRow = true := by
  unfold joinedFacts
  rw [queryHolds_factI, queryHolds_factU, queryHolds_factR, queryHolds_factN]
  kernel_rfl

theorem queryHolds_row_holds : Rows.QueryHoldsSaid :=
  OpenClaim.holds_of_wide 3 Tryz.f3 rfl rfl rfl rfl rfl rfl rfl ⟨rfl, rfl, rfl, rfl, rfl⟩ rfl rfl rfl rfl rfl (by kernel_rfl) Tryz.func3 queryHolds_facts
    (of_decide_eq_true (by kernel_rfl)) (by unfold Func.isWrapper; rw [if_neg (of_decide_eq_false (by kernel_rfl))]; exact ⟨rfl, rfl⟩)
    (fun os started H enc _ => Ve.queryHolds_lifted os started H enc)

theorem queryHolds_holds : Rows.QueryHoldsCardSaid :=
  Claim7.holds_tied_plain_at .later [] Rows.queryHoldsCard.laidKinds true Rows.queryHoldsCard.stood.harness true
    queryHolds_row_holds (fun _ h => by cases h) (by kernel_rfl) (fun _ h => by cases h) queryHolds_row_tie rfl ⟨rfl, rfl⟩ (by kernel_rfl) rfl
    (fun f fn hf hfn => by
      obtain rfl : f = 3 := Option.some.inj ((show Tryz.prog.funcNamed Rows.queryHoldsRow.func = some 3 by kernel_rfl).symm.trans hf) |>.symm
      obtain rfl : fn = Tryz.f3 := (Option.some.inj (Tryz.func3.symm.trans hfn)).symm
      exact ⟨by kernel_rfl, fun j t ht => Ve.wants2 t (Array.mem_of_getElem? ht)⟩)
    (by kernel_rfl)
#print axioms queryHolds_holds
end Go.Proofs.YtmbphngmaglgmaaGreatDoor
