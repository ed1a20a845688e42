/-
  The card of pewholderlaw3.QuerySplits: true for every input; the input reads as it did. Conditions: the row's own cells, which the card ties.
-/
import Derived.Test.YtmbphngmaglgmaaGreatDoorQs11
import Derived.Test.YtmbphngmaglgmaaGreatDoorCards
import Derived.Test.YtmbphngmaglgmaaGreatDoorTie
import Derived.SevenTiedAt
namespace Go.Proofs.YtmbphngmaglgmaaGreatDoor
open Go.ChangeShapes Go.WideShapes Go.ChangeAt Go.RowKit Go.ChangeMaps Go.Joins

theorem querySplits_factI : (Rows.querySplitsRow.inPlace == Tryz.pinned.checked.prog.inPlace 5) = true := by kernel_rfl
theorem querySplits_factU : (Rows.querySplitsRow.unfollowed == Tryz.pinned.checked.prog.unfollowed 5) = true := by kernel_rfl
theorem querySplits_factR : (Rows.querySplitsRow.recurses == Tryz.pinned.checked.prog.recurses 5) = true := by kernel_rfl
theorem querySplits_factN : (Rows.querySplitsRow.named == Tryz.pinned.checked.prog.varsNamed 5) = true := by kernel_rfl
theorem querySplits_facts : joinedFacts Tryz.pinned.checked.prog 5 Tryz.f5 Rows.querySplitsSpec Rows.querySplitsRow = true := by
  unfold joinedFacts
  rw [querySplits_factI, querySplits_factU, querySplits_factR, querySplits_factN]
  kernel_rfl

theorem querySplits_row_holds : Rows.QuerySplitsSaid :=
  OpenClaim.holds_of_wide 5 Tryz.f5 rfl rfl rfl rfl rfl rfl rfl ⟨rfl, rfl, rfl, rfl, rfl⟩ rfl rfl rfl rfl rfl (by kernel_rfl) Tryz.func5 querySplits_facts
    (of_decide_eq_true (by kernel_rfl)) (by unfold Func.isWrapper; rw [if_neg (of_decide_eq_false (by kernel_rfl))]; exact ⟨rfl, rfl⟩)
    (fun os started H enc _ => Ve.querySplits_lifted os started H enc)

theorem querySplits_holds : Rows.QuerySplitsCardSaid :=
  Claim7.holds_tied_plain_at .later [] Rows.querySplitsCard.laidKinds true Rows.querySplitsCard.stood.harness true
    querySplits_row_holds (fun _ h => by cases h) (by kernel_rfl) (fun _ h => by cases h) querySplits_row_tie rfl ⟨rfl, rfl⟩ (by kernel_rfl) rfl
    (fun f fn hf hfn => by
      obtain rfl : f = 5 := Option.some.inj ((show Tryz.prog.funcNamed Rows.querySplitsRow.func = some 5 by kernel_rfl).symm.trans hf) |>.symm
      obtain rfl : fn = Tryz.f5 := (Option.some.inj (Tryz.func5.symm.trans hfn)).symm
      exact ⟨by kernel_rfl, fun j t ht => Ve.wants2 t (Array.mem_of_getElem? ht)⟩)
    (by kernel_rfl)
#print axioms querySplits_holds
end Go.Proofs.YtmbphngmaglgmaaGreatDoor
