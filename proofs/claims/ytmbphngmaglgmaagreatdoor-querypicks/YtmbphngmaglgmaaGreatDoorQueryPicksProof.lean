/-
  The card of pewholderlaw3.QueryPicks: true for every input; the input reads as it did. Conditions: the row's own cells, which the card ties.
-/
import Derived.Test.YtmbphngmaglgmaaGreatDoorQp9
import Derived.Test.YtmbphngmaglgmaaGreatDoorCards
import Derived.Test.YtmbphngmaglgmaaGreatDoorTie
import Derived.SevenTiedAt
namespace Go.Proofs.YtmbphngmaglgmaaGreatDoor
open Go.ChangeShapes Go.WideShapes Go.ChangeAt Go.RowKit Go.ChangeMaps Go.Joins

theorem queryPicks_factI : (Rows.queryPicksRow.inPlace == Tryz.pinned.checked.prog.inPlace 4) = true := by kernel_rfl
theorem queryPicks_factU : (Rows.queryPicksRow.unfollowed == Tryz.pinned.checked.prog.unfollowed 4) = true := by kernel_rfl
theorem queryPicks_factR : (Rows.queryPicksRow.recurses == Tryz.pinned.checked.prog.recurses 4) = true := by kernel_rfl
theorem queryPicks_factN : (Rows.queryPicksRow.named == Tryz.pinned.checked.prog.varsNamed 4) = true := by kernel_rfl
theorem queryPicks_facts : joinedFacts Tryz.pinned.checked.prog 4 Tryz.f4 Rows.queryPicksSpec Rows.queryPicksRow = true := by
  unfold joinedFacts
  rw [queryPicks_factI, queryPicks_factU, queryPicks_factR, queryPicks_factN]
  kernel_rfl

theorem queryPicks_row_holds : Rows.QueryPicksSaid :=
  OpenClaim.holds_of_wide 4 Tryz.f4 rfl rfl rfl rfl rfl rfl rfl ⟨rfl, rfl, rfl, rfl, rfl⟩ rfl rfl rfl rfl rfl (by kernel_rfl) Tryz.func4 queryPicks_facts
    (of_decide_eq_true (by kernel_rfl)) (by unfold Func.isWrapper; rw [if_neg (of_decide_eq_false (by kernel_rfl))]; exact ⟨rfl, rfl⟩)
    (fun os started H enc _ => Ve.queryPicks_lifted os started H enc)

theorem queryPicks_holds : Rows.QueryPicksCardSaid :=
  Claim7.holds_tied_plain_at .later [] Rows.queryPicksCard.laidKinds true Rows.queryPicksCard.stood.harness true
    queryPicks_row_holds (fun _ h => by cases h) (by kernel_rfl) (fun _ h => by cases h) queryPicks_row_tie rfl ⟨rfl, rfl⟩ (by kernel_rfl) rfl
    (fun f fn hf hfn => by
      obtain rfl : f = 4 := Option.some.inj ((show Tryz.prog.funcNamed Rows.queryPicksRow.func = some 4 by kernel_rfl).symm.trans hf) |>.symm
      obtain rfl : fn = Tryz.f4 := (Option.some.inj (Tryz.func4.symm.trans hfn)).symm
      exact ⟨by kernel_rfl, fun j t ht => Ve.wants2 t (Array.mem_of_getElem? ht)⟩)
    (by kernel_rfl)
#print axioms queryPicks_holds
end Go.Proofs.YtmbphngmaglgmaaGreatDoor
