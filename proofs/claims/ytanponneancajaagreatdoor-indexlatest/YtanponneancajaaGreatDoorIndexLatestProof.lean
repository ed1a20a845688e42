/-
  The card of pewholderlaw1.IndexLatest: true for every input; the input reads as it did. Conditions: the row's own cells, which the card ties.
-/
import Derived.Test.YtanponneancajaaGreatDoorBi5
import Derived.Test.YtanponneancajaaGreatDoorCards
import Derived.Test.YtanponneancajaaGreatDoorTie
import Derived.SevenTiedAt
namespace Go.Proofs.YtanponneancajaaGreatDoor
open Go.ChangeShapes Go.WideShapes Go.ChangeAt Go.RowKit Go.ChangeMaps Go.Joins

theorem indexLatest_factI : (Rows.indexLatestRow.inPlace == Tryz.pinned.checked.prog.inPlace 4) = true := by kernel_rfl
theorem indexLatest_factU : (Rows.indexLatestRow.unfollowed == Tryz.pinned.checked.prog.unfollowed 4) = true := by kernel_rfl
theorem indexLatest_factR : (Rows.indexLatestRow.recurses == Tryz.pinned.checked.prog.recurses 4) = true := by kernel_rfl
theorem indexLatest_factN : (Rows.indexLatestRow.named == Tryz.pinned.checked.prog.varsNamed 4) = true := by kernel_rfl
theorem indexLatest_facts : joinedFacts Tryz.pinned.checked.prog 4 Tryz.f4 Rows.indexLatestSpec Rows.indexLatestRow = true := by
  unfold joinedFacts
  rw [indexLatest_factI, indexLatest_factU, indexLatest_factR, indexLatest_factN]
  kernel_rfl

theorem indexLatest_row_holds : Rows.IndexLatestSaid :=
  OpenClaim.holds_of_wide 4 Tryz.f4 rfl rfl rfl rfl rfl rfl rfl ⟨rfl, rfl, rfl, rfl, rfl⟩ rfl rfl rfl rfl rfl (by kernel_rfl) Tryz.func4 indexLatest_facts
    (of_decide_eq_true (by kernel_rfl)) (by unfold Func.isWrapper; rw [if_neg (of_decide_eq_false (by kernel_rfl))]; exact ⟨rfl, rfl⟩)
    (fun os started H enc _ => Ve.indexLatest_lifted os started H enc)

theorem indexLatest_holds : Rows.IndexLatestCardSaid :=
  Claim7.holds_tied_plain_at .later [] Rows.indexLatestCard.laidKinds true Rows.indexLatestCard.stood.harness true
    indexLatest_row_holds (fun _ h => by cases h) (by kernel_rfl) (fun _ h => by cases h) indexLatest_row_tie rfl ⟨rfl, rfl⟩ (by kernel_rfl) rfl
    (fun f fn hf hfn => by
      obtain rfl : f = 4 := Option.some.inj ((show Tryz.prog.funcNamed Rows.indexLatestRow.func = some 4 by kernel_rfl).symm.trans hf) |>.symm
      obtain rfl : fn = Tryz.f4 := (Option.some.inj (Tryz.func4.symm.trans hfn)).symm
      exact ⟨by kernel_rfl, fun j t ht => Ve.wants1 t (Array.mem_of_getElem? ht)⟩)
    (by kernel_rfl)
#print axioms indexLatest_holds
end Go.Proofs.YtanponneancajaaGreatDoor
