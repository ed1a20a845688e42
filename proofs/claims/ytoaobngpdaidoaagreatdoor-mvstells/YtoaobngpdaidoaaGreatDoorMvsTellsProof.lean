/-
  The card of pewholderlaw2.MvsTells: true for every input; the input reads as it did. Conditions: the row's own cells, which the card ties.
-/
import Derived.Test.YtoaobngpdaidoaaGreatDoorMt9
import Derived.Test.YtoaobngpdaidoaaGreatDoorCards
import Derived.Test.YtoaobngpdaidoaaGreatDoorTie
import Derived.SevenTiedAt
namespace Go.Proofs.YtoaobngpdaidoaaGreatDoor
open Go.ChangeShapes Go.WideShapes Go.ChangeAt Go.RowKit Go.ChangeMaps Go.Joins

theorem mvsTells_factI : (Rows.mvsTellsRow.inPlace == Tryz.pinned.checked.prog.inPlace 3) = true := by kernel_rfl
theorem mvsTells_factU : (Rows.mvsTellsRow.unfollowed == Tryz.pinned.checked.prog.unfollowed 3) = true := by kernel_rfl
theorem mvsTells_factR : (Rows.mvsTellsRow.recurses == Tryz.pinned.checked.prog.recurses 3) = true := by kernel_rfl
theorem mvsTells_factN : (Rows.mvsTellsRow.named == Tryz.pinned.checked.prog.varsNamed 3) = true := by kernel_rfl
theorem mvsTells_facts : joinedFacts Tryz.pinned.checked.prog 3 Tryz.f3 Rows.mvsTellsSpec Rows.mvsTellsRow = true := by
  unfold joinedFacts
  rw [mvsTells_factI, mvsTells_factU, mvsTells_factR, mvsTells_factN]
  kernel_rfl

theorem mvsTells_row_holds : Rows.MvsTellsSaid :=
  OpenClaim.holds_of_wide 3 Tryz.f3 rfl rfl rfl rfl rfl rfl rfl ⟨rfl, rfl, rfl, rfl, rfl⟩ rfl rfl rfl rfl rfl (by kernel_rfl) Tryz.func3 mvsTells_facts
    (of_decide_eq_true (by kernel_rfl)) (by unfold Func.isWrapper; rw [if_neg (of_decide_eq_false (by kernel_rfl))]; exact ⟨rfl, rfl⟩)
    (fun os started H enc _ => Ve.mvsTells_lifted os started H enc)

theorem mvsTells_holds : Rows.MvsTellsCardSaid :=
  Claim7.holds_tied_plain_at .later [] Rows.mvsTellsCard.laidKinds true Rows.mvsTellsCard.stood.harness true
    mvsTells_row_holds (fun _ h => by cases h) (by kernel_rfl) (fun _ h => by cases h) mvsTells_row_tie rfl ⟨rfl, rfl⟩ (by kernel_rfl) rfl
    (fun f fn hf hfn => by
      obtain rfl : f = 3 := Option.some.inj ((show Tryz.prog.funcNamed Rows.mvsTellsRow.func = some 3 by kernel_rfl).symm.trans hf) |>.symm
      obtain rfl : fn = Tryz.f3 := (Option.some.inj (Tryz.func3.symm.trans hfn)).symm
      exact ⟨by kernel_rfl, fun j t ht => Ve.wants3 t (Array.mem_of_getElem? ht)⟩)
    (by kernel_rfl)
#print axioms mvsTells_holds
end Go.Proofs.YtoaobngpdaidoaaGreatDoor
