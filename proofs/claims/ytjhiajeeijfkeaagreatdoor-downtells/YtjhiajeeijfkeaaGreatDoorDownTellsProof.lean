/-
  The card of pewholderlaw2.DownTells: true for every input; the input reads as it did. Conditions: the row's own cells, which the card ties.
-/
import Derived.Test.YtjhiajeeijfkeaaGreatDoorDn9
import Derived.Test.YtjhiajeeijfkeaaGreatDoorCards
import Derived.Test.YtjhiajeeijfkeaaGreatDoorTie
import Derived.SevenTiedAt
namespace Go.Proofs.YtjhiajeeijfkeaaGreatDoor
open Go.ChangeShapes Go.WideShapes Go.ChangeAt Go.RowKit Go.ChangeMaps Go.Joins

theorem downTells_factI : (Rows.downTellsRow.inPlace == Tryz.pinned.checked.prog.inPlace 4) = true := by kernel_rfl
theorem downTells_factU : (Rows.downTellsRow.unfollowed == Tryz.pinned.checked.prog.unfollowed 4) = true := by kernel_rfl
theorem downTells_factR : (Rows.downTellsRow.recurses == Tryz.pinned.checked.prog.recurses 4) = true := by kernel_rfl
theorem downTells_factN : (Rows.downTellsRow.named == Tryz.pinned.checked.prog.varsNamed 4) = true := by kernel_rfl
theorem downTells_facts : joinedFacts Tryz.pinned.checked.prog 4 Tryz.f4 Rows.downTellsSpec Rows.downTellsRow = true := by
  unfold joinedFacts
  rw [downTells_factI, downTells_factU, downTells_factR, downTells_factN]
  kernel_rfl

theorem downTells_row_holds : Rows.DownTellsSaid :=
  OpenClaim.holds_of_wide 4 Tryz.f4 rfl rfl rfl rfl rfl rfl rfl ⟨rfl, rfl, rfl, rfl, rfl⟩ rfl rfl rfl rfl rfl (by kernel_rfl) Tryz.func4 downTells_facts
    (of_decide_eq_true (by kernel_rfl)) (by unfold Func.isWrapper; rw [if_neg (of_decide_eq_false (by kernel_rfl))]; exact ⟨rfl, rfl⟩)
    (fun os started H enc _ => Ve.downTells_lifted os started H enc)

theorem downTells_holds : Rows.DownTellsCardSaid :=
  Claim7.holds_tied_plain_at .later [] Rows.downTellsCard.laidKinds true Rows.downTellsCard.stood.harness true
    downTells_row_holds (fun _ h => by cases h) (by kernel_rfl) (fun _ h => by cases h) downTells_row_tie rfl ⟨rfl, rfl⟩ (by kernel_rfl) rfl
    (fun f fn hf hfn => by
      obtain rfl : f = 4 := Option.some.inj ((show Tryz.prog.funcNamed Rows.downTellsRow.func = some 4 by kernel_rfl).symm.trans hf) |>.symm
      obtain rfl : fn = Tryz.f4 := (Option.some.inj (Tryz.func4.symm.trans hfn)).symm
      exact ⟨by kernel_rfl, fun j t ht => Ve.wants3 t (Array.mem_of_getElem? ht)⟩)
    (by kernel_rfl)
#print axioms downTells_holds
end Go.Proofs.YtjhiajeeijfkeaaGreatDoor
