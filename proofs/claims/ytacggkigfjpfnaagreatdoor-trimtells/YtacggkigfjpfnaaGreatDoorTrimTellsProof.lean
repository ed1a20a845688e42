/-
  The card of pewholderlaw2.TrimTells: true for every input; the input reads as it did. Conditions: the row's own cells, which the card ties.
-/
import Derived.Test.YtacggkigfjpfnaaGreatDoorTm8
import Derived.Test.YtacggkigfjpfnaaGreatDoorCards
import Derived.Test.YtacggkigfjpfnaaGreatDoorTie
import Derived.SevenTiedAt
namespace Go.Proofs.YtacggkigfjpfnaaGreatDoor
open Go.ChangeShapes Go.WideShapes Go.ChangeAt Go.RowKit Go.ChangeMaps Go.Joins

theorem trimTells_factI : (Rows.trimTellsRow.inPlace == Tryz.pinned.checked.prog.inPlace 4) = true := by kernel_rfl
theorem trimTells_factU : (Rows.trimTellsRow.unfollowed == Tryz.pinned.checked.prog.unfollowed 4) = true := by kernel_rfl
theorem trimTells_factR : (Rows.trimTellsRow.recurses == Tryz.pinned.checked.prog.recurses 4) = true := by kernel_rfl
theorem trimTells_factN : (Rows.trimTellsRow.named == Tryz.pinned.checked.prog.varsNamed 4) = true := by kernel_rfl
theorem trimTells_facts : joinedFacts Tryz.pinned.checked.prog 4 Tryz.f4 Rows.trimTellsSpec Rows.trimTellsRow = true := by
  unfold joinedFacts
  rw [trimTells_factI, trimTells_factU, trimTells_factR, trimTells_factN]
  kernel_rfl

theorem trimTells_row_holds : Rows.TrimTellsSaid :=
  OpenClaim.holds_of_wide 4 Tryz.f4 rfl rfl rfl rfl rfl rfl rfl ⟨rfl, rfl, rfl, rfl, rfl⟩ rfl rfl rfl rfl rfl (by kernel_rfl) Tryz.func4 trimTells_facts
    (of_decide_eq_true (by kernel_rfl)) (by unfold Func.isWrapper; rw [if_neg (of_decide_eq_false (by kernel_rfl))]; exact ⟨rfl, rfl⟩)
    (fun os started H enc _ => Ve.trimTells_lifted os started H enc)

theorem trimTells_holds : Rows.TrimTellsCardSaid :=
  Claim7.holds_tied_plain_at .later [] Rows.trimTellsCard.laidKinds true Rows.trimTellsCard.stood.harness true
    trimTells_row_holds (fun _ h => by cases h) (by kernel_rfl) (fun _ h => by cases h) trimTells_row_tie rfl ⟨rfl, rfl⟩ (by kernel_rfl) rfl
    (fun f fn hf hfn => by
      obtain rfl : f = 4 := Option.some.inj ((show Tryz.prog.funcNamed Rows.trimTellsRow.func = some 4 by kernel_rfl).symm.trans hf) |>.symm
      obtain rfl : fn = Tryz.f4 := (Option.some.inj (Tryz.func4.symm.trans hfn)).symm
      exact ⟨by kernel_rfl, fun j t ht => Ve.wants3 t (Array.mem_of_getElem? ht)⟩)
    (by kernel_rfl)
#print axioms trimTells_holds
end Go.Proofs.YtacggkigfjpfnaaGreatDoor
