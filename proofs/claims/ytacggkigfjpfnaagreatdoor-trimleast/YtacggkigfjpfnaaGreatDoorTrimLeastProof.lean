/-
  The card of pewholderlaw2.TrimLeast: true for every input; the input reads as it did. Conditions: the row's own cells, which the card ties.
-/
import Derived.Test.YtacggkigfjpfnaaGreatDoorTm8
import Derived.Test.YtacggkigfjpfnaaGreatDoorCards
import Derived.Test.YtacggkigfjpfnaaGreatDoorTie
import Derived.SevenTiedAt
namespace Go.Proofs.YtacggkigfjpfnaaGreatDoor
open Go.ChangeShapes Go.WideShapes Go.ChangeAt Go.RowKit Go.ChangeMaps Go.Joins

theorem trimLeast_factI : (Rows.trimLeastRow.inPlace == Tryz.pinned.checked.prog.inPlace 3) = true := by kernel_rfl
theorem trimLeast_factU : (Rows.trimLeastRow.unfollowed == Tryz.pinned.checked.prog.unfollowed 3) = true := by kernel_rfl
theorem trimLeast_factR : (Rows.trimLeastRow.recurses == Tryz.pinned.checked.prog.recurses 3) = true := by kernel_rfl
theorem trimLeast_factN : (Rows.trimLeastRow.named == Tryz.pinned.checked.prog.varsNamed 3) = true := by kernel_rfl
theorem trimLeast_facts : joinedFacts Tryz.pinned.checked.prog 3 Tryz.f3 Rows.trimLeastSpec Rows.trimLeastRow = true := by
  unfold joinedFacts
  rw [trimLeast_factI, trimLeast_factU, trimLeast_factR, trimLeast_factN]
  kernel_rfl

theorem trimLeast_row_holds : Rows.TrimLeastSaid :=
  OpenClaim.holds_of_wide 3 Tryz.f3 rfl rfl rfl rfl rfl rfl rfl ⟨rfl, rfl, rfl, rfl, rfl⟩ rfl rfl rfl rfl rfl (by kernel_rfl) Tryz.func3 trimLeast_facts
    (of_decide_eq_true (by kernel_rfl)) (by unfold Func.isWrapper; rw [if_neg (of_decide_eq_false (by kernel_rfl))]; exact ⟨rfl, rfl⟩)
    (fun os started H enc _ => Ve.trimLeast_lifted os started H enc)

theorem trimLeast_holds : Rows.TrimLeastCardSaid :=
  Claim7.holds_tied_plain_at .later [] Rows.trimLeastCard.laidKinds true Rows.trimLeastCard.stood.harness true
    trimLeast_row_holds (fun _ h => by cases h) (by kernel_rfl) (fun _ h => by cases h) trimLeast_row_tie rfl ⟨rfl, rfl⟩ (by kernel_rfl) rfl
    (fun f fn hf hfn => by
      obtain rfl : f = 3 := Option.some.inj ((show Tryz.prog.funcNamed Rows.trimLeastRow.func = some 3 by kernel_rfl).symm.trans hf) |>.symm
      obtain rfl : fn = Tryz.f3 := (Option.some.inj (Tryz.func3.symm.trans hfn)).symm
      exact ⟨by kernel_rfl, fun j t ht => Ve.wants2 t (Array.mem_of_getElem? ht)⟩)
    (by kernel_rfl)
#print axioms trimLeast_holds
end Go.Proofs.YtacggkigfjpfnaaGreatDoor
