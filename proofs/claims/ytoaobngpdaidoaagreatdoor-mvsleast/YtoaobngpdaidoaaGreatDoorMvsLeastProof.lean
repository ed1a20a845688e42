/-
  The card of pewholderlaw2.MvsLeast: true for every input; the input reads as it did. Conditions: the row's own cells, which the card ties.
-/
import Derived.Test.YtoaobngpdaidoaaGreatDoorMl7
import Derived.Test.YtoaobngpdaidoaaGreatDoorCards
import Derived.Test.YtoaobngpdaidoaaGreatDoorTie
import Derived.SevenTiedAt
namespace Go.Proofs.YtoaobngpdaidoaaGreatDoor
open Go.ChangeShapes Go.WideShapes Go.ChangeAt Go.RowKit Go.ChangeMaps Go.Joins

theorem mvsLeast_factI : (Rows.mvsLeastRow.inPlace == Tryz.pinned.checked.prog.inPlace 6) = true := by kernel_rfl
theorem mvsLeast_factU : (Rows.mvsLeastRow.unfollowed == Tryz.pinned.checked.prog.unfollowed 6) = true := by kernel_rfl
theorem mvsLeast_factR : (Rows.mvsLeastRow.recurses == Tryz.pinned.checked.prog.recurses 6) = true := by kernel_rfl
theorem mvsLeast_factN : (Rows.mvsLeastRow.named == Tryz.pinned.checked.prog.varsNamed 6) = true := by kernel_rfl
theorem mvsLeast_facts : joinedFacts Tryz.pinned.checked.prog 6 Tryz.f6 Rows.mvsLeastSpec Rows.mvsLeastRow = true := by
  unfold joinedFacts
  rw [mvsLeast_factI, mvsLeast_factU, mvsLeast_factR, mvsLeast_factN]
  kernel_rfl

theorem mvsLeast_row_holds : Rows.MvsLeastSaid :=
  OpenClaim.holds_of_wide 6 Tryz.f6 rfl rfl rfl rfl rfl rfl rfl ⟨rfl, rfl, rfl, rfl, rfl⟩ rfl rfl rfl rfl rfl (by kernel_rfl) Tryz.func6 mvsLeast_facts
    (of_decide_eq_true (by kernel_rfl)) (by unfold Func.isWrapper; rw [if_neg (of_decide_eq_false (by kernel_rfl))]; exact ⟨rfl, rfl⟩)
    (fun os started H enc _ => Ve.mvsLeast_lifted os started H enc)

theorem mvsLeast_holds : Rows.MvsLeastCardSaid :=
  Claim7.holds_tied_plain_at .later [] Rows.mvsLeastCard.laidKinds true Rows.mvsLeastCard.stood.harness true
    mvsLeast_row_holds (fun _ h => by cases h) (by kernel_rfl) (fun _ h => by cases h) mvsLeast_row_tie rfl ⟨rfl, rfl⟩ (by kernel_rfl) rfl
    (fun f fn hf hfn => by
      obtain rfl : f = 6 := Option.some.inj ((show Tryz.prog.funcNamed Rows.mvsLeastRow.func = some 6 by kernel_rfl).symm.trans hf) |>.symm
      obtain rfl : fn = Tryz.f6 := (Option.some.inj (Tryz.func6.symm.trans hfn)).symm
      exact ⟨by kernel_rfl, fun j t ht => Ve.wants3 t (Array.mem_of_getElem? ht)⟩)
    (by kernel_rfl)
#print axioms mvsLeast_holds
end Go.Proofs.YtoaobngpdaidoaaGreatDoor
