/-
  The card of pewholderlaw2.MvsLeast: true for every input; the input reads as it did. Conditions: the row's own cells, which the card ties.
-/
import Derived.Test.YtlcffhadobhfkaaGreatDoorMq3
import Derived.Test.YtlcffhadobhfkaaGreatDoorMq6
import Derived.Test.YtlcffhadobhfkaaGreatDoorMq9
import Derived.Test.YtlcffhadobhfkaaGreatDoorMq22
import Derived.Test.YtlcffhadobhfkaaGreatDoorMq45
import Derived.Test.YtlcffhadobhfkaaGreatDoorMq64
import Derived.Test.YtlcffhadobhfkaaGreatDoorMq65F
namespace Go.Proofs.YtlcffhadobhfkaaGreatDoor
open Go.ChangeShapes Go.WideShapes Go.ChangeAt Go.RowKit Go.ChangeMaps Go.Joins
theorem mvsLeast_row_holds : Rows.MvsLeastSaid:=
  OpenClaim.holds_of_wide 5 Tryz.f5 rfl rfl rfl rfl rfl rfl rfl ⟨rfl,rfl,rfl,rfl,rfl⟩ rfl rfl rfl rfl rfl (by kernel_rfl) Tryz.func5 mvsLeast_facts
    (of_decide_eq_true (by kernel_rfl)) (by unfold Func.isWrapper; rw [if_neg (of_decide_eq_false (by kernel_rfl))]; exact ⟨rfl,rfl⟩)
    (fun os started H enc _=>Ve.mvsLeast_lifted os started H enc)
theorem mvsLeast_cardG : Rows.mvsLeastRow.goesBy Tryz.pinned.checked.prog = false := by kernel_rfl
theorem mvsLeast_cardM : Tryz.pinned.checked.prog.mainIs = some (Rows.mvsLeastCard.stood.harness.fst, Rows.mvsLeastCard.stood.harness.snd.toList) := by kernel_rfl
theorem mvsLeast_cardW : OpenClaim.wfByText (OpenSpec.ofChange Rows.mvsLeastSpec) Rows.mvsLeastRow = true := by kernel_rfl
theorem mvsLeast_cardL : true = Tryz.pinned.checked.prog.looks [] := by kernel_rfl
theorem mvsLeast_cardF : Tryz.prog.funcNamed Rows.mvsLeastRow.func = some 5 := by kernel_rfl
theorem mvsLeast_holds : Rows.MvsLeastCardSaid:=
  Claim7.holds_tied_plain_at .later [] Rows.mvsLeastCard.laidKinds true Rows.mvsLeastCard.stood.harness true
    mvsLeast_row_holds (fun _ h=>by cases h) mvsLeast_cardW (fun _ h=>by cases h) mvsLeast_row_tie rfl ⟨rfl,rfl⟩ mvsLeast_cardM rfl
    (fun f fn hf hfn=>by
      obtain rfl : f = 5:=Option.some.inj (mvsLeast_cardF.symm.trans hf) |>.symm
      obtain rfl : fn = Tryz.f5:=(Option.some.inj (Tryz.func5.symm.trans hfn)).symm
      exact ⟨mvsLeast_cardL,fun j t ht=>Ve.wants3 t (Array.mem_of_getElem? ht)⟩)
    mvsLeast_cardG.symm
#print axioms mvsLeast_holds
end Go.Proofs.YtlcffhadobhfkaaGreatDoor
