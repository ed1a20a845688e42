/-
  The card of pewholderlaw2.MvsParts: true for every input; the input reads as it did. Conditions: the row's own cells, which the card ties.
-/
import Derived.Test.YtlcffhadobhfkaaGreatDoorMq3
import Derived.Test.YtlcffhadobhfkaaGreatDoorMq6
import Derived.Test.YtlcffhadobhfkaaGreatDoorMq9
import Derived.Test.YtlcffhadobhfkaaGreatDoorMq22
import Derived.Test.YtlcffhadobhfkaaGreatDoorMq45
import Derived.Test.YtlcffhadobhfkaaGreatDoorMq71
import Derived.Test.YtlcffhadobhfkaaGreatDoorMq72F
namespace Go.Proofs.YtlcffhadobhfkaaGreatDoor
open Go.ChangeShapes Go.WideShapes Go.ChangeAt Go.RowKit Go.ChangeMaps Go.Joins
theorem mvsParts_row_holds : Rows.MvsPartsSaid:=
  OpenClaim.holds_of_wide 7 Tryz.f7 rfl rfl rfl rfl rfl rfl rfl ⟨rfl,rfl,rfl,rfl,rfl⟩ rfl rfl rfl rfl rfl (by kernel_rfl) Tryz.func7 mvsParts_facts
    (of_decide_eq_true (by kernel_rfl)) (by unfold Func.isWrapper; rw [if_neg (of_decide_eq_false (by kernel_rfl))]; exact ⟨rfl,rfl⟩)
    (fun os started H enc _=>Ve.mvsParts_lifted os started H enc)
theorem mvsParts_cardG : Rows.mvsPartsRow.goesBy Tryz.pinned.checked.prog = false := by kernel_rfl
theorem mvsParts_cardM : Tryz.pinned.checked.prog.mainIs = some (Rows.mvsPartsCard.stood.harness.fst, Rows.mvsPartsCard.stood.harness.snd.toList) := by kernel_rfl
theorem mvsParts_cardW : OpenClaim.wfByText (OpenSpec.ofChange Rows.mvsPartsSpec) Rows.mvsPartsRow = true := by kernel_rfl
theorem mvsParts_cardL : true = Tryz.pinned.checked.prog.looks [] := by kernel_rfl
theorem mvsParts_cardF : Tryz.prog.funcNamed Rows.mvsPartsRow.func = some 7 := by kernel_rfl
theorem mvsParts_holds : Rows.MvsPartsCardSaid:=
  Claim7.holds_tied_plain_at .later [] Rows.mvsPartsCard.laidKinds true Rows.mvsPartsCard.stood.harness true
    mvsParts_row_holds (fun _ h=>by cases h) mvsParts_cardW (fun _ h=>by cases h) mvsParts_row_tie rfl ⟨rfl,rfl⟩ mvsParts_cardM rfl
    (fun f fn hf hfn=>by
      obtain rfl : f = 7:=Option.some.inj (mvsParts_cardF.symm.trans hf) |>.symm
      obtain rfl : fn = Tryz.f7:=(Option.some.inj (Tryz.func7.symm.trans hfn)).symm
      exact ⟨mvsParts_cardL,fun j t ht=>Ve.wants3 t (Array.mem_of_getElem? ht)⟩)
    mvsParts_cardG.symm
#print axioms mvsParts_holds
end Go.Proofs.YtlcffhadobhfkaaGreatDoor
