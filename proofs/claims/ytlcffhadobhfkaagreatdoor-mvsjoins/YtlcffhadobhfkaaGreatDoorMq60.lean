/-
  The card of pewholderlaw2.MvsJoins: true for every input; the input reads as it did. Conditions: the row's own cells, which the card ties.
-/
import Derived.Test.YtlcffhadobhfkaaGreatDoorMq3
import Derived.Test.YtlcffhadobhfkaaGreatDoorMq6
import Derived.Test.YtlcffhadobhfkaaGreatDoorMq9
import Derived.Test.YtlcffhadobhfkaaGreatDoorMq22
import Derived.Test.YtlcffhadobhfkaaGreatDoorMq45
import Derived.Test.YtlcffhadobhfkaaGreatDoorMq59
import Derived.Test.YtlcffhadobhfkaaGreatDoorMq60F
namespace Go.Proofs.YtlcffhadobhfkaaGreatDoor
open Go.ChangeShapes Go.WideShapes Go.ChangeAt Go.RowKit Go.ChangeMaps Go.Joins
theorem mvsJoins_row_holds : Rows.MvsJoinsSaid:=
  OpenClaim.holds_of_wide 4 Tryz.f4 rfl rfl rfl rfl rfl rfl rfl ⟨rfl,rfl,rfl,rfl,rfl⟩ rfl rfl rfl rfl rfl (by kernel_rfl) Tryz.func4 mvsJoins_facts
    (of_decide_eq_true (by kernel_rfl)) (by unfold Func.isWrapper; rw [if_neg (of_decide_eq_false (by kernel_rfl))]; exact ⟨rfl,rfl⟩)
    (fun os started H enc _=>Ve.mvsJoins_lifted os started H enc)
theorem mvsJoins_cardG : Rows.mvsJoinsRow.goesBy Tryz.pinned.checked.prog = false := by kernel_rfl
theorem mvsJoins_cardM : Tryz.pinned.checked.prog.mainIs = some (Rows.mvsJoinsCard.stood.harness.fst, Rows.mvsJoinsCard.stood.harness.snd.toList) := by kernel_rfl
theorem mvsJoins_cardW : OpenClaim.wfByText (OpenSpec.ofChange Rows.mvsJoinsSpec) Rows.mvsJoinsRow = true := by kernel_rfl
theorem mvsJoins_cardL : true = Tryz.pinned.checked.prog.looks [] := by kernel_rfl
theorem mvsJoins_cardF : Tryz.prog.funcNamed Rows.mvsJoinsRow.func = some 4 := by kernel_rfl
theorem mvsJoins_holds : Rows.MvsJoinsCardSaid:=
  Claim7.holds_tied_plain_at .later [] Rows.mvsJoinsCard.laidKinds true Rows.mvsJoinsCard.stood.harness true
    mvsJoins_row_holds (fun _ h=>by cases h) mvsJoins_cardW (fun _ h=>by cases h) mvsJoins_row_tie rfl ⟨rfl,rfl⟩ mvsJoins_cardM rfl
    (fun f fn hf hfn=>by
      obtain rfl : f = 4:=Option.some.inj (mvsJoins_cardF.symm.trans hf) |>.symm
      obtain rfl : fn = Tryz.f4:=(Option.some.inj (Tryz.func4.symm.trans hfn)).symm
      exact ⟨mvsJoins_cardL,fun j t ht=>Ve.wants3 t (Array.mem_of_getElem? ht)⟩)
    mvsJoins_cardG.symm
#print axioms mvsJoins_holds
end Go.Proofs.YtlcffhadobhfkaaGreatDoor
