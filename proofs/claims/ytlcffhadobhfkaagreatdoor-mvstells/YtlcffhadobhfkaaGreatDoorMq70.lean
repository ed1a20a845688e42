/-
  The card of pewholderlaw2.MvsTells: true for every input; the input reads as it did. Conditions: the row's own cells, which the card ties.
-/
import Derived.Test.YtlcffhadobhfkaaGreatDoorMq3
import Derived.Test.YtlcffhadobhfkaaGreatDoorMq6
import Derived.Test.YtlcffhadobhfkaaGreatDoorMq9
import Derived.Test.YtlcffhadobhfkaaGreatDoorMq22
import Derived.Test.YtlcffhadobhfkaaGreatDoorMq45
import Derived.Test.YtlcffhadobhfkaaGreatDoorMq29
import Derived.Test.YtlcffhadobhfkaaGreatDoorMq69
import Derived.Test.YtlcffhadobhfkaaGreatDoorMq70F
namespace Go.Proofs.YtlcffhadobhfkaaGreatDoor
open Go.ChangeShapes Go.WideShapes Go.ChangeAt Go.RowKit Go.ChangeMaps Go.Joins
theorem mvsTells_row_holds : Rows.MvsTellsSaid:=
  OpenClaim.holds_of_wide 6 Tryz.f6 rfl rfl rfl rfl rfl rfl rfl ⟨rfl,rfl,rfl,rfl,rfl⟩ rfl rfl rfl rfl rfl (by kernel_rfl) Tryz.func6 mvsTells_facts
    (of_decide_eq_true (by kernel_rfl)) (by unfold Func.isWrapper; rw [if_neg (of_decide_eq_false (by kernel_rfl))]; exact ⟨rfl,rfl⟩)
    (fun os started H enc _=>Ve.mvsTells_lifted os started H enc)
theorem mvsTells_cardG : Rows.mvsTellsRow.goesBy Tryz.pinned.checked.prog = false := by kernel_rfl
theorem mvsTells_cardM : Tryz.pinned.checked.prog.mainIs = some (Rows.mvsTellsCard.stood.harness.fst, Rows.mvsTellsCard.stood.harness.snd.toList) := by kernel_rfl
theorem mvsTells_cardW : OpenClaim.wfByText (OpenSpec.ofChange Rows.mvsTellsSpec) Rows.mvsTellsRow = true := by kernel_rfl
theorem mvsTells_cardL : true = Tryz.pinned.checked.prog.looks [] := by kernel_rfl
theorem mvsTells_cardF : Tryz.prog.funcNamed Rows.mvsTellsRow.func = some 6 := by kernel_rfl
theorem mvsTells_holds : Rows.MvsTellsCardSaid:=
  Claim7.holds_tied_plain_at .later [] Rows.mvsTellsCard.laidKinds true Rows.mvsTellsCard.stood.harness true
    mvsTells_row_holds (fun _ h=>by cases h) mvsTells_cardW (fun _ h=>by cases h) mvsTells_row_tie rfl ⟨rfl,rfl⟩ mvsTells_cardM rfl
    (fun f fn hf hfn=>by
      obtain rfl : f = 6:=Option.some.inj (mvsTells_cardF.symm.trans hf) |>.symm
      obtain rfl : fn = Tryz.f6:=(Option.some.inj (Tryz.func6.symm.trans hfn)).symm
      exact ⟨mvsTells_cardL,fun j t ht=>Ve.wants3 t (Array.mem_of_getElem? ht)⟩)
    mvsTells_cardG.symm
#print axioms mvsTells_holds
end Go.Proofs.YtlcffhadobhfkaaGreatDoor
