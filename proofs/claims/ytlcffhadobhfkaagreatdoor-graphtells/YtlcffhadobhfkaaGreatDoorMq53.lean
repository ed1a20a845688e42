/-
  The card of pewholderlaw2.GraphTells: true for every input; the input reads as it did. Conditions: the row's own cells, which the card ties.
-/
import Derived.Test.YtlcffhadobhfkaaGreatDoorMq3
import Derived.Test.YtlcffhadobhfkaaGreatDoorMq6
import Derived.Test.YtlcffhadobhfkaaGreatDoorMq9
import Derived.Test.YtlcffhadobhfkaaGreatDoorMq22
import Derived.Test.YtlcffhadobhfkaaGreatDoorMq45
import Derived.Test.YtlcffhadobhfkaaGreatDoorMq52
import Derived.Test.YtlcffhadobhfkaaGreatDoorMq53F
namespace Go.Proofs.YtlcffhadobhfkaaGreatDoor
open Go.ChangeShapes Go.WideShapes Go.ChangeAt Go.RowKit Go.ChangeMaps Go.Joins
theorem graphTells_row_holds : Rows.GraphTellsSaid:=
  OpenClaim.holds_of_wide 3 Tryz.f3 rfl rfl rfl rfl rfl rfl rfl ⟨rfl,rfl,rfl,rfl,rfl⟩ rfl rfl rfl rfl rfl (by kernel_rfl) Tryz.func3 graphTells_facts
    (of_decide_eq_true (by kernel_rfl)) (by unfold Func.isWrapper; rw [if_neg (of_decide_eq_false (by kernel_rfl))]; exact ⟨rfl,rfl⟩)
    (fun os started H enc _=>Ve.graphTells_lifted os started H enc)
theorem graphTells_cardG : Rows.graphTellsRow.goesBy Tryz.pinned.checked.prog = false := by kernel_rfl
theorem graphTells_cardM : Tryz.pinned.checked.prog.mainIs = some (Rows.graphTellsCard.stood.harness.fst, Rows.graphTellsCard.stood.harness.snd.toList) := by kernel_rfl
theorem graphTells_cardW : OpenClaim.wfByText (OpenSpec.ofChange Rows.graphTellsSpec) Rows.graphTellsRow = true := by kernel_rfl
theorem graphTells_cardL : true = Tryz.pinned.checked.prog.looks [] := by kernel_rfl
theorem graphTells_cardF : Tryz.prog.funcNamed Rows.graphTellsRow.func = some 3 := by kernel_rfl
theorem graphTells_holds : Rows.GraphTellsCardSaid:=
  Claim7.holds_tied_plain_at .later [] Rows.graphTellsCard.laidKinds true Rows.graphTellsCard.stood.harness true
    graphTells_row_holds (fun _ h=>by cases h) graphTells_cardW (fun _ h=>by cases h) graphTells_row_tie rfl ⟨rfl,rfl⟩ graphTells_cardM rfl
    (fun f fn hf hfn=>by
      obtain rfl : f = 3:=Option.some.inj (graphTells_cardF.symm.trans hf) |>.symm
      obtain rfl : fn = Tryz.f3:=(Option.some.inj (Tryz.func3.symm.trans hfn)).symm
      exact ⟨graphTells_cardL,fun j t ht=>Ve.wants2 t (Array.mem_of_getElem? ht)⟩)
    graphTells_cardG.symm
#print axioms graphTells_holds
end Go.Proofs.YtlcffhadobhfkaaGreatDoor
