/-
  The card of pewholderlaw2.GraphAdds: true for every input; the input reads as it did. Conditions: the row's own cells, which the card ties.
-/
import Derived.Test.YtnkgjddkdikikaaGreatDoorCards
import Derived.Test.YtnkgjddkdikikaaGreatDoorTie
import Derived.SevenTiedAt
import Derived.Test.YtnkgjddkdikikaaGreatDoorPq4
import Derived.Test.YtnkgjddkdikikaaGreatDoorPq10
import Derived.Test.YtnkgjddkdikikaaGreatDoorPq7
import Derived.Test.YtnkgjddkdikikaaGreatDoorPq49
import Derived.Test.YtnkgjddkdikikaaGreatDoorPq59
import Derived.Test.YtnkgjddkdikikaaGreatDoorPq60F
namespace Go.Proofs.YtnkgjddkdikikaaGreatDoor
open Go.ChangeShapes Go.WideShapes Go.ChangeAt Go.RowKit Go.ChangeMaps Go.Joins
theorem graphAdds_row_holds : Rows.GraphAddsSaid :=
  OpenClaim.holds_of_wide 5 Tryz.f5 rfl rfl rfl rfl rfl rfl rfl ⟨rfl, rfl, rfl, rfl, rfl⟩ rfl rfl rfl rfl rfl (by kernel_rfl) Tryz.func5 graphAdds_facts
    (of_decide_eq_true (by kernel_rfl)) (by unfold Func.isWrapper; rw [if_neg (of_decide_eq_false (by kernel_rfl))]; exact ⟨rfl, rfl⟩)
    (fun os started H enc _ => Ve.graphAdds_lifted os started H enc)
theorem graphAdds_cardG : Rows.graphAddsRow.goesBy Tryz.pinned.checked.prog = false := by kernel_rfl
theorem graphAdds_cardM : Tryz.pinned.checked.prog.mainIs = some (Rows.graphAddsCard.stood.harness.fst, Rows.graphAddsCard.stood.harness.snd.toList) := by kernel_rfl
theorem graphAdds_cardW : OpenClaim.wfByText (OpenSpec.ofChange Rows.graphAddsSpec) Rows.graphAddsRow = true := by kernel_rfl
theorem graphAdds_cardL : true = Tryz.pinned.checked.prog.looks [] := by kernel_rfl
theorem graphAdds_cardF : Tryz.prog.funcNamed Rows.graphAddsRow.func = some 5 := by kernel_rfl
theorem graphAdds_holds : Rows.GraphAddsCardSaid :=
  Claim7.holds_tied_plain_at .later [] Rows.graphAddsCard.laidKinds true Rows.graphAddsCard.stood.harness true
    graphAdds_row_holds (fun _ h => by cases h) graphAdds_cardW (fun _ h => by cases h) graphAdds_row_tie rfl ⟨rfl,rfl⟩ graphAdds_cardM rfl
    (fun f fn hf hfn => by
      obtain rfl : f = 5 := Option.some.inj (graphAdds_cardF.symm.trans hf) |>.symm
      obtain rfl : fn = Tryz.f5 := (Option.some.inj (Tryz.func5.symm.trans hfn)).symm
      exact ⟨graphAdds_cardL, fun j t ht => Ve.wants3 t (Array.mem_of_getElem? ht)⟩)
    graphAdds_cardG.symm
#print axioms graphAdds_holds
end Go.Proofs.YtnkgjddkdikikaaGreatDoor
