/-
  The card of pewholderlaw2.UpNews: true for every input; the input reads as it did. Conditions: the row's own cells, which the card ties.
-/
import Derived.Test.YtlcffhadobhfkaaGreatDoorMq3
import Derived.Test.YtlcffhadobhfkaaGreatDoorMq6
import Derived.Test.YtlcffhadobhfkaaGreatDoorMq9
import Derived.Test.YtlcffhadobhfkaaGreatDoorMq22
import Derived.Test.YtlcffhadobhfkaaGreatDoorMq45
import Derived.Test.YtlcffhadobhfkaaGreatDoorMq73
import Derived.Test.YtlcffhadobhfkaaGreatDoorMq35
import Derived.Test.YtlcffhadobhfkaaGreatDoorMq77
import Derived.Test.YtlcffhadobhfkaaGreatDoorMq78F
namespace Go.Proofs.YtlcffhadobhfkaaGreatDoor
open Go.ChangeShapes Go.WideShapes Go.ChangeAt Go.RowKit Go.ChangeMaps Go.Joins
theorem upNews_row_holds : Rows.UpNewsSaid:=
  OpenClaim.holds_of_wide 8 Tryz.f8 rfl rfl rfl rfl rfl rfl rfl ⟨rfl,rfl,rfl,rfl,rfl⟩ rfl rfl rfl rfl rfl (by kernel_rfl) Tryz.func8 upNews_facts
    (of_decide_eq_true (by kernel_rfl)) (by unfold Func.isWrapper; rw [if_neg (of_decide_eq_false (by kernel_rfl))]; exact ⟨rfl,rfl⟩)
    (fun os started H enc _=>Ve.upNews_lifted os started H enc)
theorem upNews_cardG : Rows.upNewsRow.goesBy Tryz.pinned.checked.prog = false := by kernel_rfl
theorem upNews_cardM : Tryz.pinned.checked.prog.mainIs = some (Rows.upNewsCard.stood.harness.fst, Rows.upNewsCard.stood.harness.snd.toList) := by kernel_rfl
theorem upNews_cardW : OpenClaim.wfByText (OpenSpec.ofChange Rows.upNewsSpec) Rows.upNewsRow = true := by kernel_rfl
theorem upNews_cardL : true = Tryz.pinned.checked.prog.looks [] := by kernel_rfl
theorem upNews_cardF : Tryz.prog.funcNamed Rows.upNewsRow.func = some 8 := by kernel_rfl
theorem upNews_holds : Rows.UpNewsCardSaid:=
  Claim7.holds_tied_plain_at .later [] Rows.upNewsCard.laidKinds true Rows.upNewsCard.stood.harness true
    upNews_row_holds (fun _ h=>by cases h) upNews_cardW (fun _ h=>by cases h) upNews_row_tie rfl ⟨rfl,rfl⟩ upNews_cardM rfl
    (fun f fn hf hfn=>by
      obtain rfl : f = 8:=Option.some.inj (upNews_cardF.symm.trans hf) |>.symm
      obtain rfl : fn = Tryz.f8:=(Option.some.inj (Tryz.func8.symm.trans hfn)).symm
      exact ⟨upNews_cardL,fun j t ht=>Ve.wants2 t (Array.mem_of_getElem? ht)⟩)
    upNews_cardG.symm
#print axioms upNews_holds
end Go.Proofs.YtlcffhadobhfkaaGreatDoor
