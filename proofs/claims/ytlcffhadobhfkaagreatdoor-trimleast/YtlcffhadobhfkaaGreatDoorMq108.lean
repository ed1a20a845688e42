/-
  The card of pewholderlaw2.TrimLeast: true for every input; the input reads as it did. Conditions: the row's own cells, which the card ties.
-/
import Derived.Test.YtlcffhadobhfkaaGreatDoorMq3
import Derived.Test.YtlcffhadobhfkaaGreatDoorMq6
import Derived.Test.YtlcffhadobhfkaaGreatDoorMq9
import Derived.Test.YtlcffhadobhfkaaGreatDoorMq22
import Derived.Test.YtlcffhadobhfkaaGreatDoorMq45
import Derived.Test.YtlcffhadobhfkaaGreatDoorMq107
import Derived.Test.YtlcffhadobhfkaaGreatDoorMq108F
namespace Go.Proofs.YtlcffhadobhfkaaGreatDoor
open Go.ChangeShapes Go.WideShapes Go.ChangeAt Go.RowKit Go.ChangeMaps Go.Joins
theorem trimLeast_row_holds : Rows.TrimLeastSaid:=
  OpenClaim.holds_of_wide 13 Tryz.f13 rfl rfl rfl rfl rfl rfl rfl ⟨rfl,rfl,rfl,rfl,rfl⟩ rfl rfl rfl rfl rfl (by kernel_rfl) Tryz.func13 trimLeast_facts
    (of_decide_eq_true (by kernel_rfl)) (by unfold Func.isWrapper; rw [if_neg (of_decide_eq_false (by kernel_rfl))]; exact ⟨rfl,rfl⟩)
    (fun os started H enc _=>Ve.trimLeast_lifted os started H enc)
theorem trimLeast_cardG : Rows.trimLeastRow.goesBy Tryz.pinned.checked.prog = false := by kernel_rfl
theorem trimLeast_cardM : Tryz.pinned.checked.prog.mainIs = some (Rows.trimLeastCard.stood.harness.fst, Rows.trimLeastCard.stood.harness.snd.toList) := by kernel_rfl
theorem trimLeast_cardW : OpenClaim.wfByText (OpenSpec.ofChange Rows.trimLeastSpec) Rows.trimLeastRow = true := by kernel_rfl
theorem trimLeast_cardL : true = Tryz.pinned.checked.prog.looks [] := by kernel_rfl
theorem trimLeast_cardF : Tryz.prog.funcNamed Rows.trimLeastRow.func = some 13 := by kernel_rfl
theorem trimLeast_holds : Rows.TrimLeastCardSaid:=
  Claim7.holds_tied_plain_at .later [] Rows.trimLeastCard.laidKinds true Rows.trimLeastCard.stood.harness true
    trimLeast_row_holds (fun _ h=>by cases h) trimLeast_cardW (fun _ h=>by cases h) trimLeast_row_tie rfl ⟨rfl,rfl⟩ trimLeast_cardM rfl
    (fun f fn hf hfn=>by
      obtain rfl : f = 13:=Option.some.inj (trimLeast_cardF.symm.trans hf) |>.symm
      obtain rfl : fn = Tryz.f13:=(Option.some.inj (Tryz.func13.symm.trans hfn)).symm
      exact ⟨trimLeast_cardL,fun j t ht=>Ve.wants2 t (Array.mem_of_getElem? ht)⟩)
    trimLeast_cardG.symm
#print axioms trimLeast_holds
end Go.Proofs.YtlcffhadobhfkaaGreatDoor
