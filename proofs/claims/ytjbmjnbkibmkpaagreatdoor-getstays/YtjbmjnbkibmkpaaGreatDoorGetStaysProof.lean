/-
 The card of pewholderlaw3.GetStays: true for every input; the input reads as it did. Conditions: the row's own cells,which the card ties.
-/
import Derived.Test.YtjbmjnbkibmkpaaGreatDoorGt32
import Derived.Test.YtjbmjnbkibmkpaaGreatDoorCards
import Derived.Test.YtjbmjnbkibmkpaaGreatDoorTie
import Derived.SevenTiedAt
namespace Go.Proofs.YtjbmjnbkibmkpaaGreatDoor
open Go.ChangeShapes Go.WideShapes Go.ChangeAt Go.RowKit Go.ChangeMaps Go.Joins
theorem getStays_factI : (Rows.getStaysRow.inPlace == Tryz.pinned.checked.prog.inPlace 3) = true:=by kernel_rfl
theorem getStays_factU : (Rows.getStaysRow.unfollowed == Tryz.pinned.checked.prog.unfollowed 3) = true:=by kernel_rfl
theorem getStays_factR : (Rows.getStaysRow.recurses == Tryz.pinned.checked.prog.recurses 3) = true:=by kernel_rfl
theorem getStays_factN : (Rows.getStaysRow.named == Tryz.pinned.checked.prog.varsNamed 3) = true:=by kernel_rfl
theorem getStays_facts : joinedFacts Tryz.pinned.checked.prog 3 Tryz.f3 Rows.getStaysSpec Rows.getStaysRow = true:=by
 unfold joinedFacts
 rw [getStays_factI,getStays_factU,getStays_factR,getStays_factN]
 kernel_rfl
theorem getStays_row_holds : Rows.GetStaysSaid:=
 OpenClaim.holds_of_wide 3 Tryz.f3 rfl rfl rfl rfl rfl rfl rfl ⟨rfl,rfl,rfl,rfl,rfl⟩ rfl rfl rfl rfl rfl (by kernel_rfl) Tryz.func3 getStays_facts
  (of_decide_eq_true (by kernel_rfl)) (by unfold Func.isWrapper; rw [if_neg (of_decide_eq_false (by kernel_rfl))]; exact ⟨rfl,rfl⟩)
  (fun os started H enc _=>Ve.getStays_lifted os started H enc)
theorem getStays_holds : Rows.GetStaysCardSaid:=
 Claim7.holds_tied_plain_at .later [] Rows.getStaysCard.laidKinds true Rows.getStaysCard.stood.harness true
  getStays_row_holds (fun _ h=>by cases h) (by kernel_rfl) (fun _ h=>by cases h) getStays_row_tie rfl ⟨rfl,rfl⟩ (by kernel_rfl) rfl
  (fun f fn hf hfn=>by
   obtain rfl : f = 3:=Option.some.inj ((show Tryz.prog.funcNamed Rows.getStaysRow.func = some 3 by kernel_rfl).symm.trans hf) |>.symm
   obtain rfl : fn = Tryz.f3:=(Option.some.inj (Tryz.func3.symm.trans hfn)).symm
   exact ⟨by kernel_rfl,fun j t ht=>Ve.wants3 t (Array.mem_of_getElem? ht)⟩)
  (by kernel_rfl)
#print axioms getStays_holds
end Go.Proofs.YtjbmjnbkibmkpaaGreatDoor
