/-
  TenG
-/
import Derived.Test.YtlcffhadobhfkaaGreatDoorChecked
import Derived.Test.YtlcffhadobhfkaaGreatDoorRows
import Derived.Stop.LaidTwo
import Derived.Test.YtlcffhadobhfkaaGreatDoorMq3
import Derived.Test.YtlcffhadobhfkaaGreatDoorMq2
import Derived.Test.YtlcffhadobhfkaaGreatDoorMq6
import Derived.Test.YtlcffhadobhfkaaGreatDoorMq11
import Derived.Test.YtlcffhadobhfkaaGreatDoorMq5
namespace Go.Proofs.YtlcffhadobhfkaaGreatDoor
open Go.ChangeShapes Go.WideShapes Go.ChangeAt Go.RowKit
namespace Ve
theorem etName : Tryz.prog.globalNamed "errors.errorType" = some 10 := by kernel_rfl
def rtWord : String := match (Rows.laid_errors_errorType : DataW Unit) with | .iface s _ => s | _ => ""
theorem rtName : (Tryz.prog.cutTypes.find? (·.1 == rtWord)).map (·.2) = some 205:=by kernel_rfl
theorem oneRow : ((List.range 348).filter fun t=>Tryz.prog.rowNamed t [101,114,114,111,114]) = [32]:=by kernel_rfl
theorem nTypes : Tryz.prog.types.size = 348:=by kernel_rfl
theorem cellsS : Tryz.prog.cellsOf 337 = 1:=by kernel_rfl
theorem cellsStr : Tryz.prog.cellsOf 9 = 1:=by kernel_rfl
theorem star : "*" ++ "errors.errorString" = "*errors.errorString" := by decide
theorem rowS (u : TypeId) (h : Tryz.prog.typeName? 3 u = some "*errors.errorString") : u = 319 :=
  typeName_ptr_named (nm := "errors.errorString") (by rw [star]; kernel_rfl) (by kernel_rfl) (by decide) u (by rw [star]; exact h)
def tens : List (String × Nat × List UInt8):=
  [("pewholder/api.ErrText", 3, [112, 101, 119, 104, 111, 108, 100, 101, 114, 58, 32, 116, 101, 120, 116]),
   ("pewholder/api.ErrBound", 4, [112, 101, 119, 104, 111, 108, 100, 101, 114, 58, 32, 98, 111, 117, 110, 100]),
   ("pewholder/api.ErrShape", 2, [112, 101, 119, 104, 111, 108, 100, 101, 114, 58, 32, 115, 104, 97, 112, 101]),
   ("pewholder/api.ErrMajor", 5, [112, 101, 119, 104, 111, 108, 100, 101, 114, 58, 32, 109, 97, 106, 111, 114]),
   ("pewholder/api.ErrNone", 0, [112, 101, 119, 104, 111, 108, 100, 101, 114, 58, 32, 110, 111, 110, 101]),
   ("pewholder/api.ErrFull", 7, [112, 101, 119, 104, 111, 108, 100, 101, 114, 58, 32, 102, 117, 108, 108]),
   ("pewholder/api.ErrOrder", 1, [112, 101, 119, 104, 111, 108, 100, 101, 114, 58, 32, 111, 114, 100, 101, 114])]
theorem tens_named : ∀ x,x ∈ tens -> Tryz.prog.globalNamed x.1 = some x.2.1 /\ (Tryz.prog.globals[x.2.1]?).map (·.type) = some 32:=by
  have h : (tens.all fun x=>Tryz.prog.globalNamed x.1 == some x.2.1 && (Tryz.prog.globals[x.2.1]?).map (·.type) == some 32) = true:=by kernel_rfl
  intro x hx
  simpa using List.all_eq_true.1 h x hx
theorem te_of {W : World} {m : Int} (rest : List (String × DataW Unit)) (hl : laidMet Tryz.prog ((tens.map fun x => (x.1, DataW.iface "*errors.errorString" (.ptr (.agg [.lit (.string x.2.2)])))) ++ rest) W)
    (hh : handlesMet Tryz.prog [("errors.errorType", Rows.laid_errors_errorType)] W) (hm0 : W.cell? ⟨11, 0, none⟩ = some (.int .i64 m)) : ∃ A, Te W A m := by
  obtain ⟨ps,hl,hnd,hrows⟩:=hl
  obtain ⟨name,u,ty,e1,e2,e3,e4,e5⟩:=hh _ (List.mem_singleton.2 rfl)
  have en : name = [101,114,114,111,114]:=(Option.some.inj e1).symm
  subst en
  obtain rfl:=Option.some.inj (rtName.symm.trans e2)
  have hm : ty ∈ (List.range 348).filter fun t=>Tryz.prog.rowNamed t [101,114,114,111,114]:=List.mem_filter.2 ⟨List.mem_range.2 (by rw [<- nTypes]; exact e3),e4⟩
  rw [oneRow] at hm
  obtain rfl:=List.mem_singleton.1 hm
  have hhd : typeHandle Tryz.prog 32 = .pointer (some ⟨17,32,none⟩):=by kernel_rfl
  rw [hhd] at e5
  have het : W.cell? ⟨10,0,none⟩ = some (.iface 205 (.agg #[.pointer (some ⟨17,32,none⟩)])):=by simpa using World.var?_cell etName e5 0
  obtain ⟨al,hlen,hsub,hall⟩:=Er.sens_rest Tryz.underlying32 rowS Tryz.underlying319 Tryz.underlying337 rfl rfl Tryz.underlying9 cellsS cellsStr rest tens ps hl tens_named hrows
  have hten : al.length = 7:=hlen
  refine ⟨fun k=>al.getD (if k < 5 then k else k - 1) ⟨0,0,none⟩,?_⟩
  have get : ∀ k,k < 7 -> al[k]? = some (al.getD k ⟨0,0,none⟩):=fun k hk=>by
    rw [List.getD_eq_getElem?_getD,List.getElem?_eq_getElem (by omega)]; rfl
  have c:=fun k x (hx : tens[k]? = some x) (hk : k < 7)=>hall k x _ hx (get k hk)
  refine ⟨⟨(c 0 _ rfl (by omega)).1,(c 1 _ rfl (by omega)).1,(c 2 _ rfl (by omega)).1,(c 3 _ rfl (by omega)).1,(c 4 _ rfl (by omega)).1,(c 5 _ rfl (by omega)).1,(c 6 _ rfl (by omega)).1,het⟩,⟨(c 0 _ rfl (by omega)).1,(c 1 _ rfl (by omega)).1,(c 0 _ rfl (by omega)).2,(c 1 _ rfl (by omega)).2,?_,hm0⟩⟩
  have:=Er.unlike hsub hnd (i:=0) (j:=1) (by omega) (by omega) (by omega)
  intro e
  apply this
  have hi':=get 0 (by omega)
  have hj':=get 1 (by omega)
  rw [List.getElem?_eq_getElem (by omega)] at hi' hj'
  rw [Option.some.inj hi',Option.some.inj hj']
  exact e
theorem ml_of {W : World} (hsh : W.ShapedOpen Tryz.prog) : ∃ m,W.cell? ⟨11,0,none⟩ = some (.int .i64 m):=
  cell_of_shapedOpen_int (P:=Tryz.prog) (g:=11) (t:=3) (zero:=#[.int .i64 0]) hsh (of_decide_eq_true (by kernel_rfl)) (by kernel_rfl) rfl (by kernel_rfl) (by kernel_rfl) Tryz.underlying3
end Ve
end Go.Proofs.YtlcffhadobhfkaaGreatDoor
