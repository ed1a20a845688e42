/-
  UpNewsLift
-/
import Derived.SevenTiedAt
import Derived.LaidSub
import Derived.LaidOnce
import Derived.Test.YtlcffhadobhfkaaGreatDoorCards
import Derived.Test.YtlcffhadobhfkaaGreatDoorTie
import Derived.Test.YtlcffhadobhfkaaGreatDoorMq3
import Derived.Test.YtlcffhadobhfkaaGreatDoorMq2
import Derived.Test.YtlcffhadobhfkaaGreatDoorMq6
import Derived.Test.YtlcffhadobhfkaaGreatDoorMq9
import Derived.Test.YtlcffhadobhfkaaGreatDoorMq11
import Derived.Test.YtlcffhadobhfkaaGreatDoorMq20
import Derived.Test.YtlcffhadobhfkaaGreatDoorMq23
import Derived.Test.YtlcffhadobhfkaaGreatDoorMq16
import Derived.Test.YtlcffhadobhfkaaGreatDoorMq19
import Derived.Test.YtlcffhadobhfkaaGreatDoorMq22
import Derived.Test.YtlcffhadobhfkaaGreatDoorMq45
import Derived.Test.YtlcffhadobhfkaaGreatDoorMq17
import Derived.Test.YtlcffhadobhfkaaGreatDoorMq5
import Derived.Test.YtlcffhadobhfkaaGreatDoorMq34
import Derived.Test.YtlcffhadobhfkaaGreatDoorMq36
import Derived.Test.YtlcffhadobhfkaaGreatDoorMq58
import Derived.Test.YtlcffhadobhfkaaGreatDoorMq37
import Derived.Test.YtlcffhadobhfkaaGreatDoorMq14
import Derived.Test.YtlcffhadobhfkaaGreatDoorMq73
import Derived.Test.YtlcffhadobhfkaaGreatDoorMq35
import Derived.Test.YtlcffhadobhfkaaGreatDoorMq75
namespace Go.Proofs.YtlcffhadobhfkaaGreatDoor
open Go.ChangeShapes Go.WideShapes Go.ChangeAt Go.RowKit Go.ChangeMaps Go.Joins
namespace Ve
theorem own : ownKnob Tryz.prog.godebug = none:=by kernel_rfl
theorem laidOut : laidOutB Tryz.prog = true:=by kernel_rfl
def plainOf : List (String × DataW Unit):=Rows.upNewsRow.laid.filter fun x=>x.2.handleName?.isNone
noncomputable def startW (os : Go.Os) : World:=(World.doorLaid Tryz.prog 400 os).layVars Tryz.prog plainOf
theorem cellsMod2 : Tryz.prog.cellsOf 25 = 2:=by kernel_rfl
theorem gPtU : (Tryz.prog.globals[(14 : Nat)]?).map (·.type) = some 315:=by kernel_rfl
theorem cellsUU : Tryz.prog.cellsOf 230 = 1:=by kernel_rfl
theorem cellsPowU : Tryz.prog.cellsOf 315 = 20:=by kernel_rfl
theorem te_of_laid {W : World} (h : laidMetH Tryz.prog Rows.upNewsRow.laid W) (hsh : W.ShapedOpen Tryz.prog) : ∃ A m,Te W A m /\ Lib.TabIs Tryz.prog W powName .u64 Lib.pow10Tab:=by
  have h' : laidMet Tryz.prog (("math/bits.deBruijn32tab", Rows.laid_math_bits_deBruijn32tab) :: ("math/bits.deBruijn64tab", Rows.laid_math_bits_deBruijn64tab) :: (powName, Lib.tabData .u64 Lib.pow10Tab) :: ("unicode/utf8.acceptRanges", Rows.laid_unicode_utf8_acceptRanges) ::
      ((tens.map fun x => (x.1, DataW.iface "*errors.errorString" (.ptr (.agg [.lit (.string x.2.2)])))) ++ [("unicode/utf8.first", Rows.laid_unicode_utf8_first)])) W ∧ handlesMet Tryz.prog [("errors.errorType", Rows.laid_errors_errorType)] W := h
  obtain ⟨hl,hh⟩:=h'
  have htab:=Lib.tabIs_of_head powAt gPtU Tryz.underlying315 Tryz.underlying230 cellsUU cellsPowU hl.tail.tail
  obtain ⟨m,hm⟩:=ml_of hsh
  obtain ⟨A, hA⟩ := te_of [("unicode/utf8.first", Rows.laid_unicode_utf8_first)] hl.tail.tail.tail.tail hh hm
  exact ⟨A,m,hA,htab⟩
theorem start_met (os : Go.Os) (args : Array Value) : laidMetH Tryz.prog Rows.upNewsRow.laid ((startW os).forCall (fun _ _=>0) ⟨#[],args,[]⟩).memory:=
  laidMetH_of_parts (laidMet_over args (by kernel_rfl) (by kernel_rfl)) (by kernel_rfl)
theorem wants2 : ∀ t,t ∈ Tryz.f8.params -> Tryz.prog.wantsStandIn t = false:=by
  have h : (Tryz.f8.params.toList.all fun t=>Tryz.prog.wantsStandIn t == false) = true:=by kernel_rfl
  intro t ht
  simpa using List.all_eq_true.1 h t (by simpa using ht)
set_option maxRecDepth 100000 in
theorem open_mod {H : Type} {enc : TypeId × Value -> H} {w : World} {base : Nat} {sp : Nat -> Bool} {held : Bool} {r : Reach} {b0 : Nat} {v : Value} {d : DataW H} {p : List MemPlace}
    (hv : Value.okWide Tryz.prog w r b0 25 v) (h : DataW.Trod enc Tryz.prog w base sp held 25 v d p) :
    ∃ a b : ByteArray,v = .agg #[.string a,.string b] /\ d = .agg [.lit (.string a.data.toList),.lit (.string b.data.toList)] /\ p = [] /\ a.size <= maxLen /\ b.size <= maxLen:=by
  obtain ⟨c0,c1,y0,y1,n,rfl,rfl,rfl,hy0,hy1⟩:=open_agg2 Tryz.underlying25 (by kernel_rfl) cellsMod2 hv h
  obtain ⟨a,e0,rfl,wa⟩:=DataW.trod_string Tryz.underlying9 hy0
  obtain ⟨b,e1,rfl,wb⟩:=DataW.trod_string Tryz.underlying9 hy1
  simp at e0 e1
  subst e0 e1
  exact ⟨a,b,rfl,rfl,rfl,wa,wb⟩
theorem shut_mod {H : Type} {enc : TypeId × Value -> H} {w : World} {base : Nat} {sp : Nat -> Bool} {held : Bool} {a b : ByteArray} (wa : a.size <= maxLen) (wb : b.size <= maxLen) :
    DataW.Trod enc Tryz.prog w base sp held 25 (.agg #[.string a,.string b]) (.agg [.lit (.string a.data.toList),.lit (.string b.data.toList)]) []:=
  shut_agg2 (y0:=(.lit (.string a.data.toList),[])) (y1:=(.lit (.string b.data.toList),[])) Tryz.underlying25 (by kernel_rfl) cellsMod2 ⟨1,by simp [DataW.trod,Tryz.underlying9,wa]⟩ ⟨1,by simp [DataW.trod,Tryz.underlying9,wb]⟩
set_option maxRecDepth 100000 in
theorem upNews_lifted (os : Go.Os) (started : os.Started) (H : Type) (enc : TypeId × Value -> H) :
    ReturnsInHanded {} Tryz.checked os 8 .any (fun w args=>(Rows.upNewsSpec.pre enc Tryz.prog Tryz.f8 [] false w args /\ laidMetH Tryz.prog Rows.upNewsRow.laid w) /\ sizedMet enc Tryz.prog Tryz.f8 (OpenSpec.ofChange Rows.upNewsSpec) false w args)
      (Rows.upNewsSpec.post enc Tryz.prog Tryz.f8 false true false false):=by
  refine wrap_and_shaped (C:=Tryz.checked) (X:=fun w _=>laidMetH Tryz.prog Rows.upNewsRow.laid w) (fun _ _ _ hh h=>h.of_heap hh) own started (by kernel_rfl) Tryz.func8
    (ChangeSpec.witness_shaped (enc:=enc) (C:=Tryz.checked) (os:=os) (X:=fun w _=>laidMetH Tryz.prog Rows.upNewsRow.laid w) false (startW os) #[.slice none 0 0,.slice none 0 0,.agg #[.string ⟨#[]⟩,.string ⟨#[]⟩]] 8 (World.layVars_os _ _ _)
      (World.shaped_of_ZipB (by kernel_rfl) (by kernel_rfl)) (by kernel_rfl) (by kernel_rfl) (by kernel_rfl) (start_met os _)) ?_
  intro W base args ds gs before hval0 hW hL hsh
  have hval : ∀ (j : Nat) t v,Tryz.f8.params[j]? = some t -> args[j]? = some v -> Value.okWide Tryz.prog W .any base t v:=hval0
  have hW':=hW
  obtain ⟨p3,q,hA0,hV,rfl,_,_⟩:=hW
  have hA : DataW.TrodAll enc Tryz.prog W 0 (fun _=>true) true Tryz.f8.params.toList args.toList ds p3:=hA0
  rw [Tryz.params8] at hA hval
  obtain ⟨v0,v1,v2,d0,d1,d2,p0,p1,p2,rfl,rfl,rfl,h0,h1,h2⟩:=trodAll_three hA
  obtain ⟨rfl,rfl⟩:=trodVars_none hV
  obtain ⟨a0,len,cap,rfl⟩:=okWide_slice Tryz.underlying22 (hval 0 22 v0 rfl rfl)
  obtain ⟨a1,len1,cap1,rfl⟩:=okWide_slice Tryz.underlying23 (hval 1 23 v1 rfl rfl)
  obtain ⟨xa,xb,rfl,rfl,rfl,wa,wb⟩:=open_mod (hval 2 25 v2 rfl rfl) h2
  have h0k:=h0
  have h1k:=h1
  obtain ⟨fuel,hf⟩:=h0
  obtain ⟨fuel1,hf1⟩:=h1
  obtain ⟨Q,L,I,em⟩:=open_ix (v:=.slice a0 len cap) hf
  obtain ⟨R,hR,hER⟩:=open_ms (v:=.slice a1 len1 cap1) hf1
  clear hA0 hval0 hA
  simp only [List.append_nil] at hW'
  have hlt : ∀ x ∈ p0 ++ p1,x.block < W.heap.size:=fun x hx=>by simpa using hW'.lt x hx
  obtain ⟨A,m,S,T⟩:=te_of_laid hL hsh
  refine (upNews_any Q L R (xa,xb) _ _ A m W S T I em hR hER).mono ?_
  intro e W' ⟨he,hb⟩
  subst he
  have g0:=Below.trod laidOut (by kernel_rfl) (of_decide_eq_true (by kernel_rfl)) h0k hb (fun x hx=>hlt x (List.mem_append_left _ hx))
  have g1:=Below.trod laidOut (by kernel_rfl) (of_decide_eq_true (by kernel_rfl)) h1k hb (fun x hx=>hlt x (List.mem_append_right _ hx))
  have e1 : Rows.upNewsSpec.fn H ([d0,d1,.agg [.lit (.string xa.data.toList),.lit (.string xb.data.toList)]] ++ []) = { results:=[.lit (.bool true)],args:=[d0,d1,.agg [.lit (.string xa.data.toList),.lit (.string xb.data.toList)]] }:=rfl
  refine ⟨_,rfl,_,_,_,[],p0 ++ p1,[],hW',?_,?_,?_,hb.frame _,fun h=>by cases h⟩
  · rw [e1]; exact trodAll_mk1 (shut_bool Tryz.underlying4 true)
  · rw [e1]; (have h:=trodAll_mk3 g0 g1 (shut_mod wa wb); rw [List.append_nil] at h; exact h)
  · rw [e1]; rfl
end Ve
end Go.Proofs.YtlcffhadobhfkaaGreatDoor
