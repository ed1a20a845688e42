
import Derived.Test.YtjbmjnbkibmkpaaGreatDoorCards
import Derived.Test.YtjbmjnbkibmkpaaGreatDoorTie
import Derived.Test.YtjbmjnbkibmkpaaGreatDoorGt31
import Derived.MakeChecks
import Derived.SevenTiedAt
import Derived.ChangeMaps5
import Derived.Carry
import Derived.Lib.SmallJoins
namespace Go.Proofs.YtjbmjnbkibmkpaaGreatDoor
open Go.ChangeShapes Go.WideShapes Go.ChangeAt Go.RowKit Go.ChangeMaps Go.Joins
namespace Ve
theorem own : ownKnob Tryz.prog.godebug = none:=by kernel_rfl
theorem laidOut : laidOutB Tryz.prog = true:=by kernel_rfl
theorem cellsFile : Tryz.prog.cellsOf 25 = 3:=by kernel_rfl
theorem gPtU : (Tryz.prog.globals[(12 : Nat)]?).map (·.type) = some 306:=by kernel_rfl
theorem cellsUU : Tryz.prog.cellsOf 223 = 1:=by kernel_rfl
theorem cellsPowU : Tryz.prog.cellsOf 306 = 20:=by kernel_rfl
def plainOf : List (String × DataW Unit):=Rows.getStaysRow.laid.filter fun x=>x.2.handleName?.isNone
noncomputable def startW (os : Go.Os) : World:=(World.doorLaid Tryz.prog 400 os).layVars Tryz.prog plainOf
theorem te_of_laid {W : World} (h : laidMetH Tryz.prog Rows.getStaysRow.laid W) (hsh : W.ShapedOpen Tryz.prog) : ∃ A m,Te W A m /\ Ds W A /\ TabT W:=by
 have h' : laidMet Tryz.prog (("math/bits.deBruijn32tab", Rows.laid_math_bits_deBruijn32tab) :: ("math/bits.deBruijn64tab", Rows.laid_math_bits_deBruijn64tab) :: (powName, Lib.tabData .u64 Lib.pow10Tab) :: ("unicode/utf8.acceptRanges", Rows.laid_unicode_utf8_acceptRanges) ::
   ((tens.map fun x => (x.1, DataW.iface "*errors.errorString" (.ptr (.agg [.lit (.string x.2.2)])))) ++ [("unicode/utf8.first", Rows.laid_unicode_utf8_first)])) W /\ handlesMet Tryz.prog [("errors.errorType", Rows.laid_errors_errorType)] W := h
 obtain ⟨hl,hh⟩:=h'
 have htab:=Lib.tabIs_of_head powAt gPtU Tryz.underlying306 Tryz.underlying223 cellsUU cellsPowU hl.tail.tail
 obtain ⟨m,hm⟩:=ml_of hsh
 obtain ⟨A, hA⟩ := te_ds [("unicode/utf8.first", Rows.laid_unicode_utf8_first)] hl.tail.tail.tail.tail hh hm
 exact ⟨A,m,hA.1,hA.2,htab⟩
theorem start_met (os : Go.Os) (args : Array Value) : laidMetH Tryz.prog Rows.getStaysRow.laid ((startW os).forCall (fun _ _=>0) ⟨#[],args,[]⟩).memory:=
 laidMetH_of_parts (laidMet_over args (by kernel_rfl) (by kernel_rfl)) (by kernel_rfl)
theorem wants3 : ∀ t,t ∈ Tryz.f3.params -> Tryz.prog.wantsStandIn t = false:=by
 have h : (Tryz.f3.params.toList.all fun t=>Tryz.prog.wantsStandIn t == false) = true:=by kernel_rfl
 intro t ht
 simpa using List.all_eq_true.1 h t (by simpa using ht)
set_option maxRecDepth 100000 in
theorem open_file {H : Type} {enc : TypeId × Value -> H} {w : World} {base : Nat} {held : Bool} {r : Reach} {b0 : Nat} {v : Value} {d : DataW H} {p : List MemPlace}
  (hv : Value.okWide Tryz.prog w r b0 25 v) (h : DataW.Trod enc Tryz.prog w base (fun _=>true) held 25 v d p) :
  ∃ (a : ByteArray) (x y : Value) (R X : List Bm),v = .agg #[.string a,x,y] /\ MsAt w x R /\ MsAt w y X /\ Em x R /\ Em y X:=by
 obtain ⟨c0,c1,c2,y0,y1,y2,n,rfl,rfl,rfl,hy0,hy1,hy2⟩:=open_agg3 Tryz.underlying25 (by kernel_rfl) cellsFile hv h
 obtain ⟨a,e0,_,_⟩:=DataW.trod_string Tryz.underlying9 hy0
 simp only [List.cons.injEq,and_true] at e0
 subst e0
 obtain ⟨R,hR,hER⟩:=open_ms hy1
 obtain ⟨X,hX,hEX⟩:=open_ms hy2
 exact ⟨a,c1,c2,R,X,rfl,hR,hX,hER,hEX⟩
set_option maxRecDepth 100000 in
theorem getStays_lifted (os : Go.Os) (started : os.Started) (H : Type) (enc : TypeId × Value -> H) :
  ReturnsInHanded {} Tryz.checked os 3 .any (fun w args=>(Rows.getStaysSpec.pre enc Tryz.prog Tryz.f3 [] false w args /\ laidMetH Tryz.prog Rows.getStaysRow.laid w) /\ sizedMet enc Tryz.prog Tryz.f3 (OpenSpec.ofChange Rows.getStaysSpec) false w args)
   (Rows.getStaysSpec.post enc Tryz.prog Tryz.f3 false true false false):=by
 refine wrap_and_shaped (C:=Tryz.checked) (X:=fun w _=>laidMetH Tryz.prog Rows.getStaysRow.laid w) (fun _ _ _ hh h=>h.of_heap hh) own started (by kernel_rfl) Tryz.func3
  (ChangeSpec.witness_shaped (enc:=enc) (C:=Tryz.checked) (os:=os) (X:=fun w _=>laidMetH Tryz.prog Rows.getStaysRow.laid w) false (startW os) #[.slice none 0 0,.agg #[.string ⟨#[]⟩,.slice none 0 0,.slice none 0 0],.slice none 0 0] 8 (World.layVars_os _ _ _)
   (World.shaped_of_ZipB (by kernel_rfl) (by kernel_rfl)) (by kernel_rfl) (by kernel_rfl) (by kernel_rfl) (start_met os _)) ?_
 intro W base args ds gs before hval0 hW hL hsh
 have hval : ∀ (j : Nat) t v,Tryz.f3.params[j]? = some t -> args[j]? = some v -> Value.okWide Tryz.prog W .any base t v:=hval0
 have hW':=hW
 obtain ⟨p,q,hA0,hV,rfl,_,_⟩:=hW
 have hA : DataW.TrodAll enc Tryz.prog W 0 (fun _=>true) true Tryz.f3.params.toList args.toList ds p:=hA0
 rw [Tryz.params3] at hA hval
 obtain ⟨v0,v1,v2,d0,d1,d2,p0,p1,p2,rfl,rfl,rfl,h0,h1,h2⟩:=trodAll_three hA
 obtain ⟨rfl,rfl⟩:=trodVars_none hV
 obtain ⟨a0,len,cap,rfl⟩:=okWide_slice Tryz.underlying22 (hval 0 22 v0 rfl rfl)
 obtain ⟨a,x,y,R,X,rfl,hR,hX,hER,hEX⟩:=open_file (hval 1 25 v1 rfl rfl) h1
 obtain ⟨a2,len2,cap2,rfl⟩:=okWide_slice Tryz.underlying26 (hval 2 26 v2 rfl rfl)
 have h0k:=h0
 have h2k:=h2
 obtain ⟨fuel,hf⟩:=h0
 obtain ⟨fuel2,hf2⟩:=h2
 obtain ⟨Q,L,I,em⟩:=open_ix (v:=.slice a0 len cap) hf
 obtain ⟨G,hG,_⟩:=open_tx (v:=.slice a2 len2 cap2) hf2
 clear hA0 hval0 hA
 simp only [List.append_nil] at hW'
 have hlt : ∀ z ∈ p0 ++ (p1 ++ p2),z.block < W.heap.size:=fun z hz=>by simpa using hW'.lt z (by simpa using hz)
 obtain ⟨A,m,S,D,hT⟩:=te_of_laid hL hsh
 refine (getStays_any Q L a R X G _ _ _ _ A m W S D hT I em hR hX hER hEX hG).mono ?_
 intro e W' ⟨he,hb⟩
 subst he
 have g0:=Below.trod laidOut (by kernel_rfl) (of_decide_eq_true (by kernel_rfl)) h0k hb (fun z hz=>hlt z (List.mem_append_left _ hz))
 have g1:=Below.trod laidOut (by kernel_rfl) (of_decide_eq_true (by kernel_rfl)) h1 hb (fun z hz=>hlt z (List.mem_append_right _ (List.mem_append_left _ hz)))
 have g2:=Below.trod laidOut (by kernel_rfl) (of_decide_eq_true (by kernel_rfl)) h2k hb (fun z hz=>hlt z (List.mem_append_right _ (List.mem_append_right _ hz)))
 have e1 : Rows.getStaysSpec.fn H ([d0,d1,d2] ++ []) = { results:=[.lit (.bool true)],args:=[d0,d1,d2] }:=rfl
 refine ⟨_,rfl,_,_,_,[],p0 ++ (p1 ++ p2),[],hW',?_,?_,?_,hb.frame _,fun h=>by cases h⟩
 ·rw [e1]; exact trodAll_mk1 (shut_bool Tryz.underlying4 true)
 ·rw [e1]; exact trodAll_mk3 g0 g1 g2
 ·rw [e1]; rfl
end Ve
end Go.Proofs.YtjbmjnbkibmkpaaGreatDoor
