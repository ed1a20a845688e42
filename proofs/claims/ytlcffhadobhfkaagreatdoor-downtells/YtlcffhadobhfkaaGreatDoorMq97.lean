/-
  DownTellsLift
-/
import Derived.SevenTiedAt
import Derived.LaidSub
import Derived.LaidOnce
import Derived.Test.YtlcffhadobhfkaaGreatDoorCards
import Derived.Test.YtlcffhadobhfkaaGreatDoorTie
import Derived.Test.YtlcffhadobhfkaaGreatDoorMq3
import Derived.Test.YtlcffhadobhfkaaGreatDoorMq2
import Derived.Test.YtlcffhadobhfkaaGreatDoorMq6
import Derived.Test.YtlcffhadobhfkaaGreatDoorMq11
import Derived.Test.YtlcffhadobhfkaaGreatDoorMq9
import Derived.Test.YtlcffhadobhfkaaGreatDoorMq20
import Derived.Test.YtlcffhadobhfkaaGreatDoorMq23
import Derived.Test.YtlcffhadobhfkaaGreatDoorMq16
import Derived.Test.YtlcffhadobhfkaaGreatDoorMq19
import Derived.Test.YtlcffhadobhfkaaGreatDoorMq22
import Derived.Test.YtlcffhadobhfkaaGreatDoorMq39
import Derived.Test.YtlcffhadobhfkaaGreatDoorMq45
import Derived.Test.YtlcffhadobhfkaaGreatDoorMq17
import Derived.Test.YtlcffhadobhfkaaGreatDoorMq5
import Derived.Test.YtlcffhadobhfkaaGreatDoorMq1
import Derived.Test.YtlcffhadobhfkaaGreatDoorMq34
import Derived.Test.YtlcffhadobhfkaaGreatDoorMq36
import Derived.Test.YtlcffhadobhfkaaGreatDoorMq37
import Derived.Test.YtlcffhadobhfkaaGreatDoorMq87
import Derived.Test.YtlcffhadobhfkaaGreatDoorMq88
import Derived.Test.YtlcffhadobhfkaaGreatDoorMq89
import Derived.Test.YtlcffhadobhfkaaGreatDoorMq85
import Derived.Test.YtlcffhadobhfkaaGreatDoorMq96
namespace Go.Proofs.YtlcffhadobhfkaaGreatDoor
open Go.ChangeShapes Go.WideShapes Go.ChangeAt Go.RowKit Go.ChangeMaps Go.Joins
namespace Ve
theorem own : ownKnob Tryz.prog.godebug = none:=by kernel_rfl
theorem laidOut : laidOutB Tryz.prog = true:=by kernel_rfl
def plainOf : List (String × DataW Unit):=Rows.downTellsRow.laid.filter fun x=>x.2.handleName?.isNone
noncomputable def startW (os : Go.Os) : World:=(World.doorLaid Tryz.prog 400 os).layVars Tryz.prog plainOf
theorem te_of_sen {W : World} {A : Nat -> Addr} {m : Int} (h : Er.Sen W A) (hm : W.cell? ⟨11,0,none⟩ = some (.int .i64 m)) : Te W A m:=
  ⟨⟨h.g0,h.g1,h.g2,h.g3,h.g4,h.g6,h.g7,h.et⟩,⟨h.g0,h.g1,h.blk 0 (by omega),h.blk 1 (by omega),h.inj 0 1 (by omega) (by omega) (by omega),hm⟩⟩
theorem te_of_laid {W : World} (h : laidMetH Tryz.prog Rows.downTellsRow.laid W) (hsh : W.ShapedOpen Tryz.prog) : ∃ A m,Te W A m /\ Er.Sen W A:=by
  have h' : laidMet Tryz.prog (("unicode/utf8.acceptRanges", Rows.laid_unicode_utf8_acceptRanges) ::
      ((tens.map fun x => (x.1, DataW.iface "*errors.errorString" (.ptr (.agg [.lit (.string x.2.2)])))) ++ [("unicode/utf8.first", Rows.laid_unicode_utf8_first)])) W ∧ handlesMet Tryz.prog [("errors.errorType", Rows.laid_errors_errorType)] W := h
  obtain ⟨hl,hh⟩:=h'
  obtain ⟨A, hA⟩ := sen_of [("unicode/utf8.first", Rows.laid_unicode_utf8_first)] hl.tail hh
  obtain ⟨m,hm⟩:=ml_of hsh
  exact ⟨A,m,te_of_sen hA hm,hA⟩
theorem start_met (os : Go.Os) (args : Array Value) : laidMetH Tryz.prog Rows.downTellsRow.laid ((startW os).forCall (fun _ _=>0) ⟨#[],args,[]⟩).memory:=
  laidMetH_of_parts (laidMet_over args (by kernel_rfl) (by kernel_rfl)) (by kernel_rfl)
theorem wants3 : ∀ t,t ∈ Tryz.f11.params -> Tryz.prog.wantsStandIn t = false:=by
  have h : (Tryz.f11.params.toList.all fun t=>Tryz.prog.wantsStandIn t == false) = true:=by kernel_rfl
  intro t ht
  simpa using List.all_eq_true.1 h t (by simpa using ht)
set_option maxRecDepth 100000 in
theorem downTells_lifted (os : Go.Os) (started : os.Started) (H : Type) (enc : TypeId × Value -> H) :
    ReturnsInHanded {} Tryz.checked os 11 .any (fun w args=>(Rows.downTellsSpec.pre enc Tryz.prog Tryz.f11 [] false w args /\ laidMetH Tryz.prog Rows.downTellsRow.laid w) /\ sizedMet enc Tryz.prog Tryz.f11 (OpenSpec.ofChange Rows.downTellsSpec) false w args)
      (Rows.downTellsSpec.post enc Tryz.prog Tryz.f11 false true false false):=by
  refine wrap_and_shaped (C:=Tryz.checked) (X:=fun w _=>laidMetH Tryz.prog Rows.downTellsRow.laid w) (fun _ _ _ hh h=>h.of_heap hh) own started (by kernel_rfl) Tryz.func11
    (ChangeSpec.witness_shaped (enc:=enc) (C:=Tryz.checked) (os:=os) (X:=fun w _=>laidMetH Tryz.prog Rows.downTellsRow.laid w) false (startW os) #[.slice none 0 0,.slice none 0 0,.slice none 0 0] 8 (World.layVars_os _ _ _)
      (World.shaped_of_ZipB (by kernel_rfl) (by kernel_rfl)) (by kernel_rfl) (by kernel_rfl) (by kernel_rfl) (start_met os _)) ?_
  intro W base args ds gs before hval0 hW hL hsh
  have hval : ∀ (j : Nat) t v,Tryz.f11.params[j]? = some t -> args[j]? = some v -> Value.okWide Tryz.prog W .any base t v:=hval0
  have hW':=hW
  obtain ⟨p3,q,hA0,hV,rfl,_,_⟩:=hW
  have hA : DataW.TrodAll enc Tryz.prog W 0 (fun _=>true) true Tryz.f11.params.toList args.toList ds p3:=hA0
  rw [Tryz.params11] at hA hval
  obtain ⟨v0,v1,v2,d0,d1,d2,p0,p1,p2,rfl,rfl,rfl,h0,h1,h2⟩:=trodAll_three hA
  obtain ⟨rfl,rfl⟩:=trodVars_none hV
  obtain ⟨a0,len,cap,rfl⟩:=okWide_slice Tryz.underlying22 (hval 0 22 v0 rfl rfl)
  obtain ⟨a1,len1,cap1,rfl⟩:=okWide_slice Tryz.underlying23 (hval 1 23 v1 rfl rfl)
  obtain ⟨a2,len2,cap2,rfl⟩:=okWide_slice Tryz.underlying23 (hval 2 23 v2 rfl rfl)
  have h0k:=h0
  have h1k:=h1
  have h2k:=h2
  obtain ⟨fuel,hf⟩:=h0
  obtain ⟨fuel1,hf1⟩:=h1
  obtain ⟨fuel2,hf2⟩:=h2
  obtain ⟨Q,L,I,em⟩:=open_ix (v:=.slice a0 len cap) hf
  obtain ⟨R,hR,hER⟩:=open_ms (v:=.slice a1 len1 cap1) hf1
  obtain ⟨R2,hR2,hER2⟩:=open_ms (v:=.slice a2 len2 cap2) hf2
  clear hA0 hval0 hA
  simp only [List.append_nil] at hW'
  have hlt : ∀ x ∈ p0 ++ (p1 ++ p2),x.block < W.heap.size:=fun x hx=>by
    have hx' : x ∈ p0 ++ p1 ++ p2:=by rw [List.append_assoc]; exact hx
    simpa using hW'.lt x hx'
  obtain ⟨A,m,S,N⟩:=te_of_laid hL hsh
  refine (downTells_any Q L R R2 _ _ _ A m W S N I em hR hER hR2 hER2).mono ?_
  intro e W' ⟨he,hb⟩
  subst he
  have g0:=Below.trod laidOut (by kernel_rfl) (of_decide_eq_true (by kernel_rfl)) h0k hb (fun x hx=>hlt x (List.mem_append_left _ hx))
  have g1:=Below.trod laidOut (by kernel_rfl) (of_decide_eq_true (by kernel_rfl)) h1k hb (fun x hx=>hlt x (List.mem_append_right _ (List.mem_append_left _ hx)))
  have g2:=Below.trod laidOut (by kernel_rfl) (of_decide_eq_true (by kernel_rfl)) h2k hb (fun x hx=>hlt x (List.mem_append_right _ (List.mem_append_right _ hx)))
  have e1 : Rows.downTellsSpec.fn H ([d0,d1,d2] ++ []) = { results:=[.lit (.bool true)],args:=[d0,d1,d2] }:=rfl
  refine ⟨_,rfl,_,_,_,[],p0 ++ (p1 ++ p2),[],hW',?_,?_,?_,hb.frame _,fun h=>by cases h⟩
  · rw [e1]; exact trodAll_mk1 (shut_bool Tryz.underlying4 true)
  · rw [e1]; exact trodAll_mk3 g0 g1 g2
  · rw [e1]; rfl
end Ve
end Go.Proofs.YtlcffhadobhfkaaGreatDoor
