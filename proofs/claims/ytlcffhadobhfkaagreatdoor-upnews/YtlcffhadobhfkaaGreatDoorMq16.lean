/-
  IxR OrdD ModC OrdP
-/
import Derived.Deep.AppendLies
import Derived.Laws.AppendOwnNone
import Derived.Lib.SmallJoins
import Derived.Lib.AppendZeros
import Derived.RangeFuncBox
import Derived.Test.YtlcffhadobhfkaaGreatDoorMq2
import Derived.Test.YtlcffhadobhfkaaGreatDoorMq6
import Derived.Test.YtlcffhadobhfkaaGreatDoorMq5
import Derived.Test.YtlcffhadobhfkaaGreatDoorMq11
import Derived.Test.YtlcffhadobhfkaaGreatDoorMq9
import Derived.Test.YtlcffhadobhfkaaGreatDoorMq3
import Derived.Test.YtlcffhadobhfkaaGreatDoorMq8
namespace Go.Proofs.YtlcffhadobhfkaaGreatDoor
open Go.RowKit Go.Shelf
namespace Ve
attribute [local go_sem] Oper.semAt_some
def upT (f : Nat -> ByteArray) (k : Nat) : List ByteArray:=(List.range k).map f
theorem upT_succ (f : Nat -> ByteArray) (k : Nat) : upT f (k + 1) = upT f k ++ [f k]:=by simp [upT,List.range_succ]
theorem upT_length (f : Nat -> ByteArray) (k : Nat) : (upT f k).length = k:=by simp [upT]
theorem upT_take (X : List ByteArray) {k : Nat} (hk : k <= X.length) : upT (fun j=>X[j]?.getD ByteArray.empty) k = X.take k:=by
  apply List.ext_getElem
  · simp [upT,hk]
  · intro i h1 h2
    have : i < X.length:=by simp [upT] at h1; omega
    simp [upT,this]
set_option maxRecDepth 100000 in
set_option maxHeartbeats 4000000 in
theorem values1_in (F : Fence) (n : Nat) (hf : F.fn 278) (hro : F.round = none) (hn : 1 <= n) (l Bs n₀ b off len cap : Nat) (X : List ByteArray) (hreach : len <= 1000000) (hb : b < n₀) (J Jx : List ByteArray -> World -> Prop)
    (hY : ∀ pre x W,J pre W -> pre.length < len -> YieldAt F (n - 1) Tryz.prog l #[.string x] W fun e W'=>
      (e = .returned (.bool true) /\ J (pre ++ [x]) W' /\ Below n₀ W W') \/ (e = .returned (.bool false) /\ Jx (pre ++ [x]) W'))
    (W : World) (hBs : W.cell? ⟨Bs,0,none⟩ = some (.slice (some ⟨b,off,none⟩) len cap)) (hc : ∀ j,j < len -> W.cell? ⟨b,off + j,none⟩ = some (.string (X[j]?.getD ByteArray.empty))) (h0 : J [] W) :
    CallsIn F n Tryz.prog 278 #[.func (.yield l) #[] #[],.pointer (some ⟨Bs,0,none⟩)] W fun e W'=>(∃ v,e = .returned v) /\
      ((∃ ys,ys = upT (fun j=>X[j]?.getD ByteArray.empty) len /\ J ys W') \/ (∃ pre,(∃ k,k <= len /\ pre = upT (fun j=>X[j]?.getD ByteArray.empty) k) /\ Jx pre W')):=by
  refine callsIn_of_wp Tryz.func278 rfl hf ?_ hro
  simp only [Tryz.ntmps278,List.size_toArray,List.length_cons,List.length_nil,Nat.reduceAdd,Nat.reduceSub,Array.replicate_succ,Array.replicate_zero,List.push_toArray,List.append_toArray,List.nil_append,List.cons_append]
  gi_wp2
  gi_loopw [7] (fun i wr=>∃ k : Nat,k <= len /\ i = .int .i64 k /\ J (upT (fun j=>X[j]?.getD ByteArray.empty) k) wr /\ Below n₀ W wr)
    (fun i _=>len - (intOf i).toNat)
  case atStart=>exact ⟨0,Nat.zero_le _,rfl,h0,Below.refl _ _⟩
  case round=>
    obtain ⟨k,hk,rfl,hJs,hnx⟩:=hrel
    have hcx : k < len -> wr.cell? ⟨b,off + k,none⟩ = some (.string (X[k]?.getD ByteArray.empty)):=fun h=>(hnx.cell (p:=⟨b,off + k,none⟩) hb).trans (hc k h)
    by_cases hlt : k < len
    · obtain ⟨fn,tmps,assign,body,hy,hR⟩:=hY _ (X[k]?.getD ByteArray.empty) wr hJs (by rw [upT_length]; exact hlt)
      have hcx':=hcx hlt
      gi_wp2
      refine hR.mono ?_
      rintro e W3 (⟨rfl,hJ3,hk3⟩ | ⟨rfl,hJx3⟩)
      · gi_wp2
        go_roundw
        case rel=>exact ⟨k + 1,by omega,by simp,by rw [upT_succ]; exact hJ3,hnx.trans hk3⟩
        case measure=>simp [intOf]; omega
      · gi_wp2
        refine bodyPost_ret (results_none rfl _ _ _) rfl ?_
        exact ⟨⟨_,rfl⟩,.inr ⟨_,⟨k + 1,by omega,(upT_succ _ _).symm⟩,hJx3⟩⟩
    · obtain rfl : k = len:=by omega
      gi_wp2
      go_end0
      exact ⟨⟨_,rfl⟩,.inl ⟨_,rfl,hJs⟩⟩
set_option maxRecDepth 100000 in
set_option maxHeartbeats 1000000 in
theorem values1_nil (F : Fence) (n : Nat) (hf : F.fn 278) (hro : F.round = none) (l Bs : Nat) (a : Option Addr) (c : Nat) (J : List ByteArray -> World -> Prop) (W : World) (hBs : W.cell? ⟨Bs,0,none⟩ = some (.slice a 0 c)) (h0 : J [] W) :
    CallsIn F n Tryz.prog 278 #[.func (.yield l) #[] #[],.pointer (some ⟨Bs,0,none⟩)] W fun e W'=>(∃ v,e = .returned v) /\ J [] W':=by
  refine callsIn_of_wp Tryz.func278 rfl hf ?_ hro
  simp only [Tryz.ntmps278,List.size_toArray,List.length_cons,List.length_nil,Nat.reduceAdd,Nat.reduceSub,Array.replicate_succ,Array.replicate_zero,List.push_toArray,List.append_toArray,List.nil_append,List.cons_append]
  gi_wp2
  gi_loopw [7] (fun i wr=>i = .int .i64 0 /\ J [] wr) (fun _ _=>0)
  case atStart=>exact ⟨rfl,h0⟩
  case round=>
    obtain ⟨rfl,hJs⟩:=hrel
    gi_wp2
    go_end0
    exact ⟨⟨_,rfl⟩,hJs⟩
set_option maxHeartbeats 1000000 in
theorem values_in (F : Fence) (n : Nat) (hf : F.fn 251) (hro : F.round = none) (a : Option Addr) (len cap : Nat) (w : World) :
    CallsIn F n Tryz.prog 251 #[.slice a len cap] w fun e w'=>e = .returned (.func (.func 278) #[] #[.pointer (some ⟨w.heap.size,0,none⟩)]) /\ w' = w.alloc (.cells #[.slice a len cap] 43):=by
  refine callsIn_of_wp Tryz.func251 rfl hf ?_ hro
  simp only [Tryz.ntmps251,List.size_toArray,List.length_cons,List.length_nil,Nat.reduceAdd,Nat.reduceSub,Array.replicate_succ,Array.replicate_zero,List.push_toArray,List.append_toArray,List.nil_append,List.cons_append]
  gi_wp2
  go_ret
  exact ⟨rfl,rfl⟩
theorem values_stops (F : Fence) (n : Nat) (hf : F.fn 278) (hro : F.round = none) (hn : 1 <= n) (Bs n₀ : Nat) (sv : Value) (X : List ByteArray) (hreach : X.length <= 1000000) (w : World) (hBs : Bs < w.heap.size) (hn₀ : n₀ <= w.heap.size)
    (hc : w.cell? ⟨Bs,0,none⟩ = some sv) (w0 : World) (hw0 : w0.heap.size = n₀) (hI : TxAt w0 sv X) (hbl : Below n₀ w0 w) :
    SeqStopsK F n Tryz.prog 278 #[.pointer (some ⟨Bs,0,none⟩)] (fun x : ByteArray=>#[Value.string x]) (Below n₀) (fun ys=>ys = X) (fun pre=>pre <+: X) X.length w:=fun l J Jx W hW _ _ hY h0=>by
  have hc':=(hW.cell (p:=⟨Bs,0,none⟩) hBs).trans hc
  obtain ⟨a,cap,rfl,_,hcs⟩:=hI
  cases X with
  | nil=>exact (values1_nil F n hf hro l Bs a cap J W hc' h0).mono fun e W' ⟨he,hj⟩=>⟨he,.inl ⟨_,rfl,hj⟩⟩
  | cons x r=>
    obtain ⟨b,o,rfl,hcc⟩:=hcs (by simp)
    have hb : b < n₀:=by
      have:=hcc 0 (by simp)
      rw [<- hw0]
      exact lt_of_cell this
    refine (values1_in F n hf hro hn l Bs n₀ b o (x :: r).length cap (x :: r) hreach hb J Jx hY W hc' (fun j hj=>?_) h0).mono ?_
    · rw [(hbl.trans (hW.mono hn₀)).cell (p:=⟨b,o + j,none⟩) hb,hcc j hj,List.getElem?_eq_getElem hj]; rfl
    · rintro e W' ⟨he,⟨ys,rfl,hj⟩ | ⟨pre,⟨k,hk,rfl⟩,hj⟩⟩
      · exact ⟨he,.inl ⟨_,by rw [upT_take _ (Nat.le_refl _),List.take_length],hj⟩⟩
      · exact ⟨he,.inr ⟨_,by rw [upT_take _ hk]; exact List.take_prefix _ _,hj⟩⟩
set_option maxRecDepth 100000 in
set_option maxHeartbeats 4000000 in
theorem appSeq_in (F : Fence) (n : Nat) (hfa : F.fn 290) (hf : F.fn 278) (hro : F.round = none) (hn : 3 <= n) (X : List ByteArray) (hX : X.length <= 1000000) (sv : Value) (w : World) (Bs : Nat) (hBs : Bs < w.heap.size)
    (hc : w.cell? ⟨Bs,0,none⟩ = some sv) (hI : TxAt w sv X) :
    CallsIn F n Tryz.prog 290 #[.slice none 0 0,.func (.func 278) #[] #[.pointer (some ⟨Bs,0,none⟩)]] w fun e W'=>∃ v,e = .returned v /\ W'.ownsRow w.heap.size 9 1 v X.length (X.map Value.string) /\ (v = .slice none 0 0 ↔ X = []) /\ Below w.heap.size w W':=by
  have h1 : 1 <= n:=by omega
  obtain ⟨i0,hi,hz0,hz1,hz2⟩:=info_parts infoStr
  refine callsIn_of_wp_marks Tryz.func290 rfl hfa ?_ hro
  simp only [Tryz.ntmps290,List.size_toArray,List.length_cons,List.length_nil,Nat.reduceAdd,Nat.reduceSub,Array.replicate_succ,Array.replicate_zero,List.push_toArray,List.append_toArray,List.nil_append,List.cons_append]
  gi_wp2
  have bO:=Boxed.new w 43 (.slice none 0 0)
  have hB0 : Below w.heap.size w (w.alloc (.cells #[.slice none 0 0] 43)):=(Below.refl _ w).alloc (Nat.le_refl _) _
  refine wpIn_rangeFunc_ownG hro h1 (gf:=278) (lb:=#[.pointer (some ⟨Bs,0,none⟩)]) rfl hf (enters_of Tryz.func278 (by kernel_rfl) rfl)
    (values_stops F (n - 1) hf hro (by omega) Bs w.heap.size sv X hX _ (by simp; omega) (by simp) ((hB0.cell (p:=⟨Bs,0,none⟩) hBs).trans hc) w rfl hI hB0) belowK_t (belowK_b (by simp)) (Below.refl _ _) (fun _=>rfl)
    (fun pre W=>(∃ v,Boxed W w.heap.size 43 v /\ W.ownsRow w.heap.size 9 1 v pre.length (pre.map Value.string) /\ (v = .slice none 0 0 ↔ pre = [])) /\ Below w.heap.size w W)
    (fun _ _ _=>False)
    (OwnFrom.and (Own.from (holdsRow_own w.heap.size w.heap.size 43 9 1 (fun pre=>pre.length) (fun pre=>pre.map Value.string) (fun pre v=>v = .slice none 0 0 ↔ pre = [])) _) (ownFrom_below (Nat.le_refl _) (by simp)))
    (fun _ _ _ _ _ hs _ _=>hs)
    ⟨⟨_,bO,World.ownsRow_nil _ _ _ _,by simp⟩,hB0⟩
    (fun x=>{ tmps:=#[.slice none 0 0,.func (.func 278) #[] #[.pointer (some ⟨Bs,0,none⟩)],.pointer (some ⟨w.heap.size,0,none⟩),undef,.slice none 0 0,.string x,.func (.func 278) #[] #[.pointer (some ⟨Bs,0,none⟩)],.string x,undef,undef,undef,undef,undef],defers:=[] }) ?assign ?body ?done ?stop
  case assign=>
    intro l x W K hK
    gi_wp2
    exact hK
  case body=>
    rintro l pre x W ⟨⟨v,hv,hrow,hnil⟩,hB⟩ hlt
    have hc:=hv.cell
    gi_wp2_with (gi_at_builtin; refine wpListIn_append_own _ rfl _ _ 43 rfl w.heap.size 9 i0 (.string ByteArray.empty) 1 16 Tryz.underlying43 hi hz0 hz1 hz2 rfl (by decide) _ _ _ rfl (hrow.alloc _) ⟨W.heap.size,0,none⟩ 1 1 [.string x] rfl rfl (cell_one_new _ _ _) (by simp [Value.oneCell']) (by unfold maxLen; omega) (by omega) (by have:=hB.size; simp; omega) ?_; intro v' w1 hown' hgrow _; obtain ⟨g',cap',rfl⟩:=ownsRow_succ hown'; obtain ⟨hv1,hv2,hr2,hk2,hb2⟩:=hv.appended (by decide) hrow hB.size (Nat.le_refl _) hown' hgrow; have hc1:=hv1.cell; have hf1:=hv1.frozen)
    exact ⟨hk2.from _,hb2,⟨_,hv2,by simpa using hr2,by simp⟩,hB.trans hb2⟩
  case done=>
    rintro D ys W hD rfl ⟨⟨v,hv,hrow,hnil⟩,hB⟩ hK
    have hc:=hv.cell
    gi_wp2
    refine ⟨by simp,.inl ⟨_,_,rfl,run_takeDeferred hK,?_⟩⟩
    exact ⟨_,results_tmp rfl _ _ _,v,rfl,ownsRow_putObj hrow _ hK rfl,hnil,hB.trans (belowK_b (w:=w) (Nat.le_refl _) W D _ _ (by simp at hD; omega) hK rfl rfl)⟩
  case stop=>
    rintro D c pre W _ _ h _
    exact h.elim
set_option maxHeartbeats 1000000 in
theorem collect_in (F : Fence) (n : Nat) (hfc : F.fn 276) (hfa : F.fn 290) (hf : F.fn 278) (hro : F.round = none) (hn : 4 <= n) (X : List ByteArray) (hX : X.length <= 1000000) (sv : Value) (w : World) (Bs : Nat) (hBs : Bs < w.heap.size)
    (hc : w.cell? ⟨Bs,0,none⟩ = some sv) (hI : TxAt w sv X) :
    CallsIn F n Tryz.prog 276 #[.func (.func 278) #[] #[.pointer (some ⟨Bs,0,none⟩)]] w fun e W'=>∃ v,e = .returned v /\ W'.ownsRow w.heap.size 9 1 v X.length (X.map Value.string) /\ (v = .slice none 0 0 ↔ X = []) /\ Below w.heap.size w W':=by
  have h1 : 1 <= n:=by omega
  refine callsIn_of_wp Tryz.func276 rfl hfc ?_ hro
  simp only [Tryz.ntmps276,List.size_toArray,List.length_cons,List.length_nil,Nat.reduceAdd,Nat.reduceSub,Array.replicate_succ,Array.replicate_zero,List.push_toArray,List.append_toArray,List.nil_append,List.cons_append]
  gi_wp2_with (gi_at_call 290; refine (appSeq_in F (n - 1) hfa hf hro (by omega) X hX sv _ Bs hBs hc hI).mono ?_; rintro e w' ⟨v,rfl,hrow,hnil,hb⟩)
  go_ret
  exact ⟨v,rfl,hrow,hnil,hb⟩
theorem collect_any (X : List ByteArray) (hX : X.length <= 1000000) (sv : Value) (w : World) (Bs : Nat) (hBs : Bs < w.heap.size) (hc : w.cell? ⟨Bs,0,none⟩ = some sv) (hI : TxAt w sv X) :
    Calls Tryz.prog 276 #[.func (.func 278) #[] #[.pointer (some ⟨Bs,0,none⟩)]] w fun e W'=>∃ v,e = .returned v /\ W'.ownsRow w.heap.size 9 1 v X.length (X.map Value.string) /\ (v = .slice none 0 0 ↔ X = []) /\ Below w.heap.size w W':=
  (callsIn_wide (n:=4)).1 (collect_in Fence.wide 4 trivial trivial trivial rfl (by omega) X hX sv w Bs hBs hc hI)
structure Os (w W : World) (P Q ga gb ca cb : Nat) (X Y : List ByteArray) : Prop where
  bl : Below w.heap.size w W
  p3 : W.cell? ⟨P,3,none⟩ = some (.slice (some ⟨ga,0,none⟩) X.length ca)
  q3 : W.cell? ⟨Q,3,none⟩ = some (.slice (some ⟨gb,0,none⟩) Y.length cb)
  xs : ∀ j (hj : j < X.length),W.cell? ⟨ga,j,none⟩ = some (.string X[j])
  ys : ∀ j (hj : j < Y.length),W.cell? ⟨gb,j,none⟩ = some (.string Y[j])
def elems (l : List UInt8) : List (List UInt8):=cutAt 47 l
def lastOf (l : List UInt8) : List UInt8:=(elems l).getD ((elems l).length - 1) []
def badE (l : List UInt8) : Bool:=(elems l).any fun e=>!elemOk e
def longE (l : List UInt8) : Bool:=decide (5 < (elems l).length) || (elems l).any long
def sufE (l : List UInt8) : Bool:=decide (1 < (elems l).length) && likeB (lastOf l)
def pathErr (l : List UInt8) : Nat:=if badE l then 1 else if longE l then 2 else if sufE l && !sufOk (lastOf l) then 4 else 0
def pathN (l : List UInt8) : Int:=if sufE l then (num (restOf (lastOf l))).1 else 0
def pathH (l : List UInt8) : List UInt8:=if sufE l then Lib.join ((elems l).take ((elems l).length - 1)) [47] else l
theorem elems_pos (l : List UInt8) : 0 < (elems l).length:=List.length_pos_iff.2 (cutAt_ne 47 _)
theorem last_get {l : List UInt8} {X : List ByteArray} (h : bl X = elems l) (hp : X.length - 1 < X.length) : X[X.length - 1].data.toList = lastOf l:=by
  unfold lastOf
  have hl : (elems l).length = X.length:=by rw [<- h,bl_len]
  rw [hl,List.getD_eq_getElem?_getD,<- h]
  unfold bl
  rw [List.getElem?_map,List.getElem?_eq_getElem hp]; rfl
set_option maxHeartbeats 1000000 in
theorem path_bad (s : ByteArray) (A : Nat -> Addr) (m : Int) (w : World) (hs : s.size < 4294967281) (S : Te w A m) (h1 : badE s.data.toList = true) :
    Calls Tryz.prog 142 #[.string s] w fun e w'=>e = .returned (.tuple #[.string ⟨#[]⟩,.int .i64 0,.iface 319 (.pointer (some (A 0)))]) /\ Below w.heap.size w w':=by
  have H1:=hid (show ((elems s.data.toList).any fun e=>!elemOk e) = true from h1)
  clear h1
  have hmf : ∀ (fn : Fn) (first cap : Array Value) (w : World),(Instr.makeFunc fn first cap).run Tryz.prog w = .ok (.func fn first cap) w:=fun _ _ _ _=>rfl
  have HS:=hid S
  clear S
  go_enter Tryz.func142,Tryz.ntmps142
  go_wp2_with fail
  refine (split_any 47 s m w hs HS.out.ml).mono ?_
  rintro e w1 ⟨X,rfl,hX,hc,hb,hz⟩
  have HX:=hid (show bl X = elems s.data.toList from hX)
  have HC:=hid hc
  have HB:=hid hb
  have HS1:=hid (HS.out.below hb)
  have hn:=many_le hX
  have HXS:=hid (show ∀ x,x ∈ X -> x.size < 4294967281 from fun x hx=>by have:=piece_le hX hx; omega)
  have HLN:=hid (show X.length = (elems s.data.toList).length by rw [<- HX.out,bl_len])
  clear hX hc hb
  go_wp2_with fail
  refine (has1 w.heap.size X.length X m w1 (by omega) HC.out HS1.out.ml HXS.out).mono ?_
  rintro e w2 ⟨rfl,hb2⟩
  have HB2:=hid (HB.out.trans (hb2.mono HB.out.size))
  have HS2:=hid (HS1.out.below hb2)
  have HC2:=hid (show ∀ j (h : j < X.length),w2.cell? ⟨w.heap.size,0 + j,none⟩ = some (.string X[j]) from fun j h=>cell_below hb2 (HC.out j h))
  rw [HX.out,H1.out]
  clear hb2
  have g0:=HS2.out.sen.g0
  go_wp2_with fail
  go_quiet (fail)
  go_wp2_with fail
  go_ret3
  exact ⟨rfl,HB2.out.trans ((below_drawn _ _).mono HB2.out.size)⟩
set_option maxHeartbeats 1000000 in
theorem path_many (s : ByteArray) (A : Nat -> Addr) (m : Int) (w : World) (hs : s.size < 4294967281) (S : Te w A m) (h1 : badE s.data.toList = false) (h2 : 5 < (elems s.data.toList).length) :
    Calls Tryz.prog 142 #[.string s] w fun e w'=>e = .returned (.tuple #[.string ⟨#[]⟩,.int .i64 0,.iface 319 (.pointer (some (A 1)))]) /\ Below w.heap.size w w':=by
  have H1:=hid (show ((elems s.data.toList).any fun e=>!elemOk e) = false from h1)
  clear h1
  have hmf : ∀ (fn : Fn) (first cap : Array Value) (w : World),(Instr.makeFunc fn first cap).run Tryz.prog w = .ok (.func fn first cap) w:=fun _ _ _ _=>rfl
  have HS:=hid S
  clear S
  go_enter Tryz.func142,Tryz.ntmps142
  go_wp2_with fail
  refine (split_any 47 s m w hs HS.out.ml).mono ?_
  rintro e w1 ⟨X,rfl,hX,hc,hb,hz⟩
  have HX:=hid (show bl X = elems s.data.toList from hX)
  have HC:=hid hc
  have HB:=hid hb
  have HS1:=hid (HS.out.below hb)
  have hn:=many_le hX
  have HXS:=hid (show ∀ x,x ∈ X -> x.size < 4294967281 from fun x hx=>by have:=piece_le hX hx; omega)
  have HLN:=hid (show X.length = (elems s.data.toList).length by rw [<- HX.out,bl_len])
  clear hX hc hb
  go_wp2_with fail
  refine (has1 w.heap.size X.length X m w1 (by omega) HC.out HS1.out.ml HXS.out).mono ?_
  rintro e w2 ⟨rfl,hb2⟩
  have HB2:=hid (HB.out.trans (hb2.mono HB.out.size))
  have HS2:=hid (HS1.out.below hb2)
  have HC2:=hid (show ∀ j (h : j < X.length),w2.cell? ⟨w.heap.size,0 + j,none⟩ = some (.string X[j]) from fun j h=>cell_below hb2 (HC.out j h))
  rw [HX.out,H1.out]
  clear hb2
  have g1:=HS2.out.sen.g1
  have h5 : decide (5 < (X.length : Int)) = true:=decide_eq_true (by have:=HLN.out; omega)
  go_wp2_with fail
  go_quiet (fail)
  go_wp2_with fail
  go_ret3
  exact ⟨rfl,HB2.out.trans ((below_drawn _ _).mono HB2.out.size)⟩
set_option maxHeartbeats 1000000 in
theorem path_long (s : ByteArray) (A : Nat -> Addr) (m : Int) (w : World) (hs : s.size < 4294967281) (S : Te w A m) (h1 : badE s.data.toList = false) (h5 : (elems s.data.toList).length <= 5) (h2 : (elems s.data.toList).any long = true) :
    Calls Tryz.prog 142 #[.string s] w fun e w'=>e = .returned (.tuple #[.string ⟨#[]⟩,.int .i64 0,.iface 319 (.pointer (some (A 1)))]) /\ Below w.heap.size w w':=by
  have H1:=hid (show ((elems s.data.toList).any fun e=>!elemOk e) = false from h1)
  have H2:=hid h2
  clear h1 h2
  have hmf : ∀ (fn : Fn) (first cap : Array Value) (w : World),(Instr.makeFunc fn first cap).run Tryz.prog w = .ok (.func fn first cap) w:=fun _ _ _ _=>rfl
  have HS:=hid S
  clear S
  go_enter Tryz.func142,Tryz.ntmps142
  go_wp2_with fail
  refine (split_any 47 s m w hs HS.out.ml).mono ?_
  rintro e w1 ⟨X,rfl,hX,hc,hb,hz⟩
  have HX:=hid (show bl X = elems s.data.toList from hX)
  have HC:=hid hc
  have HB:=hid hb
  have HS1:=hid (HS.out.below hb)
  have hn:=many_le hX
  have HXS:=hid (show ∀ x,x ∈ X -> x.size < 4294967281 from fun x hx=>by have:=piece_le hX hx; omega)
  have HLN:=hid (show X.length = (elems s.data.toList).length by rw [<- HX.out,bl_len])
  clear hX hc hb
  go_wp2_with fail
  refine (has1 w.heap.size X.length X m w1 (by omega) HC.out HS1.out.ml HXS.out).mono ?_
  rintro e w2 ⟨rfl,hb2⟩
  have HB2:=hid (HB.out.trans (hb2.mono HB.out.size))
  have HS2:=hid (HS1.out.below hb2)
  have HC2:=hid (show ∀ j (h : j < X.length),w2.cell? ⟨w.heap.size,0 + j,none⟩ = some (.string X[j]) from fun j h=>cell_below hb2 (HC.out j h))
  rw [HX.out,H1.out]
  clear hb2
  have h5b : decide (5 < (X.length : Int)) = false:=decide_eq_false (by have:=HLN.out; omega)
  go_wp2_with fail
  refine (has2 w.heap.size X.length X w2 (by omega) HC2.out).mono ?_
  rintro e w3 ⟨rfl,hb3⟩
  have HB3:=hid (HB2.out.trans (hb3.mono HB2.out.size))
  have HS3:=hid (HS2.out.below hb3)
  have HC3:=hid (show ∀ j (h : j < X.length),w3.cell? ⟨w.heap.size,0 + j,none⟩ = some (.string X[j]) from fun j h=>cell_below hb3 (HC2.out j h))
  rw [HX.out,H2.out]
  clear hb3
  have g1:=HS3.out.sen.g1
  go_wp2_with fail
  go_quiet (fail)
  go_wp2_with fail
  go_ret3
  exact ⟨rfl,HB3.out.trans ((below_drawn _ _).mono HB3.out.size)⟩
set_option maxHeartbeats 1000000 in
theorem path_one (s : ByteArray) (A : Nat -> Addr) (m : Int) (w : World) (hs : s.size < 4294967281) (S : Te w A m) (h1 : badE s.data.toList = false) (h2 : (elems s.data.toList).any long = false) (h0 : (elems s.data.toList).length = 1) :
    Calls Tryz.prog 142 #[.string s] w fun e w'=>e = .returned (.tuple #[.string s,.int .i64 0,.nilIface]) /\ Below w.heap.size w w':=by
  have H1:=hid (show ((elems s.data.toList).any fun e=>!elemOk e) = false from h1)
  have H2:=hid h2
  clear h1 h2
  have hmf : ∀ (fn : Fn) (first cap : Array Value) (w : World),(Instr.makeFunc fn first cap).run Tryz.prog w = .ok (.func fn first cap) w:=fun _ _ _ _=>rfl
  have HS:=hid S
  clear S
  go_enter Tryz.func142,Tryz.ntmps142
  go_wp2_with fail
  refine (split_any 47 s m w hs HS.out.ml).mono ?_
  rintro e w1 ⟨X,rfl,hX,hc,hb,hz⟩
  have HX:=hid (show bl X = elems s.data.toList from hX)
  have HC:=hid hc
  have HB:=hid hb
  have HS1:=hid (HS.out.below hb)
  have hn:=many_le hX
  have HXS:=hid (show ∀ x,x ∈ X -> x.size < 4294967281 from fun x hx=>by have:=piece_le hX hx; omega)
  have HLN:=hid (show X.length = (elems s.data.toList).length by rw [<- HX.out,bl_len])
  clear hX hc hb
  go_wp2_with fail
  refine (has1 w.heap.size X.length X m w1 (by omega) HC.out HS1.out.ml HXS.out).mono ?_
  rintro e w2 ⟨rfl,hb2⟩
  have HB2:=hid (HB.out.trans (hb2.mono HB.out.size))
  have HS2:=hid (HS1.out.below hb2)
  have HC2:=hid (show ∀ j (h : j < X.length),w2.cell? ⟨w.heap.size,0 + j,none⟩ = some (.string X[j]) from fun j h=>cell_below hb2 (HC.out j h))
  rw [HX.out,H1.out]
  clear hb2
  obtain ⟨x,rfl⟩:=List.length_eq_one_iff.1 (HLN.out.trans h0)
  have h5b : decide (5 < (([x] : List ByteArray).length : Int)) = false:=decide_eq_false (by have:=HLN.out; omega)
  go_wp2_with fail
  refine (has2 w.heap.size 1 [x] w2 (by omega) HC2.out).mono ?_
  rintro e w3 ⟨rfl,hb3⟩
  have HB3:=hid (HB2.out.trans (hb3.mono HB2.out.size))
  have HS3:=hid (HS2.out.below hb3)
  have HC3:=hid (show ∀ j (h : j < ([x] : List ByteArray).length),w3.cell? ⟨w.heap.size,0 + j,none⟩ = some (.string ([x] : List ByteArray)[j]) from fun j h=>cell_below hb3 (HC2.out j h))
  rw [HX.out,H2.out]
  clear hb3
  go_wp2_with fail
  go_ret3
  exact ⟨rfl,HB3.out⟩
set_option maxHeartbeats 1000000 in
theorem path_unlike (s : ByteArray) (A : Nat -> Addr) (m : Int) (w : World) (hs : s.size < 4294967281) (S : Te w A m) (h1 : badE s.data.toList = false) (h5 : (elems s.data.toList).length <= 5) (h2 : (elems s.data.toList).any long = false) (h0 : 1 < (elems s.data.toList).length) (hk : likeB (lastOf s.data.toList) = false) :
    Calls Tryz.prog 142 #[.string s] w fun e w'=>e = .returned (.tuple #[.string s,.int .i64 0,.nilIface]) /\ Below w.heap.size w w':=by
  have H1:=hid (show ((elems s.data.toList).any fun e=>!elemOk e) = false from h1)
  have H2:=hid h2
  have HK:=hid hk
  clear h1 h2 hk
  have hmf : ∀ (fn : Fn) (first cap : Array Value) (w : World),(Instr.makeFunc fn first cap).run Tryz.prog w = .ok (.func fn first cap) w:=fun _ _ _ _=>rfl
  have HS:=hid S
  clear S
  go_enter Tryz.func142,Tryz.ntmps142
  go_wp2_with fail
  refine (split_any 47 s m w hs HS.out.ml).mono ?_
  rintro e w1 ⟨X,rfl,hX,hc,hb,hz⟩
  have HX:=hid (show bl X = elems s.data.toList from hX)
  have HC:=hid hc
  have HB:=hid hb
  have HS1:=hid (HS.out.below hb)
  have hn:=many_le hX
  have HXS:=hid (show ∀ x,x ∈ X -> x.size < 4294967281 from fun x hx=>by have:=piece_le hX hx; omega)
  have HLN:=hid (show X.length = (elems s.data.toList).length by rw [<- HX.out,bl_len])
  clear hX hc hb
  go_wp2_with fail
  refine (has1 w.heap.size X.length X m w1 (by omega) HC.out HS1.out.ml HXS.out).mono ?_
  rintro e w2 ⟨rfl,hb2⟩
  have HB2:=hid (HB.out.trans (hb2.mono HB.out.size))
  have HS2:=hid (HS1.out.below hb2)
  have HC2:=hid (show ∀ j (h : j < X.length),w2.cell? ⟨w.heap.size,0 + j,none⟩ = some (.string X[j]) from fun j h=>cell_below hb2 (HC.out j h))
  rw [HX.out,H1.out]
  clear hb2
  have h5b : decide (5 < (X.length : Int)) = false:=decide_eq_false (by have:=HLN.out; omega)
  go_wp2_with fail
  refine (has2 w.heap.size X.length X w2 (by omega) HC2.out).mono ?_
  rintro e w3 ⟨rfl,hb3⟩
  have HB3:=hid (HB2.out.trans (hb3.mono HB2.out.size))
  have HS3:=hid (HS2.out.below hb3)
  have HC3:=hid (show ∀ j (h : j < X.length),w3.cell? ⟨w.heap.size,0 + j,none⟩ = some (.string X[j]) from fun j h=>cell_below hb3 (HC2.out j h))
  rw [HX.out,H2.out]
  clear hb3
  have hp : X.length - 1 < X.length:=by have:=HLN.out; omega
  have hx : w3.cell? ⟨w.heap.size,X.length - 1,none⟩ = some (.string X[X.length - 1]):=by have:=HC3.out (X.length - 1) hp; rw [Nat.zero_add] at this; exact this
  have HLT:=hid (last_get HX.out hp)
  have HLS:=hid (HXS.out _ (List.getElem_mem hp))
  have hi1 : ((X.length : Int) - 1) = ((X.length - 1 : Nat) : Int):=by have:=HLN.out; omega
  have hi2 : (((X.length - 1 : Nat) : Int) == 0) = false:=beq_eq_false_iff_ne.2 (by have:=HLN.out; omega)
  generalize hZ : X[X.length - 1] = Z at *
  generalize hN : X.length - 1 = n at *
  go_wp2_with fail
  refine (like_any Z w3 HLS.out).mono ?_
  rintro e w' ⟨rfl,rfl⟩
  rw [HLT.out,HK.out]
  go_wp2_with fail
  go_ret3
  exact ⟨rfl,HB3.out⟩
theorem suffix_no (s : ByteArray) (A : Nat -> Addr) (m : Int) (w : World) (hs : s.size < 4294967281) (S : Te w A m) (h : sufOk s.data.toList = false) :
    Calls Tryz.prog 186 #[.string s] w fun e w'=>e = .returned (.tuple #[.int .i64 0,.iface 319 (.pointer (some (A 3)))]) /\ Below w.heap.size w w':=by
  have:=suffix_any s A m w hs S
  rw [h] at this
  exact this
theorem suffix_yes (s : ByteArray) (A : Nat -> Addr) (m : Int) (w : World) (hs : s.size < 4294967281) (S : Te w A m) (h : sufOk s.data.toList = true) :
    Calls Tryz.prog 186 #[.string s] w fun e w'=>e = .returned (.tuple #[.int .i64 (num (restOf s.data.toList)).1,.nilIface]) /\ Below w.heap.size w w':=by
  have:=suffix_any s A m w hs S
  rw [h] at this
  exact this
theorem join_snoc (c : UInt8) (ps : List (List UInt8)) (h : ps ≠ []) (q : List UInt8) : Lib.join (ps ++ [q]) [c] = Lib.join ps [c] ++ ([c] ++ q):=by
  cases ps with
  | nil=>exact absurd rfl h
  | cons p r=>
    simp only [List.cons_append,Lib.join_cons,Lib.joinTail]
    simp
theorem join_app (c : UInt8) (qs : List (List UInt8)) : ∀ ps : List (List UInt8),(Lib.join ps [c]).length <= (Lib.join (ps ++ qs) [c]).length:=by
  induction qs with
  | nil=>intro ps; simp
  | cons q r ih=>
    intro ps
    have h1 : (Lib.join ps [c]).length <= (Lib.join (ps ++ [q]) [c]).length:=by
      by_cases h : ps = []
      · subst h; simp [Lib.join]
      · rw [join_snoc c ps h q]; simp
    have h2:=ih (ps ++ [q])
    rw [List.append_assoc] at h2
    exact Nat.le_trans h1 h2
theorem join_take (X : List ByteArray) (l : List UInt8) (hX : bl X = elems l) (n : Nat) : (Lib.join (bl (X.take n)) [47]).length <= l.length:=by
  have h:=join_app 47 (bl (X.drop n)) (bl (X.take n))
  have e : bl (X.take n) ++ bl (X.drop n) = bl X:=by unfold bl; rw [<- List.map_append,List.take_append_drop]
  rw [e,hX] at h
  unfold elems at h
  rw [join_cut] at h
  exact h
set_option maxHeartbeats 1000000 in
theorem path_major (s : ByteArray) (A : Nat -> Addr) (m : Int) (w : World) (hs : s.size < 4294967281) (S : Te w A m) (h1 : badE s.data.toList = false) (h5 : (elems s.data.toList).length <= 5) (h2 : (elems s.data.toList).any long = false) (h0 : 1 < (elems s.data.toList).length) (hk : likeB (lastOf s.data.toList) = true) (ho : sufOk (lastOf s.data.toList) = false) :
    Calls Tryz.prog 142 #[.string s] w fun e w'=>e = .returned (.tuple #[.string ⟨#[]⟩,.int .i64 0,.iface 319 (.pointer (some (A 3)))]) /\ Below w.heap.size w w':=by
  have H1:=hid (show ((elems s.data.toList).any fun e=>!elemOk e) = false from h1)
  have H2:=hid h2
  have HK:=hid hk
  have HO:=hid ho
  clear h1 h2 hk ho
  have hmf : ∀ (fn : Fn) (first cap : Array Value) (w : World),(Instr.makeFunc fn first cap).run Tryz.prog w = .ok (.func fn first cap) w:=fun _ _ _ _=>rfl
  have HS:=hid S
  clear S
  go_enter Tryz.func142,Tryz.ntmps142
  go_wp2_with fail
  refine (split_any 47 s m w hs HS.out.ml).mono ?_
  rintro e w1 ⟨X,rfl,hX,hc,hb,hz⟩
  have HX:=hid (show bl X = elems s.data.toList from hX)
  have HC:=hid hc
  have HB:=hid hb
  have HS1:=hid (HS.out.below hb)
  have hn:=many_le hX
  have HXS:=hid (show ∀ x,x ∈ X -> x.size < 4294967281 from fun x hx=>by have:=piece_le hX hx; omega)
  have HLN:=hid (show X.length = (elems s.data.toList).length by rw [<- HX.out,bl_len])
  clear hX hc hb
  go_wp2_with fail
  refine (has1 w.heap.size X.length X m w1 (by omega) HC.out HS1.out.ml HXS.out).mono ?_
  rintro e w2 ⟨rfl,hb2⟩
  have HB2:=hid (HB.out.trans (hb2.mono HB.out.size))
  have HS2:=hid (HS1.out.below hb2)
  have HC2:=hid (show ∀ j (h : j < X.length),w2.cell? ⟨w.heap.size,0 + j,none⟩ = some (.string X[j]) from fun j h=>cell_below hb2 (HC.out j h))
  rw [HX.out,H1.out]
  clear hb2
  have h5b : decide (5 < (X.length : Int)) = false:=decide_eq_false (by have:=HLN.out; omega)
  go_wp2_with fail
  refine (has2 w.heap.size X.length X w2 (by omega) HC2.out).mono ?_
  rintro e w3 ⟨rfl,hb3⟩
  have HB3:=hid (HB2.out.trans (hb3.mono HB2.out.size))
  have HS3:=hid (HS2.out.below hb3)
  have HC3:=hid (show ∀ j (h : j < X.length),w3.cell? ⟨w.heap.size,0 + j,none⟩ = some (.string X[j]) from fun j h=>cell_below hb3 (HC2.out j h))
  rw [HX.out,H2.out]
  clear hb3
  have hp : X.length - 1 < X.length:=by have:=HLN.out; omega
  have hx : w3.cell? ⟨w.heap.size,X.length - 1,none⟩ = some (.string X[X.length - 1]):=by have:=HC3.out (X.length - 1) hp; rw [Nat.zero_add] at this; exact this
  have HLT:=hid (last_get HX.out hp)
  have HLS:=hid (HXS.out _ (List.getElem_mem hp))
  have hi1 : ((X.length : Int) - 1) = ((X.length - 1 : Nat) : Int):=by have:=HLN.out; omega
  have hi2 : (((X.length - 1 : Nat) : Int) == 0) = false:=beq_eq_false_iff_ne.2 (by have:=HLN.out; omega)
  generalize hZ : X[X.length - 1] = Z at *
  generalize hN : X.length - 1 = n at *
  go_wp2_with fail
  refine (like_any Z w3 HLS.out).mono ?_
  rintro e w' ⟨rfl,rfl⟩
  rw [HLT.out,HK.out]
  go_wp2_with fail
  refine (suffix_no Z A m w' HLS.out HS3.out (by rw [HLT.out]; exact HO.out)).mono ?_
  rintro e w4 ⟨rfl,hb4⟩
  have HB4:=hid (HB3.out.trans (hb4.mono HB3.out.size))
  clear hb4
  go_wp2_with fail
  go_ret3
  exact ⟨rfl,HB4.out⟩
set_option maxHeartbeats 1000000 in
theorem path_suffix (s : ByteArray) (A : Nat -> Addr) (m : Int) (w : World) (hs : s.size < 4294967281) (S : Te w A m) (h1 : badE s.data.toList = false) (h5 : (elems s.data.toList).length <= 5) (h2 : (elems s.data.toList).any long = false) (h0 : 1 < (elems s.data.toList).length) (hk : likeB (lastOf s.data.toList) = true) (ho : sufOk (lastOf s.data.toList) = true) :
    Calls Tryz.prog 142 #[.string s] w fun e w'=>(∃ H : ByteArray,e = .returned (.tuple #[.string H,.int .i64 (num (restOf (lastOf s.data.toList))).1,.nilIface]) /\ H.data.toList = Lib.join ((elems s.data.toList).take ((elems s.data.toList).length - 1)) [47]) /\ Below w.heap.size w w':=by
  have H1:=hid (show ((elems s.data.toList).any fun e=>!elemOk e) = false from h1)
  have H2:=hid h2
  have HK:=hid hk
  have HO:=hid ho
  clear h1 h2 hk ho
  have hmf : ∀ (fn : Fn) (first cap : Array Value) (w : World),(Instr.makeFunc fn first cap).run Tryz.prog w = .ok (.func fn first cap) w:=fun _ _ _ _=>rfl
  have HS:=hid S
  clear S
  go_enter Tryz.func142,Tryz.ntmps142
  go_wp2_with fail
  refine (split_any 47 s m w hs HS.out.ml).mono ?_
  rintro e w1 ⟨X,rfl,hX,hc,hb,hz⟩
  have HX:=hid (show bl X = elems s.data.toList from hX)
  have HC:=hid hc
  have HB:=hid hb
  have HS1:=hid (HS.out.below hb)
  have hn:=many_le hX
  have HXS:=hid (show ∀ x,x ∈ X -> x.size < 4294967281 from fun x hx=>by have:=piece_le hX hx; omega)
  have HLN:=hid (show X.length = (elems s.data.toList).length by rw [<- HX.out,bl_len])
  clear hX hc hb
  go_wp2_with fail
  refine (has1 w.heap.size X.length X m w1 (by omega) HC.out HS1.out.ml HXS.out).mono ?_
  rintro e w2 ⟨rfl,hb2⟩
  have HB2:=hid (HB.out.trans (hb2.mono HB.out.size))
  have HS2:=hid (HS1.out.below hb2)
  have HC2:=hid (show ∀ j (h : j < X.length),w2.cell? ⟨w.heap.size,0 + j,none⟩ = some (.string X[j]) from fun j h=>cell_below hb2 (HC.out j h))
  rw [HX.out,H1.out]
  clear hb2
  have h5b : decide (5 < (X.length : Int)) = false:=decide_eq_false (by have:=HLN.out; omega)
  go_wp2_with fail
  refine (has2 w.heap.size X.length X w2 (by omega) HC2.out).mono ?_
  rintro e w3 ⟨rfl,hb3⟩
  have HB3:=hid (HB2.out.trans (hb3.mono HB2.out.size))
  have HS3:=hid (HS2.out.below hb3)
  have HC3:=hid (show ∀ j (h : j < X.length),w3.cell? ⟨w.heap.size,0 + j,none⟩ = some (.string X[j]) from fun j h=>cell_below hb3 (HC2.out j h))
  rw [HX.out,H2.out]
  clear hb3
  have HJ:=hid (fun W (hW : Below w3.heap.size w3 W)=>Tryz.strings_Join w.heap.size 0 X.length (X.take (X.length - 1)) ⟨#[47]⟩ W (fun j x hx=>by
      have hj : j < (X.take (X.length - 1)).length:=by
        rcases Nat.lt_or_ge j (X.take (X.length - 1)).length with h | h
        · exact h
        · rw [List.getElem?_eq_none h] at hx; cases hx
      have hj2 : j < X.length:=by rw [List.length_take] at hj; omega
      have hx2 : X[j] = x:=by
        rw [List.getElem?_eq_getElem hj,List.getElem_take] at hx
        exact Option.some.inj hx
      rw [<- hx2]
      exact cell_below hW (HC3.out j hj2)) (by
      have h1:=lt_of_cell (HC3.out 0 (by have:=HLN.out; omega))
      have h2:=hW.size
      simp at h1; omega) (by rw [List.length_take]; omega) (by rw [List.length_take]; omega) (by
      have:=join_take X s.data.toList HX.out (X.length - 1)
      rw [len_eq] at this
      show (Lib.join (bl (X.take (X.length - 1))) [47]).length <= _
      omega))
  rw [show (X.take (X.length - 1)).length = X.length - 1 by rw [List.length_take]; omega] at HJ
  have HJT:=hid (show Lib.join (bl (X.take (X.length - 1))) [47] = Lib.join ((elems s.data.toList).take ((elems s.data.toList).length - 1)) [47] by
    rw [<- HX.out,bl_len]; unfold bl; rw [List.map_take])
  have hp : X.length - 1 < X.length:=by have:=HLN.out; omega
  have hx : w3.cell? ⟨w.heap.size,X.length - 1,none⟩ = some (.string X[X.length - 1]):=by have:=HC3.out (X.length - 1) hp; rw [Nat.zero_add] at this; exact this
  have HLT:=hid (last_get HX.out hp)
  have HLS:=hid (HXS.out _ (List.getElem_mem hp))
  have hi1 : ((X.length : Int) - 1) = ((X.length - 1 : Nat) : Int):=by have:=HLN.out; omega
  have hi2 : (((X.length - 1 : Nat) : Int) == 0) = false:=beq_eq_false_iff_ne.2 (by have:=HLN.out; omega)
  generalize hZ : X[X.length - 1] = Z at *
  generalize hN : X.length - 1 = n at *
  go_wp2_with fail
  refine (like_any Z w3 HLS.out).mono ?_
  rintro e w' ⟨rfl,rfl⟩
  rw [HLT.out,HK.out]
  go_wp2_with fail
  refine (suffix_yes Z A m w' HLS.out HS3.out (by rw [HLT.out]; exact HO.out)).mono ?_
  rintro e w4 ⟨rfl,hb4⟩
  have HB4:=hid (HB3.out.trans (hb4.mono HB3.out.size))
  have HB34:=hid hb4
  rw [HLT.out]
  clear hb4
  go_wp2_with fail
  refine (HJ.out _ HB34.out).mono ?_
  rintro e w5 ⟨rfl,hb5⟩
  have HB5:=hid (HB4.out.trans (hb5.mono HB4.out.size))
  clear hb5
  go_wp2_with fail
  go_ret3
  exact ⟨⟨_,rfl,by have:=HJT.out; unfold bl at this; rw [List.map_take] at this; exact this⟩,HB5.out⟩
def PathP (A : Nat -> Addr) (l : List UInt8) (w w' : World) (e : Ending) : Prop:=
  (∃ (H : ByteArray) (n : Int) (v : Value),e = .returned (.tuple #[.string H,.int .i64 n,v]) /\ v = errA A (pathErr l) /\ (pathErr l = 0 -> H.data.toList = pathH l /\ n = pathN l) /\ (pathErr l ≠ 0 -> H = ⟨#[]⟩ /\ n = 0)) /\ Below w.heap.size w w'
theorem readPath_any (s : ByteArray) (A : Nat -> Addr) (m : Int) (w : World) (hs : s.size < 4294967281) (S : Te w A m) : Calls Tryz.prog 142 #[.string s] w fun e w'=>PathP A s.data.toList w w' e:=by
  have hp:=elems_pos s.data.toList
  cases h1 : badE s.data.toList
  · by_cases h5 : 5 < (elems s.data.toList).length
    · have he : pathErr s.data.toList = 2:=by unfold pathErr longE; rw [h1,decide_eq_true h5]; rfl
      exact (path_many s A m w hs S h1 h5).mono fun e w' h=>⟨⟨_,_,_,h.1,by rw [he]; rfl,(fun h=>by rw [he] at h; cases h),fun _=>⟨rfl,rfl⟩⟩,h.2⟩
    · have d5:=decide_eq_false h5
      cases h2 : (elems s.data.toList).any long
      · have hl : longE s.data.toList = false:=by unfold longE; rw [d5,h2]; rfl
        by_cases h0 : 1 < (elems s.data.toList).length
        · cases hk : likeB (lastOf s.data.toList)
          · have hu : sufE s.data.toList = false:=by unfold sufE; rw [hk]; simp
            have he : pathErr s.data.toList = 0:=by unfold pathErr; rw [h1,hl,hu]; rfl
            exact (path_unlike s A m w hs S h1 (by omega) h2 h0 hk).mono fun e w' h=>⟨⟨_,_,_,h.1,by rw [he]; rfl,fun _=>⟨by unfold pathH; rw [hu]; rfl,by unfold pathN; rw [hu]; rfl⟩,fun h=>absurd he h⟩,h.2⟩
          · have hu : sufE s.data.toList = true:=by unfold sufE; rw [hk,decide_eq_true h0]; rfl
            cases ho : sufOk (lastOf s.data.toList)
            · have he : pathErr s.data.toList = 4:=by unfold pathErr; rw [h1,hl,hu,ho]; rfl
              exact (path_major s A m w hs S h1 (by omega) h2 h0 hk ho).mono fun e w' h=>⟨⟨_,_,_,h.1,by rw [he]; rfl,(fun h=>by rw [he] at h; cases h),fun _=>⟨rfl,rfl⟩⟩,h.2⟩
            · have he : pathErr s.data.toList = 0:=by unfold pathErr; rw [h1,hl,hu,ho]; rfl
              exact (path_suffix s A m w hs S h1 (by omega) h2 h0 hk ho).mono fun e w' ⟨⟨H,e1,e2⟩,hb⟩=>⟨⟨H,_,_,e1,by rw [he]; rfl,fun _=>⟨by unfold pathH; rw [hu]; exact e2,by unfold pathN; rw [hu]; rfl⟩,fun h=>absurd he h⟩,hb⟩
        · have hu : sufE s.data.toList = false:=by unfold sufE; rw [decide_eq_false h0]; rfl
          have he : pathErr s.data.toList = 0:=by unfold pathErr; rw [h1,hl,hu]; rfl
          exact (path_one s A m w hs S h1 h2 (by omega)).mono fun e w' h=>⟨⟨_,_,_,h.1,by rw [he]; rfl,fun _=>⟨by unfold pathH; rw [hu]; rfl,by unfold pathN; rw [hu]; rfl⟩,fun h=>absurd he h⟩,h.2⟩
      · have he : pathErr s.data.toList = 2:=by unfold pathErr longE; rw [h1,h2]; simp
        exact (path_long s A m w hs S h1 (by omega) h2).mono fun e w' h=>⟨⟨_,_,_,h.1,by rw [he]; rfl,(fun h=>by rw [he] at h; cases h),fun _=>⟨rfl,rfl⟩⟩,h.2⟩
  · have he : pathErr s.data.toList = 1:=by unfold pathErr; rw [h1]; rfl
    exact (path_bad s A m w hs S h1).mono fun e w' h=>⟨⟨_,_,_,h.1,by rw [he]; rfl,(fun h=>by rw [he] at h; cases h),fun _=>⟨rfl,rfl⟩⟩,h.2⟩
theorem ordPart_swap (a b : List UInt8) : ordPart b a = -ordPart a b:=by
  unfold ordPart
  cases h1 : digs a <;> cases h2 : digs b
  · simp only [Bool.false_eq_true,if_false]; exact cb_swap a b
  · simp
  · simp
  · simp only [if_true]; exact fst_swap (ci_swap _ _) (cb_swap _ _)
theorem ordPart_zero (a b : List UInt8) : ordPart a b = 0 ↔ a = b:=by
  unfold ordPart
  cases h1 : digs a <;> cases h2 : digs b
  · simp only [Bool.false_eq_true,if_false]; exact cb_zero a b
  · simp only [Bool.false_eq_true,if_false,if_true]
    constructor
    · intro h; cases h
    · intro h; subst h; rw [h1] at h2; cases h2
  · simp only [Bool.false_eq_true,if_false,if_true]
    constructor
    · intro h; cases h
    · intro h; subst h; rw [h1] at h2; cases h2
  · simp only [if_true]
    rw [fst_zero,cb_zero]
    constructor
    · intro h; exact h.2
    · intro h; subst h; exact ⟨ci_self _,rfl⟩
theorem ordPs_swap : ∀ (a b : List (List UInt8)),ordPs b a = -ordPs a b
  | [],[]=>rfl
  | [],_ :: _=>rfl
  | _ :: _,[]=>rfl
  | x :: xs,y :: ys=>fst_swap (ordPart_swap x y) (ordPs_swap xs ys)
theorem ordPs_zero : ∀ (a b : List (List UInt8)),ordPs a b = 0 ↔ a = b
  | [],[]=>by simp [ordPs]
  | [],_ :: _=>by simp [ordPs]
  | _ :: _,[]=>by simp [ordPs]
  | x :: xs,y :: ys=>by
    unfold ordPs
    rw [fst_zero,ordPart_zero,ordPs_zero xs ys]
    simp
theorem ordPre_swap (a b : List (List UInt8)) : ordPre b a = -ordPre a b:=by
  unfold ordPre
  by_cases h : a = [] \/ b = []
  · rw [if_pos h,if_pos h.symm]; exact ci_swap _ _
  · rw [if_neg h,if_neg (fun k=>h k.symm)]; exact ordPs_swap a b
theorem ordPre_zero (a b : List (List UInt8)) : ordPre a b = 0 ↔ a = b:=by
  unfold ordPre
  by_cases h : a = [] \/ b = []
  · rw [if_pos h,ci_zero]
    constructor
    · intro e
      rcases h with h | h
      · subst h; simp at e; exact e.symm
      · subst h; simp at e; exact List.length_eq_zero_iff.1 (by omega)
    · intro e; subst e; rfl
  · rw [if_neg h]; exact ordPs_zero a b
theorem ordV_swap (s t : List UInt8) : ordV t s = -ordV s t:=
  fst_swap (ci_swap _ _) (fst_swap (ci_swap _ _) (fst_swap (ci_swap _ _) (ordPre_swap _ _)))
theorem ordV_zero {s t : List UInt8} (hs : verErr s = 0) (ht : verErr t = 0) : ordV s t = 0 ↔ s = t:=by
  unfold ordV ordN
  rw [fst_zero,fst_zero,fst_zero,ci_zero,ci_zero,ci_zero,ordPre_zero]
  constructor
  · rintro ⟨h0,h1,h2,h3⟩
    rw [<- text_back s hs,<- text_back t ht,h0,h1,h2,h3]
  · intro h; subst h; exact ⟨rfl,rfl,rfl,rfl⟩
end Ve
end Go.Proofs.YtlcffhadobhfkaaGreatDoor
