
import Derived.Test.YtjbmjnbkibmkpaaGreatDoorGt4
import Derived.Test.YtjbmjnbkibmkpaaGreatDoorGt1
import Derived.Deep.RegionHeld
import Derived.Laws.StructEq
set_option maxHeartbeats 8000000
namespace Go.Proofs.YtjbmjnbkibmkpaaGreatDoor
open Go.RowKit
namespace Ve
theorem ordPs_step (X Y : List ByteArray) (k : Nat) (h1 : k < X.length) (h2 : k < Y.length) :
  ordPs (bl (X.drop k)) (bl (Y.drop k)) = fst (ordPart X[k].data.toList Y[k].data.toList) (ordPs (bl (X.drop (k + 1))) (bl (Y.drop (k + 1)))):=by
 rw [List.drop_eq_getElem_cons h1,List.drop_eq_getElem_cons h2]; rfl
theorem ordPs_long (X Y : List ByteArray) (k : Nat) (h1 : k < X.length) (h2 : k = Y.length) : ordPs (bl (X.drop k)) (bl (Y.drop k)) = 1:=by
 rw [List.drop_eq_getElem_cons h1,List.drop_eq_nil_of_le (show Y.length <= k by omega)]; rfl
theorem ordPs_short (X Y : List ByteArray) (k : Nat) (h1 : k = X.length) (h2 : k < Y.length) : ordPs (bl (X.drop k)) (bl (Y.drop k)) = -1:=by
 rw [List.drop_eq_nil_of_le (show X.length <= k by omega),List.drop_eq_getElem_cons h2]; rfl
theorem ordPs_end (X Y : List ByteArray) (k : Nat) (h1 : k = X.length) (h2 : k = Y.length) : ordPs (bl (X.drop k)) (bl (Y.drop k)) = 0:=by
 rw [List.drop_eq_nil_of_le (show X.length <= k by omega),List.drop_eq_nil_of_le (show Y.length <= k by omega)]; rfl
theorem cfunc_any (b0 b1 c0 c1 : Nat) (X Y : List ByteArray) (w : World) (hX : X.length <= 1000000) (hXs : ∀ x,x ∈ X -> x.size <= maxLen) (hYs : ∀ x,x ∈ Y -> x.size <= maxLen)
  (hc0 : ∀ j (h : j < X.length),w.cell? ⟨b0,0 + j,none⟩ = some (.string X[j])) (hc1 : ∀ j (h : j < Y.length),w.cell? ⟨b1,0 + j,none⟩ = some (.string Y[j])) :
  Calls Tryz.prog 270 #[.slice (some ⟨b0,0,none⟩) X.length c0,.slice (some ⟨b1,0,none⟩) Y.length c1,.func (.func 271) #[] #[]] w fun e w'=>e = .returned (.int .i64 (ordPs (bl X) (bl Y))) /\ Bw w.heap.size w w':=by
 have HXS:=hid hXs
 have HYS:=hid hYs
 have HC0:=hid hc0
 have HC1:=hid hc1
 clear hXs hYs hc0 hc1
 go_enter Tryz.func270,Tryz.ntmps270
 go_wp2_with fail
 go_loopw [13] (fun i wr=>∃ k : Nat,k <= X.length /\ k <= Y.length /\ i = .int .i64 k /\ Hid (ordPs (bl X) (bl Y) = ordPs (bl (X.drop k)) (bl (Y.drop k))) /\ Hid (Bw w.heap.size w wr)) (fun i _=>X.length - (intOf i).toNat)
 case atStart=>exact ⟨0,Nat.zero_le _,Nat.zero_le _,rfl,hid rfl,hid (Bw.refl _ _)⟩
 case round=>
  obtain ⟨k,hk,hk2,rfl,HO,HB⟩:=hrel
  by_cases hlt : k < X.length
  ·by_cases hlt2 : k < Y.length
   ·have hx : wr.cell? ⟨b0,k,none⟩ = some (.string X[k]):=by
     have:=HC0.out k hlt
     rw [Nat.zero_add] at this
     exact cell_below HB.out.be this
    have hy : wr.cell? ⟨b1,k,none⟩ = some (.string Y[k]):=by
     have:=HC1.out k hlt2
     rw [Nat.zero_add] at this
     exact cell_below HB.out.be this
    have HP:=hid (cpart_bw X[k] Y[k] wr (HXS.out _ (List.getElem_mem hlt)) (HYS.out _ (List.getElem_mem hlt2)))
    have HN:=hid (HO.out.trans (ordPs_step X Y k hlt hlt2))
    generalize hq : ordPart X[k].data.toList Y[k].data.toList = q at *
    clear hq HO
    by_cases hz : q = 0
    ·subst hz
     go_wp2_with fail
     refine HP.out.mono ?_
     rintro e w1 ⟨rfl,hb1⟩
     have HB1:=hid (HB.out.trans (hb1.mono HB.out.size))
     clear hb1
     go_wp2_with fail
     go_roundw
     case rel=>exact ⟨k + 1,by omega,by omega,by go_num,hid (HN.out.trans (fst0 _)),HB1⟩
     case measure=>simp [intOf]; omega
    ·have hqb : (q == 0) = false:=beq_eq_false_iff_ne.2 hz
     have HF:=hid (HN.out.trans (fst_ne _ hz))
     clear hz
     go_wp2_with fail
     refine HP.out.mono ?_
     rintro e w1 ⟨rfl,hb1⟩
     have HB1:=hid (HB.out.trans (hb1.mono HB.out.size))
     clear hb1
     go_wp2_with fail
     go_ret
     exact ⟨ret_int HF.out.symm,HB1.out⟩
   ·have hx : wr.cell? ⟨b0,k,none⟩ = some (.string X[k]):=by
     have:=HC0.out k hlt
     rw [Nat.zero_add] at this
     exact cell_below HB.out.be this
    have HF:=hid (HO.out.trans (ordPs_long X Y k hlt (by omega)))
    clear HO
    go_wp2_with fail
    go_ret
    exact ⟨ret_int HF.out.symm,HB.out⟩
  ·by_cases hlt2 : X.length < Y.length
   ·have HF:=hid (HO.out.trans (ordPs_short X Y k (by omega) (by omega)))
    clear HO
    go_wp2_with fail
    go_ret
    exact ⟨ret_int HF.out.symm,HB.out⟩
   ·have HF:=hid (HO.out.trans (ordPs_end X Y k (by omega) (by omega)))
    clear HO
    go_wp2_with fail
    go_ret
    exact ⟨ret_int HF.out.symm,HB.out⟩
theorem bl_nil {X : List ByteArray} : bl X = [] ↔ X = []:=by
 constructor
 ·intro h; exact List.length_eq_zero_iff.1 (by rw [<- bl_len,h]; rfl)
 ·intro h; rw [h]; rfl
theorem cpre_any (va vb : Value) (X Y : List ByteArray) (w : World) (hX : X.length <= 1000000) (hY : Y.length <= 1000000) (hXs : ∀ x,x ∈ X -> x.size <= maxLen) (hYs : ∀ x,x ∈ Y -> x.size <= maxLen) (ha : StrsAt w va X) (hb : StrsAt w vb Y) :
  Calls Tryz.prog 228 #[va,vb] w fun e w'=>e = .returned (.int .i64 (ordPre (bl X) (bl Y))) /\ Bw w.heap.size w w':=by
 rcases ha with ⟨rfl,rfl⟩ | ⟨hXn,b0,rfl,hb0,hc0⟩
 ·obtain ⟨p,c,rfl⟩ : ∃ p c,vb = .slice p Y.length c:=by
   rcases hb with ⟨rfl,rfl⟩ | ⟨_,b,rfl,_⟩
   ·exact ⟨none,0,rfl⟩
   ·exact ⟨_,_,rfl⟩
  have HO:=hid (show ordPre (bl []) (bl Y) = Lib.compareInt (Y.length : Int) 0 by unfold ordPre; rw [if_pos (show bl [] = [] \/ bl Y = [] from Or.inl rfl),bl_len]; rfl)
  have HC:=hid (Tryz.cmp_Compare_int (Y.length : Int) 0 w)
  clear hb hXs hYs
  go_enter Tryz.func228,Tryz.ntmps228
  go_wp2_with fail
  refine HC.out.mono ?_
  rintro e w' ⟨rfl,rfl⟩
  go_wp2_with fail
  go_ret
  exact ⟨ret_int HO.out.symm,Bw.refl _ _⟩
 ·have hl : 0 < X.length:=List.length_pos_iff.2 hXn
  have h0 : ((X.length : Int) == 0) = false:=beq_eq_false_iff_ne.2 (by omega)
  rcases hb with ⟨rfl,rfl⟩ | ⟨hYn,b1,rfl,hb1,hc1⟩
  ·have HO:=hid (show ordPre (bl X) (bl []) = Lib.compareInt 0 (X.length : Int) by unfold ordPre; rw [if_pos (show bl X = [] \/ bl [] = [] from Or.inr rfl),bl_len X]; rfl)
   have HC:=hid (Tryz.cmp_Compare_int 0 (X.length : Int) w)
   clear hXs hYs hc0
   go_enter Tryz.func228,Tryz.ntmps228
   go_wp2_with fail
   refine HC.out.mono ?_
   rintro e w' ⟨rfl,rfl⟩
   go_wp2_with fail
   go_ret
   exact ⟨ret_int HO.out.symm,Bw.refl _ _⟩
  ·have hl2 : 0 < Y.length:=List.length_pos_iff.2 hYn
   have h02 : ((Y.length : Int) == 0) = false:=beq_eq_false_iff_ne.2 (by omega)
   have HO:=hid (show ordPre (bl X) (bl Y) = ordPs (bl X) (bl Y) by unfold ordPre; rw [if_neg]; rintro (h | h); exact hXn (bl_nil.1 h); exact hYn (bl_nil.1 h))
   have HC:=hid (cfunc_any b0 b1 X.length Y.length X Y w hX hXs hYs hc0 hc1)
   clear hXs hYs hc0 hc1
   go_enter Tryz.func228,Tryz.ntmps228
   go_wp2_with fail
   refine HC.out.mono ?_
   rintro e w' ⟨rfl,hb⟩
   have HB:=hid hb
   clear hb
   go_wp2_with fail
   go_ret
   exact ⟨ret_int HO.out.symm,HB.out⟩
theorem d1_any (x y : Int) (A B : Nat) (w : World) (a0 : w.cell? ⟨A,0,none⟩ = some (.int .i64 x)) (b0 : w.cell? ⟨B,0,none⟩ = some (.int .i64 y)) :
  Calls Tryz.prog 223 #[.pointer (some ⟨A,0,none⟩),.pointer (some ⟨B,0,none⟩)] w fun e w'=>e = .returned (.int .i64 (Lib.compareInt x y)) /\ w' = w:=by
 have HC:=hid (Tryz.cmp_Compare_int x y w)
 go_enter Tryz.func223,Tryz.ntmps223
 go_wp2_with fail
 refine HC.out.mono ?_
 rintro e w' ⟨rfl,rfl⟩
 go_wp2_with fail
 go_ret
 exact ⟨rfl,rfl⟩
theorem d2_any (x y : Int) (A B : Nat) (w : World) (a0 : w.cell? ⟨A,1,none⟩ = some (.int .i64 x)) (b0 : w.cell? ⟨B,1,none⟩ = some (.int .i64 y)) :
  Calls Tryz.prog 225 #[.pointer (some ⟨A,0,none⟩),.pointer (some ⟨B,0,none⟩)] w fun e w'=>e = .returned (.int .i64 (Lib.compareInt x y)) /\ w' = w:=by
 have HC:=hid (Tryz.cmp_Compare_int x y w)
 go_enter Tryz.func225,Tryz.ntmps225
 go_wp2_with fail
 refine HC.out.mono ?_
 rintro e w' ⟨rfl,rfl⟩
 go_wp2_with fail
 go_ret
 exact ⟨rfl,rfl⟩
theorem d3_any (x y : Int) (A B : Nat) (w : World) (a0 : w.cell? ⟨A,2,none⟩ = some (.int .i64 x)) (b0 : w.cell? ⟨B,2,none⟩ = some (.int .i64 y)) :
  Calls Tryz.prog 226 #[.pointer (some ⟨A,0,none⟩),.pointer (some ⟨B,0,none⟩)] w fun e w'=>e = .returned (.int .i64 (Lib.compareInt x y)) /\ w' = w:=by
 have HC:=hid (Tryz.cmp_Compare_int x y w)
 go_enter Tryz.func226,Tryz.ntmps226
 go_wp2_with fail
 refine HC.out.mono ?_
 rintro e w' ⟨rfl,rfl⟩
 go_wp2_with fail
 go_ret
 exact ⟨rfl,rfl⟩
theorem d4_any (va vb : Value) (k : Int) (A B : Nat) (w : World) (a0 : w.cell? ⟨A,3,none⟩ = some va) (b0 : w.cell? ⟨B,3,none⟩ = some vb)
  (h : Calls Tryz.prog 228 #[va,vb] w fun e w'=>e = .returned (.int .i64 k) /\ Bw w.heap.size w w') :
  Calls Tryz.prog 227 #[.pointer (some ⟨A,0,none⟩),.pointer (some ⟨B,0,none⟩)] w fun e w'=>e = .returned (.int .i64 k) /\ Bw w.heap.size w w':=by
 have HC:=hid h
 clear h
 go_enter Tryz.func227,Tryz.ntmps227
 go_wp2_with fail
 refine HC.out.mono ?_
 rintro e w' ⟨rfl,hb⟩
 have HB:=hid hb
 clear hb
 go_wp2_with fail
 go_ret
 exact ⟨rfl,HB.out⟩
theorem first_four (k1 k2 k3 k4 : Int) (A B F : Nat) (w : World)
  (h1 : Calls Tryz.prog 223 #[.pointer (some ⟨A,0,none⟩),.pointer (some ⟨B,0,none⟩)] w fun e w'=>e = .returned (.int .i64 k1) /\ w' = w)
  (h2 : Calls Tryz.prog 225 #[.pointer (some ⟨A,0,none⟩),.pointer (some ⟨B,0,none⟩)] w fun e w'=>e = .returned (.int .i64 k2) /\ w' = w)
  (h3 : Calls Tryz.prog 226 #[.pointer (some ⟨A,0,none⟩),.pointer (some ⟨B,0,none⟩)] w fun e w'=>e = .returned (.int .i64 k3) /\ w' = w)
  (h4 : Calls Tryz.prog 227 #[.pointer (some ⟨A,0,none⟩),.pointer (some ⟨B,0,none⟩)] w fun e w'=>e = .returned (.int .i64 k4) /\ Bw w.heap.size w w')
  (f0 : w.cell? ⟨F,0,none⟩ = some (.func (.func 223) #[] #[.pointer (some ⟨A,0,none⟩),.pointer (some ⟨B,0,none⟩)])) (f1 : w.cell? ⟨F,1,none⟩ = some (.func (.func 225) #[] #[.pointer (some ⟨A,0,none⟩),.pointer (some ⟨B,0,none⟩)]))
  (f2 : w.cell? ⟨F,2,none⟩ = some (.func (.func 226) #[] #[.pointer (some ⟨A,0,none⟩),.pointer (some ⟨B,0,none⟩)])) (f3 : w.cell? ⟨F,3,none⟩ = some (.func (.func 227) #[] #[.pointer (some ⟨A,0,none⟩),.pointer (some ⟨B,0,none⟩)])) :
  Calls Tryz.prog 222 #[.slice (some ⟨F,0,none⟩) 4 4] w fun e w'=>e = .returned (.int .i64 (fst k1 (fst k2 (fst k3 k4)))) /\ Bw w.heap.size w w':=by
 have HX:=hid h1
 have HY:=hid h2
 have HZ:=hid h3
 have HP:=hid h4
 clear h1 h2 h3 h4
 by_cases z1 : k1 = 0
 ·subst z1
  by_cases z2 : k2 = 0
  ·subst z2
   by_cases z3 : k3 = 0
   ·subst z3
    by_cases z4 : k4 = 0
    ·subst z4
     go_enter Tryz.func222,Tryz.ntmps222
     go_wp2_with fail
     refine wp_loop_rounds 5 ?_
     rw [rounds_succ]
     go_wp2_with fail
     refine HX.out.mono ?_
     rintro e w' ⟨rfl,rfl⟩
     go_wp2_with fail
     rw [rounds_succ]
     go_wp2_with fail
     refine HY.out.mono ?_
     rintro e w' ⟨rfl,rfl⟩
     go_wp2_with fail
     rw [rounds_succ]
     go_wp2_with fail
     refine HZ.out.mono ?_
     rintro e w' ⟨rfl,rfl⟩
     go_wp2_with fail
     rw [rounds_succ]
     go_wp2_with fail
     refine HP.out.mono ?_
     rintro e w1 ⟨rfl,hb⟩
     have HB:=hid hb
     clear hb
     go_wp2_with fail
     rw [rounds_succ]
     go_wp2_with fail
     go_ret
     exact ⟨rfl,HB.out⟩
    ·have b4 : (k4 == 0) = false:=beq_eq_false_iff_ne.2 z4
     clear z4
     go_enter Tryz.func222,Tryz.ntmps222
     go_wp2_with fail
     refine wp_loop_rounds 4 ?_
     rw [rounds_succ]
     go_wp2_with fail
     refine HX.out.mono ?_
     rintro e w' ⟨rfl,rfl⟩
     go_wp2_with fail
     rw [rounds_succ]
     go_wp2_with fail
     refine HY.out.mono ?_
     rintro e w' ⟨rfl,rfl⟩
     go_wp2_with fail
     rw [rounds_succ]
     go_wp2_with fail
     refine HZ.out.mono ?_
     rintro e w' ⟨rfl,rfl⟩
     go_wp2_with fail
     rw [rounds_succ]
     go_wp2_with fail
     refine HP.out.mono ?_
     rintro e w1 ⟨rfl,hb⟩
     have HB:=hid hb
     clear hb
     go_wp2_with fail
     go_ret
     exact ⟨ret_int rfl,HB.out⟩
   ·have b3 : (k3 == 0) = false:=beq_eq_false_iff_ne.2 z3
    have HF:=hid (show fst 0 (fst 0 (fst k3 k4)) = k3 by rw [fst0,fst0,fst_ne _ z3])
    clear z3
    go_enter Tryz.func222,Tryz.ntmps222
    go_wp2_with fail
    refine wp_loop_rounds 3 ?_
    rw [rounds_succ]
    go_wp2_with fail
    refine HX.out.mono ?_
    rintro e w' ⟨rfl,rfl⟩
    go_wp2_with fail
    rw [rounds_succ]
    go_wp2_with fail
    refine HY.out.mono ?_
    rintro e w' ⟨rfl,rfl⟩
    go_wp2_with fail
    rw [rounds_succ]
    go_wp2_with fail
    refine HZ.out.mono ?_
    rintro e w' ⟨rfl,rfl⟩
    go_wp2_with fail
    go_ret
    exact ⟨ret_int HF.out.symm,Bw.refl _ _⟩
  ·have b2 : (k2 == 0) = false:=beq_eq_false_iff_ne.2 z2
   have HF:=hid (show fst 0 (fst k2 (fst k3 k4)) = k2 by rw [fst0,fst_ne _ z2])
   clear z2
   go_enter Tryz.func222,Tryz.ntmps222
   go_wp2_with fail
   refine wp_loop_rounds 2 ?_
   rw [rounds_succ]
   go_wp2_with fail
   refine HX.out.mono ?_
   rintro e w' ⟨rfl,rfl⟩
   go_wp2_with fail
   rw [rounds_succ]
   go_wp2_with fail
   refine HY.out.mono ?_
   rintro e w' ⟨rfl,rfl⟩
   go_wp2_with fail
   go_ret
   exact ⟨ret_int HF.out.symm,Bw.refl _ _⟩
 ·have b1 : (k1 == 0) = false:=beq_eq_false_iff_ne.2 z1
  have HF:=hid (fst_ne (fst k2 (fst k3 k4)) z1)
  clear z1
  go_enter Tryz.func222,Tryz.ntmps222
  go_wp2_with fail
  refine wp_loop_rounds 1 ?_
  rw [rounds_succ]
  go_wp2_with fail
  refine HX.out.mono ?_
  rintro e w' ⟨rfl,rfl⟩
  go_wp2_with fail
  go_ret
  exact ⟨ret_int HF.out.symm,Bw.refl _ _⟩
theorem compare_bw (x y z x' y' z' : Int) (va vb : Value) (X Y : List ByteArray) (w : World) (hX : X.length <= 1000000) (hY : Y.length <= 1000000) (hXs : ∀ x,x ∈ X -> x.size <= maxLen) (hYs : ∀ x,x ∈ Y -> x.size <= maxLen) (ha : StrsAt w va X) (hb : StrsAt w vb Y) :
  Calls Tryz.prog 171 #[.agg #[.int .i64 x,.int .i64 y,.int .i64 z,va],.agg #[.int .i64 x',.int .i64 y',.int .i64 z',vb]] w fun e w'=>e = .returned (.int .i64 (ordN x y z (bl X) x' y' z' (bl Y))) /\ Bw w.heap.size w w':=by
 have hmf : ∀ (fn : Fn) (first cap : Array Value) (w : World),(Instr.makeFunc fn first cap).run Tryz.prog w = .ok (.func fn first cap) w:=fun _ _ _ _=>rfl
 have HXS:=hid hXs
 have HYS:=hid hYs
 have HA:=hid ha
 have HB:=hid hb
 obtain ⟨pa,na,ca,rfl⟩ : ∃ p n c,va = .slice p n c:=by
  rcases ha with ⟨_,rfl⟩ | ⟨_,b,rfl,_⟩ <;> exact ⟨_,_,_,rfl⟩
 obtain ⟨pb,nb,cb,rfl⟩ : ∃ p n c,vb = .slice p n c:=by
  rcases hb with ⟨_,rfl⟩ | ⟨_,b,rfl,_⟩ <;> exact ⟨_,_,_,rfl⟩
 clear hXs hYs ha hb
 go_enter Tryz.func171,Tryz.ntmps171
 go_wp2_with fail
 refine (first_four (Lib.compareInt x x') (Lib.compareInt y y') (Lib.compareInt z z') (ordPre (bl X) (bl Y)) w.heap.size (w.heap.size + 1) (w.heap.size + 1 + 1) _ (d1_any x x' _ _ _ ?_ ?_) (d2_any y y' _ _ _ ?_ ?_) (d3_any z z' _ _ _ ?_ ?_) (d4_any _ _ _ _ _ _ ?_ ?_ (cpre_any _ _ X Y _ hX hY HXS.out HYS.out (HA.out.below ?_) (HB.out.below ?_))) ?_ ?_ ?_ ?_).mono ?_
 ·exact (three w _ _ _ _ _ 0).1.trans rfl
 ·exact (three w _ _ _ _ _ 0).2.1.trans rfl
 ·exact (three w _ _ _ _ _ 1).1.trans rfl
 ·exact (three w _ _ _ _ _ 1).2.1.trans rfl
 ·exact (three w _ _ _ _ _ 2).1.trans rfl
 ·exact (three w _ _ _ _ _ 2).2.1.trans rfl
 ·exact (three w _ _ _ _ _ 3).1.trans rfl
 ·exact (three w _ _ _ _ _ 3).2.1.trans rfl
 ·exact (((Below.refl _ _).alloc (Nat.le_refl _) _).alloc (by simp) _).alloc (by simp; omega) _
 ·exact (((Below.refl _ _).alloc (Nat.le_refl _) _).alloc (by simp) _).alloc (by simp; omega) _
 ·exact (three w _ _ _ _ _ 0).2.2.trans rfl
 ·exact (three w _ _ _ _ _ 1).2.2.trans rfl
 ·exact (three w _ _ _ _ _ 2).2.2.trans rfl
 ·exact (three w _ _ _ _ _ 3).2.2.trans rfl
 rintro e w1 ⟨rfl,hb⟩
 have HBF:=hid ((((((Bw.refl w.heap.size w).alloc (Nat.le_refl _) _).alloc (by simp) _).alloc (by simp; omega) _).trans (hb.mono (by simp; omega))))
 clear hb
 go_wp2_with fail
 go_ret
 exact ⟨rfl,HBF.out⟩
theorem compare_any (x y z x' y' z' : Int) (va vb : Value) (X Y : List ByteArray) (w : World) (hX : X.length <= 1000000) (hY : Y.length <= 1000000) (hXs : ∀ x,x ∈ X -> x.size <= maxLen) (hYs : ∀ x,x ∈ Y -> x.size <= maxLen) (ha : StrsAt w va X) (hb : StrsAt w vb Y) :
  Calls Tryz.prog 171 #[.agg #[.int .i64 x,.int .i64 y,.int .i64 z,va],.agg #[.int .i64 x',.int .i64 y',.int .i64 z',vb]] w fun e w'=>e = .returned (.int .i64 (ordN x y z (bl X) x' y' z' (bl Y))) /\ Below w.heap.size w w':=
 (compare_bw x y z x' y' z' va vb X Y w hX hY hXs hYs ha hb).mono fun _ _ h=>⟨h.1,h.2.be⟩
end Ve
end Go.Proofs.YtjbmjnbkibmkpaaGreatDoor


namespace Go.Proofs.YtjbmjnbkibmkpaaGreatDoor
open Go.RowKit
namespace Ve
def lessB (s t : List UInt8) : Bool:=decide (verErr s = 0) && (decide (verErr t = 0) && decide (ordV s t < 0))
theorem less_11 (k : Int) (x y z x' y' z' : Int) (X Y : List ByteArray) (s t : ByteArray) (aT aB : Addr) (m : Int) (w : World) (S : Vs w aT aB m)
  (hA : Calls Tryz.prog 35 #[.string s] w fun e w'=>GoodP w w' e x y z X) (hT : ∀ W,Vs W aT aB m -> Calls Tryz.prog 35 #[.string t] W fun e w'=>GoodP W w' e x' y' z' Y)
  (hC : ∀ W va vb,StrsAt W va X -> StrsAt W vb Y -> Calls Tryz.prog 171 #[.agg #[.int .i64 x,.int .i64 y,.int .i64 z,va],.agg #[.int .i64 x',.int .i64 y',.int .i64 z',vb]] W fun e w'=>e = .returned (.int .i64 k) /\ Below W.heap.size W w') :
  Calls Tryz.prog 125 #[.string s,.string t] w fun e w'=>e = .returned (.bool (decide (k < 0))) /\ Below w.heap.size w w':=by
 have HC:=hid hC
 clear hC
 have HA:=hid hA
 have HT:=hid hT
 have HS:=hid S
 clear hA hT S
 go_enter Tryz.func125,Tryz.ntmps125
 go_wp2_with fail
 refine HA.out.mono ?_
 rintro e w1 ⟨v,rfl,hst,hb1⟩
 obtain ⟨pa,na,ca,rfl⟩:=hst.slice
 have HST:=hid hst
 clear hst
 have HB1:=hid hb1
 have HB2:=hid ((Below.refl w1.heap.size w1).alloc (Nat.le_refl _) (.cells #[.int .i64 x,.int .i64 y,.int .i64 z,.slice pa na ca] 66))
 have HS1:=hid ((HS.out.below hb1).below HB2.out)
 clear hb1
 go_wp2_with fail
 refine (HT.out _ HS1.out).mono ?_
 rintro e w2 ⟨v,rfl,hst,hb2⟩
 obtain ⟨pb,nb,cb,rfl⟩:=hst.slice
 have HTT:=hid hst
 clear hst
 obtain ⟨⟨r0,r1,r2,r3⟩,rf,rz⟩:=res4 (hb2.mono (by simp))
 have HB12:=hid (HB2.out.trans (hb2.mono (by simp)))
 have HB3:=hid (HB1.out.trans (HB12.out.mono HB1.out.size))
 have HBA:=hid ((Below.refl w2.heap.size w2).alloc (Nat.le_refl _) (.cells #[.int .i64 x',.int .i64 y',.int .i64 z',.slice pb nb cb] 66))
 have HB4:=hid (HB3.out.trans (HBA.out.mono HB3.out.size))
 clear hb2
 have HSA:=hid ((HST.out.below HB12.out).below HBA.out)
 have HSB:=hid (HTT.out.below HBA.out)
 go_wp2_with fail
 refine (HC.out _ _ _ HSA.out HSB.out).mono ?_
 rintro e w3 ⟨rfl,hb3⟩
 have HB5:=hid (HB4.out.trans (hb3.mono HB4.out.size))
 clear hb3
 go_wp2_with fail
 go_ret
 exact ⟨rfl,HB5.out⟩
theorem less_10 (x y z : Int) (X : List ByteArray) (s t : ByteArray) (aT aB : Addr) (m : Int) (w : World) (S : Vs w aT aB m)
  (hA : Calls Tryz.prog 35 #[.string s] w fun e w'=>GoodP w w' e x y z X) (hT : ∀ W,Vs W aT aB m -> Calls Tryz.prog 35 #[.string t] W fun e w'=>BadP W w' e) :
  Calls Tryz.prog 125 #[.string s,.string t] w fun e w'=>e = .returned (.bool false) /\ Below w.heap.size w w':=by
 have HA:=hid hA
 have HT:=hid hT
 have HS:=hid S
 clear hA hT S
 go_enter Tryz.func125,Tryz.ntmps125
 go_wp2_with fail
 refine HA.out.mono ?_
 rintro e w1 ⟨v,rfl,hst,hb1⟩
 obtain ⟨pa,na,ca,rfl⟩:=hst.slice
 have HST:=hid hst
 clear hst
 have HB1:=hid hb1
 have HB2:=hid ((Below.refl w1.heap.size w1).alloc (Nat.le_refl _) (.cells #[.int .i64 x,.int .i64 y,.int .i64 z,.slice pa na ca] 66))
 have HS1:=hid ((HS.out.below hb1).below HB2.out)
 clear hb1
 go_wp2_with fail
 refine (HT.out _ HS1.out).mono ?_
 rintro e w2 ⟨a2,rfl,hb2⟩
 obtain ⟨⟨r0,r1,r2,r3⟩,rf,rz⟩:=res4 (hb2.mono (by simp))
 have HB12:=hid (HB2.out.trans (hb2.mono (by simp)))
 have HB3:=hid (HB1.out.trans (HB12.out.mono HB1.out.size))
 have HBA:=hid ((Below.refl w2.heap.size w2).alloc (Nat.le_refl _) (.cells #[.int .i64 0,.int .i64 0,.int .i64 0,.slice none 0 0] 66))
 have HB4:=hid (HB3.out.trans (HBA.out.mono HB3.out.size))
 clear hb2
 go_wp2_with fail
 go_ret
 exact ⟨rfl,HB4.out⟩
theorem less_01 (x' y' z' : Int) (Y : List ByteArray) (s t : ByteArray) (aT aB : Addr) (m : Int) (w : World) (S : Vs w aT aB m)
  (hA : Calls Tryz.prog 35 #[.string s] w fun e w'=>BadP w w' e) (hT : ∀ W,Vs W aT aB m -> Calls Tryz.prog 35 #[.string t] W fun e w'=>GoodP W w' e x' y' z' Y) :
  Calls Tryz.prog 125 #[.string s,.string t] w fun e w'=>e = .returned (.bool false) /\ Below w.heap.size w w':=by
 have HA:=hid hA
 have HT:=hid hT
 have HS:=hid S
 clear hA hT S
 go_enter Tryz.func125,Tryz.ntmps125
 go_wp2_with fail
 refine HA.out.mono ?_
 rintro e w1 ⟨a1,rfl,hb1⟩
 have HB1:=hid hb1
 have HB2:=hid ((Below.refl w1.heap.size w1).alloc (Nat.le_refl _) (.cells #[.int .i64 0,.int .i64 0,.int .i64 0,.slice none 0 0] 66))
 have HS1:=hid ((HS.out.below hb1).below HB2.out)
 clear hb1
 go_wp2_with fail
 refine (HT.out _ HS1.out).mono ?_
 rintro e w2 ⟨v,rfl,hst,hb2⟩
 obtain ⟨pb,nb,cb,rfl⟩:=hst.slice
 have HTT:=hid hst
 clear hst
 obtain ⟨⟨r0,r1,r2,r3⟩,rf,rz⟩:=res4 (hb2.mono (by simp))
 have HB12:=hid (HB2.out.trans (hb2.mono (by simp)))
 have HB3:=hid (HB1.out.trans (HB12.out.mono HB1.out.size))
 have HBA:=hid ((Below.refl w2.heap.size w2).alloc (Nat.le_refl _) (.cells #[.int .i64 x',.int .i64 y',.int .i64 z',.slice pb nb cb] 66))
 have HB4:=hid (HB3.out.trans (HBA.out.mono HB3.out.size))
 clear hb2
 go_wp2_with fail
 go_ret
 exact ⟨rfl,HB4.out⟩
theorem less_00 (s t : ByteArray) (aT aB : Addr) (m : Int) (w : World) (S : Vs w aT aB m)
  (hA : Calls Tryz.prog 35 #[.string s] w fun e w'=>BadP w w' e) (hT : ∀ W,Vs W aT aB m -> Calls Tryz.prog 35 #[.string t] W fun e w'=>BadP W w' e) :
  Calls Tryz.prog 125 #[.string s,.string t] w fun e w'=>e = .returned (.bool false) /\ Below w.heap.size w w':=by
 have HA:=hid hA
 have HT:=hid hT
 have HS:=hid S
 clear hA hT S
 go_enter Tryz.func125,Tryz.ntmps125
 go_wp2_with fail
 refine HA.out.mono ?_
 rintro e w1 ⟨a1,rfl,hb1⟩
 have HB1:=hid hb1
 have HB2:=hid ((Below.refl w1.heap.size w1).alloc (Nat.le_refl _) (.cells #[.int .i64 0,.int .i64 0,.int .i64 0,.slice none 0 0] 66))
 have HS1:=hid ((HS.out.below hb1).below HB2.out)
 clear hb1
 go_wp2_with fail
 refine (HT.out _ HS1.out).mono ?_
 rintro e w2 ⟨a2,rfl,hb2⟩
 obtain ⟨⟨r0,r1,r2,r3⟩,rf,rz⟩:=res4 (hb2.mono (by simp))
 have HB12:=hid (HB2.out.trans (hb2.mono (by simp)))
 have HB3:=hid (HB1.out.trans (HB12.out.mono HB1.out.size))
 have HBA:=hid ((Below.refl w2.heap.size w2).alloc (Nat.le_refl _) (.cells #[.int .i64 0,.int .i64 0,.int .i64 0,.slice none 0 0] 66))
 have HB4:=hid (HB3.out.trans (HBA.out.mono HB3.out.size))
 clear hb2
 go_wp2_with fail
 go_ret
 exact ⟨rfl,HB4.out⟩
theorem pre_bounds {s : ByteArray} {X : List ByteArray} (hs : s.size < 999999) (hX : bl X = preOf s.data.toList) : X.length <= 1000000 /\ ∀ x,x ∈ X -> x.size <= maxLen:=by
 constructor
 ·have:=pre_len (l:=s.data.toList); rw [<- hX,bl_len,len_eq] at this; omega
 ·intro x hx
  have hm : x.data.toList ∈ preOf s.data.toList:=hX ▸ bl_mem hx
  have:=pre_size hm
  rw [len_eq,len_eq] at this
  unfold maxLen; omega
theorem less_any (s t : ByteArray) (aT aB : Addr) (m : Int) (w : World) (hs : s.size < 999999) (ht : t.size < 999999) (S : Vs w aT aB m) :
  Calls Tryz.prog 125 #[.string s,.string t] w fun e w'=>e = .returned (.bool (lessB s.data.toList t.data.toList)) /\ Below w.heap.size w w':=by
 obtain ⟨X,hX⟩ : ∃ X,bl X = preOf s.data.toList:=⟨_,bl_strs _⟩
 obtain ⟨Y,hY⟩ : ∃ X,bl X = preOf t.data.toList:=⟨_,bl_strs _⟩
 obtain ⟨lX,pX⟩:=pre_bounds hs hX
 obtain ⟨lY,pY⟩:=pre_bounds ht hY
 unfold lessB
 by_cases h1 : verErr s.data.toList = 0
 all_goals by_cases h2 : verErr t.data.toList = 0
 ·rw [decide_eq_true h1,decide_eq_true h2]
  refine (less_11 (ordV s.data.toList t.data.toList) _ _ _ _ _ _ X Y s t aT aB m w S (vsplit_is s aT aB m w (by omega) S h1 X hX) (fun W SW=>vsplit_is t aT aB m W (by omega) SW h2 Y hY) ?_).mono fun e w' h=>h
  intro W va vb ha hb
  unfold ordV
  rw [<- hX,<- hY]
  exact compare_any _ _ _ _ _ _ va vb X Y W lX lY pX pY ha hb
 ·rw [decide_eq_true h1,decide_eq_false h2]
  exact less_10 _ _ _ X s t aT aB m w S (vsplit_is s aT aB m w (by omega) S h1 X hX) (fun W SW=>vsplit_not t aT aB m W (by omega) SW h2)
 ·rw [decide_eq_false h1]
  exact less_01 _ _ _ Y s t aT aB m w S (vsplit_not s aT aB m w (by omega) S h1) (fun W SW=>vsplit_is t aT aB m W (by omega) SW h2 Y hY)
 ·rw [decide_eq_false h1]
  exact less_00 s t aT aB m w S (vsplit_not s aT aB m w (by omega) S h1) (fun W SW=>vsplit_not t aT aB m W (by omega) SW h2)
end Ve
end Go.Proofs.YtjbmjnbkibmkpaaGreatDoor


namespace Go.Proofs.YtjbmjnbkibmkpaaGreatDoor
open Go.RowKit
namespace Ve
theorem str_refl (a : ByteArray) : (a.toList == a.toList) = true:=by simp
def aheadB (p v q u : List UInt8) : Bool:=if p = q then lessB v u else decide (Lib.compareBytes p q < 0)
theorem ahead_any (p v q u : ByteArray) (A : Nat -> Addr) (m : Int) (w : World) (hv : v.size < 999999) (hu : u.size < 999999) (S : Te w A m) :
  Calls Tryz.prog 76 #[.agg #[.string p,.string v],.agg #[.string q,.string u]] w fun e w'=>e = .returned (.bool (aheadB p.data.toList v.data.toList q.data.toList u.data.toList)) /\ Below w.heap.size w w':=by
 have HO:=hid (show aheadB p.data.toList v.data.toList q.data.toList u.data.toList = if p.data.toList = q.data.toList then lessB v.data.toList u.data.toList else decide (Lib.compareBytes p.data.toList q.data.toList < 0) from rfl)
 have HB0:=hid (((Below.refl w.heap.size w).alloc (Nat.le_refl _) (.cells #[.string p,.string v] 47)).alloc (by simp) (.cells #[.string q,.string u] 47))
 by_cases h : p = q
 ·subst h
  rw [if_pos rfl] at HO
  have he:=str_refl p
  have HL:=hid (fun W (SW : Te W A m)=>less_any v u (A 0) (A 1) m W hv hu SW.vs)
  have HS:=hid S
  clear S
  go_enter Tryz.func76,Tryz.ntmps76
  go_wp2_with fail
  refine (HL.out _ (HS.out.below HB0.out)).mono ?_
  rintro e w1 ⟨rfl,hb⟩
  have HB:=hid (HB0.out.trans (hb.mono HB0.out.size))
  clear hb
  go_wp2_with fail
  go_ret
  exact ⟨ret_bool HO.out.symm,HB.out⟩
 ·rw [if_neg (fun e=>h (str_ext e))] at HO
  have he:=str_ne h
  have HC:=hid (show Op.bytesLess p.toList q.toList = decide (Lib.compareBytes p.data.toList q.data.toList < 0) by rw [cb_less,ByteArray.toList_eq,ByteArray.toList_eq])
  clear S h
  go_enter Tryz.func76,Tryz.ntmps76
  go_wp2_with fail
  go_ret
  exact ⟨ret_bool (by rw [HO.out,<- HC.out]),HB0.out⟩
end Ve
end Go.Proofs.YtjbmjnbkibmkpaaGreatDoor


namespace Go.Proofs.YtjbmjnbkibmkpaaGreatDoor
namespace Ve
abbrev Bm:=ByteArray × ByteArray
def bt (l : List UInt8) : ByteArray:=⟨l.toArray⟩
theorem bt_list (l : List UInt8) : (bt l).data.toList = l:=by simp [bt]
end Ve
end Go.Proofs.YtjbmjnbkibmkpaaGreatDoor


namespace Go.Proofs.YtjbmjnbkibmkpaaGreatDoor
open Go.RowKit
namespace Ve
def mErr (m : Bm) : Nat:=modErr m.1.data.toList m.2.data.toList
def mAhead (a b : Bm) : Bool:=aheadB a.1.data.toList a.2.data.toList b.1.data.toList b.2.data.toList
def noLess (a b : ByteArray) : Bool:=!decide (Lib.compareBytes a.data.toList b.data.toList < 0)
def reqW (own : ByteArray) (prev : Option Bm) (m : Bm) : Nat:=
 if mErr m = 0 then (if m.1 = own then 3 else match prev with
  | none=>0
  | some p=>if noLess p.1 m.1 then 8 else 0) else mErr m
def exW (prev : Option Bm) (m : Bm) : Nat:=
 if mErr m = 0 then (match prev with
  | none=>0
  | some p=>if mAhead p m then 0 else 8) else mErr m
def prevOf (l : List Bm) (i : Nat) : Option Bm:=if i = 0 then none else l[i - 1]?
def reqE (own : ByteArray) (l : List Bm) (i : Nat) : Nat:=match l[i]? with
 | none=>0
 | some m=>reqW own (prevOf l i) m
def exE (l : List Bm) (i : Nat) : Nat:=match l[i]? with
 | none=>0
 | some m=>exW (prevOf l i) m
def hasB (x : List Bm) (m : Bm) : Bool:=x.any fun y=>decide (m.1 = y.1 /\ m.2 = y.2)
theorem hasB_iff {x : List Bm} {m : Bm} : hasB x m = true ↔ m ∈ x:=by
 unfold hasB
 rw [List.any_eq_true]
 constructor
 ·rintro ⟨y,hy,h⟩
  have h:=of_decide_eq_true h
  have : m = y:=by cases m; cases y; simp only at h; rw [h.1,h.2]
  rw [this]; exact hy
 ·intro h
  exact ⟨m,h,decide_eq_true ⟨rfl,rfl⟩⟩
theorem hasB_not {x : List Bm} {m : Bm} (h : m ∉ x) : hasB x m = false:=by
 cases e : hasB x m
 ·rfl
 ·exact absurd (hasB_iff.1 e) h
def clE (x l : List Bm) (i : Nat) : Nat:=match l[i]? with
 | none=>0
 | some m=>if hasB x m then 9 else 0
def fstE (E : Nat -> Nat) : Nat -> Option Nat
 | 0=>none
 | n + 1=>match fstE E n with
  | some i=>some i
  | none=>if E n = 0 then none else some n
theorem fstE_none {E : Nat -> Nat} : ∀ {n : Nat},(∀ j,j < n -> E j = 0) -> fstE E n = none
 | 0,_=>rfl
 | n + 1,h=>by
  unfold fstE
  rw [fstE_none (n:=n) (fun j hj=>h j (by omega)),if_pos (h n (by omega))]
theorem fstE_some {E : Nat -> Nat} {i : Nat} (h0 : ∀ j,j < i -> E j = 0) (hi : E i ≠ 0) : ∀ {n : Nat},i < n -> fstE E n = some i
 | 0,h=>by omega
 | n + 1,h=>by
  unfold fstE
  rcases Nat.lt_or_ge i n with hh | hh
  ·rw [fstE_some h0 hi hh]
  ·have : i = n:=by omega
   subst this
   rw [fstE_none h0]
   simp only
   rw [if_neg hi]
theorem fstE_of_none {E : Nat -> Nat} : ∀ {n : Nat},fstE E n = none -> ∀ j,j < n -> E j = 0
 | 0,_,j,hj=>by omega
 | n + 1,h,j,hj=>by
  unfold fstE at h
  cases h1 : fstE E n with
  | some i=>rw [h1] at h; cases h
  | none=>
   rw [h1] at h
   simp only at h
   by_cases h2 : E n = 0
   ·rcases Nat.lt_or_ge j n with hh | hh
    ·exact fstE_of_none h1 j hh
    ·have : j = n:=by omega
     rw [this]; exact h2
   ·rw [if_neg h2] at h; cases h
theorem fstE_of_some {E : Nat -> Nat} {i : Nat} : ∀ {n : Nat},fstE E n = some i -> i < n /\ E i ≠ 0 /\ ∀ j,j < i -> E j = 0
 | 0,h=>by cases h
 | n + 1,h=>by
  unfold fstE at h
  cases h1 : fstE E n with
  | some k=>
   rw [h1] at h
   obtain ⟨a,b,c⟩:=fstE_of_some h1
   simp only [Option.some.injEq] at h
   subst h
   exact ⟨by omega,b,c⟩
  | none=>
   rw [h1] at h
   simp only at h
   by_cases h2 : E n = 0
   ·rw [if_pos h2] at h; cases h
   ·rw [if_neg h2] at h
    simp only [Option.some.injEq] at h
    subst h
    exact ⟨by omega,h2,fstE_of_none h1⟩
def fileF (p : ByteArray) (R X : List Bm) : Nat × Option Nat:=
 if pathErr p.data.toList = 0 then
  (if 20 < R.length \/ 20 < X.length then (7,none)
   else match fstE (reqE p R) R.length with
   | some i=>(reqE p R i,some i)
   | none=>match fstE (exE X) X.length with
    | some i=>(exE X i,some i)
    | none=>match fstE (clE X R) R.length with
     | some i=>(9,some i)
     | none=>(0,none))
 else (pathErr p.data.toList,none)
def MsAt (w : World) (v : Value) (L : List Bm) : Prop:=
 ∃ (a : Option Addr) (c : Nat),v = .slice a L.length c /\ L.length <= c /\ (L ≠ [] -> ∃ b o,a = some ⟨b,o,none⟩ /\ ∀ j (h : j < L.length),w.cell? ⟨b,o + j * 2,none⟩ = some (.string L[j].1) /\ w.cell? ⟨b,o + j * 2 + 1,none⟩ = some (.string L[j].2))
theorem MsAt.below {w w' : World} {v : Value} {L : List Bm} (h : MsAt w v L) (hb : Below w.heap.size w w') : MsAt w' v L:=by
 obtain ⟨a,c,e,hc,h⟩:=h
 refine ⟨a,c,e,hc,fun hL=>?_⟩
 obtain ⟨b,o,e2,h2⟩:=h hL
 exact ⟨b,o,e2,fun j hj=>⟨cell_below hb (h2 j hj).1,cell_below hb (h2 j hj).2⟩⟩
end Ve
end Go.Proofs.YtjbmjnbkibmkpaaGreatDoor


namespace Go.Proofs.YtjbmjnbkibmkpaaGreatDoor
open Go.RowKit
namespace Ve
theorem below_drawn_of {B : Nat} {a w : World} (h : Below B a w) (q : Nat) : Below B a (w.drewN q):=⟨h.os,h.tape,h.output,h.size,h.block⟩
def ErrAt (W : World) (A : Nat -> Addr) (v : Value) (c : Nat) (o : Option Nat) : Prop:=match o with
 | none=>v = errA A c
 | some i=>c ≠ 0 /\ ∃ b,v = .iface 80 (.pointer (some ⟨b,0,none⟩)) /\ W.cell? ⟨b,0,none⟩ = some (.int .i64 i) /\ W.cell? ⟨b,1,none⟩ = some (errA A c)
theorem ErrAt.below {W W' : World} {A : Nat -> Addr} {v : Value} {c : Nat} {o : Option Nat} (h : ErrAt W A v c o) (hb : Below W.heap.size W W') : ErrAt W' A v c o:=by
 cases o with
 | none=>exact h
 | some i=>
  obtain ⟨h0,b,h1,h2,h3⟩:=h
  exact ⟨h0,b,h1,cell_below hb h2,cell_below hb h3⟩
def codeE (E : Nat -> Nat) (n : Nat) : Nat:=match fstE E n with
 | none=>0
 | some i=>E i
theorem codeE_none {E : Nat -> Nat} {n : Nat} (h : fstE E n = none) : codeE E n = 0:=by unfold codeE; rw [h]
theorem codeE_some {E : Nat -> Nat} {n i : Nat} (h : fstE E n = some i) : codeE E n = E i:=by unfold codeE; rw [h]
theorem errA_if (A : Nat -> Addr) {c : Nat} (h : c ≠ 0) : errA A c = .iface 311 (.pointer (some (A (c - 1)))):=by unfold errA; rw [if_neg h]
theorem fault_at {w1 : World} {A : Nat -> Addr} {i c : Nat} (hc : c ≠ 0) (T : TypeId) : ErrAt (w1.alloc (.cells #[.int .i64 i,.iface 311 (.pointer (some (A (c - 1))))] T)) A (.iface 80 (.pointer (some ⟨w1.heap.size,0,none⟩))) c (some i):=
 ⟨hc,w1.heap.size,rfl,by simp,by rw [errA_if A hc]; simp⟩
theorem first_mods (K : Nat) (cb : Array Value) (E : Nat -> Nat) (L : List Bm) (b o c : Nat) (A : Nat -> Addr) (w : World) (eg : ∀ args w,(callFunc K args).run Tryz.prog w = .ok (.enter K args) w) (hL : L.length <= 1000000)
  (hc : ∀ j (h : j < L.length),w.cell? ⟨b,o + j * 2,none⟩ = some (.string L[j].1) /\ w.cell? ⟨b,o + j * 2 + 1,none⟩ = some (.string L[j].2))
  (hK : ∀ i (h : i < L.length) W,Below w.heap.size w W -> Calls Tryz.prog K (#[.int .i64 (i : Int),.agg #[.string L[i].1,.string L[i].2]] ++ cb) W fun e w'=>e = .returned (errA A (E i)) /\ Below W.heap.size W w') :
  Calls Tryz.prog 73 #[.slice (some ⟨b,o,none⟩) L.length c,.func (.func K) #[] cb] w fun e w'=>∃ v,e = .returned v /\ ErrAt w' A v (codeE E L.length) (fstE E L.length) /\ Below w.heap.size w w':=by
 have HK:=hid hK
 have HC:=hid hc
 clear hK hc
 go_enter Tryz.func73,Tryz.ntmps73
 go_wp2_with fail
 go_loopw [10] (fun i wr=>∃ k : Nat,k <= L.length /\ i = .int .i64 k /\ Hid (∀ j,j < k -> E j = 0) /\ Hid (Below w.heap.size w wr)) (fun i _=>L.length - (intOf i).toNat)
 case atStart=>exact ⟨0,Nat.zero_le _,rfl,hid (fun j hj=>absurd hj (by omega)),hid (Below.refl _ _)⟩
 case round=>
  obtain ⟨k,hk,rfl,HE,HB⟩:=hrel
  by_cases hlt : k < L.length
  ·have hx:=cell_below HB.out (HC.out k hlt).1
   have hy:=cell_below HB.out (HC.out k hlt).2
   have HBa:=hid (HB.out.alloc HB.out.size (.cells #[.string L[k].1,.string L[k].2] 47))
   have HP:=hid (HK.out k hlt _ HBa.out)
   by_cases h0 : E k = 0
   ·rw [h0,errA0] at HP
    go_wp2_with fail
    refine HP.out.mono ?_
    rintro e w1 ⟨rfl,hb1⟩
    have HB1:=hid (HBa.out.trans (hb1.mono HBa.out.size))
    clear hb1
    go_wp2_with fail
    go_roundw
    case rel=>exact ⟨k + 1,by omega,by go_num,hid (fun j hj=>by
     rcases Nat.lt_or_ge j k with h | h
     ·exact HE.out j h
     ·have : j = k:=by omega
      rw [this]; exact h0),HB1⟩
    case measure=>simp [intOf]; omega
   ·rw [errA_if A h0] at HP
    have HF:=hid (fstE_some HE.out h0 hlt)
    have H0:=hid h0
    clear h0
    go_wp2_with fail
    refine HP.out.mono ?_
    rintro e w1 ⟨rfl,hb1⟩
    have HB1:=hid (HBa.out.trans (hb1.mono HBa.out.size))
    clear hb1
    go_wp2_with fail
    go_ret
    refine ⟨_,rfl,?_,HB1.out.alloc HB1.out.size _⟩
    rw [codeE_some HF.out,HF.out]
    exact fault_at H0.out _
  ·have HF:=hid (fstE_none (E:=E) (n:=L.length) (fun j hj=>HE.out j (by omega)))
   go_wp2_with fail
   go_ret
   refine ⟨_,rfl,?_,HB.out⟩
   rw [codeE_none HF.out,HF.out]
   rfl
theorem first_none (K : Nat) (cb : Array Value) (E : Nat -> Nat) (a : Option Addr) (c : Nat) (A : Nat -> Addr) (w : World) :
  Calls Tryz.prog 73 #[.slice a 0 c,.func (.func K) #[] cb] w fun e w'=>∃ v,e = .returned v /\ ErrAt w' A v (codeE E 0) (fstE E 0) /\ Below w.heap.size w w':=by
 go_enter Tryz.func73,Tryz.ntmps73
 go_wp2_with fail
 go_loopw [10] (fun i wr=>i = .int .i64 0 /\ wr = w) (fun i _=>0)
 case atStart=>exact ⟨rfl,rfl⟩
 case round=>
  obtain ⟨rfl,rfl⟩:=hrel
  go_wp2_with fail
  go_ret
  exact ⟨_,rfl,rfl,Below.refl _ _⟩
theorem first_any (K : Nat) (cb : Array Value) (E : Nat -> Nat) (L : List Bm) (v : Value) (A : Nat -> Addr) (w : World) (eg : ∀ args w,(callFunc K args).run Tryz.prog w = .ok (.enter K args) w) (hL : L.length <= 1000000) (hv : MsAt w v L)
  (hK : ∀ i (h : i < L.length) W,Below w.heap.size w W -> Calls Tryz.prog K (#[.int .i64 (i : Int),.agg #[.string L[i].1,.string L[i].2]] ++ cb) W fun e w'=>e = .returned (errA A (E i)) /\ Below W.heap.size W w') :
  Calls Tryz.prog 73 #[v,.func (.func K) #[] cb] w fun e w'=>∃ u,e = .returned u /\ ErrAt w' A u (codeE E L.length) (fstE E L.length) /\ Below w.heap.size w w':=by
 obtain ⟨a,c,rfl,_,h⟩:=hv
 cases L with
 | nil=>exact first_none K cb E a c A w
 | cons x r=>
  obtain ⟨b,o,rfl,h2⟩:=h (by simp)
  exact first_mods K cb E (x :: r) b o c A w eg hL h2 hK
end Ve
end Go.Proofs.YtjbmjnbkibmkpaaGreatDoor


namespace Go.Proofs.YtjbmjnbkibmkpaaGreatDoor
open Go.RowKit
namespace Ve
theorem reqW_bad {own : ByteArray} {o : Option Bm} {m : Bm} (h : mErr m ≠ 0) : reqW own o m = mErr m:=by unfold reqW; rw [if_neg h]
theorem reqW_own {own : ByteArray} {o : Option Bm} {m : Bm} (h : mErr m = 0) (h2 : m.1 = own) : reqW own o m = 3:=by unfold reqW; rw [if_pos h,if_pos h2]
theorem reqW_none {own : ByteArray} {m : Bm} (h : mErr m = 0) (h2 : ¬ m.1 = own) : reqW own none m = 0:=by unfold reqW; rw [if_pos h,if_neg h2]
theorem reqW_some {own : ByteArray} {p m : Bm} (h : mErr m = 0) (h2 : ¬ m.1 = own) : reqW own (some p) m = if noLess p.1 m.1 then 8 else 0:=by unfold reqW; rw [if_pos h,if_neg h2]
theorem noLess_is (a b : ByteArray) : (!Op.bytesLess a.toList b.toList) = noLess a b:=by unfold noLess; rw [cb_less,ByteArray.toList_eq,ByteArray.toList_eq]
theorem reqK_bad (i : Int) (p v own : ByteArray) (b1 : Nat) (x : Value) (pr : Option Bm) (A : Nat -> Addr) (m : Int) (W : World) (hp : p.size < 999999) (hv : v.size < 999999) (S : Te W A m) (h : mErr (p,v) ≠ 0) :
  Calls Tryz.prog 74 #[.int .i64 i,.agg #[.string p,.string v],.pointer (some ⟨b1,0,none⟩),x] W fun e w'=>e = .returned (errA A (reqW own pr (p,v))) /\ Below W.heap.size W w':=by
 rw [reqW_bad h,errA_if A h]
 have HB0:=hid ((Below.refl W.heap.size W).alloc (Nat.le_refl _) (.cells #[.string p,.string v] 47))
 have HC:=hid (mcheck_any p v A m _ (by omega) (by omega) (S.below HB0.out))
 rw [show modErr p.data.toList v.data.toList = mErr (p,v) from rfl,errA_if A h] at HC
 clear S h
 go_enter Tryz.func74,Tryz.ntmps74
 go_wp2_with fail
 refine HC.out.mono ?_
 rintro e w1 ⟨rfl,hb⟩
 have HB:=hid (HB0.out.trans (hb.mono HB0.out.size))
 clear hb
 go_wp2_with fail
 go_ret
 exact ⟨rfl,HB.out⟩
theorem reqK_own (i : Int) (p v own : ByteArray) (b1 : Nat) (x : Value) (pr : Option Bm) (A : Nat -> Addr) (m : Int) (W : World) (hp : p.size < 999999) (hv : v.size < 999999) (S : Te W A m) (h1 : W.cell? ⟨b1,0,none⟩ = some (.string own)) (h : mErr (p,v) = 0) (ho : p = own) :
  Calls Tryz.prog 74 #[.int .i64 i,.agg #[.string p,.string v],.pointer (some ⟨b1,0,none⟩),x] W fun e w'=>e = .returned (errA A (reqW own pr (p,v))) /\ Below W.heap.size W w':=by
 rw [reqW_own h ho,errA_if A (by omega)]
 have HB0:=hid ((Below.refl W.heap.size W).alloc (Nat.le_refl _) (.cells #[.string p,.string v] 47))
 have HS:=hid (S.below HB0.out)
 have HC:=hid (mcheck_any p v A m _ (by omega) (by omega) HS.out)
 rw [show modErr p.data.toList v.data.toList = mErr (p,v) from rfl,h,errA0] at HC
 have H1:=hid h1
 clear S h h1
 subst ho
 have he:=str_refl p
 go_enter Tryz.func74,Tryz.ntmps74
 go_wp2_with fail
 refine HC.out.mono ?_
 rintro e w1 ⟨rfl,hb⟩
 obtain ⟨⟨r0,r1⟩,rz⟩:=res2 (hb.mono (by simp))
 have HB:=hid (HB0.out.trans (hb.mono HB0.out.size))
 have c1:=cell_below HB.out H1.out
 have g:=(HS.out.below hb).sen.g2
 clear hb
 go_wp2_with fail
 go_ret
 exact ⟨rfl,HB.out⟩
theorem reqK_0 (p v own : ByteArray) (b1 : Nat) (x : Value) (A : Nat -> Addr) (m : Int) (W : World) (hp : p.size < 999999) (hv : v.size < 999999) (S : Te W A m) (h1 : W.cell? ⟨b1,0,none⟩ = some (.string own)) (h : mErr (p,v) = 0) (ho : ¬ p = own) :
  Calls Tryz.prog 74 #[.int .i64 0,.agg #[.string p,.string v],.pointer (some ⟨b1,0,none⟩),x] W fun e w'=>e = .returned (errA A (reqW own none (p,v))) /\ Below W.heap.size W w':=by
 rw [reqW_none h ho,errA0]
 have HB0:=hid ((Below.refl W.heap.size W).alloc (Nat.le_refl _) (.cells #[.string p,.string v] 47))
 have HS:=hid (S.below HB0.out)
 have HC:=hid (mcheck_any p v A m _ (by omega) (by omega) HS.out)
 rw [show modErr p.data.toList v.data.toList = mErr (p,v) from rfl,h,errA0] at HC
 have H1:=hid h1
 clear S h h1
 have he:=str_ne ho
 clear ho
 go_enter Tryz.func74,Tryz.ntmps74
 go_wp2_with fail
 refine HC.out.mono ?_
 rintro e w1 ⟨rfl,hb⟩
 obtain ⟨⟨r0,r1⟩,rz⟩:=res2 (hb.mono (by simp))
 have HB:=hid (HB0.out.trans (hb.mono HB0.out.size))
 have c1:=cell_below HB.out H1.out
 clear hb
 go_wp2_with fail
 go_quiet (fail)
 go_wp2_with fail
 go_ret
 exact ⟨rfl,below_drawn_of HB.out _⟩
theorem reqK_1 (k : Nat) (p v q u own : ByteArray) (b1 b2 b o n c : Nat) (A : Nat -> Addr) (m : Int) (W : World) (hp : p.size < 999999) (hv : v.size < 999999) (S : Te W A m) (h1 : W.cell? ⟨b1,0,none⟩ = some (.string own)) (h : mErr (p,v) = 0) (ho : ¬ p = own)
  (h2 : W.cell? ⟨b2,0,none⟩ = some (.slice (some ⟨b,o,none⟩) n c)) (hk : k < n) (hn : n <= 1000000) (h3 : W.cell? ⟨b,o + k * 2,none⟩ = some (.string q)) :
  Calls Tryz.prog 74 #[.int .i64 ((k : Int) + 1),.agg #[.string p,.string v],.pointer (some ⟨b1,0,none⟩),.pointer (some ⟨b2,0,none⟩)] W fun e w'=>e = .returned (errA A (reqW own (some (q,u)) (p,v))) /\ Below W.heap.size W w':=by
 rw [reqW_some h ho]
 have hge : ∀ X : World,(binOp BinOp.geq 9 (.string q) (.string p)).run Tryz.prog X = .ok (.bool (noLess q p)) X:=fun X=>by rw [<- noLess_is]; rfl
 have HB0:=hid ((Below.refl W.heap.size W).alloc (Nat.le_refl _) (.cells #[.string p,.string v] 47))
 have HS:=hid (S.below HB0.out)
 have HC:=hid (mcheck_any p v A m _ (by omega) (by omega) HS.out)
 rw [show modErr p.data.toList v.data.toList = mErr (p,v) from rfl,h,errA0] at HC
 have H1:=hid h1
 have H2:=hid h2
 have H3:=hid h3
 clear S h h1 h2 h3
 have he:=str_ne ho
 clear ho
 have g1 : (0 : Int) <= (k : Int):=by omega
 have g2 : (k : Int) < (n : Int):=by omega
 have g3 : (k : Int) + 1 - 1 = (k : Int):=by omega
 have g4 : (0 : Int) < (k : Int) + 1:=by omega
 have gw : IntKind.i64.wrap (k : Int) = (k : Int):=by rw [IntKind.wrap_i64]; omega
 cases hz : noLess q p
 ·rw [hz] at hge
  rw [if_neg (by simp),errA0]
  go_enter Tryz.func74,Tryz.ntmps74
  go_wp2_with fail
  refine HC.out.mono ?_
  rintro e w1 ⟨rfl,hb⟩
  obtain ⟨⟨r0,r1⟩,rz⟩:=res2 (hb.mono (by simp))
  have HB:=hid (HB0.out.trans (hb.mono HB0.out.size))
  have c1:=cell_below HB.out H1.out
  have c2:=cell_below HB.out H2.out
  have c3:=cell_below HB.out H3.out
  clear hb
  go_wp2_with fail
  go_quiet (fail)
  go_wp2_with fail
  go_ret
  exact ⟨rfl,below_drawn_of HB.out _⟩
 ·rw [hz] at hge
  rw [if_pos rfl,errA_if A (by omega)]
  go_enter Tryz.func74,Tryz.ntmps74
  go_wp2_with fail
  refine HC.out.mono ?_
  rintro e w1 ⟨rfl,hb⟩
  obtain ⟨⟨r0,r1⟩,rz⟩:=res2 (hb.mono (by simp))
  have HB:=hid (HB0.out.trans (hb.mono HB0.out.size))
  have c1:=cell_below HB.out H1.out
  have c2:=cell_below HB.out H2.out
  have c3:=cell_below HB.out H3.out
  have gg:=(HS.out.below hb).sen.g7
  clear hb
  go_wp2_with fail
  go_quiet (fail)
  go_wp2_with fail
  go_ret
  exact ⟨rfl,below_drawn_of HB.out _⟩
end Ve
end Go.Proofs.YtjbmjnbkibmkpaaGreatDoor


namespace Go.Proofs.YtjbmjnbkibmkpaaGreatDoor
open Go.RowKit
namespace Ve
theorem exW_bad {o : Option Bm} {m : Bm} (h : mErr m ≠ 0) : exW o m = mErr m:=by unfold exW; rw [if_neg h]
theorem exW_none {m : Bm} (h : mErr m = 0) : exW none m = 0:=by unfold exW; rw [if_pos h]
theorem exW_some {p m : Bm} (h : mErr m = 0) : exW (some p) m = if mAhead p m then 0 else 8:=by unfold exW; rw [if_pos h]
theorem exK_bad (i : Int) (p v : ByteArray) (x : Value) (pr : Option Bm) (A : Nat -> Addr) (m : Int) (W : World) (hp : p.size < 999999) (hv : v.size < 999999) (S : Te W A m) (h : mErr (p,v) ≠ 0) :
  Calls Tryz.prog 75 #[.int .i64 i,.agg #[.string p,.string v],x] W fun e w'=>e = .returned (errA A (exW pr (p,v))) /\ Below W.heap.size W w':=by
 rw [exW_bad h,errA_if A h]
 have HB0:=hid ((Below.refl W.heap.size W).alloc (Nat.le_refl _) (.cells #[.string p,.string v] 47))
 have HC:=hid (mcheck_any p v A m _ (by omega) (by omega) (S.below HB0.out))
 rw [show modErr p.data.toList v.data.toList = mErr (p,v) from rfl,errA_if A h] at HC
 clear S h
 go_enter Tryz.func75,Tryz.ntmps75
 go_wp2_with fail
 refine HC.out.mono ?_
 rintro e w1 ⟨rfl,hb⟩
 have HB:=hid (HB0.out.trans (hb.mono HB0.out.size))
 clear hb
 go_wp2_with fail
 go_ret
 exact ⟨rfl,HB.out⟩
theorem exK_0 (p v : ByteArray) (x : Value) (A : Nat -> Addr) (m : Int) (W : World) (hp : p.size < 999999) (hv : v.size < 999999) (S : Te W A m) (h : mErr (p,v) = 0) :
  Calls Tryz.prog 75 #[.int .i64 0,.agg #[.string p,.string v],x] W fun e w'=>e = .returned (errA A (exW none (p,v))) /\ Below W.heap.size W w':=by
 rw [exW_none h,errA0]
 have HB0:=hid ((Below.refl W.heap.size W).alloc (Nat.le_refl _) (.cells #[.string p,.string v] 47))
 have HC:=hid (mcheck_any p v A m _ (by omega) (by omega) (S.below HB0.out))
 rw [show modErr p.data.toList v.data.toList = mErr (p,v) from rfl,h,errA0] at HC
 clear S h
 go_enter Tryz.func75,Tryz.ntmps75
 go_wp2_with fail
 refine HC.out.mono ?_
 rintro e w1 ⟨rfl,hb⟩
 obtain ⟨⟨r0,r1⟩,rz⟩:=res2 (hb.mono (by simp))
 have HB:=hid (HB0.out.trans (hb.mono HB0.out.size))
 clear hb
 go_wp2_with fail
 go_quiet (fail)
 go_wp2_with fail
 go_ret
 exact ⟨rfl,below_drawn_of HB.out _⟩
theorem exK_1 (k : Nat) (p v q u : ByteArray) (b2 b o n c : Nat) (A : Nat -> Addr) (m : Int) (W : World) (hp : p.size < 999999) (hv : v.size < 999999) (hu : u.size < 999999) (S : Te W A m) (h : mErr (p,v) = 0)
  (h2 : W.cell? ⟨b2,0,none⟩ = some (.slice (some ⟨b,o,none⟩) n c)) (hk : k < n) (hn : n <= 1000000) (h3 : W.cell? ⟨b,o + k * 2,none⟩ = some (.string q)) (h4 : W.cell? ⟨b,o + k * 2 + 1,none⟩ = some (.string u)) :
  Calls Tryz.prog 75 #[.int .i64 ((k : Int) + 1),.agg #[.string p,.string v],.pointer (some ⟨b2,0,none⟩)] W fun e w'=>e = .returned (errA A (exW (some (q,u)) (p,v))) /\ Below W.heap.size W w':=by
 rw [exW_some h]
 have HB0:=hid ((Below.refl W.heap.size W).alloc (Nat.le_refl _) (.cells #[.string p,.string v] 47))
 have HS:=hid (S.below HB0.out)
 have HC:=hid (mcheck_any p v A m _ (by omega) (by omega) HS.out)
 rw [show modErr p.data.toList v.data.toList = mErr (p,v) from rfl,h,errA0] at HC
 have HA:=hid (fun W (SW : Te W A m)=>ahead_any q u p v A m W hu hv SW)
 rw [show aheadB q.data.toList u.data.toList p.data.toList v.data.toList = mAhead (q,u) (p,v) from rfl] at HA
 have H2:=hid h2
 have H3:=hid h3
 have H4:=hid h4
 clear S h h2 h3 h4
 have g1 : (0 : Int) <= (k : Int):=by omega
 have g2 : (k : Int) < (n : Int):=by omega
 have g3 : (k : Int) + 1 - 1 = (k : Int):=by omega
 have g4 : (0 : Int) < (k : Int) + 1:=by omega
 have gw : IntKind.i64.wrap (k : Int) = (k : Int):=by rw [IntKind.wrap_i64]; omega
 generalize hz : mAhead (q,u) (p,v) = z at *
 clear hz
 cases z
 ·rw [if_neg (by simp),errA_if A (by omega)]
  go_enter Tryz.func75,Tryz.ntmps75
  go_wp2_with fail
  refine HC.out.mono ?_
  rintro e w1 ⟨rfl,hb⟩
  obtain ⟨⟨r0,r1⟩,rz⟩:=res2 (hb.mono (by simp))
  have HB:=hid (HB0.out.trans (hb.mono HB0.out.size))
  have HS1:=hid (HS.out.below hb)
  have c2:=cell_below HB.out H2.out
  have c3:=cell_below HB.out H3.out
  have c4:=cell_below HB.out H4.out
  clear hb
  go_wp2_with fail
  go_region_with (go_at_call 76; refine (HA.out _ (HS1.out.below (below_drawn _ 1))).mono ?_; rintro e w2 ⟨rfl,hb⟩; have HB2:=hid ((HB.out.trans ((below_drawn _ 1).mono HB.out.size)).trans (hb.mono HB.out.size)); have gg:=((HS1.out.below (below_drawn _ 1)).below hb).sen.g7; clear hb)
  all_goals
   go_wp2_with fail
   go_ret
   exact ⟨rfl,HB2.out⟩
 ·rw [if_pos rfl,errA0]
  go_enter Tryz.func75,Tryz.ntmps75
  go_wp2_with fail
  refine HC.out.mono ?_
  rintro e w1 ⟨rfl,hb⟩
  obtain ⟨⟨r0,r1⟩,rz⟩:=res2 (hb.mono (by simp))
  have HB:=hid (HB0.out.trans (hb.mono HB0.out.size))
  have HS1:=hid (HS.out.below hb)
  have c2:=cell_below HB.out H2.out
  have c3:=cell_below HB.out H3.out
  have c4:=cell_below HB.out H4.out
  clear hb
  go_wp2_with fail
  go_region_with (go_at_call 76; refine (HA.out _ (HS1.out.below (below_drawn _ 1))).mono ?_; rintro e w2 ⟨rfl,hb⟩; have HB2:=hid ((HB.out.trans ((below_drawn _ 1).mono HB.out.size)).trans (hb.mono HB.out.size)); clear hb)
  all_goals
   go_wp2_with fail
   go_ret
   exact ⟨rfl,HB2.out⟩
def shortL (L : List Bm) : Prop:=∀ m,m ∈ L -> m.1.size < 999999 /\ m.2.size < 999999
theorem reqE_0 {own : ByteArray} {L : List Bm} (h : 0 < L.length) : reqE own L 0 = reqW own none L[0]:=by
 unfold reqE prevOf; rw [List.getElem?_eq_getElem h]; rfl
theorem reqE_1 {own : ByteArray} {L : List Bm} {k : Nat} (h : k + 1 < L.length) : reqE own L (k + 1) = reqW own (some (L[k]'(by omega))) L[k + 1]:=by
 unfold reqE prevOf; rw [List.getElem?_eq_getElem h,if_neg (by omega)]; simp only [Nat.add_sub_cancel]; rw [List.getElem?_eq_getElem (show k < L.length by omega)]
theorem exE_0 {L : List Bm} (h : 0 < L.length) : exE L 0 = exW none L[0]:=by
 unfold exE prevOf; rw [List.getElem?_eq_getElem h]; rfl
theorem exE_1 {L : List Bm} {k : Nat} (h : k + 1 < L.length) : exE L (k + 1) = exW (some (L[k]'(by omega))) L[k + 1]:=by
 unfold exE prevOf; rw [List.getElem?_eq_getElem h,if_neg (by omega)]; simp only [Nat.add_sub_cancel]; rw [List.getElem?_eq_getElem (show k < L.length by omega)]
theorem reqK_any (own : ByteArray) (L : List Bm) (b1 b2 : Nat) (v : Value) (A : Nat -> Addr) (m : Int) (W : World) (hL : L.length <= 1000000) (hs : shortL L) (S : Te W A m) (h1 : W.cell? ⟨b1,0,none⟩ = some (.string own)) (h2 : W.cell? ⟨b2,0,none⟩ = some v) (hv : MsAt W v L) (i : Nat) (hi : i < L.length) :
  Calls Tryz.prog 74 (#[.int .i64 (i : Int),.agg #[.string L[i].1,.string L[i].2]] ++ #[.pointer (some ⟨b1,0,none⟩),.pointer (some ⟨b2,0,none⟩)]) W fun e w'=>e = .returned (errA A (reqE own L i)) /\ Below W.heap.size W w':=by
 obtain ⟨a,c,rfl,_,h⟩:=hv
 obtain ⟨b,o,rfl,hc⟩:=h (by intro e; rw [e] at hi; simp at hi)
 have hz:=hs L[i] (List.getElem_mem hi)
 cases i with
 | zero=>
  rw [reqE_0 hi]
  by_cases e0 : mErr L[0] = 0
  ·by_cases e1 : L[0].1 = own
   ·exact reqK_own 0 L[0].1 L[0].2 own b1 _ none A m W hz.1 hz.2 S h1 e0 e1
   ·exact reqK_0 L[0].1 L[0].2 own b1 _ A m W hz.1 hz.2 S h1 e0 e1
  ·exact reqK_bad 0 L[0].1 L[0].2 own b1 _ none A m W hz.1 hz.2 S e0
 | succ k=>
  rw [reqE_1 hi]
  by_cases e0 : mErr L[k + 1] = 0
  ·by_cases e1 : L[k + 1].1 = own
   ·exact reqK_own _ L[k + 1].1 L[k + 1].2 own b1 _ _ A m W hz.1 hz.2 S h1 e0 e1
   ·exact reqK_1 k L[k + 1].1 L[k + 1].2 L[k].1 L[k].2 own b1 b2 b o L.length c A m W hz.1 hz.2 S h1 e0 e1 h2 (by omega) hL (hc k (by omega)).1
  ·exact reqK_bad _ L[k + 1].1 L[k + 1].2 own b1 _ _ A m W hz.1 hz.2 S e0
theorem exK_any (L : List Bm) (b2 : Nat) (v : Value) (A : Nat -> Addr) (m : Int) (W : World) (hL : L.length <= 1000000) (hs : shortL L) (S : Te W A m) (h2 : W.cell? ⟨b2,0,none⟩ = some v) (hv : MsAt W v L) (i : Nat) (hi : i < L.length) :
  Calls Tryz.prog 75 (#[.int .i64 (i : Int),.agg #[.string L[i].1,.string L[i].2]] ++ #[.pointer (some ⟨b2,0,none⟩)]) W fun e w'=>e = .returned (errA A (exE L i)) /\ Below W.heap.size W w':=by
 obtain ⟨a,c,rfl,_,h⟩:=hv
 obtain ⟨b,o,rfl,hc⟩:=h (by intro e; rw [e] at hi; simp at hi)
 have hz:=hs L[i] (List.getElem_mem hi)
 cases i with
 | zero=>
  rw [exE_0 hi]
  by_cases e0 : mErr L[0] = 0
  ·exact exK_0 L[0].1 L[0].2 _ A m W hz.1 hz.2 S e0
  ·exact exK_bad 0 L[0].1 L[0].2 _ none A m W hz.1 hz.2 S e0
 | succ k=>
  rw [exE_1 hi]
  by_cases e0 : mErr L[k + 1] = 0
  ·exact exK_1 k L[k + 1].1 L[k + 1].2 L[k].1 L[k].2 b2 b o L.length c A m W hz.1 hz.2 (hs L[k] (List.getElem_mem (by omega))).2 S e0 h2 (by omega) hL (hc k (by omega)).1 (hc k (by omega)).2
  ·exact exK_bad _ L[k + 1].1 L[k + 1].2 _ _ A m W hz.1 hz.2 S e0
theorem MsAt.slice {w : World} {v : Value} {L : List Bm} (h : MsAt w v L) : ∃ p n c,v = .slice p n c:=by
 obtain ⟨a,c,e,_⟩:=h
 exact ⟨a,_,c,e⟩
theorem reqs_any (own : ByteArray) (L : List Bm) (v : Value) (A : Nat -> Addr) (m : Int) (w : World) (hL : L.length <= 1000000) (hs : shortL L) (S : Te w A m) (hv : MsAt w v L) :
  Calls Tryz.prog 37 #[.string own,v] w fun e w'=>∃ u,e = .returned u /\ ErrAt w' A u (codeE (reqE own L) L.length) (fstE (reqE own L) L.length) /\ Below w.heap.size w w':=by
 obtain ⟨vp,vn,vc,rfl⟩:=hv.slice
 have HB0:=hid (((Below.refl w.heap.size w).alloc (Nat.le_refl _) (.cells #[.string own] 9)).alloc (by simp) (.cells #[.slice vp vn vc] 23))
 have eg : ∀ args w,(callFunc 74 args).run Tryz.prog w = .ok (.enter 74 args) w:=enters_of Tryz.func74 (by kernel_rfl) rfl
 have HF:=hid (first_any 74 #[.pointer (some ⟨w.heap.size,0,none⟩),.pointer (some ⟨w.heap.size + 1,0,none⟩)] (reqE own L) L _ A ((w.alloc (.cells #[.string own] 9)).alloc (.cells #[.slice vp vn vc] 23)) eg hL (hv.below HB0.out) (fun i hi W hW=>
  reqK_any own L w.heap.size (w.heap.size + 1) _ A m W hL hs ((S.below HB0.out).below hW) (cell_below hW (by rw [World.cell?_alloc_lt _ _ _ (by simp)]; simp)) (cell_below hW (by rw [World.cell?_alloc_at _ _ _ _ (by simp)]; rfl)) ((hv.below HB0.out).below hW) i hi))
 clear S hv eg
 go_enter Tryz.func37,Tryz.ntmps37
 go_wp2_with fail
 refine HF.out.mono ?_
 rintro e w1 ⟨u,rfl,he,hb⟩
 have HB:=hid (HB0.out.trans (hb.mono HB0.out.size))
 have HE:=hid he
 clear hb he
 go_wp2_with fail
 go_ret
 exact ⟨_,rfl,HE.out,HB.out⟩
theorem ex_any (L : List Bm) (v : Value) (A : Nat -> Addr) (m : Int) (w : World) (hL : L.length <= 1000000) (hs : shortL L) (S : Te w A m) (hv : MsAt w v L) :
  Calls Tryz.prog 38 #[v] w fun e w'=>∃ u,e = .returned u /\ ErrAt w' A u (codeE (exE L) L.length) (fstE (exE L) L.length) /\ Below w.heap.size w w':=by
 obtain ⟨vp,vn,vc,rfl⟩:=hv.slice
 have HB0:=hid ((Below.refl w.heap.size w).alloc (Nat.le_refl _) (.cells #[.slice vp vn vc] 23))
 have eg : ∀ args w,(callFunc 75 args).run Tryz.prog w = .ok (.enter 75 args) w:=enters_of Tryz.func75 (by kernel_rfl) rfl
 have HF:=hid (first_any 75 #[.pointer (some ⟨w.heap.size,0,none⟩)] (exE L) L _ A (w.alloc (.cells #[.slice vp vn vc] 23)) eg hL (hv.below HB0.out) (fun i hi W hW=>
  exK_any L w.heap.size _ A m W hL hs ((S.below HB0.out).below hW) (cell_below hW (by simp)) ((hv.below HB0.out).below hW) i hi))
 clear S hv eg
 go_enter Tryz.func38,Tryz.ntmps38
 go_wp2_with fail
 refine HF.out.mono ?_
 rintro e w1 ⟨u,rfl,he,hb⟩
 have HB:=hid (HB0.out.trans (hb.mono HB0.out.size))
 have HE:=hid he
 clear hb he
 go_wp2_with fail
 go_ret
 exact ⟨_,rfl,HE.out,HB.out⟩
end Ve
end Go.Proofs.YtjbmjnbkibmkpaaGreatDoor


namespace Go.Proofs.YtjbmjnbkibmkpaaGreatDoor
open Go.RowKit
namespace Ve
theorem modSame (p v q u : ByteArray) (w : World) : (Op.equalIn 10000 47 (.agg #[.string p,.string v]) (.agg #[.string q,.string u])).run Tryz.prog w = .ok (decide (p = q /\ v = u)) w:=by
 have u3:=Tryz.underlying9
 have a3:=Tryz.isAgg9
 have z3:=Tryz.sizeOf9
 have hS : Tryz.prog.underlying 47 = some (.struct (Tryz.prog.fieldsOf 47)):=by kernel_rfl
 have hp : Tryz.prog.stoodInHeld 47 = false:=by kernel_rfl
 rw [show (10000 : Nat) = 9999 + 1 from rfl,run_equalIn_agg w 9999 47 _ _ hS hp]
 simp only [Program.fieldsOf,Tryz.underlying47]
 by_cases h1 : p = q
 ·subst h1
  by_cases h2 : v = u
  ·subst h2
   have e1:=str_refl p
   have e2:=str_refl v
   go_simp
  ·have e1:=str_refl p
   have e2:=str_ne h2
   go_simp
 ·have e1:=str_ne h1
  go_simp
theorem modEql (p v q u : ByteArray) (w : World) : (binOp .eql 47 (.agg #[.string p,.string v]) (.agg #[.string q,.string u])).run Tryz.prog w = .ok (.bool (decide (p = q /\ v = u))) w:=by
 rw [run_eql_struct,modSame]; rfl
theorem modNeq (p v q u : ByteArray) (w : World) : (binOp .neq 47 (.agg #[.string p,.string v]) (.agg #[.string q,.string u])).run Tryz.prog w = .ok (.bool (!decide (p = q /\ v = u))) w:=by
 rw [run_neq_struct,modSame]; rfl
theorem modGuard : Tryz.prog.eqGuardType Tryz.prog.depth 47 = false:=by kernel_rfl
end Ve
end Go.Proofs.YtjbmjnbkibmkpaaGreatDoor
