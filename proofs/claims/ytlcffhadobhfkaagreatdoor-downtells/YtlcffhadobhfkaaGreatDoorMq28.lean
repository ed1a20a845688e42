/-
  OrdD OrdE
-/
import Derived.Test.YtlcffhadobhfkaaGreatDoorMq2
import Derived.Test.YtlcffhadobhfkaaGreatDoorMq5
import Derived.Test.YtlcffhadobhfkaaGreatDoorMq6
import Derived.Test.YtlcffhadobhfkaaGreatDoorMq3
import Derived.Test.YtlcffhadobhfkaaGreatDoorMq9
import Derived.Test.YtlcffhadobhfkaaGreatDoorMq11
import Derived.Test.YtlcffhadobhfkaaGreatDoorMq15
import Derived.Test.YtlcffhadobhfkaaGreatDoorMq27
import Derived.Test.YtlcffhadobhfkaaGreatDoorMq16
import Derived.Test.YtlcffhadobhfkaaGreatDoorMq18
namespace Go.Proofs.YtlcffhadobhfkaaGreatDoor
open Go.RowKit
namespace Ve
def GoodV (w w' : World) (e : Ending) (x y z : Int) (X : List ByteArray) : Prop:=
  (∃ sa cap,e = .returned (.tuple #[.agg #[.int .i64 x,.int .i64 y,.int .i64 z,.slice sa X.length cap],.int .i64 0]) /\ (X = [] \/ ∃ g,sa = some ⟨g,0,none⟩ /\ ∀ j (hj : j < X.length),w'.cell? ⟨g,j,none⟩ = some (.string X[j]))) /\ Below w.heap.size w w'
theorem verOf_good (s : ByteArray) (w : World) (hs : s.size < 4294967281) (h : verErr s.data.toList = 0) (X : List ByteArray) (hX : bl X = preOf s.data.toList) :
    Calls Tryz.prog 72 #[.string s] w fun e w'=>GoodV w w' e (nAt s.data.toList 0) (nAt s.data.toList 1) (nAt s.data.toList 2) X:=
  (verOf_any s w hs).mono fun e w' ⟨h1,hb⟩=>by
    rcases h1 with ⟨h1,_⟩ | ⟨_,sa,cap,X2,e1,e2,e3⟩
    · exact absurd h h1
    · obtain rfl : X2 = X:=bl_inj (e2.trans hX.symm)
      exact ⟨⟨sa,cap,e1,e3⟩,hb⟩
theorem lt_sign {x y : Int} (h : x ≠ y) : Lib.compareInt x y = (if decide (x < y) then (-1 : Int) else if (true : Bool) = true then 1 else 0):=by
  unfold Lib.compareInt
  by_cases h1 : x < y
  · simp [h1]
  · simp [h1]; omega
set_option maxHeartbeats 2000000 in
theorem over_0 (x x' y y' z z' : Int) (X Y : List ByteArray) (s t : ByteArray) (w : World) (hn : x ≠ x')
    (hA : Calls Tryz.prog 72 #[.string s] w fun e w'=>GoodV w w' e x y z X) (hT : ∀ W,Calls Tryz.prog 72 #[.string t] W fun e w'=>GoodV W w' e x' y' z' Y) :
    Calls Tryz.prog 98 #[.string s,.string t] w fun e w'=>e = .returned (.int .i64 (Lib.compareInt x x')) /\ Below w.heap.size w w':=by
  have hq : (x == x') = false:=beq_eq_false_iff_ne.2 hn
  have HK:=hid (lt_sign hn).symm
  clear hn
  have HA:=hid hA
  have HT:=hid hT
  clear hA hT
  go_enter Tryz.func98,Tryz.ntmps98
  go_wp2_with fail
  refine HA.out.mono ?_
  rintro e w1 ⟨⟨sa,ca,rfl,hc1⟩,hb1⟩
  have HC1:=hid hc1
  have HB1:=hid hb1
  clear hc1 hb1
  go_wp2_with fail
  refine (HT.out _).mono ?_
  rintro e w2 ⟨⟨sb,cb,rfl,hc2⟩,hb2⟩
  have HC2:=hid hc2
  obtain ⟨⟨r0,r1,r2,r3⟩,rf,rz⟩:=res4 (hb2.mono (by simp))
  have HB2:=hid (((Below.refl w1.heap.size w1).alloc (Nat.le_refl _) _).trans (hb2.mono (by simp)))
  have HB:=hid ((HB1.out.trans (HB2.out.mono HB1.out.size)).alloc (HB1.out.trans (HB2.out.mono HB1.out.size)).size (.cells #[.int .i64 x',.int .i64 y',.int .i64 z',.slice sb Y.length cb] 95))
  clear hc2 hb2
  go_wp2_with fail
  refine wp_loop_rounds 1 ?_
  rw [rounds_succ]
  go_wp2_with fail
  go_quiet (fail)
  go_wp2_with fail
  go_quiet (first | (go_at_call 140; refine (sign_is _ _ (Lib.compareInt x x') _ HK.out).mono fun e w' h=>⟨h.1,_,h.2⟩))
  go_wp2_with fail
  go_ret
  exact ⟨rfl,by first | exact below_drew (below_drew HB.out _) _ | exact below_drew (below_drew (below_drew HB.out _) _) _ | exact below_drew (below_drew (below_drew (below_drew HB.out _) _) _) _⟩
set_option maxHeartbeats 2000000 in
theorem over_1 (x y y' z z' : Int) (X Y : List ByteArray) (s t : ByteArray) (w : World) (hn : y ≠ y')
    (hA : Calls Tryz.prog 72 #[.string s] w fun e w'=>GoodV w w' e x y z X) (hT : ∀ W,Calls Tryz.prog 72 #[.string t] W fun e w'=>GoodV W w' e x y' z' Y) :
    Calls Tryz.prog 98 #[.string s,.string t] w fun e w'=>e = .returned (.int .i64 (Lib.compareInt y y')) /\ Below w.heap.size w w':=by
  have hq : (y == y') = false:=beq_eq_false_iff_ne.2 hn
  have HK:=hid (lt_sign hn).symm
  clear hn
  have HA:=hid hA
  have HT:=hid hT
  clear hA hT
  go_enter Tryz.func98,Tryz.ntmps98
  go_wp2_with fail
  refine HA.out.mono ?_
  rintro e w1 ⟨⟨sa,ca,rfl,hc1⟩,hb1⟩
  have HC1:=hid hc1
  have HB1:=hid hb1
  clear hc1 hb1
  go_wp2_with fail
  refine (HT.out _).mono ?_
  rintro e w2 ⟨⟨sb,cb,rfl,hc2⟩,hb2⟩
  have HC2:=hid hc2
  obtain ⟨⟨r0,r1,r2,r3⟩,rf,rz⟩:=res4 (hb2.mono (by simp))
  have HB2:=hid (((Below.refl w1.heap.size w1).alloc (Nat.le_refl _) _).trans (hb2.mono (by simp)))
  have HB:=hid ((HB1.out.trans (HB2.out.mono HB1.out.size)).alloc (HB1.out.trans (HB2.out.mono HB1.out.size)).size (.cells #[.int .i64 x,.int .i64 y',.int .i64 z',.slice sb Y.length cb] 95))
  clear hc2 hb2
  go_wp2_with fail
  refine wp_loop_rounds 2 ?_
  rw [rounds_succ]
  go_wp2_with fail
  go_quiet (fail)
  go_wp2_with fail
  rw [rounds_succ]
  go_wp2_with fail
  go_quiet (fail)
  go_wp2_with fail
  go_quiet (first | (go_at_call 140; refine (sign_is _ _ (Lib.compareInt y y') _ HK.out).mono fun e w' h=>⟨h.1,_,h.2⟩))
  go_wp2_with fail
  go_ret
  exact ⟨rfl,by first | exact below_drew (below_drew HB.out _) _ | exact below_drew (below_drew (below_drew HB.out _) _) _ | exact below_drew (below_drew (below_drew (below_drew HB.out _) _) _) _⟩
set_option maxHeartbeats 2000000 in
theorem over_2 (x y z z' : Int) (X Y : List ByteArray) (s t : ByteArray) (w : World) (hn : z ≠ z')
    (hA : Calls Tryz.prog 72 #[.string s] w fun e w'=>GoodV w w' e x y z X) (hT : ∀ W,Calls Tryz.prog 72 #[.string t] W fun e w'=>GoodV W w' e x y z' Y) :
    Calls Tryz.prog 98 #[.string s,.string t] w fun e w'=>e = .returned (.int .i64 (Lib.compareInt z z')) /\ Below w.heap.size w w':=by
  have hq : (z == z') = false:=beq_eq_false_iff_ne.2 hn
  have HK:=hid (lt_sign hn).symm
  clear hn
  have HA:=hid hA
  have HT:=hid hT
  clear hA hT
  go_enter Tryz.func98,Tryz.ntmps98
  go_wp2_with fail
  refine HA.out.mono ?_
  rintro e w1 ⟨⟨sa,ca,rfl,hc1⟩,hb1⟩
  have HC1:=hid hc1
  have HB1:=hid hb1
  clear hc1 hb1
  go_wp2_with fail
  refine (HT.out _).mono ?_
  rintro e w2 ⟨⟨sb,cb,rfl,hc2⟩,hb2⟩
  have HC2:=hid hc2
  obtain ⟨⟨r0,r1,r2,r3⟩,rf,rz⟩:=res4 (hb2.mono (by simp))
  have HB2:=hid (((Below.refl w1.heap.size w1).alloc (Nat.le_refl _) _).trans (hb2.mono (by simp)))
  have HB:=hid ((HB1.out.trans (HB2.out.mono HB1.out.size)).alloc (HB1.out.trans (HB2.out.mono HB1.out.size)).size (.cells #[.int .i64 x,.int .i64 y,.int .i64 z',.slice sb Y.length cb] 95))
  clear hc2 hb2
  go_wp2_with fail
  refine wp_loop_rounds 3 ?_
  rw [rounds_succ]
  go_wp2_with fail
  go_quiet (fail)
  go_wp2_with fail
  rw [rounds_succ]
  go_wp2_with fail
  go_quiet (fail)
  go_wp2_with fail
  rw [rounds_succ]
  go_wp2_with fail
  go_quiet (fail)
  go_wp2_with fail
  go_quiet (first | (go_at_call 140; refine (sign_is _ _ (Lib.compareInt z z') _ HK.out).mono fun e w' h=>⟨h.1,_,h.2⟩))
  go_wp2_with fail
  go_ret
  exact ⟨rfl,by first | exact below_drew (below_drew HB.out _) _ | exact below_drew (below_drew (below_drew HB.out _) _) _ | exact below_drew (below_drew (below_drew (below_drew HB.out _) _) _) _⟩
set_option maxHeartbeats 2000000 in
theorem over_none0 (x y z : Int) (s t : ByteArray) (w : World)
    (hA : Calls Tryz.prog 72 #[.string s] w fun e w'=>GoodV w w' e x y z []) (hT : ∀ W,Calls Tryz.prog 72 #[.string t] W fun e w'=>GoodV W w' e x y z []) :
    Calls Tryz.prog 98 #[.string s,.string t] w fun e w'=>e = .returned (.int .i64 (0)) /\ Below w.heap.size w w':=by
  have HA:=hid hA
  have HT:=hid hT
  clear hA hT
  go_enter Tryz.func98,Tryz.ntmps98
  go_wp2_with fail
  refine HA.out.mono ?_
  rintro e w1 ⟨⟨sa,ca,rfl,hc1⟩,hb1⟩
  have HC1:=hid hc1
  have HB1:=hid hb1
  clear hc1 hb1
  go_wp2_with fail
  refine (HT.out _).mono ?_
  rintro e w2 ⟨⟨sb,cb,rfl,hc2⟩,hb2⟩
  have HC2:=hid hc2
  obtain ⟨⟨r0,r1,r2,r3⟩,rf,rz⟩:=res4 (hb2.mono (by simp))
  have HB2:=hid (((Below.refl w1.heap.size w1).alloc (Nat.le_refl _) _).trans (hb2.mono (by simp)))
  have HB:=hid ((HB1.out.trans (HB2.out.mono HB1.out.size)).alloc (HB1.out.trans (HB2.out.mono HB1.out.size)).size (.cells #[.int .i64 x,.int .i64 y,.int .i64 z,.slice sb 0 cb] 95))
  clear hc2 hb2
  go_wp2_with fail
  refine wp_loop_rounds 4 ?_
  rw [rounds_succ]
  go_wp2_with fail
  go_quiet (fail)
  go_wp2_with fail
  rw [rounds_succ]
  go_wp2_with fail
  go_quiet (fail)
  go_wp2_with fail
  rw [rounds_succ]
  go_wp2_with fail
  go_quiet (fail)
  go_wp2_with fail
  rw [rounds_succ]
  go_wp2_with fail
  refine (sign_is _ _ (0) _ rfl).mono ?_
  rintro e w' ⟨rfl,rfl⟩
  go_wp2_with fail
  go_ret
  exact ⟨rfl,below_drew HB.out _⟩
set_option maxHeartbeats 2000000 in
theorem over_none1 (x y z : Int) (Y : List ByteArray) (s t : ByteArray) (w : World) (hp : 0 < Y.length) (hl : Y.length <= 1000000)
    (hA : Calls Tryz.prog 72 #[.string s] w fun e w'=>GoodV w w' e x y z []) (hT : ∀ W,Calls Tryz.prog 72 #[.string t] W fun e w'=>GoodV W w' e x y z Y) :
    Calls Tryz.prog 98 #[.string s,.string t] w fun e w'=>e = .returned (.int .i64 (1)) /\ Below w.heap.size w w':=by
  have h0 : ((Y.length : Int) == 0) = false:=beq_eq_false_iff_ne.2 (by omega)
  have HA:=hid hA
  have HT:=hid hT
  clear hA hT
  go_enter Tryz.func98,Tryz.ntmps98
  go_wp2_with fail
  refine HA.out.mono ?_
  rintro e w1 ⟨⟨sa,ca,rfl,hc1⟩,hb1⟩
  have HC1:=hid hc1
  have HB1:=hid hb1
  clear hc1 hb1
  go_wp2_with fail
  refine (HT.out _).mono ?_
  rintro e w2 ⟨⟨sb,cb,rfl,hc2⟩,hb2⟩
  have HC2:=hid hc2
  obtain ⟨⟨r0,r1,r2,r3⟩,rf,rz⟩:=res4 (hb2.mono (by simp))
  have HB2:=hid (((Below.refl w1.heap.size w1).alloc (Nat.le_refl _) _).trans (hb2.mono (by simp)))
  have HB:=hid ((HB1.out.trans (HB2.out.mono HB1.out.size)).alloc (HB1.out.trans (HB2.out.mono HB1.out.size)).size (.cells #[.int .i64 x,.int .i64 y,.int .i64 z,.slice sb Y.length cb] 95))
  clear hc2 hb2
  go_wp2_with fail
  refine wp_loop_rounds 4 ?_
  rw [rounds_succ]
  go_wp2_with fail
  go_quiet (fail)
  go_wp2_with fail
  rw [rounds_succ]
  go_wp2_with fail
  go_quiet (fail)
  go_wp2_with fail
  rw [rounds_succ]
  go_wp2_with fail
  go_quiet (fail)
  go_wp2_with fail
  rw [rounds_succ]
  go_wp2_with fail
  refine (sign_is _ _ (1) _ rfl).mono ?_
  rintro e w' ⟨rfl,rfl⟩
  go_wp2_with fail
  go_ret
  exact ⟨rfl,below_drew HB.out _⟩
set_option maxHeartbeats 2000000 in
theorem over_none2 (x y z : Int) (X : List ByteArray) (s t : ByteArray) (w : World) (hp : 0 < X.length) (hl : X.length <= 1000000)
    (hA : Calls Tryz.prog 72 #[.string s] w fun e w'=>GoodV w w' e x y z X) (hT : ∀ W,Calls Tryz.prog 72 #[.string t] W fun e w'=>GoodV W w' e x y z []) :
    Calls Tryz.prog 98 #[.string s,.string t] w fun e w'=>e = .returned (.int .i64 (-1)) /\ Below w.heap.size w w':=by
  have h0 : ((X.length : Int) == 0) = false:=beq_eq_false_iff_ne.2 (by omega)
  have HA:=hid hA
  have HT:=hid hT
  clear hA hT
  go_enter Tryz.func98,Tryz.ntmps98
  go_wp2_with fail
  refine HA.out.mono ?_
  rintro e w1 ⟨⟨sa,ca,rfl,hc1⟩,hb1⟩
  have HC1:=hid hc1
  have HB1:=hid hb1
  clear hc1 hb1
  go_wp2_with fail
  refine (HT.out _).mono ?_
  rintro e w2 ⟨⟨sb,cb,rfl,hc2⟩,hb2⟩
  have HC2:=hid hc2
  obtain ⟨⟨r0,r1,r2,r3⟩,rf,rz⟩:=res4 (hb2.mono (by simp))
  have HB2:=hid (((Below.refl w1.heap.size w1).alloc (Nat.le_refl _) _).trans (hb2.mono (by simp)))
  have HB:=hid ((HB1.out.trans (HB2.out.mono HB1.out.size)).alloc (HB1.out.trans (HB2.out.mono HB1.out.size)).size (.cells #[.int .i64 x,.int .i64 y,.int .i64 z,.slice sb 0 cb] 95))
  clear hc2 hb2
  go_wp2_with fail
  refine wp_loop_rounds 4 ?_
  rw [rounds_succ]
  go_wp2_with fail
  go_quiet (fail)
  go_wp2_with fail
  rw [rounds_succ]
  go_wp2_with fail
  go_quiet (fail)
  go_wp2_with fail
  rw [rounds_succ]
  go_wp2_with fail
  go_quiet (fail)
  go_wp2_with fail
  rw [rounds_succ]
  go_wp2_with fail
  refine (sign_is _ _ (-1) _ rfl).mono ?_
  rintro e w' ⟨rfl,rfl⟩
  go_wp2_with fail
  go_ret
  exact ⟨rfl,below_drew HB.out _⟩
set_option maxHeartbeats 4000000 in
theorem over_some (x y z : Int) (X Y : List ByteArray) (s t : ByteArray) (w : World) (hp : 0 < X.length) (hp2 : 0 < Y.length) (hl : X.length ≤ 1000000) (hl2 : Y.length ≤ 1000000) (hXs : ∀ x, x ∈ X → x.size ≤ maxLen ∧ part x.data.toList = 0) (hYs : ∀ x, x ∈ Y → x.size ≤ maxLen ∧ part x.data.toList = 0)
    (hA : Calls Tryz.prog 72 #[.string s] w fun e w'=>GoodV w w' e x y z X) (hT : ∀ W,Calls Tryz.prog 72 #[.string t] W fun e w'=>GoodV W w' e x y z Y) :
    Calls Tryz.prog 98 #[.string s,.string t] w fun e w'=>e = .returned (.int .i64 (ordPs (bl X) (bl Y))) /\ Below w.heap.size w w':=by
  have h0 : ((X.length : Int) == 0) = false:=beq_eq_false_iff_ne.2 (by omega)
  have h02 : ((Y.length : Int) == 0) = false:=beq_eq_false_iff_ne.2 (by omega)
  have HXS:=hid hXs
  have HYS:=hid hYs
  clear hXs hYs
  have HA:=hid hA
  have HT:=hid hT
  clear hA hT
  go_enter Tryz.func98,Tryz.ntmps98
  go_wp2_with fail
  refine HA.out.mono ?_
  rintro e w1 ⟨⟨sa,ca,rfl,hc1⟩,hb1⟩
  have HC1:=hid hc1
  have HB1:=hid hb1
  clear hc1 hb1
  go_wp2_with fail
  refine (HT.out _).mono ?_
  rintro e w2 ⟨⟨sb,cb,rfl,hc2⟩,hb2⟩
  have HC2:=hid hc2
  obtain ⟨⟨r0,r1,r2,r3⟩,rf,rz⟩:=res4 (hb2.mono (by simp))
  have HB2:=hid (((Below.refl w1.heap.size w1).alloc (Nat.le_refl _) _).trans (hb2.mono (by simp)))
  have HB:=hid ((HB1.out.trans (HB2.out.mono HB1.out.size)).alloc (HB1.out.trans (HB2.out.mono HB1.out.size)).size (.cells #[.int .i64 x,.int .i64 y,.int .i64 z,.slice sb Y.length cb] 95))
  clear hc2 hb2
  go_wp2_with fail
  obtain ⟨ga,rfl,hca⟩ : ∃ g,sa = some ⟨g,0,none⟩ /\ ∀ j (hj : j < X.length),w1.cell? ⟨g,j,none⟩ = some (.string X[j]):=by
    rcases HC1.out with h | h
    · subst h; simp at hp
    · exact h
  obtain ⟨gb,rfl,hcb⟩ : ∃ g,sb = some ⟨g,0,none⟩ /\ ∀ j (hj : j < Y.length),w2.cell? ⟨g,j,none⟩ = some (.string Y[j]):=by
    rcases HC2.out with h | h
    · subst h; simp at hp2
    · exact h
  have HCA:=hid (fun j (hj : j < X.length)=>cell_below HB2.out (hca j hj))
  have HCB:=hid hcb
  have HOS:=hid (show Os w (w2.alloc (.cells #[.int .i64 x,.int .i64 y,.int .i64 z,.slice (some ⟨gb,0,none⟩) Y.length cb] 95)) w1.heap.size w2.heap.size ga gb ca cb X Y from
    ⟨HB.out,by rw [World.cell?_alloc_lt _ _ _ (by show w1.heap.size < _; exact rz)]; exact r3,by rw [World.cell?_alloc_at _ _ _ _ rfl]; rfl,
      fun j hj=>by rw [World.cell?_alloc_lt _ _ _ (lt_of_cell (HCA.out j hj))]; exact HCA.out j hj,fun j hj=>by rw [World.cell?_alloc_lt _ _ _ (lt_of_cell (HCB.out j hj))]; exact HCB.out j hj⟩)
  clear hca hcb HC1 HC2
  refine wp_loop_rounds 4 ?_
  rw [rounds_succ]
  go_wp2_with fail
  go_quiet (fail)
  go_wp2_with fail
  rw [rounds_succ]
  go_wp2_with fail
  go_quiet (fail)
  go_wp2_with fail
  rw [rounds_succ]
  go_wp2_with fail
  go_quiet (fail)
  go_wp2_with fail
  rw [rounds_succ]
  go_wp2_with fail
  go_loopw [10] (fun i wr=>∃ (k d : Nat) (W : World),k <= X.length /\ k <= Y.length /\ i = .int .i64 k /\ Hid (ordPs (bl X) (bl Y) = ordPs (bl (X.drop k)) (bl (Y.drop k))) /\ Hid (Os w W w1.heap.size w2.heap.size ga gb ca cb X Y) /\ wr = W.drewN d) (fun i _=>X.length - (intOf i).toNat)
  case atStart=>exact ⟨0,_,_,Nat.zero_le _,Nat.zero_le _,rfl,hid rfl,HOS,rfl⟩
  case round=>
    clear HB HB1 HB2 r0 r1 r2 r3 rf rz
    obtain ⟨k,d,W,hk,hk2,rfl,HO,HW,rfl⟩:=hrel
    have p3:=HW.out.p3
    have q3:=HW.out.q3
    by_cases hlt : k < X.length
    · have t1 : decide ((k : Int) < (X.length : Int)) = true:=decide_eq_true (by omega)
      by_cases hlt2 : k < Y.length
      · have t2 : decide ((k : Int) < (Y.length : Int)) = true:=decide_eq_true (by omega)
        have hx:=HW.out.xs k hlt
        have hy:=HW.out.ys k hlt2
        have HP:=hid (fun W=>opart_any X[k] Y[k] W (HXS.out _ (List.getElem_mem hlt)).1 (HYS.out _ (List.getElem_mem hlt2)).1)
        rw [ordPart_num (HXS.out _ (List.getElem_mem hlt)).2 (HYS.out _ (List.getElem_mem hlt2)).2] at HP
        have HN:=hid (HO.out.trans (ordPs_step X Y k hlt hlt2))
        generalize hq : ordPart X[k].data.toList Y[k].data.toList = q at *
        clear hq HO
        by_cases hz : q = 0
        · subst hz
          go_wp2_with fail
          go_quiet (first | (go_at_call 141; refine (HP.out _).mono fun e w' h=>⟨h.1,_,h.2⟩))
          go_wp2_with fail
          go_roundw
          case rel=>exact ⟨k + 1,_,W,by omega,by omega,by go_num,hid (HN.out.trans (fst0 _)),HW,rfl⟩
          case measure=>simp [intOf]; omega
        · have hqb : (q == 0) = false:=beq_eq_false_iff_ne.2 hz
          have HF:=hid (HN.out.trans (fst_ne _ hz))
          clear hz
          go_wp2_with fail
          go_quiet (first | (go_at_call 141; refine (HP.out _).mono fun e w' h=>⟨h.1,_,h.2⟩))
          go_wp2_with fail
          go_ret
          exact ⟨ret_int HF.out.symm,by first | exact below_drew HW.out.bl _ | exact below_drew (below_drew HW.out.bl _) _ | exact below_drew (below_drew (below_drew HW.out.bl _) _) _⟩
      · have HF:=hid (HO.out.trans (ordPs_long X Y k hlt (by omega)))
        have t2 : decide ((k : Int) < (Y.length : Int)) = false:=decide_eq_false (by omega)
        clear HO
        go_wp2_with fail
        refine (sign_is _ _ 1 _ ?hk).mono ?_
        case hk=>simp [show ¬ X.length < Y.length by omega,show Y.length < X.length by omega]
        rintro e w' ⟨rfl,rfl⟩
        go_wp2_with fail
        go_ret
        exact ⟨ret_int HF.out.symm,by first | exact below_drew HW.out.bl _ | exact below_drew (below_drew HW.out.bl _) _ | exact below_drew (below_drew (below_drew HW.out.bl _) _) _⟩
    · have t1 : decide ((k : Int) < (X.length : Int)) = false:=decide_eq_false (by omega)
      by_cases hlt2 : X.length < Y.length
      · have HF:=hid (HO.out.trans (ordPs_short X Y k (by omega) (by omega)))
        clear HO
        go_wp2_with fail
        refine (sign_is _ _ (-1) _ ?hk).mono ?_
        case hk=>simp
        rintro e w' ⟨rfl,rfl⟩
        go_wp2_with fail
        go_ret
        exact ⟨ret_int HF.out.symm,by first | exact below_drew HW.out.bl _ | exact below_drew (below_drew HW.out.bl _) _ | exact below_drew (below_drew (below_drew HW.out.bl _) _) _⟩
      · have HF:=hid (HO.out.trans (ordPs_end X Y k (by omega) (by omega)))
        clear HO
        go_wp2_with fail
        refine (sign_is _ _ 0 _ ?hk).mono ?_
        case hk=>simp [show ¬ Y.length < X.length by omega]
        rintro e w' ⟨rfl,rfl⟩
        go_wp2_with fail
        go_ret
        exact ⟨ret_int HF.out.symm,by first | exact below_drew HW.out.bl _ | exact below_drew (below_drew HW.out.bl _) _ | exact below_drew (below_drew (below_drew HW.out.bl _) _) _⟩
theorem orderVer_any (s t : ByteArray) (w : World) (hs : s.size < 999999) (ht : t.size < 999999) (h1 : verErr s.data.toList = 0) (h2 : verErr t.data.toList = 0) :
    Calls Tryz.prog 98 #[.string s,.string t] w fun e w'=>e = .returned (.int .i64 (ordV s.data.toList t.data.toList)) /\ Below w.heap.size w w':=by
  obtain ⟨X,hX⟩ : ∃ X,bl X = preOf s.data.toList:=⟨_,bl_strs _⟩
  obtain ⟨Y,hY⟩ : ∃ X,bl X = preOf t.data.toList:=⟨_,bl_strs _⟩
  have hA:=verOf_good s w (by omega) h1 X hX
  have hT:=fun W=>verOf_good t W (by omega) h2 Y hY
  have lX : X.length <= 1000000:=by have:=pre_len (l:=s.data.toList); rw [<- hX,bl_len,len_eq] at this; omega
  have lY : Y.length <= 1000000:=by have:=pre_len (l:=t.data.toList); rw [<- hY,bl_len,len_eq] at this; omega
  have pX : ∀ x,x ∈ X -> x.size <= maxLen /\ part x.data.toList = 0:=fun x hx=>by
    have hm : x.data.toList ∈ preOf s.data.toList:=hX ▸ bl_mem hx
    refine ⟨?_,ver_parts h1 _ hm⟩
    have:=pre_size hm
    rw [len_eq,len_eq] at this
    unfold maxLen; omega
  have pY : ∀ x,x ∈ Y -> x.size <= maxLen /\ part x.data.toList = 0:=fun x hx=>by
    have hm : x.data.toList ∈ preOf t.data.toList:=hY ▸ bl_mem hx
    refine ⟨?_,ver_parts h2 _ hm⟩
    have:=pre_size hm
    rw [len_eq,len_eq] at this
    unfold maxLen; omega
  unfold ordV
  rw [<- hX,<- hY]
  generalize nAt s.data.toList 0 = x at *
  generalize nAt s.data.toList 1 = y at *
  generalize nAt s.data.toList 2 = z at *
  generalize nAt t.data.toList 0 = x' at *
  generalize nAt t.data.toList 1 = y' at *
  generalize nAt t.data.toList 2 = z' at *
  unfold ordN
  by_cases e0 : x = x'
  · subst e0
    rw [ci_self,fst0]
    by_cases e1 : y = y'
    · subst e1
      rw [ci_self,fst0]
      by_cases e2 : z = z'
      · subst e2
        rw [ci_self,fst0]
        unfold ordPre
        by_cases f0 : X = []
        · subst f0
          rw [if_pos (show bl [] = [] \/ bl Y = [] from Or.inl rfl),bl_len]
          by_cases f1 : Y = []
          · subst f1
            exact over_none0 x y z s t w hA hT
          · have hp:=List.length_pos_iff.2 f1
            rw [show Lib.compareInt (Y.length : Int) ((bl []).length : Int) = 1 from ci_gt (by show (0 : Int) < _; omega)]
            exact over_none1 x y z Y s t w hp lY hA hT
        · by_cases f1 : Y = []
          · subst f1
            have hp:=List.length_pos_iff.2 f0
            rw [if_pos (show bl X = [] \/ bl [] = [] from Or.inr rfl),bl_len X,show Lib.compareInt ((bl []).length : Int) (X.length : Int) = -1 from ci_lt (by show (0 : Int) < _; omega)]
            exact over_none2 x y z X s t w hp lX hA hT
          · rw [if_neg (by rintro (h | h); exact f0 (bl_nil.1 h); exact f1 (bl_nil.1 h))]
            exact over_some x y z X Y s t w (List.length_pos_iff.2 f0) (List.length_pos_iff.2 f1) lX lY pX pY hA hT
      · rw [fst_ne _ (fun h=>e2 ((ci_zero _ _).1 h))]
        exact over_2 x y z z' X Y s t w e2 hA hT
    · rw [fst_ne _ (fun h=>e1 ((ci_zero _ _).1 h))]
      exact over_1 x y y' z z' X Y s t w e1 hA hT
  · rw [fst_ne _ (fun h=>e0 ((ci_zero _ _).1 h))]
    exact over_0 x x' y y' z z' X Y s t w e0 hA hT
set_option maxHeartbeats 1000000 in
theorem isLess_any (s t : ByteArray) (w : World) (hs : s.size < 999999) (ht : t.size < 999999) :
    Calls Tryz.prog 49 #[.string s,.string t] w fun e w'=>e = .returned (.bool (lessB s.data.toList t.data.toList)) /\ Below w.heap.size w w':=by
  have HL:=hid (show lessB s.data.toList t.data.toList = (decide (verErr s.data.toList = 0) && (decide (verErr t.data.toList = 0) && decide (ordV s.data.toList t.data.toList < 0))) from rfl)
  have HA:=hid (isVer_any s w (by omega))
  have HT:=hid (fun W=>isVer_any t W (by omega))
  by_cases h1 : verErr s.data.toList = 0
  all_goals by_cases h2 : verErr t.data.toList = 0
  · have HO:=hid (fun W=>orderVer_any s t W hs ht h1 h2)
    rw [decide_eq_true h1] at HA
    rw [decide_eq_true h2] at HT
    rw [decide_eq_true h1,decide_eq_true h2] at HL
    clear h1 h2
    generalize ordV s.data.toList t.data.toList = k at *
    go_enter Tryz.func49,Tryz.ntmps49
    go_wp2_with fail
    refine HA.out.mono ?_
    rintro e w1 ⟨rfl,hb1⟩
    have HB1:=hid hb1
    clear hb1
    go_wp2_with fail
    refine (HT.out _).mono ?_
    rintro e w2 ⟨rfl,hb2⟩
    have HB2:=hid (HB1.out.trans (hb2.mono HB1.out.size))
    clear hb2
    go_wp2_with fail
    refine (HO.out _).mono ?_
    rintro e w3 ⟨rfl,hb3⟩
    have HB3:=hid (HB2.out.trans (hb3.mono HB2.out.size))
    clear hb3
    go_wp2_with fail
    go_ret
    exact ⟨ret_bool (by rw [HL.out]; rfl),HB3.out⟩
  · rw [decide_eq_true h1] at HA
    rw [decide_eq_false h2] at HT
    rw [decide_eq_true h1,decide_eq_false h2] at HL
    clear h1 h2
    go_enter Tryz.func49,Tryz.ntmps49
    go_wp2_with fail
    refine HA.out.mono ?_
    rintro e w1 ⟨rfl,hb1⟩
    have HB1:=hid hb1
    clear hb1
    go_wp2_with fail
    refine (HT.out _).mono ?_
    rintro e w2 ⟨rfl,hb2⟩
    have HB2:=hid (HB1.out.trans (hb2.mono HB1.out.size))
    clear hb2
    go_wp2_with fail
    go_ret
    exact ⟨ret_bool (by rw [HL.out]; rfl),HB2.out⟩
  · rw [decide_eq_false h1] at HA
    rw [decide_eq_true h2] at HT
    rw [decide_eq_false h1] at HL
    clear h1 h2
    go_enter Tryz.func49,Tryz.ntmps49
    go_wp2_with fail
    refine HA.out.mono ?_
    rintro e w1 ⟨rfl,hb1⟩
    have HB1:=hid hb1
    clear hb1
    go_wp2_with fail
    refine (HT.out _).mono ?_
    rintro e w2 ⟨rfl,hb2⟩
    have HB2:=hid (HB1.out.trans (hb2.mono HB1.out.size))
    clear hb2
    go_wp2_with fail
    go_ret
    exact ⟨ret_bool (by rw [HL.out]; rfl),HB2.out⟩
  · rw [decide_eq_false h1] at HA
    rw [decide_eq_false h2] at HT
    rw [decide_eq_false h1] at HL
    clear h1 h2
    go_enter Tryz.func49,Tryz.ntmps49
    go_wp2_with fail
    refine HA.out.mono ?_
    rintro e w1 ⟨rfl,hb1⟩
    have HB1:=hid hb1
    clear hb1
    go_wp2_with fail
    refine (HT.out _).mono ?_
    rintro e w2 ⟨rfl,hb2⟩
    have HB2:=hid (HB1.out.trans (hb2.mono HB1.out.size))
    clear hb2
    go_wp2_with fail
    go_ret
    exact ⟨ret_bool (by rw [HL.out]; rfl),HB2.out⟩
end Ve
end Go.Proofs.YtlcffhadobhfkaaGreatDoor
