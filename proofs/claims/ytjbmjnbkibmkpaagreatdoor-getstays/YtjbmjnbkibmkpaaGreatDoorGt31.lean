
import Derived.Test.YtjbmjnbkibmkpaaGreatDoorGt30
import Derived.Test.YtjbmjnbkibmkpaaGreatDoorGt7
import Derived.Deep.SlicePairs
import Derived.Lib.SmallJoins
import Derived.SliceStrings
import Derived.ProofKit
import Derived.LaidMore
import Derived.Lay
import Derived.Stop.Joined
import Derived.HandedShaped
import Derived.LaidLaws
import Derived.Below
import Derived.Test.YtjbmjnbkibmkpaaGreatDoorRows
import Derived.Test.YtjbmjnbkibmkpaaGreatDoorGt8
import Derived.Test.YtjbmjnbkibmkpaaGreatDoorGt3
import Derived.LaidHandle
import Derived.Stop.LaidTwo
import Derived.Shelf.Vars
import Derived.Carry
import Derived.Test.YtjbmjnbkibmkpaaGreatDoorGt12
set_option maxHeartbeats 8000000
namespace Go.Proofs.YtjbmjnbkibmkpaaGreatDoor
open Go.RowKit Go.Maps
namespace Ve
set_option maxRecDepth 100000 in
theorem gs_long1 (Q0 : List Raw) (L : List Ent) (p : ByteArray) (R X : List Bm) (G : List ByteArray) (v rv xv gv : Value) (A : Nat -> Addr) (m : Int) (w : World) (S : Te w A m) (Dz : Ds w A) (hT : TabT w) (I : Ixs w v Q0 L) (hr : MsAt w rv R) (hx : MsAt w xv X) (hg : TxAt w gv G) (hok : okI L = false) :
  Calls Tryz.prog 3 #[v,.agg #[.string p,rv,xv],gv] w fun e w'=>e = .returned (.bool true) /\ Below w.heap.size w w':=by
 obtain ⟨a0,c0,hv0,-⟩:=id I.es
 obtain ⟨ra,rc,hrv,-⟩:=id hr
 obtain ⟨xa,xc,hxv,-⟩:=id hx
 obtain ⟨ga,gc,hgv,-⟩:=id hg
 subst hv0
 subst hrv
 subst hxv
 subst hgv
 have HB0:=hid ((Below.refl w.heap.size w).alloc (Nat.le_refl _) (.cells #[.string p,.slice ra R.length rc,.slice xa X.length xc] 25))
 have HFB:=hid (show Fb w (w.alloc (.cells #[.string p,.slice ra R.length rc,.slice xa X.length xc] 25)) p (.slice ra R.length rc) (.slice xa X.length xc) from heap_new w _)
 have HGO:=hid (fun W (h : Below w.heap.size w W)=>got_any A m W (S.below h) (Dz.below h) (stayTab _ _ hT h))
 have HLO:=hid (fun W (h : Below w.heap.size w W)=>longIQ_any Q0 L _ W (I.below h))
 rw [if_neg (by rw [hok]; exact Bool.false_ne_true)] at HLO
 clear S Dz hT I hr hx hg
 go_enter Tryz.func3,Tryz.ntmps3
 go_wp2_with fail
 generalize w.alloc (.cells #[.string p,.slice ra R.length rc,.slice xa X.length xc] 25) = wa at *
 refine (HGO.out wa HB0.out).mono ?_
 rintro e w1 ⟨rfl,hb⟩
 have HB1:=hid (HB0.out.trans (hb.mono HB0.out.size))
 have HF1:=hid (HFB.out.below hb)
 clear hb HB0 HFB HGO
 obtain ⟨f0,f1,f2,ff,fl⟩:=cells3 HF1.out
 have HQA:=hid (fun n=>HLO.out (w1.drewN n) (HB1.out.trans ((below_drawn w1 n).mono HB1.out.size)))
 clear HLO
 go_wp2_with fail
 go_quiet (first
  | (go_at_call_of 5 (Value.slice a0 Q0.length c0); refine (HQA.out _).mono fun e w' h=>⟨h.1,_,h.2⟩))
 have HB2:=hid (HB1.out.trans ((below_drawn w1 nq).mono HB1.out.size))
 clear f0 f1 f2 ff fl HB1 HF1 HQA
 go_wp2_with fail
 go_ret
 exact ⟨rfl,HB2.out⟩
set_option maxRecDepth 100000 in
theorem gs_long2 (Q0 : List Raw) (L : List Ent) (p : ByteArray) (R X : List Bm) (G : List ByteArray) (v rv xv gv : Value) (A : Nat -> Addr) (m : Int) (w : World) (S : Te w A m) (Dz : Ds w A) (hT : TabT w) (I : Ixs w v Q0 L) (hr : MsAt w rv R) (hx : MsAt w xv X) (hg : TxAt w gv G) (hok : okI L = true) (hn : 30 < L.length) :
  Calls Tryz.prog 3 #[v,.agg #[.string p,rv,xv],gv] w fun e w'=>e = .returned (.bool true) /\ Below w.heap.size w w':=by
 obtain ⟨a0,c0,hv0,-⟩:=id I.es
 obtain ⟨ra,rc,hrv,-⟩:=id hr
 obtain ⟨xa,xc,hxv,-⟩:=id hx
 obtain ⟨ga,gc,hgv,-⟩:=id hg
 subst hv0
 subst hrv
 subst hxv
 subst hgv
 have hq31 : (30 : Int) < (Q0.length : Int):=by rw [I.ln]; omega
 have q30 : decide ((30 : Int) < (Q0.length : Int)) = true:=decide_eq_true hq31
 have HB0:=hid ((Below.refl w.heap.size w).alloc (Nat.le_refl _) (.cells #[.string p,.slice ra R.length rc,.slice xa X.length xc] 25))
 have HFB:=hid (show Fb w (w.alloc (.cells #[.string p,.slice ra R.length rc,.slice xa X.length xc] 25)) p (.slice ra R.length rc) (.slice xa X.length xc) from heap_new w _)
 have HGO:=hid (fun W (h : Below w.heap.size w W)=>got_any A m W (S.below h) (Dz.below h) (stayTab _ _ hT h))
 have HLO:=hid (fun W (h : Below w.heap.size w W)=>longIQ_any Q0 L _ W (I.below h))
 rw [if_pos hok] at HLO
 clear S Dz hT I hr hx hg
 go_enter Tryz.func3,Tryz.ntmps3
 go_wp2_with fail
 generalize w.alloc (.cells #[.string p,.slice ra R.length rc,.slice xa X.length xc] 25) = wa at *
 refine (HGO.out wa HB0.out).mono ?_
 rintro e w1 ⟨rfl,hb⟩
 have HB1:=hid (HB0.out.trans (hb.mono HB0.out.size))
 have HF1:=hid (HFB.out.below hb)
 clear hb HB0 HFB HGO
 obtain ⟨f0,f1,f2,ff,fl⟩:=cells3 HF1.out
 have HQA:=hid (fun n=>HLO.out (w1.drewN n) (HB1.out.trans ((below_drawn w1 n).mono HB1.out.size)))
 clear HLO
 go_wp2_with fail
 go_quiet (first
  | (go_at_call_of 5 (Value.slice a0 Q0.length c0); refine (HQA.out _).mono fun e w' h=>⟨h.1,_,h.2⟩))
 have HB2:=hid (HB1.out.trans ((below_drawn w1 nq).mono HB1.out.size))
 clear f0 f1 f2 ff fl HB1 HF1 HQA
 go_wp2_with fail
 go_ret
 exact ⟨rfl,HB2.out⟩
set_option maxRecDepth 100000 in
theorem gs_long3 (Q0 : List Raw) (L : List Ent) (p : ByteArray) (R X : List Bm) (G : List ByteArray) (v rv xv gv : Value) (A : Nat -> Addr) (m : Int) (w : World) (S : Te w A m) (Dz : Ds w A) (hT : TabT w) (I : Ixs w v Q0 L) (hr : MsAt w rv R) (hx : MsAt w xv X) (hg : TxAt w gv G) (hok : okI L = true) (hn : L.length <= 30) (hp : 70 < p.size) :
  Calls Tryz.prog 3 #[v,.agg #[.string p,rv,xv],gv] w fun e w'=>e = .returned (.bool true) /\ Below w.heap.size w w':=by
 obtain ⟨a0,c0,hv0,-⟩:=id I.es
 obtain ⟨ra,rc,hrv,-⟩:=id hr
 obtain ⟨xa,xc,hxv,-⟩:=id hx
 obtain ⟨ga,gc,hgv,-⟩:=id hg
 subst hv0
 subst hrv
 subst hxv
 subst hgv
 have hq31 : ¬ (30 : Int) < (Q0.length : Int):=by rw [I.ln]; omega
 have q30 : decide ((30 : Int) < (Q0.length : Int)) = false:=decide_eq_false hq31
 have hp70 : (70 : Int) < (p.size : Int):=by omega
 have q70 : decide ((70 : Int) < (p.size : Int)) = true:=decide_eq_true hp70
 have HB0:=hid ((Below.refl w.heap.size w).alloc (Nat.le_refl _) (.cells #[.string p,.slice ra R.length rc,.slice xa X.length xc] 25))
 have HFB:=hid (show Fb w (w.alloc (.cells #[.string p,.slice ra R.length rc,.slice xa X.length xc] 25)) p (.slice ra R.length rc) (.slice xa X.length xc) from heap_new w _)
 have HGO:=hid (fun W (h : Below w.heap.size w W)=>got_any A m W (S.below h) (Dz.below h) (stayTab _ _ hT h))
 have HLO:=hid (fun W (h : Below w.heap.size w W)=>longIQ_any Q0 L _ W (I.below h))
 rw [if_pos hok] at HLO
 clear S Dz hT I hr hx hg
 go_enter Tryz.func3,Tryz.ntmps3
 go_wp2_with fail
 generalize w.alloc (.cells #[.string p,.slice ra R.length rc,.slice xa X.length xc] 25) = wa at *
 refine (HGO.out wa HB0.out).mono ?_
 rintro e w1 ⟨rfl,hb⟩
 have HB1:=hid (HB0.out.trans (hb.mono HB0.out.size))
 have HF1:=hid (HFB.out.below hb)
 clear hb HB0 HFB HGO
 obtain ⟨f0,f1,f2,ff,fl⟩:=cells3 HF1.out
 have HQA:=hid (fun n=>HLO.out (w1.drewN n) (HB1.out.trans ((below_drawn w1 n).mono HB1.out.size)))
 clear HLO
 go_wp2_with fail
 go_quiet (first
  | (go_at_call_of 5 (Value.slice a0 Q0.length c0); refine (HQA.out _).mono fun e w' h=>⟨h.1,_,h.2⟩))
 have HB2:=hid (HB1.out.trans ((below_drawn w1 nq).mono HB1.out.size))
 clear f0 f1 f2 ff fl HB1 HF1 HQA
 go_wp2_with fail
 go_ret
 exact ⟨rfl,HB2.out⟩
set_option maxRecDepth 100000 in
theorem gs_long4 (Q0 : List Raw) (L : List Ent) (p : ByteArray) (R X : List Bm) (G : List ByteArray) (v rv xv gv : Value) (A : Nat -> Addr) (m : Int) (w : World) (S : Te w A m) (Dz : Ds w A) (hT : TabT w) (I : Ixs w v Q0 L) (hr : MsAt w rv R) (hx : MsAt w xv X) (hg : TxAt w gv G) (hok : okI L = true) (hn : L.length <= 30) (hp : p.size <= 70) (hR : okLN 25 R = false) (hX : okLN 25 X = true) :
  Calls Tryz.prog 3 #[v,.agg #[.string p,rv,xv],gv] w fun e w'=>e = .returned (.bool true) /\ Below w.heap.size w w':=by
 obtain ⟨a0,c0,hv0,-⟩:=id I.es
 obtain ⟨ra,rc,hrv,-⟩:=id hr
 obtain ⟨xa,xc,hxv,-⟩:=id hx
 obtain ⟨ga,gc,hgv,-⟩:=id hg
 subst hv0
 subst hrv
 subst hxv
 subst hgv
 have hq31 : ¬ (30 : Int) < (Q0.length : Int):=by rw [I.ln]; omega
 have q30 : decide ((30 : Int) < (Q0.length : Int)) = false:=decide_eq_false hq31
 have hp70 : ¬ (70 : Int) < (p.size : Int):=by omega
 have q70 : decide ((70 : Int) < (p.size : Int)) = false:=decide_eq_false hp70
 have HB0:=hid ((Below.refl w.heap.size w).alloc (Nat.le_refl _) (.cells #[.string p,.slice ra R.length rc,.slice xa X.length xc] 25))
 have HFB:=hid (show Fb w (w.alloc (.cells #[.string p,.slice ra R.length rc,.slice xa X.length xc] 25)) p (.slice ra R.length rc) (.slice xa X.length xc) from heap_new w _)
 have HGO:=hid (fun W (h : Below w.heap.size w W)=>got_any A m W (S.below h) (Dz.below h) (stayTab _ _ hT h))
 have HLO:=hid (fun W (h : Below w.heap.size w W)=>longIQ_any Q0 L _ W (I.below h))
 rw [if_pos hok] at HLO
 have HLR:=hid (fun W (h : Below w.heap.size w W)=>longN_any 25 (by decide) R _ W (hr.below h))
 rw [if_neg (by rw [hR]; exact Bool.false_ne_true)] at HLR
 have HLX:=hid (fun W (h : Below w.heap.size w W)=>longN_any 25 (by decide) X _ W (hx.below h))
 rw [if_pos hX] at HLX
 clear S Dz hT I hr hx hg
 go_enter Tryz.func3,Tryz.ntmps3
 go_wp2_with fail
 generalize w.alloc (.cells #[.string p,.slice ra R.length rc,.slice xa X.length xc] 25) = wa at *
 refine (HGO.out wa HB0.out).mono ?_
 rintro e w1 ⟨rfl,hb⟩
 have HB1:=hid (HB0.out.trans (hb.mono HB0.out.size))
 have HF1:=hid (HFB.out.below hb)
 clear hb HB0 HFB HGO
 obtain ⟨f0,f1,f2,ff,fl⟩:=cells3 HF1.out
 have HQA:=hid (fun n=>HLO.out (w1.drewN n) (HB1.out.trans ((below_drawn w1 n).mono HB1.out.size)))
 have HQB:=hid (fun n=>HLR.out (w1.drewN n) (HB1.out.trans ((below_drawn w1 n).mono HB1.out.size)))
 have HQC:=hid (fun n=>HLX.out (w1.drewN n) (HB1.out.trans ((below_drawn w1 n).mono HB1.out.size)))
 clear HLO HLR HLX
 go_wp2_with fail
 go_quiet (first
  | (go_at_call_of 5 (Value.slice a0 Q0.length c0); refine (HQA.out _).mono fun e w' h=>⟨h.1,_,h.2⟩)
  | (go_at_call_of 6 (Value.slice ra R.length rc); refine (HQB.out _).mono fun e w' h=>⟨h.1,_,h.2⟩)
  | (go_at_call_of 6 (Value.slice xa X.length xc); refine (HQC.out _).mono fun e w' h=>⟨h.1,_,h.2⟩))
 have HB2:=hid (HB1.out.trans ((below_drawn w1 nq).mono HB1.out.size))
 clear f0 f1 f2 ff fl HB1 HF1 HQA HQB HQC
 go_wp2_with fail
 go_ret
 exact ⟨rfl,HB2.out⟩
set_option maxRecDepth 100000 in
theorem gs_long5 (Q0 : List Raw) (L : List Ent) (p : ByteArray) (R X : List Bm) (G : List ByteArray) (v rv xv gv : Value) (A : Nat -> Addr) (m : Int) (w : World) (S : Te w A m) (Dz : Ds w A) (hT : TabT w) (I : Ixs w v Q0 L) (hr : MsAt w rv R) (hx : MsAt w xv X) (hg : TxAt w gv G) (hok : okI L = true) (hn : L.length <= 30) (hp : p.size <= 70) (hR : okLN 25 R = true) (hX : okLN 25 X = false) :
  Calls Tryz.prog 3 #[v,.agg #[.string p,rv,xv],gv] w fun e w'=>e = .returned (.bool true) /\ Below w.heap.size w w':=by
 obtain ⟨a0,c0,hv0,-⟩:=id I.es
 obtain ⟨ra,rc,hrv,-⟩:=id hr
 obtain ⟨xa,xc,hxv,-⟩:=id hx
 obtain ⟨ga,gc,hgv,-⟩:=id hg
 subst hv0
 subst hrv
 subst hxv
 subst hgv
 have hq31 : ¬ (30 : Int) < (Q0.length : Int):=by rw [I.ln]; omega
 have q30 : decide ((30 : Int) < (Q0.length : Int)) = false:=decide_eq_false hq31
 have hp70 : ¬ (70 : Int) < (p.size : Int):=by omega
 have q70 : decide ((70 : Int) < (p.size : Int)) = false:=decide_eq_false hp70
 have HB0:=hid ((Below.refl w.heap.size w).alloc (Nat.le_refl _) (.cells #[.string p,.slice ra R.length rc,.slice xa X.length xc] 25))
 have HFB:=hid (show Fb w (w.alloc (.cells #[.string p,.slice ra R.length rc,.slice xa X.length xc] 25)) p (.slice ra R.length rc) (.slice xa X.length xc) from heap_new w _)
 have HGO:=hid (fun W (h : Below w.heap.size w W)=>got_any A m W (S.below h) (Dz.below h) (stayTab _ _ hT h))
 have HLO:=hid (fun W (h : Below w.heap.size w W)=>longIQ_any Q0 L _ W (I.below h))
 rw [if_pos hok] at HLO
 have HLR:=hid (fun W (h : Below w.heap.size w W)=>longN_any 25 (by decide) R _ W (hr.below h))
 rw [if_pos hR] at HLR
 have HLX:=hid (fun W (h : Below w.heap.size w W)=>longN_any 25 (by decide) X _ W (hx.below h))
 rw [if_neg (by rw [hX]; exact Bool.false_ne_true)] at HLX
 clear S Dz hT I hr hx hg
 go_enter Tryz.func3,Tryz.ntmps3
 go_wp2_with fail
 generalize w.alloc (.cells #[.string p,.slice ra R.length rc,.slice xa X.length xc] 25) = wa at *
 refine (HGO.out wa HB0.out).mono ?_
 rintro e w1 ⟨rfl,hb⟩
 have HB1:=hid (HB0.out.trans (hb.mono HB0.out.size))
 have HF1:=hid (HFB.out.below hb)
 clear hb HB0 HFB HGO
 obtain ⟨f0,f1,f2,ff,fl⟩:=cells3 HF1.out
 have HQA:=hid (fun n=>HLO.out (w1.drewN n) (HB1.out.trans ((below_drawn w1 n).mono HB1.out.size)))
 have HQB:=hid (fun n=>HLR.out (w1.drewN n) (HB1.out.trans ((below_drawn w1 n).mono HB1.out.size)))
 have HQC:=hid (fun n=>HLX.out (w1.drewN n) (HB1.out.trans ((below_drawn w1 n).mono HB1.out.size)))
 clear HLO HLR HLX
 go_wp2_with fail
 go_quiet (first
  | (go_at_call_of 5 (Value.slice a0 Q0.length c0); refine (HQA.out _).mono fun e w' h=>⟨h.1,_,h.2⟩)
  | (go_at_call_of 6 (Value.slice ra R.length rc); refine (HQB.out _).mono fun e w' h=>⟨h.1,_,h.2⟩)
  | (go_at_call_of 6 (Value.slice xa X.length xc); refine (HQC.out _).mono fun e w' h=>⟨h.1,_,h.2⟩))
 have HB2:=hid (HB1.out.trans ((below_drawn w1 nq).mono HB1.out.size))
 clear f0 f1 f2 ff fl HB1 HF1 HQA HQB HQC
 go_wp2_with fail
 go_ret
 exact ⟨rfl,HB2.out⟩
set_option maxRecDepth 100000 in
theorem gs_long6 (Q0 : List Raw) (L : List Ent) (p : ByteArray) (R X : List Bm) (G : List ByteArray) (v rv xv gv : Value) (A : Nat -> Addr) (m : Int) (w : World) (S : Te w A m) (Dz : Ds w A) (hT : TabT w) (I : Ixs w v Q0 L) (hr : MsAt w rv R) (hx : MsAt w xv X) (hg : TxAt w gv G) (hok : okI L = true) (hn : L.length <= 30) (hp : p.size <= 70) (hR : okLN 25 R = false) (hX : okLN 25 X = false) :
  Calls Tryz.prog 3 #[v,.agg #[.string p,rv,xv],gv] w fun e w'=>e = .returned (.bool true) /\ Below w.heap.size w w':=by
 obtain ⟨a0,c0,hv0,-⟩:=id I.es
 obtain ⟨ra,rc,hrv,-⟩:=id hr
 obtain ⟨xa,xc,hxv,-⟩:=id hx
 obtain ⟨ga,gc,hgv,-⟩:=id hg
 subst hv0
 subst hrv
 subst hxv
 subst hgv
 have hq31 : ¬ (30 : Int) < (Q0.length : Int):=by rw [I.ln]; omega
 have q30 : decide ((30 : Int) < (Q0.length : Int)) = false:=decide_eq_false hq31
 have hp70 : ¬ (70 : Int) < (p.size : Int):=by omega
 have q70 : decide ((70 : Int) < (p.size : Int)) = false:=decide_eq_false hp70
 have HB0:=hid ((Below.refl w.heap.size w).alloc (Nat.le_refl _) (.cells #[.string p,.slice ra R.length rc,.slice xa X.length xc] 25))
 have HFB:=hid (show Fb w (w.alloc (.cells #[.string p,.slice ra R.length rc,.slice xa X.length xc] 25)) p (.slice ra R.length rc) (.slice xa X.length xc) from heap_new w _)
 have HGO:=hid (fun W (h : Below w.heap.size w W)=>got_any A m W (S.below h) (Dz.below h) (stayTab _ _ hT h))
 have HLO:=hid (fun W (h : Below w.heap.size w W)=>longIQ_any Q0 L _ W (I.below h))
 rw [if_pos hok] at HLO
 have HLR:=hid (fun W (h : Below w.heap.size w W)=>longN_any 25 (by decide) R _ W (hr.below h))
 rw [if_neg (by rw [hR]; exact Bool.false_ne_true)] at HLR
 have HLX:=hid (fun W (h : Below w.heap.size w W)=>longN_any 25 (by decide) X _ W (hx.below h))
 rw [if_neg (by rw [hX]; exact Bool.false_ne_true)] at HLX
 clear S Dz hT I hr hx hg
 go_enter Tryz.func3,Tryz.ntmps3
 go_wp2_with fail
 generalize w.alloc (.cells #[.string p,.slice ra R.length rc,.slice xa X.length xc] 25) = wa at *
 refine (HGO.out wa HB0.out).mono ?_
 rintro e w1 ⟨rfl,hb⟩
 have HB1:=hid (HB0.out.trans (hb.mono HB0.out.size))
 have HF1:=hid (HFB.out.below hb)
 clear hb HB0 HFB HGO
 obtain ⟨f0,f1,f2,ff,fl⟩:=cells3 HF1.out
 have HQA:=hid (fun n=>HLO.out (w1.drewN n) (HB1.out.trans ((below_drawn w1 n).mono HB1.out.size)))
 have HQB:=hid (fun n=>HLR.out (w1.drewN n) (HB1.out.trans ((below_drawn w1 n).mono HB1.out.size)))
 have HQC:=hid (fun n=>HLX.out (w1.drewN n) (HB1.out.trans ((below_drawn w1 n).mono HB1.out.size)))
 clear HLO HLR HLX
 go_wp2_with fail
 go_quiet (first
  | (go_at_call_of 5 (Value.slice a0 Q0.length c0); refine (HQA.out _).mono fun e w' h=>⟨h.1,_,h.2⟩)
  | (go_at_call_of 6 (Value.slice ra R.length rc); refine (HQB.out _).mono fun e w' h=>⟨h.1,_,h.2⟩)
  | (go_at_call_of 6 (Value.slice xa X.length xc); refine (HQC.out _).mono fun e w' h=>⟨h.1,_,h.2⟩))
 have HB2:=hid (HB1.out.trans ((below_drawn w1 nq).mono HB1.out.size))
 clear f0 f1 f2 ff fl HB1 HF1 HQA HQB HQC
 go_wp2_with fail
 go_ret
 exact ⟨rfl,HB2.out⟩
set_option maxRecDepth 100000 in
theorem gs_long7 (Q0 : List Raw) (L : List Ent) (p : ByteArray) (R X : List Bm) (G : List ByteArray) (v rv xv gv : Value) (A : Nat -> Addr) (m : Int) (w : World) (S : Te w A m) (Dz : Ds w A) (hT : TabT w) (I : Ixs w v Q0 L) (hr : MsAt w rv R) (hx : MsAt w xv X) (hg : TxAt w gv G) (hok : okI L = true) (hn : L.length <= 30) (hp : p.size <= 70) (hR : okLN 25 R = true) (hX : okLN 25 X = true) (hA : okA G = false) :
  Calls Tryz.prog 3 #[v,.agg #[.string p,rv,xv],gv] w fun e w'=>e = .returned (.bool true) /\ Below w.heap.size w w':=by
 obtain ⟨a0,c0,hv0,-⟩:=id I.es
 obtain ⟨ra,rc,hrv,-⟩:=id hr
 obtain ⟨xa,xc,hxv,-⟩:=id hx
 obtain ⟨ga,gc,hgv,-⟩:=id hg
 subst hv0
 subst hrv
 subst hxv
 subst hgv
 have hq31 : ¬ (30 : Int) < (Q0.length : Int):=by rw [I.ln]; omega
 have q30 : decide ((30 : Int) < (Q0.length : Int)) = false:=decide_eq_false hq31
 have hp70 : ¬ (70 : Int) < (p.size : Int):=by omega
 have q70 : decide ((70 : Int) < (p.size : Int)) = false:=decide_eq_false hp70
 have HB0:=hid ((Below.refl w.heap.size w).alloc (Nat.le_refl _) (.cells #[.string p,.slice ra R.length rc,.slice xa X.length xc] 25))
 have HFB:=hid (show Fb w (w.alloc (.cells #[.string p,.slice ra R.length rc,.slice xa X.length xc] 25)) p (.slice ra R.length rc) (.slice xa X.length xc) from heap_new w _)
 have HGO:=hid (fun W (h : Below w.heap.size w W)=>got_any A m W (S.below h) (Dz.below h) (stayTab _ _ hT h))
 have HLO:=hid (fun W (h : Below w.heap.size w W)=>longIQ_any Q0 L _ W (I.below h))
 rw [if_pos hok] at HLO
 have HLR:=hid (fun W (h : Below w.heap.size w W)=>longN_any 25 (by decide) R _ W (hr.below h))
 rw [if_pos hR] at HLR
 have HLX:=hid (fun W (h : Below w.heap.size w W)=>longN_any 25 (by decide) X _ W (hx.below h))
 rw [if_pos hX] at HLX
 have HLA:=hid (fun W (h : Below w.heap.size w W)=>longA_any G _ W (hg.below h))
 rw [hA] at HLA
 clear S Dz hT I hr hx hg
 go_enter Tryz.func3,Tryz.ntmps3
 go_wp2_with fail
 generalize w.alloc (.cells #[.string p,.slice ra R.length rc,.slice xa X.length xc] 25) = wa at *
 refine (HGO.out wa HB0.out).mono ?_
 rintro e w1 ⟨rfl,hb⟩
 have HB1:=hid (HB0.out.trans (hb.mono HB0.out.size))
 have HF1:=hid (HFB.out.below hb)
 clear hb HB0 HFB HGO
 obtain ⟨f0,f1,f2,ff,fl⟩:=cells3 HF1.out
 have HQA:=hid (fun n=>HLO.out (w1.drewN n) (HB1.out.trans ((below_drawn w1 n).mono HB1.out.size)))
 have HQB:=hid (fun n=>HLR.out (w1.drewN n) (HB1.out.trans ((below_drawn w1 n).mono HB1.out.size)))
 have HQC:=hid (fun n=>HLX.out (w1.drewN n) (HB1.out.trans ((below_drawn w1 n).mono HB1.out.size)))
 have HQD:=hid (fun n=>HLA.out (w1.drewN n) (HB1.out.trans ((below_drawn w1 n).mono HB1.out.size)))
 clear HLO HLR HLX HLA
 go_wp2_with fail
 go_quiet (first
  | (go_at_call_of 5 (Value.slice a0 Q0.length c0); refine (HQA.out _).mono fun e w' h=>⟨h.1,_,h.2⟩)
  | (go_at_call_of 6 (Value.slice ra R.length rc); refine (HQB.out _).mono fun e w' h=>⟨h.1,_,h.2⟩)
  | (go_at_call_of 6 (Value.slice xa X.length xc); refine (HQC.out _).mono fun e w' h=>⟨h.1,_,h.2⟩)
  | (go_at_call_of 7 (Value.slice ga G.length gc); refine (HQD.out _).mono fun e w' h=>⟨h.1,_,h.2⟩))
 have HB2:=hid (HB1.out.trans ((below_drawn w1 nq).mono HB1.out.size))
 clear f0 f1 f2 ff fl HB1 HF1 HQA HQB HQC HQD
 go_wp2_with fail
 go_ret
 exact ⟨rfl,HB2.out⟩
theorem getStays_any (Q0 : List Raw) (L : List Ent) (p : ByteArray) (R X : List Bm) (G : List ByteArray) (v rv xv gv : Value) (A : Nat -> Addr) (m : Int) (w : World) (S : Te w A m) (Dz : Ds w A) (hT : TabT w) (I : Ixs w v Q0 L) (em : EmI Q0 L) (hr : MsAt w rv R) (hx : MsAt w xv X) (her : Em rv R) (hex : Em xv X) (hg : TxAt w gv G) :
  Calls Tryz.prog 3 #[v,.agg #[.string p,rv,xv],gv] w fun e w'=>e = .returned (.bool true) /\ Below w.heap.size w w':=by
 cases hok : okI L with
 | false=>exact gs_long1 Q0 L p R X G v rv xv gv A m w S Dz hT I hr hx hg hok
 | true=>
  by_cases hn : 30 < L.length
  ·exact gs_long2 Q0 L p R X G v rv xv gv A m w S Dz hT I hr hx hg hok hn
  have hn' : L.length <= 30:=by omega
  by_cases hp : 70 < p.size
  ·exact gs_long3 Q0 L p R X G v rv xv gv A m w S Dz hT I hr hx hg hok hn' hp
  have hp' : p.size <= 70:=by omega
  cases hR : okLN 25 R with
  | false=>
   cases hX : okLN 25 X with
   | false=>exact gs_long6 Q0 L p R X G v rv xv gv A m w S Dz hT I hr hx hg hok hn' hp' hR hX
   | true=>exact gs_long4 Q0 L p R X G v rv xv gv A m w S Dz hT I hr hx hg hok hn' hp' hR hX
  | true=>
   cases hX : okLN 25 X with
   | false=>exact gs_long5 Q0 L p R X G v rv xv gv A m w S Dz hT I hr hx hg hok hn' hp' hR hX
   | true=>
    cases hA : okA G with
    | false=>exact gs_long7 Q0 L p R X G v rv xv gv A m w S Dz hT I hr hx hg hok hn' hp' hR hX hA
    | true=>exact gs_main Q0 L p R X G v rv xv gv A m w S Dz hT I em hr hx her hex hg ⟨hok,hn',hp',hR,hX,hA⟩
end Ve
end Go.Proofs.YtjbmjnbkibmkpaaGreatDoor


namespace Go.Proofs.YtjbmjnbkibmkpaaGreatDoor
open Go.ChangeShapes Go.WideShapes Go.ChangeAt Go.RowKit Go.ChangeMaps Go.Joins
namespace Ve
theorem oCellsMod : Tryz.prog.cellsOf 47 = 2:=by kernel_rfl
theorem oCellsStr : Tryz.prog.cellsOf 9 = 1:=by kernel_rfl
theorem oCellsEnt : Tryz.prog.cellsOf 54 = 5:=by kernel_rfl
theorem oCellsMods : Tryz.prog.cellsOf 23 = 1:=by kernel_rfl
theorem oCellsSstr : Tryz.prog.cellsOf 26 = 1:=by kernel_rfl
theorem oCellsBool : Tryz.prog.cellsOf 4 = 1:=by kernel_rfl
def strOf : Value -> ByteArray
 | .string s=>s
 | _=>⟨#[]⟩
set_option maxRecDepth 100000 in
theorem open_ms {H : Type} {enc : TypeId × Value -> H} {w : World} {base fuel : Nat} {held : Bool} {v : Value} {x : DataW H × List MemPlace}
  (h : DataW.trod enc Tryz.prog w base (fun _=>true) held fuel 23 [v] = some x) : ∃ L,MsAt w v L /\ Em v L:=by
 rcases Go.Deep.open_slice_pairs Tryz.underlying23 Tryz.underlying47 oCellsMod rfl rfl oCellsStr oCellsStr h with ⟨hcs,_⟩ | ⟨a,len,cap,m,n,V0,V1,D0,D1,P0,P1,hcs,_,hl,_,hm,_,hx⟩
 ·simp only [List.cons.injEq,and_true] at hcs
  subst hcs
  exact ⟨[],⟨none,0,rfl,Nat.le_refl _,fun h=>absurd rfl h⟩,fun a c e _=>Or.inl e.symm⟩
 ·simp only [List.cons.injEq,and_true] at hcs
  subst hcs
  simp only [if_true] at hm
  subst hm
  have hlen : ((List.range len).map fun i=>(strOf (V0 i),strOf (V1 i))).length = len:=by simp
  refine ⟨(List.range len).map fun i=>(strOf (V0 i),strOf (V1 i)),⟨some a,m,by rw [hlen],by rw [hlen]; exact hl,fun hne=>?_⟩,fun a' c e h0=>?_⟩
  ·have h0l : 0 < len:=by rw [<- hlen]; exact List.length_pos_iff.2 hne
   obtain ⟨b,off,spot⟩:=a
   have hspot : spot = none:=by simpa [Addr.add] using World.cell?_spot (hx 0 (by omega)).1
   subst hspot
   refine ⟨b,off,rfl,fun j hj=>?_⟩
   have hj2 : j < len:=by rw [<- hlen]; exact hj
   obtain ⟨g0,g1,t0,t1⟩:=hx j (by omega)
   obtain ⟨s0,e0,_,_⟩:=DataW.trod_string Tryz.underlying9 t0
   obtain ⟨s1,e1,_,_⟩:=DataW.trod_string Tryz.underlying9 t1
   simp only [List.cons.injEq,and_true] at e0 e1
   rw [e0] at g0
   rw [e1] at g1
   simp only [List.getElem_map,List.getElem_range,e0,e1]
   rw [Addr.add_lit] at g0 g1
   exact ⟨g0,g1⟩
  ·have hz : len = 0:=by rw [<- hlen,h0]; rfl
   rw [hlen] at e
   subst hz
   right
   injection e with e1 e2 e3
   exact ⟨a,by rw [<- e1]⟩
set_option maxRecDepth 100000 in
theorem open_tx {H : Type} {enc : TypeId × Value -> H} {w : World} {base fuel : Nat} {held : Bool} {v : Value} {x : DataW H × List MemPlace}
  (h : DataW.trod enc Tryz.prog w base (fun _=>true) held fuel 26 [v] = some x) : ∃ X,TxAt w v X /\ EmT v X:=by
 rcases open_strings Tryz.underlying26 Tryz.underlying9 oCellsStr h with ⟨hcs,_⟩ | ⟨a,len,cap,ss,hcs,_,hl,_,hm,_,hx,_⟩
 ·simp only [List.cons.injEq,and_true] at hcs
  subst hcs
  exact ⟨[],⟨none,0,rfl,Nat.le_refl _,fun h=>absurd rfl h⟩,fun a c e _=>Or.inl e.symm⟩
 ·simp only [List.cons.injEq,and_true] at hcs
  subst hcs
  simp only [if_true] at hm
  have hlen : (ss.take len).length = len:=by rw [List.length_take]; omega
  refine ⟨ss.take len,⟨some a,cap,by rw [hlen],by rw [hlen]; exact hl,fun hne=>?_⟩,fun a' c e h0=>?_⟩
  ·have h0l : 0 < len:=by rw [<- hlen]; exact List.length_pos_iff.2 hne
   obtain ⟨b,off,spot⟩:=a
   have hspot : spot = none:=by simpa [Addr.add] using World.cell?_spot (hx 0 (by omega))
   subst hspot
   refine ⟨b,off,rfl,fun j hj=>?_⟩
   have hj2 : j < len:=by rw [<- hlen]; exact hj
   have g:=hx j (by omega)
   rw [Addr.add_lit,List.getD_eq_getElem?_getD,List.getElem?_eq_getElem (by omega)] at g
   rw [List.getElem_take]
   exact g
  ·have hz : len = 0:=by rw [<- hlen,h0]; rfl
   rw [hlen] at e
   subst hz
   right
   injection e with e1 e2 e3
   exact ⟨a,by rw [<- e1]⟩
set_option maxRecDepth 100000 in
theorem open_ent {H : Type} {enc : TypeId × Value -> H} {w : World} {base fuel : Nat} {held : Bool} {cs : List Value} {x : DataW H × List MemPlace}
  (h : DataW.trod enc Tryz.prog w base (fun _=>true) held fuel 54 cs = some x) : ∃ (r : Raw) (e : Ent),cs = rowR r /\ slR r /\ RawOk w r e /\ Em r.2.1 e.2.1 /\ EmT r.2.2.1 e.2.2.1:=by
 obtain ⟨y0,y1,y2,y3,n,_,hl,h0,h1,h2,h3⟩:=trod_struct4 Tryz.underlying54 h
 rw [oCellsEnt] at hl
 match cs,hl with
 | [c0,c1,c2,c3,c4],_=>
  simp only [oCellsMod,oCellsMods,oCellsSstr,oCellsBool,List.drop,List.take] at h0 h1 h2 h3
  obtain ⟨z0,z1,n2,_,_,k0,k1⟩:=trod_struct2 Tryz.underlying47 h0
  simp only [oCellsStr,List.drop,List.take] at k0 k1
  obtain ⟨s0,e0,_,_⟩:=DataW.trod_string Tryz.underlying9 k0
  obtain ⟨s1,e1,_,_⟩:=DataW.trod_string Tryz.underlying9 k1
  obtain ⟨R,hR,hER⟩:=open_ms h1
  obtain ⟨X,hX,hEX⟩:=open_tx h2
  obtain ⟨b,e4,_⟩:=DataW.trod_bool Tryz.underlying4 h3
  simp only [List.cons.injEq,and_true] at e0 e1 e4
  subst e0 e1 e4
  refine ⟨((s0,s1),c2,c3,b),((s0,s1),R,X,b),rfl,⟨?_,?_⟩,⟨rfl,hR,hX,rfl⟩,hER,hEX⟩
  ·obtain ⟨a,c,e,_⟩:=hR; exact ⟨_,_,_,e⟩
  ·obtain ⟨a,c,e,_⟩:=hX; exact ⟨_,_,_,e⟩
set_option maxRecDepth 100000 in
theorem open_ix {H : Type} {enc : TypeId × Value -> H} {w : World} {base fuel : Nat} {held : Bool} {v : Value} {x : DataW H × List MemPlace}
  (h : DataW.trod enc Tryz.prog w base (fun _=>true) held fuel 22 [v] = some x) : ∃ Q L,Ixs w v Q L /\ EmI Q L:=by
 rcases Go.Deep.open_slice Tryz.underlying22 h with ⟨hcs,_⟩ | ⟨a,len,cap,m,n,D,Pl,hcs,_,hl,_,hm,_,hx⟩
 ·simp only [List.cons.injEq,and_true] at hcs
  subst hcs
  exact ⟨[],[],⟨⟨none,0,rfl,Nat.le_refl _,fun r hr=>(by cases hr),fun h=>absurd rfl h⟩,rfl,fun j h1=>absurd h1 (Nat.not_lt_zero _)⟩,fun j h1=>absurd h1 (Nat.not_lt_zero _)⟩
 ·simp only [List.cons.injEq,and_true] at hcs
  subst hcs
  simp only [if_true] at hm
  subst hm
  have each : ∀ i,i < len -> ∃ q : Raw × Ent,(∀ c (hc : c < 5),w.cell? (a.add (i * 5 + c)) = (rowR q.1)[c]?) /\ slR q.1 /\ RawOk w q.1 q.2 /\ Em q.1.2.1 q.2.2.1 /\ EmT q.1.2.2.1 q.2.2.2.1:=fun i hi=>by
   obtain ⟨cs',h1,h2⟩:=hx i (by omega)
   obtain ⟨r,e,hcs,k1,k2,k3,k4⟩:=open_ent h2
   rw [oCellsEnt] at h1
   obtain ⟨_,hlen,hcell⟩:=World.cells?_some h1
   refine ⟨(r,e),fun c hc=>?_,k1,k2,k3,k4⟩
   have:=hcell c (by omega)
   rw [Go.Deep.add_add] at this
   rw [this,hcs]
  obtain ⟨q,hq⟩:=Go.Deep.choose_lt each
  have hlq : ((List.range len).map fun i=>(q i).1).length = len:=by simp
  have hll : ((List.range len).map fun i=>(q i).2).length = len:=by simp
  refine ⟨(List.range len).map fun i=>(q i).1,(List.range len).map fun i=>(q i).2,⟨⟨some a,m,by rw [hlq],by rw [hlq]; exact hl,fun r hr=>?_,fun hne=>?_⟩,by rw [hlq,hll],fun j h1 h2=>?_⟩,fun j h1 h2=>?_⟩
  ·obtain ⟨i,hi,rfl⟩:=List.mem_map.1 hr
   exact (hq i (List.mem_range.1 hi)).2.1
  ·have h0l : 0 < len:=by rw [<- hlq]; exact List.length_pos_iff.2 hne
   obtain ⟨b,off,spot⟩:=a
   have g0:=(hq 0 h0l).1 0 (by omega)
   have hspot : spot = none:=by
    have : ∃ u,World.cell? w ((⟨b,off,spot⟩ : Addr).add (0 * 5 + 0)) = some u:=⟨_,g0⟩
    obtain ⟨u,hu⟩:=this
    simpa [Addr.add] using World.cell?_spot hu
   subst hspot
   refine ⟨b,off,rfl,fun j hj=>?_⟩
   have hj2 : j < len:=by rw [<- hlq]; exact hj
   have g:=(hq j hj2).1
   simp only [List.getElem_map,List.getElem_range]
   refine ⟨?_,?_,?_,?_,?_⟩
   ·have:=g 0 (by omega); rw [Addr.add_lit] at this; exact this
   ·have:=g 1 (by omega); rw [Addr.add_lit] at this; exact this
   ·have:=g 2 (by omega); rw [Addr.add_lit] at this; exact this
   ·have:=g 3 (by omega); rw [Addr.add_lit] at this; exact this
   ·have:=g 4 (by omega); rw [Addr.add_lit] at this; exact this
  ·have hj2 : j < len:=by rw [<- hlq]; exact h1
   simp only [List.getElem_map,List.getElem_range]
   exact (hq j hj2).2.2.1
  ·have hj2 : j < len:=by rw [<- hlq]; exact h1
   simp only [List.getElem_map,List.getElem_range]
   exact (hq j hj2).2.2.2
end Ve
end Go.Proofs.YtjbmjnbkibmkpaaGreatDoor


namespace Go.Proofs.YtjbmjnbkibmkpaaGreatDoor
open Go.ChangeShapes Go.WideShapes Go.ChangeAt Go.RowKit
namespace Ve
theorem wrap_and_shaped {H : Type} {enc : TypeId × Value -> H} {a : Assume} {C : Checked} {os : Go.Os} {f : FuncId} {fn : Func} {s : ChangeSpec} {conds : List PathCond} {apart fresh handsOn again : Bool} {X : World -> Array Value -> Prop}
  (hX : ∀ (w w' : World) (args : Array Value),w.heap = w'.heap -> X w args -> X w' args)
  (own : ownKnob C.prog.godebug = none) (started : os.Started) (noInit : C.prog.inits.idxOf? f = none) (hfn : C.prog.funcs[f]? = some fn)
  (witness : ∃ (w : World) (tape : Tape) (i : Input),w.os = os /\ (w.forCall tape i).Shaped C.prog /\ i.vars = [] /\ Input.okWide C.prog (w.forCall tape i) .any w.heap.size f i /\
   ((s.pre enc C.prog fn conds apart (w.forCall tape i).memory i.args /\ X (w.forCall tape i).memory i.args) /\ sizedMet enc C.prog fn (OpenSpec.ofChange s) apart (w.forCall tape i).memory i.args) /\ a.holds C.prog (lone (Frame.enter C.prog f i.args .normal) [] (w.forCall tape i)))
  (contract : ∀ (W : World) (base : Nat) (args : Array Value) (ds gs : List (DataW H)) (before : List MemPlace),
   (∀ (j : Nat) t v,fn.params[j]? = some t -> args[j]? = some v -> Value.okWide C.prog W .any base t v) ->
   DataW.Whole enc C.prog fn.params.toList s.vars apart W args.toList ds gs before -> X W args -> W.ShapedOpen C.prog ->
   Calls C.prog f args W fun e W'=>∃ v,e = .returned v /\ s.post enc C.prog fn apart fresh handsOn again W args v W') :
  ReturnsInHanded a C os f .any (fun w args=>(s.pre enc C.prog fn conds apart w args /\ X w args) /\ sizedMet enc C.prog fn (OpenSpec.ofChange s) apart w args) (s.post enc C.prog fn apart fresh handsOn again):=by
 refine returnsInHanded_of_calls own started noInit witness ?_
 intro w tape i _ hsh _ hok hpre _
 obtain ⟨_,_,_,fn',hfn',_,_,_,_,hval⟩:=hok
 have e : fn' = fn:=Option.some.inj (hfn'.symm.trans hfn)
 subst e
 obtain ⟨⟨⟨ds,gs,before,hw,_⟩,hx⟩,_⟩:=hpre
 have hw':=DataW.Whole.of_heap (w':=w.forCall tape i) (by rfl) hw
 refine (contract (w.forCall tape i) w.heap.size i.args ds gs before hval hw' (hX _ _ _ (by rfl) hx) hsh).mono fun e W' ⟨v,he,hp⟩=>?_
 subst he
 exact ChangeSpec.post_blind hp
theorem laidMet_over {P : Program} {w0 : World} {laid : List (String × DataW Unit)} (args : Array Value)
  (hf : w0.layFits P laid [] = true) (hi : w0.layIfaces P laid (w0.layVars P laid) = true) :
  laidMet P laid ((w0.layVars P laid).forCall (fun _ _=>0) ⟨#[],args,[]⟩).memory:=by
 have e1 : (laid.filter fun x=>(laid.map (·.1)).contains x.1) = laid:=List.filter_eq_self.2 fun x hx=>List.contains_iff_mem.2 (List.mem_map.2 ⟨x,hx,rfl⟩)
 have e2 : (laid.filter fun x=>!(laid.map (·.1)).contains x.1) = []:=List.filter_eq_nil_iff.2 fun x hx=>by rw [List.contains_iff_mem.2 (List.mem_map.2 ⟨x,hx,rfl⟩)]; simp
 have h : laidMet P laid (w0.layVars P laid):=laidMet_layVars (w0:=w0) (laid.map (·.1)) [] (by rw [e1]) (by rw [e1]; exact hf) (by rw [e1]; exact hi) (by rw [e2]; exact LaidIn.none)
 exact h.of_heap (by simp [World.memory,World.forCall,Input.heap])
end Ve
end Go.Proofs.YtjbmjnbkibmkpaaGreatDoor


namespace Go.Proofs.YtjbmjnbkibmkpaaGreatDoor
namespace Er
open Go
theorem sens_rest {P : Program} {nm : String} {W : World} {ti tp te ts : TypeId} {ms : Array (String × TypeId)} {f : Field}
  (hi : P.underlying ti = some (.interface ms)) (hrow : ∀ u,P.typeName? 3 u = some nm -> u = tp)
  (hp : P.underlying tp = some (.pointer te)) (he : P.underlying te = some (.struct #[f])) (hft : f.type = ts) (hfo : f.offset = 0) (hs : P.underlying ts = some .string) (hc : P.cellsOf te = 1) (hcs : P.cellsOf ts = 1) (rest : List (String × DataW Unit)) :
  ∀ (ns : List (String × Nat × List UInt8)) (ps : List MemPlace),
   DataW.LaidVars P W ((ns.map fun x=>(x.1,DataW.iface nm (.ptr (.agg [.lit (.string x.2.2)])))) ++ rest) ps ->
   (∀ x,x ∈ ns -> P.globalNamed x.1 = some x.2.1 /\ (P.globals[x.2.1]?).map (·.type) = some ti) ->
   (∀ b off,MemPlace.cell b off ∈ ps -> (∃ c t,W.heap[b]? = some (.cells c t (0,0))) /\ ∀ u v,W.cell? ⟨b,off,none⟩ = some (.iface u v) -> Value.okWide P W .any 0 u v) ->
   ∃ al : List Addr,al.length = ns.length /\ (al.map fun a=>MemPlace.cell a.block a.off).Sublist ps /\
    ∀ (i : Nat) (x : String × Nat × List UInt8) (a : Addr),ns[i]? = some x -> al[i]? = some a ->
     W.cell? ⟨x.2.1,0,none⟩ = some (.iface tp (.pointer (some a))) /\ ∃ c t,W.heap[a.block]? = some (.cells c t (0,0)):=by
 intro ns
 induction ns with
 | nil=>
  intro ps _ _ _
  exact ⟨[],rfl,List.nil_sublist _,fun i x a h=>by simp at h⟩
 | cons n r ih=>
  intro ps hl hg hr
  obtain ⟨g,t,cs,fuel,p,q,hg0,ht0,hv0,hd0,hq,e0⟩:=hl
  obtain ⟨k1,k2⟩:=hg n (List.mem_cons_self)
  obtain rfl:=Option.some.inj (k1.symm.trans hg0)
  obtain rfl:=Option.some.inj (k2.symm.trans ht0)
  subst e0
  obtain ⟨l0⟩:=cs
  have ok0 : ∀ u v,l0 = [.iface u v] -> Value.okWide P W .any 0 u v:=fun u v e=>by
   subst e
   exact (hr n.2.1 0 (by simp [MemPlace.row])).2 u v (by simpa using World.var?_cell hg0 hv0 0)
  obtain ⟨a0,s0,rfl,hc0,hs0,hz0,rfl⟩:=errorString_of_trod hi hrow hp he hft hfo hs hc hcs hd0 ok0
  obtain ⟨al,hlen,hsub,hall⟩:=ih q hq (fun x hx=>hg x (List.mem_cons_of_mem _ hx)) (fun b off hm=>hr b off (by simp [hm]))
  refine ⟨a0 :: al,by simp [hlen],?_,?_⟩
  ·simp only [List.map_cons,MemPlace.row,List.range_one,List.map_nil,Nat.add_zero]
   exact List.Sublist.cons _ (List.Sublist.cons_cons _ hsub)
  ·intro i x a hx ha
   cases i with
   | zero=>
    simp only [List.getElem?_cons_zero,Option.some.injEq] at hx ha
    subst hx; subst ha
    exact ⟨by simpa using World.var?_cell hg0 hv0 0,(hr a0.block a0.off (by simp [MemPlace.row])).1⟩
   | succ i=>
    simp only [List.getElem?_cons_succ] at hx ha
    exact hall i x a hx ha
theorem unlike {al : List Addr} {ps : List MemPlace} (hs : (al.map fun a=>MemPlace.cell a.block a.off).Sublist ps) (hn : ps.Nodup) {i j : Nat} (hi : i < al.length) (hj : j < al.length) (hij : i ≠ j) : al[i] ≠ al[j]:=by
 have h1 : (al.map fun a=>MemPlace.cell a.block a.off).Nodup:=hs.nodup hn
 intro e
 rw [List.Nodup,List.pairwise_iff_getElem] at h1
 rcases Nat.lt_or_gt_of_ne hij with h | h
 ·exact h1 i j (by simpa using hi) (by simpa using hj) h (by simp [e])
 ·exact h1 j i (by simpa using hj) (by simpa using hi) h (by simp [e])
end Er
end Go.Proofs.YtjbmjnbkibmkpaaGreatDoor


namespace Go.Proofs.YtjbmjnbkibmkpaaGreatDoor
open Go.ChangeShapes Go.WideShapes Go.ChangeAt Go.RowKit
namespace Ve
theorem etName : Tryz.prog.globalNamed "errors.errorType" = some 6 := by kernel_rfl
def rtWord : String := match (Rows.laid_errors_errorType : DataW Unit) with | .iface s _ => s | _ => ""
theorem rtName : (Tryz.prog.cutTypes.find? (·.1 == rtWord)).map (·.2) = some 170:=by kernel_rfl
theorem oneRow : ((List.range 340).filter fun t=>Tryz.prog.rowNamed t [101,114,114,111,114]) = [33]:=by kernel_rfl
theorem nTypes : Tryz.prog.types.size = 340:=by kernel_rfl
theorem cellsS : Tryz.prog.cellsOf 329 = 1:=by kernel_rfl
theorem cellsStr : Tryz.prog.cellsOf 9 = 1:=by kernel_rfl
theorem star : "*" ++ "errors.errorString" = "*errors.errorString" := by decide
theorem rowS (u : TypeId) (h : Tryz.prog.typeName? 3 u = some "*errors.errorString") : u = 311 :=
 typeName_ptr_named (nm := "errors.errorString") (by rw [star]; kernel_rfl) (by kernel_rfl) (by decide) u (by rw [star]; exact h)
def tens : List (String × Nat × List UInt8):=
 [("pewholder/api.ErrText", 1, [112, 101, 119, 104, 111, 108, 100, 101, 114, 58, 32, 116, 101, 120, 116]),
  ("pewholder/api.ErrBound", 9, [112, 101, 119, 104, 111, 108, 100, 101, 114, 58, 32, 98, 111, 117, 110, 100]),
  ("pewholder/api.ErrShape", 3, [112, 101, 119, 104, 111, 108, 100, 101, 114, 58, 32, 115, 104, 97, 112, 101]),
  ("pewholder/api.ErrMajor", 5, [112, 101, 119, 104, 111, 108, 100, 101, 114, 58, 32, 109, 97, 106, 111, 114]),
  ("pewholder/api.ErrNone", 7, [112, 101, 119, 104, 111, 108, 100, 101, 114, 58, 32, 110, 111, 110, 101]),
  ("pewholder/api.ErrFull", 2, [112, 101, 119, 104, 111, 108, 100, 101, 114, 58, 32, 102, 117, 108, 108]),
  ("pewholder/api.ErrOrder", 4, [112, 101, 119, 104, 111, 108, 100, 101, 114, 58, 32, 111, 114, 100, 101, 114]),
  ("pewholder/api.ErrClash", 0, [112, 101, 119, 104, 111, 108, 100, 101, 114, 58, 32, 99, 108, 97, 115, 104])]
theorem tens_named : ∀ x,x ∈ tens -> Tryz.prog.globalNamed x.1 = some x.2.1 /\ (Tryz.prog.globals[x.2.1]?).map (·.type) = some 33:=by
 have h : (tens.all fun x=>Tryz.prog.globalNamed x.1 == some x.2.1 && (Tryz.prog.globals[x.2.1]?).map (·.type) == some 33) = true:=by kernel_rfl
 intro x hx
 simpa using List.all_eq_true.1 h x hx
theorem ml_of {W : World} (hsh : W.ShapedOpen Tryz.prog) : ∃ m,W.cell? ⟨8,0,none⟩ = some (.int .i64 m):=
 cell_of_shapedOpen_int (P:=Tryz.prog) (g:=8) (t:=3) (zero:=#[.int .i64 0]) hsh (of_decide_eq_true (by kernel_rfl)) (by kernel_rfl) rfl (by kernel_rfl) (by kernel_rfl) Tryz.underlying3
end Ve
end Go.Proofs.YtjbmjnbkibmkpaaGreatDoor


namespace Go.Proofs.YtjbmjnbkibmkpaaGreatDoor
open Go.ChangeShapes Go.WideShapes Go.ChangeAt Go.RowKit
namespace Ve
theorem te_ds {W : World} {m : Int} (rest : List (String × DataW Unit)) (hl : laidMet Tryz.prog ((tens.map fun x => (x.1, DataW.iface "*errors.errorString" (.ptr (.agg [.lit (.string x.2.2)])))) ++ rest) W)
  (hh : handlesMet Tryz.prog [("errors.errorType", Rows.laid_errors_errorType)] W) (hm0 : W.cell? ⟨8, 0, none⟩ = some (.int .i64 m)) : ∃ A, Te W A m /\ Ds W A := by
 obtain ⟨ps,hl,hnd,hrows⟩:=hl
 obtain ⟨name,u,ty,e1,e2,e3,e4,e5⟩:=hh _ (List.mem_singleton.2 rfl)
 have en : name = [101,114,114,111,114]:=(Option.some.inj e1).symm
 subst en
 obtain rfl:=Option.some.inj (rtName.symm.trans e2)
 have hm : ty ∈ (List.range 340).filter fun t=>Tryz.prog.rowNamed t [101,114,114,111,114]:=List.mem_filter.2 ⟨List.mem_range.2 (by rw [<- nTypes]; exact e3),e4⟩
 rw [oneRow] at hm
 obtain rfl:=List.mem_singleton.1 hm
 have hhd : typeHandle Tryz.prog 33 = .pointer (some ⟨15,33,none⟩):=by kernel_rfl
 rw [hhd] at e5
 have het : W.cell? ⟨6,0,none⟩ = some (.iface 170 (.agg #[.pointer (some ⟨15,33,none⟩)])):=by simpa using World.var?_cell etName e5 0
 obtain ⟨al,hlen,hsub,hall⟩:=Er.sens_rest Tryz.underlying33 rowS Tryz.underlying311 Tryz.underlying329 rfl rfl Tryz.underlying9 cellsS cellsStr rest tens ps hl tens_named hrows
 have hten : al.length = 8:=hlen
 refine ⟨fun k=>al.getD (if k < 5 then k else k - 1) ⟨0,0,none⟩,?_⟩
 have get : ∀ k,k < 8 -> al[k]? = some (al.getD k ⟨0,0,none⟩):=fun k hk=>by
  rw [List.getD_eq_getElem?_getD,List.getElem?_eq_getElem (by omega)]; rfl
 have c:=fun k x (hx : tens[k]? = some x) (hk : k < 8)=>hall k x _ hx (get k hk)
 have ne : ∀ i j,i < 8 -> j < 8 -> i ≠ j -> al.getD i ⟨0,0,none⟩ ≠ al.getD j ⟨0,0,none⟩:=fun i j hi hj hij e=>by
  have:=Er.unlike hsub hnd (i:=i) (j:=j) (by omega) (by omega) hij
  apply this
  have hi':=get i hi
  have hj':=get j hj
  rw [List.getElem?_eq_getElem (by omega)] at hi' hj'
  rw [Option.some.inj hi',Option.some.inj hj']
  exact e
 exact ⟨⟨⟨(c 0 _ rfl (by omega)).1,(c 1 _ rfl (by omega)).1,(c 2 _ rfl (by omega)).1,(c 3 _ rfl (by omega)).1,(c 4 _ rfl (by omega)).1,(c 5 _ rfl (by omega)).1,(c 6 _ rfl (by omega)).1,(c 7 _ rfl (by omega)).1,het⟩,⟨(c 0 _ rfl (by omega)).1,(c 1 _ rfl (by omega)).1,(c 0 _ rfl (by omega)).2,(c 1 _ rfl (by omega)).2,ne 0 1 (by omega) (by omega) (by omega),hm0⟩⟩,
  ⟨(c 0 _ rfl (by omega)).2,(c 1 _ rfl (by omega)).2,(c 3 _ rfl (by omega)).2,ne 0 3 (by omega) (by omega) (by omega),ne 1 3 (by omega) (by omega) (by omega)⟩⟩
end Ve
end Go.Proofs.YtjbmjnbkibmkpaaGreatDoor
