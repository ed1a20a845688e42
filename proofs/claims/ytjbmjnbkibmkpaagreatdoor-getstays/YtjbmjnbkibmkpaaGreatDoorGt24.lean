
import Derived.Test.YtjbmjnbkibmkpaaGreatDoorGt6
import Derived.Test.YtjbmjnbkibmkpaaGreatDoorGt23
import Derived.Test.YtjbmjnbkibmkpaaGreatDoorGt9
import Derived.Test.YtjbmjnbkibmkpaaGreatDoorGt14
import Derived.Test.YtjbmjnbkibmkpaaGreatDoorGt8
import Derived.Test.YtjbmjnbkibmkpaaGreatDoorGt19
import Derived.Test.YtjbmjnbkibmkpaaGreatDoorGt5
import Derived.OwnWalk
import Derived.Lib.SliceRun
import Derived.Test.YtjbmjnbkibmkpaaGreatDoorGt15
set_option maxHeartbeats 8000000
namespace Go.Proofs.YtjbmjnbkibmkpaaGreatDoor
open Go.RowKit
namespace Ve
structure Fl (w : World) (R X : List Bm) (v u : Value) : Prop where
 r : MsAt w v R
 x : MsAt w u X
 rs : shortL R
 xs : shortL X
 rn : R.length <= 1000000
 xn : X.length <= 1000000
theorem Fl.below {w w' : World} {R X : List Bm} {v u : Value} (h : Fl w R X v u) (hb : Below w.heap.size w w') : Fl w' R X v u:=⟨h.r.below hb,h.x.below hb,h.rs,h.xs,h.rn,h.xn⟩
theorem Fl.slices {w : World} {R X : List Bm} {v u : Value} (h : Fl w R X v u) : (∃ a c,v = .slice a R.length c) /\ ∃ a c,u = .slice a X.length c:=by
 obtain ⟨a,c,e,_⟩:=h.r
 obtain ⟨a2,c2,e2,_⟩:=h.x
 exact ⟨⟨a,c,e⟩,a2,c2,e2⟩
theorem fileF_path {p : ByteArray} {R X : List Bm} (h : pathErr p.data.toList ≠ 0) : fileF p R X = (pathErr p.data.toList,none):=by unfold fileF; rw [if_neg h]
theorem fileF_full {p : ByteArray} {R X : List Bm} (h : pathErr p.data.toList = 0) (h2 : 20 < R.length \/ 20 < X.length) : fileF p R X = (7,none):=by unfold fileF; rw [if_pos h,if_pos h2]
theorem fileF_req {p : ByteArray} {R X : List Bm} {i : Nat} (h : pathErr p.data.toList = 0) (h2 : ¬ (20 < R.length \/ 20 < X.length)) (h3 : fstE (reqE p R) R.length = some i) : fileF p R X = (reqE p R i,some i):=by unfold fileF; rw [if_pos h,if_neg h2,h3]
theorem fileF_ex {p : ByteArray} {R X : List Bm} {i : Nat} (h : pathErr p.data.toList = 0) (h2 : ¬ (20 < R.length \/ 20 < X.length)) (h3 : fstE (reqE p R) R.length = none) (h4 : fstE (exE X) X.length = some i) : fileF p R X = (exE X i,some i):=by unfold fileF; rw [if_pos h,if_neg h2,h3]; simp only; rw [h4]
theorem fileF_cl {p : ByteArray} {R X : List Bm} (h : pathErr p.data.toList = 0) (h2 : ¬ (20 < R.length \/ 20 < X.length)) (h3 : fstE (reqE p R) R.length = none) (h4 : fstE (exE X) X.length = none) : fileF p R X = (codeE (clE X R) R.length,fstE (clE X R) R.length):=by
 unfold fileF; rw [if_pos h,if_neg h2,h3]; simp only; rw [h4]; simp only
 cases h5 : fstE (clE X R) R.length with
 | none=>rw [codeE_none h5]
 | some i=>
  rw [codeE_some h5]
  obtain ⟨h6,h7,_⟩:=fstE_of_some h5
  rw [clE_at h6] at h7 ⊢
  simp only
  by_cases h8 : hasB X R[i] = true
  ·rw [if_pos h8]
  ·rw [if_neg h8] at h7; exact absurd rfl h7
theorem check_path (p : ByteArray) (R X : List Bm) (v u : Value) (A : Nat -> Addr) (m : Int) (w : World) (hp : p.size < 999999) (S : Te w A m) (F : Fl w R X v u) (h : pathErr p.data.toList ≠ 0) :
  Calls Tryz.prog 18 #[.agg #[.string p,v,u]] w fun e w'=>∃ x,e = .returned x /\ ErrAt w' A x (fileF p R X).1 (fileF p R X).2 /\ Below w.heap.size w w':=by
 rw [fileF_path h]
 obtain ⟨⟨vp,vc,rfl⟩,up,uc,rfl⟩:=F.slices
 have HB0:=hid ((Below.refl w.heap.size w).alloc (Nat.le_refl _) (.cells #[.string p,.slice vp R.length vc,.slice up X.length uc] 25))
 have HP:=hid (mpath_is p A m _ (by omega) (S.below HB0.out))
 have HE:=hid (errA_if A h)
 rw [HE.out] at HP
 clear S F h
 go_enter Tryz.func18,Tryz.ntmps18
 go_wp2_with fail
 refine HP.out.mono ?_
 rintro e w1 ⟨rfl,hb⟩
 have HB:=hid (HB0.out.trans (hb.mono HB0.out.size))
 clear hb
 go_wp2_with fail
 go_ret
 exact ⟨_,rfl,HE.out.symm,HB.out⟩
theorem check_full (p : ByteArray) (R X : List Bm) (v u : Value) (A : Nat -> Addr) (m : Int) (w : World) (hp : p.size < 999999) (S : Te w A m) (F : Fl w R X v u) (h : pathErr p.data.toList = 0) (h2 : 20 < R.length \/ 20 < X.length) :
  Calls Tryz.prog 18 #[.agg #[.string p,v,u]] w fun e w'=>∃ x,e = .returned x /\ ErrAt w' A x (fileF p R X).1 (fileF p R X).2 /\ Below w.heap.size w w':=by
 rw [fileF_full h h2]
 obtain ⟨⟨vp,vc,rfl⟩,up,uc,rfl⟩:=F.slices
 have HB0:=hid ((Below.refl w.heap.size w).alloc (Nat.le_refl _) (.cells #[.string p,.slice vp R.length vc,.slice up X.length uc] 25))
 have HS:=hid (S.below HB0.out)
 have HP:=hid (mpath_is p A m _ (by omega) HS.out)
 rw [h,errA0] at HP
 clear S F h
 by_cases h3 : 20 < R.length
 ·have h4 : (20 : Int) < (R.length : Int):=by omega
  go_enter Tryz.func18,Tryz.ntmps18
  go_wp2_with fail
  refine HP.out.mono ?_
  rintro e w1 ⟨rfl,hb⟩
  obtain ⟨⟨r0,r1,r2⟩,rz⟩:=res3 (hb.mono (by simp))
  have HB:=hid (HB0.out.trans (hb.mono HB0.out.size))
  have gg:=(HS.out.below hb).sen.g6
  clear hb
  go_wp2_with fail
  go_ret
  exact ⟨_,rfl,rfl,HB.out⟩
 ·have h3' : ¬ (20 : Int) < (R.length : Int):=by omega
  have h4 : (20 : Int) < (X.length : Int):=by omega
  clear h2 h3
  go_enter Tryz.func18,Tryz.ntmps18
  go_wp2_with fail
  refine HP.out.mono ?_
  rintro e w1 ⟨rfl,hb⟩
  obtain ⟨⟨r0,r1,r2⟩,rz⟩:=res3 (hb.mono (by simp))
  have HB:=hid (HB0.out.trans (hb.mono HB0.out.size))
  have gg:=(HS.out.below hb).sen.g6
  clear hb
  go_wp2_with fail
  go_ret
  exact ⟨_,rfl,rfl,HB.out⟩
theorem check_req (p : ByteArray) (R X : List Bm) (v u : Value) (i : Nat) (A : Nat -> Addr) (m : Int) (w : World) (hp : p.size < 999999) (S : Te w A m) (F : Fl w R X v u) (h : pathErr p.data.toList = 0) (h2 : ¬ (20 < R.length \/ 20 < X.length)) (h3 : fstE (reqE p R) R.length = some i) :
  Calls Tryz.prog 18 #[.agg #[.string p,v,u]] w fun e w'=>∃ x,e = .returned x /\ ErrAt w' A x (fileF p R X).1 (fileF p R X).2 /\ Below w.heap.size w w':=by
 rw [fileF_req h h2 h3]
 obtain ⟨⟨vp,vc,rfl⟩,up,uc,rfl⟩:=F.slices
 have HB0:=hid ((Below.refl w.heap.size w).alloc (Nat.le_refl _) (.cells #[.string p,.slice vp R.length vc,.slice up X.length uc] 25))
 have HS:=hid (S.below HB0.out)
 have HP:=hid (mpath_is p A m _ (by omega) HS.out)
 rw [h,errA0] at HP
 have HF:=hid (F.below HB0.out)
 have H3:=hid h3
 have h4 : ¬ (20 : Int) < (R.length : Int):=by omega
 have h5 : ¬ (20 : Int) < (X.length : Int):=by omega
 clear S F h h2 h3
 go_enter Tryz.func18,Tryz.ntmps18
 go_wp2_with fail
 refine HP.out.mono ?_
 rintro e w1 ⟨rfl,hb⟩
 obtain ⟨⟨r0,r1,r2⟩,rz⟩:=res3 (hb.mono (by simp))
 have HB:=hid (HB0.out.trans (hb.mono HB0.out.size))
 have HS1:=hid (HS.out.below hb)
 have HF1:=hid (HF.out.below hb)
 clear hb
 go_wp2_with fail
 refine (reqs_any p R _ A m _ HF1.out.rn HF1.out.rs HS1.out HF1.out.r).mono ?_
 rintro e w2 ⟨x,rfl,he,hb⟩
 rw [codeE_some H3.out,H3.out] at he
 obtain ⟨h0,b,rfl,hx,hy⟩:=he
 have HX:=hid (show ErrAt w2 A (.iface 80 (.pointer (some ⟨b,0,none⟩))) (reqE p R i) (some i) from ⟨h0,b,rfl,hx,hy⟩)
 have HB2:=hid (HB.out.trans (hb.mono HB.out.size))
 clear hb hx hy h0
 go_wp2_with fail
 go_ret
 exact ⟨_,rfl,HX.out,HB2.out⟩
theorem check_ex (p : ByteArray) (R X : List Bm) (v u : Value) (i : Nat) (A : Nat -> Addr) (m : Int) (w : World) (hp : p.size < 999999) (S : Te w A m) (F : Fl w R X v u) (h : pathErr p.data.toList = 0) (h2 : ¬ (20 < R.length \/ 20 < X.length)) (h3 : fstE (reqE p R) R.length = none) (h4 : fstE (exE X) X.length = some i) :
  Calls Tryz.prog 18 #[.agg #[.string p,v,u]] w fun e w'=>∃ x,e = .returned x /\ ErrAt w' A x (fileF p R X).1 (fileF p R X).2 /\ Below w.heap.size w w':=by
 rw [fileF_ex h h2 h3 h4]
 obtain ⟨⟨vp,vc,rfl⟩,up,uc,rfl⟩:=F.slices
 have HB0:=hid ((Below.refl w.heap.size w).alloc (Nat.le_refl _) (.cells #[.string p,.slice vp R.length vc,.slice up X.length uc] 25))
 have HS:=hid (S.below HB0.out)
 have HP:=hid (mpath_is p A m _ (by omega) HS.out)
 rw [h,errA0] at HP
 have HF:=hid (F.below HB0.out)
 have H3:=hid h3
 have H4:=hid h4
 have h5 : ¬ (20 : Int) < (R.length : Int):=by omega
 have h6 : ¬ (20 : Int) < (X.length : Int):=by omega
 clear S F h h2 h3 h4
 go_enter Tryz.func18,Tryz.ntmps18
 go_wp2_with fail
 refine HP.out.mono ?_
 rintro e w1 ⟨rfl,hb⟩
 have HBa:=hid (hb.mono (show w.heap.size + 1 <= _ by simp))
 obtain ⟨⟨r0,r1,r2⟩,rz⟩:=res3 HBa.out
 have HB:=hid (HB0.out.trans (hb.mono HB0.out.size))
 have HS1:=hid (HS.out.below hb)
 have HF1:=hid (HF.out.below hb)
 clear hb
 go_wp2_with fail
 refine (reqs_any p R _ A m _ HF1.out.rn HF1.out.rs HS1.out HF1.out.r).mono ?_
 rintro e w2 ⟨x,rfl,he,hb⟩
 rw [codeE_none H3.out,H3.out] at he
 have he : x = .nilIface:=he
 subst he
 have HBb:=hid (HBa.out.trans (hb.mono (by omega)))
 obtain ⟨⟨s0,s1,s2⟩,sz⟩:=res3 HBb.out
 have HB2:=hid (HB.out.trans (hb.mono HB.out.size))
 have HS2:=hid (HS1.out.below hb)
 have HF2:=hid (HF1.out.below hb)
 clear hb r0 r1 r2
 go_wp2_with fail
 refine (ex_any X _ A m _ HF2.out.xn HF2.out.xs HS2.out HF2.out.x).mono ?_
 rintro e w3 ⟨x,rfl,he,hb⟩
 rw [codeE_some H4.out,H4.out] at he
 obtain ⟨h0,b,rfl,hx,hy⟩:=he
 have HX:=hid (show ErrAt w3 A (.iface 80 (.pointer (some ⟨b,0,none⟩))) (exE X i) (some i) from ⟨h0,b,rfl,hx,hy⟩)
 have HB3:=hid (HB2.out.trans (hb.mono HB2.out.size))
 clear hb hx hy h0
 go_wp2_with fail
 go_ret
 exact ⟨_,rfl,HX.out,HB3.out⟩
theorem check_cl (p : ByteArray) (R X : List Bm) (v u : Value) (A : Nat -> Addr) (m : Int) (w : World) (hp : p.size < 999999) (S : Te w A m) (F : Fl w R X v u) (h : pathErr p.data.toList = 0) (h2 : ¬ (20 < R.length \/ 20 < X.length)) (h3 : fstE (reqE p R) R.length = none) (h4 : fstE (exE X) X.length = none) :
  Calls Tryz.prog 18 #[.agg #[.string p,v,u]] w fun e w'=>∃ x,e = .returned x /\ ErrAt w' A x (fileF p R X).1 (fileF p R X).2 /\ Below w.heap.size w w':=by
 rw [fileF_cl h h2 h3 h4]
 obtain ⟨⟨vp,vc,rfl⟩,up,uc,rfl⟩:=F.slices
 have HB0:=hid ((Below.refl w.heap.size w).alloc (Nat.le_refl _) (.cells #[.string p,.slice vp R.length vc,.slice up X.length uc] 25))
 have HS:=hid (S.below HB0.out)
 have HP:=hid (mpath_is p A m _ (by omega) HS.out)
 rw [h,errA0] at HP
 have HF:=hid (F.below HB0.out)
 have H3:=hid h3
 have H4:=hid h4
 have h5 : ¬ (20 : Int) < (R.length : Int):=by omega
 have h6 : ¬ (20 : Int) < (X.length : Int):=by omega
 clear S F h h2 h3 h4
 go_enter Tryz.func18,Tryz.ntmps18
 go_wp2_with fail
 refine HP.out.mono ?_
 rintro e w1 ⟨rfl,hb⟩
 have HBa:=hid (hb.mono (show w.heap.size + 1 <= _ by simp))
 obtain ⟨⟨r0,r1,r2⟩,rz⟩:=res3 HBa.out
 have HB:=hid (HB0.out.trans (hb.mono HB0.out.size))
 have HS1:=hid (HS.out.below hb)
 have HF1:=hid (HF.out.below hb)
 clear hb
 go_wp2_with fail
 refine (reqs_any p R _ A m _ HF1.out.rn HF1.out.rs HS1.out HF1.out.r).mono ?_
 rintro e w2 ⟨x,rfl,he,hb⟩
 rw [codeE_none H3.out,H3.out] at he
 have he : x = .nilIface:=he
 subst he
 have HBb:=hid (HBa.out.trans (hb.mono (by omega)))
 obtain ⟨⟨s0,s1,s2⟩,sz⟩:=res3 HBb.out
 have HB2:=hid (HB.out.trans (hb.mono HB.out.size))
 have HS2:=hid (HS1.out.below hb)
 have HF2:=hid (HF1.out.below hb)
 clear hb r0 r1 r2
 go_wp2_with fail
 refine (ex_any X _ A m _ HF2.out.xn HF2.out.xs HS2.out HF2.out.x).mono ?_
 rintro e w3 ⟨x,rfl,he,hb⟩
 rw [codeE_none H4.out,H4.out] at he
 have he : x = .nilIface:=he
 subst he
 have HBc:=hid (HBb.out.trans (hb.mono (by omega)))
 obtain ⟨⟨q0,q1,q2⟩,qz⟩:=res3 HBc.out
 have HB3:=hid (HB2.out.trans (hb.mono HB2.out.size))
 have HS3:=hid (HS2.out.below hb)
 have HF3:=hid (HF2.out.below hb)
 clear hb s0 s1 s2
 go_wp2_with fail
 refine (clash_any p R X _ _ A m _ HF3.out.rn HF3.out.xn HS3.out HF3.out.r HF3.out.x).mono ?_
 rintro e w4 ⟨x,rfl,he,hb⟩
 have HX:=hid he
 have HB4:=hid (HB3.out.trans (hb.mono HB3.out.size))
 clear hb he
 go_wp2_with fail
 go_ret
 exact ⟨_,rfl,HX.out,HB4.out⟩
theorem fcheck_any (p : ByteArray) (R X : List Bm) (v u : Value) (A : Nat -> Addr) (m : Int) (w : World) (hp : p.size < 999999) (S : Te w A m) (F : Fl w R X v u) :
  Calls Tryz.prog 18 #[.agg #[.string p,v,u]] w fun e w'=>∃ x,e = .returned x /\ ErrAt w' A x (fileF p R X).1 (fileF p R X).2 /\ Below w.heap.size w w':=by
 by_cases h : pathErr p.data.toList = 0
 ·by_cases h2 : 20 < R.length \/ 20 < X.length
  ·exact check_full p R X v u A m w hp S F h h2
  ·cases h3 : fstE (reqE p R) R.length with
   | some i=>exact check_req p R X v u i A m w hp S F h h2 h3
   | none=>
    cases h4 : fstE (exE X) X.length with
    | some i=>exact check_ex p R X v u i A m w hp S F h h2 h3 h4
    | none=>exact check_cl p R X v u A m w hp S F h h2 h3 h4
 ·exact check_path p R X v u A m w hp S F h
end Ve
end Go.Proofs.YtjbmjnbkibmkpaaGreatDoor


namespace Go.Proofs.YtjbmjnbkibmkpaaGreatDoor
open Go.RowKit
namespace Ve
set_option maxRecDepth 100000 in
theorem firstT_any (K : Nat) (cb : Array Value) (X : List ByteArray) (v : Value) (St : Nat -> World -> Prop) (Bd : World -> Prop) (w : World) (eg : ∀ args w,(callFunc K args).run Tryz.prog w = .ok (.enter K args) w) (hX : X.length <= 1000000)
  (hv : ∀ k W,St k W -> TxAt W v X) (hB : ∀ W o,Bd W -> Bd (W.alloc o))
  (hK : ∀ k (hk : k < X.length) W,St k W -> Calls Tryz.prog K (#[.int .i64 (k : Int),.string X[k]] ++ cb) W fun e w'=>(e = .returned .nilIface /\ St (k + 1) w') \/ ((∃ Ty a,e = .returned (.iface Ty (.pointer (some a)))) /\ Bd w')) (h0 : St 0 w) :
  Calls Tryz.prog 45 #[v,.func (.func K) #[] cb] w fun e w'=>(e = .returned .nilIface /\ St X.length w') \/ ((∃ Ty a,e = .returned (.iface Ty (.pointer (some a)))) /\ Bd w'):=by
 have HK:=hid hK
 have HV:=hid hv
 have HB:=hid hB
 have HS0:=hid h0
 obtain ⟨va,vc,hvs,-⟩:=id (hv 0 w h0)
 subst hvs
 clear hK hv hB h0
 go_enter Tryz.func45,Tryz.ntmps45
 go_wp2_with fail
 go_loopw [10] (fun iv wr=>∃ k : Nat,k <= X.length /\ iv = .int .i64 k /\ Hid (St k wr)) (fun iv _=>X.length - (intOf iv).toNat)
 case atStart=>exact ⟨0,Nat.zero_le _,rfl,HS0⟩
 case round=>
  obtain ⟨k,hk,rfl,HS⟩:=hrel
  by_cases hlt : k < X.length
  ·have hkI:=ix_lt hlt
   have hk0:=ix_pos k
   have HLT:=hid hlt
   obtain ⟨xb,xo,hxa,y0⟩:=tx_cellK (HV.out k wr HS.out) hlt
   subst hxa
   have HKK:=hid (HK.out k hlt wr HS.out)
   generalize X[k] = x at *
   clear hlt HK HV
   go_wp2_with fail
   refine HKK.out.mono ?_
   rintro e w1 (⟨rfl,hs⟩ | ⟨⟨Ty,ea,rfl⟩,hs⟩)
   ·have HS1:=hid hs
    clear hs
    go_wp2_with fail
    go_roundw
    case rel=>exact ⟨k + 1,HLT.out,by first | exact nr_idx k | exact nx_idx HLT.out (by omega),HS1⟩
    case measure=>first | exact nr_meas HLT.out | exact nx_meas HLT.out (by omega)
   ·have HS1:=hid (HB.out w1 (.cells #[.int .i64 (k : Int),.iface Ty (.pointer (some ea))] 84) hs)
    clear hs
    go_wp2_with fail
    go_ret
    exact Or.inr ⟨⟨_,_,rfl⟩,HS1.out⟩
  ·have hkI:=ix_nlt hlt
   have hkX : k = X.length:=by omega
   rw [hkX] at HS
   clear hlt
   go_wp2_with fail
   go_ret
   exact Or.inl ⟨rfl,HS.out⟩
structure Wb (w0 W : World) (wb : Nat) (D : List Bm) : Prop where
 bl : Below w0.heap.size w0 W
 lo : w0.heap.size <= wb
 oc : ∃ ov,W.heap[wb]? = some (.cells #[ov] 56 (0,0)) /\ W.ownsRow w0.heap.size 78 2 ov D.length (flatM D)
theorem Wb.below {w0 W W' : World} {wb : Nat} {D : List Bm} (h : Wb w0 W wb D) (hb : Below W.heap.size W W') : Wb w0 W' wb D:=by
 obtain ⟨ov,h1,h2⟩:=h.oc
 exact ⟨h.bl.trans (hb.mono h.bl.size),h.lo,ov,(hb.block _ (lt_of_blk h1)).trans h1,owns_below h2 hb⟩
theorem Wb.more {w0 w1 w3 : World} {wb : Nat} {D : List Bm} {x : Bm} {ov v' : Value} {o : Obj} (h : Wb w0 w1 wb D) (o1 : w1.heap[wb]? = some (.cells #[ov] 56 (0,0))) (o2 : w1.ownsRow w0.heap.size 78 2 ov D.length (flatM D))
  (hown3 : w3.ownsRow w0.heap.size 78 2 v' (D.length + 1) (flatM D ++ [.string x.1,.string x.2])) (hg3 : (w1.alloc o).grownBy w3 ov.ownBlock) : w3.heap[wb]? = some (.cells #[ov] 56 (0,0)) /\ Wb w0 (w3.setCell ⟨wb,0,none⟩ v') wb (D ++ [x]):=by
 have r2 : ov.ownBlock ≠ some wb:=own_ne2 o2 o1 (by decide)
 have l2:=lt_of_blk o1
 have q2 : w3.heap[wb]? = some (.cells #[ov] 56 (0,0)):=by
  rw [hg3.block wb (by simp; omega) (fun e=>r2 e.symm),((Below.refl w1.heap.size w1).alloc (Nat.le_refl _) o).block wb l2]; exact o1
 have b3 : Below w0.heap.size w0 w3:=(h.bl.alloc h.bl.size o).grown hg3 (by simp; have:=h.bl.size; omega) (fun k hk=>(o2.lt k hk).1)
 refine ⟨q2,b3.setCell (p:=⟨wb,0,none⟩) h.lo v',h.lo,v',?_,?_⟩
 ·have:=set_block (o:=0) (x:=v') q2
  simpa using this
 ·rw [List.length_append,flatM_app]
  exact owns_set hown3 (own_ne2 hown3 q2 (by decide))
def shA (s : ByteArray) : Prop:=s.size < 999999 /\ (argK s).1.size <= 100 /\ (argK s).2.size <= 100
theorem infoWish : (Tryz.prog.info? 78).map (fun i=>(i.zero,i.size,i.bytes)) = some (some (.agg #[.string ⟨#[]⟩,.string ⟨#[]⟩]),2,32):=by kernel_rfl
set_option maxRecDepth 100000 in
theorem raK_any (s : ByteArray) (i : Int) (wb : Nat) (D : List Bm) (A : Nat -> Addr) (m : Int) (w0 W : World) (hs : shA s) (hD : D.length <= 1000) (S0 : Te w0 A m) (Dz : Ds w0 A) (h : Wb w0 W wb D) :
  Calls Tryz.prog 46 (#[.int .i64 i,.string s] ++ #[.pointer (some ⟨wb,0,none⟩)]) W fun e w'=>e = .returned (errA A (argZ s)) /\ Wb w0 w' wb (D ++ [argR s]):=by
 obtain ⟨i0,hi0,hz0,hz1,hz2⟩:=info_parts infoWish
 show Calls Tryz.prog 46 #[.int .i64 i,.string s,.pointer (some ⟨wb,0,none⟩)] W _
 have HA:=hid (arg_any s A m W hs.1 hs.2.1 hs.2.2 (S0.below h.bl) (Dz.below h.bl))
 have HW:=hid (fun W' (hb : Below W.heap.size W W')=>h.below hb)
 obtain ⟨ev,hev⟩ : ∃ ev,errA A (argZ s) = ev:=⟨_,rfl⟩
 rw [hev] at HA ⊢
 generalize argR s = r at *
 obtain ⟨p,q⟩:=r
 clear S0 Dz h hs hev
 go_enter Tryz.func46,Tryz.ntmps46
 go_wp2_with fail
 refine HA.out.mono ?_
 rintro e w1 ⟨rfl,hb⟩
 have HW1:=hid (HW.out w1 hb)
 obtain ⟨ov,o1,o2⟩:=HW1.out.oc
 have HO1:=hid o1
 have HO2:=hid o2
 have HLO:=hid HW1.out.bl.size
 have k0 : w1.cell? ⟨wb,0,none⟩ = some ov:=by rw [Lib.cell_of_heap o1]; rfl
 clear hb o1 o2
 go_wp2_with (at_builtin; refine wpList_append_own _ rfl _ _ 56 rfl w0.heap.size 78 i0 _ 2 32 Tryz.underlying56 hi0 hz0 hz1 hz2 rfl (by decide) _ _ _ rfl (HO2.out.alloc _) ⟨w1.heap.size,0,none⟩ 1 1 [.string p,.string q] rfl rfl ?c1 ?c2 ?c3 ?c4 ?c5 ?_)
 case c1=>exact World.news_of_block (cs:=#[.string p,.string q]) (heap_new _ _)
 case c2=>intro u hu; simp at hu; rcases hu with rfl | rfl <;> rfl
 case c3=>unfold maxLen; omega
 case c4=>omega
 case c5=>have:=HLO.out; simp; omega
 intro v' w3 hown hgrow _
 have HM:=hid (HW1.out.more (x:=(p,q)) HO1.out HO2.out hown hgrow)
 obtain ⟨g',cap',hv'⟩:=ownsRow_succ hown
 subst hv'
 have HK3:=hid HM.out.1
 have k1 : w3.cell? ⟨wb,0,none⟩ = some ov:=by rw [Lib.cell_of_heap HK3.out]; rfl
 have f1:=fun o=>Lib.frozen_of_heap HK3.out o
 have hlt:=lt_of_blk HK3.out
 clear hown hgrow k0
 go_wp2_with fail
 go_ret
 exact ⟨rfl,HM.out.2⟩
def rdG (G : List ByteArray) : Option (List Bm):=if G.all (fun s=>decide (argZ s = 0)) then some (G.map argK) else none
def rdA (Q : List Raw) (L : List Ent) (p : ByteArray) (R X : List Bm) (G : List ByteArray) : Option (List Bm):=
 if (chk Q L).1 ≠ 0 then none else if (fileF p R X).1 ≠ 0 then none else if 10 < G.length then none else rdG G
theorem rdG_bad {G : List ByteArray} {k : Nat} (hk : k < G.length) (h : ¬ argZ G[k] = 0) : rdG G = none:=by
 unfold rdG
 rw [if_neg]
 intro h1
 exact h (of_decide_eq_true (List.all_eq_true.1 h1 _ (List.getElem_mem hk)))
theorem rdG_ok {G : List ByteArray} (h : ∀ j (hj : j < G.length),argZ G[j] = 0) : rdG G = some (G.map argK):=by
 unfold rdG
 rw [if_pos]
 rw [List.all_eq_true]
 intro s hs
 obtain ⟨j,hj,rfl⟩:=List.getElem_of_mem hs
 exact decide_eq_true (h j hj)
theorem arg_next {G : List ByteArray} {k : Nat} (hk : k < G.length) (h : argZ G[k] = 0) : (G.take k).map argK ++ [argR G[k]] = (G.take (k + 1)).map argK:=by
 rw [List.take_succ_eq_append_getElem hk,List.map_append,argR_ok h]; rfl
def RaP (w : World) (e : Ending) (w' : World) : Option (List Bm) -> Prop
 | none=>∃ a n c Ty ea,e = .returned (.tuple #[.slice a n c,.iface Ty (.pointer (some ea))]) /\ Below w.heap.size w w'
 | some D=>∃ a c,e = .returned (.tuple #[.slice a D.length c,.nilIface]) /\ MsAt w' (.slice a D.length c) D /\ Below w.heap.size w w'
set_option maxRecDepth 100000 in
theorem readAll_any (Q : List Raw) (L : List Ent) (p : ByteArray) (R X : List Bm) (G : List ByteArray) (v rv xv gv : Value) (A : Nat -> Addr) (m : Int) (w : World) (hL : L.length <= 1000) (sh : ∀ e,e ∈ L -> ShE e) (hp : p.size < 999999) (hG : G.length <= 1000) (hg : ∀ s,s ∈ G -> shA s)
  (S : Te w A m) (D : Ds w A) (I : Ixs w v Q L) (F : Fl w R X rv xv) (hgv : TxAt w gv G) :
  Calls Tryz.prog 24 #[v,.agg #[.string p,rv,xv],gv] w fun e w'=>RaP w e w' (rdA Q L p R X G):=by
 obtain ⟨a,c,hv1,-⟩:=id I.es
 obtain ⟨⟨ra,rc,hrv⟩,xa,xc,hxv⟩:=F.slices
 obtain ⟨ga,gc,hgs,-⟩:=id hgv
 subst hv1
 subst hrv
 subst hxv
 have HB0:=hid ((Below.refl w.heap.size w).alloc (Nat.le_refl _) (.cells #[.string p,.slice ra R.length rc,.slice xa X.length xc] 25))
 have HBX:=hid (heap_new w (.cells #[.string p,.slice ra R.length rc,.slice xa X.length xc] 25))
 have HIC:=hid (fun W (h : Below w.heap.size w W)=>icheck_any Q L _ A m W (by omega) sh (S.below h) (I.below h))
 have HFC:=hid (fun W (h : Below w.heap.size w W)=>fcheck_any p R X _ _ A m W hp (S.below h) (F.below h))
 have HBA:=hid (fun x W (h : Below w.heap.size w W) (he : ErrAt W A x (fileF p R X).1 (fileF p R X).2) (hc : (fileF p R X).1 ≠ 0)=>bare_any x _ _ A m W (S.below h) he hc)
 have HG6:=hid (fun W (h : Below w.heap.size w W)=>(S.below h).sen.g6)
 have HSS:=hid (fun W (h : Below w.heap.size w W)=>S.below h)
 have HDD:=hid (fun W (h : Below w.heap.size w W)=>D.below h)
 have HTX:=hid (fun W (h : Below w.heap.size w W)=>hgv.below h)
 subst hgs
 obtain ⟨RR,hRR⟩ : ∃ RR,rdA Q L p R X G = RR:=⟨_,rfl⟩
 rw [hRR]
 have HRR:=hid hRR
 clear S D I F hgv hRR
 go_enter Tryz.func24,Tryz.ntmps24
 go_wp2_with fail
 refine (HIC.out _ HB0.out).mono ?_
 rintro e w1 ⟨x,rfl,he,hb⟩
 have HB1:=hid (HB0.out.trans (hb.mono HB0.out.size))
 have HX1:=hid ((hb.block _ (by simp)).trans HBX.out)
 rcases he.kind with ⟨hc,rfl⟩ | ⟨hc,Ty,ea,rfl⟩
 rotate_left
 ·have HN:=hid (show RR = none by rw [<- HRR.out]; unfold rdA; rw [if_pos hc])
  clear he hb hc
  go_wp2_with fail
  go_ret2
  rw [HN.out]
  exact ⟨none,0,0,_,_,rfl,HB1.out⟩
 have HC0:=hid hc
 have y0 : w1.cell? ⟨w.heap.size,0,none⟩ = some (.string p):=by rw [Lib.cell_of_heap HX1.out]; rfl
 have y1 : w1.cell? ⟨w.heap.size,1,none⟩ = some (.slice ra R.length rc):=by rw [Lib.cell_of_heap HX1.out]; rfl
 have y2 : w1.cell? ⟨w.heap.size,2,none⟩ = some (.slice xa X.length xc):=by rw [Lib.cell_of_heap HX1.out]; rfl
 clear he hb hc HIC
 go_wp2_with fail
 refine (HFC.out _ HB1.out).mono ?_
 rintro e w2 ⟨x,rfl,he,hb⟩
 have HB2:=hid (HB1.out.trans (hb.mono HB1.out.size))
 have HEE:=hid he
 rcases he.kind with ⟨hc,rfl⟩ | ⟨hc,Ty,ea,rfl⟩
 rotate_left
 ·have HN:=hid (show RR = none by rw [<- HRR.out]; unfold rdA; rw [if_neg (by simp [HC0.out]),if_pos hc])
  have HBB:=hid (HBA.out _ w2 HB2.out HEE.out hc)
  obtain ⟨ea2,hea2⟩:=errA_ne A hc
  rw [hea2] at HBB
  clear he hb hc hea2
  go_wp2_with fail
  refine HBB.out.mono ?_
  rintro e w3 ⟨rfl,hb⟩
  have HB3:=hid (HB2.out.trans (hb.mono HB2.out.size))
  clear hb
  go_wp2_with fail
  go_ret2
  rw [HN.out]
  exact ⟨none,0,0,_,_,rfl,HB3.out⟩
 have HC1:=hid hc
 clear he hb hc HFC HBA HEE y0 y1 y2
 by_cases h10 : 10 < G.length
 ·have hI : (10 : Int) < (G.length : Int):=by omega
  have HN:=hid (show RR = none by rw [<- HRR.out]; unfold rdA; rw [if_neg (by simp [HC0.out]),if_neg (by simp [HC1.out]),if_pos h10])
  have gg:=HG6.out _ HB2.out
  clear h10
  go_wp2_with fail
  go_quiet (fail)
  go_wp2_with fail
  go_ret2
  rw [HN.out]
  exact ⟨none,0,0,_,_,rfl,below_drawn_of HB2.out _⟩
 ·have hI : ¬ (10 : Int) < (G.length : Int):=by omega
  have HRG:=hid (show RR = rdG G by rw [<- HRR.out]; unfold rdA; rw [if_neg (by simp [HC0.out]),if_neg (by simp [HC1.out]),if_neg h10])
  have eg : ∀ args w,(callFunc 46 args).run Tryz.prog w = .ok (.enter 46 args) w:=enters_of Tryz.func46 (by kernel_rfl) rfl
  have HB3:=hid ((Below.refl w2.heap.size w2).alloc (Nat.le_refl _) (.cells #[.slice none 0 0] 56))
  have HFI:=hid (firstT_any 46 #[.pointer (some ⟨w2.heap.size,0,none⟩)] G (.slice ga G.length gc) (fun k W=>Wb w2 W w2.heap.size ((G.take k).map argK) /\ ∀ j (hj : j < G.length),j < k -> argZ G[j] = 0) (fun W=>Below w2.heap.size w2 W /\ (∃ ov,W.cell? ⟨w2.heap.size,0,none⟩ = some ov /\ ∃ a n c,ov = .slice a n c) /\ rdG G = none) (w2.alloc (.cells #[.slice none 0 0] 56)) eg (by omega)
   (fun k W h=>HTX.out W (HB2.out.trans (h.1.bl.mono HB2.out.size)))
   (fun W o h=>⟨h.1.alloc h.1.size o,by
    obtain ⟨ov,h1,h2⟩:=h.2.1
    exact ⟨ov,cell_below ((Below.refl W.heap.size W).alloc (Nat.le_refl _) o) h1,h2⟩,h.2.2⟩)
   (fun k hk W h=>by
    refine (raK_any G[k] (k : Int) w2.heap.size ((G.take k).map argK) A m w2 W (hg _ (List.getElem_mem hk)) (by rw [List.length_map,List.length_take]; omega) (HSS.out _ HB2.out) (HDD.out _ HB2.out) h.1).mono ?_
    rintro e w' ⟨rfl,hw⟩
    by_cases hz : argZ G[k] = 0
    ·rw [arg_next hk hz] at hw
     refine Or.inl ⟨by rw [hz]; rfl,hw,fun j hj hjk=>?_⟩
     rcases Nat.lt_or_ge j k with h1 | h1
     ·exact h.2 j hj h1
     ·have : j = k:=by omega
      subst this; exact hz
    ·obtain ⟨ea,hea⟩:=errA_ne A hz
     obtain ⟨ov,o1,o2⟩:=hw.oc
     obtain ⟨oa,oc,hos⟩:=own_slN o2
     exact Or.inr ⟨⟨_,_,by rw [hea]⟩,hw.bl,⟨ov,by rw [Lib.cell_of_heap o1]; rfl,_,_,_,hos⟩,rdG_bad hk hz⟩)
   ⟨⟨HB3.out,Nat.le_refl _,.slice none 0 0,heap_new w2 _,World.ownsRow_nil _ _ _ _⟩,fun j _ hj=>absurd hj (Nat.not_lt_zero _)⟩)
  clear h10 hg eg HTX HSS HDD
  go_wp2_with fail
  refine HFI.out.mono ?_
  rintro e w4 (⟨rfl,hw,hz⟩ | ⟨⟨Ty,ea,rfl⟩,hb,⟨ov,hov,oa,on,oc,hos⟩,hn⟩)
  ·have HZ:=hid (rdG_ok (fun j hj=>hz j hj hj))
   rw [List.take_length] at hw
   obtain ⟨ov,o1,o2⟩:=hw.oc
   have HMS:=hid (own_ms o2)
   have HB4:=hid (HB2.out.trans (hw.bl.mono HB2.out.size))
   obtain ⟨oa,oc,hos⟩:=own_slN o2
   subst hos
   have k1 : w4.cell? ⟨w2.heap.size,0,none⟩ = some (.slice oa (G.map argK).length oc):=by rw [Lib.cell_of_heap o1]; rfl
   have hle : (G.map argK).length = G.length:=List.length_map ..
   generalize G.map argK = GK at *
   clear hw hz o1 o2 hle
   go_wp2_with fail
   go_ret2
   rw [HRG.out,HZ.out]
   exact ⟨_,_,rfl,HMS.out,HB4.out⟩
  ·subst hos
   have HB4:=hid (HB2.out.trans (hb.mono HB2.out.size))
   have HN:=hid hn
   clear hb hn
   go_wp2_with fail
   go_ret2
   rw [HRG.out,HN.out]
   exact ⟨_,_,_,_,_,rfl,HB4.out⟩
end Ve
end Go.Proofs.YtjbmjnbkibmkpaaGreatDoor


namespace Go.Proofs.YtjbmjnbkibmkpaaGreatDoor
open Go.RowKit
namespace Ve
def kpL (P : Bm -> Bool) (D : List Bm) : List Bm:=D.filter fun m=>!P m
theorem kpL_take {P : Bm -> Bool} {D : List Bm} {k : Nat} (hk : k < D.length) : kpL P (D.take (k + 1)) = if P D[k] then kpL P (D.take k) else kpL P (D.take k) ++ [D[k]]:=by
 unfold kpL
 rw [List.take_succ_eq_append_getElem hk,List.filter_append]
 cases h : P D[k] <;> simp [h]
theorem kpL_first {P : Bm -> Bool} {D : List Bm} {k : Nat} (hk : k < D.length) (h1 : P D[k] = true) (h2 : ∀ j (hj : j < D.length),j < k -> P D[j] = false) : kpL P (D.take (k + 1)) = D.take k:=by
 rw [kpL_take hk,if_pos h1]
 unfold kpL
 rw [List.filter_eq_self]
 intro x hx
 obtain ⟨i,hi,him,rfl⟩:=mem_take_at hx
 rw [h2 i hi him]; rfl
theorem kpL_all {P : Bm -> Bool} {D : List Bm} (h : ∀ x,x ∈ D -> P x = false) : kpL P D = D:=by
 unfold kpL
 rw [List.filter_eq_self]
 intro x hx
 rw [h x hx]; rfl
theorem kpL_len (P : Bm -> Bool) (D : List Bm) : (kpL P D).length <= D.length:=List.length_filter_le _ _
set_option maxRecDepth 100000 in
theorem delP_mw (K : Nat) (cb : Array Value) (P : Bm -> Bool) (w0 w : World) (g cap : Nat) (D : List Bm) (eg : ∀ args w,(callFunc K args).run Tryz.prog w = .ok (.enter K args) w) (h12 : D.length <= 1000000) (hc : D.length <= cap) (hR : Mw w0 w g D)
  (hK : ∀ (x : Bm) W,Below w0.heap.size w0 W -> Calls Tryz.prog K (#[.agg #[.string x.1,.string x.2]] ++ cb) W fun e w'=>e = .returned (.bool (P x)) /\ Below W.heap.size W w') :
  Calls Tryz.prog 86 #[.slice (some ⟨g,0,none⟩) D.length cap,.func (.func K) #[] cb] w fun e w'=>e = .returned (.slice (some ⟨g,0,none⟩) (kpL P D).length cap) /\ Mw w0 w' g (kpL P D):=by
 have HRK:=hid hK
 have HI:=hid (idxM_any K cb P D _ w eg h12 (hR.ms hc) (fun i hi W hW=>HRK.out D[i] W (hR.bl.trans (hW.mono hR.bl.size))))
 have HR:=hid hR
 clear hR hK
 rcases idxB_kind P D with ⟨e1,h2⟩ | ⟨k,hk,e1,h2,h3⟩
 ·rw [e1] at HI
  rw [kpL_all h2]
  clear e1 h2
  go_enter Tryz.func86,Tryz.ntmps86
  go_wp2_with fail
  refine HI.out.mono ?_
  rintro e w1 ⟨rfl,hb⟩
  have HR1:=hid (HR.out.below hb)
  clear hb
  go_wp2_with fail
  go_ret
  exact ⟨rfl,HR1.out⟩
 ·rw [e1] at HI
  have HF:=hid (kpL_first hk h2 h3)
  have hkn : ¬ (k : Int) = -1:=by omega
  have hk1 : (k : Int) < (D.length : Int):=by omega
  clear e1 h2 h3
  go_enter Tryz.func86,Tryz.ntmps86
  go_wp2_with fail
  refine HI.out.mono ?_
  rintro e w1 ⟨rfl,hb⟩
  have HR1:=hid (HR.out.below hb)
  clear hb
  go_wp2_with fail
  go_loopw [5,6] (fun a b wr=>∃ (j : Nat),a = .int .i64 ((kpL P (D.take j)).length : Int) /\ b = .int .i64 (j : Int) /\ j <= D.length /\ (kpL P (D.take j)).length < j /\ Hid (Mw w0 wr g (kpL P (D.take j) ++ D.drop (kpL P (D.take j)).length))) (fun _ b _=>D.length - (intOf b).toNat)
  case atStart=>
   have hl : (D.take k).length = k:=by simp; omega
   exact ⟨k + 1,by rw [HF.out,hl],by go_num,by omega,by rw [HF.out,hl]; omega,hid (by rw [HF.out,hl,List.take_append_drop]; exact HR1.out)⟩
  case round=>
   obtain ⟨j,rfl,rfl,hjD,hEj,HRV⟩:=hrel
   have HAT:=hid (show ∀ i,(kpL P (D.take j)).length <= i -> (kpL P (D.take j) ++ D.drop (kpL P (D.take j)).length)[i]? = D[i]? from fun i hi=>by rw [List.getElem?_append_right hi,List.getElem?_drop]; congr 1; omega)
   by_cases hj : j < D.length
   ·have g1 : (j : Int) < (D.length : Int):=by omega
    have HT:=hid (kpL_take (P:=P) hj)
    obtain ⟨y0,y1⟩:=HRV.out.at (j:=j) (r:=D[j]) (by rw [HAT.out j (by omega)]; exact List.getElem?_eq_getElem hj)
    have HKX:=hid (fun W (hW : Below w0.heap.size w0 W)=>(show Calls Tryz.prog K (#[.agg #[.string D[j].1,.string D[j].2]] ++ cb) W fun e w'=>e = .returned (.bool (P D[j])) /\ Below W.heap.size W w' from HRK.out D[j] W hW))
    generalize D[j] = x at *
    generalize hE : kpL P (D.take j) = E at *
    obtain ⟨x1,x2⟩:=x
    have HBA:=hid ((Below.refl wr.heap.size wr).alloc (Nat.le_refl _) (.cells #[.string x1,.string x2] 47))
    have HRA:=hid (HRV.out.below HBA.out)
    have HP:=hid (HKX.out _ HRA.out.bl)
    cases hbad : P (x1,x2)
    ·rw [hbad] at HP HT
     have HT2:=hid (show kpL P (D.take (j + 1)) = E ++ [(x1,x2)] from HT.out)
     clear hbad
     go_wp2_with fail
     refine HP.out.mono ?_
     rintro e w2 ⟨rfl,hb⟩
     have HR2:=hid (HRA.out.below hb)
     have d0 : w2.cell? ⟨wr.heap.size,0,none⟩ = some (.string x1):=cell_below hb (by simp)
     have d1 : w2.cell? ⟨wr.heap.size,1,none⟩ = some (.string x2):=cell_below hb (by simp)
     have hfz:=HR2.out.fz
     have e1 : (0 : Int) <= (E.length : Int):=by omega
     have e2 : (E.length : Int) < (D.length : Int):=by omega
     have hEl : E.length < (E ++ D.drop E.length).length:=by simp; omega
     obtain ⟨z0,z1⟩:=HR2.out.at (j:=E.length) (r:=(E ++ D.drop E.length)[E.length]) (List.getElem?_eq_getElem hEl)
     have HW4:=hid (show Mw w0 ((w2.setCell ⟨g,E.length * 2,none⟩ (.string x1)).setCell ⟨g,E.length * 2 + 1,none⟩ (.string x2)) g ((E ++ [((x1,x2) : Bm)]) ++ D.drop (E ++ [((x1,x2) : Bm)]).length) by
      have h:=HR2.out.setAt E.length hEl (x1,x2)
      have e : (E ++ D.drop E.length).set E.length (x1,x2) = (E ++ [((x1,x2) : Bm)]) ++ D.drop (E ++ [((x1,x2) : Bm)]).length:=by
       rw [List.set_append_right _ _ (Nat.le_refl _),Nat.sub_self,List.drop_eq_getElem_cons (show E.length < D.length by omega),List.set_cons_zero,List.length_append]
       simp
      rw [e] at h
      exact h)
     clear hb y0 y1
     go_wp2_with fail
     go_roundw
     case rel=>
      repeat apply Exists.intro
      refine ⟨?r,rfl⟩
      exact ⟨j + 1,by rw [HT2.out]; first | (simp; done) | (rw [List.length_append]; go_num),by go_num,by omega,by rw [HT2.out]; simp; omega,hid (by rw [HT2.out]; exact HW4.out)⟩
     case measure=>simp [intOf]; omega
    ·rw [hbad] at HP HT
     have HT2:=hid (show kpL P (D.take (j + 1)) = E from HT.out)
     clear hbad
     go_wp2_with fail
     refine HP.out.mono ?_
     rintro e w2 ⟨rfl,hb⟩
     have HR2:=hid (HRA.out.below hb)
     clear hb y0 y1
     go_wp2_with fail
     go_roundw
     case rel=>
      repeat apply Exists.intro
      refine ⟨?r2,rfl⟩
      exact ⟨j + 1,by rw [HT2.out],by go_num,by omega,by rw [HT2.out]; omega,hid (by rw [HT2.out]; exact HR2.out)⟩
     case measure=>simp [intOf]; omega
   ·obtain rfl : j = D.length:=by omega
    have g2 : ¬ (D.length : Int) < (D.length : Int):=by omega
    rw [List.take_length] at hEj HRV HAT ⊢
    generalize hE : kpL P D = E at *
    have hRl : (E ++ D.drop E.length).length = D.length:=by simp; omega
    obtain ⟨zs,hcl⟩:=run_clear_mw HRV.out E.length (by omega)
    rw [hRl] at hcl
    have HRE:=hid (show Mw w0 (wr.setCells g (E.length * 2) zs) g E by
     have:=HRV.out.cleared E.length (by omega) zs
     rw [List.take_left' rfl] at this
     exact this)
    have c1 : (E.length : Int) <= (D.length : Int):=by omega
    have c2 : (E.length : Int) < (cap : Int):=by omega
    have c3 : (E.length : Int) <= (cap : Int):=by omega
    have c4 : (0 : Int) <= (E.length : Int):=by omega
    have c5 : E.length < cap:=by omega
    have c6 : (D.length : Int) <= (cap : Int):=by omega
    go_wp2_with fail
    go_ret
    exact ⟨rfl,HRE.out⟩
theorem delP_nil (K : Nat) (cb : Array Value) (a : Option Addr) (c : Nat) (W : World) : Calls Tryz.prog 86 #[.slice a 0 c,.func (.func K) #[] cb] W fun e w'=>e = .returned (.slice a 0 c) /\ Below W.heap.size W w':=by
 have HI:=hid (idxM_none K cb a c W)
 go_enter Tryz.func86,Tryz.ntmps86
 go_wp2_with fail
 refine HI.out.mono ?_
 rintro e w1 ⟨rfl,hb⟩
 have HB:=hid hb
 clear hb
 go_wp2_with fail
 go_ret
 exact ⟨rfl,HB.out⟩
theorem delP_mr (K : Nat) (cb : Array Value) (P : Bm -> Bool) (w0 w : World) (v : Value) (D : List Bm) (eg : ∀ args w,(callFunc K args).run Tryz.prog w = .ok (.enter K args) w) (h12 : D.length <= 1000000) (hR : Mr w0 w v D)
  (hK : ∀ (x : Bm) W,Below w0.heap.size w0 W -> Calls Tryz.prog K (#[.agg #[.string x.1,.string x.2]] ++ cb) W fun e w'=>e = .returned (.bool (P x)) /\ Below W.heap.size W w') :
  Calls Tryz.prog 86 #[v,.func (.func K) #[] cb] w fun e w'=>∃ a c,e = .returned (.slice a (kpL P D).length c) /\ Mr w0 w' (.slice a (kpL P D).length c) (kpL P D):=by
 obtain ⟨hb,a,cap,rfl,hcap,hk⟩:=hR
 rcases hk with ⟨rfl,h0⟩ | ⟨g,rfl,hM⟩
 ·refine (delP_nil K cb a cap w).mono ?_
  rintro e w1 ⟨rfl,h1⟩
  exact ⟨a,cap,rfl,hb.trans (h1.mono hb.size),a,cap,rfl,Nat.zero_le _,Or.inl ⟨rfl,h0⟩⟩
 ·refine (delP_mw K cb P w0 w g cap D eg h12 hcap hM hK).mono ?_
  rintro e w1 ⟨rfl,h1⟩
  exact ⟨_,cap,rfl,h1.bl,_,cap,rfl,Nat.le_trans (kpL_len P D) hcap,Or.inr ⟨g,rfl,h1⟩⟩
end Ve
end Go.Proofs.YtjbmjnbkibmkpaaGreatDoor


namespace Go.Proofs.YtjbmjnbkibmkpaaGreatDoor
open Go.RowKit
namespace Ve
theorem cloneM_some (b o c : Nat) (L : List Bm) (w : World) (hn : L.length <= 1000000) (hc : ∀ j u,(flatM L)[j]? = some u -> w.cell? ⟨b,o + j,none⟩ = some u) :
  Calls Tryz.prog 29 #[.slice (some ⟨b,o,none⟩) L.length c] w fun e w'=>∃ v,e = .returned v /\ w'.ownsRow w.heap.size 47 2 v L.length (flatM L) /\ Below w.heap.size w w':=by
 obtain ⟨i0,hi,hz0,hz1,hz2⟩:=info_parts infoMod
 have q22 : ∀ (w : World) (a : Option Addr) (n c n' c' : Nat),(binOp .eql 23 (.slice a n c) (.slice none n' c')).run Tryz.prog w = .ok (.bool a.isNone) w:=fun w a n c n' c'=>Lib.run_eql_slice_nil w _ _ a n c n' c' Tryz.underlying23
 have HC:=hid hc
 clear hc
 go_enter Tryz.func29,Tryz.ntmps29
 go_wp2_with (at_builtin; refine wpList_append_own _ rfl _ _ 23 rfl w.heap.size 47 i0 _ 2 32 Tryz.underlying23 hi hz0 hz1 hz2 rfl (by decide) _ _ _ rfl (World.ownsRow_made w #[] 0 (Nat.le_refl _) (Nat.zero_le _) (by simp)) ⟨b,o,none⟩ L.length c (flatM L) rfl ?qc1 ?qc2 ?qc3 ?qc4 ?qc5 ?qc6 ?_)
 case qc1=>exact flatM_len L
 case qc2=>
  intro j u hj
  rw [Addr.add_lit]
  exact Lib.cell?_alloc_some _ (HC.out j u hj)
 case qc3=>exact flat_one L
 case qc4=>rw [Nat.zero_add]; unfold maxLen; omega
 case qc5=>rw [Nat.zero_add]; omega
 case qc6=>simp
 intro v' w1 hown hgrow hnil
 obtain ⟨va,vn,vc,rfl⟩:=own_sl hown
 have HO:=hid hown
 have HG:=hid hgrow
 clear hown hgrow hnil
 go_wp2_with fail
 go_ret
 refine ⟨_,rfl,by simpa using HO.out,?_⟩
 exact ((Below.refl _ w).alloc (Nat.le_refl _) _).grown HG.out (by simp) (by intro k hk; simp [Value.ownBlock] at hk; omega)
theorem cloneM_nil (w : World) : Calls Tryz.prog 29 #[.slice none 0 0] w fun e w'=>e = .returned (.slice none 0 0) /\ w' = w:=by
 have q22 : ∀ (w : World) (a : Option Addr) (n c n' c' : Nat),(binOp .eql 23 (.slice a n c) (.slice none n' c')).run Tryz.prog w = .ok (.bool a.isNone) w:=fun w a n c n' c'=>Lib.run_eql_slice_nil w _ _ a n c n' c' Tryz.underlying23
 go_enter Tryz.func29,Tryz.ntmps29
 go_wp2_with fail
 go_ret
 exact ⟨rfl,rfl⟩
theorem cloneM_none (a : Addr) (c : Nat) (w : World) : Calls Tryz.prog 29 #[.slice (some a) 0 c] w fun e w'=>∃ b d,e = .returned (.slice (some b) 0 d) /\ Below w.heap.size w w':=by
 have q22 : ∀ (w : World) (a : Option Addr) (n c n' c' : Nat),(binOp .eql 23 (.slice a n c) (.slice none n' c')).run Tryz.prog w = .ok (.bool a.isNone) w:=fun w a n c n' c'=>Lib.run_eql_slice_nil w _ _ a n c n' c' Tryz.underlying23
 have hrun : ∀ ty b d W,(Builtin.append_ #[23,23] ty #[.slice (some b) 0 d,.slice (some a) 0 c]).run Tryz.prog W = .ok (.slice (some b) 0 d) W:=fun ty b d W=>by
  obtain ⟨i0,hi,hz0,hz1,hz2⟩:=info_parts infoMod
  have hl : (loadCells a 0).run Tryz.prog W = .ok #[] W:=by simpa using run_loadCells_list (P:=Tryz.prog) W a [] (by simp)
  simp [Builtin.append_,run_underlying Tryz.underlying23,Builtin.lenOf,Builtin.firstCells,Go.sizeOf,typeInfo,hi,hl,storeCells]
 have HB0:=hid ((Below.refl w.heap.size w).alloc (Nat.le_refl _) (.cells #[] 47))
 go_enter Tryz.func29,Tryz.ntmps29
 go_wp2_with (at_builtin; refine Lib.wpList_append_run _ rfl _ _ _ _ rfl _ _ rfl rfl _ _ (hrun _ _ _ _) ?_)
 go_ret
 exact ⟨_,_,rfl,HB0.out⟩
theorem cloneM_any (v : Value) (L : List Bm) (w : World) (hn : L.length <= 1000000) (hv : MsAt w v L) (hem : Em v L) :
  Calls Tryz.prog 29 #[v] w fun e w'=>∃ a c,e = .returned (.slice a L.length c) /\ Mr w w' (.slice a L.length c) L:=by
 obtain ⟨a,c,rfl,_,h⟩:=hv
 have hz : L = [] -> _:=hem a c rfl
 cases L with
 | nil=>
  rcases hz rfl with hz | ⟨a',hz⟩
  ·show Calls Tryz.prog 29 #[.slice a 0 c] w _
   rw [hz]
   refine (cloneM_nil w).mono ?_
   rintro e w' ⟨rfl,rfl⟩
   exact ⟨_,_,rfl,Below.refl _ _,_,_,rfl,Nat.le_refl _,Or.inl ⟨rfl,fun _=>rfl⟩⟩
  ·show Calls Tryz.prog 29 #[.slice a 0 c] w _
   rw [hz]
   refine (cloneM_none a' c w).mono ?_
   rintro e w' ⟨b,d,rfl,hb⟩
   exact ⟨_,_,rfl,hb,_,_,rfl,Nat.zero_le _,Or.inl ⟨rfl,fun h=>by cases h⟩⟩
 | cons x r=>
  obtain ⟨b,o,rfl,h2⟩:=h (by simp)
  refine (cloneM_some b o c (x :: r) w hn (ms_flat h2)).mono ?_
  rintro e w' ⟨u,rfl,ho,hb⟩
  have hm:=mr_own ho hb
  obtain ⟨a,c,hu⟩:=hm.sl
  subst hu
  exact ⟨a,c,rfl,hm⟩
theorem eqQ_len (a a' : Option Addr) (n n' c c' : Nat) (w : World) (h : n ≠ n') : Calls Tryz.prog 151 #[.slice a n c,.slice a' n' c'] w fun e w'=>e = .returned (.bool false) /\ Below w.heap.size w w':=by
 have h1 : ¬ (n : Int) = (n' : Int):=by omega
 have h2 : ((n : Int) == (n' : Int)) = false:=by simp; omega
 go_enter Tryz.func151,Tryz.ntmps151
 go_wp2_with fail
 go_ret
 exact ⟨rfl,Below.refl _ _⟩
theorem eqQ_none (a a' : Option Addr) (c c' : Nat) (w : World) : Calls Tryz.prog 151 #[.slice a 0 c,.slice a' 0 c'] w fun e w'=>e = .returned (.bool true) /\ Below w.heap.size w w':=by
 go_enter Tryz.func151,Tryz.ntmps151
 go_wp2_with fail
 go_loopw [13] (fun i wr=>i = .int .i64 0 /\ wr = w) (fun i _=>0)
 case atStart=>exact ⟨rfl,rfl⟩
 case round=>
  obtain ⟨rfl,rfl⟩:=hrel
  go_wp2_with fail
  go_ret
  exact ⟨rfl,Below.refl _ _⟩
theorem eqQ_some (L M : List Bm) (b o c b' o' c' : Nat) (w : World) (hn : L.length <= 1000000) (hl : M.length = L.length)
  (hc : ∀ j (h : j < L.length),w.cell? ⟨b,o + j * 2,none⟩ = some (.string L[j].1) /\ w.cell? ⟨b,o + j * 2 + 1,none⟩ = some (.string L[j].2))
  (hd : ∀ j (h : j < M.length),w.cell? ⟨b',o' + j * 2,none⟩ = some (.string M[j].1) /\ w.cell? ⟨b',o' + j * 2 + 1,none⟩ = some (.string M[j].2)) :
  Calls Tryz.prog 151 #[.slice (some ⟨b,o,none⟩) L.length c,.slice (some ⟨b',o',none⟩) L.length c'] w fun e w'=>e = .returned (.bool (decide (L = M))) /\ Below w.heap.size w w':=by
 have HC:=hid hc
 have HD:=hid hd
 have hgd:=modGuard
 have HX:=hid (show (∀ j (h : j < L.length) (h' : j < M.length),L[j] = M[j]) -> decide (L = M) = true from fun h=>decide_eq_true (List.ext_getElem hl.symm (fun j h1 h2=>h j h1 h2)))
 have HY:=hid (show ∀ j (h : j < L.length) (h' : j < M.length),L[j] ≠ M[j] -> decide (L = M) = false from fun j h h' hne=>decide_eq_false (fun e=>hne (by subst e; rfl)))
 generalize decide (L = M) = z at *
 clear hc hd
 go_enter Tryz.func151,Tryz.ntmps151
 go_wp2_with fail
 go_loopw [13] (fun i wr=>∃ k : Nat,k <= L.length /\ i = .int .i64 k /\ Hid (∀ j (h : j < L.length) (h' : j < M.length),j < k -> L[j] = M[j]) /\ Hid (Below w.heap.size w wr)) (fun i _=>L.length - (intOf i).toNat)
 case atStart=>exact ⟨0,Nat.zero_le _,rfl,hid (fun j _ _ hj=>absurd hj (Nat.not_lt_zero _)),hid (Below.refl _ _)⟩
 case round=>
  obtain ⟨k,hk,rfl,HE,HB⟩:=hrel
  by_cases hlt : k < L.length
  ·have hlm : k < M.length:=by omega
   have hx:=cell_below HB.out (HC.out k hlt).1
   have hy:=cell_below HB.out (HC.out k hlt).2
   have hx':=cell_below HB.out (HD.out k hlm).1
   have hy':=cell_below HB.out (HD.out k hlm).2
   have hne:=fun W=>modNeq L[k].1 L[k].2 M[k].1 M[k].2 W
   have hkI : (k : Int) < (L.length : Int):=by omega
   have HLT:=hid hlt
   have HN:=hid (show L[k] = M[k] -> ∀ j (h : j < L.length) (h' : j < M.length),j < k + 1 -> L[j] = M[j] from fun h0 j h1 h2 h3=>by
    rcases Nat.lt_or_ge j k with h | h
    ·exact HE.out j h1 h2 h
    ·have : j = k:=by omega
     subst this; exact h0)
   have HYK:=hid (HY.out k hlt hlm)
   generalize L[k] = x at *
   generalize M[k] = y at *
   obtain ⟨x1,x2⟩:=x
   obtain ⟨y1,y2⟩:=y
   simp only at hx hy hx' hy' hne
   clear hlt hlm
   by_cases he : x1 = y1 /\ x2 = y2
   ·rw [decide_eq_true he] at hne
    have HN2:=hid (HN.out (Prod.ext he.1 he.2))
    clear he HN
    go_wp2_with fail
    go_quiet (fail)
    go_wp2_with fail
    go_roundw
    case rel=>first | exact ⟨k + 1,HLT.out,nr_idx k,HN2,hid (below_drawn_of HB.out _)⟩ | exact ⟨k + 1,HLT.out,nx_idx HLT.out hn,HN2,hid (below_drawn_of HB.out _)⟩
    case measure=>first | exact nr_meas HLT.out | exact nx_meas HLT.out hn
   ·rw [decide_eq_false he] at hne
    have HZ:=hid (HYK.out (fun e=>he (by injection e with e1 e2; exact ⟨e1,e2⟩)))
    clear he HN
    go_wp2_with fail
    go_quiet (fail)
    go_wp2_with fail
    go_ret
    exact ⟨by rw [HZ.out]; rfl,below_drawn_of HB.out _⟩
  ·have hkI : ¬ (k : Int) < (L.length : Int):=by omega
   have HZ:=hid (HX.out (fun j h h'=>HE.out j h h' (by omega)))
   go_wp2_with fail
   go_ret
   exact ⟨by rw [HZ.out]; rfl,HB.out⟩
theorem eqQ_any (L M : List Bm) (v u : Value) (w : World) (hn : L.length <= 1000000) (hv : MsAt w v L) (hu : MsAt w u M) : Calls Tryz.prog 151 #[v,u] w fun e w'=>e = .returned (.bool (decide (L = M))) /\ Below w.heap.size w w':=by
 obtain ⟨a,c,rfl,_,h⟩:=hv
 obtain ⟨a',c',rfl,_,h'⟩:=hu
 by_cases hl : M.length = L.length
 ·cases L with
  | nil=>
   have : M = []:=List.length_eq_zero_iff.1 hl
   subst this
   exact eqQ_none a a' c c' w
  | cons x r=>
   obtain ⟨b,o,rfl,h2⟩:=h (by simp)
   obtain ⟨b',o',rfl,h3⟩:=h' (fun e=>by rw [e] at hl; simp at hl)
   rw [hl]
   exact eqQ_some (x :: r) M b o c b' o' c' w hn hl h2 h3
 ·rw [decide_eq_false (fun e=>hl (by rw [e]))]
  exact eqQ_len a a' _ _ c c' w (fun e=>hl e.symm)
end Ve
end Go.Proofs.YtjbmjnbkibmkpaaGreatDoor


namespace Go.Proofs.YtjbmjnbkibmkpaaGreatDoor
open Go.RowKit Go.Maps
namespace Ve
theorem rX_mem {w : World} {v : Value} {Q : List Raw} {L : List Ent} {roots : List Bm} (I : Ixs w v Q L) (h : (chkG Q L roots).1 = 0) {m : Bm} : m ∈ rX Q L roots ↔ Rch (reqQ Q L) roots m:=by
 unfold rX
 rw [if_pos h,List.mem_filter]
 constructor
 ·rintro ⟨_,h1⟩; simpa using h1
 ·intro h1; exact ⟨rch_univ I h h1,by simpa using h1⟩
theorem bX_univ {Q : List Raw} {L : List Ent} {roots : List Bm} : ∀ m,m ∈ bX Q L roots -> m ∈ univ L:=fun m hm=>(rX_in ((bX_jn Q L roots).sub m hm).1).2
theorem bX_in {w : World} {v : Value} {Q : List Raw} {L : List Ent} {roots : List Bm} (I : Ixs w v Q L) (h : (chkG Q L roots).1 = 0) {m : Bm} (hm : m ∈ bX Q L roots) : Rch (reqQ Q L) roots m:=(rX_mem I h).1 ((bX_jn Q L roots).sub m hm).1
end Ve
end Go.Proofs.YtjbmjnbkibmkpaaGreatDoor


namespace Go.Proofs.YtjbmjnbkibmkpaaGreatDoor
open Go.RowKit
namespace Ve
def trm (g : List Bm -> Bool) : Nat -> List Bm -> Nat -> List Bm
 | 0,l,_=>l
 | n + 1,l,i=>if i < l.length then (if g (l.eraseIdx i) then trm g n (l.eraseIdx i) i else trm g n l (i + 1)) else l
theorem trm_goes {g : List Bm -> Bool} {n : Nat} {l : List Bm} {i : Nat} (h : i < l.length) (h1 : g (l.eraseIdx i) = true) : trm g (n + 1) l i = trm g n (l.eraseIdx i) i:=by
 rw [trm,if_pos h,if_pos h1]
theorem trm_stays {g : List Bm -> Bool} {n : Nat} {l : List Bm} {i : Nat} (h : i < l.length) (h1 : g (l.eraseIdx i) = false) : trm g (n + 1) l i = trm g n l (i + 1):=by
 rw [trm,if_pos h,if_neg (by rw [h1]; simp)]
theorem trm_end {g : List Bm -> Bool} {n : Nat} {l : List Bm} {i : Nat} (h : ¬ i < l.length) : trm g n l i = l:=by
 cases n with
 | zero=>rfl
 | succ n=>rw [trm,if_neg h]
def trmA (g : List Bm -> Bool) (l : List Bm) : List Bm:=trm g l.length l 0
theorem erase_erase (l : List Bm) {i j : Nat} (h : j < i) : ((l.eraseIdx i).eraseIdx j).Sublist (l.eraseIdx j):=by
 induction l generalizing i j with
 | nil=>simp
 | cons a l ih=>
  cases i with
  | zero=>omega
  | succ i=>
   cases j with
   | zero=>simp only [List.eraseIdx_cons_succ,List.eraseIdx_cons_zero]; exact List.eraseIdx_sublist _ _
   | succ j=>simp only [List.eraseIdx_cons_succ]; exact (ih (by omega)).cons_cons a
structure TrmOk (g : List Bm -> Bool) (sel X : List Bm) : Prop where
 sub : X.Sublist sel
 will : g X = true
 least : ∀ j,j < X.length -> g (X.eraseIdx j) = false
def MoreG (g : List Bm -> Bool) (sel : List Bm) : Prop:=∀ a b : List Bm,a.Sublist b -> b.Sublist sel -> g a = true -> g b = true
theorem trm_ok {g : List Bm -> Bool} {sel : List Bm} (hm : MoreG g sel) : ∀ (n : Nat) (l : List Bm) (i : Nat),l.length - i <= n -> l.Sublist sel -> g l = true -> (∀ j,j < i -> j < l.length -> g (l.eraseIdx j) = false) -> TrmOk g sel (trm g n l i)
 | 0,l,i,hn,hs,hg,h=>⟨hs,hg,fun j (hj : j < l.length)=>h j (by omega) hj⟩
 | n + 1,l,i,hn,hs,hg,h=>by
  by_cases hi : i < l.length
  ·cases h1 : g (l.eraseIdx i) with
   | true=>
    rw [trm_goes hi h1]
    have hl:=List.length_eraseIdx_of_lt hi
    refine trm_ok hm n _ i (by omega) ((List.eraseIdx_sublist _ _).trans hs) h1 fun j hj hjl=>?_
    cases h2 : g ((l.eraseIdx i).eraseIdx j) with
    | false=>rfl
    | true=>
     have:=hm _ _ (erase_erase l hj) ((List.eraseIdx_sublist _ _).trans hs) h2
     rw [h j hj (by omega)] at this; cases this
   | false=>
    rw [trm_stays hi h1]
    refine trm_ok hm n l (i + 1) (by omega) hs hg fun j hj hjl=>?_
    rcases Nat.lt_or_ge j i with h2 | h2
    ·exact h j h2 hjl
    ·have : j = i:=by omega
     subst this; exact h1
  ·rw [trm_end hi]
   exact ⟨hs,hg,fun j hj=>h j (by omega) hj⟩
theorem trmA_ok {g : List Bm -> Bool} {sel : List Bm} (hm : MoreG g sel) (hg : g sel = true) : TrmOk g sel (trmA g sel):=
 trm_ok hm _ sel 0 (by omega) (List.Sublist.refl _) hg fun j hj=>absurd hj (Nat.not_lt_zero j)
theorem Jn.between {A B S E sel : List Bm} (ha : Jn A sel) (hs : Jn S sel) (hb : Jn B E) (h1 : ∀ m,m ∈ A -> m ∈ B) (h2 : ∀ m,m ∈ B -> m ∈ S) : E = sel:=by
 have hEs : ∀ m,m ∈ E -> m ∈ sel:=fun m hm=>by
  obtain ⟨a1,a2⟩:=hb.sub m hm
  obtain ⟨s,b1,b2,b3⟩:=hs.top m (h2 m a1) a2
  obtain ⟨c1,c2⟩:=ha.sub s b1
  obtain ⟨e,d1,d2,d3⟩:=hb.top s (h1 s c1) c2
  have : e = m:=rising_same hb.ri d1 hm (d2.trans b2)
  subst this
  rw [ver_same a2 c2 b2.symm b3 d3]; exact b1
 refine rising_ext hb.ri hs.ri fun m=>⟨hEs m,fun hm=>?_⟩
 obtain ⟨c1,c2⟩:=ha.sub m hm
 obtain ⟨e,d1,d2,_⟩:=hb.top m (h1 m c1) c2
 have:=rising_same hs.ri (hEs e d1) hm d2
 rw [<- this]; exact d1
end Ve
end Go.Proofs.YtjbmjnbkibmkpaaGreatDoor


namespace Go.Proofs.YtjbmjnbkibmkpaaGreatDoor
open Go.RowKit Go.Maps
namespace Ve
open Classical in
noncomputable def gB (Q : List Raw) (L : List Ent) (sel : List Bm) (R : List Bm) : Bool:=decide (bX Q L R = sel)
theorem gB_iff {Q : List Raw} {L : List Ent} {sel R : List Bm} : gB Q L sel R = true ↔ bX Q L R = sel:=by unfold gB; simp
theorem gB_not {Q : List Raw} {L : List Ent} {sel R : List Bm} : gB Q L sel R = false ↔ ¬ bX Q L R = sel:=by unfold gB; simp
theorem rX_more {w : World} {v : Value} {Q : List Raw} {L : List Ent} {A B : List Bm} (I : Ixs w v Q L) (hc : (chk Q L).1 = 0) (hB : ∀ m,m ∈ B -> m ∈ univ L) (h : ∀ m,m ∈ A -> m ∈ B) : ∀ m,m ∈ rX Q L A -> m ∈ rX Q L B:=fun _ hm=>
 (rX_mem I (chkG_in I hc hB)).2 (((rX_mem I (chkG_in I hc fun x hx=>hB x (h x hx))).1 hm).mono h)
theorem bX_again {w : World} {v : Value} {Q : List Raw} {L : List Ent} {roots : List Bm} (I : Ixs w v Q L) (h : (chkG Q L roots).1 = 0) : bX Q L (bX Q L roots) = bX Q L roots:=by
 have hc:=chkG_chk h
 have hg:=chkG_in I hc (bX_univ (Q:=Q) (L:=L) (roots:=roots))
 have j:=bX_jn Q L roots
 have jE : Jn (rX Q L (bX Q L roots)) (bX Q L roots):=⟨j.ri,fun e he=>⟨(rX_mem I hg).2 (.root he),(j.sub e he).2⟩,fun x hx hr=>j.top x ((rX_mem I h).2 (by
  have hx2:=(rX_mem I hg).1 hx
  clear hx hr
  induction hx2 with
  | root hr=>exact bX_in I h hr
  | step _ hr ih=>exact .step ih hr)) hr⟩
 exact (bX_jn Q L (bX Q L roots)).one jE (fun _ _=>Iff.rfl)
theorem gB_more {w : World} {v : Value} {Q : List Raw} {L : List Ent} {sel : List Bm} (I : Ixs w v Q L) (hc : (chk Q L).1 = 0) (hu : ∀ m,m ∈ sel -> m ∈ univ L) (hs : bX Q L sel = sel) : MoreG (gB Q L sel) sel:=fun a b hab hbs hg=>by
 rw [gB_iff] at hg ⊢
 have jA:=bX_jn Q L a
 have jS:=bX_jn Q L sel
 rw [hg] at jA
 rw [hs] at jS
 exact Jn.between jA jS (bX_jn Q L b) (rX_more I hc (fun m hm=>hu m (hbs.subset hm)) fun m hm=>hab.subset hm) (rX_more I hc hu fun m hm=>hbs.subset hm)
noncomputable def trX (Q : List Raw) (L : List Ent) (sel : List Bm) : List Bm:=trmA (gB Q L sel) sel
theorem trX_ok {w : World} {v : Value} {Q : List Raw} {L : List Ent} {sel : List Bm} (I : Ixs w v Q L) (hc : (chk Q L).1 = 0) (hu : ∀ m,m ∈ sel -> m ∈ univ L) (hs : bX Q L sel = sel) : TrmOk (gB Q L sel) sel (trX Q L sel):=trmA_ok (gB_more I hc hu hs) (gB_iff.2 hs)
end Ve
end Go.Proofs.YtjbmjnbkibmkpaaGreatDoor


namespace Go.Proofs.YtjbmjnbkibmkpaaGreatDoor
open Go.RowKit Go.Maps
namespace Ve
def woM (l : List Bm) (m : Bm) : List Bm:=l.filter fun x=>!eqM x m
theorem woM_sub (l : List Bm) (m : Bm) : (woM l m).Sublist l:=List.filter_sublist
theorem woM_none {l : List Bm} {m : Bm} (h : ∀ x,x ∈ l -> x ≠ m) : woM l m = l:=by
 unfold woM
 rw [List.filter_eq_self]
 intro x hx
 rw [eqM_ne (h x hx)]; rfl
theorem woM_mid {K r : List Bm} {m : Bm} (h : (K ++ m :: r).Nodup) : woM (K ++ m :: r) m = K ++ r:=by
 obtain ⟨h1,h2,h3⟩:=List.nodup_append.1 h
 have h4 : m ∉ r:=(List.nodup_cons.1 h2).1
 have e1 : woM K m = K:=woM_none fun x hx=>h3 x hx m (List.mem_cons_self ..)
 have e2 : woM r m = r:=woM_none fun x hx e=>h4 (e ▸ hx)
 have e3 : woM (K ++ m :: r) m = woM K m ++ woM (m :: r) m:=by unfold woM; rw [List.filter_append]
 have e4 : woM (m :: r) m = woM r m:=by unfold woM; rw [List.filter_cons_of_neg]; rw [eqM_iff.2 rfl]; simp
 rw [e3,e4,e1,e2]
theorem erase_mid (K r : List Bm) (m : Bm) : (K ++ m :: r).eraseIdx K.length = K ++ r:=by
 rw [List.eraseIdx_append_of_length_le (Nat.le_refl _),Nat.sub_self]; rfl
def lfN (g : List Bm -> Bool) (sel : List Bm) : Nat -> List Bm
 | 0=>sel
 | k + 1=>match sel[k]? with
  | some m=>if g (woM (lfN g sel k) m) then woM (lfN g sel k) m else lfN g sel k
  | none=>lfN g sel k
theorem lfN_goes {g : List Bm -> Bool} {sel : List Bm} {k : Nat} (hk : k < sel.length) (h : g (woM (lfN g sel k) sel[k]) = true) : lfN g sel (k + 1) = woM (lfN g sel k) sel[k]:=by
 show (match sel[k]? with | some m=>_ | none=>_) = _
 rw [List.getElem?_eq_getElem hk]
 exact if_pos h
theorem lfN_stays {g : List Bm -> Bool} {sel : List Bm} {k : Nat} (hk : k < sel.length) (h : g (woM (lfN g sel k) sel[k]) = false) : lfN g sel (k + 1) = lfN g sel k:=by
 show (match sel[k]? with | some m=>_ | none=>_) = _
 rw [List.getElem?_eq_getElem hk]
 exact if_neg (by rw [h]; simp)
theorem lfN_sub (g : List Bm -> Bool) (sel : List Bm) : ∀ k,(lfN g sel k).Sublist sel
 | 0=>List.Sublist.refl _
 | k + 1=>by
  have ih:=lfN_sub g sel k
  by_cases hk : k < sel.length
  ·cases h : g (woM (lfN g sel k) sel[k]) with
   | true=>rw [lfN_goes hk h]; exact (woM_sub _ _).trans ih
   | false=>rw [lfN_stays hk h]; exact ih
  ·have e : lfN g sel (k + 1) = lfN g sel k:=by
    show (match sel[k]? with | some m=>_ | none=>_) = _
    rw [List.getElem?_eq_none (by omega)]
   rw [e]; exact ih
theorem lfN_trm {g : List Bm -> Bool} {sel : List Bm} (hnd : sel.Nodup) : ∀ k,k <= sel.length -> ∃ K,lfN g sel k = K ++ sel.drop k /\ trm g (sel.length - k) (lfN g sel k) K.length = trmA g sel
 | 0,_=>⟨[],rfl,rfl⟩
 | k + 1,hk1=>by
  have hk : k < sel.length:=by omega
  obtain ⟨K,h1,h2⟩:=lfN_trm hnd k (by omega)
  rw [List.drop_eq_getElem_cons hk] at h1
  have hn : (K ++ sel[k] :: sel.drop (k + 1)).Nodup:=by rw [<- h1]; exact (lfN_sub g sel k).nodup hnd
  have hw : woM (lfN g sel k) sel[k] = K ++ sel.drop (k + 1):=by rw [h1]; exact woM_mid hn
  have he : (lfN g sel k).eraseIdx K.length = K ++ sel.drop (k + 1):=by rw [h1]; exact erase_mid _ _ _
  have hl : K.length < (lfN g sel k).length:=by rw [h1]; simp; omega
  rw [show sel.length - k = sel.length - (k + 1) + 1 by omega] at h2
  cases h : g (woM (lfN g sel k) sel[k]) with
  | true=>
   rw [trm_goes hl (by rw [he,<- hw]; exact h),he] at h2
   exact ⟨K,by rw [lfN_goes hk h,hw],by rw [lfN_goes hk h,hw]; exact h2⟩
  | false=>
   rw [trm_stays hl (by rw [he,<- hw]; exact h)] at h2
   refine ⟨K ++ [sel[k]],by rw [lfN_stays hk h,h1]; simp,?_⟩
   rw [lfN_stays hk h,List.length_append]
   exact h2
theorem lfN_all {g : List Bm -> Bool} {sel : List Bm} (hnd : sel.Nodup) : lfN g sel sel.length = trmA g sel:=by
 obtain ⟨K,_,h2⟩:=lfN_trm (g:=g) hnd sel.length (Nat.le_refl _)
 rw [Nat.sub_self] at h2
 exact h2
theorem rising_nodup {R : List Bm} (h : rising R) : R.Nodup:=List.Pairwise.imp (fun {a b} h e=>by rw [e,lt_irrefl] at h; cases h) h
open Classical in
noncomputable def trF (Q : List Raw) (L : List Ent) (sel : List Bm) : Nat × Option Nat:=if (chkG Q L sel).1 = 0 then (if bX Q L sel = sel then (0,none) else (3,none)) else chkG Q L sel
open Classical in
noncomputable def trR (Q : List Raw) (L : List Ent) (sel : List Bm) : List Bm:=if (trF Q L sel).1 = 0 then trX Q L sel else []
theorem trF_bad {Q : List Raw} {L : List Ent} {sel : List Bm} (h : ¬ (chkG Q L sel).1 = 0) : trF Q L sel = chkG Q L sel:=if_neg h
theorem trF_other {Q : List Raw} {L : List Ent} {sel : List Bm} (h : (chkG Q L sel).1 = 0) (h2 : ¬ bX Q L sel = sel) : trF Q L sel = (3,none):=by unfold trF; rw [if_pos h,if_neg h2]
theorem trF_good {Q : List Raw} {L : List Ent} {sel : List Bm} (h : (chkG Q L sel).1 = 0) (h2 : bX Q L sel = sel) : trF Q L sel = (0,none):=by unfold trF; rw [if_pos h,if_pos h2]
theorem trR_bad {Q : List Raw} {L : List Ent} {sel : List Bm} (h : ¬ (chkG Q L sel).1 = 0) : trR Q L sel = []:=by unfold trR; rw [trF_bad h,if_neg h]
theorem trR_other {Q : List Raw} {L : List Ent} {sel : List Bm} (h : (chkG Q L sel).1 = 0) (h2 : ¬ bX Q L sel = sel) : trR Q L sel = []:=by unfold trR; rw [trF_other h h2,if_neg (by decide)]
theorem trR_good {Q : List Raw} {L : List Ent} {sel : List Bm} (h : (chkG Q L sel).1 = 0) (h2 : bX Q L sel = sel) : trR Q L sel = trX Q L sel:=by unfold trR; rw [trF_good h h2,if_pos rfl]
end Ve
end Go.Proofs.YtjbmjnbkibmkpaaGreatDoor
