/-
  TmD
-/
import Derived.Test.YtlcffhadobhfkaaGreatDoorMq3
import Derived.Test.YtlcffhadobhfkaaGreatDoorMq2
import Derived.Test.YtlcffhadobhfkaaGreatDoorMq5
import Derived.Test.YtlcffhadobhfkaaGreatDoorMq6
import Derived.Test.YtlcffhadobhfkaaGreatDoorMq9
import Derived.Test.YtlcffhadobhfkaaGreatDoorMq11
import Derived.Test.YtlcffhadobhfkaaGreatDoorMq18
import Derived.Test.YtlcffhadobhfkaaGreatDoorMq19
import Derived.Test.YtlcffhadobhfkaaGreatDoorMq20
import Derived.Test.YtlcffhadobhfkaaGreatDoorMq23
import Derived.Test.YtlcffhadobhfkaaGreatDoorMq16
import Derived.Test.YtlcffhadobhfkaaGreatDoorMq1
import Derived.Test.YtlcffhadobhfkaaGreatDoorMq32
import Derived.Test.YtlcffhadobhfkaaGreatDoorMq22
import Derived.Test.YtlcffhadobhfkaaGreatDoorMq34
import Derived.Test.YtlcffhadobhfkaaGreatDoorMq36
import Derived.Test.YtlcffhadobhfkaaGreatDoorMq39
import Derived.Test.YtlcffhadobhfkaaGreatDoorMq47
import Derived.Test.YtlcffhadobhfkaaGreatDoorMq45
import Derived.Test.YtlcffhadobhfkaaGreatDoorMq37
import Derived.Test.YtlcffhadobhfkaaGreatDoorMq43
import Derived.Test.YtlcffhadobhfkaaGreatDoorMq31
import Derived.Test.YtlcffhadobhfkaaGreatDoorMq40
import Derived.Test.YtlcffhadobhfkaaGreatDoorMq104
namespace Go.Proofs.YtlcffhadobhfkaaGreatDoor
open Go.RowKit Go.Maps
namespace Ve
theorem grT_below {W W' : World} (h : W.grownBy W' none) : Below W.heap.size W W':=⟨h.os,h.tape,h.output,h.size,fun k hk=>h.block k hk (by simp)⟩
set_option maxRecDepth 100000 in
set_option maxHeartbeats 4000000 in
theorem rwo_any (X : List Bm) (k : Nat) (v : Value) (w : World) (hX : X.length <= 1000) (hk : k < X.length) (hv : MsAt w v X) :
    Calls Tryz.prog 109 #[v,.int .i64 (k : Int)] w fun e w'=>∃ a c,e = .returned (.slice a (X.eraseIdx k).length c) /\ Mr w w' (.slice a (X.eraseIdx k).length c) (X.eraseIdx k):=by
  obtain ⟨va,cc,hv1,-⟩:=id hv
  subst hv1
  obtain ⟨cb,co,hca,-⟩:=hv.cells hk
  subst hca
  have hccl : X.length <= cc:=hv.cap
  have HT1:=hid (ms_take hv (k:=k) (by omega))
  have hk0 : (0 : Int) <= (k : Int):=Int.natCast_nonneg _
  have hkI : (k : Int) < (X.length : Int):=by omega
  have hkL : (k : Int) <= (X.length : Int):=by omega
  have hkC : (k : Int) <= (cc : Int):=by omega
  have hk10 : (0 : Int) <= (k : Int) + 1:=by omega
  have hk1L : (k : Int) + 1 <= (X.length : Int):=by omega
  have hk1C : (k : Int) + 1 <= (cc : Int):=by omega
  have HLC:=hid (show X.take k ++ X.drop (k + 1) = X.eraseIdx k from (List.eraseIdx_eq_take_drop_succ X k).symm)
  have HD1:=hid (fun W (h : Below w.heap.size w W)=>ms_drop (hv.below h) (k + 1) (cc - (k + 1)) (by omega))
  have HD2:=hid (fun W (he : cc = k + 1)=>show MsAt W (.slice (some ⟨cb,co,none⟩) (X.length - (k + 1)) (cc - (k + 1))) (X.drop (k + 1)) by
    have hz : X.drop (k + 1) = []:=List.drop_eq_nil_of_le (by omega)
    rw [hz]
    exact ⟨_,_,by rw [show X.length - (k + 1) = 0 by omega]; rfl,Nat.zero_le _,fun h=>absurd rfl h⟩)
  have HL1:=hid (show (X.take k).length <= 1000 by simp; omega)
  have HL2:=hid (show (X.drop (k + 1)).length <= 1000 by simp; omega)
  obtain ⟨u1,w1,hrun1,hown1,hgr1⟩:=both_run [] (X.take k) (.slice none 0 0) _ w w.heap.size (Nat.le_refl _) (by simp) HL1.out (World.ownsRow_nil _ _ _ _) HT1.out (em_ad _ _ _ _)
  rw [List.nil_append] at hown1
  have HR1:=hid hrun1
  have HB1:=hid (show Below w.heap.size w w1 from grT_below hgr1)
  have HO1:=hid hown1
  have HLT1:=hid (fun k hk=>(hown1.lt k hk).1)
  have HAP:=hid (fun sv (hsv : MsAt w1 sv (X.drop (k + 1))) (he : Em sv (X.drop (k + 1)))=>both_run (X.take k) (X.drop (k + 1)) _ sv w1 w.heap.size HB1.out.size HL1.out HL2.out HO1.out hsv he)
  rw [HLC.out] at HAP
  obtain ⟨a1,c1,hu1⟩:=own_slN hown1
  subst hu1
  clear hv hrun1 hown1 hgr1 HT1 HLC
  generalize X.take k = CT at *
  generalize X.drop (k + 1) = CD at *
  generalize X.eraseIdx k = LC at *
  by_cases hcap : (k : Int) + 1 < (cc : Int)
  · obtain ⟨dv,w2,hrun,hown,hgr⟩:=HAP.out _ (HD1.out _ HB1.out) (em_ad _ _ _ _)
    have HRUN:=hid hrun
    have HM2:=hid (mr_own hown (HB1.out.grown hgr HB1.out.size HLT1.out))
    obtain ⟨da,dc,hdv⟩:=own_slN hown
    subst hdv
    clear hrun hown hgr HAP HD1 HD2
    go_enter Tryz.func109,Tryz.ntmps109
    go_wp2_with (at_builtin; first | refine Lib.wpList_append_run _ rfl _ _ _ _ rfl _ _ rfl rfl _ _ HR1.out ?_ | refine Lib.wpList_append_run _ rfl _ _ _ _ rfl _ _ rfl rfl _ _ HRUN.out ?_)
    go_ret
    exact ⟨_,_,rfl,HM2.out⟩
  · have HC2 : Hid (cc = k + 1):=hid (by omega)
    obtain ⟨dv,w2,hrun,hown,hgr⟩:=HAP.out _ (HD2.out w1 HC2.out) (em_ad _ _ _ _)
    have HRUN:=hid hrun
    have HM2:=hid (mr_own hown (HB1.out.grown hgr HB1.out.size HLT1.out))
    obtain ⟨da,dc,hdv⟩:=own_slN hown
    subst hdv
    clear hrun hown hgr HAP HD1 HD2
    go_enter Tryz.func109,Tryz.ntmps109
    go_wp2_with (at_builtin; first | refine Lib.wpList_append_run _ rfl _ _ _ _ rfl _ _ rfl rfl _ _ HR1.out ?_ | refine Lib.wpList_append_run _ rfl _ _ _ _ rfl _ _ rfl rfl _ _ HRUN.out ?_)
    go_ret
    exact ⟨_,_,rfl,HM2.out⟩
set_option maxRecDepth 100000 in
set_option maxHeartbeats 4000000 in
theorem ro_bad (Q : List Raw) (L : List Ent) (sel : List Bm) (v sv : Value) (w : World) (hn : L.length <= 1000) (hsn : sel.length <= 1000) (sh : ∀ e,e ∈ L -> ShE e) (I : Ixs w v Q L) (hs : MsAt w sv sel) (h0 : ¬ (chkG Q L sel).1 = 0) :
    Calls Tryz.prog 58 #[v,sv] w fun e w'=>e = .returned (.tuple #[.slice none 0 0,faultV (chkG Q L sel)]) /\ Below w.heap.size w w':=by
  have HRO:=hid (fun W (h : Below w.heap.size w W)=>bo_bad Q L sel v sv W hn (by omega) sh (I.below h) (hs.below h) h0)
  have HB0:=hid ((Below.refl w.heap.size w).alloc (Nat.le_refl _) (.cells #[.int .i64 0,.int .i64 0] 36))
  have HE0:=hid (heap_new w (.cells #[.int .i64 0,.int .i64 0] 36))
  obtain ⟨a,c,hv1,-⟩:=id I.es
  subst hv1
  obtain ⟨ra,rc,hrv,-⟩:=id hs
  subst hrv
  obtain ⟨cc,oo,hco⟩ : ∃ cc oo,chkG Q L sel = (cc,oo):=⟨_,_,rfl⟩
  rw [hco] at HRO h0 ⊢
  unfold faultV at HRO ⊢
  simp only at HRO h0 ⊢
  generalize atOf oo = ao at *
  have hpos : (0 : Int) < (cc : Int):=by omega
  clear I hs sh h0 hco
  go_enter Tryz.func58,Tryz.ntmps58
  go_wp2_with fail
  refine (HRO.out _ HB0.out).mono ?_
  rintro e w1 ⟨rfl,hb⟩
  have HB1:=hid (HB0.out.trans (hb.mono HB0.out.size))
  have HE1:=hid ((hb.block _ (lt_of_blk HE0.out)).trans HE0.out)
  clear hb
  have HB2:=hid (HB1.out.alloc HB1.out.size (.cells #[.int .i64 (cc : Int),.int .i64 ao] 36))
  have HE2:=hid (heap_old w1 (.cells #[.int .i64 (cc : Int),.int .i64 ao] 36) HE1.out)
  have HF2:=hid (heap_new w1 (.cells #[.int .i64 (cc : Int),.int .i64 ao] 36))
  have hlt:=lt_of_blk HE1.out
  have hne : ¬ w1.heap.size = w.heap.size:=by omega
  have hne2 : ¬ w.heap.size = w1.heap.size:=by omega
  go_wp2_with fail
  generalize w1.alloc (.cells #[.int .i64 (cc : Int),.int .i64 ao] 36) = w2 at *
  obtain ⟨s0,s1,tf⟩:=box_two HE2.out
  obtain ⟨f0,f1,_⟩:=box_two HF2.out
  go_region_with fail
  all_goals
    go_wp2_with fail
    refine bodyPost_ret (v:=.tuple #[.slice none 0 0,.agg #[.int .i64 (cc : Int),.int .i64 ao]]) (by simp [results,Tryz.results58,go_sem,s0,s1]) rfl ⟨rfl,?_⟩
    exact put2_below (below_drawn_of HB2.out 1) (Nat.le_refl _)
set_option maxRecDepth 100000 in
set_option maxHeartbeats 4000000 in
theorem ro_other (Q : List Raw) (L : List Ent) (sel : List Bm) (v sv : Value) (w : World) (hn : L.length <= 1000) (hsn : sel.length <= 1000) (sh : ∀ e,e ∈ L -> ShE e) (I : Ixs w v Q L) (hs : MsAt w sv sel) (h0 : (chkG Q L sel).1 = 0) (h1 : ¬ bX Q L sel = sel) :
    Calls Tryz.prog 58 #[v,sv] w fun e w'=>e = .returned (.tuple #[.slice none 0 0,.agg #[.int .i64 3,.int .i64 (-1)]]) /\ Below w.heap.size w w':=by
  have HRO:=hid (fun W (h : Below w.heap.size w W)=>bo_all Q L sel v sv W hn (by omega) sh (I.below h) (hs.below h))
  rw [rF_good h0,faultV0] at HRO
  have HSA:=hid (fun W u (h : Below w.heap.size w W) (hu : MsAt W u (bX Q L sel))=>sameG_any (bX Q L sel) sel u sv W (Nat.le_trans bX_len (by omega)) hu (hs.below h))
  rw [decide_eq_false h1] at HSA
  have HB0:=hid ((Below.refl w.heap.size w).alloc (Nat.le_refl _) (.cells #[.int .i64 0,.int .i64 0] 36))
  have HE0:=hid (heap_new w (.cells #[.int .i64 0,.int .i64 0] 36))
  have HBA:=hid (fun W=>rbare_any 3 W)
  obtain ⟨a,c,hv1,-⟩:=id I.es
  subst hv1
  obtain ⟨ra,rc,hrv,-⟩:=id hs
  subst hrv
  clear I hs sh h0 h1
  generalize bX Q L sel = X at *
  go_enter Tryz.func58,Tryz.ntmps58
  go_wp2_with fail
  refine (HRO.out _ HB0.out).mono ?_
  rintro e w1 ⟨ba,bc,rfl,hm⟩
  have HB1:=hid (HB0.out.trans (hm.1.mono HB0.out.size))
  have HE1:=hid ((hm.1.block _ (lt_of_blk HE0.out)).trans HE0.out)
  have HM1:=hid (hm.ms.below ((Below.refl w1.heap.size w1).alloc (Nat.le_refl _) (.cells #[.int .i64 0,.int .i64 (-1)] 36)))
  clear hm HRO
  have HB2:=hid (HB1.out.alloc HB1.out.size (.cells #[.int .i64 0,.int .i64 (-1)] 36))
  have HE2:=hid (heap_old w1 (.cells #[.int .i64 0,.int .i64 (-1)] 36) HE1.out)
  have hne : ¬ w1.heap.size = w.heap.size:=Nat.ne_of_gt (lt_of_blk HE1.out)
  have hne2 : ¬ w.heap.size = w1.heap.size:=Nat.ne_of_lt (lt_of_blk HE1.out)
  go_wp2_with fail
  generalize w1.alloc (.cells #[.int .i64 0,.int .i64 (-1)] 36) = w2 at *
  refine (HSA.out _ _ HB2.out HM1.out).mono ?_
  rintro e w3 ⟨rfl,hb⟩
  have HB3:=hid (HB2.out.trans (hb.mono HB2.out.size))
  have HE3:=hid ((hb.block _ (lt_of_blk HE2.out)).trans HE2.out)
  clear hb
  go_wp2_with fail
  refine (HBA.out _).mono ?_
  rintro e w4 ⟨rfl,hb⟩
  have HB4:=hid (HB3.out.trans (hb.mono HB3.out.size))
  have HE4:=hid ((hb.block _ (lt_of_blk HE3.out)).trans HE3.out)
  clear hb
  obtain ⟨s0,s1,tf⟩:=box_two HE4.out
  go_wp2_with fail
  refine bodyPost_ret (v:=.tuple #[.slice none 0 0,.agg #[.int .i64 3,.int .i64 (-1)]]) (by simp [results,Tryz.results58,go_sem,s0,s1]) rfl ⟨rfl,?_⟩
  exact put2_below HB4.out (Nat.le_refl _)
def lenOfS : Value -> Nat
  | .slice _ n _=>n
  | _=>0
theorem ro_meas {n m i : Nat} {a b : Option Addr} {c d : Nat} (h : m = n - 1) (hi : i < n) : lenOfS (.slice a m c) - (intOf (Value.int .i64 (i : Int))).toNat < lenOfS (.slice b n d) - (intOf (Value.int .i64 (i : Int))).toNat:=by
  simp [lenOfS,intOf]; omega
set_option maxRecDepth 100000 in
set_option maxHeartbeats 8000000 in
theorem ro_good (Q : List Raw) (L : List Ent) (sel : List Bm) (v sv : Value) (w : World) (hn : L.length ≤ 1000) (hsn : sel.length ≤ 1000) (sh : ∀ e, e ∈ L → ShE e) (I : Ixs w v Q L) (hs : MsAt w sv sel) (hem : Em sv sel) (h0 : (chkG Q L sel).1 = 0) (h1 : bX Q L sel = sel) :
    Calls Tryz.prog 58 #[v,sv] w fun e w'=>∃ a c,e = .returned (.tuple #[.slice a (trX Q L sel).length c,.agg #[.int .i64 0,.int .i64 (-1)]]) /\ MsAt w' (.slice a (trX Q L sel).length c) (trX Q L sel) /\ Below w.heap.size w w':=by
  have HUN:=hid (show ∀ x,x ∈ sel -> x ∈ univ L from fun x hx=>by rw [<- h1] at hx; exact bX_univ x hx)
  have HRO:=hid (fun W (h : Below w.heap.size w W)=>bo_all Q L sel v sv W hn (by omega) sh (I.below h) (hs.below h))
  rw [rF_good h0,faultV0,h1] at HRO
  have HSA:=hid (fun W u (h : Below w.heap.size w W) (hu : MsAt W u sel)=>sameG_any sel sel u sv W (by omega) hu (hs.below h))
  rw [decide_eq_true (Eq.refl sel)] at HSA
  have HBE:=hid (fun (E : List Bm) W u (h : Below w.heap.size w W) (hE : E.Sublist sel) (hu : MsAt W u E)=>show Calls Tryz.prog 35 #[v,u] W fun e w'=>∃ a c,e = .returned (.tuple #[.slice a (bX Q L E).length c,.agg #[.int .i64 0,.int .i64 (-1)]]) /\ Mr W w' (.slice a (bX Q L E).length c) (bX Q L E) by
    have hg : (chkG Q L E).1 = 0:=chkG_in I (chkG_chk h0) fun x hx=>HUN.out x (hE.subset hx)
    have:=bo_all Q L E v u W hn (Nat.le_trans hE.length_le (by omega)) sh (I.below h) hu
    rw [rF_good hg,faultV0] at this
    exact this)
  have HSE:=hid (fun (E : List Bm) W u (h : Below w.heap.size w W) (hu : MsAt W u (bX Q L E))=>show Calls Tryz.prog 23 #[u,sv] W fun e w'=>e = .returned (.bool (gB Q L sel E)) /\ Below W.heap.size W w' by
    have e : decide (bX Q L E = sel) = gB Q L sel E:=by rw [Bool.eq_iff_iff,decide_eq_true_iff,gB_iff]
    have:=sameG_any (bX Q L E) sel u sv W (Nat.le_trans bX_len (by omega)) hu (hs.below h)
    rw [e] at this
    exact this)
  have HS:=hid (fun W (h : Below w.heap.size w W)=>hs.below h)
  have HEM:=hid hem
  have HB0:=hid ((Below.refl w.heap.size w).alloc (Nat.le_refl _) (.cells #[.int .i64 0,.int .i64 0] 36))
  have HE0:=hid (heap_new w (.cells #[.int .i64 0,.int .i64 0] 36))
  have HFN:=hid (fun W=>fine_any W)
  have HST:=hid (show trm (gB Q L sel) (sel.length - 0) sel 0 = trX Q L sel from rfl)
  obtain ⟨a,c,hv1,-⟩:=id I.es
  subst hv1
  obtain ⟨ra,rc,hrv,-⟩:=id hs
  subst hrv
  clear I hs sh h0 h1 hem HUN
  generalize trX Q L sel = TX at *
  generalize gB Q L sel = g at *
  go_enter Tryz.func58,Tryz.ntmps58
  go_wp2_with fail
  refine (HRO.out _ HB0.out).mono ?_
  rintro e w1 ⟨ba,bc,rfl,hm⟩
  have HB1:=hid (HB0.out.trans (hm.1.mono HB0.out.size))
  have HE1:=hid ((hm.1.block _ (lt_of_blk HE0.out)).trans HE0.out)
  have HM1:=hid (hm.ms.below ((Below.refl w1.heap.size w1).alloc (Nat.le_refl _) (.cells #[.int .i64 0,.int .i64 (-1)] 36)))
  clear hm HRO
  have HB2:=hid (HB1.out.alloc HB1.out.size (.cells #[.int .i64 0,.int .i64 (-1)] 36))
  have HE2:=hid (heap_old w1 (.cells #[.int .i64 0,.int .i64 (-1)] 36) HE1.out)
  have hne : ¬ w1.heap.size = w.heap.size:=Nat.ne_of_gt (lt_of_blk HE1.out)
  have hne2 : ¬ w.heap.size = w1.heap.size:=Nat.ne_of_lt (lt_of_blk HE1.out)
  go_wp2_with fail
  generalize w1.alloc (.cells #[.int .i64 0,.int .i64 (-1)] 36) = w2 at *
  refine (HSA.out _ _ HB2.out HM1.out).mono ?_
  rintro e w3 ⟨rfl,hb⟩
  have HB3:=hid (HB2.out.trans (hb.mono HB2.out.size))
  have HE3:=hid ((hb.block _ (lt_of_blk HE2.out)).trans HE2.out)
  clear hb HB0 HE0 HB1 HE1 HM1 HB2 HE2 HSA
  obtain ⟨av,w4,hrun,hown,hgr⟩:=both_run [] sel (.slice none 0 0) _ w3 w3.heap.size (Nat.le_refl _) (by simp) hsn (World.ownsRow_nil _ _ _ _) (HS.out _ HB3.out) HEM.out
  have HRUN:=hid hrun
  have HD4:=hid (show Below w3.heap.size w3 w4 from grT_below hgr)
  rw [List.nil_append] at hown
  have HR4:=hid (show Rr w w4 w.heap.size 36 av sel from ⟨HB3.out.trans (HD4.out.mono HB3.out.size),own_ms hown,(HD4.out.block _ (lt_of_blk HE3.out)).trans HE3.out⟩)
  obtain ⟨aa,ac,hav⟩:=own_slN hown
  subst hav
  clear hrun hown hgr HD4 HB3 HE3 HEM
  go_wp2_with (at_builtin; refine Lib.wpList_append_run _ rfl _ _ _ _ rfl _ _ rfl rfl _ _ HRUN.out ?_)
  go_loopw [9,10] (fun ov iv wr=>∃ (X : List Bm) (i : Nat) (a : Option Addr) (c : Nat),i <= X.length /\ ov = .slice a X.length c /\ iv = .int .i64 i /\ Hid (X.Sublist sel) /\ Hid (trm g (X.length - i) X i = TX) /\ Hid (Rr w wr w.heap.size 36 (.slice a X.length c) X)) (fun ov iv _=>lenOfS ov - (intOf iv).toNat)
  case atStart=>exact ⟨sel,0,aa,ac,Nat.zero_le _,rfl,rfl,hid (List.Sublist.refl _),HST,HR4⟩
  case round=>
    obtain ⟨X,i,xa,xc,hi,rfl,rfl,HSU,HTM,HR⟩:=hrel
    by_cases hlt : i < X.length
    · have hiI:=ix_lt hlt
      have hii:=ix_pos i
      have HLI:=hid hlt
      have HXL:=hid (show X.length <= 1000 from Nat.le_trans HSU.out.length_le hsn)
      have HWO:=hid (rwo_any X i _ wr HXL.out hlt HR.out.ms)
      have HES:=hid ((List.eraseIdx_sublist X i).trans HSU.out)
      have HGO:=hid (fun h=>(tr_goes (g:=g) hlt h).trans HTM.out)
      have HSY:=hid (fun h=>(tr_stays (g:=g) hlt h).trans HTM.out)
      have HEL:=hid (List.length_eraseIdx_of_lt hlt)
      have HBX:=hid (fun W u (h : Below w.heap.size w W) (hu : MsAt W u (X.eraseIdx i))=>HBE.out (X.eraseIdx i) W u h HES.out hu)
      have HSX:=hid (fun W u (h : Below w.heap.size w W) (hu : MsAt W u (bX Q L (X.eraseIdx i)))=>HSE.out (X.eraseIdx i) W u h hu)
      clear hlt HTM
      generalize X.eraseIdx i = E at *
      generalize bX Q L E = BE at *
      go_wp2_with fail
      refine HWO.out.mono ?_
      rintro e w5 ⟨ea,ec,rfl,hm⟩
      have HR5:=hid (HR.out.below hm.1)
      have HE5:=hid hm.ms
      clear hm HWO HR
      go_wp2_with fail
      refine (HBX.out w5 _ HR5.out.bl HE5.out).mono ?_
      rintro e w6 ⟨ya,yc,rfl,hm⟩
      have HA6:=hid ((Below.refl w6.heap.size w6).alloc (Nat.le_refl _) (.cells #[.int .i64 0,.int .i64 (-1)] 36))
      have HR6:=hid ((HR5.out.below hm.1).below HA6.out)
      have HE6:=hid ((HE5.out.below hm.1).below HA6.out)
      have HY6:=hid (hm.ms.below HA6.out)
      clear hm HR5 HE5 HBX
      go_wp2_with fail
      generalize w6.alloc (.cells #[.int .i64 0,.int .i64 (-1)] 36) = w7 at *
      refine (HSX.out w7 _ HR6.out.bl HY6.out).mono ?_
      rintro e w8 ⟨rfl,hb⟩
      have HR8:=hid (HR6.out.below hb)
      have HE8:=hid (HE6.out.below hb)
      clear hb HR6 HE6 HY6 HSX
      cases hz : g E
      · have HN:=hid (HSY.out hz)
        clear hz HGO HSY
        go_wp2_with fail
        go_roundw
        case rel=>first | exact ⟨X,i + 1,xa,xc,HLI.out,rfl,nr_idx i,HSU,HN,HR8⟩ | exact ⟨X,i + 1,xa,xc,HLI.out,rfl,nx_idx HLI.out (Nat.le_trans HXL.out (by decide)),HSU,HN,HR8⟩
        case measure=>first | exact nr_meas HLI.out | exact nx_meas HLI.out (Nat.le_trans HXL.out (by decide))
      · have HN:=hid (HGO.out hz)
        have HI2:=hid (show i <= E.length by have h1:=HEL.out; have h2:=HLI.out; omega)
        clear hz HGO HSY
        go_wp2_with fail
        go_roundw
        case rel=>exact ⟨E,i,ea,ec,HI2.out,rfl,rfl,HES,HN,hid ⟨HR8.out.bl,HE8.out,HR8.out.bx⟩⟩
        case measure=>exact ro_meas HEL.out HLI.out
    · have hiI:=ix_nlt hlt
      have HTX:=hid (show X = TX by have h:=HTM.out; rw [show X.length - i = 0 by omega] at h; exact h)
      clear hlt
      go_wp2_with fail
      refine (HFN.out _).mono ?_
      rintro e w6 ⟨rfl,hb⟩
      have HR6:=hid (HR.out.below hb)
      clear hb
      obtain ⟨s0,s1,tf⟩:=box_two HR6.out.bx
      have HM7:=hid (ms_put2D (x:=.int .i64 0) (y:=.int .i64 (-1)) HR6.out.ms HR6.out.bx)
      go_wp2_with fail
      refine bodyPost_ret (v:=.tuple #[.slice xa X.length xc,.agg #[.int .i64 0,.int .i64 (-1)]]) (by simp [results,Tryz.results58,go_sem,s0,s1]) rfl ?_
      have h:=HTX.out
      subst h
      exact ⟨_,_,rfl,HM7.out,put2_below HR6.out.bl (Nat.le_refl _)⟩
theorem ro_all (Q : List Raw) (L : List Ent) (sel : List Bm) (v sv : Value) (w : World) (hn : L.length <= 1000) (hsn : sel.length <= 1000) (sh : ∀ e,e ∈ L -> ShE e) (I : Ixs w v Q L) (hs : MsAt w sv sel) (hem : Em sv sel) :
    Calls Tryz.prog 58 #[v,sv] w fun e w'=>∃ a c,e = .returned (.tuple #[.slice a (trR Q L sel).length c,faultV (trF Q L sel)]) /\ MsAt w' (.slice a (trR Q L sel).length c) (trR Q L sel) /\ Below w.heap.size w w':=by
  by_cases h0 : (chkG Q L sel).1 = 0
  · by_cases h1 : bX Q L sel = sel
    · rw [trR_good h0 h1,trF_good h0 h1]
      exact ro_good Q L sel v sv w hn hsn sh I hs hem h0 h1
    · refine (ro_other Q L sel v sv w hn hsn sh I hs h0 h1).mono ?_
      rintro e w' ⟨rfl,hb⟩
      rw [trR_other h0 h1,trF_other h0 h1]
      exact ⟨_,_,rfl,(mr_nil0 hb).ms,hb⟩
  · refine (ro_bad Q L sel v sv w hn hsn sh I hs h0).mono ?_
    rintro e w' ⟨rfl,hb⟩
    rw [trR_bad h0,trF_bad h0]
    exact ⟨_,_,rfl,(mr_nil0 hb).ms,hb⟩
end Ve
end Go.Proofs.YtlcffhadobhfkaaGreatDoor
