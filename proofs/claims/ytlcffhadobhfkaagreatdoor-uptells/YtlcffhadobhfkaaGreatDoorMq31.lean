/-
  IdA GtE MtP MtC MtA MtB
-/
import Derived.Test.YtlcffhadobhfkaaGreatDoorMq1
import Derived.Test.YtlcffhadobhfkaaGreatDoorMq6
import Derived.Test.YtlcffhadobhfkaaGreatDoorMq22
import Derived.Test.YtlcffhadobhfkaaGreatDoorMq39
import Derived.Test.YtlcffhadobhfkaaGreatDoorMq45
import Derived.Test.YtlcffhadobhfkaaGreatDoorMq2
import Derived.Test.YtlcffhadobhfkaaGreatDoorMq19
import Derived.Test.YtlcffhadobhfkaaGreatDoorMq20
import Derived.Test.YtlcffhadobhfkaaGreatDoorMq49
import Derived.Test.YtlcffhadobhfkaaGreatDoorMq37
import Derived.Test.YtlcffhadobhfkaaGreatDoorMq3
import Derived.Test.YtlcffhadobhfkaaGreatDoorMq5
import Derived.Test.YtlcffhadobhfkaaGreatDoorMq11
import Derived.Test.YtlcffhadobhfkaaGreatDoorMq9
import Derived.Test.YtlcffhadobhfkaaGreatDoorMq18
import Derived.Test.YtlcffhadobhfkaaGreatDoorMq23
import Derived.Test.YtlcffhadobhfkaaGreatDoorMq30
import Derived.Test.YtlcffhadobhfkaaGreatDoorMq17
import Derived.Test.YtlcffhadobhfkaaGreatDoorMq34
import Derived.Test.YtlcffhadobhfkaaGreatDoorMq56
import Derived.Test.YtlcffhadobhfkaaGreatDoorMq47
import Derived.Test.YtlcffhadobhfkaaGreatDoorMq43
import Derived.Test.YtlcffhadobhfkaaGreatDoorMq32
import Derived.Test.YtlcffhadobhfkaaGreatDoorMq36
namespace Go.Proofs.YtlcffhadobhfkaaGreatDoor
open Go.RowKit
namespace Ve
theorem ix_pos1 (i : Nat) : (0 : Int) <= (i : Int) + 1:=by omega
theorem ix_lt1 {i n : Nat} (h : i + 1 < n) : (i : Int) + 1 < (n : Int):=by omega
theorem ix_nlt1 {i n : Nat} (h : ¬ i + 1 < n) : ¬ (i : Int) + 1 < (n : Int):=by omega
open Go.Maps
theorem faultV0 : faultV (0,none) = .agg #[.int .i64 0,.int .i64 (-1)]:=rfl
theorem bX_same {Q Q' : List Raw} {L : List Ent} (h : Q.map (fun r=>r.1) = Q'.map (fun r=>r.1)) (roots : List Bm) : bX Q L roots = bX Q' L roots:=by unfold bX; rw [rX_same h]
theorem rp_none (a : Option Addr) (c : Nat) (w : World) : Calls Tryz.prog 84 #[.slice a 0 c] w fun e w'=>e = .returned (.bool true) /\ Below w.heap.size w w':=by
  go_enter Tryz.func84,Tryz.ntmps84
  go_wp2_with fail
  go_loopw [3] (fun i wr=>i = .int .i64 1 /\ wr = w) (fun i _=>0)
  case atStart=>exact ⟨rfl,rfl⟩
  case round=>
    obtain ⟨rfl,rfl⟩:=hrel
    go_wp2_with fail
    go_ret
    exact ⟨rfl,Below.refl _ _⟩
theorem leqB (a b : ByteArray) (X : World) : (binOp BinOp.leq 9 (.string a) (.string b)).run Tryz.prog X = .ok (.bool (!lt b a)) X:=by rw [<- noLess_lt]; exact leq_is a b X
set_option maxHeartbeats 2000000 in
theorem rp_some (L : List Bm) (b o c : Nat) (w : World) (hn : L.length ≤ 1000000) (h0 : 0 < L.length)
    (hc : ∀ j (h : j < L.length),w.cell? ⟨b,o + j * 2,none⟩ = some (.string L[j].1) /\ w.cell? ⟨b,o + j * 2 + 1,none⟩ = some (.string L[j].2)) :
    Calls Tryz.prog 84 #[.slice (some ⟨b,o,none⟩) L.length c] w fun e w'=>e = .returned (.bool (risB2 L)) /\ Below w.heap.size w w':=by
  have HC:=hid hc
  have HX:=hid (show (∀ j (h : j + 1 < L.length),lt (L[j]'(by omega)).1 L[j + 1].1 = true) -> risB2 L = true from fun h=>risB2_all h)
  have HY:=hid (show ∀ j (h : j + 1 < L.length),lt (L[j]'(by omega)).1 L[j + 1].1 = false -> risB2 L = false from fun j h hne=>risB2_not h hne)
  generalize risB2 L = z at *
  clear hc
  go_enter Tryz.func84,Tryz.ntmps84
  go_wp2_with fail
  go_loopw [3] (fun i wr=>∃ k : Nat,k + 1 <= L.length /\ i = .int .i64 ((k : Int) + 1) /\ Hid (∀ j (h : j + 1 < L.length),j < k -> lt (L[j]'(by omega)).1 L[j + 1].1 = true) /\ Hid (Below w.heap.size w wr)) (fun i _=>L.length - (intOf i).toNat)
  case atStart=>exact ⟨0,h0,rfl,hid (fun j _ hj=>absurd hj (Nat.not_lt_zero _)),hid (Below.refl _ _)⟩
  case round=>
    obtain ⟨k,hk,rfl,HE,HB⟩:=hrel
    by_cases hlt : k + 1 < L.length
    · have hx:=cell_below HB.out (HC.out k (Nat.lt_of_succ_lt hlt)).1
      have hx':=cell_below HB.out (HC.out (k + 1) hlt).1
      have hge:=fun W=>leqB L[k + 1].1 (L[k]'(by omega)).1 W
      have hkI : (k : Int) + 1 < (L.length : Int):=by omega
      have kx1 : (0 : Int) <= (k : Int) + 1:=by omega
      have kx2 : (k : Int) + 1 - 1 = (k : Int):=by omega
      have kx3 : (k : Int) < (L.length : Int):=by omega
      have kx4 : (0 : Int) <= (k : Int):=by omega
      have ktn : ((k : Int) + 1).toNat = k + 1:=by omega
      have kw0 : wrap64 (k : Int) = (k : Int):=IntWalk.wrap64_in _ (by omega)
      have kw1 : IntKind.i64.wrap (k : Int) = (k : Int):=by rw [IntKind.wrap_i64] <;> omega
      have kw2 : wrap64 ((k : Int) + 1 + 1) = (k : Int) + 1 + 1:=IntWalk.wrap64_in _ (by omega)
      have HLT:=hid hlt
      have HN:=hid (show lt (L[k]'(by omega)).1 L[k + 1].1 = true -> ∀ j (h : j + 1 < L.length),j < k + 1 -> lt (L[j]'(by omega)).1 L[j + 1].1 = true from fun h0 j h1 h2=>by
        rcases Nat.lt_or_ge j k with h | h
        · exact HE.out j h1 h
        · have : j = k:=by omega
          subst this; exact h0)
      have HYK:=hid (HY.out k hlt)
      generalize (L[k]'(Nat.lt_of_succ_lt hlt)) = x at *
      generalize (L[k + 1]'hlt) = y at *
      obtain ⟨x1,x2⟩:=x
      obtain ⟨y1,y2⟩:=y
      simp only at hx hx' hge HN HYK
      clear hlt hk
      cases he : lt x1 y1 with
      | true=>
        have HN2:=hid (HN.out he)
        rw [he] at hge
        clear he HN HYK
        go_wp2_with fail
        go_quiet (fail)
        go_wp2_with fail
        go_roundw
        case rel=>exact ⟨k + 1,HLT.out,by first | rfl | (simp only [kw2]; push_cast; rfl),HN2,hid (below_drawn_of HB.out _)⟩
        case measure=>
          have:=HLT.out
          simp only [intOf]
          omega
      | false=>
        have HZ:=hid (HYK.out he)
        rw [he] at hge
        clear he HN HYK
        go_wp2_with fail
        go_quiet (fail)
        go_wp2_with fail
        go_ret
        exact ⟨by rw [HZ.out]; rfl,below_drawn_of HB.out _⟩
    · have hkI : ¬ (k : Int) + 1 < (L.length : Int):=by omega
      have HZ:=hid (HX.out (fun j h=>HE.out j h (by omega)))
      go_wp2_with fail
      go_ret
      exact ⟨by rw [HZ.out]; rfl,HB.out⟩
theorem rp_any (L : List Bm) (v : Value) (w : World) (hv : MsAt w v L) (hn : L.length <= 1000000) :
    Calls Tryz.prog 84 #[v] w fun e w'=>e = .returned (.bool (risB2 L)) /\ Below w.heap.size w w':=by
  obtain ⟨a,c,rfl,_,h⟩:=hv
  cases L with
  | nil=>exact rp_none a c w
  | cons x r=>
    obtain ⟨b,o,rfl,h2⟩:=h (by simp)
    exact rp_some (x :: r) b o c w hn (by simp) h2
set_option maxRecDepth 100000 in
set_option maxHeartbeats 4000000 in
theorem bo_bad (Q : List Raw) (L : List Ent) (roots : List Bm) (v rv : Value) (w : World) (hn : L.length <= 1000) (hrn : roots.length <= 1000000) (sh : ∀ e,e ∈ L -> ShE e) (I : Ixs w v Q L) (hr : MsAt w rv roots) (h0 : ¬ (chkG Q L roots).1 = 0) :
    Calls Tryz.prog 35 #[v,rv] w fun e w'=>e = .returned (.tuple #[.slice none 0 0,faultV (chkG Q L roots)]) /\ Below w.heap.size w w':=by
  have HRO:=hid (fun W (h : Below w.heap.size w W)=>reachOf_bad Q L roots v rv W hn hrn sh (I.below h) (hr.below h) h0)
  have HB0:=hid ((Below.refl w.heap.size w).alloc (Nat.le_refl _) (.cells #[.int .i64 0,.int .i64 0] 36))
  have HE0:=hid (heap_new w (.cells #[.int .i64 0,.int .i64 0] 36))
  obtain ⟨a,c,hv1,-⟩:=id I.es
  subst hv1
  obtain ⟨ra,rc,hrv,-⟩:=id hr
  subst hrv
  obtain ⟨cc,oo,hco⟩ : ∃ cc oo,chkG Q L roots = (cc,oo):=⟨_,_,rfl⟩
  rw [hco] at HRO h0 ⊢
  unfold faultV at HRO ⊢
  simp only at HRO h0 ⊢
  generalize atOf oo = ao at *
  have hpos : (0 : Int) < (cc : Int):=by omega
  clear I hr sh h0 hco
  go_enter Tryz.func35,Tryz.ntmps35
  go_wp2_with fail
  refine (HRO.out _ HB0.out).mono ?_
  rintro e w1 ⟨rfl,hb⟩
  have HB1:=hid (HB0.out.trans (hb.mono HB0.out.size))
  have HE1:=hid ((hb.block _ (lt_of_blk HE0.out)).trans HE0.out)
  clear hb
  have HB2:=hid (HB1.out.alloc HB1.out.size (.cells #[.int .i64 (cc : Int),.int .i64 ao] 36))
  have HE2:=hid (heap_old w1 (.cells #[.int .i64 (cc : Int),.int .i64 ao] 36) HE1.out)
  have HF2:=hid (heap_new w1 (.cells #[.int .i64 (cc : Int),.int .i64 ao] 36))
  have hlt:=lt_of_blk HE1.out
  have hne : ¬ w1.heap.size = w.heap.size:=by omega
  have hne2 : ¬ w.heap.size = w1.heap.size:=by omega
  go_wp2_with fail
  generalize w1.alloc (.cells #[.int .i64 (cc : Int),.int .i64 ao] 36) = w2 at *
  obtain ⟨s0,s1,tf⟩:=box_two HE2.out
  obtain ⟨f0,f1,_⟩:=box_two HF2.out
  go_region_with fail
  all_goals
    go_wp2_with fail
    refine bodyPost_ret (v:=.tuple #[.slice none 0 0,.agg #[.int .i64 (cc : Int),.int .i64 ao]]) (by simp [results,Tryz.results35,go_sem,s0,s1]) rfl ⟨rfl,?_⟩
    exact put2_below (below_drawn_of HB2.out 1) (Nat.le_refl _)
set_option maxRecDepth 100000 in
set_option maxHeartbeats 4000000 in
theorem bo_good (Q : List Raw) (L : List Ent) (roots : List Bm) (v rv : Value) (w : World) (hn : L.length ≤ 1000) (hrn : roots.length ≤ 1000000) (sh : ∀ e, e ∈ L → ShE e) (I : Ixs w v Q L) (hr : MsAt w rv roots) (h0 : (chkG Q L roots).1 = 0) :
    Calls Tryz.prog 35 #[v,rv] w fun e w'=>∃ u,e = .returned (.tuple #[u,.agg #[.int .i64 0,.int .i64 (-1)]]) /\ w'.ownsRow w.heap.size 25 2 u (lastN (rX Q L roots) (rX Q L roots).length).length (flatM (lastN (rX Q L roots) (rX Q L roots).length)) /\ Below w.heap.size w w':=by
  have HRO:=hid (fun W (h : Below w.heap.size w W)=>reachOf_all Q L roots v rv W hn hrn sh (I.below h) (hr.below h))
  rw [rF_good h0] at HRO
  rw [faultV0] at HRO
  have HB0:=hid ((Below.refl w.heap.size w).alloc (Nat.le_refl _) (.cells #[.int .i64 0,.int .i64 0] 36))
  have HE0:=hid (heap_new w (.cells #[.int .i64 0,.int .i64 0] 36))
  have HXL:=hid (show (rX Q L roots).length <= 1000 from Nat.le_trans rX_len hn)
  obtain ⟨i0,hi0,hz0,hz1,hz2⟩:=info_parts infoMod
  obtain ⟨a,c,hv1,-⟩:=id I.es
  subst hv1
  obtain ⟨ra,rc,hrv,-⟩:=id hr
  subst hrv
  have HFN:=hid (fun W=>fine_any W)
  clear I hr sh h0
  generalize rX Q L roots = X at *
  have HXM:=hid (show X.length <= 1000000 from Nat.le_trans HXL.out (by decide))
  go_enter Tryz.func35,Tryz.ntmps35
  go_wp2_with fail
  refine (HRO.out _ HB0.out).mono ?_
  rintro e w1 ⟨xa,xc,rfl,hms,hb⟩
  have HB1:=hid (HB0.out.trans (hb.mono HB0.out.size))
  have HE1:=hid ((hb.block _ (lt_of_blk HE0.out)).trans HE0.out)
  have HB2:=hid (HB1.out.alloc HB1.out.size (.cells #[.int .i64 0,.int .i64 (-1)] 36))
  have HE2:=hid (heap_old w1 (.cells #[.int .i64 0,.int .i64 (-1)] 36) HE1.out)
  have HMX:=hid (hms.below ((Below.refl w1.heap.size w1).alloc (Nat.le_refl _) (.cells #[.int .i64 0,.int .i64 (-1)] 36)))
  have hne : ¬ w1.heap.size = w.heap.size:=Nat.ne_of_gt (lt_of_blk HE1.out)
  have hne2 : ¬ w.heap.size = w1.heap.size:=Nat.ne_of_lt (lt_of_blk HE1.out)
  clear hb hms HRO
  go_wp2_with fail
  generalize w1.alloc (.cells #[.int .i64 0,.int .i64 (-1)] 36) = w2 at *
  have HW2:=hid (lt_of_blk HE2.out)
  clear HB1 HE1 HB0 HE0
  go_loopw [8,9] (fun ov iv wr=>∃ i : Nat,i <= X.length /\ iv = .int .i64 i /\ Hid (wr.ownsRow w2.heap.size 25 2 ov (lastN X i).length (flatM (lastN X i))) /\ Hid (Below w2.heap.size w2 wr)) (fun _ iv _=>X.length - (intOf iv).toNat)
  case atStart=>exact ⟨0,Nat.zero_le _,rfl,hid (World.ownsRow_nil _ _ _ _),hid (Below.refl _ _)⟩
  case round=>
    obtain ⟨i,hi,rfl,HOW,HBr⟩:=hrel
    by_cases hlt2 : i < X.length
    · have hiI:=ix_lt hlt2
      have hii:=ix_pos i
      have HLI:=hid hlt2
      obtain ⟨SX,HSX⟩ : ∃ SX,Hid (lastN X i = SX):=⟨_,hid rfl⟩
      rw [HSX.out] at HOW
      have HSL:=hid (show SX.length <= 1000 by rw [<- HSX.out]; exact Nat.le_trans (lastN_len X i) (Nat.le_trans (Nat.le_of_lt hlt2) HXL.out))
      obtain ⟨xb,xo,hxa,y0,y1⟩:=(HMX.out.below HBr.out).cells hlt2
      subst hxa
      have kw64:=ix_w1 hlt2 HXM.out
      have ktn:=ix_nat1 i
      have kwk:=ix_k1 hlt2 HXM.out
      have hj0:=ix_pos1 i
      by_cases hnx : i + 1 < X.length
      · have hjI:=ix_lt1 hnx
        obtain ⟨z0,z1⟩:=ms_atJ (HMX.out.below HBr.out) hnx
        have HNB:=hid (nextB_at (p:=X[i].1) hnx)
        by_cases hpe : X[i + 1].1 = X[i].1
        · have HST:=hid (lastN_skip hlt2 (HNB.out.trans (decide_eq_true hpe)))
          rw [hpe] at z0
          rw [HSX.out] at HST
          clear HNB
          generalize X[i] = um at *
          obtain ⟨up,uq⟩:=um
          simp only at y0 y1 z0
          clear hlt2 hnx hpe z1
          have heq:=str_refl up
          go_wp2_with fail
          go_quiet (fail)
          have HBd:=hid (below_drawn_of HBr.out nq)
          have HOd:=hid (owns_below HOW.out (below_drawn wr nq))
          go_wp2_with fail
          go_roundw
          case rel=>first | exact ⟨i + 1,HLI.out,nr_idx i,hid (by rw [HST.out]; exact HOd.out),HBd⟩ | exact ⟨i + 1,HLI.out,nx_idx HLI.out HXM.out,hid (by rw [HST.out]; exact HOd.out),HBd⟩
          case measure=>first | exact nr_meas HLI.out | exact nx_meas HLI.out HXM.out
        · have HST:=hid (lastN_keep hlt2 (HNB.out.trans (decide_eq_false hpe)))
          clear HNB
          generalize X[i + 1] = un at *
          obtain ⟨np,nq⟩:=un
          clear hnx z1
          rw [HSX.out] at HST
          generalize X[i] = um at *
          obtain ⟨up,uq⟩:=um
          simp only at y0 y1 z0 hpe
          have heq:=str_ne hpe
          clear hlt2 hpe
          go_wp2_with fail
          go_quiet (fail)
          have HDx:=hid (below_drawn wr nq)
          have HBd:=hid (below_drawn_of HBr.out nq)
          have HOd:=hid (owns_below HOW.out HDx.out)
          obtain ⟨wx,hwx⟩ : ∃ wz0,wr.drewN nq = wz0:=⟨_,rfl⟩
          rw [hwx] at HDx HBd HOd ⊢
          replace y0:=cell_below HDx.out y0
          replace y1:=cell_below HDx.out y1
          clear hwx nq z0
          go_wp2_with (at_builtin; refine wpList_append_own _ rfl _ _ 23 rfl w2.heap.size 25 i0 _ 2 32 Tryz.underlying23 hi0 hz0 hz1 hz2 rfl (by decide) _ _ _ rfl (HOd.out.alloc _) ⟨wx.heap.size,0,none⟩ 1 1 [.string up,.string uq] rfl rfl (World.news_of_block (heap_new _ _)) (by intro u hu; simp at hu; rcases hu with rfl | rfl <;> rfl) (Nat.le_trans (Nat.add_le_add_right HSL.out 1) (by unfold maxLen; decide)) (by have hz:=HSL.out; omega) (Nat.le_trans HBd.out.size (by simp)) ?_)
          intro v' w6 hown hgrow _
          have HR3:=hid (rel_app2 HBd.out.size HBd.out HOd.out (Below.refl _ _) hgrow)
          have HO4:=hid (show w6.ownsRow w2.heap.size 25 2 v' (SX ++ [(up,uq)]).length (flatM (SX ++ [(up,uq)])) by rw [List.length_append,flatM_app]; exact hown)
          clear hown hgrow
          go_wp2_with fail
          go_roundw
          case rel=>first | exact ⟨i + 1,HLI.out,nr_idx i,hid (by rw [HST.out]; exact HO4.out),HR3⟩ | exact ⟨i + 1,HLI.out,nx_idx HLI.out HXM.out,hid (by rw [HST.out]; exact HO4.out),HR3⟩
          case measure=>first | exact nr_meas HLI.out | exact nx_meas HLI.out HXM.out
      · have hjI:=ix_nlt1 hnx
        have HST:=hid (lastN_keep hlt2 (nextB_end hnx))
        clear hnx
        rw [HSX.out] at HST
        generalize X[i] = um at *
        obtain ⟨up,uq⟩:=um
        simp only at y0 y1
        clear hlt2
        go_wp2_with (at_builtin; refine wpList_append_own _ rfl _ _ 23 rfl w2.heap.size 25 i0 _ 2 32 Tryz.underlying23 hi0 hz0 hz1 hz2 rfl (by decide) _ _ _ rfl (HOW.out.alloc _) ⟨wr.heap.size,0,none⟩ 1 1 [.string up,.string uq] rfl rfl (World.news_of_block (heap_new _ _)) (by intro u hu; simp at hu; rcases hu with rfl | rfl <;> rfl) (Nat.le_trans (Nat.add_le_add_right HSL.out 1) (by unfold maxLen; decide)) (by have hz:=HSL.out; omega) (Nat.le_trans HBr.out.size (by simp)) ?_)
        intro v' w6 hown hgrow _
        have HR3:=hid (rel_app2 HBr.out.size HBr.out HOW.out (Below.refl _ _) hgrow)
        have HO4:=hid (show w6.ownsRow w2.heap.size 25 2 v' (SX ++ [(up,uq)]).length (flatM (SX ++ [(up,uq)])) by rw [List.length_append,flatM_app]; exact hown)
        clear hown hgrow
        go_wp2_with fail
        go_roundw
        case rel=>first | exact ⟨i + 1,HLI.out,nr_idx i,hid (by rw [HST.out]; exact HO4.out),HR3⟩ | exact ⟨i + 1,HLI.out,nx_idx HLI.out HXM.out,hid (by rw [HST.out]; exact HO4.out),HR3⟩
        case measure=>first | exact nr_meas HLI.out | exact nx_meas HLI.out HXM.out
    · have hiI:=ix_nlt hlt2
      have hie : i = X.length:=Nat.le_antisymm hi (Nat.le_of_not_lt hlt2)
      have HOF:=hid (show wr.ownsRow w2.heap.size 25 2 u8 (lastN X X.length).length (flatM (lastN X X.length)) by
        have h:=HOW.out
        rw [hie] at h
        exact h)
      clear hlt2 HOW hie
      obtain ⟨oa,on,oc,hov⟩:=own_sl HOF.out
      subst hov
      go_wp2_with fail
      refine (HFN.out _).mono ?_
      rintro e w6 ⟨rfl,hb⟩
      have HB6:=hid ((HB2.out.trans (HBr.out.mono HB2.out.size)).trans (hb.mono (Nat.le_trans HB2.out.size HBr.out.size)))
      have HE6:=hid ((hb.block _ (Nat.lt_of_lt_of_le (lt_of_blk HE2.out) HBr.out.size)).trans ((HBr.out.block _ (lt_of_blk HE2.out)).trans HE2.out))
      have HO6:=hid (owns_below HOF.out hb)
      clear hb
      obtain ⟨s0,s1,tf⟩:=box_two HE6.out
      have hnb : (Value.slice oa on oc).ownBlock ≠ some w.heap.size:=fun h=>by
        exact Nat.not_le_of_lt HW2.out (own_lt HO6.out h).2
      have HO7:=hid (own_base (owns_set (o:=1) (x:=.int .i64 (-1)) (owns_set (o:=0) (x:=.int .i64 0) HO6.out hnb) hnb) (Nat.le_of_lt HW2.out))
      go_wp2_with fail
      refine bodyPost_ret (v:=.tuple #[.slice oa on oc,.agg #[.int .i64 0,.int .i64 (-1)]]) (by simp [results,Tryz.results35,go_sem,s0,s1]) rfl ⟨_,rfl,HO7.out,?_⟩
      exact put2_below HB6.out (Nat.le_refl _)
theorem bo_all (Q : List Raw) (L : List Ent) (roots : List Bm) (v rv : Value) (w : World) (hn : L.length <= 1000) (hrn : roots.length <= 1000000) (sh : ∀ e,e ∈ L -> ShE e) (I : Ixs w v Q L) (hr : MsAt w rv roots) :
    Calls Tryz.prog 35 #[v,rv] w fun e w'=>∃ a c,e = .returned (.tuple #[.slice a (bX Q L roots).length c,faultV (rF Q L roots)]) /\ Mr w w' (.slice a (bX Q L roots).length c) (bX Q L roots):=by
  by_cases h : (chkG Q L roots).1 = 0
  · refine (bo_good Q L roots v rv w hn hrn sh I hr h).mono ?_
    rintro e w' ⟨u,rfl,hown,hb⟩
    have hm:=mr_own hown hb
    obtain ⟨a,c,hu⟩:=hm.sl
    subst hu
    exact ⟨a,c,by rw [rF_good h]; rfl,hm⟩
  · refine (bo_bad Q L roots v rv w hn hrn sh I hr h).mono ?_
    rintro e w' ⟨rfl,hb⟩
    rw [bX_bad h,rF_bad h]
    exact ⟨_,_,rfl,mr_nil0 hb⟩
end Ve
end Go.Proofs.YtlcffhadobhfkaaGreatDoor
