/-
  GtX RmB GtC GtE
-/
import Derived.Test.YtlcffhadobhfkaaGreatDoorMq2
import Derived.Test.YtlcffhadobhfkaaGreatDoorMq19
import Derived.Test.YtlcffhadobhfkaaGreatDoorMq20
import Derived.Test.YtlcffhadobhfkaaGreatDoorMq6
import Derived.Test.YtlcffhadobhfkaaGreatDoorMq22
import Derived.Test.YtlcffhadobhfkaaGreatDoorMq45
import Derived.Test.YtlcffhadobhfkaaGreatDoorMq37
import Derived.Test.YtlcffhadobhfkaaGreatDoorMq1
import Derived.Test.YtlcffhadobhfkaaGreatDoorMq3
import Derived.Test.YtlcffhadobhfkaaGreatDoorMq5
import Derived.Test.YtlcffhadobhfkaaGreatDoorMq9
import Derived.Test.YtlcffhadobhfkaaGreatDoorMq11
import Derived.Test.YtlcffhadobhfkaaGreatDoorMq18
import Derived.Test.YtlcffhadobhfkaaGreatDoorMq17
import Derived.Test.YtlcffhadobhfkaaGreatDoorMq23
import Derived.Test.YtlcffhadobhfkaaGreatDoorMq16
import Derived.Test.YtlcffhadobhfkaaGreatDoorMq34
import Derived.Test.YtlcffhadobhfkaaGreatDoorMq39
import Derived.Test.YtlcffhadobhfkaaGreatDoorMq43
import Derived.Test.YtlcffhadobhfkaaGreatDoorMq47
import Derived.Test.YtlcffhadobhfkaaGreatDoorMq30
namespace Go.Proofs.YtlcffhadobhfkaaGreatDoor
open Go.RowKit Go.Maps
namespace Ve
theorem rF_same {Q Q' : List Raw} {L : List Ent} (h : Q.map (fun r=>r.1) = Q'.map (fun r=>r.1)) (roots : List Bm) : rF Q L roots = rF Q' L roots:=by unfold rF; rw [chkG_same h]
theorem rX_same {Q Q' : List Raw} {L : List Ent} (h : Q.map (fun r=>r.1) = Q'.map (fun r=>r.1)) (roots : List Bm) : rX Q L roots = rX Q' L roots:=by unfold rX; rw [chkG_same h,reqQ_same h]
set_option maxRecDepth 100000 in
set_option maxHeartbeats 4000000 in
theorem reachOf_ix (Q : List Raw) (L : List Ent) (roots : List Bm) (v rv : Value) (w : World) (hn : L.length <= 1000) (sh : ∀ e,e ∈ L -> ShE e) (I : Ixs w v Q L) (hr : MsAt w rv roots) (h0 : (chk Q L).1 ≠ 0) :
    Calls Tryz.prog 21 #[v,rv] w fun e w'=>e = .returned (.tuple #[.slice none 0 0,faultV (chk Q L)]) /\ Below w.heap.size w w':=by
  have HB0:=hid ((Below.refl w.heap.size w).alloc (Nat.le_refl _) (.cells #[.int .i64 0,.int .i64 0] 36))
  have HE0:=hid (heap_new w (.cells #[.int .i64 0,.int .i64 0] 36))
  have HIF:=hid (iFault_any Q L v _ hn sh (I.below HB0.out))
  obtain ⟨a,c,hv1,-⟩:=id I.es
  subst hv1
  obtain ⟨ra,rc,hrv,-⟩:=id hr
  subst hrv
  obtain ⟨cc,oo,hco⟩ : ∃ cc oo,chk Q L = (cc,oo):=⟨_,_,rfl⟩
  rw [hco] at HIF h0 ⊢
  unfold faultV at HIF ⊢
  simp only at HIF h0 ⊢
  generalize atOf oo = ao at *
  have hpos : (0 : Int) < (cc : Int):=by omega
  have hnz : ((cc : Int) == 0) = false:=by simp; omega
  have hnz2 : ¬ (cc : Int) = 0:=by omega
  clear I hr sh h0 hco
  go_enter Tryz.func21,Tryz.ntmps21
  go_wp2_with fail
  refine HIF.out.mono ?_
  rintro e w1 ⟨rfl,hb⟩
  have HB1:=hid (HB0.out.trans (hb.mono HB0.out.size))
  have HE1:=hid ((hb.block _ (lt_of_blk HE0.out)).trans HE0.out)
  clear hb
  have HB2:=hid (HB1.out.alloc HB1.out.size (.cells #[.int .i64 (cc : Int),.int .i64 ao] 36))
  have HE2:=hid (heap_old w1 (.cells #[.int .i64 (cc : Int),.int .i64 ao] 36) HE1.out)
  have HF2:=hid (heap_new w1 (.cells #[.int .i64 (cc : Int),.int .i64 ao] 36))
  have hlt:=lt_of_blk HE1.out
  have hne : ¬ w1.heap.size = w.heap.size:=by omega
  have hne2 : ¬ w.heap.size = w1.heap.size:=by omega
  go_wp2_with fail
  generalize w1.alloc (.cells #[.int .i64 (cc : Int),.int .i64 ao] 36) = w2 at *
  obtain ⟨s0,s1,tf⟩:=box_two HE2.out
  obtain ⟨f0,f1,_⟩:=box_two HF2.out
  go_region_with fail
  all_goals
    go_wp2_with fail
    refine bodyPost_ret (v:=.tuple #[.slice none 0 0,.agg #[.int .i64 (cc : Int),.int .i64 ao]]) (by simp [results,Tryz.results21,go_sem,s0,s1]) rfl ⟨rfl,?_⟩
    exact put2_below (below_drawn_of HB2.out 1) (Nat.le_refl _)
set_option maxRecDepth 100000 in
set_option maxHeartbeats 4000000 in
theorem reachOf_rt (Q : List Raw) (L : List Ent) (roots : List Bm) (v rv : Value) (w : World) (hn : L.length <= 1000) (hrn : roots.length <= 1000000) (sh : ∀ e,e ∈ L -> ShE e) (I : Ixs w v Q L) (hr : MsAt w rv roots) (h0 : (chk Q L).1 = 0) (h1 : codeE (nonE Q roots) roots.length ≠ 0) :
    Calls Tryz.prog 21 #[v,rv] w fun e w'=>e = .returned (.tuple #[.slice none 0 0,faultV (codeE (nonE Q roots) roots.length,fstE (nonE Q roots) roots.length)]) /\ Below w.heap.size w w':=by
  have HB0:=hid ((Below.refl w.heap.size w).alloc (Nat.le_refl _) (.cells #[.int .i64 0,.int .i64 0] 36))
  have HE0:=hid (heap_new w (.cells #[.int .i64 0,.int .i64 0] 36))
  have HIF:=hid (iFault_any Q L v _ hn sh (I.below HB0.out))
  have HRF:=hid (fun W (h : Below w.heap.size w W)=>rFault_any Q roots v rv W (by rw [I.ln]; exact hn) hrn (I.below h).es (hr.below h))
  obtain ⟨a,c,hv1,-⟩:=id I.es
  subst hv1
  obtain ⟨ra,rc,hrv,-⟩:=id hr
  subst hrv
  obtain ⟨oo0,hco⟩ : ∃ oo,chk Q L = (0,oo):=⟨(chk Q L).2,Prod.ext h0 rfl⟩
  rw [hco] at HIF
  unfold faultV at HIF HRF
  simp only at HIF HRF
  generalize atOf oo0 = ao0 at *
  unfold faultV
  simp only
  generalize codeE (nonE Q roots) roots.length = rc0 at *
  generalize atOf (fstE (nonE Q roots) roots.length) = ao at *
  have hpos : (0 : Int) < (rc0 : Int):=by omega
  clear I hr sh h0 hco h1
  go_enter Tryz.func21,Tryz.ntmps21
  go_wp2_with fail
  refine HIF.out.mono ?_
  rintro e w1 ⟨rfl,hb⟩
  have HB1:=hid (HB0.out.trans (hb.mono HB0.out.size))
  have HE1:=hid ((hb.block _ (lt_of_blk HE0.out)).trans HE0.out)
  clear hb
  have HB2:=hid (HB1.out.alloc HB1.out.size (.cells #[.int .i64 0,.int .i64 ao0] 36))
  have HE2:=hid (heap_old w1 (.cells #[.int .i64 0,.int .i64 ao0] 36) HE1.out)
  have HF2:=hid (heap_new w1 (.cells #[.int .i64 0,.int .i64 ao0] 36))
  have hlt:=lt_of_blk HE1.out
  have hne : ¬ w1.heap.size = w.heap.size:=by omega
  have hne2 : ¬ w.heap.size = w1.heap.size:=by omega
  go_wp2_with fail
  refine (HRF.out _ HB2.out).mono ?_
  rintro e w3 ⟨rfl,hb⟩
  have HB3:=hid (HB2.out.trans (hb.mono HB2.out.size))
  have HE3:=hid ((hb.block _ (lt_of_blk HE2.out)).trans HE2.out)
  have HF3:=hid ((hb.block _ (lt_of_blk HF2.out)).trans HF2.out)
  clear hb
  have HB4:=hid (put2_below (x:=.int .i64 (rc0 : Int)) (y:=.int .i64 ao) HB3.out (Nat.le_of_lt hlt))
  have HE4:=hid (keep_set (fb:=w1.heap.size) (o:=1) (x:=.int .i64 ao) (keep_set (fb:=w1.heap.size) (o:=0) (x:=.int .i64 (rc0 : Int)) HE3.out hne2) hne2)
  have HF4:=hid (set_block (o:=1) (x:=.int .i64 ao) (set_block (o:=0) (x:=.int .i64 (rc0 : Int)) HF3.out))
  obtain ⟨g0,g1,gf⟩:=box_two HF3.out
  go_wp2_with fail
  generalize (w3.setCell ⟨w1.heap.size,0,none⟩ (.int .i64 (rc0 : Int))).setCell ⟨w1.heap.size,1,none⟩ (.int .i64 ao) = w4 at *
  obtain ⟨s0,s1,tf⟩:=box_two HE4.out
  have f0 : w4.cell? ⟨w1.heap.size,0,none⟩ = some (.int .i64 (rc0 : Int)):=by rw [Lib.cell_of_heap HF4.out]; rfl
  have f1 : w4.cell? ⟨w1.heap.size,1,none⟩ = some (.int .i64 ao):=by rw [Lib.cell_of_heap HF4.out]; rfl
  go_region_with fail
  all_goals
    go_wp2_with fail
    refine bodyPost_ret (v:=.tuple #[.slice none 0 0,.agg #[.int .i64 (rc0 : Int),.int .i64 ao]]) (by simp [results,Tryz.results21,go_sem,s0,s1]) rfl ⟨rfl,?_⟩
    exact put2_below (below_drawn_of HB4.out 1) (Nat.le_refl _)
set_option maxRecDepth 100000 in
set_option maxHeartbeats 4000000 in
theorem reachOf_good (Q : List Raw) (L : List Ent) (roots : List Bm) (v rv : Value) (w : World) (hn : L.length ≤ 1000) (hrn : roots.length ≤ 1000000) (sh : ∀ e, e ∈ L → ShE e) (I : Ixs w v Q L) (hr : MsAt w rv roots) (hg : (chkG Q L roots).1 = 0) :
    Calls Tryz.prog 21 #[v,rv] w fun e w'=>∃ u O,e = .returned (.tuple #[u,.agg #[.int .i64 0,.int .i64 (-1)]]) /\ O.length = (univ L).length /\ (∀ i (hi : i < (univ L).length) (hi' : i < O.length),O[i] = true ↔ Rch (reqQ Q L) roots (univ L)[i]) /\ w'.ownsRow w.heap.size 25 2 u (selO O (univ L)).length (flatM (selO O (univ L))) /\ Below w.heap.size w w':=by
  have HB0:=hid ((Below.refl w.heap.size w).alloc (Nat.le_refl _) (.cells #[.int .i64 0,.int .i64 0] 36))
  have HE0:=hid (heap_new w (.cells #[.int .i64 0,.int .i64 0] 36))
  have HIF:=hid (iFault_any Q L v _ hn sh (I.below HB0.out))
  have h0 : (chk Q L).1 = 0:=(rgt_of I hg).c
  have h1 : (codeE (nonE Q roots) roots.length,fstE (nonE Q roots) roots.length) = (0,none):=by
    have h:=hg
    rw [chkG_ok h0] at h
    have h2 : codeE (nonE Q roots) roots.length = 0:=h
    cases h3 : fstE (nonE Q roots) roots.length with
    | none=>rw [h2]
    | some j=>
      rw [codeE_some h3] at h2
      exact absurd h2 (fstE_of_some h3).2.1
  have HUL:=hid (show (univ L).length = Q.length by rw [I.ln]; simp [univ])
  have hqn : Q.length <= 1000:=by rw [I.ln]; exact hn
  have HMK:=hid (fun W (h : Below w.heap.size w W)=>marks_any Q L roots v rv W hn hrn sh (I.below h) (hr.below h) hg)
  have HEA:=hid (fun i (hi : i < Q.length) W (h : Below w.heap.size w W)=>(I.below h).es)
  have HUM:=hid (fun i (hi : i < Q.length) (hi' : i < (univ L).length)=>show Q[i].1 = (univ L)[i] by
    have:=(I.ok i hi (by rw [<- I.ln]; exact hi)).m
    simp only [univ,List.getElem_map]
    exact this)
  obtain ⟨i0,hi0,hz0,hz1,hz2⟩:=info_parts infoMod
  have HRF:=hid (fun W (h : Below w.heap.size w W)=>rFault_any Q roots v rv W (by rw [I.ln]; exact hn) hrn (I.below h).es (hr.below h))
  obtain ⟨a,c,hv1,-⟩:=id I.es
  subst hv1
  obtain ⟨ra,rc,hrv,-⟩:=id hr
  subst hrv
  obtain ⟨oo0,hco⟩ : ∃ oo,chk Q L = (0,oo):=⟨(chk Q L).2,Prod.ext h0 rfl⟩
  rw [hco] at HIF
  unfold faultV at HIF HRF
  simp only at HIF HRF
  generalize atOf oo0 = ao0 at *
  have e1 : codeE (nonE Q roots) roots.length = 0:=congrArg Prod.fst h1
  have e2 : fstE (nonE Q roots) roots.length = none:=congrArg Prod.snd h1
  rw [e1,e2,show atOf none = -1 from rfl] at HRF
  clear I hr sh h0 hco h1 e1 e2 hg
  go_enter Tryz.func21,Tryz.ntmps21
  go_wp2_with fail
  refine HIF.out.mono ?_
  rintro e w1 ⟨rfl,hb⟩
  have HB1:=hid (HB0.out.trans (hb.mono HB0.out.size))
  have HE1:=hid ((hb.block _ (lt_of_blk HE0.out)).trans HE0.out)
  clear hb
  have HB2:=hid (HB1.out.alloc HB1.out.size (.cells #[.int .i64 0,.int .i64 ao0] 36))
  have HE2:=hid (heap_old w1 (.cells #[.int .i64 0,.int .i64 ao0] 36) HE1.out)
  have HF2:=hid (heap_new w1 (.cells #[.int .i64 0,.int .i64 ao0] 36))
  have hlt:=lt_of_blk HE1.out
  have hne : ¬ w1.heap.size = w.heap.size:=by omega
  have hne2 : ¬ w.heap.size = w1.heap.size:=by omega
  go_wp2_with fail
  refine (HRF.out _ HB2.out).mono ?_
  rintro e w3 ⟨rfl,hb⟩
  have HB3:=hid (HB2.out.trans (hb.mono HB2.out.size))
  have HE3:=hid ((hb.block _ (lt_of_blk HE2.out)).trans HE2.out)
  have HF3:=hid ((hb.block _ (lt_of_blk HF2.out)).trans HF2.out)
  clear hb
  have HB4:=hid (put2_below (x:=.int .i64 0) (y:=.int .i64 (-1)) HB3.out (Nat.le_of_lt hlt))
  have HE4:=hid (keep_set (fb:=w1.heap.size) (o:=1) (x:=.int .i64 (-1)) (keep_set (fb:=w1.heap.size) (o:=0) (x:=.int .i64 0) HE3.out hne2) hne2)
  have HF4:=hid (set_block (o:=1) (x:=.int .i64 (-1)) (set_block (o:=0) (x:=.int .i64 0) HF3.out))
  obtain ⟨g0,g1,gf⟩:=box_two HF3.out
  go_wp2_with fail
  generalize (w3.setCell ⟨w1.heap.size,0,none⟩ (.int .i64 0)).setCell ⟨w1.heap.size,1,none⟩ (.int .i64 (-1)) = w4 at *
  refine (HMK.out w4 HB4.out).mono ?_
  rintro e w5 ⟨O,rfl,hM,hO⟩
  have HB5:=hid (HB4.out.trans (hM.bl.mono HB4.out.size))
  have HE5:=hid ((hM.bl.block _ (lt_of_blk HE4.out)).trans HE4.out)
  have HHP:=hid hM.hp
  have HOI:=hid hO
  have HOL:=hid hM.ok.ln
  have h45:=hM.bl.size
  have hw4:=HB4.out.size
  clear hM hO HMK
  go_wp2_with fail
  go_loopw [8,9] (fun ov iv wr=>∃ i : Nat,i <= Q.length /\ iv = .int .i64 i /\ Hid (wr.ownsRow w5.heap.size 25 2 ov (selO (O.take i) ((univ L).take i)).length (flatM (selO (O.take i) ((univ L).take i)))) /\ (selO (O.take i) ((univ L).take i)).length <= i /\ Hid (Below w5.heap.size w5 wr)) (fun _ iv _=>Q.length - (intOf iv).toNat)
  case atStart=>exact ⟨0,Nat.zero_le _,rfl,hid (by simp only [List.take_zero,selO]; exact World.ownsRow_nil _ _ _ _),by simp [selO],hid (Below.refl _ _)⟩
  case round=>
    obtain ⟨i,hi,rfl,HOW,hsl,HBr⟩:=hrel
    by_cases hlt2 : i < Q.length
    · have hiI : (i : Int) < (Q.length : Int):=by omega
      have hii : (0 : Int) <= (i : Int):=by omega
      have HLI:=hid hlt2
      have hiU : i < (univ L).length:=by rw [HUL.out]; exact hlt2
      have hiO : i < O.length:=by rw [HOL.out]; exact hiU
      have HBw:=hid (HB5.out.trans (HBr.out.mono HB5.out.size))
      have m0:=cell_below HBr.out (bwc_at HHP.out hiO)
      have hes:=HEA.out i hlt2 _ HBw.out
      obtain ⟨b,o,hab⟩ : ∃ b o,a = some ⟨b,o,none⟩:=by
        obtain ⟨a',c',e,_,_,h⟩:=hes
        injection e with q1 q2 q3
        obtain ⟨b,o,h4,_⟩:=h (fun h=>by rw [h] at hlt2; simp at hlt2)
        exact ⟨b,o,by rw [q1,h4]⟩
      subst hab
      obtain ⟨-,x0,x1,-,-,-⟩:=es_all hes hlt2
      have HST:=hid (selO_take O (univ L) i hiO hiU)
      rw [HUM.out i hlt2 hiU] at x0 x1
      generalize (univ L)[i] = um at *
      obtain ⟨up,uq⟩:=um
      simp only at x0 x1
      have hwz:=HBr.out.size
      clear hes hlt2
      cases hoi : O[i]
      · rw [hoi] at m0 HST
        have HST2:=hid (show selO (O.take (i + 1)) ((univ L).take (i + 1)) = selO (O.take i) ((univ L).take i) by rw [HST.out]; simp)
        clear hoi
        go_wp2_with fail
        go_roundw
        case rel=>first | exact ⟨i + 1,HLI.out,nr_idx i,hid (by rw [HST2.out]; exact HOW.out),by rw [HST2.out]; omega,HBr⟩ | exact ⟨i + 1,HLI.out,nx_idx HLI.out (by omega),hid (by rw [HST2.out]; exact HOW.out),by rw [HST2.out]; omega,HBr⟩
        case measure=>first | exact nr_meas HLI.out | exact nx_meas HLI.out (by omega)
      · rw [hoi] at m0 HST
        have HST2:=hid (show selO (O.take (i + 1)) ((univ L).take (i + 1)) = selO (O.take i) ((univ L).take i) ++ [(up,uq)] by rw [HST.out]; simp)
        obtain ⟨SX,hSX⟩ : ∃ SX,selO (O.take i) ((univ L).take i) = SX:=⟨_,rfl⟩
        rw [hSX] at HOW HST2 hsl
        clear hoi hSX HST
        go_wp2_with (at_builtin; refine wpList_append_own _ rfl _ _ 23 rfl w5.heap.size 25 i0 _ 2 32 Tryz.underlying23 hi0 hz0 hz1 hz2 rfl (by decide) _ _ _ rfl (HOW.out.alloc _) ⟨wr.heap.size,0,none⟩ 1 1 [.string up,.string uq] rfl rfl ?c1 ?c2 ?c3 ?c4 ?c5 ?_)
        case c1=>
          intro t u ht
          match t,ht with
          | 0,ht=>simp at ht; subst ht; simp [Addr.add]
          | 1,ht=>simp at ht; subst ht; simp [Addr.add]
          | t + 2,ht=>simp at ht
        case c2=>intro u hu; simp at hu; rcases hu with rfl | rfl <;> rfl
        case c3=>unfold maxLen; omega
        case c4=>omega
        case c5=>first | omega | (simp; omega)
        intro v' w6 hown hgrow _
        have HR3:=hid (rel_app2 HBr.out.size HBr.out HOW.out (Below.refl _ _) hgrow)
        have HO4:=hid (show w6.ownsRow w5.heap.size 25 2 v' (SX ++ [(up,uq)]).length (flatM (SX ++ [(up,uq)])) by rw [List.length_append,flatM_app]; exact hown)
        clear hown hgrow
        go_wp2_with fail
        go_roundw
        case rel=>first | exact ⟨i + 1,HLI.out,nr_idx i,hid (by rw [HST2.out]; exact HO4.out),by rw [HST2.out]; simp; omega,HR3⟩ | exact ⟨i + 1,HLI.out,nx_idx HLI.out (by omega),hid (by rw [HST2.out]; exact HO4.out),by rw [HST2.out]; simp; omega,HR3⟩
        case measure=>first | exact nr_meas HLI.out | exact nx_meas HLI.out (by omega)
    · have hiI : ¬ (i : Int) < (Q.length : Int):=by omega
      have hie : i = Q.length:=by omega
      have HOF:=hid (show wr.ownsRow w5.heap.size 25 2 u8 (selO O (univ L)).length (flatM (selO O (univ L))) by
        have h:=HOW.out
        rw [List.take_of_length_le (by rw [HOL.out,HUL.out]; omega),List.take_of_length_le (by rw [HUL.out]; omega)] at h
        exact h)
      have HFN:=hid (fun W=>fine_any W)
      clear hlt2 HOW hsl
      obtain ⟨oa,on,oc,hov⟩:=own_sl HOF.out
      subst hov
      go_wp2_with fail
      refine (HFN.out _).mono ?_
      rintro e w6 ⟨rfl,hb⟩
      have HB6:=hid ((HB5.out.trans (HBr.out.mono HB5.out.size)).trans (hb.mono (Nat.le_trans HB5.out.size HBr.out.size)))
      have HE6:=hid ((hb.block _ (Nat.lt_of_lt_of_le (lt_of_blk HE5.out) HBr.out.size)).trans ((HBr.out.block _ (lt_of_blk HE5.out)).trans HE5.out))
      have HO6:=hid (owns_below HOF.out hb)
      clear hb
      obtain ⟨s0,s1,tf⟩:=box_two HE6.out
      have hw5:=lt_of_blk HE5.out
      have hnb : (Value.slice oa on oc).ownBlock ≠ some w.heap.size:=fun h=>by
        have:=(own_lt HO6.out h).2
        omega
      have HO7:=hid (own_base (owns_set (o:=1) (x:=.int .i64 (-1)) (owns_set (o:=0) (x:=.int .i64 0) HO6.out hnb) hnb) (show w.heap.size <= w5.heap.size by omega))
      go_wp2_with fail
      refine bodyPost_ret (v:=.tuple #[.slice oa on oc,.agg #[.int .i64 0,.int .i64 (-1)]]) (by simp [results,Tryz.results21,go_sem,s0,s1]) rfl ⟨_,O,rfl,HOL.out,HOI.out,HO7.out,?_⟩
      exact put2_below HB6.out (Nat.le_refl _)
theorem reachOf_bad (Q : List Raw) (L : List Ent) (roots : List Bm) (v rv : Value) (w : World) (hn : L.length <= 1000) (hrn : roots.length <= 1000000) (sh : ∀ e,e ∈ L -> ShE e) (I : Ixs w v Q L) (hr : MsAt w rv roots) (h0 : (chkG Q L roots).1 ≠ 0) :
    Calls Tryz.prog 21 #[v,rv] w fun e w'=>e = .returned (.tuple #[.slice none 0 0,faultV (chkG Q L roots)]) /\ Below w.heap.size w w':=by
  by_cases hc : (chk Q L).1 = 0
  · rw [chkG_ok hc] at h0 ⊢
    exact reachOf_rt Q L roots v rv w hn hrn sh I hr hc h0
  · rw [chkG_bad hc]
    exact reachOf_ix Q L roots v rv w hn sh I hr hc
theorem rF_le (Q : List Raw) (L : List Ent) (roots : List Bm) : (rF Q L roots).1 <= 10:=by
  unfold rF
  split
  · simp
  · exact chkG_le _ _ _
theorem rX_sel {Q : List Raw} {L : List Ent} {roots : List Bm} {O : List Bool} (h : (chkG Q L roots).1 = 0) (hl : O.length = (univ L).length) (hO : ∀ i (hi : i < (univ L).length) (hi' : i < O.length),O[i] = true ↔ Rch (reqQ Q L) roots (univ L)[i]) : selO O (univ L) = rX Q L roots:=by
  unfold rX
  rw [if_pos h]
  refine selO_filter O (univ L) _ hl fun i h1 h2=>?_
  by_cases hr : Rch (reqQ Q L) roots (univ L)[i]
  · rw [(hO i h1 h2).2 hr]; simp [hr]
  · cases hc : O[i]
    · simp [hr]
    · exact absurd ((hO i h1 h2).1 hc) hr
theorem reachOf_all (Q : List Raw) (L : List Ent) (roots : List Bm) (v rv : Value) (w : World) (hn : L.length <= 1000) (hrn : roots.length <= 1000000) (sh : ∀ e,e ∈ L -> ShE e) (I : Ixs w v Q L) (hr : MsAt w rv roots) :
    Calls Tryz.prog 21 #[v,rv] w fun e w'=>∃ a c,e = .returned (.tuple #[.slice a (rX Q L roots).length c,faultV (rF Q L roots)]) /\ MsAt w' (.slice a (rX Q L roots).length c) (rX Q L roots) /\ Below w.heap.size w w':=by
  by_cases h : (chkG Q L roots).1 = 0
  · refine (reachOf_good Q L roots v rv w hn hrn sh I hr h).mono ?_
    rintro e w' ⟨u,O,rfl,hl,hO,hown,hb⟩
    rw [rX_sel h hl hO] at hown
    have hms:=own_ms hown
    obtain ⟨a,c,hu⟩:=own_slN hown
    subst hu
    exact ⟨a,c,by rw [rF_good h]; rfl,hms,hb⟩
  · refine (reachOf_bad Q L roots v rv w hn hrn sh I hr h).mono ?_
    rintro e w' ⟨rfl,hb⟩
    rw [rX_bad h,rF_bad h]
    exact ⟨_,_,rfl,ms_nil0 _,hb⟩
end Ve
end Go.Proofs.YtlcffhadobhfkaaGreatDoor
