/-
  MtC
-/
import Derived.Test.YtlcffhadobhfkaaGreatDoorMq3
import Derived.Test.YtlcffhadobhfkaaGreatDoorMq5
import Derived.Test.YtlcffhadobhfkaaGreatDoorMq6
import Derived.Test.YtlcffhadobhfkaaGreatDoorMq9
import Derived.Test.YtlcffhadobhfkaaGreatDoorMq11
import Derived.Test.YtlcffhadobhfkaaGreatDoorMq2
import Derived.Test.YtlcffhadobhfkaaGreatDoorMq18
import Derived.Test.YtlcffhadobhfkaaGreatDoorMq19
import Derived.Test.YtlcffhadobhfkaaGreatDoorMq20
import Derived.Test.YtlcffhadobhfkaaGreatDoorMq23
import Derived.Test.YtlcffhadobhfkaaGreatDoorMq1
import Derived.Test.YtlcffhadobhfkaaGreatDoorMq32
import Derived.Test.YtlcffhadobhfkaaGreatDoorMq22
import Derived.Test.YtlcffhadobhfkaaGreatDoorMq34
import Derived.Test.YtlcffhadobhfkaaGreatDoorMq39
import Derived.Test.YtlcffhadobhfkaaGreatDoorMq47
import Derived.Test.YtlcffhadobhfkaaGreatDoorMq43
import Derived.Test.YtlcffhadobhfkaaGreatDoorMq45
import Derived.Test.YtlcffhadobhfkaaGreatDoorMq56
import Derived.Test.YtlcffhadobhfkaaGreatDoorMq62
import Derived.Test.YtlcffhadobhfkaaGreatDoorMq54
import Derived.Test.YtlcffhadobhfkaaGreatDoorMq37
import Derived.Test.YtlcffhadobhfkaaGreatDoorMq31
namespace Go.Proofs.YtlcffhadobhfkaaGreatDoor
open Go.RowKit Go.Maps
namespace Ve
set_option maxRecDepth 100000 in
set_option maxHeartbeats 4000000 in
theorem co_bad1 (Q : List Raw) (L : List Ent) (roots sel : List Bm) (v rv sv : Value) (w : World) (hn : L.length <= 1000) (_hrn : roots.length <= 1000000) (_hsn : sel.length <= 1000000) (sh : ∀ e,e ∈ L -> ShE e) (I : Ixs w v Q L) (hr : MsAt w rv roots) (hs : MsAt w sv sel) (h0 : (chk Q L).1 ≠ 0) :
    Calls Tryz.prog 36 #[v,rv,sv] w fun e w'=>e = .returned (.tuple #[.bool false,faultV (chk Q L)]) /\ Below w.heap.size w w':=by
  have HB0:=hid ((Below.refl w.heap.size w).alloc (Nat.le_refl _) (.cells #[.int .i64 0,.int .i64 0] 36))
  have HE0:=hid (heap_new w (.cells #[.int .i64 0,.int .i64 0] 36))
  have HIF:=hid (iFault_any Q L v _ hn sh (I.below HB0.out))
  obtain ⟨a,c,hv1,-⟩:=id I.es
  subst hv1
  obtain ⟨ra,rc,hrv,-⟩:=id hr
  subst hrv
  obtain ⟨sa,sc,hsv,-⟩:=id hs
  subst hsv
  obtain ⟨cc,oo,hco⟩ : ∃ cc oo,chk Q L = (cc,oo):=⟨_,_,rfl⟩
  rw [hco] at HIF h0 ⊢
  unfold faultV at HIF ⊢
  simp only at HIF h0 ⊢
  generalize atOf oo = ao at *
  have hpos : (0 : Int) < (cc : Int):=by omega
  have hnz : ((cc : Int) == 0) = false:=by simp; omega
  have hnz2 : ¬ (cc : Int) = 0:=by omega
  clear I hr hs sh h0 hco
  go_enter Tryz.func36,Tryz.ntmps36
  go_wp2_with fail
  refine HIF.out.mono ?_
  rintro e w1 ⟨rfl,hb⟩
  have HB1:=hid (HB0.out.trans (hb.mono HB0.out.size))
  have HE1:=hid ((hb.block _ (lt_of_blk HE0.out)).trans HE0.out)
  clear hb
  have HB2:=hid (HB1.out.alloc HB1.out.size (.cells #[.int .i64 (cc : Int),.int .i64 ao] 36))
  have HE2:=hid (heap_old w1 (.cells #[.int .i64 (cc : Int),.int .i64 ao] 36) HE1.out)
  have HF2:=hid (heap_new w1 (.cells #[.int .i64 (cc : Int),.int .i64 ao] 36))
  have HLT:=hid (lt_of_blk HE1.out)
  have hne : ¬ w1.heap.size = w.heap.size:=Nat.ne_of_gt (lt_of_blk HE1.out)
  have hne2 : ¬ w.heap.size = w1.heap.size:=Nat.ne_of_lt (lt_of_blk HE1.out)
  go_wp2_with fail
  generalize w1.alloc (.cells #[.int .i64 (cc : Int),.int .i64 ao] 36) = w2 at *
  have HBx:=HB2
  have HEx:=HE2
  have HFx:=HF2
  obtain ⟨s0,s1,tf⟩:=box_two HEx.out
  obtain ⟨f0,f1,_⟩:=box_two HFx.out
  go_region_with fail
  all_goals
    go_wp2_with fail
    refine bodyPost_ret (v:=.tuple #[.bool false,.agg #[.int .i64 (cc : Int),.int .i64 ao]]) (by simp [results,Tryz.results36,go_sem,s0,s1]) rfl ⟨rfl,?_⟩
    exact put2_below (below_drawn_of HBx.out 1) (Nat.le_refl _)
set_option maxRecDepth 100000 in
set_option maxHeartbeats 4000000 in
theorem co_bad2 (Q : List Raw) (L : List Ent) (roots sel : List Bm) (v rv sv : Value) (w : World) (hn : L.length <= 1000) (hrn : roots.length <= 1000000) (_hsn : sel.length <= 1000000) (sh : ∀ e,e ∈ L -> ShE e) (I : Ixs w v Q L) (hr : MsAt w rv roots) (hs : MsAt w sv sel) (h0 : (chk Q L).1 = 0) (h1 : codeE (nonE Q roots) roots.length ≠ 0) :
    Calls Tryz.prog 36 #[v,rv,sv] w fun e w'=>e = .returned (.tuple #[.bool false,faultV (codeE (nonE Q roots) roots.length,fstE (nonE Q roots) roots.length)]) /\ Below w.heap.size w w':=by
  have HB0:=hid ((Below.refl w.heap.size w).alloc (Nat.le_refl _) (.cells #[.int .i64 0,.int .i64 0] 36))
  have HE0:=hid (heap_new w (.cells #[.int .i64 0,.int .i64 0] 36))
  have HIF:=hid (iFault_any Q L v _ hn sh (I.below HB0.out))
  have HRF:=hid (fun W (h : Below w.heap.size w W)=>rFault_any Q roots v rv W (by rw [I.ln]; exact hn) hrn (I.below h).es (hr.below h))
  obtain ⟨a,c,hv1,-⟩:=id I.es
  subst hv1
  obtain ⟨ra,rc,hrv,-⟩:=id hr
  subst hrv
  obtain ⟨sa,sc,hsv,-⟩:=id hs
  subst hsv
  obtain ⟨oo0,hco⟩ : ∃ oo,chk Q L = (0,oo):=⟨(chk Q L).2,Prod.ext h0 rfl⟩
  rw [hco] at HIF
  unfold faultV at HIF HRF
  simp only at HIF HRF
  generalize atOf oo0 = ao0 at *
  unfold faultV
  simp only
  generalize codeE (nonE Q roots) roots.length = rc0 at *
  generalize atOf (fstE (nonE Q roots) roots.length) = ar at *
  have hpos : (0 : Int) < (rc0 : Int):=by omega
  have hnz : ((rc0 : Int) == 0) = false:=by simp; omega
  have hnz2 : ¬ (rc0 : Int) = 0:=by omega
  clear I hr hs sh h0 hco h1
  go_enter Tryz.func36,Tryz.ntmps36
  go_wp2_with fail
  refine HIF.out.mono ?_
  rintro e w1 ⟨rfl,hb⟩
  have HB1:=hid (HB0.out.trans (hb.mono HB0.out.size))
  have HE1:=hid ((hb.block _ (lt_of_blk HE0.out)).trans HE0.out)
  clear hb
  have HB2:=hid (HB1.out.alloc HB1.out.size (.cells #[.int .i64 0,.int .i64 ao0] 36))
  have HE2:=hid (heap_old w1 (.cells #[.int .i64 0,.int .i64 ao0] 36) HE1.out)
  have HF2:=hid (heap_new w1 (.cells #[.int .i64 0,.int .i64 ao0] 36))
  have HLT:=hid (lt_of_blk HE1.out)
  have hne : ¬ w1.heap.size = w.heap.size:=Nat.ne_of_gt (lt_of_blk HE1.out)
  have hne2 : ¬ w.heap.size = w1.heap.size:=Nat.ne_of_lt (lt_of_blk HE1.out)
  go_wp2_with fail
  generalize hg2 : w1.alloc (.cells #[.int .i64 0,.int .i64 ao0] 36) = w2 at *
  clear hg2
  refine (HRF.out _ HB2.out).mono ?_
  rintro e w3 ⟨rfl,hb⟩
  have HB3a:=hid (HB2.out.trans (hb.mono HB2.out.size))
  have HE3a:=hid ((hb.block _ (lt_of_blk HE2.out)).trans HE2.out)
  have HF3a:=hid ((hb.block _ (lt_of_blk HF2.out)).trans HF2.out)
  clear hb
  have HB3:=hid (put2_below (x:=.int .i64 (rc0 : Int)) (y:=.int .i64 ar) HB3a.out (Nat.le_of_lt HLT.out))
  have HE3:=hid (keep_set (fb:=w1.heap.size) (o:=1) (x:=.int .i64 ar) (keep_set (fb:=w1.heap.size) (o:=0) (x:=.int .i64 (rc0 : Int)) HE3a.out hne2) hne2)
  have HF3:=hid (set_block (o:=1) (x:=.int .i64 ar) (set_block (o:=0) (x:=.int .i64 (rc0 : Int)) HF3a.out))
  obtain ⟨g0,g1,gf⟩:=box_two HF3a.out
  go_wp2_with fail
  generalize hg3 : (w3.setCell ⟨w1.heap.size,0,none⟩ (.int .i64 (rc0 : Int))).setCell ⟨w1.heap.size,1,none⟩ (.int .i64 ar) = w3b at *
  clear hg3 g0 g1 gf
  have HF3 : Hid (w3b.heap[w1.heap.size]? = some (.cells #[.int .i64 (rc0 : Int),.int .i64 ar] 36 (0,0))):=hid HF3.out
  have HBx:=HB3
  have HEx:=HE3
  have HFx:=HF3
  obtain ⟨s0,s1,tf⟩:=box_two HEx.out
  obtain ⟨f0,f1,_⟩:=box_two HFx.out
  go_region_with fail
  all_goals
    go_wp2_with fail
    refine bodyPost_ret (v:=.tuple #[.bool false,.agg #[.int .i64 (rc0 : Int),.int .i64 ar]]) (by simp [results,Tryz.results36,go_sem,s0,s1]) rfl ⟨rfl,?_⟩
    exact put2_below (below_drawn_of HBx.out 1) (Nat.le_refl _)
set_option maxRecDepth 100000 in
set_option maxHeartbeats 4000000 in
theorem co_bad3 (Q : List Raw) (L : List Ent) (roots sel : List Bm) (v rv sv : Value) (w : World) (hn : L.length <= 1000) (hrn : roots.length <= 1000000) (hsn : sel.length <= 1000000) (sh : ∀ e,e ∈ L -> ShE e) (I : Ixs w v Q L) (hr : MsAt w rv roots) (hs : MsAt w sv sel) (h0 : (chk Q L).1 = 0) (h1 : codeE (nonE Q roots) roots.length = 0) (h2 : codeE (nonE Q sel) sel.length ≠ 0) :
    Calls Tryz.prog 36 #[v,rv,sv] w fun e w'=>e = .returned (.tuple #[.bool false,faultV (codeE (nonE Q sel) sel.length,fstE (nonE Q sel) sel.length)]) /\ Below w.heap.size w w':=by
  have HB0:=hid ((Below.refl w.heap.size w).alloc (Nat.le_refl _) (.cells #[.int .i64 0,.int .i64 0] 36))
  have HE0:=hid (heap_new w (.cells #[.int .i64 0,.int .i64 0] 36))
  have HIF:=hid (iFault_any Q L v _ hn sh (I.below HB0.out))
  have HRF:=hid (fun W (h : Below w.heap.size w W)=>rFault_any Q roots v rv W (by rw [I.ln]; exact hn) hrn (I.below h).es (hr.below h))
  have HSF:=hid (fun W (h : Below w.heap.size w W)=>rFault_any Q sel v sv W (by rw [I.ln]; exact hn) hsn (I.below h).es (hs.below h))
  obtain ⟨a,c,hv1,-⟩:=id I.es
  subst hv1
  obtain ⟨ra,rc,hrv,-⟩:=id hr
  subst hrv
  obtain ⟨sa,sc,hsv,-⟩:=id hs
  subst hsv
  obtain ⟨oo0,hco⟩ : ∃ oo,chk Q L = (0,oo):=⟨(chk Q L).2,Prod.ext h0 rfl⟩
  rw [hco] at HIF
  unfold faultV at HIF HRF
  simp only at HIF HRF
  generalize atOf oo0 = ao0 at *
  rw [h1] at HRF
  generalize atOf (fstE (nonE Q roots) roots.length) = ar at *
  unfold faultV at HSF
  simp only at HSF
  unfold faultV
  simp only
  generalize codeE (nonE Q sel) sel.length = sc0 at *
  generalize atOf (fstE (nonE Q sel) sel.length) = az at *
  have hpos : (0 : Int) < (sc0 : Int):=by omega
  have hnz : ((sc0 : Int) == 0) = false:=by simp; omega
  have hnz2 : ¬ (sc0 : Int) = 0:=by omega
  clear I hr hs sh h0 hco h1 h2
  go_enter Tryz.func36,Tryz.ntmps36
  go_wp2_with fail
  refine HIF.out.mono ?_
  rintro e w1 ⟨rfl,hb⟩
  have HB1:=hid (HB0.out.trans (hb.mono HB0.out.size))
  have HE1:=hid ((hb.block _ (lt_of_blk HE0.out)).trans HE0.out)
  clear hb
  have HB2:=hid (HB1.out.alloc HB1.out.size (.cells #[.int .i64 0,.int .i64 ao0] 36))
  have HE2:=hid (heap_old w1 (.cells #[.int .i64 0,.int .i64 ao0] 36) HE1.out)
  have HF2:=hid (heap_new w1 (.cells #[.int .i64 0,.int .i64 ao0] 36))
  have HLT:=hid (lt_of_blk HE1.out)
  have hne : ¬ w1.heap.size = w.heap.size:=Nat.ne_of_gt (lt_of_blk HE1.out)
  have hne2 : ¬ w.heap.size = w1.heap.size:=Nat.ne_of_lt (lt_of_blk HE1.out)
  go_wp2_with fail
  generalize hg2 : w1.alloc (.cells #[.int .i64 0,.int .i64 ao0] 36) = w2 at *
  clear hg2
  refine (HRF.out _ HB2.out).mono ?_
  rintro e w3 ⟨rfl,hb⟩
  have HB3a:=hid (HB2.out.trans (hb.mono HB2.out.size))
  have HE3a:=hid ((hb.block _ (lt_of_blk HE2.out)).trans HE2.out)
  have HF3a:=hid ((hb.block _ (lt_of_blk HF2.out)).trans HF2.out)
  clear hb
  have HB3:=hid (put2_below (x:=.int .i64 0) (y:=.int .i64 ar) HB3a.out (Nat.le_of_lt HLT.out))
  have HE3:=hid (keep_set (fb:=w1.heap.size) (o:=1) (x:=.int .i64 ar) (keep_set (fb:=w1.heap.size) (o:=0) (x:=.int .i64 0) HE3a.out hne2) hne2)
  have HF3:=hid (set_block (o:=1) (x:=.int .i64 ar) (set_block (o:=0) (x:=.int .i64 0) HF3a.out))
  obtain ⟨g0,g1,gf⟩:=box_two HF3a.out
  go_wp2_with fail
  generalize hg3 : (w3.setCell ⟨w1.heap.size,0,none⟩ (.int .i64 0)).setCell ⟨w1.heap.size,1,none⟩ (.int .i64 ar) = w3b at *
  clear hg3 g0 g1 gf
  have HF3 : Hid (w3b.heap[w1.heap.size]? = some (.cells #[.int .i64 0,.int .i64 ar] 36 (0,0))):=hid HF3.out
  refine (HSF.out _ HB3.out).mono ?_
  rintro e w4 ⟨rfl,hb⟩
  have HB4a:=hid (HB3.out.trans (hb.mono HB3.out.size))
  have HE4a:=hid ((hb.block _ (lt_of_blk HE3.out)).trans HE3.out)
  have HF4a:=hid ((hb.block _ (lt_of_blk HF3.out)).trans HF3.out)
  clear hb
  have HB4:=hid (put2_below (x:=.int .i64 (sc0 : Int)) (y:=.int .i64 az) HB4a.out (Nat.le_of_lt HLT.out))
  have HE4:=hid (keep_set (fb:=w1.heap.size) (o:=1) (x:=.int .i64 az) (keep_set (fb:=w1.heap.size) (o:=0) (x:=.int .i64 (sc0 : Int)) HE4a.out hne2) hne2)
  have HF4:=hid (set_block (o:=1) (x:=.int .i64 az) (set_block (o:=0) (x:=.int .i64 (sc0 : Int)) HF4a.out))
  obtain ⟨g0,g1,gf⟩:=box_two HF4a.out
  go_wp2_with fail
  generalize hg4 : (w4.setCell ⟨w1.heap.size,0,none⟩ (.int .i64 (sc0 : Int))).setCell ⟨w1.heap.size,1,none⟩ (.int .i64 az) = w4b at *
  clear hg4 g0 g1 gf
  have HF4 : Hid (w4b.heap[w1.heap.size]? = some (.cells #[.int .i64 (sc0 : Int),.int .i64 az] 36 (0,0))):=hid HF4.out
  have HBx:=HB4
  have HEx:=HE4
  have HFx:=HF4
  obtain ⟨s0,s1,tf⟩:=box_two HEx.out
  obtain ⟨f0,f1,_⟩:=box_two HFx.out
  go_region_with fail
  all_goals
    go_wp2_with fail
    refine bodyPost_ret (v:=.tuple #[.bool false,.agg #[.int .i64 (sc0 : Int),.int .i64 az]]) (by simp [results,Tryz.results36,go_sem,s0,s1]) rfl ⟨rfl,?_⟩
    exact put2_below (below_drawn_of HBx.out 1) (Nat.le_refl _)
set_option maxRecDepth 100000 in
set_option maxHeartbeats 4000000 in
theorem co_bad4 (Q : List Raw) (L : List Ent) (roots sel : List Bm) (v rv sv : Value) (w : World) (hn : L.length <= 1000) (hrn : roots.length <= 1000000) (hsn : sel.length <= 1000000) (sh : ∀ e,e ∈ L -> ShE e) (I : Ixs w v Q L) (hr : MsAt w rv roots) (hs : MsAt w sv sel) (h0 : (chk Q L).1 = 0) (h1 : codeE (nonE Q roots) roots.length = 0) (h2 : codeE (nonE Q sel) sel.length = 0) (h3 : risB2 sel = false) :
    Calls Tryz.prog 36 #[v,rv,sv] w fun e w'=>e = .returned (.tuple #[.bool false,.agg #[.int .i64 8,.int .i64 (-1)]]) /\ Below w.heap.size w w':=by
  have HB0:=hid ((Below.refl w.heap.size w).alloc (Nat.le_refl _) (.cells #[.int .i64 0,.int .i64 0] 36))
  have HE0:=hid (heap_new w (.cells #[.int .i64 0,.int .i64 0] 36))
  have HIF:=hid (iFault_any Q L v _ hn sh (I.below HB0.out))
  have HRF:=hid (fun W (h : Below w.heap.size w W)=>rFault_any Q roots v rv W (by rw [I.ln]; exact hn) hrn (I.below h).es (hr.below h))
  have HSF:=hid (fun W (h : Below w.heap.size w W)=>rFault_any Q sel v sv W (by rw [I.ln]; exact hn) hsn (I.below h).es (hs.below h))
  have HRP:=hid (fun W (h : Below w.heap.size w W)=>rp_any sel sv W (hs.below h) hsn)
  rw [h3] at HRP
  obtain ⟨a,c,hv1,-⟩:=id I.es
  subst hv1
  obtain ⟨ra,rc,hrv,-⟩:=id hr
  subst hrv
  obtain ⟨sa,sc,hsv,-⟩:=id hs
  subst hsv
  obtain ⟨oo0,hco⟩ : ∃ oo,chk Q L = (0,oo):=⟨(chk Q L).2,Prod.ext h0 rfl⟩
  rw [hco] at HIF
  unfold faultV at HIF HRF
  simp only at HIF HRF
  generalize atOf oo0 = ao0 at *
  rw [h1] at HRF
  generalize atOf (fstE (nonE Q roots) roots.length) = ar at *
  unfold faultV at HSF
  simp only at HSF
  rw [h2] at HSF
  generalize atOf (fstE (nonE Q sel) sel.length) = az at *
  clear I hr hs sh h0 hco h1 h2 h3
  have HBA:=hid (fun W=>rbare_any 8 W)
  go_enter Tryz.func36,Tryz.ntmps36
  go_wp2_with fail
  refine HIF.out.mono ?_
  rintro e w1 ⟨rfl,hb⟩
  have HB1:=hid (HB0.out.trans (hb.mono HB0.out.size))
  have HE1:=hid ((hb.block _ (lt_of_blk HE0.out)).trans HE0.out)
  clear hb
  have HB2:=hid (HB1.out.alloc HB1.out.size (.cells #[.int .i64 0,.int .i64 ao0] 36))
  have HE2:=hid (heap_old w1 (.cells #[.int .i64 0,.int .i64 ao0] 36) HE1.out)
  have HF2:=hid (heap_new w1 (.cells #[.int .i64 0,.int .i64 ao0] 36))
  have HLT:=hid (lt_of_blk HE1.out)
  have hne : ¬ w1.heap.size = w.heap.size:=Nat.ne_of_gt (lt_of_blk HE1.out)
  have hne2 : ¬ w.heap.size = w1.heap.size:=Nat.ne_of_lt (lt_of_blk HE1.out)
  go_wp2_with fail
  generalize hg2 : w1.alloc (.cells #[.int .i64 0,.int .i64 ao0] 36) = w2 at *
  clear hg2
  refine (HRF.out _ HB2.out).mono ?_
  rintro e w3 ⟨rfl,hb⟩
  have HB3a:=hid (HB2.out.trans (hb.mono HB2.out.size))
  have HE3a:=hid ((hb.block _ (lt_of_blk HE2.out)).trans HE2.out)
  have HF3a:=hid ((hb.block _ (lt_of_blk HF2.out)).trans HF2.out)
  clear hb
  have HB3:=hid (put2_below (x:=.int .i64 0) (y:=.int .i64 ar) HB3a.out (Nat.le_of_lt HLT.out))
  have HE3:=hid (keep_set (fb:=w1.heap.size) (o:=1) (x:=.int .i64 ar) (keep_set (fb:=w1.heap.size) (o:=0) (x:=.int .i64 0) HE3a.out hne2) hne2)
  have HF3:=hid (set_block (o:=1) (x:=.int .i64 ar) (set_block (o:=0) (x:=.int .i64 0) HF3a.out))
  obtain ⟨g0,g1,gf⟩:=box_two HF3a.out
  go_wp2_with fail
  generalize hg3 : (w3.setCell ⟨w1.heap.size,0,none⟩ (.int .i64 0)).setCell ⟨w1.heap.size,1,none⟩ (.int .i64 ar) = w3b at *
  clear hg3 g0 g1 gf
  have HF3 : Hid (w3b.heap[w1.heap.size]? = some (.cells #[.int .i64 0,.int .i64 ar] 36 (0,0))):=hid HF3.out
  refine (HSF.out _ HB3.out).mono ?_
  rintro e w4 ⟨rfl,hb⟩
  have HB4a:=hid (HB3.out.trans (hb.mono HB3.out.size))
  have HE4a:=hid ((hb.block _ (lt_of_blk HE3.out)).trans HE3.out)
  have HF4a:=hid ((hb.block _ (lt_of_blk HF3.out)).trans HF3.out)
  clear hb
  have HB4:=hid (put2_below (x:=.int .i64 0) (y:=.int .i64 az) HB4a.out (Nat.le_of_lt HLT.out))
  have HE4:=hid (keep_set (fb:=w1.heap.size) (o:=1) (x:=.int .i64 az) (keep_set (fb:=w1.heap.size) (o:=0) (x:=.int .i64 0) HE4a.out hne2) hne2)
  have HF4:=hid (set_block (o:=1) (x:=.int .i64 az) (set_block (o:=0) (x:=.int .i64 0) HF4a.out))
  obtain ⟨g0,g1,gf⟩:=box_two HF4a.out
  go_wp2_with fail
  generalize hg4 : (w4.setCell ⟨w1.heap.size,0,none⟩ (.int .i64 0)).setCell ⟨w1.heap.size,1,none⟩ (.int .i64 az) = w4b at *
  clear hg4 g0 g1 gf
  have HF4 : Hid (w4b.heap[w1.heap.size]? = some (.cells #[.int .i64 0,.int .i64 az] 36 (0,0))):=hid HF4.out
  refine (HRP.out _ HB4.out).mono ?_
  rintro e w5 ⟨rfl,hb⟩
  have HB5:=hid (HB4.out.trans (hb.mono HB4.out.size))
  have HE5:=hid ((hb.block _ (lt_of_blk HE4.out)).trans HE4.out)
  have HF5:=hid ((hb.block _ (lt_of_blk HF4.out)).trans HF4.out)
  clear hb
  go_wp2_with fail
  refine (HBA.out _).mono ?_
  rintro e w6 ⟨rfl,hb⟩
  have HB6a:=hid (HB5.out.trans (hb.mono HB5.out.size))
  have HE6a:=hid ((hb.block _ (lt_of_blk HE5.out)).trans HE5.out)
  have HF6a:=hid ((hb.block _ (lt_of_blk HF5.out)).trans HF5.out)
  clear hb
  have HB6:=hid (put2_below (x:=.int .i64 8) (y:=.int .i64 (-1)) HB6a.out (Nat.le_of_lt HLT.out))
  have HE6:=hid (keep_set (fb:=w1.heap.size) (o:=1) (x:=.int .i64 (-1)) (keep_set (fb:=w1.heap.size) (o:=0) (x:=.int .i64 8) HE6a.out hne2) hne2)
  have HF6:=hid (set_block (o:=1) (x:=.int .i64 (-1)) (set_block (o:=0) (x:=.int .i64 8) HF6a.out))
  obtain ⟨g0,g1,gf⟩:=box_two HF6a.out
  go_wp2_with fail
  generalize hg6 : (w6.setCell ⟨w1.heap.size,0,none⟩ (.int .i64 8)).setCell ⟨w1.heap.size,1,none⟩ (.int .i64 (-1)) = w6b at *
  clear hg6 g0 g1 gf
  have HFx : Hid (w6b.heap[w1.heap.size]? = some (.cells #[.int .i64 8,.int .i64 (-1)] 36 (0,0))):=hid HF6.out
  have HBx:=HB6
  have HEx:=HE6
  obtain ⟨s0,s1,tf⟩:=box_two HEx.out
  obtain ⟨f0,f1,_⟩:=box_two HFx.out
  go_region_with fail
  all_goals
    go_wp2_with fail
    refine bodyPost_ret (v:=.tuple #[.bool false,.agg #[.int .i64 8,.int .i64 (-1)]]) (by simp [results,Tryz.results36,go_sem,s0,s1]) rfl ⟨rfl,?_⟩
    exact put2_below (below_drawn_of HBx.out 1) (Nat.le_refl _)
set_option maxRecDepth 100000 in
set_option maxHeartbeats 4000000 in
theorem co_good (Q : List Raw) (L : List Ent) (roots sel : List Bm) (v rv sv : Value) (w : World) (hn : L.length ≤ 1000) (hrn : roots.length ≤ 1000000) (hsn : sel.length ≤ 1000000) (sh : ∀ e, e ∈ L → ShE e) (I : Ixs w v Q L) (hr : MsAt w rv roots) (hs : MsAt w sv sel) (h0 : (chk Q L).1 = 0) (h1 : codeE (nonE Q roots) roots.length = 0) (h2 : codeE (nonE Q sel) sel.length = 0) (h3 : risB2 sel = true) :
    Calls Tryz.prog 36 #[v,rv,sv] w fun e w'=>e = .returned (.tuple #[.bool (closB Q L roots sel),.agg #[.int .i64 0,.int .i64 (-1)]]) /\ Below w.heap.size w w':=by
  have hru:=(rgt_of I (show (chkG Q L roots).1 = 0 by rw [chkG_ok h0]; exact h1)).r
  have hsu:=(rgt_of I (show (chkG Q L sel).1 = 0 by rw [chkG_ok h0]; exact h2)).r
  have HRZ:=hid (show ∀ x,x ∈ roots -> x.2.size < 999999 from fun x hx=>(univ_szJ sh (hru x hx)).2)
  have HSZ:=hid (show ∀ x,x ∈ sel -> x.2.size < 999999 from fun x hx=>(univ_szJ sh (hsu x hx)).2)
  have HQZ:=hid (fun x=>(reqQ_sz (Q:=Q) sh x))
  have HHA:=hid (fun (x : Bm) (hx : x.2.size < 999999) W (h : Below w.heap.size w W)=>has2_any sel x sv W hsn HSZ.out hx (hs.below h))
  have HFO:=hid (fun (x : Bm) (hx : x ∈ sel) W (h : Below w.heap.size w W)=>findOf_all Q x v W (by rw [I.ln]; omega) (I.below h).es)
  have HAT:=hid (fun (x : Bm) (hx : x ∈ sel)=>show ∃ t,∃ ht : t < Q.length,idxOf (isM x) Q = (t : Int) /\ ∀ W (h : Below w.heap.size w W),MsAt W Q[t].2.1 (reqQ Q L x) by
    obtain ⟨t,ht⟩:=(found_iff I x).1 (hsu x hx)
    obtain ⟨htl,-⟩:=idx_is ht
    have htl2 : t < L.length:=by rw [<- I.ln]; exact htl
    refine ⟨t,htl,ht,fun W h=>?_⟩
    rw [reqQ_at ht htl2]
    exact ((I.below h).ok t htl htl2).rq)
  have HCT:=hid (show (∀ j (h : j < roots.length),hasV sel roots[j] = true) -> (∀ j (h : j < sel.length),undB (reqQ Q L sel[j]) sel = true) -> closB Q L roots sel = true from fun h4 h5=>by
    unfold closB
    rw [Bool.and_eq_true]
    refine ⟨?_,?_⟩
    · unfold undB
      rw [List.all_eq_true]
      intro x hx
      obtain ⟨j,hj,rfl⟩:=List.getElem_of_mem hx
      exact h4 j hj
    · rw [List.all_eq_true]
      intro x hx
      obtain ⟨j,hj,rfl⟩:=List.getElem_of_mem hx
      exact h5 j hj)
  have HCR:=hid (show ∀ j (h : j < roots.length),hasV sel roots[j] = false -> closB Q L roots sel = false from fun j hj h=>by
    have : undB roots sel = false:=by
      cases hu : undB roots sel
      · rfl
      · have:=List.all_eq_true.1 hu roots[j] (List.getElem_mem hj)
        rw [h] at this; cases this
    unfold closB
    rw [this]; rfl)
  have HCS:=hid (show ∀ j (h : j < sel.length) (k : Nat) (hk : k < (reqQ Q L sel[j]).length),hasV sel (reqQ Q L sel[j])[k] = false -> closB Q L roots sel = false from fun j hj k hk h=>by
    have h4 : undB (reqQ Q L sel[j]) sel = false:=by
      cases hu : undB (reqQ Q L sel[j]) sel
      · rfl
      · have:=List.all_eq_true.1 hu (reqQ Q L sel[j])[k] (List.getElem_mem hk)
        rw [h] at this; cases this
    have h5 : (sel.all fun m=>undB (reqQ Q L m) sel) = false:=by
      cases hu : (sel.all fun m=>undB (reqQ Q L m) sel)
      · rfl
      · have:=List.all_eq_true.1 hu sel[j] (List.getElem_mem hj)
        rw [h4] at this; cases this
    unfold closB
    rw [h5,Bool.and_false])
  have hqn : Q.length <= 1000000:=by rw [I.ln]; omega
  have HUN:=hid (show ∀ R : List Bm,(∀ j (h : j < R.length),hasV sel R[j] = true) -> undB R sel = true from fun R h4=>by
    unfold undB
    rw [List.all_eq_true]
    intro x hx
    obtain ⟨j,hj,rfl⟩:=List.getElem_of_mem hx
    exact h4 j hj)
  have HFN:=hid (fun W=>fine_any W)
  generalize closB Q L roots sel = z at *
  clear hru hsu
  have HB0:=hid ((Below.refl w.heap.size w).alloc (Nat.le_refl _) (.cells #[.int .i64 0,.int .i64 0] 36))
  have HE0:=hid (heap_new w (.cells #[.int .i64 0,.int .i64 0] 36))
  have HIF:=hid (iFault_any Q L v _ hn sh (I.below HB0.out))
  have HRF:=hid (fun W (h : Below w.heap.size w W)=>rFault_any Q roots v rv W (by rw [I.ln]; exact hn) hrn (I.below h).es (hr.below h))
  have HSF:=hid (fun W (h : Below w.heap.size w W)=>rFault_any Q sel v sv W (by rw [I.ln]; exact hn) hsn (I.below h).es (hs.below h))
  have HRP:=hid (fun W (h : Below w.heap.size w W)=>rp_any sel sv W (hs.below h) hsn)
  rw [h3] at HRP
  have HI:=hid (fun W (h : Below w.heap.size w W)=>I.below h)
  have HMR:=hid (fun W (h : Below w.heap.size w W)=>hr.below h)
  have HMS:=hid (fun W (h : Below w.heap.size w W)=>hs.below h)
  obtain ⟨a,c,hv1,-⟩:=id I.es
  subst hv1
  obtain ⟨ra,rc,hrv,-⟩:=id hr
  subst hrv
  obtain ⟨sa,sc,hsv,-⟩:=id hs
  subst hsv
  obtain ⟨oo0,hco⟩ : ∃ oo,chk Q L = (0,oo):=⟨(chk Q L).2,Prod.ext h0 rfl⟩
  rw [hco] at HIF
  unfold faultV at HIF HRF
  simp only at HIF HRF
  generalize atOf oo0 = ao0 at *
  rw [h1] at HRF
  generalize atOf (fstE (nonE Q roots) roots.length) = ar at *
  unfold faultV at HSF
  simp only at HSF
  rw [h2] at HSF
  generalize atOf (fstE (nonE Q sel) sel.length) = az at *
  clear I hr hs sh h0 hco h1 h2 h3
  go_enter Tryz.func36,Tryz.ntmps36
  go_wp2_with fail
  refine HIF.out.mono ?_
  rintro e w1 ⟨rfl,hb⟩
  have HB1:=hid (HB0.out.trans (hb.mono HB0.out.size))
  have HE1:=hid ((hb.block _ (lt_of_blk HE0.out)).trans HE0.out)
  clear hb
  have HB2:=hid (HB1.out.alloc HB1.out.size (.cells #[.int .i64 0,.int .i64 ao0] 36))
  have HE2:=hid (heap_old w1 (.cells #[.int .i64 0,.int .i64 ao0] 36) HE1.out)
  have HF2:=hid (heap_new w1 (.cells #[.int .i64 0,.int .i64 ao0] 36))
  have HLT:=hid (lt_of_blk HE1.out)
  have hne : ¬ w1.heap.size = w.heap.size:=Nat.ne_of_gt (lt_of_blk HE1.out)
  have hne2 : ¬ w.heap.size = w1.heap.size:=Nat.ne_of_lt (lt_of_blk HE1.out)
  go_wp2_with fail
  generalize hg2 : w1.alloc (.cells #[.int .i64 0,.int .i64 ao0] 36) = w2 at *
  clear hg2
  refine (HRF.out _ HB2.out).mono ?_
  rintro e w3 ⟨rfl,hb⟩
  have HB3a:=hid (HB2.out.trans (hb.mono HB2.out.size))
  have HE3a:=hid ((hb.block _ (lt_of_blk HE2.out)).trans HE2.out)
  have HF3a:=hid ((hb.block _ (lt_of_blk HF2.out)).trans HF2.out)
  clear hb
  have HB3:=hid (put2_below (x:=.int .i64 0) (y:=.int .i64 ar) HB3a.out (Nat.le_of_lt HLT.out))
  have HE3:=hid (keep_set (fb:=w1.heap.size) (o:=1) (x:=.int .i64 ar) (keep_set (fb:=w1.heap.size) (o:=0) (x:=.int .i64 0) HE3a.out hne2) hne2)
  have HF3:=hid (set_block (o:=1) (x:=.int .i64 ar) (set_block (o:=0) (x:=.int .i64 0) HF3a.out))
  obtain ⟨g0,g1,gf⟩:=box_two HF3a.out
  go_wp2_with fail
  generalize hg3 : (w3.setCell ⟨w1.heap.size,0,none⟩ (.int .i64 0)).setCell ⟨w1.heap.size,1,none⟩ (.int .i64 ar) = w3b at *
  clear hg3 g0 g1 gf
  have HF3 : Hid (w3b.heap[w1.heap.size]? = some (.cells #[.int .i64 0,.int .i64 ar] 36 (0,0))):=hid HF3.out
  refine (HSF.out _ HB3.out).mono ?_
  rintro e w4 ⟨rfl,hb⟩
  have HB4a:=hid (HB3.out.trans (hb.mono HB3.out.size))
  have HE4a:=hid ((hb.block _ (lt_of_blk HE3.out)).trans HE3.out)
  have HF4a:=hid ((hb.block _ (lt_of_blk HF3.out)).trans HF3.out)
  clear hb
  have HB4:=hid (put2_below (x:=.int .i64 0) (y:=.int .i64 az) HB4a.out (Nat.le_of_lt HLT.out))
  have HE4:=hid (keep_set (fb:=w1.heap.size) (o:=1) (x:=.int .i64 az) (keep_set (fb:=w1.heap.size) (o:=0) (x:=.int .i64 0) HE4a.out hne2) hne2)
  have HF4:=hid (set_block (o:=1) (x:=.int .i64 az) (set_block (o:=0) (x:=.int .i64 0) HF4a.out))
  obtain ⟨g0,g1,gf⟩:=box_two HF4a.out
  go_wp2_with fail
  generalize hg4 : (w4.setCell ⟨w1.heap.size,0,none⟩ (.int .i64 0)).setCell ⟨w1.heap.size,1,none⟩ (.int .i64 az) = w4b at *
  clear hg4 g0 g1 gf
  have HF4 : Hid (w4b.heap[w1.heap.size]? = some (.cells #[.int .i64 0,.int .i64 az] 36 (0,0))):=hid HF4.out
  refine (HRP.out _ HB4.out).mono ?_
  rintro e w5 ⟨rfl,hb⟩
  have HB5:=hid (HB4.out.trans (hb.mono HB4.out.size))
  have HE5:=hid ((hb.block _ (lt_of_blk HE4.out)).trans HE4.out)
  have HF5:=hid ((hb.block _ (lt_of_blk HF4.out)).trans HF4.out)
  clear hb
  obtain ⟨f0,f1,ff⟩:=box_two HF5.out
  go_wp2_with fail
  clear f0 f1 ff
  clear HB0 HE0 HB1 HE1 HB2 HE2 HF2 HB3 HE3 HF3 HB4 HE4 HF4 HF5 HB3a HE3a HF3a HB4a HE4a HF4a
  go_loopw [10] (fun i wr=>∃ k : Nat,k <= roots.length /\ i = .int .i64 k /\ Hid (∀ j (h : j < roots.length),j < k -> hasV sel roots[j] = true) /\ Hid (Below w5.heap.size w5 wr)) (fun i _=>roots.length - (intOf i).toNat)
  case atStart=>exact ⟨0,Nat.zero_le _,rfl,hid (fun j _ hj=>absurd hj (Nat.not_lt_zero _)),hid (Below.refl _ _)⟩
  case round=>
    obtain ⟨k,hk,rfl,HE,HBW⟩:=hrel
    have HBq:=hid (HB5.out.trans (HBW.out.mono HB5.out.size))
    have HEq:=hid ((HBW.out.block _ (lt_of_blk HE5.out)).trans HE5.out)
    by_cases hlt : k < roots.length
    · obtain ⟨xb,xo,hxa,x0,x1⟩:=(HMR.out _ HBq.out).cells hlt
      subst hxa
      have hkI:=ix_lt hlt
      have hk0:=ix_pos k
      have HLK:=hid hlt
      have HHK:=hid (HHA.out roots[k] (HRZ.out _ (List.getElem_mem hlt)) _ HBq.out)
      have HNX:=hid (show hasV sel roots[k] = true -> ∀ j (h : j < roots.length),j < k + 1 -> hasV sel roots[j] = true from fun h0 j h1 h3=>by
        rcases Nat.lt_or_ge j k with h | h
        · exact HE.out j h1 h
        · have : j = k:=by omega
          subst this; exact h0)
      have HNK:=hid (HCR.out k hlt)
      generalize roots[k] = x at *
      obtain ⟨x1',x2'⟩:=x
      simp only at x0 x1
      clear hlt
      cases hh : hasV sel (x1',x2')
      · rw [hh] at HHK
        have HZ:=hid (HNK.out hh)
        clear hh HNX HNK
        go_wp2_with fail
        refine HHK.out.mono ?_
        rintro e w6 ⟨rfl,hb⟩
        have HBq:=hid (HBq.out.trans (hb.mono HBq.out.size))
        have HEq:=hid ((hb.block _ (lt_of_blk HEq.out)).trans HEq.out)
        clear hb
        go_wp2_with fail
        refine (HFN.out _).mono ?_
        rintro e wf ⟨rfl,hb⟩
        have HBf:=hid (HBq.out.trans (hb.mono HBq.out.size))
        have HEf:=hid ((hb.block _ (lt_of_blk HEq.out)).trans HEq.out)
        clear hb
        obtain ⟨s0,s1,tf⟩:=box_two HEf.out
        go_wp2_with fail
        refine bodyPost_ret (v:=.tuple #[.bool false,.agg #[.int .i64 0,.int .i64 (-1)]]) (by simp [results,Tryz.results36,go_sem,s0,s1]) rfl ⟨by rw [HZ.out],?_⟩
        exact put2_below HBf.out (Nat.le_refl _)
      · rw [hh] at HHK
        have HN2:=hid (HNX.out hh)
        clear hh HNX HNK
        go_wp2_with fail
        refine HHK.out.mono ?_
        rintro e w6 ⟨rfl,hb⟩
        have HB6:=hid (HBW.out.trans (hb.mono HBW.out.size))
        clear hb
        go_wp2_with fail
        go_roundw
        case rel=>first | exact ⟨k + 1,HLK.out,nr_idx k,HN2,HB6⟩ | exact ⟨k + 1,HLK.out,nx_idx HLK.out hrn,HN2,HB6⟩
        case measure=>first | exact nr_meas HLK.out | exact nx_meas HLK.out hrn
    · have hkI := ix_nlt hlt
      have HA1:=hid (show ∀ j (h : j < roots.length),hasV sel roots[j] = true from fun j h=>HE.out j h (by omega))
      clear hlt HE
      generalize hgw : wr = wq at *
      clear hgw HBW HB5 HE5
      go_wp2_with fail
      go_loopw [12] (fun i wr=>∃ k : Nat,k <= sel.length /\ i = .int .i64 k /\ Hid (∀ j (h : j < sel.length),j < k -> undB (reqQ Q L sel[j]) sel = true) /\ Hid (Below wq.heap.size wq wr)) (fun i _=>sel.length - (intOf i).toNat)
      case atStart=>exact ⟨0,Nat.zero_le _,rfl,hid (fun j _ hj=>absurd hj (Nat.not_lt_zero _)),hid (Below.refl _ _)⟩
      case round=>
        obtain ⟨k2,hk2,rfl,HE,HBW⟩:=hrel
        have HBr:=hid (HBq.out.trans (HBW.out.mono HBq.out.size))
        have HEr:=hid ((HBW.out.block _ (lt_of_blk HEq.out)).trans HEq.out)
        by_cases hlt : k2 < sel.length
        · obtain ⟨xb,xo,hxa,x0,x1⟩:=(HMS.out _ HBr.out).cells hlt
          subst hxa
          have hkI2:=ix_lt hlt
          have hk02:=ix_pos k2
          have HLK:=hid hlt
          have HFK:=hid (HFO.out sel[k2] (List.getElem_mem hlt) _ HBr.out)
          obtain ⟨t,ht,e1,HRQ⟩:=HAT.out sel[k2] (List.getElem_mem hlt)
          have HRQ:=hid HRQ
          rw [e1] at HFK
          have HQS:=hid (HQZ.out sel[k2])
          have HNX:=hid (show undB (reqQ Q L sel[k2]) sel = true -> ∀ j (h : j < sel.length),j < k2 + 1 -> undB (reqQ Q L sel[j]) sel = true from fun h0 j h1 h3=>by
            rcases Nat.lt_or_ge j k2 with h | h
            · exact HE.out j h1 h
            · have : j = k2:=by omega
              subst this; exact h0)
          have HNK:=hid (HCS.out k2 hlt)
          have htI:=ix_lt ht
          have ht0:=ix_pos t
          have HES:=hid (fun W (h : Below w.heap.size w W)=>es_cells (HI.out W h).es ht)
          generalize reqQ Q L sel[k2] = R at *
          generalize (Q[t]'ht).2.1 = qv at *
          obtain ⟨qa,qc,hqv,-⟩:=HRQ.out w (Below.refl _ _)
          subst hqv
          obtain ⟨eb,eo,ha,-⟩:=HES.out w (Below.refl _ _)
          subst ha
          have HX2:=hid (fun W (h : Below w.heap.size w W)=>show W.cell? ⟨eb,eo + t * 5 + 2,none⟩ = some (.slice qa R.length qc) by
            obtain ⟨eb',eo',e,h2⟩:=HES.out W h
            injection e with e
            injection e with e1 e2
            subst e1 e2
            exact h2)
          generalize sel[k2] = x at *
          obtain ⟨x1',x2'⟩:=x
          simp only at x0 x1
          clear hlt e1 ht HES
          go_wp2_with fail
          refine HFK.out.mono ?_
          rintro e w6 ⟨rfl,hb⟩
          have HB6:=hid (HBW.out.trans (hb.mono HBW.out.size))
          have HB6w:=hid (HBr.out.trans (hb.mono HBr.out.size))
          have t0:=HX2.out w6 HB6w.out
          clear hb
          go_wp2_with fail
          clear t0
          go_loopw [14] (fun i wr=>∃ k : Nat,k <= R.length /\ i = .int .i64 k /\ Hid (∀ j (h : j < R.length),j < k -> hasV sel R[j] = true) /\ Hid (Below wq.heap.size wq wr)) (fun i _=>R.length - (intOf i).toNat)
          case atStart=>exact ⟨0,Nat.zero_le _,rfl,hid (fun j _ hj=>absurd hj (Nat.not_lt_zero _)),HB6⟩
          case round=>
            obtain ⟨k3,hk3,rfl,HE3,HBW3⟩:=hrel
            have HBs:=hid (HBq.out.trans (HBW3.out.mono HBq.out.size))
            have HEs:=hid ((HBW3.out.block _ (lt_of_blk HEq.out)).trans HEq.out)
            by_cases hlt : k3 < R.length
            · obtain ⟨yb,yo,hya,y0,y1⟩:=(HRQ.out _ HBs.out).cells hlt
              subst hya
              have hkI3:=ix_lt hlt
              have hk03:=ix_pos k3
              have HLK3:=hid hlt
              have HHK:=hid (HHA.out R[k3] (HQS.out.2 _ (List.getElem_mem hlt)).2 _ HBs.out)
              have HNX3:=hid (show hasV sel R[k3] = true -> ∀ j (h : j < R.length),j < k3 + 1 -> hasV sel R[j] = true from fun h0 j h1 h3=>by
                rcases Nat.lt_or_ge j k3 with h | h
                · exact HE3.out j h1 h
                · have : j = k3:=by omega
                  subst this; exact h0)
              have HNK3:=hid (HNK.out k3 hlt)
              generalize R[k3] = y at *
              obtain ⟨y1',y2'⟩:=y
              simp only at y0 y1
              clear hlt
              cases hh : hasV sel (y1',y2')
              · rw [hh] at HHK
                have HZ:=hid (HNK3.out hh)
                clear hh HNX3 HNK3
                go_wp2_with fail
                refine HHK.out.mono ?_
                rintro e w7 ⟨rfl,hb⟩
                have HBq:=hid (HBs.out.trans (hb.mono HBs.out.size))
                have HEq:=hid ((hb.block _ (lt_of_blk HEs.out)).trans HEs.out)
                clear hb
                go_wp2_with fail
                refine (HFN.out _).mono ?_
                rintro e wf ⟨rfl,hb⟩
                have HBf:=hid (HBq.out.trans (hb.mono HBq.out.size))
                have HEf:=hid ((hb.block _ (lt_of_blk HEq.out)).trans HEq.out)
                clear hb
                obtain ⟨s0,s1,tf⟩:=box_two HEf.out
                go_wp2_with fail
                refine bodyPost_ret (v:=.tuple #[.bool false,.agg #[.int .i64 0,.int .i64 (-1)]]) (by simp [results,Tryz.results36,go_sem,s0,s1]) rfl ⟨by rw [HZ.out],?_⟩
                exact put2_below HBf.out (Nat.le_refl _)
              · rw [hh] at HHK
                have HN3:=hid (HNX3.out hh)
                clear hh HNX3 HNK3
                go_wp2_with fail
                refine HHK.out.mono ?_
                rintro e w7 ⟨rfl,hb⟩
                have HB7:=hid (HBW3.out.trans (hb.mono HBW3.out.size))
                clear hb
                go_wp2_with fail
                go_roundw
                case rel=>first | exact ⟨k3 + 1,HLK3.out,nr_idx k3,HN3,HB7⟩ | exact ⟨k3 + 1,HLK3.out,nx_idx HLK3.out HQS.out.1,HN3,HB7⟩
                case measure=>first | exact nr_meas HLK3.out | exact nx_meas HLK3.out HQS.out.1
            · have hkI3:=ix_nlt hlt
              have HN2:=hid (HNX.out (HUN.out R (fun j h=>HE3.out j h (by omega))))
              clear hlt
              go_wp2_with fail
              go_roundw
              case rel=>first | exact ⟨k2 + 1,HLK.out,nr_idx k2,HN2,HBW3⟩ | exact ⟨k2 + 1,HLK.out,nx_idx HLK.out hsn,HN2,HBW3⟩
              case measure=>first | exact nr_meas HLK.out | exact nx_meas HLK.out hsn
        · have hkI2:=ix_nlt hlt
          have HZ:=hid (HCT.out HA1.out (fun j h=>HE.out j h (by omega)))
          have HBq:=HBr
          have HEq:=HEr
          clear hlt
          go_wp2_with fail
          refine (HFN.out _).mono ?_
          rintro e wf ⟨rfl,hb⟩
          have HBf:=hid (HBq.out.trans (hb.mono HBq.out.size))
          have HEf:=hid ((hb.block _ (lt_of_blk HEq.out)).trans HEq.out)
          clear hb
          obtain ⟨s0,s1,tf⟩:=box_two HEf.out
          go_wp2_with fail
          refine bodyPost_ret (v:=.tuple #[.bool true,.agg #[.int .i64 0,.int .i64 (-1)]]) (by simp [results,Tryz.results36,go_sem,s0,s1]) rfl ⟨by rw [HZ.out],?_⟩
          exact put2_below HBf.out (Nat.le_refl _)
def cF (Q : List Raw) (L : List Ent) (roots sel : List Bm) : Nat × Option Nat:=if (chkC Q L roots sel).1 = 0 then (0,none) else chkC Q L roots sel
def cB (Q : List Raw) (L : List Ent) (roots sel : List Bm) : Bool:=if (chkC Q L roots sel).1 = 0 then closB Q L roots sel else false
theorem chkC_same {Q Q' : List Raw} {L : List Ent} (h : Q.map (fun r=>r.1) = Q'.map (fun r=>r.1)) (roots sel : List Bm) : chkC Q L roots sel = chkC Q' L roots sel:=by unfold chkC; rw [chkG_same h,nonE_same h]
theorem cF_same {Q Q' : List Raw} {L : List Ent} (h : Q.map (fun r=>r.1) = Q'.map (fun r=>r.1)) (roots sel : List Bm) : cF Q L roots sel = cF Q' L roots sel:=by unfold cF; rw [chkC_same h]
theorem cB_same {Q Q' : List Raw} {L : List Ent} (h : Q.map (fun r=>r.1) = Q'.map (fun r=>r.1)) (roots sel : List Bm) : cB Q L roots sel = cB Q' L roots sel:=by unfold cB closB; rw [chkC_same h,reqQ_same h]
theorem co_all (Q : List Raw) (L : List Ent) (roots sel : List Bm) (v rv sv : Value) (w : World) (hn : L.length ≤ 1000) (hrn : roots.length ≤ 1000000) (hsn : sel.length ≤ 1000000) (sh : ∀ e, e ∈ L → ShE e) (I : Ixs w v Q L) (hr : MsAt w rv roots) (hs : MsAt w sv sel) :
    Calls Tryz.prog 36 #[v,rv,sv] w fun e w'=>e = .returned (.tuple #[.bool (cB Q L roots sel),faultV (cF Q L roots sel)]) /\ Below w.heap.size w w':=by
  by_cases h0 : (chk Q L).1 = 0
  · by_cases h1 : codeE (nonE Q roots) roots.length = 0
    · have hg : (chkG Q L roots).1 = 0:=by rw [chkG_ok h0]; exact h1
      by_cases h2 : codeE (nonE Q sel) sel.length = 0
      · cases h3 : risB2 sel
        · have hC : chkC Q L roots sel = (8,none):=by rw [chkC_ris hg h2,h3]; rfl
          have:=co_bad4 Q L roots sel v rv sv w hn hrn hsn sh I hr hs h0 h1 h2 h3
          unfold cB cF
          rw [hC]
          exact this
        · have hC : chkC Q L roots sel = (0,none):=by rw [chkC_ris hg h2,h3]; rfl
          have:=co_good Q L roots sel v rv sv w hn hrn hsn sh I hr hs h0 h1 h2 h3
          unfold cB cF
          rw [hC]
          exact this
      · have hC:=chkC_sel (sel:=sel) hg h2
        have:=co_bad3 Q L roots sel v rv sv w hn hrn hsn sh I hr hs h0 h1 h2
        unfold cB cF
        rw [hC,if_neg h2,if_neg h2]
        exact this
    · have hg : (chkG Q L roots).1 ≠ 0:=by rw [chkG_ok h0]; exact h1
      have hC:=chkC_bad (sel:=sel) hg
      have:=co_bad2 Q L roots sel v rv sv w hn hrn hsn sh I hr hs h0 h1
      unfold cB cF
      rw [hC,if_neg hg,if_neg hg,chkG_ok h0]
      exact this
  · have hg : (chkG Q L roots).1 ≠ 0:=by rw [chkG_bad h0]; exact h0
    have hC:=chkC_bad (sel:=sel) hg
    have:=co_bad1 Q L roots sel v rv sv w hn hrn hsn sh I hr hs h0
    unfold cB cF
    rw [hC,if_neg hg,if_neg hg,chkG_bad h0]
    exact this
end Ve
end Go.Proofs.YtlcffhadobhfkaaGreatDoor
