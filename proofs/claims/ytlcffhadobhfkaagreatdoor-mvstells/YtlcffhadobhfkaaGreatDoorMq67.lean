/-
  MtE
-/
import Derived.Deep.RegionHeldLaw
import Derived.Test.YtlcffhadobhfkaaGreatDoorMq3
import Derived.Test.YtlcffhadobhfkaaGreatDoorMq5
import Derived.Test.YtlcffhadobhfkaaGreatDoorMq6
import Derived.Test.YtlcffhadobhfkaaGreatDoorMq9
import Derived.Test.YtlcffhadobhfkaaGreatDoorMq11
import Derived.Test.YtlcffhadobhfkaaGreatDoorMq18
import Derived.Test.YtlcffhadobhfkaaGreatDoorMq2
import Derived.Test.YtlcffhadobhfkaaGreatDoorMq19
import Derived.Test.YtlcffhadobhfkaaGreatDoorMq17
import Derived.Test.YtlcffhadobhfkaaGreatDoorMq20
import Derived.Test.YtlcffhadobhfkaaGreatDoorMq23
import Derived.Test.YtlcffhadobhfkaaGreatDoorMq29
import Derived.Test.YtlcffhadobhfkaaGreatDoorMq25
import Derived.Test.YtlcffhadobhfkaaGreatDoorMq32
import Derived.Test.YtlcffhadobhfkaaGreatDoorMq22
import Derived.Test.YtlcffhadobhfkaaGreatDoorMq45
import Derived.Test.YtlcffhadobhfkaaGreatDoorMq34
import Derived.Test.YtlcffhadobhfkaaGreatDoorMq36
import Derived.Test.YtlcffhadobhfkaaGreatDoorMq61
import Derived.Test.YtlcffhadobhfkaaGreatDoorMq37
import Derived.Test.YtlcffhadobhfkaaGreatDoorMq39
namespace Go.Proofs.YtlcffhadobhfkaaGreatDoor
open Go.RowKit Go.Maps
namespace Ve
theorem keep_grow3 {W3 W4 : World} {o : Obj} {b b' c' : Nat} {row : Option Nat} {x y z : Value} (hg : (W3.alloc o).grownBy W4 row) (h : W3.cell? ⟨b,0,none⟩ = some x /\ W3.cell? ⟨b,1,none⟩ = some y /\ W3.cell? ⟨b',c',none⟩ = some z /\ Hid (b < W3.heap.size)) (hb' : b' < W3.heap.size) (hne : some b ≠ row) (hne' : some b' ≠ row) : W4.cell? ⟨b,0,none⟩ = some x /\ W4.cell? ⟨b,1,none⟩ = some y /\ W4.cell? ⟨b',c',none⟩ = some z /\ Hid (b < W4.heap.size):=by
  obtain ⟨h0,h1,h2,hb⟩:=h
  have hl : b < (W3.alloc o).heap.size:=by have:=hb.out; simp; omega
  have hl' : b' < (W3.alloc o).heap.size:=by simp; omega
  have k1:=((Below.refl W3.heap.size W3).alloc (Nat.le_refl _) o).block b hb.out
  have k2:=hg.block b hl hne
  have k3:=((Below.refl W3.heap.size W3).alloc (Nat.le_refl _) o).block b' hb'
  have k4:=hg.block b' hl' hne'
  refine ⟨?_,?_,?_,hid (Nat.lt_of_lt_of_le hl hg.size)⟩
  · rw [World.cell?_of_block k2,World.cell?_of_block k1]; exact h0
  · rw [World.cell?_of_block k2,World.cell?_of_block k1]; exact h1
  · rw [World.cell?_of_block k4,World.cell?_of_block k3]; exact h2
theorem wSt_t (m x : Bm) (o : List Bm) : wSt m (true,o) x = (true,o ++ [x]):=rfl
theorem wSt_l {m x : Bm} (o : List Bm) (h : lt x.1 m.1 = true) : wSt m (false,o) x = (false,o ++ [x]):=by unfold wSt; rw [if_neg (by simp),if_pos h]
theorem wSt_e {m x : Bm} (o : List Bm) (h : lt x.1 m.1 = false) (e : x.1 = m.1) : wSt m (false,o) x = (true,o ++ [(m.1,maxB x.2 m.2)]):=by unfold wSt; rw [if_neg (by simp),if_neg (by rw [h]; simp),if_pos e]
theorem wSt_o {m x : Bm} (o : List Bm) (h : lt x.1 m.1 = false) (e : ¬ x.1 = m.1) : wSt m (false,o) x = (true,o ++ [m] ++ [x]):=by unfold wSt; rw [if_neg (by simp),if_neg (by rw [h]; simp),if_neg e]
set_option maxRecDepth 100000 in
set_option maxHeartbeats 4000000 in
theorem with_any (l : List Bm) (m : Bm) (v : Value) (w : World) (hn : l.length ≤ 1000) (hz : ∀ x, x ∈ l → x.2.size < 999999) (hm : m.2.size < 999999) (hv : MsAt w v l) :
    Calls Tryz.prog 86 #[v,.agg #[.string m.1,.string m.2]] w fun e w'=>∃ u,e = .returned u /\ w'.ownsRow w.heap.size 25 2 u (withR l m).length (flatM (withR l m)) /\ Below w.heap.size w w':=by
  obtain ⟨p,q⟩:=m
  simp only at hm
  have HB0:=hid ((Below.refl w.heap.size w).alloc (Nat.le_refl _) (.cells #[.string p,.string q] 25))
  have HM0:=hid (heap_new w (.cells #[.string p,.string q] 25))
  have HV:=hid (fun W (h : Below w.heap.size w W)=>hv.below h)
  have HMX:=hid (fun (x : ByteArray) (hx : x.size < 999999) W=>maxOf_any x q W hx hm)
  have HZ:=hid hz
  have HNM:=hid (show l.length <= 1000000 by omega)
  have HN:=hid hn
  obtain ⟨i0,hi0,hz0,hz1,hz2⟩:=info_parts infoMod
  obtain ⟨va,vc,hv1,-⟩:=id hv
  subst hv1
  have HWA:=hid (wN_all l (p,q))
  generalize withR l (p,q) = WR at *
  clear hv hz hn hm
  go_enter Tryz.func86,Tryz.ntmps86
  go_wp2_with fail
  generalize w.alloc (.cells #[.string p,.string q] 25) = w0 at *
  go_loopw [5,6,7] (fun ov dv iv wr=>∃ i : Nat,i <= l.length /\ iv = .int .i64 i /\ dv = .bool (wN l (p,q) i).1 /\ Hid (wr.ownsRow w0.heap.size 25 2 ov (wN l (p,q) i).2.length (flatM (wN l (p,q) i).2)) /\ Hid (Below w0.heap.size w0 wr)) (fun _ _ iv _=>l.length - (intOf iv).toNat)
  case atStart=>exact ⟨0,Nat.zero_le _,rfl,rfl,hid (World.ownsRow_nil _ _ _ _),hid (Below.refl _ _)⟩
  case round=>
    obtain ⟨i,hi,rfl,rfl,HOW,HBr⟩:=hrel
    have HMr:=hid ((HBr.out.block _ (lt_of_blk HM0.out)).trans HM0.out)
    have HBw:=hid (HB0.out.trans (HBr.out.mono HB0.out.size))
    obtain ⟨m0,m1,mf⟩:=box2J HMr.out
    have HMS:=hid (lt_of_blk HMr.out)
    by_cases hlt : i < l.length
    · have hiI:=ix_lt hlt
      have hii:=ix_pos i
      have HLI:=hid hlt
      have HNX:=hid (wN_next (m:=(p,q)) hlt)
      have HSLs:=hid (show (wN l (p,q) i).2.length <= 2000 from Nat.le_trans (wN_len l (p,q) i) (by have:=HN.out; omega))
      obtain ⟨xb,xo,hxa,y0,y1⟩:=(HV.out _ HBw.out).cells hlt
      subst hxa
      have HXB:=hid (show xb < w.heap.size from lt_of_cell (ms_atJ (HV.out _ (Below.refl _ _)) hlt).1)
      have HXL:=hid (show xb < wr.heap.size from Nat.lt_of_lt_of_le HXB.out HBw.out.size)
      have HZX:=hid (HZ.out l[i] (List.getElem_mem hlt))
      generalize l[i] = x at *
      obtain ⟨x1,x2⟩:=x
      simp only at y0 y1
      obtain ⟨dn,SX⟩ : ∃ s,s = wN l (p,q) i:=⟨_,rfl⟩
      rw [<- SX] at HOW HNX HSLs ⊢
      clear SX
      obtain ⟨dn,SX⟩:=dn
      simp only at HOW HSLs ⊢
      clear hlt
      cases dn with
      | true=>
        rw [wSt_t] at HNX
        have HSLa:=HSLs
        go_wp2_with fail
        go_quiet (fail)
        have HDx:=hid (below_drawn wr nq)
        obtain ⟨wx,hwx⟩ : ∃ wz0,wr.drewN nq = wz0:=⟨_,rfl⟩
        rw [hwx] at HDx ⊢
        clear hwx
        replace y0:=cell_below HDx.out y0
        replace y1:=cell_below HDx.out y1
        replace m0:=cell_below HDx.out m0
        replace m1:=cell_below HDx.out m1
        replace mf : ∀ o,wx.frozen? ⟨w.heap.size,o,none⟩ = false:=fun o=>by rw [HDx.out.frozen (HMS.out)]; exact mf o
        have HMSx:=hid (Nat.lt_of_lt_of_le HMS.out HDx.out.size)
        have HOx:=hid (owns_below HOW.out HDx.out)
        have HBx:=hid (HBr.out.trans (HDx.out.mono HBr.out.size))
        clear nq
        go_wp2_with (at_builtin; refine wpList_append_own _ rfl _ _ 23 rfl w0.heap.size 25 i0 _ 2 32 Tryz.underlying23 hi0 hz0 hz1 hz2 rfl (by decide) _ _ _ rfl (HOx.out.alloc _) ⟨wx.heap.size,0,none⟩ 1 1 [.string x1,.string x2] rfl rfl (World.news_of_block (heap_new _ _)) (by intro u hu; simp at hu; rcases hu with rfl | rfl <;> rfl) (Nat.le_trans (Nat.add_le_add_right HSLa.out 1) (by unfold maxLen; decide)) (by have hz:=HSLa.out; omega) (Nat.le_trans HBx.out.size (by simp)) ?_)
        intro va wa hown hgrow _
        have HBa:=hid (rel_app2 HBx.out.size HBx.out HOx.out (Below.refl _ _) hgrow)
        have HOa:=hid (show wa.ownsRow w0.heap.size 25 2 va (SX ++ [(x1,x2)]).length (flatM (SX ++ [(x1,x2)])) by rw [List.length_append,flatM_app]; exact hown)
        clear hown hgrow
        go_wp2_with fail
        go_roundw
        case rel=>first | exact ⟨i + 1,HLI.out,nr_idx i,by rw [HNX.out],hid (by rw [HNX.out]; exact HOa.out),HBa⟩ | exact ⟨i + 1,HLI.out,nx_idx HLI.out HNM.out,by rw [HNX.out],hid (by rw [HNX.out]; exact HOa.out),HBa⟩
        case measure=>first | exact nr_meas HLI.out | exact nx_meas HLI.out HNM.out
      | false =>
        have hge:=fun W=>geqB x1 p W
        cases hl : lt x1 p with
        | true=>
          rw [wSt_l SX (x:=(x1,x2)) (m:=(p,q)) hl] at HNX
          rw [hl] at hge
          have HSLa:=HSLs
          clear hl
          go_wp2_with fail
          go_quiet (fail)
          have HDx:=hid (below_drawn wr nq)
          obtain ⟨wx,hwx⟩ : ∃ wz0,wr.drewN nq = wz0:=⟨_,rfl⟩
          rw [hwx] at HDx ⊢
          clear hwx
          replace y0:=cell_below HDx.out y0
          replace y1:=cell_below HDx.out y1
          replace m0:=cell_below HDx.out m0
          replace m1:=cell_below HDx.out m1
          replace mf : ∀ o,wx.frozen? ⟨w.heap.size,o,none⟩ = false:=fun o=>by rw [HDx.out.frozen (HMS.out)]; exact mf o
          have HMSx:=hid (Nat.lt_of_lt_of_le HMS.out HDx.out.size)
          have HOx:=hid (owns_below HOW.out HDx.out)
          have HBx:=hid (HBr.out.trans (HDx.out.mono HBr.out.size))
          clear nq
          go_wp2_with (at_builtin; refine wpList_append_own _ rfl _ _ 23 rfl w0.heap.size 25 i0 _ 2 32 Tryz.underlying23 hi0 hz0 hz1 hz2 rfl (by decide) _ _ _ rfl (HOx.out.alloc _) ⟨wx.heap.size,0,none⟩ 1 1 [.string x1,.string x2] rfl rfl (World.news_of_block (heap_new _ _)) (by intro u hu; simp at hu; rcases hu with rfl | rfl <;> rfl) (Nat.le_trans (Nat.add_le_add_right HSLa.out 1) (by unfold maxLen; decide)) (by have hz:=HSLa.out; omega) (Nat.le_trans HBx.out.size (by simp)) ?_)
          intro va wa hown hgrow _
          have HBa:=hid (rel_app2 HBx.out.size HBx.out HOx.out (Below.refl _ _) hgrow)
          have HOa:=hid (show wa.ownsRow w0.heap.size 25 2 va (SX ++ [(x1,x2)]).length (flatM (SX ++ [(x1,x2)])) by rw [List.length_append,flatM_app]; exact hown)
          clear hown hgrow
          go_wp2_with fail
          go_roundw
          case rel=>first | exact ⟨i + 1,HLI.out,nr_idx i,by rw [HNX.out],hid (by rw [HNX.out]; exact HOa.out),HBa⟩ | exact ⟨i + 1,HLI.out,nx_idx HLI.out HNM.out,by rw [HNX.out],hid (by rw [HNX.out]; exact HOa.out),HBa⟩
          case measure=>first | exact nr_meas HLI.out | exact nx_meas HLI.out HNM.out
        | false=>
          rw [hl] at hge
          by_cases he : x1 = p
          · rw [wSt_e SX (x:=(x1,x2)) (m:=(p,q)) hl he] at HNX
            subst he
            have heq:=str_refl x1
            have HSLa:=HSLs
            have HMM:=hid (HMX.out x2 HZX.out)
            clear hl
            go_wp2_with fail
            go_quiet (fail)
            have HDx:=hid (below_drawn wr nq)
            obtain ⟨wx,hwx⟩ : ∃ wz0,wr.drewN nq = wz0:=⟨_,rfl⟩
            rw [hwx] at HDx ⊢
            clear hwx
            replace y0:=cell_below HDx.out y0
            replace y1:=cell_below HDx.out y1
            replace m0:=cell_below HDx.out m0
            replace m1:=cell_below HDx.out m1
            replace mf : ∀ o,wx.frozen? ⟨w.heap.size,o,none⟩ = false:=fun o=>by rw [HDx.out.frozen (HMS.out)]; exact mf o
            have HMSx:=hid (Nat.lt_of_lt_of_le HMS.out HDx.out.size)
            have HOx:=hid (owns_below HOW.out HDx.out)
            have HBx:=hid (HBr.out.trans (HDx.out.mono HBr.out.size))
            clear nq
            go_wp2_with fail
            go_quiet (fail)
            have HDy:=hid (below_drawn wx nq)
            obtain ⟨wy,hwx⟩ : ∃ wz0,wx.drewN nq = wz0:=⟨_,rfl⟩
            rw [hwx] at HDy ⊢
            clear hwx
            replace y0:=cell_below HDy.out y0
            replace y1:=cell_below HDy.out y1
            replace m0:=cell_below HDy.out m0
            replace m1:=cell_below HDy.out m1
            replace mf : ∀ o,wy.frozen? ⟨w.heap.size,o,none⟩ = false:=fun o=>by rw [HDy.out.frozen (HMSx.out)]; exact mf o
            have HMSy:=hid (Nat.lt_of_lt_of_le HMSx.out HDy.out.size)
            have HOy:=hid (owns_below HOx.out HDy.out)
            have HBy:=hid (HBx.out.trans (HDy.out.mono HBx.out.size))
            clear nq
            have HNE:=hid (show some w.heap.size ≠ u5.ownBlock from fun h=>Nat.lt_irrefl _ (Nat.lt_of_lt_of_le (lt_of_blk HM0.out) (own_lt HOy.out h.symm).2))
            have HSZ:=hid (show w.heap.size < wy.heap.size from Nat.lt_of_lt_of_le (lt_of_blk HM0.out) HBy.out.size)
            have HT:=hid (fun W' (hW : Below wy.heap.size wy W')=>(show (fun W'=>W'.cell? ⟨w.heap.size,0,none⟩ = some (.string x1) /\ W'.cell? ⟨w.heap.size,1,none⟩ = some (.string q) /\ W'.cell? ⟨xb,xo + i * 2 + 1,none⟩ = some (.string x2) /\ Hid (w.heap.size < W'.heap.size)) W' from ⟨cell_below hW m0,cell_below hW m1,cell_below hW y1,hid (Nat.lt_of_lt_of_le HSZ.out hW.size)⟩))
            have HXE:=hid (show some xb ≠ u5.ownBlock from fun h=>by
              have h1:=(own_lt HOy.out h.symm).2
              have h2:=HXB.out
              have h3:=HB0.out.size
              omega)
            go_wp2_with fail
            go_region_held_law (fun W'=>W'.cell? ⟨w.heap.size,0,none⟩ = some (.string x1) /\ W'.cell? ⟨w.heap.size,1,none⟩ = some (.string q) /\ W'.cell? ⟨xb,xo + i * 2 + 1,none⟩ = some (.string x2) /\ Hid (w.heap.size < W'.heap.size)) (first | exact keep_grow3 HR9.out (HT.out _ HRa.out) (Nat.lt_of_lt_of_le HXL.out (Nat.le_trans (Nat.le_trans HDx.out.size HDy.out.size) HRa.out.size)) HNE.out HXE.out | exact HT.out _ (HRa.out.alloc HRa.out.size _) | exact HT.out _ HRa.out | exact HT.out _ (below_drawn _ 1)) (first
              | (go_at_call 129; refine (HMM.out _).mono ?_; rintro e w3 ⟨rfl,hb⟩; have HRa:=hid ((below_drawn wy 1).trans (hb.mono (Nat.le_refl _))); clear hb)
              | (refine step_append_lies _ (by rfl) _ _ 23 (by rfl) w0.heap.size 25 i0 _ 2 32 Tryz.underlying23 hi0 hz0 hz1 hz2 rfl (by decide) _ _ _ (by rfl) ((owns_below HOy.out HRa.out).alloc _) ⟨w3.heap.size,0,none⟩ 1 1 [.string x1,.string (maxB x2 q)] (by rfl) rfl (World.news_of_block (heap_new _ _)) (by intro u hu; simp at hu; rcases hu with rfl | rfl <;> rfl) (by decide) (Nat.le_trans (Nat.add_le_add_right HSLa.out 1) (by unfold maxLen; decide)) (by have:=HSLa.out; omega) (Nat.le_trans HBy.out.size (Nat.le_trans HRa.out.size (by simp))) (w3.heap.size + 1) (by simp) ?_; intro g cap wa hown hgrow hat hlt2; have HR9:=hid hgrow))
            all_goals
              have HBa:=hid (rel_app2 HBy.out.size HBy.out HOy.out HRa.out hgrow)
              have HOa:=hid (show wa.ownsRow w0.heap.size 25 2 (.slice (some ⟨g,0,none⟩) (SX.length + 1) cap) (SX ++ [(x1,maxB x2 q)]).length (flatM (SX ++ [(x1,maxB x2 q)])) by rw [List.length_append,flatM_app]; exact hown)
              clear hown hgrow hat hlt2 HR9 m0 m1 mf
              go_wp2_with fail
              go_roundw
              case rel=>first | exact ⟨i + 1,HLI.out,nr_idx i,by rw [HNX.out],hid (by rw [HNX.out]; exact HOa.out),HBa⟩ | exact ⟨i + 1,HLI.out,nx_idx HLI.out HNM.out,by rw [HNX.out],hid (by rw [HNX.out]; exact HOa.out),HBa⟩
              case measure=>first | exact nr_meas HLI.out | exact nx_meas HLI.out HNM.out
          · rw [wSt_o SX (x:=(x1,x2)) (m:=(p,q)) hl he] at HNX
            have heq:=str_ne he
            have HSLa:=HSLs
            clear hl he
            go_wp2_with fail
            go_quiet (fail)
            have HDx:=hid (below_drawn wr nq)
            obtain ⟨wx,hwx⟩ : ∃ wz0,wr.drewN nq = wz0:=⟨_,rfl⟩
            rw [hwx] at HDx ⊢
            clear hwx
            replace y0:=cell_below HDx.out y0
            replace y1:=cell_below HDx.out y1
            replace m0:=cell_below HDx.out m0
            replace m1:=cell_below HDx.out m1
            replace mf : ∀ o,wx.frozen? ⟨w.heap.size,o,none⟩ = false:=fun o=>by rw [HDx.out.frozen (HMS.out)]; exact mf o
            have HMSx:=hid (Nat.lt_of_lt_of_le HMS.out HDx.out.size)
            have HOx:=hid (owns_below HOW.out HDx.out)
            have HBx:=hid (HBr.out.trans (HDx.out.mono HBr.out.size))
            clear nq
            go_wp2_with fail
            go_quiet (fail)
            have HDy:=hid (below_drawn wx nq)
            obtain ⟨wy,hwx⟩ : ∃ wz0,wx.drewN nq = wz0:=⟨_,rfl⟩
            rw [hwx] at HDy ⊢
            clear hwx
            replace y0:=cell_below HDy.out y0
            replace y1:=cell_below HDy.out y1
            replace m0:=cell_below HDy.out m0
            replace m1:=cell_below HDy.out m1
            replace mf : ∀ o,wy.frozen? ⟨w.heap.size,o,none⟩ = false:=fun o=>by rw [HDy.out.frozen (HMSx.out)]; exact mf o
            have HMSy:=hid (Nat.lt_of_lt_of_le HMSx.out HDy.out.size)
            have HOy:=hid (owns_below HOx.out HDy.out)
            have HBy:=hid (HBx.out.trans (HDy.out.mono HBx.out.size))
            clear nq
            go_wp2_with (at_builtin; refine wpList_append_own _ rfl _ _ 23 rfl w0.heap.size 25 i0 _ 2 32 Tryz.underlying23 hi0 hz0 hz1 hz2 rfl (by decide) _ _ _ rfl (HOy.out.alloc _) ⟨wy.heap.size,0,none⟩ 1 1 [.string p,.string q] rfl rfl (World.news_of_block (heap_new _ _)) (by intro u hu; simp at hu; rcases hu with rfl | rfl <;> rfl) (Nat.le_trans (Nat.add_le_add_right HSLa.out 1) (by unfold maxLen; decide)) (by have hz:=HSLa.out; omega) (Nat.le_trans HBy.out.size (by simp)) ?_)
            intro va wa hown hgrow _
            have HBa:=hid (rel_app2 HBy.out.size HBy.out HOy.out (Below.refl _ _) hgrow)
            have HOa:=hid (show wa.ownsRow w0.heap.size 25 2 va (SX ++ [(p,q)]).length (flatM (SX ++ [(p,q)])) by rw [List.length_append,flatM_app]; exact hown)
            clear hown hgrow
            have hbl : wa.heap[xb]? = wy.heap[xb]?:=(HBa.out.block xb (Nat.lt_of_lt_of_le HXB.out HB0.out.size)).trans (HBy.out.block xb (Nat.lt_of_lt_of_le HXB.out HB0.out.size)).symm
            have z0 : wa.cell? ⟨xb,xo + i * 2,none⟩ = some (.string x1):=by rw [World.cell?_of_block hbl]; exact y0
            have z1 : wa.cell? ⟨xb,xo + i * 2 + 1,none⟩ = some (.string x2):=by rw [World.cell?_of_block hbl]; exact y1
            clear hbl
            have HSLb:=hid (show (SX ++ [(p,q)]).length <= 2001 by rw [List.length_append]; exact Nat.add_le_add_right HSLs.out 1)
            go_wp2_with (at_builtin; refine wpList_append_own _ rfl _ _ 23 rfl w0.heap.size 25 i0 _ 2 32 Tryz.underlying23 hi0 hz0 hz1 hz2 rfl (by decide) _ _ _ rfl (HOa.out.alloc _) ⟨wa.heap.size,0,none⟩ 1 1 [.string x1,.string x2] rfl rfl (World.news_of_block (heap_new _ _)) (by intro u hu; simp at hu; rcases hu with rfl | rfl <;> rfl) (Nat.le_trans (Nat.add_le_add_right HSLb.out 1) (by unfold maxLen; decide)) (by have hz:=HSLb.out; omega) (Nat.le_trans HBa.out.size (by simp)) ?_)
            intro vb wb hown hgrow _
            have HBb:=hid (rel_app2 HBa.out.size HBa.out HOa.out (Below.refl _ _) hgrow)
            have HOb:=hid (show wb.ownsRow w0.heap.size 25 2 vb ((SX ++ [(p,q)]) ++ [(x1,x2)]).length (flatM ((SX ++ [(p,q)]) ++ [(x1,x2)])) by rw [List.length_append,List.length_append,flatM_app]; exact hown)
            clear hown hgrow
            go_wp2_with fail
            go_roundw
            case rel=>first | exact ⟨i + 1,HLI.out,nr_idx i,by rw [HNX.out],hid (by rw [HNX.out]; exact HOb.out),HBb⟩ | exact ⟨i + 1,HLI.out,nx_idx HLI.out HNM.out,by rw [HNX.out],hid (by rw [HNX.out]; exact HOb.out),HBb⟩
            case measure=>first | exact nr_meas HLI.out | exact nx_meas HLI.out HNM.out
    · have hiI:=ix_nlt hlt
      have hie : i = l.length:=Nat.le_antisymm hi (Nat.le_of_not_lt hlt)
      have HFI:=HWA
      rw [<- hie] at HFI
      obtain ⟨dn,SX⟩ : ∃ s,s = wN l (p,q) i:=⟨_,rfl⟩
      have HSLs:=hid (show (wN l (p,q) i).2.length <= 2000 from Nat.le_trans (wN_len l (p,q) i) (by have:=HN.out; omega))
      rw [<- SX] at HOW HFI HSLs ⊢
      clear SX hie hlt HWA
      obtain ⟨dn,SX⟩:=dn
      simp only at HOW HSLs ⊢
      cases dn with
      | true=>
        have HW:=hid (show SX = WR from HFI.out)
        rw [HW.out] at HOW
        go_wp2_with fail
        go_ret
        exact ⟨_,rfl,own_base HOW.out HB0.out.size,HBw.out⟩
      | false=>
        have HW:=hid (show SX ++ [(p,q)] = WR from HFI.out)
        have HSLa:=HSLs
        go_wp2_with (at_builtin; refine wpList_append_own _ rfl _ _ 23 rfl w0.heap.size 25 i0 _ 2 32 Tryz.underlying23 hi0 hz0 hz1 hz2 rfl (by decide) _ _ _ rfl (HOW.out.alloc _) ⟨wr.heap.size,0,none⟩ 1 1 [.string p,.string q] rfl rfl (World.news_of_block (heap_new _ _)) (by intro u hu; simp at hu; rcases hu with rfl | rfl <;> rfl) (Nat.le_trans (Nat.add_le_add_right HSLa.out 1) (by unfold maxLen; decide)) (by have hz:=HSLa.out; omega) (Nat.le_trans HBr.out.size (by simp)) ?_)
        intro va wa hown hgrow _
        have HBa:=hid (rel_app2 HBr.out.size HBr.out HOW.out (Below.refl _ _) hgrow)
        have HOa:=hid (show wa.ownsRow w0.heap.size 25 2 va (SX ++ [(p,q)]).length (flatM (SX ++ [(p,q)])) by rw [List.length_append,flatM_app]; exact hown)
        clear hown hgrow
        rw [HW.out] at HOa
        have HBe:=hid (HB0.out.trans (HBa.out.mono HB0.out.size))
        go_wp2_with fail
        go_ret
        exact ⟨_,rfl,own_base HOa.out HB0.out.size,HBe.out⟩
set_option maxRecDepth 100000 in
set_option maxHeartbeats 4000000 in
theorem jo_any (a b : List Bm) (va vb : Value) (w : World) (ha : a.length ≤ 400) (hb : b.length ≤ 400) (hza : ∀ x, x ∈ a → x.1.size < 999999 ∧ x.2.size < 999999) (hzb : ∀ x, x ∈ b → x.1.size < 999999 ∧ x.2.size < 999999) (hA : MsAt w va a) (hB : MsAt w vb b) :
    Calls Tryz.prog 38 #[va,vb] w fun e w'=>∃ ja jc,e = .returned (.slice ja (jL a b).length jc) /\ Mr w w' (.slice ja (jL a b).length jc) (jL a b):=by
  have HME:=hid (fun (x : Bm) (hx : x.1.size < 999999 /\ x.2.size < 999999) W=>show Calls Tryz.prog 29 #[.agg #[.string x.1,.string x.2]] W fun e w'=>e = .returned (.int .i64 (mErr x : Nat)) /\ Below W.heap.size W w' from modError_any x.1 x.2 W (by omega) (by omega))
  have HWI:=hid (fun (E : List Bm) (x : Bm) (ev : Value) W (hE : E.length <= 1000) (hz : ∀ y,y ∈ E -> y.2.size < 999999) (hx : x.2.size < 999999) (hm : MsAt W ev E)=>with_any E x ev W hE hz hx hm)
  have HA:=hid (fun W (h : Below w.heap.size w W)=>hA.below h)
  have HB:=hid (fun W (h : Below w.heap.size w W)=>hB.below h)
  have HZA:=hid hza
  have HZB:=hid hzb
  have ham : a.length <= 1000000:=by omega
  have hbm : b.length <= 1000000:=by omega
  have HSA:=hid (fun i e (he : e ∈ (a.take i).foldl jSt [])=>(hza e (jN_sub a i e he)).2)
  have HSB:=hid (fun i e (he : e ∈ (b.take i).foldl jSt (a.foldl jSt []))=>show e.2.size < 999999 by rcases jN_sub2 a b i e he with h | h; exact (hza e h).2; exact (hzb e h).2)
  have HLA:=hid (fun i=>show ((a.take i).foldl jSt []).length <= 1000 by have h1:=jN_len [] (a.take i); have h2:=List.length_take_le' i a; simp only [List.length_nil] at h1; omega)
  have HLB:=hid (fun i=>show ((b.take i).foldl jSt (a.foldl jSt [])).length <= 1000 by have h1:=jN_len (a.foldl jSt []) (b.take i); have h2:=List.length_take_le' i b; have h3:=jN_len [] a; simp only [List.length_nil] at h3; omega)
  obtain ⟨aa,ac,hv1,-⟩:=id hA
  subst hv1
  obtain ⟨ba,bc,hv2,-⟩:=id hB
  subst hv2
  unfold jL
  clear hA hB hza hzb
  go_enter Tryz.func38,Tryz.ntmps38
  go_wp2_with fail
  go_loopw [5,6] (fun ov iv wr=>∃ k : Nat,k <= a.length /\ iv = .int .i64 k /\ Hid (Mr w wr ov ((a.take k).foldl jSt []))) (fun _ iv _=>a.length - (intOf iv).toNat)
  case atStart=>exact ⟨0,Nat.zero_le _,rfl,hid (mr_nil0 (Below.refl _ _))⟩
  case round=>
    obtain ⟨k,hk,rfl,HM⟩:=hrel
    by_cases hlt : k < a.length
    · have hkI:=ix_lt hlt
      have hk0:=ix_pos k
      have HLT:=hid hlt
      obtain ⟨xb,xo,hxa,x0,x1⟩:=(HA.out _ HM.out.1).cells hlt
      subst hxa
      have HNX:=hid (jN_next (E:=[]) hlt)
      have HXZ:=hid (HZA.out a[k] (List.getElem_mem hlt))
      have HEZ:=hid (HSA.out k)
      have HEL:=hid (HLA.out k)
      obtain ⟨E,hE⟩ : ∃ E,(a.take k).foldl jSt [] = E:=⟨_,rfl⟩
      rw [hE] at HM HNX HEZ HEL
      generalize a[k] = x at *
      have HMK:=hid (HME.out x HXZ.out)
      obtain ⟨ea,ec,hov⟩:=HM.out.sl
      subst hov
      obtain ⟨x1',x2'⟩:=x
      simp only at x0 x1 HMK
      clear hlt hE
      by_cases h0 : mErr (x1',x2') = 0
      · rw [h0] at HMK
        have HJS:=hid (show jSt E (x1',x2') = withR E (x1',x2') from if_pos h0)
        clear h0
        go_wp2_with fail
        refine (HMK.out _).mono ?_
        rintro e w1 ⟨rfl,hb1⟩
        have HB1:=hid (HM.out.1.trans (hb1.mono HM.out.1.size))
        have HW1:=hid (HWI.out E (x1',x2') _ w1 HEL.out HEZ.out HXZ.out.2 (HM.out.ms.below hb1))
        have y0:=cell_below hb1 x0
        have y1:=cell_below hb1 x1
        clear hb1 x0 x1
        go_wp2_with fail
        refine HW1.out.mono ?_
        rintro e w2 ⟨nu,rfl,ho,hb2⟩
        have HM2:=hid ((mr_own ho hb2).base HB1.out)
        clear ho hb2 y0 y1
        go_wp2_with fail
        go_roundw
        case rel=>first | exact ⟨k + 1,HLT.out,nr_idx k,hid (by rw [HNX.out,HJS.out]; exact HM2.out)⟩ | exact ⟨k + 1,HLT.out,nx_idx HLT.out ham,hid (by rw [HNX.out,HJS.out]; exact HM2.out)⟩
        case measure=>first | exact nr_meas HLT.out | exact nx_meas HLT.out ham
      · have HJS:=hid (show jSt E (x1',x2') = E from if_neg h0)
        have hpos : ¬ ((mErr (x1',x2') : Nat) : Int) = 0:=by omega
        have hpos2 : (((mErr (x1',x2') : Nat) : Int) == 0) = false:=by simp; omega
        generalize mErr (x1',x2') = z at *
        clear h0
        go_wp2_with fail
        refine (HMK.out _).mono ?_
        rintro e w1 ⟨rfl,hb1⟩
        have HM2:=hid (show Mr w w1 _ E from HM.out.below hb1)
        clear hb1 x0 x1
        go_wp2_with fail
        go_roundw
        case rel=>first | exact ⟨k + 1,HLT.out,nr_idx k,hid (by rw [HNX.out,HJS.out]; exact HM2.out)⟩ | exact ⟨k + 1,HLT.out,nx_idx HLT.out ham,hid (by rw [HNX.out,HJS.out]; exact HM2.out)⟩
        case measure=>first | exact nr_meas HLT.out | exact nx_meas HLT.out ham
    · have hkI:=ix_nlt hlt
      have hie : k = a.length:=Nat.le_antisymm hk (Nat.le_of_not_lt hlt)
      have HTA:=hid (show a.take k = a from List.take_of_length_le (by omega))
      rw [HTA.out] at HM
      clear hlt hie HTA HSA HLA
      obtain ⟨EA,HEA⟩ : ∃ EA,Hid (a.foldl jSt [] = EA):=⟨_,hid rfl⟩
      rw [HEA.out] at HM HSB HLB
      go_wp2_with fail
      go_loopw [5,7] (fun ov iv wr=>∃ k : Nat,k <= b.length /\ iv = .int .i64 k /\ Hid (Mr w wr ov ((b.take k).foldl jSt EA))) (fun _ iv _=>b.length - (intOf iv).toNat)
      case atStart=>exact ⟨0,Nat.zero_le _,rfl,HM⟩
      case round=>
        obtain ⟨k,hk,rfl,HM⟩:=hrel
        by_cases hlt : k < b.length
        · have hkI:=ix_lt hlt
          have hk0:=ix_pos k
          have HLT:=hid hlt
          obtain ⟨xb,xo,hxa,x0,x1⟩:=(HB.out _ HM.out.1).cells hlt
          subst hxa
          have HNX:=hid (jN_next (E:=EA) hlt)
          have HXZ:=hid (HZB.out b[k] (List.getElem_mem hlt))
          have HEZ:=hid (HSB.out k)
          have HEL:=hid (HLB.out k)
          obtain ⟨E,hE⟩ : ∃ E,(b.take k).foldl jSt EA = E:=⟨_,rfl⟩
          rw [hE] at HM HNX HEZ HEL
          generalize b[k] = x at *
          have HMK:=hid (HME.out x HXZ.out)
          obtain ⟨ea,ec,hov⟩:=HM.out.sl
          subst hov
          obtain ⟨x1',x2'⟩:=x
          simp only at x0 x1 HMK
          clear hlt hE
          by_cases h0 : mErr (x1',x2') = 0
          · rw [h0] at HMK
            have HJS:=hid (show jSt E (x1',x2') = withR E (x1',x2') from if_pos h0)
            clear h0
            go_wp2_with fail
            refine (HMK.out _).mono ?_
            rintro e w1 ⟨rfl,hb1⟩
            have HB1:=hid (HM.out.1.trans (hb1.mono HM.out.1.size))
            have HW1:=hid (HWI.out E (x1',x2') _ w1 HEL.out HEZ.out HXZ.out.2 (HM.out.ms.below hb1))
            have y0:=cell_below hb1 x0
            have y1:=cell_below hb1 x1
            clear hb1 x0 x1
            go_wp2_with fail
            refine HW1.out.mono ?_
            rintro e w2 ⟨nu,rfl,ho,hb2⟩
            have HM2:=hid ((mr_own ho hb2).base HB1.out)
            clear ho hb2 y0 y1
            go_wp2_with fail
            go_roundw
            case rel=>first | exact ⟨k + 1,HLT.out,nr_idx k,hid (by rw [HNX.out,HJS.out]; exact HM2.out)⟩ | exact ⟨k + 1,HLT.out,nx_idx HLT.out hbm,hid (by rw [HNX.out,HJS.out]; exact HM2.out)⟩
            case measure=>first | exact nr_meas HLT.out | exact nx_meas HLT.out hbm
          · have HJS:=hid (show jSt E (x1',x2') = E from if_neg h0)
            have hpos : ¬ ((mErr (x1',x2') : Nat) : Int) = 0:=by omega
            have hpos2 : (((mErr (x1',x2') : Nat) : Int) == 0) = false:=by simp; omega
            generalize mErr (x1',x2') = z at *
            clear h0
            go_wp2_with fail
            refine (HMK.out _).mono ?_
            rintro e w1 ⟨rfl,hb1⟩
            have HM2:=hid (show Mr w w1 _ E from HM.out.below hb1)
            clear hb1 x0 x1
            go_wp2_with fail
            go_roundw
            case rel=>first | exact ⟨k + 1,HLT.out,nr_idx k,hid (by rw [HNX.out,HJS.out]; exact HM2.out)⟩ | exact ⟨k + 1,HLT.out,nx_idx HLT.out hbm,hid (by rw [HNX.out,HJS.out]; exact HM2.out)⟩
            case measure=>first | exact nr_meas HLT.out | exact nx_meas HLT.out hbm
        · have hkI:=ix_nlt hlt
          have hie : k = b.length:=Nat.le_antisymm hk (Nat.le_of_not_lt hlt)
          have HTB:=hid (show b.take k = b from List.take_of_length_le (by omega))
          rw [HTB.out] at HM
          clear hlt hie HTB HSB HLB
          obtain ⟨oa,oc,hov⟩:=HM.out.sl
          subst hov
          go_wp2_with fail
          go_ret
          have hEA:=HEA.out
          subst hEA
          exact ⟨_,_,rfl,HM.out⟩
end Ve
end Go.Proofs.YtlcffhadobhfkaaGreatDoor
