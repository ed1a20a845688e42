/-
  MvJ MlP MlB MlC
-/
import Derived.Test.YtlcffhadobhfkaaGreatDoorMq2
import Derived.Test.YtlcffhadobhfkaaGreatDoorMq19
import Derived.Test.YtlcffhadobhfkaaGreatDoorMq20
import Derived.Test.YtlcffhadobhfkaaGreatDoorMq23
import Derived.Test.YtlcffhadobhfkaaGreatDoorMq22
import Derived.Test.YtlcffhadobhfkaaGreatDoorMq34
import Derived.Test.YtlcffhadobhfkaaGreatDoorMq45
import Derived.Test.YtlcffhadobhfkaaGreatDoorMq37
import Derived.Test.YtlcffhadobhfkaaGreatDoorMq56
import Derived.Test.YtlcffhadobhfkaaGreatDoorMq54
import Derived.Test.YtlcffhadobhfkaaGreatDoorMq9
import Derived.Test.YtlcffhadobhfkaaGreatDoorMq6
import Derived.Test.YtlcffhadobhfkaaGreatDoorMq15
import Derived.Test.YtlcffhadobhfkaaGreatDoorMq3
import Derived.Test.YtlcffhadobhfkaaGreatDoorMq5
import Derived.Test.YtlcffhadobhfkaaGreatDoorMq11
import Derived.Test.YtlcffhadobhfkaaGreatDoorMq18
import Derived.Test.YtlcffhadobhfkaaGreatDoorMq16
import Derived.Test.YtlcffhadobhfkaaGreatDoorMq62
import Derived.Test.YtlcffhadobhfkaaGreatDoorMq17
import Derived.Test.YtlcffhadobhfkaaGreatDoorMq36
import Derived.Test.YtlcffhadobhfkaaGreatDoorMq33
namespace Go.Proofs.YtlcffhadobhfkaaGreatDoor
open Go.RowKit Go.Maps
namespace Ve
theorem chkC_of {w : World} {v : Value} {Q : List Raw} {L : List Ent} {roots sel : List Bm} (I : Ixs w v Q L) (h1 : (chkG Q L roots).1 = 0) (h2 : ∀ m,m ∈ sel -> m ∈ univ L) (h3 : risB2 sel = true) : (chkC Q L roots sel).1 = 0:=by
  have hc:=(rgt_of I h1).c
  have h4:=chkG_in I hc h2
  rw [chkG_ok hc] at h4
  rw [chkC_ris h1 h4,h3]
  rfl
theorem Bt.closed {w : World} {v : Value} {Q : List Raw} {L : List Ent} {roots E : List Bm} (I : Ixs w v Q L) (h : Bt Q L roots E) (h0 : (chkG Q L roots).1 = 0) : (chkC Q L roots E).1 = 0 /\ closB Q L roots E = true:=by
  refine ⟨chkC_of I h0 (fun m hm=>rch_univ I h0 (h.in_ I hm)) (risB2_iff.2 h.ri),?_⟩
  unfold closB
  rw [h.has I h0 (fun m hm=>.root hm),Bool.true_and,List.all_eq_true]
  exact fun m hm=>h.has I h0 (fun x hx=>.step (h.in_ I hm) hx)
theorem Bt.sz {w : World} {v : Value} {Q : List Raw} {L : List Ent} {a E : List Bm} (h : Bt Q L a E) (I : Ixs w v Q L) (sh : ∀ e,e ∈ L -> ShE e) : ∀ r,r ∈ E -> r.1.size < 999999 /\ r.2.size < 999999:=fun r hr=>by
  obtain ⟨T,_,j,_⟩:=h.c
  exact univ_szJ sh (goM_sub I (j.sub r hr).1)
theorem es_modJ {W : World} {b o n c : Nat} {Q : List Raw} (h : EsAt W (.slice (some ⟨b,o,none⟩) n c) Q) {k : Nat} (hk : k < Q.length) : W.cell? ⟨b,o + k * 5,none⟩ = some (.string Q[k].1.1) /\ W.cell? ⟨b,o + k * 5 + 2,none⟩ = some Q[k].2.1:=by
  obtain ⟨a',c',e,_,_,h⟩:=h
  injection e with e1 e2 e3
  subst e1
  obtain ⟨b',o',e4,h4⟩:=h (by intro h0; rw [h0] at hk; simp at hk)
  injection e4 with e4
  injection e4 with e5 e6
  subst e5 e6
  exact ⟨(h4 k hk).1,(h4 k hk).2.2.1⟩
set_option maxRecDepth 100000 in
set_option maxHeartbeats 4000000 in
theorem rises_some (Q : List Raw) (L : List Ent) (b o c : Nat) (w : World) (hn : L.length ≤ 1000) (sh : ∀ e, e ∈ L → ShE e) (I : Ixs w (.slice (some ⟨b, o, none⟩) Q.length c) Q L) :
    Calls Tryz.prog 34 #[.slice (some ⟨b,o,none⟩) Q.length c] w fun e w'=>∃ z,e = .returned (.bool z) /\ (z = true -> RiseP L) /\ Below w.heap.size w w':=by
  have hq : Q.length <= 1000:=by rw [I.ln]; exact hn
  have HI:=hid I
  have HSH:=hid sh
  clear I sh
  go_enter Tryz.func34,Tryz.ntmps34
  go_wp2_with fail
  go_loopw [3] (fun iv wr=>∃ i : Nat,i <= Q.length /\ iv = .int .i64 i /\ Hid (∀ x y (hx : x < L.length) (hy : y < L.length),x < i -> x < y -> L[x].1.1 = L[y].1.1 -> undB L[x].2.1 L[y].2.1 = true) /\ Hid (Below w.heap.size w wr)) (fun iv _=>Q.length - (intOf iv).toNat)
  case atStart=>exact ⟨0,Nat.zero_le _,rfl,hid (fun x _ _ _ h=>absurd h (Nat.not_lt_zero _)),hid (Below.refl _ _)⟩
  case round=>
    obtain ⟨i,hi,rfl,HE,HB⟩:=hrel
    by_cases hlt : i < Q.length
    · have hiI : (i : Int) < (Q.length : Int):=by omega
      have hi0 : (0 : Int) <= (i : Int):=by omega
      have HLI:=hid hlt
      clear hlt
      go_wp2_with fail
      go_loopw [4] (fun kv wr=>∃ k : Nat,i + 1 <= k /\ k <= Q.length /\ kv = .int .i64 k /\ Hid (∀ y (hx : i < L.length) (hy : y < L.length),y < k -> i < y -> L[i].1.1 = L[y].1.1 -> undB L[i].2.1 L[y].2.1 = true) /\ Hid (Below w.heap.size w wr)) (fun kv _=>Q.length - (intOf kv).toNat)
      case atStart=>exact ⟨i + 1,Nat.le_refl _,HLI.out,by go_num,hid (fun y _ _ h1 h2=>by omega),HB⟩
      case round=>
        obtain ⟨k,hik,hk,rfl,HF,HBW⟩:=hrel
        by_cases hlk : k < Q.length
        · have hkI : (k : Int) < (Q.length : Int):=by omega
          have hk0 : (0 : Int) <= (k : Int):=by omega
          have HLK:=hid hlk
          have hlii:=HLI.out
          have hil : i < L.length:=by rw [<- HI.out.ln]; exact HLI.out
          have hkl : k < L.length:=by rw [<- HI.out.ln]; exact hlk
          have HII:=hid (HI.out.below HBW.out)
          obtain ⟨y0,y1⟩:=es_modJ HII.out.es hlii
          obtain ⟨z0,z1⟩:=es_modJ HII.out.es hlk
          have HMI:=hid (fun W (h : Below w.heap.size w W)=>((HI.out.below h).ok i hlii hil).rq)
          have HMK:=hid (fun W (h : Below w.heap.size w W)=>((HI.out.below h).ok k hlk hkl).rq)
          have HSI:=hid (HSH.out L[i] (List.getElem_mem hil))
          have HSK:=hid (HSH.out L[k] (List.getElem_mem hkl))
          have HPI:=hid (show Q[i].1.1 = L[i].1.1 from congrArg Prod.fst (HII.out.ok i hlii hil).m)
          have HPK:=hid (show Q[k].1.1 = L[k].1.1 from congrArg Prod.fst (HII.out.ok k hlk hkl).m)
          have HNX:=hid (show (L[i].1.1 = L[k].1.1 -> undB L[i].2.1 L[k].2.1 = true) -> ∀ y (hx : i < L.length) (hy : y < L.length),y < k + 1 -> i < y -> L[i].1.1 = L[y].1.1 -> undB L[i].2.1 L[y].2.1 = true from fun h0 y hx hy h1 h2 h3=>by
            rcases Nat.lt_or_ge y k with h | h
            · exact HF.out y hx hy h h2 h3
            · have : y = k:=by omega
              subst this; exact h0 h3)
          rw [<- HPI.out,<- HPK.out] at HNX
          have HRI:=hid (show L[i].2.1.length <= 1000000 /\ ∀ x,x ∈ L[i].2.1 -> x.2.size < 999999 from ⟨HSI.out.rn,fun x hx=>(HSI.out.rs x hx).2⟩)
          have HRK:=hid (show L[k].2.1.length <= 1000000 /\ ∀ x,x ∈ L[k].2.1 -> x.2.size < 999999 from ⟨HSK.out.rn,fun x hx=>(HSK.out.rs x hx).2⟩)
          clear HSI HSK HPI HPK
          generalize (L[i]'hil).2.1 = Ri at *
          generalize (L[k]'hkl).2.1 = Rk at *
          generalize (Q[i]'hlii).1.1 = pi at *
          generalize (Q[k]'hlk).1.1 = pk at *
          generalize (Q[i]'hlii).2.1 = vi at *
          generalize (Q[k]'hlk).2.1 = vk at *
          obtain ⟨ria,ric,hvi,-⟩:=HMI.out w (Below.refl _ _)
          subst hvi
          obtain ⟨rka,rkc,hvk,-⟩:=HMK.out w (Below.refl _ _)
          subst hvk
          have HU:=hid (fun W (h : Below w.heap.size w W)=>isU_any Ri Rk _ _ W HRI.out.1 HRK.out.1 HRI.out.2 HRK.out.2 (HMI.out W h) (HMK.out W h))
          clear hlk hlii HII
          by_cases hp : pi = pk
          · subst hp
            have he:=str_refl pi
            go_wp2_with fail
            go_quiet (fail)
            have HBX:=hid (below_drawn_of HBW.out nq)
            have HTX:=hid (fun W' (hW : Below wr.heap.size wr W')=>(show W'.cell? ⟨b,o + i * 5,none⟩ = some (.string pi) /\ W'.cell? ⟨b,o + i * 5 + 2,none⟩ = some (.slice ria Ri.length ric) /\ W'.cell? ⟨b,o + k * 5,none⟩ = some (.string pi) /\ W'.cell? ⟨b,o + k * 5 + 2,none⟩ = some (.slice rka Rk.length rkc) from ⟨cell_below hW y0,cell_below hW y1,cell_below hW z0,cell_below hW z1⟩))
            obtain ⟨q0,q1,q2,q3⟩:=HTX.out _ (below_drawn wr nq)
            obtain ⟨wx,hwx⟩ : ∃ wx,wr.drewN nq = wx:=⟨_,rfl⟩
            rw [hwx] at HBX q0 q1 q2 q3 ⊢
            clear hwx y0 y1 z0 z1
            have HT:=hid (fun W' (hW : Below wx.heap.size wx W')=>(show (fun W'=>W'.cell? ⟨b,o + i * 5,none⟩ = some (.string pi) /\ W'.cell? ⟨b,o + i * 5 + 2,none⟩ = some (.slice ria Ri.length ric) /\ W'.cell? ⟨b,o + k * 5,none⟩ = some (.string pi) /\ W'.cell? ⟨b,o + k * 5 + 2,none⟩ = some (.slice rka Rk.length rkc) /\ Hid (Below wx.heap.size wx W')) W' from ⟨cell_below hW q0,cell_below hW q1,cell_below hW q2,cell_below hW q3,hid hW⟩))
            have HW:=hid (fun W' (hW : Below wx.heap.size wx W')=>HBX.out.trans (hW.mono HBX.out.size))
            cases hu : undB Ri Rk
            · rw [hu] at HU
              clear hu
              go_wp2_with fail
              go_region_held (fun W'=>W'.cell? ⟨b,o + i * 5,none⟩ = some (.string pi) /\ W'.cell? ⟨b,o + i * 5 + 2,none⟩ = some (.slice ria Ri.length ric) /\ W'.cell? ⟨b,o + k * 5,none⟩ = some (.string pi) /\ W'.cell? ⟨b,o + k * 5 + 2,none⟩ = some (.slice rka Rk.length rkc) /\ Hid (Below wx.heap.size wx W')) (first | exact HT.out _ HRa.out | exact HT.out _ (below_drawn _ 1)) (first
                | (go_at_call 37; refine (HU.out _ (HW.out _ (below_drawn _ 1))).mono ?_; rintro e w' ⟨rfl,hb⟩; have HRa:=hid ((below_drawn wx 1).trans (hb.mono (Nat.le_refl _))); clear hb))
              all_goals
                have HBe:=hid (HW.out _ HRa.out)
                go_wp2_with fail
                go_ret
                first | exact ⟨false,rfl,(fun h=>absurd h (by decide)),HBe.out⟩ | exact Or.inl ⟨rfl,HBe.out⟩
            · rw [hu] at HU
              have HN2:=hid (HNX.out (fun _=>hu))
              clear hu
              go_wp2_with fail
              go_region_held (fun W'=>W'.cell? ⟨b,o + i * 5,none⟩ = some (.string pi) /\ W'.cell? ⟨b,o + i * 5 + 2,none⟩ = some (.slice ria Ri.length ric) /\ W'.cell? ⟨b,o + k * 5,none⟩ = some (.string pi) /\ W'.cell? ⟨b,o + k * 5 + 2,none⟩ = some (.slice rka Rk.length rkc) /\ Hid (Below wx.heap.size wx W')) (first | exact HT.out _ HRa.out | exact HT.out _ (below_drawn _ 1)) (first
                | (go_at_call 37; refine (HU.out _ (HW.out _ (below_drawn _ 1))).mono ?_; rintro e w' ⟨rfl,hb⟩; have HRa:=hid ((below_drawn wx 1).trans (hb.mono (Nat.le_refl _))); clear hb))
              all_goals
                have HBe:=hid (HW.out _ HRa.out)
                go_wp2_with fail
                go_roundw
                case rel=>first | exact ⟨k + 1,by omega,HLK.out,nr_idx k,HN2,HBe⟩ | exact ⟨k + 1,by omega,HLK.out,nx_idx HLK.out (by omega),HN2,HBe⟩
                case measure=>first | exact nr_meas HLK.out | exact nx_meas HLK.out (by omega)
          · have he:=str_ne hp
            have HN2:=hid (HNX.out (fun h=>absurd h hp))
            clear hp
            go_wp2_with fail
            go_quiet (fail)
            have HBX:=hid (below_drawn_of HBW.out nq)
            go_wp2_with fail
            go_roundw
            case rel=>first | exact ⟨k + 1,by omega,HLK.out,nr_idx k,HN2,HBX⟩ | exact ⟨k + 1,by omega,HLK.out,nx_idx HLK.out (by omega),HN2,HBX⟩
            case measure=>first | exact nr_meas HLK.out | exact nx_meas HLK.out (by omega)
        · have hkI : ¬ (k : Int) < (Q.length : Int):=by omega
          have HE2:=hid (show ∀ x y (hx : x < L.length) (hy : y < L.length),x < i + 1 -> x < y -> L[x].1.1 = L[y].1.1 -> undB L[x].2.1 L[y].2.1 = true from fun x y hx hy h1 h2 h3=>by
            rcases Nat.lt_or_ge x i with h | h
            · exact HE.out x y hx hy h h2 h3
            · have : x = i:=by omega
              subst this
              exact HF.out y hx hy (by have:=HI.out.ln; omega) h2 h3)
          clear hlk
          go_wp2_with fail
          go_roundw
          case rel=>first | exact ⟨i + 1,HLI.out,nr_idx i,HE2,HBW⟩ | exact ⟨i + 1,HLI.out,nx_idx HLI.out (by omega),HE2,HBW⟩
          case measure=>first | exact nr_meas HLI.out | exact nx_meas HLI.out (by omega)
    · have hiI : ¬ (i : Int) < (Q.length : Int):=by omega
      have HR:=hid (show RiseP L from fun x y hx hy hxy h=>HE.out x y hx hy (by have:=HI.out.ln; omega) hxy h)
      clear hlt
      go_wp2_with fail
      go_ret
      first | exact ⟨true,rfl,fun _=>HR.out,HB.out⟩ | exact Or.inr ⟨rfl,HR.out,HB.out⟩
theorem rises_none (a : Option Addr) (c : Nat) (w : World) : Calls Tryz.prog 34 #[.slice a 0 c] w fun e w'=>e = .returned (.bool true) /\ Below w.heap.size w w':=by
  go_enter Tryz.func34,Tryz.ntmps34
  go_wp2_with fail
  go_loopw [3] (fun i wr=>i = .int .i64 0 /\ wr = w) (fun i _=>0)
  case atStart=>exact ⟨rfl,rfl⟩
  case round=>
    obtain ⟨rfl,rfl⟩:=hrel
    go_wp2_with fail
    go_ret
    exact ⟨rfl,Below.refl _ _⟩
theorem rises_any (Q : List Raw) (L : List Ent) (v : Value) (w : World) (hn : L.length <= 1000) (sh : ∀ e,e ∈ L -> ShE e) (I : Ixs w v Q L) :
    Calls Tryz.prog 34 #[v] w fun e w'=>∃ z,e = .returned (.bool z) /\ (z = true -> RiseP L) /\ Below w.heap.size w w':=by
  obtain ⟨a,c,rfl,_,_,h⟩:=id I.es
  by_cases hQ : Q = []
  · subst hQ
    have hl : L = []:=List.length_eq_zero_iff.1 I.ln.symm
    subst hl
    exact (rises_none a c w).mono fun _ _ h=>⟨true,h.1,fun _ i k hi=>absurd hi (Nat.not_lt_zero _),h.2⟩
  · obtain ⟨b,o,rfl,_⟩:=h hQ
    exact rises_some Q L b o c w hn sh I
set_option maxRecDepth 100000 in
set_option maxHeartbeats 8000000 in
theorem ml_head (Q0 : List Raw) (L : List Ent) (ra rb rs : List Bm) (v u s t : Value) (A : Nat → Addr) (m : Int) (w : World) (S : Te w A m) (I : Ixs w v Q0 L) (em : EmI Q0 L) (hr : MsAt w u ra) (her : Em u ra) (hr2 : MsAt w s rb) (her2 : Em s rb) (hr3 : MsAt w t rs) (her3 : Em t rs) (hok : okI L = true) (hrk : okLN 15 ra = true) (hrk2 : okLN 15 rb = true) (hrk3 : okLN 15 rs = true) :
    Calls Tryz.prog 5 #[v,u,s,t] w fun e w'=>e = .returned (.bool true) /\ Below w.heap.size w w':=by
  obtain ⟨a0,c0,hv0,-⟩:=id I.es
  subst hv0
  obtain ⟨aa,ac,hu0,-⟩:=id hr
  subst hu0
  obtain ⟨ba,bc,hs0,-⟩:=id hr2
  subst hs0
  obtain ⟨ta,tc,ht0,-⟩:=id hr3
  subst ht0
  have hn101 : L.length <= 101:=by rcases (okI_iff hok).1 with h | h <;> omega
  have ha15 : ra.length <= 15:=(okLN_iff hrk).1
  have hb15 : rb.length <= 15:=(okLN_iff hrk2).1
  have hs15 : rs.length <= 15:=(okLN_iff hrk3).1
  have HZA:=hid (okLN_iff hrk).2
  have HZS:=hid (okLN_iff hrk3).2
  have HIN:=hid (built_any A m w S)
  have HLO:=hid (fun W (h : Below w.heap.size w W)=>longI_any Q0 L _ W (I.below h))
  rw [if_pos hok] at HLO
  have HLM:=hid (fun W (h : Below w.heap.size w W)=>longN_any 15 (by decide) ra _ W (hr.below h))
  rw [if_pos hrk] at HLM
  have HLM2:=hid (fun W (h : Below w.heap.size w W)=>longN_any 15 (by decide) rb _ W (hr2.below h))
  rw [if_pos hrk2] at HLM2
  have HLM3:=hid (fun W (h : Below w.heap.size w W)=>longN_any 15 (by decide) rs _ W (hr3.below h))
  rw [if_pos hrk3] at HLM3
  have HOW:=hid (fun W (h : Below w.heap.size w W)=>ownI_any Q0 L _ W (by omega) (I.below h) em (okI_fits hok))
  have HOM:=hid (fun W (h : Below w.heap.size w W)=>ownM_any _ ra W (by omega) (hr.below h) her)
  have HOM3:=hid (fun W (h : Below w.heap.size w W)=>ownM_any _ rs W (by omega) (hr3.below h) her3)
  have HS:=hid S
  have HR2:=hid hr2
  have HER2:=hid her2
  have HSH:=hid (okI_sh hok)
  have HRI:=hid (fun W (h : Below w.heap.size w W)=>rises_any Q0 L _ W (by omega) (okI_sh hok) (I.below h))
  clear S I em hok hr her hr2 her2 hr3 her3 hrk hrk2 hrk3
  go_enter Tryz.func5,Tryz.ntmps5
  go_wp2_with fail
  refine HIN.out.mono ?_
  rintro e w1 ⟨rfl,hb⟩
  have HB1:=hid hb
  clear hb
  go_wp2_with fail
  refine (HLO.out w1 HB1.out).mono ?_
  rintro e w2 ⟨rfl,hb⟩
  have HB2:=hid (HB1.out.trans (hb.mono HB1.out.size))
  clear hb
  go_wp2_with fail
  refine (HLM.out w2 HB2.out).mono ?_
  rintro e w2a ⟨rfl,rfl⟩
  go_wp2_with fail
  refine (HLM2.out w2a HB2.out).mono ?_
  rintro e w2b ⟨rfl,rfl⟩
  go_wp2_with fail
  refine (HLM3.out w2b HB2.out).mono ?_
  rintro e w2c ⟨rfl,rfl⟩
  go_wp2_with fail
  refine (HOW.out w2c HB2.out).mono ?_
  rintro e w3 ⟨ou,Q,rfl,hO,hb⟩
  have HB3:=hid (HB2.out.trans (hb.mono HB2.out.size))
  have HIX3:=hid hO.ixs
  obtain ⟨oa,oc,hou,-⟩:=id hO.ixs.es
  subst hou
  clear hb hO HLO HLM HLM2 HLM3 HOW HIN HB1 HB2
  go_wp2_with fail
  refine (HOM.out w3 HB3.out).mono ?_
  rintro e w4 ⟨u4,rfl,ho4,-,hb⟩
  have HB4:=hid (HB3.out.trans (hb.mono HB3.out.size))
  have HIX4:=hid (HIX3.out.below hb)
  have HM4:=hid (own_ms ho4)
  obtain ⟨a4,c4,hu4⟩:=own_slN ho4
  subst hu4
  clear hb ho4 HB3 HIX3
  by_cases hca : (chkG Q L ra).1 = 0
  · have HCA:=hid hca
    have HBU:=hid (build_good Q L ra _ _ A m w4 (by omega) (by omega) HSH.out (HS.out.below HB4.out) HIX4.out HM4.out hca)
    clear hca
    go_wp2_with fail
    refine HBU.out.mono ?_
    rintro e w5 ⟨xu,X,rfl,hbt,hmx⟩
    have HBT:=hid hbt
    have HB5:=hid (HB4.out.trans (hmx.1.mono HB4.out.size))
    have HIX5:=hid (HIX4.out.below hmx.1)
    have HMX5:=hid hmx.ms
    have HEX:=hid hmx.em
    have hXl : X.length <= 101:=by have:=hbt.len HIX5.out; omega
    have HXS:=hid (hbt.sz HIX5.out HSH.out)
    have HCL:=hid (hbt.closed HIX5.out HCA.out)
    have HXU:=hid (show ∀ x,x ∈ X -> x ∈ univ L from fun x hx=>rch_univ HIX5.out HCA.out (hbt.in_ HIX5.out hx))
    obtain ⟨xa,xc,hxu⟩:=hmx.sl
    subst hxu
    clear hbt hmx HBU HB4 HIX4 HM4
    go_wp2_with fail
    refine (HOM.out w5 HB5.out).mono ?_
    rintro e w6 ⟨u6,rfl,ho6,-,hb⟩
    have HB6:=hid (HB5.out.trans (hb.mono HB5.out.size))
    have HIX6:=hid (HIX5.out.below hb)
    have HMX6:=hid (HMX5.out.below hb)
    have HM6:=hid (own_ms ho6)
    have HC1:=hid (closed_good Q L ra X _ _ _ A m w6 (by omega) (by omega) (by omega) HSH.out (HS.out.below HB6.out) HIX6.out HM6.out HMX6.out HEX.out HCL.out.1)
    rw [HCL.out.2] at HC1
    obtain ⟨a6,c6,hu6⟩:=own_slN ho6
    subst hu6
    clear hb ho6 HB5 HIX5 HMX5 HM6
    go_wp2_with fail
    refine HC1.out.mono ?_
    rintro e w7 ⟨rfl,hb⟩
    have HB7:=hid (HB6.out.trans (hb.mono HB6.out.size))
    have HIX7:=hid (HIX6.out.below hb)
    have HMX7:=hid (HMX6.out.below hb)
    clear hb HC1 HB6 HIX6 HMX6
    go_wp2_with fail
    refine (HOM.out w7 HB7.out).mono ?_
    rintro e w8 ⟨u8,rfl,ho8,-,hb⟩
    have HB8:=hid (HB7.out.trans (hb.mono HB7.out.size))
    have HIX8:=hid (HIX7.out.below hb)
    have HMX8:=hid (HMX7.out.below hb)
    have HM8:=hid (own_ms ho8)
    have HU1:=hid (und_any ra X _ _ A m w8 (by omega) (by omega) (fun x hx=>by have:=HZA.out x hx; omega) (fun x hx=>(HXS.out x hx).2) (HS.out.below HB8.out) HM8.out HMX8.out)
    rw [HBT.out.has HIX8.out HCA.out (fun x hx=>.root hx)] at HU1
    obtain ⟨a8,c8,hu8⟩:=own_slN ho8
    subst hu8
    clear hb ho8 HB7 HIX7 HMX7 HM8
    go_wp2_with fail
    refine HU1.out.mono ?_
    rintro e w9 ⟨rfl,hb⟩
    have HB9:=hid (HB8.out.trans (hb.mono HB8.out.size))
    have HIX9:=hid (HIX8.out.below hb)
    have HMX9:=hid (HMX8.out.below hb)
    have HCX:=hid (show (chkG Q L X).1 = 0 from chkG_in HIX9.out (rgt_of HIX9.out HCA.out).c HXU.out)
    have HBU2:=hid (build_good Q L X _ _ A m w9 (by omega) (by omega) HSH.out (HS.out.below HB9.out) HIX9.out HMX9.out HCX.out)
    clear hb HU1 HB8 HIX8 HMX8
    go_wp2_with fail
    refine HBU2.out.mono ?_
    rintro e w10 ⟨yu,Y,rfl,hby,hmy⟩
    have hYX:=HBT.out.again HIX9.out hby
    subst hYX
    have HB10:=hid (HB9.out.trans (hmy.1.mono HB9.out.size))
    have HIX10:=hid (HIX9.out.below hmy.1)
    have HMX10:=hid (HMX9.out.below hmy.1)
    have HSM:=hid (sameM_any Y _ _ w10 (by omega) hmy.ms HMX10.out)
    obtain ⟨ya,yc,hyu⟩:=hmy.sl
    subst hyu
    clear hby hmy HBU2 HB9 HIX9 HMX9
    go_wp2_with fail
    refine HSM.out.mono ?_
    rintro e w11 ⟨rfl,hb⟩
    have HB11:=hid (HB10.out.trans (hb.mono HB10.out.size))
    have HIX11:=hid (HIX10.out.below hb)
    have HMX11:=hid (HMX10.out.below hb)
    clear hb HSM HB10 HIX10 HMX10
    go_wp2_with fail
    refine (HOM.out w11 HB11.out).mono ?_
    rintro e w12 ⟨bu,rfl,hbo,-,hb⟩
    obtain ⟨dv,w13,hrun,hown5,hgr5⟩:=both_run ra rb bu _ w12 w11.heap.size hb.size (by omega) (by omega) hbo (HR2.out.below (HB11.out.trans (hb.mono HB11.out.size))) HER2.out
    obtain ⟨rab,hrab⟩ : ∃ rab,ra ++ rb = rab:=⟨_,rfl⟩
    rw [hrab] at hown5
    have HRAB:=hid hrab
    have hrl : rab.length <= 1000000:=by rw [<- hrab]; simp; omega
    clear hrab
    have HW:=hid (show Below w11.heap.size w11 w13 from hb.grown hgr5 hb.size (fun k hk=>(hbo.lt k hk).1))
    have HB13:=hid (HB11.out.trans (HW.out.mono HB11.out.size))
    have HIX13:=hid (HIX11.out.below HW.out)
    have HMX13:=hid (HMX11.out.below HW.out)
    have HDV:=hid (own_ms hown5)
    have HRUN:=hid hrun
    obtain ⟨bua,buc,hbu⟩:=own_slN hbo
    subst hbu
    obtain ⟨da,dc,hdv⟩:=own_slN hown5
    subst hdv
    clear hb hbo hown5 hgr5 hrun HW HB11 HIX11 HMX11
    go_wp2_with (at_builtin; refine Lib.wpList_append_run _ rfl _ _ _ _ rfl _ _ rfl rfl _ _ HRUN.out ?_)
    go_wp2_with fail
    by_cases hcb : (chkG Q L rab).1 = 0
    · have HCB:=hid hcb
      have HBU3:=hid (build_good Q L rab _ _ A m w13 (by omega) hrl HSH.out (HS.out.below HB13.out) HIX13.out HDV.out hcb)
      clear hcb
      refine HBU3.out.mono ?_
      rintro e w14 ⟨zu,Z,rfl,hbz,hmz⟩
      have HB14:=hid (HB13.out.trans (hmz.1.mono HB13.out.size))
      have HIX14:=hid (HIX13.out.below hmz.1)
      have HMX14:=hid (HMX13.out.below hmz.1)
      have hZl : Z.length <= 101:=by have:=hbz.len HIX14.out; omega
      have HU2:=hid (und_any Y Z _ _ A m w14 (by omega) (by omega) (fun x hx=>(HXS.out x hx).2) (fun x hx=>(hbz.sz HIX14.out HSH.out x hx).2) (HS.out.below HB14.out) HMX14.out hmz.ms)
      rw [HBT.out.more HIX14.out (b:=rb) (F:=Z) (by rw [HRAB.out]; exact hbz) (by rw [HRAB.out]; exact HCB.out)] at HU2
      obtain ⟨za,zc,hzu⟩:=hmz.sl
      subst hzu
      clear hbz hmz HBU3 HB13 HIX13 HMX13 HRUN HDV
      go_wp2_with fail
      refine HU2.out.mono ?_
      rintro e w15 ⟨rfl,hb⟩
      have HB15:=hid (HB14.out.trans (hb.mono HB14.out.size))
      have HIX15:=hid (HIX14.out.below hb)
      have HMX15:=hid (HMX14.out.below hb)
      clear hb HU2 HB14 HIX14 HMX14
      go_wp2_with fail
      refine (HOM.out w15 HB15.out).mono ?_
      rintro e w16 ⟨u16,rfl,ho16,-,hb⟩
      have HB16:=hid (HB15.out.trans (hb.mono HB15.out.size))
      have HIX16:=hid (HIX15.out.below hb)
      have HMX16:=hid (HMX15.out.below hb)
      have HM16:=hid (own_ms ho16)
      obtain ⟨a16,c16,hu16⟩:=own_slN ho16
      subst hu16
      clear hb ho16 HB15 HIX15 HMX15
      go_wp2_with fail
      refine (HOM3.out w16 HB16.out).mono ?_
      rintro e w17 ⟨u17,rfl,ho17,-,hb⟩
      have HB17:=hid (HB16.out.trans (hb.mono HB16.out.size))
      have HIX17:=hid (HIX16.out.below hb)
      have HMX17:=hid (HMX16.out.below hb)
      have HM17:=hid (HM16.out.below hb)
      have HMS17:=hid (mr_own ho17 hb)
      obtain ⟨a17,c17,hu17⟩:=own_slN ho17
      subst hu17
      clear hb ho17 HB16 HIX16 HMX16 HM16
      by_cases hcs : (chkC Q L ra rs).1 = 0
      · have HC2:=hid (closed_good Q L ra rs _ _ _ A m w17 (by omega) (by omega) (by omega) HSH.out (HS.out.below HB17.out) HIX17.out HM17.out HMS17.out.ms HMS17.out.em hcs)
        have HLE:=hid (show closB Q L ra rs = true -> RiseP L -> undB Y rs = true from fun h1 h2=>HBT.out.least HIX17.out hcs h1 h2)
        clear hcs
        cases hcl : closB Q L ra rs
        · rw [hcl] at HC2
          clear hcl
          go_wp2_with fail
          refine HC2.out.mono ?_
          rintro e w18 ⟨rfl,hb⟩
          have HB18:=hid (HB17.out.trans (hb.mono HB17.out.size))
          clear hb
          go_wp2_with fail
          go_ret
          exact ⟨rfl,HB18.out⟩
        · rw [hcl] at HC2
          have HLE2:=hid (HLE.out hcl)
          clear hcl
          go_wp2_with fail
          refine HC2.out.mono ?_
          rintro e w18 ⟨rfl,hb⟩
          have HB18:=hid (HB17.out.trans (hb.mono HB17.out.size))
          have HMX18:=hid (HMX17.out.below hb)
          clear hb HC2 HB17 HIX17 HMX17
          go_wp2_with fail
          refine (HRI.out w18 HB18.out).mono ?_
          rintro e w19 ⟨z,rfl,hz,hb⟩
          have HB19:=hid (HB18.out.trans (hb.mono HB18.out.size))
          have HMX19:=hid (HMX18.out.below hb)
          have HZ:=hid hz
          clear hb hz HB18 HMX18
          cases z
          · go_wp2_with fail
            go_ret
            exact ⟨rfl,HB19.out⟩
          · have HUN:=hid (HLE2.out (HZ.out rfl))
            go_wp2_with fail
            refine (HOM3.out w19 HB19.out).mono ?_
            rintro e w20 ⟨u20,rfl,ho20,-,hb⟩
            have HB20:=hid (HB19.out.trans (hb.mono HB19.out.size))
            have HU5:=hid (und_any Y rs _ _ A m w20 (by omega) (by omega) (fun x hx=>(HXS.out x hx).2) (fun x hx=>by have:=HZS.out x hx; omega) (HS.out.below HB20.out) (HMX19.out.below hb) (own_ms ho20))
            rw [HUN.out] at HU5
            obtain ⟨a20,c20,hu20⟩:=own_slN ho20
            subst hu20
            clear hb ho20
            go_wp2_with fail
            refine HU5.out.mono ?_
            rintro e w21 ⟨rfl,hb⟩
            have HB21:=hid (HB20.out.trans (hb.mono HB20.out.size))
            clear hb
            go_wp2_with fail
            go_ret
            exact ⟨rfl,HB21.out⟩
      · have HC2:=hid (closed_bad Q L ra rs _ _ _ A m w17 (by omega) (by omega) (by omega) HSH.out (HS.out.below HB17.out) HIX17.out HM17.out HMS17.out.ms HMS17.out.em hcs)
        clear hcs
        go_wp2_with fail
        refine HC2.out.mono ?_
        rintro e w18 ⟨T8,p8,rfl,-,hb⟩
        have HB18:=hid (HB17.out.trans (hb.mono HB17.out.size))
        clear hb
        go_wp2_with fail
        go_ret
        exact ⟨rfl,HB18.out⟩
    · have HBU3:=hid (build_bad Q L rab _ _ A m w13 (by omega) hrl HSH.out (HS.out.below HB13.out) HIX13.out HDV.out hcb)
      clear hcb
      refine HBU3.out.mono ?_
      rintro e w15 ⟨T9,p9,rfl,-,hb⟩
      have HB15:=hid (HB13.out.trans (hb.mono HB13.out.size))
      have HIX15:=hid (HIX13.out.below hb)
      have HMX15:=hid (HMX13.out.below hb)
      clear hb HBU3 HB13 HIX13 HMX13 HRUN HDV
      go_wp2_with fail
      refine (HOM.out w15 HB15.out).mono ?_
      rintro e w16 ⟨u16,rfl,ho16,-,hb⟩
      have HB16:=hid (HB15.out.trans (hb.mono HB15.out.size))
      have HIX16:=hid (HIX15.out.below hb)
      have HMX16:=hid (HMX15.out.below hb)
      have HM16:=hid (own_ms ho16)
      obtain ⟨a16,c16,hu16⟩:=own_slN ho16
      subst hu16
      clear hb ho16 HB15 HIX15 HMX15
      go_wp2_with fail
      refine (HOM3.out w16 HB16.out).mono ?_
      rintro e w17 ⟨u17,rfl,ho17,-,hb⟩
      have HB17:=hid (HB16.out.trans (hb.mono HB16.out.size))
      have HIX17:=hid (HIX16.out.below hb)
      have HMX17:=hid (HMX16.out.below hb)
      have HM17:=hid (HM16.out.below hb)
      have HMS17:=hid (mr_own ho17 hb)
      obtain ⟨a17,c17,hu17⟩:=own_slN ho17
      subst hu17
      clear hb ho17 HB16 HIX16 HMX16 HM16
      by_cases hcs : (chkC Q L ra rs).1 = 0
      · have HC2:=hid (closed_good Q L ra rs _ _ _ A m w17 (by omega) (by omega) (by omega) HSH.out (HS.out.below HB17.out) HIX17.out HM17.out HMS17.out.ms HMS17.out.em hcs)
        have HLE:=hid (show closB Q L ra rs = true -> RiseP L -> undB Y rs = true from fun h1 h2=>HBT.out.least HIX17.out hcs h1 h2)
        clear hcs
        cases hcl : closB Q L ra rs
        · rw [hcl] at HC2
          clear hcl
          go_wp2_with fail
          refine HC2.out.mono ?_
          rintro e w18 ⟨rfl,hb⟩
          have HB18:=hid (HB17.out.trans (hb.mono HB17.out.size))
          clear hb
          go_wp2_with fail
          go_ret
          exact ⟨rfl,HB18.out⟩
        · rw [hcl] at HC2
          have HLE2:=hid (HLE.out hcl)
          clear hcl
          go_wp2_with fail
          refine HC2.out.mono ?_
          rintro e w18 ⟨rfl,hb⟩
          have HB18:=hid (HB17.out.trans (hb.mono HB17.out.size))
          have HMX18:=hid (HMX17.out.below hb)
          clear hb HC2 HB17 HIX17 HMX17
          go_wp2_with fail
          refine (HRI.out w18 HB18.out).mono ?_
          rintro e w19 ⟨z,rfl,hz,hb⟩
          have HB19:=hid (HB18.out.trans (hb.mono HB18.out.size))
          have HMX19:=hid (HMX18.out.below hb)
          have HZ:=hid hz
          clear hb hz HB18 HMX18
          cases z
          · go_wp2_with fail
            go_ret
            exact ⟨rfl,HB19.out⟩
          · have HUN:=hid (HLE2.out (HZ.out rfl))
            go_wp2_with fail
            refine (HOM3.out w19 HB19.out).mono ?_
            rintro e w20 ⟨u20,rfl,ho20,-,hb⟩
            have HB20:=hid (HB19.out.trans (hb.mono HB19.out.size))
            have HU5:=hid (und_any Y rs _ _ A m w20 (by omega) (by omega) (fun x hx=>(HXS.out x hx).2) (fun x hx=>by have:=HZS.out x hx; omega) (HS.out.below HB20.out) (HMX19.out.below hb) (own_ms ho20))
            rw [HUN.out] at HU5
            obtain ⟨a20,c20,hu20⟩:=own_slN ho20
            subst hu20
            clear hb ho20
            go_wp2_with fail
            refine HU5.out.mono ?_
            rintro e w21 ⟨rfl,hb⟩
            have HB21:=hid (HB20.out.trans (hb.mono HB20.out.size))
            clear hb
            go_wp2_with fail
            go_ret
            exact ⟨rfl,HB21.out⟩
      · have HC2:=hid (closed_bad Q L ra rs _ _ _ A m w17 (by omega) (by omega) (by omega) HSH.out (HS.out.below HB17.out) HIX17.out HM17.out HMS17.out.ms HMS17.out.em hcs)
        clear hcs
        go_wp2_with fail
        refine HC2.out.mono ?_
        rintro e w18 ⟨T8,p8,rfl,-,hb⟩
        have HB18:=hid (HB17.out.trans (hb.mono HB17.out.size))
        clear hb
        go_wp2_with fail
        go_ret
        exact ⟨rfl,HB18.out⟩
  · have HBU:=hid (build_bad Q L ra _ _ A m w4 (by omega) (by omega) HSH.out (HS.out.below HB4.out) HIX4.out HM4.out hca)
    clear hca
    go_wp2_with fail
    refine HBU.out.mono ?_
    rintro e w5 ⟨T9,p9,rfl,-,hb⟩
    have HB5:=hid (HB4.out.trans (hb.mono HB4.out.size))
    clear hb HBU
    go_wp2_with fail
    go_ret
    exact ⟨rfl,HB5.out⟩
set_option maxRecDepth 100000 in
set_option maxHeartbeats 2000000 in
theorem ml_long (Q0 : List Raw) (L : List Ent) (ra rb rs : List Bm) (v u s t : Value) (A : Nat -> Addr) (m : Int) (w : World) (S : Te w A m) (I : Ixs w v Q0 L) (hr : MsAt w u ra) (hr2 : MsAt w s rb) (hr3 : MsAt w t rs) (hok : okI L = false) :
    Calls Tryz.prog 5 #[v,u,s,t] w fun e w'=>e = .returned (.bool true) /\ Below w.heap.size w w':=by
  obtain ⟨a0,c0,hv0,-⟩:=id I.es
  subst hv0
  obtain ⟨aa,ac,hu0,-⟩:=id hr
  subst hu0
  obtain ⟨ba,bc,hs0,-⟩:=id hr2
  subst hs0
  obtain ⟨ta,tc,ht0,-⟩:=id hr3
  subst ht0
  have HIN:=hid (built_any A m w S)
  have HLO:=hid (fun W (h : Below w.heap.size w W)=>longI_any Q0 L _ W (I.below h))
  rw [hok] at HLO
  clear S I hok hr hr2 hr3
  go_enter Tryz.func5,Tryz.ntmps5
  go_wp2_with fail
  refine HIN.out.mono ?_
  rintro e w1 ⟨rfl,hb⟩
  have HB1:=hid hb
  clear hb
  go_wp2_with fail
  refine (HLO.out w1 HB1.out).mono ?_
  rintro e w2 ⟨rfl,hb⟩
  have HB2:=hid (HB1.out.trans (hb.mono HB1.out.size))
  clear hb
  go_wp2_with fail
  go_ret
  exact ⟨rfl,HB2.out⟩
set_option maxRecDepth 100000 in
set_option maxHeartbeats 4000000 in
theorem ml_long2 (Q0 : List Raw) (L : List Ent) (ra rb rs : List Bm) (v u s t : Value) (A : Nat -> Addr) (m : Int) (w : World) (x y z : Int) (S : Te w A m) (I : Ixs w v Q0 L) (hr : MsAt w u ra) (hr2 : MsAt w s rb) (hr3 : MsAt w t rs) (hok : okI L = true) (hx : (if okLN 15 ra then (0 : Int) else 1) = x) (hy : (if okLN 15 rb then (0 : Int) else 1) = y) (hz : (if okLN 15 rs then (0 : Int) else 1) = z)
    (hxyz : (x = 1 /\ y = 0 /\ z = 0) \/ (x = 0 /\ y = 1 /\ z = 0) \/ (x = 0 /\ y = 0 /\ z = 1) \/ (x = 1 /\ y = 1 /\ z = 0) \/ (x = 1 /\ y = 0 /\ z = 1) \/ (x = 0 /\ y = 1 /\ z = 1) \/ (x = 1 /\ y = 1 /\ z = 1)) :
    Calls Tryz.prog 5 #[v,u,s,t] w fun e w'=>e = .returned (.bool true) /\ Below w.heap.size w w':=by
  obtain ⟨a0,c0,hv0,-⟩:=id I.es
  subst hv0
  obtain ⟨aa,ac,hu0,-⟩:=id hr
  subst hu0
  obtain ⟨ba,bc,hs0,-⟩:=id hr2
  subst hs0
  obtain ⟨ta,tc,ht0,-⟩:=id hr3
  subst ht0
  have HIN:=hid (built_any A m w S)
  have HLO:=hid (fun W (h : Below w.heap.size w W)=>longI_any Q0 L _ W (I.below h))
  rw [if_pos hok] at HLO
  have HLM:=hid (fun W (h : Below w.heap.size w W)=>longN_any 15 (by decide) ra _ W (hr.below h))
  rw [hx] at HLM
  have HLM2:=hid (fun W (h : Below w.heap.size w W)=>longN_any 15 (by decide) rb _ W (hr2.below h))
  rw [hy] at HLM2
  have HLM3:=hid (fun W (h : Below w.heap.size w W)=>longN_any 15 (by decide) rs _ W (hr3.below h))
  rw [hz] at HLM3
  clear S I hok hr hr2 hr3 hx hy hz
  rcases hxyz with ⟨rfl,rfl,rfl⟩ | ⟨rfl,rfl,rfl⟩ | ⟨rfl,rfl,rfl⟩ | ⟨rfl,rfl,rfl⟩ | ⟨rfl,rfl,rfl⟩ | ⟨rfl,rfl,rfl⟩ | ⟨rfl,rfl,rfl⟩
  all_goals
    go_enter Tryz.func5,Tryz.ntmps5
    go_wp2_with fail
    refine HIN.out.mono ?_
    rintro e w1 ⟨rfl,hb⟩
    have HB1:=hid hb
    clear hb
    go_wp2_with fail
    refine (HLO.out w1 HB1.out).mono ?_
    rintro e w2 ⟨rfl,hb⟩
    have HB2:=hid (HB1.out.trans (hb.mono HB1.out.size))
    clear hb
    go_wp2_with fail
    refine (HLM.out w2 HB2.out).mono ?_
    rintro e w3 ⟨rfl,rfl⟩
    go_wp2_with fail
    refine (HLM2.out w3 HB2.out).mono ?_
    rintro e w4 ⟨rfl,rfl⟩
    go_wp2_with fail
    refine (HLM3.out w4 HB2.out).mono ?_
    rintro e w5 ⟨rfl,rfl⟩
    go_wp2_with fail
    go_ret
    exact ⟨rfl,HB2.out⟩
theorem mvsLeast_any (Q0 : List Raw) (L : List Ent) (ra rb rs : List Bm) (v u s t : Value) (A : Nat -> Addr) (m : Int) (w : World) (S : Te w A m) (I : Ixs w v Q0 L) (em : EmI Q0 L) (hr : MsAt w u ra) (her : Em u ra) (hr2 : MsAt w s rb) (her2 : Em s rb) (hr3 : MsAt w t rs) (her3 : Em t rs) :
    Calls Tryz.prog 5 #[v,u,s,t] w fun e w'=>e = .returned (.bool true) /\ Below w.heap.size w w':=by
  cases hok : okI L with
  | false=>exact ml_long Q0 L ra rb rs v u s t A m w S I hr hr2 hr3 hok
  | true=>
    cases hrk : okLN 15 ra <;> cases hrk2 : okLN 15 rb <;> cases hrk3 : okLN 15 rs
    case true.true.true=>exact ml_head Q0 L ra rb rs v u s t A m w S I em hr her hr2 her2 hr3 her3 hok hrk hrk2 hrk3
    all_goals exact ml_long2 Q0 L ra rb rs v u s t A m w _ _ _ S I hr hr2 hr3 hok rfl rfl rfl (by rw [hrk,hrk2,hrk3]; decide)
end Ve
end Go.Proofs.YtlcffhadobhfkaaGreatDoor
