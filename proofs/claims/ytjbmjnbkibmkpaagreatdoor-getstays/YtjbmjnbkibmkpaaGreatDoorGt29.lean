
import Derived.Test.YtjbmjnbkibmkpaaGreatDoorGt6
set_option maxHeartbeats 8000000
namespace Go.Proofs.YtjbmjnbkibmkpaaGreatDoor
open Go.RowKit
namespace Ve
theorem cell_same {w w' : World} (h : w' = w) {a : Addr} {v : Value} (y : w.cell? a = some v) : w'.cell? a = some v:=by rw [h]; exact y
theorem ms_same {w w' : World} (h : w' = w) {v : Value} {L : List Bm} (y : MsAt w v L) : MsAt w' v L:=by rw [h]; exact y
theorem longI_manyQ (a : Option Addr) (n c : Nat) (w : World) (h : okN n = false) : Calls Tryz.prog 5 #[.slice a n c] w fun e w'=>e = .returned (.int .i64 1) /\ w' = w:=by
 unfold okN at h
 rw [Bool.or_eq_false_iff] at h
 have h1:=of_decide_eq_false h.1
 have h2:=of_decide_eq_false h.2
 have q1 : (30 : Int) < (n : Int):=by omega
 have q2 : ((n : Int) != 101) = true:=bne_iff_ne.2 (by omega)
 clear h h1 h2
 go_enter Tryz.func5,Tryz.ntmps5
 go_wp2_with fail
 go_ret
 exact ⟨rfl,rfl⟩
set_option maxRecDepth 100000 in
theorem longIQ_any (Q : List Raw) (L : List Ent) (v : Value) (w : World) (I : Ixs w v Q L) : Calls Tryz.prog 5 #[v] w fun e w'=>e = .returned (.int .i64 (if okI L then 0 else 1)) /\ w' = w:=by
 obtain ⟨a,c,rfl,_,hs,hc⟩:=id I.es
 by_cases hn : okN Q.length = true
 ·have HO:=hid (show okI L = L.all okE by unfold okI; rw [<- I.ln,hn,Bool.true_and])
  generalize hr : (if okI L then (0 : Int) else 1) = r
  have HR:=hid hr
  have HI:=hid I
  have hln:=I.ln
  have hqn : Q.length <= 101:=by
   unfold okN at hn
   rw [Bool.or_eq_true] at hn
   rcases hn with h | h
   ·have:=of_decide_eq_true h; omega
   ·have:=of_decide_eq_true h; omega
  have HC:=hid hc
  have HSL:=hid hs
  clear I hr hc hs
  rcases okN_yes hn with h0 | ⟨h0,h0'⟩
  all_goals
   clear hn
   go_enter Tryz.func5,Tryz.ntmps5
   go_wp2_with fail
   go_loopw [3] (fun i wr=>∃ k : Nat,k <= L.length /\ i = .int .i64 k /\ Hid (pfxE L k = true) /\ Hid (wr = w)) (fun i _=>L.length - (intOf i).toNat)
   case atStart=>exact ⟨0,Nat.zero_le _,rfl,hid rfl,hid (rfl)⟩
   case round=>
    obtain ⟨k,hk,rfl,HA,HB⟩:=hrel
    by_cases hlt : k < L.length
    ·have hkq : k < Q.length:=by omega
     have hO:=HI.out.ok k hkq hlt
     obtain ⟨b,o,ha,hcc⟩:=HC.out (by intro h; rw [h] at hkq; simp at hkq)
     subst ha
     obtain ⟨y0,y1,y2,y3,y4⟩:=hcc k hkq
     have x0:=cell_same HB.out y0
     have x1:=cell_same HB.out y1
     have x2:=cell_same HB.out y2
     have x3:=cell_same HB.out y3
     have y3':=y3
     have hkI : (k : Int) < (Q.length : Int):=by omega
     have HLT:=hid hlt
     have HN:=hid (fun h=>okE_next hlt HA.out h)
     have HXX:=hid (fun h=>okE_not hlt h)
     clear hcc y0 y1 y2 y3 y4
     generalize L[k] = e at *
     generalize Q[k] = r at *
     clear hlt hkq
     obtain ⟨⟨p,q⟩,rv,pv,bk⟩:=r
     obtain ⟨⟨p',q'⟩,eR,eP,bk'⟩:=e
     obtain ⟨hm,hrq,hpk,_⟩:=hO
     simp only at hm hrq hpk x0 x1 x2 x3 y3'
     obtain ⟨rfl,rfl⟩ : p = p' /\ q = q':=by injection hm with h1 h2; exact ⟨h1,h2⟩
     have HL:=hid (long_any eR rv wr (ms_same HB.out hrq))
     obtain ⟨ra,rc,hrv,_⟩:=id hrq
     obtain ⟨pa,pc,hpv,_,hpc⟩:=id hpk
     subst hrv
     subst hpv
     have HPK:=hid hpc
     clear hm hrq hpk hpc
     have HE:=hid (show okE ((p,q),eR,eP,bk') = (decide (p.size <= 70) && decide (q.size <= 60) && okL eR && decide (eP.length <= 15) && okP eP) from rfl)
     by_cases h1 : p.size <= 70
     ·have q1 : decide ((70 : Int) < (p.size : Int)) = false:=decide_eq_false (by omega)
      by_cases h2 : q.size <= 60
      ·have q2 : decide ((60 : Int) < (q.size : Int)) = false:=decide_eq_false (by omega)
       cases h3 : okL eR
       ·have HX:=hid (HXX.out (by rw [HE.out,h3,Bool.and_false,Bool.false_and,Bool.false_and]))
        rw [h3] at HL
        clear h1 h2 h3
        go_wp2_with fail
        refine HL.out.mono ?_
        rintro e w1 ⟨rfl,rfl⟩
        go_wp2_with fail
        go_ret
        exact ⟨by rw [<- HR.out,HO.out,HX.out]; rfl,HB.out⟩
       ·rw [h3] at HL
        by_cases h4 : eP.length <= 15
        ·have q4 : decide ((15 : Int) < (eP.length : Int)) = false:=decide_eq_false (by omega)
         have HE2:=hid (show okE ((p,q),eR,eP,bk') = okP eP by rw [HE.out,decide_eq_true h1,decide_eq_true h2,h3,decide_eq_true h4]; rfl)
         have hp15:=h4
         clear h1 h2 h3 h4
         go_wp2_with fail
         refine HL.out.mono ?_
         rintro e w1 ⟨rfl,rfl⟩
         go_wp2_with fail
         go_loopw [4] (fun i wr'=>∃ k' : Nat,k' <= eP.length /\ i = .int .i64 k' /\ Hid (okP (eP.take k') = true) /\ Hid (wr' = w)) (fun i _=>eP.length - (intOf i).toNat)
         case atStart=>exact ⟨0,Nat.zero_le _,rfl,hid rfl,HB⟩
         case round=>
          obtain ⟨k',hk',rfl,HA',HBq⟩:=hrel
          have x3':=cell_same HBq.out y3'
          by_cases hlt' : k' < eP.length
          ·obtain ⟨b',o',ha',hp'⟩:=HPK.out (by intro h; rw [h] at hlt'; simp at hlt')
           subst ha'
           have z:=cell_same HBq.out (hp' k' hlt')
           have hkI' : (k' : Int) < (eP.length : Int):=by omega
           have HLT':=hid hlt'
           have HN':=hid (fun h=>okP_next hlt' HA'.out h)
           have HX':=hid (fun h=>okP_not hlt' h)
           generalize eP[k'] = x at *
           clear hp' hlt'
           by_cases h5 : x.size <= 70
           ·have q5 : ¬ (70 : Int) < (x.size : Int):=by omega
            have HN2:=hid (HN'.out h5)
            clear h5
            go_wp2_with fail
            go_roundw
            case rel=>exact ⟨k' + 1,by have:=HLT'.out; omega,by go_num,HN2,HBq⟩
            case measure=>have:=HLT'.out; simp [intOf]; omega
           ·have q5 : (70 : Int) < (x.size : Int):=by omega
            have HX:=hid (HXX.out (by rw [HE2.out,HX'.out h5]))
            clear h5
            go_wp2_with fail
            go_ret
            exact ⟨by rw [<- HR.out,HO.out,HX.out]; rfl,HBq.out⟩
          ·have HT':=hid (show okP eP = true by have:=HA'.out; rw [List.take_of_length_le (by omega)] at this; exact this)
           have HN2:=hid (HN.out (by rw [HE2.out,HT'.out]))
           have hkI' : ¬ (k' : Int) < (eP.length : Int):=by omega
           clear hlt'
           go_wp2_with fail
           go_roundw
           case rel=>first | exact ⟨k + 1,by have:=HLT.out; omega,by go_num,HN2,HBq⟩ | exact ⟨k + 1,by have:=HLT.out; omega,by omega,HN2⟩
           case measure=>have:=HLT.out; simp [intOf]; omega
        ·have q4 : decide ((15 : Int) < (eP.length : Int)) = true:=decide_eq_true (by omega)
         have HX:=hid (HXX.out (by rw [HE.out,decide_eq_false h4,Bool.and_false,Bool.false_and]))
         clear h1 h2 h3 h4
         go_wp2_with fail
         refine HL.out.mono ?_
         rintro e w1 ⟨rfl,rfl⟩
         go_wp2_with fail
         go_ret
         exact ⟨by rw [<- HR.out,HO.out,HX.out]; rfl,HB.out⟩
      ·have q2 : decide ((60 : Int) < (q.size : Int)) = true:=decide_eq_true (by omega)
       have HX:=hid (HXX.out (by rw [HE.out,decide_eq_false h2,Bool.and_false,Bool.false_and,Bool.false_and,Bool.false_and]))
       clear h1 h2
       go_wp2_with fail
       go_ret
       exact ⟨by rw [<- HR.out,HO.out,HX.out]; rfl,HB.out⟩
     ·have q1 : decide ((70 : Int) < (p.size : Int)) = true:=decide_eq_true (by omega)
      have HX:=hid (HXX.out (by rw [HE.out,decide_eq_false h1,Bool.false_and,Bool.false_and,Bool.false_and,Bool.false_and]))
      clear h1
      go_wp2_with fail
      go_ret
      exact ⟨by rw [<- HR.out,HO.out,HX.out]; rfl,HB.out⟩
    ·have HT:=hid (show L.all okE = true by have:=HA.out; unfold pfxE at this; rw [List.take_of_length_le (by omega)] at this; exact this)
     have hkI : ¬ (k : Int) < (Q.length : Int):=by omega
     go_wp2_with fail
     go_ret
     exact ⟨by rw [<- HR.out,HO.out,HT.out]; rfl,HB.out⟩
 ·have hf : okN Q.length = false:=by simpa using hn
  have : okI L = false:=by unfold okI; rw [<- I.ln,hf]; rfl
  rw [this]
  exact longI_manyQ a Q.length c w hf
end Ve
end Go.Proofs.YtjbmjnbkibmkpaaGreatDoor
