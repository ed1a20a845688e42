/-
  MsB SplitAny VerS FileR IxPa MvP LawM IxL IxO Opn
-/
import Derived.Test.YtlcffhadobhfkaaGreatDoorMq2
import Derived.Test.YtlcffhadobhfkaaGreatDoorMq6
import Derived.Test.YtlcffhadobhfkaaGreatDoorMq3
import Derived.Test.YtlcffhadobhfkaaGreatDoorMq8
import Derived.Test.YtlcffhadobhfkaaGreatDoorMq9
import Derived.Test.YtlcffhadobhfkaaGreatDoorMq11
import Derived.Test.YtlcffhadobhfkaaGreatDoorMq16
import Derived.Test.YtlcffhadobhfkaaGreatDoorMq18
import Derived.Test.YtlcffhadobhfkaaGreatDoorMq5
import Derived.Test.YtlcffhadobhfkaaGreatDoorMq19
import Derived.Test.YtlcffhadobhfkaaGreatDoorMq20
import Derived.Test.YtlcffhadobhfkaaGreatDoorMq22
namespace Go.Proofs.YtlcffhadobhfkaaGreatDoor
open Go.RowKit
namespace Ve
theorem own_base {W : World} {B B' n : Nat} {e : TypeId} {v : Value} {xs : List Value} (h : W.ownsRow B e 2 v n xs) (hB : B' <= B) : W.ownsRow B' e 2 v n xs:=by
  obtain ⟨hl,h | ⟨g,cap,cur,e1,e2,e3,e4,e5,e6,e7⟩⟩:=h
  · exact ⟨hl,Or.inl h⟩
  · exact ⟨hl,Or.inr ⟨g,cap,cur,e1,Nat.le_trans hB e2,e3,e4,e5,e6,e7⟩⟩
def SplitP (aT aB : Addr) (s : ByteArray) (w w' : World) (e : Ending) : Prop:=
  (verErr s.data.toList ≠ 0 /\ e = .returned (.tuple #[.agg #[.int .i64 0,.int .i64 0,.int .i64 0,.slice none 0 0],errV aT aB (verErr s.data.toList)]) \/
    verErr s.data.toList = 0 /\ ∃ v X,e = .returned (.tuple #[.agg #[.int .i64 (nAt s.data.toList 0),.int .i64 (nAt s.data.toList 1),.int .i64 (nAt s.data.toList 2),v],.nilIface]) /\ bl X = preOf s.data.toList /\ StrsAt w' v X) /\ Below w.heap.size w w'
theorem vsplit_any (s : ByteArray) (aT aB : Addr) (m : Int) (w : World) (hs : s.size < 4294967281) (S : Vs w aT aB m) : Calls Tryz.prog 125 #[.string s] w fun e w'=>SplitP aT aB s w w' e:=by
  by_cases h : verErr s.data.toList = 0
  · exact (vsplit_good s aT aB m w hs S h).mono fun e w' ⟨v,X,h1,h2,h3,h4⟩=>⟨Or.inr ⟨h,v,X,h1,h2,h3⟩,h4⟩
  · exact (vsplit_bad s aT aB m w hs S h).mono fun e w' ⟨h1,h2⟩=>⟨Or.inl ⟨h,h1⟩,h2⟩
theorem ordV_irr {s t : List UInt8} (h : ordV s t < 0) : ¬ ordV t s < 0:=by rw [ordV_swap s t]; omega
theorem noLess_lt (a b : ByteArray) : noLess a b = !lt a b:=rfl
theorem mAhead_irr (a : Bm) : mAhead a a = false:=by
  unfold mAhead aheadB
  rw [if_pos rfl]
  unfold lessB
  have : ¬ ordV a.2.data.toList a.2.data.toList < 0:=fun h=>ordV_irr h h
  rw [decide_eq_false this,Bool.and_false,Bool.and_false]
theorem ahead_other {a b : Bm} (h : a.1 ≠ b.1) : mAhead a b = lt a.1 b.1:=by
  unfold mAhead aheadB
  rw [if_neg (fun e=>h (str_ext e))]
  rfl
def okL (L : List Bm) : Bool:=decide (L.length <= 25) && L.all okM
theorem okL_iff {L : List Bm} (h : okL L = true) : L.length <= 25 /\ ∀ m,m ∈ L -> m.1.size <= 70 /\ m.2.size <= 60:=by
  unfold okL at h
  rw [Bool.and_eq_true] at h
  refine ⟨of_decide_eq_true h.1,fun m hm=>?_⟩
  have:=List.all_eq_true.1 h.2 m hm
  unfold okM at this
  rw [Bool.and_eq_true] at this
  exact ⟨of_decide_eq_true this.1,of_decide_eq_true this.2⟩
set_option maxHeartbeats 1000000 in
theorem long_some (L : List Bm) (b o c : Nat) (w : World) (hn : L.length <= 25)
    (hc : ∀ j (h : j < L.length),w.cell? ⟨b,o + j * 2,none⟩ = some (.string L[j].1) /\ w.cell? ⟨b,o + j * 2 + 1,none⟩ = some (.string L[j].2)) :
    Calls Tryz.prog 17 #[.slice (some ⟨b,o,none⟩) L.length c,.int .i64 25] w fun e w'=>e = .returned (.int .i64 (if okL L then 0 else 1)) /\ w' = w:=by
  have HC:=hid hc
  have HO:=hid (show okL L = L.all okM by unfold okL; rw [decide_eq_true hn,Bool.true_and])
  have hn2 : ¬ (25 : Int) < (L.length : Int):=by omega
  generalize hr : (if okL L then (0 : Int) else 1) = r
  have HR:=hid hr
  clear hc hr
  go_enter Tryz.func17,Tryz.ntmps17
  go_wp2_with fail
  go_loop [5] (fun i=>∃ k : Nat,k <= L.length /\ i = .int .i64 k /\ Hid ((L.take k).all okM = true)) (fun i=>L.length - (intOf i).toNat)
  case atStart=>exact ⟨0,Nat.zero_le _,rfl,hid rfl⟩
  case round=>
    obtain ⟨k,hk,rfl,HA⟩:=hrel
    by_cases hlt : k < L.length
    · have hx:=(HC.out k hlt).1
      have hy:=(HC.out k hlt).2
      have HN:=hid (fun h=>all_take_next hlt HA.out h)
      have HX:=hid (fun h=>all_not hlt h)
      have HLT:=hid hlt
      have hkI : (k : Int) < (L.length : Int):=by omega
      generalize L[k] = x at *
      clear hlt
      obtain ⟨p,v⟩:=x
      by_cases h1 : p.size <= 70
      · have h1' : ¬ (70 : Int) < (p.size : Int):=by omega
        by_cases h2 : v.size <= 60
        · have h2' : ¬ (60 : Int) < (v.size : Int):=by omega
          have HT:=hid (HN.out (by unfold okM; rw [decide_eq_true h1,decide_eq_true h2]; rfl))
          go_wp2_with fail
          go_round
          case rel=>exact ⟨k + 1,by have:=HLT.out; omega,by go_num,HT⟩
          case measure=>have:=HLT.out; simp [intOf]; omega
        · have h2' : (60 : Int) < (v.size : Int):=by omega
          have HT:=hid (HX.out (by unfold okM; rw [decide_eq_true h1,decide_eq_false h2]; rfl))
          go_wp2_with fail
          go_ret
          exact ⟨by rw [<- HR.out,HO.out,HT.out]; rfl,rfl⟩
      · have h1' : (70 : Int) < (p.size : Int):=by omega
        have HT:=hid (HX.out (by unfold okM; rw [decide_eq_false h1]; rfl))
        go_wp2_with fail
        go_ret
        exact ⟨by rw [<- HR.out,HO.out,HT.out]; rfl,rfl⟩
    · have HT:=hid (show L.all okM = true by have:=HA.out; rw [List.take_of_length_le (by omega)] at this; exact this)
      go_wp2_with fail
      go_ret
      exact ⟨by rw [<- HR.out,HO.out,HT.out]; rfl,rfl⟩
theorem long_none (a : Option Addr) (c : Nat) (w : World) : Calls Tryz.prog 17 #[.slice a 0 c,.int .i64 25] w fun e w'=>e = .returned (.int .i64 0) /\ w' = w:=by
  go_enter Tryz.func17,Tryz.ntmps17
  go_wp2_with fail
  go_loop [5] (fun i=>i = .int .i64 0) (fun i=>0)
  case atStart=>exact rfl
  case round=>
    obtain rfl:=hrel
    go_wp2_with fail
    go_ret
    exact ⟨rfl,rfl⟩
theorem long_many (a : Option Addr) (n c : Nat) (w : World) (hn : 25 < n) : Calls Tryz.prog 17 #[.slice a n c,.int .i64 25] w fun e w'=>e = .returned (.int .i64 1) /\ w' = w:=by
  have hn2 : (25 : Int) < (n : Int):=by omega
  go_enter Tryz.func17,Tryz.ntmps17
  go_wp2_with fail
  go_ret
  exact ⟨rfl,rfl⟩
theorem long_any (L : List Bm) (v : Value) (w : World) (hv : MsAt w v L) : Calls Tryz.prog 17 #[v,.int .i64 25] w fun e w'=>e = .returned (.int .i64 (if okL L then 0 else 1)) /\ w' = w:=by
  obtain ⟨a,c,rfl,_,h⟩:=hv
  by_cases hn : L.length <= 25
  · cases L with
    | nil=>exact long_none a c w
    | cons x r=>
      obtain ⟨b,o,rfl,h2⟩:=h (by simp)
      exact long_some (x :: r) b o c w hn h2
  · have : okL L = false:=by unfold okL; rw [decide_eq_false hn]; rfl
    rw [this]
    exact long_many a L.length c w (by omega)
def okP (X : List ByteArray) : Bool:=X.all fun x=>decide (x.size <= 70)
def okE (e : Ent) : Bool:=decide (e.1.1.size <= 70) && decide (e.1.2.size <= 60) && okL e.2.1 && decide (e.2.2.1.length <= 15) && okP e.2.2.1
def okN (n : Nat) : Bool:=decide (n <= 30) || decide (n = 101)
def okI (L : List Ent) : Bool:=okN L.length && L.all okE
def pfxE (L : List Ent) (k : Nat) : Bool:=(L.take k).all okE
theorem okE_next {L : List Ent} {k : Nat} (hk : k < L.length) (h : pfxE L k = true) (hm : okE L[k] = true) : pfxE L (k + 1) = true:=by
  unfold pfxE at h ⊢
  rw [List.take_succ_eq_append_getElem hk,List.all_append,h]
  simp [hm]
theorem okE_not {L : List Ent} {k : Nat} (hk : k < L.length) (hm : okE L[k] = false) : L.all okE = false:=by
  cases e : L.all okE
  · rfl
  · have:=List.all_eq_true.1 e L[k] (List.getElem_mem hk)
    rw [hm] at this; cases this
theorem okP_next {X : List ByteArray} {k : Nat} (hk : k < X.length) (h : okP (X.take k) = true) (hm : X[k].size <= 70) : okP (X.take (k + 1)) = true:=by
  unfold okP at h ⊢
  rw [List.take_succ_eq_append_getElem hk,List.all_append,h]
  simp [hm]
theorem okP_not {X : List ByteArray} {k : Nat} (hk : k < X.length) (hm : ¬ X[k].size <= 70) : okP X = false:=by
  cases e : okP X
  · rfl
  · have:=List.all_eq_true.1 e X[k] (List.getElem_mem hk)
    exact absurd (of_decide_eq_true this) hm
theorem longI_many (a : Option Addr) (n c : Nat) (w : World) (h : okN n = false) : Calls Tryz.prog 16 #[.slice a n c] w fun e w'=>e = .returned (.int .i64 1) /\ Below w.heap.size w w':=by
  unfold okN at h
  rw [Bool.or_eq_false_iff] at h
  have h1:=of_decide_eq_false h.1
  have h2:=of_decide_eq_false h.2
  have q1 : (30 : Int) < (n : Int):=by omega
  have q2 : ((n : Int) != 101) = true:=bne_iff_ne.2 (by omega)
  clear h h1 h2
  go_enter Tryz.func16,Tryz.ntmps16
  go_wp2_with fail
  go_ret
  exact ⟨rfl,Below.refl _ _⟩
theorem okN_yes {n : Nat} (h : okN n = true) : ¬ (30 : Int) < (n : Int) \/ ((30 : Int) < (n : Int) /\ ((n : Int) != 101) = false):=by
  unfold okN at h
  rw [Bool.or_eq_true] at h
  rcases h with h | h
  · left; have:=of_decide_eq_true h; omega
  · right
    have:=of_decide_eq_true h
    exact ⟨by omega,by rw [bne,beq_iff_eq.2 (show (n : Int) = 101 by omega)]; rfl⟩
set_option maxHeartbeats 8000000 in
set_option maxRecDepth 100000 in
theorem longI_any (Q : List Raw) (L : List Ent) (v : Value) (w : World) (I : Ixs w v Q L) : Calls Tryz.prog 16 #[v] w fun e w'=>e = .returned (.int .i64 (if okI L then 0 else 1)) /\ Below w.heap.size w w':=by
  obtain ⟨a,c,rfl,_,hs,hc⟩:=id I.es
  by_cases hn : okN Q.length = true
  · have HO:=hid (show okI L = L.all okE by unfold okI; rw [<- I.ln,hn,Bool.true_and])
    generalize hr : (if okI L then (0 : Int) else 1) = r
    have HR:=hid hr
    have HI:=hid I
    have hln:=I.ln
    have hqn : Q.length <= 101:=by
      unfold okN at hn
      rw [Bool.or_eq_true] at hn
      rcases hn with h | h
      · have:=of_decide_eq_true h; omega
      · have:=of_decide_eq_true h; omega
    have HC:=hid hc
    have HSL:=hid hs
    clear I hr hc hs
    rcases okN_yes hn with h0 | ⟨h0,h0'⟩
    all_goals
      clear hn
      go_enter Tryz.func16,Tryz.ntmps16
      go_wp2_with fail
      go_loopw [3] (fun i wr=>∃ k : Nat,k <= L.length /\ i = .int .i64 k /\ Hid (pfxE L k = true) /\ Hid (Below w.heap.size w wr)) (fun i _=>L.length - (intOf i).toNat)
      case atStart=>exact ⟨0,Nat.zero_le _,rfl,hid rfl,hid (Below.refl _ _)⟩
      case round=>
        obtain ⟨k,hk,rfl,HA,HB⟩:=hrel
        by_cases hlt : k < L.length
        · have hkq : k < Q.length:=by omega
          have hO:=HI.out.ok k hkq hlt
          obtain ⟨b,o,ha,hcc⟩:=HC.out (by intro h; rw [h] at hkq; simp at hkq)
          subst ha
          obtain ⟨y0,y1,y2,y3,y4⟩:=hcc k hkq
          have x0:=cell_below HB.out y0
          have x1:=cell_below HB.out y1
          have x2:=cell_below HB.out y2
          have x3:=cell_below HB.out y3
          have y3':=y3
          have hkI : (k : Int) < (Q.length : Int):=by omega
          have HLT:=hid hlt
          have HN:=hid (fun h=>okE_next hlt HA.out h)
          have HXX:=hid (fun h=>okE_not hlt h)
          clear hcc y0 y1 y2 y3 y4
          generalize L[k] = e at *
          generalize Q[k] = r at *
          clear hlt hkq
          obtain ⟨⟨p,q⟩,rv,pv,bk⟩:=r
          obtain ⟨⟨p',q'⟩,eR,eP,bk'⟩:=e
          obtain ⟨hm,hrq,hpk,_⟩:=hO
          simp only at hm hrq hpk x0 x1 x2 x3 y3'
          obtain ⟨rfl,rfl⟩ : p = p' /\ q = q':=by injection hm with h1 h2; exact ⟨h1,h2⟩
          have HL:=hid (long_any eR rv wr (hrq.below HB.out))
          obtain ⟨ra,rc,hrv,_⟩:=id hrq
          obtain ⟨pa,pc,hpv,_,hpc⟩:=id hpk
          subst hrv
          subst hpv
          have HPK:=hid hpc
          clear hm hrq hpk hpc
          have HE:=hid (show okE ((p,q),eR,eP,bk') = (decide (p.size <= 70) && decide (q.size <= 60) && okL eR && decide (eP.length <= 15) && okP eP) from rfl)
          by_cases h1 : p.size <= 70
          · have q1 : decide ((70 : Int) < (p.size : Int)) = false:=decide_eq_false (by omega)
            by_cases h2 : q.size <= 60
            · have q2 : decide ((60 : Int) < (q.size : Int)) = false:=decide_eq_false (by omega)
              cases h3 : okL eR
              · have HX:=hid (HXX.out (by rw [HE.out,h3,Bool.and_false,Bool.false_and,Bool.false_and]))
                rw [h3] at HL
                clear h1 h2 h3
                go_wp2_with fail
                refine HL.out.mono ?_
                rintro e w1 ⟨rfl,rfl⟩
                go_wp2_with fail
                go_ret
                exact ⟨by rw [<- HR.out,HO.out,HX.out]; rfl,HB.out⟩
              · rw [h3] at HL
                by_cases h4 : eP.length <= 15
                · have q4 : decide ((15 : Int) < (eP.length : Int)) = false:=decide_eq_false (by omega)
                  have HE2:=hid (show okE ((p,q),eR,eP,bk') = okP eP by rw [HE.out,decide_eq_true h1,decide_eq_true h2,h3,decide_eq_true h4]; rfl)
                  have hp15:=h4
                  clear h1 h2 h3 h4
                  go_wp2_with fail
                  refine HL.out.mono ?_
                  rintro e w1 ⟨rfl,rfl⟩
                  go_wp2_with fail
                  go_loopw [4] (fun i wr'=>∃ k' : Nat,k' <= eP.length /\ i = .int .i64 k' /\ Hid (okP (eP.take k') = true) /\ Hid (Below w.heap.size w wr')) (fun i _=>eP.length - (intOf i).toNat)
                  case atStart=>exact ⟨0,Nat.zero_le _,rfl,hid rfl,HB⟩
                  case round=>
                    obtain ⟨k',hk',rfl,HA',HBq⟩:=hrel
                    have x3':=cell_below HBq.out y3'
                    by_cases hlt' : k' < eP.length
                    · obtain ⟨b',o',ha',hp'⟩:=HPK.out (by intro h; rw [h] at hlt'; simp at hlt')
                      subst ha'
                      have z:=cell_below HBq.out (hp' k' hlt')
                      have hkI' : (k' : Int) < (eP.length : Int):=by omega
                      have HLT':=hid hlt'
                      have HN':=hid (fun h=>okP_next hlt' HA'.out h)
                      have HX':=hid (fun h=>okP_not hlt' h)
                      generalize eP[k'] = x at *
                      clear hp' hlt'
                      by_cases h5 : x.size <= 70
                      · have q5 : ¬ (70 : Int) < (x.size : Int):=by omega
                        have HN2:=hid (HN'.out h5)
                        clear h5
                        go_wp2_with fail
                        go_roundw
                        case rel=>exact ⟨k' + 1,by have:=HLT'.out; omega,by go_num,HN2,HBq⟩
                        case measure=>have:=HLT'.out; simp [intOf]; omega
                      · have q5 : (70 : Int) < (x.size : Int):=by omega
                        have HX:=hid (HXX.out (by rw [HE2.out,HX'.out h5]))
                        clear h5
                        go_wp2_with fail
                        go_ret
                        exact ⟨by rw [<- HR.out,HO.out,HX.out]; rfl,HBq.out⟩
                    · have HT':=hid (show okP eP = true by have:=HA'.out; rw [List.take_of_length_le (by omega)] at this; exact this)
                      have HN2:=hid (HN.out (by rw [HE2.out,HT'.out]))
                      have hkI' : ¬ (k' : Int) < (eP.length : Int):=by omega
                      clear hlt'
                      go_wp2_with fail
                      go_roundw
                      case rel=>first | exact ⟨k + 1,by have:=HLT.out; omega,by go_num,HN2,HBq⟩ | exact ⟨k + 1,by have:=HLT.out; omega,by omega,HN2⟩
                      case measure=>have:=HLT.out; simp [intOf]; omega
                · have q4 : decide ((15 : Int) < (eP.length : Int)) = true:=decide_eq_true (by omega)
                  have HX:=hid (HXX.out (by rw [HE.out,decide_eq_false h4,Bool.and_false,Bool.false_and]))
                  clear h1 h2 h3 h4
                  go_wp2_with fail
                  refine HL.out.mono ?_
                  rintro e w1 ⟨rfl,rfl⟩
                  go_wp2_with fail
                  go_ret
                  exact ⟨by rw [<- HR.out,HO.out,HX.out]; rfl,HB.out⟩
            · have q2 : decide ((60 : Int) < (q.size : Int)) = true:=decide_eq_true (by omega)
              have HX:=hid (HXX.out (by rw [HE.out,decide_eq_false h2,Bool.and_false,Bool.false_and,Bool.false_and,Bool.false_and]))
              clear h1 h2
              go_wp2_with fail
              go_ret
              exact ⟨by rw [<- HR.out,HO.out,HX.out]; rfl,HB.out⟩
          · have q1 : decide ((70 : Int) < (p.size : Int)) = true:=decide_eq_true (by omega)
            have HX:=hid (HXX.out (by rw [HE.out,decide_eq_false h1,Bool.false_and,Bool.false_and,Bool.false_and,Bool.false_and]))
            clear h1
            go_wp2_with fail
            go_ret
            exact ⟨by rw [<- HR.out,HO.out,HX.out]; rfl,HB.out⟩
        · have HT:=hid (show L.all okE = true by have:=HA.out; unfold pfxE at this; rw [List.take_of_length_le (by omega)] at this; exact this)
          have hkI : ¬ (k : Int) < (Q.length : Int):=by omega
          go_wp2_with fail
          go_ret
          exact ⟨by rw [<- HR.out,HO.out,HT.out]; rfl,HB.out⟩
  · have hf : okN Q.length = false:=by simpa using hn
    have : okI L = false:=by unfold okI; rw [<- I.ln,hf]; rfl
    rw [this]
    exact longI_many a Q.length c w hf
def EmT (v : Value) (X : List ByteArray) : Prop:=∀ a c,v = .slice a X.length c -> X = [] -> (Value.slice a 0 c = .slice none 0 0 \/ ∃ a',Value.slice a 0 c = .slice (some a') 0 c)
theorem packs_run (X : List ByteArray) (pv : Value) (W : World) (B : Nat) (hB : B <= W.heap.size) (hn : X.length <= 1000) (h : TxAt W pv X) (he : EmT pv X) :
    ∃ v' W',(Builtin.append_ #[43,43] 43 #[.slice none 0 0,pv]).run Tryz.prog W = .ok v' W' /\ W'.ownsRow B 9 1 v' X.length (X.map Value.string) /\ W.grownBy W' none:=by
  obtain ⟨i0,hi,hz0,hz1,hz2⟩:=info_parts infoStr
  obtain ⟨a,c,rfl,hc,h2⟩:=h
  cases X with
  | nil=>
    rcases he a c rfl rfl with hz | ⟨a',hz⟩
    · refine ⟨.slice none 0 0,W,?_,World.ownsRow_nil _ _ _ _,⟨rfl,rfl,rfl,Nat.le_refl _,fun _ _ _=>rfl⟩⟩
      show (Builtin.append_ #[43,43] 43 #[.slice none 0 0,.slice a 0 c]).run Tryz.prog W = _
      rw [hz]
      simp [Builtin.append_,run_underlying Tryz.underlying43,Builtin.lenOf,Builtin.firstCells,Go.sizeOf,typeInfo,hi]
    · refine ⟨.slice none 0 0,W,?_,World.ownsRow_nil _ _ _ _,⟨rfl,rfl,rfl,Nat.le_refl _,fun _ _ _=>rfl⟩⟩
      show (Builtin.append_ #[43,43] 43 #[.slice none 0 0,.slice a 0 c]).run Tryz.prog W = _
      rw [hz]
      have hl : (loadCells a' 0).run Tryz.prog W = .ok #[] W:=by simpa using run_loadCells_list (P:=Tryz.prog) W a' [] (by simp)
      simp [Builtin.append_,run_underlying Tryz.underlying43,Builtin.lenOf,Builtin.firstCells,Go.sizeOf,typeInfo,hi,hl]
  | cons x r=>
    obtain ⟨b,o,rfl,hcell⟩:=h2 (by simp)
    obtain ⟨g,cap,w',hr,h3,h4,_,_⟩:=run_append_lies (P:=Tryz.prog) W 43 43 B 9 i0 (.string ByteArray.empty) 1 16 Tryz.underlying43 hi hz0 hz1 hz2 rfl (by decide) (.slice none 0 0) 0 [] (World.ownsRow_nil _ _ _ _)
      ⟨b,o,none⟩ (x :: r).length c ((x :: r).map Value.string) (by simp) (fun j u hj=>by
        rw [Addr.add_lit]
        obtain ⟨hj1,hj2⟩:=List.getElem?_eq_some_iff.1 hj
        have hj3 : j < (x :: r).length:=by simpa using hj1
        have:=hcell j hj3
        rw [this,<- hj2]; exact congrArg some (List.getElem_map ..).symm) (fun u hu=>by
        obtain ⟨y,_,rfl⟩:=List.mem_map.1 hu
        rfl) (by simp) (by unfold maxLen; omega) (by omega) hB W.heap.size rfl
    rw [Nat.zero_add,List.nil_append] at h3
    rw [Nat.zero_add] at hr
    exact ⟨_,_,hr,h3,h4⟩
theorem own_none {W W3 : World} {B k n : Nat} {e : TypeId} {v : Value} {xs : List Value} (h : W.ownsRow B e k v n xs) (hg : W.grownBy W3 none) : W3.ownsRow B e k v n xs:=by
  obtain ⟨hl,h | ⟨g,cap,cur,e1,e2,e3,e4,e5,e6,e7⟩⟩:=h
  · exact ⟨hl,Or.inl h⟩
  · refine ⟨hl,Or.inr ⟨g,cap,cur,e1,e2,?_,e4,e5,e6,e7⟩⟩
    rw [hg.block g (lt_of_blk e3) (by simp)]; exact e3
theorem OwnE.noneg {B : Nat} {w w' : World} {r : Raw} {e : Ent} (h : OwnE B w r e) (hg : w.grownBy w' none) : OwnE B w' r e:=⟨h.m,own_none h.rq hg,own_none h.pk hg,h.bk⟩
theorem OwnI.ixs {B : Nat} {w : World} {v : Value} {Q : List Raw} {L : List Ent} (h : OwnI B w v Q L) : Ixs w v Q L:=⟨own_es h.sl h.row,h.ln,fun j h1 h2=>(h.es j h1 h2).ok⟩
theorem OwnI.noneg {B : Nat} {w w' : World} {v : Value} {Q : List Raw} {L : List Ent} (h : OwnI B w v Q L) (hg : w.grownBy w' none) : OwnI B w' v Q L:=⟨h.ln,own_none h.row hg,fun j h1 h2=>(h.es j h1 h2).noneg hg⟩
def EmI (Q : List Raw) (L : List Ent) : Prop:=∀ j (h : j < Q.length) (h' : j < L.length),Em Q[j].2.1 L[j].2.1 /\ EmT Q[j].2.2.1 L[j].2.2.1
set_option maxHeartbeats 8000000 in
set_option maxRecDepth 100000 in
theorem ownI_any (Q : List Raw) (L : List Ent) (v : Value) (w : World) (hn : L.length <= 1000) (I : Ixs w v Q L) (em : EmI Q L) (hf : ∀ e,e ∈ L -> Fits e) :
    Calls Tryz.prog 18 #[v] w fun e w'=>∃ u Q',e = .returned u /\ OwnI w.heap.size w' u Q' L /\ Below w.heap.size w w':=by
  obtain ⟨i0,hi0,hz0,hz1,hz2⟩:=info_parts infoEnt
  obtain ⟨a,c,rfl,_,hs,hc⟩:=id I.es
  have HC:=hid hc
  have HSL:=hid hs
  have HI:=hid I
  have HEM:=hid em
  have HF:=hid hf
  have hln:=I.ln
  rw [hln]
  clear I hc hs em hf
  go_enter Tryz.func18,Tryz.ntmps18
  go_wp2_with fail
  go_loopw [3,4] (fun ov i wr=>∃ k : Nat,k <= L.length /\ i = .int .i64 k /\ Hid (∃ Q',OwnI w.heap.size wr ov Q' (L.take k)) /\ Hid (Below w.heap.size w wr)) (fun _ i _=>L.length - (intOf i).toNat)
  case atStart=>exact ⟨0,Nat.zero_le _,rfl,hid ⟨[],rfl,World.ownsRow_nil _ _ _ _,fun j h=>absurd h (Nat.not_lt_zero _)⟩,hid (Below.refl _ _)⟩
  case round=>
    obtain ⟨k,hk,rfl,HO,HB⟩:=hrel
    by_cases hlt : k < L.length
    · have hkq : k < Q.length:=by omega
      have hO:=HI.out.ok k hkq hlt
      have hE:=HEM.out k hkq hlt
      have HFF:=hid (HF.out L[k] (List.getElem_mem hlt))
      obtain ⟨Q',hQ'⟩:=HO.out
      have HQ:=hid hQ'
      have hql : Q'.length = k:=by rw [hQ'.ln,List.length_take]; omega
      obtain ⟨b,o,ha,hcc⟩:=HC.out (by intro h; rw [h] at hkq; simp at hkq)
      subst ha
      obtain ⟨y0,y1,y2,y3,y4⟩:=hcc k hkq
      have x0:=cell_below HB.out y0
      have x1:=cell_below HB.out y1
      have x2:=cell_below HB.out y2
      have x3:=cell_below HB.out y3
      have x4:=cell_below HB.out y4
      have hkI : (k : Int) < (L.length : Int):=by omega
      have HLT:=hid hlt
      have HM:=hid (fun (W W' : World) (u u' : Value) (r : Raw) (h : OwnI w.heap.size W u Q' (L.take k)) (he : OwnE w.heap.size W r L[k]) hg ho=>OwnI.more (w':=W') (v':=u') hlt h he hg ho)
      have hsl:=HSL.out Q[k] (List.getElem_mem hkq)
      have hnb : u3.ownBlock ≠ some wr.heap.size:=fun hh=>Nat.lt_irrefl _ (hQ'.row.lt _ hh).2
      clear hcc y0 y1 y2 y3 y4 hQ' HO
      generalize L[k] = e at *
      generalize Q[k] = r at *
      clear hlt hkq
      obtain ⟨⟨p,q⟩,rv,pv,bk⟩:=r
      obtain ⟨⟨p',q'⟩,eR,eP,bk'⟩:=e
      obtain ⟨hm,hrq,hpk,hbk⟩:=hO
      simp only at hm hrq hpk hbk x0 x1 x2 x3 x4 hE
      subst hbk
      obtain ⟨rfl,rfl⟩ : p = p' /\ q = q':=by injection hm with h1 h2; exact ⟨h1,h2⟩
      have HRQ:=hid (hrq.below HB.out)
      have HPK:=hid (hpk.below HB.out)
      have HEE:=hid hE
      obtain ⟨⟨ra,rn,rc,hrv⟩,pa,pn,pc,hpv⟩:=hsl
      simp only at hrv hpv
      subst hrv
      subst hpv
      clear hm hrq hpk hE
      have HB1:=hid (HB.out.alloc HB.out.size (.cells #[.string p,.string q,.slice ra rn rc,.slice pa pn pc,.bool bk] 45))
      have HBx:=hid ((Below.refl wr.heap.size wr).alloc (Nat.le_refl _) (.cells #[.string p,.string q,.slice ra rn rc,.slice pa pn pc,.bool bk] 45))
      have HQ1:=hid (HQ.out.below HBx.out)
      have HOM:=hid (ownM_any _ eR _ (Nat.le_trans HFF.out.rq (by decide)) (HRQ.out.below HBx.out) HEE.out.1)
      go_wp2_with fail
      refine HOM.out.mono ?_
      rintro e w1 ⟨u,rfl,hown,-,hb⟩
      have HU:=hid (own_baseN hown (show w.heap.size <= _ from Nat.le_trans HB.out.size (by simp)))
      have HB2:=hid (HB1.out.trans (hb.mono HB1.out.size))
      have HQ2:=hid (HQ1.out.below hb)
      have HE2:=hid (show w1.heap[wr.heap.size]? = some (.cells #[.string p,.string q,.slice ra rn rc,.slice pa pn pc,.bool bk] 45 (0,0)) by rw [hb.block _ (by simp)]; exact heap_alloc_new wr _)
      have HPK2:=hid (fun x=>HPK.out.below ((HBx.out.trans (hb.mono (by simp))).setCell (p:=⟨wr.heap.size,2,none⟩) (Nat.le_refl _) x))
      have hsz : w.heap.size <= wr.heap.size:=HB.out.size
      have hsz1 : wr.heap.size < w1.heap.size:=by have:=hb.size; simp at this; omega
      obtain ⟨ua,uc,hu⟩:=own_slN hown
      subst hu
      have fz : ∀ o,w1.frozen? ⟨wr.heap.size,o,none⟩ = false:=fun o=>by simp [World.frozen?,HE2.out]
      clear hown hb x0 x1 x2 x3 x4 HOM
      have z0 : w1.cell? ⟨wr.heap.size,0,none⟩ = some (.string p):=by rw [Lib.cell_of_heap HE2.out]; rfl
      have z1 : w1.cell? ⟨wr.heap.size,1,none⟩ = some (.string q):=by rw [Lib.cell_of_heap HE2.out]; rfl
      have z2 : w1.cell? ⟨wr.heap.size,2,none⟩ = some (.slice ra rn rc):=by rw [Lib.cell_of_heap HE2.out]; rfl
      have z3 : w1.cell? ⟨wr.heap.size,3,none⟩ = some (.slice pa pn pc):=by rw [Lib.cell_of_heap HE2.out]; rfl
      have z4 : w1.cell? ⟨wr.heap.size,4,none⟩ = some (.bool bk):=by rw [Lib.cell_of_heap HE2.out]; rfl
      have HRUN:=hid (packs_run eP (.slice pa pn pc) (w1.setCell ⟨wr.heap.size,2,none⟩ (.slice ua eR.length uc)) w.heap.size (by simp [World.setCell]; omega) HFF.out.pk (HPK2.out _) HEE.out.2)
      obtain ⟨pv',w3,hrun,hown3,hg3⟩:=HRUN.out
      have HRR:=hid hrun
      have HB3:=hid ((HB2.out.setCell (p:=⟨wr.heap.size,2,none⟩) hsz (.slice ua eR.length uc)).grown hg3 (by simp [World.setCell]; omega) (fun k hk=>by cases hk))
      have HE3:=hid (show w3.heap[wr.heap.size]? = some (.cells #[.string p,.string q,.slice ua eR.length uc,.slice pa pn pc,.bool bk] 45 (0,0)) by
        rw [hg3.block _ (by simp [World.setCell]; omega) (by simp)]; exact set_block HE2.out)
      have HPV:=hid hown3
      have HUU:=hid (own_none (own_setN HU.out HE2.out (o:=2) (x:=.slice ua eR.length uc) (by decide)) hg3)
      have HQ3:=hid ((HQ2.out.set HE2.out hnb).noneg hg3)
      have hsz3 : wr.heap.size < w3.heap.size:=lt_of_blk HE3.out
      obtain ⟨va,vc,hv⟩:=own_slN hown3
      subst hv
      clear hown3 hg3 HRUN hrun
      have fz3 : ∀ o,w3.frozen? ⟨wr.heap.size,o,none⟩ = false:=fun o=>by simp [World.frozen?,HE3.out]
      have y0 : w3.cell? ⟨wr.heap.size,0,none⟩ = some (.string p):=by rw [Lib.cell_of_heap HE3.out]; rfl
      have y1 : w3.cell? ⟨wr.heap.size,1,none⟩ = some (.string q):=by rw [Lib.cell_of_heap HE3.out]; rfl
      have y2 : w3.cell? ⟨wr.heap.size,2,none⟩ = some (.slice ua eR.length uc):=by rw [Lib.cell_of_heap HE3.out]; rfl
      have y3 : w3.cell? ⟨wr.heap.size,3,none⟩ = some (.slice pa pn pc):=by rw [Lib.cell_of_heap HE3.out]; rfl
      have y4 : w3.cell? ⟨wr.heap.size,4,none⟩ = some (.bool bk):=by rw [Lib.cell_of_heap HE3.out]; rfl
      have HB4:=hid (HB3.out.setCell (p:=⟨wr.heap.size,3,none⟩) hsz (.slice va eP.length vc))
      have HQ4:=hid (HQ3.out.set (o:=3) (x:=.slice va eP.length vc) HE3.out hnb)
      have HEN:=hid (show OwnE w.heap.size (w3.setCell ⟨wr.heap.size,3,none⟩ (.slice va eP.length vc)) ((p,q),.slice ua eR.length uc,.slice va eP.length vc,bk) ((p,q),eR,eP,bk) from
        ⟨rfl,own_setN HUU.out HE3.out (by decide),own_setN HPV.out HE3.out (by decide),rfl⟩)
      have hk1000 : k < 1000:=by omega
      go_wp2_with (at_builtin; first
        | refine wpList_append_own _ rfl _ _ 22 rfl w.heap.size 45 i0 _ 5 88 Tryz.underlying22 hi0 hz0 hz1 hz2 rfl (by decide) _ _ _ rfl (HQ4.out.row.alloc _) ⟨w3.heap.size,0,none⟩ 1 1 [.string p,.string q,.slice ua eR.length uc,.slice va eP.length vc,.bool bk] rfl rfl ?c1 ?c2 ?c3 ?c4 ?c5 ?_
        | refine Lib.wpList_append_run _ rfl _ _ _ _ rfl _ _ rfl rfl _ _ HRR.out ?_)
      case c1=>exact World.news_of_block (cs:=#[.string p,.string q,.slice ua eR.length uc,.slice va eP.length vc,.bool bk]) (t:=45) (fr:=(0,0)) (by have:=heap_alloc_new (w3.setCell ⟨wr.heap.size,3,none⟩ (.slice va eP.length vc)) (.cells #[.string p,.string q,.slice ua eR.length uc,.slice va eP.length vc,.bool bk] 45); simpa [World.setCell] using this)
      case c2=>
        intro u hu
        simp at hu
        rcases hu with rfl | rfl | rfl | rfl | rfl <;> rfl
      case c3=>unfold maxLen; omega
      case c4=>omega
      case c5=>simp [World.setCell]; omega
      intro v' w5 hown hgrow _
      have HBA:=hid (HB4.out.alloc HB4.out.size (.cells #[.string p,.string q,.slice ua eR.length uc,.slice va eP.length vc,.bool bk] 45))
      have HB5:=hid (HBA.out.grown hgrow HBA.out.size (fun k hk=>(HQ4.out.row.lt k hk).1))
      have HBy:=hid ((Below.refl _ (w3.setCell ⟨wr.heap.size,3,none⟩ (.slice va eP.length vc))).alloc (Nat.le_refl _) (.cells #[.string p,.string q,.slice ua eR.length uc,.slice va eP.length vc,.bool bk] 45))
      have HR:=hid (HM.out _ _ _ _ ((p,q),.slice ua eR.length uc,.slice va eP.length vc,bk) (HQ4.out.below HBy.out) (HEN.out.below HBy.out) hgrow (by rw [hql]; exact hown))
      clear hown hgrow y0 y1 y2 y3 y4 fz3 z0 z1 z2 z3 z4 fz
      go_wp2_with fail
      go_roundw
      case rel=>exact ⟨k + 1,by have:=HLT.out; omega,by go_num,hid ⟨_,HR.out⟩,HB5⟩
      case measure=>have:=HLT.out; simp [intOf]; omega
    · have HTR:=hid (show L.take k = L from List.take_of_length_le (by omega))
      have hkI : ¬ (k : Int) < (L.length : Int):=by omega
      clear hlt
      go_wp2_with fail
      go_ret
      obtain ⟨Q',hQ'⟩:=HO.out
      rw [HTR.out] at hQ'
      exact ⟨_,rfl,⟨Q',hQ'⟩,HB.out⟩
open Go.ChangeShapes Go.WideShapes Go.ChangeAt Go.ChangeMaps Go.Joins
theorem oCellsEnt : Tryz.prog.cellsOf 45 = 5:=by kernel_rfl
theorem oCellsMods : Tryz.prog.cellsOf 23 = 1:=by kernel_rfl
theorem oCellsSstr : Tryz.prog.cellsOf 43 = 1:=by kernel_rfl
theorem oCellsBool : Tryz.prog.cellsOf 4 = 1:=by kernel_rfl
set_option maxRecDepth 100000 in
theorem open_tx {H : Type} {enc : TypeId × Value -> H} {w : World} {base fuel : Nat} {held : Bool} {v : Value} {x : DataW H × List MemPlace}
    (h : DataW.trod enc Tryz.prog w base (fun _=>true) held fuel 43 [v] = some x) : ∃ X,TxAt w v X /\ EmT v X:=by
  rcases open_strings Tryz.underlying43 Tryz.underlying9 oCellsStr h with ⟨hcs,_⟩ | ⟨a,len,cap,ss,hcs,_,hl,_,hm,_,hx,_⟩
  · simp only [List.cons.injEq,and_true] at hcs
    subst hcs
    exact ⟨[],⟨none,0,rfl,Nat.le_refl _,fun h=>absurd rfl h⟩,fun a c e _=>Or.inl e.symm⟩
  · simp only [List.cons.injEq,and_true] at hcs
    subst hcs
    simp only [if_true] at hm
    have hlen : (ss.take len).length = len:=by rw [List.length_take]; omega
    refine ⟨ss.take len,⟨some a,cap,by rw [hlen],by rw [hlen]; exact hl,fun hne=>?_⟩,fun a' c e h0=>?_⟩
    · have h0l : 0 < len:=by rw [<- hlen]; exact List.length_pos_iff.2 hne
      obtain ⟨b,off,spot⟩:=a
      have hspot : spot = none:=by simpa [Addr.add] using World.cell?_spot (hx 0 (by omega))
      subst hspot
      refine ⟨b,off,rfl,fun j hj=>?_⟩
      have hj2 : j < len:=by rw [<- hlen]; exact hj
      have g:=hx j (by omega)
      rw [Addr.add_lit,List.getD_eq_getElem?_getD,List.getElem?_eq_getElem (by omega)] at g
      rw [List.getElem_take]
      exact g
    · have hz : len = 0:=by rw [<- hlen,h0]; rfl
      rw [hlen] at e
      subst hz
      right
      injection e with e1 e2 e3
      exact ⟨a,by rw [<- e1]⟩
set_option maxRecDepth 100000 in
theorem open_ent {H : Type} {enc : TypeId × Value -> H} {w : World} {base fuel : Nat} {held : Bool} {cs : List Value} {x : DataW H × List MemPlace}
    (h : DataW.trod enc Tryz.prog w base (fun _=>true) held fuel 45 cs = some x) : ∃ (r : Raw) (e : Ent),cs = rowR r /\ slR r /\ RawOk w r e /\ Em r.2.1 e.2.1 /\ EmT r.2.2.1 e.2.2.1:=by
  obtain ⟨y0,y1,y2,y3,n,_,hl,h0,h1,h2,h3⟩:=trod_struct4 Tryz.underlying45 h
  rw [oCellsEnt] at hl
  match cs,hl with
  | [c0,c1,c2,c3,c4],_=>
    simp only [oCellsMod,oCellsMods,oCellsSstr,oCellsBool,List.drop,List.take] at h0 h1 h2 h3
    obtain ⟨z0,z1,n2,_,_,k0,k1⟩:=trod_struct2 Tryz.underlying25 h0
    simp only [oCellsStr,List.drop,List.take] at k0 k1
    obtain ⟨s0,e0,_,_⟩:=DataW.trod_string Tryz.underlying9 k0
    obtain ⟨s1,e1,_,_⟩:=DataW.trod_string Tryz.underlying9 k1
    obtain ⟨R,hR,hER⟩:=open_ms h1
    obtain ⟨X,hX,hEX⟩:=open_tx h2
    obtain ⟨b,e4,_⟩:=DataW.trod_bool Tryz.underlying4 h3
    simp only [List.cons.injEq,and_true] at e0 e1 e4
    subst e0 e1 e4
    refine ⟨((s0,s1),c2,c3,b),((s0,s1),R,X,b),rfl,⟨?_,?_⟩,⟨rfl,hR,hX,rfl⟩,hER,hEX⟩
    · obtain ⟨a,c,e,_⟩:=hR; exact ⟨_,_,_,e⟩
    · obtain ⟨a,c,e,_⟩:=hX; exact ⟨_,_,_,e⟩
set_option maxRecDepth 100000 in
theorem open_ix {H : Type} {enc : TypeId × Value -> H} {w : World} {base fuel : Nat} {held : Bool} {v : Value} {x : DataW H × List MemPlace}
    (h : DataW.trod enc Tryz.prog w base (fun _=>true) held fuel 22 [v] = some x) : ∃ Q L,Ixs w v Q L /\ EmI Q L:=by
  rcases Go.Deep.open_slice Tryz.underlying22 h with ⟨hcs,_⟩ | ⟨a,len,cap,m,n,D,Pl,hcs,_,hl,_,hm,_,hx⟩
  · simp only [List.cons.injEq,and_true] at hcs
    subst hcs
    exact ⟨[],[],⟨⟨none,0,rfl,Nat.le_refl _,fun r hr=>(by cases hr),fun h=>absurd rfl h⟩,rfl,fun j h1=>absurd h1 (Nat.not_lt_zero _)⟩,fun j h1=>absurd h1 (Nat.not_lt_zero _)⟩
  · simp only [List.cons.injEq,and_true] at hcs
    subst hcs
    simp only [if_true] at hm
    subst hm
    have each : ∀ i,i < len -> ∃ q : Raw × Ent,(∀ c (hc : c < 5),w.cell? (a.add (i * 5 + c)) = (rowR q.1)[c]?) /\ slR q.1 /\ RawOk w q.1 q.2 /\ Em q.1.2.1 q.2.2.1 /\ EmT q.1.2.2.1 q.2.2.2.1:=fun i hi=>by
      obtain ⟨cs',h1,h2⟩:=hx i (by omega)
      obtain ⟨r,e,hcs,k1,k2,k3,k4⟩:=open_ent h2
      rw [oCellsEnt] at h1
      obtain ⟨_,hlen,hcell⟩:=World.cells?_some h1
      refine ⟨(r,e),fun c hc=>?_,k1,k2,k3,k4⟩
      have:=hcell c (by omega)
      rw [Go.Deep.add_add] at this
      rw [this,hcs]
    obtain ⟨q,hq⟩:=Go.Deep.choose_lt each
    have hlq : ((List.range len).map fun i=>(q i).1).length = len:=by simp
    have hll : ((List.range len).map fun i=>(q i).2).length = len:=by simp
    refine ⟨(List.range len).map fun i=>(q i).1,(List.range len).map fun i=>(q i).2,⟨⟨some a,m,by rw [hlq],by rw [hlq]; exact hl,fun r hr=>?_,fun hne=>?_⟩,by rw [hlq,hll],fun j h1 h2=>?_⟩,fun j h1 h2=>?_⟩
    · obtain ⟨i,hi,rfl⟩:=List.mem_map.1 hr
      exact (hq i (List.mem_range.1 hi)).2.1
    · have h0l : 0 < len:=by rw [<- hlq]; exact List.length_pos_iff.2 hne
      obtain ⟨b,off,spot⟩:=a
      have g0:=(hq 0 h0l).1 0 (by omega)
      have hspot : spot = none:=by
        have : ∃ u,World.cell? w ((⟨b,off,spot⟩ : Addr).add (0 * 5 + 0)) = some u:=⟨_,g0⟩
        obtain ⟨u,hu⟩:=this
        simpa [Addr.add] using World.cell?_spot hu
      subst hspot
      refine ⟨b,off,rfl,fun j hj=>?_⟩
      have hj2 : j < len:=by rw [<- hlq]; exact hj
      have g:=(hq j hj2).1
      simp only [List.getElem_map,List.getElem_range]
      refine ⟨?_,?_,?_,?_,?_⟩
      · have:=g 0 (by omega); rw [Addr.add_lit] at this; exact this
      · have:=g 1 (by omega); rw [Addr.add_lit] at this; exact this
      · have:=g 2 (by omega); rw [Addr.add_lit] at this; exact this
      · have:=g 3 (by omega); rw [Addr.add_lit] at this; exact this
      · have:=g 4 (by omega); rw [Addr.add_lit] at this; exact this
    · have hj2 : j < len:=by rw [<- hlq]; exact h1
      simp only [List.getElem_map,List.getElem_range]
      exact (hq j hj2).2.2.1
    · have hj2 : j < len:=by rw [<- hlq]; exact h1
      simp only [List.getElem_map,List.getElem_range]
      exact (hq j hj2).2.2.2
end Ve
end Go.Proofs.YtlcffhadobhfkaaGreatDoor
