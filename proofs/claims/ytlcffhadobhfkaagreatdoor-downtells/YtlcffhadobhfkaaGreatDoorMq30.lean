/-
  RmA BoA RefN
-/
import Derived.Test.YtlcffhadobhfkaaGreatDoorMq3
import Derived.Test.YtlcffhadobhfkaaGreatDoorMq2
import Derived.Test.YtlcffhadobhfkaaGreatDoorMq5
import Derived.Test.YtlcffhadobhfkaaGreatDoorMq6
import Derived.Test.YtlcffhadobhfkaaGreatDoorMq9
import Derived.Test.YtlcffhadobhfkaaGreatDoorMq11
import Derived.Test.YtlcffhadobhfkaaGreatDoorMq18
import Derived.Test.YtlcffhadobhfkaaGreatDoorMq19
import Derived.Test.YtlcffhadobhfkaaGreatDoorMq20
import Derived.Test.YtlcffhadobhfkaaGreatDoorMq23
import Derived.Test.YtlcffhadobhfkaaGreatDoorMq16
import Derived.Test.YtlcffhadobhfkaaGreatDoorMq22
import Derived.Test.YtlcffhadobhfkaaGreatDoorMq34
import Derived.Test.YtlcffhadobhfkaaGreatDoorMq39
import Derived.Test.YtlcffhadobhfkaaGreatDoorMq43
import Derived.Test.YtlcffhadobhfkaaGreatDoorMq1
import Derived.Test.YtlcffhadobhfkaaGreatDoorMq45
import Derived.Test.YtlcffhadobhfkaaGreatDoorMq28
import Derived.Test.YtlcffhadobhfkaaGreatDoorMq15
import Derived.Test.YtlcffhadobhfkaaGreatDoorMq25
namespace Go.Proofs.YtlcffhadobhfkaaGreatDoor
open Go.RowKit Go.Maps
namespace Ve
def measM (ag : Value) (o : Option Obj) : Nat:=match ag with
  | .bool false=>0
  | _=>unmW o + 1
set_option maxRecDepth 100000 in
set_option maxHeartbeats 8000000 in
theorem marks_any (Q : List Raw) (L : List Ent) (roots : List Bm) (v rv : Value) (w : World) (hn : L.length ≤ 1000) (hrn : roots.length ≤ 1000000) (sh : ∀ e, e ∈ L → ShE e) (I : Ixs w v Q L) (hr : MsAt w rv roots) (h0 : (chkG Q L roots).1 = 0) :
    Calls Tryz.prog 63 #[v,rv] w fun e w'=>∃ O : List Bool,e = .returned (.slice (some ⟨w.heap.size,0,none⟩) Q.length Q.length) /\ Mks w w' Q L roots O /\ ∀ i (hi : i < (univ L).length) (hi' : i < O.length),O[i] = true ↔ Rch (reqQ Q L) roots (univ L)[i]:=by
  have HLN:=hid I.ln
  have hqn : Q.length <= 1000:=by rw [I.ln]; exact hn
  have HUL:=hid (show (univ L).length = Q.length by rw [I.ln]; simp [univ])
  have HC:=hid (rgt_of I h0).c
  have HRU:=hid (rgt_of I h0).r
  have HFO:=hid (fun m W (h : Below w.heap.size w W)=>findOf_all Q m v W (by omega) (I.below h).es)
  have HIU:=hid (fun m (hm : m ∈ univ L)=>idx_univ I hm)
  have HMR:=hid (fun W (h : Below w.heap.size w W)=>hr.below h)
  have HI:=hid I
  have HSZ:=hid sh
  have HB0:=hid (show Mks w (w.alloc (.cells (bwc (List.replicate Q.length false)) 4)) Q L roots (List.replicate Q.length false) from ⟨(Below.refl w.heap.size w).alloc (Nat.le_refl _) _,heap_new w _,by rw [<- HUL.out]; exact Mk.none _ _ _⟩)
  obtain ⟨a,c,hv1,-⟩:=id I.es
  subst hv1
  obtain ⟨ra,rc,hrv,-⟩:=id hr
  subst hrv
  have hmk:=make_bools Q.length w (by omega)
  clear I hr sh h0 hn
  go_enter Tryz.func63,Tryz.ntmps63
  go_wp2_with fail
  clear hmk
  go_loopw [6] (fun iv wr=>∃ k : Nat,k <= roots.length /\ iv = .int .i64 k /\ Hid (∃ O,Mks w wr Q L roots O /\ ∀ j (h : j < roots.length),j < k -> At1 (univ L) O roots[j])) (fun iv _=>roots.length - (intOf iv).toNat)
  case atStart=>exact ⟨0,Nat.zero_le _,rfl,hid ⟨_,HB0.out,fun j _ h=>absurd h (Nat.not_lt_zero _)⟩⟩
  case round=>
    obtain ⟨k,hk,rfl,HO⟩:=hrel
    obtain ⟨O,hO,hAt⟩:=HO.out
    by_cases hlt : k < roots.length
    · have hkI : (k : Int) < (roots.length : Int):=by omega
      have hk0 : (0 : Int) <= (k : Int):=by omega
      obtain ⟨xb,xo,hxa,y0,y1⟩:=(HMR.out _ hO.bl).cells hlt
      subst hxa
      obtain ⟨n,hnU,e1,e2⟩:=HIU.out roots[k] (HRU.out _ (List.getElem_mem hlt))
      have HF:=hid (HFO.out roots[k] _ hO.bl)
      rw [e1] at HF
      have hnq : n < Q.length:=by rw [<- HUL.out]; exact hnU
      have hnI : (n : Int) < (Q.length : Int):=by omega
      have hn0 : (0 : Int) <= (n : Int):=by omega
      have HLT:=hid hlt
      have hOl : O.length = (univ L).length:=hO.ok.ln
      have HNX:=hid (fun W (hb : Below wr.heap.size wr W)=>show ∃ O',Mks w (W.setCell ⟨w.heap.size,n,none⟩ (.bool true)) Q L roots O' /\ ∀ j (h : j < roots.length),j < k + 1 -> At1 (univ L) O' roots[j] from ⟨O.set n true,(hO.below hb).set hnU (by rw [e2]; exact .root (List.getElem_mem hlt)),fun j h1 h2=>by
        rcases Nat.lt_or_ge j k with h | h
        · exact (hAt j h1 h).set n
        · have : j = k:=by omega
          subst this
          rw [<- e2]; exact At1.new hnU hOl⟩)
      have HCE:=hid (fun W (hb : Below wr.heap.size wr W)=>show W.cell? ⟨w.heap.size,n,none⟩ = some (.bool (O[n]'(by rw [hOl]; exact hnU))) /\ ∀ o,W.frozen? ⟨w.heap.size,o,none⟩ = false from ⟨bwc_at (hO.below hb).hp _,fun o=>Lib.frozen_of_heap (hO.below hb).hp o⟩)
      generalize (O[n]'(by rw [hOl]; exact hnU)) = bo at *
      generalize roots[k] = x at *
      obtain ⟨x1,x2⟩:=x
      clear hlt e1 e2 hO hAt hOl HO hnU
      go_wp2_with fail
      refine HF.out.mono ?_
      rintro e w1 ⟨rfl,hb⟩
      obtain ⟨z0,zf⟩:=HCE.out w1 hb
      have HN2:=hid (HNX.out w1 hb)
      clear hb
      go_wp2_with fail
      go_roundw
      case rel=>first | exact ⟨k + 1,HLT.out,nr_idx k,HN2⟩ | exact ⟨k + 1,HLT.out,nx_idx HLT.out hrn,HN2⟩
      case measure=>first | exact nr_meas HLT.out | exact nx_meas HLT.out hrn
    · have hkI : ¬ (k : Int) < (roots.length : Int) := by omega
      have HO2:=hid (show ∃ O,Mks w wr Q L roots O /\ ∀ m,m ∈ roots -> At1 (univ L) O m from ⟨O,hO,fun m hm=>by
        obtain ⟨j,hj,rfl⟩:=List.getElem_of_mem hm
        exact hAt j hj (by omega)⟩)
      clear hlt hO hAt HO
      go_wp2_with fail
      go_loopw [7] (fun ag wr=>(ag = .bool true \/ ag = .bool false) /\ Hid (∃ O,Mks w wr Q L roots O /\ (∀ m,m ∈ roots -> At1 (univ L) O m) /\ (ag = .bool false -> Cl1 (reqQ Q L) (univ L) O (univ L).length))) (fun ag wr=>measM ag wr.heap[w.heap.size]?)
      case atStart=>
        obtain ⟨O,hO,hA⟩:=HO2.out
        exact ⟨Or.inl rfl,hid ⟨O,hO,hA,fun h=>by cases h⟩⟩
      case round=>
        clear HO2
        obtain ⟨hag,HO3⟩:=hrel
        rcases hag with rfl | rfl
        · obtain ⟨N0, HN0⟩ : ∃ N0, Hid (unmW wr.heap[w.heap.size]? = N0) := ⟨_, hid rfl⟩
          have HO4:=hid (show ∃ O,Mks w wr Q L roots O /\ (∀ m,m ∈ roots -> At1 (univ L) O m) /\ unm O <= N0 /\ Cl1 (reqQ Q L) (univ L) O 0 by
            obtain ⟨O,hO,hA,_⟩:=HO3.out
            exact ⟨O,hO,hA,by rw [<- HN0.out,unmW_is hO.hp]; exact Nat.le_refl _,fun j _ _ h=>absurd h (Nat.not_lt_zero _)⟩)
          clear HO3
          go_wp2_with fail
          go_loopw [7,8] (fun ag iv wr=>(ag = .bool true \/ ag = .bool false) /\ ∃ i : Nat,i <= Q.length /\ iv = .int .i64 i /\ Hid (∃ O,Mks w wr Q L roots O /\ (∀ m,m ∈ roots -> At1 (univ L) O m) /\ unm O <= N0 /\ (ag = .bool true -> unm O < N0) /\ (ag = .bool false -> Cl1 (reqQ Q L) (univ L) O i))) (fun _ iv _=>Q.length - (intOf iv).toNat)
          case atStart=>
            obtain ⟨O,hO,hA,hu,hc⟩:=HO4.out
            exact ⟨Or.inr rfl,0,Nat.zero_le _,rfl,hid ⟨O,hO,hA,hu,(fun h=>by cases h),fun _=>hc⟩⟩
          case round=>
            clear HO4
            obtain ⟨hag,i,hi,rfl,HO5⟩:=hrel
            by_cases hlt : i < Q.length
            · have hiI : (i : Int) < (Q.length : Int):=by omega
              have hi0 : (0 : Int) <= (i : Int):=by omega
              have HLI:=hid hlt
              have hil : i < L.length:=by rw [<- HLN.out]; exact hlt
              have hiU : i < (univ L).length:=by rw [HUL.out]; exact hlt
              have HCE:=hid (fun W (h : Below w.heap.size w W)=>es_cells (HI.out.below h).es hlt)
              have HMS:=hid (fun W (h : Below w.heap.size w W)=>((HI.out.below h).ok i hlt hil).rq)
              have HRQ:=hid (show ∀ (h : i < (univ L).length),reqQ Q L (univ L)[i] = L[i].2.1 from fun h=>req_at HI.out HC.out hil h)
              have hRl:=(HSZ.out L[i] (List.getElem_mem hil)).rn
              have HRX:=hid (show ∀ x,x ∈ L[i].2.1 -> x ∈ univ L from fun x hx=>chk_reqs0 HI.out HC.out _ (List.getElem_mem hiU) x (by rw [HRQ.out]; exact hx))
              generalize (L[i]'hil).2.1 = R at *
              generalize (Q[i]'hlt).2.1 = qv at *
              obtain ⟨qa,qc,hqv,-⟩:=HMS.out w (Below.refl _ _)
              subst hqv
              obtain ⟨eb,eo,hea,-⟩:=HCE.out w (Below.refl _ _)
              subst hea
              have HX2:=hid (fun W (h : Below w.heap.size w W)=>show W.cell? ⟨eb,eo + i * 5 + 2,none⟩ = some (.slice qa R.length qc) by
                obtain ⟨eb',eo',e,h2⟩:=HCE.out W h
                injection e with e
                injection e with e1 e2
                subst e1 e2
                exact h2)
              have HIU2:=hid hiU
              clear hlt hil hiU HCE
              go_wp2_with fail
              go_loopw [7,9] (fun ag kv wr=>(ag = .bool true \/ ag = .bool false) /\ ∃ k : Nat,k <= R.length /\ kv = .int .i64 k /\ Hid (∃ O,Mks w wr Q L roots O /\ (∀ m,m ∈ roots -> At1 (univ L) O m) /\ unm O <= N0 /\ (ag = .bool true -> unm O < N0) /\ (ag = .bool false -> Cl1 (reqQ Q L) (univ L) O i /\ ∀ j (h : j < R.length),j < k -> O[i]? = some true -> At1 (univ L) O R[j]))) (fun _ kv _=>R.length - (intOf kv).toNat)
              case atStart=>
                obtain ⟨O,hO,hA,hu,h1,h2⟩:=HO5.out
                exact ⟨hag,0,Nat.zero_le _,rfl,hid ⟨O,hO,hA,hu,h1,fun h=>⟨h2 h,fun j _ hj=>absurd hj (Nat.not_lt_zero _)⟩⟩⟩
              case round=>
                clear HO5 hag
                obtain ⟨hag,k,hk,rfl,HO6⟩:=hrel
                obtain ⟨O,hO,hA,hu,ht,hf⟩:=HO6.out
                have hOl : O.length = (univ L).length:=hO.ok.ln
                have hiO : i < O.length:=by rw [hOl]; exact HIU2.out
                have z0:=bwc_at hO.hp hiO
                have x2:=HX2.out _ hO.bl
                cases hoi : O[i]
                · rw [hoi] at z0
                  have HE:=hid (show ∃ O,Mks w wr Q L roots O /\ (∀ m,m ∈ roots -> At1 (univ L) O m) /\ unm O <= N0 /\ (u7 = .bool true -> unm O < N0) /\ (u7 = .bool false -> Cl1 (reqQ Q L) (univ L) O (i + 1)) from ⟨O,hO,hA,hu,ht,fun h j hj hj' hji ho m hm=>by
                    rcases Nat.lt_or_ge j i with h1 | h1
                    · exact (hf h).1 j hj hj' h1 ho m hm
                    · have : j = i:=by omega
                      subst this
                      rw [hoi] at ho; cases ho⟩)
                  clear hoi hO hA hu ht hf hOl hiO HO6
                  go_wp2_with fail
                  go_roundw
                  case rel=>first | exact ⟨hag,i + 1,HLI.out,nr_idx i,HE⟩ | exact ⟨hag,i + 1,HLI.out,nx_idx HLI.out (by omega),HE⟩
                  case measure=>first | exact nr_meas HLI.out | exact nx_meas HLI.out (by omega)
                · rw [hoi] at z0
                  have hRi:=hO.ok.so i HIU2.out hiO hoi
                  by_cases hlk : k < R.length
                  · have hkI : (k : Int) < (R.length : Int):=by omega
                    have hk0 : (0 : Int) <= (k : Int):=by omega
                    obtain ⟨xb,xo,hxa,y0,y1⟩:=(HMS.out _ hO.bl).cells hlk
                    subst hxa
                    obtain ⟨n,hnU,e1,e2⟩:=HIU.out R[k] (HRX.out _ (List.getElem_mem hlk))
                    have HF:=hid (HFO.out R[k] _ hO.bl)
                    rw [e1] at HF
                    have hnq : n < Q.length:=by rw [<- HUL.out]; exact hnU
                    have hnI : (n : Int) < (Q.length : Int):=by omega
                    have hn0 : (0 : Int) <= (n : Int):=by omega
                    have hnO : n < O.length:=by rw [hOl]; exact hnU
                    have HLK:=hid hlk
                    have hRn : Rch (reqQ Q L) roots (univ L)[n]:=by
                      rw [e2]
                      exact .step hRi (by rw [HRQ.out]; exact List.getElem_mem hlk)
                    cases hon : O[n]
                    · have HNX:=hid (fun W (hb : Below wr.heap.size wr W)=>show ∃ O',Mks w (W.setCell ⟨w.heap.size,n,none⟩ (.bool true)) Q L roots O' /\ (∀ m,m ∈ roots -> At1 (univ L) O' m) /\ unm O' <= N0 /\ unm O' < N0 from by
                        have hs:=unm_set O n hnO hon
                        exact ⟨O.set n true,(hO.below hb).set hnU hRn,fun m hm=>(hA m hm).set n,by omega,by omega⟩)
                      have HCL:=hid (fun W (hb : Below wr.heap.size wr W)=>show W.cell? ⟨w.heap.size,n,none⟩ = some (.bool false) /\ ∀ o,W.frozen? ⟨w.heap.size,o,none⟩ = false from ⟨by rw [bwc_at (hO.below hb).hp hnO,hon],fun o=>Lib.frozen_of_heap (hO.below hb).hp o⟩)
                      generalize R[k] = x at *
                      obtain ⟨x1,x2'⟩:=x
                      clear hlk e1 e2 hO hA hu ht hf hOl hiO hon hnO hnU hRn hRi hoi HO6
                      go_wp2_with fail
                      refine HF.out.mono ?_
                      rintro e w1 ⟨rfl,hb⟩
                      obtain ⟨t0,tf⟩:=HCL.out w1 hb
                      obtain ⟨O',g1,g2,g3,g4⟩:=HNX.out w1 hb
                      have HN2:=hid (show ∃ O,Mks w (w1.setCell ⟨w.heap.size,n,none⟩ (.bool true)) Q L roots O /\ (∀ m,m ∈ roots -> At1 (univ L) O m) /\ unm O <= N0 /\ (Value.bool true = .bool true -> unm O < N0) /\ (Value.bool true = .bool false -> Cl1 (reqQ Q L) (univ L) O i /\ ∀ j (h : j < R.length),j < k + 1 -> O[i]? = some true -> At1 (univ L) O R[j]) from ⟨O',g1,g2,g3,fun _=>g4,fun h=>by cases h⟩)
                      clear hb g1 g2 g3 g4
                      go_wp2_with fail
                      go_roundw
                      case rel=>first | exact ⟨Or.inl rfl,k + 1,HLK.out,nr_idx k,HN2⟩ | exact ⟨Or.inl rfl,k + 1,HLK.out,nx_idx HLK.out hRl,HN2⟩ | exact ⟨by simp,k + 1,HLK.out,nr_idx k,by simpa using HN2⟩
                      case measure=>first | exact nr_meas HLK.out | exact nx_meas HLK.out hRl
                    · have HNX:=hid (fun W (hb : Below wr.heap.size wr W)=>show ∃ O,Mks w W Q L roots O /\ (∀ m,m ∈ roots -> At1 (univ L) O m) /\ unm O <= N0 /\ (u7 = .bool true -> unm O < N0) /\ (u7 = .bool false -> Cl1 (reqQ Q L) (univ L) O i /\ ∀ j (h : j < R.length),j < k + 1 -> O[i]? = some true -> At1 (univ L) O R[j]) from ⟨O,hO.below hb,hA,hu,ht,fun h=>⟨(hf h).1,fun j h1 h2 h3=>by
                        rcases Nat.lt_or_ge j k with h4 | h4
                        · exact (hf h).2 j h1 h4 h3
                        · have : j = k:=by omega
                          subst this
                          exact ⟨n,hnU,hnO,e2,hon⟩⟩⟩)
                      have HCL:=hid (fun W (hb : Below wr.heap.size wr W)=>show W.cell? ⟨w.heap.size,n,none⟩ = some (.bool true) by rw [bwc_at (hO.below hb).hp hnO,hon])
                      generalize R[k] = x at *
                      obtain ⟨x1,x2'⟩:=x
                      clear hlk e1 e2 hO hA hu ht hf hOl hiO hon hnO hnU hRn hRi hoi HO6
                      go_wp2_with fail
                      refine HF.out.mono ?_
                      rintro e w1 ⟨rfl,hb⟩
                      have t0:=HCL.out w1 hb
                      have HN2:=hid (HNX.out w1 hb)
                      clear hb
                      go_wp2_with fail
                      go_roundw
                      case rel=>first | exact ⟨hag,k + 1,HLK.out,nr_idx k,HN2⟩ | exact ⟨hag,k + 1,HLK.out,nx_idx HLK.out hRl,HN2⟩
                      case measure=>first | exact nr_meas HLK.out | exact nx_meas HLK.out hRl
                  · have hkI : ¬ (k : Int) < (R.length : Int):=by omega
                    have HE:=hid (show ∃ O,Mks w wr Q L roots O /\ (∀ m,m ∈ roots -> At1 (univ L) O m) /\ unm O <= N0 /\ (u7 = .bool true -> unm O < N0) /\ (u7 = .bool false -> Cl1 (reqQ Q L) (univ L) O (i + 1)) from ⟨O,hO,hA,hu,ht,fun h j hj hj' hji ho m hm=>by
                      rcases Nat.lt_or_ge j i with h1 | h1
                      · exact (hf h).1 j hj hj' h1 ho m hm
                      · have : j = i:=by omega
                        subst this
                        rw [HRQ.out] at hm
                        obtain ⟨t,ht2,rfl⟩:=List.getElem_of_mem hm
                        exact (hf h).2 t ht2 (by omega) (by rw [List.getElem?_eq_getElem hj',ho])⟩)
                    clear hlk hoi hO hA hu ht hf hOl hiO hRi HO6
                    go_wp2_with fail
                    go_roundw
                    case rel=>first | exact ⟨hag,i + 1,HLI.out,nr_idx i,HE⟩ | exact ⟨hag,i + 1,HLI.out,nx_idx HLI.out (by omega),HE⟩
                    case measure=>first | exact nr_meas HLI.out | exact nx_meas HLI.out (by omega)
            · have hiI : ¬ (i : Int) < (Q.length : Int):=by omega
              have hie : i = Q.length:=by omega
              obtain ⟨O,hO,hA,hu,ht,hf⟩:=HO5.out
              have HE:=hid (show ∃ O,Mks w wr Q L roots O /\ (∀ m,m ∈ roots -> At1 (univ L) O m) /\ (u7 = .bool false -> Cl1 (reqQ Q L) (univ L) O (univ L).length) from ⟨O,hO,hA,fun h=>by rw [HUL.out,<- hie]; exact hf h⟩)
              have HME:=hid (show measM u7 wr.heap[w.heap.size]? < N0 + 1 by
                rcases hag with rfl | rfl
                · show unmW _ + 1 < N0 + 1
                  rw [unmW_is hO.hp]
                  have:=ht rfl
                  omega
                · exact Nat.succ_pos _)
              clear hlt hO hA hu ht hf HO5
              go_wp2_with fail
              go_roundw
              case rel=>exact ⟨hag,HE⟩
              case measure=>
                have h1:=HME.out
                rw [<- HN0.out] at h1
                exact h1
        · obtain ⟨O,hO,hA,hc⟩:=HO3.out
          have HFI:=hid (show ∃ O : List Bool,Mks w wr Q L roots O /\ ∀ i (hi : i < (univ L).length) (hi' : i < O.length),O[i] = true ↔ Rch (reqQ Q L) roots (univ L)[i] from ⟨O,hO,fun i hi hi'=>hO.ok.iff (univ_nd HC.out) hA (hc rfl) hi hi'⟩)
          clear hO hA hc HO3
          go_wp2_with fail
          go_ret
          obtain ⟨O,h1,h2⟩:=HFI.out
          exact ⟨O,rfl,h1,h2⟩
set_option maxHeartbeats 1000000 in
theorem isA_any (a b : Bm) (w : World) (hv : a.2.size < 999999) (hu : b.2.size < 999999) :
    Calls Tryz.prog 149 #[.agg #[.string a.1,.string a.2],.agg #[.string b.1,.string b.2]] w fun e w'=>e = .returned (.bool (mAhead a b)) /\ Below w.heap.size w w':=by
  obtain ⟨p,v⟩:=a
  obtain ⟨q,u⟩:=b
  have HO:=hid (show mAhead (p,v) (q,u) = if p.data.toList = q.data.toList then lessB v.data.toList u.data.toList else decide (Lib.compareBytes p.data.toList q.data.toList < 0) from rfl)
  have HB0:=hid (((Below.refl w.heap.size w).alloc (Nat.le_refl _) (.cells #[.string p,.string v] 25)).alloc (by simp) (.cells #[.string q,.string u] 25))
  simp only at hv hu
  by_cases h : p = q
  · subst h
    rw [if_pos rfl] at HO
    have he:=str_refl p
    have HL:=hid (fun W=>isLess_any v u W hv hu)
    go_enter Tryz.func149,Tryz.ntmps149
    go_wp2_with fail
    refine (HL.out _).mono ?_
    rintro e w1 ⟨rfl,hb⟩
    have HB:=hid (HB0.out.trans (hb.mono HB0.out.size))
    clear hb
    go_wp2_with fail
    go_ret
    exact ⟨ret_bool HO.out.symm,HB.out⟩
  · rw [if_neg (fun e=>h (str_ext e))] at HO
    have he:=str_ne h
    have HC:=hid (show Op.bytesLess p.toList q.toList = decide (Lib.compareBytes p.data.toList q.data.toList < 0) by rw [cb_less,ByteArray.toList_eq,ByteArray.toList_eq])
    clear h
    go_enter Tryz.func149,Tryz.ntmps149
    go_wp2_with fail
    go_ret
    exact ⟨ret_bool (by rw [HO.out,<- HC.out]),HB0.out⟩
def reqsR (own : ByteArray) (L : List Bm) : Nat × Nat:=match fstE (reqE own L) L.length with
  | some i=>(reqE own L i,i)
  | none=>(0,0)
theorem reqsR_some {own : ByteArray} {L : List Bm} {k : Nat} (h0 : ∀ j,j < k -> reqE own L j = 0) (hk : k < L.length) (h : reqE own L k ≠ 0) : reqsR own L = (reqE own L k,k):=by
  unfold reqsR; rw [fstE_some h0 h hk]
theorem reqsR_none {own : ByteArray} {L : List Bm} (h : ∀ j,j < L.length -> reqE own L j = 0) : reqsR own L = (0,0):=by
  unfold reqsR; rw [fstE_none h]
theorem zero_next {E : Nat -> Nat} {k : Nat} (h : ∀ j,j < k -> E j = 0) (hk : E k = 0) : ∀ j,j < k + 1 -> E j = 0:=fun j hj=>by
  rcases Nat.lt_or_ge j k with h1 | h1
  · exact h j h1
  · have : j = k:=by omega
    subst this; exact hk
theorem leq_no (a b : ByteArray) : (Op.bytesLess a.toList b.toList || a.toList == b.toList) = noLess b a:=by
  have h:=cb_more a.toList b.toList
  rw [ByteArray.toList_eq,ByteArray.toList_eq] at h ⊢
  unfold noLess
  rw [cb_swap a.data.toList b.data.toList]
  cases hx : (Op.bytesLess a.data.toList b.data.toList || a.data.toList == b.data.toList) <;> rw [hx] at h <;> simp at h ⊢ <;> omega
theorem leq_is (a b : ByteArray) (X : World) : (binOp BinOp.leq 9 (.string a) (.string b)).run Tryz.prog X = .ok (.bool (noLess b a)) X:=by rw [<- leq_no]; rfl
set_option maxHeartbeats 4000000 in
set_option maxRecDepth 100000 in
theorem reqsE_some (own : ByteArray) (L : List Bm) (b o c : Nat) (w : World) (hn : L.length ≤ 1000000) (hs : shortL L)
    (hc : ∀ j (h : j < L.length),w.cell? ⟨b,o + j * 2,none⟩ = some (.string L[j].1) /\ w.cell? ⟨b,o + j * 2 + 1,none⟩ = some (.string L[j].2)) :
    Calls Tryz.prog 150 #[.slice (some ⟨b,o,none⟩) L.length c,.string own] w fun e w'=>e = .returned (.tuple #[.int .i64 ((reqsR own L).1 : Nat),.int .i64 ((reqsR own L).2 : Nat)]) /\ Below w.heap.size w w':=by
  have HC:=hid hc
  have HS:=hid hs
  generalize hr : reqsR own L = r
  have HR:=hid hr
  clear hc hs hr
  go_enter Tryz.func150,Tryz.ntmps150
  go_wp2_with fail
  go_loopw [6] (fun i wr=>∃ k : Nat,k <= L.length /\ i = .int .i64 k /\ Hid (∀ j,j < k -> reqE own L j = 0) /\ Hid (Below w.heap.size w wr)) (fun i _=>L.length - (intOf i).toNat)
  case atStart=>exact ⟨0,Nat.zero_le _,rfl,hid (fun j hj=>absurd hj (by omega)),hid (Below.refl _ _)⟩
  case round=>
    obtain ⟨k,hk,rfl,HZ,HB⟩:=hrel
    by_cases hlt : k < L.length
    · have hx := cell_below HB.out (HC.out k hlt).1
      have hy:=cell_below HB.out (HC.out k hlt).2
      have hkI : (k : Int) < (L.length : Int):=by omega
      have HM:=hid (modError_any L[k].1 L[k].2 wr (by have:=(HS.out L[k] (List.getElem_mem hlt)).1; omega) (by have:=(HS.out L[k] (List.getElem_mem hlt)).2; omega))
      rw [show modErr L[k].1.data.toList L[k].2.data.toList = mErr L[k] from rfl] at HM
      have HN:=hid (fun h=>reqsR_some HZ.out hlt h)
      have HY:=hid (fun h=>zero_next HZ.out h)
      have HLT:=hid hlt
      rcases Nat.eq_zero_or_pos k with h00 | h00
      · have HE:=hid (show reqE own L k = reqW own none L[k] by subst h00; exact reqE_0 hlt)
        have g3 : decide (0 < k) = false:=decide_eq_false (by omega)
        generalize L[k] = x at *
        obtain ⟨p,v⟩:=x
        clear hlt h00
        by_cases h0 : mErr (p,v) = 0
        · rw [h0] at HM
          by_cases h1 : p = own
          · have HV:=hid (HN.out (by rw [HE.out,reqW_own h0 h1]; decide))
            rw [HE.out,reqW_own h0 h1] at HV
            rw [h1] at hx HM
            have hq:=str_refl own
            clear h0 h1
            go_wp2_with fail
            refine HM.out.mono ?_
            rintro e w1 ⟨rfl,hb⟩
            have HB1:=hid (HB.out.trans (hb.mono HB.out.size))
            replace hx:=cell_below hb hx
            replace hy:=cell_below hb hy
            clear hb
            go_wp2_with fail
            go_ret2
            exact ⟨by rw [<- HR.out,HV.out]; rfl,HB1.out⟩
          · have HV:=hid (HY.out (by rw [HE.out,reqW_none h0 h1]))
            have hq:=str_ne h1
            clear h0 h1
            go_wp2_with fail
            refine HM.out.mono ?_
            rintro e w1 ⟨rfl,hb⟩
            have HB1:=hid (HB.out.trans (hb.mono HB.out.size))
            replace hx:=cell_below hb hx
            replace hy:=cell_below hb hy
            clear hb
            go_wp2_with fail
            go_quiet (fail)
            go_wp2_with fail
            go_roundw
            case rel=>exact ⟨k + 1,by have:=HLT.out; omega,by go_num,HV,hid (below_drawn_of HB1.out _)⟩
            case measure=>have:=HLT.out; simp [intOf]; omega
        · have HV:=hid (HN.out (by rw [HE.out,reqW_bad h0]; exact h0))
          rw [HE.out,reqW_bad h0] at HV
          have hpos : (0 : Int) < (mErr (p,v) : Int):=by omega
          generalize mErr (p,v) = z at *
          clear h0
          go_wp2_with fail
          refine HM.out.mono ?_
          rintro e w1 ⟨rfl,hb⟩
          have HB1:=hid (HB.out.trans (hb.mono HB.out.size))
          clear hb
          go_wp2_with fail
          go_ret2
          exact ⟨by rw [<- HR.out,HV.out]; rfl,HB1.out⟩
      · obtain ⟨q,hq⟩ : ∃ q,k = q + 1:=⟨k - 1,by omega⟩
        have hql : q < L.length:=by omega
        have HE:=hid (show reqE own L k = reqW own (some L[q]) L[k] by subst hq; exact reqE_1 hlt)
        have hxq:=cell_below HB.out (HC.out q hql).1
        have gw : IntKind.i64.wrap ((k : Int) - 1) = (q : Int):=by rw [IntKind.wrap_i64]; omega
        have gw2 : (k : Int) - 1 = (q : Int):=by omega
        have g1 : (0 : Int) <= (q : Int):=by omega
        have g2 : (q : Int) < (L.length : Int):=by omega
        have g3 : (0 : Int) < (k : Int):=by omega
        have g4 : decide (0 < k) = true:=decide_eq_true (by omega)
        generalize L[k] = x at *
        generalize L[q] = y at *
        obtain ⟨p,v⟩:=x
        obtain ⟨p',v'⟩:=y
        clear hlt hql hq h00
        by_cases h0 : mErr (p,v) = 0
        · rw [h0] at HM
          by_cases h1 : p = own
          · have HV:=hid (HN.out (by rw [HE.out,reqW_own h0 h1]; decide))
            rw [HE.out,reqW_own h0 h1] at HV
            rw [h1] at hx HM
            have hq:=str_refl own
            clear h0 h1
            go_wp2_with fail
            refine HM.out.mono ?_
            rintro e w1 ⟨rfl,hb⟩
            have HB1:=hid (HB.out.trans (hb.mono HB.out.size))
            replace hx:=cell_below hb hx
            replace hy:=cell_below hb hy
            clear hb
            go_wp2_with fail
            go_ret2
            exact ⟨by rw [<- HR.out,HV.out]; rfl,HB1.out⟩
          · have hle:=leq_is p p'
            have hq:=str_ne h1
            cases hz : noLess p' p
            · have HV:=hid (HY.out (by rw [HE.out,reqW_some h0 h1,if_neg (by rw [hz]; decide)]))
              rw [hz] at hle
              clear h0 h1 hz
              go_wp2_with fail
              refine HM.out.mono ?_
              rintro e w1 ⟨rfl,hb⟩
              have HB1:=hid (HB.out.trans (hb.mono HB.out.size))
              replace hx:=cell_below hb hx
              replace hy:=cell_below hb hy
              replace hxq:=cell_below hb hxq
              clear hb
              go_wp2_with fail
              go_quiet (fail)
              go_wp2_with fail
              go_roundw
              case rel=>exact ⟨k + 1,by have:=HLT.out; omega,by go_num,HV,hid (below_drawn_of HB1.out _)⟩
              case measure=>have:=HLT.out; simp [intOf]; omega
            · have HV:=hid (HN.out (by rw [HE.out,reqW_some h0 h1,if_pos hz]; decide))
              rw [HE.out,reqW_some h0 h1,if_pos hz] at HV
              rw [hz] at hle
              clear h0 h1 hz
              go_wp2_with fail
              refine HM.out.mono ?_
              rintro e w1 ⟨rfl,hb⟩
              have HB1:=hid (HB.out.trans (hb.mono HB.out.size))
              replace hx:=cell_below hb hx
              replace hy:=cell_below hb hy
              replace hxq:=cell_below hb hxq
              clear hb
              go_wp2_with fail
              go_quiet (fail)
              go_wp2_with fail
              go_ret2
              exact ⟨by rw [<- HR.out,HV.out]; rfl,below_drawn_of HB1.out _⟩
        · have HV:=hid (HN.out (by rw [HE.out,reqW_bad h0]; exact h0))
          rw [HE.out,reqW_bad h0] at HV
          have hpos : (0 : Int) < (mErr (p,v) : Int):=by omega
          generalize mErr (p,v) = z at *
          clear h0
          go_wp2_with fail
          refine HM.out.mono ?_
          rintro e w1 ⟨rfl,hb⟩
          have HB1:=hid (HB.out.trans (hb.mono HB.out.size))
          clear hb
          go_wp2_with fail
          go_ret2
          exact ⟨by rw [<- HR.out,HV.out]; rfl,HB1.out⟩
    · have HV:=hid (reqsR_none (own:=own) (L:=L) (fun j hj=>HZ.out j (by omega)))
      go_wp2_with fail
      go_ret2
      exact ⟨by rw [<- HR.out,HV.out]; rfl,HB.out⟩
theorem reqsE_none (own : ByteArray) (a : Option Addr) (c : Nat) (w : World) : Calls Tryz.prog 150 #[.slice a 0 c,.string own] w fun e w'=>e = .returned (.tuple #[.int .i64 0,.int .i64 0]) /\ Below w.heap.size w w':=by
  go_enter Tryz.func150,Tryz.ntmps150
  go_wp2_with fail
  go_loopw [6] (fun i wr=>i = .int .i64 0 /\ wr = w) (fun i _=>0)
  case atStart=>exact ⟨rfl,rfl⟩
  case round=>
    obtain ⟨rfl,rfl⟩:=hrel
    go_wp2_with fail
    go_ret2
    exact ⟨rfl,Below.refl _ _⟩
theorem reqsE_any (own : ByteArray) (L : List Bm) (v : Value) (w : World) (hn : L.length <= 1000000) (hs : shortL L) (hv : MsAt w v L) :
    Calls Tryz.prog 150 #[v,.string own] w fun e w'=>e = .returned (.tuple #[.int .i64 ((reqsR own L).1 : Nat),.int .i64 ((reqsR own L).2 : Nat)]) /\ Below w.heap.size w w':=by
  obtain ⟨a,c,rfl,_,h⟩:=hv
  cases L with
  | nil=>exact reqsE_none own a c w
  | cons x r=>
    obtain ⟨b,o,rfl,h2⟩:=h (by simp)
    exact reqsE_some own (x :: r) b o c w hn hs h2
end Ve
end Go.Proofs.YtlcffhadobhfkaaGreatDoor
