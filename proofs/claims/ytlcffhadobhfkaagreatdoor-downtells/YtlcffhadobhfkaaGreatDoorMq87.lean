/-
  DnB DnC DnD
-/
import Derived.Test.YtlcffhadobhfkaaGreatDoorMq3
import Derived.Test.YtlcffhadobhfkaaGreatDoorMq2
import Derived.Test.YtlcffhadobhfkaaGreatDoorMq5
import Derived.Test.YtlcffhadobhfkaaGreatDoorMq6
import Derived.Test.YtlcffhadobhfkaaGreatDoorMq9
import Derived.Test.YtlcffhadobhfkaaGreatDoorMq11
import Derived.Test.YtlcffhadobhfkaaGreatDoorMq18
import Derived.Test.YtlcffhadobhfkaaGreatDoorMq19
import Derived.Test.YtlcffhadobhfkaaGreatDoorMq20
import Derived.Test.YtlcffhadobhfkaaGreatDoorMq23
import Derived.Test.YtlcffhadobhfkaaGreatDoorMq16
import Derived.Test.YtlcffhadobhfkaaGreatDoorMq22
import Derived.Test.YtlcffhadobhfkaaGreatDoorMq39
import Derived.Test.YtlcffhadobhfkaaGreatDoorMq43
import Derived.Test.YtlcffhadobhfkaaGreatDoorMq45
import Derived.Test.YtlcffhadobhfkaaGreatDoorMq48
import Derived.Test.YtlcffhadobhfkaaGreatDoorMq34
import Derived.Test.YtlcffhadobhfkaaGreatDoorMq36
import Derived.Test.YtlcffhadobhfkaaGreatDoorMq15
namespace Go.Proofs.YtlcffhadobhfkaaGreatDoor
open Go.RowKit
namespace Ve
def capK (m c : Bm) : Bool:=decide (c.1 = m.1) && (decide (vb c = noneL) || lessB (vb c) (vb m))
theorem capK_any {caps : List Bm} (h : rising caps) (m : Bm) : caps.any (capK m) = capB caps m:=by
  cases hc : capB caps m with
  | false=>
    cases ha : caps.any (capK m) with
    | false=>rfl
    | true=>
      obtain ⟨c,h1,h2⟩:=List.any_eq_true.1 ha
      unfold capK at h2
      rw [Bool.and_eq_true,decide_eq_true_iff] at h2
      have h3:=atP_rising h h1
      rw [h2.1] at h3
      rw [capB_at h3,h2.2] at hc
      cases hc
  | true=>
    unfold capB at hc
    cases ha : atP caps m.1 with
    | none=>rw [ha] at hc; cases hc
    | some c=>
      rw [ha] at hc
      have h1 : c ∈ caps:=List.mem_of_find?_eq_some ha
      have h2 : c.1 = m.1:=by have:=List.find?_some ha; simpa using this
      refine List.any_eq_true.2 ⟨c,h1,?_⟩
      unfold capK
      rw [Bool.and_eq_true]
      exact ⟨decide_eq_true h2,hc⟩
set_option maxHeartbeats 1000000 in
theorem abK_any (c m : Bm) (b : Nat) (A : Nat -> Addr) (ml : Int) (W : World) (hc : c.2.size < 999999) (hm : m.2.size < 999999) (S : Te W A ml) (h0 : W.cell? ⟨b,0,none⟩ = some (.string m.1)) (h1 : W.cell? ⟨b,1,none⟩ = some (.string m.2)) :
    Calls Tryz.prog 144 (#[.agg #[.string c.1,.string c.2]] ++ #[.pointer (some ⟨b,0,none⟩)]) W fun e w'=>e = .returned (.bool (capK m c)) /\ Below W.heap.size W w':=by
  obtain ⟨p,v⟩:=c
  obtain ⟨q,u⟩:=m
  simp only at h0 h1 hc hm
  show Calls Tryz.prog 144 #[.agg #[.string p,.string v],.pointer (some ⟨b,0,none⟩)] W _
  have HB0:=hid ((Below.refl W.heap.size W).alloc (Nat.le_refl _) (.cells #[.string p,.string v] 25))
  have c0:=cell_below HB0.out h0
  have c1:=cell_below HB0.out h1
  have HL:=hid (less_any v u (A 0) (A 1) ml _ hc hm (S.below HB0.out).vs)
  have hbb : ¬ b = W.heap.size:=by have:=lt_of_cell h0; simp at this; omega
  have hbb2 : ¬ W.heap.size = b:=fun h=>hbb h.symm
  obtain ⟨z,hz⟩ : ∃ z,capK (q,u) (p,v) = z:=⟨_,rfl⟩
  have HZ:=hid hz
  rw [hz]
  clear hz S h0 h1
  by_cases h : p = q
  · subst h
    have he:=str_refl p
    by_cases hn : v.data.toList = noneL
    · have hq : (v.toList == [110,111,110,101]) = true:=by rw [ByteArray.toList_eq]; exact beq_iff_eq.2 hn
      have HD:=hid (show capK (p,u) (p,v) = true by unfold capK vb; simp [hn])
      clear hn
      go_enter Tryz.func144,Tryz.ntmps144
      go_wp2_with fail
      go_ret
      exact ⟨ret_bool (by rw [<- HZ.out,HD.out]),HB0.out⟩
    · have hq : (v.toList == [110,111,110,101]) = false:=by rw [ByteArray.toList_eq]; exact beq_eq_false_iff_ne.2 hn
      have HD:=hid (show capK (p,u) (p,v) = lessB v.data.toList u.data.toList by unfold capK vb; simp [hn])
      clear hn
      generalize lessB v.data.toList u.data.toList = y at *
      go_enter Tryz.func144,Tryz.ntmps144
      go_wp2_with fail
      refine HL.out.mono ?_
      rintro e w1 ⟨rfl,hb⟩
      have HB:=hid (HB0.out.trans (hb.mono HB0.out.size))
      clear hb
      go_wp2_with fail
      go_ret
      exact ⟨ret_bool (by rw [<- HZ.out,HD.out]),HB.out⟩
  · have he:=str_ne h
    have HD:=hid (show capK (q,u) (p,v) = false by unfold capK; simp [h])
    clear h
    go_enter Tryz.func144,Tryz.ntmps144
    go_wp2_with fail
    go_ret
    exact ⟨ret_bool (by rw [<- HZ.out,HD.out]),HB0.out⟩
structure Mb (w W : World) (g : Nat) (O : List Bool) : Prop where
  bl : Below w.heap.size w W
  lo : w.heap.size <= g
  hp : W.heap[g]? = some (.cells (bwc O) 4 (0,0))
theorem Mb.below {w W W' : World} {g : Nat} {O : List Bool} (h : Mb w W g O) (hb : Below W.heap.size W W') : Mb w W' g O:=
  ⟨h.bl.trans (hb.mono h.bl.size),h.lo,(hb.block _ (lt_of_blk h.hp)).trans h.hp⟩
theorem Mb.set {w W : World} {g : Nat} {O : List Bool} (h : Mb w W g O) (a : Nat) (b : Bool) : Mb w (W.setCell ⟨g,a,none⟩ (.bool b)) g (O.set a b):=
  ⟨h.bl.setCell (p:=⟨g,a,none⟩) h.lo _,h.lo,by rw [set_block h.hp,bwc_put]⟩
theorem Mb.at {w W : World} {g : Nat} {O : List Bool} (h : Mb w W g O) {a : Nat} (ha : a < O.length) : W.cell? ⟨g,a,none⟩ = some (.bool O[a]) /\ ∀ o,W.frozen? ⟨g,o,none⟩ = false:=
  ⟨bwc_at h.hp ha,fun o=>Lib.frozen_of_heap h.hp o⟩
set_option maxRecDepth 100000 in
set_option maxHeartbeats 4000000 in
theorem above_any (Q : List Raw) (caps : List Bm) (v cv : Value) (A : Nat → Addr) (m : Int) (w : World) (hL : Q.length ≤ 1000000) (hC : caps.length ≤ 1000000) (hz : ∀ r, r ∈ Q → r.1.2.size < 999999) (hcz : ∀ c, c ∈ caps → c.2.size < 999999) (hri : rising caps) (S : Te w A m) (hv : EsAt w v Q) (hc : MsAt w cv caps) :
    Calls Tryz.prog 103 #[v,cv] w fun e w'=>e = .returned (.slice (some ⟨w.heap.size,0,none⟩) Q.length Q.length) /\ Mb w w' w.heap.size (Q.map fun r=>capB caps r.1):=by
  have eg : ∀ args w,(callFunc 144 args).run Tryz.prog w = .ok (.enter 144 args) w:=enters_of Tryz.func144 (by kernel_rfl) rfl
  have HHA:=hid (fun (x : Bm) (b : Nat) W (h : Below w.heap.size w W) (hx : x.2.size < 999999) (h0 : W.cell? ⟨b,0,none⟩ = some (.string x.1)) (h1 : W.cell? ⟨b,1,none⟩ = some (.string x.2))=>
    (hasM_any 144 #[.pointer (some ⟨b,0,none⟩)] (capK x) caps cv W eg hC (hc.below h) (fun i hi W' hW=>abK_any caps[i] x b A m W' (hcz _ (List.getElem_mem hi)) hx ((S.below h).below hW) (cell_below hW h0) (cell_below hW h1))).mono fun e w' h=>show e = .returned (.bool (capB caps x)) /\ _ from ⟨by rw [<- capK_any hri]; exact h.1,h.2⟩)
  have HES:=hid (fun W (h : Below w.heap.size w W)=>hv.below h)
  have HZ:=hid hz
  have hmk:=make_bools Q.length w hL
  have HM0:=hid (show Mb w (w.alloc (.cells (bwc (List.replicate Q.length false)) 4)) w.heap.size (List.replicate Q.length false) from ⟨(Below.refl w.heap.size w).alloc (Nat.le_refl _) _,Nat.le_refl _,heap_new w _⟩)
  obtain ⟨a,c,hv1,-⟩:=id hv
  subst hv1
  obtain ⟨ca,cn,cc,hc1⟩:=hc.slice
  subst hc1
  clear hv hc S hz hcz hri eg
  go_enter Tryz.func103,Tryz.ntmps103
  go_wp2_with fail
  clear hmk
  go_loopw [13] (fun iv wr=>∃ i : Nat,i <= Q.length /\ iv = .int .i64 i /\ Hid (∃ O,Mb w wr w.heap.size O /\ O.length = Q.length /\ ∀ j (h : j < Q.length) (h' : j < O.length),j < i -> O[j] = capB caps Q[j].1)) (fun iv _=>Q.length - (intOf iv).toNat)
  case atStart=>exact ⟨0,Nat.zero_le _,rfl,hid ⟨_,HM0.out,by simp,fun j _ _ h=>absurd h (Nat.not_lt_zero _)⟩⟩
  case round=>
    obtain ⟨i,hi,rfl,HO⟩:=hrel
    obtain ⟨O,hO,hOl,hAt⟩:=HO.out
    by_cases hlt : i < Q.length
    · have hiI : (i : Int) < (Q.length : Int):=by omega
      have hii : (0 : Int) <= (i : Int):=by omega
      have HLI:=hid hlt
      have hes:=HES.out _ hO.bl
      obtain ⟨b,o,hab⟩ : ∃ b o,a = some ⟨b,o,none⟩:=by
        obtain ⟨a',c',e,_,_,h⟩:=hes
        injection e with q1 q2 q3
        obtain ⟨b,o,h4,_⟩:=h (fun h=>by rw [h] at hlt; simp at hlt)
        exact ⟨b,o,by rw [q1,h4]⟩
      subst hab
      obtain ⟨hsl,x0,x1,x2,x3,x4⟩:=es_all hes hlt
      have hzx:=HZ.out Q[i] (List.getElem_mem hlt)
      have hiO : i < O.length:=by omega
      have HNX:=hid (fun W (hb : Below wr.heap.size wr W)=>show ∃ O',Mb w (W.setCell ⟨w.heap.size,i,none⟩ (.bool (capB caps Q[i].1))) w.heap.size O' /\ O'.length = Q.length /\ ∀ j (h : j < Q.length) (h' : j < O'.length),j < i + 1 -> O'[j] = capB caps Q[j].1 from ⟨O.set i (capB caps Q[i].1),(hO.below hb).set i _,by rw [List.length_set]; exact hOl,fun j h1 h2 h3=>by
        rw [List.getElem_set]
        by_cases e : i = j
        · subst e; rw [if_pos rfl]; rfl
        · rw [if_neg e]; exact hAt j h1 (by omega) (by omega)⟩)
      have HCE:=hid (fun W (hb : Below wr.heap.size wr W)=>(hO.below hb).at hiO)
      have HBL:=hid hO.bl
      generalize (O[i]'hiO) = bo at *
      generalize Q[i] = x at *
      obtain ⟨⟨p,q⟩,rv,pv,bk⟩:=x
      obtain ⟨⟨ra,rn,rc,hrv⟩,pa,pn,pc,hpv⟩:=hsl
      simp only at hrv hpv x0 x1 x2 x3 x4 hzx
      subst hrv
      subst hpv
      have HBa:=hid ((Below.refl wr.heap.size wr).alloc (Nat.le_refl _) (.cells #[.string p,.string q,.slice ra rn rc,.slice pa pn pc,.bool bk] 45))
      have HHX:=hid (HHA.out (p,q) wr.heap.size (wr.alloc (.cells #[.string p,.string q,.slice ra rn rc,.slice pa pn pc,.bool bk] 45)) (HBL.out.trans (HBa.out.mono HBL.out.size)) hzx (by simp) (by simp))
      obtain ⟨z,hz⟩ : ∃ z,capB caps (p,q) = z:=⟨_,rfl⟩
      rw [hz] at HHX HNX
      clear hlt hes hO hOl hAt HO hiO hz hzx
      go_wp2_with fail
      refine HHX.out.mono ?_
      rintro e w1 ⟨rfl,hb⟩
      have HB1:=hid (HBa.out.trans (hb.mono HBa.out.size))
      obtain ⟨z0,zf⟩:=HCE.out w1 HB1.out
      have HN2:=hid (HNX.out w1 HB1.out)
      clear hb
      go_wp2_with fail
      go_roundw
      case rel=>first | exact ⟨i + 1,HLI.out,nr_idx i,HN2⟩ | exact ⟨i + 1,HLI.out,nx_idx HLI.out hL,HN2⟩
      case measure=>first | exact nr_meas HLI.out | exact nx_meas HLI.out hL
    · have hiI : ¬ (i : Int) < (Q.length : Int):=by omega
      have HE:=hid (show Mb w wr w.heap.size (Q.map fun r=>capB caps r.1) by
        have : O = Q.map fun r=>capB caps r.1:=List.ext_getElem (by simp [hOl]) fun j h1 h2=>by
          rw [List.getElem_map]
          exact hAt j (by omega) h1 (by omega)
        rw [<- this]; exact hO)
      clear hlt hO hOl hAt HO
      go_wp2_with fail
      go_ret
      exact ⟨rfl,HE.out⟩
def IaAt (w : World) (v : Value) (P : List Nat) : Prop:=∃ a c,v = .slice a P.length c /\ (P ≠ [] -> ∃ b o,a = some ⟨b,o,none⟩ /\ ∀ j (h : j < P.length),w.cell? ⟨b,o + j,none⟩ = some (.int .i64 (P[j] : Int)))
theorem IaAt.below {w W : World} {v : Value} {P : List Nat} (h : IaAt w v P) (hb : Below w.heap.size w W) : IaAt W v P:=by
  obtain ⟨a,c,rfl,h1⟩:=h
  refine ⟨a,c,rfl,fun hP=>?_⟩
  obtain ⟨b,o,rfl,h2⟩:=h1 hP
  exact ⟨b,o,rfl,fun j hj=>cell_below hb (h2 j hj)⟩
theorem IaAt.slice {w : World} {v : Value} {P : List Nat} (h : IaAt w v P) : ∃ a c,v = .slice a P.length c:=by
  obtain ⟨a,c,e,_⟩:=h
  exact ⟨a,c,e⟩
set_option maxHeartbeats 2000000 in
set_option maxRecDepth 100000 in
theorem idxI_some (K : Nat) (cb : Array Value) (B : Nat → Bool) (P : List Nat) (b o c : Nat) (w : World) (eg : ∀ args w, (callFunc K args).run Tryz.prog w = .ok (.enter K args) w) (hL : P.length ≤ 1000000)
    (hc : ∀ j (h : j < P.length),w.cell? ⟨b,o + j,none⟩ = some (.int .i64 (P[j] : Int)))
    (hK : ∀ i (h : i < P.length) W,Below w.heap.size w W -> Calls Tryz.prog K (#[.int .i64 (P[i] : Int)] ++ cb) W fun e w'=>e = .returned (.bool (B P[i])) /\ Below W.heap.size W w') :
    Calls Tryz.prog 189 #[.slice (some ⟨b,o,none⟩) P.length c,.func (.func K) #[] cb] w fun e w'=>(∃ r : Int,e = .returned (.int .i64 r) /\ decide (0 <= r) = P.any B) /\ Below w.heap.size w w':=by
  have HK:=hid hK
  have HC:=hid hc
  clear hK hc
  go_enter Tryz.func189,Tryz.ntmps189
  go_wp2_with fail
  go_loopw [8] (fun i wr=>∃ k : Nat,k <= P.length /\ i = .int .i64 k /\ Hid (∀ j (h : j < P.length),j < k -> B P[j] = false) /\ Hid (Below w.heap.size w wr)) (fun i _=>P.length - (intOf i).toNat)
  case atStart=>exact ⟨0,Nat.zero_le _,rfl,hid (fun j _ hj=>absurd hj (Nat.not_lt_zero _)),hid (Below.refl _ _)⟩
  case round=>
    obtain ⟨k,hk,rfl,HA,HB⟩:=hrel
    by_cases hlt : k < P.length
    · have HP:=hid (HK.out k hlt wr HB.out)
      have x0:=cell_below HB.out (HC.out k hlt)
      have hkI : (k : Int) < (P.length : Int):=by omega
      have hk0 : (0 : Int) <= (k : Int):=by omega
      have HLT:=hid hlt
      have HF:=hid (show B P[k] = true -> P.any B = true from fun h=>List.any_eq_true.2 ⟨P[k],List.getElem_mem hlt,h⟩)
      have HN:=hid (show B P[k] = false -> ∀ j (h : j < P.length),j < k + 1 -> B P[j] = false from fun h j hj hjk=>by
        rcases Nat.lt_or_ge j k with h1 | h1
        · exact HA.out j hj h1
        · have : j = k:=by omega
          subst this; exact h)
      generalize hx : P[k] = x at *
      cases hp : B x
      · rw [hp] at HP
        have HN2:=hid (HN.out hp)
        clear hp hx hlt
        go_wp2_with fail
        refine HP.out.mono ?_
        rintro e w1 ⟨rfl,hb⟩
        have HB1:=hid (HB.out.trans (hb.mono HB.out.size))
        clear hb
        go_wp2_with fail
        go_roundw
        case rel=>first | exact ⟨k + 1,HLT.out,nr_idx k,HN2,HB1⟩ | exact ⟨k + 1,HLT.out,nx_idx HLT.out hL,HN2,HB1⟩
        case measure=>first | exact nr_meas HLT.out | exact nx_meas HLT.out hL
      · rw [hp] at HP
        have HF2:=hid (HF.out hp)
        clear hp hx hlt
        go_wp2_with fail
        refine HP.out.mono ?_
        rintro e w1 ⟨rfl,hb⟩
        have HB1:=hid (HB.out.trans (hb.mono HB.out.size))
        clear hb
        go_wp2_with fail
        go_ret
        exact ⟨⟨_,rfl,by rw [HF2.out]; exact decide_eq_true (Int.natCast_nonneg _)⟩,HB1.out⟩
    · have HF:=hid (show P.any B = false by
        cases h : P.any B
        · rfl
        · obtain ⟨x,hx,h1⟩:=List.any_eq_true.1 h
          obtain ⟨j,hj,rfl⟩:=List.getElem_of_mem hx
          rw [HA.out j hj (by omega)] at h1; cases h1)
      have hkI : ¬ (k : Int) < (P.length : Int):=by omega
      clear hlt
      go_wp2_with fail
      go_ret
      exact ⟨⟨_,rfl,by rw [HF.out]; rfl⟩,HB.out⟩
theorem idxI_none (K : Nat) (cb : Array Value) (a : Option Addr) (c : Nat) (w : World) :
    Calls Tryz.prog 189 #[.slice a 0 c,.func (.func K) #[] cb] w fun e w'=>(∃ r : Int,e = .returned (.int .i64 r) /\ decide (0 <= r) = false) /\ Below w.heap.size w w':=by
  go_enter Tryz.func189,Tryz.ntmps189
  go_wp2_with fail
  go_loopw [8] (fun i wr=>i = .int .i64 0 /\ wr = w) (fun i _=>0)
  case atStart=>exact ⟨rfl,rfl⟩
  case round=>
    obtain ⟨rfl,rfl⟩:=hrel
    go_wp2_with fail
    go_ret
    exact ⟨⟨_,rfl,rfl⟩,Below.refl _ _⟩
theorem idxI_any (K : Nat) (cb : Array Value) (B : Nat -> Bool) (P : List Nat) (v : Value) (w : World) (eg : ∀ args w,(callFunc K args).run Tryz.prog w = .ok (.enter K args) w) (hL : P.length <= 1000000) (hv : IaAt w v P)
    (hK : ∀ i (h : i < P.length) W,Below w.heap.size w W -> Calls Tryz.prog K (#[.int .i64 (P[i] : Int)] ++ cb) W fun e w'=>e = .returned (.bool (B P[i])) /\ Below W.heap.size W w') :
    Calls Tryz.prog 189 #[v,.func (.func K) #[] cb] w fun e w'=>(∃ r : Int,e = .returned (.int .i64 r) /\ decide (0 <= r) = P.any B) /\ Below w.heap.size w w':=by
  obtain ⟨a,c,rfl,h⟩:=hv
  cases P with
  | nil=>exact idxI_none K cb a c w
  | cons x r=>
    obtain ⟨b,o,rfl,h2⟩:=h (by simp)
    exact idxI_some K cb B (x :: r) b o c w eg hL h2 hK
set_option maxHeartbeats 1000000 in
theorem hasI_any (K : Nat) (cb : Array Value) (B : Nat -> Bool) (P : List Nat) (v : Value) (w : World) (eg : ∀ args w,(callFunc K args).run Tryz.prog w = .ok (.enter K args) w) (hL : P.length <= 1000000) (hv : IaAt w v P)
    (hK : ∀ i (h : i < P.length) W,Below w.heap.size w W -> Calls Tryz.prog K (#[.int .i64 (P[i] : Int)] ++ cb) W fun e w'=>e = .returned (.bool (B P[i])) /\ Below W.heap.size W w') :
    Calls Tryz.prog 147 #[v,.func (.func K) #[] cb] w fun e w'=>e = .returned (.bool (P.any B)) /\ Below w.heap.size w w':=by
  obtain ⟨va,vc,hv1⟩:=hv.slice
  have HI:=hid (idxI_any K cb B P v w eg hL hv hK)
  obtain ⟨z,hz⟩ : ∃ z,P.any B = z:=⟨_,rfl⟩
  rw [hz] at HI ⊢
  subst hv1
  clear hK hv eg hz
  go_enter Tryz.func147,Tryz.ntmps147
  go_wp2_with fail
  refine HI.out.mono ?_
  rintro e w1 ⟨⟨r,rfl,hr⟩,hb⟩
  have HB:=hid hb
  have HR:=hid hr
  clear hb hr
  go_wp2_with fail
  go_ret
  exact ⟨ret_bool HR.out,HB.out⟩
set_option maxHeartbeats 1000000 in
theorem spK_any (O : List Bool) (k g b n c : Nat) (W : World) (hk : k < O.length) (hn : O.length <= n) (h1 : W.cell? ⟨b,0,none⟩ = some (.slice (some ⟨g,0,none⟩) n c)) (hg : W.heap[g]? = some (.cells (bwc O) 4 (0,0))) :
    Calls Tryz.prog 145 (#[.int .i64 (k : Int)] ++ #[.pointer (some ⟨b,0,none⟩)]) W fun e w'=>e = .returned (.bool (O[k]?.getD false)) /\ Below W.heap.size W w':=by
  show Calls Tryz.prog 145 #[.int .i64 (k : Int),.pointer (some ⟨b,0,none⟩)] W _
  have h2:=bwc_at hg hk
  have HX:=hid (show O[k]?.getD false = O[k] by rw [List.getElem?_eq_getElem hk]; rfl)
  rw [HX.out]
  generalize O[k] = z at *
  have hkI : (k : Int) < (n : Int):=by omega
  have hk0 : (0 : Int) <= (k : Int):=by omega
  clear hg hk hn HX
  go_enter Tryz.func145,Tryz.ntmps145
  go_wp2_with fail
  go_ret
  exact ⟨rfl,Below.refl _ _⟩
theorem infoIntD : (Tryz.prog.info? 3).map (fun i=>(i.zero,i.size,i.bytes)) = some (some (.int .i64 0),1,8):=by kernel_rfl
theorem infoInts : (Tryz.prog.info? 90).map (fun i=>(i.zero,i.size,i.bytes)) = some (some (.slice none 0 0),1,24):=by kernel_rfl
theorem made_slices (n : Nat) : madeCells (Value.slice none 0 0).cells n = (List.replicate n (Value.slice none 0 0)).toArray:=by
  unfold madeCells
  simp [Value.cells]
  apply Array.ext
  · simp
  · intro i h1 h2
    simp [Nat.mod_one]
theorem make_slices (n : Nat) (w : World) (hn : n <= 1000000) : (Instr.makeSlice 120 (.int .i64 (n : Int)) (.int .i64 (n : Int))).run Tryz.prog w = .ok (.slice (some ⟨w.heap.size,0,none⟩) n n) (w.alloc (.cells (List.replicate n (Value.slice none 0 0)).toArray 90)):=by
  obtain ⟨i0,hi,hz0,hz1,hz2⟩:=info_parts infoInts
  have h:=run_makeSlice (P:=Tryz.prog) w 120 90 i0 (.slice none 0 0) Tryz.underlying120 hi hz0 .i64 .i64 (n : Int) (n : Int) (by omega) (by omega) (by rw [hz1]; simp; omega) (by rw [hz2]; omega) (by omega)
  rw [hz1] at h
  simp only [Int.toNat_natCast,Nat.mul_one] at h
  rw [made_slices] at h
  exact h
def plV (P : List Nat) : List Value:=P.map fun (k : Nat)=>Value.int .i64 (k : Int)
theorem plV_app (P : List Nat) (k : Nat) : plV (P ++ [k]) = plV P ++ [.int .i64 (k : Int)]:=by simp [plV]
theorem own_ia {W : World} {B : Nat} {v : Value} {P : List Nat} (h : W.ownsRow B 3 1 v P.length (plV P)) : IaAt W v P:=by
  obtain ⟨_,⟨hv,hn0⟩ | ⟨g,cap,cur,hv,hg,hblk,hcap,hcm,hcs,hct⟩⟩:=h
  · exact ⟨none,0,by rw [hv,hn0],fun hP=>absurd (List.length_eq_zero_iff.1 hn0) hP⟩
  · refine ⟨_,cap,hv,fun _=>⟨g,0,rfl,fun j hj=>?_⟩⟩
    have h1 : (plV P)[j]? = some (.int .i64 (P[j] : Int)):=by simp [plV,hj]
    rw [<- hct,List.getElem?_take,if_pos (by omega)] at h1
    simp only [World.cell?,hblk]
    rw [Nat.zero_add,<- h1]; simp
theorem own_neK {w : World} {B k : Nat} {e T : TypeId} {v : Value} {n : Nat} {xs : List Value} {b : Nat} {cs : Array Value} {fr : Nat × Nat} (hown : w.ownsRow B e k v n xs) (hb : w.heap[b]? = some (.cells cs T fr)) (hTe : T ≠ e) : v.ownBlock ≠ some b:=by
  rcases hown.2 with ⟨rfl,_⟩ | ⟨g,cap,cur,rfl,_,hg,_⟩
  · simp [Value.ownBlock]
  · intro h
    simp only [Value.ownBlock,Option.some.injEq] at h
    subst h
    rw [hg] at hb
    simp at hb
    exact hTe hb.2.1.symm
theorem gr_below {A B C : World} {row : Option Nat} (h : A.grownBy B row) (k : Below B.heap.size B C) : A.grownBy C row:=
  ⟨k.os.trans h.os,k.tape.trans h.tape,k.output.trans h.output,Nat.le_trans h.size k.size,fun b hb hne=>(k.block b (Nat.lt_of_lt_of_le hb h.size)).trans (h.block b hb hne)⟩
theorem gr_far {A B C : World} {row : Option Nat} {r2 : Option Nat} (h : A.grownBy B row) (k : B.grownBy C r2) (hr : ∀ g,r2 = some g -> A.heap.size <= g) : A.grownBy C row:=
  ⟨k.os.trans h.os,k.tape.trans h.tape,k.output.trans h.output,Nat.le_trans h.size k.size,fun b hb hne=>(k.block b (Nat.lt_of_lt_of_le hb h.size) (fun e=>by have:=hr b e.symm; omega)).trans (h.block b hb hne)⟩
theorem gr_set {A B : World} {g o : Nat} {x : Value} (h : A.grownBy B (some g)) : A.grownBy (B.setCell ⟨g,o,none⟩ x) (some g):=
  ⟨h.os,h.tape,h.output,by simp [World.setCell]; exact h.size,fun b hb hne=>(Below.heap_setCell _ _ _ _ (fun e=>hne (by rw [e]))).trans (h.block b hb hne)⟩
theorem gr_self (W : World) (row : Option Nat) : W.grownBy W row:=⟨rfl,rfl,rfl,Nat.le_refl _,fun _ _ _=>rfl⟩
theorem IaAt.grown {W W' : World} {g : Nat} {v : Value} {P : List Nat} {vs : List Value} {T : TypeId} (h : IaAt W v P) (hg : W.heap[g]? = some (.cells vs.toArray T (0,0))) (hs : ∀ x,x ∈ vs -> ∃ a n c,x = .slice a n c) (k : W.grownBy W' (some g)) : IaAt W' v P:=by
  obtain ⟨a,c,rfl,h1⟩:=h
  refine ⟨a,c,rfl,fun hP=>?_⟩
  obtain ⟨b,o,rfl,h2⟩:=h1 hP
  refine ⟨b,o,rfl,fun j hj=>?_⟩
  have h3:=h2 j hj
  have hne : b ≠ g:=fun e=>by
    subst e
    rw [Lib.cell_of_heap hg] at h3
    have h4 : vs[o + j]? = some (.int .i64 (P[j] : Int)):=by simpa using h3
    obtain ⟨a,n,c,e⟩:=hs _ (List.mem_of_getElem? h4)
    cases e
  rw [World.cell?_of_block (k.block b (lt_of_cell h3) (by simpa using hne))]
  exact h3
structure Nv (W : World) (g : Nat) (vs : List Value) (NV : List (List Nat)) : Prop where
  hp : W.heap[g]? = some (.cells vs.toArray 90 (0,0))
  ln : vs.length = NV.length
  sl : ∀ x,x ∈ vs -> ∃ a n c,x = .slice a n c
  ia : ∀ j (h : j < vs.length) (h' : j < NV.length),IaAt W vs[j] NV[j]
structure Nw (w W : World) (g : Nat) (vs : List Value) (NV : List (List Nat)) (i : Nat) : Prop where
  bl : Below w.heap.size w W
  lo : w.heap.size <= g
  hp : W.heap[g]? = some (.cells vs.toArray 90 (0,0))
  ln : vs.length = NV.length
  sl : ∀ x,x ∈ vs -> ∃ a n c,x = .slice a n c
  ia : ∀ j (h : j < vs.length) (h' : j < NV.length),j < i -> IaAt W vs[j] NV[j]
  ze : ∀ j (h : j < vs.length),i <= j -> vs[j] = .slice none 0 0
theorem Nw.below {w W W' : World} {g i : Nat} {vs : List Value} {NV : List (List Nat)} (h : Nw w W g vs NV i) (hb : Below W.heap.size W W') : Nw w W' g vs NV i:=
  ⟨h.bl.trans (hb.mono h.bl.size),h.lo,(hb.block _ (lt_of_blk h.hp)).trans h.hp,h.ln,h.sl,fun j a b c=>(h.ia j a b c).below hb,h.ze⟩
structure RqD (W1 W : World) (g i : Nat) (vs : List Value) (P : List Nat) (v : Value) : Prop where
  gr : W1.grownBy W (some g)
  hp : W.heap[g]? = some (.cells (vs.set i v).toArray 90 (0,0))
  ow : W.ownsRow W1.heap.size 3 1 v P.length (plV P)
theorem RqD.below {W1 W W' : World} {g i : Nat} {vs : List Value} {P : List Nat} {v : Value} (h : RqD W1 W g i vs P v) (hb : Below W.heap.size W W') : RqD W1 W' g i vs P v:=
  ⟨gr_below h.gr hb,(hb.block _ (lt_of_blk h.hp)).trans h.hp,owns_below h.ow hb⟩
theorem RqD.more {W1 W w3 w4 : World} {g i k : Nat} {vs : List Value} {P : List Nat} {v v' : Value} {o : Obj} (h : RqD W1 W g i vs P v) (hb : Below W.heap.size W w3) (hown : w4.ownsRow W1.heap.size 3 1 v' (P.length + 1) (plV P ++ [.int .i64 (k : Int)])) (hg : (w3.alloc o).grownBy w4 v.ownBlock) :
    RqD W1 (w4.setCell ⟨g,i,none⟩ v') g i vs (P ++ [k]) v':=by
  have h3:=(h.below hb).below ((Below.refl w3.heap.size w3).alloc (Nat.le_refl _) o)
  have hne : v.ownBlock ≠ some g:=own_neK h3.ow h3.hp (by decide)
  have h4 : w4.heap[g]? = some (.cells (vs.set i v).toArray 90 (0,0)):=(hg.block g (lt_of_blk h3.hp) (fun e=>hne e.symm)).trans h3.hp
  refine ⟨gr_set (gr_far h3.gr hg (fun b e=>(h3.ow.lt b e).1)),?_,?_⟩
  · rw [set_block h4,List.setIfInBounds_toArray,List.set_set]
  · rw [plV_app,List.length_append]
    exact own_setN hown h4 (by decide)
theorem Nw.next {w W1 W : World} {g i : Nat} {vs : List Value} {NV : List (List Nat)} {P : List Nat} {v : Value} (h : Nw w W1 g vs NV i) (r : RqD W1 W g i vs P v) (hP : ∀ (h' : i < NV.length),NV[i] = P) : Nw w W g (vs.set i v) NV (i + 1):=by
  have hsl : ∃ a n c,v = .slice a n c:=by
    obtain ⟨_,⟨e,_⟩ | ⟨g,cap,cur,e,_⟩⟩:=r.ow
    · exact ⟨_,_,_,e⟩
    · exact ⟨_,_,_,e⟩
  refine ⟨h.bl.grown r.gr h.bl.size (fun b e=>by cases e; exact h.lo),h.lo,r.hp,by rw [List.length_set]; exact h.ln,fun x hx=>?_,fun j h1 h2 h3=>?_,fun j h1 h2=>?_⟩
  · rcases List.mem_or_eq_of_mem_set hx with hx | rfl
    · exact h.sl x hx
    · exact hsl
  · rw [List.getElem_set]
    by_cases e : i = j
    · subst e
      rw [if_pos rfl,hP h2]
      exact own_ia r.ow
    · rw [if_neg e]
      exact (h.ia j (by simpa using h1) h2 (by omega)).grown h.hp h.sl r.gr
  · rw [List.getElem_set,if_neg (by omega)]
    exact h.ze j (by simpa using h1) (by omega)
def nvL (Q : List Raw) (L : List Ent) : List (List Nat):=L.map fun e=>e.2.1.map fun m=>(idxOf (isM m) Q).toNat
theorem nvL_nd {w : World} {v : Value} {Q : List Raw} {L : List Ent} (I : Ixs w v Q L) (h : (chk Q L).1 = 0) : Nd (reqQ Q L) (univ L) (nvL Q L):=by
  have hU : (univ L).length = L.length:=univ_len L
  refine ⟨by simp [nvL,univ],fun i hi hi' r hr=>?_,fun i hi hi' k hk=>?_⟩
  · obtain ⟨k,hk,e1,e2⟩:=idx_univ I (chk_reqs0 I h _ (List.getElem_mem hi) r hr)
    refine ⟨k,hk,?_,e2⟩
    rw [req_at I h (by omega) hi] at hr
    simp only [nvL,List.getElem_map]
    exact List.mem_map.2 ⟨r,hr,by rw [e1]; rfl⟩
  · simp only [nvL,List.getElem_map] at hk
    obtain ⟨m,hm,rfl⟩:=List.mem_map.1 hk
    have hm2 : m ∈ reqQ Q L (univ L)[i]:=by rw [req_at I h (by omega) hi]; exact hm
    obtain ⟨k,hk,e1,e2⟩:=idx_univ I (chk_reqs0 I h _ (List.getElem_mem hi) m hm2)
    rw [e1]
    exact ⟨hk,by simp only [Int.toNat_natCast]; rw [e2]; exact hm2⟩
set_option maxRecDepth 100000 in
set_option maxHeartbeats 4000000 in
theorem required_any (Q : List Raw) (L : List Ent) (v : Value) (w : World) (hn : L.length ≤ 1000) (sh : ∀ e, e ∈ L → ShE e) (I : Ixs w v Q L) (h0 : (chk Q L).1 = 0) :
    Calls Tryz.prog 104 #[v] w fun e w'=>e = .returned (.slice (some ⟨w.heap.size,0,none⟩) Q.length Q.length) /\ ∃ vs,Nv w' w.heap.size vs (nvL Q L) /\ Below w.heap.size w w':=by
  have hqn : Q.length <= 1000:=by rw [I.ln]; exact hn
  have HLN:=hid I.ln
  have HI:=hid (fun W (h : Below w.heap.size w W)=>I.below h)
  have HFI:=hid (fun (x : Bm) W (h : Below w.heap.size w W)=>find_any Q x v W (by omega) (I.below h).es)
  have HSZ:=hid (fun i (h : i < L.length)=>(sh L[i] (List.getElem_mem h)).rn)
  have HK:=hid (fun i (h : i < L.length) (m : Bm) (hm : m ∈ L[i].2.1)=>show ∃ k : Nat,idxOf (isM m) Q = (k : Int) by
    have hi : i < (univ L).length:=by rw [univ_len]; exact h
    obtain ⟨k,_,e,_⟩:=idx_univ I (chk_reqs0 I h0 _ (List.getElem_mem hi) m (by rw [req_at I h0 h hi]; exact hm))
    exact ⟨k,e⟩)
  have HNL:=hid (show (nvL Q L).length = Q.length by rw [I.ln]; simp [nvL])
  have HNV:=hid (fun i (h : i < L.length) (h' : i < (nvL Q L).length)=>show (nvL Q L)[i] = L[i].2.1.map fun m=>(idxOf (isM m) Q).toNat by simp [nvL])
  have hmk:=make_slices Q.length w (by omega)
  have HN0:=hid (show Nw w (w.alloc (.cells (List.replicate Q.length (Value.slice none 0 0)).toArray 90)) w.heap.size (List.replicate Q.length (Value.slice none 0 0)) (nvL Q L) 0 from
    ⟨(Below.refl w.heap.size w).alloc (Nat.le_refl _) _,Nat.le_refl _,heap_new w _,by rw [HNL.out]; simp,fun x hx=>⟨none,0,0,(List.mem_replicate.1 hx).2⟩,fun j _ _ h=>absurd h (Nat.not_lt_zero _),fun j _ _=>by simp⟩)
  obtain ⟨i0,hi0,hz0,hz1,hz2⟩:=info_parts infoIntD
  obtain ⟨a,c,hv1,-⟩:=id I.es
  subst hv1
  clear I sh h0 hn
  generalize nvL Q L = NV at *
  go_enter Tryz.func104,Tryz.ntmps104
  go_wp2_with fail
  clear hmk
  go_loopw [13] (fun iv wr=>∃ i : Nat,i <= Q.length /\ iv = .int .i64 i /\ Hid (∃ vs,Nw w wr w.heap.size vs NV i)) (fun iv _=>Q.length - (intOf iv).toNat)
  case atStart=>exact ⟨0,Nat.zero_le _,rfl,hid ⟨_,HN0.out⟩⟩
  case round=>
    obtain ⟨i,hi,rfl,HO⟩:=hrel
    obtain ⟨vs,hN⟩:=HO.out
    by_cases hlt : i < Q.length
    · have hiI : (i : Int) < (Q.length : Int):=by omega
      have hii : (0 : Int) <= (i : Int):=by omega
      have HLI:=hid hlt
      have hil : i < L.length:=by rw [<- HLN.out]; exact hlt
      have hiv : i < vs.length:=by rw [hN.ln,HNL.out]; exact hlt
      have hin : i < NV.length:=by rw [HNL.out]; exact hlt
      have hes:=(HI.out _ hN.bl).es
      obtain ⟨b,o,hab⟩ : ∃ b o,a = some ⟨b,o,none⟩:=by
        obtain ⟨a',c',e,_,_,h⟩:=hes
        injection e with q1 q2 q3
        obtain ⟨b,o,h4,_⟩:=h (fun h=>by rw [h] at hlt; simp at hlt)
        exact ⟨b,o,by rw [q1,h4]⟩
      subst hab
      obtain ⟨hsl,x0,x1,x2,x3,x4⟩:=es_all hes hlt
      have HMS:=hid (fun W (h : Below w.heap.size w W)=>((HI.out W h).ok i hlt hil).rq)
      have hRl:=HSZ.out i hil
      have HKR:=hid (fun m hm=>HK.out i hil m hm)
      have HNR:=hid (HNV.out i hil hin)
      have HVI:=hid (fun (h : i < vs.length)=>hN.ze i h (Nat.le_refl _))
      generalize (L[i]'hil).2.1 = R at *
      generalize Q[i] = xq at *
      obtain ⟨⟨p,q⟩,rv,pv,bk⟩:=xq
      obtain ⟨⟨ra,rn,rc,hrv⟩,pa,pn,pc,hpv⟩:=hsl
      simp only at hrv hpv x0 x1 x2 x3 x4 HMS
      subst hrv
      subst hpv
      obtain ⟨ra',rc',hrv,-⟩:=HMS.out w (Below.refl _ _)
      injection hrv with e1 e2 e3
      subst e1 e2 e3
      have HBa:=hid ((Below.refl wr.heap.size wr).alloc (Nat.le_refl _) (.cells #[.string p,.string q,.slice ra R.length rc,.slice pa pn pc,.bool bk] 45))
      have HNa:=hid (hN.below HBa.out)
      have HIV:=hid hiv
      clear hlt hil hes hN HO hiv
      go_wp2_with fail
      generalize wr.alloc (.cells #[.string p,.string q,.slice ra R.length rc,.slice pa pn pc,.bool bk] 45) = W1 at *
      have HR0:=hid (show RqD W1 W1 w.heap.size i vs [] (.slice none 0 0) from ⟨gr_self _ _,by
        have e : vs.set i (Value.slice none 0 0) = vs:=by rw [<- HVI.out HIV.out]; exact List.set_getElem_self _
        rw [e]; exact HNa.out.hp,World.ownsRow_nil _ _ _ _⟩)
      clear x0 x1 x2 x3 x4
      go_loopw [21] (fun kv wr=>∃ k : Nat,k <= R.length /\ kv = .int .i64 k /\ Hid (∃ P v,RqD W1 wr w.heap.size i vs P v /\ P = (R.take k).map fun m=>(idxOf (isM m) Q).toNat)) (fun kv _=>R.length - (intOf kv).toNat)
      case atStart=>exact ⟨0,Nat.zero_le _,rfl,hid ⟨[],_,HR0.out,rfl⟩⟩
      case round=>
        clear HBa
        obtain ⟨k,hk,rfl,HS⟩:=hrel
        obtain ⟨P,v,hR,hP⟩:=HS.out
        have hBw : Below w.heap.size w wr:=HNa.out.bl.grown hR.gr HNa.out.bl.size (fun b e=>by cases e; exact HNa.out.lo)
        by_cases hlk : k < R.length
        · have hkI : (k : Int) < (R.length : Int):=by omega
          have hk0 : (0 : Int) <= (k : Int):=by omega
          have HLK:=hid hlk
          obtain ⟨xb,xo,hxa,yy0,yy1⟩:=(HMS.out _ hBw).cells hlk
          subst hxa
          obtain ⟨x,hx,y0,y1,hxm⟩ : ∃ x : Bm,(R.take (k + 1)).map (fun m=>(idxOf (isM m) Q).toNat) = (R.take k).map (fun m=>(idxOf (isM m) Q).toNat) ++ [(idxOf (isM x) Q).toNat] /\ wr.cell? ⟨xb,xo + k * 2,none⟩ = some (.string x.1) /\ wr.cell? ⟨xb,xo + k * 2 + 1,none⟩ = some (.string x.2) /\ x ∈ R:=⟨_,by rw [List.take_succ_eq_append_getElem hlk,List.map_append]; rfl,yy0,yy1,List.getElem_mem hlk⟩
          clear yy0 yy1
          obtain ⟨n,hn⟩:=HKR.out x hxm
          have HPN:=hid (show P ++ [n] = (R.take (k + 1)).map fun m=>(idxOf (isM m) Q).toNat by
            rw [hx,<- hP,hn]; rfl)
          have HPL:=hid (show P.length <= 1000000 by rw [hP]; simp; omega)
          have HF:=hid (fun W (h : Below w.heap.size w W)=>HFI.out x W h)
          rw [hn] at HF
          clear hx hxm
          obtain ⟨x1,x2⟩:=x
          have HRR:=hid hR
          have HBW:=hid hBw
          obtain ⟨va,vn,vc,hv⟩ : ∃ a n c,v = .slice a n c:=by
            obtain ⟨_,⟨e,_⟩ | ⟨g,cap,cur,e,_⟩⟩:=hR.ow
            · exact ⟨_,_,_,e⟩
            · exact ⟨_,_,_,e⟩
          have hgl:=HIV.out
          have HGI:=hid (fun W (h : RqD W1 W w.heap.size i vs P v)=>show W.cell? ⟨w.heap.size,i,none⟩ = some v /\ ∀ o,W.frozen? ⟨w.heap.size,o,none⟩ = false from ⟨by rw [Lib.cell_of_heap h.hp]; simp [hgl],fun o=>Lib.frozen_of_heap h.hp o⟩)
          subst hv
          have HAl:=hid ((Below.refl wr.heap.size wr).alloc (Nat.le_refl _) (.cells #[.string x1,.string x2] 25))
          have HM0:=hid (heap_new wr (.cells #[.string x1,.string x2] 25))
          clear hlk hn hP hR HS hBw hgl
          go_wp2_with fail
          generalize wr.alloc (.cells #[.string x1,.string x2] 25) = wa at *
          have HRa:=hid (HRR.out.below HAl.out)
          have HBa:=hid (HBW.out.trans (HAl.out.mono HBW.out.size))
          obtain ⟨m0,m1,mf⟩:=box_two HM0.out
          obtain ⟨z0,zf⟩:=HGI.out wa HRa.out
          have HRd:=hid (fun W (h : Below wa.heap.size wa W)=>HRa.out.below h)
          go_region_law (first
            | (go_simp; go_at_call 83; refine (HF.out _ (HBa.out.trans ((below_drawn wa 1).mono HBa.out.size))).mono ?_; rintro e w3 ⟨rfl,hb⟩; have HB3:=hid ((below_drawn wa 1).trans (hb.mono (Nat.le_refl _))); obtain ⟨z1,zf1⟩:=HGI.out w3 (HRd.out w3 HB3.out); have hlt3 : w.heap.size < w3.heap.size:=lt_of_blk (HRd.out w3 HB3.out).hp; have hne3 : ¬ w.heap.size = w3.heap.size:=Nat.ne_of_lt hlt3; have hne3' : ¬ w3.heap.size = w.heap.size:=fun h=>hne3 h.symm; have z3:=cell_below ((Below.refl w3.heap.size w3).alloc (Nat.le_refl _) (.cells #[.int .i64 (n : Int)] 3)) z1; clear hb)
            | (refine step_append_lies _ (by rfl) _ _ 90 (by rfl) W1.heap.size 3 i0 _ 1 8 Tryz.underlying90 hi0 hz0 hz1 hz2 rfl (by decide) _ _ _ (by rfl) (((HRd.out w3 HB3.out).ow).alloc _) ⟨w3.heap.size,0,none⟩ 1 1 [.int .i64 (n : Int)] (by rfl) rfl (World.news_of_block (heap_new _ _)) (by intro u hu; simp at hu; subst hu; rfl) (by decide) (Nat.le_trans (Nat.add_le_add_right HPL.out 1) (by unfold maxLen; decide)) (by have:=HPL.out; omega) (Nat.le_trans (HRd.out w3 HB3.out).gr.size (by simp)) (w3.heap.size + 1) (by simp) ?_; intro g cap w4 hown hgrow hat hlt2; have HR4:=hid ((HRa.out).more HB3.out hown hgrow); have HG4:=hid hgrow; obtain ⟨z2,zf2⟩ : w4.cell? ⟨w.heap.size,i,none⟩ = some (.slice va vn vc) /\ ∀ o,w4.frozen? ⟨w.heap.size,o,none⟩ = false:=by
                have h3:=((HRd.out w3 HB3.out).below ((Below.refl w3.heap.size w3).alloc (Nat.le_refl _) (.cells #[.int .i64 (n : Int)] 3)))
                have hne:=own_neK h3.ow h3.hp (by decide)
                have hb:=hgrow.block w.heap.size (lt_of_blk h3.hp) (fun e=>hne e.symm)
                obtain ⟨c1,c2⟩:=HGI.out _ h3
                exact ⟨(World.cell?_of_block hb).trans c1,fun o=>(World.frozen?_of_block hb).trans (c2 o)⟩))
          all_goals
            have HNX:=hid (show ∃ P' v',RqD W1 (w4.setCell ⟨w.heap.size,i,none⟩ (.slice (some ⟨g,0,none⟩) (P.length + 1) cap)) w.heap.size i vs P' v' /\ P' = (R.take (k + 1)).map fun m=>(idxOf (isM m) Q).toNat from ⟨_,_,HR4.out,HPN.out⟩)
            clear hown hgrow hat hlt2 m0 m1 mf z0 zf z1 zf1 z2 zf2 z3 hlt3 hne3 hne3'
            go_wp2_with fail
            go_roundw
            case rel=>first | exact ⟨k + 1,HLK.out,nr_idx k,HNX⟩ | exact ⟨k + 1,HLK.out,nx_idx HLK.out (by omega),HNX⟩
            case measure=>first | exact nr_meas HLK.out | exact nx_meas HLK.out (by omega)
        · have hkI : ¬ (k : Int) < (R.length : Int):=by omega
          have HNX:=hid (show ∃ vs,Nw w wr w.heap.size vs NV (i + 1) from ⟨_,HNa.out.next hR (fun h'=>by rw [HNR.out,hP,List.take_of_length_le (by omega)])⟩)
          clear hlk hR hP HS hBw
          go_wp2_with fail
          go_roundw
          case rel=>first | exact ⟨i + 1,HLI.out,nr_idx i,HNX⟩ | exact ⟨i + 1,HLI.out,nx_idx HLI.out (by omega),HNX⟩
          case measure=>first | exact nr_meas HLI.out | exact nx_meas HLI.out (by omega)
    · have hiI : ¬ (i : Int) < (Q.length : Int):=by omega
      have HE:=hid (show ∃ vs,Nv wr w.heap.size vs NV /\ Below w.heap.size w wr from ⟨vs,⟨hN.hp,hN.ln,hN.sl,fun j h1 h2=>hN.ia j h1 h2 (by rw [HNL.out] at h2; omega)⟩,hN.bl⟩)
      clear hlt hN HO
      go_wp2_with fail
      go_ret
      exact ⟨rfl,let ⟨vs,h1,h2⟩:=HE.out; ⟨⟨vs,h1⟩,h2⟩⟩
end Ve
end Go.Proofs.YtlcffhadobhfkaaGreatDoor
