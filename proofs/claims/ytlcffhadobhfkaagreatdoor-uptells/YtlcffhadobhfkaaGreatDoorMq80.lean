/-
  LkC UtC UtD UtE
-/
import Derived.Test.YtlcffhadobhfkaaGreatDoorMq3
import Derived.Test.YtlcffhadobhfkaaGreatDoorMq5
import Derived.Test.YtlcffhadobhfkaaGreatDoorMq6
import Derived.Test.YtlcffhadobhfkaaGreatDoorMq9
import Derived.Test.YtlcffhadobhfkaaGreatDoorMq11
import Derived.Test.YtlcffhadobhfkaaGreatDoorMq18
import Derived.Test.YtlcffhadobhfkaaGreatDoorMq19
import Derived.Test.YtlcffhadobhfkaaGreatDoorMq21
import Derived.Test.YtlcffhadobhfkaaGreatDoorMq20
import Derived.Test.YtlcffhadobhfkaaGreatDoorMq23
import Derived.Test.YtlcffhadobhfkaaGreatDoorMq32
import Derived.Test.YtlcffhadobhfkaaGreatDoorMq36
import Derived.Test.YtlcffhadobhfkaaGreatDoorMq34
import Derived.Test.YtlcffhadobhfkaaGreatDoorMq73
import Derived.Test.YtlcffhadobhfkaaGreatDoorMq35
import Derived.Test.YtlcffhadobhfkaaGreatDoorMq79
import Derived.Test.YtlcffhadobhfkaaGreatDoorMq2
import Derived.Test.YtlcffhadobhfkaaGreatDoorMq16
import Derived.Test.YtlcffhadobhfkaaGreatDoorMq22
import Derived.Test.YtlcffhadobhfkaaGreatDoorMq45
import Derived.Test.YtlcffhadobhfkaaGreatDoorMq37
import Derived.Test.YtlcffhadobhfkaaGreatDoorMq1
import Derived.Test.YtlcffhadobhfkaaGreatDoorMq39
import Derived.Test.YtlcffhadobhfkaaGreatDoorMq47
import Derived.Test.YtlcffhadobhfkaaGreatDoorMq43
import Derived.Test.YtlcffhadobhfkaaGreatDoorMq31
import Derived.Test.YtlcffhadobhfkaaGreatDoorMq14
import Derived.Test.YtlcffhadobhfkaaGreatDoorMq76
namespace Go.Proofs.YtlcffhadobhfkaaGreatDoor
open Go.RowKit Go.Maps
namespace Ve
theorem nodup_sub {α : Type} [DecidableEq α] : ∀ {a b : List α},a.Nodup -> (∀ x,x ∈ a -> x ∈ b) -> a.length <= b.length
  | [],b,_,_=>Nat.zero_le _
  | x :: r,b,hn,hs=>by
    obtain ⟨h1,h2⟩:=List.nodup_cons.1 hn
    have hx:=hs x (List.mem_cons_self ..)
    have:=nodup_sub (a:=r) (b:=b.erase x) h2 fun y hy=>(List.mem_erase_of_ne (fun e=>h1 (by rw [<- e]; exact hy))).2 (hs y (List.mem_cons_of_mem _ hy))
    rw [List.length_erase_of_mem hx] at this
    have hp:=List.length_pos_of_mem hx
    simp only [List.length_cons]
    omega
structure VerOk (Q : List Raw) (t : ByteArray) (X : List ByteArray) : Prop where
  at_ : ∀ j (hj : j < X.length),∃ k,∃ hk : k < Q.length,idxOf (isM (t,X[j])) Q = (k : Int) /\ Q[k].1.2 = X[j] /\ verErr X[j].data.toList = 0 /\ X[j].size < 999999 /\ rkV Q t X[j] = rnk Q[k]
theorem verOk_of {Q : List Raw} {t : ByteArray} {X : List ByteArray} (g : Good Q) (hz : ∀ r,r ∈ Q -> r.1.1.size <= 80 /\ r.1.2.size <= 80) (hK : Kept (verL (ofP t Q)) (verL (ofP t Q)).length X) : VerOk Q t X:=⟨fun j hj=>by
  obtain ⟨n,h⟩:=one_of g hK (List.getElem_mem hj)
  have hq:=h.mem
  have h1:=g.ofP_mem.1 hq
  refine ⟨n,h.lt,h.idx,h.same,h.ver,?_,?_⟩
  · have:=(hz _ h1.1).2
    rw [h.same] at this
    omega
  · have h2:=rkV_at g h1.1
    rw [h1.2,h.same] at h2
    exact h2⟩
set_option maxRecDepth 100000 in
set_option maxHeartbeats 4000000 in
theorem liked_any (Q : List Raw) (t : ByteArray) (X : List ByteArray) (v u : Value) (w : World) (hL : Q.length ≤ 1000) (hX : X.length ≤ 1000000) (hok : VerOk Q t X) (hv : EsAt w v Q) (hu : TxAt w u X) :
    Calls Tryz.prog 136 #[v,.string t,u,.bool false] w fun e w'=>e = .returned (.string (likN Q t X X.length).1) /\ Below w.heap.size w w':=by
  have HRK:=hid (fun j (hj : j < X.length) W (h : Below w.heap.size w W)=>show Calls Tryz.prog 179 #[v,.string t,.string X[j]] W fun e w'=>e = .returned (.int .i64 (rkV Q t X[j] : Nat)) /\ Below W.heap.size W w' by
    obtain ⟨k,hk,h1,h2,h3,h4,h5⟩:=hok.at_ j hj
    rw [h5]
    exact rank_any Q t X[j] k v W hL h4 hk h1 h2 h3 (hv.below h))
  have HU:=hid (fun W (h : Below w.heap.size w W)=>hu.below h)
  obtain ⟨va,vc,hv1,-⟩:=id hv
  subst hv1
  obtain ⟨ua,uc,hu1,-⟩:=id hu
  subst hu1
  clear hv hu hok
  go_enter Tryz.func136,Tryz.ntmps136
  go_wp2_with fail
  go_loopw [9,10,11] (fun bv rv iv wr=>∃ i : Nat,i <= X.length /\ iv = .int .i64 i /\ bv = .string (likN Q t X i).1 /\ rv = .int .i64 (likN Q t X i).2 /\ Hid (Below w.heap.size w wr)) (fun _ _ iv _=>X.length - (intOf iv).toNat)
  case atStart=>exact ⟨0,Nat.zero_le _,rfl,rfl,rfl,hid (Below.refl _ _)⟩
  case round=>
    obtain ⟨i,hi,rfl,rfl,rfl,HB⟩:=hrel
    by_cases hlt : i < X.length
    · have hiI:=ix_lt hlt
      have hii:=ix_pos i
      have HLI:=hid hlt
      obtain ⟨b,o,hua,y0⟩:=tx_cellK (HU.out _ HB.out) hlt
      subst hua
      have HRI:=hid (HRK.out i hlt wr HB.out)
      have HNX:=hid (likN_next (Q:=Q) (t:=t) hlt)
      unfold likS at HNX
      generalize X[i] = x at *
      generalize rkV Q t x = z at *
      obtain ⟨s,hs⟩ : ∃ s,likN Q t X i = s:=⟨_,rfl⟩
      rw [hs] at HNX ⊢
      obtain ⟨bs,br⟩:=s
      simp only at HNX ⊢
      clear hlt hs
      rcases Int.lt_trichotomy br (z : Int) with hc | hc | hc
      · rw [if_pos (Int.le_of_lt hc)] at HNX
        go_wp2_with fail
        refine HRI.out.mono ?_
        rintro e w1 ⟨rfl,hb⟩
        have HB1:=hid (HB.out.trans (hb.mono HB.out.size))
        have y1:=cell_below hb y0
        clear hb
        go_wp2_with fail
        go_roundw
        case rel=>first | exact ⟨i + 1,HLI.out,nr_idx i,by rw [HNX.out],by rw [HNX.out],HB1⟩ | exact ⟨i + 1,HLI.out,nx_idx HLI.out hX,by rw [HNX.out],by rw [HNX.out],HB1⟩
        case measure=>first | exact nr_meas HLI.out | exact nx_meas HLI.out hX
      · subst hc
        rw [if_pos (Int.le_refl _)] at HNX
        have hn1 : ¬ ((z : Nat) : Int) < ((z : Nat) : Int):=Int.lt_irrefl _
        have hn2 : (((z : Nat) : Int) == ((z : Nat) : Int)) = true:=beq_self_eq_true _
        go_wp2_with fail
        refine HRI.out.mono ?_
        rintro e w1 ⟨rfl,hb⟩
        have HB1:=hid (HB.out.trans (hb.mono HB.out.size))
        have y1:=cell_below hb y0
        clear hb
        go_wp2_with fail
        go_roundw
        case rel=>first | exact ⟨i + 1,HLI.out,nr_idx i,by rw [HNX.out],by rw [HNX.out],HB1⟩ | exact ⟨i + 1,HLI.out,nx_idx HLI.out hX,by rw [HNX.out],by rw [HNX.out],HB1⟩
        case measure=>first | exact nr_meas HLI.out | exact nx_meas HLI.out hX
      · rw [if_neg (Int.not_le.2 hc)] at HNX
        have hn1 : ¬ br < ((z : Nat) : Int):=Int.not_lt.2 (Int.le_of_lt hc)
        have hn2 : (((z : Nat) : Int) == br) = false:=by rw [beq_eq_false_iff_ne]; exact Int.ne_of_lt hc
        have hn3 : ¬ ((z : Nat) : Int) = br:=Int.ne_of_lt hc
        go_wp2_with fail
        refine HRI.out.mono ?_
        rintro e w1 ⟨rfl,hb⟩
        have HB1:=hid (HB.out.trans (hb.mono HB.out.size))
        clear hb
        go_wp2_with fail
        go_roundw
        case rel=>first | exact ⟨i + 1,HLI.out,nr_idx i,by rw [HNX.out],by rw [HNX.out],HB1⟩ | exact ⟨i + 1,HLI.out,nx_idx HLI.out hX,by rw [HNX.out],by rw [HNX.out],HB1⟩
        case measure=>first | exact nr_meas HLI.out | exact nx_meas HLI.out hX
    · have hiI:=ix_nlt hlt
      have hie : i = X.length:=Nat.le_antisymm hi (Nat.le_of_not_lt hlt)
      subst hie
      clear hlt
      go_wp2_with fail
      go_ret
      exact ⟨rfl,HB.out⟩
theorem kept_lenK {L : List ByteArray} {n : Nat} {X : List ByteArray} (g : L.length <= 1000) (h : Kept L n X) : X.length <= 1000:=by
  have hs : (bl X).length <= (bl L).length:=nodup_sub (rises_nd h.1) fun t ht=>List.mem_of_mem_take (by
    have:=((h.2 t).1 ht).1
    unfold bl at this ⊢
    rw [List.map_take] at this
    exact this)
  rw [bl_len,bl_len] at hs
  omega
set_option maxRecDepth 100000 in
set_option maxHeartbeats 4000000 in
theorem latOf_any (Q : List Raw) (t : ByteArray) (v : Value) (w : World) (hL : Q.length <= 1000) (g : Good Q) (hz : ∀ r,r ∈ Q -> r.1.1.size <= 80 /\ r.1.2.size <= 80) (hK : ∃ Y,KeptT Q t Y) (hv : EsAt w v Q) :
    Calls Tryz.prog 92 #[v,.string t] w fun e w'=>e = .returned (.string (latV Q t)) /\ Below w.heap.size w w':=by
  have HVO:=hid (versOf_any Q t v w hL hz hv)
  have HP:=hid (show pthR t Q = ofP t Q from (g.ofP t).symm)
  rw [HP.out] at HVO
  have HLK:=hid (fun X u W (h : Below w.heap.size w W) (hX : Kept (verL (ofP t Q)) (verL (ofP t Q)).length X) (hu : TxAt W u X)=>liked_any Q t X v u W hL (Nat.le_trans (kept_lenK (by rw [verL_len]; exact Nat.le_trans (ofP_len t Q) hL) hX) (by decide)) (verOk_of g hz hX) (hv.below h) hu)
  have HEQ:=hid (fun X (hX : Kept (verL (ofP t Q)) (verL (ofP t Q)).length X)=>show (likN Q t X X.length).1 = latV Q t by
    obtain ⟨Y,hY⟩:=hK
    exact lik_lat g hX hY)
  obtain ⟨va,vc,hv1,-⟩:=id hv
  subst hv1
  clear hv hz hK HP
  go_enter Tryz.func92,Tryz.ntmps92
  go_wp2_with fail
  refine HVO.out.mono ?_
  rintro e w1 ⟨u,X,rfl,hu,hX,hb⟩
  have HL1:=hid (HLK.out X u w1 hb hX hu)
  rw [HEQ.out X hX] at HL1
  have HB1:=hid hb
  obtain ⟨ua,uc,hu1,-⟩:=hu
  subst hu1
  clear hb hX HVO HLK HEQ
  go_wp2_with fail
  refine HL1.out.mono ?_
  rintro e w2 ⟨rfl,hb⟩
  have HB2:=hid (HB1.out.trans (hb.mono HB1.out.size))
  clear hb
  go_wp2_with fail
  go_ret
  exact ⟨rfl,HB2.out⟩
theorem ms_put2 {W : World} {v : Value} {E : List Bm} {b : Nat} {n : Int} {z : Value} {T : TypeId} {x y : Value} (h : MsAt W v E) (hb : W.heap[b]? = some (.cells #[z,.int .i64 n] T (0,0))) : MsAt ((W.setCell ⟨b,0,none⟩ x).setCell ⟨b,1,none⟩ y) v E:=by
  obtain ⟨a,c,rfl,hc,hk⟩:=h
  refine ⟨a,c,rfl,hc,fun hE=>?_⟩
  obtain ⟨g,o,rfl,hcell⟩:=hk hE
  refine ⟨g,o,rfl,fun j hj=>?_⟩
  have hne : g ≠ b:=fun e=>by
    subst e
    have h0:=(hcell 0 (List.length_pos_iff.2 hE)).1
    have h1:=(hcell 0 (List.length_pos_iff.2 hE)).2
    rw [Lib.cell_of_heap hb] at h0 h1
    have hlt0:=(Array.getElem?_eq_some_iff.1 h0).1
    have hlt1:=(Array.getElem?_eq_some_iff.1 h1).1
    simp only [List.size_toArray,List.length_cons,List.length_nil] at hlt0 hlt1
    have ho : o = 0:=by omega
    subst ho
    simp at h1
  have go : ∀ (V : World) (k : Nat) (q : Value) (o' : Nat),(V.setCell ⟨b,k,none⟩ q).cell? ⟨g,o',none⟩ = V.cell? ⟨g,o',none⟩:=fun V k q o'=>World.cell?_of_block (Below.heap_setCell _ _ _ _ hne)
  rw [go,go,go,go]
  exact hcell j hj
set_option maxRecDepth 100000 in
set_option maxHeartbeats 4000000 in
theorem oneO_bad (Q : List Raw) (L : List Ent) (roots : List Bm) (x : Bm) (v rv : Value) (w : World) (hn : L.length <= 1000) (hrn : roots.length <= 1000000) (sh : ∀ e,e ∈ L -> ShE e) (I : Ixs w v Q L) (hr : MsAt w rv roots) (h0 : ¬ (chkG Q L roots).1 = 0) :
    Calls Tryz.prog 43 #[v,rv,.agg #[.string x.1,.string x.2]] w fun e w'=>e = .returned (.tuple #[.slice none 0 0,faultV (chkG Q L roots)]) /\ Below w.heap.size w w':=by
  obtain ⟨p,q⟩:=x
  have HBm:=hid ((Below.refl w.heap.size w).alloc (Nat.le_refl _) (.cells #[.string p,.string q] 25))
  have HB0:=hid (HBm.out.alloc HBm.out.size (.cells #[.int .i64 0,.int .i64 0] 36))
  have HE0:=hid (heap_new (w.alloc (.cells #[.string p,.string q] 25)) (.cells #[.int .i64 0,.int .i64 0] 36))
  have hsz : (w.alloc (.cells #[.string p,.string q] 25)).heap.size = w.heap.size + 1:=by simp
  rw [hsz] at HE0
  have HRO:=hid (fun W (h : Below w.heap.size w W)=>bo_bad Q L roots v rv W hn hrn sh (I.below h) (hr.below h) h0)
  obtain ⟨a,c,hv1,-⟩:=id I.es
  subst hv1
  obtain ⟨ra,rc,hrv,-⟩:=id hr
  subst hrv
  obtain ⟨cc,oo,hco⟩ : ∃ cc oo,chkG Q L roots = (cc,oo):=⟨_,_,rfl⟩
  rw [hco] at HRO h0 ⊢
  unfold faultV at HRO ⊢
  simp only at HRO h0 ⊢
  generalize atOf oo = ao at *
  have hpos : (0 : Int) < (cc : Int):=by omega
  clear I hr sh h0 hco
  go_enter Tryz.func43,Tryz.ntmps43
  go_wp2_with fail
  refine (HRO.out _ HB0.out).mono ?_
  rintro e w1 ⟨rfl,hb⟩
  have HB1:=hid (HB0.out.trans (hb.mono HB0.out.size))
  have HE1:=hid ((hb.block _ (lt_of_blk HE0.out)).trans HE0.out)
  clear hb
  have HB2:=hid (HB1.out.alloc HB1.out.size (.cells #[.int .i64 (cc : Int),.int .i64 ao] 36))
  have HE2:=hid (heap_old w1 (.cells #[.int .i64 (cc : Int),.int .i64 ao] 36) HE1.out)
  have HF2:=hid (heap_new w1 (.cells #[.int .i64 (cc : Int),.int .i64 ao] 36))
  have hne : ¬ w1.heap.size = w.heap.size + 1:=Nat.ne_of_gt (lt_of_blk HE1.out)
  have hne2 : ¬ w.heap.size + 1 = w1.heap.size:=Nat.ne_of_lt (lt_of_blk HE1.out)
  go_wp2_with fail
  generalize w1.alloc (.cells #[.int .i64 (cc : Int),.int .i64 ao] 36) = w2 at *
  obtain ⟨s0,s1,tf⟩:=box_two HE2.out
  obtain ⟨f0,f1,_⟩:=box_two HF2.out
  go_region_with fail
  all_goals
    go_wp2_with fail
    refine bodyPost_ret (v:=.tuple #[.slice none 0 0,.agg #[.int .i64 (cc : Int),.int .i64 ao]]) (by simp [results,Tryz.results43,go_sem,s0,s1]) rfl ⟨rfl,?_⟩
    exact put2_below (below_drawn_of HB2.out 1) (Nat.le_succ _)
set_option maxRecDepth 100000 in
set_option maxHeartbeats 4000000 in
theorem oneO_not (Q : List Raw) (L : List Ent) (roots : List Bm) (x : Bm) (v rv : Value) (w : World) (hn : L.length <= 1000) (hrn : roots.length <= 1000000) (sh : ∀ e,e ∈ L -> ShE e) (I : Ixs w v Q L) (hr : MsAt w rv roots) (h0 : (chkG Q L roots).1 = 0) (hx : ¬ x ∈ univ L) :
    Calls Tryz.prog 43 #[v,rv,.agg #[.string x.1,.string x.2]] w fun e w'=>e = .returned (.tuple #[.slice none 0 0,.agg #[.int .i64 5,.int .i64 (-1)]]) /\ Below w.heap.size w w':=by
  obtain ⟨p,q⟩:=x
  have HBm:=hid ((Below.refl w.heap.size w).alloc (Nat.le_refl _) (.cells #[.string p,.string q] 25))
  have HB0:=hid (HBm.out.alloc HBm.out.size (.cells #[.int .i64 0,.int .i64 0] 36))
  have HE0:=hid (heap_new (w.alloc (.cells #[.string p,.string q] 25)) (.cells #[.int .i64 0,.int .i64 0] 36))
  have HM0:=hid (heap_old (w.alloc (.cells #[.string p,.string q] 25)) (.cells #[.int .i64 0,.int .i64 0] 36) (heap_new w (.cells #[.string p,.string q] 25)))
  have hsz : (w.alloc (.cells #[.string p,.string q] 25)).heap.size = w.heap.size + 1:=by simp
  rw [hsz] at HE0
  have HRO:=hid (fun W (h : Below w.heap.size w W)=>bo_all Q L roots v rv W hn hrn sh (I.below h) (hr.below h))
  rw [rF_good h0,faultV0] at HRO
  have HFI:=hid (fun W (h : Below w.heap.size w W)=>findOf_allJ Q (p,q) v W (by rw [I.ln]; omega) (I.below h).es)
  obtain ⟨k,hk,hkn⟩ : ∃ k,idxOf (isM (p,q)) Q = k /\ k < 0:=by
    rcases idx_nat (isM (p,q)) Q with h1 | ⟨k,h1⟩
    · exact ⟨_,h1,by omega⟩
    · exact absurd ((found_iff I (p,q)).2 ⟨k,h1⟩) hx
  rw [hk] at HFI
  have HBA:=hid (fun W=>rbare_any 5 W)
  obtain ⟨a,c,hv1,-⟩:=id I.es
  subst hv1
  obtain ⟨ra,rc,hrv,-⟩:=id hr
  subst hrv
  clear I hr sh h0 hx hk
  go_enter Tryz.func43,Tryz.ntmps43
  go_wp2_with fail
  refine (HRO.out _ HB0.out).mono ?_
  rintro e w1 ⟨ba,bc,rfl,hm⟩
  have HB1:=hid (HB0.out.trans (hm.1.mono HB0.out.size))
  have HE1:=hid ((hm.1.block _ (lt_of_blk HE0.out)).trans HE0.out)
  have HM1:=hid ((hm.1.block _ (lt_of_blk HM0.out)).trans HM0.out)
  clear hm
  have HB2:=hid (HB1.out.alloc HB1.out.size (.cells #[.int .i64 0,.int .i64 (-1)] 36))
  have HE2:=hid (heap_old w1 (.cells #[.int .i64 0,.int .i64 (-1)] 36) HE1.out)
  have HM2:=hid (heap_old w1 (.cells #[.int .i64 0,.int .i64 (-1)] 36) HM1.out)
  have HF2:=hid (heap_new w1 (.cells #[.int .i64 0,.int .i64 (-1)] 36))
  have hne : ¬ w1.heap.size = w.heap.size + 1:=Nat.ne_of_gt (lt_of_blk HE1.out)
  have hne2 : ¬ w.heap.size + 1 = w1.heap.size:=Nat.ne_of_lt (lt_of_blk HE1.out)
  have hne3 : ¬ w.heap.size = w1.heap.size:=Nat.ne_of_lt (lt_of_blk HM1.out)
  obtain ⟨n0,n1,_⟩:=box_two HM2.out
  go_wp2_with fail
  generalize w1.alloc (.cells #[.int .i64 0,.int .i64 (-1)] 36) = w2 at *
  refine (HFI.out _ HB2.out).mono ?_
  rintro e w3 ⟨rfl,hb⟩
  have HB3:=hid (HB2.out.trans (hb.mono HB2.out.size))
  have HE3:=hid ((hb.block _ (lt_of_blk HE2.out)).trans HE2.out)
  clear hb
  go_wp2_with fail
  refine (HBA.out _).mono ?_
  rintro e w4 ⟨rfl,hb⟩
  have HB4:=hid (HB3.out.trans (hb.mono HB3.out.size))
  have HE4:=hid ((hb.block _ (lt_of_blk HE3.out)).trans HE3.out)
  clear hb
  obtain ⟨s0,s1,tf⟩:=box_two HE4.out
  go_wp2_with fail
  refine bodyPost_ret (v:=.tuple #[.slice none 0 0,.agg #[.int .i64 5,.int .i64 (-1)]]) (by simp [results,Tryz.results43,go_sem,s0,s1]) rfl ⟨rfl,?_⟩
  exact put2_below HB4.out (Nat.le_succ _)
set_option maxRecDepth 100000 in
set_option maxHeartbeats 4000000 in
theorem oneO_good (Q : List Raw) (L : List Ent) (roots : List Bm) (x : Bm) (v rv : Value) (w : World) (hn : L.length <= 1000) (hrn : roots.length <= 400) (sh : ∀ e,e ∈ L -> ShE e) (I : Ixs w v Q L) (hr : MsAt w rv roots) (her : Em rv roots) (h0 : (chkG Q L roots).1 = 0) (hx : x ∈ univ L) :
    Calls Tryz.prog 43 #[v,rv,.agg #[.string x.1,.string x.2]] w fun e w'=>∃ xa xc,e = .returned (.tuple #[.slice xa (bX Q L (roots ++ [x])).length xc,.agg #[.int .i64 0,.int .i64 (-1)]]) /\ MsAt w' (.slice xa (bX Q L (roots ++ [x])).length xc) (bX Q L (roots ++ [x])) /\ Below w.heap.size w w':=by
  have hg : (chkG Q L (roots ++ [x])).1 = 0:=chkG_in I (chkG_chk h0) fun y hy=>by
    rcases List.mem_append.1 hy with h | h
    · exact (rgt_of I h0).r y h
    · rw [List.mem_singleton.1 h]; exact hx
  obtain ⟨p,q⟩:=x
  have HBm:=hid ((Below.refl w.heap.size w).alloc (Nat.le_refl _) (.cells #[.string p,.string q] 25))
  have HB0:=hid (HBm.out.alloc HBm.out.size (.cells #[.int .i64 0,.int .i64 0] 36))
  have HE0:=hid (heap_new (w.alloc (.cells #[.string p,.string q] 25)) (.cells #[.int .i64 0,.int .i64 0] 36))
  have HM0:=hid (heap_old (w.alloc (.cells #[.string p,.string q] 25)) (.cells #[.int .i64 0,.int .i64 0] 36) (heap_new w (.cells #[.string p,.string q] 25)))
  have hsz : (w.alloc (.cells #[.string p,.string q] 25)).heap.size = w.heap.size + 1:=by simp
  rw [hsz] at HE0
  have HRO:=hid (fun W (h : Below w.heap.size w W)=>bo_all Q L roots v rv W hn (by omega) sh (I.below h) (hr.below h))
  rw [rF_good h0,faultV0] at HRO
  have HR2:=hid (fun W u (h : Below w.heap.size w W) (hu : MsAt W u (roots ++ [(p,q)]))=>bo_all Q L (roots ++ [(p,q)]) v u W hn (by simp; omega) sh (I.below h) hu)
  rw [rF_good hg,faultV0] at HR2
  have HFI:=hid (fun W (h : Below w.heap.size w W)=>findOf_allJ Q (p,q) v W (by rw [I.ln]; omega) (I.below h).es)
  obtain ⟨k,hk⟩:=(found_iff I (p,q)).1 hx
  rw [hk] at HFI
  have hk0 : ¬ (k : Int) < 0:=by omega
  have HR:=hid (fun W (h : Below w.heap.size w W)=>hr.below h)
  have HER:=hid her
  obtain ⟨i0,hi0,hz0,hz1,hz2⟩:=info_parts infoMod
  have HRL:=hid hrn
  obtain ⟨a,c,hv1,-⟩:=id I.es
  subst hv1
  obtain ⟨ra,rc,hrv,-⟩:=id hr
  subst hrv
  clear I hr sh h0 hx hk her hg
  go_enter Tryz.func43,Tryz.ntmps43
  go_wp2_with fail
  refine (HRO.out _ HB0.out).mono ?_
  rintro e w1 ⟨ba,bc,rfl,hm⟩
  have HB1:=hid (HB0.out.trans (hm.1.mono HB0.out.size))
  have HE1:=hid ((hm.1.block _ (lt_of_blk HE0.out)).trans HE0.out)
  have HM1:=hid ((hm.1.block _ (lt_of_blk HM0.out)).trans HM0.out)
  clear hm HRO
  have HB2:=hid (HB1.out.alloc HB1.out.size (.cells #[.int .i64 0,.int .i64 (-1)] 36))
  have HE2:=hid (heap_old w1 (.cells #[.int .i64 0,.int .i64 (-1)] 36) HE1.out)
  have HM2:=hid (heap_old w1 (.cells #[.int .i64 0,.int .i64 (-1)] 36) HM1.out)
  have hne : ¬ w1.heap.size = w.heap.size + 1:=Nat.ne_of_gt (lt_of_blk HE1.out)
  have hne2 : ¬ w.heap.size + 1 = w1.heap.size:=Nat.ne_of_lt (lt_of_blk HE1.out)
  have hne3 : ¬ w.heap.size = w1.heap.size:=Nat.ne_of_lt (lt_of_blk HM1.out)
  obtain ⟨n0,n1,_⟩:=box_two HM2.out
  go_wp2_with fail
  generalize w1.alloc (.cells #[.int .i64 0,.int .i64 (-1)] 36) = w2 at *
  clear n0 n1 HB0 HE0 HM0 HBm
  refine (HFI.out _ HB2.out).mono ?_
  rintro e w3 ⟨rfl,hb⟩
  have HB3:=hid (HB2.out.trans (hb.mono HB2.out.size))
  have HE3:=hid ((hb.block _ (lt_of_blk HE2.out)).trans HE2.out)
  have HM3:=hid ((hb.block _ (lt_of_blk HM2.out)).trans HM2.out)
  clear hb
  obtain ⟨av,w4,hrun,hown,hgr⟩:=both_run [] roots (.slice none 0 0) _ w3 w3.heap.size (Nat.le_refl _) (by simp) (Nat.le_trans HRL.out (by decide)) (World.ownsRow_nil _ _ _ _) (HR.out _ HB3.out) HER.out
  have HRUN:=hid hrun
  have HD4:=hid (show Below w3.heap.size w3 w4 from grown_below hgr)
  have HB4:=hid (HB3.out.trans (HD4.out.mono HB3.out.size))
  have HE4:=hid ((HD4.out.block _ (lt_of_blk HE3.out)).trans HE3.out)
  have HM4:=hid ((HD4.out.block _ (lt_of_blk HM3.out)).trans HM3.out)
  rw [List.nil_append] at hown
  have HO4:=hid hown
  have HW34:=hid (show w3.heap.size <= w4.heap.size from HD4.out.size)
  obtain ⟨aa,ac,hav⟩:=own_slN hown
  subst hav
  clear hrun hown hgr
  obtain ⟨m0,m1,mf⟩:=box_two HM4.out
  go_wp2_with (at_builtin; first
    | refine wpList_append_own _ rfl _ _ 23 rfl w3.heap.size 25 i0 _ 2 32 Tryz.underlying23 hi0 hz0 hz1 hz2 rfl (by decide) _ _ _ rfl (HO4.out.alloc _) ⟨w4.heap.size,0,none⟩ 1 1 [.string p,.string q] rfl rfl (World.news_of_block (heap_new _ _)) (by intro u hu; simp at hu; rcases hu with rfl | rfl <;> rfl) (Nat.le_trans (Nat.add_le_add_right HRL.out 1) (by unfold maxLen; decide)) (by have hz:=HRL.out; omega) (Nat.le_trans HW34.out (by simp)) ?_
    | refine Lib.wpList_append_run _ rfl _ _ _ _ rfl _ _ rfl rfl _ _ HRUN.out ?_)
  intro v' w5 hown hgrow _
  have HD5:=hid (rel_app2 HD4.out.size HD4.out HO4.out (Below.refl _ _) hgrow)
  have HB5:=hid (HB3.out.trans (HD5.out.mono HB3.out.size))
  have HE5:=hid ((HD5.out.block _ (lt_of_blk HE3.out)).trans HE3.out)
  have HMS:=hid (show MsAt w5 v' (roots ++ [(p,q)]) from own_ms (by rw [List.length_append,flatM_app]; exact hown))
  have HBE:=hid (HR2.out w5 v' HB5.out HMS.out)
  obtain ⟨BX,hBX⟩ : ∃ BX,bX Q L (roots ++ [(p,q)]) = BX:=⟨_,rfl⟩
  have HBX:=hid hBX
  rw [hBX] at HBE
  obtain ⟨va',vc',hv',-⟩:=HMS.out
  subst hv'
  obtain ⟨RN,hRN⟩ : ∃ RN,(roots ++ [(p,q)]).length = RN:=⟨_,rfl⟩
  rw [hRN] at HBE ⊢
  clear hown hgrow m0 m1 mf HMS HR2 hBX hRN
  go_wp2_with fail
  refine HBE.out.mono ?_
  rintro e w6 ⟨xa,xc,rfl,hm⟩
  have HB6:=hid (HB5.out.trans (hm.1.mono HB5.out.size))
  have HE6:=hid ((hm.1.block _ (lt_of_blk HE5.out)).trans HE5.out)
  have HMX:=hid (ms_put2 (b:=w.heap.size + 1) (x:=.int .i64 0) (y:=.int .i64 (-1)) hm.ms HE6.out)
  clear hm HBE
  obtain ⟨s0,s1,tf⟩:=box_two HE6.out
  go_wp2_with fail
  refine bodyPost_ret (v:=.tuple #[.slice xa BX.length xc,.agg #[.int .i64 0,.int .i64 (-1)]]) (by simp [results,Tryz.results43,go_sem,s0,s1]) rfl ?_
  have h:=HBX.out
  subst h
  exact ⟨_,_,rfl,HMX.out,put2_below HB6.out (Nat.le_succ _)⟩
set_option maxRecDepth 100000 in
set_option maxHeartbeats 4000000 in
theorem allO_bad (Q : List Raw) (L : List Ent) (roots : List Bm) (v rv : Value) (w : World) (hn : L.length <= 1000) (hrn : roots.length <= 1000000) (sh : ∀ e,e ∈ L -> ShE e) (I : Ixs w v Q L) (hr : MsAt w rv roots) (h0 : ¬ (chkG Q L roots).1 = 0) :
    Calls Tryz.prog 44 #[v,rv] w fun e w'=>e = .returned (.tuple #[.slice none 0 0,faultV (chkG Q L roots)]) /\ Below w.heap.size w w':=by
  have HB0:=hid ((Below.refl w.heap.size w).alloc (Nat.le_refl _) (.cells #[.int .i64 0,.int .i64 0] 36))
  have HE0:=hid (heap_new w (.cells #[.int .i64 0,.int .i64 0] 36))
  have HRO:=hid (fun W (h : Below w.heap.size w W)=>bo_bad Q L roots v rv W hn hrn sh (I.below h) (hr.below h) h0)
  obtain ⟨a,c,hv1,-⟩:=id I.es
  subst hv1
  obtain ⟨ra,rc,hrv,-⟩:=id hr
  subst hrv
  obtain ⟨cc,oo,hco⟩ : ∃ cc oo,chkG Q L roots = (cc,oo):=⟨_,_,rfl⟩
  rw [hco] at HRO h0 ⊢
  unfold faultV at HRO ⊢
  simp only at HRO h0 ⊢
  generalize atOf oo = ao at *
  have hnz : ((cc : Int) == 0) = false:=by simp; omega
  have hnz2 : ¬ (cc : Int) = 0:=by omega
  clear I hr sh h0 hco
  go_enter Tryz.func44,Tryz.ntmps44
  go_wp2_with fail
  refine (HRO.out _ HB0.out).mono ?_
  rintro e w1 ⟨rfl,hb⟩
  have HB1:=hid (HB0.out.trans (hb.mono HB0.out.size))
  have HE1:=hid ((hb.block _ (lt_of_blk HE0.out)).trans HE0.out)
  clear hb
  have HB2:=hid (HB1.out.alloc HB1.out.size (.cells #[.int .i64 (cc : Int),.int .i64 ao] 36))
  have HE2:=hid (heap_old w1 (.cells #[.int .i64 (cc : Int),.int .i64 ao] 36) HE1.out)
  have HF2:=hid (heap_new w1 (.cells #[.int .i64 (cc : Int),.int .i64 ao] 36))
  have hne : ¬ w1.heap.size = w.heap.size:=Nat.ne_of_gt (lt_of_blk HE1.out)
  have hne2 : ¬ w.heap.size = w1.heap.size:=Nat.ne_of_lt (lt_of_blk HE1.out)
  go_wp2_with fail
  generalize w1.alloc (.cells #[.int .i64 (cc : Int),.int .i64 ao] 36) = w2 at *
  obtain ⟨s0,s1,tf⟩:=box_two HE2.out
  obtain ⟨f0,f1,_⟩:=box_two HF2.out
  go_loopw [6] (fun sv wr=>sv = .slice none 0 0 /\ wr = w2) (fun _ _=>0)
  case atStart=>exact ⟨rfl,rfl⟩
  case round=>
    obtain ⟨rfl,rfl⟩:=hrel
    go_wp2_with fail
    go_region_with fail
    all_goals
      go_wp2_with fail
      refine bodyPost_ret (v:=.tuple #[.slice none 0 0,.agg #[.int .i64 (cc : Int),.int .i64 ao]]) (by simp [results,Tryz.results44,go_sem,s0,s1]) rfl ⟨rfl,?_⟩
      exact put2_below (below_drawn_of HB2.out 1) (Nat.le_refl _)
theorem latL_take {Q : List Raw} {E : List Bm} {k : Nat} (h : k < E.length) : E ++ latL Q (E.take (k + 1)) = (E ++ latL Q (E.take k)) ++ [(E[k].1,latV Q E[k].1)]:=by
  rw [latL_next h,List.append_assoc]
set_option maxRecDepth 100000 in
set_option maxHeartbeats 8000000 in
theorem allO_good (Q : List Raw) (L : List Ent) (roots : List Bm) (v rv : Value) (w : World) (hn : L.length ≤ 400) (hrn : roots.length ≤ 1000000) (hz : ∀ r, r ∈ Q → r.1.1.size ≤ 80 ∧ r.1.2.size ≤ 80) (sh : ∀ e, e ∈ L → ShE e) (I : Ixs w v Q L) (hr : MsAt w rv roots) (h0 : (chkG Q L roots).1 = 0) :
    Calls Tryz.prog 44 #[v,rv] w fun e w'=>∃ a c E,e = .returned (.tuple #[.slice a E.length c,.agg #[.int .i64 0,.int .i64 (-1)]]) /\ MsAt w' (.slice a E.length c) E /\ Fix Q L (bX Q L roots) E /\ Below w.heap.size w w':=by
  have HC:=hid (chkG_chk h0)
  have HGD:=hid (good_of I HC.out)
  have HB0:=hid ((Below.refl w.heap.size w).alloc (Nat.le_refl _) (.cells #[.int .i64 0,.int .i64 0] 36))
  have HE0:=hid (heap_new w (.cells #[.int .i64 0,.int .i64 0] 36))
  have HRO:=hid (fun W (h : Below w.heap.size w W)=>bo_all Q L roots v rv W (by omega) hrn sh (I.below h) (hr.below h))
  rw [rF_good h0,faultV0] at HRO
  have HLI:=hid (fun E (hE : Sl L E)=>show LatIn Q L E from fun x hx=>by
    obtain ⟨X,hX⟩:=keptT_ex HGD.out x.1
    exact lat_in I HC.out ⟨x,hE.un x hx,rfl⟩ hX)
  have HR2:=hid (fun E W u (hE : Sl L E) (hEl : E.length <= L.length) (h : Below w.heap.size w W) (hu : MsAt W u (E ++ latL Q E))=>show Calls Tryz.prog 35 #[v,u] W fun e w'=>∃ a c,e = .returned (.tuple #[.slice a (upF Q L E).length c,.agg #[.int .i64 0,.int .i64 (-1)]]) /\ Mr W w' (.slice a (upF Q L E).length c) (upF Q L E) by
    have h1:=bo_all Q L (E ++ latL Q E) v u W (by omega) (by rw [List.length_append,latL_len]; omega) sh (I.below h) hu
    rw [rF_good (upG I HC.out hE (HLI.out E hE)),faultV0] at h1
    exact h1)
  have HLO:=hid (fun t W (h : Below w.heap.size w W)=>latOf_any Q t v W (by rw [I.ln]; omega) HGD.out hz (keptT_ex HGD.out t) (I.below h).es)
  have HOV:=hid (fun E (hE : Sl L E)=>up_over I HC.out hE (HLI.out E hE))
  have HLN:=hid hn
  obtain ⟨i0,hi0,hz0,hz1,hz2⟩:=info_parts infoMod
  obtain ⟨a,c,hv,-⟩:=id I.es
  subst hv
  obtain ⟨ra,rc,hrv,-⟩:=id hr
  subst hrv
  have HBS:=hid (bX_sl Q L roots)
  have HBL:=hid (show (bX Q L roots).length <= L.length from bX_len)
  clear I hr sh h0 hz
  go_enter Tryz.func44,Tryz.ntmps44
  go_wp2_with fail
  refine (HRO.out _ HB0.out).mono ?_
  rintro e w1 ⟨ba,bc,rfl,hm⟩
  have HB1:=hid (HB0.out.trans (hm.1.mono HB0.out.size))
  have HE1:=hid ((hm.1.block _ (lt_of_blk HE0.out)).trans HE0.out)
  have HM1:=hid (hm.base HB0.out)
  clear hm HRO
  have HA2:=hid ((Below.refl w1.heap.size w1).alloc (Nat.le_refl _) (.cells #[.int .i64 0,.int .i64 (-1)] 36))
  have HE2:=hid (heap_old w1 (.cells #[.int .i64 0,.int .i64 (-1)] 36) HE1.out)
  have HF2:=hid (heap_new w1 (.cells #[.int .i64 0,.int .i64 (-1)] 36))
  have HNE:=hid (show w.heap.size < w1.heap.size from lt_of_blk HE1.out)
  go_wp2_with fail
  generalize w1.alloc (.cells #[.int .i64 0,.int .i64 (-1)] 36) = w2 at *
  have HM2:=hid (HM1.out.below HA2.out)
  have HBw2:=hid (HB1.out.trans (HA2.out.mono HB1.out.size))
  clear HB0 HE0 HB1 HE1 HM1 HA2
  go_loopw [6] (fun sv wr=>∃ E,Hid (Mr w wr sv E) /\ Hid (∃ n,E = upN Q L (bX Q L roots) n) /\ Hid (Sl L E) /\ Hid (E.length <= L.length) /\ Hid (Below w2.heap.size w2 wr)) (fun sv wr=>L.length - cntV L (rdM wr sv))
  case atStart=>exact ⟨_,HM2,hid ⟨0,rfl⟩,HBS,HBL,hid (Below.refl _ _)⟩
  case round=>
    obtain ⟨E,HM,HNN,HSL,HEL,HBr⟩:=hrel
    have HRD:=hid (rdM_eq HM.out.ms)
    obtain ⟨ea,ec,hu6⟩:=HM.out.sl
    subst hu6
    have HFr:=hid ((HBr.out.block _ (lt_of_blk HF2.out)).trans HF2.out)
    have HEr:=hid ((HBr.out.block _ (lt_of_blk HE2.out)).trans HE2.out)
    obtain ⟨f0,f1,_⟩:=box_two HFr.out
    obtain ⟨av,w4,hrun,hown,hgr⟩:=both_run [] E (.slice none 0 0) _ wr wr.heap.size (Nat.le_refl _) (by simp) (by have:=HEL.out; have:=HLN.out; omega) (World.ownsRow_nil _ _ _ _) HM.out.ms HM.out.em
    have HRUN:=hid hrun
    have HD4:=hid (show Below wr.heap.size wr w4 from grown_below hgr)
    rw [List.nil_append] at hown
    have HO4:=hid (show w4.ownsRow wr.heap.size 25 2 av (E ++ latL Q (E.take 0)).length (flatM (E ++ latL Q (E.take 0))) by simpa [latL] using hown)
    obtain ⟨aa,ac,hav⟩:=own_slN hown
    subst hav
    clear hrun hown hgr
    go_wp2_with (at_builtin; refine Lib.wpList_append_run _ rfl _ _ _ _ rfl _ _ rfl rfl _ _ HRUN.out ?_)
    clear f0 f1 HRUN
    generalize hgw : wr = wo at *
    have HWO:=hid hgw
    clear hgw
    go_loopw [8,9] (fun av iv wr=>∃ i : Nat,i <= E.length /\ iv = .int .i64 i /\ Hid (wr.ownsRow wo.heap.size 25 2 av (E ++ latL Q (E.take i)).length (flatM (E ++ latL Q (E.take i)))) /\ Hid (Below wo.heap.size wo wr)) (fun _ iv _=>E.length - (intOf iv).toNat)
    case atStart=>exact ⟨0,Nat.zero_le _,rfl,HO4,HD4⟩
    case round=>
      obtain ⟨i,hi,rfl,HOW,HBi⟩:=hrel
      have HBw:=hid (HM.out.1.trans (HBi.out.mono HM.out.1.size))
      by_cases hlt : i < E.length
      · have hiI:=ix_lt hlt
        have hii:=ix_pos i
        have HLIi:=hid hlt
        have HEM:=hid (show E.length <= 1000000 by have:=HEL.out; have:=HLN.out; omega)
        obtain ⟨xb,xo,hxa,y0,y1⟩:=(HM.out.ms.below HBi.out).cells hlt
        subst hxa
        have HST:=hid (latL_take (Q:=Q) hlt)
        have HNL:=hid (show (E ++ latL Q (E.take i)).length <= 1000 by rw [List.length_append,latL_len]; have h1:=List.length_take_le' i E; have:=HEL.out; have:=HLN.out; omega)
        generalize E[i] = x at *
        obtain ⟨p,q⟩:=x
        simp only at y0 y1 HST
        have HLP:=hid (HLO.out p wr HBw.out)
        obtain ⟨SX,hSX⟩ : ∃ SX,E ++ latL Q (E.take i) = SX:=⟨_,rfl⟩
        rw [hSX] at HOW HST HNL
        generalize latV Q p = lv at *
        clear hSX hlt
        go_wp2_with fail
        refine HLP.out.mono ?_
        rintro e w5 ⟨rfl,hb⟩
        have HB5:=hid (HBi.out.trans (hb.mono HBi.out.size))
        have HO5:=hid (owns_below HOW.out hb)
        have z0:=cell_below hb y0
        clear hb y0 y1 HLP
        go_wp2_with (at_builtin; refine wpList_append_own _ rfl _ _ 23 rfl wo.heap.size 25 i0 _ 2 32 Tryz.underlying23 hi0 hz0 hz1 hz2 rfl (by decide) _ _ _ rfl (HO5.out.alloc _) ⟨w5.heap.size,0,none⟩ 1 1 [.string p,.string lv] rfl rfl (World.news_of_block (heap_new _ _)) (by intro u hu; simp at hu; rcases hu with rfl | rfl <;> rfl) (Nat.le_trans (Nat.add_le_add_right HNL.out 1) (by unfold maxLen; decide)) (by have hz:=HNL.out; omega) (Nat.le_trans HB5.out.size (by simp)) ?_)
        intro v' w6 hown hgrow _
        have HB6:=hid (rel_app2 HB5.out.size HB5.out HO5.out (Below.refl _ _) hgrow)
        have HO6:=hid (show w6.ownsRow wo.heap.size 25 2 v' (SX ++ [(p,lv)]).length (flatM (SX ++ [(p,lv)])) by rw [List.length_append,flatM_app]; exact hown)
        clear hown hgrow z0
        go_wp2_with fail
        go_roundw
        case rel=>first | exact ⟨i + 1,HLIi.out,nr_idx i,hid (by rw [HST.out]; exact HO6.out),HB6⟩ | exact ⟨i + 1,HLIi.out,nx_idx HLIi.out HEM.out,hid (by rw [HST.out]; exact HO6.out),HB6⟩
        case measure=>first | exact nr_meas HLIi.out | exact nx_meas HLIi.out HEM.out
      · have hiI:=ix_nlt hlt
        have HTA:=hid (show E.take i = E from List.take_of_length_le (by omega))
        rw [HTA.out] at HOW
        have HBE:=hid (HR2.out E wr _ HSL.out HEL.out HBw.out (own_ms HOW.out))
        obtain ⟨EL,hEL⟩ : ∃ EL,E ++ latL Q E = EL:=⟨_,rfl⟩
        rw [hEL] at HOW
        obtain ⟨oa,oc,hov⟩:=own_slN HOW.out
        subst hov
        clear hlt hEL HTA
        go_wp2_with fail
        refine HBE.out.mono ?_
        rintro e w6 ⟨na,nc,rfl,hm⟩
        have HB6:=hid (HBi.out.trans (hm.1.mono HBi.out.size))
        have HMN6:=hid (hm.base HBw.out)
        have HA7:=hid ((Below.refl w6.heap.size w6).alloc (Nat.le_refl _) (.cells #[.int .i64 0,.int .i64 (-1)] 36))
        have HG7:=hid (heap_new w6 (.cells #[.int .i64 0,.int .i64 (-1)] 36))
        have HSF:=hid (show Sl L (upF Q L E) from bX_sl _ _ _)
        have HFL:=hid (show (upF Q L E).length <= L.length from bX_len)
        have HOE:=hid (HOV.out E HSL.out)
        clear hm HBE
        go_wp2_with fail
        generalize w6.alloc (.cells #[.int .i64 0,.int .i64 (-1)] 36) = w7 at *
        have HB7:=hid (HB6.out.trans (HA7.out.mono HB6.out.size))
        have HMN7:=hid (HMN6.out.below HA7.out)
        have HEQ:=hid (sameG_any (upF Q L E) E _ _ w7 (by have:=HFL.out; have:=HLN.out; omega) HMN7.out.ms (HM.out.ms.below HB7.out))
        have HGN:=hid (show w.heap.size < w6.heap.size from Nat.lt_of_lt_of_le HNE.out (Nat.le_trans (Nat.le_of_lt (lt_of_blk HF2.out)) (Nat.le_trans HBr.out.size HB6.out.size)))
        clear HA7 HMN6
        by_cases hF : upF Q L E = E
        · rw [decide_eq_true hF] at HEQ
          have HFX:=hid (show Fix Q L (bX Q L roots) E from ⟨HNN.out,hF⟩)
          rw [hF] at HMN7 HEQ ⊢
          clear hF HSF HFL HOE
          refine HEQ.out.mono ?_
          rintro e w8 ⟨rfl,hb⟩
          have HB8:=hid (HB7.out.trans (hb.mono HB7.out.size))
          have HG8:=hid ((hb.block _ (lt_of_blk HG7.out)).trans HG7.out)
          have HE8:=hid ((HB8.out.block _ (lt_of_blk HEr.out)).trans HEr.out)
          have HM8:=hid (HMN7.out.below hb)
          have HBz:=hid (HM.out.1.trans (HB8.out.mono HM.out.1.size))
          have hne : ¬ w6.heap.size = w.heap.size:=Nat.ne_of_gt HGN.out
          have hne2 : ¬ w.heap.size = w6.heap.size:=Nat.ne_of_lt HGN.out
          obtain ⟨g0,g1,_⟩:=box_two HG8.out
          obtain ⟨s0,s1,tf⟩:=box_two HE8.out
          clear hb HEQ
          go_wp2_with fail
          go_region_with fail
          all_goals
            go_wp2_with fail
            refine bodyPost_ret (v:=.tuple #[.slice na E.length nc,.agg #[.int .i64 0,.int .i64 (-1)]]) (by simp [results,Tryz.results44,go_sem,s0,s1]) rfl ⟨_,_,E,rfl,?_,HFX.out,put2_below (below_drawn_of HBz.out 1) (Nat.le_refl _)⟩
            first | exact ms_put2 HM8.out.ms HE8.out | exact ms_put2 (W:=w8.drewN 1) (HM8.out.ms.below (below_drawn _ 1)) ((below_drawn w8 1).block _ (lt_of_blk HE8.out) |>.trans HE8.out)
        · rw [decide_eq_false hF] at HEQ
          have HCN:=hid (cntV_lt HC.out HSL.out HSF.out HOE.out hF)
          have HN2:=hid (show ∃ n,upF Q L E = upN Q L (bX Q L roots) n by
            obtain ⟨n,hn⟩:=HNN.out
            exact ⟨n + 1,by rw [hn]; rfl⟩)
          have HCE:=hid (cntV_le L (upF Q L E))
          clear hF
          generalize upF Q L E = F at *
          refine HEQ.out.mono ?_
          rintro e w8 ⟨rfl,hb⟩
          have HM8:=hid (HMN7.out.below hb)
          have HB8:=hid (HB7.out.trans (hb.mono HB7.out.size))
          have HG8:=hid ((hb.block _ (lt_of_blk HG7.out)).trans HG7.out)
          have HB9:=hid (HBr.out.trans (HB8.out.mono HBr.out.size))
          obtain ⟨g0,g1,_⟩:=box_two HG8.out
          clear hb HEQ
          go_wp2_with fail
          go_roundw
          case rel=>exact ⟨F,HM8,HN2,HSF,HFL,HB9⟩
          case measure=>
            have h3:=rdM_eq HM8.out.ms
            have h4:=HRD.out
            rw [<- HWO.out] at h4
            rw [h3,h4]
            have h1:=HCN.out
            have h2:=HCE.out
            omega
end Ve
end Go.Proofs.YtlcffhadobhfkaaGreatDoor
