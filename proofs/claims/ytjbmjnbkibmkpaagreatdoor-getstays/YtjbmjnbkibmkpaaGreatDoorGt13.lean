
import Derived.Test.YtjbmjnbkibmkpaaGreatDoorGt11
import Derived.Test.YtjbmjnbkibmkpaaGreatDoorGt12
import Derived.Deep.RegionHeld
set_option maxHeartbeats 8000000
namespace Go.Proofs.YtjbmjnbkibmkpaaGreatDoor
open Go.RowKit Go.Maps
namespace Ve
def StayG (T : World -> Prop) : Prop:=∀ W W',T W -> Below W.heap.size W W' -> T W'
def PkC (T : World -> Prop) (pk : ByteArray -> ByteArray -> ByteArray -> ByteArray × Nat) (Q : List Raw) (L : List Ent) (A : Nat -> Addr) (m : Int) : Prop:=∀ (t q now : ByteArray) (u : Value) (W : World),t.size <= 100 -> q.size <= 100 -> now.size <= 100 -> Te W A m -> T W -> Ixs W u (opQ Q t) (opL L t) ->
 Calls Tryz.prog 101 #[u,.string t,.string q,.string now] W fun e w'=>∃ x,e = .returned (.tuple #[.string (pk t q now).1,x]) /\ (((pk t q now).2 = 0 /\ x = .nilIface) \/ ((pk t q now).2 ≠ 0 /\ ∃ Ty a,x = .iface Ty (.pointer (some a)))) /\ Below W.heap.size W w'
def hvQ (Q : List Raw) (t : ByteArray) : Bool:=decide (0 < (opQ Q t).length)
structure PF (w w' : World) (b : Nat) (B B' : List Nat) : Prop where
 sz : w.heap.size <= w'.heap.size
 kp : ∀ i,i < w.heap.size -> i ≠ b -> i ∉ B -> w'.heap[i]? = w.heap[i]?
 nw : ∀ g,g ∈ B' -> g ∈ B \/ w.heap.size <= g
theorem PF.refl (w : World) (b : Nat) (B : List Nat) : PF w w b B B:=⟨Nat.le_refl _,fun _ _ _ _=>rfl,fun _ h=>Or.inl h⟩
theorem PF.trans {w w' w'' : World} {b : Nat} {B B' B'' : List Nat} (h : PF w w' b B B') (h' : PF w' w'' b B' B'') : PF w w'' b B B'':=by
 refine ⟨Nat.le_trans h.sz h'.sz,fun i hi hb hB=>?_,fun g hg=>?_⟩
 ·have : i ∉ B':=fun hm=>by
   rcases h.nw i hm with h1 | h1
   ·exact hB h1
   ·omega
  rw [h'.kp i (Nat.lt_of_lt_of_le hi h.sz) hb this,h.kp i hi hb hB]
 ·rcases h'.nw g hg with h1 | h1
  ·exact h.nw g h1
  ·exact Or.inr (Nat.le_trans h.sz h1)
theorem PF.below {w w' w'' : World} {b : Nat} {B B' : List Nat} (h : PF w w' b B B') (hb : Below w'.heap.size w' w'') : PF w w'' b B B':=
 ⟨Nat.le_trans h.sz hb.size,fun i hi h1 h2=>by rw [hb.block i (Nat.lt_of_lt_of_le hi h.sz),h.kp i hi h1 h2],h.nw⟩
theorem PF.set {w W : World} {b g o : Nat} {x : Value} {B B' : List Nat} (h : PF w W b B B') (hg : g ∈ B') : PF w (W.setCell ⟨g,o,none⟩ x) b B B':=by
 refine ⟨Nat.le_trans h.sz (KeepsWalks.setCell W _ x).size,fun i hi h1 h2=>?_,h.nw⟩
 have : i ≠ g:=fun e=>by
  rcases h.nw g hg with h3 | h3
  ·exact h2 (by rw [e]; exact h3)
  ·omega
 rw [Below.heap_setCell _ _ _ _ this,h.kp i hi h1 h2]
theorem PF.more {w W W2 : World} {b : Nat} {B B' : List Nat} {o : Obj} (h : PF w W b B B') (hg : (W.alloc o).grownBy W2 (some b)) : PF w W2 b B (B' ++ [W.heap.size]):=by
 refine ⟨Nat.le_trans h.sz (Nat.le_trans (by simp) hg.size),fun i hi h1 h2=>?_,fun g hg'=>?_⟩
 ·have hi' : i < W.heap.size:=Nat.lt_of_lt_of_le hi h.sz
  rw [hg.block i (by simp; omega) (by simp [h1]),((Below.refl W.heap.size W).alloc (Nat.le_refl _) o).block i hi',h.kp i hi h1 h2]
 ·rcases List.mem_append.1 hg' with h1 | h1
  ·exact h.nw g h1
  ·simp at h1; exact Or.inr (by rw [h1]; exact h.sz)
theorem owns_at {w w' : World} {B n k : Nat} {e : TypeId} {v : Value} {xs : List Value} (h : w.ownsRow B e k v n xs) (hk : ∀ g,v.ownBlock = some g -> w'.heap[g]? = w.heap[g]?) : w'.ownsRow B e k v n xs:=by
 obtain ⟨hl,h | ⟨g,cap,cur,e1,e2,e3,e4⟩⟩:=h
 ·exact ⟨hl,Or.inl h⟩
 ·exact ⟨hl,Or.inr ⟨g,cap,cur,e1,e2,(hk g (by rw [e1]; rfl)).trans e3,e4⟩⟩
def PwP (w0 w : World) (b : Nat) (B : List Nat) (e : Ending) (w' : World) : Option Pk -> Prop
 | none=>(∃ Ty a,e = .returned (.iface Ty (.pointer (some a)))) /\ Below w0.heap.size w0 w'
 | some K'=>e = .returned .nilIface /\ ∃ B',PinsAt w0 w' b K' B' /\ PF w w' b B B'
theorem gp1_hv {hv : ByteArray -> Bool} {pk : ByteArray -> ByteArray -> ByteArray -> ByteArray × Nat} {S : List Bm} {q : ByteArray} {wl : Bool} {K : Pk} {t : ByteArray} (h : hv t = false) : gp1 hv pk S q wl K t = none:=if_pos h
theorem gp1_pk {hv : ByteArray -> Bool} {pk : ByteArray -> ByteArray -> ByteArray -> ByteArray × Nat} {S : List Bm} {q : ByteArray} {wl : Bool} {K : Pk} {t : ByteArray} (h : hv t = true) (h1 : (pk t q (vIn S t)).2 ≠ 0) : gp1 hv pk S q wl K t = none:=by unfold gp1; rw [if_neg (by rw [h]; decide),if_pos h1]
theorem gp1_cl {hv : ByteArray -> Bool} {pk : ByteArray -> ByteArray -> ByteArray -> ByteArray × Nat} {S : List Bm} {q : ByteArray} {wl : Bool} {K : Pk} {t : ByteArray} (h : hv t = true) (h1 : (pk t q (vIn S t)).2 = 0) (h2 : pnC (pkP K t) (pk t q (vIn S t)).1 wl = true) : gp1 hv pk S q wl K t = none:=by unfold gp1; rw [if_neg (by rw [h]; decide),if_neg (by simp [h1]),if_pos h2]
theorem gp1_ok {hv : ByteArray -> Bool} {pk : ByteArray -> ByteArray -> ByteArray -> ByteArray × Nat} {S : List Bm} {q : ByteArray} {wl : Bool} {K : Pk} {t : ByteArray} (h : hv t = true) (h1 : (pk t q (vIn S t)).2 = 0) (h2 : pnC (pkP K t) (pk t q (vIn S t)).1 wl = false) : gp1 hv pk S q wl K t = some (pkSet (pkNew K t) t (pnS (pkP K t) (pk t q (vIn S t)).1 wl)):=by unfold gp1; rw [if_neg (by rw [h]; decide),if_neg (by simp [h1]),if_neg (by rw [h2]; decide)]
theorem pkNew_len (K : Pk) (t : ByteArray) : (pkNew K t).length <= K.length + 1:=by
 unfold pkNew
 split
 ·omega
 ·simp
theorem pkNew_not {K : Pk} {t : ByteArray} (h : t ∉ pkT K) : pkNew K t = K ++ [(t,(bE,bE))]:=by
 unfold pkNew
 rw [if_neg (fun e=>h (pkHas_iff.1 e))]
theorem pkNew_has {K : Pk} {t : ByteArray} (h : t ∈ pkT K) : pkNew K t = K:=by
 unfold pkNew
 rw [if_pos (pkHas_iff.2 h)]
theorem vIn_size {S : List Bm} {n : Nat} (h : ∀ x,x ∈ S -> x.2.size <= n) (t : ByteArray) : (vIn S t).size <= n:=by
 unfold vIn
 cases e : S.find? (fun x=>decide (x.1 = t)) with
 | none=>exact Nat.zero_le _
 | some x=>exact h x (List.mem_of_find?_eq_some e)
theorem wPt_size {S : List Bm} {n : Nat} {p : ByteArray} (h : ∀ x,x ∈ S -> x.1.size <= n) (hp : p.size <= n) : ∀ t,t ∈ wPt S p -> t.size <= n:=fun t ht=>by
 unfold wPt at ht
 split at ht
 ·obtain ⟨x,hx,rfl⟩:=List.mem_map.1 (List.mem_filter.1 ht).1
  exact h x hx
 ·simp at ht; rw [ht]; exact hp
theorem wPt_len {S : List Bm} {p : ByteArray} : (wPt S p).length <= S.length + 1:=by
 unfold wPt
 split
 ·exact Nat.le_trans (List.length_filter_le _ _) (by rw [List.length_map]; omega)
 ·simp
theorem PinsAt.of {w0 W : World} {b : Nat} {K : Pk} {B : List Nat} (h : PinsAt w0 W b K B) {t : ByteArray} (ht : t ∈ pkT K) :
  ∃ k,∃ hk : k < K.length,∃ g,K[k].1 = t /\ K[k].2 = pkP K t /\ PnAt W g (pkP K t) /\ w0.heap.size <= g /\ B[k]? = some g /\ g ∈ B /\ (Instr.lookup 88 (.map (some b)) (.string t) false).run Tryz.prog W = .ok (.pointer (some ⟨g,0,none⟩)) W:=by
 obtain ⟨k,hk,hkt⟩:=pk_place ht
 obtain ⟨g,h1,h2,h3,h4⟩:=h.look hk
 have e : K[k].2 = pkP K t:=by rw [<- hkt,pkP_at h.nd hk]
 rw [hkt] at h4
 rw [e] at h1
 exact ⟨k,hk,g,hkt,e,h1,h2,h3,List.mem_of_getElem? h3,h4⟩
theorem PinsAt.look2 {w0 W : World} {b : Nat} {K : Pk} {B : List Nat} (h : PinsAt w0 W b K B) {k : Nat} {t : ByteArray} (hkt : (pkT K)[k]? = some t) {g : Nat} (hg : B[k]? = some g) :
  (Instr.lookup 88 (.map (some b)) (.string t) false).run Tryz.prog W = .ok (.pointer (some ⟨g,0,none⟩)) W:=by
 obtain ⟨hk,hkt'⟩:=List.getElem?_eq_some_iff.1 hkt
 have hk' : k < K.length:=by rw [pkT_len] at hk; exact hk
 obtain ⟨g',_,_,h3,h4⟩:=h.look hk'
 have e : g' = g:=by rw [h3] at hg; injection hg
 rw [pkT_at hk'] at hkt'
 rw [hkt',e] at h4
 exact h4
set_option maxRecDepth 100000 in
theorem pinW_any (T : World -> Prop) (KT : StayG T) (pk : ByteArray -> ByteArray -> ByteArray -> ByteArray × Nat) (Q : List Raw) (L : List Ent) (S : List Bm) (v sv : Value) (p q : ByteArray) (b : Nat) (K : Pk) (B : List Nat) (A : Nat -> Addr) (m : Int) (w0 w : World)
  (hQ : Q.length <= 1000) (hS : S.length <= 1000) (hs : ∀ x,x ∈ S -> x.1.size <= 100 /\ x.2.size <= 100) (hp : p.size <= 100) (hq : q.size <= 100) (hK : K.length <= 100000) (S0 : Te w0 A m) (hT : T w0) (I : Ixs w0 v Q L) (hsv : MsAt w0 sv S) (PC : PkC T pk Q L A m) (P : PinsAt w0 w b K B) :
  Calls Tryz.prog 53 #[v,sv,.agg #[.string p,.string q],.map (some b)] w fun e w'=>PwP w0 w b B e w' (gpP (hvQ Q) pk S q (wildB p) (wPt S p) K):=by
 obtain ⟨R,hR⟩ : ∃ R,gpP (hvQ Q) pk S q (wildB p) (wPt S p) K = R:=⟨_,rfl⟩
 rw [hR]
 have HR:=hid hR
 have HBa:=hid ((Below.refl w.heap.size w).alloc (Nat.le_refl _) (.cells #[.string p,.string q] 78))
 have HPa:=hid (P.below HBa.out)
 have HPT:=hid (paths_w S p q sv m (w.alloc (.cells #[.string p,.string q] 78)) hp hS (fun x hx=>(hs x hx).1) (cell_below HPa.out.bl S0.ml) (hsv.below HPa.out.bl))
 have HXZ:=hid (wPt_size (S:=S) (p:=p) (fun x hx=>(hs x hx).1) hp)
 have HXL:=hid (show (wPt S p).length <= 1001 from Nat.le_trans wPt_len (by omega))
 have HOF:=hid (fun t W (h : Below w0.heap.size w0 W)=>ofp_any Q L t v W hQ (I.below h))
 have HVI:=hid (fun t W (h : Below w0.heap.size w0 W)=>verIn_any S t sv W (by omega) (hsv.below h))
 have HPK:=hid (fun t u W (ht : t.size <= 100) (h : Below w0.heap.size w0 W) (hI : Ixs W u (opQ Q t) (opL L t))=>PC t q (vIn S t) u W ht hq (vIn_size (fun x hx=>(hs x hx).2) t) (S0.below h) (KT _ _ hT h) hI)
 have HWL:=hid (fun W (h : Below w0.heap.size w0 W)=>wild_m m p W hp (cell_below h S0.ml))
 have HG4:=hid (fun W (h : Below w0.heap.size w0 W)=>(S0.below h).sen.g4)
 have HS0:=hid (fun W (h : Below w0.heap.size w0 W)=>S0.below h)
 have HBX:=hid (heap_new w (.cells #[.string p,.string q] 78))
 have HPN:=hid (fun g (hg : g ∈ B)=>show g < w.heap.size by
  obtain ⟨j,hj,rfl⟩:=List.getElem_of_mem hg
  exact (P.pn j (by rw [<- P.ln]; exact hj) hj).lt)
 have HPB:=hid P.mp.lt
 obtain ⟨va,vc,hvs,-⟩:=id I.es
 obtain ⟨sa,sc,hss,-⟩:=id hsv
 subst hvs
 subst hss
 generalize wPt S p = X at *
 generalize wildB p = wl at *
 clear hR hs hp hq S0 hT I hsv PC P
 go_enter Tryz.func53,Tryz.ntmps53
 go_wp2_with fail
 refine HPT.out.mono ?_
 rintro e w1 ⟨u,rfl,hu,hb⟩
 have HP1:=hid (HPa.out.below hb)
 have HX1:=hid ((hb.block _ (by simp)).trans HBX.out)
 have HU1:=hid hu
 have HUB:=hid (show ∀ g,u.ownBlock = some g -> w.heap.size < g /\ g < w1.heap.size from fun g hg=>by have:=hu.lt g hg; simp at this; omega)
 have HF0:=hid (show PF w w1 b B B from ((PF.refl w b B).below HBa.out).below hb)
 obtain ⟨ua,uc,hus⟩:=own_slN hu
 subst hus
 clear hu hb HPT HPa HBX
 go_wp2_with fail
 go_loopw [19] (fun iv wr=>∃ k : Nat,k <= X.length /\ iv = .int .i64 k /\ Hid (∃ K' B',gpP (hvQ Q) pk S q wl (X.take k) K = some K' /\ K'.length <= K.length + k /\ PinsAt w0 wr b K' B' /\ PF w1 wr b B B')) (fun iv _=>X.length - (intOf iv).toNat)
 case atStart=>exact ⟨0,Nat.zero_le _,rfl,hid ⟨K,B,rfl,by omega,HP1.out,PF.refl _ _ _⟩⟩
 case round=>
  obtain ⟨k,hk,rfl,HRL⟩:=hrel
  obtain ⟨K',B',hg0,hkl,hP,hF⟩:=HRL.out
  have HG0:=hid hg0
  have HKL:=hid hkl
  have HPr:=hid hP
  have HFr:=hid hF
  have HBr:=hid hP.bl
  have HXr:=hid ((hF.kp w.heap.size (lt_of_blk HX1.out) (by have:=HPB.out; omega) (fun h=>by have:=HPN.out _ h; omega)).trans HX1.out)
  have HUr:=hid (owns_at HU1.out (fun g hg=>hF.kp g (HUB.out g hg).2 (by have:=HPB.out; have:=(HUB.out g hg).1; omega) (fun h=>by have:=HPN.out _ h; have:=(HUB.out g hg).1; omega)))
  clear hg0 hkl hP hF HRL
  by_cases hlt : k < X.length
  ·have hkI:=ix_lt hlt
   have hk0:=ix_pos k
   have HLT:=hid hlt
   obtain ⟨xb,xo,hxa,y0⟩:=tx_cellK (own_tx HUr.out) hlt
   subst hxa
   have HTZ:=hid (HXZ.out X[k] (List.getElem_mem hlt))
   have HGO:=hid (fun K2 h=>gpP_go (K2:=K2) hlt HG0.out h)
   have HBD:=hid (fun h=>gpP_bad hlt HG0.out h)
   generalize X[k] = t at *
   have HOO:=hid (HOF.out t wr HBr.out)
   by_cases h0 : (opQ Q t).length = 0
   ·have HN:=hid (show R = none by rw [<- HR.out]; exact HBD.out (gp1_hv (by unfold hvQ; rw [h0]; rfl)))
    clear hlt
    go_wp2_with fail
    refine HOO.out.mono ?_
    rintro e w2 ⟨o,rfl,hI,hb⟩
    have HB2:=hid (HBr.out.trans (hb.mono HBr.out.size))
    obtain ⟨oa,oc,hos,-⟩:=id hI.es
    subst hos
    rw [h0]
    have gg:=HG4.out _ HB2.out
    clear hI hb h0
    go_wp2_with fail
    go_ret
    rw [HN.out]
    exact ⟨⟨_,_,rfl⟩,HB2.out⟩
   ·have hzI : (((opQ Q t).length : Int) == 0) = false:=beq_eq_false_iff_ne.2 (by omega)
    have HHV:=hid (show hvQ Q t = true from decide_eq_true (by omega))
    clear hlt h0
    go_wp2_with fail
    refine HOO.out.mono ?_
    rintro e w2 ⟨o,rfl,hI,hb⟩
    have HB2:=hid (HBr.out.trans (hb.mono HBr.out.size))
    have HP2:=hid (HPr.out.below hb)
    have HF2:=hid (HFr.out.below hb)
    have HX2:=hid ((hb.block _ (lt_of_blk HXr.out)).trans HXr.out)
    have HI2:=hid hI
    obtain ⟨oa,oc,hos,-⟩:=id hI.es
    subst hos
    have HTa:=hid (fun W (h : Below w2.heap.size w2 W)=>show W.cell? ⟨w.heap.size,1,none⟩ = some (.string q) /\ Hid (Below w2.heap.size w2 W) from ⟨by rw [Lib.cell_of_heap ((h.block _ (lt_of_blk HX2.out)).trans HX2.out)]; rfl,hid h⟩)
    have HVV:=hid (fun W (h : Below w2.heap.size w2 W)=>HVI.out t W (HB2.out.trans (h.mono HB2.out.size)))
    have HPP:=hid (fun W (h : Below w2.heap.size w2 W)=>HPK.out t _ W HTZ.out (HB2.out.trans (h.mono HB2.out.size)) (HI2.out.below h))
    clear hI hb y0 HOO HXr HUr HFr HPr HBr
    go_wp2_with fail
    go_region_held (fun W=>W.cell? ⟨w.heap.size,1,none⟩ = some (.string q) /\ Hid (Below w2.heap.size w2 W)) (first | exact HTa.out _ HRc.out | exact HTa.out _ HRb.out | exact HTa.out _ (below_drawn _ 1)) (first
     | (go_at_call 102; refine (HVV.out _ (below_drawn _ 1)).mono ?_; rintro e w3 ⟨rfl,hb⟩; have HRb:=hid ((below_drawn w2 1).trans (hb.mono (Nat.le_refl _))); clear hb)
     | (go_at_call 101; refine (HPP.out _ HRb.out).mono ?_; rintro e w4 ⟨x,rfl,hx,hb⟩; have HRc:=hid (HRb.out.trans (hb.mono HRb.out.size)); have HXX:=hid hx; clear hb hx))
    all_goals
     have HB4:=hid (HB2.out.trans (HRc.out.mono HB2.out.size))
     have HP4:=hid (HP2.out.below HRc.out)
     have HF4:=hid (HF2.out.below HRc.out)
     have HX4:=hid ((HRc.out.block _ (lt_of_blk HX2.out)).trans HX2.out)
     clear HTa HVV HPP HI2 HX2 HP2 HF2
     rcases HXX.out with ⟨h1,hx⟩ | ⟨h1,Ty,ea,hx⟩
     rotate_left
     ·have HN:=hid (show R = none by rw [<- HR.out]; exact HBD.out (gp1_pk HHV.out h1))
      subst hx
      clear h1 HXX
      go_wp2_with fail
      go_ret
      rw [HN.out]
      exact ⟨⟨_,_,rfl⟩,HB4.out⟩
     ·subst hx
      have HK1:=hid (fun K2 (h2 : gp1 (hvQ Q) pk S q wl K' t = some K2)=>HGO.out K2 h2)
      have HCL:=hid (fun h2=>gp1_cl (hv:=hvQ Q) (pk:=pk) (S:=S) (q:=q) (wl:=wl) (K:=K') (t:=t) HHV.out h1 h2)
      have HOK:=hid (fun h2=>gp1_ok (hv:=hvQ Q) (pk:=pk) (S:=S) (q:=q) (wl:=wl) (K:=K') (t:=t) HHV.out h1 h2)
      generalize (pk t q (vIn S t)).1 = vr at *
      clear h1 HXX HGO
      by_cases ht : t ∈ pkT K'
      ·have HNW:=hid (pkNew_has ht)
       obtain ⟨j,hj,g,hjt,hjp,hpn,hlo,hgB,hgm,hlk⟩:=HP4.out.of ht
       have HP5:=HP4
       have HF5:=HF4
       have HX5:=HX4
       have HB5:=HB4
       have HKN:=hid (show K'.length <= K.length + (k + 1) by have:=HKL.out; omega)
       have hlk0:=hlk
       have HJT:=hid (show (pkT K')[j]? = some t by rw [List.getElem?_eq_getElem (by rw [pkT_len]; exact hj),pkT_at hj,hjt])
       have HTb:=hid (fun W (h : Below w4.heap.size w4 W)=>show (Instr.lookup 88 (.map (some b)) (.string t) false).run Tryz.prog W = .ok (.pointer (some ⟨g,0,none⟩)) W /\ W.cell? ⟨w.heap.size,0,none⟩ = some (.string p) from by
        refine ⟨?_,by rw [Lib.cell_of_heap ((h.block _ (lt_of_blk HX5.out)).trans HX5.out)]; rfl⟩
        exact (HP5.out.below h).look2 HJT.out hgB)
       have HWW:=hid (fun W (h : Below w4.heap.size w4 W)=>HWL.out W (HB5.out.trans (h.mono HB5.out.size)))
       have HPG:=hid hpn
       have HJ:=hid (show pkSet K' K'[j].1 (pnS K'[j].2 vr wl) = pkSet K' t (pnS (pkP K' t) vr wl) by rw [hjt,hjp])
       have HST:=hid (fun W (h : Below w4.heap.size w4 W)=>(HP5.out.below h).set hj hgB vr wl)
       rw [HJ.out] at HST
       have HSF:=hid (fun W (h : Below w4.heap.size w4 W)=>(HF5.out.below h).set (o:=pnO wl) (x:=.string vr) hgm)
       have HNE:=hid (show ∀ W,Below w4.heap.size w4 W -> ∀ x,(W.setCell ⟨g,pnO wl,none⟩ x).heap[w.heap.size]? = W.heap[w.heap.size]? from fun W h x=>Below.heap_setCell _ _ _ _ (fun e=>by
        have h1:=hpn
        rw [<- (show w.heap.size = g from e)] at h1
        have:=h1.symm.trans HX5.out
        simp at this))
       have HTc:=hid (fun W (h : Below w4.heap.size w4 W)=>show (Instr.lookup 88 (.map (some b)) (.string t) false).run Tryz.prog (W.setCell ⟨g,pnO wl,none⟩ (.string vr)) = .ok (.pointer (some ⟨g,0,none⟩)) (W.setCell ⟨g,pnO wl,none⟩ (.string vr)) /\ (W.setCell ⟨g,pnO wl,none⟩ (.string vr)).cell? ⟨w.heap.size,0,none⟩ = some (.string p) from by
        refine ⟨?_,by rw [Lib.cell_of_heap ((HNE.out W h _).trans ((h.block _ (lt_of_blk HX5.out)).trans HX5.out))]; rfl⟩
        exact (HST.out W h).look2 (by rw [pkT_set]; exact HJT.out) hgB)
       cases hcl : pnC (pkP K' t) vr wl
       ·have HSS:=hid (fun W (h : Below w4.heap.size w4 W)=>pset_ok (pkP K' t) vr wl g W (HPG.out.below h) hcl)
        have HKX:=hid (HK1.out _ (HOK.out hcl))
        rw [HNW.out] at HKX
        clear hcl hjt hjp hpn hlo hgB hgm ht hlk
        go_wp2_with fail
        go_region_held (fun W=>(Instr.lookup 88 (.map (some b)) (.string t) false).run Tryz.prog W = .ok (.pointer (some ⟨g,0,none⟩)) W /\ W.cell? ⟨w.heap.size,0,none⟩ = some (.string p)) (first | exact HTc.out _ HRd.out | exact HTb.out _ HRd.out | exact HTb.out _ (below_drawn _ 1)) (first
         | (go_at_call 15; refine (HWW.out _ (below_drawn _ 1)).mono ?_; rintro e w6 ⟨rfl,hb⟩; have HRd:=hid ((below_drawn w4 1).trans (hb.mono (Nat.le_refl _))); clear hb)
         | (go_at_call 103; refine (HSS.out _ HRd.out).mono ?_; rintro e w7 ⟨rfl,rfl⟩))
        all_goals
         have HPZ:=hid (HST.out _ HRd.out)
         have HFZ:=hid (HSF.out _ HRd.out)
         have HNX:=hid (show ∃ K2 B2,gpP (hvQ Q) pk S q wl (X.take (k + 1)) K = some K2 /\ K2.length <= K.length + (k + 1) /\ PinsAt w0 (w6.setCell ⟨g,pnO wl,none⟩ (.string vr)) b K2 B2 /\ PF w1 (w6.setCell ⟨g,pnO wl,none⟩ (.string vr)) b B B2 from ⟨_,_,HKX.out,by rw [pkSet_len]; exact HKN.out,HPZ.out,HFZ.out⟩)
         generalize w6.setCell ⟨g,pnO wl,none⟩ (.string vr) = w8 at *
         go_wp2_with fail
         go_roundw
         case rel=>exact ⟨k + 1,HLT.out,by first | exact nr_idx k | exact nx_idx HLT.out (by have:=HXL.out; omega),HNX⟩
         case measure=>first | exact nr_meas HLT.out | exact nx_meas HLT.out (by have:=HXL.out; omega)
       ·have HSS:=hid (fun W (h : Below w4.heap.size w4 W)=>pset_bad (pkP K' t) vr wl g A m W (HS0.out W (HB5.out.trans (h.mono HB5.out.size))) (HPG.out.below h) hcl)
        rw [errA_if A (by omega)] at HSS
        have HN:=hid (show R = none by rw [<- HR.out]; exact HBD.out (HCL.out hcl))
        clear hcl hjt hjp hpn hlo hgB hgm ht hlk
        go_wp2_with fail
        go_region_held (fun W=>(Instr.lookup 88 (.map (some b)) (.string t) false).run Tryz.prog W = .ok (.pointer (some ⟨g,0,none⟩)) W /\ W.cell? ⟨w.heap.size,0,none⟩ = some (.string p)) (first | exact HTb.out _ HRd.out | exact HTb.out _ (below_drawn _ 1)) (first
         | (go_at_call 15; refine (HWW.out _ (below_drawn _ 1)).mono ?_; rintro e w6 ⟨rfl,hb⟩; have HRd:=hid ((below_drawn w4 1).trans (hb.mono (Nat.le_refl _))); clear hb)
         | (go_at_call 103; refine (HSS.out _ HRd.out).mono ?_; rintro e w7 ⟨rfl,rfl⟩))
        all_goals
         have HBZ:=hid (HB5.out.trans (HRd.out.mono HB5.out.size))
         go_wp2_with fail
         go_ret
         rw [HN.out]
         exact ⟨⟨_,_,rfl⟩,HBZ.out⟩
      ·have HNW:=hid (pkNew_not ht)
       have hlk0:=HP4.out.look_not (t:=t) (by have:=HTZ.out; unfold maxLen; omega) ht
       have HKK:=hid (show K'.length < maxLen by have:=HKL.out; have:=HXL.out; unfold maxLen; omega)
       have HOW:=hid (HP4.out.mp.alloc (.cells #[.string ⟨#[]⟩,.string ⟨#[]⟩] 145))
       have HKY:=hid (keyOf_S t (by have:=HTZ.out; unfold maxLen; omega))
       have HTN:=hid ht
       go_wp2_with (at_mapUpdate; refine wpList_mapUpdate_own _ rfl _ _ _ 88 rfl 9 143 strKeyed Tryz.underlying88 rP b K'.length (datP ((pkT K').zip B')) rfl HOW.out HKK.out (.string t) (.pointer (some ⟨w4.heap.size,0,none⟩)) (kS t) rfl rfl HKY.out (.held (some w4.heap.size)) [] (rP_pin _) ?_)
       intro w5 hown hgrow
       have HP5:=hid (HP4.out.more (by have:=HTZ.out; unfold maxLen; omega) HTN.out hown hgrow)
       have HF5:=hid (HF4.out.more hgrow)
       have HX5:=hid (show w5.heap[w.heap.size]? = some (.cells #[.string p,.string q] 78 (0,0)) by
        have hl:=lt_of_blk HX4.out
        rw [hgrow.block _ (by simp; omega) (by simp; have:=HPB.out; omega),((Below.refl w4.heap.size w4).alloc (Nat.le_refl _) _).block _ hl]; exact HX4.out)
       have HB5:=hid HP5.out.bl
       clear hown hgrow hlk0 ht HOW HKK HKY
       rw [<- HNW.out] at HP5
       have htm : t ∈ pkT (pkNew K' t):=pkT_new_mem _ _
       have HPP:=hid (pkP_new K' t t)
       obtain ⟨j,hj,g,hjt,hjp,hpn,hlo,hgB,hgm,hlk⟩:=HP5.out.of htm
       rw [HPP.out] at hjp hpn
       have HKN:=hid (show (pkNew K' t).length <= K.length + (k + 1) by have:=pkNew_len K' t; have:=HKL.out; omega)
       clear htm
       have HJT:=hid (show (pkT (pkNew K' t))[j]? = some t by rw [List.getElem?_eq_getElem (by rw [pkT_len]; exact hj),pkT_at hj,hjt])
       have HTb:=hid (fun W (h : Below w5.heap.size w5 W)=>show (Instr.lookup 88 (.map (some b)) (.string t) false).run Tryz.prog W = .ok (.pointer (some ⟨g,0,none⟩)) W /\ W.cell? ⟨w.heap.size,0,none⟩ = some (.string p) from by
        refine ⟨?_,by rw [Lib.cell_of_heap ((h.block _ (lt_of_blk HX5.out)).trans HX5.out)]; rfl⟩
        exact (HP5.out.below h).look2 HJT.out hgB)
       have HWW:=hid (fun W (h : Below w5.heap.size w5 W)=>HWL.out W (HB5.out.trans (h.mono HB5.out.size)))
       have HPG:=hid hpn
       have HJ:=hid (show pkSet (pkNew K' t) (pkNew K' t)[j].1 (pnS (pkNew K' t)[j].2 vr wl) = pkSet (pkNew K' t) t (pnS (pkP K' t) vr wl) by rw [hjt,hjp])
       have HST:=hid (fun W (h : Below w5.heap.size w5 W)=>(HP5.out.below h).set hj hgB vr wl)
       rw [HJ.out] at HST
       have HSF:=hid (fun W (h : Below w5.heap.size w5 W)=>(HF5.out.below h).set (o:=pnO wl) (x:=.string vr) hgm)
       have HNE:=hid (show ∀ W,Below w5.heap.size w5 W -> ∀ x,(W.setCell ⟨g,pnO wl,none⟩ x).heap[w.heap.size]? = W.heap[w.heap.size]? from fun W h x=>Below.heap_setCell _ _ _ _ (fun e=>by
        have h1:=hpn
        rw [<- (show w.heap.size = g from e)] at h1
        have:=h1.symm.trans HX5.out
        simp at this))
       have HTc:=hid (fun W (h : Below w5.heap.size w5 W)=>show (Instr.lookup 88 (.map (some b)) (.string t) false).run Tryz.prog (W.setCell ⟨g,pnO wl,none⟩ (.string vr)) = .ok (.pointer (some ⟨g,0,none⟩)) (W.setCell ⟨g,pnO wl,none⟩ (.string vr)) /\ (W.setCell ⟨g,pnO wl,none⟩ (.string vr)).cell? ⟨w.heap.size,0,none⟩ = some (.string p) from by
        refine ⟨?_,by rw [Lib.cell_of_heap ((HNE.out W h _).trans ((h.block _ (lt_of_blk HX5.out)).trans HX5.out))]; rfl⟩
        exact (HST.out W h).look2 (by rw [pkT_set]; exact HJT.out) hgB)
       cases hcl : pnC (pkP K' t) vr wl
       ·have HSS:=hid (fun W (h : Below w5.heap.size w5 W)=>pset_ok (pkP K' t) vr wl g W (HPG.out.below h) hcl)
        have HKX:=hid (HK1.out _ (HOK.out hcl))
        skip
        clear hcl hjt hjp hpn hlo hgB hgm hlk
        go_wp2_with fail
        go_region_held (fun W=>(Instr.lookup 88 (.map (some b)) (.string t) false).run Tryz.prog W = .ok (.pointer (some ⟨g,0,none⟩)) W /\ W.cell? ⟨w.heap.size,0,none⟩ = some (.string p)) (first | exact HTc.out _ HRd.out | exact HTb.out _ HRd.out | exact HTb.out _ (below_drawn _ 1)) (first
         | (go_at_call 15; refine (HWW.out _ (below_drawn _ 1)).mono ?_; rintro e w6 ⟨rfl,hb⟩; have HRd:=hid ((below_drawn w5 1).trans (hb.mono (Nat.le_refl _))); clear hb)
         | (go_at_call 103; refine (HSS.out _ HRd.out).mono ?_; rintro e w7 ⟨rfl,rfl⟩))
        all_goals
         have HPZ:=hid (HST.out _ HRd.out)
         have HFZ:=hid (HSF.out _ HRd.out)
         have HNX:=hid (show ∃ K2 B2,gpP (hvQ Q) pk S q wl (X.take (k + 1)) K = some K2 /\ K2.length <= K.length + (k + 1) /\ PinsAt w0 (w6.setCell ⟨g,pnO wl,none⟩ (.string vr)) b K2 B2 /\ PF w1 (w6.setCell ⟨g,pnO wl,none⟩ (.string vr)) b B B2 from ⟨_,_,HKX.out,by rw [pkSet_len]; exact HKN.out,HPZ.out,HFZ.out⟩)
         generalize w6.setCell ⟨g,pnO wl,none⟩ (.string vr) = w8 at *
         go_wp2_with fail
         go_roundw
         case rel=>exact ⟨k + 1,HLT.out,by first | exact nr_idx k | exact nx_idx HLT.out (by have:=HXL.out; omega),HNX⟩
         case measure=>first | exact nr_meas HLT.out | exact nx_meas HLT.out (by have:=HXL.out; omega)
       ·have HSS:=hid (fun W (h : Below w5.heap.size w5 W)=>pset_bad (pkP K' t) vr wl g A m W (HS0.out W (HB5.out.trans (h.mono HB5.out.size))) (HPG.out.below h) hcl)
        rw [errA_if A (by omega)] at HSS
        have HN:=hid (show R = none by rw [<- HR.out]; exact HBD.out (HCL.out hcl))
        clear hcl hjt hjp hpn hlo hgB hgm hlk
        go_wp2_with fail
        go_region_held (fun W=>(Instr.lookup 88 (.map (some b)) (.string t) false).run Tryz.prog W = .ok (.pointer (some ⟨g,0,none⟩)) W /\ W.cell? ⟨w.heap.size,0,none⟩ = some (.string p)) (first | exact HTb.out _ HRd.out | exact HTb.out _ (below_drawn _ 1)) (first
         | (go_at_call 15; refine (HWW.out _ (below_drawn _ 1)).mono ?_; rintro e w6 ⟨rfl,hb⟩; have HRd:=hid ((below_drawn w5 1).trans (hb.mono (Nat.le_refl _))); clear hb)
         | (go_at_call 103; refine (HSS.out _ HRd.out).mono ?_; rintro e w7 ⟨rfl,rfl⟩))
        all_goals
         have HBZ:=hid (HB5.out.trans (HRd.out.mono HB5.out.size))
         go_wp2_with fail
         go_ret
         rw [HN.out]
         exact ⟨⟨_,_,rfl⟩,HBZ.out⟩
  ·have hkI:=ix_nlt hlt
   have HTR:=hid (show X.take k = X from List.take_of_length_le (by omega))
   have HFN:=hid (HF0.out.trans HFr.out)
   clear hlt
   go_wp2_with fail
   go_ret
   have h9 : R = some K':=by rw [<- HR.out,<- HG0.out,HTR.out]
   rw [h9]
   exact ⟨rfl,B',HPr.out,HFN.out⟩
end Ve
end Go.Proofs.YtjbmjnbkibmkpaaGreatDoor
