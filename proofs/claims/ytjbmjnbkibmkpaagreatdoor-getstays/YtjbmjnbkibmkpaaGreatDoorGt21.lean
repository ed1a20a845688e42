
import Derived.Test.YtjbmjnbkibmkpaaGreatDoorGt20
import Derived.Test.YtjbmjnbkibmkpaaGreatDoorGt5
import Derived.Test.YtjbmjnbkibmkpaaGreatDoorGt4
import Derived.Test.YtjbmjnbkibmkpaaGreatDoorGt9
import Derived.Deep.RegionHeld
import Derived.Shelf.SlSortCmp.WholeK
import Derived.Shelf.SlGeneric
import Derived.Test.YtjbmjnbkibmkpaaGreatDoorProg
import Derived.Laws.AppendOwnNone
import Derived.Test.YtjbmjnbkibmkpaaGreatDoorGt10
import Derived.Test.YtjbmjnbkibmkpaaGreatDoorGt14
import Derived.Test.YtjbmjnbkibmkpaaGreatDoorGt6
set_option maxHeartbeats 8000000
namespace Go.Proofs.YtjbmjnbkibmkpaaGreatDoor
open Go.RowKit Go.Maps
namespace Ve
section
variable {hv : ByteArray -> Bool} {pk : ByteArray -> ByteArray -> ByteArray -> ByteArray × Nat} {S : List Bm}
theorem gp1_len {q : ByteArray} {wl : Bool} {K K' : Pk} {t : ByteArray} (h : gp1 hv pk S q wl K t = some K') : K'.length <= K.length + 1:=by
 rw [(gp1_keys h).2.2.2.2,pkSet_len]
 exact pkNew_len K t
theorem gpP_len {q : ByteArray} {wl : Bool} : ∀ {X : List ByteArray} {K K' : Pk},gpP hv pk S q wl X K = some K' -> K'.length <= K.length + X.length
 | [],K,K',h=>by injection h with h; subst h; simp
 | x :: r,K,K',h=>by
  have h' : (match gp1 hv pk S q wl K x with | none=>none | some K'=>gpP hv pk S q wl r K') = some K':=h
  cases e : gp1 hv pk S q wl K x with
  | none=>rw [e] at h'; cases h'
  | some K1=>
   rw [e] at h'
   have h1:=gpP_len h'
   have h2:=gp1_len e
   simp only [List.length_cons]; omega
theorem gpW_len : ∀ {X : List Bm} {K K' : Pk},gpW hv pk S X K = some K' -> K'.length <= K.length + X.length * (S.length + 1)
 | [],K,K',h=>by injection h with h; subst h; simp
 | x :: r,K,K',h=>by
  have h' : (match gpP hv pk S x.2 (wildB x.1) (wPt S x.1) K with | none=>none | some K'=>gpW hv pk S r K') = some K':=h
  cases e : gpP hv pk S x.2 (wildB x.1) (wPt S x.1) K with
  | none=>rw [e] at h'; cases h'
  | some K1=>
   rw [e] at h'
   have h1:=gpW_len h'
   have h2:=gpP_len e
   have h3:=wPt_len (S:=S) (p:=x.1)
   rw [List.length_cons,Nat.add_mul]
   omega
def PkZ (pk : ByteArray -> ByteArray -> ByteArray -> ByteArray × Nat) : Prop:=∀ t q now,t.size <= 100 -> q.size <= 100 -> now.size <= 100 -> (pk t q now).1.size < 999999
theorem pkSz_set {K : Pk} (h : pkSz K) {t : ByteArray} (ht : t.size < 999999) {x : Bm} (hx : x.1.size < 999999 /\ x.2.size < 999999) : pkSz (pkSet K t x):=fun y hy=>by
 obtain ⟨z,hz,rfl⟩:=List.mem_map.1 hy
 show (if z.1 = t then (t,x) else z).1.size < 999999 /\ _
 split
 ·exact ⟨ht,hx⟩
 ·exact h z hz
theorem pkSz_new {K : Pk} (h : pkSz K) {t : ByteArray} (ht : t.size < 999999) : pkSz (pkNew K t):=fun y hy=>by
 unfold pkNew at hy
 split at hy
 ·exact h y hy
 ·rcases List.mem_append.1 hy with hy | hy
  ·exact h y hy
  ·simp at hy; subst hy; exact ⟨ht,(by decide : bE.size < 999999),(by decide : bE.size < 999999)⟩
theorem gp1_sz (PZ : PkZ pk) {q : ByteArray} {wl : Bool} {K K' : Pk} {t : ByteArray} (hq : q.size <= 100) (hs : ∀ x,x ∈ S -> x.2.size <= 100) (ht : t.size <= 100) (h : gp1 hv pk S q wl K t = some K') (hk : pkSz K) : pkSz K':=by
 rw [(gp1_keys h).2.2.2.2]
 refine pkSz_set (pkSz_new hk (by omega)) (by omega) ?_
 have h1:=pkP_size hk t
 have h2:=PZ t q (vIn S t) ht hq (vIn_size hs t)
 unfold pnS
 cases wl
 ·exact ⟨h2,h1.2⟩
 ·exact ⟨h1.1,h2⟩
theorem gpP_sz (PZ : PkZ pk) {q : ByteArray} {wl : Bool} (hq : q.size <= 100) (hs : ∀ x,x ∈ S -> x.2.size <= 100) : ∀ {X : List ByteArray} {K K' : Pk},(∀ t,t ∈ X -> t.size <= 100) -> gpP hv pk S q wl X K = some K' -> pkSz K -> pkSz K'
 | [],K,K',_,h,hk=>by injection h with h; subst h; exact hk
 | x :: r,K,K',hX,h,hk=>by
  have h' : (match gp1 hv pk S q wl K x with | none=>none | some K'=>gpP hv pk S q wl r K') = some K':=h
  cases e : gp1 hv pk S q wl K x with
  | none=>rw [e] at h'; cases h'
  | some K1=>
   rw [e] at h'
   exact gpP_sz PZ hq hs (fun t ht=>hX t (List.mem_cons_of_mem _ ht)) h' (gp1_sz PZ hq hs (hX x (by simp)) e hk)
theorem gpW_sz (PZ : PkZ pk) (hs : ∀ x,x ∈ S -> x.1.size <= 100 /\ x.2.size <= 100) : ∀ {X : List Bm} {K K' : Pk},(∀ x,x ∈ X -> x.1.size <= 100 /\ x.2.size <= 100) -> gpW hv pk S X K = some K' -> pkSz K -> pkSz K'
 | [],K,K',_,h,hk=>by injection h with h; subst h; exact hk
 | x :: r,K,K',hX,h,hk=>by
  have h' : (match gpP hv pk S x.2 (wildB x.1) (wPt S x.1) K with | none=>none | some K'=>gpW hv pk S r K') = some K':=h
  cases e : gpP hv pk S x.2 (wildB x.1) (wPt S x.1) K with
  | none=>rw [e] at h'; cases h'
  | some K1=>
   rw [e] at h'
   have hx:=hX x (by simp)
   exact gpW_sz PZ hs (fun t ht=>hX t (List.mem_cons_of_mem _ ht)) h' (gpP_sz PZ hx.2 (fun x hx=>(hs x hx).2) (wPt_size (fun x hx=>(hs x hx).1) hx.1) e hk)
end
noncomputable def chV (Q : List Raw) (L : List Ent) (S : List Bm) (pk : ByteArray -> ByteArray -> ByteArray -> ByteArray × Nat) (D : List Bm) : Option (List Bm):=match gpW (hvQ Q) pk S D [] with
 | none=>none
 | some K=>match rbV Q L S (capsV K) with
  | none=>none
  | some N=>if D.all (wOk S N K) then some N else none
def ChP (w : World) (e : Ending) (w' : World) : Option (List Bm) -> Prop
 | none=>∃ Ty ea,e = .returned (.tuple #[.slice none 0 0,.iface Ty (.pointer (some ea))]) /\ Below w.heap.size w w'
 | some N=>∃ a c,e = .returned (.tuple #[.slice a N.length c,.nilIface]) /\ MsAt w' (.slice a N.length c) N /\ Em (.slice a N.length c) N /\ Below w.heap.size w w'
theorem rbV_len {Q : List Raw} {L : List Ent} {S C N : List Bm} (h : rbV Q L S C = some N) : N.length <= L.length:=by
 unfold rbV at h
 split at h
 ·cases h
 ·split at h
  ·cases h
  ·injection h with h
   rw [<- h]; exact bX_len
set_option maxRecDepth 100000 in
theorem change_any (T : World -> Prop) (KT : StayG T) (pk : ByteArray -> ByteArray -> ByteArray -> ByteArray × Nat) (Q : List Raw) (L : List Ent) (S D : List Bm) (v sv dv : Value) (A : Nat -> Addr) (m : Int) (w : World) (hn : L.length <= 1000) (sh : ∀ e,e ∈ L -> ShE e) (hS : S.length <= 90) (hs : ∀ x,x ∈ S -> x.1.size <= 100 /\ x.2.size <= 100) (hD : D.length <= 10) (hd : ∀ x,x ∈ D -> x.1.size <= 100 /\ x.2.size <= 100)
  (S0 : Te w A m) (hT : T w) (I : Ixs w v Q L) (hsv : MsAt w sv S) (hdv : MsAt w dv D) (PC : PkC T pk Q L A m) (PZ : PkZ pk) :
  Calls Tryz.prog 27 #[v,sv,dv] w fun e w'=>ChP w e w' (chV Q L S pk D):=by
 have hqn : Q.length <= 1000:=by rw [I.ln]; exact hn
 have hmk : ∀ W : World,(Instr.makeMap 88 none).run Tryz.prog W = .ok (.map (some W.heap.size)) (W.alloc (.map #[] 0)):=fun W=>run_makeMap 88 W
 have eg1 : ∀ args w,(callFunc 52 args).run Tryz.prog w = .ok (.enter 52 args) w:=enters_of Tryz.func52 (by kernel_rfl) rfl
 have eg2 : ∀ args w,(callFunc 55 args).run Tryz.prog w = .ok (.enter 55 args) w:=enters_of Tryz.func55 (by kernel_rfl) rfl
 obtain ⟨va,vc,hvs,-⟩:=id I.es
 obtain ⟨sa,sc,hss,-⟩:=id hsv
 obtain ⟨da,dc,hds,-⟩:=id hdv
 subst hvs
 subst hss
 subst hds
 obtain ⟨w0,hw0⟩ : ∃ W,W = (w.alloc (.cells #[.slice va Q.length vc] 22)).alloc (.cells #[.slice sa S.length sc] 23):=⟨_,rfl⟩
 have z0 : w0.heap.size = w.heap.size + 1 + 1:=by rw [hw0]; simp
 have HB0:=hid (show Below w.heap.size w w0 by rw [hw0]; exact ((Below.refl w.heap.size w).alloc (Nat.le_refl _) _).alloc (by simp) _)
 have HL0:=hid (show w0.heap[w.heap.size]? = some (.cells #[.slice va Q.length vc] 22 (0,0)) by rw [hw0]; exact heap_old _ _ (heap_new w _))
 have HS0:=hid (show w0.heap[w.heap.size + 1]? = some (.cells #[.slice sa S.length sc] 23 (0,0)) by
  rw [hw0]
  have:=heap_new (w.alloc (.cells #[.slice va Q.length vc] 22)) (.cells #[.slice sa S.length sc] 23)
  rw [show (w.alloc (.cells #[.slice va Q.length vc] 22)).heap.size = w.heap.size + 1 by simp] at this
  exact this)
 obtain ⟨w2,hw2⟩ : ∃ W,W = (w0.alloc (.map #[] 0)).alloc (.cells #[.map (some w0.heap.size)] 88):=⟨_,rfl⟩
 have z2 : w2.heap.size = w.heap.size + 1 + 1 + 1 + 1:=by rw [hw2]; simp [z0]
 have HP2:=hid (show PinsAt w0 w2 w0.heap.size [] [] by rw [hw2]; exact (PinsAt.void w0).below ((Below.refl _ _).alloc (Nat.le_refl _) _))
 have HX2:=hid (show w2.heap[w.heap.size + 1 + 1 + 1]? = some (.cells #[.map (some w0.heap.size)] 88 (0,0)) by
  rw [hw2]
  have:=heap_new (w0.alloc (.map #[] 0)) (.cells #[.map (some w0.heap.size)] 88)
  rw [show (w0.alloc (.map #[] 0)).heap.size = w.heap.size + 1 + 1 + 1 by simp [z0]] at this
  exact this)
 have HBW:=hid (fun W (h : Below w0.heap.size w0 W)=>HB0.out.trans (h.mono HB0.out.size))
 have HWC:=hid (show ∀ W,Below w0.heap.size w0 W -> W.cell? ⟨w.heap.size,0,none⟩ = some (.slice va Q.length vc) /\ W.cell? ⟨w.heap.size + 1,0,none⟩ = some (.slice sa S.length sc) from fun W h=>⟨by rw [Lib.cell_of_heap ((h.block _ (lt_of_blk HL0.out)).trans HL0.out)]; rfl,by rw [Lib.cell_of_heap ((h.block _ (lt_of_blk HS0.out)).trans HS0.out)]; rfl⟩)
 have HWP:=hid (show ∀ W B,PF w2 W w0.heap.size [] B -> W.heap[w.heap.size + 1 + 1 + 1]? = some (.cells #[.map (some w0.heap.size)] 88 (0,0)) from fun W B h=>(h.kp _ (lt_of_blk HX2.out) (by omega) (by simp)).trans HX2.out)
 have HDM:=hid (fun W (h : Below w0.heap.size w0 W)=>hdv.below (HBW.out W h))
 have HFI:=hid (firstW_any 52 #[.pointer (some ⟨w.heap.size,0,none⟩),.pointer (some ⟨w.heap.size + 1,0,none⟩),.pointer (some ⟨w.heap.size + 1 + 1 + 1,0,none⟩)] D (.slice da D.length dc)
  (fun k W=>∃ K B,gpW (hvQ Q) pk S (D.take k) [] = some K /\ PinsAt w0 W w0.heap.size K B /\ PF w2 W w0.heap.size [] B) (fun W=>gpW (hvQ Q) pk S D [] = none /\ Below w0.heap.size w0 W) w2 eg1 (by omega)
  (fun k W ⟨K,B,_,h,_⟩=>HDM.out W h.bl)
  (fun k W W' ⟨K,B,h1,h2,h3⟩ hb=>⟨K,B,h1,h2.below hb,h3.below hb⟩)
  (fun W o h=>⟨h.1,h.2.alloc h.2.size o⟩)
  (fun k hk W ⟨K,B,h1,h2,h3⟩=>by
   have hx:=hd D[k] (List.getElem_mem hk)
   have hBa:=(Below.refl W.heap.size W).alloc (Nat.le_refl _) (.cells #[.string D[k].1,.string D[k].2] 78)
   have hc:=HWC.out W h2.bl
   have hKl:=gpW_len h1
   rw [List.length_nil,Nat.zero_add] at hKl
   have hkk : (D.take k).length <= 10:=by rw [List.length_take]; omega
   have hKm : (D.take k).length * (S.length + 1) <= 10 * 91:=Nat.mul_le_mul hkk (by omega)
   refine ch1_any (k : Int) D[k].1 D[k].2 w.heap.size (w.heap.size + 1) (w.heap.size + 1 + 1 + 1) w0.heap.size _ _ W _ ⟨_,_,_,rfl⟩ ⟨_,_,_,rfl⟩ hc.1 hc.2 (by rw [Lib.cell_of_heap (HWP.out W B h3)]; rfl) ?_
   refine (pinW_any T KT pk Q L S _ _ D[k].1 D[k].2 w0.heap.size K B A m w0 (W.alloc (.cells #[.string D[k].1,.string D[k].2] 78)) hqn (by omega) hs hx.1 hx.2 (by omega) (S0.below HB0.out) (KT _ _ hT HB0.out) (I.below HB0.out) (hsv.below HB0.out) PC (h2.below hBa)).mono ?_
   intro e w' hp
   cases hg : gpP (hvQ Q) pk S D[k].2 (wildB D[k].1) (wPt S D[k].1) K with
   | none=>
    rw [hg] at hp
    obtain ⟨⟨Ty,a,rfl⟩,hb⟩:=hp
    exact ⟨⟨_,rfl,Or.inr ⟨_,_,rfl⟩⟩,Or.inr ⟨⟨_,_,rfl⟩,gpW_bad hk h1 hg,hb⟩⟩
   | some K'=>
    rw [hg] at hp
    obtain ⟨rfl,B',hP',hF'⟩:=hp
    exact ⟨⟨_,rfl,Or.inl rfl⟩,Or.inl ⟨rfl,K',B',gpW_go hk h1 hg,hP',(h3.below hBa).trans hF'⟩⟩)
  ⟨[],[],rfl,HP2.out,PF.refl _ _ _⟩)
 have HRB:=hid (fun K B W (hg : gpW (hvQ Q) pk S D [] = some K) (hP : PinsAt w0 W w0.heap.size K B)=>rebuild_any Q L S (.slice va Q.length vc) (.slice sa S.length sc) w0.heap.size K B A m w0 W hn sh (by omega) (by
   have h1:=gpW_len hg
   have hKm : D.length * (S.length + 1) <= 10 * 91:=Nat.mul_le_mul hD (by omega)
   rw [List.length_nil,Nat.zero_add] at h1
   omega) (gpW_sz PZ hs hd hg (fun x hx=>absurd hx (by simp))) (S0.below HB0.out) (I.below HB0.out) (hsv.below HB0.out) hP)
 have HCW:=hid (fun K B N x nv W W' (hx : x ∈ D) (hN : N.length <= 1000) (hW : Below w0.heap.size w0 W) (hb : Below W.heap.size W W') (hg : gpW (hvQ Q) pk S D [] = some K) (hP : PinsAt w0 W w0.heap.size K B) (hnv : MsAt W nv N)=>chkW_any S N (.slice sa S.length sc) nv x.1 x.2 w0.heap.size K B A m w0 W' (hd x hx).1 (by omega) (fun x hx=>(hs x hx).1) hN (S0.below (HBW.out W' (hW.trans (hb.mono hW.size)))) (hsv.below (HBW.out W' (hW.trans (hb.mono hW.size)))) (hnv.below hb) (hP.below hb) ((gpW_o hg).2 x hx))
 have HLN:=hid hn
 obtain ⟨RR,hRR⟩ : ∃ RR,chV Q L S pk D = RR:=⟨_,rfl⟩
 rw [hRR]
 have HRR:=hid hRR
 have HDL:=hid hD
 have HW0:=hid hw0
 have HW2:=hid (show (w0.alloc (.map #[] 0)).alloc (.cells #[.map (some (w.heap.size + 1 + 1))] 88) = w2 by rw [hw2,z0])
 have HZ2:=hid z2
 have HZ0:=hid z0
 clear S0 hT I hsv hdv PC PZ hs hd sh hRR KT eg1 HP2 hw0 hw2 z0 z2
 go_enter Tryz.func27,Tryz.ntmps27
 go_wp2_with fail
 rw [<- HW0.out,HW2.out]
 refine HFI.out.mono ?_
 rintro e w3 (⟨rfl,K,B,hg,hP,hF⟩ | ⟨⟨Ty,ea,rfl⟩,hg,hb⟩)
 rotate_left
 ·have HN:=hid (show RR = none by rw [<- HRR.out]; unfold chV; rw [hg])
  have HB3:=hid (HBW.out w3 hb)
  clear hg hb
  go_wp2_with fail
  go_ret2
  rw [HN.out]
  exact ⟨_,_,rfl,HB3.out⟩
 rw [List.take_length] at hg
 have HG3:=hid hg
 have HP3:=hid hP
 have HF3:=hid hF
 have HX3:=hid (HWP.out w3 B hF)
 obtain ⟨y1,y2⟩:=HWC.out w3 hP.bl
 have y3 : w3.cell? ⟨w.heap.size + 1 + 1 + 1,0,none⟩ = some (.map (some w0.heap.size)):=by rw [Lib.cell_of_heap HX3.out]; rfl
 have HRR3:=hid (HRB.out K B w3 hg hP)
 clear hg hP hF HFI HRB
 go_wp2_with fail
 refine HRR3.out.mono ?_
 intro e w4 hp
 cases hr : rbV Q L S (capsV K) with
 | none=>
  rw [hr] at hp
  obtain ⟨na,nn,nc,Ty,ea,rfl,hb⟩:=hp
  have HN:=hid (show RR = none by rw [<- HRR.out]; unfold chV; rw [HG3.out]; simp only; rw [hr])
  have HB4:=hid (HBW.out w4 (HP3.out.bl.trans (hb.mono HP3.out.bl.size)))
  clear hb hr y1 y2 y3
  go_wp2_with fail
  go_ret2
  rw [HN.out]
  exact ⟨_,_,rfl,HB4.out.alloc HB4.out.size _⟩
 | some N=>
  rw [hr] at hp
  obtain ⟨na,nc,rfl,hM⟩:=hp
  have HNN:=hid (show RR = if D.all (wOk S N K) then some N else none by rw [<- HRR.out]; unfold chV; rw [HG3.out]; simp only; rw [hr])
  have HNL:=hid (show N.length <= 1000 from Nat.le_trans (rbV_len hr) HLN.out)
  have HB4:=hid hM.1
  have HEM:=hid hM.em
  obtain ⟨w5,hw5⟩ : ∃ W,W = w4.alloc (.cells #[.slice na N.length nc] 23):=⟨_,rfl⟩
  have HB5:=hid (show Below w3.heap.size w3 w5 by rw [hw5]; exact hM.1.alloc hM.1.size _)
  have HM5:=hid (show MsAt w5 (.slice na N.length nc) N by rw [hw5]; exact hM.ms.below ((Below.refl _ _).alloc (Nat.le_refl _) _))
  have HX5:=hid (show w5.heap[w4.heap.size]? = some (.cells #[.slice na N.length nc] 23 (0,0)) by rw [hw5]; exact heap_new w4 _)
  have HP5:=hid (HP3.out.below HB5.out)
  have HXP:=hid ((HB5.out.block _ (lt_of_blk HX3.out)).trans HX3.out)
  have HFI2:=hid (firstW_any 55 #[.pointer (some ⟨w.heap.size + 1,0,none⟩),.pointer (some ⟨w4.heap.size,0,none⟩),.pointer (some ⟨w.heap.size + 1 + 1 + 1,0,none⟩)] D (.slice da D.length dc)
   (fun k W=>Below w5.heap.size w5 W /\ ∀ j (hj : j < D.length),j < k -> wOk S N K D[j] = true) (fun W=>D.all (wOk S N K) = false /\ Below w5.heap.size w5 W) w5 eg2 (by have:=HDL.out; omega)
   (fun k W h=>HDM.out W (HP5.out.bl.trans (h.1.mono HP5.out.bl.size)))
   (fun k W W' h hb=>⟨h.1.trans (hb.mono h.1.size),h.2⟩)
   (fun W o h=>⟨h.1,h.2.alloc h.2.size o⟩)
   (fun k hk W h=>by
    have hBa:=h.1.alloc h.1.size (.cells #[.string D[k].1,.string D[k].2] 78)
    have hc:=HWC.out W (HP5.out.bl.trans (h.1.mono HP5.out.bl.size))
    refine ch2_any (k : Int) D[k].1 D[k].2 (w.heap.size + 1) w4.heap.size (w.heap.size + 1 + 1 + 1) w0.heap.size _ _ W _ ⟨_,_,_,rfl⟩ ⟨_,_,_,rfl⟩ hc.2 (by rw [Lib.cell_of_heap ((h.1.block _ (lt_of_blk HX5.out)).trans HX5.out)]; rfl) (by rw [Lib.cell_of_heap ((h.1.block _ (lt_of_blk HXP.out)).trans HXP.out)]; rfl) ?_
    refine (HCW.out K B N D[k] _ w5 (W.alloc (.cells #[.string D[k].1,.string D[k].2] 78)) (List.getElem_mem hk) HNL.out HP5.out.bl hBa HG3.out HP5.out HM5.out).mono ?_
    rintro e w' ⟨⟨hz,rfl⟩ | ⟨hz,Ty,a,rfl⟩,hb⟩
    ·refine ⟨⟨_,rfl,Or.inl rfl⟩,Or.inl ⟨rfl,hBa.trans (hb.mono hBa.size),fun j hj hjk=>?_⟩⟩
     rcases Nat.lt_or_ge j k with h1 | h1
     ·exact h.2 j hj h1
     ·have : j = k:=by omega
      subst this; exact hz
    ·refine ⟨⟨_,rfl,Or.inr ⟨_,_,rfl⟩⟩,Or.inr ⟨⟨_,_,rfl⟩,?_,hBa.trans (hb.mono hBa.size)⟩⟩
     cases hall : D.all (wOk S N K)
     ·rfl
     ·rw [List.all_eq_true.1 hall _ (List.getElem_mem hk)] at hz; cases hz)
   ⟨Below.refl _ _,fun j _ hj=>absurd hj (Nat.not_lt_zero _)⟩)
  have HB35:=hid (HBW.out w5 HP5.out.bl)
  have HW5:=hid hw5
  clear hM hr y1 y2 y3 hw5 eg2
  go_wp2_with fail
  rw [<- HW5.out]
  refine HFI2.out.mono ?_
  rintro e w6 (⟨rfl,hb,ha⟩ | ⟨⟨Ty,ea,rfl⟩,ha,hb⟩)
  ·have HZ:=hid (show RR = some N by
    rw [HNN.out,if_pos]
    rw [List.all_eq_true]
    intro x hx
    obtain ⟨j,hj,rfl⟩:=List.getElem_of_mem hx
    exact ha j hj hj)
   have HX6:=hid ((hb.block _ (lt_of_blk HX5.out)).trans HX5.out)
   have HM6:=hid (HM5.out.below hb)
   have HB6:=hid (HB35.out.trans (hb.mono HB35.out.size))
   have k1 : w6.cell? ⟨w4.heap.size,0,none⟩ = some (.slice na N.length nc):=by rw [Lib.cell_of_heap HX6.out]; rfl
   clear hb ha HFI2
   go_wp2_with fail
   go_ret2
   rw [HZ.out]
   exact ⟨_,_,rfl,HM6.out,HEM.out,HB6.out⟩
  ·have HZ:=hid (show RR = none by rw [HNN.out,if_neg (by rw [ha]; decide)])
   have HB6:=hid (HB35.out.trans (hb.mono HB35.out.size))
   clear hb ha HFI2
   go_wp2_with fail
   go_ret2
   rw [HZ.out]
   exact ⟨_,_,rfl,HB6.out⟩
end Ve
end Go.Proofs.YtjbmjnbkibmkpaaGreatDoor


namespace Go.Proofs.YtjbmjnbkibmkpaaGreatDoor
open Go.RowKit
namespace Ve
abbrev Rc:=List UInt8 × Value
def rcells (r : Rc) : List Value:=[.int .i64 (nAt r.1 0),.int .i64 (nAt r.1 1),.int .i64 (nAt r.1 2),r.2]
def RcAt (W : World) (g : Nat) (r : Rc) : Prop:=verErr r.1 = 0 /\ r.1.length <= 80 /\ StrsAt W r.2 (strs (preOf r.1)) /\ ∀ b o s n c,r.2 = .slice (some ⟨b,o,s⟩) n c -> b ≠ g
structure Rw (w0 W : World) (g : Nat) (D : List Rc) : Prop where
 bl : Below w0.heap.size w0 W
 lo : w0.heap.size <= g
 hi : g < W.heap.size
 fz : ∀ o,W.frozen? ⟨g,o,none⟩ = false
 rc : ∀ r,r ∈ D -> RcAt W g r
 c0 : ∀ j (h : j < D.length),W.cell? ⟨g,j * 4,none⟩ = some (.int .i64 (nAt D[j].1 0))
 c1 : ∀ j (h : j < D.length),W.cell? ⟨g,j * 4 + 1,none⟩ = some (.int .i64 (nAt D[j].1 1))
 c2 : ∀ j (h : j < D.length),W.cell? ⟨g,j * 4 + 2,none⟩ = some (.int .i64 (nAt D[j].1 2))
 c3 : ∀ j (h : j < D.length),W.cell? ⟨g,j * 4 + 3,none⟩ = some D[j].2
theorem RcAt.below {W W' : World} {g : Nat} {r : Rc} (h : RcAt W g r) (hb : Below W.heap.size W W') : RcAt W' g r:=⟨h.1,h.2.1,h.2.2.1.below hb,h.2.2.2⟩
theorem Rw.below {w0 W W' : World} {g : Nat} {D : List Rc} (h : Rw w0 W g D) (hb : Below W.heap.size W W') : Rw w0 W' g D:=
 ⟨h.bl.trans (hb.mono h.bl.size),h.lo,Nat.lt_of_lt_of_le h.hi hb.size,fun o=>by rw [hb.frozen h.hi]; exact h.fz o,fun r hr=>(h.rc r hr).below hb,
  fun j hj=>cell_below hb (h.c0 j hj),fun j hj=>cell_below hb (h.c1 j hj),fun j hj=>cell_below hb (h.c2 j hj),fun j hj=>cell_below hb (h.c3 j hj)⟩
theorem Rw.at {w0 W : World} {g : Nat} {D : List Rc} (h : Rw w0 W g D) {j : Nat} {r : Rc} (hj : D[j]? = some r) :
  W.cell? ⟨g,j * 4,none⟩ = some (.int .i64 (nAt r.1 0)) /\ W.cell? ⟨g,j * 4 + 1,none⟩ = some (.int .i64 (nAt r.1 1)) /\ W.cell? ⟨g,j * 4 + 2,none⟩ = some (.int .i64 (nAt r.1 2)) /\ W.cell? ⟨g,j * 4 + 3,none⟩ = some r.2:=by
 obtain ⟨hl,rfl⟩:=List.getElem?_eq_some_iff.1 hj
 exact ⟨h.c0 j hl,h.c1 j hl,h.c2 j hl,h.c3 j hl⟩
def Two (w0 W : World) (g j : Nat) (D : List Rc) (y x : Rc) : Prop:=
 W.cell? ⟨g,j * 4,none⟩ = some (.int .i64 (nAt y.1 0)) /\ W.cell? ⟨g,j * 4 + 1,none⟩ = some (.int .i64 (nAt y.1 1)) /\ W.cell? ⟨g,j * 4 + 2,none⟩ = some (.int .i64 (nAt y.1 2)) /\ W.cell? ⟨g,j * 4 + 3,none⟩ = some y.2 /\
 W.cell? ⟨g,(j + 1) * 4,none⟩ = some (.int .i64 (nAt x.1 0)) /\ W.cell? ⟨g,(j + 1) * 4 + 1,none⟩ = some (.int .i64 (nAt x.1 1)) /\ W.cell? ⟨g,(j + 1) * 4 + 2,none⟩ = some (.int .i64 (nAt x.1 2)) /\ W.cell? ⟨g,(j + 1) * 4 + 3,none⟩ = some x.2 /\ Hid (Rw w0 W g D)
theorem Rw.two {w0 W : World} {g : Nat} {D : List Rc} (h : Rw w0 W g D) {j : Nat} {y x : Rc} (hy : D[j]? = some y) (hx : D[j + 1]? = some x) : Two w0 W g j D y x:=by
 obtain ⟨a0,a1,a2,a3⟩:=h.at hy
 obtain ⟨b0,b1,b2,b3⟩:=h.at hx
 exact ⟨a0,a1,a2,a3,b0,b1,b2,b3,h⟩
theorem strs_len (ps : List (List UInt8)) : (strs ps).length = ps.length:=by simp [strs]
theorem pre_small {W : World} {g : Nat} {r : Rc} (h : RcAt W g r) : (strs (preOf r.1)).length <= 1000000 /\ ∀ x,x ∈ strs (preOf r.1) -> x.size <= maxLen:=by
 have h1:=pre_len (l:=r.1)
 refine ⟨by rw [strs_len]; have:=h.2.1; omega,fun x hx=>?_⟩
 have h2 : x.data.toList ∈ preOf r.1:=by rw [<- bl_strs (preOf r.1)]; exact bl_mem hx
 have h3:=pre_size h2
 rw [len_eq] at h3
 have:=h.2.1
 unfold maxLen; omega
theorem compare_rcw (r q : Rc) (g : Nat) (W : World) (hr : RcAt W g r) (hq : RcAt W g q) :
  Calls Tryz.prog 171 #[.agg #[.int .i64 (nAt r.1 0),.int .i64 (nAt r.1 1),.int .i64 (nAt r.1 2),r.2],.agg #[.int .i64 (nAt q.1 0),.int .i64 (nAt q.1 1),.int .i64 (nAt q.1 2),q.2]] W
   fun e w'=>e = .returned (.int .i64 (ordV r.1 q.1)) /\ Bw W.heap.size W w':=by
 have h:=compare_bw (nAt r.1 0) (nAt r.1 1) (nAt r.1 2) (nAt q.1 0) (nAt q.1 1) (nAt q.1 2) r.2 q.2 (strs (preOf r.1)) (strs (preOf q.1)) W (pre_small hr).1 (pre_small hq).1 (pre_small hr).2 (pre_small hq).2 hr.2.2.1 hq.2.2.1
 rw [bl_strs,bl_strs] at h
 exact h
theorem compare_rc (r q : Rc) (g : Nat) (W : World) (hr : RcAt W g r) (hq : RcAt W g q) :
  Calls Tryz.prog 171 #[.agg #[.int .i64 (nAt r.1 0),.int .i64 (nAt r.1 1),.int .i64 (nAt r.1 2),r.2],.agg #[.int .i64 (nAt q.1 0),.int .i64 (nAt q.1 1),.int .i64 (nAt q.1 2),q.2]] W
   fun e w'=>e = .returned (.int .i64 (ordV r.1 q.1)) /\ Below W.heap.size W w':=by
 have h:=compare_any (nAt r.1 0) (nAt r.1 1) (nAt r.1 2) (nAt q.1 0) (nAt q.1 1) (nAt q.1 2) r.2 q.2 (strs (preOf r.1)) (strs (preOf q.1)) W (pre_small hr).1 (pre_small hq).1 (pre_small hr).2 (pre_small hq).2 hr.2.2.1 hq.2.2.1
 rw [bl_strs,bl_strs] at h
 exact h
end Ve
end Go.Proofs.YtjbmjnbkibmkpaaGreatDoor


namespace Go.Proofs.YtjbmjnbkibmkpaaGreatDoor
open Go.RowKit
namespace Ve
theorem grow_of_bw {W w' : World} (h : Bw W.heap.size W w') : ∃ q os',w' = Go.Sort.grow (W.drewN q) os':=by
 refine ⟨w'.drawn - W.drawn,w'.heap.extract W.heap.size w'.heap.size,?_⟩
 have hd:=h.dr
 have hh : w'.heap = W.heap ++ w'.heap.extract W.heap.size w'.heap.size:=by
  apply Array.ext_getElem?
  intro i
  by_cases hi : i < W.heap.size
  ·rw [Array.getElem?_append_left hi,h.be.block i hi]
  ·rw [Array.getElem?_append_right (by omega),Array.getElem?_extract]
   have hs:=h.be.size
   by_cases h2 : i < w'.heap.size
   ·rw [if_pos (by omega)]
    congr 1
    omega
   ·rw [if_neg (by omega)]
    exact Array.getElem?_eq_none (by omega)
 obtain ⟨a,b,c,d,e⟩:=w'
 obtain ⟨a',b',c',d',e'⟩:=W
 have h1:=h.be.os
 have h2:=h.be.tape
 have h3:=h.be.output
 simp only at h1 h2 h3 hh hd
 subst h1 h2 h3
 simp only [Go.Sort.grow,World.drewN,World.mk.injEq,true_and,and_true]
 exact ⟨hh,by omega⟩
abbrev Rq (w : World) (g : Nat):={ r : Rc // RcAt w g r }
def encR {w : World} {g : Nat} (r : Rq w g) : List Value:=rcells r.1
def cfR {w : World} {g : Nat} (r q : Rq w g) : Int:=ordV r.1.1 q.1.1
theorem swoR (w : World) (g : Nat) : Go.Sort.SWO (ltOf (cfR (w:=w) (g:=g))) where
 irrefl x:=by
  unfold ltOf cfR
  rw [(ordV_zero x.2.1 x.2.1).2 rfl]; rfl
 trans x y z h1 h2:=by
  unfold ltOf cfR at *
  simp only [decide_eq_true_eq] at *
  exact ordV_trans h1 h2
 ntrans x y z h1 h2:=by
  unfold ltOf cfR at *
  simp only [decide_eq_false_iff_not] at *
  intro h
  rcases ordV_range x.1.1 y.1.1 with e | e | e
  ·omega
  ·have:=(ordV_zero x.2.1 y.2.1).1 e
   rw [this] at h
   exact h2 h
  ·have h3 : ordV y.1.1 x.1.1 < 0:=by rw [ordV_swap x.1.1 y.1.1]; omega
   exact h2 (ordV_trans h3 h)
theorem encR_len {w : World} {g : Nat} (r : Rq w g) : (encR r).length = 4:=rfl
theorem RcAt.sorted {w : World} {g : Nat} {r : Rc} (h : RcAt w g r) {α : Type} [Inhabited α] (enc : α -> List Value) (m : Nat) (dk : Array α) (os : Array Obj) : RcAt (sortWorldK enc 4 w g 0 m dk os) g r:=by
 refine ⟨h.1,h.2.1,?_,h.2.2.2⟩
 rcases h.2.2.1 with h0 | ⟨hne,b,e1,e2,e3⟩
 ·exact Or.inl h0
 ·have hbg : b ≠ g:=h.2.2.2 b 0 none _ _ e1
  refine Or.inr ⟨hne,b,e1,Nat.lt_of_lt_of_le e2 (size_sortWorldK_c enc 4 w g 0 m dk os),fun j hj=>?_⟩
  unfold sortWorldK
  rw [Go.Sort.cell?_grow _ _ _ (by rw [Go.Sort.size_putRowK]; exact e2),Go.Sort.cell?_putRowK_other enc 4 _ g 0 dk _ hbg]
  exact e3 j hj
theorem cmpR (w : World) (g n : Nat) [Inhabited (Rq w g)] : CmpLays Tryz.prog 171 #[] (encR (w:=w) (g:=g)) 4 cfR g 0 n w:=by
 intro m os dk hs x y
 have h:=compare_rcw x.1 y.1 g (sortWorldK encR 4 w g 0 m dk os) (x.2.sorted encR m dk os) (y.2.sorted encR m dk os)
 have e : (#[.agg (encR x).toArray,.agg (encR y).toArray] ++ #[] : Array Value) = #[.agg #[.int .i64 (nAt x.1.1 0),.int .i64 (nAt x.1.1 1),.int .i64 (nAt x.1.1 2),x.1.2],.agg #[.int .i64 (nAt y.1.1 0),.int .i64 (nAt y.1.1 1),.int .i64 (nAt y.1.1 2),y.1.2]]:=by simp [encR,rcells]
 rw [e]
 exact h.mono fun e w' ⟨he,hb⟩=>⟨he,grow_of_bw hb⟩
end Ve
end Go.Proofs.YtjbmjnbkibmkpaaGreatDoor


namespace Go.Proofs
open Go.Shelf
def Tryz.sortParts_ren : Go.Shelf.Ren:=⟨fun | 6=>278 | 15=>129 | 14=>294 | 28=>182 | 29=>183 | 20=>300 | 21=>301 | 22=>302 | 23=>303 | 24=>304 | 25=>305 | 26=>306 | 27=>307 | 46=>312 | 47=>230 | 48=>231 | 49=>313 | 50=>314 | 57=>319 | n=>n,fun | 22=>280 | 24=>66 | 25=>209 | 3=>3 | 39=>167 | 0=>0 | 53=>221 | 55=>223 | 4=>4 | 46=>214 | 45=>213 | 50=>218 | 5=>5 | 9=>9 | 66=>249 | 70=>253 | 76=>277 | 77=>278 | n=>n,fun | n=>n⟩
theorem Tryz.sortParts : Go.Proofs.SlLaysF0.n6 Tryz.prog Tryz.sortParts_ren:={
 mixed:=by kernel_rfl
 f6:=⟨Tryz.f278.name,by decide,Tryz.func278.trans (congrArg some (by kernel_rfl))⟩
 f14:=⟨Tryz.f294.name,by decide,Tryz.func294.trans (congrArg some (by kernel_rfl))⟩
 f15:=Tryz.func129.trans (congrArg some (by kernel_rfl))
 f20:=⟨Tryz.f300.name,by decide,Tryz.func300.trans (congrArg some (by kernel_rfl))⟩
 f21:=⟨Tryz.f301.name,by decide,Tryz.func301.trans (congrArg some (by kernel_rfl))⟩
 f22:=⟨Tryz.f302.name,by decide,Tryz.func302.trans (congrArg some (by kernel_rfl))⟩
 f23:=⟨Tryz.f303.name,by decide,Tryz.func303.trans (congrArg some (by kernel_rfl))⟩
 f24:=⟨Tryz.f304.name,by decide,Tryz.func304.trans (congrArg some (by kernel_rfl))⟩
 f25:=⟨Tryz.f305.name,by decide,Tryz.func305.trans (congrArg some (by kernel_rfl))⟩
 f26:=⟨Tryz.f306.name,by decide,Tryz.func306.trans (congrArg some (by kernel_rfl))⟩
 f27:=⟨Tryz.f307.name,by decide,Tryz.func307.trans (congrArg some (by kernel_rfl))⟩
 f28:=Tryz.func182.trans (congrArg some (by kernel_rfl))
 f29:=Tryz.func183.trans (congrArg some (by kernel_rfl))
 f46:=⟨Tryz.f312.name,by decide,Tryz.func312.trans (congrArg some (by kernel_rfl))⟩
 f47:=Tryz.func230.trans (congrArg some (by kernel_rfl))
 f48:=Tryz.func231.trans (congrArg some (by kernel_rfl))
 f49:=⟨Tryz.f313.name,by decide,Tryz.func313.trans (congrArg some (by kernel_rfl))⟩
 f50:=⟨Tryz.f314.name,by decide,Tryz.func314.trans (congrArg some (by kernel_rfl))⟩
 f57:=⟨Tryz.f319.name,by decide,Tryz.func319.trans (congrArg some (by kernel_rfl))⟩
 t0:=Tryz.underlying0
 a0:=Tryz.isAgg0
 z0:=Tryz.sizeOf0
 v0:=Tryz.zeroValue0
 t3:=Tryz.underlying3
 a3:=Tryz.isAgg3
 z3:=Tryz.sizeOf3
 v3:=Tryz.zeroValue3
 t4:=Tryz.underlying4
 a4:=Tryz.isAgg4
 z4:=Tryz.sizeOf4
 v4:=Tryz.zeroValue4
 t5:=Tryz.underlying5
 a5:=Tryz.isAgg5
 z5:=Tryz.sizeOf5
 v5:=Tryz.zeroValue5
 t9:=Tryz.underlying9
 a9:=Tryz.isAgg9
 z9:=Tryz.sizeOf9
 v9:=Tryz.zeroValue9
 t22:=Tryz.underlying280
 a22:=Tryz.isAgg280
 z22:=Tryz.sizeOf280
 v22:=Tryz.zeroValue280
 t25:=Tryz.underlying209
 a25:=Tryz.isAgg209
 z25:=Tryz.sizeOf209
 v25:=Tryz.zeroValue209
 t39:=Tryz.underlying167
 a39:=Tryz.isAgg167
 z39:=Tryz.sizeOf167
 v39:=Tryz.zeroValue167
 t45:=Tryz.underlying213
 a45:=Tryz.isAgg213
 z45:=Tryz.sizeOf213
 v45:=Tryz.zeroValue213
 t46:=Tryz.underlying214
 a46:=Tryz.isAgg214
 z46:=Tryz.sizeOf214
 v46:=Tryz.zeroValue214
 t50:=Tryz.underlying218
 a50:=Tryz.isAgg218
 z50:=Tryz.sizeOf218
 v50:=Tryz.zeroValue218
 t53:=Tryz.underlying221
 a53:=Tryz.isAgg221
 z53:=Tryz.sizeOf221
 v53:=Tryz.zeroValue221
 t55:=Tryz.underlying223
 a55:=Tryz.isAgg223
 z55:=Tryz.sizeOf223
 v55:=Tryz.zeroValue223
 t66:=Tryz.underlying249
 a66:=Tryz.isAgg249
 z66:=Tryz.sizeOf249
 v66:=Tryz.zeroValue249
 t70:=Tryz.underlying253
 a70:=Tryz.isAgg253
 z70:=Tryz.sizeOf253
 v70:=Tryz.zeroValue253
 t76:=Tryz.underlying277
 a76:=Tryz.isAgg277
 z76:=Tryz.sizeOf277
 v76:=Tryz.zeroValue277
 t77:=Tryz.underlying278
 a77:=Tryz.isAgg278
 z77:=Tryz.sizeOf278
 v77:=Tryz.zeroValue278 }
end Go.Proofs


namespace Go.Proofs.YtjbmjnbkibmkpaaGreatDoor
open Go.RowKit
namespace Ve
def srt (D : List Rc) : Prop:=D.Pairwise fun r q=>ordV r.1 q.1 <= 0
theorem sorted_below {w : World} {g : Nat} {α : Type} [Inhabited α] (enc : α -> List Value) (m : Nat) (dk : Array α) (os : Array Obj) (B : Nat) (hB : B <= g) (hz : B <= w.heap.size) : Below B w (sortWorldK enc 4 w g 0 m dk os):=by
 refine ⟨rfl,rfl,rfl,size_sortWorldK_c enc 4 w g 0 m dk os,fun k hk=>?_⟩
 unfold sortWorldK
 rw [Go.Sort.heap_grow_old _ _ (by rw [Go.Sort.size_putRowK]; show k < w.heap.size; omega)]
 unfold Go.Sort.putRowK Go.Sort.putRow
 show (Array.modify (Go.Sort.ahead w m).heap g _)[k]? = _
 rw [Array.getElem?_modify,if_neg (by omega)]
 rfl
theorem holds_rw {w0 w : World} {g : Nat} {D : List Rc} (h : Rw w0 w g D) [Inhabited (Rq w g)] (d : Array (Rq w g)) (hd : d.toList.map (·.1) = D) : Go.Sort.HoldsK encR 4 w g 0 d:=by
 have hl : d.size = D.length:=by rw [<- hd]; simp
 intro t ht
 rw [Go.Sort.size_flatK] at ht
 rw [Go.Sort.get_flatK _ _ _ _ ht]
 have hi : t / 4 < d.size:=by omega
 have e : d[t / 4]!.1 = D[t / 4]'(by omega):=by
  rw [getElem!_pos d (t / 4) hi]
  simp [<- hd]
 refine ⟨?_,by rw [Nat.zero_add]; exact h.fz t⟩
 show w.cell? ⟨g,0 + t,none⟩ = some ((rcells d[t / 4]!.1)[t % 4]!)
 rw [e,Nat.zero_add]
 have hm : t % 4 < 4:=Nat.mod_lt _ (by omega)
 have hdm:=Nat.div_add_mod t 4
 match hc : t % 4,hm with
 | 0,_=>have:=h.c0 (t / 4) (by omega); rw [show t / 4 * 4 = t by omega] at this; exact this
 | 1,_=>have:=h.c1 (t / 4) (by omega); rw [show t / 4 * 4 + 1 = t by omega] at this; exact this
 | 2,_=>have:=h.c2 (t / 4) (by omega); rw [show t / 4 * 4 + 2 = t by omega] at this; exact this
 | 3,_=>have:=h.c3 (t / 4) (by omega); rw [show t / 4 * 4 + 3 = t by omega] at this; exact this
theorem lift_rq {w : World} {g : Nat} : ∀ D : List Rc,(∀ r,r ∈ D -> RcAt w g r) -> ∃ l : List (Rq w g),l.map (·.1) = D
 | [],_=>⟨[],rfl⟩
 | r :: R,h=>by
  obtain ⟨l,e⟩:=lift_rq R (fun q hq=>h q (List.mem_cons_of_mem _ hq))
  exact ⟨⟨r,h r (by simp)⟩ :: l,by simp [e]⟩
theorem sort_rw (w0 w : World) (g cap : Nat) (D : List Rc) (hD : D ≠ []) (h12 : D.length <= 1000) (h : Rw w0 w g D) :
  Calls Tryz.prog 278 #[.slice (some ⟨g,0,none⟩) D.length cap,.func (.func 171) #[] #[]] w fun e w'=>e = .returned (.tuple #[]) /\ ∃ D',D'.Perm D /\ srt D' /\ Rw w0 w' g D':=by
 obtain ⟨r0,R,rfl⟩ : ∃ r R,D = r :: R:=by
  cases D with
  | nil=>exact absurd rfl hD
  | cons r R=>exact ⟨r,R,rfl⟩
 letI : Inhabited (Rq w g):=⟨⟨r0,h.rc r0 (by simp)⟩⟩
 obtain ⟨d,hd⟩ : ∃ d : Array (Rq w g),d.toList.map (·.1) = r0 :: R:=by
  obtain ⟨l,e⟩:=lift_rq (r0 :: R) h.rc
  exact ⟨l.toArray,by simpa using e⟩
 have hl : d.size = (r0 :: R).length:=by rw [<- hd]; simp
 have hH:=holds_rw h d hd
 have eg : ∀ args w,(callFunc 171 args).run Tryz.prog w = .ok (.enter 171 args) w:=enters_of Tryz.func171 (by kernel_rfl) rfl
 have hcon:=AnyQ.slices_SortFunc Tryz.sortParts 4 Tryz.isAgg66 Tryz.sizeOf66 encR encR_len (fun x v hv=>by
  obtain ⟨px,nx,cx,e⟩:=x.2.2.2.1.slice
  simp only [encR,rcells,e,List.mem_cons,List.not_mem_nil,or_false] at hv
  rcases hv with rfl | rfl | rfl | rfl <;> rfl) cfR (swoR w g) 171 #[] g 0 cap d w eg (cmpR w g d.size) hH h.hi (by omega)
 rw [hl] at hcon
 refine Calls.mono hcon ?_
 rintro e w' ⟨he,d',n,os,hp,hs,rfl⟩
 obtain ⟨hsz,_,hperm⟩:=hp
 have hsz' : d'.size = (r0 :: R).length:=hsz.trans hl
 have hHd:=holdsK_sortWorldK_c encR 4 w g 0 d d' n os hH h.hi hsz
 have hpm : d'.toList.Perm d.toList:=by
  have e1 : d'.extract 0 (r0 :: R).length = d':=by rw [<- hsz']; simp
  have e2 : d.extract 0 (r0 :: R).length = d:=by rw [<- hl]; simp
  rw [e1,e2] at hperm
  exact hperm
 have hg : ∀ j (hj : j < (d'.toList.map (·.1)).length),d'[j]! = d'[j]'(by simpa using hj):=fun j hj=>getElem!_pos d' j (by simpa using hj)
 have cell : ∀ j (hj : j < (d'.toList.map (·.1)).length) c (hc : c < 4),(sortWorldK encR 4 w g 0 n d' os).cell? ⟨g,j * 4 + c,none⟩ = some ((rcells (d'.toList.map (·.1))[j])[c]!):=by
  intro j hj c hc
  have h1:=(hHd.cell (i:=j) (c:=c) (by simpa using hj) hc).1
  rw [Nat.zero_add,hg j hj] at h1
  rw [h1]
  simp [encR]
 refine ⟨he,d'.toList.map (·.1),?_,?_,?_⟩
 ·rw [<- hd]; exact hpm.map _
 ·unfold srt
  rw [List.pairwise_iff_getElem]
  intro i j hi hj hij
  have h1:=hs i j (Nat.zero_le _) hij (by rw [<- hsz']; simpa using hj)
  rw [hg i hi,hg j hj] at h1
  unfold ltOf cfR at h1
  simp only [decide_eq_false_iff_not] at h1
  simp only [List.getElem_map,Array.getElem_toList]
  have h3 : ¬ ordV (d'[j]'(by simpa using hj)).1.1 (d'[i]'(by simpa using hi)).1.1 < 0:=h1
  rw [ordV_swap (d'[i]'(by simpa using hi)).1.1 (d'[j]'(by simpa using hj)).1.1] at h3
  omega
 ·refine ⟨h.bl.trans ((sorted_below encR n d' os w0.heap.size h.lo h.bl.size)),h.lo,Nat.lt_of_lt_of_le h.hi (size_sortWorldK_c encR 4 w g 0 n d' os),fun o=>?_,fun r hr=>?_,fun j hj=>?_,fun j hj=>?_,fun j hj=>?_,fun j hj=>?_⟩
  ·unfold sortWorldK
   rw [Go.Sort.frozen?_grow _ _ _ (by rw [Go.Sort.size_putRowK]; exact h.hi)]
   unfold Go.Sort.putRowK
   rw [Go.Sort.frozen?_putRow]
   exact h.fz o
  ·obtain ⟨x,_,rfl⟩:=List.mem_map.1 hr
   exact x.2.sorted encR n d' os
  ·exact cell j hj 0 (by omega)
  ·exact cell j hj 1 (by omega)
  ·exact cell j hj 2 (by omega)
  ·exact cell j hj 3 (by omega)
end Ve
end Go.Proofs.YtjbmjnbkibmkpaaGreatDoor


namespace Go.Proofs.YtjbmjnbkibmkpaaGreatDoor
open Go.RowKit
namespace Ve
theorem owns_mono {w : World} {b b' : Nat} {e : TypeId} {size : Nat} {v : Value} {n : Nat} {xs : List Value} (h : w.ownsRow b e size v n xs) (hb : b' <= b) : w.ownsRow b' e size v n xs:=by
 refine ⟨h.1,?_⟩
 rcases h.2 with h | ⟨g,cap,cur,h1,h2,h3⟩
 ·exact Or.inl h
 ·exact Or.inr ⟨g,cap,cur,h1,Nat.le_trans hb h2,h3⟩
theorem bl_get {X : List ByteArray} {j : Nat} (h : j < X.length) : (bl X)[j]'(by rw [bl_len]; exact h) = X[j].data.toList:=by simp [bl]
def Kept (L : List ByteArray) (k : Nat) (X : List ByteArray) : Prop:=rises (bl X) /\ ∀ t,t ∈ bl X ↔ t ∈ bl (L.take k) /\ verErr t = 0
end Ve
end Go.Proofs.YtjbmjnbkibmkpaaGreatDoor


namespace Go.Proofs.YtjbmjnbkibmkpaaGreatDoor
open Go.RowKit
namespace Ve
end Ve
end Go.Proofs.YtjbmjnbkibmkpaaGreatDoor


namespace Go.Proofs.YtjbmjnbkibmkpaaGreatDoor
open Go.RowKit Go.Maps
namespace Ve
end Ve
end Go.Proofs.YtjbmjnbkibmkpaaGreatDoor


namespace Go.Proofs.YtjbmjnbkibmkpaaGreatDoor
open Go.RowKit
namespace Ve
theorem vcheck_is (s : ByteArray) (aT aB : Addr) (m : Int) (w : World) (hs : s.size < 4294967281) (S : Vs w aT aB m) :
  Calls Tryz.prog 16 #[.string s] w fun e w'=>e = .returned (errV aT aB (verErr s.data.toList)) /\ Below w.heap.size w w':=by
 have HC:=hid (vsplit_any s aT aB m w hs S)
 clear S
 go_enter Tryz.func16,Tryz.ntmps16
 go_wp2_with fail
 refine HC.out.mono ?_
 rintro e w1 ⟨h1,hb⟩
 have HB:=hid hb
 clear hb
 rcases h1 with ⟨h0,rfl⟩ | ⟨h0,v,X,rfl,_,hst⟩
 ·obtain ⟨a,ha⟩:=errV_ne aT aB h0
  have HE:=hid ha
  rw [ha]
  clear h0 ha
  go_wp2_with fail
  go_ret
  exact ⟨by rw [HE.out]; rfl,HB.out.alloc HB.out.size _⟩
 ·obtain ⟨p,n,c,rfl⟩:=hst.slice
  have HE:=hid (show errV aT aB (verErr s.data.toList) = .nilIface by rw [h0]; rfl)
  clear h0 hst
  go_wp2_with fail
  go_ret
  exact ⟨by rw [HE.out]; rfl,HB.out.alloc HB.out.size _⟩
def preB (s : ByteArray) : Bool:=decide (verErr s.data.toList = 0) && decide (0 < (preOf s.data.toList).length)
theorem StrsAt.len {w : World} {v : Value} {X : List ByteArray} (h : StrsAt w v X) : ∃ p c,v = .slice p X.length c:=by
 rcases h with ⟨h0,rfl⟩ | ⟨_,b,rfl,_⟩
 ·exact ⟨none,0,by rw [h0]; rfl⟩
 ·exact ⟨_,_,rfl⟩
theorem hasPre_any (s : ByteArray) (aT aB : Addr) (m : Int) (w : World) (hs : s.size < 4294967281) (S : Vs w aT aB m) :
  Calls Tryz.prog 244 #[.string s] w fun e w'=>e = .returned (.bool (preB s)) /\ Below w.heap.size w w':=by
 have HC:=hid (vsplit_any s aT aB m w hs S)
 clear S
 go_enter Tryz.func244,Tryz.ntmps244
 go_wp2_with fail
 refine HC.out.mono ?_
 rintro e w1 ⟨h1,hb⟩
 have HB:=hid hb
 clear hb
 rcases h1 with ⟨h0,rfl⟩ | ⟨h0,v,X,rfl,hX,hst⟩
 ·have HE:=hid (show preB s = false by unfold preB; rw [decide_eq_false h0]; rfl)
  obtain ⟨a,ha⟩:=errV_ne aT aB h0
  rw [ha]
  clear h0 ha
  go_wp2_with fail
  go_ret
  exact ⟨by rw [HE.out]; rfl,HB.out.alloc HB.out.size _⟩
 ·obtain ⟨p,c,rfl⟩:=hst.len
  have HE:=hid (show preB s = decide (0 < X.length) by
   unfold preB; rw [decide_eq_true h0,<- hX,bl_len]; rfl)
  clear h0 hst hX
  go_wp2_with fail
  go_ret
  refine ⟨?_,HB.out.alloc HB.out.size _⟩
  rw [HE.out]
  simp
def isP (t : ByteArray) (r : Raw) : Bool:=decide (r.1.1 = t) && decide (verErr r.1.2.data.toList = 0)
theorem ofPathK_any (t : ByteArray) (r : Raw) (hs : slR r) (hz : r.1.2.size < 999999) (aT aB : Addr) (m : Int) (b : Nat) (W : World) (S : Vs W aT aB m) (h0 : W.cell? ⟨b,0,none⟩ = some (.string t)) :
  Calls Tryz.prog 245 (#[rawV r] ++ #[.pointer (some ⟨b,0,none⟩)]) W fun e w'=>e = .returned (.bool (isP t r)) /\ Below W.heap.size W w':=by
 obtain ⟨⟨p,v⟩,rv,pv,bk⟩:=r
 obtain ⟨⟨ra,rn,rc,hrv⟩,pa,pn,pc,hpv⟩:=hs
 simp only at hrv hpv hz
 subst hrv
 subst hpv
 show Calls Tryz.prog 245 #[.agg #[.string p,.string v,.slice ra rn rc,.slice pa pn pc,.bool bk],.pointer (some ⟨b,0,none⟩)] W _
 have HI:=hid (show isP t ((p,v),.slice ra rn rc,.slice pa pn pc,bk) = (decide (p = t) && decide (verErr v.data.toList = 0)) from rfl)
 have HB0:=hid ((Below.refl W.heap.size W).alloc (Nat.le_refl _) (.cells #[.string p,.string v,.slice ra rn rc,.slice pa pn pc,.bool bk] 54))
 have c0:=cell_below HB0.out h0
 have hbb : ¬ b = W.heap.size:=by have:=lt_of_cell h0; simp at this; omega
 have hbb2 : ¬ W.heap.size = b:=fun h=>hbb h.symm
 have HS:=hid (S.below HB0.out)
 have HV:=hid (fun W' (SW : Vs W' aT aB m)=>vcheck_is v aT aB m W' (by omega) SW)
 generalize isP t ((p,v),.slice ra rn rc,.slice pa pn pc,bk) = z at *
 clear S
 by_cases h : p = t
 ·rw [decide_eq_true h,Bool.true_and] at HI
  have hq : (p.toList == t.toList) = true:=by rw [h]; exact str_refl t
  by_cases h1 : verErr v.data.toList = 0
  ·rw [decide_eq_true h1] at HI
   have hz1:=HI.out
   subst hz1
   have HE:=hid (show errV aT aB (verErr v.data.toList) = .nilIface by rw [h1]; rfl)
   rw [HE.out] at HV
   clear h h1 HI
   go_enter Tryz.func245,Tryz.ntmps245
   go_wp2_with fail
   refine (HV.out _ HS.out).mono ?_
   rintro e w1 ⟨rfl,hb⟩
   have HB:=hid (HB0.out.trans (hb.mono HB0.out.size))
   clear hb
   go_wp2_with fail
   go_ret
   exact ⟨rfl,HB.out⟩
  ·rw [decide_eq_false h1] at HI
   have hz1:=HI.out
   subst hz1
   obtain ⟨a,ha⟩:=errV_ne aT aB h1
   rw [ha] at HV
   clear h h1 HI ha
   go_enter Tryz.func245,Tryz.ntmps245
   go_wp2_with fail
   refine (HV.out _ HS.out).mono ?_
   rintro e w1 ⟨rfl,hb⟩
   have HB:=hid (HB0.out.trans (hb.mono HB0.out.size))
   clear hb
   go_wp2_with fail
   go_ret
   exact ⟨rfl,HB.out⟩
 ·rw [decide_eq_false h,Bool.false_and] at HI
  have hz1:=HI.out
  subst hz1
  have hq:=str_ne h
  clear h HI
  go_enter Tryz.func245,Tryz.ntmps245
  go_wp2_with fail
  go_ret
  exact ⟨rfl,HB0.out⟩
def shortR (L : List Raw) : Prop:=∀ r,r ∈ L -> r.1.1.size < 999999 /\ r.1.2.size < 999999
theorem shortR.filter {L : List Raw} (h : shortR L) (P : Raw -> Bool) : shortR (L.filter P):=fun r hr=>h r (List.mem_filter.1 hr).1
theorem ofPath_any (L : List Raw) (t : ByteArray) (v : Value) (aT aB : Addr) (m : Int) (w : World) (hL : L.length <= 100000) (hz : shortR L) (S : Vs w aT aB m) (hv : EsAt w v L) :
  Calls Tryz.prog 191 #[v,.string t] w fun e w'=>∃ v',e = .returned v' /\ EsAt w' v' (L.filter (isP t)) /\ Below w.heap.size w w':=by
 obtain ⟨a,c,hv1,_,hs,_⟩:=id hv
 have HB0:=hid ((Below.refl w.heap.size w).alloc (Nat.le_refl _) (.cells #[.string t] 9))
 have eg : ∀ args w,(callFunc 245 args).run Tryz.prog w = .ok (.enter 245 args) w:=enters_of Tryz.func245 (by kernel_rfl) rfl
 have HF:=hid (where_any 245 #[.pointer (some ⟨w.heap.size,0,none⟩)] (isP t) L v (w.alloc (.cells #[.string t] 9)) eg hL (hv.below HB0.out) (fun i hi W hW=>
  ofPathK_any t L[i] (hs L[i] (List.getElem_mem hi)) (hz L[i] (List.getElem_mem hi)).2 aT aB m w.heap.size W ((S.below HB0.out).below hW) (cell_below hW (by simp))))
 subst hv1
 clear hv hs eg S
 go_enter Tryz.func191,Tryz.ntmps191
 go_wp2_with fail
 refine HF.out.mono ?_
 rintro e w1 ⟨v',rfl,he,hb⟩
 obtain ⟨a1,c1,e1,_⟩:=id he
 have HE:=hid he
 have HB:=hid (HB0.out.trans (hb.mono HB0.out.size))
 subst e1
 clear hb he
 go_wp2_with fail
 go_ret
 exact ⟨_,rfl,HE.out,HB.out⟩
def isS (r : Raw) : Bool:=!r.2.2.2
def isD (r : Raw) : Bool:=!preB r.1.2
theorem bestA_any (r : Raw) (hs : slR r) (W : World) : Calls Tryz.prog 242 (#[rawV r] ++ #[]) W fun e w'=>e = .returned (.bool (isS r)) /\ Below W.heap.size W w':=by
 obtain ⟨⟨p,v⟩,rv,pv,bk⟩:=r
 obtain ⟨⟨ra,rn,rc,hrv⟩,pa,pn,pc,hpv⟩:=hs
 simp only at hrv hpv
 subst hrv
 subst hpv
 show Calls Tryz.prog 242 #[.agg #[.string p,.string v,.slice ra rn rc,.slice pa pn pc,.bool bk]] W fun e w'=>e = .returned (.bool (!bk)) /\ Below W.heap.size W w'
 have HB0:=hid ((Below.refl W.heap.size W).alloc (Nat.le_refl _) (.cells #[.string p,.string v,.slice ra rn rc,.slice pa pn pc,.bool bk] 54))
 go_enter Tryz.func242,Tryz.ntmps242
 go_wp2_with fail
 go_ret
 exact ⟨rfl,HB0.out⟩
theorem bestB_any (r : Raw) (hs : slR r) (hz : r.1.2.size < 999999) (aT aB : Addr) (m : Int) (W : World) (S : Vs W aT aB m) : Calls Tryz.prog 243 (#[rawV r] ++ #[]) W fun e w'=>e = .returned (.bool (isD r)) /\ Below W.heap.size W w':=by
 obtain ⟨⟨p,v⟩,rv,pv,bk⟩:=r
 obtain ⟨⟨ra,rn,rc,hrv⟩,pa,pn,pc,hpv⟩:=hs
 simp only at hrv hpv hz
 subst hrv
 subst hpv
 show Calls Tryz.prog 243 #[.agg #[.string p,.string v,.slice ra rn rc,.slice pa pn pc,.bool bk]] W fun e w'=>e = .returned (.bool (!preB v)) /\ Below W.heap.size W w'
 have HB0:=hid ((Below.refl W.heap.size W).alloc (Nat.le_refl _) (.cells #[.string p,.string v,.slice ra rn rc,.slice pa pn pc,.bool bk] 54))
 have HH:=hid (hasPre_any v aT aB m _ (by omega) (S.below HB0.out))
 generalize preB v = z at *
 clear S
 go_enter Tryz.func243,Tryz.ntmps243
 go_wp2_with fail
 refine HH.out.mono ?_
 rintro e w1 ⟨rfl,hb⟩
 have HB:=hid (HB0.out.trans (hb.mono HB0.out.size))
 clear hb
 go_wp2_with fail
 go_ret
 exact ⟨rfl,HB.out⟩
def bestR (L : List Raw) : List Raw:=if 0 < ((L.filter isS).filter isD).length then (L.filter isS).filter isD else if 0 < (L.filter isS).length then L.filter isS else L
theorem best_any (L : List Raw) (v : Value) (aT aB : Addr) (m : Int) (w : World) (hL : L.length <= 100000) (hz : shortR L) (S : Vs w aT aB m) (hv : EsAt w v L) :
  Calls Tryz.prog 190 #[v] w fun e w'=>∃ v',e = .returned v' /\ EsAt w' v' (bestR L) /\ Below w.heap.size w w':=by
 obtain ⟨a,c,hv1,_,hs,_⟩:=id hv
 have egA : ∀ args w,(callFunc 242 args).run Tryz.prog w = .ok (.enter 242 args) w:=enters_of Tryz.func242 (by kernel_rfl) rfl
 have egB : ∀ args w,(callFunc 243 args).run Tryz.prog w = .ok (.enter 243 args) w:=enters_of Tryz.func243 (by kernel_rfl) rfl
 have HF:=hid (where_any 242 #[] isS L v w egA hL hv (fun i hi W hW=>bestA_any L[i] (hs L[i] (List.getElem_mem hi)) W))
 have HG:=hid (fun W (SW : Vs W aT aB m) v' (hv' : EsAt W v' (L.filter isS))=>where_any 243 #[] isD (L.filter isS) v' W egB (Nat.le_trans (List.length_filter_le _ _) hL) hv' (fun i hi W' hW=>bestB_any (L.filter isS)[i] (hs _ (List.mem_filter.1 (List.getElem_mem hi)).1) (hz.filter isS _ (List.getElem_mem hi)).2 aT aB m W' (SW.below hW)))
 have HV:=hid hv
 have HS:=hid S
 subst hv1
 clear hv hs egA egB S
 go_enter Tryz.func190,Tryz.ntmps190
 go_wp2_with fail
 refine HF.out.mono ?_
 rintro e w1 ⟨v1,rfl,h1,hb⟩
 obtain ⟨a1,c1,e1,_⟩:=id h1
 have HE1:=hid h1
 have HB1:=hid hb
 subst e1
 clear hb h1
 go_wp2_with fail
 refine (HG.out w1 (HS.out.below HB1.out) _ HE1.out).mono ?_
 rintro e w2 ⟨v2,rfl,h2,hb⟩
 obtain ⟨a2,c2,e2,_⟩:=id h2
 have HE2:=hid h2
 have HB2:=hid (HB1.out.trans (hb.mono HB1.out.size))
 have HE3:=hid (HE1.out.below hb)
 subst e2
 clear hb h2
 have HR:=hid (show bestR L = if 0 < ((L.filter isS).filter isD).length then (L.filter isS).filter isD else if 0 < (L.filter isS).length then L.filter isS else L from rfl)
 clear HF HG HE1
 generalize (L.filter isS).filter isD = D at *
 generalize L.filter isS = Q at *
 by_cases p1 : 0 < D.length
 ·have q1 : (0 : Int) < (D.length : Int):=by omega
  rw [if_pos p1] at HR
  clear p1
  go_wp2_with fail
  go_ret
  exact ⟨_,rfl,by rw [HR.out]; exact HE2.out,HB2.out⟩
 ·have q1 : ¬ (0 : Int) < (D.length : Int):=by omega
  rw [if_neg p1] at HR
  by_cases p2 : 0 < Q.length
  ·have q2 : (0 : Int) < (Q.length : Int):=by omega
   rw [if_pos p2] at HR
   clear p1 p2
   go_wp2_with fail
   go_ret
   exact ⟨_,rfl,by rw [HR.out]; exact HE3.out,HB2.out⟩
  ·have q2 : ¬ (0 : Int) < (Q.length : Int):=by omega
   rw [if_neg p2] at HR
   clear p1 p2
   go_wp2_with fail
   go_ret
   exact ⟨_,rfl,by rw [HR.out]; exact HV.out.below HB2.out,HB2.out⟩
end Ve
end Go.Proofs.YtjbmjnbkibmkpaaGreatDoor


namespace Go.Proofs.YtjbmjnbkibmkpaaGreatDoor
open Go.RowKit
namespace Ve
def flat (D : List Rc) : List Value:=D.flatMap rcells
theorem flat_app (D E : List Rc) : flat (D ++ E) = flat D ++ flat E:=by simp [flat]
theorem flat_get : ∀ (D : List Rc) (j c : Nat) (hj : j < D.length) (_ : c < 4),(flat D)[j * 4 + c]? = (rcells D[j])[c]?
 | [],_,_,hj,_=>absurd hj (Nat.not_lt_zero _)
 | r :: R,0,c,_,hc=>by
  have : flat (r :: R) = rcells r ++ flat R:=rfl
  rw [this,List.getElem?_append_left (by show 0 * 4 + c < 4; omega)]
  simp
 | r :: R,j + 1,c,hj,hc=>by
  have : flat (r :: R) = rcells r ++ flat R:=rfl
  have hl : (rcells r).length = 4:=rfl
  rw [this,List.getElem?_append_right (by rw [hl]; omega),hl,show (j + 1) * 4 + c - 4 = j * 4 + c by omega]
  exact flat_get R j c (by simpa using hj) hc
structure Fd (w0 W : World) (v : Value) (D : List Rc) : Prop where
 own : W.ownsRow w0.heap.size 66 4 v D.length (flat D)
 nl : D = [] -> v = .slice none 0 0
 bl : Below w0.heap.size w0 W
 rc : ∀ r,r ∈ D -> verErr r.1 = 0 /\ r.1.length <= 80 /\ StrsAt W r.2 (strs (preOf r.1))
theorem Fd.below {w0 W W' : World} {v : Value} {D : List Rc} (h : Fd w0 W v D) (hb : Below W.heap.size W W') : Fd w0 W' v D:=
 ⟨owns_below h.own hb,h.nl,h.bl.trans (hb.mono h.bl.size),fun r hr=>⟨(h.rc r hr).1,(h.rc r hr).2.1,(h.rc r hr).2.2.below hb⟩⟩
theorem own_cells {w : World} {base : Nat} {e : TypeId} {v : Value} {D : List Rc} (h : w.ownsRow base e 4 v D.length (flat D)) (hD : D ≠ []) : ∃ g cap,v = .slice (some ⟨g,0,none⟩) D.length cap /\ base <= g /\ g < w.heap.size /\ D.length <= cap /\ cap <= maxLen /\ (∀ o,w.frozen? ⟨g,o,none⟩ = false) /\
  ∀ j c (hj : j < D.length) (_ : c < 4),w.cell? ⟨g,j * 4 + c,none⟩ = (rcells D[j])[c]?:=by
 obtain ⟨_,⟨_,hn0⟩ | ⟨g,cap,cur,hv,hg,hblk,hcap,hcm,hcs,hct⟩⟩:=h
 ·exact absurd (List.length_eq_zero_iff.1 hn0) hD
 ·refine ⟨g,cap,hv,hg,lt_of_blk hblk,hcap,hcm,fun o=>by simp [World.frozen?,hblk],fun j c hj hc=>?_⟩
  have h1:=flat_get D j c hj hc
  rw [<- hct,List.getElem?_take,if_pos (by omega)] at h1
  simp only [World.cell?,hblk]
  rw [<- h1]; simp
theorem own_apart {w : World} {base : Nat} {e : TypeId} {v : Value} {D : List Rc} (h : w.ownsRow base e 4 v D.length (flat D)) (hnl : D = [] -> v = .slice none 0 0) {p : Value} {X : List ByteArray} (hs : StrsAt w p X) : ∀ b o s n c,p = .slice (some ⟨b,o,s⟩) n c -> v.ownBlock ≠ some b:=by
 intro b o s n c hp hv
 by_cases hD : D = []
 ·rw [hnl hD] at hv; cases hv
 ·obtain ⟨g,cap,hvv,_,_,_,_,_,hc⟩:=own_cells h hD
  rw [hvv] at hv
  have hgb : g = b:=by simpa [Value.ownBlock] using hv
  rcases hs with ⟨_,h0⟩ | ⟨hX,b',h1,_,h3⟩
  ·rw [h0] at hp; cases hp
  ·rw [h1] at hp
   have hbb : b' = b:=by injection hp with hp _ _; injection hp with hp; injection hp with hp _ _
   have h4:=h3 0 (List.length_pos_iff.2 hX)
   have h5:=hc 0 0 (List.length_pos_iff.2 hD) (by omega)
   rw [hbb,<- hgb] at h4
   rw [show 0 * 4 + 0 = 0 + 0 from rfl,h4] at h5
   simp [rcells] at h5
theorem Fd.rw {w0 W : World} {v : Value} {D : List Rc} (h : Fd w0 W v D) (hD : D ≠ []) : ∃ g cap,v = .slice (some ⟨g,0,none⟩) D.length cap /\ Rw w0 W g D:=by
 obtain ⟨g,cap,rfl,h1,h2,_,_,h5,h6⟩:=own_cells h.own hD
 refine ⟨g,cap,rfl,h.bl,h1,h2,h5,fun r hr=>⟨(h.rc r hr).1,(h.rc r hr).2.1,(h.rc r hr).2.2,fun b o s n c e=>?_⟩,fun j hj=>h6 j 0 hj (by omega),fun j hj=>h6 j 1 hj (by omega),fun j hj=>h6 j 2 hj (by omega),fun j hj=>h6 j 3 hj (by omega)⟩
 have:=own_apart h.own h.nl (h.rc r hr).2.2 b o s n c e
 intro e2
 exact this (by simp [Value.ownBlock,e2])
theorem strs_grown {w w' : World} {row : Option Nat} {p : Value} {X : List ByteArray} (h : StrsAt w p X) (hg : w.grownBy w' row) (hne : ∀ b o s n c,p = .slice (some ⟨b,o,s⟩) n c -> row ≠ some b) : StrsAt w' p X:=by
 rcases h with h | ⟨hX,b,h1,h2,h3⟩
 ·exact Or.inl h
 ·refine Or.inr ⟨hX,b,h1,Nat.lt_of_lt_of_le h2 hg.size,fun j hj=>?_⟩
  have:=hg.block b h2 (fun e=>hne b 0 none _ _ h1 e.symm)
  rw [World.cell?_of_block (a:=⟨b,0 + j,none⟩) this]
  exact h3 j hj
theorem Fd.more {w0 W W3 : World} {v v' : Value} {D : List Rc} {r : Rc} {o : Obj} (h : Fd w0 W v D) (hr : verErr r.1 = 0 /\ r.1.length <= 80 /\ StrsAt W r.2 (strs (preOf r.1)))
  (hown : W3.ownsRow w0.heap.size 66 4 v' (D.length + 1) (flat D ++ rcells r)) (hg : (W.alloc o).grownBy W3 v.ownBlock) : Fd w0 W3 v' (D ++ [r]):=by
 have ha:=(Below.refl W.heap.size W).alloc (Nat.le_refl _) o
 have h':=h.below ha
 have hr' : StrsAt (W.alloc o) r.2 (strs (preOf r.1)):=hr.2.2.below ha
 have e1 : flat (D ++ [r]) = flat D ++ rcells r:=by rw [flat_app]; simp [flat]
 refine ⟨?_,fun e=>by simp at e,?_,fun q hq=>?_⟩
 ·rw [e1,List.length_append]; exact hown
 ·exact h'.bl.grown hg h'.bl.size (fun k hk=>(h'.own.lt k hk).1)
 ·rcases List.mem_append.1 hq with hq | hq
  ·have hq':=h'.rc q hq
   exact ⟨hq'.1,hq'.2.1,strs_grown hq'.2.2 hg (own_apart h'.own h'.nl hq'.2.2)⟩
  ·rw [List.mem_singleton.1 hq]
   exact ⟨hr.1,hr.2.1,strs_grown hr' hg (own_apart h'.own h'.nl hr')⟩
end Ve
end Go.Proofs.YtjbmjnbkibmkpaaGreatDoor
