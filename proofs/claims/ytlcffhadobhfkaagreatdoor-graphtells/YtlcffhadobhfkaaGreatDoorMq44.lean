/-
  ShelfV GtA GrB GrG GrH GtB GrI GtD
-/
import Derived.Test.YtlcffhadobhfkaaGreatDoorMq2
import Derived.Test.YtlcffhadobhfkaaGreatDoorMq43
import Derived.Test.YtlcffhadobhfkaaGreatDoorMq6
import Derived.Test.YtlcffhadobhfkaaGreatDoorMq39
import Derived.Test.YtlcffhadobhfkaaGreatDoorMq9
import Derived.Test.YtlcffhadobhfkaaGreatDoorMq19
import Derived.Test.YtlcffhadobhfkaaGreatDoorMq5
import Derived.Test.YtlcffhadobhfkaaGreatDoorMq11
import Derived.Test.YtlcffhadobhfkaaGreatDoorMq18
import Derived.Test.YtlcffhadobhfkaaGreatDoorMq20
import Derived.Test.YtlcffhadobhfkaaGreatDoorMq23
import Derived.Test.YtlcffhadobhfkaaGreatDoorMq22
import Derived.Test.YtlcffhadobhfkaaGreatDoorMq3
import Derived.Test.YtlcffhadobhfkaaGreatDoorMq34
import Derived.Test.YtlcffhadobhfkaaGreatDoorMq45
import Derived.Test.YtlcffhadobhfkaaGreatDoorMq15
namespace Go.Proofs
open Go.Shelf
def Tryz.revMods_ren : Go.Shelf.Ren:=⟨fun | 35=>69 | n=>n,fun | 22=>23 | 23=>25 | 3=>3 | 4=>4 | 0=>0 | n=>n,fun | n=>n⟩
theorem Tryz.revMods : Go.Proofs.SlLaysE0.n35 Tryz.prog Tryz.revMods_ren:={
  mixed:=by kernel_rfl
  f35:=⟨Tryz.f69.name,by decide,Tryz.func69.trans (congrArg some (by kernel_rfl))⟩
  t0:=Tryz.underlying0
  a0:=Tryz.isAgg0
  z0:=Tryz.sizeOf0
  v0:=Tryz.zeroValue0
  t3:=Tryz.underlying3
  a3:=Tryz.isAgg3
  z3:=Tryz.sizeOf3
  v3:=Tryz.zeroValue3
  t4:=Tryz.underlying4
  a4:=Tryz.isAgg4
  z4:=Tryz.sizeOf4
  v4:=Tryz.zeroValue4
  t22:=Tryz.underlying23
  a22:=Tryz.isAgg23
  z22:=Tryz.sizeOf23
  v22:=Tryz.zeroValue23 }
end Go.Proofs
namespace Go.Proofs.YtlcffhadobhfkaaGreatDoor
namespace Ve
theorem Fr.turn {req : Bm → List Bm} {U roots : List Bm} {n : Nat} {F : List Nat} (h : Fr req U roots n U.length F) (hn : 1 ≤ n) (hN : U.Nodup) (hU : ∀ m, Rch req roots m → m ∈ U) : Fr req U roots (n + 1) 0 F := by
  refine ⟨h.ln,h.so,fun j hj=>Nat.le_succ_of_le (h.bd j hj),fun d j hj hj' hd hw=>?_,fun _ _ _ hh=>absurd hh (Nat.not_lt_zero _)⟩
  rcases Nat.lt_or_ge n d with h1 | h1
  · have : d = n + 1:=by omega
    subst this
    generalize hm : U[j] = m at hw
    cases hw with
    | root hr=>omega
    | @step _ p _ hp hr=>
      obtain ⟨k,hk,rfl⟩:=List.getElem_of_mem (hU p hp.rch)
      have hk' : k < F.length:=by rw [h.ln]; exact hk
      obtain ⟨q1,q2⟩:=h.lo n k hk hk' (Nat.le_refl _) hp
      rcases Nat.lt_or_ge F[k] n with h2 | h2
      · have:=h.lo (F[k] + 1) j hj hj' h2 (by rw [hm]; exact .step (h.so k hk hk' q1) hr)
        exact ⟨this.1,by omega⟩
      · obtain ⟨a,ha,ha',e1,e2⟩:=h.dn k hk hk' hk (by omega) m hr
        have hp2:=List.pairwise_iff_getElem.1 hN
        have : a = j:=by
          rcases Nat.lt_trichotomy a j with h1 | h1 | h1
          · exact absurd (e1.trans hm.symm) (hp2 a j ha hj h1)
          · exact h1
          · exact absurd (hm.trans e1.symm) (hp2 j a hj ha h1)
        subst this
        exact ⟨e2,h.bd a ha'⟩
  · exact h.lo d j hj hj' h1 hw
theorem Fr.dst {req : Bm -> List Bm} {U roots : List Bm} {n i : Nat} {F : List Nat} (h : Fr req U roots n i F) (hn : U.length <= n) (hU : ∀ m,Rch req roots m -> m ∈ U) {j : Nat} (hj : j < U.length) (hj' : j < F.length) (e : F[j] ≠ 0) : Dst req roots U[j] F[j]:=by
  have hw:=h.so j hj hj' e
  obtain ⟨d,hd⟩:=wn_dst _ hw
  have:=(h.lo d j hj hj' (Nat.le_trans (hd.le hU) hn) hd.1).2
  have h2:=hd.2 _ hw
  rw [show F[j] = d by omega]
  exact hd
open Go.RowKit Go.Maps
theorem datB_at {T : By} (hT : szT T) (hn : (whoT T).Nodup) {k : Nat} (hk : k < T.length) (z : DataW Bm) : (datB T).atKey (kL T[k].1) z = .held T[k].2 := by
  suffices ∀ (T : By) (D : DataW Bm),IsMap D -> szT T -> (whoT T).Nodup -> ∀ k (hk : k < T.length),(T.foldl (fun D x=>D.put (kL x.1) (.held x.2)) D).atKey (kL T[k].1) z = .held T[k].2 from this T _ isMap_empty hT hn k hk
  clear hT hn hk
  intro T
  induction T with
  | nil=>intro D _ _ _ k hk; simp at hk
  | cons x r ih=>
    intro D hD hs hn k hk
    have hn2 : (x.1 :: whoT r).Nodup:=hn
    obtain ⟨n1,n2⟩:=List.nodup_cons.1 hn2
    rw [List.foldl_cons]
    cases k with
    | succ k=>
      simp only [List.getElem_cons_succ]
      exact ih _ (hD.put _ _) (fun y hy=>hs y (List.mem_cons_of_mem _ hy)) n2 k (by simpa using hk)
    | zero=>
      simp only [List.getElem_cons_zero]
      have hx:=hs x (by simp)
      have : ∀ (r : By) (D : DataW Bm),szT r -> x.1 ∉ whoT r -> (r.foldl (fun D x=>D.put (kL x.1) (.held x.2)) D).atKey (kL x.1) z = D.atKey (kL x.1) z:=by
        intro r
        induction r with
        | nil=>intro D _ _; rfl
        | cons y r ih2=>
          intro D hs2 hn3
          have hy:=hs2 y (by simp)
          rw [List.foldl_cons,ih2 _ (fun y hy=>hs2 y (List.mem_cons_of_mem _ hy)) (fun h=>hn3 (List.mem_cons_of_mem _ h))]
          exact atKey_put_other (fun he=>hn3 (by rw [kL_inj hx.1 hx.2 hy.1 hy.2 he]; simp [whoT])) _ _
      rw [this r _ (fun y hy=>hs y (List.mem_cons_of_mem _ hy)) n1]
      exact atKey_put_same hD (kL_key _) _ _
open Go.Sort Go.Lib
def encM (m : Bm) : List Value:=[.string m.1,.string m.2]
theorem grownBy_rowK {w : World} {g n : Nat} (d : Array Bm) : w.grownBy (putRowK encM 2 (Sort.ahead w n) g 0 d) (some g):=by
  refine ⟨rfl,rfl,rfl,by simp [putRowK,Sort.putRow,Sort.mapBlock,Sort.ahead],fun k hk hne=>?_⟩
  have : g ≠ k:=fun e=>hne (by rw [e])
  simp [putRowK,Sort.putRow,Sort.mapBlock,Sort.ahead,Array.getElem?_modify,this]
theorem holds_own {w : World} {B cap g : Nat} {Y : List Bm} (h : w.ownsRow B 25 2 (.slice (some ⟨g,0,none⟩) Y.length cap) Y.length (flatM Y)) : HoldsK encM 2 w g 0 Y.toArray:=by
  obtain ⟨_,⟨hv,_⟩ | ⟨g',cap',cur,hv,hg,hblk,hcap,hcm,hcs,hct⟩⟩:=h
  · cases hv
  · injection hv with e1 e2 e3
    injection e1 with e1
    injection e1 with e1
    subst e1
    intro j hj
    have hj2 : j < Y.length * 2:=by simpa using hj
    have h1:=flatM_get Y (j / 2) (j % 2) (by omega) (by omega)
    rw [show j / 2 * 2 + j % 2 = j by omega,<- hct,List.getElem?_take,if_pos hj2] at h1
    refine ⟨?_,by simp [World.frozen?,hblk]⟩
    rw [get_flatK encM 2 Y.toArray j (by simpa using hj)]
    have hd : j / 2 < Y.length:=by omega
    simp only [World.cell?,hblk,Nat.zero_add]
    have h2 : cur[j]? = cur.toList[j]?:=by simp
    rw [h2,h1]
    have e3 : Y.toArray[j / 2]! = Y[j / 2]:=by simp [hd]
    rw [e3]
    rcases Nat.mod_two_eq_zero_or_one j with e | e
    · rw [e]; rfl
    · rw [e]; rfl
theorem rev_any (Y : List Bm) (g cap B : Nat) (w : World) (hn : Y.length <= 1000000) (h : w.ownsRow B 25 2 (.slice (some ⟨g,0,none⟩) Y.length cap) Y.length (flatM Y)) :
    Calls Tryz.prog 69 #[.slice (some ⟨g,0,none⟩) Y.length cap] w fun e w'=>e = .returned (.tuple #[]) /\ MsAt w' (.slice (some ⟨g,0,none⟩) Y.length cap) Y.reverse /\ w.grownBy w' (some g):=by
  have hH:=holds_own h
  have hc : Y.length <= cap:=by
    obtain ⟨_,⟨hv,_⟩ | ⟨g',cap',cur,hv,hg,hblk,hcap,hcm,hcs,hct⟩⟩:=h
    · cases hv
    · injection hv with e1 e2 e3
      omega
  have hR:=AnyQ.slices_Reverse Tryz.revMods 2 Tryz.isAgg25 Tryz.sizeOf25 encM (fun _=>rfl) (fun x v hv=>by simp [encM] at hv; rcases hv with rfl | rfl <;> rfl) g 0 cap Y.toArray w hH (by simp; omega)
  have hsz : Y.toArray.size = Y.length:=by simp
  rw [hsz] at hR
  refine hR.mono ?_
  rintro e w' ⟨h1,n,rfl⟩
  refine ⟨h1,⟨some ⟨g,0,none⟩,cap,by rw [List.length_reverse],by rw [List.length_reverse]; exact hc,fun _=>⟨g,0,rfl,fun j hj=>?_⟩⟩,grownBy_rowK _⟩
  have hK:=holdsK_putRowK encM 2 (Sort.ahead w n) g 0 Y.toArray Y.toArray.reverse (holdsK_ahead encM 2 w n g 0 Y.toArray hH) (by simp)
  have hj2 : j < Y.toArray.reverse.size:=by simpa using hj
  have e1 : Y.toArray.reverse[j]! = Y.reverse[j]:=by
    have : Y.toArray.reverse = Y.reverse.toArray:=by simp
    rw [this,getElem!_pos Y.reverse.toArray j (by simpa using hj)]
    rfl
  have c0:=(hK.cell (i:=j) (c:=0) hj2 (by omega)).1
  have c1:=(hK.cell (i:=j) (c:=1) hj2 (by omega)).1
  rw [e1] at c0 c1
  exact ⟨by simpa [encM] using c0,by simpa [encM] using c1⟩
theorem look_at {w : World} {b : Nat} {T : By} (h : ByAt w b T) (hT : szT T) (hn : (whoT T).Nodup) {k : Nat} (hk : k < T.length) :
    (Instr.lookup 86 (.map (some b)) (.agg #[.string T[k].1.1,.string T[k].1.2]) false).run Tryz.prog w = .ok (.agg #[.string T[k].2.1,.string T[k].2.2]) w:=by
  have hs:=hT T[k] (List.getElem_mem hk)
  obtain ⟨v,ps,hrun,hv⟩:=World.ownsMap.lookup h modKey Tryz.underlying86 (zeroMod w) (rB_mod _) (keyOf_mod T[k].1 hs.1 hs.2)
  rw [datB_at hT hn hk] at hv
  obtain rfl:=rB_inv hv
  exact hrun
theorem univ_sz {L : List Ent} (sh : ∀ e,e ∈ L -> ShE e) : ∀ m,m ∈ univ L -> m.1.size <= maxLen /\ m.2.size <= maxLen:=fun m hm=>by
  obtain ⟨e,he,rfl⟩:=List.mem_map.1 hm
  have:=sh e he
  exact ⟨by have:=this.p; unfold maxLen; omega,by have:=this.v; unfold maxLen; omega⟩
set_option maxRecDepth 100000 in
set_option maxHeartbeats 2000000 in
theorem way_none (Q : List Raw) (L : List Ent) (roots : List Bm) (x : Bm) (v rv : Value) (A : Nat -> Addr) (m : Int) (w : World) (hn : L.length <= 1000) (hrn : roots.length <= 1000000) (sh : ∀ e,e ∈ L -> ShE e) (S : Te w A m) (I : Ixs w v Q L) (hr : MsAt w rv roots) (h0 : (chkG Q L roots).1 = 0) (hx : x.1.size <= maxLen /\ x.2.size <= maxLen) (hno : ¬ Rch (reqQ Q L) roots x) :
    Calls Tryz.prog 26 #[v,rv,.agg #[.string x.1,.string x.2]] w fun e w'=>∃ a,e = .returned (.tuple #[.slice none 0 0,.iface 319 (.pointer (some a))]) /\ a = A 4 /\ Below w.heap.size w w':=by
  have rg:=rgt_of I h0
  have hBa:=(Below.refl w.heap.size w).alloc (Nat.le_refl _) (.cells #[.string x.1,.string x.2] 25)
  have HBa:=hid hBa
  have HCK:=hid (gcheck_any Q L roots v rv A m _ hn hrn sh (S.below hBa) (I.below hBa) (hr.below hBa))
  have HWK:=hid (fun W (h : Below w.heap.size w W)=>walk_any Q L roots v rv W hn hrn (I.below h) (hr.below h) (univ_sz sh) (fun e he=>(sh e he).rn) rg.r (chk_reqs0 I rg.c))
  have HG4:=hid (fun W (h : Below w.heap.size w W)=>(S.below h).sen.g4)
  obtain ⟨a,c,hv,-⟩:=id I.es
  subst hv
  obtain ⟨ra,rc,hrv,-⟩:=id hr
  subst hrv
  have HH0:=hid h0
  have HX:=hid hx
  have HNO:=hid hno
  clear S I hr sh h0 hx hno rg hBa
  go_enter Tryz.func26,Tryz.ntmps26
  go_wp2_with fail
  refine HCK.out.mono ?_
  rintro e w1 ⟨y,rfl,he,hb⟩
  have HB1:=hid (HBa.out.trans (hb.mono (by simp)))
  have hy : y = .nilIface:=by
    rcases he.kind with ⟨_,h⟩ | ⟨h,_⟩
    · exact h
    · exact absurd HH0.out h
  subst hy
  have e0 : w1.heap[w.heap.size]? = some (.cells #[.string x.1,.string x.2] 25 (0,0)):=by rw [hb.block _ (by simp)]; exact heap_new w _
  have HE0:=hid e0
  clear hb he HCK e0
  go_wp2_with fail
  refine (HWK.out w1 HB1.out).mono ?_
  rintro e w2 ⟨mb,rfl,T,hby,hsz,hcm,hb⟩
  have HB2:=hid (HB1.out.trans (hb.mono HB1.out.size))
  have HCA:=hid (came_any mb T x w2 HX.out hsz hby)
  have hcb : cameB T x = false:=by
    cases h : cameB T x with
    | false=>rfl
    | true=>exact absurd ((hcm.cameB x).1 h) HNO.out
  rw [hcb] at HCA
  have e2 : w2.heap[w.heap.size]? = some (.cells #[.string x.1,.string x.2] 25 (0,0)):=(hb.block _ (lt_of_blk HE0.out)).trans HE0.out
  have x0 : w2.cell? ⟨w.heap.size,0,none⟩ = some (.string x.1):=by rw [Lib.cell_of_heap e2]; rfl
  have x1 : w2.cell? ⟨w.heap.size,1,none⟩ = some (.string x.2):=by rw [Lib.cell_of_heap e2]; rfl
  clear hby hsz hcm hb hcb e2 HWK
  go_wp2_with fail
  refine HCA.out.mono ?_
  rintro e w3 ⟨rfl,hb⟩
  have HB3:=hid (HB2.out.trans (hb.mono HB2.out.size))
  have g4:=HG4.out w3 HB3.out
  clear hb
  go_wp2_with fail
  go_quiet (fail)
  go_wp2_with fail
  go_ret2
  exact ⟨_,rfl,rfl,below_drawn_of HB3.out _⟩
theorem modNeq_ne {m f : Bm} (h : m ≠ f) (W : World) : (binOp .neq 25 (.agg #[.string m.1,.string m.2]) (.agg #[.string f.1,.string f.2])).run Tryz.prog W = .ok (.bool true) W:=by
  rw [modNeq,decide_eq_false (fun e=>h (Prod.ext e.1 e.2))]; rfl
theorem putM_owns {W : World} {b n : Nat} {e : TypeId} {v : Value} {xs : List Value} (m : Bm) (h : W.ownsRow (b + 1) e 2 v n xs) : (putM W b m).ownsRow (b + 1) e 2 v n xs:=by
  have hne : v.ownBlock ≠ some b:=fun hh=>by have:=(h.lt b hh).1; omega
  exact owns_set (owns_set h hne) hne
set_option maxRecDepth 100000 in
set_option maxHeartbeats 2000000 in
theorem way_some (Q : List Raw) (L : List Ent) (roots : List Bm) (x : Bm) (v rv : Value) (A : Nat → Addr) (m : Int) (w : World) (hn : L.length ≤ 1000) (hrn : roots.length ≤ 1000000) (sh : ∀ e, e ∈ L → ShE e) (S : Te w A m) (I : Ixs w v Q L) (hr : MsAt w rv roots) (h0 : (chkG Q L roots).1 = 0) (hx : x.1.size ≤ maxLen ∧ x.2.size ≤ maxLen) (hrc : Rch (reqQ Q L) roots x) :
    Calls Tryz.prog 26 #[v,rv,.agg #[.string x.1,.string x.2]] w fun e w'=>∃ u,e = .returned (.tuple #[u,.nilIface]) /\ ∃ Y,MsAt w' u Y /\ WayOk (reqQ Q L) (univ L) roots x Y /\ Y.length <= 1000 /\ Below w.heap.size w w':=by
  obtain ⟨i0,hi0,hz0,hz1,hz2⟩:=info_parts infoMod
  have rg:=rgt_of I h0
  have hBa:=(Below.refl w.heap.size w).alloc (Nat.le_refl _) (.cells #[.string x.1,.string x.2] 25)
  have HBa:=hid hBa
  have HCK:=hid (gcheck_any Q L roots v rv A m _ hn hrn sh (S.below hBa) (I.below hBa) (hr.below hBa))
  have HWK:=hid (fun W (h : Below w.heap.size w W)=>walk_any Q L roots v rv W hn hrn (I.below h) (hr.below h) (univ_sz sh) (fun e he=>(sh e he).rn) rg.r (chk_reqs0 I rg.c))
  obtain ⟨a,c,hv,-⟩:=id I.es
  subst hv
  obtain ⟨ra,rc,hrv,-⟩:=id hr
  subst hrv
  have HH0:=hid h0
  have HX:=hid hx
  have HRC:=hid hrc
  have hgd:=modGuard
  clear S I hr sh h0 hx hrc rg hBa
  go_enter Tryz.func26,Tryz.ntmps26
  go_wp2_with fail
  refine HCK.out.mono ?_
  rintro e w1 ⟨y,rfl,he,hb⟩
  have HB1:=hid (HBa.out.trans (hb.mono (by simp)))
  have hy : y = .nilIface:=by
    rcases he.kind with ⟨_,h⟩ | ⟨h,_⟩
    · exact h
    · exact absurd HH0.out h
  subst hy
  have e0 : w1.heap[w.heap.size]? = some (.cells #[.string x.1,.string x.2] 25 (0,0)):=by rw [hb.block _ (by simp)]; exact heap_new w _
  have HE0:=hid e0
  clear hb he HCK e0
  go_wp2_with fail
  refine (HWK.out w1 HB1.out).mono ?_
  rintro e w2 ⟨mb,rfl,T,hby,hsz,hcm,hb⟩
  have HB2:=hid (HB1.out.trans (hb.mono HB1.out.size))
  have HCA:=hid (came_any mb T x w2 HX.out hsz hby)
  rw [(hcm.cameB x).2 HRC.out] at HCA
  have HBY:=hid hby
  have HSZ:=hid hsz
  have HCM:=hid hcm
  have e2 : w2.heap[w.heap.size]? = some (.cells #[.string x.1,.string x.2] 25 (0,0)):=(hb.block _ (lt_of_blk HE0.out)).trans HE0.out
  have HE2:=hid e2
  have x0 : w2.cell? ⟨w.heap.size,0,none⟩ = some (.string x.1):=by rw [Lib.cell_of_heap e2]; rfl
  have x1 : w2.cell? ⟨w.heap.size,1,none⟩ = some (.string x.2):=by rw [Lib.cell_of_heap e2]; rfl
  clear hby hsz hcm hb e2 HWK
  go_wp2_with fail
  refine HCA.out.mono ?_
  rintro e w3 ⟨rfl,hb⟩
  have HB3:=hid (HB2.out.trans (hb.mono HB2.out.size))
  have HBY3:=hid (HBY.out.below hb)
  have e3 : w3.heap[w.heap.size]? = some (.cells #[.string x.1,.string x.2] 25 (0,0)):=(hb.block _ (lt_of_blk HE2.out)).trans HE2.out
  have HE3:=hid e3
  have y0 : w3.cell? ⟨w.heap.size,0,none⟩ = some (.string x.1):=by rw [Lib.cell_of_heap e3]; rfl
  have y1 : w3.cell? ⟨w.heap.size,1,none⟩ = some (.string x.2):=by rw [Lib.cell_of_heap e3]; rfl
  clear hb e3 x0 x1 HCA
  go_wp2_with fail
  have HST:=hid (show ∃ V k,V.length = 1 /\ Wst w (w3.alloc (.cells #[.string x.1,.string x.2] 25)) (reqQ Q L) T x mb (.slice (some ⟨w3.heap.size,0,none⟩) 1 1) k V from by
    obtain ⟨k,hk,ek⟩:=whoT_mem.1 (cameB_iff.1 ((HCM.out.cameB x).2 HRC.out))
    have hBb:=(Below.refl w3.heap.size w3).alloc (Nat.le_refl _) (.cells #[.string x.1,.string x.2] 25)
    refine ⟨[x],k,rfl,HB3.out.trans (hBb.mono HB3.out.size),?_,by simp; omega,⟨hk,?_⟩,HBY3.out.below hBb,?_⟩
    · rw [List.reverse_singleton,<- ek]; exact Wy.start hk
    · rw [ek]; exact (hBb.block _ (lt_of_blk HE3.out)).trans HE3.out
    · exact ⟨rfl,Or.inr ⟨w3.heap.size,1,#[.string x.1,.string x.2],rfl,lt_of_blk HE3.out,heap_new w3 _,Nat.le_refl _,by unfold maxLen; omega,rfl,rfl⟩⟩)
  generalize w3.alloc (.cells #[.string x.1,.string x.2] 25) = w4 at *
  generalize (some ⟨w3.heap.size,0,none⟩ : Option Addr) = sa0 at *
  have HTL:=hid (show T.length <= 1000 by have:=HCM.out.b.len; rw [univ_len] at this; omega)
  clear y0 y1
  go_loopw [10] (fun yv wr=>∃ (sa : Option Addr) (n sc : Nat),yv = .slice sa n sc /\ Hid (∃ V k,V.length = n /\ Wst w wr (reqQ Q L) T x mb (.slice sa n sc) k V)) (fun yv _=>T.length + 1 - lenOf yv)
  case atStart=>exact ⟨sa0,1,1,rfl,HST⟩
  case round=>
    obtain ⟨sa,n,sc,rfl,HS⟩:=hrel
    obtain ⟨V,k,hVn,hst⟩:=HS.out
    have HVN:=hid hVn
    have HW:=hid hst
    obtain ⟨hk,hxc⟩:=hst.xc
    have xx0 : wr.cell? ⟨w.heap.size,0,none⟩ = some (.string T[k].1.1):=by rw [Lib.cell_of_heap hxc]; rfl
    have xx1 : wr.cell? ⟨w.heap.size,1,none⟩ = some (.string T[k].1.2):=by rw [Lib.cell_of_heap hxc]; rfl
    have hlk0 : ∀ q,(Instr.lookup 86 (.map (some mb)) (.agg #[.string T[k].1.1,.string T[k].1.2]) false).run Tryz.prog (wr.drewN q) = .ok (.agg #[.string T[k].2.1,.string T[k].2.2]) (wr.drewN q):=fun q=>look_at (hst.mp.below (below_drawn _ q)) HSZ.out HCM.out.b.nd hk
    have hne0:=fun W=>modNeq T[k].1.1 T[k].1.2 T[k].2.1 T[k].2.2 W
    have HXC:=hid hxc
    have HBY:=hid (HCM.out.b.by_ k hk)
    have HOK:=hid (fun e=>hst.ok HCM.out hk e)
    have HMO:=hid (fun (W w6 : World) (yv' : Value) (o : Obj) (h : Wst w W (reqQ Q L) T x mb (.slice sa n sc) k V) j hj e1 e2 hown hg=>Wst.more (w6:=w6) (yv':=yv') (o:=o) h hk (j:=j) hj e1 e2 hown hg)
    have HKL:=hid hk
    by_cases hsame : T[k].1 = T[k].2
    · have HOK2:=hid (HOK.out hsame)
      rw [decide_eq_true ⟨congrArg Prod.fst hsame,congrArg Prod.snd hsame⟩] at hne0
      simp only [Bool.not_true] at hne0
      have hV0 : 0 < n:=by have:=HOK2.out.pos; rw [List.length_reverse,HVN.out] at this; exact this
      have HR0:=hid hst.row
      clear hsame hst hxc hVn HMO HBY HOK HXC
      obtain ⟨p1,p2,f1,f2,x0,x1,hlk,hne⟩ : ∃ p1 p2 f1 f2,wr.cell? ⟨w.heap.size,0,none⟩ = some (.string p1) /\ wr.cell? ⟨w.heap.size,1,none⟩ = some (.string p2) /\ (∀ q,(Instr.lookup 86 (.map (some mb)) (.agg #[.string p1,.string p2]) false).run Tryz.prog (wr.drewN q) = .ok (.agg #[.string f1,.string f2]) (wr.drewN q)) /\ ∀ W,(binOp .neq 25 (.agg #[.string p1,.string p2]) (.agg #[.string f1,.string f2])).run Tryz.prog W = .ok (.bool false) W:=⟨_,_,_,_,xx0,xx1,hlk0,hne0⟩
      clear xx0 xx1 hlk0 hne0
      go_wp2_with fail
      go_quiet (fail)
      have HW5:=hid (HW.out.below (below_drawn _ nq))
      generalize wr.drewN nq = w5 at *
      obtain ⟨g,cap,hg⟩ : ∃ g cap,(Value.slice sa n sc) = .slice (some ⟨g,0,none⟩) n cap:=by
        obtain ⟨_,⟨h1,h2⟩ | ⟨g,cap,cur,q1,_⟩⟩:=HR0.out
        · rw [HVN.out] at h2; omega
        · rw [HVN.out] at q1; exact ⟨g,cap,q1⟩
      injection hg with hg1 _ hg3
      subst hg1
      subst hg3
      have HRV:=hid (rev_any V g sc (w.heap.size + 1) w5 (by have:=HVN.out; have:=HW.out.ln; have:=HTL.out; omega) (by rw [HVN.out]; have:=HW5.out.row; rw [HVN.out] at this; exact this))
      rw [HVN.out] at HRV
      go_wp2_with fail
      refine HRV.out.mono ?_
      rintro e w6 ⟨rfl,hms,hgr⟩
      have HMS:=hid hms
      have HB6:=hid (show Below w.heap.size w w6 from HW5.out.bl.grown hgr HW5.out.bl.size (fun q hq=>by cases hq; have:=(HW5.out.row.lt g rfl).1; omega))
      have HYL:=hid (show V.reverse.length <= 1000 by rw [List.length_reverse]; have:=HW.out.ln; have:=HTL.out; omega)
      clear hms hgr
      go_wp2_with fail
      go_ret2
      exact ⟨_,rfl,V.reverse,HMS.out,HOK2.out,HYL.out,HB6.out⟩
    · have hne1:=fun W=>modNeq_ne hsame W
      obtain ⟨j,hj,e1,e2⟩ : ∃ j,∃ hj : j < k,(T[j]'(Nat.lt_trans hj hk)).1 = T[k].2 /\ T[k].1 ∈ reqQ Q L T[k].2:=by
        rcases HBY.out with h | h
        · exact absurd h.1 hsame
        · exact h
      have HMO2:=hid (fun (W w6 : World) (yv' : Value) (o : Obj) (h : Wst w W (reqQ Q L) T x mb (.slice sa n sc) k V) hown hg=>HMO.out W w6 yv' o h j hj e1 e2 hown hg)
      clear hst hVn HMO HBY HOK e1 e2
      have HRB:=hid (fun W (h : Wst w W (reqQ Q L) T x mb (.slice sa n sc) k V)=>h.xc)
      obtain ⟨f,p1,p2,x0,x1,hlk,hne,hmo⟩ : ∃ (f : Bm) (p1 p2 : ByteArray),wr.cell? ⟨w.heap.size,0,none⟩ = some (.string p1) /\ wr.cell? ⟨w.heap.size,1,none⟩ = some (.string p2) /\ (∀ q,(Instr.lookup 86 (.map (some mb)) (.agg #[.string p1,.string p2]) false).run Tryz.prog (wr.drewN q) = .ok (.agg #[.string f.1,.string f.2]) (wr.drewN q)) /\ (∀ W,(binOp .neq 25 (.agg #[.string p1,.string p2]) (.agg #[.string f.1,.string f.2])).run Tryz.prog W = .ok (.bool true) W) /\
        (∀ (W w6 : World) (yv' : Value) (o : Obj),Wst w W (reqQ Q L) T x mb (.slice sa n sc) k V -> w6.ownsRow (w.heap.size + 1) 25 2 yv' (V.length + 1) (flatM V ++ [.string f.1,.string f.2]) -> ((putM W w.heap.size f).alloc o).grownBy w6 (Value.slice sa n sc).ownBlock -> Wst w w6 (reqQ Q L) T x mb yv' j (V ++ [f])):=⟨T[k].2,_,_,xx0,xx1,hlk0,hne1,HMO2.out⟩
      clear xx0 xx1 hlk0 hne0 hne1
      have HMOR:=hid hmo
      clear hmo HMO2
      have HEX:=hid (show ∃ c0 c1,wr.heap[w.heap.size]? = some (.cells #[c0,c1] 25 (0,0)) from ⟨_,_,HXC.out⟩)
      clear hxc HXC hsame hk
      go_wp2_with fail
      go_quiet (fail)
      have HW5:=hid (HW.out.below (below_drawn _ nq))
      have HEX5:=hid (show ∃ c0 c1,(wr.drewN nq).heap[w.heap.size]? = some (.cells #[c0,c1] 25 (0,0)) from HEX.out)
      have u0 : (wr.drewN nq).cell? ⟨w.heap.size,0,none⟩ = some (.string p1):=x0
      have u1 : (wr.drewN nq).cell? ⟨w.heap.size,1,none⟩ = some (.string p2):=x1
      have ulk:=hlk nq
      generalize wr.drewN nq = w5 at *
      clear x0 x1 hlk hne
      have uf : ∀ o,w5.frozen? ⟨w.heap.size,o,none⟩ = false:=fun o=>by
        obtain ⟨c0,c1,h⟩:=HEX5.out
        simp [World.frozen?,h]
      have HOV:=hid (putM_owns f HW5.out.row)
      have hsz : w.heap.size <= w5.heap.size:=HW5.out.bl.size
      rw [HVN.out] at HOV
      have HPM:=hid (show putM w5 w.heap.size f = (w5.setCell ⟨w.heap.size,0,none⟩ (.string f.1)).setCell ⟨w.heap.size,1,none⟩ (.string f.2) from rfl)
      rw [HPM.out] at HOV
      have hn1000 : n <= 1000:=by have:=HVN.out; have:=HW.out.ln; have:=HTL.out; omega
      have hlt1 : w.heap.size + 1 <= w5.heap.size:=by
        obtain ⟨c0,c1,h⟩:=HEX5.out
        exact lt_of_blk h
      go_wp2_with (at_builtin; refine wpList_append_own _ rfl _ _ 23 rfl (w.heap.size + 1) 25 i0 _ 2 32 Tryz.underlying23 hi0 hz0 hz1 hz2 rfl (by decide) _ _ _ rfl (HOV.out.alloc _) ⟨w5.heap.size,0,none⟩ 1 1 [.string f.1,.string f.2] rfl rfl ?c1 ?c2 ?c3 ?c4 ?c5 ?_)
      case c1=>
        have h2:=heap_alloc_new ((w5.setCell ⟨w.heap.size,0,none⟩ (.string f.1)).setCell ⟨w.heap.size,1,none⟩ (.string f.2)) (.cells #[.string f.1,.string f.2] 25)
        rw [show ((w5.setCell ⟨w.heap.size,0,none⟩ (.string f.1)).setCell ⟨w.heap.size,1,none⟩ (.string f.2)).heap.size = w5.heap.size by simp [World.setCell]] at h2
        exact World.news_of_block (cs:=#[.string f.1,.string f.2]) (t:=25) (fr:=(0,0)) h2
      case c2=>
        intro u hu
        simp at hu
        rcases hu with rfl | rfl <;> rfl
      case c3=>unfold maxLen; omega
      case c4=>omega
      case c5=>simp [World.setCell]; omega
      intro v' w6 hown hgrow _
      have HNW:=hid (show ∃ V k,V.length = n + 1 /\ Wst w w6 (reqQ Q L) T x mb v' k V from ⟨V ++ [f],j,by simp [HVN.out],HMOR.out w5 w6 v' _ HW5.out (by rw [HVN.out]; exact hown) (by rw [HPM.out]; exact hgrow)⟩)
      obtain ⟨va,vc,hv⟩:=own_slN hown
      subst hv
      have HME:=hid (show T.length + 1 - (n + 1) < T.length + 1 - n by have:=HVN.out; have:=HW.out.ln; omega)
      clear hown hgrow
      go_wp2_with fail
      go_roundw
      case rel=>exact ⟨va,n + 1,vc,rfl,HNW⟩
      case measure=>exact HME.out
def lenV : Value -> Nat
  | .slice _ n _=>n
  | _=>0
def sumR : List Raw -> Nat
  | []=>0
  | r :: X=>lenV r.2.1 + sumR X
theorem sumR_app : ∀ (X Y : List Raw),sumR (X ++ Y) = sumR X + sumR Y
  | [],Y=>by simp [sumR]
  | r :: X,Y=>by rw [List.cons_append]; show lenV r.2.1 + sumR (X ++ Y) = lenV r.2.1 + sumR X + sumR Y; rw [sumR_app X Y]; omega
theorem sumR_next {X : List Raw} {k : Nat} (hk : k < X.length) : sumR (X.take (k + 1)) = sumR (X.take k) + lenV X[k].2.1:=by
  rw [List.take_succ_eq_append_getElem hk,sumR_app]
  simp [sumR]
theorem sumR_le (B : Nat) : ∀ (X : List Raw),(∀ r,r ∈ X -> lenV r.2.1 <= B) -> sumR X <= X.length * B
  | [],_=>by simp [sumR]
  | r :: X,h=>by
    have h1:=h r (by simp)
    have h2:=sumR_le B X fun x hx=>h x (by simp [hx])
    have h3 : sumR (r :: X) = lenV r.2.1 + sumR X:=rfl
    rw [h3,List.length_cons,Nat.succ_mul]
    omega
theorem sumR_take_le (X : List Raw) (k : Nat) (B : Nat) (h : ∀ r,r ∈ X -> lenV r.2.1 <= B) : sumR (X.take k) <= X.length * B:=by
  have h1:=sumR_le B (X.take k) fun r hr=>h r (List.mem_of_mem_take hr)
  have h2 : (X.take k).length <= X.length:=by rw [List.length_take]; omega
  exact Nat.le_trans h1 (Nat.mul_le_mul_right B h2)
theorem lenV_ms {w : World} {v : Value} {R : List Bm} (h : MsAt w v R) : lenV v = R.length:=by
  obtain ⟨a,c,e,-⟩:=h
  rw [e]; rfl
theorem Ixs.lenR {w : World} {v : Value} {Q : List Raw} {L : List Ent} (I : Ixs w v Q L) (sh : ∀ e,e ∈ L -> ShE e) : ∀ r,r ∈ Q -> lenV r.2.1 <= 1000000:=fun r hr=>by
  obtain ⟨k,hk,rfl⟩:=List.getElem_of_mem hr
  have hk' : k < L.length:=by rw [<- I.ln]; exact hk
  rw [lenV_ms (I.ok k hk hk').rq]
  exact (sh _ (List.getElem_mem hk')).rn
set_option maxRecDepth 100000 in
set_option maxHeartbeats 2000000 in
theorem edges_bad (Q : List Raw) (L : List Ent) (roots : List Bm) (v rv : Value) (A : Nat -> Addr) (m : Int) (w : World) (hn : L.length <= 1000) (hrn : roots.length <= 1000000) (sh : ∀ e,e ∈ L -> ShE e) (S : Te w A m) (I : Ixs w v Q L) (hr : MsAt w rv roots) (h0 : (chkG Q L roots).1 ≠ 0) :
    Calls Tryz.prog 24 #[v,rv] w fun e w'=>∃ T a,e = .returned (.tuple #[.int .i64 0,.iface T (.pointer (some a))]) /\ ErrAt w' A (.iface T (.pointer (some a))) (chkG Q L roots).1 (chkG Q L roots).2 /\ Below w.heap.size w w':=by
  have HCK:=hid (reached_bad Q L roots v rv A m w hn hrn sh S I hr h0)
  obtain ⟨a,c,hv,-⟩:=id I.es
  subst hv
  obtain ⟨ra,rc,hrv,-⟩:=id hr
  subst hrv
  clear S I hr sh h0
  go_enter Tryz.func24,Tryz.ntmps24
  go_wp2_with fail
  refine HCK.out.mono ?_
  rintro e w1 ⟨T,xa,rfl,he,hb⟩
  have HB:=hid hb
  have HE:=hid he
  clear hb he HCK
  go_wp2_with fail
  go_ret2
  exact ⟨_,_,rfl,HE.out,HB.out⟩
theorem sum_idx {s n : Nat} (h : s + n <= 2000000000) : Value.int .i64 (wrap64 ((s : Int) + (n : Int))) = .int .i64 ((s + n : Nat) : Int):=by
  rw [IntWalk.wrap64_in _ (by omega)]; rfl
set_option maxRecDepth 100000 in
set_option maxHeartbeats 2000000 in
theorem edges_good (Q : List Raw) (L : List Ent) (roots : List Bm) (v rv : Value) (A : Nat → Addr) (m : Int) (w : World) (hn : L.length ≤ 1000) (hrn : roots.length ≤ 1000000) (sh : ∀ e, e ∈ L → ShE e) (S : Te w A m) (I : Ixs w v Q L) (hr : MsAt w rv roots) (h0 : (chkG Q L roots).1 = 0) :
    Calls Tryz.prog 24 #[v,rv] w fun e w'=>∃ T,e = .returned (.tuple #[.int .i64 (sumR (goQ T Q) : Nat),.nilIface]) /\ Came (reqQ Q L) (univ L) roots T /\ Below w.heap.size w w':=by
  have HRE:=hid (reached_some Q L roots v rv A m w hn hrn sh S I hr h0)
  have HLR:=hid (I.lenR sh)
  obtain ⟨a,c,hv,-,hs,-⟩:=id I.es
  subst hv
  obtain ⟨ra,rc,hrv,-⟩:=id hr
  subst hrv
  have HSL:=hid hs
  have HLN:=hid I.ln
  clear S I hr sh h0 hs
  go_enter Tryz.func24,Tryz.ntmps24
  go_wp2_with fail
  refine HRE.out.mono ?_
  rintro e w1 ⟨u,rfl,T,hcm,hown,hb⟩
  have HCM:=hid hcm
  have HB:=hid hb
  have HES:=hid (show EsAt w1 u (goQ T Q) from own_es (fun r hr=>HSL.out r (List.mem_filter.1 hr).1) hown)
  obtain ⟨ua,uc,hu⟩:=own_slN hown
  subst hu
  have HXL:=hid (show (goQ T Q).length <= 1000 from Nat.le_trans (List.length_filter_le _ _) (by rw [HLN.out]; exact hn))
  have HSX:=hid (show ∀ r,r ∈ goQ T Q -> slR r from fun r hr=>HSL.out r (List.mem_filter.1 hr).1)
  have HLX:=hid (show ∀ r,r ∈ goQ T Q -> lenV r.2.1 <= 1000000 from fun r hr=>HLR.out r (List.mem_filter.1 hr).1)
  have HSQ:=hid (show ∃ X,X = goQ T Q /\ Hid (sumR X = sumR (goQ T Q)) from ⟨_,rfl,hid rfl⟩)
  obtain ⟨X,hX,HSM⟩:=HSQ.out
  rw [<- hX] at HES HXL HSX HLX
  have hXL : (goQ T Q).length = X.length:=by rw [hX]
  rw [hXL]
  clear hcm hb hown HRE HSL HLR hX HSQ hXL
  go_wp2_with fail
  go_loopw [8,22] (fun sv i wr=>∃ k : Nat,k <= X.length /\ i = .int .i64 k /\ sv = .int .i64 (sumR (X.take k) : Nat) /\ Hid (Below w1.heap.size w1 wr)) (fun _ i _=>X.length - (intOf i).toNat)
  case atStart=>exact ⟨0,Nat.zero_le _,rfl,by simp [sumR],hid (Below.refl _ _)⟩
  case round=>
    obtain ⟨k,hk,rfl,rfl,HBr⟩:=hrel
    by_cases hlt : k < X.length
    · obtain ⟨ua',uc',hue,-,-,hce⟩:=HES.out.below HBr.out
      injection hue with hu1 hu2 hu3
      subst hu1
      subst hu3
      clear hu2
      obtain ⟨eb,eo,ha,hce2⟩:=hce (by intro h; rw [h] at hlt; simp at hlt)
      subst ha
      obtain ⟨x0,x1,x2,x3,x4⟩:=hce2 k hlt
      have hsl:=HSX.out X[k] (List.getElem_mem hlt)
      have hll:=HLX.out X[k] (List.getElem_mem hlt)
      have hkI : (k : Int) < (X.length : Int):=by omega
      have HLT:=hid hlt
      have HNX:=hid (sumR_next hlt)
      have hsb:=sumR_take_le X k 1000000 HLX.out
      have hxl:=HXL.out
      clear hce hce2
      generalize X[k] = r at *
      obtain ⟨⟨p,q⟩,rv,pv,bk⟩:=r
      obtain ⟨⟨ra2,rn2,rc2,hrv⟩,pa,pn,pc,hpv⟩:=hsl
      simp only at hrv hpv
      subst hrv
      subst hpv
      have hll2 : rn2 <= 1000000:=hll
      have HNX2:=hid (show sumR (X.take (k + 1)) = sumR (X.take k) + rn2 from HNX.out)
      have hsb2 : sumR (X.take k) <= 1000000000:=by omega
      have HS2:=hid (show sumR (X.take k) + rn2 <= 2000000000 by omega)
      generalize sumR (X.take k) = sk at *
      have hsI : (sk : Int) + (rn2 : Int) <= 2000000000:=by omega
      have HBa:=hid ((Below.refl wr.heap.size wr).alloc (Nat.le_refl _) (.cells #[.string p,.string q,.slice ra2 rn2 rc2,.slice pa pn pc,.bool bk] 45))
      have HBB:=hid (HBr.out.trans (HBa.out.mono HBr.out.size))
      have hs1:=HBr.out.size
      clear hlt HNX hll
      go_wp2_with fail
      go_roundw
      case rel=>
        have e1:=HNX2.out
        first | exact ⟨k + 1,HLT.out,nr_idx k,by rw [e1]; rfl,HBB⟩ | exact ⟨k + 1,HLT.out,nx_idx HLT.out (by omega),by rw [e1]; exact sum_idx HS2.out,HBB⟩ | exact ⟨k + 1,HLT.out,nr_idx k,by rw [e1]; exact sum_idx HS2.out,HBB⟩
      case measure=>first | exact nr_meas HLT.out | exact nx_meas HLT.out (by have:=HXL.out; omega)
    · have HTR:=hid (show X.take k = X from List.take_of_length_le (by omega))
      have hkI : ¬ (k : Int) < (X.length : Int):=by omega
      rw [HTR.out]
      clear hlt
      go_wp2_with fail
      go_ret2
      exact ⟨T,by rw [HSM.out]; rfl,HCM.out,HB.out.trans (HBr.out.mono HB.out.size)⟩
theorem sm_go {g : Nat} {T : By} (h : Came (reqQ (smQ g) smL) (univ smL) [ma1] T) : goM T (smQ g) = [ma1,mb0]:=by
  have c1 : cameB T ma1 = true:=(h.cameB _).2 (.root (by simp))
  have cb : cameB T mb0 = true:=(h.cameB _).2 (.step (.root (List.mem_singleton.2 rfl)) (by rw [sm_r1]; simp))
  have c0 : cameB T ma0 = false:=by
    cases hc : cameB T ma0 with
    | false=>rfl
    | true=>
      rcases sm_rch ((h.cameB _).1 hc) with e | e
      · exact absurd (congrArg (fun m : Bm=>m.2.data) e) (by decide)
      · exact absurd (congrArg (fun m : Bm=>m.1.data) e) (by decide)
  unfold goM goQ smQ
  simp [c0,c1,cb]
set_option maxRecDepth 100000 in
set_option maxHeartbeats 2000000 in
theorem rdL_any (A : Nat -> Addr) (m : Int) (w : World) (S : Te w A m) : Calls Tryz.prog 15 #[] w fun e w'=>e = .returned (.bool true) /\ Below w.heap.size w w':=by
  have HSM:=hid smallI_any
  have HS:=hid S
  clear S
  go_enter Tryz.func15,Tryz.ntmps15
  go_wp2_with fail
  refine (HSM.out w).mono ?_
  rintro e w1 ⟨g,q,rfl,hix,hb⟩
  have hBa:=(Below.refl w1.heap.size w1).alloc (Nat.le_refl _) (.cells #[.string ⟨#[97]⟩,.string ⟨#[118,49,46,49,46,48]⟩] 25)
  have hB1:=hb.trans (hBa.mono hb.size)
  have hms : MsAt (w1.alloc (.cells #[.string ⟨#[97]⟩,.string ⟨#[118,49,46,49,46,48]⟩] 25)) (.slice (some ⟨w1.heap.size,0,none⟩) 1 1) [ma1]:=⟨some ⟨w1.heap.size,0,none⟩,1,rfl,Nat.le_refl _,fun _=>⟨w1.heap.size,0,rfl,fun j hj=>by
    have : j = 0:=by simp at hj; exact hj
    subst this
    refine ⟨?_,?_⟩ <;> (rw [Lib.cell_of_heap (heap_alloc_new w1 _)]; rfl)⟩⟩
  have HRE:=hid (reach_good (smQ g) smL [ma1] _ _ A m _ (by decide) (by decide) sm_sh (HS.out.below hB1) (hix.below hBa) hms (sm_chkG g))
  have HB1:=hid hB1
  clear hix hb hBa hms hB1
  go_wp2_with fail
  refine HRE.out.mono ?_
  rintro e w2 ⟨u,rfl,T,hcm,hown,hb⟩
  rw [sm_go hcm] at hown
  have HB2:=hid (HB1.out.trans (hb.mono HB1.out.size))
  have hms:=own_ms (L:=[ma1,mb0]) hown
  obtain ⟨ua,uc,hu,-⟩:=id hms
  subst hu
  obtain ⟨ub,uo,hua,k0,-⟩:=hms.cells (k:=0) (by decide)
  subst hua
  obtain ⟨ub',uo',hua,k1,-⟩:=hms.cells (k:=1) (by decide)
  injection hua with hua
  injection hua with e1 e2
  subst e1 e2
  have k0' : w2.cell? ⟨ub,uo,none⟩ = some (.string ⟨#[97]⟩):=k0
  have k1' : w2.cell? ⟨ub,uo + 2,none⟩ = some (.string ⟨#[98]⟩):=k1
  have s0 : ((⟨#[97]⟩ : ByteArray).toList == (⟨#[97]⟩ : ByteArray).toList) = true:=by simp
  have s1 : ((⟨#[98]⟩ : ByteArray).toList == (⟨#[98]⟩ : ByteArray).toList) = true:=by simp
  clear hcm hown hb hms k0 k1 HRE
  go_wp2_with fail
  go_ret
  exact ⟨rfl,HB2.out⟩
def sumM (req : Bm -> List Bm) : List Bm -> Nat
  | []=>0
  | m :: X=>(req m).length + sumM req X
theorem sumM_app (req : Bm -> List Bm) : ∀ (X Y : List Bm),sumM req (X ++ Y) = sumM req X + sumM req Y
  | [],Y=>by simp [sumM]
  | r :: X,Y=>by
    have h:=sumM_app req X Y
    simp only [List.cons_append,sumM,h]
    omega
theorem sumM_next (req : Bm -> List Bm) {X : List Bm} {k : Nat} (hk : k < X.length) : sumM req (X.take (k + 1)) = sumM req (X.take k) + (req X[k]).length:=by
  rw [List.take_succ_eq_append_getElem hk,sumM_app]
  simp [sumM]
theorem sumM_le (req : Bm -> List Bm) (B : Nat) : ∀ (X : List Bm),(∀ r,r ∈ X -> (req r).length <= B) -> sumM req X <= X.length * B
  | [],_=>by simp [sumM]
  | r :: X,h=>by
    have h1:=h r (by simp)
    have h2:=sumM_le req B X fun x hx=>h x (by simp [hx])
    have h3 : sumM req (r :: X) = (req r).length + sumM req X:=rfl
    rw [h3,List.length_cons,Nat.succ_mul]
    omega
theorem sumM_take_le (req : Bm -> List Bm) (X : List Bm) (k B : Nat) (h : ∀ r,r ∈ X -> (req r).length <= B) : sumM req (X.take k) <= X.length * B:=by
  have h1:=sumM_le req B (X.take k) fun r hr=>h r (List.mem_of_mem_take hr)
  have h2 : (X.take k).length <= X.length:=by rw [List.length_take]; omega
  exact Nat.le_trans h1 (Nat.mul_le_mul_right B h2)
theorem sumR_M (req : Bm -> List Bm) : ∀ (X : List Raw),(∀ r,r ∈ X -> lenV r.2.1 = (req r.1).length) -> sumR X = sumM req (X.map fun r=>r.1)
  | [],_=>rfl
  | r :: X,h=>by
    have h1:=h r (by simp)
    have h2:=sumR_M req X fun x hx=>h x (by simp [hx])
    simp only [List.map_cons,sumR,sumM,h1,h2]
theorem len_req {w : World} {v : Value} {Q : List Raw} {L : List Ent} (I : Ixs w v Q L) (h : (chk Q L).1 = 0) : ∀ r,r ∈ Q -> lenV r.2.1 = (reqQ Q L r.1).length:=fun r hr=>by
  obtain ⟨k,hk,rfl⟩:=List.getElem_of_mem hr
  have hk' : k < L.length:=by rw [<- I.ln]; exact hk
  have hu : k < (univ L).length:=by rw [univ_len]; exact hk'
  rw [lenV_ms (I.ok k hk hk').rq,<- req_at I h hk' hu]
  rw [show (univ L)[k] = Q[k].1 by rw [(I.ok k hk hk').m]; simp [univ]]
theorem edges_sum {w : World} {v : Value} {Q : List Raw} {L : List Ent} (I : Ixs w v Q L) (h : (chk Q L).1 = 0) (T : By) : sumR (goQ T Q) = sumM (reqQ Q L) (goM T Q):=
  sumR_M _ _ fun r hr=>len_req I h r (List.mem_filter.1 hr).1
end Ve
end Go.Proofs.YtlcffhadobhfkaaGreatDoor
