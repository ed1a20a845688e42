/-
  IxG IxH
-/
import Derived.Test.YtlcffhadobhfkaaGreatDoorMq3
import Derived.Test.YtlcffhadobhfkaaGreatDoorMq2
import Derived.Test.YtlcffhadobhfkaaGreatDoorMq5
import Derived.Test.YtlcffhadobhfkaaGreatDoorMq6
import Derived.Test.YtlcffhadobhfkaaGreatDoorMq9
import Derived.Test.YtlcffhadobhfkaaGreatDoorMq11
import Derived.Test.YtlcffhadobhfkaaGreatDoorMq18
import Derived.Test.YtlcffhadobhfkaaGreatDoorMq19
import Derived.Test.YtlcffhadobhfkaaGreatDoorMq20
import Derived.Test.YtlcffhadobhfkaaGreatDoorMq22
namespace Go.Proofs.YtlcffhadobhfkaaGreatDoor
open Go.RowKit
namespace Ve
def entR (e : Ent) : Nat:=if 20 < e.2.1.length then 7 else if codeE (reqE e.1.1 e.2.1) e.2.1.length ≠ 0 then codeE (reqE e.1.1 e.2.1) e.2.1.length else packErr (bl e.2.2.1)
def entW (prev : Option Bm) (e : Ent) : Nat:=if mErr e.1 ≠ 0 then mErr e.1 else match prev with
  | none=>entR e
  | some p=>if mAhead p e.1 then entR e else 8
theorem entW_bad {o : Option Bm} {e : Ent} (h : mErr e.1 ≠ 0) : entW o e = mErr e.1:=by unfold entW; rw [if_pos h]
theorem entW_none {e : Ent} (h : mErr e.1 = 0) : entW none e = entR e:=by unfold entW; rw [if_neg (by simp [h])]
theorem entW_some {p : Bm} {e : Ent} (h : mErr e.1 = 0) (ha : mAhead p e.1 = true) : entW (some p) e = entR e:=by unfold entW; rw [if_neg (by simp [h])]; simp only [ha,if_true]
theorem entW_order {p : Bm} {e : Ent} (h : mErr e.1 = 0) (ha : mAhead p e.1 = false) : entW (some p) e = 8:=by unfold entW; rw [if_neg (by simp [h])]; simp [ha]
theorem entR_full {e : Ent} (h : 20 < e.2.1.length) : entR e = 7:=by unfold entR; rw [if_pos h]
theorem entR_req {e : Ent} (h : ¬ 20 < e.2.1.length) (hc : codeE (reqE e.1.1 e.2.1) e.2.1.length ≠ 0) : entR e = codeE (reqE e.1.1 e.2.1) e.2.1.length:=by unfold entR; rw [if_neg h,if_pos hc]
theorem entR_pack {e : Ent} (h : ¬ 20 < e.2.1.length) (hc : codeE (reqE e.1.1 e.2.1) e.2.1.length = 0) : entR e = packErr (bl e.2.2.1):=by unfold entR; rw [if_neg h,if_neg (by simp [hc])]
structure ShE (e : Ent) : Prop where
  p : e.1.1.size < 999999
  v : e.1.2.size < 999999
  rn : e.2.1.length <= 1000000
  rs : shortL e.2.1
  pn : e.2.2.1.length <= 1000
  ps : ∀ x,x ∈ e.2.2.1 -> x.size < 999999
set_option maxHeartbeats 4000000 in
theorem eachK_bad (p q : ByteArray) (rv pv : Value) (bk : Bool) (i b : Nat) (A : Nat -> Addr) (m : Int) (W : World) (hs : slR ((p,q),rv,pv,bk)) (hp : p.size < 999999) (hq : q.size < 999999) (S : Te W A m) (h : mErr (p,q) ≠ 0) :
    Calls Tryz.prog 176 #[.int .i64 (i : Int),.agg #[.string p,.string q,rv,pv,.bool bk],.pointer (some ⟨b,0,none⟩)] W fun e w'=>e = .returned (errA A (mErr (p,q))) /\ Below W.heap.size W w':=by
  obtain ⟨⟨ra,rn,rc,hrv⟩,pa,pn,pc,hpv⟩:=hs
  simp only at hrv hpv
  subst hrv
  subst hpv
  have HB0:=hid ((Below.refl W.heap.size W).alloc (Nat.le_refl _) (.cells #[.string p,.string q,.slice ra rn rc,.slice pa pn pc,.bool bk] 45))
  have HM:=hid (mcheck_any p q A m _ (by omega) (by omega) (S.below HB0.out))
  have hme : mErr (p,q) = modErr p.data.toList q.data.toList:=rfl
  rw [<- hme,errA_if A h] at HM
  rw [errA_if A h]
  clear S h hme
  go_enter Tryz.func176,Tryz.ntmps176
  go_wp2_with fail
  refine HM.out.mono ?_
  rintro e w1 ⟨rfl,hb⟩
  have HB:=hid (HB0.out.trans (hb.mono HB0.out.size))
  clear hb
  go_wp2_with fail
  go_ret
  exact ⟨rfl,HB.out⟩
set_option maxHeartbeats 8000000 in
set_option maxRecDepth 100000 in
theorem eachK_0 (pr : Option Bm) (hpr : pr = none) (p q : ByteArray) (rv pv : Value) (eR : List Bm) (eP : List ByteArray) (bk : Bool) (b : Nat) (A : Nat -> Addr) (m : Int) (W : World) (hs : slR ((p,q),rv,pv,bk)) (sh : ShE ((p,q),eR,eP,bk)) (S : Te W A m) (h : mErr (p,q) = 0) (hr : MsAt W rv eR) (hpk : TxAt W pv eP) :
    Calls Tryz.prog 176 #[.int .i64 0,.agg #[.string p,.string q,rv,pv,.bool bk],.pointer (some ⟨b,0,none⟩)] W fun e w'=>e = .returned (errA A (entW pr ((p,q),eR,eP,bk))) /\ Below W.heap.size W w':=by
  obtain ⟨⟨ra,rn,rc,hrv⟩,pa,pn,pc,hpv⟩:=hs
  simp only at hrv hpv
  subst hrv
  subst hpv
  have hrl : rn = eR.length:=by obtain ⟨_,_,h,_⟩:=hr; injection h
  subst hrl
  have HB0:=hid ((Below.refl W.heap.size W).alloc (Nat.le_refl _) (.cells #[.string p,.string q,.slice ra eR.length rc,.slice pa pn pc,.bool bk] 45))
  have HM:=hid (mcheck_any p q A m _ (by have:=sh.p; simp only at this; omega) (by have:=sh.v; simp only at this; omega) (S.below HB0.out))
  have hme : mErr (p,q) = modErr p.data.toList q.data.toList:=rfl
  rw [<- hme,h,errA0] at HM
  have HS:=hid S
  have HSH:=hid sh
  have HR:=hid hr
  have HPK:=hid hpk
  have H:=hid h
  have HGX:=hid (fun w1 (hb : Below (W.alloc (.cells #[.string p,.string q,.slice ra eR.length rc,.slice pa pn pc,.bool bk] 45)).heap.size (W.alloc (.cells #[.string p,.string q,.slice ra eR.length rc,.slice pa pn pc,.bool bk] 45)) w1)=>show w1.heap[W.heap.size]? = some (.cells #[.string p,.string q,.slice ra eR.length rc,.slice pa pn pc,.bool bk] 45 (0,0)) by rw [hb.block _ (by simp)]; exact heap_alloc_new W _)
  clear S sh hr hpk h hme
  go_enter Tryz.func176,Tryz.ntmps176
  go_wp2_with fail
  refine HM.out.mono ?_
  rintro e wz ⟨rfl,hb⟩
  have HBz:=hid (HB0.out.trans (hb.mono HB0.out.size))
  have HEz:=hid (HGX.out wz hb)
  clear hb HM HGX
  go_wp2_with fail
  go_quiet (fail)
  have HB1:=hid (below_drawn_of HBz.out nq)
  have HE1:=hid (show (wz.drewN nq).heap[W.heap.size]? = some (.cells #[.string p,.string q,.slice ra eR.length rc,.slice pa pn pc,.bool bk] 45 (0,0)) from HEz.out)
  obtain ⟨wa,hwa⟩ : ∃ wa,wz.drewN nq = wa:=⟨_,rfl⟩
  rw [hwa] at HB1 HE1 ⊢
  clear hwa
  have y0 : wa.cell? ⟨W.heap.size,0,none⟩ = some (.string p):=by rw [Lib.cell_of_heap HE1.out]; rfl
  have y1 : wa.cell? ⟨W.heap.size,1,none⟩ = some (.string q):=by rw [Lib.cell_of_heap HE1.out]; rfl
  have y2 : wa.cell? ⟨W.heap.size,2,none⟩ = some (.slice ra eR.length rc):=by rw [Lib.cell_of_heap HE1.out]; rfl
  have y3 : wa.cell? ⟨W.heap.size,3,none⟩ = some (.slice pa pn pc):=by rw [Lib.cell_of_heap HE1.out]; rfl
  have y4 : wa.cell? ⟨W.heap.size,4,none⟩ = some (.bool bk):=by rw [Lib.cell_of_heap HE1.out]; rfl
  by_cases hf : 20 < eR.length
  · have q2 : (20 : Int) < (eR.length : Int):=by omega
    have HX:=hid (show entW pr ((p,q),eR,eP,bk) = 7 by rw [hpr,entW_none H.out]; exact entR_full hf)
    have g6:=(HS.out.below HB1.out).sen.g6
    clear hf
    go_wp2_with fail
    go_ret
    exact ⟨by rw [HX.out]; rfl,HB1.out⟩
  · have q2 : ¬ (20 : Int) < (eR.length : Int):=by omega
    have HF:=hid hf
    have HRQ:=hid (reqs_any p eR _ A m wa HSH.out.rn HSH.out.rs (HS.out.below HB1.out) (HR.out.below HB1.out))
    clear hf
    go_wp2_with fail
    refine HRQ.out.mono ?_
    rintro e wb ⟨u,rfl,he,hb⟩
    have HB2:=hid (HB1.out.trans (hb.mono HB1.out.size))
    have HE2:=hid (show wb.heap[W.heap.size]? = some (.cells #[.string p,.string q,.slice ra eR.length rc,.slice pa pn pc,.bool bk] 45 (0,0)) by rw [hb.block _ (lt_of_blk HE1.out)]; exact HE1.out)
    clear y0 y1 y2 y3 y4 HRQ
    have z0 : wb.cell? ⟨W.heap.size,0,none⟩ = some (.string p):=by rw [Lib.cell_of_heap HE2.out]; rfl
    have z1 : wb.cell? ⟨W.heap.size,1,none⟩ = some (.string q):=by rw [Lib.cell_of_heap HE2.out]; rfl
    have z2 : wb.cell? ⟨W.heap.size,2,none⟩ = some (.slice ra eR.length rc):=by rw [Lib.cell_of_heap HE2.out]; rfl
    have z3 : wb.cell? ⟨W.heap.size,3,none⟩ = some (.slice pa pn pc):=by rw [Lib.cell_of_heap HE2.out]; rfl
    have z4 : wb.cell? ⟨W.heap.size,4,none⟩ = some (.bool bk):=by rw [Lib.cell_of_heap HE2.out]; rfl
    cases hfe : fstE (reqE p eR) eR.length with
    | none=>
      rw [hfe] at he
      have hc:=codeE_none hfe
      have he : u = errA A (codeE (reqE p eR) eR.length):=he
      rw [hc,errA0] at he
      subst he
      have HX:=hid (show entW pr ((p,q),eR,eP,bk) = packErr (bl eP) by rw [hpr,entW_none H.out]; exact entR_pack HF.out hc)
      have HPP:=hid (packs_any eP _ A m wb HSH.out.pn HSH.out.ps (HS.out.below HB2.out) (HPK.out.below HB2.out))
      clear hb hc hfe
      go_wp2_with fail
      refine HPP.out.mono ?_
      rintro e wc ⟨rfl,hb⟩
      have HB3:=hid (HB2.out.trans (hb.mono HB2.out.size))
      clear hb
      go_wp2_with fail
      go_ret
      exact ⟨by rw [HX.out]; rfl,HB3.out⟩
    | some j=>
      rw [hfe] at he
      have hc : codeE (reqE p eR) eR.length ≠ 0:=he.1
      have HX:=hid (show entW pr ((p,q),eR,eP,bk) = codeE (reqE p eR) eR.length by rw [hpr,entW_none H.out]; exact entR_req HF.out hc)
      have HBA:=hid (bare_any u _ _ A m wb (HS.out.below HB2.out) he hc)
      obtain ⟨_,fb,hu,_⟩:=he
      subst hu
      clear hb hc hfe
      go_wp2_with fail
      refine HBA.out.mono ?_
      rintro e wc ⟨rfl,hb⟩
      have HB3:=hid (HB2.out.trans (hb.mono HB2.out.size))
      clear hb
      go_wp2_with fail
      go_ret
      exact ⟨by rw [HX.out]; rfl,HB3.out⟩
set_option maxHeartbeats 8000000 in
set_option maxRecDepth 100000 in
theorem eachK_1 (pr : Option Bm) (k : Nat) (p0 q0 : ByteArray) (hpr : pr = some (p0,q0)) (p q : ByteArray) (rv pv : Value) (eR : List Bm) (eP : List ByteArray) (bk : Bool) (b : Nat) (A : Nat -> Addr) (m : Int) (W : World) (hs : slR ((p,q),rv,pv,bk)) (sh : ShE ((p,q),eR,eP,bk)) (S : Te W A m) (h : mErr (p,q) = 0) (hr : MsAt W rv eR) (hpk : TxAt W pv eP) (bb oo n c : Nat) (hn : k < n) (hn2 : n <= 1000000) (hq0 : q0.size < 999999) (hl : W.cell? ⟨b,0,none⟩ = some (.slice (some ⟨bb,oo,none⟩) n c)) (hx : W.cell? ⟨bb,oo + k * 5,none⟩ = some (.string p0)) (hy : W.cell? ⟨bb,oo + k * 5 + 1,none⟩ = some (.string q0)) :
    Calls Tryz.prog 176 #[.int .i64 ((k : Int) + 1),.agg #[.string p,.string q,rv,pv,.bool bk],.pointer (some ⟨b,0,none⟩)] W fun e w'=>e = .returned (errA A (entW pr ((p,q),eR,eP,bk))) /\ Below W.heap.size W w':=by
  obtain ⟨⟨ra,rn,rc,hrv⟩,pa,pn,pc,hpv⟩:=hs
  simp only at hrv hpv
  subst hrv
  subst hpv
  have hrl : rn = eR.length:=by obtain ⟨_,_,h,_⟩:=hr; injection h
  subst hrl
  have HB0:=hid ((Below.refl W.heap.size W).alloc (Nat.le_refl _) (.cells #[.string p,.string q,.slice ra eR.length rc,.slice pa pn pc,.bool bk] 45))
  have HM:=hid (mcheck_any p q A m _ (by have:=sh.p; simp only at this; omega) (by have:=sh.v; simp only at this; omega) (S.below HB0.out))
  have hme : mErr (p,q) = modErr p.data.toList q.data.toList:=rfl
  rw [<- hme,h,errA0] at HM
  have HS:=hid S
  have HSH:=hid sh
  have HR:=hid hr
  have HPK:=hid hpk
  have H:=hid h
  have HGX:=hid (fun w1 (hb : Below (W.alloc (.cells #[.string p,.string q,.slice ra eR.length rc,.slice pa pn pc,.bool bk] 45)).heap.size (W.alloc (.cells #[.string p,.string q,.slice ra eR.length rc,.slice pa pn pc,.bool bk] 45)) w1)=>show w1.heap[W.heap.size]? = some (.cells #[.string p,.string q,.slice ra eR.length rc,.slice pa pn pc,.bool bk] 45 (0,0)) by rw [hb.block _ (by simp)]; exact heap_alloc_new W _)
  have HL:=hid hl
  have HXX:=hid hx
  have HYY:=hid hy
  clear S sh hr hpk h hme hl hx hy
  have hk0 : (0 : Int) < (k : Int) + 1:=by omega
  have hk1 : (k : Int) + 1 - 1 = (k : Int):=by omega
  have hkn : (k : Int) < (n : Int):=by omega
  go_enter Tryz.func176,Tryz.ntmps176
  go_wp2_with fail
  refine HM.out.mono ?_
  rintro e wz ⟨rfl,hb⟩
  have HBz:=hid (HB0.out.trans (hb.mono HB0.out.size))
  have HEz:=hid (HGX.out wz hb)
  have hl:=cell_below HBz.out HL.out
  have hx:=cell_below HBz.out HXX.out
  have hy:=cell_below HBz.out HYY.out
  have HAH:=hid (fun X (hX : Below wz.heap.size wz X)=>ahead_any p0 q0 p q A m X hq0 HSH.out.v ((HS.out.below HBz.out).below hX))
  have hma : mAhead (p0,q0) (p,q) = aheadB p0.data.toList q0.data.toList p.data.toList q.data.toList:=rfl
  rw [<- hma] at HAH
  clear hb HM HGX hma
  have x0 : wz.cell? ⟨W.heap.size,0,none⟩ = some (.string p):=by rw [Lib.cell_of_heap HEz.out]; rfl
  have x1 : wz.cell? ⟨W.heap.size,1,none⟩ = some (.string q):=by rw [Lib.cell_of_heap HEz.out]; rfl
  have x2 : wz.cell? ⟨W.heap.size,2,none⟩ = some (.slice ra eR.length rc):=by rw [Lib.cell_of_heap HEz.out]; rfl
  have x3 : wz.cell? ⟨W.heap.size,3,none⟩ = some (.slice pa pn pc):=by rw [Lib.cell_of_heap HEz.out]; rfl
  have x4 : wz.cell? ⟨W.heap.size,4,none⟩ = some (.bool bk):=by rw [Lib.cell_of_heap HEz.out]; rfl
  have gw : IntKind.i64.wrap (k : Int) = (k : Int):=by rw [IntKind.wrap_i64]; omega
  have gk : (0 : Int) <= (k : Int):=by omega
  cases hah : mAhead (p0,q0) (p,q)
  · rw [hah] at HAH
    have HX:=hid (show entW pr ((p,q),eR,eP,bk) = 8 by rw [hpr]; exact entW_order H.out hah)
    clear hah
    go_wp2_with fail
    go_region_with (go_at_call 160; refine (HAH.out _ (below_drawn _ 1)).mono ?_; rintro e wa ⟨rfl,hb⟩; have HB1:=hid ((HBz.out.trans ((below_drawn _ 1).mono HBz.out.size)).trans (hb.mono HBz.out.size)); have g7:=(HS.out.below HB1.out).sen.g7; clear hb)
    all_goals
      go_wp2_with fail
      go_ret
      exact ⟨by rw [HX.out]; rfl,HB1.out⟩
  · rw [hah] at HAH
    have HLL:=hid (show entW pr ((p,q),eR,eP,bk) = entR ((p,q),eR,eP,bk) by rw [hpr]; exact entW_some H.out hah)
    clear hah
    go_wp2_with fail
    go_region_with (go_at_call 160; refine (HAH.out _ (below_drawn _ 1)).mono ?_; rintro e wa ⟨rfl,hb⟩; have HB1:=hid ((HBz.out.trans ((below_drawn _ 1).mono HBz.out.size)).trans (hb.mono HBz.out.size)); have HE1:=hid (show wa.heap[W.heap.size]? = some (.cells #[.string p,.string q,.slice ra eR.length rc,.slice pa pn pc,.bool bk] 45 (0,0)) by rw [hb.block _ (lt_of_blk HEz.out)]; exact HEz.out); clear hb x0 x1 x2 x3 x4 hl hx hy)
    all_goals
      have y0 : wa.cell? ⟨W.heap.size,0,none⟩ = some (.string p):=by rw [Lib.cell_of_heap HE1.out]; rfl
      have y1 : wa.cell? ⟨W.heap.size,1,none⟩ = some (.string q):=by rw [Lib.cell_of_heap HE1.out]; rfl
      have y2 : wa.cell? ⟨W.heap.size,2,none⟩ = some (.slice ra eR.length rc):=by rw [Lib.cell_of_heap HE1.out]; rfl
      have y3 : wa.cell? ⟨W.heap.size,3,none⟩ = some (.slice pa pn pc):=by rw [Lib.cell_of_heap HE1.out]; rfl
      have y4 : wa.cell? ⟨W.heap.size,4,none⟩ = some (.bool bk):=by rw [Lib.cell_of_heap HE1.out]; rfl
      by_cases hf : 20 < eR.length
      · have q2 : (20 : Int) < (eR.length : Int):=by omega
        have HX:=hid (show entW pr ((p,q),eR,eP,bk) = 7 by rw [HLL.out]; exact entR_full hf)
        have g6:=(HS.out.below HB1.out).sen.g6
        clear hf
        go_wp2_with fail
        go_ret
        exact ⟨by rw [HX.out]; rfl,HB1.out⟩
      · have q2 : ¬ (20 : Int) < (eR.length : Int):=by omega
        have HF:=hid hf
        have HRQ:=hid (reqs_any p eR _ A m wa HSH.out.rn HSH.out.rs (HS.out.below HB1.out) (HR.out.below HB1.out))
        clear hf
        go_wp2_with fail
        refine HRQ.out.mono ?_
        rintro e wb ⟨u,rfl,he,hb⟩
        have HB2:=hid (HB1.out.trans (hb.mono HB1.out.size))
        have HE2:=hid (show wb.heap[W.heap.size]? = some (.cells #[.string p,.string q,.slice ra eR.length rc,.slice pa pn pc,.bool bk] 45 (0,0)) by rw [hb.block _ (lt_of_blk HE1.out)]; exact HE1.out)
        clear y0 y1 y2 y3 y4 HRQ
        have z0 : wb.cell? ⟨W.heap.size,0,none⟩ = some (.string p):=by rw [Lib.cell_of_heap HE2.out]; rfl
        have z1 : wb.cell? ⟨W.heap.size,1,none⟩ = some (.string q):=by rw [Lib.cell_of_heap HE2.out]; rfl
        have z2 : wb.cell? ⟨W.heap.size,2,none⟩ = some (.slice ra eR.length rc):=by rw [Lib.cell_of_heap HE2.out]; rfl
        have z3 : wb.cell? ⟨W.heap.size,3,none⟩ = some (.slice pa pn pc):=by rw [Lib.cell_of_heap HE2.out]; rfl
        have z4 : wb.cell? ⟨W.heap.size,4,none⟩ = some (.bool bk):=by rw [Lib.cell_of_heap HE2.out]; rfl
        cases hfe : fstE (reqE p eR) eR.length with
        | none=>
          rw [hfe] at he
          have hc:=codeE_none hfe
          have he : u = errA A (codeE (reqE p eR) eR.length):=he
          rw [hc,errA0] at he
          subst he
          have HX:=hid (show entW pr ((p,q),eR,eP,bk) = packErr (bl eP) by rw [HLL.out]; exact entR_pack HF.out hc)
          have HPP:=hid (packs_any eP _ A m wb HSH.out.pn HSH.out.ps (HS.out.below HB2.out) (HPK.out.below HB2.out))
          clear hb hc hfe
          go_wp2_with fail
          refine HPP.out.mono ?_
          rintro e wc ⟨rfl,hb⟩
          have HB3:=hid (HB2.out.trans (hb.mono HB2.out.size))
          clear hb
          go_wp2_with fail
          go_ret
          exact ⟨by rw [HX.out]; rfl,HB3.out⟩
        | some j=>
          rw [hfe] at he
          have hc : codeE (reqE p eR) eR.length ≠ 0:=he.1
          have HX:=hid (show entW pr ((p,q),eR,eP,bk) = codeE (reqE p eR) eR.length by rw [HLL.out]; exact entR_req HF.out hc)
          have HBA:=hid (bare_any u _ _ A m wb (HS.out.below HB2.out) he hc)
          obtain ⟨_,fb,hu,_⟩:=he
          subst hu
          clear hb hc hfe
          go_wp2_with fail
          refine HBA.out.mono ?_
          rintro e wc ⟨rfl,hb⟩
          have HB3:=hid (HB2.out.trans (hb.mono HB2.out.size))
          clear hb
          go_wp2_with fail
          go_ret
          exact ⟨by rw [HX.out]; rfl,HB3.out⟩
def entE (L : List Ent) (i : Nat) : Nat:=match L[i]? with
  | none=>0
  | some e=>entW (if i = 0 then none else (L[i - 1]?).map (·.1)) e
theorem entE_0 {L : List Ent} (h : 0 < L.length) : entE L 0 = entW none L[0]:=by unfold entE; rw [List.getElem?_eq_getElem h]; rfl
theorem entE_1 {L : List Ent} {k : Nat} (h : k + 1 < L.length) : entE L (k + 1) = entW (some (L[k]'(by omega)).1) L[k + 1]:=by
  unfold entE
  rw [List.getElem?_eq_getElem h]
  simp only [Nat.add_sub_cancel,List.getElem?_eq_getElem (show k < L.length by omega)]
  rw [if_neg (by omega)]; rfl
def reqE2 (Q : List Raw) (L : List Ent) (i : Nat) : Nat:=match L[i]? with
  | none=>0
  | some e=>codeE (nonE Q e.2.1) e.2.1.length
theorem reqE2_at {Q : List Raw} {L : List Ent} {i : Nat} (h : i < L.length) : reqE2 Q L i = codeE (nonE Q L[i].2.1) L[i].2.1.length:=by unfold reqE2; rw [List.getElem?_eq_getElem h]
def chk (Q : List Raw) (L : List Ent) : Nat × Option Nat:=if 100 < L.length then (7,none) else match fstE (entE L) L.length with
  | some i=>(entE L i,some i)
  | none=>(codeE (reqE2 Q L) L.length,fstE (reqE2 Q L) L.length)
theorem chk_full {Q : List Raw} {L : List Ent} (h : 100 < L.length) : chk Q L = (7,none):=by unfold chk; rw [if_pos h]
theorem chk_each {Q : List Raw} {L : List Ent} {i : Nat} (h : ¬ 100 < L.length) (hi : fstE (entE L) L.length = some i) : chk Q L = (entE L i,some i):=by unfold chk; rw [if_neg h,hi]
theorem chk_reqs {Q : List Raw} {L : List Ent} (h : ¬ 100 < L.length) (hi : fstE (entE L) L.length = none) : chk Q L = (codeE (reqE2 Q L) L.length,fstE (reqE2 Q L) L.length):=by unfold chk; rw [if_neg h,hi]
theorem eachK_any (Q : List Raw) (L : List Ent) (v : Value) (b : Nat) (A : Nat -> Addr) (m : Int) (W : World) (hL : L.length <= 1000000) (sh : ∀ e,e ∈ L -> ShE e) (S : Te W A m) (h1 : W.cell? ⟨b,0,none⟩ = some v) (I : Ixs W v Q L) (i : Nat) (hi : i < Q.length) :
    Calls Tryz.prog 176 (#[.int .i64 (i : Int),rawV Q[i]] ++ #[.pointer (some ⟨b,0,none⟩)]) W fun e w'=>e = .returned (errA A (entE L i)) /\ Below W.heap.size W w':=by
  have hiL : i < L.length:=by rw [<- I.ln]; exact hi
  have ok:=I.ok i hi hiL
  have she:=sh L[i] (List.getElem_mem hiL)
  obtain ⟨a,c,hv,_,hs,hc⟩:=id I.es
  have hsl:=hs Q[i] (List.getElem_mem hi)
  cases i with
  | zero=>
    rw [entE_0 hiL]
    generalize hq : Q[0] = r at *
    generalize he : L[0] = e at *
    obtain ⟨⟨p,q⟩,rv,pv,bk⟩:=r
    obtain ⟨⟨p',q'⟩,eR,eP,bk'⟩:=e
    obtain ⟨hm,hrq,hpk,hbk⟩:=ok
    simp only at hm hrq hpk hbk
    subst hbk
    obtain ⟨rfl,rfl⟩ : p = p' /\ q = q':=by injection hm with h1 h2; exact ⟨h1,h2⟩
    by_cases hb : mErr (p,q) = 0
    · exact eachK_0 none rfl p q rv pv eR eP bk b A m W hsl she S hb hrq hpk
    · rw [entW_bad hb]
      exact eachK_bad p q rv pv bk 0 b A m W hsl she.p she.v S hb
  | succ k=>
    rw [entE_1 hiL]
    have hkq : k < Q.length:=by omega
    have hkL : k < L.length:=by omega
    have okk:=(I.ok k hkq hkL).m
    have shk:=sh L[k] (List.getElem_mem hkL)
    obtain ⟨bb,oo,ha,hcc⟩:=hc (by intro h; rw [h] at hkq; simp at hkq)
    obtain ⟨y0,y1,_⟩:=hcc k hkq
    generalize hq : Q[k + 1] = r at *
    generalize he : L[k + 1] = e at *
    generalize hpr : L[k].1 = pr at *
    obtain ⟨⟨p,q⟩,rv,pv,bk⟩:=r
    obtain ⟨⟨p',q'⟩,eR,eP,bk'⟩:=e
    obtain ⟨p0,q0⟩:=pr
    obtain ⟨hm,hrq,hpk,hbk⟩:=ok
    simp only at hm hrq hpk hbk
    subst hbk
    obtain ⟨rfl,rfl⟩ : p = p' /\ q = q':=by injection hm with h1 h2; exact ⟨h1,h2⟩
    by_cases hb : mErr (p,q) = 0
    · refine eachK_1 (some (p0,q0)) k p0 q0 rfl p q rv pv eR eP bk b A m W hsl she S hb hrq hpk bb oo Q.length c hkq (by rw [I.ln]; exact hL) ?_ ?_ ?_ ?_
      · have:=shk.v; rw [hpr] at this; exact this
      · rw [h1,hv,ha]
      · rw [okk] at y0; exact y0
      · rw [okk] at y1; exact y1
    · rw [entW_bad hb]
      exact eachK_bad p q rv pv bk (k + 1) b A m W hsl she.p she.v S hb
set_option maxHeartbeats 2000000 in
theorem each_any (Q : List Raw) (L : List Ent) (v : Value) (A : Nat -> Addr) (m : Int) (w : World) (hL : L.length <= 1000000) (sh : ∀ e,e ∈ L -> ShE e) (S : Te w A m) (I : Ixs w v Q L) :
    Calls Tryz.prog 132 #[v] w fun e w'=>∃ x,e = .returned x /\ ErrAt w' A x (codeE (entE L) L.length) (fstE (entE L) L.length) /\ Below w.heap.size w w':=by
  obtain ⟨a,c,hv1,_⟩:=id I.es
  subst hv1
  have HB0:=hid ((Below.refl w.heap.size w).alloc (Nat.le_refl _) (.cells #[.slice a Q.length c] 22))
  have eg : ∀ args w,(callFunc 176 args).run Tryz.prog w = .ok (.enter 176 args) w:=enters_of Tryz.func176 (by kernel_rfl) rfl
  have HF:=hid (firstE_any 176 #[.pointer (some ⟨w.heap.size,0,none⟩)] (entE L) Q _ A (w.alloc (.cells #[.slice a Q.length c] 22)) eg (by rw [I.ln]; exact hL) (I.es.below HB0.out) (fun i hi W hW=>
    eachK_any Q L _ w.heap.size A m W hL sh ((S.below HB0.out).below hW) (cell_below hW (by simp)) ((I.below HB0.out).below hW) i hi))
  have HLN:=hid I.ln
  clear S I eg
  go_enter Tryz.func132,Tryz.ntmps132
  go_wp2_with fail
  refine HF.out.mono ?_
  rintro e w1 ⟨u,rfl,he,hb⟩
  have HB:=hid (HB0.out.trans (hb.mono HB0.out.size))
  rw [HLN.out] at he
  have HE:=hid he
  clear hb he
  go_wp2_with fail
  go_ret
  exact ⟨_,rfl,HE.out,HB.out⟩
set_option maxHeartbeats 4000000 in
theorem icheck_any (Q : List Raw) (L : List Ent) (v : Value) (A : Nat -> Addr) (m : Int) (w : World) (hL : L.length <= 1000000) (sh : ∀ e,e ∈ L -> ShE e) (S : Te w A m) (I : Ixs w v Q L) :
    Calls Tryz.prog 90 #[v] w fun e w'=>∃ x,e = .returned x /\ ErrAt w' A x (chk Q L).1 (chk Q L).2 /\ Below w.heap.size w w':=by
  obtain ⟨a,c,hv1,_,hs,_⟩:=id I.es
  subst hv1
  have HB0:=hid ((Below.refl w.heap.size w).alloc (Nat.le_refl _) (.cells #[.slice a Q.length c] 22))
  have HEA:=hid (each_any Q L _ A m _ hL sh (S.below HB0.out) (I.below HB0.out))
  have hln:=I.ln
  have HS:=hid S
  have HI:=hid I
  have HSL:=hid hs
  have HSH:=hid sh
  have c0 : (w.alloc (.cells #[.slice a Q.length c] 22)).cell? ⟨w.heap.size,0,none⟩ = some (.slice a Q.length c):=by simp
  have HC0:=hid c0
  rw [hln] at c0
  have eg : ∀ args w,(callFunc 134 args).run Tryz.prog w = .ok (.enter 134 args) w:=enters_of Tryz.func134 (by kernel_rfl) rfl
  have HEG:=hid eg
  clear S I hs sh eg
  by_cases h1 : 100 < L.length
  · have q1 : (100 : Int) < (L.length : Int):=by omega
    have g6:=(HS.out.below HB0.out).sen.g6
    rw [chk_full h1,hln]
    rw [hln] at HB0
    clear h1 HEA
    go_enter Tryz.func90,Tryz.ntmps90
    rw [hln] at g6
    go_wp2_with fail
    go_ret
    exact ⟨_,rfl,rfl,HB0.out⟩
  · have q1 : ¬ (100 : Int) < (L.length : Int):=by omega
    have H1:=hid h1
    rw [hln] at HB0 HEA ⊢
    clear h1
    go_enter Tryz.func90,Tryz.ntmps90
    go_wp2_with fail
    refine HEA.out.mono ?_
    rintro e w1 ⟨x,rfl,he,hb⟩
    have HB1:=hid (HB0.out.trans (hb.mono HB0.out.size))
    have c1:=cell_below hb c0
    have HC1:=hid c1
    clear hb HEA
    cases hf : fstE (entE L) L.length with
    | some i=>
      rw [hf,codeE_some hf] at he
      have HX:=hid (chk_each (Q:=Q) H1.out hf)
      have HE:=hid he
      obtain ⟨_,fb,hu,_⟩:=he
      subst hu
      clear hf
      go_wp2_with fail
      go_ret
      exact ⟨_,rfl,by rw [HX.out]; exact HE.out,HB1.out⟩
    | none=>
      rw [hf,codeE_none hf] at he
      have he : x = errA A 0:=he
      rw [errA0] at he
      subst he
      have HX:=hid (chk_reqs (Q:=Q) H1.out hf)
      have HF:=hid (firstE_any 134 #[.pointer (some ⟨w.heap.size,0,none⟩)] (reqE2 Q L) Q (.slice a Q.length c) A w1 HEG.out (by rw [hln]; exact hL) ((HI.out.es).below HB1.out) (fun i hi W hW=>by
        have hiL : i < L.length:=by rw [<- hln]; exact hi
        rw [reqE2_at hiL]
        exact checkK_any Q Q[i] L[i].2.1 i w.heap.size (.slice a Q.length c) A m W (by rw [hln]; exact hL) (HSH.out L[i] (List.getElem_mem hiL)).rn ((HS.out.below HB1.out).below hW) (cell_below hW (by rw [hln]; exact HC1.out)) ((HI.out.es.below HB1.out).below hW) (HSL.out Q[i] (List.getElem_mem hi)) ((HI.out.ok i hi hiL).rq.below (HB1.out.trans (hW.mono HB1.out.size)))))
      rw [hln] at HF
      clear hf
      go_wp2_with fail
      refine HF.out.mono ?_
      rintro e w2 ⟨x,rfl,he,hb⟩
      have HB2:=hid (HB1.out.trans (hb.mono HB1.out.size))
      have HE:=hid he
      clear hb he
      go_wp2_with fail
      go_ret
      exact ⟨_,rfl,by rw [HX.out]; exact HE.out,HB2.out⟩
end Ve
end Go.Proofs.YtlcffhadobhfkaaGreatDoor
