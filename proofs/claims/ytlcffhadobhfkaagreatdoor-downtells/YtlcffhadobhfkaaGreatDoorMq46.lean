/-
  RtA
-/
import Derived.Test.YtlcffhadobhfkaaGreatDoorMq3
import Derived.Test.YtlcffhadobhfkaaGreatDoorMq2
import Derived.Test.YtlcffhadobhfkaaGreatDoorMq5
import Derived.Test.YtlcffhadobhfkaaGreatDoorMq6
import Derived.Test.YtlcffhadobhfkaaGreatDoorMq9
import Derived.Test.YtlcffhadobhfkaaGreatDoorMq11
import Derived.Test.YtlcffhadobhfkaaGreatDoorMq16
import Derived.Test.YtlcffhadobhfkaaGreatDoorMq18
import Derived.Test.YtlcffhadobhfkaaGreatDoorMq19
import Derived.Test.YtlcffhadobhfkaaGreatDoorMq20
import Derived.Test.YtlcffhadobhfkaaGreatDoorMq22
import Derived.Test.YtlcffhadobhfkaaGreatDoorMq23
import Derived.Test.YtlcffhadobhfkaaGreatDoorMq24
import Derived.Test.YtlcffhadobhfkaaGreatDoorMq25
import Derived.Test.YtlcffhadobhfkaaGreatDoorMq30
import Derived.Test.YtlcffhadobhfkaaGreatDoorMq1
import Derived.Test.YtlcffhadobhfkaaGreatDoorMq39
import Derived.Test.YtlcffhadobhfkaaGreatDoorMq43
namespace Go.Proofs.YtlcffhadobhfkaaGreatDoor
open Go.RowKit Go.Maps
namespace Ve
theorem reqsR_code (own : ByteArray) (L : List Bm) : (reqsR own L).1 = codeE (reqE own L) L.length:=by
  unfold reqsR codeE
  cases fstE (reqE own L) L.length <;> rfl
theorem pk_rise {Z : List (List UInt8)} (h : ¬ 10 < Z.length) (h1 : Z.any noPk = false) (h2 : rsT Z) : packErr Z = 0:=pk_ok h h1 ((ris_iff Z).2 h2)
theorem pk_fall {Z : List (List UInt8)} (h : ¬ 10 < Z.length) (h1 : Z.any noPk = false) (h2 : ¬ rsT Z) : packErr Z = 8:=pk_order h h1 (fun e=>h2 ((ris_iff Z).1 e))
theorem any_noPk {X : List ByteArray} (h : ∀ j (h : j < X.length),noPk X[j].data.toList = false) : (bl X).any noPk = false:=by
  cases e : (bl X).any noPk
  · rfl
  · obtain ⟨z,hz,h1⟩:=List.any_eq_true.1 e
    obtain ⟨j,hj,rfl⟩:=List.getElem_of_mem hz
    have hj2 : j < X.length:=by rw [bl_len] at hj; exact hj
    have:=h j hj2
    have e2 : (bl X)[j] = X[j].data.toList:=by simp [bl]
    rw [e2,this] at h1; cases h1
theorem any_noPk' {X : List ByteArray} {j : Nat} (hj : j < X.length) (h : noPk X[j].data.toList = true) : (bl X).any noPk = true:=
  List.any_eq_true.2 ⟨X[j].data.toList,bl_mem (List.getElem_mem hj),h⟩
theorem rsT_of {X : List ByteArray} (h : ∀ j (h : j + 1 < X.length),noLess X[j] X[j + 1] = false) : rsT (bl X):=fun j hj=>by
  have hj2 : j + 1 < X.length:=by rw [bl_len] at hj; exact hj
  have h1:=h j hj2
  have e1 : (bl X)[j] = (X[j]'(by omega)).data.toList:=by simp [bl]
  have e2 : (bl X)[j + 1] = X[j + 1].data.toList:=by simp [bl]
  rw [e1,e2]
  unfold noLess at h1
  simpa using h1
theorem rsT_not {X : List ByteArray} {j : Nat} (hj : j + 1 < X.length) (h : noLess X[j] X[j + 1] = true) : ¬ rsT (bl X):=fun hr=>by
  have h1:=hr j (by rw [bl_len]; exact hj)
  have e1 : (bl X)[j]'(by rw [bl_len]; omega) = (X[j]'(by omega)).data.toList:=by simp [bl]
  have e2 : (bl X)[j + 1]'(by rw [bl_len]; exact hj) = X[j + 1].data.toList:=by simp [bl]
  rw [e1,e2] at h1
  unfold noLess at h
  simp only [Bool.not_eq_true',decide_eq_false_iff_not] at h
  exact h h1
set_option maxRecDepth 100000 in
set_option maxHeartbeats 16000000 in
theorem entE0_any (Q : List Raw) (L : List Ent) (b o c : Nat) (w : World) (sh : ∀ e, e ∈ L → ShE e) (I : Ixs w (.slice (some ⟨b, o, none⟩) Q.length c) Q L) (h0 : 0 < L.length) :
    Calls Tryz.prog 110 #[.slice (some ⟨b,o,none⟩) Q.length c,.int .i64 0] w fun e w'=>e = .returned (.int .i64 (entE L 0 : Nat)) /\ Below w.heap.size w w':=by
  have hq : 0 < Q.length:=by rw [I.ln]; exact h0
  obtain ⟨hsl,x0,x1,x2,x3,x4⟩:=es_all I.es hq
  simp only [Nat.zero_mul,Nat.add_zero] at x0 x1 x2 x3 x4
  have hok:=fun W (h : Below w.heap.size w W)=>(I.below h).ok 0 hq h0
  have HSH:=hid (sh L[0] (List.getElem_mem h0))
  rw [entE_0 h0]
  generalize Q[0] = r at *
  generalize L[0] = en at *
  obtain ⟨⟨p,q⟩,rv,pv,bk⟩:=r
  obtain ⟨⟨p',q'⟩,eR,eP,bk'⟩:=en
  obtain ⟨hm,hrq,hpk,hbk⟩:=hok w (Below.refl _ _)
  simp only at hm hrq hpk hbk
  injection hm with hm1 hm2
  subst hm1 hm2 hbk
  obtain ⟨ra,rc,hrv,-⟩:=id hrq
  obtain ⟨pa,pc,hpv,-⟩:=id hpk
  subst hrv hpv
  have HRM:=hid (fun W (h : Below w.heap.size w W)=>hrq.below h)
  have HTX:=hid (fun W (h : Below w.heap.size w W)=>hpk.below h)
  have hqI : (0 : Int) < (Q.length : Int):=by omega
  clear I sh h0 hok hrq hpk hsl
  have HB0:=hid ((Below.refl w.heap.size w).alloc (Nat.le_refl _) (.cells #[.string p,.string q,.slice ra eR.length rc,.slice pa eP.length pc,.bool bk] 45))
  have HE0:=hid (heap_new w (.cells #[.string p,.string q,.slice ra eR.length rc,.slice pa eP.length pc,.bool bk] 45))
  have HM:=hid (modError_any p q (w.alloc (.cells #[.string p,.string q,.slice ra eR.length rc,.slice pa eP.length pc,.bool bk] 45)) (by have:=HSH.out.p; simp only at this; omega) (by have:=HSH.out.v; simp only at this; omega))
  have hme : mErr (p,q) = modErr p.data.toList q.data.toList:=rfl
  rw [<- hme] at HM
  by_cases h : mErr (p,q) = 0
  · have HXR := hid (entW_none (e := ((p, q), eR, eP, bk)) h)
    rw [h] at HM
    clear h hme
    go_enter Tryz.func110,Tryz.ntmps110
    go_wp2_with fail
    refine HM.out.mono ?_
    rintro e wz ⟨rfl,hb⟩
    have HBz:=hid (HB0.out.trans (hb.mono HB0.out.size))
    have HEz:=hid (show wz.heap[w.heap.size]? = some (.cells #[.string p,.string q,.slice ra eR.length rc,.slice pa eP.length pc,.bool bk] 45 (0,0)) by rw [hb.block _ (lt_of_blk HE0.out)]; exact HE0.out)
    clear hb HM
    have z0 : wz.cell? ⟨w.heap.size,0,none⟩ = some (.string p):=by rw [Lib.cell_of_heap HEz.out]; rfl
    have z1 : wz.cell? ⟨w.heap.size,1,none⟩ = some (.string q):=by rw [Lib.cell_of_heap HEz.out]; rfl
    have z2 : wz.cell? ⟨w.heap.size,2,none⟩ = some (.slice ra eR.length rc):=by rw [Lib.cell_of_heap HEz.out]; rfl
    have z3 : wz.cell? ⟨w.heap.size,3,none⟩ = some (.slice pa eP.length pc):=by rw [Lib.cell_of_heap HEz.out]; rfl
    have z4 : wz.cell? ⟨w.heap.size,4,none⟩ = some (.bool bk):=by rw [Lib.cell_of_heap HEz.out]; rfl
    by_cases hf : 20 < eR.length
    · have q2 : (20 : Int) < (eR.length : Int):=by omega
      have HX:=hid (HXR.out.trans (entR_full hf))
      clear hf
      go_wp2_with fail
      go_ret
      exact ⟨by rw [HX.out]; rfl,HBz.out⟩
    · have q2 : ¬ (20 : Int) < (eR.length : Int) := by omega
      have HF:=hid hf
      have HRQ:=hid (reqsE_any p eR _ wz HSH.out.rn HSH.out.rs (HRM.out _ HBz.out))
      rw [reqsR_code] at HRQ
      clear hf
      by_cases hc : codeE (reqE p eR) eR.length = 0
      · have HX := hid (HXR.out.trans (entR_pack HF.out hc))
        rw [hc] at HRQ
        clear hc
        go_wp2_with fail
        refine HRQ.out.mono ?_
        rintro e wy ⟨rfl,hb⟩
        have HBy:=hid (HBz.out.trans (hb.mono HBz.out.size))
        have HEy:=hid (show wy.heap[w.heap.size]? = some (.cells #[.string p,.string q,.slice ra eR.length rc,.slice pa eP.length pc,.bool bk] 45 (0,0)) by rw [hb.block _ (lt_of_blk HEz.out)]; exact HEz.out)
        clear hb z0 z1 z2 z3 z4 HRQ
        have y0 : wy.cell? ⟨w.heap.size,0,none⟩ = some (.string p):=by rw [Lib.cell_of_heap HEy.out]; rfl
        have y1 : wy.cell? ⟨w.heap.size,1,none⟩ = some (.string q):=by rw [Lib.cell_of_heap HEy.out]; rfl
        have y2 : wy.cell? ⟨w.heap.size,2,none⟩ = some (.slice ra eR.length rc):=by rw [Lib.cell_of_heap HEy.out]; rfl
        have y3 : wy.cell? ⟨w.heap.size,3,none⟩ = some (.slice pa eP.length pc):=by rw [Lib.cell_of_heap HEy.out]; rfl
        have y4 : wy.cell? ⟨w.heap.size,4,none⟩ = some (.bool bk):=by rw [Lib.cell_of_heap HEy.out]; rfl
        by_cases hp10 : 10 < eP.length
        · have q3 : (10 : Int) < (eP.length : Int):=by omega
          have HX2:=hid (HX.out.trans (pk_full (by rw [bl_len]; exact hp10)))
          clear hp10
          go_wp2_with fail
          go_ret
          exact ⟨by rw [HX2.out]; rfl,HBy.out⟩
        · have q3 : ¬ (10 : Int) < (eP.length : Int) := by omega
          have HP10:=hid (show ¬ 10 < (bl eP).length by rw [bl_len]; exact hp10)
          have hpl : eP.length <= 10:=by omega
          clear hp10
          go_wp2_with fail
          go_loopw [8] (fun kv wr=>∃ k : Nat,k <= eP.length /\ kv = .int .i64 k /\ Hid (∀ j (h : j < eP.length),j < k -> noPk eP[j].data.toList = false) /\ Hid (Below w.heap.size w wr) /\ Hid (wr.heap[w.heap.size]? = some (.cells #[.string p,.string q,.slice ra eR.length rc,.slice pa eP.length pc,.bool bk] 45 (0,0)))) (fun kv _=>eP.length - (intOf kv).toNat)
          case atStart=>exact ⟨0,Nat.zero_le _,rfl,hid (fun j _ h=>absurd h (Nat.not_lt_zero _)),HBy,HEy⟩
          case round=>
            clear y0 y1 y2 y3 y4
            obtain ⟨k,hk,rfl,HA,HBr,HEr⟩:=hrel
            have r0 : wr.cell? ⟨w.heap.size,0,none⟩ = some (.string p):=by rw [Lib.cell_of_heap HEr.out]; rfl
            have r1 : wr.cell? ⟨w.heap.size,1,none⟩ = some (.string q):=by rw [Lib.cell_of_heap HEr.out]; rfl
            have r2 : wr.cell? ⟨w.heap.size,2,none⟩ = some (.slice ra eR.length rc):=by rw [Lib.cell_of_heap HEr.out]; rfl
            have r3 : wr.cell? ⟨w.heap.size,3,none⟩ = some (.slice pa eP.length pc):=by rw [Lib.cell_of_heap HEr.out]; rfl
            have r4 : wr.cell? ⟨w.heap.size,4,none⟩ = some (.bool bk):=by rw [Lib.cell_of_heap HEr.out]; rfl
            by_cases hlt : k < eP.length
            · have hkI : (k : Int) < (eP.length : Int):=by omega
              have hk0 : (0 : Int) <= (k : Int):=by omega
              obtain ⟨pb,po,hpa,hcl⟩:=(HTX.out _ HBr.out).cells hlt
              have t0:=hcl k hlt
              subst hpa
              have HLT:=hid hlt
              have hsz:=HSH.out.ps eP[k] (List.getElem_mem hlt)
              have HNX:=hid (show noPk eP[k].data.toList = false -> ∀ j (h : j < eP.length),j < k + 1 -> noPk eP[j].data.toList = false from fun h0 j h1 h3=>by
                rcases Nat.lt_or_ge j k with h | h
                · exact HA.out j h1 h
                · have : j = k:=by omega
                  subst this; exact h0)
              have HBD:=hid (show noPk eP[k].data.toList = true -> packErr (bl eP) = 1 from fun h=>pk_text HP10.out (any_noPk' hlt h))
              generalize eP[k] = z at *
              clear hcl hlt
              by_cases hdot : z = ⟨#[46]⟩
              · subst hdot
                have s0 : ((⟨#[46]⟩ : ByteArray).toList == (⟨#[46]⟩ : ByteArray).toList) = true:=by simp
                have HN2:=hid (HNX.out (by decide))
                go_wp2_with fail
                go_roundw
                case rel=>first | exact ⟨k + 1,HLT.out,nr_idx k,HN2,HBr,HEr⟩ | exact ⟨k + 1,HLT.out,nx_idx HLT.out (by omega),HN2,HBr,HEr⟩
                case measure=>first | exact nr_meas HLT.out | exact nx_meas HLT.out (by omega)
              · have hqd : (z.toList == [46]) = false:=by rw [ByteArray.toList_eq]; exact beq_eq_false_iff_ne.2 (fun e=>hdot (str_ext (by rw [e])))
                have hd2 : z.data.toList ≠ [46]:=fun e=>hdot (str_ext (by rw [e]))
                have HPE:=hid (fun W=>pathError_any z W (by omega))
                by_cases hpe : pathErr z.data.toList = 0
                · rw [hpe] at HPE
                  have HN2:=hid (HNX.out (by unfold noPk; simp [hpe]))
                  clear hpe hd2 hdot
                  go_wp2_with fail
                  refine (HPE.out _).mono ?_
                  rintro e wv ⟨rfl,hb⟩
                  have HBv:=hid (HBr.out.trans (hb.mono HBr.out.size))
                  have HEv:=hid ((hb.block _ (lt_of_blk HEr.out)).trans HEr.out)
                  clear hb
                  go_wp2_with fail
                  go_roundw
                  case rel=>first | exact ⟨k + 1,HLT.out,nr_idx k,HN2,HBv,HEv⟩ | exact ⟨k + 1,HLT.out,nx_idx HLT.out (by omega),HN2,HBv,HEv⟩
                  case measure=>first | exact nr_meas HLT.out | exact nx_meas HLT.out (by omega)
                · have HX2:=hid (HX.out.trans (HBD.out (by unfold noPk; simp [hpe,hd2])))
                  have hpos : (0 : Int) < ((pathErr z.data.toList : Nat) : Int):=by omega
                  generalize pathErr z.data.toList = pe at *
                  clear hpe hd2 hdot
                  go_wp2_with fail
                  refine (HPE.out _).mono ?_
                  rintro e wv ⟨rfl,hb⟩
                  have HBv:=hid (HBr.out.trans (hb.mono HBr.out.size))
                  clear hb
                  go_wp2_with fail
                  go_ret
                  exact ⟨by rw [HX2.out]; rfl,HBv.out⟩
            · have hkI : ¬ (k : Int) < (eP.length : Int):=by omega
              have HNO:=hid (show (bl eP).any noPk = false from any_noPk fun j h=>HA.out j h (by omega))
              clear hlt
              go_wp2_with fail
              go_loopw [9] (fun kv wr=>∃ k : Nat,1 <= k /\ (k <= eP.length \/ k = 1) /\ kv = .int .i64 k /\ Hid (∀ j (h : j + 1 < eP.length),j + 1 < k -> noLess eP[j] eP[j + 1] = false) /\ Hid (Below w.heap.size w wr) /\ Hid (wr.heap[w.heap.size]? = some (.cells #[.string p,.string q,.slice ra eR.length rc,.slice pa eP.length pc,.bool bk] 45 (0,0)))) (fun kv _=>eP.length - (intOf kv).toNat)
              case atStart=>exact ⟨1,Nat.le_refl _,Or.inr rfl,rfl,hid (fun j _ h=>by omega),HBr,HEr⟩
              case round=>
                clear r0 r1 r2 r3 r4
                obtain ⟨k2,hk1,hk2,rfl,HA2,HBs,HEs⟩:=hrel
                have s0 : wr.cell? ⟨w.heap.size,0,none⟩ = some (.string p):=by rw [Lib.cell_of_heap HEs.out]; rfl
                have s1 : wr.cell? ⟨w.heap.size,1,none⟩ = some (.string q):=by rw [Lib.cell_of_heap HEs.out]; rfl
                have s2 : wr.cell? ⟨w.heap.size,2,none⟩ = some (.slice ra eR.length rc):=by rw [Lib.cell_of_heap HEs.out]; rfl
                have s3 : wr.cell? ⟨w.heap.size,3,none⟩ = some (.slice pa eP.length pc):=by rw [Lib.cell_of_heap HEs.out]; rfl
                have s4 : wr.cell? ⟨w.heap.size,4,none⟩ = some (.bool bk):=by rw [Lib.cell_of_heap HEs.out]; rfl
                by_cases hlt : k2 < eP.length
                · obtain ⟨j,rfl⟩ : ∃ j,k2 = j + 1:=⟨k2 - 1,by omega⟩
                  have hkI2 : ((j + 1 : Nat) : Int) < (eP.length : Int):=by omega
                  have hkI3 : (j : Int) < (eP.length : Int):=by omega
                  have hk00 : (0 : Int) <= ((j + 1 : Nat) : Int):=by omega
                  have hk01 : (0 : Int) <= (j : Int):=by omega
                  have hk02 : ((j + 1 : Nat) : Int) - 1 = (j : Int):=by omega
                  have hwp : IntKind.i64.wrap (j : Int) = (j : Int):=by rw [IntKind.wrap_i64]; omega
                  have hk03 : (j : Int) + 1 - 1 = (j : Int):=by omega
                  obtain ⟨pb,po,hpa,hcl⟩:=(HTX.out _ HBs.out).cells hlt
                  have t0:=hcl (j + 1) hlt
                  have t1:=hcl j (by omega)
                  subst hpa
                  have HLT:=hid hlt
                  have HNX:=hid (show noLess eP[j] eP[j + 1] = false -> ∀ i (h : i + 1 < eP.length),i + 1 < j + 1 + 1 -> noLess eP[i] eP[i + 1] = false from fun h0 i h1 h3=>by
                    rcases Nat.lt_or_ge i j with h | h
                    · exact HA2.out i h1 (by omega)
                    · have : i = j:=by omega
                      subst this; exact h0)
                  have HBD:=hid (show noLess eP[j] eP[j + 1] = true -> packErr (bl eP) = 8 from fun h=>pk_fall HP10.out HNO.out (rsT_not hlt h))
                  generalize eP[j + 1] = za at *
                  generalize eP[j] = zb at *
                  have hle:=fun X=>leq_is za zb X
                  clear hcl hlt
                  cases hnl : noLess zb za
                  · rw [hnl] at hle
                    have HN2:=hid (HNX.out hnl)
                    clear hnl
                    go_wp2_with fail
                    go_quiet (fail)
                    have HBd:=hid (below_drawn_of HBs.out nq)
                    have HEd:=hid (show (wr.drewN nq).heap[w.heap.size]? = _ from HEs.out)
                    go_wp2_with fail
                    go_roundw
                    case rel=>first | exact ⟨j + 1 + 1,by omega,Or.inl HLT.out,nr_idx (j + 1),HN2,HBd,HEd⟩ | exact ⟨j + 1 + 1,by omega,Or.inl HLT.out,nx_idx HLT.out (by omega),HN2,HBd,HEd⟩
                    case measure=>first | exact nr_meas HLT.out | exact nx_meas HLT.out (by omega)
                  · rw [hnl] at hle
                    have HX2:=hid (HX.out.trans (HBD.out hnl))
                    clear hnl
                    go_wp2_with fail
                    go_quiet (fail)
                    have HBd:=hid (below_drawn_of HBs.out nq)
                    go_wp2_with fail
                    go_ret
                    exact ⟨by rw [HX2.out]; rfl,HBd.out⟩
                · have hkI2 : ¬ (k2 : Int) < (eP.length : Int):=by omega
                  have HX2:=hid (HX.out.trans (pk_rise HP10.out HNO.out (rsT_of fun j h=>HA2.out j h (by omega))))
                  clear hlt
                  go_wp2_with fail
                  go_ret
                  exact ⟨by rw [HX2.out]; rfl,HBs.out⟩
      · have HX:=hid (HXR.out.trans (entR_req HF.out hc))
        have hpos : (0 : Int) < ((codeE (reqE p eR) eR.length : Nat) : Int):=by omega
        generalize codeE (reqE p eR) eR.length = cd at *
        clear hc
        go_wp2_with fail
        refine HRQ.out.mono ?_
        rintro e wy ⟨rfl,hb⟩
        have HBy:=hid (HBz.out.trans (hb.mono HBz.out.size))
        clear hb
        go_wp2_with fail
        go_ret
        exact ⟨by rw [HX.out]; rfl,HBy.out⟩
  · have HX:=hid (entW_bad (o:=none) (e:=((p,q),eR,eP,bk)) h)
    have hpos : (0 : Int) < ((mErr (p,q) : Nat) : Int):=by omega
    generalize mErr (p,q) = z at *
    clear h hme
    go_enter Tryz.func110,Tryz.ntmps110
    go_wp2_with fail
    refine HM.out.mono ?_
    rintro e wz ⟨rfl,hb⟩
    have HBz:=hid (HB0.out.trans (hb.mono HB0.out.size))
    clear hb HM
    go_wp2_with fail
    go_ret
    exact ⟨by rw [HX.out]; rfl,HBz.out⟩
set_option maxRecDepth 100000 in
set_option maxHeartbeats 16000000 in
theorem entE1_any (Q : List Raw) (L : List Ent) (b o c : Nat) (w : World) (sh : ∀ e, e ∈ L → ShE e) (I : Ixs w (.slice (some ⟨b, o, none⟩) Q.length c) Q L) (k : Nat) (h0 : k + 1 < L.length) (hn : L.length ≤ 1000) :
    Calls Tryz.prog 110 #[.slice (some ⟨b,o,none⟩) Q.length c,.int .i64 ((k + 1 : Nat) : Int)] w fun e w'=>e = .returned (.int .i64 (entE L (k + 1) : Nat)) /\ Below w.heap.size w w':=by
  have hq : k + 1 < Q.length:=by rw [I.ln]; exact h0
  obtain ⟨hsl,x0,x1,x2,x3,x4⟩:=es_all I.es hq
  have hqk : k < Q.length:=by omega
  have hlk : k < L.length:=by omega
  obtain ⟨_,u0,u1,_,_,_⟩:=es_all I.es hqk
  have HPM:=hid (show Q[k].1 = L[k].1 from (I.ok k hqk hlk).m)
  have HSK:=hid (sh L[k] (List.getElem_mem hlk))
  have hok:=fun W (h : Below w.heap.size w W)=>(I.below h).ok (k + 1) hq h0
  have HSH:=hid (sh L[k + 1] (List.getElem_mem h0))
  rw [entE_1 h0]
  generalize Q[k + 1] = r at *
  generalize L[k + 1] = en at *
  have hpv : (L[k]'hlk).1.2.size < 999999:=HSK.out.v
  rw [<- HPM.out] at hpv ⊢
  generalize (Q[k]'hqk).1 = pm at *
  obtain ⟨pp,pq⟩:=pm
  simp only at u0 u1 hpv
  obtain ⟨⟨p,q⟩,rv,pv,bk⟩:=r
  obtain ⟨⟨p',q'⟩,eR,eP,bk'⟩:=en
  obtain ⟨hm,hrq,hpk,hbk⟩:=hok w (Below.refl _ _)
  simp only at hm hrq hpk hbk
  injection hm with hm1 hm2
  subst hm1 hm2 hbk
  obtain ⟨ra,rc,hrv,-⟩:=id hrq
  obtain ⟨pa,pc,hpv9,-⟩:=id hpk
  subst hrv hpv9
  have HRM:=hid (fun W (h : Below w.heap.size w W)=>hrq.below h)
  have HTX:=hid (fun W (h : Below w.heap.size w W)=>hpk.below h)
  have hqI : ((k + 1 : Nat) : Int) < (Q.length : Int):=by omega
  have hqJ : (0 : Int) <= ((k + 1 : Nat) : Int):=by omega
  have hqK : (0 : Int) < ((k + 1 : Nat) : Int):=by omega
  have hqL : ((k + 1 : Nat) : Int) - 1 = (k : Int):=by omega
  have hqM : (k : Int) < (Q.length : Int):=by omega
  have hqN : (0 : Int) <= (k : Int):=by omega
  have hwp : IntKind.i64.wrap (k : Int) = (k : Int):=by rw [IntKind.wrap_i64]; omega
  have hqO : (k : Int) + 1 - 1 = (k : Int):=by omega
  have hqP : (k : Int) + 1 < (Q.length : Int):=by omega
  have hqR : (0 : Int) <= (k : Int) + 1:=by omega
  have hqS : (0 : Int) < (k : Int) + 1:=by omega
  have hqT : ((k : Int) + 1).toNat = k + 1:=by omega
  clear I sh h0 hok hrq hpk hsl
  have HB0:=hid ((Below.refl w.heap.size w).alloc (Nat.le_refl _) (.cells #[.string p,.string q,.slice ra eR.length rc,.slice pa eP.length pc,.bool bk] 45))
  have HE0:=hid (heap_new w (.cells #[.string p,.string q,.slice ra eR.length rc,.slice pa eP.length pc,.bool bk] 45))
  have HM:=hid (modError_any p q (w.alloc (.cells #[.string p,.string q,.slice ra eR.length rc,.slice pa eP.length pc,.bool bk] 45)) (by have:=HSH.out.p; simp only at this; omega) (by have:=HSH.out.v; simp only at this; omega))
  have hme : mErr (p,q) = modErr p.data.toList q.data.toList:=rfl
  rw [<- hme] at HM
  by_cases h : mErr (p,q) = 0
  · have H0 := hid h
    rw [h] at HM
    clear h hme
    go_enter Tryz.func110,Tryz.ntmps110
    go_wp2_with fail
    refine HM.out.mono ?_
    rintro e wx ⟨rfl,hb⟩
    have HBx:=hid (HB0.out.trans (hb.mono HB0.out.size))
    have HEx:=hid (show wx.heap[w.heap.size]? = some (.cells #[.string p,.string q,.slice ra eR.length rc,.slice pa eP.length pc,.bool bk] 45 (0,0)) by rw [hb.block _ (lt_of_blk HE0.out)]; exact HE0.out)
    clear hb HM
    have HIA:=hid (fun W=>isA_any (pp,pq) (p,q) W hpv (by have:=HSH.out.v; simp only at this ⊢; omega))
    have g0:=cell_below HBx.out u0
    have g1:=cell_below HBx.out u1
    have f0 : wx.cell? ⟨w.heap.size,0,none⟩ = some (.string p):=by rw [Lib.cell_of_heap HEx.out]; rfl
    have f1 : wx.cell? ⟨w.heap.size,1,none⟩ = some (.string q):=by rw [Lib.cell_of_heap HEx.out]; rfl
    have HT:=hid (fun W' (hW : Below wx.heap.size wx W')=>(show (fun W'=>W'.cell? ⟨b,o + k * 5,none⟩ = some (.string pp) /\ W'.cell? ⟨b,o + k * 5 + 1,none⟩ = some (.string pq) /\ W'.cell? ⟨w.heap.size,0,none⟩ = some (.string p) /\ W'.cell? ⟨w.heap.size,1,none⟩ = some (.string q) /\ Hid (Below wx.heap.size wx W')) W' from ⟨cell_below hW g0,cell_below hW g1,cell_below hW f0,cell_below hW f1,hid hW⟩))
    cases hah : mAhead (pp,pq) (p,q)
    · have HX:=hid (entW_order (p:=(pp,pq)) (e:=((p,q),eR,eP,bk)) H0.out hah)
      rw [hah] at HIA
      clear hah
      go_wp2_with fail
      go_region_held (fun W'=>W'.cell? ⟨b,o + k * 5,none⟩ = some (.string pp) /\ W'.cell? ⟨b,o + k * 5 + 1,none⟩ = some (.string pq) /\ W'.cell? ⟨w.heap.size,0,none⟩ = some (.string p) /\ W'.cell? ⟨w.heap.size,1,none⟩ = some (.string q) /\ Hid (Below wx.heap.size wx W')) (first | exact HT.out _ HRa.out | exact HT.out _ (below_drawn _ 1)) (first
        | (go_at_call 149; refine (HIA.out _).mono ?_; rintro e w' ⟨rfl,hb⟩; have HRa:=hid ((below_drawn wx 1).trans (hb.mono (Nat.le_refl _))); clear hb))
      all_goals
        have HBz:=hid (HBx.out.trans (HRa.out.mono HBx.out.size))
        go_wp2_with fail
        go_ret
        exact ⟨by rw [HX.out]; rfl,HBz.out⟩
    · have HXR := hid (entW_some (p := (pp, pq)) (e := ((p, q), eR, eP, bk)) H0.out hah)
      rw [hah] at HIA
      clear hah
      go_wp2_with fail
      go_region_held (fun W'=>W'.cell? ⟨b,o + k * 5,none⟩ = some (.string pp) /\ W'.cell? ⟨b,o + k * 5 + 1,none⟩ = some (.string pq) /\ W'.cell? ⟨w.heap.size,0,none⟩ = some (.string p) /\ W'.cell? ⟨w.heap.size,1,none⟩ = some (.string q) /\ Hid (Below wx.heap.size wx W')) (first | exact HT.out _ HRa.out | exact HT.out _ (below_drawn _ 1)) (first
        | (go_at_call 149; refine (HIA.out _).mono ?_; rintro e w' ⟨rfl,hb⟩; have HRa:=hid ((below_drawn wx 1).trans (hb.mono (Nat.le_refl _))); clear hb))
      all_goals
        have HBz:=hid (HBx.out.trans (HRa.out.mono HBx.out.size))
        obtain ⟨wz,hwz⟩ : ∃ wz,w' = wz:=⟨_,rfl⟩
        rw [hwz] at HBz ⊢
        have HEz:=hid (show wz.heap[w.heap.size]? = some (.cells #[.string p,.string q,.slice ra eR.length rc,.slice pa eP.length pc,.bool bk] 45 (0,0)) by rw [<- hwz,HRa.out.block _ (lt_of_blk HEx.out)]; exact HEx.out)
        clear hwz g0 g1 f0 f1
        have z0 : wz.cell? ⟨w.heap.size,0,none⟩ = some (.string p):=by rw [Lib.cell_of_heap HEz.out]; rfl
        have z1 : wz.cell? ⟨w.heap.size,1,none⟩ = some (.string q):=by rw [Lib.cell_of_heap HEz.out]; rfl
        have z2 : wz.cell? ⟨w.heap.size,2,none⟩ = some (.slice ra eR.length rc):=by rw [Lib.cell_of_heap HEz.out]; rfl
        have z3 : wz.cell? ⟨w.heap.size,3,none⟩ = some (.slice pa eP.length pc):=by rw [Lib.cell_of_heap HEz.out]; rfl
        have z4 : wz.cell? ⟨w.heap.size,4,none⟩ = some (.bool bk):=by rw [Lib.cell_of_heap HEz.out]; rfl
        by_cases hf : 20 < eR.length
        · have q2 : (20 : Int) < (eR.length : Int):=by omega
          have HX:=hid (HXR.out.trans (entR_full hf))
          clear hf
          go_wp2_with fail
          go_ret
          exact ⟨by rw [HX.out]; rfl,HBz.out⟩
        · have q2 : ¬ (20 : Int) < (eR.length : Int) := by omega
          have HF:=hid hf
          have HRQ:=hid (reqsE_any p eR _ wz HSH.out.rn HSH.out.rs (HRM.out _ HBz.out))
          rw [reqsR_code] at HRQ
          clear hf
          by_cases hc : codeE (reqE p eR) eR.length = 0
          · have HX := hid (HXR.out.trans (entR_pack HF.out hc))
            rw [hc] at HRQ
            clear hc
            go_wp2_with fail
            refine HRQ.out.mono ?_
            rintro e wy ⟨rfl,hb⟩
            have HBy:=hid (HBz.out.trans (hb.mono HBz.out.size))
            have HEy:=hid (show wy.heap[w.heap.size]? = some (.cells #[.string p,.string q,.slice ra eR.length rc,.slice pa eP.length pc,.bool bk] 45 (0,0)) by rw [hb.block _ (lt_of_blk HEz.out)]; exact HEz.out)
            clear hb z0 z1 z2 z3 z4 HRQ
            have y0 : wy.cell? ⟨w.heap.size,0,none⟩ = some (.string p):=by rw [Lib.cell_of_heap HEy.out]; rfl
            have y1 : wy.cell? ⟨w.heap.size,1,none⟩ = some (.string q):=by rw [Lib.cell_of_heap HEy.out]; rfl
            have y2 : wy.cell? ⟨w.heap.size,2,none⟩ = some (.slice ra eR.length rc):=by rw [Lib.cell_of_heap HEy.out]; rfl
            have y3 : wy.cell? ⟨w.heap.size,3,none⟩ = some (.slice pa eP.length pc):=by rw [Lib.cell_of_heap HEy.out]; rfl
            have y4 : wy.cell? ⟨w.heap.size,4,none⟩ = some (.bool bk):=by rw [Lib.cell_of_heap HEy.out]; rfl
            by_cases hp10 : 10 < eP.length
            · have q3 : (10 : Int) < (eP.length : Int):=by omega
              have HX2:=hid (HX.out.trans (pk_full (by rw [bl_len]; exact hp10)))
              clear hp10
              go_wp2_with fail
              go_ret
              exact ⟨by rw [HX2.out]; rfl,HBy.out⟩
            · have q3 : ¬ (10 : Int) < (eP.length : Int) := by omega
              have HP10:=hid (show ¬ 10 < (bl eP).length by rw [bl_len]; exact hp10)
              have hpl : eP.length <= 10:=by omega
              clear hp10
              go_wp2_with fail
              go_loopw [8] (fun kv wr=>∃ k : Nat,k <= eP.length /\ kv = .int .i64 k /\ Hid (∀ j (h : j < eP.length),j < k -> noPk eP[j].data.toList = false) /\ Hid (Below w.heap.size w wr) /\ Hid (wr.heap[w.heap.size]? = some (.cells #[.string p,.string q,.slice ra eR.length rc,.slice pa eP.length pc,.bool bk] 45 (0,0)))) (fun kv _=>eP.length - (intOf kv).toNat)
              case atStart=>exact ⟨0,Nat.zero_le _,rfl,hid (fun j _ h=>absurd h (Nat.not_lt_zero _)),HBy,HEy⟩
              case round=>
                clear y0 y1 y2 y3 y4
                obtain ⟨k,hk,rfl,HA,HBr,HEr⟩:=hrel
                have r0 : wr.cell? ⟨w.heap.size,0,none⟩ = some (.string p):=by rw [Lib.cell_of_heap HEr.out]; rfl
                have r1 : wr.cell? ⟨w.heap.size,1,none⟩ = some (.string q):=by rw [Lib.cell_of_heap HEr.out]; rfl
                have r2 : wr.cell? ⟨w.heap.size,2,none⟩ = some (.slice ra eR.length rc):=by rw [Lib.cell_of_heap HEr.out]; rfl
                have r3 : wr.cell? ⟨w.heap.size,3,none⟩ = some (.slice pa eP.length pc):=by rw [Lib.cell_of_heap HEr.out]; rfl
                have r4 : wr.cell? ⟨w.heap.size,4,none⟩ = some (.bool bk):=by rw [Lib.cell_of_heap HEr.out]; rfl
                by_cases hlt : k < eP.length
                · have hkI : (k : Int) < (eP.length : Int):=by omega
                  have hk0 : (0 : Int) <= (k : Int):=by omega
                  obtain ⟨pb,po,hpa,hcl⟩:=(HTX.out _ HBr.out).cells hlt
                  have t0:=hcl k hlt
                  subst hpa
                  have HLT:=hid hlt
                  have hsz:=HSH.out.ps eP[k] (List.getElem_mem hlt)
                  have HNX:=hid (show noPk eP[k].data.toList = false -> ∀ j (h : j < eP.length),j < k + 1 -> noPk eP[j].data.toList = false from fun h0 j h1 h3=>by
                    rcases Nat.lt_or_ge j k with h | h
                    · exact HA.out j h1 h
                    · have : j = k:=by omega
                      subst this; exact h0)
                  have HBD:=hid (show noPk eP[k].data.toList = true -> packErr (bl eP) = 1 from fun h=>pk_text HP10.out (any_noPk' hlt h))
                  generalize eP[k] = z at *
                  clear hcl hlt
                  by_cases hdot : z = ⟨#[46]⟩
                  · subst hdot
                    have s0 : ((⟨#[46]⟩ : ByteArray).toList == (⟨#[46]⟩ : ByteArray).toList) = true:=by simp
                    have HN2:=hid (HNX.out (by decide))
                    go_wp2_with fail
                    go_roundw
                    case rel=>first | exact ⟨k + 1,HLT.out,nr_idx k,HN2,HBr,HEr⟩ | exact ⟨k + 1,HLT.out,nx_idx HLT.out (by omega),HN2,HBr,HEr⟩
                    case measure=>first | exact nr_meas HLT.out | exact nx_meas HLT.out (by omega)
                  · have hqd : (z.toList == [46]) = false:=by rw [ByteArray.toList_eq]; exact beq_eq_false_iff_ne.2 (fun e=>hdot (str_ext (by rw [e])))
                    have hd2 : z.data.toList ≠ [46]:=fun e=>hdot (str_ext (by rw [e]))
                    have HPE:=hid (fun W=>pathError_any z W (by omega))
                    by_cases hpe : pathErr z.data.toList = 0
                    · rw [hpe] at HPE
                      have HN2:=hid (HNX.out (by unfold noPk; simp [hpe]))
                      clear hpe hd2 hdot
                      go_wp2_with fail
                      refine (HPE.out _).mono ?_
                      rintro e wv ⟨rfl,hb⟩
                      have HBv:=hid (HBr.out.trans (hb.mono HBr.out.size))
                      have HEv:=hid ((hb.block _ (lt_of_blk HEr.out)).trans HEr.out)
                      clear hb
                      go_wp2_with fail
                      go_roundw
                      case rel=>first | exact ⟨k + 1,HLT.out,nr_idx k,HN2,HBv,HEv⟩ | exact ⟨k + 1,HLT.out,nx_idx HLT.out (by omega),HN2,HBv,HEv⟩
                      case measure=>first | exact nr_meas HLT.out | exact nx_meas HLT.out (by omega)
                    · have HX2:=hid (HX.out.trans (HBD.out (by unfold noPk; simp [hpe,hd2])))
                      have hpos : (0 : Int) < ((pathErr z.data.toList : Nat) : Int):=by omega
                      generalize pathErr z.data.toList = pe at *
                      clear hpe hd2 hdot
                      go_wp2_with fail
                      refine (HPE.out _).mono ?_
                      rintro e wv ⟨rfl,hb⟩
                      have HBv:=hid (HBr.out.trans (hb.mono HBr.out.size))
                      clear hb
                      go_wp2_with fail
                      go_ret
                      exact ⟨by rw [HX2.out]; rfl,HBv.out⟩
                · have hkI : ¬ (k : Int) < (eP.length : Int):=by omega
                  have HNO:=hid (show (bl eP).any noPk = false from any_noPk fun j h=>HA.out j h (by omega))
                  clear hlt
                  go_wp2_with fail
                  go_loopw [9] (fun kv wr=>∃ k : Nat,1 <= k /\ (k <= eP.length \/ k = 1) /\ kv = .int .i64 k /\ Hid (∀ j (h : j + 1 < eP.length),j + 1 < k -> noLess eP[j] eP[j + 1] = false) /\ Hid (Below w.heap.size w wr) /\ Hid (wr.heap[w.heap.size]? = some (.cells #[.string p,.string q,.slice ra eR.length rc,.slice pa eP.length pc,.bool bk] 45 (0,0)))) (fun kv _=>eP.length - (intOf kv).toNat)
                  case atStart=>exact ⟨1,Nat.le_refl _,Or.inr rfl,rfl,hid (fun j _ h=>by omega),HBr,HEr⟩
                  case round=>
                    clear r0 r1 r2 r3 r4
                    obtain ⟨k2,hk1,hk2,rfl,HA2,HBs,HEs⟩:=hrel
                    have s0 : wr.cell? ⟨w.heap.size,0,none⟩ = some (.string p):=by rw [Lib.cell_of_heap HEs.out]; rfl
                    have s1 : wr.cell? ⟨w.heap.size,1,none⟩ = some (.string q):=by rw [Lib.cell_of_heap HEs.out]; rfl
                    have s2 : wr.cell? ⟨w.heap.size,2,none⟩ = some (.slice ra eR.length rc):=by rw [Lib.cell_of_heap HEs.out]; rfl
                    have s3 : wr.cell? ⟨w.heap.size,3,none⟩ = some (.slice pa eP.length pc):=by rw [Lib.cell_of_heap HEs.out]; rfl
                    have s4 : wr.cell? ⟨w.heap.size,4,none⟩ = some (.bool bk):=by rw [Lib.cell_of_heap HEs.out]; rfl
                    by_cases hlt : k2 < eP.length
                    · obtain ⟨j,rfl⟩ : ∃ j,k2 = j + 1:=⟨k2 - 1,by omega⟩
                      have hkI2 : ((j + 1 : Nat) : Int) < (eP.length : Int):=by omega
                      have hkI3 : (j : Int) < (eP.length : Int):=by omega
                      have hk00 : (0 : Int) <= ((j + 1 : Nat) : Int):=by omega
                      have hk01 : (0 : Int) <= (j : Int):=by omega
                      have hk02 : ((j + 1 : Nat) : Int) - 1 = (j : Int):=by omega
                      have hwp : IntKind.i64.wrap (j : Int) = (j : Int):=by rw [IntKind.wrap_i64]; omega
                      have hk03 : (j : Int) + 1 - 1 = (j : Int):=by omega
                      obtain ⟨pb,po,hpa,hcl⟩:=(HTX.out _ HBs.out).cells hlt
                      have t0:=hcl (j + 1) hlt
                      have t1:=hcl j (by omega)
                      subst hpa
                      have HLT:=hid hlt
                      have HNX:=hid (show noLess eP[j] eP[j + 1] = false -> ∀ i (h : i + 1 < eP.length),i + 1 < j + 1 + 1 -> noLess eP[i] eP[i + 1] = false from fun h0 i h1 h3=>by
                        rcases Nat.lt_or_ge i j with h | h
                        · exact HA2.out i h1 (by omega)
                        · have : i = j:=by omega
                          subst this; exact h0)
                      have HBD:=hid (show noLess eP[j] eP[j + 1] = true -> packErr (bl eP) = 8 from fun h=>pk_fall HP10.out HNO.out (rsT_not hlt h))
                      generalize eP[j + 1] = za at *
                      generalize eP[j] = zb at *
                      have hle:=fun X=>leq_is za zb X
                      clear hcl hlt
                      cases hnl : noLess zb za
                      · rw [hnl] at hle
                        have HN2:=hid (HNX.out hnl)
                        clear hnl
                        go_wp2_with fail
                        go_quiet (fail)
                        have HBd:=hid (below_drawn_of HBs.out nq)
                        have HEd:=hid (show (wr.drewN nq).heap[w.heap.size]? = _ from HEs.out)
                        go_wp2_with fail
                        go_roundw
                        case rel=>first | exact ⟨j + 1 + 1,by omega,Or.inl HLT.out,nr_idx (j + 1),HN2,HBd,HEd⟩ | exact ⟨j + 1 + 1,by omega,Or.inl HLT.out,nx_idx HLT.out (by omega),HN2,HBd,HEd⟩
                        case measure=>first | exact nr_meas HLT.out | exact nx_meas HLT.out (by omega)
                      · rw [hnl] at hle
                        have HX2:=hid (HX.out.trans (HBD.out hnl))
                        clear hnl
                        go_wp2_with fail
                        go_quiet (fail)
                        have HBd:=hid (below_drawn_of HBs.out nq)
                        go_wp2_with fail
                        go_ret
                        exact ⟨by rw [HX2.out]; rfl,HBd.out⟩
                    · have hkI2 : ¬ (k2 : Int) < (eP.length : Int):=by omega
                      have HX2:=hid (HX.out.trans (pk_rise HP10.out HNO.out (rsT_of fun j h=>HA2.out j h (by omega))))
                      clear hlt
                      go_wp2_with fail
                      go_ret
                      exact ⟨by rw [HX2.out]; rfl,HBs.out⟩
          · have HX:=hid (HXR.out.trans (entR_req HF.out hc))
            have hpos : (0 : Int) < ((codeE (reqE p eR) eR.length : Nat) : Int):=by omega
            generalize codeE (reqE p eR) eR.length = cd at *
            clear hc
            go_wp2_with fail
            refine HRQ.out.mono ?_
            rintro e wy ⟨rfl,hb⟩
            have HBy:=hid (HBz.out.trans (hb.mono HBz.out.size))
            clear hb
            go_wp2_with fail
            go_ret
            exact ⟨by rw [HX.out]; rfl,HBy.out⟩
  · have HX:=hid (entW_bad (o:=some (pp,pq)) (e:=((p,q),eR,eP,bk)) h)
    have hpos : (0 : Int) < ((mErr (p,q) : Nat) : Int):=by omega
    generalize mErr (p,q) = z at *
    clear h hme
    go_enter Tryz.func110,Tryz.ntmps110
    go_wp2_with fail
    refine HM.out.mono ?_
    rintro e wz ⟨rfl,hb⟩
    have HBz:=hid (HB0.out.trans (hb.mono HB0.out.size))
    clear hb HM
    go_wp2_with fail
    go_ret
    exact ⟨by rw [HX.out]; rfl,HBz.out⟩
theorem entE_any (Q : List Raw) (L : List Ent) (v : Value) (i : Nat) (w : World) (hn : L.length <= 1000) (sh : ∀ e,e ∈ L -> ShE e) (I : Ixs w v Q L) (h0 : i < L.length) :
    Calls Tryz.prog 110 #[v,.int .i64 (i : Int)] w fun e w'=>e = .returned (.int .i64 (entE L i : Nat)) /\ Below w.heap.size w w':=by
  obtain ⟨a,c,rfl,_,_,h⟩:=id I.es
  obtain ⟨b,o,rfl,_⟩:=h (by intro e; have:=I.ln; rw [e] at this; simp at this; omega)
  cases i with
  | zero=>exact entE0_any Q L b o c w sh I h0
  | succ k=>exact entE1_any Q L b o c w sh I k h0 hn
end Ve
end Go.Proofs.YtlcffhadobhfkaaGreatDoor
