/-
  RefL RefM
-/
import Derived.Test.YtlcffhadobhfkaaGreatDoorMq2
import Derived.Test.YtlcffhadobhfkaaGreatDoorMq5
import Derived.Test.YtlcffhadobhfkaaGreatDoorMq6
import Derived.Test.YtlcffhadobhfkaaGreatDoorMq3
import Derived.Test.YtlcffhadobhfkaaGreatDoorMq8
import Derived.Test.YtlcffhadobhfkaaGreatDoorMq11
import Derived.Test.YtlcffhadobhfkaaGreatDoorMq13
import Derived.Test.YtlcffhadobhfkaaGreatDoorMq16
import Derived.Test.YtlcffhadobhfkaaGreatDoorMq9
import Derived.Test.YtlcffhadobhfkaaGreatDoorMq4
import Derived.Test.YtlcffhadobhfkaaGreatDoorMq24
import Derived.Test.YtlcffhadobhfkaaGreatDoorMq18
import Derived.Test.YtlcffhadobhfkaaGreatDoorMq27
namespace Go.Proofs.YtlcffhadobhfkaaGreatDoor
open Go.RowKit
namespace Ve
def splitH (l : List UInt8) : List UInt8:=if pathErr l = 0 then pathH l else []
def splitN (l : List UInt8) : Int:=if pathErr l = 0 then pathN l else 0
theorem suf_fits {l : List UInt8} (h : pathErr l = 0) (hs : sufE l = true) : sufOk (lastOf l) = true:=by
  cases ho : sufOk (lastOf l)
  · exfalso
    unfold pathErr at h
    cases hb : badE l
    · rw [hb] at h
      cases hl : longE l
      · rw [hl,hs,ho] at h; cases h
      · rw [hl] at h; cases h
    · rw [hb] at h; cases h
  · rfl
theorem split_none {l : List UInt8} (h : pathErr l = 0) (he : elems l = [l]) : splitH l = l /\ splitN l = 0:=by
  have hu : sufE l = false:=by unfold sufE; rw [he]; rfl
  unfold splitH splitN pathH pathN
  rw [if_pos h,if_pos h,hu]
  exact ⟨rfl,rfl⟩
theorem split_pos {l : List UInt8} {k : Nat} (h : pathErr l = 0) (he : elems l = elems (l.take k) ++ [l.drop (k + 1)]) (hn : 0 < sufV (l.drop (k + 1))) : splitH l = l.take k /\ splitN l = sufV (l.drop (k + 1)):=by
  obtain ⟨h1,h2,h3⟩:=slash_last he
  rw [<- h2] at hn ⊢
  have hk : likeB (lastOf l) = true:=by
    cases e : likeB (lastOf l)
    · unfold sufV at hn; rw [e] at hn; simp at hn
    · rfl
  have hu : sufE l = true:=by unfold sufE; rw [hk,decide_eq_true h1]; rfl
  have ho:=suf_fits h hu
  have hv : sufV (lastOf l) = (num (restOf (lastOf l))).1:=by unfold sufV; rw [hk,ho]; rfl
  unfold splitH splitN pathH pathN
  rw [if_pos h,if_pos h,hu,hv]
  exact ⟨h3,rfl⟩
theorem split_zero {l : List UInt8} {k : Nat} (h : pathErr l = 0) (he : elems l = elems (l.take k) ++ [l.drop (k + 1)]) (hn : ¬ 0 < sufV (l.drop (k + 1))) : splitH l = l /\ splitN l = 0:=by
  obtain ⟨h1,h2,h3⟩:=slash_last he
  rw [<- h2] at hn
  have hu : sufE l = false:=by
    cases e : sufE l
    · rfl
    · exfalso
      have ho:=suf_fits h e
      have hk : likeB (lastOf l) = true:=by
        unfold sufE at e
        simp only [Bool.and_eq_true] at e
        exact e.2
      have hv : sufV (lastOf l) = (num (restOf (lastOf l))).1:=by unfold sufV; rw [hk,ho]; rfl
      have:=suf_pos ho
      omega
  unfold splitH splitN pathH pathN
  rw [if_pos h,if_pos h,hu]
  exact ⟨rfl,rfl⟩
theorem slash_is {c : UInt8} : ((c.toNat : Int) == 47) = true ↔ c = 47:=by
  rw [beq_iff_eq]
  have : (47 : UInt8).toNat = 47:=rfl
  constructor
  · intro h; exact UInt8.toNat_inj.1 (by omega)
  · intro h; rw [h]; rfl
set_option maxRecDepth 100000 in
set_option maxHeartbeats 4000000 in
theorem splitPath_any (s : ByteArray) (w : World) (hs : s.size < 4294967281) :
    Calls Tryz.prog 73 #[.string s] w fun e w'=>∃ H : ByteArray,e = .returned (.tuple #[.string H,.int .i64 (splitN s.data.toList)]) /\ H.data.toList = splitH s.data.toList /\ Below w.heap.size w w':=by
  have HP:=hid (pathError_any s w hs)
  by_cases h0 : pathErr s.data.toList = 0
  · have H0:=hid h0
    rw [h0] at HP
    clear h0
    go_enter Tryz.func73,Tryz.ntmps73
    go_wp2_with fail
    refine HP.out.mono ?_
    rintro e w1 ⟨rfl,hb⟩
    have HB:=hid hb
    clear hb
    go_wp2_with fail
    go_loop [4] (fun i=>∃ j : Nat,j <= s.size /\ i = .int .i64 ((j : Int) - 1) /\ Hid (∀ t (ht : t < s.size),j <= t -> s[t] ≠ 47)) (fun i=>(intOf i + 1).toNat)
    case atStart=>exact ⟨s.size,Nat.le_refl _,rfl,hid (fun t ht h=>absurd ht (by omega))⟩
    case round=>
      obtain ⟨j,hj,rfl,HN⟩:=hrel
      by_cases hz : j = 0
      · subst hz
        have HR:=hid (split_none H0.out (slash_none (fun t ht=>HN.out t (by simpa using ht) (Nat.zero_le _))))
        go_wp2_with fail
        go_ret2
        exact ⟨s,by rw [HR.out.2]; rfl,HR.out.1.symm,HB.out⟩
      · obtain ⟨k,rfl⟩ : ∃ k,j = k + 1:=⟨j - 1,by omega⟩
        have hki : ((k + 1 : Nat) : Int) - 1 = (k : Int):=by omega
        rw [hki]
        have hlt : k < s.size:=by omega
        have hkb:=s[k].toNat_lt
        have h0k : (0 : Int) <= (k : Int):=by omega
        cases hc : ((s[k].toNat : Int) == 47)
        · have hcn : ((s[k].toNat : Int) != 47) = true:=by rw [bne,hc]; rfl
          have hcp : ¬ (s[k].toNat : Int) = 47:=by simpa using hc
          have HN2:=hid (show ∀ t (ht : t < s.size),k <= t -> s[t] ≠ 47 from fun t ht h=>by
            by_cases e : t = k
            · subst e; intro h2; rw [slash_is.2 h2] at hc; cases hc
            · exact HN.out t ht (by omega))
          go_wp2_with fail
          go_round
          case rel=>exact ⟨k,by omega,by go_num,HN2⟩
          case measure=>(simp [intOf]; try omega)
        · have hcn : ((s[k].toNat : Int) != 47) = false:=by rw [bne,hc]; rfl
          have hcp : (s[k].toNat : Int) = 47:=by simpa using hc
          have HSP:=hid (slash_split (l:=s.data.toList) (k:=k) (by simpa using hlt) (slash_is.1 hc) (fun t ht h=>HN.out t (by simpa using ht) (by omega)))
          have HT:=hid (show (s.extract (k + 1) s.size).data.toList = s.data.toList.drop (k + 1) from ext_drop s (k + 1))
          have hTs : (s.extract (k + 1) s.size).size <= maxLen:=by rw [ByteArray.size_extract]; unfold maxLen; omega
          have HSU:=hid (suffixOf_any (s.extract (k + 1) s.size) w1 hTs)
          rw [HT.out] at HSU
          have s1 : (0 : Int) <= (k : Int) + 1:=by omega
          have s2 : (k : Int) + 1 <= (s.size : Int):=by omega
          have s3 : (k : Int) <= (s.size : Int):=by omega
          have HK:=hid (show (s.extract 0 k).data.toList = s.data.toList.take k by rw [extract_list]; simp)
          by_cases hn : 0 < sufV (s.data.toList.drop (k + 1))
          · have HR:=hid (split_pos H0.out HSP.out hn)
            generalize sufV (s.data.toList.drop (k + 1)) = n at *
            go_wp2_with fail
            refine HSU.out.mono ?_
            rintro e w' ⟨rfl,rfl⟩
            go_wp2_with fail
            go_ret2
            exact ⟨s.extract 0 k,by rw [HR.out.2]; rfl,HK.out.trans HR.out.1.symm,HB.out⟩
          · have HR:=hid (split_zero H0.out HSP.out hn)
            generalize sufV (s.data.toList.drop (k + 1)) = n at *
            go_wp2_with fail
            refine HSU.out.mono ?_
            rintro e w' ⟨rfl,rfl⟩
            go_wp2_with fail
            go_ret2
            exact ⟨s,by rw [HR.out.2]; rfl,HR.out.1.symm,HB.out⟩
  · have HR:=hid (show splitH s.data.toList = [] /\ splitN s.data.toList = 0 from ⟨by unfold splitH; rw [if_neg h0],by unfold splitN; rw [if_neg h0]⟩)
    rw [HR.out.2]
    have hpos : (0 : Int) < (pathErr s.data.toList : Int):=by omega
    generalize (pathErr s.data.toList : Int) = c at *
    clear h0
    go_enter Tryz.func73,Tryz.ntmps73
    go_wp2_with fail
    refine HP.out.mono ?_
    rintro e w1 ⟨rfl,hb⟩
    have HB:=hid hb
    clear hb
    go_wp2_with fail
    go_ret2
    exact ⟨⟨#[]⟩,rfl,HR.out.1.symm,HB.out⟩
theorem n0_pos {l : List UInt8} (h : verErr l = 0) : 0 <= nAt l 0 /\ nAt l 0 <= 999999:=by
  unfold verErr at h
  by_cases hc : marked l = false \/ (coreOf l).length ≠ 3
  · rw [if_pos hc] at h; omega
  rw [if_neg hc] at h
  have h3 : (coreOf l).length = 3:=by
    rcases Nat.decEq (coreOf l).length 3 with h | h
    · exact absurd (Or.inr h) hc
    · exact h
  have hn : numsErr (coreOf l) = 0:=by
    cases e : hasPre l
    · rw [e] at h; exact h
    · rw [e] at h
      have h' : worse (numsErr (coreOf l)) (pre (preOf l)) = 0:=h
      unfold worse at h'
      by_cases q : numsErr (coreOf l) = 1 \/ pre (preOf l) = 0
      · rw [if_pos q] at h'; exact h'
      · rw [if_neg q] at h'; exact absurd (Or.inr h') q
  obtain ⟨p0,p1,p2,hco⟩ : ∃ p0 p1 p2,coreOf l = [p0,p1,p2]:=by
    match e : coreOf l,h3 with
    | [a,b,c],_=>exact ⟨a,b,c,rfl⟩
  have hz:=ncode0 hn
  rw [hco] at hz
  have n0 : nAt l 0 = (num p0).1:=by simp [nAt,numsOf,hco]
  obtain ⟨_,l0,u0⟩:=itoa_num p0 (hz p0 (by simp))
  rw [n0]; exact ⟨l0,u0⟩
theorem pathN_is {l : List UInt8} (h : pathErr l = 0) : pathN l = 0 \/ 2 <= pathN l:=by
  unfold pathN
  cases hu : sufE l
  · left; rfl
  · right; exact suf_pos (suf_fits h hu)
set_option maxRecDepth 100000 in
set_option maxHeartbeats 4000000 in
theorem modError_any (p v : ByteArray) (w : World) (hp : p.size < 4294967281) (hv : v.size < 4294967281) :
    Calls Tryz.prog 29 #[.agg #[.string p,.string v]] w fun e w'=>e = .returned (.int .i64 (modErr p.data.toList v.data.toList : Nat)) /\ Below w.heap.size w w':=by
  have HB0:=hid ((Below.refl w.heap.size w).alloc (Nat.le_refl _) (.cells #[.string p,.string v] 25))
  have HP:=hid (pathError_any p (w.alloc (.cells #[.string p,.string v] 25)) hp)
  have HM:=hid (show modErr p.data.toList v.data.toList = if pathErr p.data.toList = 0 then (if verErr v.data.toList = 0 then (if fitsB (nAt v.data.toList 0) (pathN p.data.toList) then 0 else 4) else verErr v.data.toList) else pathErr p.data.toList from rfl)
  by_cases h0 : pathErr p.data.toList = 0
  · rw [if_pos h0] at HM
    have HV:=hid (fun W=>verOf_any v W hv)
    by_cases h1 : verErr v.data.toList = 0
    · rw [if_pos h1] at HM
      have HSP:=hid (fun W=>splitPath_any p W hp)
      have e2 : splitN p.data.toList = pathN p.data.toList:=by unfold splitN; rw [if_pos h0]
      rw [e2] at HSP
      have HPN:=hid (pathN_is h0)
      have HN0:=hid (n0_pos h1)
      have HF:=hid (show fitsB (nAt v.data.toList 0) (pathN p.data.toList) = (if pathN p.data.toList == 0 then (nAt v.data.toList 0 == 0 || nAt v.data.toList 0 == 1) else nAt v.data.toList 0 == pathN p.data.toList) from rfl)
      have H1:=hid h1
      rw [h0] at HP
      clear h0 h1 e2
      go_enter Tryz.func29,Tryz.ntmps29
      go_wp2_with fail
      refine HP.out.mono ?_
      rintro e w1 ⟨rfl,hb1⟩
      have HB1:=hid (HB0.out.trans (hb1.mono HB0.out.size))
      obtain ⟨⟨r0,r1⟩,rz⟩:=res2 (hb1.mono (by simp))
      clear hb1
      go_wp2_with fail
      refine (HV.out _).mono ?_
      rintro e w2 ⟨hv2,hb2⟩
      obtain ⟨sa,cap,X2,rfl⟩ : ∃ sa cap X2,e = .returned (.tuple #[.agg #[.int .i64 (nAt v.data.toList 0),.int .i64 (nAt v.data.toList 1),.int .i64 (nAt v.data.toList 2),.slice sa X2 cap],.int .i64 0]):=by
        rcases hv2 with ⟨h,_⟩ | ⟨_,sa,cap,X2,e1,_⟩
        · exact absurd H1.out h
        · exact ⟨sa,cap,_,e1⟩
      have HB2:=hid (HB1.out.trans (hb2.mono HB1.out.size))
      have HC0:=hid (cell_below hb2 r0)
      have HBV:=hid ((Below.refl w2.heap.size w2).alloc (Nat.le_refl _) (.cells #[.int .i64 (nAt v.data.toList 0),.int .i64 (nAt v.data.toList 1),.int .i64 (nAt v.data.toList 2),.slice sa X2 cap] 95))
      have c0:=cell_below HBV.out HC0.out
      have HB3:=hid (HB2.out.trans (HBV.out.mono HB2.out.size))
      generalize nAt v.data.toList 1 = b1 at *
      generalize nAt v.data.toList 2 = b2 at *
      generalize hn0 : nAt v.data.toList 0 = b0 at *
      clear hv2 hb2 hn0 r0 r1 rz
      go_wp2_with fail
      refine (HSP.out _).mono ?_
      rintro e w4 ⟨H,rfl,_,hb4⟩
      have HB4:=hid (HB3.out.trans (hb4.mono HB3.out.size))
      obtain ⟨⟨q0,q1,q2,q3⟩,_,qz⟩:=res4 (hb4.mono (by simp))
      generalize pathN p.data.toList = n at *
      clear hb4 c0
      have hb0:=HN0.out.1
      have hb9:=HN0.out.2
      by_cases hz : n = 0
      · subst hz
        by_cases hg : 1 < b0
        · have HR:=hid (show (if fitsB b0 0 then 0 else 4) = 4 by
            have : fitsB b0 0 = false:=by
              rw [HF.out]
              simp; omega
            rw [this]; rfl)
          rw [HR.out] at HM
          go_wp2_with fail
          go_ret
          exact ⟨by rw [HM.out]; rfl,HB4.out⟩
        · have HR:=hid (show (if fitsB b0 0 then 0 else 4) = 0 by
            have : fitsB b0 0 = true:=by
              rw [HF.out]
              simp; omega
            rw [this]; rfl)
          rw [HR.out] at HM
          go_wp2_with fail
          go_ret
          exact ⟨by rw [HM.out]; rfl,HB4.out⟩
      · have hpos : 0 < n:=by have:=HPN.out; omega
        have hnz : (n == 0) = false:=beq_eq_false_iff_ne.2 hz
        by_cases hg : b0 = n
        · subst hg
          have HR:=hid (show (if fitsB b0 b0 then 0 else 4) = 0 by
            have : fitsB b0 b0 = true:=by
              rw [HF.out,hnz]; simp
            rw [this]; rfl)
          rw [HR.out] at HM
          have hbb : (b0 == b0) = true:=by simp
          have hbn : (b0 != b0) = false:=by simp
          go_wp2_with fail
          go_ret
          exact ⟨by rw [HM.out]; rfl,HB4.out⟩
        · have hbb : (b0 == n) = false:=beq_eq_false_iff_ne.2 hg
          have hbn : (b0 != n) = true:=by rw [bne,hbb]; rfl
          have HR:=hid (show (if fitsB b0 n then 0 else 4) = 4 by
            have : fitsB b0 n = false:=by
              rw [HF.out,hnz]; simpa using hg
            rw [this]; rfl)
          rw [HR.out] at HM
          go_wp2_with fail
          go_ret
          exact ⟨by rw [HM.out]; rfl,HB4.out⟩
    · rw [if_neg h1] at HM
      have H1:=hid h1
      have hpos : (0 : Int) < (verErr v.data.toList : Int):=by omega
      rw [h0] at HP
      rw [HM.out]
      clear h0 h1
      go_enter Tryz.func29,Tryz.ntmps29
      go_wp2_with fail
      refine HP.out.mono ?_
      rintro e w1 ⟨rfl,hb1⟩
      have HB1:=hid (HB0.out.trans (hb1.mono HB0.out.size))
      obtain ⟨⟨r0,r1⟩,rz⟩:=res2 (hb1.mono (by simp))
      clear hb1
      go_wp2_with fail
      refine (HV.out _).mono ?_
      rintro e w2 ⟨hv2,hb2⟩
      obtain rfl : e = .returned (.tuple #[.agg #[.int .i64 0,.int .i64 0,.int .i64 0,.slice none 0 0],.int .i64 (verErr v.data.toList : Nat)]):=by
        rcases hv2 with ⟨_,h⟩ | ⟨h,_⟩
        · exact h
        · exact absurd h H1.out
      have HB2:=hid (HB1.out.trans (hb2.mono HB1.out.size))
      have HBV:=hid ((Below.refl w2.heap.size w2).alloc (Nat.le_refl _) (.cells #[.int .i64 0,.int .i64 0,.int .i64 0,.slice none 0 0] 95))
      have HB3:=hid (HB2.out.trans (HBV.out.mono HB2.out.size))
      clear hv2 hb2 r0 r1 rz
      generalize hce : (verErr v.data.toList : Int) = c at *
      have HCE:=hid hce
      clear hce
      go_wp2_with fail
      go_ret
      exact ⟨by rw [HCE.out]; rfl,HB3.out⟩
  · rw [if_neg h0] at HM
    have hpos : (0 : Int) < (pathErr p.data.toList : Int):=by omega
    rw [HM.out]
    generalize (pathErr p.data.toList : Int) = c at *
    clear h0 HM
    go_enter Tryz.func29,Tryz.ntmps29
    go_wp2_with fail
    refine HP.out.mono ?_
    rintro e w1 ⟨rfl,hb1⟩
    have HB1:=hid (HB0.out.trans (hb1.mono HB0.out.size))
    clear hb1
    go_wp2_with fail
    go_ret
    exact ⟨rfl,HB1.out⟩
end Ve
end Go.Proofs.YtlcffhadobhfkaaGreatDoor
