/-
  OrdN UtP UtA UtB
-/
import Derived.Test.YtlcffhadobhfkaaGreatDoorMq2
import Derived.Test.YtlcffhadobhfkaaGreatDoorMq5
import Derived.Test.YtlcffhadobhfkaaGreatDoorMq6
import Derived.Test.YtlcffhadobhfkaaGreatDoorMq3
import Derived.Test.YtlcffhadobhfkaaGreatDoorMq9
import Derived.Test.YtlcffhadobhfkaaGreatDoorMq10
import Derived.Test.YtlcffhadobhfkaaGreatDoorMq13
import Derived.Test.YtlcffhadobhfkaaGreatDoorMq11
import Derived.Test.YtlcffhadobhfkaaGreatDoorMq15
import Derived.Test.YtlcffhadobhfkaaGreatDoorMq28
import Derived.Test.YtlcffhadobhfkaaGreatDoorMq16
import Derived.Test.YtlcffhadobhfkaaGreatDoorMq73
import Derived.Test.YtlcffhadobhfkaaGreatDoorMq21
import Derived.Test.YtlcffhadobhfkaaGreatDoorMq18
import Derived.Test.YtlcffhadobhfkaaGreatDoorMq19
import Derived.Test.YtlcffhadobhfkaaGreatDoorMq20
import Derived.Test.YtlcffhadobhfkaaGreatDoorMq36
import Derived.Test.YtlcffhadobhfkaaGreatDoorMq34
import Derived.Test.YtlcffhadobhfkaaGreatDoorMq22
import Derived.Test.YtlcffhadobhfkaaGreatDoorMq45
import Derived.Test.YtlcffhadobhfkaaGreatDoorMq37
import Derived.Test.YtlcffhadobhfkaaGreatDoorMq31
import Derived.Test.YtlcffhadobhfkaaGreatDoorMq14
import Derived.Test.YtlcffhadobhfkaaGreatDoorMq35
import Derived.Test.YtlcffhadobhfkaaGreatDoorMq76
import Derived.Test.YtlcffhadobhfkaaGreatDoorMq23
import Derived.Test.YtlcffhadobhfkaaGreatDoorMq17
import Derived.Test.YtlcffhadobhfkaaGreatDoorMq7
import Derived.Test.YtlcffhadobhfkaaGreatDoorMq27
import Derived.Test.YtlcffhadobhfkaaGreatDoorMq32
namespace Go.Proofs.YtlcffhadobhfkaaGreatDoor
open Go.RowKit
namespace Ve
structure Sv (w0 W : World) (b0 o0 : Nat) (L X : List ByteArray) (v : Value) : Prop where
  own : W.ownsRow w0.heap.size 9 1 v X.length (X.map Value.string)
  nl : X = [] -> v = .slice none 0 0
  bl : Below w0.heap.size w0 W
  ls : ∀ j (h : j < L.length),W.cell? ⟨b0,o0 + j,none⟩ = some (.string L[j])
theorem Sv.below {w0 W W' : World} {b0 o0 : Nat} {L X : List ByteArray} {v : Value} (h : Sv w0 W b0 o0 L X v) (hb : Below W.heap.size W W') : Sv w0 W' b0 o0 L X v:=
  ⟨owns_below h.own hb,h.nl,h.bl.trans (hb.mono h.bl.size),fun j hj=>cell_below hb (h.ls j hj)⟩
theorem grown_below {W W' : World} (h : W.grownBy W' none) : Below W.heap.size W W':=⟨h.os,h.tape,h.output,h.size,fun k hk=>h.block k hk (by simp)⟩
theorem owned_cap {w : World} {base : Nat} {e : TypeId} {g n cap : Nat} {xs : List Value} (h : w.ownsRow base e 1 (.slice (some ⟨g,0,none⟩) n cap) n xs) : n <= cap /\ cap <= maxLen:=by
  rcases h.2 with ⟨h,_⟩ | ⟨g',cap',cur,h1,_,_,h4,h5,_⟩
  · cases h
  · injection h1 with _ _ h1
    subst h1
    exact ⟨h4,h5⟩
theorem owned_at {w : World} {base : Nat} {e : TypeId} {g cap : Nat} {X : List ByteArray} (h : w.ownsRow base e 1 (.slice (some ⟨g,0,none⟩) X.length cap) X.length (X.map Value.string)) : ∀ j (hj : j < X.length),w.cell? ⟨g,j,none⟩ = some (.string X[j]):=by
  intro j hj
  obtain ⟨g',cap',e1,_,_,h2⟩:=owned_cells h (by intro e; subst e; cases hj)
  injection e1 with e1 _ _
  injection e1 with e1
  injection e1 with e1 _ _
  rw [e1]; exact h2 j hj
theorem news_at {w : World} {g : Nat} {X : List ByteArray} (h : ∀ j (hj : j < X.length),w.cell? ⟨g,j,none⟩ = some (.string X[j])) (o m : Nat) : ∀ j u,(((X.drop o).take m).map Value.string)[j]? = some u -> w.cell? ((⟨g,o,none⟩ : Addr).add j) = some u:=by
  intro j u hj
  rw [List.getElem?_map,List.getElem?_take] at hj
  split at hj
  · rw [List.getElem?_drop] at hj
    cases e : X[o + j]? with
    | none=>rw [e] at hj; simp at hj
    | some x=>
      rw [e] at hj
      obtain ⟨hl,e2⟩:=List.getElem?_eq_some_iff.1 e
      have:=h (o + j) hl
      rw [e2] at this
      simp at hj
      rw [<- hj]
      rw [Addr.add_lit]; exact this
  · simp at hj
set_option maxRecDepth 100000 in
set_option maxHeartbeats 8000000 in
theorem sortVers_some (b0 o0 cap : Nat) (L : List ByteArray) (w : World) (hL : ∀ j (h : j < L.length), w.cell? ⟨b0, o0 + j, none⟩ = some (.string L[j])) (h12 : L.length ≤ 1000) (hz : ∀ x, x ∈ L → x.size ≤ 80) :
    Calls Tryz.prog 180 #[.slice (some ⟨b0,o0,none⟩) L.length cap] w fun e w'=>∃ v X,e = .returned v /\ w'.ownsRow w.heap.size 9 1 v X.length (X.map Value.string) /\ Kept L L.length X /\ Below w.heap.size w w':=by
  obtain ⟨i0,hi,hz0,hz1,hz2⟩:=info_parts infoStr
  have HL:=hid hL
  have HZ:=hid hz
  clear hL hz
  go_enter Tryz.func180,Tryz.ntmps180
  go_wp2_with fail
  go_loopw [3,4] (fun v i wr=>∃ (k : Nat) (X : List ByteArray),k <= L.length /\ X.length <= k /\ i = .int .i64 k /\ Hid (Kept L k X) /\ Hid (Sv w wr b0 o0 L X v)) (fun _ i _=>L.length - (intOf i).toNat)
  case atStart=>exact ⟨0,[],Nat.zero_le _,Nat.le_refl _,rfl,hid ⟨List.Pairwise.nil,fun t=>by simp [bl]⟩,hid ⟨World.ownsRow_nil _ _ _ _,fun _=>rfl,Below.refl _ _,HL.out⟩⟩
  case round=>
    obtain ⟨k,X,hk,hXk,rfl,HK,HS⟩:=hrel
    by_cases hkL : k < L.length
    · have hcell := HS.out.ls k hkL
      have hq80 : L[k].size <= 80:=HZ.out _ (List.getElem_mem hkL)
      have HIV:=hid (fun W=>isVer_any L[k] W (by omega))
      have HKN:=hid (fun h=>kept_no hkL HK.out h)
      have HKO:=hid (fun h=>kept_old hkL HK.out h)
      have HKW:=hid (fun h (j : Nat) hj h1 h2=>kept_new hkL HK.out h (j:=j) hj h1 h2)
      have HLC:=hid (fun (W : World) (v' : Value) (X' : List ByteArray) (h : Sv w W b0 o0 L X' v')=>h.ls k hkL)
      have HX80:=hid (show ∀ x,x ∈ X -> x.size < 999999 /\ verErr x.data.toList = 0 from fun x hx=>by
        have h1:=(HK.out.2 x.data.toList).1 (bl_mem hx)
        refine ⟨?_,h1.2⟩
        obtain ⟨y,hy,e⟩:=List.mem_map.1 h1.1
        have h2:=HZ.out y (List.mem_of_mem_take hy)
        have h3:=congrArg List.length e
        rw [len_eq,len_eq] at h3
        omega)
      generalize hq : L[k] = q at *
      clear hq
      have hkl : (k : Int) < (L.length : Int):=by omega
      have hk0 : (0 : Int) <= (k : Int):=by omega
      by_cases hv : verErr q.data.toList = 0
      · rw [decide_eq_true hv] at HIV
        have HV:=hid hv
        clear hv
        go_wp2_with fail
        refine (HIV.out _).mono ?_
        rintro e w1 ⟨rfl,hb1⟩
        have HS1:=hid (HS.out.below hb1)
        clear hb1 hcell
        go_wp2_with fail
        go_loopw [6] (fun a wr2=>∃ j : Nat,j <= X.length /\ a = .int .i64 j /\ Hid (∀ t (ht : t < X.length),t < j -> ordV X[t].data.toList q.data.toList < 0) /\ Hid (Sv w wr2 b0 o0 L X u3)) (fun a _=>X.length - (intOf a).toNat)
        case atStart=>exact ⟨0,Nat.zero_le _,rfl,hid (fun t _ h=>absurd h (Nat.not_lt_zero t)),HS1⟩
        case round=>
          obtain ⟨j,hj,rfl,HLT,HS2⟩:=hrel
          by_cases hX : X = []
          · subst hX
            obtain rfl:=HS2.out.nl rfl
            obtain rfl : j = 0:=by simpa using hj
            go_wp2_with fail
            go_region
            have HSX:=hid (HS2.out.below (below_drawn _ 1))
            have hc:=HLC.out _ _ _ HS2.out
            have hwz:=HS2.out.bl.size
            go_wp2_with (first
              | (at_builtin; refine wpList_append_own_none rfl _ _ 43 rfl 0 9 i0 1 Tryz.underlying43 hi _ _ _ rfl (World.ownsRow_nil _ _ _ _) rfl ?_)
              | (at_builtin; refine wpList_append_own _ rfl _ _ 43 rfl w.heap.size 9 i0 (.string ByteArray.empty) 1 16 Tryz.underlying43 hi hz0 hz1 hz2 rfl (by decide) _ _ _ rfl (World.ownsRow_nil _ _ _ _) ⟨wr.heap.size,0,none⟩ 1 1 [.string q] rfl rfl ?c1 ?c2 ?c3 ?c4 ?c5 ?_))
            case c1=>
              intro t u ht
              match t,ht with
              | 0,ht=>simp at ht; subst ht; simp [Addr.add]
            case c2=>intro u hu; simp at hu; subst hu; rfl
            case c3=>unfold maxLen; omega
            case c4=>omega
            case c5=>simp; omega
            intro v1 W1 hown1 hgr1 _
            have HO1:=hid hown1
            have HB1:=hid (((Below.refl wr.heap.size wr).trans ((below_drawn wr 1).alloc (Nat.le_refl _) _)).grown hgr1 (by simp) (fun t ht=>by cases ht))
            have HS3:=hid (HS2.out.below HB1.out)
            clear hown1 hgr1 hc
            go_wp2_with (at_builtin; refine wpList_append_own_none rfl _ _ 43 rfl _ 9 i0 1 Tryz.underlying43 hi _ _ _ rfl (HO1.out) rfl ?_)
            go_roundw
            case rel=>exact ⟨k + 1,[q],by omega,by simp,by go_num,hid (by simpa using HKW.out HV.out 0 (Nat.zero_le _) (fun t ht=>absurd ht (by simp)) (fun ht=>absurd ht (by simp))),hid ⟨by simpa using HO1.out,(fun h=>by cases h),HS3.out.bl,HS3.out.ls⟩⟩
            case measure=>simp [intOf]; omega
          · obtain ⟨g,cp,rfl,hg,hgz,_⟩:=owned_cells HS2.out.own hX
            by_cases hjX : j < X.length
            · have HTW:=hid (fun (W : World) (h : Sv w W b0 o0 L X (.slice (some ⟨g,0,none⟩) X.length cp))=>And.intro (owned_at h.own j hjX) (And.intro (HLC.out _ _ _ h) (hid h)))
              have HXJ:=hid (HX80.out X[j] (List.getElem_mem hjX))
              have HXM:=hid (bl_mem (List.getElem_mem hjX))
              have hj0 : (0 : Int) <= (j : Int):=by omega
              have hjl : (j : Int) < (X.length : Int):=by omega
              by_cases ho : ordV X[j].data.toList q.data.toList < 0
              · have HL2:=hid (show ∀ t (ht : t < X.length),t < j + 1 -> ordV X[t].data.toList q.data.toList < 0 from fun t ht hl=>by
                  by_cases e : t = j
                  · subst e; exact ho
                  · exact HLT.out t ht (by omega))
                have HLT:=hid True.intro
                generalize hxj : X[j] = xj at *
                clear hxj
                have HOV:=hid (fun W=>orderVer_any xj q W HXJ.out.1 (by omega) HXJ.out.2 HV.out)
                obtain ⟨x1,x2,_⟩:=HTW.out _ HS2.out
                generalize ordV xj.data.toList q.data.toList = od at HOV ho
                go_wp2_with fail
                go_region_held (fun W=>W.cell? ⟨g,j,none⟩ = some (.string xj) /\ W.cell? ⟨b0,o0 + k,none⟩ = some (.string q) /\ Hid (Sv w W b0 o0 L X (.slice (some ⟨g,0,none⟩) X.length cp))) (first | exact HTW.out _ HS3.out | exact HTW.out _ (HS2.out.below (below_drawn _ 1))) (first
                  | (go_at_call 98; refine (HOV.out _).mono ?_; rintro e w' ⟨rfl,hb⟩; have HS3:=hid ((HS2.out.below (below_drawn _ 1)).below hb); clear hb))
                all_goals
                  go_wp2_with fail
                  go_roundw
                  case rel=>exact ⟨j + 1,by omega,by go_num,HL2,HS3⟩
                  case measure=>simp [intOf]; omega
              · by_cases he : X[j] = q
                · have HK2:=hid (HKO.out (by rw [<- he]; exact HXM.out))
                  subst he
                  generalize hxj : X[j] = xj at *
                  clear hxj
                  have HOV:=hid (fun W=>orderVer_any xj xj W HXJ.out.1 (by omega) HXJ.out.2 HV.out)
                  obtain ⟨x1,x2,_⟩:=HTW.out _ HS2.out
                  have hss : (xj.toList == xj.toList) = true:=by simp
                  generalize ordV xj.data.toList xj.data.toList = od at HOV ho
                  go_wp2_with fail
                  go_region_held (fun W=>W.cell? ⟨g,j,none⟩ = some (.string xj) /\ W.cell? ⟨b0,o0 + k,none⟩ = some (.string xj) /\ Hid (Sv w W b0 o0 L X (.slice (some ⟨g,0,none⟩) X.length cp))) (first | exact HTW.out _ HS3.out | exact HTW.out _ (HS2.out.below (below_drawn _ 1))) (first
                    | (go_at_call 98; refine (HOV.out _).mono ?_; rintro e w' ⟨rfl,hb⟩; have HS3:=hid ((HS2.out.below (below_drawn _ 1)).below hb); clear hb))
                  all_goals
                    clear x1 x2
                    obtain ⟨x1,x2,_⟩:=HTW.out _ HS3.out
                    go_wp2_with fail
                    go_quiet (fail)
                    go_wp2_with fail
                    go_roundw
                    case rel=>exact ⟨k + 1,X,by omega,by omega,by go_num,HK2,hid (HS3.out.below (below_drawn _ _))⟩
                    case measure=>simp [intOf]; omega
                · have hss:=str_ne he
                  have HKX:=hid (HKW.out HV.out j hj HLT.out (fun _=>⟨by omega,fun e=>he (str_ext e)⟩))
                  clear he
                  generalize hxj : X[j] = xj at *
                  clear hxj
                  have HOV:=hid (fun W=>orderVer_any xj q W HXJ.out.1 (by omega) HXJ.out.2 HV.out)
                  obtain ⟨x1,x2,_⟩:=HTW.out _ HS2.out
                  generalize ordV xj.data.toList q.data.toList = od at HOV ho
                  go_wp2_with fail
                  go_region_held (fun W=>W.cell? ⟨g,j,none⟩ = some (.string xj) /\ W.cell? ⟨b0,o0 + k,none⟩ = some (.string q) /\ Hid (Sv w W b0 o0 L X (.slice (some ⟨g,0,none⟩) X.length cp))) (first | exact HTW.out _ HS3.out | exact HTW.out _ (HS2.out.below (below_drawn _ 1))) (first
                    | (go_at_call 98; refine (HOV.out _).mono ?_; rintro e w' ⟨rfl,hb⟩; have HS3:=hid ((HS2.out.below (below_drawn _ 1)).below hb); clear hb))
                  all_goals
                    clear x1 x2
                    obtain ⟨x1,x2,_⟩:=HTW.out _ HS3.out
                    go_wp2_with fail
                    go_quiet (fail)
                    have HSX:=hid (HS3.out.below (below_drawn w' nq))
                    clear x1 x2
                    generalize w'.drewN nq = W at *
                    have hcl:=owned_at HSX.out.own
                    have hc:=HLC.out _ _ _ HSX.out
                    have hcap:=owned_cap HSX.out.own
                    have hcp : cp <= 9223372036854775807:=hcap.2
                    have t1 : (0 : Int) <= (j : Int):=by omega
                    have t2 : (j : Int) <= (cp : Int):=by omega
                    have t3 : (j : Int) <= (X.length : Int):=by omega
                    have t4 : (X.length : Int) <= (cp : Int):=by omega
                    have HCL:=hid hcl
                    clear hcl hcap
                    go_wp2_with (at_builtin; refine wpList_append_own _ rfl _ _ 43 rfl W.heap.size 9 i0 (.string ByteArray.empty) 1 16 Tryz.underlying43 hi hz0 hz1 hz2 rfl (by decide) _ _ _ rfl (World.ownsRow_nil _ _ _ _) ⟨g,0,none⟩ j cp ((X.take j).map Value.string) rfl ?c0 ?c1 ?c2 ?c3 ?c4 ?c5 ?_)
                    case c0=>first | (simp; done) | (simp; omega)
                    case c1=>intro t u ht; exact news_at HCL.out 0 j t u (by simpa using ht)
                    case c2=>intro u hu; obtain ⟨x,_,rfl⟩:=List.mem_map.1 hu; rfl
                    case c3=>unfold maxLen; omega
                    case c4=>omega
                    case c5=>exact Nat.le_refl _
                    intro v1 W1 hown1 hgr1 _
                    have HO1:=hid hown1
                    have HB1:=hid (grown_below hgr1)
                    have HS4:=hid (HSX.out.below HB1.out)
                    have hc1:=HLC.out _ _ _ HS4.out
                    have hw1:=HB1.out.size
                    clear hown1 hgr1 hc
                    go_wp2_with (at_builtin; refine wpList_append_own _ rfl _ _ 43 rfl W.heap.size 9 i0 (.string ByteArray.empty) 1 16 Tryz.underlying43 hi hz0 hz1 hz2 rfl (by decide) _ _ _ rfl (HO1.out.alloc _) ⟨W1.heap.size,0,none⟩ 1 1 [.string q] rfl rfl ?c1 ?c2 ?c3 ?c4 ?c5 ?_)
                    case c1=>
                      intro t u ht
                      match t,ht with
                      | 0,ht=>simp at ht; subst ht; simp [Addr.add]
                    case c2=>intro u hu; simp at hu; subst hu; rfl
                    case c3=>unfold maxLen; omega
                    case c4=>omega
                    case c5=>simp; omega
                    intro v2 W2 hown2 hgr2 _
                    have HO2:=hid hown2
                    have HB2:=hid (rel_app HB1.out.size HB1.out HO1.out (Below.refl _ _) hgr2)
                    have HS5:=hid (HSX.out.below HB2.out)
                    have HCL2:=hid (owned_at HS5.out.own)
                    have hw2:=HB2.out.size
                    clear hown2 hgr2 hc1
                    go_wp2_with (at_builtin; refine wpList_append_own _ rfl _ _ 43 rfl W.heap.size 9 i0 (.string ByteArray.empty) 1 16 Tryz.underlying43 hi hz0 hz1 hz2 rfl (by decide) _ _ _ rfl HO2.out ⟨g,j,none⟩ (X.length - j) (cp - j) ((X.drop j).map Value.string) rfl ?c0 ?c1 ?c2 ?c3 ?c4 ?c5 ?_)
                    case c0=>simp
                    case c1=>intro t u ht; exact news_at HCL2.out j (X.length - j) t u (by rw [List.take_of_length_le (by simp)]; exact ht)
                    case c2=>intro u hu; obtain ⟨x,_,rfl⟩:=List.mem_map.1 hu; rfl
                    case c3=>unfold maxLen; omega
                    case c4=>omega
                    case c5=>exact hw2
                    intro v3 W3 hown3 hgr3 _
                    have HB3:=hid (HB2.out.grown hgr3 hw2 (fun t ht=>(HO2.out.lt t ht).1))
                    have HS6:=hid (HSX.out.below HB3.out)
                    have HO3:=hid (show W3.ownsRow w.heap.size 9 1 v3 (X.take j ++ q :: X.drop j).length ((X.take j ++ q :: X.drop j).map Value.string) by
                      have h:=owns_mono hown3 (HSX.out.bl.size)
                      have e1 : (X.take j ++ q :: X.drop j).length = j + 1 + (X.length - j):=by simp; omega
                      rw [e1]
                      simpa using h)
                    clear hown3 hgr3
                    go_wp2_with fail
                    go_roundw
                    case rel=>exact ⟨k + 1,X.take j ++ q :: X.drop j,by omega,by simp; omega,by go_num,HKX,hid ⟨HO3.out,(fun h=>by simp at h),HS6.out.bl,HS6.out.ls⟩⟩
                    case measure=>simp [intOf]; omega
            · obtain rfl : j = X.length:=by omega
              have HKX:=hid (HKW.out HV.out X.length hj HLT.out (fun h=>absurd h hjX))
              go_wp2_with fail
              go_region
              have HSX:=hid (show Sv w wr.drew b0 o0 L X (.slice (some ⟨g,0,none⟩) X.length cp) from HS2.out.below (below_drawn wr 1))
              generalize wr.drew = W at *
              have hcap0:=owned_cap HSX.out.own
              by_cases hcx : cp = X.length
              · subst hcx
                have hcl:=owned_at HSX.out.own
                have hc:=HLC.out _ _ _ HSX.out
                have hcap:=owned_cap HSX.out.own
                have hcp : X.length <= 9223372036854775807:=hcap.2
                have t1 : (0 : Int) <= (X.length : Int):=by omega
                have t2 : (X.length : Int) <= (X.length : Int):=by omega
                have t3 : (X.length : Int) <= (X.length : Int):=by omega
                have t4 : (X.length : Int) <= (X.length : Int):=by omega
                have HCL:=hid hcl
                clear hcl hcap
                go_wp2_with (at_builtin; refine wpList_append_own _ rfl _ _ 43 rfl W.heap.size 9 i0 (.string ByteArray.empty) 1 16 Tryz.underlying43 hi hz0 hz1 hz2 rfl (by decide) _ _ _ rfl (World.ownsRow_nil _ _ _ _) ⟨g,0,none⟩ (X.length) X.length ((X.take (X.length)).map Value.string) rfl ?c0 ?c1 ?c2 ?c3 ?c4 ?c5 ?_)
                case c0=>first | (simp; done) | (simp; omega)
                case c1=>intro t u ht; exact news_at HCL.out 0 (X.length) t u (by simpa using ht)
                case c2=>intro u hu; obtain ⟨x,_,rfl⟩:=List.mem_map.1 hu; rfl
                case c3=>unfold maxLen; omega
                case c4=>omega
                case c5=>exact Nat.le_refl _
                intro v1 W1 hown1 hgr1 _
                have HO1:=hid hown1
                have HB1:=hid (grown_below hgr1)
                have HS4:=hid (HSX.out.below HB1.out)
                have hc1:=HLC.out _ _ _ HS4.out
                have hw1:=HB1.out.size
                clear hown1 hgr1 hc
                go_wp2_with (at_builtin; refine wpList_append_own _ rfl _ _ 43 rfl W.heap.size 9 i0 (.string ByteArray.empty) 1 16 Tryz.underlying43 hi hz0 hz1 hz2 rfl (by decide) _ _ _ rfl (HO1.out.alloc _) ⟨W1.heap.size,0,none⟩ 1 1 [.string q] rfl rfl ?c1 ?c2 ?c3 ?c4 ?c5 ?_)
                case c1=>
                  intro t u ht
                  match t,ht with
                  | 0,ht=>simp at ht; subst ht; simp [Addr.add]
                case c2=>intro u hu; simp at hu; subst hu; rfl
                case c3=>unfold maxLen; omega
                case c4=>omega
                case c5=>simp; omega
                intro v2 W2 hown2 hgr2 _
                have HO2:=hid hown2
                have HB2:=hid (rel_app HB1.out.size HB1.out HO1.out (Below.refl _ _) hgr2)
                have HS5:=hid (HSX.out.below HB2.out)
                have HCL2:=hid (owned_at HS5.out.own)
                have hw2:=HB2.out.size
                clear hown2 hgr2 hc1
                go_wp2_with (at_builtin; refine wpList_append_own _ rfl _ _ 43 rfl W.heap.size 9 i0 (.string ByteArray.empty) 1 16 Tryz.underlying43 hi hz0 hz1 hz2 rfl (by decide) _ _ _ rfl HO2.out _ _ _ [] rfl ?c0 ?c1 ?c2 ?c3 ?c4 ?c5 ?_)
                case c0=>simp
                case c1=>intro t u ht; simp at ht
                case c2=>intro u hu; cases hu
                case c3=>unfold maxLen; omega
                case c4=>omega
                case c5=>exact hw2
                intro v3 W3 hown3 hgr3 _
                have HB3:=hid (HB2.out.grown hgr3 hw2 (fun t ht=>(HO2.out.lt t ht).1))
                have HS6:=hid (HSX.out.below HB3.out)
                have HO3:=hid (show W3.ownsRow w.heap.size 9 1 v3 (X.take (X.length) ++ q :: X.drop (X.length)).length ((X.take (X.length) ++ q :: X.drop (X.length)).map Value.string) by
                  have h:=owns_mono hown3 (HSX.out.bl.size)
                  have e1 : (X.take (X.length) ++ q :: X.drop (X.length)).length = X.length + 1:=by simp
                  rw [e1]
                  simpa using h)
                clear hown3 hgr3
                go_wp2_with fail
                go_roundw
                case rel=>exact ⟨k + 1,X.take (X.length) ++ q :: X.drop (X.length),by omega,by simp; omega,by go_num,HKX,hid ⟨HO3.out,(fun h=>by simp at h),HS6.out.bl,HS6.out.ls⟩⟩
                case measure=>simp [intOf]; omega
              · have hcx1 : X.length < cp:=by omega
                have hcx2 : (X.length : Int) < (cp : Int):=by omega
                have hcl:=owned_at HSX.out.own
                have hc:=HLC.out _ _ _ HSX.out
                have hcap:=owned_cap HSX.out.own
                have hcp : cp <= 9223372036854775807:=hcap.2
                have t1 : (0 : Int) <= (X.length : Int):=by omega
                have t2 : (X.length : Int) <= (cp : Int):=by omega
                have t3 : (X.length : Int) <= (X.length : Int):=by omega
                have t4 : (X.length : Int) <= (cp : Int):=by omega
                have HCL:=hid hcl
                clear hcl hcap
                go_wp2_with (at_builtin; refine wpList_append_own _ rfl _ _ 43 rfl W.heap.size 9 i0 (.string ByteArray.empty) 1 16 Tryz.underlying43 hi hz0 hz1 hz2 rfl (by decide) _ _ _ rfl (World.ownsRow_nil _ _ _ _) ⟨g,0,none⟩ (X.length) cp ((X.take (X.length)).map Value.string) rfl ?c0 ?c1 ?c2 ?c3 ?c4 ?c5 ?_)
                case c0=>first | (simp; done) | (simp; omega)
                case c1=>intro t u ht; exact news_at HCL.out 0 (X.length) t u (by simpa using ht)
                case c2=>intro u hu; obtain ⟨x,_,rfl⟩:=List.mem_map.1 hu; rfl
                case c3=>unfold maxLen; omega
                case c4=>omega
                case c5=>exact Nat.le_refl _
                intro v1 W1 hown1 hgr1 _
                have HO1:=hid hown1
                have HB1:=hid (grown_below hgr1)
                have HS4:=hid (HSX.out.below HB1.out)
                have hc1:=HLC.out _ _ _ HS4.out
                have hw1:=HB1.out.size
                clear hown1 hgr1 hc
                go_wp2_with (at_builtin; refine wpList_append_own _ rfl _ _ 43 rfl W.heap.size 9 i0 (.string ByteArray.empty) 1 16 Tryz.underlying43 hi hz0 hz1 hz2 rfl (by decide) _ _ _ rfl (HO1.out.alloc _) ⟨W1.heap.size,0,none⟩ 1 1 [.string q] rfl rfl ?c1 ?c2 ?c3 ?c4 ?c5 ?_)
                case c1=>
                  intro t u ht
                  match t,ht with
                  | 0,ht=>simp at ht; subst ht; simp [Addr.add]
                case c2=>intro u hu; simp at hu; subst hu; rfl
                case c3=>unfold maxLen; omega
                case c4=>omega
                case c5=>simp; omega
                intro v2 W2 hown2 hgr2 _
                have HO2:=hid hown2
                have HB2:=hid (rel_app HB1.out.size HB1.out HO1.out (Below.refl _ _) hgr2)
                have HS5:=hid (HSX.out.below HB2.out)
                have HCL2:=hid (owned_at HS5.out.own)
                have hw2:=HB2.out.size
                clear hown2 hgr2 hc1
                go_wp2_with (at_builtin; refine wpList_append_own _ rfl _ _ 43 rfl W.heap.size 9 i0 (.string ByteArray.empty) 1 16 Tryz.underlying43 hi hz0 hz1 hz2 rfl (by decide) _ _ _ rfl HO2.out _ _ _ [] rfl ?c0 ?c1 ?c2 ?c3 ?c4 ?c5 ?_)
                case c0=>simp
                case c1=>intro t u ht; simp at ht
                case c2=>intro u hu; cases hu
                case c3=>unfold maxLen; omega
                case c4=>omega
                case c5=>exact hw2
                intro v3 W3 hown3 hgr3 _
                have HB3:=hid (HB2.out.grown hgr3 hw2 (fun t ht=>(HO2.out.lt t ht).1))
                have HS6:=hid (HSX.out.below HB3.out)
                have HO3:=hid (show W3.ownsRow w.heap.size 9 1 v3 (X.take (X.length) ++ q :: X.drop (X.length)).length ((X.take (X.length) ++ q :: X.drop (X.length)).map Value.string) by
                  have h:=owns_mono hown3 (HSX.out.bl.size)
                  have e1 : (X.take (X.length) ++ q :: X.drop (X.length)).length = X.length + 1:=by simp
                  rw [e1]
                  simpa using h)
                clear hown3 hgr3
                go_wp2_with fail
                go_roundw
                case rel=>exact ⟨k + 1,X.take (X.length) ++ q :: X.drop (X.length),by omega,by simp; omega,by go_num,HKX,hid ⟨HO3.out,(fun h=>by simp at h),HS6.out.bl,HS6.out.ls⟩⟩
                case measure=>simp [intOf]; omega
      · rw [decide_eq_false hv] at HIV
        have HK2:=hid (HKN.out hv)
        clear hv
        go_wp2_with fail
        refine (HIV.out _).mono ?_
        rintro e w1 ⟨rfl,hb1⟩
        have HS1:=hid (HS.out.below hb1)
        clear hb1 hcell
        go_wp2_with fail
        go_roundw
        case rel=>exact ⟨k + 1,X,by omega,by omega,by go_num,HK2,HS1⟩
        case measure=>simp [intOf]; omega
    · have hke : k = L.length:=by omega
      subst hke
      go_wp2_with fail
      go_ret
      exact ⟨_,X,rfl,HS.out.own,HK.out,HS.out.bl⟩
open Go.Maps
theorem keptT_ex {Q : List Raw} (g : Good Q) (t : ByteArray) : ∃ Y,KeptT Q t Y:=
  kept_ex (verL_ok g fun r hr=>ofP_sub r (bestR_sub hr))
theorem verL_same {Q Q' : List Raw} (h : Q.map keyR = Q'.map keyR) (t : ByteArray) : verL (bestR (ofP t Q)) = verL (bestR (ofP t Q')):=by
  rw [key_ver,key_ver,key_best,key_best]
  have e:=fun Q=>key_filter (fun k=>decide (k.1.1 = t) && decide (verErr k.1.2.data.toList = 0)) (isP t) (fun _=>rfl) Q
  unfold ofP
  rw [e Q,e Q',h]
theorem latV_same {Q Q' : List Raw} (h : Q.map keyR = Q'.map keyR) (t : ByteArray) : latV Q t = latV Q' t:=by
  unfold latV KeptT
  rw [verL_same h]
theorem latL_same {Q Q' : List Raw} (h : Q.map keyR = Q'.map keyR) (E : List Bm) : latL Q E = latL Q' E:=by
  unfold latL
  congr 1
  funext m
  rw [latV_same h]
theorem newsL_same {Q Q' : List Raw} (h : Q.map keyR = Q'.map keyR) (E : List Bm) : newsL Q E = newsL Q' E:=by
  unfold newsL
  rw [show (fun m : Bm=>lessB (vb m) (latV Q m.1).data.toList) = fun m=>lessB (vb m) (latV Q' m.1).data.toList from funext fun m=>by rw [latV_same h]]
  congr 1
  funext m
  rw [latV_same h]
theorem upF_same {Q Q' : List Raw} {L : List Ent} (h : Q.map keyR = Q'.map keyR) (E : List Bm) : upF Q L E = upF Q' L E:=by
  unfold upF
  rw [latL_same h,bX_same (key_mod h)]
theorem upN_same {Q Q' : List Raw} {L : List Ent} (h : Q.map keyR = Q'.map keyR) (E : List Bm) : ∀ n,upN Q L E n = upN Q' L E n
  | 0=>rfl
  | n + 1=>by
    show upF Q L (upN Q L E n) = upF Q' L (upN Q' L E n)
    rw [upN_same h E n,upF_same h]
theorem Fix.same {Q Q' : List Raw} {L : List Ent} {E0 E : List Bm} (h : Q.map keyR = Q'.map keyR) (f : Fix Q L E0 E) : Fix Q' L E0 E:=by
  obtain ⟨n,hn⟩:=f.n
  exact ⟨⟨n,by rw [hn,upN_same h]⟩,by rw [<- upF_same h]; exact f.f⟩
open Classical in
noncomputable def allE (Q : List Raw) (L : List Ent) (roots : List Bm) : List Bm:=if h : (chkG Q L roots).1 = 0 /\ ∃ E,Fix Q L (bX Q L roots) E then h.2.choose else []
theorem allE_of {Q : List Raw} {L : List Ent} {roots E : List Bm} (h : (chkG Q L roots).1 = 0) (f : Fix Q L (bX Q L roots) E) : E = allE Q L roots:=by
  have he : (chkG Q L roots).1 = 0 /\ ∃ E,Fix Q L (bX Q L roots) E:=⟨h,E,f⟩
  unfold allE
  rw [dif_pos he]
  exact f.one he.2.choose_spec
theorem allE_bad {Q : List Raw} {L : List Ent} {roots : List Bm} (h : ¬ (chkG Q L roots).1 = 0) : allE Q L roots = []:=by
  unfold allE
  rw [dif_neg (fun e=>h e.1)]
theorem lik_lat {Q : List Raw} (g : Good Q) {t : ByteArray} {X Y : List ByteArray} (hK : Kept (verL (ofP t Q)) (verL (ofP t Q)).length X) (hY : KeptT Q t Y) : (likN Q t X X.length).1 = latV Q t := by
  rw [<- latV_of hY]
  by_cases h0 : X.length = 0
  · have hX : X = []:=List.eq_nil_of_length_eq_zero h0
    subst hX
    have hne : ofP t Q = []:=by
      rw [List.eq_nil_iff_forall_not_mem]
      intro r hr
      have:=kept_in g ofP_sub hK hr
      cases this
    have hb : bestR (ofP t Q) = []:=by rw [hne]; rfl
    cases hYc : Y with
    | nil=>rfl
    | cons y s=>
      obtain ⟨r,hr,_⟩:=kept_has g (R:=bestR (ofP t Q)) (fun r hr=>ofP_sub r (bestR_sub hr)) hY (x:=y) (by rw [hYc]; simp)
      rw [hb] at hr; cases hr
  · obtain ⟨j,hj,_,hs,h1,h2⟩:=(likN_is (Q:=Q) (t:=t) (X:=X) X.length (Nat.le_refl _)).p (by omega)
    rw [hs]
    obtain ⟨r,hr,er⟩:=kept_has g ofP_sub hK (List.getElem_mem hj)
    have hrq:=g.ofP_mem.1 hr
    have hrank : ∀ s,s ∈ ofP t Q -> rkV Q t s.1.2 = rnk s:=fun s hs=>by
      have h:=g.ofP_mem.1 hs
      rw [<- h.2]; exact rkV_at g h.1
    have hbest : r ∈ bestR (ofP t Q):=(rnk_best g ofP_sub hr).2 fun s hs=>by
      have hin:=kept_in g ofP_sub hK hs
      obtain ⟨k,hk,e⟩:=List.getElem_of_mem hin
      have:=h1 k hk hk
      rw [e,hrank s hs,<- er,hrank r hr] at this
      exact this
    have hne : bestR (ofP t Q) ≠ []:=List.ne_nil_of_mem hbest
    have hsub : ∀ r,r ∈ bestR (ofP t Q) -> r ∈ Q:=fun r hr=>ofP_sub r (bestR_sub hr)
    obtain ⟨⟨q,hq,eq⟩,hmax⟩:=kept_last g hsub hne hY
    have hqv:=g.ver q (hsub q hq)
    have hrv:=g.ver r hrq.1
    have hqX:=kept_in g ofP_sub hK (bestR_sub hq)
    obtain ⟨k,hk,ek⟩:=List.getElem_of_mem hqX
    have hqr : rkV Q t X[j] <= rkV Q t X[k]:=by
      rw [ek,<- er,hrank r hr,hrank q (bestR_sub hq)]
      exact (rnk_best g ofP_sub (bestR_sub hq)).1 hq r hr
    have hkj : ¬ j < k:=fun h=>by have:=h2 k hk hk h; omega
    have ho1 : ¬ ordV X[j].data.toList X[k].data.toList < 0:=fun h=>by
      rcases Nat.lt_or_ge k j with h3 | h3
      · have hr:=hK.1
        unfold rises at hr
        have hbl : (bl X).length = X.length:=bl_len X
        have h4:=List.pairwise_iff_getElem.1 hr k j (by omega) (by omega) h3
        have g1 : (bl X)[k]'(by omega) = X[k].data.toList:=by simp [bl]
        have g2 : (bl X)[j]'(by omega) = X[j].data.toList:=by simp [bl]
        rw [g1,g2] at h4
        exact ordV_irr h h4
      · have : k = j:=by omega
        subst this; exact ordV_irr h h
    have ho2:=hmax r hbest
    rw [<- eq,<- ek] at ho2
    rw [er] at ho2
    have h0' : ordV X[j].data.toList X[k].data.toList = 0:=by
      rw [ordV_swap X[j].data.toList X[k].data.toList] at ho2
      omega
    have hvj : verErr X[j].data.toList = 0:=by rw [<- er]; exact hrv
    have hvk : verErr X[k].data.toList = 0:=by rw [ek]; exact hqv
    have:=str_ext ((ordV_zero hvj hvk).1 h0')
    rw [this,ek,eq]
theorem es_modK {W : World} {b o n c : Nat} {Q : List Raw} (h : EsAt W (.slice (some ⟨b,o,none⟩) n c) Q) {k : Nat} (hk : k < Q.length) : W.cell? ⟨b,o + k * 5,none⟩ = some (.string Q[k].1.1) /\ W.cell? ⟨b,o + k * 5 + 1,none⟩ = some (.string Q[k].1.2):=by
  obtain ⟨a',c',e,_,_,h⟩:=h
  injection e with e1 e2 e3
  subst e1
  obtain ⟨b',o',e4,h4⟩:=h (by intro h0; rw [h0] at hk; simp at hk)
  injection e4 with e4
  injection e4 with e5 e6
  subst e5 e6
  exact ⟨(h4 k hk).1,(h4 k hk).2.1⟩
theorem es_backK {W : World} {b o n c : Nat} {Q : List Raw} (h : EsAt W (.slice (some ⟨b,o,none⟩) n c) Q) {k : Nat} (hk : k < Q.length) : W.cell? ⟨b,o + k * 5 + 4,none⟩ = some (.bool Q[k].2.2.2):=by
  obtain ⟨a',c',e,_,_,h⟩:=h
  injection e with e1 e2 e3
  subst e1
  obtain ⟨b',o',e4,h4⟩:=h (by intro h0; rw [h0] at hk; simp at hk)
  injection e4 with e4
  injection e4 with e5 e6
  subst e5 e6
  exact (h4 k hk).2.2.2.2
theorem sortVers_nil (a : Option Addr) (c : Nat) (w : World) : Calls Tryz.prog 180 #[.slice a 0 c] w fun e w'=>e = .returned (.slice none 0 0) /\ Below w.heap.size w w':=by
  go_enter Tryz.func180,Tryz.ntmps180
  go_wp2_with fail
  go_loopw [3,4] (fun v i wr=>v = .slice none 0 0 /\ i = .int .i64 0 /\ wr = w) (fun _ i _=>0)
  case atStart=>exact ⟨rfl,rfl,rfl⟩
  case round=>
    obtain ⟨rfl,rfl,rfl⟩:=hrel
    go_wp2_with fail
    go_ret
    exact ⟨rfl,Below.refl _ _⟩
def pthR (t : ByteArray) (Q : List Raw) : List Raw:=Q.filter fun r=>decide (r.1.1 = t)
theorem pthR_yes {t : ByteArray} {Q : List Raw} {k : Nat} (h : k < Q.length) (he : Q[k].1.1 = t) : verL (pthR t (Q.take (k + 1))) = verL (pthR t (Q.take k)) ++ [Q[k].1.2]:=by
  unfold pthR verL
  rw [List.take_succ_eq_append_getElem h,List.filter_append,List.map_append]
  simp [he]
theorem pthR_no {t : ByteArray} {Q : List Raw} {k : Nat} (h : k < Q.length) (he : ¬ Q[k].1.1 = t) : verL (pthR t (Q.take (k + 1))) = verL (pthR t (Q.take k)):=by
  unfold pthR verL
  rw [List.take_succ_eq_append_getElem h,List.filter_append,List.map_append]
  simp [he]
theorem pthR_len (t : ByteArray) (Q : List Raw) : (verL (pthR t Q)).length <= Q.length:=by
  unfold pthR verL
  rw [List.length_map]
  exact List.length_filter_le _ _
theorem pthR_sz {t : ByteArray} {Q : List Raw} (hz : ∀ r,r ∈ Q -> r.1.1.size <= 80 /\ r.1.2.size <= 80) : ∀ x,x ∈ verL (pthR t Q) -> x.size <= 80:=fun x hx=>by
  obtain ⟨r,hr,rfl⟩:=List.mem_map.1 hx
  exact (hz r (List.mem_filter.1 hr).1).2
set_option maxRecDepth 100000 in
set_option maxHeartbeats 4000000 in
theorem versOf_any (Q : List Raw) (t : ByteArray) (v : Value) (w : World) (hL : Q.length ≤ 1000) (hz : ∀ r, r ∈ Q → r.1.1.size ≤ 80 ∧ r.1.2.size ≤ 80) (hv : EsAt w v Q) :
    Calls Tryz.prog 137 #[v,.string t] w fun e w'=>∃ u X,e = .returned u /\ TxAt w' u X /\ Kept (verL (pthR t Q)) (verL (pthR t Q)).length X /\ Below w.heap.size w w':=by
  have HV:=hid (fun W (h : Below w.heap.size w W)=>hv.below h)
  have HQM:=hid (show Q.length <= 1000000 by omega)
  have HQL:=hid hL
  have HSO:=hid (fun (L : List ByteArray) b o c W (hc : ∀ j (h : j < L.length),W.cell? ⟨b,o + j,none⟩ = some (.string L[j])) (h12 : L.length <= 1000) (hz : ∀ x,x ∈ L -> x.size <= 80)=>sortVers_some b o c L W hc h12 hz)
  have HSN:=hid sortVers_nil
  have HZZ:=hid (pthR_sz (t:=t) hz)
  have HZL:=hid (show (verL (pthR t Q)).length <= 1000 from Nat.le_trans (pthR_len t Q) hL)
  obtain ⟨i0,hi0,hz0,hz1,hz2⟩:=info_parts infoStr
  obtain ⟨va,vc,hv1,-⟩:=id hv
  subst hv1
  clear hv hz hL
  go_enter Tryz.func137,Tryz.ntmps137
  go_wp2_with fail
  go_loopw [5,6] (fun ov iv wr=>∃ i : Nat,i <= Q.length /\ iv = .int .i64 i /\ Hid (wr.ownsRow w.heap.size 9 1 ov (verL (pthR t (Q.take i))).length ((verL (pthR t (Q.take i))).map Value.string)) /\ Hid (Below w.heap.size w wr)) (fun _ iv _=>Q.length - (intOf iv).toNat)
  case atStart=>exact ⟨0,Nat.zero_le _,rfl,hid (World.ownsRow_nil _ _ _ _),hid (Below.refl _ _)⟩
  case round=>
    obtain ⟨i,hi,rfl,HOW,HBr⟩:=hrel
    by_cases hlt : i < Q.length
    · have hiI:=ix_lt hlt
      have hii:=ix_pos i
      have HLI:=hid hlt
      obtain ⟨eb,eo,hea,-⟩:=es_cells (HV.out _ HBr.out) hlt
      subst hea
      obtain ⟨y0,y1⟩:=es_modK (HV.out _ HBr.out) hlt
      have HYS:=hid (fun he=>pthR_yes (t:=t) hlt he)
      have HNO:=hid (fun he=>pthR_no (t:=t) hlt he)
      have HLN:=hid (show (verL (pthR t (Q.take i))).length <= 1000 from Nat.le_trans (pthR_len t _) (Nat.le_trans (List.length_take_le' i Q) HQL.out))
      generalize Q[i] = r at *
      obtain ⟨⟨p,q⟩,r2⟩:=r
      simp only at y0 y1 HYS HNO
      obtain ⟨SX,hSX⟩ : ∃ SX,verL (pthR t (Q.take i)) = SX:=⟨_,rfl⟩
      rw [hSX] at HOW HYS HNO HLN
      clear hSX hlt
      by_cases he : p = t
      · subst he
        have HST:=hid (HYS.out rfl)
        have heq:=str_refl p
        clear HYS HNO
        go_wp2_with (at_builtin; refine wpList_append_own _ rfl _ _ 43 rfl w.heap.size 9 i0 _ 1 16 Tryz.underlying43 hi0 hz0 hz1 hz2 rfl (by decide) _ _ _ rfl (HOW.out.alloc _) ⟨wr.heap.size,0,none⟩ 1 1 [.string q] rfl rfl (World.news_of_block (heap_new _ _)) (by intro u hu; simp at hu; subst hu; rfl) (Nat.le_trans (Nat.add_le_add_right HLN.out 1) (by unfold maxLen; decide)) (by have hz:=HLN.out; omega) (Nat.le_trans HBr.out.size (by simp)) ?_)
        intro v' w6 hown hgrow _
        have HB6:=hid (rel_app HBr.out.size HBr.out HOW.out (Below.refl _ _) hgrow)
        have HO6:=hid (show w6.ownsRow w.heap.size 9 1 v' (SX ++ [q]).length ((SX ++ [q]).map Value.string) by rw [List.length_append,List.map_append]; exact hown)
        clear hown hgrow
        go_wp2_with fail
        go_roundw
        case rel=>first | exact ⟨i + 1,HLI.out,nr_idx i,hid (by rw [HST.out]; exact HO6.out),HB6⟩ | exact ⟨i + 1,HLI.out,nx_idx HLI.out HQM.out,hid (by rw [HST.out]; exact HO6.out),HB6⟩
        case measure=>first | exact nr_meas HLI.out | exact nx_meas HLI.out HQM.out
      · have HST:=hid (HNO.out he)
        have heq:=str_ne he
        clear HYS HNO he
        go_wp2_with fail
        go_roundw
        case rel=>first | exact ⟨i + 1,HLI.out,nr_idx i,hid (by rw [HST.out]; exact HOW.out),HBr⟩ | exact ⟨i + 1,HLI.out,nx_idx HLI.out HQM.out,hid (by rw [HST.out]; exact HOW.out),HBr⟩
        case measure=>first | exact nr_meas HLI.out | exact nx_meas HLI.out HQM.out
    · have hiI:=ix_nlt hlt
      have HTA:=hid (show Q.take i = Q from List.take_of_length_le (by omega))
      rw [HTA.out] at HOW
      obtain ⟨Z,HZ⟩ : ∃ Z,Hid (verL (pthR t Q) = Z):=⟨_,hid rfl⟩
      rw [HZ.out] at HOW HZZ HZL
      clear hlt HTA
      obtain ⟨oa,oc,hov,-,hcell⟩:=own_tx HOW.out
      subst hov
      by_cases hZ : Z = []
      · subst hZ
        have HS0:=hid (HSN.out oa oc wr)
        go_wp2_with fail
        refine HS0.out.mono ?_
        rintro e w7 ⟨rfl,hb⟩
        have HB7:=hid (HBr.out.trans (hb.mono HBr.out.size))
        clear hb
        go_wp2_with fail
        go_ret
        refine ⟨_,[],rfl,⟨none,0,rfl,Nat.le_refl _,fun h=>absurd rfl h⟩,?_,HB7.out⟩
        rw [HZ.out]
        exact ⟨List.Pairwise.nil,fun t=>by simp [bl]⟩
      · obtain ⟨ob,oo,hoa,hcl⟩:=hcell hZ
        subst hoa
        have HS0:=hid (HSO.out Z ob oo oc wr hcl HZL.out HZZ.out)
        clear hcl hcell
        go_wp2_with fail
        refine HS0.out.mono ?_
        rintro e w7 ⟨u7,X,rfl,ho,hK,hb⟩
        have HB7:=hid (HBr.out.trans (hb.mono HBr.out.size))
        have HK7:=hid hK
        have HT7:=hid (own_tx ho)
        obtain ⟨ua,uc,hu7⟩:=own_slN ho
        subst hu7
        clear hb hK ho
        go_wp2_with fail
        go_ret
        exact ⟨_,X,rfl,HT7.out,by rw [HZ.out]; exact HK7.out,HB7.out⟩
set_option maxRecDepth 100000 in
set_option maxHeartbeats 4000000 in
theorem rank_any (Q : List Raw) (t s : ByteArray) (k : Nat) (v : Value) (w : World) (hL : Q.length ≤ 1000) (hs : s.size < 999999) (hk : k < Q.length) (hi : idxOf (isM (t, s)) Q = (k : Int)) (hq : Q[k].1.2 = s) (he : verErr s.data.toList = 0) (hv : EsAt w v Q) :
    Calls Tryz.prog 179 #[v,.string t,.string s] w fun e w'=>e = .returned (.int .i64 (rnk Q[k] : Nat)) /\ Below w.heap.size w w':=by
  have HFO:=hid (findOf_allJ Q (t,s) v w (by omega) hv)
  rw [hi] at HFO
  have HV:=hid (fun W (h : Below w.heap.size w W)=>hv.below h)
  have HVO:=hid (fun W=>verOf_any s W (by omega))
  have HRN:=hid (show rnk Q[k] = if Q[k].2.2.2 then 0 else if 0 < (preOf s.data.toList).length then 1 else 2 by unfold rnk; rw [hq])
  have hkI:=ix_lt hk
  have hk0:=ix_pos k
  obtain ⟨va,vc,hv1,-⟩:=id hv
  subst hv1
  obtain ⟨eb,eo,hea,-⟩:=es_cells hv hk
  subst hea
  have HBK:=hid (fun W (h : Below w.heap.size w W)=>es_backK (HV.out W h) hk)
  have HE:=hid he
  generalize rnk Q[k] = z at *
  generalize (Q[k]'hk).2.2.2 = bk at *
  clear hv hi hq he hk
  go_enter Tryz.func179,Tryz.ntmps179
  go_wp2_with fail
  refine HFO.out.mono ?_
  rintro e w1 ⟨rfl,hb⟩
  have HB1:=hid hb
  have c0:=HBK.out w1 hb
  clear hb HFO
  cases bk with
  | true=>
    go_wp2_with fail
    go_ret
    exact ⟨by rw [HRN.out]; rfl,HB1.out⟩
  | false=>
    go_wp2_with fail
    refine (HVO.out w1).mono ?_
    rintro e w2 ⟨h | ⟨_,sa,cap,X2,rfl,hbl,-⟩,hb⟩
    · exact absurd HE.out h.1
    · have HB2:=hid (HB1.out.trans (hb.mono HB1.out.size))
      have HBL:=hid (show X2.length = (preOf s.data.toList).length by rw [<- hbl]; simp [bl])
      have HB3:=hid (HB2.out.alloc HB2.out.size (.cells #[.int .i64 (nAt s.data.toList 0),.int .i64 (nAt s.data.toList 1),.int .i64 (nAt s.data.toList 2),.slice sa X2.length cap] 95))
      clear hb hbl
      by_cases hp : 0 < X2.length
      · have hpI : (0 : Int) < (X2.length : Int):=by omega
        have HZ:=hid (show z = 1 by rw [HRN.out,if_neg (by simp),if_pos (by rw [<- HBL.out]; exact hp)])
        clear hp
        go_wp2_with fail
        go_ret
        exact ⟨by rw [HZ.out]; rfl,HB3.out⟩
      · have hpI : ¬ (0 : Int) < (X2.length : Int):=by omega
        have HZ:=hid (show z = 2 by rw [HRN.out,if_neg (by simp),if_neg (by rw [<- HBL.out]; exact hp)])
        clear hp
        go_wp2_with fail
        go_ret
        exact ⟨by rw [HZ.out]; rfl,HB3.out⟩
end Ve
end Go.Proofs.YtlcffhadobhfkaaGreatDoor
