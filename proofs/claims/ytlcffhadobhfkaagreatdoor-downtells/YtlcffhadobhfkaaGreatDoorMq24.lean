/-
  RefK
-/
import Derived.Test.YtlcffhadobhfkaaGreatDoorMq4
import Derived.Test.YtlcffhadobhfkaaGreatDoorMq2
import Derived.Test.YtlcffhadobhfkaaGreatDoorMq5
import Derived.Test.YtlcffhadobhfkaaGreatDoorMq3
import Derived.Test.YtlcffhadobhfkaaGreatDoorMq8
import Derived.Test.YtlcffhadobhfkaaGreatDoorMq9
import Derived.Test.YtlcffhadobhfkaaGreatDoorMq11
import Derived.Test.YtlcffhadobhfkaaGreatDoorMq13
import Derived.Test.YtlcffhadobhfkaaGreatDoorMq16
namespace Go.Proofs.YtlcffhadobhfkaaGreatDoor
open Go.RowKit
namespace Ve
theorem bad_one {l : List UInt8} {e : List UInt8} (h : e ∈ elems l) (hb : elemOk e = false) : pathErr l = 1:=by
  have : badE l = true:=List.any_eq_true.2 ⟨e,h,by rw [hb]; rfl⟩
  unfold pathErr; rw [this]; rfl
theorem bad_none {l : List UInt8} (h : (elems l).all elemOk = true) : badE l = false:=by
  unfold badE
  rw [List.any_eq_false]
  intro x hx
  rw [List.all_eq_true.1 h x hx]; decide
theorem path_2 {l : List UInt8} (h : (elems l).all elemOk = true) (h2 : longE l = true) : pathErr l = 2:=by
  unfold pathErr; rw [bad_none h,h2]; rfl
theorem path_4 {l : List UInt8} (h : (elems l).all elemOk = true) (h2 : longE l = false) (h1 : 1 < (elems l).length) (hs : sufV (lastOf l) < 0) : pathErr l = 4:=by
  unfold sufV at hs
  cases hk : likeB (lastOf l)
  · rw [hk] at hs; simp at hs
  · rw [hk] at hs
    cases ho : sufOk (lastOf l)
    · have hu : sufE l = true:=by unfold sufE; rw [hk,decide_eq_true h1]; rfl
      unfold pathErr; rw [bad_none h,h2,hu,ho]; rfl
    · rw [ho] at hs
      have:=suf_pos ho
      simp at hs; omega
theorem path_0 {l : List UInt8} (h : (elems l).all elemOk = true) (h2 : longE l = false) (h1 : 1 < (elems l).length) (hs : ¬ sufV (lastOf l) < 0) : pathErr l = 0:=by
  unfold sufV at hs
  cases hk : likeB (lastOf l)
  · have hu : sufE l = false:=by unfold sufE; rw [hk]; simp
    unfold pathErr; rw [bad_none h,h2,hu]; rfl
  · rw [hk] at hs
    have hu : sufE l = true:=by unfold sufE; rw [hk,decide_eq_true h1]; rfl
    cases ho : sufOk (lastOf l)
    · rw [ho] at hs; simp at hs
    · unfold pathErr; rw [bad_none h,h2,hu,ho]; rfl
theorem path_00 {l : List UInt8} (h : (elems l).all elemOk = true) (h2 : longE l = false) (h1 : ¬ 1 < (elems l).length) : pathErr l = 0:=by
  have hu : sufE l = false:=by unfold sufE; rw [decide_eq_false h1]; rfl
  unfold pathErr; rw [bad_none h,h2,hu]; rfl
theorem el_is (c : UInt8) : el c = (decide (97 <= (c.toNat : Int) /\ (c.toNat : Int) <= 122) || decide (48 <= (c.toNat : Int) /\ (c.toNat : Int) <= 57) || (c.toNat : Int) == 46 || (c.toNat : Int) == 45 || (c.toNat : Int) == 95):=rfl
theorem dot_is (c : UInt8) : (c == 46) = ((c.toNat : Int) == 46):=by
  rw [Bool.eq_iff_iff]
  simp only [beq_iff_eq]
  have : (46 : UInt8).toNat = 46:=rfl
  constructor
  · intro h; rw [h]; rfl
  · intro h; exact UInt8.toNat_inj.1 (by omega)
set_option maxRecDepth 100000 in
set_option maxHeartbeats 16000000 in
theorem pathError_any (s : ByteArray) (w : World) (hs : s.size < 4294967281) :
    Calls Tryz.prog 71 #[.string s] w fun e w'=>e = .returned (.int .i64 (pathErr s.data.toList : Nat)) /\ Below w.heap.size w w':=by
  go_enter Tryz.func71,Tryz.ntmps71
  go_wp2_with fail
  refine (rcut47 s w hs).mono ?_
  rintro e w1 ⟨v,X,rfl,hX,hown,hb⟩
  have HX:=hid hX
  have HB:=hid hb
  have HXN:=hid (show X ≠ [] from fun h=>by subst h; exact cutAt_ne _ _ hX.symm)
  obtain ⟨g,cap,rfl,hg,hgz,hcells⟩:=owned_cells hown HXN.out
  have HCE:=hid hcells
  have hXle:=many_le hX
  have HXZ:=hid (show ∀ x,x ∈ X -> x.size <= maxLen from fun x hx=>by have:=piece_le hX hx; unfold maxLen; omega)
  have HXL:=hid (show (elems s.data.toList).length = X.length by rw [<- hX,bl_len])
  have HPOS:=hid (show 0 < X.length from List.length_pos_iff.2 HXN.out)
  have HLE:=hid (show longE s.data.toList = (decide (5 < (X.length : Int)) || (bl X).any long) by
    unfold longE
    rw [<- hX,bl_len]
    congr 1
    rw [decide_eq_decide]; omega)
  have HLA:=hid (fun hp=>last_get hX hp)
  clear hX hown hb hg hgz hcells
  generalize hlg : decide (5 < (X.length : Int)) = lg at *
  go_wp2_with fail
  go_loop [4,5] (fun lo i=>∃ k : Nat,k <= X.length /\ i = .int .i64 k /\ lo = .bool (lg || (bl (X.take k)).any long) /\ Hid ((bl (X.take k)).all elemOk = true)) (fun _ i=>X.length - (intOf i).toNat)
  case atStart=>exact ⟨0,Nat.zero_le _,rfl,by simp [bl],hid (by simp [bl])⟩
  case round=>
    obtain ⟨k,hk,rfl,rfl,HOK⟩:=hrel
    generalize hbj : (lg || (bl (X.take k)).any long) = bj at *
    have HBJ:=hid hbj
    clear hbj
    by_cases hkX : k < X.length
    · have hcell:=HCE.out k hkX
      have HPZ:=hid (HXZ.out X[k] (List.getElem_mem hkX))
      have HXJ:=hid (bl_take_snoc X k hkX)
      have HMEM:=hid (show X[k].data.toList ∈ elems s.data.toList by rw [<- HX.out]; exact bl_mem (List.getElem_mem hkX))
      generalize X[k] = p at *
      have hpz : p.size <= 9223372036854775807:=HPZ.out
      go_wp2_with fail
      go_loop [6,7,8,9,10] (fun dt i _ _ _=>∃ y : Nat,y <= p.size /\ i = .int .i64 y /\ dt = .bool ((p.data.toList.take y).all (· == 46)) /\ Hid (seenOk p.data.toList y)) (fun _ i _ _ _=>p.size - (intOf i).toNat)
      case atStart=>exact ⟨0,Nat.zero_le _,rfl,rfl,hid ⟨rfl,fun j _ h=>absurd h (Nat.not_lt_zero j)⟩⟩
      case round=>
        obtain ⟨y,hy,rfl,rfl,HSE⟩:=hrel
        generalize hdt : (p.data.toList.take y).all (· == 46) = dt at *
        have HDT:=hid hdt
        clear hdt
        by_cases hyl : y < p.size
        · have hyb:=p[y].toNat_lt
          have HLL:=hid (show y < p.data.toList.length by simpa using hyl)
          have HPY:=hid (show p.data.toList[y]'(by simpa using hyl) = p[y] from rfl)
          have HEL:=hid (el_is p[y])
          have HDI:=hid (dot_is p[y])
          have HDN:=hid (dots_next (l:=p.data.toList) (k:=y) (by simpa using hyl))
          rw [HPY.out,HDT.out,HDI.out] at HDN
          have HBAD:=hid (show el p[y] = false -> pathErr s.data.toList = 1 from fun h=>bad_one HMEM.out (seen_bad (k:=y) (by simpa using hyl) h))
          have HTHREE:=hid (show 2 <= y -> (p.data.toList.drop (y - 2)).take 3 = [46,46,46] -> pathErr s.data.toList = 1 from fun h2 h=>bad_one HMEM.out (seen_three h2 (by simpa using hyl) h))
          have HNEXT:=hid (show el p[y] = true -> (2 <= y -> (p.data.toList.drop (y - 2)).take 3 ≠ [46,46,46]) -> seenOk p.data.toList (y + 1) from fun h h3=>seen_next HSE.out (by simpa using hyl) h h3)
          have HRG:=hid (show (p[y].toNat : Int) < 45 \/ (p[y].toNat : Int) = 45 \/ (p[y].toNat : Int) = 46 \/ (p[y].toNat : Int) = 47 \/ (48 <= (p[y].toNat : Int) /\ (p[y].toNat : Int) <= 57) \/ (57 < (p[y].toNat : Int) /\ (p[y].toNat : Int) < 95) \/ (p[y].toNat : Int) = 95 \/ (p[y].toNat : Int) = 96 \/ (97 <= (p[y].toNat : Int) /\ (p[y].toNat : Int) <= 122) \/ 122 < (p[y].toNat : Int) by omega)
          have HEXT:=hid (show 2 <= y -> (p.extract (y - 2) (y + 1)).data.toList = (p.data.toList.drop (y - 2)).take 3 from fun h2=>by rw [extract_list,show y + 1 - (y - 2) = 3 by omega])
          clear hyb
          rcases HRG.out with hr | hr | hr | hr | hr | hr | hr | hr | hr | hr
          · have a1 : ¬ 97 <= (p[y].toNat : Int):=by omega
            have a2 : (p[y].toNat : Int) <= 122:=by omega
            have d1 : ¬ 48 <= (p[y].toNat : Int):=by omega
            have d2 : (p[y].toNat : Int) <= 57:=by omega
            have e1 : ((p[y].toNat : Int) == 46) = false:=beq_eq_false_iff_ne.2 (by omega)
            have e1p : ¬ (p[y].toNat : Int) = 46:=by omega
            have e1n : ((p[y].toNat : Int) != 46) = true:=by rw [bne,e1]; rfl
            have e2 : ((p[y].toNat : Int) == 45) = false:=beq_eq_false_iff_ne.2 (by omega)
            have e2p : ¬ (p[y].toNat : Int) = 45:=by omega
            have e2n : ((p[y].toNat : Int) != 45) = true:=by rw [bne,e2]; rfl
            have e3 : ((p[y].toNat : Int) == 95) = false:=beq_eq_false_iff_ne.2 (by omega)
            have e3p : ¬ (p[y].toNat : Int) = 95:=by omega
            have e3n : ((p[y].toNat : Int) != 95) = true:=by rw [bne,e3]; rfl
            have HRES:=hid (HBAD.out (by rw [HEL.out]; simp; omega))
            have D5:=hid (show ∀ h : ¬ (p[y].toNat : Int) <= 57,decide ((p[y].toNat : Int) <= 57) = false from fun h=>decide_eq_false h)
            have D9:=hid (show ∀ h : ¬ (p[y].toNat : Int) <= 122,decide ((p[y].toNat : Int) <= 122) = false from fun h=>decide_eq_false h)
            clear hr
            go_wp2_with fail
            all_goals first
              | (go_ret; exact ⟨by rw [HRES.out]; rfl,HB.out⟩)
              | exact absurd ‹((((p[y].toNat : Int) != 46) = false \/ ((p[y].toNat : Int) != 45) = false) \/ ((p[y].toNat : Int) != 95) = false)› (by rw [e1n,e2n,e3n]; decide)
              | exact absurd ‹((((!decide ((p[y].toNat : Int) <= 57)) = false \/ ((p[y].toNat : Int) != 46) = false) \/ ((p[y].toNat : Int) != 45) = false) \/ ((p[y].toNat : Int) != 95) = false)› (by rw [e1n,e2n,e3n,D5.out (by omega)]; decide)
              | exact absurd ‹(((((!decide ((p[y].toNat : Int) <= 122)) = false \/ (!decide ((p[y].toNat : Int) <= 57)) = false) \/ ((p[y].toNat : Int) != 46) = false) \/ ((p[y].toNat : Int) != 45) = false) \/ ((p[y].toNat : Int) != 95) = false)› (by rw [e1n,e2n,e3n,D5.out (by omega),D9.out (by omega)]; decide)
          · have a1 : ¬ 97 <= (p[y].toNat : Int):=by omega
            have a2 : (p[y].toNat : Int) <= 122:=by omega
            have d1 : ¬ 48 <= (p[y].toNat : Int):=by omega
            have d2 : (p[y].toNat : Int) <= 57:=by omega
            have e1 : ((p[y].toNat : Int) == 46) = false:=beq_eq_false_iff_ne.2 (by omega)
            have e1p : ¬ (p[y].toNat : Int) = 46:=by omega
            have e1n : ((p[y].toNat : Int) != 46) = true:=by rw [bne,e1]; rfl
            have e2 : ((p[y].toNat : Int) == 45) = true:=beq_iff_eq.2 (by omega)
            have e2p : (p[y].toNat : Int) = 45:=by omega
            have e2n : ((p[y].toNat : Int) != 45) = false:=by rw [bne,e2]; rfl
            have e3 : ((p[y].toNat : Int) == 95) = false:=beq_eq_false_iff_ne.2 (by omega)
            have e3p : ¬ (p[y].toNat : Int) = 95:=by omega
            have e3n : ((p[y].toNat : Int) != 95) = true:=by rw [bne,e3]; rfl
            have HE1:=hid (show el p[y] = true by rw [HEL.out]; simp; omega)
            clear hr
            cases dt
            · have HDV:=hid (show Value.bool false = Value.bool ((p.data.toList.take (y + 1)).all (· == 46)) by rw [HDN.out,e1]; rfl)
              have HDW:=hid (show Value.bool false = Value.bool ((p.data.toList.take (y + 1)).all (· == 46)) by rw [HDN.out]; rfl)
              by_cases h2 : 2 <= y
              · have h2i : (2 : Int) <= (y : Int):=by omega
                have s1 : (0 : Int) <= (y : Int) - 2:=by omega
                have s2 : (y : Int) - 2 <= (y : Int) + 1:=by omega
                have s3 : (y : Int) + 1 <= (p.size : Int):=by omega
                have t1 : ((y : Int) - 2).toNat = y - 2:=by omega
                have h3 : (p.data.toList.drop (y - 2)).take 3 ≠ [46,46,46]:=fun h=>by
                  have h4:=congrArg (fun l=>l[2]?) h
                  have h5 : ((p.data.toList.drop (y - 2)).take 3)[2]? = some p[y]:=by
                    rw [List.getElem?_take_of_lt (by omega),List.getElem?_drop,show y - 2 + 2 = y by omega,List.getElem?_eq_getElem HLL.out,HPY.out]
                  have h6 : some p[y] = some 46:=h5.symm.trans h4
                  have h7 : p[y] = 46:=Option.some.inj h6
                  have h8:=HDI.out
                  rw [h7] at h8 e1
                  exact absurd e1 (by decide)
                have hx3 : ((p.extract (y - 2) (y + 1)).toList == [46,46,46]) = false:=by rw [ByteArray.toList_eq,HEXT.out h2]; exact beq_eq_false_iff_ne.2 h3
                have HNX:=hid (HNEXT.out HE1.out (fun _=>h3))
                clear h3
                go_wp2_with fail
                go_round
                case rel=>first | exact ⟨y + 1,by omega,by go_num,HDV.out,hid (HNX.out)⟩ | exact ⟨y + 1,by omega,by go_num,HDW.out,hid (HNX.out)⟩
                case measure=>simp [intOf]; omega
              · have h2i : ¬ (2 : Int) <= (y : Int):=by omega
                have HNX:=hid (HNEXT.out HE1.out (fun h=>absurd h h2))
                go_wp2_with fail
                go_round
                case rel=>first | exact ⟨y + 1,by omega,by go_num,HDV.out,hid (HNX.out)⟩ | exact ⟨y + 1,by omega,by go_num,HDW.out,hid (HNX.out)⟩
                case measure=>simp [intOf]; omega
            · have HDV:=hid (show Value.bool false = Value.bool ((p.data.toList.take (y + 1)).all (· == 46)) by rw [HDN.out,e1]; rfl)
              have HDW:=hid (show Value.bool ((p[y].toNat : Int) == 46) = Value.bool ((p.data.toList.take (y + 1)).all (· == 46)) by rw [HDN.out]; rfl)
              by_cases h2 : 2 <= y
              · have h2i : (2 : Int) <= (y : Int):=by omega
                have s1 : (0 : Int) <= (y : Int) - 2:=by omega
                have s2 : (y : Int) - 2 <= (y : Int) + 1:=by omega
                have s3 : (y : Int) + 1 <= (p.size : Int):=by omega
                have t1 : ((y : Int) - 2).toNat = y - 2:=by omega
                have h3 : (p.data.toList.drop (y - 2)).take 3 ≠ [46,46,46]:=fun h=>by
                  have h4:=congrArg (fun l=>l[2]?) h
                  have h5 : ((p.data.toList.drop (y - 2)).take 3)[2]? = some p[y]:=by
                    rw [List.getElem?_take_of_lt (by omega),List.getElem?_drop,show y - 2 + 2 = y by omega,List.getElem?_eq_getElem HLL.out,HPY.out]
                  have h6 : some p[y] = some 46:=h5.symm.trans h4
                  have h7 : p[y] = 46:=Option.some.inj h6
                  have h8:=HDI.out
                  rw [h7] at h8 e1
                  exact absurd e1 (by decide)
                have hx3 : ((p.extract (y - 2) (y + 1)).toList == [46,46,46]) = false:=by rw [ByteArray.toList_eq,HEXT.out h2]; exact beq_eq_false_iff_ne.2 h3
                have HNX:=hid (HNEXT.out HE1.out (fun _=>h3))
                clear h3
                go_wp2_with fail
                go_round
                case rel=>first | exact ⟨y + 1,by omega,by go_num,HDV.out,hid (HNX.out)⟩ | exact ⟨y + 1,by omega,by go_num,HDW.out,hid (HNX.out)⟩
                case measure=>simp [intOf]; omega
              · have h2i : ¬ (2 : Int) <= (y : Int):=by omega
                have HNX:=hid (HNEXT.out HE1.out (fun h=>absurd h h2))
                go_wp2_with fail
                go_round
                case rel=>first | exact ⟨y + 1,by omega,by go_num,HDV.out,hid (HNX.out)⟩ | exact ⟨y + 1,by omega,by go_num,HDW.out,hid (HNX.out)⟩
                case measure=>simp [intOf]; omega
          · have a1 : ¬ 97 <= (p[y].toNat : Int):=by omega
            have a2 : (p[y].toNat : Int) <= 122:=by omega
            have d1 : ¬ 48 <= (p[y].toNat : Int):=by omega
            have d2 : (p[y].toNat : Int) <= 57:=by omega
            have e1 : ((p[y].toNat : Int) == 46) = true:=beq_iff_eq.2 (by omega)
            have e1p : (p[y].toNat : Int) = 46:=by omega
            have e1n : ((p[y].toNat : Int) != 46) = false:=by rw [bne,e1]; rfl
            have e2 : ((p[y].toNat : Int) == 45) = false:=beq_eq_false_iff_ne.2 (by omega)
            have e2p : ¬ (p[y].toNat : Int) = 45:=by omega
            have e2n : ((p[y].toNat : Int) != 45) = true:=by rw [bne,e2]; rfl
            have e3 : ((p[y].toNat : Int) == 95) = false:=beq_eq_false_iff_ne.2 (by omega)
            have e3p : ¬ (p[y].toNat : Int) = 95:=by omega
            have e3n : ((p[y].toNat : Int) != 95) = true:=by rw [bne,e3]; rfl
            have HE1:=hid (show el p[y] = true by rw [HEL.out]; simp; omega)
            clear hr
            cases dt
            · have HDV:=hid (show Value.bool false = Value.bool ((p.data.toList.take (y + 1)).all (· == 46)) by rw [HDN.out,e1]; rfl)
              have HDW:=hid (show Value.bool false = Value.bool ((p.data.toList.take (y + 1)).all (· == 46)) by rw [HDN.out]; rfl)
              by_cases h2 : 2 <= y
              · have h2i : (2 : Int) <= (y : Int):=by omega
                have s1 : (0 : Int) <= (y : Int) - 2:=by omega
                have s2 : (y : Int) - 2 <= (y : Int) + 1:=by omega
                have s3 : (y : Int) + 1 <= (p.size : Int):=by omega
                have t1 : ((y : Int) - 2).toNat = y - 2:=by omega
                by_cases h3 : (p.data.toList.drop (y - 2)).take 3 = [46,46,46]
                · have hx3 : ((p.extract (y - 2) (y + 1)).toList == [46,46,46]) = true:=by rw [ByteArray.toList_eq,HEXT.out h2]; exact beq_iff_eq.2 h3
                  have HRES:=hid (HTHREE.out h2 h3)
                  clear h3
                  go_wp2_with fail
                  go_ret
                  exact ⟨by rw [HRES.out]; rfl,HB.out⟩
                · have hx3 : ((p.extract (y - 2) (y + 1)).toList == [46,46,46]) = false:=by rw [ByteArray.toList_eq,HEXT.out h2]; exact beq_eq_false_iff_ne.2 h3
                  have HNX:=hid (HNEXT.out HE1.out (fun _=>h3))
                  clear h3
                  go_wp2_with fail
                  go_round
                  case rel=>first | exact ⟨y + 1,by omega,by go_num,HDV.out,hid (HNX.out)⟩ | exact ⟨y + 1,by omega,by go_num,HDW.out,hid (HNX.out)⟩
                  case measure=>simp [intOf]; omega
              · have h2i : ¬ (2 : Int) <= (y : Int):=by omega
                have HNX:=hid (HNEXT.out HE1.out (fun h=>absurd h h2))
                go_wp2_with fail
                go_round
                case rel=>first | exact ⟨y + 1,by omega,by go_num,HDV.out,hid (HNX.out)⟩ | exact ⟨y + 1,by omega,by go_num,HDW.out,hid (HNX.out)⟩
                case measure=>simp [intOf]; omega
            · have HDV:=hid (show Value.bool true = Value.bool ((p.data.toList.take (y + 1)).all (· == 46)) by rw [HDN.out,e1]; rfl)
              have HDW:=hid (show Value.bool ((p[y].toNat : Int) == 46) = Value.bool ((p.data.toList.take (y + 1)).all (· == 46)) by rw [HDN.out]; rfl)
              by_cases h2 : 2 <= y
              · have h2i : (2 : Int) <= (y : Int):=by omega
                have s1 : (0 : Int) <= (y : Int) - 2:=by omega
                have s2 : (y : Int) - 2 <= (y : Int) + 1:=by omega
                have s3 : (y : Int) + 1 <= (p.size : Int):=by omega
                have t1 : ((y : Int) - 2).toNat = y - 2:=by omega
                by_cases h3 : (p.data.toList.drop (y - 2)).take 3 = [46,46,46]
                · have hx3 : ((p.extract (y - 2) (y + 1)).toList == [46,46,46]) = true:=by rw [ByteArray.toList_eq,HEXT.out h2]; exact beq_iff_eq.2 h3
                  have HRES:=hid (HTHREE.out h2 h3)
                  clear h3
                  go_wp2_with fail
                  go_ret
                  exact ⟨by rw [HRES.out]; rfl,HB.out⟩
                · have hx3 : ((p.extract (y - 2) (y + 1)).toList == [46,46,46]) = false:=by rw [ByteArray.toList_eq,HEXT.out h2]; exact beq_eq_false_iff_ne.2 h3
                  have HNX:=hid (HNEXT.out HE1.out (fun _=>h3))
                  clear h3
                  go_wp2_with fail
                  go_round
                  case rel=>first | exact ⟨y + 1,by omega,by go_num,HDV.out,hid (HNX.out)⟩ | exact ⟨y + 1,by omega,by go_num,HDW.out,hid (HNX.out)⟩
                  case measure=>simp [intOf]; omega
              · have h2i : ¬ (2 : Int) <= (y : Int):=by omega
                have HNX:=hid (HNEXT.out HE1.out (fun h=>absurd h h2))
                go_wp2_with fail
                go_round
                case rel=>first | exact ⟨y + 1,by omega,by go_num,HDV.out,hid (HNX.out)⟩ | exact ⟨y + 1,by omega,by go_num,HDW.out,hid (HNX.out)⟩
                case measure=>simp [intOf]; omega
          · have a1 : ¬ 97 <= (p[y].toNat : Int):=by omega
            have a2 : (p[y].toNat : Int) <= 122:=by omega
            have d1 : ¬ 48 <= (p[y].toNat : Int):=by omega
            have d2 : (p[y].toNat : Int) <= 57:=by omega
            have e1 : ((p[y].toNat : Int) == 46) = false:=beq_eq_false_iff_ne.2 (by omega)
            have e1p : ¬ (p[y].toNat : Int) = 46:=by omega
            have e1n : ((p[y].toNat : Int) != 46) = true:=by rw [bne,e1]; rfl
            have e2 : ((p[y].toNat : Int) == 45) = false:=beq_eq_false_iff_ne.2 (by omega)
            have e2p : ¬ (p[y].toNat : Int) = 45:=by omega
            have e2n : ((p[y].toNat : Int) != 45) = true:=by rw [bne,e2]; rfl
            have e3 : ((p[y].toNat : Int) == 95) = false:=beq_eq_false_iff_ne.2 (by omega)
            have e3p : ¬ (p[y].toNat : Int) = 95:=by omega
            have e3n : ((p[y].toNat : Int) != 95) = true:=by rw [bne,e3]; rfl
            have HRES:=hid (HBAD.out (by rw [HEL.out]; simp; omega))
            have D5:=hid (show ∀ h : ¬ (p[y].toNat : Int) <= 57,decide ((p[y].toNat : Int) <= 57) = false from fun h=>decide_eq_false h)
            have D9:=hid (show ∀ h : ¬ (p[y].toNat : Int) <= 122,decide ((p[y].toNat : Int) <= 122) = false from fun h=>decide_eq_false h)
            clear hr
            go_wp2_with fail
            all_goals first
              | (go_ret; exact ⟨by rw [HRES.out]; rfl,HB.out⟩)
              | exact absurd ‹((((p[y].toNat : Int) != 46) = false \/ ((p[y].toNat : Int) != 45) = false) \/ ((p[y].toNat : Int) != 95) = false)› (by rw [e1n,e2n,e3n]; decide)
              | exact absurd ‹((((!decide ((p[y].toNat : Int) <= 57)) = false \/ ((p[y].toNat : Int) != 46) = false) \/ ((p[y].toNat : Int) != 45) = false) \/ ((p[y].toNat : Int) != 95) = false)› (by rw [e1n,e2n,e3n,D5.out (by omega)]; decide)
              | exact absurd ‹(((((!decide ((p[y].toNat : Int) <= 122)) = false \/ (!decide ((p[y].toNat : Int) <= 57)) = false) \/ ((p[y].toNat : Int) != 46) = false) \/ ((p[y].toNat : Int) != 45) = false) \/ ((p[y].toNat : Int) != 95) = false)› (by rw [e1n,e2n,e3n,D5.out (by omega),D9.out (by omega)]; decide)
          · have a1 : ¬ 97 <= (p[y].toNat : Int):=by omega
            have a2 : (p[y].toNat : Int) <= 122:=by omega
            have d1 : 48 <= (p[y].toNat : Int):=by omega
            have d2 : (p[y].toNat : Int) <= 57:=by omega
            have e1 : ((p[y].toNat : Int) == 46) = false:=beq_eq_false_iff_ne.2 (by omega)
            have e1p : ¬ (p[y].toNat : Int) = 46:=by omega
            have e1n : ((p[y].toNat : Int) != 46) = true:=by rw [bne,e1]; rfl
            have e2 : ((p[y].toNat : Int) == 45) = false:=beq_eq_false_iff_ne.2 (by omega)
            have e2p : ¬ (p[y].toNat : Int) = 45:=by omega
            have e2n : ((p[y].toNat : Int) != 45) = true:=by rw [bne,e2]; rfl
            have e3 : ((p[y].toNat : Int) == 95) = false:=beq_eq_false_iff_ne.2 (by omega)
            have e3p : ¬ (p[y].toNat : Int) = 95:=by omega
            have e3n : ((p[y].toNat : Int) != 95) = true:=by rw [bne,e3]; rfl
            have HE1:=hid (show el p[y] = true by rw [HEL.out]; simp; omega)
            clear hr
            cases dt
            · have HDV:=hid (show Value.bool false = Value.bool ((p.data.toList.take (y + 1)).all (· == 46)) by rw [HDN.out,e1]; rfl)
              have HDW:=hid (show Value.bool false = Value.bool ((p.data.toList.take (y + 1)).all (· == 46)) by rw [HDN.out]; rfl)
              by_cases h2 : 2 <= y
              · have h2i : (2 : Int) <= (y : Int):=by omega
                have s1 : (0 : Int) <= (y : Int) - 2:=by omega
                have s2 : (y : Int) - 2 <= (y : Int) + 1:=by omega
                have s3 : (y : Int) + 1 <= (p.size : Int):=by omega
                have t1 : ((y : Int) - 2).toNat = y - 2:=by omega
                have h3 : (p.data.toList.drop (y - 2)).take 3 ≠ [46,46,46]:=fun h=>by
                  have h4:=congrArg (fun l=>l[2]?) h
                  have h5 : ((p.data.toList.drop (y - 2)).take 3)[2]? = some p[y]:=by
                    rw [List.getElem?_take_of_lt (by omega),List.getElem?_drop,show y - 2 + 2 = y by omega,List.getElem?_eq_getElem HLL.out,HPY.out]
                  have h6 : some p[y] = some 46:=h5.symm.trans h4
                  have h7 : p[y] = 46:=Option.some.inj h6
                  have h8:=HDI.out
                  rw [h7] at h8 e1
                  exact absurd e1 (by decide)
                have hx3 : ((p.extract (y - 2) (y + 1)).toList == [46,46,46]) = false:=by rw [ByteArray.toList_eq,HEXT.out h2]; exact beq_eq_false_iff_ne.2 h3
                have HNX:=hid (HNEXT.out HE1.out (fun _=>h3))
                clear h3
                go_wp2_with fail
                go_round
                case rel=>first | exact ⟨y + 1,by omega,by go_num,HDV.out,hid (HNX.out)⟩ | exact ⟨y + 1,by omega,by go_num,HDW.out,hid (HNX.out)⟩
                case measure=>simp [intOf]; omega
              · have h2i : ¬ (2 : Int) <= (y : Int):=by omega
                have HNX:=hid (HNEXT.out HE1.out (fun h=>absurd h h2))
                go_wp2_with fail
                go_round
                case rel=>first | exact ⟨y + 1,by omega,by go_num,HDV.out,hid (HNX.out)⟩ | exact ⟨y + 1,by omega,by go_num,HDW.out,hid (HNX.out)⟩
                case measure=>simp [intOf]; omega
            · have HDV:=hid (show Value.bool false = Value.bool ((p.data.toList.take (y + 1)).all (· == 46)) by rw [HDN.out,e1]; rfl)
              have HDW:=hid (show Value.bool ((p[y].toNat : Int) == 46) = Value.bool ((p.data.toList.take (y + 1)).all (· == 46)) by rw [HDN.out]; rfl)
              by_cases h2 : 2 <= y
              · have h2i : (2 : Int) <= (y : Int):=by omega
                have s1 : (0 : Int) <= (y : Int) - 2:=by omega
                have s2 : (y : Int) - 2 <= (y : Int) + 1:=by omega
                have s3 : (y : Int) + 1 <= (p.size : Int):=by omega
                have t1 : ((y : Int) - 2).toNat = y - 2:=by omega
                have h3 : (p.data.toList.drop (y - 2)).take 3 ≠ [46,46,46]:=fun h=>by
                  have h4:=congrArg (fun l=>l[2]?) h
                  have h5 : ((p.data.toList.drop (y - 2)).take 3)[2]? = some p[y]:=by
                    rw [List.getElem?_take_of_lt (by omega),List.getElem?_drop,show y - 2 + 2 = y by omega,List.getElem?_eq_getElem HLL.out,HPY.out]
                  have h6 : some p[y] = some 46:=h5.symm.trans h4
                  have h7 : p[y] = 46:=Option.some.inj h6
                  have h8:=HDI.out
                  rw [h7] at h8 e1
                  exact absurd e1 (by decide)
                have hx3 : ((p.extract (y - 2) (y + 1)).toList == [46,46,46]) = false:=by rw [ByteArray.toList_eq,HEXT.out h2]; exact beq_eq_false_iff_ne.2 h3
                have HNX:=hid (HNEXT.out HE1.out (fun _=>h3))
                clear h3
                go_wp2_with fail
                go_round
                case rel=>first | exact ⟨y + 1,by omega,by go_num,HDV.out,hid (HNX.out)⟩ | exact ⟨y + 1,by omega,by go_num,HDW.out,hid (HNX.out)⟩
                case measure=>simp [intOf]; omega
              · have h2i : ¬ (2 : Int) <= (y : Int):=by omega
                have HNX:=hid (HNEXT.out HE1.out (fun h=>absurd h h2))
                go_wp2_with fail
                go_round
                case rel=>first | exact ⟨y + 1,by omega,by go_num,HDV.out,hid (HNX.out)⟩ | exact ⟨y + 1,by omega,by go_num,HDW.out,hid (HNX.out)⟩
                case measure=>simp [intOf]; omega
          · have a1 : ¬ 97 <= (p[y].toNat : Int):=by omega
            have a2 : (p[y].toNat : Int) <= 122:=by omega
            have d1 : 48 <= (p[y].toNat : Int):=by omega
            have d2 : ¬ (p[y].toNat : Int) <= 57:=by omega
            have e1 : ((p[y].toNat : Int) == 46) = false:=beq_eq_false_iff_ne.2 (by omega)
            have e1p : ¬ (p[y].toNat : Int) = 46:=by omega
            have e1n : ((p[y].toNat : Int) != 46) = true:=by rw [bne,e1]; rfl
            have e2 : ((p[y].toNat : Int) == 45) = false:=beq_eq_false_iff_ne.2 (by omega)
            have e2p : ¬ (p[y].toNat : Int) = 45:=by omega
            have e2n : ((p[y].toNat : Int) != 45) = true:=by rw [bne,e2]; rfl
            have e3 : ((p[y].toNat : Int) == 95) = false:=beq_eq_false_iff_ne.2 (by omega)
            have e3p : ¬ (p[y].toNat : Int) = 95:=by omega
            have e3n : ((p[y].toNat : Int) != 95) = true:=by rw [bne,e3]; rfl
            have HRES:=hid (HBAD.out (by rw [HEL.out]; simp; omega))
            have D5:=hid (show ∀ h : ¬ (p[y].toNat : Int) <= 57,decide ((p[y].toNat : Int) <= 57) = false from fun h=>decide_eq_false h)
            have D9:=hid (show ∀ h : ¬ (p[y].toNat : Int) <= 122,decide ((p[y].toNat : Int) <= 122) = false from fun h=>decide_eq_false h)
            clear hr
            go_wp2_with fail
            all_goals first
              | (go_ret; exact ⟨by rw [HRES.out]; rfl,HB.out⟩)
              | exact absurd ‹((((p[y].toNat : Int) != 46) = false \/ ((p[y].toNat : Int) != 45) = false) \/ ((p[y].toNat : Int) != 95) = false)› (by rw [e1n,e2n,e3n]; decide)
              | exact absurd ‹((((!decide ((p[y].toNat : Int) <= 57)) = false \/ ((p[y].toNat : Int) != 46) = false) \/ ((p[y].toNat : Int) != 45) = false) \/ ((p[y].toNat : Int) != 95) = false)› (by rw [e1n,e2n,e3n,D5.out (by omega)]; decide)
              | exact absurd ‹(((((!decide ((p[y].toNat : Int) <= 122)) = false \/ (!decide ((p[y].toNat : Int) <= 57)) = false) \/ ((p[y].toNat : Int) != 46) = false) \/ ((p[y].toNat : Int) != 45) = false) \/ ((p[y].toNat : Int) != 95) = false)› (by rw [e1n,e2n,e3n,D5.out (by omega),D9.out (by omega)]; decide)
          · have a1 : ¬ 97 <= (p[y].toNat : Int):=by omega
            have a2 : (p[y].toNat : Int) <= 122:=by omega
            have d1 : 48 <= (p[y].toNat : Int):=by omega
            have d2 : ¬ (p[y].toNat : Int) <= 57:=by omega
            have e1 : ((p[y].toNat : Int) == 46) = false:=beq_eq_false_iff_ne.2 (by omega)
            have e1p : ¬ (p[y].toNat : Int) = 46:=by omega
            have e1n : ((p[y].toNat : Int) != 46) = true:=by rw [bne,e1]; rfl
            have e2 : ((p[y].toNat : Int) == 45) = false:=beq_eq_false_iff_ne.2 (by omega)
            have e2p : ¬ (p[y].toNat : Int) = 45:=by omega
            have e2n : ((p[y].toNat : Int) != 45) = true:=by rw [bne,e2]; rfl
            have e3 : ((p[y].toNat : Int) == 95) = true:=beq_iff_eq.2 (by omega)
            have e3p : (p[y].toNat : Int) = 95:=by omega
            have e3n : ((p[y].toNat : Int) != 95) = false:=by rw [bne,e3]; rfl
            have HE1:=hid (show el p[y] = true by rw [HEL.out]; simp; omega)
            clear hr
            cases dt
            · have HDV:=hid (show Value.bool false = Value.bool ((p.data.toList.take (y + 1)).all (· == 46)) by rw [HDN.out,e1]; rfl)
              have HDW:=hid (show Value.bool false = Value.bool ((p.data.toList.take (y + 1)).all (· == 46)) by rw [HDN.out]; rfl)
              by_cases h2 : 2 <= y
              · have h2i : (2 : Int) <= (y : Int):=by omega
                have s1 : (0 : Int) <= (y : Int) - 2:=by omega
                have s2 : (y : Int) - 2 <= (y : Int) + 1:=by omega
                have s3 : (y : Int) + 1 <= (p.size : Int):=by omega
                have t1 : ((y : Int) - 2).toNat = y - 2:=by omega
                have h3 : (p.data.toList.drop (y - 2)).take 3 ≠ [46,46,46]:=fun h=>by
                  have h4:=congrArg (fun l=>l[2]?) h
                  have h5 : ((p.data.toList.drop (y - 2)).take 3)[2]? = some p[y]:=by
                    rw [List.getElem?_take_of_lt (by omega),List.getElem?_drop,show y - 2 + 2 = y by omega,List.getElem?_eq_getElem HLL.out,HPY.out]
                  have h6 : some p[y] = some 46:=h5.symm.trans h4
                  have h7 : p[y] = 46:=Option.some.inj h6
                  have h8:=HDI.out
                  rw [h7] at h8 e1
                  exact absurd e1 (by decide)
                have hx3 : ((p.extract (y - 2) (y + 1)).toList == [46,46,46]) = false:=by rw [ByteArray.toList_eq,HEXT.out h2]; exact beq_eq_false_iff_ne.2 h3
                have HNX:=hid (HNEXT.out HE1.out (fun _=>h3))
                clear h3
                go_wp2_with fail
                all_goals (try exact absurd (‹((((!decide ((p[y].toNat : Int) <= 57)) = true /\ ((p[y].toNat : Int) != 46) = true) /\ ((p[y].toNat : Int) != 45) = true) /\ ((p[y].toNat : Int) != 95) = true)›).2 (by rw [e3n]; decide))
                go_round
                case rel=>first | exact ⟨y + 1,by omega,by go_num,HDV.out,hid (HNX.out)⟩ | exact ⟨y + 1,by omega,by go_num,HDW.out,hid (HNX.out)⟩
                case measure=>simp [intOf]; omega
              · have h2i : ¬ (2 : Int) <= (y : Int):=by omega
                have HNX:=hid (HNEXT.out HE1.out (fun h=>absurd h h2))
                go_wp2_with fail
                all_goals (try exact absurd (‹((((!decide ((p[y].toNat : Int) <= 57)) = true /\ ((p[y].toNat : Int) != 46) = true) /\ ((p[y].toNat : Int) != 45) = true) /\ ((p[y].toNat : Int) != 95) = true)›).2 (by rw [e3n]; decide))
                go_round
                case rel=>first | exact ⟨y + 1,by omega,by go_num,HDV.out,hid (HNX.out)⟩ | exact ⟨y + 1,by omega,by go_num,HDW.out,hid (HNX.out)⟩
                case measure=>simp [intOf]; omega
            · have HDV:=hid (show Value.bool false = Value.bool ((p.data.toList.take (y + 1)).all (· == 46)) by rw [HDN.out,e1]; rfl)
              have HDW:=hid (show Value.bool ((p[y].toNat : Int) == 46) = Value.bool ((p.data.toList.take (y + 1)).all (· == 46)) by rw [HDN.out]; rfl)
              by_cases h2 : 2 <= y
              · have h2i : (2 : Int) <= (y : Int):=by omega
                have s1 : (0 : Int) <= (y : Int) - 2:=by omega
                have s2 : (y : Int) - 2 <= (y : Int) + 1:=by omega
                have s3 : (y : Int) + 1 <= (p.size : Int):=by omega
                have t1 : ((y : Int) - 2).toNat = y - 2:=by omega
                have h3 : (p.data.toList.drop (y - 2)).take 3 ≠ [46,46,46]:=fun h=>by
                  have h4:=congrArg (fun l=>l[2]?) h
                  have h5 : ((p.data.toList.drop (y - 2)).take 3)[2]? = some p[y]:=by
                    rw [List.getElem?_take_of_lt (by omega),List.getElem?_drop,show y - 2 + 2 = y by omega,List.getElem?_eq_getElem HLL.out,HPY.out]
                  have h6 : some p[y] = some 46:=h5.symm.trans h4
                  have h7 : p[y] = 46:=Option.some.inj h6
                  have h8:=HDI.out
                  rw [h7] at h8 e1
                  exact absurd e1 (by decide)
                have hx3 : ((p.extract (y - 2) (y + 1)).toList == [46,46,46]) = false:=by rw [ByteArray.toList_eq,HEXT.out h2]; exact beq_eq_false_iff_ne.2 h3
                have HNX:=hid (HNEXT.out HE1.out (fun _=>h3))
                clear h3
                go_wp2_with fail
                all_goals (try exact absurd (‹((((!decide ((p[y].toNat : Int) <= 57)) = true /\ ((p[y].toNat : Int) != 46) = true) /\ ((p[y].toNat : Int) != 45) = true) /\ ((p[y].toNat : Int) != 95) = true)›).2 (by rw [e3n]; decide))
                go_round
                case rel=>first | exact ⟨y + 1,by omega,by go_num,HDV.out,hid (HNX.out)⟩ | exact ⟨y + 1,by omega,by go_num,HDW.out,hid (HNX.out)⟩
                case measure=>simp [intOf]; omega
              · have h2i : ¬ (2 : Int) <= (y : Int):=by omega
                have HNX:=hid (HNEXT.out HE1.out (fun h=>absurd h h2))
                go_wp2_with fail
                all_goals (try exact absurd (‹((((!decide ((p[y].toNat : Int) <= 57)) = true /\ ((p[y].toNat : Int) != 46) = true) /\ ((p[y].toNat : Int) != 45) = true) /\ ((p[y].toNat : Int) != 95) = true)›).2 (by rw [e3n]; decide))
                go_round
                case rel=>first | exact ⟨y + 1,by omega,by go_num,HDV.out,hid (HNX.out)⟩ | exact ⟨y + 1,by omega,by go_num,HDW.out,hid (HNX.out)⟩
                case measure=>simp [intOf]; omega
          · have a1 : ¬ 97 <= (p[y].toNat : Int):=by omega
            have a2 : (p[y].toNat : Int) <= 122:=by omega
            have d1 : 48 <= (p[y].toNat : Int):=by omega
            have d2 : ¬ (p[y].toNat : Int) <= 57:=by omega
            have e1 : ((p[y].toNat : Int) == 46) = false:=beq_eq_false_iff_ne.2 (by omega)
            have e1p : ¬ (p[y].toNat : Int) = 46:=by omega
            have e1n : ((p[y].toNat : Int) != 46) = true:=by rw [bne,e1]; rfl
            have e2 : ((p[y].toNat : Int) == 45) = false:=beq_eq_false_iff_ne.2 (by omega)
            have e2p : ¬ (p[y].toNat : Int) = 45:=by omega
            have e2n : ((p[y].toNat : Int) != 45) = true:=by rw [bne,e2]; rfl
            have e3 : ((p[y].toNat : Int) == 95) = false:=beq_eq_false_iff_ne.2 (by omega)
            have e3p : ¬ (p[y].toNat : Int) = 95:=by omega
            have e3n : ((p[y].toNat : Int) != 95) = true:=by rw [bne,e3]; rfl
            have HRES:=hid (HBAD.out (by rw [HEL.out]; simp; omega))
            have D5:=hid (show ∀ h : ¬ (p[y].toNat : Int) <= 57,decide ((p[y].toNat : Int) <= 57) = false from fun h=>decide_eq_false h)
            have D9:=hid (show ∀ h : ¬ (p[y].toNat : Int) <= 122,decide ((p[y].toNat : Int) <= 122) = false from fun h=>decide_eq_false h)
            clear hr
            go_wp2_with fail
            all_goals first
              | (go_ret; exact ⟨by rw [HRES.out]; rfl,HB.out⟩)
              | exact absurd ‹((((p[y].toNat : Int) != 46) = false \/ ((p[y].toNat : Int) != 45) = false) \/ ((p[y].toNat : Int) != 95) = false)› (by rw [e1n,e2n,e3n]; decide)
              | exact absurd ‹((((!decide ((p[y].toNat : Int) <= 57)) = false \/ ((p[y].toNat : Int) != 46) = false) \/ ((p[y].toNat : Int) != 45) = false) \/ ((p[y].toNat : Int) != 95) = false)› (by rw [e1n,e2n,e3n,D5.out (by omega)]; decide)
              | exact absurd ‹(((((!decide ((p[y].toNat : Int) <= 122)) = false \/ (!decide ((p[y].toNat : Int) <= 57)) = false) \/ ((p[y].toNat : Int) != 46) = false) \/ ((p[y].toNat : Int) != 45) = false) \/ ((p[y].toNat : Int) != 95) = false)› (by rw [e1n,e2n,e3n,D5.out (by omega),D9.out (by omega)]; decide)
          · have a1 : 97 <= (p[y].toNat : Int):=by omega
            have a2 : (p[y].toNat : Int) <= 122:=by omega
            have d1 : 48 <= (p[y].toNat : Int):=by omega
            have d2 : ¬ (p[y].toNat : Int) <= 57:=by omega
            have e1 : ((p[y].toNat : Int) == 46) = false:=beq_eq_false_iff_ne.2 (by omega)
            have e1p : ¬ (p[y].toNat : Int) = 46:=by omega
            have e1n : ((p[y].toNat : Int) != 46) = true:=by rw [bne,e1]; rfl
            have e2 : ((p[y].toNat : Int) == 45) = false:=beq_eq_false_iff_ne.2 (by omega)
            have e2p : ¬ (p[y].toNat : Int) = 45:=by omega
            have e2n : ((p[y].toNat : Int) != 45) = true:=by rw [bne,e2]; rfl
            have e3 : ((p[y].toNat : Int) == 95) = false:=beq_eq_false_iff_ne.2 (by omega)
            have e3p : ¬ (p[y].toNat : Int) = 95:=by omega
            have e3n : ((p[y].toNat : Int) != 95) = true:=by rw [bne,e3]; rfl
            have HE1:=hid (show el p[y] = true by rw [HEL.out]; simp; omega)
            clear hr
            cases dt
            · have HDV:=hid (show Value.bool false = Value.bool ((p.data.toList.take (y + 1)).all (· == 46)) by rw [HDN.out,e1]; rfl)
              have HDW:=hid (show Value.bool false = Value.bool ((p.data.toList.take (y + 1)).all (· == 46)) by rw [HDN.out]; rfl)
              by_cases h2 : 2 <= y
              · have h2i : (2 : Int) <= (y : Int):=by omega
                have s1 : (0 : Int) <= (y : Int) - 2:=by omega
                have s2 : (y : Int) - 2 <= (y : Int) + 1:=by omega
                have s3 : (y : Int) + 1 <= (p.size : Int):=by omega
                have t1 : ((y : Int) - 2).toNat = y - 2:=by omega
                have h3 : (p.data.toList.drop (y - 2)).take 3 ≠ [46,46,46]:=fun h=>by
                  have h4:=congrArg (fun l=>l[2]?) h
                  have h5 : ((p.data.toList.drop (y - 2)).take 3)[2]? = some p[y]:=by
                    rw [List.getElem?_take_of_lt (by omega),List.getElem?_drop,show y - 2 + 2 = y by omega,List.getElem?_eq_getElem HLL.out,HPY.out]
                  have h6 : some p[y] = some 46:=h5.symm.trans h4
                  have h7 : p[y] = 46:=Option.some.inj h6
                  have h8:=HDI.out
                  rw [h7] at h8 e1
                  exact absurd e1 (by decide)
                have hx3 : ((p.extract (y - 2) (y + 1)).toList == [46,46,46]) = false:=by rw [ByteArray.toList_eq,HEXT.out h2]; exact beq_eq_false_iff_ne.2 h3
                have HNX:=hid (HNEXT.out HE1.out (fun _=>h3))
                clear h3
                go_wp2_with fail
                go_round
                case rel=>first | exact ⟨y + 1,by omega,by go_num,HDV.out,hid (HNX.out)⟩ | exact ⟨y + 1,by omega,by go_num,HDW.out,hid (HNX.out)⟩
                case measure=>simp [intOf]; omega
              · have h2i : ¬ (2 : Int) <= (y : Int):=by omega
                have HNX:=hid (HNEXT.out HE1.out (fun h=>absurd h h2))
                go_wp2_with fail
                go_round
                case rel=>first | exact ⟨y + 1,by omega,by go_num,HDV.out,hid (HNX.out)⟩ | exact ⟨y + 1,by omega,by go_num,HDW.out,hid (HNX.out)⟩
                case measure=>simp [intOf]; omega
            · have HDV:=hid (show Value.bool false = Value.bool ((p.data.toList.take (y + 1)).all (· == 46)) by rw [HDN.out,e1]; rfl)
              have HDW:=hid (show Value.bool ((p[y].toNat : Int) == 46) = Value.bool ((p.data.toList.take (y + 1)).all (· == 46)) by rw [HDN.out]; rfl)
              by_cases h2 : 2 <= y
              · have h2i : (2 : Int) <= (y : Int):=by omega
                have s1 : (0 : Int) <= (y : Int) - 2:=by omega
                have s2 : (y : Int) - 2 <= (y : Int) + 1:=by omega
                have s3 : (y : Int) + 1 <= (p.size : Int):=by omega
                have t1 : ((y : Int) - 2).toNat = y - 2:=by omega
                have h3 : (p.data.toList.drop (y - 2)).take 3 ≠ [46,46,46]:=fun h=>by
                  have h4:=congrArg (fun l=>l[2]?) h
                  have h5 : ((p.data.toList.drop (y - 2)).take 3)[2]? = some p[y]:=by
                    rw [List.getElem?_take_of_lt (by omega),List.getElem?_drop,show y - 2 + 2 = y by omega,List.getElem?_eq_getElem HLL.out,HPY.out]
                  have h6 : some p[y] = some 46:=h5.symm.trans h4
                  have h7 : p[y] = 46:=Option.some.inj h6
                  have h8:=HDI.out
                  rw [h7] at h8 e1
                  exact absurd e1 (by decide)
                have hx3 : ((p.extract (y - 2) (y + 1)).toList == [46,46,46]) = false:=by rw [ByteArray.toList_eq,HEXT.out h2]; exact beq_eq_false_iff_ne.2 h3
                have HNX:=hid (HNEXT.out HE1.out (fun _=>h3))
                clear h3
                go_wp2_with fail
                go_round
                case rel=>first | exact ⟨y + 1,by omega,by go_num,HDV.out,hid (HNX.out)⟩ | exact ⟨y + 1,by omega,by go_num,HDW.out,hid (HNX.out)⟩
                case measure=>simp [intOf]; omega
              · have h2i : ¬ (2 : Int) <= (y : Int):=by omega
                have HNX:=hid (HNEXT.out HE1.out (fun h=>absurd h h2))
                go_wp2_with fail
                go_round
                case rel=>first | exact ⟨y + 1,by omega,by go_num,HDV.out,hid (HNX.out)⟩ | exact ⟨y + 1,by omega,by go_num,HDW.out,hid (HNX.out)⟩
                case measure=>simp [intOf]; omega
          · have a1 : 97 <= (p[y].toNat : Int):=by omega
            have a2 : ¬ (p[y].toNat : Int) <= 122:=by omega
            have d1 : 48 <= (p[y].toNat : Int):=by omega
            have d2 : ¬ (p[y].toNat : Int) <= 57:=by omega
            have e1 : ((p[y].toNat : Int) == 46) = false:=beq_eq_false_iff_ne.2 (by omega)
            have e1p : ¬ (p[y].toNat : Int) = 46:=by omega
            have e1n : ((p[y].toNat : Int) != 46) = true:=by rw [bne,e1]; rfl
            have e2 : ((p[y].toNat : Int) == 45) = false:=beq_eq_false_iff_ne.2 (by omega)
            have e2p : ¬ (p[y].toNat : Int) = 45:=by omega
            have e2n : ((p[y].toNat : Int) != 45) = true:=by rw [bne,e2]; rfl
            have e3 : ((p[y].toNat : Int) == 95) = false:=beq_eq_false_iff_ne.2 (by omega)
            have e3p : ¬ (p[y].toNat : Int) = 95:=by omega
            have e3n : ((p[y].toNat : Int) != 95) = true:=by rw [bne,e3]; rfl
            have HRES:=hid (HBAD.out (by rw [HEL.out]; simp; omega))
            have D5:=hid (show ∀ h : ¬ (p[y].toNat : Int) <= 57,decide ((p[y].toNat : Int) <= 57) = false from fun h=>decide_eq_false h)
            have D9:=hid (show ∀ h : ¬ (p[y].toNat : Int) <= 122,decide ((p[y].toNat : Int) <= 122) = false from fun h=>decide_eq_false h)
            clear hr
            go_wp2_with fail
            all_goals first
              | (go_ret; exact ⟨by rw [HRES.out]; rfl,HB.out⟩)
              | exact absurd ‹((((p[y].toNat : Int) != 46) = false \/ ((p[y].toNat : Int) != 45) = false) \/ ((p[y].toNat : Int) != 95) = false)› (by rw [e1n,e2n,e3n]; decide)
              | exact absurd ‹((((!decide ((p[y].toNat : Int) <= 57)) = false \/ ((p[y].toNat : Int) != 46) = false) \/ ((p[y].toNat : Int) != 45) = false) \/ ((p[y].toNat : Int) != 95) = false)› (by rw [e1n,e2n,e3n,D5.out (by omega)]; decide)
              | exact absurd ‹(((((!decide ((p[y].toNat : Int) <= 122)) = false \/ (!decide ((p[y].toNat : Int) <= 57)) = false) \/ ((p[y].toNat : Int) != 46) = false) \/ ((p[y].toNat : Int) != 45) = false) \/ ((p[y].toNat : Int) != 95) = false)› (by rw [e1n,e2n,e3n,D5.out (by omega),D9.out (by omega)]; decide)
        · have hye : y = p.size:=by omega
          subst hye
          have HFIN:=hid (show elemOk p.data.toList = !dt by
            have h1 : p.data.toList.length = p.size:=len_eq p
            have h2:=seen_all (l:=p.data.toList) (by rw [h1]; exact HSE.out)
            have h3:=HDT.out
            rw [take_all] at h3
            rw [h2,h3])
          cases dt
          · have HOK2:=hid (show (bl (X.take (k + 1))).all elemOk = true by rw [HXJ.out,List.all_append,HOK.out,List.all_cons,HFIN.out]; rfl)
            have HLJ:=hid (show (lg || (bl (X.take (k + 1))).any long) = (bj || decide (10 < p.data.toList.length)) by rw [HXJ.out,List.any_append,<- HBJ.out,Bool.or_assoc]; simp [long])
            rw [len_eq] at HLJ
            by_cases h10 : 10 < p.size
            · have h10i : (10 : Int) < (p.size : Int):=by omega
              rw [decide_eq_true h10] at HLJ
              cases bj
              · have HV:=hid (show Value.bool true = Value.bool (lg || (bl (X.take (k + 1))).any long) by rw [HLJ.out]; rfl)
                go_wp2_with fail
                go_round
                case rel=>exact ⟨k + 1,by omega,by go_num,HV.out,HOK2⟩
                case measure=>simp [intOf]; omega
              · have HV:=hid (show Value.bool true = Value.bool (lg || (bl (X.take (k + 1))).any long) by rw [HLJ.out]; rfl)
                go_wp2_with fail
                go_round
                case rel=>exact ⟨k + 1,by omega,by go_num,HV.out,HOK2⟩
                case measure=>simp [intOf]; omega
            · have h10i : ¬ (10 : Int) < (p.size : Int):=by omega
              rw [decide_eq_false h10] at HLJ
              cases bj
              · have HV:=hid (show Value.bool false = Value.bool (lg || (bl (X.take (k + 1))).any long) by rw [HLJ.out]; rfl)
                go_wp2_with fail
                go_round
                case rel=>exact ⟨k + 1,by omega,by go_num,HV.out,HOK2⟩
                case measure=>simp [intOf]; omega
              · have HV:=hid (show Value.bool true = Value.bool (lg || (bl (X.take (k + 1))).any long) by rw [HLJ.out]; rfl)
                go_wp2_with fail
                go_round
                case rel=>exact ⟨k + 1,by omega,by go_num,HV.out,HOK2⟩
                case measure=>simp [intOf]; omega
          · have HRES:=hid (bad_one HMEM.out HFIN.out)
            go_wp2_with fail
            go_ret
            exact ⟨by rw [HRES.out]; rfl,HB.out⟩
    · have hke : k = X.length:=by omega
      subst hke
      have hXt : X.take X.length = X:=List.take_length
      rw [hXt] at HOK HBJ
      rw [HBJ.out] at HLE
      rw [HX.out] at HOK
      clear hXt
      cases bj
      · by_cases h1 : 1 < X.length
        · have h1i : (1 : Int) < (X.length : Int):=by omega
          have hpl : X.length - 1 < X.length:=by omega
          have hcell:=HCE.out (X.length - 1) hpl
          have HSZ:=hid (HXZ.out X[X.length - 1] (List.getElem_mem hpl))
          have HLG:=hid (HLA.out hpl)
          generalize X[X.length - 1] = q at *
          have HSU:=hid (suffixOf_any q w1 HSZ.out)
          rw [HLG.out] at HSU
          have hc1 : ((X.length : Int) - 1).toNat = X.length - 1:=by omega
          have hc2 : (0 : Int) <= (X.length : Int) - 1:=by omega
          have hc3 : (X.length : Int) - 1 < (X.length : Int):=by omega
          by_cases hneg : sufV (lastOf s.data.toList) < 0
          · have HRES:=hid (path_4 HOK.out HLE.out (by rw [HXL.out]; exact h1) hneg)
            generalize sufV (lastOf s.data.toList) = sv at *
            go_wp2_with fail
            refine HSU.out.mono ?_
            rintro e w' ⟨rfl,rfl⟩
            go_wp2_with fail
            go_ret
            exact ⟨by rw [HRES.out]; rfl,HB.out⟩
          · have HRES:=hid (path_0 HOK.out HLE.out (by rw [HXL.out]; exact h1) hneg)
            generalize sufV (lastOf s.data.toList) = sv at *
            go_wp2_with fail
            refine HSU.out.mono ?_
            rintro e w' ⟨rfl,rfl⟩
            go_wp2_with fail
            go_ret
            exact ⟨by rw [HRES.out]; rfl,HB.out⟩
        · have h1i : ¬ (1 : Int) < (X.length : Int):=by omega
          have HRES:=hid (path_00 HOK.out HLE.out (by rw [HXL.out]; exact h1))
          go_wp2_with fail
          go_ret
          exact ⟨by rw [HRES.out]; rfl,HB.out⟩
      · have HRES:=hid (path_2 HOK.out HLE.out)
        go_wp2_with fail
        go_ret
        exact ⟨by rw [HRES.out]; rfl,HB.out⟩
end Ve
end Go.Proofs.YtlcffhadobhfkaaGreatDoor
