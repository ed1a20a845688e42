/-
  RefI
-/
import Derived.Test.YtlcffhadobhfkaaGreatDoorMq2
import Derived.Test.YtlcffhadobhfkaaGreatDoorMq5
import Derived.Test.YtlcffhadobhfkaaGreatDoorMq6
import Derived.Test.YtlcffhadobhfkaaGreatDoorMq3
import Derived.Test.YtlcffhadobhfkaaGreatDoorMq13
import Derived.Test.YtlcffhadobhfkaaGreatDoorMq9
namespace Go.Proofs.YtlcffhadobhfkaaGreatDoor
open Go.RowKit
namespace Ve
def verB (l : List UInt8) : Nat:=if 1 ∈ (coreOf l).map ncode \/ 1 ∈ (preOf l).map part then 1 else if 2 ∈ (coreOf l).map ncode \/ 2 ∈ (preOf l).map part \/ 5 < (preOf l).length then 2 else 0
theorem verB_eq (l : List UInt8) : verB l = worse (numsErr (coreOf l)) (pre (preOf l)):=by
  unfold pre
  rw [numsErr_ncode,preTo_worst _ (by split <;> simp)]
  unfold verB worst worse
  by_cases a : 1 ∈ (coreOf l).map ncode <;> by_cases b : 1 ∈ (preOf l).map part <;> by_cases c : 2 ∈ (coreOf l).map ncode <;> by_cases d : 2 ∈ (preOf l).map part <;> by_cases e : 5 < (preOf l).length <;> simp [a,b,c,d,e]
set_option maxRecDepth 100000 in
set_option maxHeartbeats 16000000 in
theorem verOf_B (s : ByteArray) (w : World) (hs : s.size < 4294967281) (hmk : marked s.data.toList = true) (hp : hasPre s.data.toList = true) (h3 : (coreOf s.data.toList).length = 3) :
    Calls Tryz.prog 72 #[.string s] w fun e w'=>(verB s.data.toList ≠ 0 /\ e = .returned (.tuple #[.agg #[.int .i64 0,.int .i64 0,.int .i64 0,.slice none 0 0],.int .i64 (verB s.data.toList : Nat)]) \/
      verB s.data.toList = 0 /\ ∃ g cap X2,e = .returned (.tuple #[.agg #[.int .i64 (nAt s.data.toList 0),.int .i64 (nAt s.data.toList 1),.int .i64 (nAt s.data.toList 2),.slice (some ⟨g,0,none⟩) X2.length cap],.int .i64 0]) /\ bl X2 = preOf s.data.toList /\ X2 ≠ [] /\ ∀ j (hj : j < X2.length),w'.cell? ⟨g,j,none⟩ = some (.string X2[j])) /\ Below w.heap.size w w':=by
  have H3:=hid h3
  clear h3
  obtain ⟨dj,hd1,hdl,hdc,hdn,hd2,hd3,hcore⟩:=dash hmk hp
  obtain ⟨hpos,hv0⟩:=marked_pos hmk
  have HDN:=hid hdn
  have HD2:=hid hd2
  have HD3:=hid hd3
  have HCO:=hid hcore
  have h0b : ((s.size : Int) == 0) = false:=beq_eq_false_iff_ne.2 (by omega)
  have HMK:=hid hmk
  have HPP:=hid hp
  clear hdn hd2 hd3 hcore hmk hp
  go_enter Tryz.func72,Tryz.ntmps72
  go_wp2_with fail
  go_loop [4,5,6,7] (fun hd pr hs i=>(∃ k : Nat,k <= dj /\ i = .int .i64 k /\ hd = .string (s.extract 1 s.size) /\ pr = .string ⟨#[]⟩ /\ hs = .bool false) \/ (i = .int .i64 ((dj : Int) + 1) /\ hd = .string (s.extract 1 dj) /\ pr = .string (s.extract (dj + 1) s.size) /\ hs = .bool true)) (fun _ _ _ i=>s.size + 1 - (intOf i).toNat)
  case atStart=>exact Or.inl ⟨0,Nat.zero_le _,rfl,rfl,rfl,rfl⟩
  case round=>
    rcases hrel with ⟨k,hk,rfl,rfl,rfl,rfl⟩ | ⟨rfl,rfl,rfl,rfl⟩
    · have hlt : k < s.size:=by omega
      by_cases hkd : k = dj
      · subst hkd
        have h1k : (1 : Int) <= (k : Int):=by omega
        have h2k : (k : Int) <= (s.size : Int):=by omega
        go_wp2_with fail
        go_round
        case rel=>exact Or.inr ⟨rfl,rfl,rfl,rfl⟩
        case measure=>simp [intOf]; omega
      · have hn:=HDN.out k (by omega) hlt
        go_wp2_with fail
        go_round
        case rel=>exact Or.inl ⟨k + 1,by omega,by go_num,rfl,rfl,rfl⟩
        case measure=>simp [intOf]; omega
    · have hes : (s.extract 1 dj).size < 4294967281:=by rw [ByteArray.size_extract]; omega
      have hps : (s.extract (dj + 1) s.size).size < 4294967281:=by rw [ByteArray.size_extract]; omega
      have HEX:=HD2
      generalize s.extract 1 dj = C at *
      generalize s.extract (dj + 1) s.size = D at *
      have HZZ:=hid hdl
      by_cases hx : (dj : Int) + 1 < (s.size : Int)
      all_goals
        have HB0:=hid ((Below.refl w.heap.size w).alloc (Nat.le_refl _) (.cells #[.int .i64 0,.int .i64 0,.int .i64 0,.slice none 0 0] 95))
        go_wp2_with fail
        refine (rcut46 C _ hes).mono ?_
        rintro e w2 ⟨v,X,rfl,hX,hown,hb⟩
        have hXc : bl X = coreOf s.data.toList:=by rw [hX,HCO.out]
        have HXC:=hid hXc
        have HB2:=hid (show Below (w.heap.size + 1) (w.alloc (.cells #[.int .i64 0,.int .i64 0,.int .i64 0,.slice none 0 0] 95)) w2 from hb.mono (by simp))
        have HXN:=hid (show X ≠ [] from fun h=>by subst h; exact cutAt_ne _ _ hX.symm)
        have hXl : X.length = (coreOf s.data.toList).length:=by rw [<- hXc,bl_len]
        have HXZ:=hid (show ∀ x,x ∈ X -> x.size <= maxLen from fun x hx=>by have:=piece_le hX hx; unfold maxLen; omega)
        obtain ⟨g,cap,rfl,hg,hgz,hcells⟩:=owned_cells hown HXN.out
        have HG:=hid hg
        have HGZ:=hid hgz
        have HCE:=hid hcells
        have HXL:=hid hXl
        have hXle:=many_le hX
        clear hX hXc hown hb hXl hg hgz hcells
        have hX3 : X.length = 3:=by rw [HXL.out,H3.out]
        have h3b : ((X.length : Int) == 3) = true:=beq_iff_eq.2 (by omega)
        have HBM:=hid ((Below.refl w2.heap.size w2).alloc (Nat.le_refl _) (.cells #[.int .i64 0,.int .i64 0,.int .i64 0,.slice none 0 0] 95))
        have hN2 : w.heap.size < w2.heap.size:=by have:=HB2.out.size; simp at this; omega
        go_wp2_with fail
        go_loopw [10,11] (fun bd i wr=>∃ k : Nat,k <= 3 /\ i = .int .i64 k /\ bd = .bool (decide (2 ∈ (bl (X.take k)).map ncode)) /\ Hid (1 ∉ (bl (X.take k)).map ncode) /\ Hid (∀ i,i < 3 -> wr.cell? ⟨w2.heap.size,i,none⟩ = some (.int .i64 (nTo s.data.toList k i))) /\
            wr.cell? ⟨w2.heap.size,3,none⟩ = some (.slice none 0 0) /\ Hid (∀ o,wr.frozen? ⟨w2.heap.size,o,none⟩ = false) /\ Below w2.heap.size w2 wr) (fun _ i _=>3 - (intOf i).toNat)
        case atStart=>
          refine ⟨0,by omega,rfl,rfl,hid (by simp [bl]),hid ?_,by simp,hid (by simp),HBM.out⟩
          intro i hi
          match i,hi with
          | 0,_=>simp [nTo]
          | 1,_=>simp [nTo]
          | 2,_=>simp [nTo]
        case round=>
          obtain ⟨k,hk,rfl,rfl,H1,HCS,c3,HFZ,hbr⟩:=hrel
          have HBR:=hid hbr
          have HBW:=hid (show Below (w.heap.size + 1) (w.alloc (.cells #[.int .i64 0,.int .i64 0,.int .i64 0,.slice none 0 0] 95)) wr from HB2.out.trans (hbr.mono (by omega)))
          have HBF:=hid (HB0.out.trans (HBW.out.mono (by omega)))
          obtain ⟨⟨r0,r1,r2,r3⟩,rf,rz⟩:=res4 HBW.out
          clear hbr
          by_cases hlt : k < 3
          · have hkX : k < X.length:=by omega
            have hcell:=cell_below HBR.out (HCE.out k hkX)
            have HNU:=hid (numberOf_any X[k] wr (HXZ.out X[k] (List.getElem_mem hkX)))
            have HNA:=hid (nAt_eq HXC.out k hkX)
            have HSN:=hid (show (bl (X.take (k + 1))).map ncode = (bl (X.take k)).map ncode ++ [ncode X[k].data.toList] by rw [bl_take_snoc X k hkX,List.map_append]; rfl)
            have HQ:=hid (show (num X[k].data.toList).2 = ncode X[k].data.toList from rfl)
            have HE:=hid (show ncode X[k].data.toList = 0 \/ ncode X[k].data.toList = 1 \/ ncode X[k].data.toList = 2 from num_err _)
            rw [HQ.out,HNA.out] at HNU
            have hck:=HCS.out k hlt
            have hfk:=HFZ.out k
            rcases HE.out with hq | hq | hq
            · cases hbd : decide (2 ∈ (bl (X.take k)).map ncode)
              · have HN1:=hid (show 1 ∉ (bl (X.take (k + 1))).map ncode by rw [HSN.out,hq]; simpa using H1.out)
                have HFL:=hid (show Value.bool false = Value.bool (decide (2 ∈ (bl (X.take (k + 1))).map ncode)) by
                  rw [HSN.out,hq]
                  congr 1
                  have:=hbd
                  simp only [decide_eq_false_iff_not] at this
                  simp [this])
                rw [hq] at HNU
                clear hq hbd
                go_wp2_with fail
                refine HNU.out.mono ?_
                rintro e w' ⟨rfl,rfl⟩
                go_wp2_with fail
                go_roundw
                case rel=>exact ⟨k + 1,by omega,by go_num,HFL.out,HN1,hid (cells_set HCS.out hlt),by rw [World.cell?_setCell_other (h:=fun hh=>by have:=congrArg Addr.off hh; simp at this; omega)]; exact c3,hid (fun o=>by simpa using HFZ.out o),HBR.out.setCell (Nat.le_refl _) _⟩
                case measure=>simp [intOf]; omega
              · have HN1:=hid (show 1 ∉ (bl (X.take (k + 1))).map ncode by rw [HSN.out,hq]; simpa using H1.out)
                have HFL:=hid (show Value.bool true = Value.bool (decide (2 ∈ (bl (X.take (k + 1))).map ncode)) by
                  rw [HSN.out,hq]
                  congr 1
                  have:=hbd
                  simp only [decide_eq_true_eq] at this
                  simp [this])
                rw [hq] at HNU
                clear hq hbd
                go_wp2_with fail
                refine HNU.out.mono ?_
                rintro e w' ⟨rfl,rfl⟩
                go_wp2_with fail
                go_roundw
                case rel=>exact ⟨k + 1,by omega,by go_num,HFL.out,HN1,hid (cells_set HCS.out hlt),by rw [World.cell?_setCell_other (h:=fun hh=>by have:=congrArg Addr.off hh; simp at this; omega)]; exact c3,hid (fun o=>by simpa using HFZ.out o),HBR.out.setCell (Nat.le_refl _) _⟩
                case measure=>simp [intOf]; omega
            · have HRES:=hid (show verB s.data.toList = 1 by
                unfold verB
                rw [<- HXC.out]
                have hm : 1 ∈ (bl X).map ncode:=by
                  rw [<- hq]
                  exact List.mem_map.2 ⟨_,bl_mem (List.getElem_mem hkX),rfl⟩
                rw [if_pos (Or.inl hm)])
              rw [hq] at HNU
              clear hq
              go_wp2_with fail
              refine HNU.out.mono ?_
              rintro e w' ⟨rfl,rfl⟩
              go_wp2_with fail
              refine bodyPost_ret (v:=.tuple #[.agg #[.int .i64 0,.int .i64 0,.int .i64 0,.slice none 0 0],.int .i64 1]) (by simp [results,Tryz.results72,go_sem,r0,r1,r2,r3]) rfl ⟨Or.inl ⟨by rw [HRES.out]; decide,by rw [HRES.out]; rfl⟩,?_⟩
              exact (((HBF.out.setCell (Nat.le_refl _) _).setCell (Nat.le_refl _) _).setCell (Nat.le_refl _) _).setCell (Nat.le_refl _) _
            · cases hbd : decide (2 ∈ (bl (X.take k)).map ncode)
              · have HN1:=hid (show 1 ∉ (bl (X.take (k + 1))).map ncode by rw [HSN.out,hq]; simpa using H1.out)
                have HFL:=hid (show Value.bool true = Value.bool (decide (2 ∈ (bl (X.take (k + 1))).map ncode)) by
                  rw [HSN.out,hq]
                  congr 1
                  have:=hbd
                  simp only [decide_eq_false_iff_not] at this
                  simp [this])
                rw [hq] at HNU
                clear hq hbd
                go_wp2_with fail
                refine HNU.out.mono ?_
                rintro e w' ⟨rfl,rfl⟩
                go_wp2_with fail
                go_roundw
                case rel=>exact ⟨k + 1,by omega,by go_num,HFL.out,HN1,hid (cells_set HCS.out hlt),by rw [World.cell?_setCell_other (h:=fun hh=>by have:=congrArg Addr.off hh; simp at this; omega)]; exact c3,hid (fun o=>by simpa using HFZ.out o),HBR.out.setCell (Nat.le_refl _) _⟩
                case measure=>simp [intOf]; omega
              · have HN1:=hid (show 1 ∉ (bl (X.take (k + 1))).map ncode by rw [HSN.out,hq]; simpa using H1.out)
                have HFL:=hid (show Value.bool true = Value.bool (decide (2 ∈ (bl (X.take (k + 1))).map ncode)) by
                  rw [HSN.out,hq]
                  congr 1
                  have:=hbd
                  simp only [decide_eq_true_eq] at this
                  simp [this])
                rw [hq] at HNU
                clear hq hbd
                go_wp2_with fail
                refine HNU.out.mono ?_
                rintro e w' ⟨rfl,rfl⟩
                go_wp2_with fail
                go_roundw
                case rel=>exact ⟨k + 1,by omega,by go_num,HFL.out,HN1,hid (cells_set HCS.out hlt),by rw [World.cell?_setCell_other (h:=fun hh=>by have:=congrArg Addr.off hh; simp at this; omega)]; exact c3,hid (fun o=>by simpa using HFZ.out o),HBR.out.setCell (Nat.le_refl _) _⟩
                case measure=>simp [intOf]; omega
          · have hk3 : k = 3:=by omega
            subst hk3
            have hXt : X.take 3 = X:=List.take_of_length_le (by omega)
            rw [hXt,HXC.out] at H1 ⊢
            generalize hfb : decide (2 ∈ (coreOf s.data.toList).map ncode) = fb at *
            have HFB:=hid hfb
            clear hfb
            have q0 : wr.cell? ⟨w2.heap.size,0,none⟩ = some (.int .i64 (nAt s.data.toList 0)):=HCS.out 0 (by omega)
            have q1 : wr.cell? ⟨w2.heap.size,1,none⟩ = some (.int .i64 (nAt s.data.toList 1)):=HCS.out 1 (by omega)
            have q2 : wr.cell? ⟨w2.heap.size,2,none⟩ = some (.int .i64 (nAt s.data.toList 2)):=HCS.out 2 (by omega)
            have HQ0:=hid q0
            have HQ1:=hid q1
            have HQ2:=hid q2
            have HC3:=hid c3
            have hM : w2.heap.size < wr.heap.size:=lt_of_cell c3
            clear hXt q0 q1 q2 c3
            go_wp2_with fail
            refine (rcut46 D _ hps).mono ?_
            rintro e w5 ⟨v2,X2,rfl,hX2,hown2,hb5⟩
            have hPX : bl X2 = preOf s.data.toList:=by rw [hX2,HD3.out]; unfold preOf; rw [HPP.out,rest_drop HMK.out]; rfl
            obtain ⟨g2,cap2,rfl,hg2,hgz2,hcells2⟩:=owned_cells hown2 (show X2 ≠ [] from fun h=>by subst h; exact cutAt_ne _ _ hX2.symm)
            have HX2N:=hid (show X2 ≠ [] from fun h=>by subst h; exact cutAt_ne _ _ hX2.symm)
            have HPX:=hid hPX
            have HCE2:=hid hcells2
            have HX2Z:=hid (show ∀ x,x ∈ X2 -> x.size <= maxLen from fun x hx=>by have:=piece_le hX2 hx; unfold maxLen; omega)
            have hX2le:=many_le hX2
            have p0:=cell_below hb5 HQ0.out
            have p1:=cell_below hb5 HQ1.out
            have p2:=cell_below hb5 HQ2.out
            have p3:=cell_below hb5 HC3.out
            have pf : ∀ o,w5.frozen? ⟨w2.heap.size,o,none⟩ = false:=fun o=>by rw [hb5.frozen hM]; exact HFZ.out o
            have HBW5:=hid (HBW.out.trans (hb5.mono (by omega)))
            have HBF:=hid (HB0.out.trans (HBW5.out.mono (by omega)))
            obtain ⟨⟨r0,r1,r2,r3⟩,rf,rz⟩:=res4 HBW5.out
            have hg2M : ¬ g2 = w2.heap.size:=by omega
            have hg2N : ¬ g2 = w.heap.size:=by omega
            have hMN : ¬ w2.heap.size = w.heap.size:=by omega
            have HZ5:=hid hb5.size
            have HPL:=hid (show (preOf s.data.toList).length = X2.length by rw [<- hPX,bl_len])
            clear hX2 hown2 hb5 hPX hcells2 hg2 hgz2
            go_wp2_with fail
            generalize hW : w5.setCell ⟨w2.heap.size,3,none⟩ (.slice (some ⟨g2,0,none⟩) X2.length cap2) = W at *
            have m3 : W.cell? ⟨w2.heap.size,3,none⟩ = some (.slice (some ⟨g2,0,none⟩) X2.length cap2):=by rw [<- hW]; exact World.cell?_setCell_same _ _ _ p3
            have m0 : W.cell? ⟨w2.heap.size,0,none⟩ = some (.int .i64 (nAt s.data.toList 0)):=by rw [<- hW,World.cell?_setCell_other (h:=by simp)]; exact p0
            have m1 : W.cell? ⟨w2.heap.size,1,none⟩ = some (.int .i64 (nAt s.data.toList 1)):=by rw [<- hW,World.cell?_setCell_other (h:=by simp)]; exact p1
            have m2 : W.cell? ⟨w2.heap.size,2,none⟩ = some (.int .i64 (nAt s.data.toList 2)):=by rw [<- hW,World.cell?_setCell_other (h:=by simp)]; exact p2
            have HBW:=hid (show Below (w.heap.size + 1) (w.alloc (.cells #[.int .i64 0,.int .i64 0,.int .i64 0,.slice none 0 0] 95)) W by rw [<- hW]; exact HBW5.out.setCell (by show w.heap.size + 1 <= w2.heap.size; omega) _)
            have HBF:=hid (HB0.out.trans (HBW.out.mono (by omega)))
            have HCEW:=hid (show ∀ j (hj : j < X2.length),W.cell? ⟨g2,j,none⟩ = some (.string X2[j]) from fun j hj=>by rw [<- hW,World.cell?_setCell_other (h:=fun hh=>hg2M (congrArg Addr.block hh).symm)]; exact HCE2.out j hj)
            clear p0 p1 p2 p3 pf r0 r1 r2 r3 rf rz hW
            obtain ⟨⟨r0,r1,r2,r3⟩,rf,rz⟩:=res4 HBW.out
            go_loop [10,14] (fun bd i=>∃ j : Nat,j <= X2.length /\ i = .int .i64 j /\ bd = .bool (fb || (bl (X2.take j)).any (fun p=>part p == 2)) /\ Hid (1 ∉ (bl (X2.take j)).map part)) (fun _ i=>X2.length - (intOf i).toNat)
            case atStart=>exact ⟨0,Nat.zero_le _,rfl,by simp [bl],hid (by simp [bl])⟩
            case round=>
              obtain ⟨j,hj,rfl,rfl,HP1⟩:=hrel
              generalize hbj : (fb || (bl (X2.take j)).any (fun p=>part p == 2)) = bj at *
              have HBJ:=hid hbj
              clear hbj
              by_cases hjX : j < X2.length
              · have hcell2:=HCEW.out j hjX
                have HPZ:=hid (HX2Z.out X2[j] (List.getElem_mem hjX))
                have HXJ:=hid (bl_take_snoc X2 j hjX)
                have HMEM:=hid (bl_mem (List.getElem_mem hjX))
                have HAD:=hid (areDigits_any X2[j] W HPZ.out)
                have HNO:=hid (numberOf_any X2[j] W HPZ.out)
                generalize X2[j] = p at *
                have hpz : p.size <= 9223372036854775807:=HPZ.out
                by_cases hp1 : p.size < 1
                · have HRES:=hid (show verB s.data.toList = 1 by
                    unfold verB
                    rw [if_pos (Or.inr (by rw [<- HPX.out]; exact List.mem_map.2 ⟨_,HMEM.out,by unfold part; rw [if_pos (Or.inl (by rw [len_eq]; exact hp1))]⟩))])
                  go_wp2_with fail
                  refine bodyPost_ret (v:=.tuple #[.agg #[.int .i64 0,.int .i64 0,.int .i64 0,.slice none 0 0],.int .i64 1]) (by simp [results,Tryz.results72,go_sem,r0,r1,r2,r3]) rfl ⟨Or.inl ⟨by rw [HRES.out]; decide,by rw [HRES.out]; rfl⟩,?_⟩
                  exact (((HBF.out.setCell (Nat.le_refl _) _).setCell (Nat.le_refl _) _).setCell (Nat.le_refl _) _).setCell (Nat.le_refl _) _
                · by_cases hp8 : 8 < p.size
                  · have HRES:=hid (show verB s.data.toList = 1 by
                      unfold verB
                      rw [if_pos (Or.inr (by rw [<- HPX.out]; exact List.mem_map.2 ⟨_,HMEM.out,by unfold part; rw [if_pos (Or.inr (Or.inl (by rw [len_eq]; exact hp8)))]⟩))])
                    go_wp2_with fail
                    refine bodyPost_ret (v:=.tuple #[.agg #[.int .i64 0,.int .i64 0,.int .i64 0,.slice none 0 0],.int .i64 1]) (by simp [results,Tryz.results72,go_sem,r0,r1,r2,r3]) rfl ⟨Or.inl ⟨by rw [HRES.out]; decide,by rw [HRES.out]; rfl⟩,?_⟩
                    exact (((HBF.out.setCell (Nat.le_refl _) _).setCell (Nat.le_refl _) _).setCell (Nat.le_refl _) _).setCell (Nat.le_refl _) _
                  · have HPT:=hid (show part p.data.toList = if allPar p.data.toList = false then 1 else if digs p.data.toList = false then 0 else (num p.data.toList).2 by
                      unfold part
                      rw [len_eq]
                      by_cases ha : allPar p.data.toList = false
                      · rw [if_pos (Or.inr (Or.inr ha)),if_pos ha]
                      · rw [if_neg (by rintro (h | h | h) <;> first | omega | exact ha h),if_neg ha])
                    go_wp2_with fail
                    go_loop [16,17,18,19] (fun i _ _ _=>∃ y : Nat,y <= p.size /\ i = .int .i64 y /\ Hid ((p.data.toList.take y).all par = true)) (fun i _ _ _=>p.size - (intOf i).toNat)
                    case atStart=>exact ⟨0,Nat.zero_le _,rfl,hid rfl⟩
                    case round=>
                      obtain ⟨y,hy,rfl,HAL⟩:=hrel
                      by_cases hyl : y < p.size
                      · have hyb:=p[y].toNat_lt
                        have HSN4:=hid (all_snoc par (p.data.toList.take y) p[y])
                        rw [<- take_snoc p y hyl,HAL.out,Bool.true_and] at HSN4
                        have HPB:=hid (show par p[y] = parB (p[y].toNat : Int) from rfl)
                        have HPD:=hid (show parB (p[y].toNat : Int) = (decide (48 <= (p[y].toNat : Int) /\ (p[y].toNat : Int) <= 57) || decide (97 <= (p[y].toNat : Int) /\ (p[y].toNat : Int) <= 122) || decide (65 <= (p[y].toNat : Int) /\ (p[y].toNat : Int) <= 90) || (p[y].toNat : Int) == 45) from rfl)
                        have HRG:=hid (show (p[y].toNat : Int) < 45 \/ (p[y].toNat : Int) = 45 \/ (45 < (p[y].toNat : Int) /\ (p[y].toNat : Int) < 48) \/ (48 <= (p[y].toNat : Int) /\ (p[y].toNat : Int) <= 57) \/ (57 < (p[y].toNat : Int) /\ (p[y].toNat : Int) < 65) \/ (65 <= (p[y].toNat : Int) /\ (p[y].toNat : Int) <= 90) \/ (90 < (p[y].toNat : Int) /\ (p[y].toNat : Int) < 97) \/ (97 <= (p[y].toNat : Int) /\ (p[y].toNat : Int) <= 122) \/ 122 < (p[y].toNat : Int) by omega)
                        have HNP:=hid (show parB (p[y].toNat : Int) = false -> allPar p.data.toList = false from fun h=>by
                          have h2 : allPar p.data.toList = ((p.data.toList.take (y + 1)).all par && (p.data.toList.drop (y + 1)).all par):=by rw [<- List.all_append,List.take_append_drop]; rfl
                          rw [h2,HSN4.out,HPB.out,h]; rfl)
                        have HRS:=hid (show allPar p.data.toList = false -> verB s.data.toList = 1 from fun h=>by
                          unfold verB
                          rw [if_pos (Or.inr (by rw [<- HPX.out]; exact List.mem_map.2 ⟨_,HMEM.out,by rw [HPT.out,if_pos h]⟩))])
                        clear hyb
                        rcases HRG.out with hr | hr | hr | hr | hr | hr | hr | hr | hr
                        · have a1 : ¬ 97 <= (p[y].toNat : Int):=by omega
                          have a2 : (p[y].toNat : Int) <= 122:=by omega
                          have b1 : ¬ 65 <= (p[y].toNat : Int):=by omega
                          have b2 : (p[y].toNat : Int) <= 90:=by omega
                          have d1 : ¬ 48 <= (p[y].toNat : Int):=by omega
                          have d2 : (p[y].toNat : Int) <= 57:=by omega
                          have d3 : ((p[y].toNat : Int) == 45) = false:=beq_eq_false_iff_ne.2 (by omega)
                          have HRES:=hid (HRS.out (HNP.out (by rw [HPD.out]; simp; omega)))
                          clear hr
                          go_wp2_with fail
                          refine bodyPost_ret (v:=.tuple #[.agg #[.int .i64 0,.int .i64 0,.int .i64 0,.slice none 0 0],.int .i64 1]) (by simp [results,Tryz.results72,go_sem,r0,r1,r2,r3]) rfl ⟨Or.inl ⟨by rw [HRES.out]; decide,by rw [HRES.out]; rfl⟩,?_⟩
                          exact (((HBF.out.setCell (Nat.le_refl _) _).setCell (Nat.le_refl _) _).setCell (Nat.le_refl _) _).setCell (Nat.le_refl _) _
                        · have a1 : ¬ 97 <= (p[y].toNat : Int):=by omega
                          have a2 : (p[y].toNat : Int) <= 122:=by omega
                          have b1 : ¬ 65 <= (p[y].toNat : Int):=by omega
                          have b2 : (p[y].toNat : Int) <= 90:=by omega
                          have d1 : ¬ 48 <= (p[y].toNat : Int):=by omega
                          have d2 : (p[y].toNat : Int) <= 57:=by omega
                          have d3 : ((p[y].toNat : Int) == 45) = true:=beq_iff_eq.2 (by omega)
                          have HY:=hid (show (p.data.toList.take (y + 1)).all par = true by rw [HSN4.out,HPB.out,HPD.out]; simp; omega)
                          clear hr
                          go_wp2_with fail
                          go_round
                          case rel=>exact ⟨y + 1,by omega,by go_num,HY⟩
                          case measure=>simp [intOf]; omega
                        · have a1 : ¬ 97 <= (p[y].toNat : Int):=by omega
                          have a2 : (p[y].toNat : Int) <= 122:=by omega
                          have b1 : ¬ 65 <= (p[y].toNat : Int):=by omega
                          have b2 : (p[y].toNat : Int) <= 90:=by omega
                          have d1 : ¬ 48 <= (p[y].toNat : Int):=by omega
                          have d2 : (p[y].toNat : Int) <= 57:=by omega
                          have d3 : ((p[y].toNat : Int) == 45) = false:=beq_eq_false_iff_ne.2 (by omega)
                          have HRES:=hid (HRS.out (HNP.out (by rw [HPD.out]; simp; omega)))
                          clear hr
                          go_wp2_with fail
                          refine bodyPost_ret (v:=.tuple #[.agg #[.int .i64 0,.int .i64 0,.int .i64 0,.slice none 0 0],.int .i64 1]) (by simp [results,Tryz.results72,go_sem,r0,r1,r2,r3]) rfl ⟨Or.inl ⟨by rw [HRES.out]; decide,by rw [HRES.out]; rfl⟩,?_⟩
                          exact (((HBF.out.setCell (Nat.le_refl _) _).setCell (Nat.le_refl _) _).setCell (Nat.le_refl _) _).setCell (Nat.le_refl _) _
                        · have a1 : ¬ 97 <= (p[y].toNat : Int):=by omega
                          have a2 : (p[y].toNat : Int) <= 122:=by omega
                          have b1 : ¬ 65 <= (p[y].toNat : Int):=by omega
                          have b2 : (p[y].toNat : Int) <= 90:=by omega
                          have d1 : 48 <= (p[y].toNat : Int):=by omega
                          have d2 : (p[y].toNat : Int) <= 57:=by omega
                          have d3 : ((p[y].toNat : Int) == 45) = false:=beq_eq_false_iff_ne.2 (by omega)
                          have HY:=hid (show (p.data.toList.take (y + 1)).all par = true by rw [HSN4.out,HPB.out,HPD.out]; simp; omega)
                          clear hr
                          go_wp2_with fail
                          go_round
                          case rel=>exact ⟨y + 1,by omega,by go_num,HY⟩
                          case measure=>simp [intOf]; omega
                        · have a1 : ¬ 97 <= (p[y].toNat : Int):=by omega
                          have a2 : (p[y].toNat : Int) <= 122:=by omega
                          have b1 : ¬ 65 <= (p[y].toNat : Int):=by omega
                          have b2 : (p[y].toNat : Int) <= 90:=by omega
                          have d1 : 48 <= (p[y].toNat : Int):=by omega
                          have d2 : ¬ (p[y].toNat : Int) <= 57:=by omega
                          have d3 : ((p[y].toNat : Int) == 45) = false:=beq_eq_false_iff_ne.2 (by omega)
                          have HRES:=hid (HRS.out (HNP.out (by rw [HPD.out]; simp; omega)))
                          clear hr
                          go_wp2_with fail
                          refine bodyPost_ret (v:=.tuple #[.agg #[.int .i64 0,.int .i64 0,.int .i64 0,.slice none 0 0],.int .i64 1]) (by simp [results,Tryz.results72,go_sem,r0,r1,r2,r3]) rfl ⟨Or.inl ⟨by rw [HRES.out]; decide,by rw [HRES.out]; rfl⟩,?_⟩
                          exact (((HBF.out.setCell (Nat.le_refl _) _).setCell (Nat.le_refl _) _).setCell (Nat.le_refl _) _).setCell (Nat.le_refl _) _
                        · have a1 : ¬ 97 <= (p[y].toNat : Int):=by omega
                          have a2 : (p[y].toNat : Int) <= 122:=by omega
                          have b1 : 65 <= (p[y].toNat : Int):=by omega
                          have b2 : (p[y].toNat : Int) <= 90:=by omega
                          have d1 : 48 <= (p[y].toNat : Int):=by omega
                          have d2 : ¬ (p[y].toNat : Int) <= 57:=by omega
                          have d3 : ((p[y].toNat : Int) == 45) = false:=beq_eq_false_iff_ne.2 (by omega)
                          have HY:=hid (show (p.data.toList.take (y + 1)).all par = true by rw [HSN4.out,HPB.out,HPD.out]; simp; omega)
                          clear hr
                          go_wp2_with fail
                          go_round
                          case rel=>exact ⟨y + 1,by omega,by go_num,HY⟩
                          case measure=>simp [intOf]; omega
                        · have a1 : ¬ 97 <= (p[y].toNat : Int):=by omega
                          have a2 : (p[y].toNat : Int) <= 122:=by omega
                          have b1 : 65 <= (p[y].toNat : Int):=by omega
                          have b2 : ¬ (p[y].toNat : Int) <= 90:=by omega
                          have d1 : 48 <= (p[y].toNat : Int):=by omega
                          have d2 : ¬ (p[y].toNat : Int) <= 57:=by omega
                          have d3 : ((p[y].toNat : Int) == 45) = false:=beq_eq_false_iff_ne.2 (by omega)
                          have HRES:=hid (HRS.out (HNP.out (by rw [HPD.out]; simp; omega)))
                          clear hr
                          go_wp2_with fail
                          refine bodyPost_ret (v:=.tuple #[.agg #[.int .i64 0,.int .i64 0,.int .i64 0,.slice none 0 0],.int .i64 1]) (by simp [results,Tryz.results72,go_sem,r0,r1,r2,r3]) rfl ⟨Or.inl ⟨by rw [HRES.out]; decide,by rw [HRES.out]; rfl⟩,?_⟩
                          exact (((HBF.out.setCell (Nat.le_refl _) _).setCell (Nat.le_refl _) _).setCell (Nat.le_refl _) _).setCell (Nat.le_refl _) _
                        · have a1 : 97 <= (p[y].toNat : Int):=by omega
                          have a2 : (p[y].toNat : Int) <= 122:=by omega
                          have b1 : 65 <= (p[y].toNat : Int):=by omega
                          have b2 : ¬ (p[y].toNat : Int) <= 90:=by omega
                          have d1 : 48 <= (p[y].toNat : Int):=by omega
                          have d2 : ¬ (p[y].toNat : Int) <= 57:=by omega
                          have d3 : ((p[y].toNat : Int) == 45) = false:=beq_eq_false_iff_ne.2 (by omega)
                          have HY:=hid (show (p.data.toList.take (y + 1)).all par = true by rw [HSN4.out,HPB.out,HPD.out]; simp; omega)
                          clear hr
                          go_wp2_with fail
                          go_round
                          case rel=>exact ⟨y + 1,by omega,by go_num,HY⟩
                          case measure=>simp [intOf]; omega
                        · have a1 : 97 <= (p[y].toNat : Int):=by omega
                          have a2 : ¬ (p[y].toNat : Int) <= 122:=by omega
                          have b1 : 65 <= (p[y].toNat : Int):=by omega
                          have b2 : ¬ (p[y].toNat : Int) <= 90:=by omega
                          have d1 : 48 <= (p[y].toNat : Int):=by omega
                          have d2 : ¬ (p[y].toNat : Int) <= 57:=by omega
                          have d3 : ((p[y].toNat : Int) == 45) = false:=beq_eq_false_iff_ne.2 (by omega)
                          have HRES:=hid (HRS.out (HNP.out (by rw [HPD.out]; simp; omega)))
                          clear hr
                          go_wp2_with fail
                          refine bodyPost_ret (v:=.tuple #[.agg #[.int .i64 0,.int .i64 0,.int .i64 0,.slice none 0 0],.int .i64 1]) (by simp [results,Tryz.results72,go_sem,r0,r1,r2,r3]) rfl ⟨Or.inl ⟨by rw [HRES.out]; decide,by rw [HRES.out]; rfl⟩,?_⟩
                          exact (((HBF.out.setCell (Nat.le_refl _) _).setCell (Nat.le_refl _) _).setCell (Nat.le_refl _) _).setCell (Nat.le_refl _) _
                      · have HAP:=hid (show allPar p.data.toList = true by
                          have h2 : p.data.toList.take y = p.data.toList:=List.take_of_length_le (by simp; omega)
                          have:=HAL.out; rw [h2] at this; exact this)
                        rw [HAP.out] at HPT
                        simp only [Bool.true_eq_false,if_false] at HPT
                        cases hdg : digs p.data.toList
                        · rw [hdg] at HPT HAD
                          have HPV:=hid (show part p.data.toList = 0 by rw [HPT.out]; rfl)
                          have HO1:=hid (show 1 ∉ (bl (X2.take (j + 1))).map part by
                            rw [HXJ.out,List.map_append,List.mem_append]
                            rintro (h | h)
                            · exact HP1.out h
                            · simp only [List.map_cons,List.map_nil,List.mem_singleton,HPV.out] at h; omega)
                          have HFL:=hid (show Value.bool bj = Value.bool (fb || (bl (X2.take (j + 1))).any (fun p=>part p == 2)) by
                            rw [HXJ.out,List.any_append,<- Bool.or_assoc,HBJ.out,List.any_cons,HPV.out]; simp)
                          clear hdg
                          go_wp2_with fail
                          refine HAD.out.mono ?_
                          rintro e w' ⟨rfl,hw'⟩
                          rw [hw']
                          clear hw'
                          go_wp2_with fail
                          go_round
                          case rel=>exact ⟨j + 1,by omega,by go_num,HFL.out,HO1⟩
                          case measure=>simp [intOf]; omega
                        · rw [hdg] at HPT HAD
                          simp only [Bool.true_eq_false,if_false] at HPT
                          have HNE:=hid (num_err p.data.toList)
                          generalize hnp : num p.data.toList = np at *
                          obtain ⟨n1,n2⟩:=np
                          clear hnp hdg
                          rcases HNE.out with h | h | h
                          · dsimp only at h
                            subst h
                            have HPV:=hid (show part p.data.toList = 0 from HPT.out)
                            have HO1:=hid (show 1 ∉ (bl (X2.take (j + 1))).map part by
                              rw [HXJ.out,List.map_append,List.mem_append]
                              rintro (h | h)
                              · exact HP1.out h
                              · simp only [List.map_cons,List.map_nil,List.mem_singleton,HPV.out] at h; omega)
                            cases bj
                            · have HFL:=hid (show Value.bool false = Value.bool (fb || (bl (X2.take (j + 1))).any (fun p=>part p == 2)) by
                                rw [HXJ.out,List.any_append,<- Bool.or_assoc,HBJ.out,List.any_cons,HPV.out]; rfl)
                              go_wp2_with fail
                              refine HAD.out.mono ?_
                              rintro e w' ⟨rfl,hw'⟩
                              rw [hw']
                              clear hw'
                              go_wp2_with fail
                              refine HNO.out.mono ?_
                              rintro e w' ⟨rfl,hw'⟩
                              rw [hw']
                              clear hw'
                              go_wp2_with fail
                              go_round
                              case rel=>exact ⟨j + 1,by omega,by go_num,HFL.out,HO1⟩
                              case measure=>simp [intOf]; omega
                            · have HFL:=hid (show Value.bool true = Value.bool (fb || (bl (X2.take (j + 1))).any (fun p=>part p == 2)) by
                                rw [HXJ.out,List.any_append,<- Bool.or_assoc,HBJ.out,List.any_cons,HPV.out]; rfl)
                              go_wp2_with fail
                              refine HAD.out.mono ?_
                              rintro e w' ⟨rfl,hw'⟩
                              rw [hw']
                              clear hw'
                              go_wp2_with fail
                              refine HNO.out.mono ?_
                              rintro e w' ⟨rfl,hw'⟩
                              rw [hw']
                              clear hw'
                              go_wp2_with fail
                              go_round
                              case rel=>exact ⟨j + 1,by omega,by go_num,HFL.out,HO1⟩
                              case measure=>simp [intOf]; omega
                          · dsimp only at h
                            subst h
                            have HRES:=hid (show verB s.data.toList = 1 by
                              unfold verB
                              rw [if_pos (Or.inr (by rw [<- HPX.out]; exact List.mem_map.2 ⟨_,HMEM.out,HPT.out⟩))])
                            go_wp2_with fail
                            refine HAD.out.mono ?_
                            rintro e w' ⟨rfl,hw'⟩
                            rw [hw']
                            clear hw'
                            go_wp2_with fail
                            refine HNO.out.mono ?_
                            rintro e w' ⟨rfl,hw'⟩
                            rw [hw']
                            clear hw'
                            go_wp2_with fail
                            refine bodyPost_ret (v:=.tuple #[.agg #[.int .i64 0,.int .i64 0,.int .i64 0,.slice none 0 0],.int .i64 1]) (by simp [results,Tryz.results72,go_sem,r0,r1,r2,r3]) rfl ⟨Or.inl ⟨by rw [HRES.out]; decide,by rw [HRES.out]; rfl⟩,?_⟩
                            exact (((HBF.out.setCell (Nat.le_refl _) _).setCell (Nat.le_refl _) _).setCell (Nat.le_refl _) _).setCell (Nat.le_refl _) _
                          · dsimp only at h
                            subst h
                            have HPV:=hid (show part p.data.toList = 2 from HPT.out)
                            have HO1:=hid (show 1 ∉ (bl (X2.take (j + 1))).map part by
                              rw [HXJ.out,List.map_append,List.mem_append]
                              rintro (h | h)
                              · exact HP1.out h
                              · simp only [List.map_cons,List.map_nil,List.mem_singleton,HPV.out] at h; omega)
                            cases bj
                            · have HFL:=hid (show Value.bool true = Value.bool (fb || (bl (X2.take (j + 1))).any (fun p=>part p == 2)) by
                                rw [HXJ.out,List.any_append,<- Bool.or_assoc,HBJ.out,List.any_cons,HPV.out]; rfl)
                              go_wp2_with fail
                              refine HAD.out.mono ?_
                              rintro e w' ⟨rfl,hw'⟩
                              rw [hw']
                              clear hw'
                              go_wp2_with fail
                              refine HNO.out.mono ?_
                              rintro e w' ⟨rfl,hw'⟩
                              rw [hw']
                              clear hw'
                              go_wp2_with fail
                              go_round
                              case rel=>exact ⟨j + 1,by omega,by go_num,HFL.out,HO1⟩
                              case measure=>simp [intOf]; omega
                            · have HFL:=hid (show Value.bool true = Value.bool (fb || (bl (X2.take (j + 1))).any (fun p=>part p == 2)) by
                                rw [HXJ.out,List.any_append,<- Bool.or_assoc,HBJ.out,List.any_cons,HPV.out]; rfl)
                              go_wp2_with fail
                              refine HAD.out.mono ?_
                              rintro e w' ⟨rfl,hw'⟩
                              rw [hw']
                              clear hw'
                              go_wp2_with fail
                              refine HNO.out.mono ?_
                              rintro e w' ⟨rfl,hw'⟩
                              rw [hw']
                              clear hw'
                              go_wp2_with fail
                              go_round
                              case rel=>exact ⟨j + 1,by omega,by go_num,HFL.out,HO1⟩
                              case measure=>simp [intOf]; omega
              · have hXt2 : X2.take j = X2:=List.take_of_length_le (by omega)
                rw [hXt2,HPX.out] at HP1
                rw [hXt2,HPX.out] at HBJ
                have HVB:=hid (show verB s.data.toList = if bj = true \/ 5 < X2.length then 2 else 0 by
                  unfold verB
                  rw [if_neg (by rintro (h | h); exact H1.out h; exact HP1.out h),HPL.out,<- HBJ.out,<- HFB.out]
                  congr 1
                  simp only [Bool.or_eq_true,decide_eq_true_eq,List.any_eq_true,beq_iff_eq,List.mem_map,eq_iff_iff]
                  constructor
                  · rintro (h | h | h)
                    · exact Or.inl (Or.inl h)
                    · exact Or.inl (Or.inr h)
                    · exact Or.inr h
                  · rintro ((h | h) | h)
                    · exact Or.inl h
                    · exact Or.inr (Or.inl h)
                    · exact Or.inr (Or.inr h))
                clear hXt2
                cases bj
                · by_cases h5 : 5 < X2.length
                  · have HRES:=hid (show verB s.data.toList = 2 by rw [HVB.out,if_pos (Or.inr h5)])
                    go_wp2_with fail
                    refine bodyPost_ret (v:=.tuple #[.agg #[.int .i64 0,.int .i64 0,.int .i64 0,.slice none 0 0],.int .i64 2]) (by simp [results,Tryz.results72,go_sem,r0,r1,r2,r3]) rfl ⟨Or.inl ⟨by rw [HRES.out]; decide,by rw [HRES.out]; rfl⟩,?_⟩
                    exact (((HBF.out.setCell (Nat.le_refl _) _).setCell (Nat.le_refl _) _).setCell (Nat.le_refl _) _).setCell (Nat.le_refl _) _
                  · have HRES:=hid (show verB s.data.toList = 0 by rw [HVB.out,if_neg (by rintro (h | h); cases h; exact h5 h)])
                    go_wp2_with fail
                    refine bodyPost_ret (v:=.tuple #[.agg #[.int .i64 (nAt s.data.toList 0),.int .i64 (nAt s.data.toList 1),.int .i64 (nAt s.data.toList 2),.slice (some ⟨g2,0,none⟩) X2.length cap2],.int .i64 0]) (by simp [results,Tryz.results72,go_sem,r0,r1,r2,r3]) rfl ⟨Or.inr ⟨HRES.out,g2,cap2,X2,rfl,HPX.out,HX2N.out,?_⟩,?_⟩
                    · intro j hj
                      have:=HCEW.out j hj
                      simpa [World.cell?_setCell_other,hg2N,fun h : w.heap.size = g2=>hg2N h.symm] using this
                    · exact (((HBF.out.setCell (Nat.le_refl _) _).setCell (Nat.le_refl _) _).setCell (Nat.le_refl _) _).setCell (Nat.le_refl _) _
                · have HRES:=hid (show verB s.data.toList = 2 by rw [HVB.out,if_pos (Or.inl rfl)])
                  go_wp2_with fail
                  refine bodyPost_ret (v:=.tuple #[.agg #[.int .i64 0,.int .i64 0,.int .i64 0,.slice none 0 0],.int .i64 2]) (by simp [results,Tryz.results72,go_sem,r0,r1,r2,r3]) rfl ⟨Or.inl ⟨by rw [HRES.out]; decide,by rw [HRES.out]; rfl⟩,?_⟩
                  exact (((HBF.out.setCell (Nat.le_refl _) _).setCell (Nat.le_refl _) _).setCell (Nat.le_refl _) _).setCell (Nat.le_refl _) _
end Ve
end Go.Proofs.YtlcffhadobhfkaaGreatDoor
