/-
  MvJ MlA
-/
import Derived.Test.YtlcffhadobhfkaaGreatDoorMq3
import Derived.Test.YtlcffhadobhfkaaGreatDoorMq5
import Derived.Test.YtlcffhadobhfkaaGreatDoorMq6
import Derived.Test.YtlcffhadobhfkaaGreatDoorMq9
import Derived.Test.YtlcffhadobhfkaaGreatDoorMq11
import Derived.Test.YtlcffhadobhfkaaGreatDoorMq2
import Derived.Test.YtlcffhadobhfkaaGreatDoorMq18
import Derived.Test.YtlcffhadobhfkaaGreatDoorMq19
import Derived.Test.YtlcffhadobhfkaaGreatDoorMq20
import Derived.Test.YtlcffhadobhfkaaGreatDoorMq23
import Derived.Test.YtlcffhadobhfkaaGreatDoorMq22
import Derived.Test.YtlcffhadobhfkaaGreatDoorMq34
import Derived.Test.YtlcffhadobhfkaaGreatDoorMq45
import Derived.Test.YtlcffhadobhfkaaGreatDoorMq36
import Derived.Test.YtlcffhadobhfkaaGreatDoorMq54
import Derived.Test.YtlcffhadobhfkaaGreatDoorMq56
import Derived.Test.YtlcffhadobhfkaaGreatDoorMq61
import Derived.Test.YtlcffhadobhfkaaGreatDoorMq15
import Derived.Test.YtlcffhadobhfkaaGreatDoorMq28
namespace Go.Proofs.YtlcffhadobhfkaaGreatDoor
open Go.RowKit Go.Maps
namespace Ve
set_option maxRecDepth 100000 in
set_option maxHeartbeats 4000000 in
theorem mcheck_all (Q : List Raw) (L : List Ent) (roots sel : List Bm) (v rv sv : Value) (A : Nat → Addr) (m : Int) (w : World) (hn : L.length ≤ 1000) (hrn : roots.length ≤ 1000000) (hsn : sel.length ≤ 500) (sh : ∀ e, e ∈ L → ShE e) (S : Te w A m) (I : Ixs w v Q L) (hr : MsAt w rv roots) (hs : MsAt w sv sel) (es : Em sv sel) :
    Calls Tryz.prog 81 #[v,rv,sv] w fun e w'=>∃ x,e = .returned x /\ ErrAt w' A x (chkC Q L roots sel).1 (chkC Q L roots sel).2 /\ Below w.heap.size w w':=by
  have HCK:=hid (icheck_any Q L v A m w (by omega) sh S I)
  have HCM:=hid (fun W (h : Below w.heap.size w W)=>cmods_any Q roots v rv A m W (by rw [I.ln]; omega) hrn (S.below h) (I.es.below h) (hr.below h))
  have HCS:=hid (fun W (h : Below w.heap.size w W)=>cmods_any Q sel v sv A m W (by rw [I.ln]; omega) (by omega) (S.below h) (I.es.below h) (hs.below h))
  have HIS:=hid (fun W (h : Below w.heap.size w W) (_ : (chk Q L).1 = 0) (_ : codeE (nonE Q sel) sel.length = 0)=>isSel_any sel sv W (hs.below h) (by omega))
  have HS:=hid S
  obtain ⟨a,c,hv,-⟩:=id I.es
  subst hv
  obtain ⟨ra,rc,hrv,-⟩:=id hr
  subst hrv
  obtain ⟨sa,sc,hsv,-⟩:=id hs
  subst hsv
  clear S I hr sh hs es
  by_cases h0 : (chk Q L).1 = 0
  · have hG : chkG Q L roots = (codeE (nonE Q roots) roots.length, fstE (nonE Q roots) roots.length) := chkG_ok h0
    go_enter Tryz.func81,Tryz.ntmps81
    go_wp2_with fail
    refine HCK.out.mono ?_
    rintro e w1 ⟨x,rfl,he,hb⟩
    have HB1:=hid hb
    rcases he.kind with ⟨_,rfl⟩ | ⟨h,_⟩
    · clear he hb HCK
      by_cases h1 : codeE (nonE Q roots) roots.length = 0
      · have hg0 : (chkG Q L roots).1 = 0:=by rw [hG]; exact h1
        go_wp2_with fail
        refine (HCM.out _ HB1.out).mono ?_
        rintro e w2 ⟨x,rfl,he,hb⟩
        have HB2:=hid (HB1.out.trans (hb.mono HB1.out.size))
        rcases he.kind with ⟨_,rfl⟩ | ⟨h,_⟩
        · clear he hb HCM
          by_cases h2 : codeE (nonE Q sel) sel.length = 0
          · go_wp2_with fail
            refine (HCS.out _ HB2.out).mono ?_
            rintro e w3 ⟨x,rfl,he,hb⟩
            have HB3:=hid (HB2.out.trans (hb.mono HB2.out.size))
            rcases he.kind with ⟨_,rfl⟩ | ⟨h,_⟩
            · clear he hb HCS
              have HSL:=hid (HIS.out w3 HB3.out h0 h2)
              have HC:=hid (chkC_ris (sel:=sel) hg0 h2)
              clear h0 h1 h2 hG hg0 HIS
              cases hs : risB2 sel
              · rw [hs] at HSL HC
                clear hs
                go_wp2_with fail
                refine HSL.out.mono ?_
                rintro e w4 ⟨rfl,hb⟩
                have HB4:=hid (HB3.out.trans (hb.mono HB3.out.size))
                have g7:=(HS.out.below HB4.out).sen.g7
                clear hb
                go_wp2_with fail
                go_ret
                exact ⟨_,rfl,by rw [HC.out]; rfl,HB4.out⟩
              · rw [hs] at HSL HC
                clear hs
                go_wp2_with fail
                refine HSL.out.mono ?_
                rintro e w4 ⟨rfl,hb⟩
                have HB4:=hid (HB3.out.trans (hb.mono HB3.out.size))
                clear hb
                go_wp2_with fail
                go_ret
                exact ⟨_,rfl,by rw [HC.out]; rfl,HB4.out⟩
            · exact absurd h2 h
          · go_wp2_with fail
            refine (HCS.out _ HB2.out).mono ?_
            rintro e w3 ⟨x,rfl,he,hb⟩
            have HB3:=hid (HB2.out.trans (hb.mono HB2.out.size))
            have HE:=hid he
            rcases he.kind with ⟨h,_⟩ | ⟨_,T,xa,rfl⟩
            · exact absurd h h2
            have HC:=hid (chkC_sel hg0 h2)
            clear he hb HCS h0 h1 h2 hG hg0
            go_wp2_with fail
            go_ret
            exact ⟨_,rfl,by rw [HC.out]; exact HE.out,HB3.out⟩
        · exact absurd h1 h
      · go_wp2_with fail
        refine (HCM.out _ HB1.out).mono ?_
        rintro e w2 ⟨x,rfl,he,hb⟩
        have HB2:=hid (HB1.out.trans (hb.mono HB1.out.size))
        have HE:=hid he
        rcases he.kind with ⟨h,_⟩ | ⟨_,T,xa,rfl⟩
        · exact absurd h h1
        have HC:=hid (chkC_bad (sel:=sel) (show (chkG Q L roots).1 ≠ 0 by rw [hG]; exact h1))
        rw [hG] at HC
        clear he hb HCM h0 h1 hG
        go_wp2_with fail
        go_ret
        exact ⟨_,rfl,by rw [HC.out]; exact HE.out,HB2.out⟩
    · exact absurd h0 h
  · have HC:=hid (chkC_bad (sel:=sel) (show (chkG Q L roots).1 ≠ 0 by rw [chkG_bad h0]; exact h0))
    rw [chkG_bad h0] at HC
    go_enter Tryz.func81,Tryz.ntmps81
    go_wp2_with fail
    refine HCK.out.mono ?_
    rintro e w1 ⟨x,rfl,he,hb⟩
    have HB1:=hid hb
    have HE:=hid he
    rcases he.kind with ⟨h,_⟩ | ⟨_,T,xa,rfl⟩
    · exact absurd h h0
    clear he hb HCK h0
    go_wp2_with fail
    go_ret
    exact ⟨_,rfl,by rw [HC.out]; exact HE.out,HB1.out⟩
theorem reqQ_sz {Q : List Raw} {L : List Ent} (sh : ∀ e,e ∈ L -> ShE e) (m : Bm) : (reqQ Q L m).length <= 1000000 /\ ∀ x,x ∈ reqQ Q L m -> x.1.size < 999999 /\ x.2.size < 999999:=by
  unfold reqQ
  split
  · exact ⟨by simp,fun x hx=>by cases hx⟩
  · cases h : L[(idxOf (isM m) Q).toNat]? with
    | none=>exact ⟨by simp,fun x hx=>by simp at hx⟩
    | some e=>
      have he:=sh e (List.mem_of_getElem? h)
      exact ⟨he.rn,fun x hx=>he.rs x hx⟩
set_option maxRecDepth 100000 in
set_option maxHeartbeats 4000000 in
theorem clK_any (Q : List Raw) (L : List Ent) (sel : List Bm) (x : Bm) (lb sb : Nat) (v sv : Value) (A : Nat -> Addr) (m : Int) (W : World) (hn : L.length <= 1000) (hsn : sel.length <= 1000000) (hss : ∀ y,y ∈ sel -> y.2.size < 999999) (sh : ∀ e,e ∈ L -> ShE e) (hx : x ∈ univ L) (S : Te W A m) (I : Ixs W v Q L) (hs : MsAt W sv sel) (c0 : W.cell? ⟨lb,0,none⟩ = some v) (c1 : W.cell? ⟨sb,0,none⟩ = some sv) :
    Calls Tryz.prog 82 (#[.agg #[.string x.1,.string x.2]] ++ #[.pointer (some ⟨lb,0,none⟩),.pointer (some ⟨sb,0,none⟩)]) W fun e w'=>e = .returned (.bool (!undB (reqQ Q L x) sel)) /\ Below W.heap.size W w':=by
  obtain ⟨kq,hkq⟩:=(found_iff I x).1 hx
  obtain ⟨hkl,-⟩:=idx_is hkq
  have hkl2 : kq < L.length:=by rw [<- I.ln]; exact hkl
  have HB0:=hid ((Below.refl W.heap.size W).alloc (Nat.le_refl _) (.cells #[.string x.1,.string x.2] 25))
  have HFI:=hid (fun W' (h : Below W.heap.size W W')=>find_any Q x v W' (by rw [I.ln]; omega) (I.below h).es)
  rw [hkq] at HFI
  have HRS:=hid (reqQ_sz (Q:=Q) sh x)
  have HRQ:=hid (reqQ_at hkq hkl2)
  have hkI : (kq : Int) < (Q.length : Int):=by omega
  have hk0 : (0 : Int) <= (kq : Int):=by omega
  obtain ⟨a,c,hv,-⟩:=id I.es
  subst hv
  have HES:=hid (fun W' (h : Below W.heap.size W W')=>es_cells (I.below h).es hkl)
  have HMS:=hid (fun W' (h : Below W.heap.size W W')=>((I.below h).ok kq hkl hkl2).rq)
  rw [HRQ.out] at HRS ⊢
  generalize (L[kq]'hkl2).2.1 = R at *
  generalize (Q[kq]'hkl).2.1 = qv at *
  obtain ⟨qa,qc,hqv,-⟩:=HMS.out W (Below.refl _ _)
  subst hqv
  obtain ⟨sa,sc,hsv,-⟩:=id hs
  subst hsv
  have HUN:=hid (fun W' (h : Below W.heap.size W W')=>und_any R sel _ _ A m W' HRS.out.1 hsn (fun y hy=>(HRS.out.2 y hy).2) hss (S.below h) (HMS.out W' h) (hs.below h))
  obtain ⟨eb,eo,ha,-⟩:=HES.out W (Below.refl _ _)
  subst ha
  have HCL:=hid (fun W' (h : Below W.heap.size W W')=>show W'.cell? ⟨lb,0,none⟩ = some (.slice (some ⟨eb,eo,none⟩) Q.length c) /\ W'.cell? ⟨sb,0,none⟩ = some (.slice sa sel.length sc) from ⟨cell_below h c0,cell_below h c1⟩)
  have HX2:=hid (fun W' (h : Below W.heap.size W W')=>show W'.cell? ⟨eb,eo + kq * 5 + 2,none⟩ = some (.slice qa R.length qc) by
    obtain ⟨eb',eo',e,h2⟩:=HES.out W' h
    injection e with e
    injection e with e1 e2
    subst e1 e2
    exact h2)
  obtain ⟨d0,d1⟩:=HCL.out _ HB0.out
  show Calls Tryz.prog 82 #[.agg #[.string x.1,.string x.2],.pointer (some ⟨lb,0,none⟩),.pointer (some ⟨sb,0,none⟩)] W _
  clear S I hs hkq hkl hkl2 hx HES HMS HRQ sh c0 c1 hss
  obtain ⟨Wa,hWa⟩ : ∃ Wa,W.alloc (.cells #[.string x.1,.string x.2] 25) = Wa:=⟨_,rfl⟩
  have b0 : Wa.cell? ⟨W.heap.size,0,none⟩ = some (.string x.1):=by rw [<- hWa]; simp
  have b1 : Wa.cell? ⟨W.heap.size,1,none⟩ = some (.string x.2):=by rw [<- hWa]; simp
  rw [hWa] at HB0 d0 d1
  have HW:=hid (fun W' (hW : Below Wa.heap.size Wa W')=>(HB0.out.trans (hW.mono HB0.out.size)))
  have HT:=hid (fun W' (hW : Below Wa.heap.size Wa W')=>(show (fun W'=>W'.cell? ⟨lb,0,none⟩ = some (.slice (some ⟨eb,eo,none⟩) Q.length c) /\ W'.cell? ⟨sb,0,none⟩ = some (.slice sa sel.length sc) /\ W'.cell? ⟨W.heap.size,0,none⟩ = some (.string x.1) /\ W'.cell? ⟨W.heap.size,1,none⟩ = some (.string x.2) /\ W'.cell? ⟨eb,eo + kq * 5 + 2,none⟩ = some (.slice qa R.length qc) /\ Hid (Below Wa.heap.size Wa W')) W' from ⟨(HCL.out W' (HW.out W' hW)).1,(HCL.out W' (HW.out W' hW)).2,cell_below hW b0,cell_below hW b1,HX2.out W' (HW.out W' hW),hid hW⟩))
  have x2:=HX2.out Wa HB0.out
  go_enter Tryz.func82,Tryz.ntmps82
  go_wp2_with fail
  clear hWa
  go_region_held (fun W'=>W'.cell? ⟨lb,0,none⟩ = some (.slice (some ⟨eb,eo,none⟩) Q.length c) /\ W'.cell? ⟨sb,0,none⟩ = some (.slice sa sel.length sc) /\ W'.cell? ⟨W.heap.size,0,none⟩ = some (.string x.1) /\ W'.cell? ⟨W.heap.size,1,none⟩ = some (.string x.2) /\ W'.cell? ⟨eb,eo + kq * 5 + 2,none⟩ = some (.slice qa R.length qc) /\ Hid (Below Wa.heap.size Wa W')) (first | exact HT.out _ HRb.out | exact HT.out _ HRa.out | exact HT.out _ (below_drawn _ 1)) (first
    | (go_at_call 83; refine (HFI.out _ (HW.out _ (below_drawn _ 1))).mono ?_; rintro e w' ⟨rfl,hb⟩; have HRa:=hid ((below_drawn Wa 1).trans (hb.mono (Nat.le_refl _))); clear hb)
    | (go_at_call 31; refine (HUN.out _ (HW.out _ HRa.out)).mono ?_; rintro e w'' ⟨rfl,hb⟩; have HRb:=hid (HRa.out.trans (hb.mono HRa.out.size)); clear hb))
  all_goals
    have HBe:=hid (HW.out _ HRb.out)
    go_wp2_with fail
    go_ret
    exact ⟨rfl,HBe.out⟩
set_option maxRecDepth 100000 in
set_option maxHeartbeats 4000000 in
theorem closed_bad (Q : List Raw) (L : List Ent) (roots sel : List Bm) (v rv sv : Value) (A : Nat -> Addr) (m : Int) (w : World) (hn : L.length <= 1000) (hrn : roots.length <= 1000000) (hsn : sel.length <= 500) (sh : ∀ e,e ∈ L -> ShE e) (S : Te w A m) (I : Ixs w v Q L) (hr : MsAt w rv roots) (hs : MsAt w sv sel) (es : Em sv sel) (h0 : (chkC Q L roots sel).1 ≠ 0) :
    Calls Tryz.prog 33 #[v,rv,sv] w fun e w'=>∃ T a,e = .returned (.tuple #[.bool false,.iface T (.pointer (some a))]) /\ ErrAt w' A (.iface T (.pointer (some a))) (chkC Q L roots sel).1 (chkC Q L roots sel).2 /\ Below w.heap.size w w':=by
  have HB0:=hid (((Below.refl w.heap.size w).alloc (Nat.le_refl _) (.cells #[v] 22)).alloc (by simp) (.cells #[sv] 23))
  have HCK:=hid (mcheck_all Q L roots sel v rv sv A m _ hn hrn hsn sh (S.below HB0.out) (I.below HB0.out) (hr.below HB0.out) (hs.below HB0.out) es)
  obtain ⟨a,c,hv,-⟩:=id I.es
  subst hv
  obtain ⟨ra,rc,hrv,-⟩:=id hr
  subst hrv
  obtain ⟨sa,sc,hsv,-⟩:=id hs
  subst hsv
  have H0:=hid h0
  clear S I hr hs es sh h0
  go_enter Tryz.func33,Tryz.ntmps33
  go_wp2_with fail
  refine HCK.out.mono ?_
  rintro e w1 ⟨x,rfl,he,hb⟩
  have HB1:=hid (HB0.out.trans (hb.mono HB0.out.size))
  have HE:=hid he
  rcases he.kind with ⟨h,_⟩ | ⟨_,T,xa,rfl⟩
  · exact absurd h H0.out
  clear he hb HCK
  go_wp2_with fail
  go_ret2
  exact ⟨_,_,rfl,HE.out,HB1.out⟩
set_option maxRecDepth 100000 in
set_option maxHeartbeats 4000000 in
theorem closed_good (Q : List Raw) (L : List Ent) (roots sel : List Bm) (v rv sv : Value) (A : Nat -> Addr) (m : Int) (w : World) (hn : L.length <= 1000) (hrn : roots.length <= 1000000) (hsn : sel.length <= 500) (sh : ∀ e,e ∈ L -> ShE e) (S : Te w A m) (I : Ixs w v Q L) (hr : MsAt w rv roots) (hs : MsAt w sv sel) (es : Em sv sel) (h0 : (chkC Q L roots sel).1 = 0) :
    Calls Tryz.prog 33 #[v,rv,sv] w fun e w'=>e = .returned (.tuple #[.bool (closB Q L roots sel),.nilIface]) /\ Below w.heap.size w w':=by
  obtain ⟨hg,hsu,-⟩:=chkC_good I h0
  have hru:=(rgt_of I hg).r
  have HB0:=hid (((Below.refl w.heap.size w).alloc (Nat.le_refl _) (.cells #[v] 22)).alloc (by simp) (.cells #[sv] 23))
  have HCK:=hid (mcheck_all Q L roots sel v rv sv A m _ hn hrn hsn sh (S.below HB0.out) (I.below HB0.out) (hr.below HB0.out) (hs.below HB0.out) es)
  have HUN:=hid (fun W (h : Below w.heap.size w W)=>und_any roots sel rv sv A m W hrn (by omega) (fun y hy=>(univ_szJ sh (hru y hy)).2) (fun y hy=>(univ_szJ sh (hsu y hy)).2) (S.below h) (hr.below h) (hs.below h))
  have eg : ∀ args w,(callFunc 82 args).run Tryz.prog w = .ok (.enter 82 args) w:=enters_of Tryz.func82 (by kernel_rfl) rfl
  have HHA:=hid (fun W (h : Below w.heap.size w W) (c0 : W.cell? ⟨w.heap.size,0,none⟩ = some v) (c1 : W.cell? ⟨w.heap.size + 1,0,none⟩ = some sv)=>hasM_any 82 #[.pointer (some ⟨w.heap.size,0,none⟩),.pointer (some ⟨w.heap.size + 1,0,none⟩)] (fun x=>!undB (reqQ Q L x) sel) sel sv W eg (by omega) (hs.below h) (fun i hi W' hW=>by
    have hb2:=h.trans (hW.mono h.size)
    exact clK_any Q L sel sel[i] w.heap.size (w.heap.size + 1) v sv A m W' hn (by omega) (fun y hy=>(univ_szJ sh (hsu y hy)).2) sh (hsu _ (List.getElem_mem hi)) (S.below hb2) (I.below hb2) (hs.below hb2) (cell_below hW c0) (cell_below hW c1)))
  have HX:=hid (show closB Q L roots sel = (undB roots sel && !(sel.any fun x=>!undB (reqQ Q L x) sel)) by
    unfold closB
    congr 1
    rw [List.any_eq_not_all_not]
    simp)
  obtain ⟨a,c,hv,-⟩:=id I.es
  subst hv
  obtain ⟨ra,rc,hrv,-⟩:=id hr
  subst hrv
  obtain ⟨sa,sc,hsv,-⟩:=id hs
  subst hsv
  have H0:=hid h0
  generalize closB Q L roots sel = z at *
  generalize undB roots sel = zu at *
  generalize (sel.any fun x=>!undB (reqQ Q L x) sel) = za at *
  clear S I hr hs es sh h0 hg hsu hru eg
  go_enter Tryz.func33,Tryz.ntmps33
  go_wp2_with fail
  refine HCK.out.mono ?_
  rintro e w1 ⟨x,rfl,he,hb⟩
  have HB1:=hid (HB0.out.trans (hb.mono HB0.out.size))
  have d0 : w1.cell? ⟨w.heap.size,0,none⟩ = some (.slice a Q.length c):=cell_below hb (by simp)
  have d1 : w1.cell? ⟨w.heap.size + 1,0,none⟩ = some (.slice sa sel.length sc):=cell_below hb (by simp)
  rcases he.kind with ⟨_,rfl⟩ | ⟨h,_⟩
  · clear he hb HCK
    have HU1:=hid (HUN.out w1 HB1.out)
    cases zu
    · go_wp2_with fail
      refine HU1.out.mono ?_
      rintro e w2 ⟨rfl,hb⟩
      have HB2:=hid (HB1.out.trans (hb.mono HB1.out.size))
      clear hb
      go_wp2_with fail
      go_ret2
      exact ⟨by rw [HX.out]; rfl,HB2.out⟩
    · go_wp2_with fail
      refine HU1.out.mono ?_
      rintro e w2 ⟨rfl,hb⟩
      have HB2:=hid (HB1.out.trans (hb.mono HB1.out.size))
      have f0:=cell_below hb d0
      have f1:=cell_below hb d1
      have HH1:=hid (HHA.out w2 HB2.out f0 f1)
      clear hb d0 d1
      go_wp2_with fail
      refine HH1.out.mono ?_
      rintro e w3 ⟨rfl,hb⟩
      have HB3:=hid (HB2.out.trans (hb.mono HB2.out.size))
      clear hb
      go_wp2_with fail
      go_ret2
      exact ⟨by rw [HX.out]; rfl,HB3.out⟩
  · exact absurd H0.out h
set_option maxRecDepth 100000 in
set_option maxHeartbeats 2000000 in
theorem has2_any (B : List Bm) (m : Bm) (v : Value) (w : World) (hB : B.length <= 1000000) (hs : ∀ x,x ∈ B -> x.2.size < 999999) (hm : m.2.size < 999999) (hv : MsAt w v B) :
    Calls Tryz.prog 85 #[v,.agg #[.string m.1,.string m.2]] w fun e w'=>e = .returned (.bool (hasV B m)) /\ Below w.heap.size w w':=by
  obtain ⟨p,q⟩:=m
  simp only at hm
  have HB0:=hid ((Below.refl w.heap.size w).alloc (Nat.le_refl _) (.cells #[.string p,.string q] 25))
  have HF:=hid (fp_is B p v _ hB (hv.below HB0.out))
  obtain ⟨va,vc,hv1,_,hvc⟩:=id hv
  subst hv1
  rcases fpOf_kind B p with ⟨e1,h2⟩ | ⟨k,hk,e1,h2,h3⟩
  · have HX:=hid (hasV_none (m:=(p,q)) h2)
    rw [e1] at HF
    clear hv hvc e1 h2
    go_enter Tryz.func85,Tryz.ntmps85
    go_wp2_with fail
    refine HF.out.mono ?_
    rintro e w1 ⟨rfl,rfl⟩
    go_wp2_with fail
    go_ret
    exact ⟨ret_bool (by rw [HX.out]),HB0.out⟩
  · have HX:=hid (hasV_some (m:=(p,q)) hk h2 h3)
    rw [e1] at HF
    obtain ⟨bb,o,hva,hcell⟩:=hvc (fun e=>by rw [e] at hk; exact absurd hk (Nat.not_lt_zero _))
    subst hva
    have HC:=hid (hcell k hk)
    have hz:=hs B[k] (List.getElem_mem hk)
    have hk0 : ¬ (k : Int) < 0:=by omega
    have hkI : (k : Int) < (B.length : Int):=by omega
    generalize B[k] = x at *
    obtain ⟨x1,x2⟩:=x
    simp only at hz
    have HL:=hid (fun W=>isLess_any x2 q W hz hm)
    have y0:=cell_below HB0.out HC.out.1
    have y1:=cell_below HB0.out HC.out.2
    clear hv hvc e1 h2 h3 hcell hs
    go_enter Tryz.func85,Tryz.ntmps85
    go_wp2_with fail
    refine HF.out.mono ?_
    rintro e w1 ⟨rfl,rfl⟩
    obtain ⟨Wa,hWa⟩ : ∃ Wa,w.alloc (.cells #[.string p,.string q] 25) = Wa:=⟨_,rfl⟩
    have b0 : Wa.cell? ⟨w.heap.size,0,none⟩ = some (.string p):=by rw [<- hWa]; simp
    have b1 : Wa.cell? ⟨w.heap.size,1,none⟩ = some (.string q):=by rw [<- hWa]; simp
    rw [hWa] at HB0 y0 y1 ⊢
    have HT:=hid (fun W' (hW : Below Wa.heap.size Wa W')=>(show (fun W'=>W'.cell? ⟨bb,o + k * 2,none⟩ = some (.string x1) /\ W'.cell? ⟨bb,o + k * 2 + 1,none⟩ = some (.string x2) /\ W'.cell? ⟨w.heap.size,0,none⟩ = some (.string p) /\ W'.cell? ⟨w.heap.size,1,none⟩ = some (.string q) /\ Hid (Below Wa.heap.size Wa W')) W' from ⟨cell_below hW y0,cell_below hW y1,cell_below hW b0,cell_below hW b1,hid hW⟩))
    clear hWa
    go_wp2_with fail
    go_region_held (fun W'=>W'.cell? ⟨bb,o + k * 2,none⟩ = some (.string x1) /\ W'.cell? ⟨bb,o + k * 2 + 1,none⟩ = some (.string x2) /\ W'.cell? ⟨w.heap.size,0,none⟩ = some (.string p) /\ W'.cell? ⟨w.heap.size,1,none⟩ = some (.string q) /\ Hid (Below Wa.heap.size Wa W')) (first | exact HT.out _ HRa.out | exact HT.out _ (below_drawn _ 1)) (first
      | (go_at_call 49; refine (HL.out _).mono ?_; rintro e w' ⟨rfl,hb⟩; have HRa:=hid ((below_drawn Wa 1).trans (hb.mono (Nat.le_refl _))); clear hb))
    all_goals
      have HB:=hid (HB0.out.trans (HRa.out.mono HB0.out.size))
      go_wp2_with fail
      go_ret
      exact ⟨ret_bool (by rw [HX.out]),HB.out⟩
set_option maxHeartbeats 2000000 in
theorem isU_some (X B : List Bm) (b o c : Nat) (v : Value) (w : World) (hX : X.length ≤ 1000000) (hB : B.length ≤ 1000000) (hsX : ∀ x, x ∈ X → x.2.size < 999999) (hs : ∀ x, x ∈ B → x.2.size < 999999)
    (hc : ∀ j (h : j < X.length),w.cell? ⟨b,o + j * 2,none⟩ = some (.string X[j].1) /\ w.cell? ⟨b,o + j * 2 + 1,none⟩ = some (.string X[j].2)) (hv : MsAt w v B) :
    Calls Tryz.prog 37 #[.slice (some ⟨b,o,none⟩) X.length c,v] w fun e w'=>e = .returned (.bool (undB X B)) /\ Below w.heap.size w w':=by
  have HC:=hid hc
  have HH:=hid (fun (m : Bm) (hm : m ∈ X) W (h : Below w.heap.size w W)=>has2_any B m v W hB hs (hsX m hm) (hv.below h))
  have HT:=hid (show (∀ j (h : j < X.length),hasV B X[j] = true) -> undB X B = true from fun h=>by
    unfold undB
    rw [List.all_eq_true]
    intro x hx
    obtain ⟨j,hj,rfl⟩:=List.getElem_of_mem hx
    exact h j hj)
  have HN:=hid (show ∀ j (h : j < X.length),hasV B X[j] = false -> undB X B = false from fun j hj h=>by
    cases hu : undB X B
    · rfl
    · have:=List.all_eq_true.1 hu X[j] (List.getElem_mem hj)
      rw [h] at this; cases this)
  obtain ⟨va,vc,hv1,-⟩:=id hv
  subst hv1
  generalize undB X B = z at *
  clear hc hv hs hsX
  go_enter Tryz.func37,Tryz.ntmps37
  go_wp2_with fail
  go_loopw [5] (fun i wr=>∃ k : Nat,k <= X.length /\ i = .int .i64 k /\ Hid (∀ j (h : j < X.length),j < k -> hasV B X[j] = true) /\ Hid (Below w.heap.size w wr)) (fun i _=>X.length - (intOf i).toNat)
  case atStart=>exact ⟨0,Nat.zero_le _,rfl,hid (fun j _ hj=>absurd hj (Nat.not_lt_zero _)),hid (Below.refl _ _)⟩
  case round=>
    obtain ⟨k,hk,rfl,HE,HBW⟩:=hrel
    by_cases hlt : k < X.length
    · have hx:=cell_below HBW.out (HC.out k hlt).1
      have hy:=cell_below HBW.out (HC.out k hlt).2
      have hkI : (k : Int) < (X.length : Int):=by omega
      have HLT:=hid hlt
      have HHK:=hid (HH.out X[k] (List.getElem_mem hlt) wr HBW.out)
      have HNX:=hid (show hasV B X[k] = true -> ∀ j (h : j < X.length),j < k + 1 -> hasV B X[j] = true from fun h0 j h1 h3=>by
        rcases Nat.lt_or_ge j k with h | h
        · exact HE.out j h1 h
        · have : j = k:=by omega
          subst this; exact h0)
      have HNK:=hid (HN.out k hlt)
      generalize X[k] = x at *
      obtain ⟨x1,x2⟩:=x
      clear hlt
      cases hh : hasV B (x1,x2)
      · rw [hh] at HHK
        have HZ:=hid (HNK.out hh)
        clear hh
        go_wp2_with fail
        refine HHK.out.mono ?_
        rintro e w1 ⟨rfl,hb⟩
        have HB1:=hid (HBW.out.trans (hb.mono HBW.out.size))
        clear hb
        go_wp2_with fail
        go_ret
        exact ⟨by rw [HZ.out]; rfl,HB1.out⟩
      · rw [hh] at HHK
        have HN2:=hid (HNX.out hh)
        clear hh
        go_wp2_with fail
        refine HHK.out.mono ?_
        rintro e w1 ⟨rfl,hb⟩
        have HB1:=hid (HBW.out.trans (hb.mono HBW.out.size))
        clear hb
        go_wp2_with fail
        go_roundw
        case rel=>first | exact ⟨k + 1,HLT.out,nr_idx k,HN2,HB1⟩ | exact ⟨k + 1,HLT.out,nx_idx HLT.out hX,HN2,HB1⟩
        case measure=>first | exact nr_meas HLT.out | exact nx_meas HLT.out hX
    · have hkI : ¬ (k : Int) < (X.length : Int):=by omega
      have HZ:=hid (HT.out (fun j h=>HE.out j h (by omega)))
      go_wp2_with fail
      go_ret
      exact ⟨by rw [HZ.out]; rfl,HBW.out⟩
theorem isU_none (a : Option Addr) (c : Nat) (v : Value) (B : List Bm) (w : World) (hv : MsAt w v B) : Calls Tryz.prog 37 #[.slice a 0 c,v] w fun e w'=>e = .returned (.bool true) /\ Below w.heap.size w w':=by
  obtain ⟨va,vc,hv1,-⟩:=id hv
  subst hv1
  clear hv
  go_enter Tryz.func37,Tryz.ntmps37
  go_wp2_with fail
  go_loopw [5] (fun i wr=>i = .int .i64 0 /\ wr = w) (fun i _=>0)
  case atStart=>exact ⟨rfl,rfl⟩
  case round=>
    obtain ⟨rfl,rfl⟩:=hrel
    go_wp2_with fail
    go_ret
    exact ⟨rfl,Below.refl _ _⟩
theorem isU_any (X B : List Bm) (u v : Value) (w : World) (hX : X.length <= 1000000) (hB : B.length <= 1000000) (hsX : ∀ x,x ∈ X -> x.2.size < 999999) (hs : ∀ x,x ∈ B -> x.2.size < 999999) (hu : MsAt w u X) (hv : MsAt w v B) :
    Calls Tryz.prog 37 #[u,v] w fun e w'=>e = .returned (.bool (undB X B)) /\ Below w.heap.size w w':=by
  obtain ⟨a,c,rfl,_,h⟩:=hu
  cases X with
  | nil=>exact isU_none a c v B w hv
  | cons x r=>
    obtain ⟨b,o,rfl,h2⟩:=h (by simp)
    exact isU_some (x :: r) B b o c v w hX hB hsX hs h2 hv
end Ve
end Go.Proofs.YtlcffhadobhfkaaGreatDoor
