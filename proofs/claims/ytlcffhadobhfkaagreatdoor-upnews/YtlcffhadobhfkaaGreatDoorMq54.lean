/-
  MvA MvJ MlP MvH
-/
import Derived.Test.YtlcffhadobhfkaaGreatDoorMq3
import Derived.Test.YtlcffhadobhfkaaGreatDoorMq5
import Derived.Test.YtlcffhadobhfkaaGreatDoorMq6
import Derived.Test.YtlcffhadobhfkaaGreatDoorMq9
import Derived.Test.YtlcffhadobhfkaaGreatDoorMq11
import Derived.Test.YtlcffhadobhfkaaGreatDoorMq18
import Derived.Test.YtlcffhadobhfkaaGreatDoorMq2
import Derived.Test.YtlcffhadobhfkaaGreatDoorMq19
import Derived.Test.YtlcffhadobhfkaaGreatDoorMq20
import Derived.Test.YtlcffhadobhfkaaGreatDoorMq23
import Derived.Test.YtlcffhadobhfkaaGreatDoorMq34
import Derived.Test.YtlcffhadobhfkaaGreatDoorMq36
import Derived.Test.YtlcffhadobhfkaaGreatDoorMq33
import Derived.Test.YtlcffhadobhfkaaGreatDoorMq22
import Derived.Test.YtlcffhadobhfkaaGreatDoorMq45
import Derived.Test.YtlcffhadobhfkaaGreatDoorMq56
import Derived.Test.YtlcffhadobhfkaaGreatDoorMq16
namespace Go.Proofs.YtlcffhadobhfkaaGreatDoor
open Go.RowKit
namespace Ve
set_option maxHeartbeats 1000000 in
theorem undP_any (x m : Bm) (b : Nat) (W : World) (h0 : W.cell? ⟨b,0,none⟩ = some (.string m.1)) (h1 : W.cell? ⟨b,1,none⟩ = some (.string m.2)) :
    Calls Tryz.prog 79 (#[.agg #[.string x.1,.string x.2]] ++ #[.pointer (some ⟨b,0,none⟩)]) W fun e w'=>e = .returned (.bool (decide (x.1 = m.1))) /\ Below W.heap.size W w':=by
  obtain ⟨p,v⟩:=x
  obtain ⟨q,u⟩:=m
  simp only at h0 h1
  show Calls Tryz.prog 79 #[.agg #[.string p,.string v],.pointer (some ⟨b,0,none⟩)] W _
  have HB0:=hid ((Below.refl W.heap.size W).alloc (Nat.le_refl _) (.cells #[.string p,.string v] 25))
  have c0:=cell_below HB0.out h0
  have c1:=cell_below HB0.out h1
  have hbb : ¬ b = W.heap.size:=by have:=lt_of_cell h0; simp at this; omega
  have hbb2 : ¬ W.heap.size = b:=fun h=>hbb h.symm
  by_cases h : p = q
  · subst h
    have he:=str_refl p
    have HD:=hid (show decide (p = p) = true by simp)
    generalize decide (p = p) = z at *
    go_enter Tryz.func79,Tryz.ntmps79
    go_wp2_with fail
    go_ret
    exact ⟨ret_bool HD.out.symm,HB0.out⟩
  · have he:=str_ne h
    have HD:=hid (show decide (p = q) = false by simp [h])
    generalize decide (p = q) = z at *
    go_enter Tryz.func79,Tryz.ntmps79
    go_wp2_with fail
    go_ret
    exact ⟨ret_bool HD.out.symm,HB0.out⟩
theorem hasV_none {B : List Bm} {m : Bm} (h : ∀ x,x ∈ B -> decide (x.1 = m.1) = false) : hasV B m = false:=by
  unfold hasV atP
  rw [List.find?_eq_none.2 (fun x hx=>by rw [h x hx]; simp)]
theorem hasV_some {B : List Bm} {m : Bm} {k : Nat} (hk : k < B.length) (h1 : decide (B[k].1 = m.1) = true) (h2 : ∀ j (hj : j < B.length),j < k -> decide (B[j].1 = m.1) = false) : hasV B m = !lessB (vb B[k]) (vb m):=by
  unfold hasV atP
  have : B.find? (fun x=>decide (x.1 = m.1)) = some B[k]:=by
    rw [List.find?_eq_some_iff_getElem]
    exact ⟨h1,k,hk,rfl,fun j hj=>by rw [h2 j (by omega) hj]; rfl⟩
  rw [this]
set_option maxHeartbeats 2000000 in
theorem undK_any (B : List Bm) (m : Bm) (b : Nat) (v : Value) (A : Nat -> Addr) (ml : Int) (W : World) (hB : B.length <= 1000000) (hs : ∀ x,x ∈ B -> x.2.size < 999999) (hm : m.2.size < 999999) (S : Te W A ml) (h1 : W.cell? ⟨b,0,none⟩ = some v) (hv : MsAt W v B) :
    Calls Tryz.prog 77 (#[.agg #[.string m.1,.string m.2]] ++ #[.pointer (some ⟨b,0,none⟩)]) W fun e w'=>e = .returned (.bool (!hasV B m)) /\ Below W.heap.size W w':=by
  have eg : ∀ args w,(callFunc 79 args).run Tryz.prog w = .ok (.enter 79 args) w:=enters_of Tryz.func79 (by kernel_rfl) rfl
  have HB0:=hid ((Below.refl W.heap.size W).alloc (Nat.le_refl _) (.cells #[.string m.1,.string m.2] 25))
  have HF:=hid (idxM_any 79 #[.pointer (some ⟨W.heap.size,0,none⟩)] (fun x=>decide (x.1 = m.1)) B v (W.alloc (.cells #[.string m.1,.string m.2] 25)) eg hB (hv.below HB0.out) (fun i hi W' hW=>
    undP_any B[i] m W.heap.size W' (cell_below hW (by simp)) (cell_below hW (by simp))))
  have HS:=hid S
  have HV:=hid hv
  have c1:=cell_below HB0.out h1
  have hbb : ¬ b = W.heap.size:=by have:=lt_of_cell h1; simp at this; omega
  have hbb2 : ¬ W.heap.size = b:=fun h=>hbb h.symm
  show Calls Tryz.prog 77 #[.agg #[.string m.1,.string m.2],.pointer (some ⟨b,0,none⟩)] W _
  obtain ⟨va,vc,hv1,_,hvc⟩:=hv
  subst hv1
  obtain ⟨p,q⟩:=m
  simp only at hm
  rcases idxB_kind (fun x=>decide (x.1 = p)) B with ⟨e1,h2⟩ | ⟨k,hk,e1,h2,h3⟩
  · have HX:=hid (hasV_none (m:=(p,q)) h2)
    simp only [e1] at HF
    clear S h2 e1 eg hvc
    go_enter Tryz.func77,Tryz.ntmps77
    go_wp2_with fail
    refine HF.out.mono ?_
    rintro e w1 ⟨rfl,hb⟩
    have HB:=hid (HB0.out.trans (hb.mono HB0.out.size))
    clear hb
    go_wp2_with fail
    go_quiet (fail)
    have HBd:=hid (below_drawn_of HB.out nq)
    go_wp2_with fail
    go_ret
    exact ⟨ret_bool (by rw [HX.out]; rfl),HBd.out⟩
  · have HX:=hid (hasV_some (m:=(p,q)) hk h2 h3)
    simp only [e1] at HF
    obtain ⟨bb,o,hva,hcell⟩:=hvc (fun e=>by rw [e] at hk; exact absurd hk (Nat.not_lt_zero _))
    subst hva
    have HC:=hid (hcell k hk)
    have hz:=hs B[k] (List.getElem_mem hk)
    have hk0 : ¬ (k : Int) < 0:=by omega
    have hkI : (k : Int) < (B.length : Int):=by omega
    generalize B[k] = x at *
    obtain ⟨x1,x2⟩:=x
    simp only at hz
    clear S h2 h3 e1 eg hcell hs
    go_enter Tryz.func77,Tryz.ntmps77
    go_wp2_with fail
    refine HF.out.mono ?_
    rintro e w1 ⟨rfl,hb⟩
    have HB:=hid (HB0.out.trans (hb.mono HB0.out.size))
    have d1:=cell_below hb c1
    have d2 : w1.cell? ⟨W.heap.size,0,none⟩ = some (.string p):=cell_below hb (by simp)
    have d3 : w1.cell? ⟨W.heap.size,1,none⟩ = some (.string q):=cell_below hb (by simp)
    have y0:=cell_below HB.out HC.out.1
    have y1:=cell_below HB.out HC.out.2
    have HL:=hid (fun W' (hW : Below w1.heap.size w1 W')=>less_any x2 q (A 0) (A 1) ml W' hz hm ((HS.out.below HB.out).below hW).vs)
    clear hb c1
    have HT:=hid (fun W' (hW : Below w1.heap.size w1 W')=>(show W'.cell? ⟨b,0,none⟩ = some (.slice (some ⟨bb,o,none⟩) B.length vc) /\ W'.cell? ⟨W.heap.size,0,none⟩ = some (.string p) /\ W'.cell? ⟨W.heap.size,1,none⟩ = some (.string q) /\ W'.cell? ⟨bb,o + k * 2,none⟩ = some (.string x1) /\ W'.cell? ⟨bb,o + k * 2 + 1,none⟩ = some (.string x2) /\ Hid (Below w1.heap.size w1 W') from ⟨cell_below hW d1,cell_below hW d2,cell_below hW d3,cell_below hW y0,cell_below hW y1,hid hW⟩))
    go_wp2_with fail
    go_region_held (fun W'=>W'.cell? ⟨b,0,none⟩ = some (.slice (some ⟨bb,o,none⟩) B.length vc) /\ W'.cell? ⟨W.heap.size,0,none⟩ = some (.string p) /\ W'.cell? ⟨W.heap.size,1,none⟩ = some (.string q) /\ W'.cell? ⟨bb,o + k * 2,none⟩ = some (.string x1) /\ W'.cell? ⟨bb,o + k * 2 + 1,none⟩ = some (.string x2) /\ Hid (Below w1.heap.size w1 W')) (first | exact HT.out _ HRa.out | exact HT.out _ (below_drawn _ 1)) (first
      | (go_at_call 80; refine (HL.out _ (below_drawn _ 1)).mono ?_; rintro e w' ⟨rfl,hb⟩; have HRa:=hid ((below_drawn w1 1).trans (hb.mono (Nat.le_refl _))); clear hb))
    all_goals
      have HBe:=hid (HB.out.trans (HRa.out.mono HB.out.size))
      go_wp2_with fail
      go_ret
      exact ⟨ret_bool (by rw [HX.out]; exact (Bool.not_not _).symm),HBe.out⟩
set_option maxHeartbeats 2000000 in
theorem und_any (X B : List Bm) (v u : Value) (A : Nat -> Addr) (ml : Int) (w : World) (hX : X.length <= 1000000) (hB : B.length <= 1000000) (hsX : ∀ x,x ∈ X -> x.2.size < 999999) (hs : ∀ x,x ∈ B -> x.2.size < 999999) (S : Te w A ml) (hv : MsAt w v X) (hu : MsAt w u B) :
    Calls Tryz.prog 31 #[v,u] w fun e w'=>e = .returned (.bool (undB X B)) /\ Below w.heap.size w w':=by
  have eg : ∀ args w,(callFunc 77 args).run Tryz.prog w = .ok (.enter 77 args) w:=enters_of Tryz.func77 (by kernel_rfl) rfl
  obtain ⟨va,vn,vc,hv1⟩:=hv.slice
  obtain ⟨ua,un,uc,hu1⟩:=hu.slice
  have HB0:=hid ((Below.refl w.heap.size w).alloc (Nat.le_refl _) (.cells #[u] 23))
  have HF:=hid (hasM_any 77 #[.pointer (some ⟨w.heap.size,0,none⟩)] (fun m=>!hasV B m) X v (w.alloc (.cells #[u] 23)) eg hX (hv.below HB0.out) (fun i hi W' hW=>
    undK_any B X[i] w.heap.size u A ml W' hB hs (hsX _ (List.getElem_mem hi)) ((S.below HB0.out).below hW) (cell_below hW (by simp)) ((hu.below HB0.out).below hW)))
  have HX:=hid (show (!X.any fun m=>!hasV B m) = undB X B by
    unfold undB
    rw [List.any_eq_not_all_not]
    simp)
  generalize (X.any fun m=>!hasV B m) = z at *
  subst hv1
  subst hu1
  clear S hv hu eg
  go_enter Tryz.func31,Tryz.ntmps31
  go_wp2_with fail
  refine HF.out.mono ?_
  rintro e w1 ⟨rfl,hb⟩
  have HB:=hid (HB0.out.trans (hb.mono HB0.out.size))
  clear hb
  go_wp2_with fail
  go_ret
  exact ⟨ret_bool HX.out,HB.out⟩
open Go.Maps
def chkC (Q : List Raw) (L : List Ent) (roots sel : List Bm) : Nat × Option Nat:=if (chkG Q L roots).1 ≠ 0 then chkG Q L roots else if codeE (nonE Q sel) sel.length ≠ 0 then (codeE (nonE Q sel) sel.length,fstE (nonE Q sel) sel.length) else if risB2 sel then (0,none) else (8,none)
theorem chkC_bad {Q : List Raw} {L : List Ent} {roots sel : List Bm} (h : (chkG Q L roots).1 ≠ 0) : chkC Q L roots sel = chkG Q L roots:=by unfold chkC; rw [if_pos h]
theorem chkC_sel {Q : List Raw} {L : List Ent} {roots sel : List Bm} (h : (chkG Q L roots).1 = 0) (h2 : codeE (nonE Q sel) sel.length ≠ 0) : chkC Q L roots sel = (codeE (nonE Q sel) sel.length,fstE (nonE Q sel) sel.length):=by unfold chkC; rw [if_neg (by simp [h]),if_pos h2]
theorem chkC_ris {Q : List Raw} {L : List Ent} {roots sel : List Bm} (h : (chkG Q L roots).1 = 0) (h2 : codeE (nonE Q sel) sel.length = 0) : chkC Q L roots sel = if risB2 sel then (0,none) else (8,none):=by unfold chkC; rw [if_neg (by simp [h]),if_neg (by simp [h2])]
def closB (Q : List Raw) (L : List Ent) (roots sel : List Bm) : Bool:=undB roots sel && sel.all fun m=>undB (reqQ Q L m) sel
theorem chkC_good {w : World} {v : Value} {Q : List Raw} {L : List Ent} {roots sel : List Bm} (I : Ixs w v Q L) (h : (chkC Q L roots sel).1 = 0) : (chkG Q L roots).1 = 0 /\ (∀ m,m ∈ sel -> m ∈ univ L) /\ risB2 sel = true:=by
  by_cases h1 : (chkG Q L roots).1 = 0
  · have hc:=(rgt_of I h1).c
    by_cases h2 : codeE (nonE Q sel) sel.length = 0
    · rw [chkC_ris h1 h2] at h
      refine ⟨h1,(rgt_of I (show (chkG Q L sel).1 = 0 by rw [chkG_ok hc]; exact h2)).r,?_⟩
      cases hs : risB2 sel
      · rw [hs] at h; exact absurd h (by decide)
      · rfl
    · rw [chkC_sel h1 h2] at h; exact absurd h h2
  · rw [chkC_bad h1] at h; exact absurd h h1
def RiseP (L : List Ent) : Prop:=∀ i k (hi : i < L.length) (hk : k < L.length),i < k -> L[i].1.1 = L[k].1.1 -> undB L[i].2.1 L[k].2.1 = true
theorem univ_at {w : World} {v : Value} {Q : List Raw} {L : List Ent} (I : Ixs w v Q L) {m : Bm} (hm : m ∈ univ L) : ∃ i,∃ hi : i < L.length,L[i].1 = m /\ reqQ Q L m = L[i].2.1:=by
  obtain ⟨k,hk⟩:=(found_iff I m).1 hm
  obtain ⟨h1,h2⟩:=idx_is hk
  have h3 : k < L.length:=by rw [<- I.ln]; exact h1
  refine ⟨k,h3,?_,reqQ_at hk h3⟩
  rw [<- (I.ok k h1 h3).m]
  have:=of_decide_eq_true h2
  exact Prod.ext this.1 this.2
theorem rch_under {w : World} {v : Value} {Q : List Raw} {L : List Ent} {roots sel : List Bm} (I : Ixs w v Q L) (h0 : (chkC Q L roots sel).1 = 0) (hc : closB Q L roots sel = true) (hR : RiseP L) {m : Bm} (hm : Rch (reqQ Q L) roots m) : hasV sel m = true:=by
  obtain ⟨hg,hsu,_⟩:=chkC_good I h0
  have hchk:=(rgt_of I hg).c
  have rt:=univ_right hchk
  unfold closB at hc
  rw [Bool.and_eq_true] at hc
  have hsel:=List.all_eq_true.1 hc.2
  induction hm with
  | root hr=>exact List.all_eq_true.1 hc.1 _ hr
  | @step p m hp hr ih=>
    have hpu:=rch_univ I hg hp
    have hmu:=chk_reqs0 I hchk p hpu m hr
    obtain ⟨s,hs1,hs2⟩:=hasV_iff.1 ih
    obtain ⟨hs3,hs4⟩:=atP_mem hs1
    have hsU:=hsu s hs3
    have hsr:=List.all_eq_true.1 (hsel s hs3)
    obtain ⟨i,hi,ei,qi⟩:=univ_at I hpu
    obtain ⟨k,hk,ek,qk⟩:=univ_at I hsU
    have hle:=(less_le (rt s hsU) (rt p hpu)).1 hs2
    rcases Nat.lt_trichotomy i k with hik | hik | hik
    · have hu:=hR i k hi hk hik (by rw [ei,ek]; exact hs4.symm)
      rw [<- qi,<- qk] at hu
      obtain ⟨r,hr1,hr2⟩:=hasV_iff.1 (List.all_eq_true.1 hu m hr)
      obtain ⟨hr3,hr4⟩:=atP_mem hr1
      have hrU:=chk_reqs0 I hchk s hsU r hr3
      exact hasV_up (fun x hx=>rt x (hsu x hx)) (rt m hmu) (rt r hrU) hr4 ((less_le (rt r hrU) (rt m hmu)).1 hr2) (hsr r hr3)
    · subst hik
      have : p = s:=ei.symm.trans ek
      subst this
      exact hsr m hr
    · have ha:=List.pairwise_iff_getElem.1 (univ_rises hchk) k i (by simpa [univ] using hk) (by simpa [univ] using hi) hik
      simp only [univ,List.getElem_map] at ha
      rw [ei,ek,ahead_same hs4,less_right (mErr_zero (rt s hsU)).2 (mErr_zero (rt p hpu)).2] at ha
      have ha : ordV (vb s) (vb p) < 0:=of_decide_eq_true ha
      rw [ordV_swap (vb s) (vb p)] at hle
      omega
theorem Bt.least {w : World} {v : Value} {Q : List Raw} {L : List Ent} {roots sel E : List Bm} (I : Ixs w v Q L) (h : Bt Q L roots E) (h0 : (chkC Q L roots sel).1 = 0) (hc : closB Q L roots sel = true) (hR : RiseP L) : undB E sel = true:=by
  unfold undB
  rw [List.all_eq_true]
  exact fun m hm=>rch_under I h0 hc hR (h.in_ I hm)
theorem sm_chkG2 (g : Nat) : (chkG (smQ g) smL [ma0,ma1]).1 = 0:=by
  rw [chkG_ok (by rw [sm_chk])]
  show codeE (nonE (smQ g) [ma0,ma1]) 2 = 0
  kernel_rfl
theorem sm_go2 {g : Nat} {T : By} (h : Came (reqQ (smQ g) smL) (univ smL) [ma0,ma1] T) : goM T (smQ g) = [ma0,ma1,mb0]:=by
  have c0 : cameB T ma0 = true:=(h.cameB _).2 (.root (by simp))
  have c1 : cameB T ma1 = true:=(h.cameB _).2 (.root (by simp))
  have cb : cameB T mb0 = true:=(h.cameB _).2 (.step (.root (show ma1 ∈ [ma0,ma1] by simp)) (by rw [sm_r1]; simp))
  unfold goM goQ smQ
  simp [c0,c1,cb]
theorem sm_bt {g : Nat} {E : List Bm} (h : Bt (smQ g) smL [ma0,ma1] E) : E = [ma1,mb0]:=by
  obtain ⟨T,h1,h2,_⟩:=h.c
  rw [sm_go2 h1] at h2
  exact h2.one sm_jn (fun _ _=>Iff.rfl)
set_option maxRecDepth 100000 in
set_option maxHeartbeats 4000000 in
theorem built_any (A : Nat -> Addr) (m : Int) (w : World) (S : Te w A m) : Calls Tryz.prog 28 #[] w fun e w'=>e = .returned (.bool true) /\ Below w.heap.size w w':=by
  have HSM:=hid smallI_any
  have HS:=hid S
  clear S
  go_enter Tryz.func28,Tryz.ntmps28
  go_wp2_with fail
  refine (HSM.out w).mono ?_
  rintro e w1 ⟨g,q,rfl,hix,hb⟩
  have hBa:=(Below.refl w1.heap.size w1).alloc (Nat.le_refl _) (.cells #[.string ⟨#[97]⟩,.string ⟨#[118,49,46,48,46,48]⟩,.string ⟨#[97]⟩,.string ⟨#[118,49,46,49,46,48]⟩] 25)
  have hB1:=hb.trans (hBa.mono hb.size)
  have hms : MsAt (w1.alloc (.cells #[.string ⟨#[97]⟩,.string ⟨#[118,49,46,48,46,48]⟩,.string ⟨#[97]⟩,.string ⟨#[118,49,46,49,46,48]⟩] 25)) (.slice (some ⟨w1.heap.size,0,none⟩) 2 2) [ma0,ma1]:=⟨some ⟨w1.heap.size,0,none⟩,2,rfl,Nat.le_refl _,fun _=>⟨w1.heap.size,0,rfl,fun j hj=>by
    have hj2 : j < 2:=hj
    rcases (by omega : j = 0 \/ j = 1) with rfl | rfl
    · refine ⟨?_,?_⟩ <;> (rw [Lib.cell_of_heap (heap_alloc_new w1 _)]; rfl)
    · refine ⟨?_,?_⟩ <;> (rw [Lib.cell_of_heap (heap_alloc_new w1 _)]; rfl)⟩⟩
  have HBU:=hid (build_good (smQ g) smL [ma0,ma1] _ _ A m _ (by decide) (by decide) sm_sh (HS.out.below hB1) (hix.below hBa) hms (sm_chkG2 g))
  have HB1:=hid hB1
  clear hix hb hBa hms hB1
  go_wp2_with fail
  refine HBU.out.mono ?_
  rintro e w2 ⟨u,E,rfl,hbt,hM⟩
  obtain rfl:=sm_bt hbt
  have HB2:=hid (HB1.out.trans (hM.1.mono HB1.out.size))
  have hms:=hM.ms
  obtain ⟨_,ua,uc,rfl,huc,hk⟩:=hM
  obtain ⟨ug,rfl,hmw⟩ : ∃ g,ua = some ⟨g,0,none⟩ /\ Mw _ w2 g [ma1,mb0]:=by
    rcases hk with ⟨h,_⟩ | h
    · cases h
    · exact h
  have k0 : w2.cell? ⟨ug,0,none⟩ = some (.string ⟨#[97]⟩):=hmw.c0 0 (by decide)
  have k1 : w2.cell? ⟨ug,1,none⟩ = some (.string ⟨#[118,49,46,49,46,48]⟩):=hmw.c1 0 (by decide)
  have hm1 : MsAt w2 (.slice (some ⟨ug,0,none⟩) 1 uc) [ma1]:=⟨_,uc,rfl,by have h2 : 2 <= uc:=huc; show 1 <= uc; omega,fun _=>⟨ug,0,rfl,fun j hj=>by
    have hj2 : j < 1:=hj
    obtain rfl : j = 0:=by omega
    exact ⟨k0,k1⟩⟩⟩
  have HUN:=hid (und_any [ma1] [ma1,mb0] _ _ A m w2 (by decide) (by decide) (fun x hx=>by rw [List.mem_singleton.1 hx]; decide) (fun x hx=>by
    rcases List.mem_cons.1 hx with rfl | hx
    · decide
    · rw [List.mem_singleton.1 hx]; decide) (HS.out.below HB2.out) hm1 hms)
  have hub : undB [ma1] [ma1,mb0] = true:=by kernel_rfl
  rw [hub,show ([ma1,mb0] : List Bm).length = 2 from rfl] at HUN
  have s1 : ((⟨#[118,49,46,49,46,48]⟩ : ByteArray).toList == (⟨#[118,49,46,49,46,48]⟩ : ByteArray).toList) = true:=by simp
  have huc2 : (2 : Int) <= (uc : Int):=by have h2 : 2 <= uc:=huc; omega
  have huc1 : (1 : Int) <= (uc : Int):=by omega
  clear hbt hk hmw hms hm1 hub HBU
  go_wp2_with fail
  refine HUN.out.mono ?_
  rintro e w3 ⟨rfl,hb⟩
  have HB3:=hid (HB2.out.trans (hb.mono HB2.out.size))
  clear hb
  go_wp2_with fail
  go_ret
  exact ⟨rfl,HB3.out⟩
end Ve
end Go.Proofs.YtlcffhadobhfkaaGreatDoor
