/-
  DnJ
-/
import Derived.Test.YtlcffhadobhfkaaGreatDoorMq3
import Derived.Test.YtlcffhadobhfkaaGreatDoorMq5
import Derived.Test.YtlcffhadobhfkaaGreatDoorMq6
import Derived.Test.YtlcffhadobhfkaaGreatDoorMq9
import Derived.Test.YtlcffhadobhfkaaGreatDoorMq11
import Derived.Test.YtlcffhadobhfkaaGreatDoorMq18
import Derived.Test.YtlcffhadobhfkaaGreatDoorMq2
import Derived.Test.YtlcffhadobhfkaaGreatDoorMq19
import Derived.Test.YtlcffhadobhfkaaGreatDoorMq20
import Derived.Test.YtlcffhadobhfkaaGreatDoorMq36
import Derived.Test.YtlcffhadobhfkaaGreatDoorMq34
import Derived.Test.YtlcffhadobhfkaaGreatDoorMq22
import Derived.Test.YtlcffhadobhfkaaGreatDoorMq39
import Derived.Test.YtlcffhadobhfkaaGreatDoorMq45
import Derived.Test.YtlcffhadobhfkaaGreatDoorMq37
import Derived.Test.YtlcffhadobhfkaaGreatDoorMq48
import Derived.Test.YtlcffhadobhfkaaGreatDoorMq87
import Derived.Test.YtlcffhadobhfkaaGreatDoorMq88
import Derived.Test.YtlcffhadobhfkaaGreatDoorMq89
namespace Go.Proofs.YtlcffhadobhfkaaGreatDoor
open Go.RowKit Go.Maps
namespace Ve
theorem toL_tw {Q : List Raw} {L : List Ent} {roots caps : List Bm} (h : (tF Q L roots caps).1 = 0) : Tw (Bd (reqQ Q L) caps) (univ L) roots (toL Q L roots caps):=by
  obtain ⟨h1,h2⟩:=tF_ok h
  obtain ⟨k0,k1⟩:=bF_chk h1
  exact tw_sel ⟨univ_rises k0,univ_right k0⟩ (by rw [bdL_len,univ_len]) (fun i h h'=>bdL_at h h') roots
theorem ms_one1 {W : World} {b : Nat} {x : Bm} {fr : Nat × Nat} (h : W.heap[b]? = some (.cells #[.string x.1,.string x.2] 25 fr)) : MsAt W (.slice (some ⟨b,0,none⟩) 1 1) [x]:=by
  refine ⟨_,1,rfl,Nat.le_refl _,fun _=>⟨b,0,rfl,fun j hj=>?_⟩⟩
  have : j = 0:=by simp at hj; exact hj
  subst this
  exact ⟨by rw [Lib.cell_of_heap h]; rfl,by rw [Lib.cell_of_heap h]; rfl⟩
def mbN : Bm:=(⟨#[98]⟩,⟨#[110,111,110,101]⟩)
theorem lo_caps : (chkP [mbN]).1 = 0:=by kernel_rfl
theorem lo_tF (g : Nat) : (tF (smQ g) smL [ma1] [mbN]).1 = 0:=by
  have h1 : bF (smQ g) smL [mbN] = chkP [mbN]:=if_pos (by rw [sm_chk])
  have h2 : (bF (smQ g) smL [mbN]).1 = 0:=by rw [h1]; exact lo_caps
  unfold tF
  rw [if_pos h2]
  exact sm_chkG g
theorem lo_c0 : capB [mbN] ma0 = false:=by kernel_rfl
theorem lo_cb : capB [mbN] mb0 = true:=by kernel_rfl
theorem lo_r0 (g : Nat) : reqQ (smQ g) smL ma0 = []:=by kernel_rfl
theorem lo_less : lessB (vb ma1) (vb ma0) = false:=by kernel_rfl
theorem lo_ab : mb0.1 ≠ ma1.1:=fun e=>absurd (congrArg (fun m : ByteArray=>m.data) e) (by decide)
theorem lo_good {g : Nat} : ¬ Bd (reqQ (smQ g) smL) [mbN] ma0:=fun h=>by
  rcases bd_iff.1 h with h | ⟨r,h,_⟩
  · rw [lo_c0] at h; cases h
  · rw [lo_r0] at h; cases h
theorem lo_bad {g : Nat} : Bd (reqQ (smQ g) smL) [mbN] ma1:=
  bd_iff.2 (Or.inr ⟨mb0,by rw [sm_r1]; simp,bd_iff.2 (Or.inl lo_cb)⟩)
theorem lo_lw {g : Nat} : Lw (Bd (reqQ (smQ g) smL) [mbN]) (univ smL) ma1 ma0:=by
  refine ⟨by simp [univ,smL],rfl,lo_less,lo_good,fun y hy e _ hb=>?_⟩
  have : y = ma0 \/ y = ma1 \/ y = mb0:=by simpa [univ,smL] using hy
  rcases this with rfl | rfl | rfl
  · exact lessB_irr _
  · exact absurd lo_bad hb
  · exact absurd e lo_ab
theorem lo_to (g : Nat) : toL (smQ g) smL [ma1] [mbN] = [ma0]:=by
  have h:=toL_tw (lo_tF g)
  have u : Un (univ smL):=⟨univ_rises (Q:=smQ g) (by rw [sm_chk]),univ_right (Q:=smQ g) (by rw [sm_chk])⟩
  refine h.one ⟨List.pairwise_singleton _ _,fun x=>⟨fun hx=>⟨ma1,by simp,by rw [List.mem_singleton.1 hx]; exact lo_lw⟩,fun ⟨r,hr,hw⟩=>?_⟩⟩
  rw [List.mem_singleton.1 hr] at hw
  rw [hw.same u lo_lw]; simp
set_option maxRecDepth 100000 in
set_option maxHeartbeats 4000000 in
theorem low_any (A : Nat -> Addr) (m : Int) (w : World) (S : Te w A m) : Calls Tryz.prog 46 #[] w fun e w'=>e = .returned (.bool true) /\ Below w.heap.size w w':=by
  have HSM:=hid smallI_any
  have HS:=hid S
  clear S
  go_enter Tryz.func46,Tryz.ntmps46
  go_wp2_with fail
  refine (HSM.out w).mono ?_
  rintro e w1 ⟨g,q,rfl,hix,hb⟩
  have hBa:=(Below.refl w1.heap.size w1).alloc (Nat.le_refl _) (.cells #[.string ⟨#[97]⟩,.string ⟨#[118,49,46,49,46,48]⟩] 25)
  have hBb:=hBa.alloc hBa.size (.cells #[.string ⟨#[98]⟩,.string ⟨#[110,111,110,101]⟩] 25)
  have hB1:=hb.trans (hBb.mono hb.size)
  have n1:=heap_old (w1.alloc (.cells #[.string ⟨#[97]⟩,.string ⟨#[118,49,46,49,46,48]⟩] 25)) (.cells #[.string ⟨#[98]⟩,.string ⟨#[110,111,110,101]⟩] 25) (heap_new w1 (.cells #[.string ⟨#[97]⟩,.string ⟨#[118,49,46,49,46,48]⟩] 25))
  have n2:=heap_new (w1.alloc (.cells #[.string ⟨#[97]⟩,.string ⟨#[118,49,46,49,46,48]⟩] 25)) (.cells #[.string ⟨#[98]⟩,.string ⟨#[110,111,110,101]⟩] 25)
  have hz : (w1.alloc (.cells #[.string ⟨#[97]⟩,.string ⟨#[118,49,46,49,46,48]⟩] 25)).heap.size = w1.heap.size + 1:=by simp
  rw [hz] at n2
  have HTO:=hid (to_good (smQ g) smL [ma1] [mbN] _ (.slice (some ⟨w1.heap.size,0,none⟩) 1 1) (.slice (some ⟨w1.heap.size + 1,0,none⟩) 1 1) A m _ (by decide) (by decide) (by decide) sm_sh (fun x hx=>by
    rw [List.mem_singleton.1 hx]
    exact ⟨show mbN.1.size < 999999 by decide,show mbN.2.size < 999999 by decide⟩) (HS.out.below hB1) (hix.below hBb) (ms_one1 (x:=ma1) n1) (ms_one1 (x:=mbN) n2) (lo_tF g))
  rw [lo_to] at HTO
  have HB1:=hid hB1
  clear hix hb hBa hBb hB1 n1 n2 hz
  go_wp2_with fail
  refine HTO.out.mono ?_
  rintro e w2 ⟨u,rfl,ho,hb⟩
  have HB2:=hid (HB1.out.trans (hb.mono HB1.out.size))
  obtain ⟨ug,uc,hu,-,-,hmw⟩:=own_mw ho hb (by simp)
  have k1 : w2.cell? ⟨ug,1,none⟩ = some (.string ⟨#[118,49,46,48,46,48]⟩):=hmw.c1 0 (by decide)
  have s1 : ((⟨#[118,49,46,48,46,48]⟩ : ByteArray).toList == (⟨#[118,49,46,48,46,48]⟩ : ByteArray).toList) = true:=by simp
  rw [show ([ma0] : List Bm).length = 1 from rfl] at hu
  subst hu
  clear ho hb hmw HTO
  go_wp2_with fail
  go_ret
  exact ⟨rfl,HB2.out⟩
end Ve
end Go.Proofs.YtlcffhadobhfkaaGreatDoor
