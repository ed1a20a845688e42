/-
  UtH
-/
import Derived.Test.YtlcffhadobhfkaaGreatDoorMq3
import Derived.Test.YtlcffhadobhfkaaGreatDoorMq5
import Derived.Test.YtlcffhadobhfkaaGreatDoorMq6
import Derived.Test.YtlcffhadobhfkaaGreatDoorMq9
import Derived.Test.YtlcffhadobhfkaaGreatDoorMq11
import Derived.Test.YtlcffhadobhfkaaGreatDoorMq18
import Derived.Test.YtlcffhadobhfkaaGreatDoorMq2
import Derived.Test.YtlcffhadobhfkaaGreatDoorMq19
import Derived.Test.YtlcffhadobhfkaaGreatDoorMq20
import Derived.Test.YtlcffhadobhfkaaGreatDoorMq23
import Derived.Test.YtlcffhadobhfkaaGreatDoorMq28
import Derived.Test.YtlcffhadobhfkaaGreatDoorMq1
import Derived.Test.YtlcffhadobhfkaaGreatDoorMq32
import Derived.Test.YtlcffhadobhfkaaGreatDoorMq35
import Derived.Test.YtlcffhadobhfkaaGreatDoorMq22
import Derived.Test.YtlcffhadobhfkaaGreatDoorMq45
import Derived.Test.YtlcffhadobhfkaaGreatDoorMq39
import Derived.Test.YtlcffhadobhfkaaGreatDoorMq47
import Derived.Test.YtlcffhadobhfkaaGreatDoorMq43
import Derived.Test.YtlcffhadobhfkaaGreatDoorMq34
import Derived.Test.YtlcffhadobhfkaaGreatDoorMq56
import Derived.Test.YtlcffhadobhfkaaGreatDoorMq37
import Derived.Test.YtlcffhadobhfkaaGreatDoorMq31
import Derived.Test.YtlcffhadobhfkaaGreatDoorMq73
import Derived.Test.YtlcffhadobhfkaaGreatDoorMq76
import Derived.Test.YtlcffhadobhfkaaGreatDoorMq79
import Derived.Test.YtlcffhadobhfkaaGreatDoorMq21
import Derived.Test.YtlcffhadobhfkaaGreatDoorMq80
import Derived.Test.YtlcffhadobhfkaaGreatDoorMq36
import Derived.Test.YtlcffhadobhfkaaGreatDoorMq17
import Derived.Test.YtlcffhadobhfkaaGreatDoorMq14
import Derived.Test.YtlcffhadobhfkaaGreatDoorMq49
namespace Go.Proofs.YtlcffhadobhfkaaGreatDoor
open Go.RowKit Go.Maps
namespace Ve
theorem sm_chkG2 (g : Nat) : (chkG (smQ g) smL [ma0, ma1]).1 = 0 := by
  rw [chkG_ok (by rw [sm_chk])]
  show codeE (nonE (smQ g) [ma0, ma1]) 2 = 0
  kernel_rfl
end Ve
end Go.Proofs.YtlcffhadobhfkaaGreatDoor
namespace Go.Proofs.YtlcffhadobhfkaaGreatDoor
open Go.RowKit Go.Maps
namespace Ve
theorem bX_of {w : World} {v : Value} {Q : List Raw} {L : List Ent} {roots D E : List Bm} (I : Ixs w v Q L) (h : (chkG Q L roots).1 = 0) (hD : ∀ m, Rch (reqQ Q L) roots m ↔ m ∈ D) (j : Jn D E) : bX Q L roots = E :=
  (bX_jn Q L roots).one j (fun m _ => by rw [rX_mem I h, hD])
theorem sm_r0 (g : Nat) : reqQ (smQ g) smL ma0 = [] := by kernel_rfl
theorem sm_chkG3 (g : Nat) : (chkG (smQ g) smL [ma0]).1 = 0 := by
  rw [chkG_ok (by rw [sm_chk])]
  show codeE (nonE (smQ g) [ma0]) 1 = 0
  kernel_rfl
theorem sm_chkG4 (g : Nat) : (chkG (smQ g) smL [ma1, mb0, ma1, mb0]).1 = 0 := by
  rw [chkG_ok (by rw [sm_chk])]
  show codeE (nonE (smQ g) [ma1, mb0, ma1, mb0]) 4 = 0
  kernel_rfl
theorem rch_sm {g : Nat} {R D : List Bm} (hR : ∀ m, m ∈ R → m ∈ D) (hD : ∀ p, p ∈ D → ∀ m, m ∈ reqQ (smQ g) smL p → m ∈ D) {m : Bm} (h : Rch (reqQ (smQ g) smL) R m) : m ∈ D := by
  induction h with
  | root hr => exact hR _ hr
  | step _ hr ih => exact hD _ ih _ hr
theorem sm_in {g : Nat} {p m : Bm} (hp : p ∈ [ma0, ma1, mb0]) (hm : m ∈ reqQ (smQ g) smL p) : p = ma1 ∧ m = mb0 := by
  rcases List.mem_cons.1 hp with rfl | hp
  · rw [sm_r0] at hm; cases hm
  · rcases List.mem_cons.1 hp with rfl | hp
    · rw [sm_r1] at hm; exact ⟨rfl, List.mem_singleton.1 hm⟩
    · rw [List.mem_singleton.1 hp, sm_rb] at hm; cases hm
theorem ma0_ne : ma0 ≠ ma1 := fun e => absurd (congrArg (fun m : Bm => m.2.data) e) (by decide)
theorem rch0 {g : Nat} (m : Bm) : Rch (reqQ (smQ g) smL) [ma0] m ↔ m ∈ [ma0] := by
  refine ⟨fun h => rch_sm (fun _ h => h) (fun p hp m hm => ?_) h, fun h => .root h⟩
  have := List.mem_singleton.1 hp
  subst this
  exact absurd (sm_in (by simp) hm).1 ma0_ne
theorem rch1 {g : Nat} (m : Bm) : Rch (reqQ (smQ g) smL) [ma0, ma1] m ↔ m ∈ [ma0, ma1, mb0] := by
  refine ⟨fun h => rch_sm (fun m h => ?_) (fun p hp m hm => ?_) h, fun h => ?_⟩
  · rcases List.mem_cons.1 h with rfl | h
    · simp
    · rw [List.mem_singleton.1 h]; simp
  · rw [(sm_in hp hm).2]; simp
  · rcases List.mem_cons.1 h with rfl | h
    · exact .root (by simp)
    · rcases List.mem_cons.1 h with rfl | h
      · exact .root (by simp)
      · rw [List.mem_singleton.1 h]
        exact .step (.root (show ma1 ∈ [ma0, ma1] by simp)) (by rw [sm_r1]; simp)
theorem rch2 {g : Nat} (m : Bm) : Rch (reqQ (smQ g) smL) [ma1, mb0, ma1, mb0] m ↔ m ∈ [ma1, mb0] := by
  refine ⟨fun h => rch_sm (fun m h => ?_) (fun p hp m hm => ?_) h, fun h => .root ?_⟩
  · have h3 : m = ma1 ∨ m = mb0 ∨ m = ma1 ∨ m = mb0 := by simpa using h
    rcases h3 with rfl | rfl | rfl | rfl <;> simp
  · rw [(sm_in (List.mem_cons_of_mem _ hp) hm).2]; simp
  · rcases List.mem_cons.1 h with rfl | h
    · simp
    · rw [List.mem_singleton.1 h]; simp
theorem sm_m0 : mErr ma0 = 0 := by kernel_rfl
theorem sm_m1 : mErr ma1 = 0 := by kernel_rfl
theorem sm_mb : mErr mb0 = 0 := by kernel_rfl
theorem jn0 : Jn [ma0] [ma0] := ⟨List.pairwise_singleton _ _, fun e he => ⟨he, by rw [List.mem_singleton.1 he]; exact sm_m0⟩, fun x hx _ => ⟨x, hx, rfl, by rw [List.mem_singleton.1 hx]; exact ordV_selfJ sm_m0⟩⟩
theorem jn2 : Jn [ma1, mb0] [ma1, mb0] := by
  refine ⟨sm_jn.ri, fun e he => ⟨he, (sm_jn.sub e he).2⟩, fun x hx h0 => ⟨x, hx, rfl, ordV_selfJ h0⟩⟩
theorem sm_ordA : ordV ma0.2.data.toList ma1.2.data.toList < 0 := of_decide_eq_true (by kernel_rfl)
theorem sm_keptA (g : Nat) : KeptT (smQ g) ma0.1 [ma0.2, ma1.2] := by
  have e : verL (bestR (ofP ma0.1 (smQ g))) = [ma0.2, ma1.2] := by kernel_rfl
  unfold KeptT
  rw [e]
  refine ⟨List.pairwise_cons.2 ⟨fun t ht => ?_, List.pairwise_singleton _ _⟩, fun t => ⟨fun ht => ⟨ht, ?_⟩, fun ht => ht.1⟩⟩
  · rw [List.mem_singleton.1 ht]; exact sm_ordA
  · have : t = ma0.2.data.toList ∨ t = ma1.2.data.toList := by simpa [bl] using ht
    rcases this with rfl | rfl
    · exact (mErr_zero sm_m0).2
    · exact (mErr_zero sm_m1).2
theorem sm_keptB (g : Nat) : KeptT (smQ g) mb0.1 [mb0.2] := by
  have e : verL (bestR (ofP mb0.1 (smQ g))) = [mb0.2] := by kernel_rfl
  unfold KeptT
  rw [e]
  refine ⟨List.pairwise_singleton _ _, fun t => ⟨fun ht => ⟨ht, ?_⟩, fun ht => ht.1⟩⟩
  have : t = mb0.2.data.toList := by simpa [bl] using ht
  rw [this]
  exact (mErr_zero sm_mb).2
theorem sm_latA (g : Nat) : latV (smQ g) ma0.1 = ma1.2 := (latV_of (sm_keptA g)).symm.trans rfl
theorem sm_latB (g : Nat) : latV (smQ g) mb0.1 = mb0.2 := (latV_of (sm_keptB g)).symm.trans rfl
theorem sm_up0 {w : World} {v : Value} {g : Nat} (I : Ixs w v (smQ g) smL) : bX (smQ g) smL [ma0] = [ma0] := bX_of I (sm_chkG3 g) rch0 jn0
theorem sm_up1 {w : World} {v : Value} {g : Nat} (I : Ixs w v (smQ g) smL) : upF (smQ g) smL [ma0] = [ma1, mb0] := by
  have e : [ma0] ++ latL (smQ g) [ma0] = [ma0, ma1] := by
    show [ma0, (ma0.1, latV (smQ g) ma0.1)] = [ma0, ma1]
    rw [sm_latA]; rfl
  unfold upF
  rw [e]
  exact bX_of I (sm_chkG2 g) rch1 sm_jn
theorem sm_up2 {w : World} {v : Value} {g : Nat} (I : Ixs w v (smQ g) smL) : upF (smQ g) smL [ma1, mb0] = [ma1, mb0] := by
  have e : [ma1, mb0] ++ latL (smQ g) [ma1, mb0] = [ma1, mb0, ma1, mb0] := by
    show [ma1, mb0, (ma1.1, latV (smQ g) ma0.1), (mb0.1, latV (smQ g) mb0.1)] = [ma1, mb0, ma1, mb0]
    rw [sm_latA, sm_latB]
  unfold upF
  rw [e]
  exact bX_of I (sm_chkG4 g) rch2 jn2
theorem sm_fix {w : World} {v : Value} {g : Nat} (I : Ixs w v (smQ g) smL) : Fix (smQ g) smL (bX (smQ g) smL [ma0]) [ma1, mb0] :=
  ⟨⟨1, by show [ma1, mb0] = upF (smQ g) smL (bX (smQ g) smL [ma0]); rw [sm_up0 I, sm_up1 I]⟩, sm_up2 I⟩
theorem sm_sz (g : Nat) : ∀ r, r ∈ smQ g → r.1.1.size ≤ 80 ∧ r.1.2.size ≤ 80 := fun r hr => by
  have : r = (ma0, .slice none 0 0, .slice none 0 0, false) ∨ r = (ma1, .slice (some ⟨g, 0, none⟩) 1 1, .slice none 0 0, false) ∨ r = (mb0, .slice none 0 0, .slice none 0 0, false) := by simpa [smQ] using hr
  rcases this with rfl | rfl | rfl
  · exact ⟨show ma0.1.size ≤ 80 by decide, show ma0.2.size ≤ 80 by decide⟩
  · exact ⟨show ma1.1.size ≤ 80 by decide, show ma1.2.size ≤ 80 by decide⟩
  · exact ⟨show mb0.1.size ≤ 80 by decide, show mb0.2.size ≤ 80 by decide⟩
set_option maxRecDepth 100000 in
set_option maxHeartbeats 4000000 in
theorem upped_any (A : Nat → Addr) (m : Int) (w : World) (S : Te w A m) (htab : Lib.TabIs Tryz.prog w powName .u64 Lib.pow10Tab) : Calls Tryz.prog 39 #[] w fun e w' => e = .returned (.bool true) ∧ Below w.heap.size w w' := by
  have HSM := hid smallI_any
  have HS := hid S
  have HT := hid htab
  clear S htab
  go_enter Tryz.func39, Tryz.ntmps39
  go_wp2_with fail
  refine (HSM.out w).mono ?_
  rintro e w1 ⟨g, q, rfl, hix, hb⟩
  have hBa := (Below.refl w1.heap.size w1).alloc (Nat.le_refl _) (.cells #[.string ⟨#[97]⟩, .string ⟨#[118, 49, 46, 48, 46, 48]⟩] 25)
  have hB1 := hb.trans (hBa.mono hb.size)
  have hms : MsAt (w1.alloc (.cells #[.string ⟨#[97]⟩, .string ⟨#[118, 49, 46, 48, 46, 48]⟩] 25)) (.slice (some ⟨w1.heap.size, 0, none⟩) 1 1) [ma0] := ms_single (x := ma0) (heap_new w1 _)
  have HAL := hid (all_good (smQ g) smL [ma0] _ _ A m _ (by decide) (by decide) (sm_sz g) sm_sh (HS.out.below hB1) (tab_below HT.out hB1) (hix.below hBa) hms (sm_chkG3 g))
  have HFX := hid (sm_fix hix)
  have HB1 := hid hB1
  clear hix hb hBa hms hB1
  go_wp2_with fail
  refine HAL.out.mono ?_
  rintro e w2 ⟨ua, uc, E, rfl, hM, hR⟩
  have hE := hR.fx.one HFX.out
  subst hE
  have HB2 := hid (HB1.out.trans (hM.1.mono HB1.out.size))
  obtain ⟨_, ua', uc', he, huc, hk⟩ := hM
  injection he with he1 he2 he3
  subst he1 he3
  obtain ⟨ug, rfl, hmw⟩ : ∃ g, ua = some ⟨g, 0, none⟩ ∧ Mw _ w2 g [ma1, mb0] := by
    rcases hk with ⟨h, _⟩ | h
    · cases h
    · exact h
  have k1 : w2.cell? ⟨ug, 1, none⟩ = some (.string ⟨#[118, 49, 46, 49, 46, 48]⟩) := hmw.c1 0 (by decide)
  have s1 : ((⟨#[118, 49, 46, 49, 46, 48]⟩ : ByteArray).toList == (⟨#[118, 49, 46, 49, 46, 48]⟩ : ByteArray).toList) = true := by simp
  rw [show ([ma1, mb0] : List Bm).length = 2 from rfl]
  clear hR hk hmw HAL he2 huc HFX
  go_wp2_with fail
  go_ret
  exact ⟨rfl, HB2.out⟩
end Ve
end Go.Proofs.YtlcffhadobhfkaaGreatDoor
namespace Go.Proofs.YtlcffhadobhfkaaGreatDoor
open Go.RowKit Go.Maps
namespace Ve
set_option maxRecDepth 100000 in
set_option maxHeartbeats 4000000 in
theorem newsO_bad (Q : List Raw) (L : List Ent) (sel : List Bm) (v sv : Value) (w : World) (hn : L.length <= 1000) (sh : ∀ e,e ∈ L -> ShE e) (I : Ixs w v Q L) (hs : MsAt w sv sel) (h0 : ¬ (chk Q L).1 = 0) :
    Calls Tryz.prog 45 #[v,sv] w fun e w'=>e = .returned (.tuple #[.slice none 0 0,faultV (chk Q L)]) /\ Below w.heap.size w w':=by
  have HB0:=hid ((Below.refl w.heap.size w).alloc (Nat.le_refl _) (.cells #[.int .i64 0,.int .i64 0] 36))
  have HE0:=hid (heap_new w (.cells #[.int .i64 0,.int .i64 0] 36))
  have HIF:=hid (iFault_any Q L v _ hn sh (I.below HB0.out))
  obtain ⟨a,c,hv1,-⟩:=id I.es
  subst hv1
  obtain ⟨sa,sc,hsv,-⟩:=id hs
  subst hsv
  obtain ⟨cc,oo,hco⟩ : ∃ cc oo,chk Q L = (cc,oo):=⟨_,_,rfl⟩
  rw [hco] at HIF h0 ⊢
  unfold faultV at HIF ⊢
  simp only at HIF h0 ⊢
  generalize atOf oo = ao at *
  have hpos : (0 : Int) < (cc : Int):=by omega
  clear I hs sh h0 hco
  go_enter Tryz.func45,Tryz.ntmps45
  go_wp2_with fail
  refine HIF.out.mono ?_
  rintro e w1 ⟨rfl,hb⟩
  have HB1:=hid (HB0.out.trans (hb.mono HB0.out.size))
  have HE1:=hid ((hb.block _ (lt_of_blk HE0.out)).trans HE0.out)
  clear hb
  have HB2:=hid (HB1.out.alloc HB1.out.size (.cells #[.int .i64 (cc : Int),.int .i64 ao] 36))
  have HE2:=hid (heap_old w1 (.cells #[.int .i64 (cc : Int),.int .i64 ao] 36) HE1.out)
  have HF2:=hid (heap_new w1 (.cells #[.int .i64 (cc : Int),.int .i64 ao] 36))
  have hne : ¬ w1.heap.size = w.heap.size:=Nat.ne_of_gt (lt_of_blk HE1.out)
  have hne2 : ¬ w.heap.size = w1.heap.size:=Nat.ne_of_lt (lt_of_blk HE1.out)
  go_wp2_with fail
  generalize w1.alloc (.cells #[.int .i64 (cc : Int),.int .i64 ao] 36) = w2 at *
  obtain ⟨s0,s1,tf⟩:=box_two HE2.out
  obtain ⟨f0,f1,_⟩:=box_two HF2.out
  go_region_with fail
  all_goals
    go_wp2_with fail
    refine bodyPost_ret (v:=.tuple #[.slice none 0 0,.agg #[.int .i64 (cc : Int),.int .i64 ao]]) (by simp [results,Tryz.results45,go_sem,s0,s1]) rfl ⟨rfl,?_⟩
    exact put2_below (below_drawn_of HB2.out 1) (Nat.le_refl _)
set_option maxRecDepth 100000 in
set_option maxHeartbeats 4000000 in
theorem newsO_ord (Q : List Raw) (L : List Ent) (sel : List Bm) (v sv : Value) (w : World) (hn : L.length <= 1000) (hsn : sel.length <= 1000) (sh : ∀ e,e ∈ L -> ShE e) (I : Ixs w v Q L) (hs : MsAt w sv sel) (h0 : (chk Q L).1 = 0) (h1 : risB2 sel = false) :
    Calls Tryz.prog 45 #[v,sv] w fun e w'=>e = .returned (.tuple #[.slice none 0 0,.agg #[.int .i64 8,.int .i64 (-1)]]) /\ Below w.heap.size w w':=by
  have HB0:=hid ((Below.refl w.heap.size w).alloc (Nat.le_refl _) (.cells #[.int .i64 0,.int .i64 0] 36))
  have HE0:=hid (heap_new w (.cells #[.int .i64 0,.int .i64 0] 36))
  have HIF:=hid (iFault_any Q L v _ hn sh (I.below HB0.out))
  have HRP:=hid (fun W (h : Below w.heap.size w W)=>rp_any sel sv W (hs.below h) (by omega))
  rw [h1] at HRP
  have HBA:=hid (fun W=>rbare_any 8 W)
  obtain ⟨a,c,hv1,-⟩:=id I.es
  subst hv1
  obtain ⟨sa,sc,hsv,-⟩:=id hs
  subst hsv
  obtain ⟨oo0,hco⟩ : ∃ oo,chk Q L = (0,oo):=⟨(chk Q L).2,Prod.ext h0 rfl⟩
  rw [hco] at HIF
  unfold faultV at HIF
  simp only at HIF
  generalize atOf oo0 = ao0 at *
  clear I hs sh h0 hco h1
  go_enter Tryz.func45,Tryz.ntmps45
  go_wp2_with fail
  refine HIF.out.mono ?_
  rintro e w1 ⟨rfl,hb⟩
  have HB1:=hid (HB0.out.trans (hb.mono HB0.out.size))
  have HE1:=hid ((hb.block _ (lt_of_blk HE0.out)).trans HE0.out)
  clear hb
  have HB2:=hid (HB1.out.alloc HB1.out.size (.cells #[.int .i64 0,.int .i64 ao0] 36))
  have HE2:=hid (heap_old w1 (.cells #[.int .i64 0,.int .i64 ao0] 36) HE1.out)
  have hne : ¬ w1.heap.size = w.heap.size:=Nat.ne_of_gt (lt_of_blk HE1.out)
  have hne2 : ¬ w.heap.size = w1.heap.size:=Nat.ne_of_lt (lt_of_blk HE1.out)
  go_wp2_with fail
  generalize w1.alloc (.cells #[.int .i64 0,.int .i64 ao0] 36) = w2 at *
  refine (HRP.out _ HB2.out).mono ?_
  rintro e w3 ⟨rfl,hb⟩
  have HB3:=hid (HB2.out.trans (hb.mono HB2.out.size))
  have HE3:=hid ((hb.block _ (lt_of_blk HE2.out)).trans HE2.out)
  clear hb
  go_wp2_with fail
  refine (HBA.out _).mono ?_
  rintro e w4 ⟨rfl,hb⟩
  have HB4:=hid (HB3.out.trans (hb.mono HB3.out.size))
  have HE4:=hid ((hb.block _ (lt_of_blk HE3.out)).trans HE3.out)
  clear hb
  obtain ⟨s0,s1,tf⟩:=box_two HE4.out
  go_wp2_with fail
  refine bodyPost_ret (v:=.tuple #[.slice none 0 0,.agg #[.int .i64 8,.int .i64 (-1)]]) (by simp [results,Tryz.results45,go_sem,s0,s1]) rfl ⟨rfl,?_⟩
  exact put2_below HB4.out (Nat.le_refl _)
set_option maxRecDepth 100000 in
set_option maxHeartbeats 4000000 in
theorem newsO_good (Q : List Raw) (L : List Ent) (sel : List Bm) (v sv : Value) (w : World) (hn : L.length ≤ 1000) (hsn : sel.length ≤ 1000) (hz : ∀ r, r ∈ Q → r.1.1.size ≤ 80 ∧ r.1.2.size ≤ 80) (hsz : ∀ x, x ∈ sel → x.2.size < 999999) (sh : ∀ e, e ∈ L → ShE e) (I : Ixs w v Q L) (hs : MsAt w sv sel) (h0 : (chk Q L).1 = 0) (h1 : risB2 sel = true) :
    Calls Tryz.prog 45 #[v,sv] w fun e w'=>∃ na nc,e = .returned (.tuple #[.slice na (newsL Q sel).length nc,.agg #[.int .i64 0,.int .i64 (-1)]]) /\ MsAt w' (.slice na (newsL Q sel).length nc) (newsL Q sel) /\ Below w.heap.size w w':=by
  have HB0:=hid ((Below.refl w.heap.size w).alloc (Nat.le_refl _) (.cells #[.int .i64 0,.int .i64 0] 36))
  have HE0:=hid (heap_new w (.cells #[.int .i64 0,.int .i64 0] 36))
  have HIF:=hid (iFault_any Q L v _ hn sh (I.below HB0.out))
  have HRP:=hid (fun W (h : Below w.heap.size w W)=>rp_any sel sv W (hs.below h) (by omega))
  rw [h1] at HRP
  have HGD:=hid (good_of I h0)
  have HLO:=hid (fun t W (h : Below w.heap.size w W)=>latOf_any Q t v W (by rw [I.ln]; omega) HGD.out hz (keptT_ex HGD.out t) (I.below h).es)
  have HLZ:=hid (fun t=>show (latV Q t).size < 999999 by
    obtain ⟨X,hX⟩:=keptT_ex HGD.out t
    have:=lat_sz HGD.out hz hX
    omega)
  have HIL:=hid (fun (s t : ByteArray) W (h1 : s.size < 999999) (h2 : t.size < 999999)=>isLess_any s t W h1 h2)
  have HMS:=hid (fun W (h : Below w.heap.size w W)=>hs.below h)
  have HSZ:=hid hsz
  have HSN:=hid (show sel.length <= 1000000 by omega)
  have HSL:=hid hsn
  have HFN:=hid (fun W=>fine_any W)
  obtain ⟨i0,hi0,hz0,hz1,hz2⟩:=info_parts infoMod
  obtain ⟨a,c,hv1,-⟩:=id I.es
  subst hv1
  obtain ⟨sa,sc,hsv,-⟩:=id hs
  subst hsv
  obtain ⟨oo0,hco⟩ : ∃ oo,chk Q L = (0,oo):=⟨(chk Q L).2,Prod.ext h0 rfl⟩
  rw [hco] at HIF
  unfold faultV at HIF
  simp only at HIF
  generalize atOf oo0 = ao0 at *
  clear I hs sh h0 hco h1 hz hsz
  go_enter Tryz.func45,Tryz.ntmps45
  go_wp2_with fail
  refine HIF.out.mono ?_
  rintro e w1 ⟨rfl,hb⟩
  have HB1:=hid (HB0.out.trans (hb.mono HB0.out.size))
  have HE1:=hid ((hb.block _ (lt_of_blk HE0.out)).trans HE0.out)
  clear hb
  have HB2:=hid (HB1.out.alloc HB1.out.size (.cells #[.int .i64 0,.int .i64 ao0] 36))
  have HE2:=hid (heap_old w1 (.cells #[.int .i64 0,.int .i64 ao0] 36) HE1.out)
  have hne : ¬ w1.heap.size = w.heap.size:=Nat.ne_of_gt (lt_of_blk HE1.out)
  have hne2 : ¬ w.heap.size = w1.heap.size:=Nat.ne_of_lt (lt_of_blk HE1.out)
  go_wp2_with fail
  generalize w1.alloc (.cells #[.int .i64 0,.int .i64 ao0] 36) = w2 at *
  refine (HRP.out _ HB2.out).mono ?_
  rintro e w3 ⟨rfl,hb⟩
  have HB3:=hid (HB2.out.trans (hb.mono HB2.out.size))
  have HE3:=hid ((hb.block _ (lt_of_blk HE2.out)).trans HE2.out)
  clear hb HB0 HE0 HB1 HE1 HB2 HE2
  go_wp2_with fail
  go_loopw [8,9] (fun ov iv wr=>∃ i : Nat,i <= sel.length /\ iv = .int .i64 i /\ Hid (wr.ownsRow w3.heap.size 25 2 ov (newsL Q (sel.take i)).length (flatM (newsL Q (sel.take i)))) /\ Hid (Below w3.heap.size w3 wr)) (fun _ iv _=>sel.length - (intOf iv).toNat)
  case atStart=>exact ⟨0,Nat.zero_le _,rfl,hid (World.ownsRow_nil _ _ _ _),hid (Below.refl _ _)⟩
  case round=>
    obtain ⟨i,hi,rfl,HOW,HBr⟩:=hrel
    have HBw:=hid (HB3.out.trans (HBr.out.mono HB3.out.size))
    by_cases hlt : i < sel.length
    · have hiI:=ix_lt hlt
      have hii:=ix_pos i
      have HLI:=hid hlt
      obtain ⟨yb,yo,hya,y0,y1⟩:=(HMS.out _ HBw.out).cells hlt
      subst hya
      have HNX:=hid (newsL_next (Q:=Q) hlt)
      have HQZ:=hid (HSZ.out sel[i] (List.getElem_mem hlt))
      have HNL:=hid (show (newsL Q (sel.take i)).length <= 1000 from Nat.le_trans (newsL_len Q _) (Nat.le_trans (List.length_take_le' i sel) HSL.out))
      generalize sel[i] = x at *
      obtain ⟨p,q⟩:=x
      simp only at y0 y1 HNX HQZ
      have HLP:=hid (HLO.out p wr HBw.out)
      have HLT:=hid (fun W=>HIL.out q (latV Q p) W HQZ.out (HLZ.out p))
      generalize latV Q p = lv at *
      obtain ⟨SX,hSX⟩ : ∃ SX,newsL Q (sel.take i) = SX:=⟨_,rfl⟩
      rw [hSX] at HOW HNX HNL
      change Hid (newsL Q (sel.take (i + 1)) = SX ++ if lessB q.data.toList lv.data.toList then [(p,lv)] else []) at HNX
      clear hSX hlt
      go_wp2_with fail
      refine HLP.out.mono ?_
      rintro e w4 ⟨rfl,hb⟩
      have HB4:=hid (HBr.out.trans (hb.mono HBr.out.size))
      have HO4:=hid (owns_below HOW.out hb)
      have z0:=cell_below hb y0
      have z1:=cell_below hb y1
      clear hb y0 y1 HLP
      go_wp2_with fail
      refine (HLT.out _).mono ?_
      rintro e w5 ⟨rfl,hb⟩
      have HB5:=hid (HB4.out.trans (hb.mono HB4.out.size))
      have HO5:=hid (owns_below HO4.out hb)
      have x0:=cell_below hb z0
      clear hb z0 z1 HLT
      cases hle : lessB q.data.toList lv.data.toList with
      | false=>
        rw [hle] at HNX
        have HN2:=hid (show newsL Q (sel.take (i + 1)) = SX by rw [HNX.out]; simp)
        clear hle
        go_wp2_with fail
        go_roundw
        case rel=>first | exact ⟨i + 1,HLI.out,nr_idx i,hid (by rw [HN2.out]; exact HO5.out),HB5⟩ | exact ⟨i + 1,HLI.out,nx_idx HLI.out HSN.out,hid (by rw [HN2.out]; exact HO5.out),HB5⟩
        case measure=>first | exact nr_meas HLI.out | exact nx_meas HLI.out HSN.out
      | true=>
        rw [hle] at HNX
        have HN2:=hid (show newsL Q (sel.take (i + 1)) = SX ++ [(p,lv)] by rw [HNX.out]; simp)
        clear hle
        go_wp2_with (at_builtin; refine wpList_append_own _ rfl _ _ 23 rfl w3.heap.size 25 i0 _ 2 32 Tryz.underlying23 hi0 hz0 hz1 hz2 rfl (by decide) _ _ _ rfl (HO5.out.alloc _) ⟨w5.heap.size,0,none⟩ 1 1 [.string p,.string lv] rfl rfl (World.news_of_block (heap_new _ _)) (by intro u hu; simp at hu; rcases hu with rfl | rfl <;> rfl) (Nat.le_trans (Nat.add_le_add_right HNL.out 1) (by unfold maxLen; decide)) (by have hz:=HNL.out; omega) (Nat.le_trans HB5.out.size (by simp)) ?_)
        intro v' w6 hown hgrow _
        have HB6:=hid (rel_app2 HB5.out.size HB5.out HO5.out (Below.refl _ _) hgrow)
        have HO6:=hid (show w6.ownsRow w3.heap.size 25 2 v' (SX ++ [(p,lv)]).length (flatM (SX ++ [(p,lv)])) by rw [List.length_append,flatM_app]; exact hown)
        clear hown hgrow
        go_wp2_with fail
        go_roundw
        case rel=>first | exact ⟨i + 1,HLI.out,nr_idx i,hid (by rw [HN2.out]; exact HO6.out),HB6⟩ | exact ⟨i + 1,HLI.out,nx_idx HLI.out HSN.out,hid (by rw [HN2.out]; exact HO6.out),HB6⟩
        case measure=>first | exact nr_meas HLI.out | exact nx_meas HLI.out HSN.out
    · have hiI:=ix_nlt hlt
      have HTA:=hid (show sel.take i = sel from List.take_of_length_le (by omega))
      rw [HTA.out] at HOW
      obtain ⟨oa,oc,hov⟩:=own_slN HOW.out
      subst hov
      clear hlt
      go_wp2_with fail
      refine (HFN.out _).mono ?_
      rintro e w6 ⟨rfl,hb⟩
      have HB6:=hid (HBw.out.trans (hb.mono HBw.out.size))
      have HE6:=hid ((hb.block _ (Nat.lt_of_lt_of_le (lt_of_blk HE3.out) HBr.out.size)).trans ((HBr.out.block _ (lt_of_blk HE3.out)).trans HE3.out))
      have HM6:=hid ((own_ms HOW.out).below hb)
      clear hb
      obtain ⟨s0,s1,tf⟩:=box_two HE6.out
      go_wp2_with fail
      refine bodyPost_ret (v:=.tuple #[.slice oa (newsL Q sel).length oc,.agg #[.int .i64 0,.int .i64 (-1)]]) (by simp [results,Tryz.results45,go_sem,s0,s1]) rfl ⟨_,_,rfl,ms_put2 HM6.out HE6.out,?_⟩
      exact put2_below HB6.out (Nat.le_refl _)
end Ve
end Go.Proofs.YtlcffhadobhfkaaGreatDoor
namespace Go.Proofs.YtlcffhadobhfkaaGreatDoor
open Go.RowKit Go.Maps
namespace Ve
open Classical in
noncomputable def oF (Q : List Raw) (L : List Ent) (roots : List Bm) (x : Bm) : Nat × Option Nat:=if (chkG Q L roots).1 = 0 then (if x ∈ univ L then (0,none) else (5,none)) else chkG Q L roots
open Classical in
noncomputable def oX (Q : List Raw) (L : List Ent) (roots : List Bm) (x : Bm) : List Bm:=if (chkG Q L roots).1 = 0 /\ x ∈ univ L then bX Q L (roots ++ [x]) else []
theorem oF_le (Q : List Raw) (L : List Ent) (roots : List Bm) (x : Bm) : (oF Q L roots x).1 <= 10:=by
  unfold oF
  split
  · split <;> simp
  · exact chkG_le _ _ _
theorem oX_len {Q : List Raw} {L : List Ent} {roots : List Bm} {x : Bm} : (oX Q L roots x).length <= L.length:=by
  unfold oX
  split
  · exact bX_len
  · simp
theorem oF_same {Q Q' : List Raw} {L : List Ent} (h : Q.map (fun r=>r.1) = Q'.map (fun r=>r.1)) (roots : List Bm) (x : Bm) : oF Q L roots x = oF Q' L roots x:=by unfold oF; rw [chkG_same h]
theorem oX_same {Q Q' : List Raw} {L : List Ent} (h : Q.map (fun r=>r.1) = Q'.map (fun r=>r.1)) (roots : List Bm) (x : Bm) : oX Q L roots x = oX Q' L roots x:=by unfold oX; rw [chkG_same h,bX_same h]
theorem one_all (Q : List Raw) (L : List Ent) (roots : List Bm) (x : Bm) (v rv : Value) (A : Nat -> Addr) (m : Int) (w : World) (hn : L.length <= 1000) (hrn : roots.length <= 400) (sh : ∀ e,e ∈ L -> ShE e) (S : Te w A m) (I : Ixs w v Q L) (hr : MsAt w rv roots) (her : Em rv roots) :
    Calls Tryz.prog 42 #[v,rv,.agg #[.string x.1,.string x.2]] w fun e w'=>∃ a c y,e = .returned (.tuple #[.slice a (oX Q L roots x).length c,y]) /\ MsAt w' (.slice a (oX Q L roots x).length c) (oX Q L roots x) /\ ErrAt w' A y (oF Q L roots x).1 (oF Q L roots x).2 /\ Below w.heap.size w w':=by
  by_cases h : (chkG Q L roots).1 = 0
  · by_cases hx : x ∈ univ L
    · refine (one_good Q L roots x v rv A m w hn hrn sh S I hr her h hx).mono ?_
      rintro e w' ⟨a,c,rfl,hm⟩
      unfold oX oF
      rw [if_pos ⟨h,hx⟩,if_pos h,if_pos hx]
      exact ⟨a,c,_,rfl,hm.ms,rfl,hm.1⟩
    · refine (one_not Q L roots x v rv A m w hn hrn sh S I hr h hx).mono ?_
      rintro e w' ⟨rfl,hb⟩
      unfold oX oF
      rw [if_neg (fun e=>hx e.2),if_pos h,if_neg hx]
      exact ⟨_,_,_,rfl,ms_nil0 _,rfl,hb⟩
  · refine (one_bad Q L roots x v rv A m w hn hrn sh S I hr h).mono ?_
    rintro e w' ⟨T,a,rfl,he,hb⟩
    unfold oX oF
    rw [if_neg (fun e=>h e.1),if_neg h]
    exact ⟨_,_,_,rfl,ms_nil0 _,he,hb⟩
theorem oneO_all (Q : List Raw) (L : List Ent) (roots : List Bm) (x : Bm) (v rv : Value) (w : World) (hn : L.length <= 1000) (hrn : roots.length <= 400) (sh : ∀ e,e ∈ L -> ShE e) (I : Ixs w v Q L) (hr : MsAt w rv roots) (her : Em rv roots) :
    Calls Tryz.prog 43 #[v,rv,.agg #[.string x.1,.string x.2]] w fun e w'=>∃ a c,e = .returned (.tuple #[.slice a (oX Q L roots x).length c,faultV (oF Q L roots x)]) /\ MsAt w' (.slice a (oX Q L roots x).length c) (oX Q L roots x) /\ Below w.heap.size w w':=by
  by_cases h : (chkG Q L roots).1 = 0
  · by_cases hx : x ∈ univ L
    · refine (oneO_good Q L roots x v rv w hn hrn sh I hr her h hx).mono ?_
      rintro e w' ⟨a,c,rfl,hm,hb⟩
      unfold oX oF
      rw [if_pos ⟨h,hx⟩,if_pos h,if_pos hx]
      exact ⟨a,c,rfl,hm,hb⟩
    · refine (oneO_not Q L roots x v rv w hn (by omega) sh I hr h hx).mono ?_
      rintro e w' ⟨rfl,hb⟩
      unfold oX oF
      rw [if_neg (fun e=>hx e.2),if_pos h,if_neg hx]
      exact ⟨_,_,rfl,ms_nil0 _,hb⟩
  · refine (oneO_bad Q L roots x v rv w hn (by omega) sh I hr h).mono ?_
    rintro e w' ⟨rfl,hb⟩
    unfold oX oF
    rw [if_neg (fun e=>h e.1),if_neg h]
    exact ⟨_,_,rfl,ms_nil0 _,hb⟩
theorem fix_len {Q : List Raw} {L : List Ent} {E0 E : List Bm} (h : Fix Q L E0 E) : E.length <= L.length:=by
  rw [<- h.f]; exact bX_len
theorem allE_len {Q : List Raw} {L : List Ent} {roots : List Bm} : (allE Q L roots).length <= L.length:=by
  unfold allE
  split
  · rename_i h; exact fix_len h.2.choose_spec
  · simp
theorem all_all (Q Q0 : List Raw) (L : List Ent) (roots : List Bm) (v rv : Value) (A : Nat -> Addr) (m : Int) (w : World) (hk : Q.map keyR = Q0.map keyR) (hn : L.length <= 400) (hrn : roots.length <= 1000000) (hz : ∀ r,r ∈ Q -> r.1.1.size <= 80 /\ r.1.2.size <= 80) (sh : ∀ e,e ∈ L -> ShE e) (S : Te w A m) (htab : Lib.TabIs Tryz.prog w powName .u64 Lib.pow10Tab) (I : Ixs w v Q L) (hr : MsAt w rv roots) :
    Calls Tryz.prog 40 #[v,rv] w fun e w'=>∃ a c y,e = .returned (.tuple #[.slice a (allE Q0 L roots).length c,y]) /\ MsAt w' (.slice a (allE Q0 L roots).length c) (allE Q0 L roots) /\ ErrAt w' A y (rF Q0 L roots).1 (rF Q0 L roots).2 /\ Below w.heap.size w w':=by
  have hG : chkG Q L roots = chkG Q0 L roots:=chkG_same (key_mod hk) roots
  by_cases h : (chkG Q L roots).1 = 0
  · refine (all_good Q L roots v rv A m w hn hrn hz sh S htab I hr h).mono ?_
    rintro e w' ⟨a,c,E,rfl,hm,hA⟩
    have f:=hA.fx.same hk
    rw [bX_same (key_mod hk)] at f
    have he:=allE_of (by rw [<- hG]; exact h) f
    subst he
    exact ⟨a,c,_,rfl,hm.ms,by rw [rF_good (by rw [<- hG]; exact h)]; rfl,hm.1⟩
  · refine (all_bad Q L roots v rv A m w (by omega) hrn sh S I hr h).mono ?_
    rintro e w' ⟨T,a,rfl,he,hb⟩
    rw [hG] at h he
    rw [allE_bad h,rF_bad h]
    exact ⟨_,_,_,rfl,ms_nil0 _,he,hb⟩
theorem allO_all (Q : List Raw) (L : List Ent) (roots : List Bm) (v rv : Value) (w : World) (hn : L.length <= 400) (hrn : roots.length <= 1000000) (hz : ∀ r,r ∈ Q -> r.1.1.size <= 80 /\ r.1.2.size <= 80) (sh : ∀ e,e ∈ L -> ShE e) (I : Ixs w v Q L) (hr : MsAt w rv roots) :
    Calls Tryz.prog 44 #[v,rv] w fun e w'=>∃ a c,e = .returned (.tuple #[.slice a (allE Q L roots).length c,faultV (rF Q L roots)]) /\ MsAt w' (.slice a (allE Q L roots).length c) (allE Q L roots) /\ Below w.heap.size w w':=by
  by_cases h : (chkG Q L roots).1 = 0
  · refine (allO_good Q L roots v rv w hn hrn hz sh I hr h).mono ?_
    rintro e w' ⟨a,c,E,rfl,hm,f,hb⟩
    have he:=allE_of h f
    subst he
    exact ⟨a,c,by rw [rF_good h]; rfl,hm,hb⟩
  · refine (allO_bad Q L roots v rv w (by omega) hrn sh I hr h).mono ?_
    rintro e w' ⟨rfl,hb⟩
    rw [allE_bad h,rF_bad h]
    exact ⟨_,_,rfl,ms_nil0 _,hb⟩
def nF (Q : List Raw) (L : List Ent) (sel : List Bm) : Nat × Option Nat:=if (chk Q L).1 = 0 then (if risB2 sel then (0,none) else (8,none)) else chk Q L
noncomputable def nX (Q : List Raw) (L : List Ent) (sel : List Bm) : List Bm:=if (chk Q L).1 = 0 /\ risB2 sel = true then newsL Q sel else []
theorem nF_le (Q : List Raw) (L : List Ent) (sel : List Bm) : (nF Q L sel).1 <= 10:=by
  unfold nF
  split
  · split <;> simp
  · exact chk_le _ _
theorem nX_len {Q : List Raw} {L : List Ent} {sel : List Bm} : (nX Q L sel).length <= sel.length:=by
  unfold nX
  split
  · exact newsL_len Q sel
  · simp
theorem nF_same {Q Q' : List Raw} {L : List Ent} (h : Q.map keyR = Q'.map keyR) (sel : List Bm) : nF Q L sel = nF Q' L sel:=by unfold nF; rw [chk_same (key_mod h)]
theorem nX_same {Q Q' : List Raw} {L : List Ent} (h : Q.map keyR = Q'.map keyR) (sel : List Bm) : nX Q L sel = nX Q' L sel:=by unfold nX; rw [chk_same (key_mod h),newsL_same h]
theorem news_all (Q : List Raw) (L : List Ent) (sel : List Bm) (v sv : Value) (A : Nat -> Addr) (m : Int) (w : World) (hn : L.length <= 1000) (hsn : sel.length <= 1000) (hz : ∀ r,r ∈ Q -> r.1.1.size <= 80 /\ r.1.2.size <= 80) (hsz : ∀ x,x ∈ sel -> x.2.size < 999999) (sh : ∀ e,e ∈ L -> ShE e) (S : Te w A m) (htab : Lib.TabIs Tryz.prog w powName .u64 Lib.pow10Tab) (I : Ixs w v Q L) (hs : MsAt w sv sel) :
    Calls Tryz.prog 41 #[v,sv] w fun e w'=>∃ a c y,e = .returned (.tuple #[.slice a (nX Q L sel).length c,y]) /\ MsAt w' (.slice a (nX Q L sel).length c) (nX Q L sel) /\ ErrAt w' A y (nF Q L sel).1 (nF Q L sel).2 /\ Below w.heap.size w w':=by
  by_cases h : (chk Q L).1 = 0
  · cases hr : risB2 sel with
    | true=>
      refine (news_good Q L sel v sv A m w hn hsn hz hsz sh S htab I hs h hr).mono ?_
      rintro e w' ⟨u,rfl,ho,hb⟩
      have hms:=own_ms ho
      obtain ⟨a,c,hu⟩:=own_slN ho
      subst hu
      unfold nX nF
      rw [if_pos ⟨h,hr⟩,if_pos h,if_pos hr]
      exact ⟨a,c,_,rfl,hms,rfl,hb⟩
    | false=>
      refine (news_ord Q L sel v sv A m w hn hsn sh S I hs h hr).mono ?_
      rintro e w' ⟨rfl,hb⟩
      unfold nX nF
      rw [if_neg (fun e=>by rw [hr] at e; exact absurd e.2 (by decide)),if_pos h,if_neg (by rw [hr]; decide)]
      exact ⟨_,_,_,rfl,ms_nil0 _,rfl,hb⟩
  · refine (news_bad Q L sel v sv A m w hn sh S I hs h).mono ?_
    rintro e w' ⟨T,a,rfl,he,hb⟩
    unfold nX nF
    rw [if_neg (fun e=>h e.1),if_neg h]
    exact ⟨_,_,_,rfl,ms_nil0 _,he,hb⟩
theorem newsO_all (Q : List Raw) (L : List Ent) (sel : List Bm) (v sv : Value) (w : World) (hn : L.length <= 1000) (hsn : sel.length <= 1000) (hz : ∀ r,r ∈ Q -> r.1.1.size <= 80 /\ r.1.2.size <= 80) (hsz : ∀ x,x ∈ sel -> x.2.size < 999999) (sh : ∀ e,e ∈ L -> ShE e) (I : Ixs w v Q L) (hs : MsAt w sv sel) :
    Calls Tryz.prog 45 #[v,sv] w fun e w'=>∃ a c,e = .returned (.tuple #[.slice a (nX Q L sel).length c,faultV (nF Q L sel)]) /\ MsAt w' (.slice a (nX Q L sel).length c) (nX Q L sel) /\ Below w.heap.size w w':=by
  by_cases h : (chk Q L).1 = 0
  · cases hr : risB2 sel with
    | true=>
      refine (newsO_good Q L sel v sv w hn hsn hz hsz sh I hs h hr).mono ?_
      rintro e w' ⟨a,c,rfl,hm,hb⟩
      unfold nX nF
      rw [if_pos ⟨h,hr⟩,if_pos h,if_pos hr]
      exact ⟨a,c,rfl,hm,hb⟩
    | false=>
      refine (newsO_ord Q L sel v sv w hn hsn sh I hs h hr).mono ?_
      rintro e w' ⟨rfl,hb⟩
      unfold nX nF
      rw [if_neg (fun e=>by rw [hr] at e; exact absurd e.2 (by decide)),if_pos h,if_neg (by rw [hr]; decide)]
      exact ⟨_,_,rfl,ms_nil0 _,hb⟩
  · refine (newsO_bad Q L sel v sv w hn sh I hs h).mono ?_
    rintro e w' ⟨rfl,hb⟩
    unfold nX nF
    rw [if_neg (fun e=>h e.1),if_neg h]
    exact ⟨_,_,rfl,ms_nil0 _,hb⟩
end Ve
end Go.Proofs.YtlcffhadobhfkaaGreatDoor
namespace Go.Proofs.YtlcffhadobhfkaaGreatDoor
open Go.RowKit Go.Maps
namespace Ve
theorem cell_set_neK {W : World} {b o g p : Nat} {x v : Value} (h : W.cell? ⟨b,o,none⟩ = some v) (hne : b ≠ g) : (W.setCell ⟨g,p,none⟩ x).cell? ⟨b,o,none⟩ = some v:=by
  unfold World.cell? at h ⊢
  rw [Below.heap_setCell _ _ _ _ hne]
  exact h
theorem ErrAt.set2K {W : World} {A : Nat -> Addr} {y : Value} {c : Nat} {o : Option Nat} {g : Nat} {z : Value} {n : Int} {T : TypeId} (h : ErrAt W A y c o) (hg : W.heap[g]? = some (.cells #[z,.int .i64 n] T (0,0))) (a b : Value) : ErrAt ((W.setCell ⟨g,0,none⟩ a).setCell ⟨g,1,none⟩ b) A y c o:=by
  cases o with
  | none=>exact h
  | some i=>
    obtain ⟨h0,f,rfl,h1,h2⟩:=h
    have hne : f ≠ g:=fun e=>by
      subst e
      obtain ⟨_,g1,_⟩:=box_two hg
      rw [g1,errA_if A h0] at h2
      cases h2
    exact ⟨h0,f,rfl,cell_set_neK (cell_set_neK h1 hne) hne,cell_set_neK (cell_set_neK h2 hne) hne⟩
theorem box_put2 {W : World} {g : Nat} {x y : Value} {T : TypeId} (a b : Value) (h : W.heap[g]? = some (.cells #[x,y] T (0,0))) : ((W.setCell ⟨g,0,none⟩ a).setCell ⟨g,1,none⟩ b).heap[g]? = some (.cells #[a,b] T (0,0)):=
  set_block (o:=1) (x:=b) (set_block (o:=0) (x:=a) h)
set_option maxRecDepth 100000 in
set_option maxHeartbeats 8000000 in
theorem ut_main (Q0 : List Raw) (L : List Ent) (roots : List Bm) (x : Bm) (sel : List Bm) (v u s : Value) (A : Nat -> Addr) (m : Int) (w : World) (S : Te w A m) (N : Er.Sen w A) (htab : Lib.TabIs Tryz.prog w powName .u64 Lib.pow10Tab) (I : Ixs w v Q0 L) (em : EmI Q0 L) (hr : MsAt w u roots) (her : Em u roots) (hs : MsAt w s sel) (hes : Em s sel) (hok : okI L = true) (hrk : okLN 15 roots = true) (hsk : okLN 15 sel = true) (hx1 : x.1.size <= 70) (hx2 : x.2.size <= 60) :
    Calls Tryz.prog 9 #[v,u,.agg #[.string x.1,.string x.2],s] w fun e w'=>e = .returned (.bool true) /\ Below w.heap.size w w':=by
  obtain ⟨xp,xq⟩:=x
  simp only at hx1 hx2 ⊢
  obtain ⟨a0,c0,hv0,-⟩:=id I.es
  subst hv0
  obtain ⟨ra,rc,hu0,-⟩:=id hr
  subst hu0
  obtain ⟨sa,sc,hs0,-⟩:=id hs
  subst hs0
  have hn101 : L.length <= 101:=by rcases (okI_iff hok).1 with h | h <;> omega
  have hr15 : roots.length <= 15:=(okLN_iff hrk).1
  have hs15 : sel.length <= 15:=(okLN_iff hsk).1
  have HSZ:=hid (show ∀ y,y ∈ sel -> y.2.size < 999999 from fun y hy=>by have:=(okLN_iff hsk).2 y hy; omega)
  have HB0:=hid ((Below.refl w.heap.size w).alloc (Nat.le_refl _) (.cells #[.string xp,.string xq] 25))
  have HM0:=hid (heap_new w (.cells #[.string xp,.string xq] 25))
  have HIN:=hid (upped_any A m _ (S.below HB0.out) (tab_below htab HB0.out))
  have HLO:=hid (fun W (h : Below w.heap.size w W)=>longI_any Q0 L _ W (I.below h))
  rw [if_pos hok] at HLO
  have HLM:=hid (fun W (h : Below w.heap.size w W)=>longN_any 15 (by decide) roots _ W (hr.below h))
  rw [if_pos hrk] at HLM
  have HLS:=hid (fun W (h : Below w.heap.size w W)=>longN_any 15 (by decide) sel _ W (hs.below h))
  rw [if_pos hsk] at HLS
  have HOW:=hid (fun W (h : Below w.heap.size w W)=>ownI_any Q0 L _ W (by omega) (I.below h) em (okI_fits hok))
  have HOM:=hid (fun W (h : Below w.heap.size w W)=>ownM_any _ roots W (by omega) (hr.below h) her)
  have HOS:=hid (fun W (h : Below w.heap.size w W)=>ownM_any _ sel W (by omega) (hs.below h) hes)
  have HS:=hid (fun W (h : Below w.heap.size w W)=>S.below h)
  have HN:=hid (fun W (h : Below w.heap.size w W)=>N.below h)
  have HT:=hid (fun W (h : Below w.heap.size w W)=>tab_below htab h)
  have HSH:=hid (okI_sh hok)
  have HZ0:=hid (fun W v' Q' (J : Ixs W v' Q' L)=>ixs_sz J hok)
  have HK0:=hid (keys_of I)
  have HOO:=hid (fun W (h : Below w.heap.size w W)=>oneO_all Q0 L roots (xp,xq) _ _ W (by omega) (by omega) (okI_sh hok) (I.below h) (hr.below h) her)
  have HAO:=hid (fun W (h : Below w.heap.size w W)=>allO_all Q0 L roots _ _ W (by omega) (by omega) (ixs_sz I hok) (okI_sh hok) (I.below h) (hr.below h))
  have HNO:=hid (fun W (h : Below w.heap.size w W)=>newsO_all Q0 L sel _ _ W (by omega) (by omega) (ixs_sz I hok) HSZ.out (okI_sh hok) (I.below h) (hs.below h))
  have hl1 : (xp.size : Int) <= 70:=by omega
  have hl2 : (xq.size : Int) <= 60:=by omega
  clear S N I em hok hr her hs hes hrk hsk htab
  go_enter Tryz.func9,Tryz.ntmps9
  go_wp2_with fail
  refine HIN.out.mono ?_
  rintro e w1 ⟨rfl,hb⟩
  have HB1:=hid (HB0.out.trans (hb.mono HB0.out.size))
  have HM1:=hid ((hb.block _ (lt_of_blk HM0.out)).trans HM0.out)
  clear hb
  go_wp2_with fail
  refine (HLO.out w1 HB1.out).mono ?_
  rintro e w2 ⟨rfl,hb⟩
  have HB2:=hid (HB1.out.trans (hb.mono HB1.out.size))
  have HM2:=hid ((hb.block _ (lt_of_blk HM1.out)).trans HM1.out)
  clear hb
  go_wp2_with fail
  refine (HLM.out w2 HB2.out).mono ?_
  rintro e w2' ⟨rfl,rfl⟩
  go_wp2_with fail
  refine (HLS.out w2' HB2.out).mono ?_
  rintro e w2s ⟨rfl,rfl⟩
  obtain ⟨p0,p1,pf⟩:=box_two HM2.out
  go_wp2_with fail
  refine (HOW.out w2s HB2.out).mono ?_
  rintro e w3 ⟨ou,Q,rfl,hO,hb⟩
  have HB3:=hid (HB2.out.trans (hb.mono HB2.out.size))
  have HM3:=hid ((hb.block _ (lt_of_blk HM2.out)).trans HM2.out)
  have HIX:=hid (fun W (h : Below w3.heap.size w3 W)=>hO.ixs.below h)
  have HZQ:=hid (HZ0.out _ _ _ hO.ixs)
  have HKQ:=hid (show Q.map keyR = Q0.map keyR by rw [keys_of hO.ixs,HK0.out])
  obtain ⟨oa,oc,hou,-⟩:=id hO.ixs.es
  subst hou
  have HBW:=hid (fun W (h : Below w3.heap.size w3 W)=>HB3.out.trans (h.mono HB3.out.size))
  have HP1:=hid (fun W a (h : Below w3.heap.size w3 W) (hR : MsAt W a roots) (eR : Em a roots)=>one_all Q L roots (xp,xq) _ a A m W (by omega) (by omega) HSH.out (HS.out _ (HBW.out _ h)) (HIX.out _ h) hR eR)
  rw [oX_same (key_mod HKQ.out),oF_same (key_mod HKQ.out)] at HP1
  have HP2:=hid (fun W a (h : Below w3.heap.size w3 W) (hR : MsAt W a roots)=>all_all Q Q0 L roots _ a A m W HKQ.out (by omega) (by omega) HZQ.out HSH.out (HS.out _ (HBW.out _ h)) (HT.out _ (HBW.out _ h)) (HIX.out _ h) hR)
  have HP3:=hid (fun W a (h : Below w3.heap.size w3 W) (hR : MsAt W a sel)=>news_all Q L sel _ a A m W (by omega) (by omega) HZQ.out HSZ.out HSH.out (HS.out _ (HBW.out _ h)) (HT.out _ (HBW.out _ h)) (HIX.out _ h) hR)
  rw [nX_same HKQ.out,nF_same HKQ.out] at HP3
  have HF1:=hid (fun W y (h : Below w3.heap.size w3 W) (he : ErrAt W A y (oF Q0 L roots (xp,xq)).1 (oF Q0 L roots (xp,xq)).2)=>faulted2_any A y (oF Q0 L roots (xp,xq)) W (HN.out _ (HBW.out _ h)) he (oF_le _ _ _ _))
  have HF2:=hid (fun W y (h : Below w3.heap.size w3 W) (he : ErrAt W A y (rF Q0 L roots).1 (rF Q0 L roots).2)=>faulted2_any A y (rF Q0 L roots) W (HN.out _ (HBW.out _ h)) he (rF_le _ _ _))
  have HF3:=hid (fun W y (h : Below w3.heap.size w3 W) (he : ErrAt W A y (nF Q0 L sel).1 (nF Q0 L sel).2)=>faulted2_any A y (nF Q0 L sel) W (HN.out _ (HBW.out _ h)) he (nF_le _ _ _))
  have HX1:=hid (show (oX Q0 L roots (xp,xq)).length <= 1000000 from Nat.le_trans oX_len (by omega))
  have HX2:=hid (show (allE Q0 L roots).length <= 1000000 from Nat.le_trans allE_len (by omega))
  have HX3:=hid (show (nX Q0 L sel).length <= 1000000 from Nat.le_trans nX_len (by omega))
  clear hb hO p0 p1 pf HLO HLM HLS HOW HIN HB1 HB2 HM0 HM1 HM2 HS HN HT HIX HZQ HKQ HK0 HZ0 HSH HSZ
  generalize oX Q0 L roots (xp,xq) = X1 at *
  generalize allE Q0 L roots = X2 at *
  generalize nX Q0 L sel = X3 at *
  obtain ⟨f1,hf1⟩ : ∃ f,f = oF Q0 L roots (xp,xq):=⟨_,rfl⟩
  rw [<- hf1] at HP1 HOO HF1
  obtain ⟨f2,hf2⟩ : ∃ f,f = rF Q0 L roots:=⟨_,rfl⟩
  rw [<- hf2] at HP2 HAO HF2
  obtain ⟨f3,hf3⟩ : ∃ f,f = nF Q0 L sel:=⟨_,rfl⟩
  rw [<- hf3] at HP3 HNO HF3
  clear hf1 hf2 hf3
  obtain ⟨a1,b1⟩:=f1
  obtain ⟨a2,b2⟩:=f2
  obtain ⟨a3,b3⟩:=f3
  unfold faultV at HOO HAO HNO HF1 HF2 HF3
  simp only at HP1 HP2 HP3 HOO HAO HNO HF1 HF2 HF3
  have HB3':=HB3
  clear HB3
  have HB3:=hid (Below.refl w3.heap.size w3)
  obtain ⟨q0,q1,qf⟩:=box_two HM3.out
  have HTT:=hid (fun W' (hW : Below w3.heap.size w3 W')=>(show (fun W'=>W'.cell? ⟨w.heap.size,0,none⟩ = some (.string xp) /\ W'.cell? ⟨w.heap.size,1,none⟩ = some (.string xq) /\ Hid (Below w3.heap.size w3 W')) W' from ⟨cell_below hW q0,cell_below hW q1,hid hW⟩))
  go_wp2_with fail
  go_region_held (fun W'=>W'.cell? ⟨w.heap.size,0,none⟩ = some (.string xp) /\ W'.cell? ⟨w.heap.size,1,none⟩ = some (.string xq) /\ Hid (Below w3.heap.size w3 W')) (first | exact HTT.out _ HRb.out | exact HTT.out _ HRa.out | exact HTT.out _ (below_drawn _ 1)) (first
    | (go_at_call 19; refine (HOM.out _ (HBW.out _ (below_drawn _ 1))).mono ?_; rintro e w4 ⟨u4,rfl,ho,-,hb⟩; have HRa:=hid ((below_drawn w3 1).trans (hb.mono (Nat.le_refl _))); have HR4:=hid (mr_own ho hb); obtain ⟨a4,c4,hu4⟩:=HR4.out.sl; subst hu4; clear ho hb)
    | (go_at_call 42; refine (HP1.out w4 _ HRa.out HR4.out.ms HR4.out.em).mono ?_; rintro e w5 ⟨xa,xc,y5,rfl,hm5,he5,hb⟩; have HRb:=hid (HRa.out.trans (hb.mono HRa.out.size)); have HMX5:=hid hm5; have HE5:=hid he5; clear hm5 he5 hb))
  all_goals
    have HB5:=HRb
    have HM5:=hid ((HRb.out.block _ (lt_of_blk HM3.out)).trans HM3.out)
    clear q0 q1 qf HTT HRa HR4
    obtain ⟨q0,q1,qf⟩:=box_two HM5.out
    go_wp2_with fail
    refine (HOO.out w5 (HBW.out _ HB5.out)).mono ?_
    rintro e w6 ⟨wa,wc,rfl,hm6,hb⟩
    have HB6:=hid (HB5.out.trans (hb.mono HB5.out.size))
    have HMX6:=hid (HMX5.out.below hb)
    have HMW:=hid hm6
    have HE6:=hid (HE5.out.below hb)
    clear hm6 hb HOO q0 q1 qf
    have HA7:=hid ((Below.refl w6.heap.size w6).alloc (Nat.le_refl _) (.cells #[.int .i64 (a1 : Nat),.int .i64 (atOf b1)] 36))
    have HB7:=hid (HB6.out.trans (HA7.out.mono HB6.out.size))
    have HF7:=hid (heap_new w6 (.cells #[.int .i64 (a1 : Nat),.int .i64 (atOf b1)] 36))
    have HMX7:=hid (HMX6.out.below HA7.out)
    have HMW7:=hid (HMW.out.below HA7.out)
    have HE7:=hid (HE6.out.below HA7.out)
    have HSG:=hid (show w3.heap.size <= w6.heap.size from HB6.out.size)
    generalize hf1 : ((a1 : Nat) : Int) = F1 at *
    generalize atOf b1 = F2 at *
    go_wp2_with fail
    generalize w6.alloc (.cells #[.int .i64 F1,.int .i64 F2] 36) = w7 at *
    generalize w6.heap.size = g at *
    clear HA7 HE6 HMW HMX6 HB6 HB5 HMX5 HE5 HM5 HRb
    refine (HF1.out w7 y5 HB7.out HE7.out).mono ?_
    rintro e w8 ⟨rfl,hb⟩
    have HB8:=hid (HB7.out.trans (hb.mono HB7.out.size))
    have HF8:=hid ((hb.block _ (lt_of_blk HF7.out)).trans HF7.out)
    have HSA:=hid (sameM_any X1 _ _ w8 HX1.out (HMX7.out.below hb) (HMW7.out.below hb))
    clear hb HE7 HMX7 HMW7 HF7 HB7 HF1
    go_wp2_with fail
    refine HSA.out.mono ?_
    rintro e w9 ⟨rfl,hb⟩
    have HB9:=hid (HB8.out.trans (hb.mono HB8.out.size))
    have HF9:=hid ((hb.block _ (lt_of_blk HF8.out)).trans HF8.out)
    clear hb HSA HF8 HB8
    go_wp2_with fail
    refine (HOM.out w9 (HBW.out _ HB9.out)).mono ?_
    rintro e w10 ⟨u10,rfl,ho,-,hb⟩
    have HB10:=hid (HB9.out.trans (hb.mono HB9.out.size))
    have HF10:=hid ((hb.block _ (lt_of_blk HF9.out)).trans HF9.out)
    have HR10:=hid (mr_own ho hb)
    obtain ⟨a10,c10,hu10⟩:=HR10.out.sl
    subst hu10
    clear ho hb HB9 HF9
    go_wp2_with fail
    refine (HP2.out w10 _ HB10.out HR10.out.ms).mono ?_
    rintro e w11 ⟨xa10,xc10,y10,rfl,hm,he,hb⟩
    have HB11:=hid (HB10.out.trans (hb.mono HB10.out.size))
    have HF11:=hid ((hb.block _ (lt_of_blk HF10.out)).trans HF10.out)
    have HMX11:=hid hm
    have HE11:=hid he
    clear hm he hb HB10 HF10 HR10 HP2
    go_wp2_with fail
    refine (HAO.out w11 (HBW.out _ HB11.out)).mono ?_
    rintro e w12 ⟨wa10,wc10,rfl,hm,hb⟩
    have HB12:=hid (HB11.out.trans (hb.mono HB11.out.size))
    have HF12:=hid ((hb.block _ (lt_of_blk HF11.out)).trans HF11.out)
    have HMX12:=hid (HMX11.out.below hb)
    have HMW12:=hid hm
    have HE12:=hid (HE11.out.below hb)
    clear hm hb HB11 HF11 HMX11 HE11 HAO
    obtain ⟨q0,q1,qf⟩:=box_two HF12.out
    have HB13:=hid (put2_below (x:=.int .i64 ((a2 : Nat) : Int)) (y:=.int .i64 (atOf b2)) HB12.out HSG.out)
    have HF13:=hid (box_put2 (.int .i64 ((a2 : Nat) : Int)) (.int .i64 (atOf b2)) HF12.out)
    have HE13:=hid (HE12.out.set2K HF12.out (.int .i64 ((a2 : Nat) : Int)) (.int .i64 (atOf b2)))
    have HMX13:=hid (ms_put2 (x:=.int .i64 ((a2 : Nat) : Int)) (y:=.int .i64 (atOf b2)) HMX12.out HF12.out)
    have HMW13:=hid (ms_put2 (x:=.int .i64 ((a2 : Nat) : Int)) (y:=.int .i64 (atOf b2)) HMW12.out HF12.out)
    go_wp2_with fail
    generalize (w12.setCell ⟨g,0,none⟩ (.int .i64 ((a2 : Nat) : Int))).setCell ⟨g,1,none⟩ (.int .i64 (atOf b2)) = w13 at *
    clear HB12 HF12 HMX12 HMW12 HE12 q0 q1 qf
    generalize hf : ((a2 : Nat) : Int) = G1 at *
    generalize atOf b2 = G2 at *
    refine (HF2.out w13 y10 HB13.out HE13.out).mono ?_
    rintro e w14 ⟨rfl,hb⟩
    have HB14:=hid (HB13.out.trans (hb.mono HB13.out.size))
    have HF14:=hid ((hb.block _ (lt_of_blk HF13.out)).trans HF13.out)
    have HSA:=hid (sameM_any X2 _ _ w14 HX2.out (HMX13.out.below hb) (HMW13.out.below hb))
    clear hb HB13 HF13 HMX13 HMW13 HE13 HF2 hf
    go_wp2_with fail
    refine HSA.out.mono ?_
    rintro e w15 ⟨rfl,hb⟩
    have HB15:=hid (HB14.out.trans (hb.mono HB14.out.size))
    have HF15:=hid ((hb.block _ (lt_of_blk HF14.out)).trans HF14.out)
    clear hb HSA HF14 HB14
    go_wp2_with fail
    refine (HOS.out w15 (HBW.out _ HB15.out)).mono ?_
    rintro e w16 ⟨u16,rfl,ho,-,hb⟩
    have HB16:=hid (HB15.out.trans (hb.mono HB15.out.size))
    have HF16:=hid ((hb.block _ (lt_of_blk HF15.out)).trans HF15.out)
    have HR16:=hid (mr_own ho hb)
    obtain ⟨a16,c16,hu16⟩:=HR16.out.sl
    subst hu16
    clear ho hb HB15 HF15
    go_wp2_with fail
    refine (HP3.out w16 _ HB16.out HR16.out.ms).mono ?_
    rintro e w17 ⟨xa16,xc16,y16,rfl,hm,he,hb⟩
    have HB17:=hid (HB16.out.trans (hb.mono HB16.out.size))
    have HF17:=hid ((hb.block _ (lt_of_blk HF16.out)).trans HF16.out)
    have HMX17:=hid hm
    have HE17:=hid he
    clear hm he hb HB16 HF16 HR16 HP3
    go_wp2_with fail
    refine (HNO.out w17 (HBW.out _ HB17.out)).mono ?_
    rintro e w18 ⟨wa16,wc16,rfl,hm,hb⟩
    have HB18:=hid (HB17.out.trans (hb.mono HB17.out.size))
    have HF18:=hid ((hb.block _ (lt_of_blk HF17.out)).trans HF17.out)
    have HMX18:=hid (HMX17.out.below hb)
    have HMW18:=hid hm
    have HE18:=hid (HE17.out.below hb)
    clear hm hb HB17 HF17 HMX17 HE17 HNO
    obtain ⟨q0,q1,qf⟩:=box_two HF18.out
    have HB19:=hid (put2_below (x:=.int .i64 ((a3 : Nat) : Int)) (y:=.int .i64 (atOf b3)) HB18.out HSG.out)
    have HF19:=hid (box_put2 (.int .i64 ((a3 : Nat) : Int)) (.int .i64 (atOf b3)) HF18.out)
    have HE19:=hid (HE18.out.set2K HF18.out (.int .i64 ((a3 : Nat) : Int)) (.int .i64 (atOf b3)))
    have HMX19:=hid (ms_put2 (x:=.int .i64 ((a3 : Nat) : Int)) (y:=.int .i64 (atOf b3)) HMX18.out HF18.out)
    have HMW19:=hid (ms_put2 (x:=.int .i64 ((a3 : Nat) : Int)) (y:=.int .i64 (atOf b3)) HMW18.out HF18.out)
    go_wp2_with fail
    generalize (w18.setCell ⟨g,0,none⟩ (.int .i64 ((a3 : Nat) : Int))).setCell ⟨g,1,none⟩ (.int .i64 (atOf b3)) = w19 at *
    clear HB18 HF18 HMX18 HMW18 HE18 q0 q1 qf
    generalize hf : ((a3 : Nat) : Int) = H1 at *
    generalize atOf b3 = H2 at *
    refine (HF3.out w19 y16 HB19.out HE19.out).mono ?_
    rintro e w20 ⟨rfl,hb⟩
    have HB20:=hid (HB19.out.trans (hb.mono HB19.out.size))
    have HF20:=hid ((hb.block _ (lt_of_blk HF19.out)).trans HF19.out)
    have HSA:=hid (sameM_any X3 _ _ w20 HX3.out (HMX19.out.below hb) (HMW19.out.below hb))
    clear hb HB19 HF19 HMX19 HMW19 HE19 HF3 hf
    go_wp2_with fail
    refine HSA.out.mono ?_
    rintro e w21 ⟨rfl,hb⟩
    have HBe:=hid (HBW.out _ (HB20.out.trans (hb.mono HB20.out.size)))
    clear hb
    go_wp2_with fail
    go_ret
    exact ⟨rfl,HBe.out⟩
set_option maxRecDepth 100000 in
set_option maxHeartbeats 2000000 in
theorem ut_long1 (Q0 : List Raw) (L : List Ent) (roots : List Bm) (x : Bm) (sel : List Bm) (v u s : Value) (A : Nat -> Addr) (m : Int) (w : World) (S : Te w A m) (htab : Lib.TabIs Tryz.prog w powName .u64 Lib.pow10Tab) (I : Ixs w v Q0 L) (hr : MsAt w u roots) (hs : MsAt w s sel) (hok : okI L = false) :
    Calls Tryz.prog 9 #[v,u,.agg #[.string x.1,.string x.2],s] w fun e w'=>e = .returned (.bool true) /\ Below w.heap.size w w':=by
  obtain ⟨xp,xq⟩:=x
  obtain ⟨a0,c0,hv0,-⟩:=id I.es
  subst hv0
  obtain ⟨ra,rc,hu0,-⟩:=id hr
  subst hu0
  obtain ⟨sa,sc,hs0,-⟩:=id hs
  subst hs0
  have HB0:=hid ((Below.refl w.heap.size w).alloc (Nat.le_refl _) (.cells #[.string xp,.string xq] 25))
  have HM0:=hid (heap_new w (.cells #[.string xp,.string xq] 25))
  have HIN:=hid (upped_any A m _ (S.below HB0.out) (tab_below htab HB0.out))
  have HLO:=hid (fun W (h : Below w.heap.size w W)=>longI_any Q0 L _ W (I.below h))
  rw [hok] at HLO
  clear S htab I hok hr hs
  go_enter Tryz.func9,Tryz.ntmps9
  go_wp2_with fail
  refine HIN.out.mono ?_
  rintro e w1 ⟨rfl,hb⟩
  have HB1:=hid (HB0.out.trans (hb.mono HB0.out.size))
  have HM1:=hid ((hb.block _ (lt_of_blk HM0.out)).trans HM0.out)
  clear hb
  go_wp2_with fail
  refine (HLO.out w1 HB1.out).mono ?_
  rintro e w2 ⟨rfl,hb⟩
  have HB2:=hid (HB1.out.trans (hb.mono HB1.out.size))
  have HM2:=hid ((hb.block _ (lt_of_blk HM1.out)).trans HM1.out)
  clear hb
  go_wp2_with fail
  go_ret
  exact ⟨rfl,HB2.out⟩
set_option maxRecDepth 100000 in
set_option maxHeartbeats 2000000 in
theorem ut_long2 (Q0 : List Raw) (L : List Ent) (roots : List Bm) (x : Bm) (sel : List Bm) (v u s : Value) (A : Nat -> Addr) (m : Int) (w : World) (S : Te w A m) (htab : Lib.TabIs Tryz.prog w powName .u64 Lib.pow10Tab) (I : Ixs w v Q0 L) (hr : MsAt w u roots) (hs : MsAt w s sel) (a b : Int) (hok : okI L = true) (hx : (if okLN 15 roots then (0 : Int) else 1) = a) (hy : (if okLN 15 sel then (0 : Int) else 1) = b) (hxy : (a = 1 /\ b = 0) \/ (a = 0 /\ b = 1) \/ (a = 1 /\ b = 1)) :
    Calls Tryz.prog 9 #[v,u,.agg #[.string x.1,.string x.2],s] w fun e w'=>e = .returned (.bool true) /\ Below w.heap.size w w':=by
  obtain ⟨xp,xq⟩:=x
  obtain ⟨a0,c0,hv0,-⟩:=id I.es
  subst hv0
  obtain ⟨ra,rc,hu0,-⟩:=id hr
  subst hu0
  obtain ⟨sa,sc,hs0,-⟩:=id hs
  subst hs0
  have HB0:=hid ((Below.refl w.heap.size w).alloc (Nat.le_refl _) (.cells #[.string xp,.string xq] 25))
  have HM0:=hid (heap_new w (.cells #[.string xp,.string xq] 25))
  have HIN:=hid (upped_any A m _ (S.below HB0.out) (tab_below htab HB0.out))
  have HLO:=hid (fun W (h : Below w.heap.size w W)=>longI_any Q0 L _ W (I.below h))
  rw [if_pos hok] at HLO
  have HLM:=hid (fun W (h : Below w.heap.size w W)=>longN_any 15 (by decide) roots _ W (hr.below h))
  rw [hx] at HLM
  have HLS:=hid (fun W (h : Below w.heap.size w W)=>longN_any 15 (by decide) sel _ W (hs.below h))
  rw [hy] at HLS
  clear S htab I hok hr hs hx hy
  rcases hxy with ⟨rfl,rfl⟩ | ⟨rfl,rfl⟩ | ⟨rfl,rfl⟩
  all_goals
    go_enter Tryz.func9,Tryz.ntmps9
    go_wp2_with fail
    refine HIN.out.mono ?_
    rintro e w1 ⟨rfl,hb⟩
    have HB1:=hid (HB0.out.trans (hb.mono HB0.out.size))
    have HM1:=hid ((hb.block _ (lt_of_blk HM0.out)).trans HM0.out)
    clear hb
    go_wp2_with fail
    refine (HLO.out w1 HB1.out).mono ?_
    rintro e w2 ⟨rfl,hb⟩
    have HB2:=hid (HB1.out.trans (hb.mono HB1.out.size))
    have HM2:=hid ((hb.block _ (lt_of_blk HM1.out)).trans HM1.out)
    clear hb
    go_wp2_with fail
    refine (HLM.out w2 HB2.out).mono ?_
    rintro e w2a ⟨rfl,rfl⟩
    go_wp2_with fail
    refine (HLS.out w2a HB2.out).mono ?_
    rintro e w2b ⟨rfl,rfl⟩
    go_wp2_with fail
    go_ret
    exact ⟨rfl,HB2.out⟩
set_option maxRecDepth 100000 in
set_option maxHeartbeats 2000000 in
theorem ut_long3 (Q0 : List Raw) (L : List Ent) (roots : List Bm) (x : Bm) (sel : List Bm) (v u s : Value) (A : Nat -> Addr) (m : Int) (w : World) (S : Te w A m) (htab : Lib.TabIs Tryz.prog w powName .u64 Lib.pow10Tab) (I : Ixs w v Q0 L) (hr : MsAt w u roots) (hs : MsAt w s sel) (hok : okI L = true) (hrk : okLN 15 roots = true) (hsk : okLN 15 sel = true) (hx1 : ¬ x.1.size <= 70) :
    Calls Tryz.prog 9 #[v,u,.agg #[.string x.1,.string x.2],s] w fun e w'=>e = .returned (.bool true) /\ Below w.heap.size w w':=by
  obtain ⟨xp,xq⟩:=x
  simp only at hx1 ⊢
  obtain ⟨a0,c0,hv0,-⟩:=id I.es
  subst hv0
  obtain ⟨ra,rc,hu0,-⟩:=id hr
  subst hu0
  obtain ⟨sa,sc,hs0,-⟩:=id hs
  subst hs0
  have HB0:=hid ((Below.refl w.heap.size w).alloc (Nat.le_refl _) (.cells #[.string xp,.string xq] 25))
  have HM0:=hid (heap_new w (.cells #[.string xp,.string xq] 25))
  have HIN:=hid (upped_any A m _ (S.below HB0.out) (tab_below htab HB0.out))
  have HLO:=hid (fun W (h : Below w.heap.size w W)=>longI_any Q0 L _ W (I.below h))
  rw [if_pos hok] at HLO
  have HLM:=hid (fun W (h : Below w.heap.size w W)=>longN_any 15 (by decide) roots _ W (hr.below h))
  rw [if_pos hrk] at HLM
  have HLS:=hid (fun W (h : Below w.heap.size w W)=>longN_any 15 (by decide) sel _ W (hs.below h))
  rw [if_pos hsk] at HLS
  have hl1 : ¬ (xp.size : Int) <= 70:=by omega
  have hl1' : (70 : Int) < (xp.size : Int):=by omega
  clear S htab I hok hr hs hrk hsk
  go_enter Tryz.func9,Tryz.ntmps9
  go_wp2_with fail
  refine HIN.out.mono ?_
  rintro e w1 ⟨rfl,hb⟩
  have HB1:=hid (HB0.out.trans (hb.mono HB0.out.size))
  have HM1:=hid ((hb.block _ (lt_of_blk HM0.out)).trans HM0.out)
  clear hb
  go_wp2_with fail
  refine (HLO.out w1 HB1.out).mono ?_
  rintro e w2 ⟨rfl,hb⟩
  have HB2:=hid (HB1.out.trans (hb.mono HB1.out.size))
  have HM2:=hid ((hb.block _ (lt_of_blk HM1.out)).trans HM1.out)
  clear hb
  go_wp2_with fail
  refine (HLM.out w2 HB2.out).mono ?_
  rintro e w2a ⟨rfl,rfl⟩
  go_wp2_with fail
  refine (HLS.out w2a HB2.out).mono ?_
  rintro e w2b ⟨rfl,rfl⟩
  obtain ⟨p0,p1,pf⟩:=box_two HM2.out
  go_wp2_with fail
  go_ret
  exact ⟨rfl,HB2.out⟩
set_option maxRecDepth 100000 in
set_option maxHeartbeats 2000000 in
theorem ut_long4 (Q0 : List Raw) (L : List Ent) (roots : List Bm) (x : Bm) (sel : List Bm) (v u s : Value) (A : Nat -> Addr) (m : Int) (w : World) (S : Te w A m) (htab : Lib.TabIs Tryz.prog w powName .u64 Lib.pow10Tab) (I : Ixs w v Q0 L) (hr : MsAt w u roots) (hs : MsAt w s sel) (hok : okI L = true) (hrk : okLN 15 roots = true) (hsk : okLN 15 sel = true) (hx1 : x.1.size <= 70) (hx2 : ¬ x.2.size <= 60) :
    Calls Tryz.prog 9 #[v,u,.agg #[.string x.1,.string x.2],s] w fun e w'=>e = .returned (.bool true) /\ Below w.heap.size w w':=by
  obtain ⟨xp,xq⟩:=x
  simp only at hx1 hx2 ⊢
  obtain ⟨a0,c0,hv0,-⟩:=id I.es
  subst hv0
  obtain ⟨ra,rc,hu0,-⟩:=id hr
  subst hu0
  obtain ⟨sa,sc,hs0,-⟩:=id hs
  subst hs0
  have HB0:=hid ((Below.refl w.heap.size w).alloc (Nat.le_refl _) (.cells #[.string xp,.string xq] 25))
  have HM0:=hid (heap_new w (.cells #[.string xp,.string xq] 25))
  have HIN:=hid (upped_any A m _ (S.below HB0.out) (tab_below htab HB0.out))
  have HLO:=hid (fun W (h : Below w.heap.size w W)=>longI_any Q0 L _ W (I.below h))
  rw [if_pos hok] at HLO
  have HLM:=hid (fun W (h : Below w.heap.size w W)=>longN_any 15 (by decide) roots _ W (hr.below h))
  rw [if_pos hrk] at HLM
  have HLS:=hid (fun W (h : Below w.heap.size w W)=>longN_any 15 (by decide) sel _ W (hs.below h))
  rw [if_pos hsk] at HLS
  have hl1 : (xp.size : Int) <= 70:=by omega
  have hl2 : ¬ (xq.size : Int) <= 60:=by omega
  have hl2' : (60 : Int) < (xq.size : Int):=by omega
  clear S htab I hok hr hs hrk hsk
  go_enter Tryz.func9,Tryz.ntmps9
  go_wp2_with fail
  refine HIN.out.mono ?_
  rintro e w1 ⟨rfl,hb⟩
  have HB1:=hid (HB0.out.trans (hb.mono HB0.out.size))
  have HM1:=hid ((hb.block _ (lt_of_blk HM0.out)).trans HM0.out)
  clear hb
  go_wp2_with fail
  refine (HLO.out w1 HB1.out).mono ?_
  rintro e w2 ⟨rfl,hb⟩
  have HB2:=hid (HB1.out.trans (hb.mono HB1.out.size))
  have HM2:=hid ((hb.block _ (lt_of_blk HM1.out)).trans HM1.out)
  clear hb
  go_wp2_with fail
  refine (HLM.out w2 HB2.out).mono ?_
  rintro e w2a ⟨rfl,rfl⟩
  go_wp2_with fail
  refine (HLS.out w2a HB2.out).mono ?_
  rintro e w2b ⟨rfl,rfl⟩
  obtain ⟨p0,p1,pf⟩:=box_two HM2.out
  go_wp2_with fail
  go_ret
  exact ⟨rfl,HB2.out⟩
theorem upTells_any (Q0 : List Raw) (L : List Ent) (roots : List Bm) (x : Bm) (sel : List Bm) (v u s : Value) (A : Nat → Addr) (m : Int) (w : World) (S : Te w A m) (N : Er.Sen w A) (htab : Lib.TabIs Tryz.prog w powName .u64 Lib.pow10Tab) (I : Ixs w v Q0 L) (em : EmI Q0 L) (hr : MsAt w u roots) (her : Em u roots) (hs : MsAt w s sel) (hes : Em s sel) :
    Calls Tryz.prog 9 #[v,u,.agg #[.string x.1,.string x.2],s] w fun e w'=>e = .returned (.bool true) /\ Below w.heap.size w w':=by
  cases hok : okI L with
  | false=>exact ut_long1 Q0 L roots x sel v u s A m w S htab I hr hs hok
  | true=>
    cases hrk : okLN 15 roots <;> cases hsk : okLN 15 sel
    case true.true=>
      by_cases hx1 : x.1.size <= 70
      · by_cases hx2 : x.2.size <= 60
        · exact ut_main Q0 L roots x sel v u s A m w S N htab I em hr her hs hes hok hrk hsk hx1 hx2
        · exact ut_long4 Q0 L roots x sel v u s A m w S htab I hr hs hok hrk hsk hx1 hx2
      · exact ut_long3 Q0 L roots x sel v u s A m w S htab I hr hs hok hrk hsk hx1
    all_goals exact ut_long2 Q0 L roots x sel v u s A m w S htab I hr hs _ _ hok rfl rfl (by rw [hrk,hsk]; decide)
end Ve
end Go.Proofs.YtlcffhadobhfkaaGreatDoor
