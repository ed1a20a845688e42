/-
  The closed fact of chapter 7 (upped): all that is newer, in a small index; FindOf of any index.
-/
import Derived.Test.YtanponneancajaaGreatDoorBn6
import Derived.Deep.DeepCutAuto
import Derived.Deep.RegionHeld
import Derived.Test.YtanponneancajaaGreatDoorBn1
import Derived.Deep.SlicePairs
import Derived.Lib.SmallJoins
import Derived.SliceStrings
import Derived.ProofKit
import Derived.LaidMore
import Derived.Lay
import Derived.Stop.Joined
import Derived.HandedShaped
import Derived.LaidLaws
import Derived.Below
import Derived.Test.YtanponneancajaaGreatDoorRows
import Derived.Test.YtanponneancajaaGreatDoorCode
import Derived.Test.YtanponneancajaaGreatDoorTe
import Derived.LaidHandle
import Derived.Stop.LaidTwo
import Derived.Shelf.Vars
import Derived.Carry
namespace Go.Proofs.YtanponneancajaaGreatDoor
open Go.RowKit Go.Maps
namespace Ve

theorem bX_of {w : World} {v : Value} {Q : List Raw} {L : List Ent} {roots D E : List Bm} (I : Ixs w v Q L) (h : (chkG Q L roots).1 = 0) (hD : ∀ m, Rch (reqQ Q L) roots m ↔ m ∈ D) (j : Jn D E) : bX Q L roots = E :=
  (bX_jn Q L roots).one j (fun m _ => by rw [rX_mem I h, hD])
theorem sm_r0 (g : Nat) : reqQ (smQ g) smL ma0 = [] := by kernel_rfl
theorem sm_chkG3 (g : Nat) : (chkG (smQ g) smL [ma0]).1 = 0 := by
  rw [chkG_ok (by rw [sm_chk])]
  show codeE (nonE (smQ g) [ma0]) 1 = 0
  kernel_rfl
theorem sm_chkG4 (g : Nat) : (chkG (smQ g) smL [ma1, mb0, ma1, mb0]).1 = 0 := by
  rw [chkG_ok (by rw [sm_chk])]
  show codeE (nonE (smQ g) [ma1, mb0, ma1, mb0]) 4 = 0
  kernel_rfl
theorem rch_sm {g : Nat} {R D : List Bm} (hR : ∀ m, m ∈ R → m ∈ D) (hD : ∀ p, p ∈ D → ∀ m, m ∈ reqQ (smQ g) smL p → m ∈ D) {m : Bm} (h : Rch (reqQ (smQ g) smL) R m) : m ∈ D := by
  induction h with
  | root hr => exact hR _ hr
  | step _ hr ih => exact hD _ ih _ hr
theorem sm_in {g : Nat} {p m : Bm} (hp : p ∈ [ma0, ma1, mb0]) (hm : m ∈ reqQ (smQ g) smL p) : p = ma1 ∧ m = mb0 := by
  rcases List.mem_cons.1 hp with rfl | hp
  · rw [sm_r0] at hm; cases hm
  · rcases List.mem_cons.1 hp with rfl | hp
    · rw [sm_r1] at hm; exact ⟨rfl, List.mem_singleton.1 hm⟩
    · rw [List.mem_singleton.1 hp, sm_rb] at hm; cases hm
theorem ma0_ne : ma0 ≠ ma1 := fun e => absurd (congrArg (fun m : Bm => m.2.data) e) (by decide)
theorem rch0 {g : Nat} (m : Bm) : Rch (reqQ (smQ g) smL) [ma0] m ↔ m ∈ [ma0] := by
  refine ⟨fun h => rch_sm (fun _ h => h) (fun p hp m hm => ?_) h, fun h => .root h⟩
  have := List.mem_singleton.1 hp
  subst this
  exact absurd (sm_in (by simp) hm).1 ma0_ne
theorem rch1 {g : Nat} (m : Bm) : Rch (reqQ (smQ g) smL) [ma0, ma1] m ↔ m ∈ [ma0, ma1, mb0] := by
  refine ⟨fun h => rch_sm (fun m h => ?_) (fun p hp m hm => ?_) h, fun h => ?_⟩
  · rcases List.mem_cons.1 h with rfl | h
    · simp
    · rw [List.mem_singleton.1 h]; simp
  · rw [(sm_in hp hm).2]; simp
  · rcases List.mem_cons.1 h with rfl | h
    · exact .root (by simp)
    · rcases List.mem_cons.1 h with rfl | h
      · exact .root (by simp)
      · rw [List.mem_singleton.1 h]
        exact .step (.root (show ma1 ∈ [ma0, ma1] by simp)) (by rw [sm_r1]; simp)
theorem rch2 {g : Nat} (m : Bm) : Rch (reqQ (smQ g) smL) [ma1, mb0, ma1, mb0] m ↔ m ∈ [ma1, mb0] := by
  refine ⟨fun h => rch_sm (fun m h => ?_) (fun p hp m hm => ?_) h, fun h => .root ?_⟩
  · have h3 : m = ma1 ∨ m = mb0 ∨ m = ma1 ∨ m = mb0 := by simpa using h
    rcases h3 with rfl | rfl | rfl | rfl <;> simp
  · rw [(sm_in (List.mem_cons_of_mem _ hp) hm).2]; simp
  · rcases List.mem_cons.1 h with rfl | h
    · simp
    · rw [List.mem_singleton.1 h]; simp
theorem sm_m0 : mErr ma0 = 0 := by kernel_rfl
theorem sm_m1 : mErr ma1 = 0 := by kernel_rfl
theorem sm_mb : mErr mb0 = 0 := by kernel_rfl
theorem jn0 : Jn [ma0] [ma0] := ⟨List.pairwise_singleton _ _, fun e he => ⟨he, by rw [List.mem_singleton.1 he]; exact sm_m0⟩, fun x hx _ => ⟨x, hx, rfl, by rw [List.mem_singleton.1 hx]; exact ordV_selfJ sm_m0⟩⟩
theorem jn2 : Jn [ma1, mb0] [ma1, mb0] := by
  refine ⟨sm_jn.ri, fun e he => ⟨he, (sm_jn.sub e he).2⟩, fun x hx h0 => ⟨x, hx, rfl, ordV_selfJ h0⟩⟩
theorem sm_ordA : ordV ma0.2.data.toList ma1.2.data.toList < 0 := of_decide_eq_true (by kernel_rfl)
theorem sm_keptA (g : Nat) : KeptT (smQ g) ma0.1 [ma0.2, ma1.2] := by
  have e : verL (bestR (ofP ma0.1 (smQ g))) = [ma0.2, ma1.2] := by kernel_rfl
  unfold KeptT
  rw [e]
  refine ⟨List.pairwise_cons.2 ⟨fun t ht => ?_, List.pairwise_singleton _ _⟩, fun t => ⟨fun ht => ⟨ht, ?_⟩, fun ht => ht.1⟩⟩
  · rw [List.mem_singleton.1 ht]; exact sm_ordA
  · have : t = ma0.2.data.toList ∨ t = ma1.2.data.toList := by simpa [bl] using ht
    rcases this with rfl | rfl
    · exact (mErr_zero sm_m0).2
    · exact (mErr_zero sm_m1).2
theorem sm_keptB (g : Nat) : KeptT (smQ g) mb0.1 [mb0.2] := by
  have e : verL (bestR (ofP mb0.1 (smQ g))) = [mb0.2] := by kernel_rfl
  unfold KeptT
  rw [e]
  refine ⟨List.pairwise_singleton _ _, fun t => ⟨fun ht => ⟨ht, ?_⟩, fun ht => ht.1⟩⟩
  have : t = mb0.2.data.toList := by simpa [bl] using ht
  rw [this]
  exact (mErr_zero sm_mb).2
theorem sm_latA (g : Nat) : latV (smQ g) ma0.1 = ma1.2 := (latV_of (sm_keptA g)).symm.trans rfl
theorem sm_latB (g : Nat) : latV (smQ g) mb0.1 = mb0.2 := (latV_of (sm_keptB g)).symm.trans rfl
theorem sm_up0 {w : World} {v : Value} {g : Nat} (I : Ixs w v (smQ g) smL) : bX (smQ g) smL [ma0] = [ma0] := bX_of I (sm_chkG3 g) rch0 jn0
theorem sm_up1 {w : World} {v : Value} {g : Nat} (I : Ixs w v (smQ g) smL) : upF (smQ g) smL [ma0] = [ma1, mb0] := by
  have e : [ma0] ++ latL (smQ g) [ma0] = [ma0, ma1] := by
    show [ma0, (ma0.1, latV (smQ g) ma0.1)] = [ma0, ma1]
    rw [sm_latA]; rfl
  unfold upF
  rw [e]
  exact bX_of I (sm_chkG2 g) rch1 sm_jn
theorem sm_up2 {w : World} {v : Value} {g : Nat} (I : Ixs w v (smQ g) smL) : upF (smQ g) smL [ma1, mb0] = [ma1, mb0] := by
  have e : [ma1, mb0] ++ latL (smQ g) [ma1, mb0] = [ma1, mb0, ma1, mb0] := by
    show [ma1, mb0, (ma1.1, latV (smQ g) ma0.1), (mb0.1, latV (smQ g) mb0.1)] = [ma1, mb0, ma1, mb0]
    rw [sm_latA, sm_latB]
  unfold upF
  rw [e]
  exact bX_of I (sm_chkG4 g) rch2 jn2
theorem sm_fix {w : World} {v : Value} {g : Nat} (I : Ixs w v (smQ g) smL) : Fix (smQ g) smL (bX (smQ g) smL [ma0]) [ma1, mb0] :=
  ⟨⟨1, by show [ma1, mb0] = upF (smQ g) smL (bX (smQ g) smL [ma0]); rw [sm_up0 I, sm_up1 I]⟩, sm_up2 I⟩
theorem sm_sz (g : Nat) : ∀ r, r ∈ smQ g → r.1.1.size ≤ 80 ∧ r.1.2.size ≤ 80 := fun r hr => by
  have : r = (ma0, .slice none 0 0, .slice none 0 0, false) ∨ r = (ma1, .slice (some ⟨g, 0, none⟩) 1 1, .slice none 0 0, false) ∨ r = (mb0, .slice none 0 0, .slice none 0 0, false) := by simpa [smQ] using hr
  rcases this with rfl | rfl | rfl
  · exact ⟨show ma0.1.size ≤ 80 by decide, show ma0.2.size ≤ 80 by decide⟩
  · exact ⟨show ma1.1.size ≤ 80 by decide, show ma1.2.size ≤ 80 by decide⟩
  · exact ⟨show mb0.1.size ≤ 80 by decide, show mb0.2.size ≤ 80 by decide⟩
set_option maxRecDepth 100000 in
set_option maxHeartbeats 4000000 in
/-- pewholderlaw2.upped. -/
theorem upped_any (A : Nat → Addr) (m : Int) (w : World) (S : Te w A m) (htab : Lib.TabIs Tryz.prog w powName .u64 Lib.pow10Tab) : Calls Tryz.prog 28 #[] w fun e w' => e = .returned (.bool true) ∧ Below w.heap.size w w' := by
  have HSM := hid smallI_any
  have HS := hid S
  have HT := hid htab
  clear S htab
  go_enter Tryz.func28, Tryz.ntmps28
  go_wp2_with fail
  refine (HSM.out w).mono ?_
  rintro e w1 ⟨g, q, rfl, hix, hb⟩
  have hBa := (Below.refl w1.heap.size w1).alloc (Nat.le_refl _) (.cells #[.string ⟨#[97]⟩, .string ⟨#[118, 49, 46, 48, 46, 48]⟩] 51)
  have hB1 := hb.trans (hBa.mono hb.size)
  have hms : MsAt (w1.alloc (.cells #[.string ⟨#[97]⟩, .string ⟨#[118, 49, 46, 48, 46, 48]⟩] 51)) (.slice (some ⟨w1.heap.size, 0, none⟩) 1 1) [ma0] := ms_single (x := ma0) (heap_new w1 _)
  have HAL := hid (all_good (smQ g) smL [ma0] _ _ A m _ (by decide) (by decide) (sm_sz g) sm_sh (HS.out.below hB1) (tab_below HT.out hB1) (hix.below hBa) hms (sm_chkG3 g))
  have HFX := hid (sm_fix hix)
  have HB1 := hid hB1
  clear hix hb hBa hms hB1
  go_wp2_with fail
  refine HAL.out.mono ?_
  rintro e w2 ⟨ua, uc, E, rfl, hM, hR⟩
  have hE := hR.fx.one HFX.out
  subst hE
  have HB2 := hid (HB1.out.trans (hM.1.mono HB1.out.size))
  obtain ⟨_, ua', uc', he, huc, hk⟩ := hM
  injection he with he1 he2 he3
  subst he1 he3
  obtain ⟨ug, rfl, hmw⟩ : ∃ g, ua = some ⟨g, 0, none⟩ ∧ Mw _ w2 g [ma1, mb0] := by
    rcases hk with ⟨h, _⟩ | h
    · cases h
    · exact h
  have k1 : w2.cell? ⟨ug, 1, none⟩ = some (.string ⟨#[118, 49, 46, 49, 46, 48]⟩) := hmw.c1 0 (by decide)
  have s1 : ((⟨#[118, 49, 46, 49, 46, 48]⟩ : ByteArray).toList == (⟨#[118, 49, 46, 49, 46, 48]⟩ : ByteArray).toList) = true := by simp
  rw [show ([ma1, mb0] : List Bm).length = 2 from rfl]
  clear hR hk hmw HAL he2 huc HFX
  go_wp2_with fail
  go_ret
  exact ⟨rfl, HB2.out⟩end Ve
end Go.Proofs.YtanponneancajaaGreatDoor

/-
  pewholderlaw2.UpNews walked: of what All answers there are no news; it is over what was built, and built of itself; one more is over what was built, and has it.
-/
namespace Go.Proofs.YtanponneancajaaGreatDoor
open Go.RowKit Go.Maps
namespace Ve

theorem okI_L30 {L : List Ent} (h : okI L = true) : L.length ≤ 101 := by rcases (okI_iff h).1 with h | h <;> omega
theorem errA5 (A : Nat → Addr) : errA A 5 = .iface 286 (.pointer (some (A 4))) := rfl
set_option maxRecDepth 100000 in
set_option maxHeartbeats 8000000 in
theorem un_main (Q0 : List Raw) (L : List Ent) (roots : List Bm) (x : Bm) (v u : Value) (A : Nat → Addr) (m : Int) (w : World) (S : Te w A m) (htab : Lib.TabIs Tryz.prog w powName .u64 Lib.pow10Tab) (I : Ixs w v Q0 L) (em : EmI Q0 L) (hr : MsAt w u roots) (her : Em u roots) (hok : okI L = true) (hrk : okLN 15 roots = true) (hx1 : x.1.size ≤ 70) (hx2 : x.2.size ≤ 60) :
    Calls Tryz.prog 5 #[v, u, .agg #[.string x.1, .string x.2]] w fun e w' => e = .returned (.bool true) ∧ Below w.heap.size w w' := by
  obtain ⟨xp, xq⟩ := x
  simp only at hx1 hx2 ⊢
  obtain ⟨a0, c0, hv0, -⟩ := id I.es
  subst hv0
  obtain ⟨ra, rc, hu0, -⟩ := id hr
  subst hu0
  have hn101 : L.length ≤ 101 := okI_L30 hok
  have hr15 : roots.length ≤ 15 := (okLN_iff hrk).1
  have HB0 := hid ((Below.refl w.heap.size w).alloc (Nat.le_refl _) (.cells #[.string xp, .string xq] 51))
  have HM0 := hid (heap_new w (.cells #[.string xp, .string xq] 51))
  have HIN := hid (upped_any A m _ (S.below HB0.out) (tab_below htab HB0.out))
  have HLO := hid (fun W (h : Below w.heap.size w W) => longI_any Q0 L _ W (I.below h))
  rw [if_pos hok] at HLO
  have HLM := hid (fun W (h : Below w.heap.size w W) => longN_any 15 (by decide) roots _ W (hr.below h))
  rw [if_pos hrk] at HLM
  have HOW := hid (fun W (h : Below w.heap.size w W) => ownI_any Q0 L _ W (by omega) (I.below h) em (okI_fits hok))
  have HOM := hid (fun W (h : Below w.heap.size w W) => ownM_any _ roots W (by omega) (hr.below h) her)
  have HFO := hid (fun W (h : Below w.heap.size w W) => findOf_allJ Q0 (xp, xq) _ W (by rw [I.ln]; omega) (I.below h).es)
  have HS := hid (fun W (h : Below w.heap.size w W) => S.below h)
  have HT := hid (fun W (h : Below w.heap.size w W) => tab_below htab h)
  have HSH := hid (okI_sh hok)
  have HU0 := hid I
  have HZ0 := hid (fun W v' Q' (J : Ixs W v' Q' L) => ixs_sz J hok)
  have hl1 : (xp.size : Int) ≤ 70 := by omega
  have hl2 : (xq.size : Int) ≤ 60 := by omega
  have HXZ := hid (show xq.size < 999999 by omega)
  clear S I em hok hr her hrk htab
  go_enter Tryz.func5, Tryz.ntmps5
  go_wp2_with fail
  refine HIN.out.mono ?_
  rintro e w1 ⟨rfl, hb⟩
  have HB1 := hid (HB0.out.trans (hb.mono HB0.out.size))
  have HM1 := hid ((hb.block _ (lt_of_blk HM0.out)).trans HM0.out)
  clear hb
  go_wp2_with fail
  refine (HLO.out w1 HB1.out).mono ?_
  rintro e w2 ⟨rfl, hb⟩
  have HB2 := hid (HB1.out.trans (hb.mono HB1.out.size))
  have HM2 := hid ((hb.block _ (lt_of_blk HM1.out)).trans HM1.out)
  clear hb
  go_wp2_with fail
  refine (HLM.out w2 HB2.out).mono ?_
  rintro e w2' ⟨rfl, rfl⟩
  obtain ⟨p0, p1, pf⟩ := box2J HM2.out
  go_wp2_with fail
  refine (HOW.out w2' HB2.out).mono ?_
  rintro e w3 ⟨ou, Q, rfl, hO, hb⟩
  have HB3 := hid (HB2.out.trans (hb.mono HB2.out.size))
  have HM3 := hid ((hb.block _ (lt_of_blk HM2.out)).trans HM2.out)
  have HIX := hid (fun W (h : Below w3.heap.size w3 W) => hO.ixs.below h)
  have HI3 := hid hO.ixs
  have HZQ := hid (HZ0.out _ _ _ hO.ixs)
  obtain ⟨oa, oc, hou, -⟩ := id hO.ixs.es
  subst hou
  have HBW := hid (fun W (h : Below w3.heap.size w3 W) => HB3.out.trans (h.mono HB3.out.size))
  have HUS := hid (fun (R : List Bm) (h : ∀ y, y ∈ R → y ∈ univ L) (y : Bm) (hy : y ∈ R) => (univ_szJ HSH.out (h y hy)).2)
  have HUN := hid (fun (X E : List Bm) (a b : Value) W (h : Below w3.heap.size w3 W) (lX : X.length ≤ 1000) (lE : E.length ≤ 1000) (sX : ∀ y, y ∈ X → y.2.size < 999999) (sE : ∀ y, y ∈ E → y.2.size < 999999) (hX : MsAt W a X) (hE : MsAt W b E) => und_any X E a b A m W (by omega) (by omega) sX sE (HS.out W (HBW.out W h)) hX hE)
  clear hb hO p0 p1 pf HLO HLM HOW HIN HB1 HB2 HM0 HM1 HM2
  have HB3' := HB3
  clear HB3
  have HB3 := hid (Below.refl w3.heap.size w3)
  go_wp2_with fail
  refine (HOM.out w3 (HBW.out _ HB3.out)).mono ?_
  rintro e w4 ⟨u4, rfl, ho, -, hb⟩
  have HB4 := hid (HB3.out.trans (hb.mono HB3.out.size))
  have HR4 := hid (mr_own ho hb)
  have HM4 := hid ((hb.block _ (lt_of_blk HM3.out)).trans HM3.out)
  obtain ⟨a4, c4, hu4⟩ := HR4.out.sl
  subst hu4
  clear ho hb
  by_cases hca : (chkG Q L roots).1 = 0
  rotate_left
  · have HBU := hid (build_bad Q L roots _ _ A m w4 (by omega) (by omega) HSH.out (HS.out _ (HBW.out _ HB4.out)) (HIX.out _ HB4.out) HR4.out.ms hca)
    clear hca
    go_wp2_with fail
    refine HBU.out.mono ?_
    rintro e w5 ⟨T, ea, rfl, -, hb⟩
    have HB5 := hid (HBW.out _ (HB4.out.trans (hb.mono HB4.out.size)))
    clear hb HBU
    go_wp2_with fail
    go_ret
    exact ⟨rfl, HB5.out⟩
  have HCA := hid hca
  have HCK := hid (chkG_chk hca)
  have HBU := hid (build_all Q L roots _ _ A m w4 (by omega) (by omega) HSH.out (HS.out _ (HBW.out _ HB4.out)) (HIX.out _ HB4.out) HR4.out.ms)
  rw [rF_good hca] at HBU
  have HAL := hid (fun (R : List Bm) W a (h : Below w3.heap.size w3 W) (lR : R.length ≤ 1000) (hR : MsAt W a R) (hg : (chkG Q L R).1 = 0) => all_good Q L R _ a A m W (by omega) (by omega) HZQ.out HSH.out (HS.out _ (HBW.out _ h)) (HT.out _ (HBW.out _ h)) (HIX.out _ h) hR hg)
  have HNW := hid (fun (E : List Bm) W a (h : Below w3.heap.size w3 W) (lE : E.length ≤ 1000) (sE : ∀ y, y ∈ E → y.2.size < 999999) (hE : MsAt W a E) (h1 : risB2 E = true) => news_good Q L E _ a A m W (by omega) lE HZQ.out sE HSH.out (HS.out _ (HBW.out _ h)) (HT.out _ (HBW.out _ h)) (HIX.out _ h) hE HCK.out h1)
  have HXU := hid (show ∀ y, y ∈ bX Q L roots → y ∈ univ L from bX_univ)
  have HXL := hid (show (bX Q L roots).length ≤ 1000 from Nat.le_trans bX_len (by omega))
  have HZO := hid (fun (hx : (xp, xq) ∈ univ L) => show undB (bX Q L roots) (bX Q L (roots ++ [(xp, xq)])) = true ∧ undB [(xp, xq)] (bX Q L (roots ++ [(xp, xq)])) = true by
    have hg : (chkG Q L (roots ++ [(xp, xq)])).1 = 0 := chkG_in HI3.out HCK.out fun y hy => by
      rcases List.mem_append.1 hy with h | h
      · exact (rgt_of HI3.out HCA.out).r y h
      · rw [List.mem_singleton.1 h]; exact hx
    exact ⟨bX_over HI3.out hg fun y hy => (bX_in HI3.out HCA.out hy).mono fun _ h => List.mem_append_left _ h, bX_over HI3.out hg fun y hy => .root (List.mem_append_right _ hy)⟩)
  have HONE := hid (fun W a (h : Below w3.heap.size w3 W) (hR : MsAt W a roots) (eR : Em a roots) (hx : (xp, xq) ∈ univ L) => one_good Q L roots (xp, xq) _ a A m W (by omega) (by omega) HSH.out (HS.out _ (HBW.out _ h)) (HIX.out _ h) hR eR HCA.out hx)
  have HONN := hid (fun W a (h : Below w3.heap.size w3 W) (hR : MsAt W a roots) (hx : ¬ (xp, xq) ∈ univ L) => one_not Q L roots (xp, xq) _ a A m W (by omega) (by omega) HSH.out (HS.out _ (HBW.out _ h)) (HIX.out _ h) hR HCA.out hx)
  have HZU := hid (show ∀ y, y ∈ bX Q L (roots ++ [(xp, xq)]) → y ∈ univ L from bX_univ)
  have HZL := hid (show (bX Q L (roots ++ [(xp, xq)])).length ≤ 1000 from Nat.le_trans bX_len (by omega))
  have HEP := hid (fun E (hA : AllR Q L roots E) => show newsL Q E = [] ∧ (chkG Q L E).1 = 0 ∧ (∀ F, AllR Q L E F → F = E) ∧ risB2 E = true ∧ undB (bX Q L roots) E = true from ⟨newsL_none (up_news HI3.out HCK.out hA.sl hA.la hA.fx.f), chkG_in HI3.out HCK.out hA.sl.un, fun F hF => by
    have h := hF.fx
    rw [up_again HI3.out HCK.out hA.sl hA.la hA.fx.f] at h
    exact h.one (Fix.self hA.fx.f), risB2_iff.2 hA.sl.ri, hA.ov⟩)
  have HEL := hid (fun E (hA : AllR Q L roots E) => show E.length ≤ 1000 by
    have h := hA.fx.f
    have h2 : (upF Q L E).length ≤ L.length := bX_len
    rw [h] at h2; omega)
  clear hca
  generalize bX Q L roots = X at *
  go_wp2_with fail
  refine HBU.out.mono ?_
  rintro e w5 ⟨xa, xc, y5, rfl, hm5, he5⟩
  have he5 : y5 = .nilIface := he5
  subst he5
  have HB5 := hid (HB4.out.trans (hm5.1.mono HB4.out.size))
  have HM5 := hid ((hm5.1.block _ (lt_of_blk HM4.out)).trans HM4.out)
  have HMX5 := hid (hm5.ms)
  clear hm5 HBU HB4 HM4 HR4
  go_wp2_with fail
  refine (HOM.out w5 (HBW.out _ HB5.out)).mono ?_
  rintro e w6 ⟨u6, rfl, ho, -, hb⟩
  have HB6 := hid (HB5.out.trans (hb.mono HB5.out.size))
  have HR6 := hid (mr_own ho hb)
  have HM6 := hid ((hb.block _ (lt_of_blk HM5.out)).trans HM5.out)
  obtain ⟨a6, c6, hu6⟩ := HR6.out.sl
  subst hu6
  have HMX6 := hid (HMX5.out.below hb)
  clear ho hb
  have HAE := hid (HAL.out roots w6 _ HB6.out (by omega) HR6.out.ms HCA.out)
  clear HB5 HM5 HMX5
  go_wp2_with fail
  refine HAE.out.mono ?_
  rintro e w7 ⟨ya, yc, E, rfl, hm7, hA⟩
  have HB7 := hid (HB6.out.trans (hm7.1.mono HB6.out.size))
  have HM7 := hid ((hm7.1.block _ (lt_of_blk HM6.out)).trans HM6.out)
  have HMX7 := hid (HMX6.out.below hm7.1)
  have HMY7 := hid (hm7.ms)
  have HEE := hid (HEP.out E hA)
  have HEZ := hid (HEL.out E hA)
  have HEU := hid (hA.sl.un)
  obtain ⟨hnw, hcE, hone, hri, hov⟩ := HEE.out
  have HN1 := hid hnw
  have HCE := hid hcE
  have HON := hid hone
  have HUE := hid (HUN.out X E _ _ w7 HB7.out HXL.out HEZ.out (HUS.out X HXU.out) (HUS.out E HEU.out) HMX7.out HMY7.out)
  rw [hov] at HUE
  have HRI := hid hri
  clear hm7 hA HEE hnw hcE hone hri hov HAE HB6 HM6 HR6 HMX6
  go_wp2_with fail
  refine HUE.out.mono ?_
  rintro e w8 ⟨rfl, hb⟩
  have HB8 := hid (HB7.out.trans (hb.mono HB7.out.size))
  have HM8 := hid ((hb.block _ (lt_of_blk HM7.out)).trans HM7.out)
  have HMX8 := hid (HMX7.out.below hb)
  have HMY8 := hid (HMY7.out.below hb)
  have HNE := hid (HNW.out E w8 _ HB8.out HEZ.out (HUS.out E HEU.out) HMY8.out HRI.out)
  rw [HN1.out] at HNE
  clear hb HB7 HM7 HMX7 HMY7 HUE HNW
  go_wp2_with fail
  refine HNE.out.mono ?_
  rintro e w9 ⟨nu, rfl, hno, hb⟩
  have HB9 := hid (HB8.out.trans (hb.mono HB8.out.size))
  have HM9 := hid ((hb.block _ (lt_of_blk HM8.out)).trans HM8.out)
  have HMX9 := hid (HMX8.out.below hb)
  have HMY9 := hid (HMY8.out.below hb)
  obtain ⟨na, nc, hnu⟩ := own_slN hno
  subst hnu
  rw [show ([] : List Bm).length = 0 from rfl]
  have HAF := hid (HAL.out E w9 _ HB9.out HEZ.out HMY9.out HCE.out)
  clear hb hno HB8 HM8 HMX8 HMY8 HNE HAL
  go_wp2_with fail
  refine HAF.out.mono ?_
  rintro e w10 ⟨fa, fc, F, rfl, hm10, hA⟩
  have hF := HON.out F hA
  subst hF
  have HB10 := hid (HB9.out.trans (hm10.1.mono HB9.out.size))
  have HM10 := hid ((hm10.1.block _ (lt_of_blk HM9.out)).trans HM9.out)
  have HMX10 := hid (HMX9.out.below hm10.1)
  have HMY10 := hid (HMY9.out.below hm10.1)
  have HSA := hid (sameM_any F _ _ w10 (Nat.le_trans HEZ.out (by decide)) hm10.ms (HMY9.out.below hm10.1))
  clear hm10 hA HON HB9 HM9 HMX9 HMY9 HAF
  go_wp2_with fail
  refine HSA.out.mono ?_
  rintro e w11 ⟨rfl, hb⟩
  have HB11 := hid (HB10.out.trans (hb.mono HB10.out.size))
  have HM11 := hid ((hb.block _ (lt_of_blk HM10.out)).trans HM10.out)
  have HMX11 := hid (HMX10.out.below hb)
  clear hb HB10 HM10 HMX10 HMY10 HSA
  go_wp2_with fail
  obtain ⟨q0, q1, qf⟩ := box2J HM11.out
  have HTT := hid (fun W' (hW : Below w11.heap.size w11 W') => (show (fun W' => W'.cell? ⟨w.heap.size, 0, none⟩ = some (.string xp) ∧ W'.cell? ⟨w.heap.size, 1, none⟩ = some (.string xq) ∧ Hid (Below w11.heap.size w11 W')) W' from ⟨cell_below hW q0, cell_below hW q1, hid hW⟩))
  have HW1 := hid (fun W' (hW : Below w11.heap.size w11 W') => HB11.out.trans (hW.mono HB11.out.size))
  by_cases hx : (xp, xq) ∈ univ L
  · have HXX := hid hx
    obtain ⟨ho1, ho2⟩ := HZO.out hx
    have HO1 := hid ho1
    have HO2 := hid ho2
    clear hx ho1 ho2 HONN HZO
    generalize bX Q L (roots ++ [(xp, xq)]) = Z at *
    go_region_held (fun W' => W'.cell? ⟨w.heap.size, 0, none⟩ = some (.string xp) ∧ W'.cell? ⟨w.heap.size, 1, none⟩ = some (.string xq) ∧ Hid (Below w11.heap.size w11 W')) (first | exact HTT.out _ HRb.out | exact HTT.out _ HRa.out | exact HTT.out _ (below_drawn _ 1)) (first
      | (go_at_call 31; refine (HOM.out _ (HBW.out _ (HW1.out _ (below_drawn _ 1)))).mono ?_; rintro e w12 ⟨u12, rfl, ho, -, hb⟩; have HRa := hid ((below_drawn w11 1).trans (hb.mono (Nat.le_refl _))); have HR12 := hid (mr_own ho hb); obtain ⟨a12, c12, hu12⟩ := HR12.out.sl; subst hu12; clear ho hb)
      | (go_at_call 36; refine (HONE.out w12 _ (HW1.out _ HRa.out) HR12.out.ms HR12.out.em HXX.out).mono ?_; rintro e w13 ⟨za, zc, rfl, hm13⟩; have HRb := hid (HRa.out.trans (hm13.1.mono HRa.out.size)); have HMZ13 := hid hm13.ms; clear hm13))
    all_goals
      have HB13 := hid (HW1.out _ HRb.out)
      have HM13 := hid ((HRb.out.block _ (lt_of_blk HM11.out)).trans HM11.out)
      have HMX13 := hid (HMX11.out.below HRb.out)
      have HUX := hid (HUN.out X Z _ _ w13 HB13.out HXL.out HZL.out (HUS.out X HXU.out) (HUS.out Z HZU.out) HMX13.out HMZ13.out)
      rw [HO1.out] at HUX
      clear q0 q1 qf
      go_wp2_with fail
      refine HUX.out.mono ?_
      rintro e w14 ⟨rfl, hb⟩
      have HB14 := hid (HB13.out.trans (hb.mono HB13.out.size))
      have HM14 := hid ((hb.block _ (lt_of_blk HM13.out)).trans HM13.out)
      have HMZ14 := hid (HMZ13.out.below hb)
      obtain ⟨q0, q1, qf⟩ := box2J HM14.out
      have HA15 := hid ((Below.refl w14.heap.size w14).alloc (Nat.le_refl _) (.cells #[.string xp, .string xq] 51))
      have HN15 := hid (heap_new w14 (.cells #[.string xp, .string xq] 51))
      clear hb HB13 HM13 HMX13 HMZ13 HUX
      go_wp2_with fail
      generalize w14.alloc (.cells #[.string xp, .string xq] 51) = w15 at *
      have HB15 := hid (HB14.out.trans (HA15.out.mono HB14.out.size))
      have HUY := hid (HUN.out [(xp, xq)] Z _ _ w15 HB15.out (by simp) HZL.out (fun y hy => by rw [List.mem_singleton.1 hy]; exact HXZ.out) (HUS.out Z HZU.out) (ms_single (x := (xp, xq)) HN15.out) (HMZ14.out.below HA15.out))
      rw [HO2.out] at HUY
      refine HUY.out.mono ?_
      rintro e w16 ⟨rfl, hb⟩
      have HB16 := hid (HBW.out _ (HB15.out.trans (hb.mono HB15.out.size)))
      clear hb
      go_wp2_with fail
      go_ret
      exact ⟨rfl, HB16.out⟩
  · have HXX := hid hx
    obtain ⟨k, hk, hkn⟩ : ∃ k, idxOf (isM (xp, xq)) Q0 = k ∧ k < 0 := by
      rcases idx_nat (isM (xp, xq)) Q0 with h1 | ⟨k, h1⟩
      · exact ⟨_, h1, by omega⟩
      · exact absurd ((found_iff HU0.out (xp, xq)).2 ⟨k, h1⟩) hx
    rw [hk] at HFO
    rw [errA5] at HONN
    clear hx hk HONE HZO
    go_region_held (fun W' => W'.cell? ⟨w.heap.size, 0, none⟩ = some (.string xp) ∧ W'.cell? ⟨w.heap.size, 1, none⟩ = some (.string xq) ∧ Hid (Below w11.heap.size w11 W')) (first | exact HTT.out _ HRb.out | exact HTT.out _ HRa.out | exact HTT.out _ (below_drawn _ 1)) (first
      | (go_at_call 31; refine (HOM.out _ (HBW.out _ (HW1.out _ (below_drawn _ 1)))).mono ?_; rintro e w12 ⟨u12, rfl, ho, -, hb⟩; have HRa := hid ((below_drawn w11 1).trans (hb.mono (Nat.le_refl _))); have HR12 := hid (mr_own ho hb); obtain ⟨a12, c12, hu12⟩ := HR12.out.sl; subst hu12; clear ho hb)
      | (go_at_call 36; refine (HONN.out w12 _ (HW1.out _ HRa.out) HR12.out.ms HXX.out).mono ?_; rintro e w13 ⟨rfl, hb⟩; have HRb := hid (HRa.out.trans (hb.mono HRa.out.size)); clear hb))
    all_goals
      have HB13 := hid (HW1.out _ HRb.out)
      have HM13 := hid ((HRb.out.block _ (lt_of_blk HM11.out)).trans HM11.out)
      clear q0 q1 qf
      obtain ⟨q0, q1, qf⟩ := box2J HM13.out
      go_wp2_with fail
      refine (HFO.out _ (HBW.out _ HB13.out)).mono ?_
      rintro e w14 ⟨rfl, hb⟩
      have HB14 := hid (HBW.out _ (HB13.out.trans (hb.mono HB13.out.size)))
      clear hb
      go_wp2_with fail
      go_ret
      exact ⟨rfl, HB14.out⟩
set_option maxRecDepth 100000 in
set_option maxHeartbeats 2000000 in
theorem un_long1 (Q0 : List Raw) (L : List Ent) (roots : List Bm) (x : Bm) (v u : Value) (A : Nat → Addr) (m : Int) (w : World) (S : Te w A m) (htab : Lib.TabIs Tryz.prog w powName .u64 Lib.pow10Tab) (I : Ixs w v Q0 L) (hr : MsAt w u roots) (hok : okI L = false) :
    Calls Tryz.prog 5 #[v, u, .agg #[.string x.1, .string x.2]] w fun e w' => e = .returned (.bool true) ∧ Below w.heap.size w w' := by
  obtain ⟨xp, xq⟩ := x
  simp only
  obtain ⟨a0, c0, hv0, -⟩ := id I.es
  subst hv0
  obtain ⟨ra, rc, hu0, -⟩ := id hr
  subst hu0
  have HB0 := hid ((Below.refl w.heap.size w).alloc (Nat.le_refl _) (.cells #[.string xp, .string xq] 51))
  have HM0 := hid (heap_new w (.cells #[.string xp, .string xq] 51))
  have HIN := hid (upped_any A m _ (S.below HB0.out) (tab_below htab HB0.out))
  have HLO := hid (fun W (h : Below w.heap.size w W) => longI_any Q0 L _ W (I.below h))
  rw [hok] at HLO
  clear S htab I hok hr
  go_enter Tryz.func5, Tryz.ntmps5
  go_wp2_with fail
  refine HIN.out.mono ?_
  rintro e w1 ⟨rfl, hb⟩
  have HB1 := hid (HB0.out.trans (hb.mono HB0.out.size))
  have HM1 := hid ((hb.block _ (lt_of_blk HM0.out)).trans HM0.out)
  clear hb
  go_wp2_with fail
  refine (HLO.out w1 HB1.out).mono ?_
  rintro e w2 ⟨rfl, hb⟩
  have HB2 := hid (HB1.out.trans (hb.mono HB1.out.size))
  have HM2 := hid ((hb.block _ (lt_of_blk HM1.out)).trans HM1.out)
  clear hb
  go_wp2_with fail
  go_ret
  exact ⟨rfl, HB2.out⟩
set_option maxRecDepth 100000 in
set_option maxHeartbeats 2000000 in
theorem un_long2 (Q0 : List Raw) (L : List Ent) (roots : List Bm) (x : Bm) (v u : Value) (A : Nat → Addr) (m : Int) (w : World) (S : Te w A m) (htab : Lib.TabIs Tryz.prog w powName .u64 Lib.pow10Tab) (I : Ixs w v Q0 L) (hr : MsAt w u roots) (hok : okI L = true) (hrk : okLN 15 roots = false) :
    Calls Tryz.prog 5 #[v, u, .agg #[.string x.1, .string x.2]] w fun e w' => e = .returned (.bool true) ∧ Below w.heap.size w w' := by
  obtain ⟨xp, xq⟩ := x
  simp only
  obtain ⟨a0, c0, hv0, -⟩ := id I.es
  subst hv0
  obtain ⟨ra, rc, hu0, -⟩ := id hr
  subst hu0
  have HB0 := hid ((Below.refl w.heap.size w).alloc (Nat.le_refl _) (.cells #[.string xp, .string xq] 51))
  have HM0 := hid (heap_new w (.cells #[.string xp, .string xq] 51))
  have HIN := hid (upped_any A m _ (S.below HB0.out) (tab_below htab HB0.out))
  have HLO := hid (fun W (h : Below w.heap.size w W) => longI_any Q0 L _ W (I.below h))
  rw [if_pos hok] at HLO
  have HLM := hid (fun W (h : Below w.heap.size w W) => longN_any 15 (by decide) roots _ W (hr.below h))
  rw [hrk] at HLM
  clear S htab I hok hr hrk
  go_enter Tryz.func5, Tryz.ntmps5
  go_wp2_with fail
  refine HIN.out.mono ?_
  rintro e w1 ⟨rfl, hb⟩
  have HB1 := hid (HB0.out.trans (hb.mono HB0.out.size))
  have HM1 := hid ((hb.block _ (lt_of_blk HM0.out)).trans HM0.out)
  clear hb
  go_wp2_with fail
  refine (HLO.out w1 HB1.out).mono ?_
  rintro e w2 ⟨rfl, hb⟩
  have HB2 := hid (HB1.out.trans (hb.mono HB1.out.size))
  have HM2 := hid ((hb.block _ (lt_of_blk HM1.out)).trans HM1.out)
  clear hb
  go_wp2_with fail
  refine (HLM.out w2 HB2.out).mono ?_
  rintro e w2' ⟨rfl, rfl⟩
  go_wp2_with fail
  go_ret
  exact ⟨rfl, HB2.out⟩
set_option maxRecDepth 100000 in
set_option maxHeartbeats 2000000 in
theorem un_long3 (Q0 : List Raw) (L : List Ent) (roots : List Bm) (x : Bm) (v u : Value) (A : Nat → Addr) (m : Int) (w : World) (S : Te w A m) (htab : Lib.TabIs Tryz.prog w powName .u64 Lib.pow10Tab) (I : Ixs w v Q0 L) (hr : MsAt w u roots) (hok : okI L = true) (hrk : okLN 15 roots = true) (hx1 : ¬ x.1.size ≤ 70) :
    Calls Tryz.prog 5 #[v, u, .agg #[.string x.1, .string x.2]] w fun e w' => e = .returned (.bool true) ∧ Below w.heap.size w w' := by
  obtain ⟨xp, xq⟩ := x
  simp only at hx1 ⊢
  obtain ⟨a0, c0, hv0, -⟩ := id I.es
  subst hv0
  obtain ⟨ra, rc, hu0, -⟩ := id hr
  subst hu0
  have HB0 := hid ((Below.refl w.heap.size w).alloc (Nat.le_refl _) (.cells #[.string xp, .string xq] 51))
  have HM0 := hid (heap_new w (.cells #[.string xp, .string xq] 51))
  have HIN := hid (upped_any A m _ (S.below HB0.out) (tab_below htab HB0.out))
  have HLO := hid (fun W (h : Below w.heap.size w W) => longI_any Q0 L _ W (I.below h))
  rw [if_pos hok] at HLO
  have HLM := hid (fun W (h : Below w.heap.size w W) => longN_any 15 (by decide) roots _ W (hr.below h))
  rw [if_pos hrk] at HLM
  have hl1 : ¬ (xp.size : Int) ≤ 70 := by omega
  have hl1' : (70 : Int) < (xp.size : Int) := by omega
  clear S htab I hok hr hrk
  go_enter Tryz.func5, Tryz.ntmps5
  go_wp2_with fail
  refine HIN.out.mono ?_
  rintro e w1 ⟨rfl, hb⟩
  have HB1 := hid (HB0.out.trans (hb.mono HB0.out.size))
  have HM1 := hid ((hb.block _ (lt_of_blk HM0.out)).trans HM0.out)
  clear hb
  go_wp2_with fail
  refine (HLO.out w1 HB1.out).mono ?_
  rintro e w2 ⟨rfl, hb⟩
  have HB2 := hid (HB1.out.trans (hb.mono HB1.out.size))
  have HM2 := hid ((hb.block _ (lt_of_blk HM1.out)).trans HM1.out)
  clear hb
  go_wp2_with fail
  refine (HLM.out w2 HB2.out).mono ?_
  rintro e w2' ⟨rfl, rfl⟩
  obtain ⟨p0, p1, pf⟩ := box2J HM2.out
  go_wp2_with fail
  go_ret
  exact ⟨rfl, HB2.out⟩
set_option maxRecDepth 100000 in
set_option maxHeartbeats 2000000 in
theorem un_long4 (Q0 : List Raw) (L : List Ent) (roots : List Bm) (x : Bm) (v u : Value) (A : Nat → Addr) (m : Int) (w : World) (S : Te w A m) (htab : Lib.TabIs Tryz.prog w powName .u64 Lib.pow10Tab) (I : Ixs w v Q0 L) (hr : MsAt w u roots) (hok : okI L = true) (hrk : okLN 15 roots = true) (hx1 : x.1.size ≤ 70) (hx2 : ¬ x.2.size ≤ 60) :
    Calls Tryz.prog 5 #[v, u, .agg #[.string x.1, .string x.2]] w fun e w' => e = .returned (.bool true) ∧ Below w.heap.size w w' := by
  obtain ⟨xp, xq⟩ := x
  simp only at hx1 hx2 ⊢
  obtain ⟨a0, c0, hv0, -⟩ := id I.es
  subst hv0
  obtain ⟨ra, rc, hu0, -⟩ := id hr
  subst hu0
  have HB0 := hid ((Below.refl w.heap.size w).alloc (Nat.le_refl _) (.cells #[.string xp, .string xq] 51))
  have HM0 := hid (heap_new w (.cells #[.string xp, .string xq] 51))
  have HIN := hid (upped_any A m _ (S.below HB0.out) (tab_below htab HB0.out))
  have HLO := hid (fun W (h : Below w.heap.size w W) => longI_any Q0 L _ W (I.below h))
  rw [if_pos hok] at HLO
  have HLM := hid (fun W (h : Below w.heap.size w W) => longN_any 15 (by decide) roots _ W (hr.below h))
  rw [if_pos hrk] at HLM
  have hl1 : (xp.size : Int) ≤ 70 := by omega
  have hl2 : ¬ (xq.size : Int) ≤ 60 := by omega
  have hl2' : (60 : Int) < (xq.size : Int) := by omega
  clear S htab I hok hr hrk
  go_enter Tryz.func5, Tryz.ntmps5
  go_wp2_with fail
  refine HIN.out.mono ?_
  rintro e w1 ⟨rfl, hb⟩
  have HB1 := hid (HB0.out.trans (hb.mono HB0.out.size))
  have HM1 := hid ((hb.block _ (lt_of_blk HM0.out)).trans HM0.out)
  clear hb
  go_wp2_with fail
  refine (HLO.out w1 HB1.out).mono ?_
  rintro e w2 ⟨rfl, hb⟩
  have HB2 := hid (HB1.out.trans (hb.mono HB1.out.size))
  have HM2 := hid ((hb.block _ (lt_of_blk HM1.out)).trans HM1.out)
  clear hb
  go_wp2_with fail
  refine (HLM.out w2 HB2.out).mono ?_
  rintro e w2' ⟨rfl, rfl⟩
  obtain ⟨p0, p1, pf⟩ := box2J HM2.out
  go_wp2_with fail
  go_ret
  exact ⟨rfl, HB2.out⟩
theorem upNews_any (Q0 : List Raw) (L : List Ent) (roots : List Bm) (x : Bm) (v u : Value) (A : Nat → Addr) (m : Int) (w : World) (S : Te w A m) (htab : Lib.TabIs Tryz.prog w powName .u64 Lib.pow10Tab) (I : Ixs w v Q0 L) (em : EmI Q0 L) (hr : MsAt w u roots) (her : Em u roots) :
    Calls Tryz.prog 5 #[v, u, .agg #[.string x.1, .string x.2]] w fun e w' => e = .returned (.bool true) ∧ Below w.heap.size w w' := by
  cases hok : okI L with
  | false => exact un_long1 Q0 L roots x v u A m w S htab I hr hok
  | true =>
    cases hrk : okLN 15 roots with
    | false => exact un_long2 Q0 L roots x v u A m w S htab I hr hok hrk
    | true =>
      by_cases hx1 : x.1.size ≤ 70
      · by_cases hx2 : x.2.size ≤ 60
        · exact un_main Q0 L roots x v u A m w S htab I em hr her hok hrk hx1 hx2
        · exact un_long4 Q0 L roots x v u A m w S htab I hr hok hrk hx1 hx2
      · exact un_long3 Q0 L roots x v u A m w S htab I hr hok hrk hx1
end Ve
end Go.Proofs.YtanponneancajaaGreatDoor

/-
  An index and a row of modules that a caller hands in, opened.
-/
namespace Go.Proofs.YtanponneancajaaGreatDoor
open Go.ChangeShapes Go.WideShapes Go.ChangeAt Go.RowKit Go.ChangeMaps Go.Joins
namespace Ve

theorem oCellsMod : Tryz.prog.cellsOf 51 = 2 := by kernel_rfl
theorem oCellsStr : Tryz.prog.cellsOf 9 = 1 := by kernel_rfl
theorem oCellsEnt : Tryz.prog.cellsOf 54 = 5 := by kernel_rfl
theorem oCellsMods : Tryz.prog.cellsOf 52 = 1 := by kernel_rfl
theorem oCellsSstr : Tryz.prog.cellsOf 24 = 1 := by kernel_rfl
theorem oCellsBool : Tryz.prog.cellsOf 4 = 1 := by kernel_rfl
/-- The bytes of a string; none of what is no string. -/
def strOf : Value → ByteArray
  | .string s => s
  | _ => ⟨#[]⟩
set_option maxRecDepth 100000 in
/-- A row of modules, opened. -/
theorem open_ms {H : Type} {enc : TypeId × Value → H} {w : World} {base fuel : Nat} {held : Bool} {v : Value} {x : DataW H × List MemPlace}
    (h : DataW.trod enc Tryz.prog w base (fun _ => true) held fuel 52 [v] = some x) : ∃ L, MsAt w v L ∧ Em v L := by
  rcases Go.Deep.open_slice_pairs Tryz.underlying52 Tryz.underlying51 oCellsMod rfl rfl oCellsStr oCellsStr h with ⟨hcs, _⟩ | ⟨a, len, cap, m, n, V0, V1, D0, D1, P0, P1, hcs, _, hl, _, hm, _, hx⟩
  · simp only [List.cons.injEq, and_true] at hcs
    subst hcs
    exact ⟨[], ⟨none, 0, rfl, Nat.le_refl _, fun h => absurd rfl h⟩, fun a c e _ => Or.inl e.symm⟩
  · simp only [List.cons.injEq, and_true] at hcs
    subst hcs
    simp only [if_true] at hm
    subst hm
    have hlen : ((List.range len).map fun i => (strOf (V0 i), strOf (V1 i))).length = len := by simp
    refine ⟨(List.range len).map fun i => (strOf (V0 i), strOf (V1 i)), ⟨some a, m, by rw [hlen], by rw [hlen]; exact hl, fun hne => ?_⟩, fun a' c e h0 => ?_⟩
    · have h0l : 0 < len := by rw [← hlen]; exact List.length_pos_iff.2 hne
      obtain ⟨b, off, spot⟩ := a
      have hspot : spot = none := by simpa [Addr.add] using World.cell?_spot (hx 0 (by omega)).1
      subst hspot
      refine ⟨b, off, rfl, fun j hj => ?_⟩
      have hj2 : j < len := by rw [← hlen]; exact hj
      obtain ⟨g0, g1, t0, t1⟩ := hx j (by omega)
      obtain ⟨s0, e0, _, _⟩ := DataW.trod_string Tryz.underlying9 t0
      obtain ⟨s1, e1, _, _⟩ := DataW.trod_string Tryz.underlying9 t1
      simp only [List.cons.injEq, and_true] at e0 e1
      rw [e0] at g0
      rw [e1] at g1
      simp only [List.getElem_map, List.getElem_range, e0, e1]
      rw [Addr.add_lit] at g0 g1
      exact ⟨g0, g1⟩
    · have hz : len = 0 := by rw [← hlen, h0]; rfl
      rw [hlen] at e
      subst hz
      right
      injection e with e1 e2 e3
      exact ⟨a, by rw [← e1]⟩
set_option maxRecDepth 100000 in
/-- A row of texts, opened. -/
theorem open_tx {H : Type} {enc : TypeId × Value → H} {w : World} {base fuel : Nat} {held : Bool} {v : Value} {x : DataW H × List MemPlace}
    (h : DataW.trod enc Tryz.prog w base (fun _ => true) held fuel 24 [v] = some x) : ∃ X, TxAt w v X ∧ EmT v X := by
  rcases open_strings Tryz.underlying24 Tryz.underlying9 oCellsStr h with ⟨hcs, _⟩ | ⟨a, len, cap, ss, hcs, _, hl, _, hm, _, hx, _⟩
  · simp only [List.cons.injEq, and_true] at hcs
    subst hcs
    exact ⟨[], ⟨none, 0, rfl, Nat.le_refl _, fun h => absurd rfl h⟩, fun a c e _ => Or.inl e.symm⟩
  · simp only [List.cons.injEq, and_true] at hcs
    subst hcs
    simp only [if_true] at hm
    have hlen : (ss.take len).length = len := by rw [List.length_take]; omega
    refine ⟨ss.take len, ⟨some a, cap, by rw [hlen], by rw [hlen]; exact hl, fun hne => ?_⟩, fun a' c e h0 => ?_⟩
    · have h0l : 0 < len := by rw [← hlen]; exact List.length_pos_iff.2 hne
      obtain ⟨b, off, spot⟩ := a
      have hspot : spot = none := by simpa [Addr.add] using World.cell?_spot (hx 0 (by omega))
      subst hspot
      refine ⟨b, off, rfl, fun j hj => ?_⟩
      have hj2 : j < len := by rw [← hlen]; exact hj
      have g := hx j (by omega)
      rw [Addr.add_lit, List.getD_eq_getElem?_getD, List.getElem?_eq_getElem (by omega)] at g
      rw [List.getElem_take]
      exact g
    · have hz : len = 0 := by rw [← hlen, h0]; rfl
      rw [hlen] at e
      subst hz
      right
      injection e with e1 e2 e3
      exact ⟨a, by rw [← e1]⟩
set_option maxRecDepth 100000 in
/-- An entry, opened. -/
theorem open_ent {H : Type} {enc : TypeId × Value → H} {w : World} {base fuel : Nat} {held : Bool} {cs : List Value} {x : DataW H × List MemPlace}
    (h : DataW.trod enc Tryz.prog w base (fun _ => true) held fuel 54 cs = some x) : ∃ (r : Raw) (e : Ent), cs = rowR r ∧ slR r ∧ RawOk w r e ∧ Em r.2.1 e.2.1 ∧ EmT r.2.2.1 e.2.2.1 := by
  obtain ⟨y0, y1, y2, y3, n, _, hl, h0, h1, h2, h3⟩ := trod_struct4 Tryz.underlying54 h
  rw [oCellsEnt] at hl
  match cs, hl with
  | [c0, c1, c2, c3, c4], _ =>
    simp only [oCellsMod, oCellsMods, oCellsSstr, oCellsBool, List.drop, List.take] at h0 h1 h2 h3
    obtain ⟨z0, z1, n2, _, _, k0, k1⟩ := trod_struct2 Tryz.underlying51 h0
    simp only [oCellsStr, List.drop, List.take] at k0 k1
    obtain ⟨s0, e0, _, _⟩ := DataW.trod_string Tryz.underlying9 k0
    obtain ⟨s1, e1, _, _⟩ := DataW.trod_string Tryz.underlying9 k1
    obtain ⟨R, hR, hER⟩ := open_ms h1
    obtain ⟨X, hX, hEX⟩ := open_tx h2
    obtain ⟨b, e4, _⟩ := DataW.trod_bool Tryz.underlying4 h3
    simp only [List.cons.injEq, and_true] at e0 e1 e4
    subst e0 e1 e4
    refine ⟨((s0, s1), c2, c3, b), ((s0, s1), R, X, b), rfl, ⟨?_, ?_⟩, ⟨rfl, hR, hX, rfl⟩, hER, hEX⟩
    · obtain ⟨a, c, e, _⟩ := hR; exact ⟨_, _, _, e⟩
    · obtain ⟨a, c, e, _⟩ := hX; exact ⟨_, _, _, e⟩
set_option maxRecDepth 100000 in
/-- An index, opened. -/
theorem open_ix {H : Type} {enc : TypeId × Value → H} {w : World} {base fuel : Nat} {held : Bool} {v : Value} {x : DataW H × List MemPlace}
    (h : DataW.trod enc Tryz.prog w base (fun _ => true) held fuel 42 [v] = some x) : ∃ Q L, Ixs w v Q L ∧ EmI Q L := by
  rcases Go.Deep.open_slice Tryz.underlying42 h with ⟨hcs, _⟩ | ⟨a, len, cap, m, n, D, Pl, hcs, _, hl, _, hm, _, hx⟩
  · simp only [List.cons.injEq, and_true] at hcs
    subst hcs
    exact ⟨[], [], ⟨⟨none, 0, rfl, Nat.le_refl _, fun r hr => (by cases hr), fun h => absurd rfl h⟩, rfl, fun j h1 => absurd h1 (Nat.not_lt_zero _)⟩, fun j h1 => absurd h1 (Nat.not_lt_zero _)⟩
  · simp only [List.cons.injEq, and_true] at hcs
    subst hcs
    simp only [if_true] at hm
    subst hm
    have each : ∀ i, i < len → ∃ q : Raw × Ent, (∀ c (hc : c < 5), w.cell? (a.add (i * 5 + c)) = (rowR q.1)[c]?) ∧ slR q.1 ∧ RawOk w q.1 q.2 ∧ Em q.1.2.1 q.2.2.1 ∧ EmT q.1.2.2.1 q.2.2.2.1 := fun i hi => by
      obtain ⟨cs', h1, h2⟩ := hx i (by omega)
      obtain ⟨r, e, hcs, k1, k2, k3, k4⟩ := open_ent h2
      rw [oCellsEnt] at h1
      obtain ⟨_, hlen, hcell⟩ := World.cells?_some h1
      refine ⟨(r, e), fun c hc => ?_, k1, k2, k3, k4⟩
      have := hcell c (by omega)
      rw [Go.Deep.add_add] at this
      rw [this, hcs]
    obtain ⟨q, hq⟩ := Go.Deep.choose_lt each
    have hlq : ((List.range len).map fun i => (q i).1).length = len := by simp
    have hll : ((List.range len).map fun i => (q i).2).length = len := by simp
    refine ⟨(List.range len).map fun i => (q i).1, (List.range len).map fun i => (q i).2, ⟨⟨some a, m, by rw [hlq], by rw [hlq]; exact hl, fun r hr => ?_, fun hne => ?_⟩, by rw [hlq, hll], fun j h1 h2 => ?_⟩, fun j h1 h2 => ?_⟩
    · obtain ⟨i, hi, rfl⟩ := List.mem_map.1 hr
      exact (hq i (List.mem_range.1 hi)).2.1
    · have h0l : 0 < len := by rw [← hlq]; exact List.length_pos_iff.2 hne
      obtain ⟨b, off, spot⟩ := a
      have g0 := (hq 0 h0l).1 0 (by omega)
      have hspot : spot = none := by
        have : ∃ u, World.cell? w ((⟨b, off, spot⟩ : Addr).add (0 * 5 + 0)) = some u := ⟨_, g0⟩
        obtain ⟨u, hu⟩ := this
        simpa [Addr.add] using World.cell?_spot hu
      subst hspot
      refine ⟨b, off, rfl, fun j hj => ?_⟩
      have hj2 : j < len := by rw [← hlq]; exact hj
      have g := (hq j hj2).1
      simp only [List.getElem_map, List.getElem_range]
      refine ⟨?_, ?_, ?_, ?_, ?_⟩
      · have := g 0 (by omega); rw [Addr.add_lit] at this; exact this
      · have := g 1 (by omega); rw [Addr.add_lit] at this; exact this
      · have := g 2 (by omega); rw [Addr.add_lit] at this; exact this
      · have := g 3 (by omega); rw [Addr.add_lit] at this; exact this
      · have := g 4 (by omega); rw [Addr.add_lit] at this; exact this
    · have hj2 : j < len := by rw [← hlq]; exact h1
      simp only [List.getElem_map, List.getElem_range]
      exact (hq j hj2).2.2.1
    · have hj2 : j < len := by rw [← hlq]; exact h1
      simp only [List.getElem_map, List.getElem_range]
      exact (hq j hj2).2.2.2
end Ve
end Go.Proofs.YtanponneancajaaGreatDoor

/-
  The plain wrap with a condition, the world's shape kept; variables laid over a world.
-/
namespace Go.Proofs.YtanponneancajaaGreatDoor
open Go.ChangeShapes Go.WideShapes Go.ChangeAt Go.RowKit
namespace Ve

/-- The plain wrap with a condition, the world's shape kept. -/
theorem wrap_and_shaped {H : Type} {enc : TypeId × Value → H} {a : Assume} {C : Checked} {os : Go.Os} {f : FuncId} {fn : Func} {s : ChangeSpec} {conds : List PathCond} {apart fresh handsOn again : Bool} {X : World → Array Value → Prop}
    (hX : ∀ (w w' : World) (args : Array Value), w.heap = w'.heap → X w args → X w' args)
    (own : ownKnob C.prog.godebug = none) (started : os.Started) (noInit : C.prog.inits.idxOf? f = none) (hfn : C.prog.funcs[f]? = some fn)
    (witness : ∃ (w : World) (tape : Tape) (i : Input), w.os = os ∧ (w.forCall tape i).Shaped C.prog ∧ i.vars = [] ∧ Input.okWide C.prog (w.forCall tape i) .any w.heap.size f i ∧
      ((s.pre enc C.prog fn conds apart (w.forCall tape i).memory i.args ∧ X (w.forCall tape i).memory i.args) ∧ sizedMet enc C.prog fn (OpenSpec.ofChange s) apart (w.forCall tape i).memory i.args) ∧ a.holds C.prog (lone (Frame.enter C.prog f i.args .normal) [] (w.forCall tape i)))
    (contract : ∀ (W : World) (base : Nat) (args : Array Value) (ds gs : List (DataW H)) (before : List MemPlace),
      (∀ (j : Nat) t v, fn.params[j]? = some t → args[j]? = some v → Value.okWide C.prog W .any base t v) →
      DataW.Whole enc C.prog fn.params.toList s.vars apart W args.toList ds gs before → X W args → W.ShapedOpen C.prog →
      Calls C.prog f args W fun e W' => ∃ v, e = .returned v ∧ s.post enc C.prog fn apart fresh handsOn again W args v W') :
    ReturnsInHanded a C os f .any (fun w args => (s.pre enc C.prog fn conds apart w args ∧ X w args) ∧ sizedMet enc C.prog fn (OpenSpec.ofChange s) apart w args) (s.post enc C.prog fn apart fresh handsOn again) := by
  refine returnsInHanded_of_calls own started noInit witness ?_
  intro w tape i _ hsh _ hok hpre _
  obtain ⟨_, _, _, fn', hfn', _, _, _, _, hval⟩ := hok
  have e : fn' = fn := Option.some.inj (hfn'.symm.trans hfn)
  subst e
  obtain ⟨⟨⟨ds, gs, before, hw, _⟩, hx⟩, _⟩ := hpre
  have hw' := DataW.Whole.of_heap (w' := w.forCall tape i) (by rfl) hw
  refine (contract (w.forCall tape i) w.heap.size i.args ds gs before hval hw' (hX _ _ _ (by rfl) hx) hsh).mono fun e W' ⟨v, he, hp⟩ => ?_
  subst he
  exact ChangeSpec.post_blind hp

/-- All that is listed, laid over a world. -/
theorem laidMet_over {P : Program} {w0 : World} {laid : List (String × DataW Unit)} (args : Array Value)
    (hf : w0.layFits P laid [] = true) (hi : w0.layIfaces P laid (w0.layVars P laid) = true) :
    laidMet P laid ((w0.layVars P laid).forCall (fun _ _ => 0) ⟨#[], args, []⟩).memory := by
  have e1 : (laid.filter fun x => (laid.map (·.1)).contains x.1) = laid := List.filter_eq_self.2 fun x hx => List.contains_iff_mem.2 (List.mem_map.2 ⟨x, hx, rfl⟩)
  have e2 : (laid.filter fun x => !(laid.map (·.1)).contains x.1) = [] := List.filter_eq_nil_iff.2 fun x hx => by rw [List.contains_iff_mem.2 (List.mem_map.2 ⟨x, hx, rfl⟩)]; simp
  have h : laidMet P laid (w0.layVars P laid) := laidMet_layVars (w0 := w0) (laid.map (·.1)) [] (by rw [e1]) (by rw [e1]; exact hf) (by rw [e1]; exact hi) (by rw [e2]; exact LaidIn.none)
  exact h.of_heap (by simp [World.memory, World.forCall, Input.heap])
end Ve
end Go.Proofs.YtanponneancajaaGreatDoor

/-
  What a list of laid sentinels gives a walk, however long the list: each variable's cell, each pointee's block, and that no two are one.
-/
namespace Go.Proofs.YtanponneancajaaGreatDoor
namespace Er
open Go

theorem sens_rest {P : Program} {nm : String} {W : World} {ti tp te ts : TypeId} {ms : Array (String × TypeId)} {f : Field}
    (hi : P.underlying ti = some (.interface ms)) (hrow : ∀ u, P.typeName? 3 u = some nm → u = tp)
    (hp : P.underlying tp = some (.pointer te)) (he : P.underlying te = some (.struct #[f])) (hft : f.type = ts) (hfo : f.offset = 0) (hs : P.underlying ts = some .string) (hc : P.cellsOf te = 1) (hcs : P.cellsOf ts = 1) (rest : List (String × DataW Unit)) :
    ∀ (ns : List (String × Nat × List UInt8)) (ps : List MemPlace),
      DataW.LaidVars P W ((ns.map fun x => (x.1, DataW.iface nm (.ptr (.agg [.lit (.string x.2.2)])))) ++ rest) ps →
      (∀ x, x ∈ ns → P.globalNamed x.1 = some x.2.1 ∧ (P.globals[x.2.1]?).map (·.type) = some ti) →
      (∀ b off, MemPlace.cell b off ∈ ps → (∃ c t, W.heap[b]? = some (.cells c t (0, 0))) ∧ ∀ u v, W.cell? ⟨b, off, none⟩ = some (.iface u v) → Value.okWide P W .any 0 u v) →
      ∃ al : List Addr, al.length = ns.length ∧ (al.map fun a => MemPlace.cell a.block a.off).Sublist ps ∧
        ∀ (i : Nat) (x : String × Nat × List UInt8) (a : Addr), ns[i]? = some x → al[i]? = some a →
          W.cell? ⟨x.2.1, 0, none⟩ = some (.iface tp (.pointer (some a))) ∧ ∃ c t, W.heap[a.block]? = some (.cells c t (0, 0)) := by
  intro ns
  induction ns with
  | nil =>
    intro ps _ _ _
    exact ⟨[], rfl, List.nil_sublist _, fun i x a h => by simp at h⟩
  | cons n r ih =>
    intro ps hl hg hr
    obtain ⟨g, t, cs, fuel, p, q, hg0, ht0, hv0, hd0, hq, e0⟩ := hl
    obtain ⟨k1, k2⟩ := hg n (List.mem_cons_self)
    obtain rfl := Option.some.inj (k1.symm.trans hg0)
    obtain rfl := Option.some.inj (k2.symm.trans ht0)
    subst e0
    obtain ⟨l0⟩ := cs
    have ok0 : ∀ u v, l0 = [.iface u v] → Value.okWide P W .any 0 u v := fun u v e => by
      subst e
      exact (hr n.2.1 0 (by simp [MemPlace.row])).2 u v (by simpa using World.var?_cell hg0 hv0 0)
    obtain ⟨a0, s0, rfl, hc0, hs0, hz0, rfl⟩ := errorString_of_trod hi hrow hp he hft hfo hs hc hcs hd0 ok0
    obtain ⟨al, hlen, hsub, hall⟩ := ih q hq (fun x hx => hg x (List.mem_cons_of_mem _ hx)) (fun b off hm => hr b off (by simp [hm]))
    refine ⟨a0 :: al, by simp [hlen], ?_, ?_⟩
    · simp only [List.map_cons, MemPlace.row, List.range_one, List.map_nil, Nat.add_zero]
      exact List.Sublist.cons _ (List.Sublist.cons_cons _ hsub)
    · intro i x a hx ha
      cases i with
      | zero =>
        simp only [List.getElem?_cons_zero, Option.some.injEq] at hx ha
        subst hx; subst ha
        exact ⟨by simpa using World.var?_cell hg0 hv0 0, (hr a0.block a0.off (by simp [MemPlace.row])).1⟩
      | succ i =>
        simp only [List.getElem?_cons_succ] at hx ha
        exact hall i x a hx ha

theorem unlike {al : List Addr} {ps : List MemPlace} (hs : (al.map fun a => MemPlace.cell a.block a.off).Sublist ps) (hn : ps.Nodup) {i j : Nat} (hi : i < al.length) (hj : j < al.length) (hij : i ≠ j) : al[i] ≠ al[j] := by
  have h1 : (al.map fun a => MemPlace.cell a.block a.off).Nodup := hs.nodup hn
  intro e
  rw [List.Nodup, List.pairwise_iff_getElem] at h1
  rcases Nat.lt_or_gt_of_ne hij with h | h
  · exact h1 i j (by simpa using hi) (by simpa using hj) h (by simp [e])
  · exact h1 j i (by simpa using hj) (by simpa using hi) h (by simp [e])
end Er
end Go.Proofs.YtanponneancajaaGreatDoor

/-
  Of a row's laid variables and the world's shape: seven errors, the type's handle and the library's bound.
-/
namespace Go.Proofs.YtanponneancajaaGreatDoor
open Go.ChangeShapes Go.WideShapes Go.ChangeAt Go.RowKit
namespace Ve

theorem etName : Tryz.prog.globalNamed "errors.errorType" = some 10 := by kernel_rfl
/-- The name of the handle's own type, off the listed datum. -/
def rtWord : String := match (Rows.laid_errors_errorType : DataW Unit) with | .iface s _ => s | _ => ""
theorem rtName : (Tryz.prog.cutTypes.find? (·.1 == rtWord)).map (·.2) = some 199 := by kernel_rfl
theorem oneRow : ((List.range 315).filter fun t => Tryz.prog.rowNamed t [101, 114, 114, 111, 114]) = [32] := by kernel_rfl
theorem nTypes : Tryz.prog.types.size = 315 := by kernel_rfl
theorem cellsS : Tryz.prog.cellsOf 304 = 1 := by kernel_rfl
theorem cellsStr : Tryz.prog.cellsOf 9 = 1 := by kernel_rfl
theorem star : "*" ++ "errors.errorString" = "*errors.errorString" := by decide
theorem rowS (u : TypeId) (h : Tryz.prog.typeName? 3 u = some "*errors.errorString") : u = 286 :=
  typeName_ptr_named (nm := "errors.errorString") (by rw [star]; kernel_rfl) (by kernel_rfl) (by decide) u (by rw [star]; exact h)

/-- The seven, in the order of package api. -/
def tens : List (String × Nat × List UInt8) :=
  [("pewholder/api.ErrText", 0, [112, 101, 119, 104, 111, 108, 100, 101, 114, 58, 32, 116, 101, 120, 116]),
   ("pewholder/api.ErrBound", 4, [112, 101, 119, 104, 111, 108, 100, 101, 114, 58, 32, 98, 111, 117, 110, 100]),
   ("pewholder/api.ErrShape", 5, [112, 101, 119, 104, 111, 108, 100, 101, 114, 58, 32, 115, 104, 97, 112, 101]),
   ("pewholder/api.ErrMajor", 6, [112, 101, 119, 104, 111, 108, 100, 101, 114, 58, 32, 109, 97, 106, 111, 114]),
   ("pewholder/api.ErrNone", 3, [112, 101, 119, 104, 111, 108, 100, 101, 114, 58, 32, 110, 111, 110, 101]),
   ("pewholder/api.ErrFull", 1, [112, 101, 119, 104, 111, 108, 100, 101, 114, 58, 32, 102, 117, 108, 108]),
   ("pewholder/api.ErrOrder", 2, [112, 101, 119, 104, 111, 108, 100, 101, 114, 58, 32, 111, 114, 100, 101, 114])]
theorem tens_named : ∀ x, x ∈ tens → Tryz.prog.globalNamed x.1 = some x.2.1 ∧ (Tryz.prog.globals[x.2.1]?).map (·.type) = some 32 := by
  have h : (tens.all fun x => Tryz.prog.globalNamed x.1 == some x.2.1 && (Tryz.prog.globals[x.2.1]?).map (·.type) == some 32) = true := by kernel_rfl
  intro x hx
  simpa using List.all_eq_true.1 h x hx

/-- Of the laid seven (whatever is laid behind them), of the type's handle and of the bound. -/
theorem te_of {W : World} {m : Int} (rest : List (String × DataW Unit)) (hl : laidMet Tryz.prog ((tens.map fun x => (x.1, DataW.iface "*errors.errorString" (.ptr (.agg [.lit (.string x.2.2)])))) ++ rest) W)
    (hh : handlesMet Tryz.prog [("errors.errorType", Rows.laid_errors_errorType)] W) (hm0 : W.cell? ⟨11, 0, none⟩ = some (.int .i64 m)) : ∃ A, Te W A m := by
  obtain ⟨ps, hl, hnd, hrows⟩ := hl
  obtain ⟨name, u, ty, e1, e2, e3, e4, e5⟩ := hh _ (List.mem_singleton.2 rfl)
  have en : name = [101, 114, 114, 111, 114] := (Option.some.inj e1).symm
  subst en
  obtain rfl := Option.some.inj (rtName.symm.trans e2)
  have hm : ty ∈ (List.range 315).filter fun t => Tryz.prog.rowNamed t [101, 114, 114, 111, 114] := List.mem_filter.2 ⟨List.mem_range.2 (by rw [← nTypes]; exact e3), e4⟩
  rw [oneRow] at hm
  obtain rfl := List.mem_singleton.1 hm
  have hhd : typeHandle Tryz.prog 32 = .pointer (some ⟨17, 32, none⟩) := by kernel_rfl
  rw [hhd] at e5
  have het : W.cell? ⟨10, 0, none⟩ = some (.iface 199 (.agg #[.pointer (some ⟨17, 32, none⟩)])) := by simpa using World.var?_cell etName e5 0
  obtain ⟨al, hlen, hsub, hall⟩ := Er.sens_rest Tryz.underlying32 rowS Tryz.underlying286 Tryz.underlying304 rfl rfl Tryz.underlying9 cellsS cellsStr rest tens ps hl tens_named hrows
  have hten : al.length = 7 := hlen
  refine ⟨fun k => al.getD (if k < 5 then k else k - 1) ⟨0, 0, none⟩, ?_⟩
  have get : ∀ k, k < 7 → al[k]? = some (al.getD k ⟨0, 0, none⟩) := fun k hk => by
    rw [List.getD_eq_getElem?_getD, List.getElem?_eq_getElem (by omega)]; rfl
  have c := fun k x (hx : tens[k]? = some x) (hk : k < 7) => hall k x _ hx (get k hk)
  refine ⟨⟨(c 0 _ rfl (by omega)).1, (c 1 _ rfl (by omega)).1, (c 2 _ rfl (by omega)).1, (c 3 _ rfl (by omega)).1, (c 4 _ rfl (by omega)).1, (c 5 _ rfl (by omega)).1, (c 6 _ rfl (by omega)).1, het⟩, ⟨(c 0 _ rfl (by omega)).1, (c 1 _ rfl (by omega)).1, (c 0 _ rfl (by omega)).2, (c 1 _ rfl (by omega)).2, ?_, hm0⟩⟩
  have := Er.unlike hsub hnd (i := 0) (j := 1) (by omega) (by omega) (by omega)
  intro e
  apply this
  have hi' := get 0 (by omega)
  have hj' := get 1 (by omega)
  rw [List.getElem?_eq_getElem (by omega)] at hi' hj'
  rw [Option.some.inj hi', Option.some.inj hj']
  exact e
/-- The library's bound, off the world's shape. -/
theorem ml_of {W : World} (hsh : W.ShapedOpen Tryz.prog) : ∃ m, W.cell? ⟨11, 0, none⟩ = some (.int .i64 m) :=
  cell_of_shapedOpen_int (P := Tryz.prog) (g := 11) (t := 3) (zero := #[.int .i64 0]) hsh (of_decide_eq_true (by kernel_rfl)) (by kernel_rfl) rfl (by kernel_rfl) (by kernel_rfl) Tryz.underlying3
end Ve
end Go.Proofs.YtanponneancajaaGreatDoor
