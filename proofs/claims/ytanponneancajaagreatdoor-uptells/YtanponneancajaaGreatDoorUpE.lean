/-
  The closed fact of chapter 7 (upped): all that is newer, in a small index; FindOf of any index.
-/
import Derived.Test.YtanponneancajaaGreatDoorUpD
namespace Go.Proofs.YtanponneancajaaGreatDoor
open Go.RowKit Go.Maps
namespace Ve

theorem bX_of {w : World} {v : Value} {Q : List Raw} {L : List Ent} {roots D E : List Bm} (I : Ixs w v Q L) (h : (chkG Q L roots).1 = 0) (hD : ∀ m, Rch (reqQ Q L) roots m ↔ m ∈ D) (j : Jn D E) : bX Q L roots = E :=
  (bX_jn Q L roots).one j (fun m _ => by rw [rX_mem I h, hD])
theorem sm_r0 (g : Nat) : reqQ (smQ g) smL ma0 = [] := by kernel_rfl
theorem sm_chkG3 (g : Nat) : (chkG (smQ g) smL [ma0]).1 = 0 := by
  rw [chkG_ok (by rw [sm_chk])]
  show codeE (nonE (smQ g) [ma0]) 1 = 0
  kernel_rfl
theorem sm_chkG4 (g : Nat) : (chkG (smQ g) smL [ma1, mb0, ma1, mb0]).1 = 0 := by
  rw [chkG_ok (by rw [sm_chk])]
  show codeE (nonE (smQ g) [ma1, mb0, ma1, mb0]) 4 = 0
  kernel_rfl
theorem rch_sm {g : Nat} {R D : List Bm} (hR : ∀ m, m ∈ R → m ∈ D) (hD : ∀ p, p ∈ D → ∀ m, m ∈ reqQ (smQ g) smL p → m ∈ D) {m : Bm} (h : Rch (reqQ (smQ g) smL) R m) : m ∈ D := by
  induction h with
  | root hr => exact hR _ hr
  | step _ hr ih => exact hD _ ih _ hr
theorem sm_in {g : Nat} {p m : Bm} (hp : p ∈ [ma0, ma1, mb0]) (hm : m ∈ reqQ (smQ g) smL p) : p = ma1 ∧ m = mb0 := by
  rcases List.mem_cons.1 hp with rfl | hp
  · rw [sm_r0] at hm; cases hm
  · rcases List.mem_cons.1 hp with rfl | hp
    · rw [sm_r1] at hm; exact ⟨rfl, List.mem_singleton.1 hm⟩
    · rw [List.mem_singleton.1 hp, sm_rb] at hm; cases hm
theorem ma0_ne : ma0 ≠ ma1 := fun e => absurd (congrArg (fun m : Bm => m.2.data) e) (by decide)
theorem rch0 {g : Nat} (m : Bm) : Rch (reqQ (smQ g) smL) [ma0] m ↔ m ∈ [ma0] := by
  refine ⟨fun h => rch_sm (fun _ h => h) (fun p hp m hm => ?_) h, fun h => .root h⟩
  have := List.mem_singleton.1 hp
  subst this
  exact absurd (sm_in (by simp) hm).1 ma0_ne
theorem rch1 {g : Nat} (m : Bm) : Rch (reqQ (smQ g) smL) [ma0, ma1] m ↔ m ∈ [ma0, ma1, mb0] := by
  refine ⟨fun h => rch_sm (fun m h => ?_) (fun p hp m hm => ?_) h, fun h => ?_⟩
  · rcases List.mem_cons.1 h with rfl | h
    · simp
    · rw [List.mem_singleton.1 h]; simp
  · rw [(sm_in hp hm).2]; simp
  · rcases List.mem_cons.1 h with rfl | h
    · exact .root (by simp)
    · rcases List.mem_cons.1 h with rfl | h
      · exact .root (by simp)
      · rw [List.mem_singleton.1 h]
        exact .step (.root (show ma1 ∈ [ma0, ma1] by simp)) (by rw [sm_r1]; simp)
theorem rch2 {g : Nat} (m : Bm) : Rch (reqQ (smQ g) smL) [ma1, mb0, ma1, mb0] m ↔ m ∈ [ma1, mb0] := by
  refine ⟨fun h => rch_sm (fun m h => ?_) (fun p hp m hm => ?_) h, fun h => .root ?_⟩
  · have h3 : m = ma1 ∨ m = mb0 ∨ m = ma1 ∨ m = mb0 := by simpa using h
    rcases h3 with rfl | rfl | rfl | rfl <;> simp
  · rw [(sm_in (List.mem_cons_of_mem _ hp) hm).2]; simp
  · rcases List.mem_cons.1 h with rfl | h
    · simp
    · rw [List.mem_singleton.1 h]; simp
theorem sm_m0 : mErr ma0 = 0 := by kernel_rfl
theorem sm_m1 : mErr ma1 = 0 := by kernel_rfl
theorem sm_mb : mErr mb0 = 0 := by kernel_rfl
theorem jn0 : Jn [ma0] [ma0] := ⟨List.pairwise_singleton _ _, fun e he => ⟨he, by rw [List.mem_singleton.1 he]; exact sm_m0⟩, fun x hx _ => ⟨x, hx, rfl, by rw [List.mem_singleton.1 hx]; exact ordV_selfJ sm_m0⟩⟩
theorem jn2 : Jn [ma1, mb0] [ma1, mb0] := by
  refine ⟨sm_jn.ri, fun e he => ⟨he, (sm_jn.sub e he).2⟩, fun x hx h0 => ⟨x, hx, rfl, ordV_selfJ h0⟩⟩
theorem sm_ordA : ordV ma0.2.data.toList ma1.2.data.toList < 0 := of_decide_eq_true (by kernel_rfl)
theorem sm_keptA (g : Nat) : KeptT (smQ g) ma0.1 [ma0.2, ma1.2] := by
  have e : verL (bestR (ofP ma0.1 (smQ g))) = [ma0.2, ma1.2] := by kernel_rfl
  unfold KeptT
  rw [e]
  refine ⟨List.pairwise_cons.2 ⟨fun t ht => ?_, List.pairwise_singleton _ _⟩, fun t => ⟨fun ht => ⟨ht, ?_⟩, fun ht => ht.1⟩⟩
  · rw [List.mem_singleton.1 ht]; exact sm_ordA
  · have : t = ma0.2.data.toList ∨ t = ma1.2.data.toList := by simpa [bl] using ht
    rcases this with rfl | rfl
    · exact (mErr_zero sm_m0).2
    · exact (mErr_zero sm_m1).2
theorem sm_keptB (g : Nat) : KeptT (smQ g) mb0.1 [mb0.2] := by
  have e : verL (bestR (ofP mb0.1 (smQ g))) = [mb0.2] := by kernel_rfl
  unfold KeptT
  rw [e]
  refine ⟨List.pairwise_singleton _ _, fun t => ⟨fun ht => ⟨ht, ?_⟩, fun ht => ht.1⟩⟩
  have : t = mb0.2.data.toList := by simpa [bl] using ht
  rw [this]
  exact (mErr_zero sm_mb).2
theorem sm_latA (g : Nat) : latV (smQ g) ma0.1 = ma1.2 := (latV_of (sm_keptA g)).symm.trans rfl
theorem sm_latB (g : Nat) : latV (smQ g) mb0.1 = mb0.2 := (latV_of (sm_keptB g)).symm.trans rfl
theorem sm_up0 {w : World} {v : Value} {g : Nat} (I : Ixs w v (smQ g) smL) : bX (smQ g) smL [ma0] = [ma0] := bX_of I (sm_chkG3 g) rch0 jn0
theorem sm_up1 {w : World} {v : Value} {g : Nat} (I : Ixs w v (smQ g) smL) : upF (smQ g) smL [ma0] = [ma1, mb0] := by
  have e : [ma0] ++ latL (smQ g) [ma0] = [ma0, ma1] := by
    show [ma0, (ma0.1, latV (smQ g) ma0.1)] = [ma0, ma1]
    rw [sm_latA]; rfl
  unfold upF
  rw [e]
  exact bX_of I (sm_chkG2 g) rch1 sm_jn
theorem sm_up2 {w : World} {v : Value} {g : Nat} (I : Ixs w v (smQ g) smL) : upF (smQ g) smL [ma1, mb0] = [ma1, mb0] := by
  have e : [ma1, mb0] ++ latL (smQ g) [ma1, mb0] = [ma1, mb0, ma1, mb0] := by
    show [ma1, mb0, (ma1.1, latV (smQ g) ma0.1), (mb0.1, latV (smQ g) mb0.1)] = [ma1, mb0, ma1, mb0]
    rw [sm_latA, sm_latB]
  unfold upF
  rw [e]
  exact bX_of I (sm_chkG4 g) rch2 jn2
theorem sm_fix {w : World} {v : Value} {g : Nat} (I : Ixs w v (smQ g) smL) : Fix (smQ g) smL (bX (smQ g) smL [ma0]) [ma1, mb0] :=
  ⟨⟨1, by show [ma1, mb0] = upF (smQ g) smL (bX (smQ g) smL [ma0]); rw [sm_up0 I, sm_up1 I]⟩, sm_up2 I⟩
theorem sm_sz (g : Nat) : ∀ r, r ∈ smQ g → r.1.1.size ≤ 80 ∧ r.1.2.size ≤ 80 := fun r hr => by
  have : r = (ma0, .slice none 0 0, .slice none 0 0, false) ∨ r = (ma1, .slice (some ⟨g, 0, none⟩) 1 1, .slice none 0 0, false) ∨ r = (mb0, .slice none 0 0, .slice none 0 0, false) := by simpa [smQ] using hr
  rcases this with rfl | rfl | rfl
  · exact ⟨show ma0.1.size ≤ 80 by decide, show ma0.2.size ≤ 80 by decide⟩
  · exact ⟨show ma1.1.size ≤ 80 by decide, show ma1.2.size ≤ 80 by decide⟩
  · exact ⟨show mb0.1.size ≤ 80 by decide, show mb0.2.size ≤ 80 by decide⟩
set_option maxRecDepth 100000 in
set_option maxHeartbeats 4000000 in
/-- pewholderlaw2.upped. -/
theorem upped_any (A : Nat → Addr) (m : Int) (w : World) (S : Te w A m) (htab : Lib.TabIs Tryz.prog w powName .u64 Lib.pow10Tab) : Calls Tryz.prog 28 #[] w fun e w' => e = .returned (.bool true) ∧ Below w.heap.size w w' := by
  have HSM := hid smallI_any
  have HS := hid S
  have HT := hid htab
  clear S htab
  go_enter Tryz.func28, Tryz.ntmps28
  go_wp2_with fail
  refine (HSM.out w).mono ?_
  rintro e w1 ⟨g, q, rfl, hix, hb⟩
  have hBa := (Below.refl w1.heap.size w1).alloc (Nat.le_refl _) (.cells #[.string ⟨#[97]⟩, .string ⟨#[118, 49, 46, 48, 46, 48]⟩] 51)
  have hB1 := hb.trans (hBa.mono hb.size)
  have hms : MsAt (w1.alloc (.cells #[.string ⟨#[97]⟩, .string ⟨#[118, 49, 46, 48, 46, 48]⟩] 51)) (.slice (some ⟨w1.heap.size, 0, none⟩) 1 1) [ma0] := ms_single (x := ma0) (heap_new w1 _)
  have HAL := hid (all_good (smQ g) smL [ma0] _ _ A m _ (by decide) (by decide) (sm_sz g) sm_sh (HS.out.below hB1) (tab_below HT.out hB1) (hix.below hBa) hms (sm_chkG3 g))
  have HFX := hid (sm_fix hix)
  have HB1 := hid hB1
  clear hix hb hBa hms hB1
  go_wp2_with fail
  refine HAL.out.mono ?_
  rintro e w2 ⟨ua, uc, E, rfl, hM, hR⟩
  have hE := hR.fx.one HFX.out
  subst hE
  have HB2 := hid (HB1.out.trans (hM.1.mono HB1.out.size))
  obtain ⟨_, ua', uc', he, huc, hk⟩ := hM
  injection he with he1 he2 he3
  subst he1 he3
  obtain ⟨ug, rfl, hmw⟩ : ∃ g, ua = some ⟨g, 0, none⟩ ∧ Mw _ w2 g [ma1, mb0] := by
    rcases hk with ⟨h, _⟩ | h
    · cases h
    · exact h
  have k1 : w2.cell? ⟨ug, 1, none⟩ = some (.string ⟨#[118, 49, 46, 49, 46, 48]⟩) := hmw.c1 0 (by decide)
  have s1 : ((⟨#[118, 49, 46, 49, 46, 48]⟩ : ByteArray).toList == (⟨#[118, 49, 46, 49, 46, 48]⟩ : ByteArray).toList) = true := by simp
  rw [show ([ma1, mb0] : List Bm).length = 2 from rfl]
  clear hR hk hmw HAL he2 huc HFX
  go_wp2_with fail
  go_ret
  exact ⟨rfl, HB2.out⟩end Ve
end Go.Proofs.YtanponneancajaaGreatDoor
