/-
  What majorFits, Check, Text and Split of package mod answer; nothing old in memory turns.
-/
import Derived.Test.YtmgpapghdbopiaaGreatDoorModC
import Derived.Test.YtmgpapghdbopiaaGreatDoorSplitAny
namespace Go.Proofs.YtmgpapghdbopiaaGreatDoor
open Go.RowKit
namespace Ve

def fitsB (major suffix : Int) : Bool := if suffix == 0 then (major == 0 || major == 1) else major == suffix
theorem fits_any (a b : Int) (w : World) : Calls Tryz.prog 58 #[.int .i64 a, .int .i64 b] w fun e w' => e = .returned (.bool (fitsB a b)) ∧ w' = w := by
  have HF := hid (show fitsB a b = if b == 0 then (a == 0 || a == 1) else a == b from rfl)
  cases h : (b == 0)
  · rw [h] at HF
    go_enter Tryz.func58, Tryz.ntmps58
    go_wp2_with fail
    go_ret
    exact ⟨ret_bool (by rw [HF.out]; rfl), rfl⟩
  · rw [h] at HF
    cases h2 : (a == 0)
    · rw [h2] at HF
      go_enter Tryz.func58, Tryz.ntmps58
      go_wp2_with fail
      go_ret
      exact ⟨ret_bool (by rw [HF.out]; rfl), rfl⟩
    · rw [h2] at HF
      go_enter Tryz.func58, Tryz.ntmps58
      go_wp2_with fail
      go_ret
      exact ⟨ret_bool (by rw [HF.out]; rfl), rfl⟩

/-- Check's error, by its number. -/
def modErr (p v : List UInt8) : Nat := if pathErr p = 0 then (if verErr v = 0 then (if fitsB (nAt v 0) (pathN p) then 0 else 4) else verErr v) else pathErr p
theorem verErr_err (l : List UInt8) : verErr l = 0 ∨ verErr l = 1 ∨ verErr l = 2 := by
  unfold verErr
  split
  · simp
  · split
    · exact worse_err (numsErr_err _) (pre_err _)
    · exact numsErr_err _
theorem pathErr_err (l : List UInt8) : pathErr l = 0 ∨ pathErr l = 1 ∨ pathErr l = 2 ∨ pathErr l = 4 := by
  unfold pathErr; split
  · simp
  · split
    · simp
    · split <;> simp

theorem res2 {w w3 : World} {a b : Value} {T : TypeId} (hb : Below (w.heap.size + 1) (w.alloc (.cells #[a, b] T)) w3) :
    (w3.cell? ⟨w.heap.size, 0, none⟩ = some a ∧ w3.cell? ⟨w.heap.size, 1, none⟩ = some b) ∧ w.heap.size < w3.heap.size := by
  refine ⟨⟨?_, ?_⟩, ?_⟩
  · rw [hb.cell (by simp)]; simp
  · rw [hb.cell (by simp)]; simp
  · have := hb.size; simp at this; omega

set_option maxHeartbeats 1000000 in
theorem mcheck_path (p v : ByteArray) (A : Nat → Addr) (m : Int) (w : World) (hp : p.size < 4294967281) (S : Te w A m) (h0 : pathErr p.data.toList ≠ 0) :
    Calls Tryz.prog 27 #[.agg #[.string p, .string v]] w fun e w' => e = .returned (errA A (pathErr p.data.toList)) ∧ Below w.heap.size w w' := by
  have HB0 := hid ((Below.refl w.heap.size w).alloc (Nat.le_refl _) (.cells #[.string p, .string v] 45))
  have HP := hid (readPath_any p A m _ hp (S.below HB0.out))
  obtain ⟨a9, ha9⟩ := errA_ne A h0
  have HE := hid ha9
  clear S h0 ha9
  go_enter Tryz.func27, Tryz.ntmps27
  go_wp2_with fail
  refine HP.out.mono ?_
  rintro e w1 ⟨⟨H, n, v, rfl, hv, _, _⟩, hb⟩
  rw [HE.out] at hv
  subst hv
  have HB := hid (HB0.out.trans (hb.mono HB0.out.size))
  clear hb
  go_wp2_with fail
  go_ret
  exact ⟨by rw [HE.out]; rfl, HB.out⟩

set_option maxHeartbeats 1000000 in
theorem mcheck_ver (p v : ByteArray) (A : Nat → Addr) (m : Int) (w : World) (hp : p.size < 4294967281) (hvs : v.size < 4294967281) (S : Te w A m) (h0 : pathErr p.data.toList = 0) (h1 : verErr v.data.toList ≠ 0) :
    Calls Tryz.prog 27 #[.agg #[.string p, .string v]] w fun e w' => e = .returned (errA A (verErr v.data.toList)) ∧ Below w.heap.size w w' := by
  obtain ⟨a9, ha9⟩ := errV_ne (A 0) (A 1) h1
  have HE := hid ha9
  have HV := hid h1
  have HX := hid (errA_V A (verErr v.data.toList) (verErr_err _))
  clear ha9 h1
  have HB0 := hid ((Below.refl w.heap.size w).alloc (Nat.le_refl _) (.cells #[.string p, .string v] 45))
  have HS0 := hid (S.below HB0.out)
  have HP := hid (readPath_any p A m _ hp HS0.out)
  have H0 := hid h0
  clear S h0
  go_enter Tryz.func27, Tryz.ntmps27
  go_wp2_with fail
  refine HP.out.mono ?_
  rintro e w1 ⟨⟨H, n, ev, rfl, hv, hgood, _⟩, hb⟩
  obtain ⟨_, rfl⟩ := hgood H0.out
  rw [H0.out, errA0] at hv
  subst hv
  obtain ⟨⟨r0, r1⟩, rz⟩ := res2 (hb.mono (by simp))
  have HS1 := hid (HS0.out.below hb)
  have HB := hid (HB0.out.trans (hb.mono HB0.out.size))
  clear hb hgood
  go_wp2_with fail
  refine (vsplit_bad v (A 0) (A 1) m w1 hvs HS1.out.vs HV.out).mono ?_
  rintro e w2 ⟨rfl, hb2⟩
  rw [HE.out]
  have HB2 := hid (HB.out.trans (hb2.mono HB.out.size))
  clear hb2
  go_wp2_with fail
  go_ret
  exact ⟨by rw [← HX.out, HE.out]; rfl, HB2.out.alloc HB2.out.size _⟩

set_option maxHeartbeats 1000000 in
theorem mcheck_major (p v : ByteArray) (A : Nat → Addr) (m : Int) (w : World) (hp : p.size < 4294967281) (hvs : v.size < 4294967281) (S : Te w A m) (h0 : pathErr p.data.toList = 0) (h1 : verErr v.data.toList = 0) (h2 : fitsB (nAt v.data.toList 0) (pathN p.data.toList) = false) :
    Calls Tryz.prog 27 #[.agg #[.string p, .string v]] w fun e w' => e = .returned (.iface 201 (.pointer (some (A 3)))) ∧ Below w.heap.size w w' := by
  have HV := hid h1
  have HF := hid h2
  clear h1 h2
  have HB0 := hid ((Below.refl w.heap.size w).alloc (Nat.le_refl _) (.cells #[.string p, .string v] 45))
  have HS0 := hid (S.below HB0.out)
  have HP := hid (readPath_any p A m _ hp HS0.out)
  have H0 := hid h0
  clear S h0
  go_enter Tryz.func27, Tryz.ntmps27
  go_wp2_with fail
  refine HP.out.mono ?_
  rintro e w1 ⟨⟨H, n, ev, rfl, hv, hgood, _⟩, hb⟩
  obtain ⟨_, rfl⟩ := hgood H0.out
  rw [H0.out, errA0] at hv
  subst hv
  obtain ⟨⟨r0, r1⟩, rz⟩ := res2 (hb.mono (by simp))
  have HS1 := hid (HS0.out.below hb)
  have HB := hid (HB0.out.trans (hb.mono HB0.out.size))
  clear hb hgood
  go_wp2_with fail
  refine (vsplit_good v (A 0) (A 1) m w1 hvs HS1.out.vs HV.out).mono ?_
  rintro e w2 ⟨u, X, rfl, _, hst, hb2⟩
  obtain ⟨pa, na, ca, rfl⟩ := hst.slice
  have HB2 := hid (HB.out.trans (hb2.mono HB.out.size))
  have HS2 := hid (HS1.out.below hb2)
  have HBA := hid ((Below.refl w2.heap.size w2).alloc (Nat.le_refl _) (.cells #[.int .i64 (nAt v.data.toList 0), .int .i64 (nAt v.data.toList 1), .int .i64 (nAt v.data.toList 2), .slice pa na ca] 30))
  have HS3 := hid (HS2.out.below HBA.out)
  have HB3 := hid (HB2.out.trans (HBA.out.mono HB2.out.size))
  clear hb2 hst
  go_wp2_with fail
  refine (fits_any _ _ _).mono ?_
  rintro e w' ⟨rfl, rfl⟩
  rw [HF.out]
  have g3 := HS3.out.sen.g3
  go_wp2_with fail
  go_ret
  exact ⟨rfl, HB3.out⟩

set_option maxHeartbeats 1000000 in
theorem mcheck_ok (p v : ByteArray) (A : Nat → Addr) (m : Int) (w : World) (hp : p.size < 4294967281) (hvs : v.size < 4294967281) (S : Te w A m) (h0 : pathErr p.data.toList = 0) (h1 : verErr v.data.toList = 0) (h2 : fitsB (nAt v.data.toList 0) (pathN p.data.toList) = true) :
    Calls Tryz.prog 27 #[.agg #[.string p, .string v]] w fun e w' => e = .returned (.nilIface) ∧ Below w.heap.size w w' := by
  have HV := hid h1
  have HF := hid h2
  clear h1 h2
  have HB0 := hid ((Below.refl w.heap.size w).alloc (Nat.le_refl _) (.cells #[.string p, .string v] 45))
  have HS0 := hid (S.below HB0.out)
  have HP := hid (readPath_any p A m _ hp HS0.out)
  have H0 := hid h0
  clear S h0
  go_enter Tryz.func27, Tryz.ntmps27
  go_wp2_with fail
  refine HP.out.mono ?_
  rintro e w1 ⟨⟨H, n, ev, rfl, hv, hgood, _⟩, hb⟩
  obtain ⟨_, rfl⟩ := hgood H0.out
  rw [H0.out, errA0] at hv
  subst hv
  obtain ⟨⟨r0, r1⟩, rz⟩ := res2 (hb.mono (by simp))
  have HS1 := hid (HS0.out.below hb)
  have HB := hid (HB0.out.trans (hb.mono HB0.out.size))
  clear hb hgood
  go_wp2_with fail
  refine (vsplit_good v (A 0) (A 1) m w1 hvs HS1.out.vs HV.out).mono ?_
  rintro e w2 ⟨u, X, rfl, _, hst, hb2⟩
  obtain ⟨pa, na, ca, rfl⟩ := hst.slice
  have HB2 := hid (HB.out.trans (hb2.mono HB.out.size))
  have HS2 := hid (HS1.out.below hb2)
  have HBA := hid ((Below.refl w2.heap.size w2).alloc (Nat.le_refl _) (.cells #[.int .i64 (nAt v.data.toList 0), .int .i64 (nAt v.data.toList 1), .int .i64 (nAt v.data.toList 2), .slice pa na ca] 30))
  have HS3 := hid (HS2.out.below HBA.out)
  have HB3 := hid (HB2.out.trans (HBA.out.mono HB2.out.size))
  clear hb2 hst
  go_wp2_with fail
  refine (fits_any _ _ _).mono ?_
  rintro e w' ⟨rfl, rfl⟩
  rw [HF.out]
  go_wp2_with fail
  go_ret
  exact ⟨rfl, HB3.out⟩

theorem mcheck_any (p v : ByteArray) (A : Nat → Addr) (m : Int) (w : World) (hp : p.size < 4294967281) (hv : v.size < 4294967281) (S : Te w A m) :
    Calls Tryz.prog 27 #[.agg #[.string p, .string v]] w fun e w' => e = .returned (errA A (modErr p.data.toList v.data.toList)) ∧ Below w.heap.size w w' := by
  unfold modErr
  by_cases h0 : pathErr p.data.toList = 0
  · rw [if_pos h0]
    by_cases h1 : verErr v.data.toList = 0
    · rw [if_pos h1]
      cases h2 : fitsB (nAt v.data.toList 0) (pathN p.data.toList)
      · exact mcheck_major p v A m w hp hv S h0 h1 h2
      · exact mcheck_ok p v A m w hp hv S h0 h1 h2
    · rw [if_neg h1]; exact mcheck_ver p v A m w hp hv S h0 h1
  · rw [if_neg h0]; exact mcheck_path p v A m w hp S h0

/-- Text: the text, or nothing. -/
def modText (p v : List UInt8) : List UInt8 := if modErr p v = 0 then p ++ 64 :: v else []
set_option maxHeartbeats 1000000 in
theorem mtext_any (p v : ByteArray) (A : Nat → Addr) (m : Int) (w : World) (hp : p.size < 999999) (hv : v.size < 999999) (S : Te w A m) :
    Calls Tryz.prog 29 #[.agg #[.string p, .string v]] w fun e w' => ∃ T : ByteArray, e = .returned (.string T) ∧ T.data.toList = modText p.data.toList v.data.toList ∧ Below w.heap.size w w' := by
  have HT := hid (show modText p.data.toList v.data.toList = if modErr p.data.toList v.data.toList = 0 then p.data.toList ++ 64 :: v.data.toList else [] from rfl)
  have HB0 := hid ((Below.refl w.heap.size w).alloc (Nat.le_refl _) (.cells #[.string p, .string v] 45))
  have HC := hid (mcheck_any p v A m _ (by omega) (by omega) (S.below HB0.out))
  clear S
  by_cases h0 : modErr p.data.toList v.data.toList = 0
  · rw [h0] at HC
    rw [errA0] at HC
    rw [if_pos h0] at HT
    clear h0
    go_enter Tryz.func29, Tryz.ntmps29
    go_wp2_with fail
    refine HC.out.mono ?_
    rintro e w1 ⟨rfl, hb⟩
    obtain ⟨⟨r0, r1⟩, rz⟩ := res2 (hb.mono (by simp))
    have HB := hid (HB0.out.trans (hb.mono HB0.out.size))
    clear hb
    go_wp2_with fail
    go_ret
    exact ⟨_, rfl, by rw [HT.out]; simp, HB.out⟩
  · obtain ⟨a9, ha9⟩ := errA_ne A h0
    rw [ha9] at HC
    rw [if_neg h0] at HT
    clear h0 ha9
    go_enter Tryz.func29, Tryz.ntmps29
    go_wp2_with fail
    refine HC.out.mono ?_
    rintro e w1 ⟨rfl, hb⟩
    have HB := hid (HB0.out.trans (hb.mono HB0.out.size))
    clear hb
    go_wp2_with fail
    go_ret
    exact ⟨_, rfl, by rw [HT.out], HB.out⟩
end Ve
end Go.Proofs.YtmgpapghdbopiaaGreatDoor
