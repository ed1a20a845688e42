/-
  OrdP ModD Ahead
-/
import Derived.Test.YtiebgeamfblbdaaGreatDoorFb12
import Derived.Test.YtiebgeamfblbdaaGreatDoorFb14
import Derived.Test.YtiebgeamfblbdaaGreatDoorFb16
namespace Go.Proofs.YtiebgeamfblbdaaGreatDoor
namespace Ve
end Ve
end Go.Proofs.YtiebgeamfblbdaaGreatDoor
namespace Go.Proofs.YtiebgeamfblbdaaGreatDoor
open Go.RowKit
namespace Ve
def fitsB (major suffix : Int) : Bool := if suffix == 0 then (major == 0 || major == 1) else major == suffix
theorem fits_any (a b : Int) (w : World) : Calls Tryz.prog 58 #[.int .i64 a, .int .i64 b] w fun e w' => e = .returned (.bool (fitsB a b)) ∧ w' = w := by
  have HF := hid (show fitsB a b = if b == 0 then (a == 0 || a == 1) else a == b from rfl)
  cases h : (b == 0)
  · rw [h] at HF
    go_enter Tryz.func58, Tryz.ntmps58
    go_wp2_with fail
    go_ret
    exact ⟨ret_bool (by rw [HF.out]; rfl), rfl⟩
  · rw [h] at HF
    cases h2 : (a == 0)
    · rw [h2] at HF
      go_enter Tryz.func58, Tryz.ntmps58
      go_wp2_with fail
      go_ret
      exact ⟨ret_bool (by rw [HF.out]; rfl), rfl⟩
    · rw [h2] at HF
      go_enter Tryz.func58, Tryz.ntmps58
      go_wp2_with fail
      go_ret
      exact ⟨ret_bool (by rw [HF.out]; rfl), rfl⟩
def modErr (p v : List UInt8) : Nat := if pathErr p = 0 then (if verErr v = 0 then (if fitsB (nAt v 0) (pathN p) then 0 else 4) else verErr v) else pathErr p
theorem verErr_err (l : List UInt8) : verErr l = 0 ∨ verErr l = 1 ∨ verErr l = 2 := by
  unfold verErr
  split
  · simp
  · split
    · exact worse_err (numsErr_err _) (pre_err _)
    · exact numsErr_err _
theorem res2 {w w3 : World} {a b : Value} {T : TypeId} (hb : Below (w.heap.size + 1) (w.alloc (.cells #[a, b] T)) w3) :
    (w3.cell? ⟨w.heap.size, 0, none⟩ = some a ∧ w3.cell? ⟨w.heap.size, 1, none⟩ = some b) ∧ w.heap.size < w3.heap.size := by
  refine ⟨⟨?_, ?_⟩, ?_⟩
  · rw [hb.cell (by simp)]; simp
  · rw [hb.cell (by simp)]; simp
  · have := hb.size; simp at this; omega
set_option maxHeartbeats 1000000 in
theorem mcheck_path (p v : ByteArray) (A : Nat → Addr) (m : Int) (w : World) (hp : p.size < 4294967281) (S : Te w A m) (h0 : pathErr p.data.toList ≠ 0) :
    Calls Tryz.prog 32 #[.agg #[.string p, .string v]] w fun e w' => e = .returned (errA A (pathErr p.data.toList)) ∧ Below w.heap.size w w' := by
  have HB0 := hid ((Below.refl w.heap.size w).alloc (Nat.le_refl _) (.cells #[.string p, .string v] 26))
  have HP := hid (readPath_any p A m _ hp (S.below HB0.out))
  obtain ⟨a9, ha9⟩ := errA_ne A h0
  have HE := hid ha9
  clear S h0 ha9
  go_enter Tryz.func32, Tryz.ntmps32
  go_wp2_with fail
  refine HP.out.mono ?_
  rintro e w1 ⟨⟨H, n, v, rfl, hv, _, _⟩, hb⟩
  rw [HE.out] at hv
  subst hv
  have HB := hid (HB0.out.trans (hb.mono HB0.out.size))
  clear hb
  go_wp2_with fail
  go_ret
  exact ⟨by rw [HE.out]; rfl, HB.out⟩
set_option maxHeartbeats 1000000 in
theorem mcheck_ver (p v : ByteArray) (A : Nat → Addr) (m : Int) (w : World) (hp : p.size < 4294967281) (hvs : v.size < 4294967281) (S : Te w A m) (h0 : pathErr p.data.toList = 0) (h1 : verErr v.data.toList ≠ 0) :
    Calls Tryz.prog 32 #[.agg #[.string p, .string v]] w fun e w' => e = .returned (errA A (verErr v.data.toList)) ∧ Below w.heap.size w w' := by
  obtain ⟨a9, ha9⟩ := errV_ne (A 0) (A 1) h1
  have HE := hid ha9
  have HV := hid h1
  have HX := hid (errA_V A (verErr v.data.toList) (verErr_err _))
  clear ha9 h1
  have HB0 := hid ((Below.refl w.heap.size w).alloc (Nat.le_refl _) (.cells #[.string p, .string v] 26))
  have HS0 := hid (S.below HB0.out)
  have HP := hid (readPath_any p A m _ hp HS0.out)
  have H0 := hid h0
  clear S h0
  go_enter Tryz.func32, Tryz.ntmps32
  go_wp2_with fail
  refine HP.out.mono ?_
  rintro e w1 ⟨⟨H, n, ev, rfl, hv, hgood, _⟩, hb⟩
  obtain ⟨_, rfl⟩ := hgood H0.out
  rw [H0.out, errA0] at hv
  subst hv
  obtain ⟨⟨r0, r1⟩, rz⟩ := res2 (hb.mono (by simp))
  have HS1 := hid (HS0.out.below hb)
  have HB := hid (HB0.out.trans (hb.mono HB0.out.size))
  clear hb hgood
  go_wp2_with fail
  refine (vsplit_bad v (A 0) (A 1) m w1 hvs HS1.out.vs HV.out).mono ?_
  rintro e w2 ⟨rfl, hb2⟩
  rw [HE.out]
  have HB2 := hid (HB.out.trans (hb2.mono HB.out.size))
  clear hb2
  go_wp2_with fail
  go_ret
  exact ⟨by rw [← HX.out, HE.out]; rfl, HB2.out.alloc HB2.out.size _⟩
set_option maxHeartbeats 1000000 in
theorem mcheck_major (p v : ByteArray) (A : Nat → Addr) (m : Int) (w : World) (hp : p.size < 4294967281) (hvs : v.size < 4294967281) (S : Te w A m) (h0 : pathErr p.data.toList = 0) (h1 : verErr v.data.toList = 0) (h2 : fitsB (nAt v.data.toList 0) (pathN p.data.toList) = false) :
    Calls Tryz.prog 32 #[.agg #[.string p, .string v]] w fun e w' => e = .returned (.iface 169 (.pointer (some (A 3)))) ∧ Below w.heap.size w w' := by
  have HV := hid h1
  have HF := hid h2
  clear h1 h2
  have HB0 := hid ((Below.refl w.heap.size w).alloc (Nat.le_refl _) (.cells #[.string p, .string v] 26))
  have HS0 := hid (S.below HB0.out)
  have HP := hid (readPath_any p A m _ hp HS0.out)
  have H0 := hid h0
  clear S h0
  go_enter Tryz.func32, Tryz.ntmps32
  go_wp2_with fail
  refine HP.out.mono ?_
  rintro e w1 ⟨⟨H, n, ev, rfl, hv, hgood, _⟩, hb⟩
  obtain ⟨_, rfl⟩ := hgood H0.out
  rw [H0.out, errA0] at hv
  subst hv
  obtain ⟨⟨r0, r1⟩, rz⟩ := res2 (hb.mono (by simp))
  have HS1 := hid (HS0.out.below hb)
  have HB := hid (HB0.out.trans (hb.mono HB0.out.size))
  clear hb hgood
  go_wp2_with fail
  refine (vsplit_good v (A 0) (A 1) m w1 hvs HS1.out.vs HV.out).mono ?_
  rintro e w2 ⟨u, X, rfl, _, hst, hb2⟩
  obtain ⟨pa, na, ca, rfl⟩ := hst.slice
  have HB2 := hid (HB.out.trans (hb2.mono HB.out.size))
  have HS2 := hid (HS1.out.below hb2)
  have HBA := hid ((Below.refl w2.heap.size w2).alloc (Nat.le_refl _) (.cells #[.int .i64 (nAt v.data.toList 0), .int .i64 (nAt v.data.toList 1), .int .i64 (nAt v.data.toList 2), .slice pa na ca] 85))
  have HS3 := hid (HS2.out.below HBA.out)
  have HB3 := hid (HB2.out.trans (HBA.out.mono HB2.out.size))
  clear hb2 hst
  go_wp2_with fail
  refine (fits_any _ _ _).mono ?_
  rintro e w' ⟨rfl, rfl⟩
  rw [HF.out]
  have g3 := HS3.out.sen.g3
  go_wp2_with fail
  go_ret
  exact ⟨rfl, HB3.out⟩
set_option maxHeartbeats 1000000 in
theorem mcheck_ok (p v : ByteArray) (A : Nat → Addr) (m : Int) (w : World) (hp : p.size < 4294967281) (hvs : v.size < 4294967281) (S : Te w A m) (h0 : pathErr p.data.toList = 0) (h1 : verErr v.data.toList = 0) (h2 : fitsB (nAt v.data.toList 0) (pathN p.data.toList) = true) :
    Calls Tryz.prog 32 #[.agg #[.string p, .string v]] w fun e w' => e = .returned (.nilIface) ∧ Below w.heap.size w w' := by
  have HV := hid h1
  have HF := hid h2
  clear h1 h2
  have HB0 := hid ((Below.refl w.heap.size w).alloc (Nat.le_refl _) (.cells #[.string p, .string v] 26))
  have HS0 := hid (S.below HB0.out)
  have HP := hid (readPath_any p A m _ hp HS0.out)
  have H0 := hid h0
  clear S h0
  go_enter Tryz.func32, Tryz.ntmps32
  go_wp2_with fail
  refine HP.out.mono ?_
  rintro e w1 ⟨⟨H, n, ev, rfl, hv, hgood, _⟩, hb⟩
  obtain ⟨_, rfl⟩ := hgood H0.out
  rw [H0.out, errA0] at hv
  subst hv
  obtain ⟨⟨r0, r1⟩, rz⟩ := res2 (hb.mono (by simp))
  have HS1 := hid (HS0.out.below hb)
  have HB := hid (HB0.out.trans (hb.mono HB0.out.size))
  clear hb hgood
  go_wp2_with fail
  refine (vsplit_good v (A 0) (A 1) m w1 hvs HS1.out.vs HV.out).mono ?_
  rintro e w2 ⟨u, X, rfl, _, hst, hb2⟩
  obtain ⟨pa, na, ca, rfl⟩ := hst.slice
  have HB2 := hid (HB.out.trans (hb2.mono HB.out.size))
  have HS2 := hid (HS1.out.below hb2)
  have HBA := hid ((Below.refl w2.heap.size w2).alloc (Nat.le_refl _) (.cells #[.int .i64 (nAt v.data.toList 0), .int .i64 (nAt v.data.toList 1), .int .i64 (nAt v.data.toList 2), .slice pa na ca] 85))
  have HS3 := hid (HS2.out.below HBA.out)
  have HB3 := hid (HB2.out.trans (HBA.out.mono HB2.out.size))
  clear hb2 hst
  go_wp2_with fail
  refine (fits_any _ _ _).mono ?_
  rintro e w' ⟨rfl, rfl⟩
  rw [HF.out]
  go_wp2_with fail
  go_ret
  exact ⟨rfl, HB3.out⟩
theorem mcheck_any (p v : ByteArray) (A : Nat → Addr) (m : Int) (w : World) (hp : p.size < 4294967281) (hv : v.size < 4294967281) (S : Te w A m) :
    Calls Tryz.prog 32 #[.agg #[.string p, .string v]] w fun e w' => e = .returned (errA A (modErr p.data.toList v.data.toList)) ∧ Below w.heap.size w w' := by
  unfold modErr
  by_cases h0 : pathErr p.data.toList = 0
  · rw [if_pos h0]
    by_cases h1 : verErr v.data.toList = 0
    · rw [if_pos h1]
      cases h2 : fitsB (nAt v.data.toList 0) (pathN p.data.toList)
      · exact mcheck_major p v A m w hp hv S h0 h1 h2
      · exact mcheck_ok p v A m w hp hv S h0 h1 h2
    · rw [if_neg h1]; exact mcheck_ver p v A m w hp hv S h0 h1
  · rw [if_neg h0]; exact mcheck_path p v A m w hp S h0
end Ve
end Go.Proofs.YtiebgeamfblbdaaGreatDoor
namespace Go.Proofs.YtiebgeamfblbdaaGreatDoor
open Go.RowKit
namespace Ve
theorem str_refl (a : ByteArray) : (a.toList == a.toList) = true := by simp
def aheadB (p v q u : List UInt8) : Bool := if p = q then lessB v u else decide (Lib.compareBytes p q < 0)
set_option maxHeartbeats 1000000 in
theorem ahead_any (p v q u : ByteArray) (A : Nat → Addr) (m : Int) (w : World) (hv : v.size < 999999) (hu : u.size < 999999) (S : Te w A m) :
    Calls Tryz.prog 34 #[.agg #[.string p, .string v], .agg #[.string q, .string u]] w fun e w' => e = .returned (.bool (aheadB p.data.toList v.data.toList q.data.toList u.data.toList)) ∧ Below w.heap.size w w' := by
  have HO := hid (show aheadB p.data.toList v.data.toList q.data.toList u.data.toList = if p.data.toList = q.data.toList then lessB v.data.toList u.data.toList else decide (Lib.compareBytes p.data.toList q.data.toList < 0) from rfl)
  have HB0 := hid (((Below.refl w.heap.size w).alloc (Nat.le_refl _) (.cells #[.string p, .string v] 26)).alloc (by simp) (.cells #[.string q, .string u] 26))
  by_cases h : p = q
  · subst h
    rw [if_pos rfl] at HO
    have he := str_refl p
    have HL := hid (fun W (SW : Te W A m) => less_any v u (A 0) (A 1) m W hv hu SW.vs)
    have HS := hid S
    clear S
    go_enter Tryz.func34, Tryz.ntmps34
    go_wp2_with fail
    refine (HL.out _ (HS.out.below HB0.out)).mono ?_
    rintro e w1 ⟨rfl, hb⟩
    have HB := hid (HB0.out.trans (hb.mono HB0.out.size))
    clear hb
    go_wp2_with fail
    go_ret
    exact ⟨ret_bool HO.out.symm, HB.out⟩
  · rw [if_neg (fun e => h (str_ext e))] at HO
    have he := str_ne h
    have HC := hid (show Op.bytesLess p.toList q.toList = decide (Lib.compareBytes p.data.toList q.data.toList < 0) by rw [cb_less, ByteArray.toList_eq, ByteArray.toList_eq])
    clear S h
    go_enter Tryz.func34, Tryz.ntmps34
    go_wp2_with fail
    go_ret
    exact ⟨ret_bool (by rw [HO.out, ← HC.out]), HB0.out⟩
end Ve
end Go.Proofs.YtiebgeamfblbdaaGreatDoor
