/-
  LessAny Ahead ModQ ModD FileP FileA MsB
-/
import Derived.Test.YtnkgjddkdikikaaGreatDoorPq2
import Derived.Test.YtnkgjddkdikikaaGreatDoorPq3
import Derived.Test.YtnkgjddkdikikaaGreatDoorPq4
import Derived.Test.YtnkgjddkdikikaaGreatDoorPq7
import Derived.Test.YtnkgjddkdikikaaGreatDoorPq10
import Derived.Test.YtnkgjddkdikikaaGreatDoorPq13
import Derived.Laws.StructEq
import Derived.Test.YtnkgjddkdikikaaGreatDoorPq9
import Derived.Test.YtnkgjddkdikikaaGreatDoorPq21
import Derived.Deep.AppendLies
namespace Go.Proofs.YtnkgjddkdikikaaGreatDoor
open Go.RowKit
namespace Ve
def lessB (s t : List UInt8) : Bool := decide (verErr s = 0) && (decide (verErr t = 0) && decide (ordV s t < 0))
set_option maxHeartbeats 1000000 in
theorem less_11 (k : Int) (x y z x' y' z' : Int) (X Y : List ByteArray) (s t : ByteArray) (aT aB : Addr) (m : Int) (w : World) (S : Vs w aT aB m)
    (hA : Calls Tryz.prog 20 #[.string s] w fun e w' => GoodP w w' e x y z X) (hT : ∀ W, Vs W aT aB m → Calls Tryz.prog 20 #[.string t] W fun e w' => GoodP W w' e x' y' z' Y)
    (hC : ∀ W va vb, StrsAt W va X → StrsAt W vb Y → Calls Tryz.prog 69 #[.agg #[.int .i64 x, .int .i64 y, .int .i64 z, va], .agg #[.int .i64 x', .int .i64 y', .int .i64 z', vb]] W fun e w' => e = .returned (.int .i64 k) ∧ Below W.heap.size W w') :
    Calls Tryz.prog 21 #[.string s, .string t] w fun e w' => e = .returned (.bool (decide (k < 0))) ∧ Below w.heap.size w w' := by
  have HC := hid hC
  clear hC
  have HA := hid hA
  have HT := hid hT
  have HS := hid S
  clear hA hT S
  go_enter Tryz.func21, Tryz.ntmps21
  go_wp2_with fail
  refine HA.out.mono ?_
  rintro e w1 ⟨v, rfl, hst, hb1⟩
  obtain ⟨pa, na, ca, rfl⟩ := hst.slice
  have HST := hid hst
  clear hst
  have HB1 := hid hb1
  have HB2 := hid ((Below.refl w1.heap.size w1).alloc (Nat.le_refl _) (.cells #[.int .i64 x, .int .i64 y, .int .i64 z, .slice pa na ca] 37))
  have HS1 := hid ((HS.out.below hb1).below HB2.out)
  clear hb1
  go_wp2_with fail
  refine (HT.out _ HS1.out).mono ?_
  rintro e w2 ⟨v, rfl, hst, hb2⟩
  obtain ⟨pb, nb, cb, rfl⟩ := hst.slice
  have HTT := hid hst
  clear hst
  obtain ⟨⟨r0, r1, r2, r3⟩, rf, rz⟩ := res4 (hb2.mono (by simp))
  have HB12 := hid (HB2.out.trans (hb2.mono (by simp)))
  have HB3 := hid (HB1.out.trans (HB12.out.mono HB1.out.size))
  have HBA := hid ((Below.refl w2.heap.size w2).alloc (Nat.le_refl _) (.cells #[.int .i64 x', .int .i64 y', .int .i64 z', .slice pb nb cb] 37))
  have HB4 := hid (HB3.out.trans (HBA.out.mono HB3.out.size))
  clear hb2
  have HSA := hid ((HST.out.below HB12.out).below HBA.out)
  have HSB := hid (HTT.out.below HBA.out)
  go_wp2_with fail
  refine (HC.out _ _ _ HSA.out HSB.out).mono ?_
  rintro e w3 ⟨rfl, hb3⟩
  have HB5 := hid (HB4.out.trans (hb3.mono HB4.out.size))
  clear hb3
  go_wp2_with fail
  go_ret
  exact ⟨rfl, HB5.out⟩
set_option maxHeartbeats 1000000 in
theorem less_10 (x y z : Int) (X : List ByteArray) (s t : ByteArray) (aT aB : Addr) (m : Int) (w : World) (S : Vs w aT aB m)
    (hA : Calls Tryz.prog 20 #[.string s] w fun e w' => GoodP w w' e x y z X) (hT : ∀ W, Vs W aT aB m → Calls Tryz.prog 20 #[.string t] W fun e w' => BadP W w' e) :
    Calls Tryz.prog 21 #[.string s, .string t] w fun e w' => e = .returned (.bool false) ∧ Below w.heap.size w w' := by
  have HA := hid hA
  have HT := hid hT
  have HS := hid S
  clear hA hT S
  go_enter Tryz.func21, Tryz.ntmps21
  go_wp2_with fail
  refine HA.out.mono ?_
  rintro e w1 ⟨v, rfl, hst, hb1⟩
  obtain ⟨pa, na, ca, rfl⟩ := hst.slice
  have HST := hid hst
  clear hst
  have HB1 := hid hb1
  have HB2 := hid ((Below.refl w1.heap.size w1).alloc (Nat.le_refl _) (.cells #[.int .i64 x, .int .i64 y, .int .i64 z, .slice pa na ca] 37))
  have HS1 := hid ((HS.out.below hb1).below HB2.out)
  clear hb1
  go_wp2_with fail
  refine (HT.out _ HS1.out).mono ?_
  rintro e w2 ⟨a2, rfl, hb2⟩
  obtain ⟨⟨r0, r1, r2, r3⟩, rf, rz⟩ := res4 (hb2.mono (by simp))
  have HB12 := hid (HB2.out.trans (hb2.mono (by simp)))
  have HB3 := hid (HB1.out.trans (HB12.out.mono HB1.out.size))
  have HBA := hid ((Below.refl w2.heap.size w2).alloc (Nat.le_refl _) (.cells #[.int .i64 0, .int .i64 0, .int .i64 0, .slice none 0 0] 37))
  have HB4 := hid (HB3.out.trans (HBA.out.mono HB3.out.size))
  clear hb2
  go_wp2_with fail
  go_ret
  exact ⟨rfl, HB4.out⟩
set_option maxHeartbeats 1000000 in
theorem less_01 (x' y' z' : Int) (Y : List ByteArray) (s t : ByteArray) (aT aB : Addr) (m : Int) (w : World) (S : Vs w aT aB m)
    (hA : Calls Tryz.prog 20 #[.string s] w fun e w' => BadP w w' e) (hT : ∀ W, Vs W aT aB m → Calls Tryz.prog 20 #[.string t] W fun e w' => GoodP W w' e x' y' z' Y) :
    Calls Tryz.prog 21 #[.string s, .string t] w fun e w' => e = .returned (.bool false) ∧ Below w.heap.size w w' := by
  have HA := hid hA
  have HT := hid hT
  have HS := hid S
  clear hA hT S
  go_enter Tryz.func21, Tryz.ntmps21
  go_wp2_with fail
  refine HA.out.mono ?_
  rintro e w1 ⟨a1, rfl, hb1⟩
  have HB1 := hid hb1
  have HB2 := hid ((Below.refl w1.heap.size w1).alloc (Nat.le_refl _) (.cells #[.int .i64 0, .int .i64 0, .int .i64 0, .slice none 0 0] 37))
  have HS1 := hid ((HS.out.below hb1).below HB2.out)
  clear hb1
  go_wp2_with fail
  refine (HT.out _ HS1.out).mono ?_
  rintro e w2 ⟨v, rfl, hst, hb2⟩
  obtain ⟨pb, nb, cb, rfl⟩ := hst.slice
  have HTT := hid hst
  clear hst
  obtain ⟨⟨r0, r1, r2, r3⟩, rf, rz⟩ := res4 (hb2.mono (by simp))
  have HB12 := hid (HB2.out.trans (hb2.mono (by simp)))
  have HB3 := hid (HB1.out.trans (HB12.out.mono HB1.out.size))
  have HBA := hid ((Below.refl w2.heap.size w2).alloc (Nat.le_refl _) (.cells #[.int .i64 x', .int .i64 y', .int .i64 z', .slice pb nb cb] 37))
  have HB4 := hid (HB3.out.trans (HBA.out.mono HB3.out.size))
  clear hb2
  go_wp2_with fail
  go_ret
  exact ⟨rfl, HB4.out⟩
set_option maxHeartbeats 1000000 in
theorem less_00 (s t : ByteArray) (aT aB : Addr) (m : Int) (w : World) (S : Vs w aT aB m)
    (hA : Calls Tryz.prog 20 #[.string s] w fun e w' => BadP w w' e) (hT : ∀ W, Vs W aT aB m → Calls Tryz.prog 20 #[.string t] W fun e w' => BadP W w' e) :
    Calls Tryz.prog 21 #[.string s, .string t] w fun e w' => e = .returned (.bool false) ∧ Below w.heap.size w w' := by
  have HA := hid hA
  have HT := hid hT
  have HS := hid S
  clear hA hT S
  go_enter Tryz.func21, Tryz.ntmps21
  go_wp2_with fail
  refine HA.out.mono ?_
  rintro e w1 ⟨a1, rfl, hb1⟩
  have HB1 := hid hb1
  have HB2 := hid ((Below.refl w1.heap.size w1).alloc (Nat.le_refl _) (.cells #[.int .i64 0, .int .i64 0, .int .i64 0, .slice none 0 0] 37))
  have HS1 := hid ((HS.out.below hb1).below HB2.out)
  clear hb1
  go_wp2_with fail
  refine (HT.out _ HS1.out).mono ?_
  rintro e w2 ⟨a2, rfl, hb2⟩
  obtain ⟨⟨r0, r1, r2, r3⟩, rf, rz⟩ := res4 (hb2.mono (by simp))
  have HB12 := hid (HB2.out.trans (hb2.mono (by simp)))
  have HB3 := hid (HB1.out.trans (HB12.out.mono HB1.out.size))
  have HBA := hid ((Below.refl w2.heap.size w2).alloc (Nat.le_refl _) (.cells #[.int .i64 0, .int .i64 0, .int .i64 0, .slice none 0 0] 37))
  have HB4 := hid (HB3.out.trans (HBA.out.mono HB3.out.size))
  clear hb2
  go_wp2_with fail
  go_ret
  exact ⟨rfl, HB4.out⟩
theorem pre_bounds {s : ByteArray} {X : List ByteArray} (hs : s.size < 999999) (hX : bl X = preOf s.data.toList) : X.length ≤ 1000000 ∧ ∀ x, x ∈ X → x.size ≤ maxLen := by
  constructor
  · have := pre_len (l := s.data.toList); rw [← hX, bl_len, len_eq] at this; omega
  · intro x hx
    have hm : x.data.toList ∈ preOf s.data.toList := hX ▸ bl_mem hx
    have := pre_size hm
    rw [len_eq, len_eq] at this
    unfold maxLen; omega
theorem less_any (s t : ByteArray) (aT aB : Addr) (m : Int) (w : World) (hs : s.size < 999999) (ht : t.size < 999999) (S : Vs w aT aB m) :
    Calls Tryz.prog 21 #[.string s, .string t] w fun e w' => e = .returned (.bool (lessB s.data.toList t.data.toList)) ∧ Below w.heap.size w w' := by
  obtain ⟨X, hX⟩ : ∃ X, bl X = preOf s.data.toList := ⟨_, bl_strs _⟩
  obtain ⟨Y, hY⟩ : ∃ X, bl X = preOf t.data.toList := ⟨_, bl_strs _⟩
  obtain ⟨lX, pX⟩ := pre_bounds hs hX
  obtain ⟨lY, pY⟩ := pre_bounds ht hY
  unfold lessB
  by_cases h1 : verErr s.data.toList = 0
  all_goals by_cases h2 : verErr t.data.toList = 0
  · rw [decide_eq_true h1, decide_eq_true h2]
    refine (less_11 (ordV s.data.toList t.data.toList) _ _ _ _ _ _ X Y s t aT aB m w S (vsplit_is s aT aB m w (by omega) S h1 X hX) (fun W SW => vsplit_is t aT aB m W (by omega) SW h2 Y hY) ?_).mono fun e w' h => h
    intro W va vb ha hb
    unfold ordV
    rw [← hX, ← hY]
    exact compare_any _ _ _ _ _ _ va vb X Y W lX lY pX pY ha hb
  · rw [decide_eq_true h1, decide_eq_false h2]
    exact less_10 _ _ _ X s t aT aB m w S (vsplit_is s aT aB m w (by omega) S h1 X hX) (fun W SW => vsplit_not t aT aB m W (by omega) SW h2)
  · rw [decide_eq_false h1]
    exact less_01 _ _ _ Y s t aT aB m w S (vsplit_not s aT aB m w (by omega) S h1) (fun W SW => vsplit_is t aT aB m W (by omega) SW h2 Y hY)
  · rw [decide_eq_false h1]
    exact less_00 s t aT aB m w S (vsplit_not s aT aB m w (by omega) S h1) (fun W SW => vsplit_not t aT aB m W (by omega) SW h2)
end Ve
end Go.Proofs.YtnkgjddkdikikaaGreatDoor
namespace Go.Proofs.YtnkgjddkdikikaaGreatDoor
open Go.RowKit
namespace Ve
theorem str_refl (a : ByteArray) : (a.toList == a.toList) = true := by simp
def aheadB (p v q u : List UInt8) : Bool := if p = q then lessB v u else decide (Lib.compareBytes p q < 0)
set_option maxHeartbeats 1000000 in
theorem ahead_any (p v q u : ByteArray) (A : Nat → Addr) (m : Int) (w : World) (hv : v.size < 999999) (hu : u.size < 999999) (S : Te w A m) :
    Calls Tryz.prog 117 #[.agg #[.string p, .string v], .agg #[.string q, .string u]] w fun e w' => e = .returned (.bool (aheadB p.data.toList v.data.toList q.data.toList u.data.toList)) ∧ Below w.heap.size w w' := by
  have HO := hid (show aheadB p.data.toList v.data.toList q.data.toList u.data.toList = if p.data.toList = q.data.toList then lessB v.data.toList u.data.toList else decide (Lib.compareBytes p.data.toList q.data.toList < 0) from rfl)
  have HB0 := hid (((Below.refl w.heap.size w).alloc (Nat.le_refl _) (.cells #[.string p, .string v] 35)).alloc (by simp) (.cells #[.string q, .string u] 35))
  by_cases h : p = q
  · subst h
    rw [if_pos rfl] at HO
    have he := str_refl p
    have HL := hid (fun W (SW : Te W A m) => less_any v u (A 0) (A 1) m W hv hu SW.vs)
    have HS := hid S
    clear S
    go_enter Tryz.func117, Tryz.ntmps117
    go_wp2_with fail
    refine (HL.out _ (HS.out.below HB0.out)).mono ?_
    rintro e w1 ⟨rfl, hb⟩
    have HB := hid (HB0.out.trans (hb.mono HB0.out.size))
    clear hb
    go_wp2_with fail
    go_ret
    exact ⟨ret_bool HO.out.symm, HB.out⟩
  · rw [if_neg (fun e => h (str_ext e))] at HO
    have he := str_ne h
    have HC := hid (show Op.bytesLess p.toList q.toList = decide (Lib.compareBytes p.data.toList q.data.toList < 0) by rw [cb_less, ByteArray.toList_eq, ByteArray.toList_eq])
    clear S h
    go_enter Tryz.func117, Tryz.ntmps117
    go_wp2_with fail
    go_ret
    exact ⟨ret_bool (by rw [HO.out, ← HC.out]), HB0.out⟩
end Ve
end Go.Proofs.YtnkgjddkdikikaaGreatDoor
namespace Go.Proofs.YtnkgjddkdikikaaGreatDoor
open Go.RowKit
namespace Ve
theorem modSame (p v q u : ByteArray) (w : World) : (Op.equalIn 10000 35 (.agg #[.string p, .string v]) (.agg #[.string q, .string u])).run Tryz.prog w = .ok (decide (p = q ∧ v = u)) w := by
  have u3 := Tryz.underlying9
  have a3 := Tryz.isAgg9
  have z3 := Tryz.sizeOf9
  have hS : Tryz.prog.underlying 35 = some (.struct (Tryz.prog.fieldsOf 35)) := by kernel_rfl
  have hp : Tryz.prog.stoodInHeld 35 = false := by kernel_rfl
  rw [show (10000 : Nat) = 9999 + 1 from rfl, run_equalIn_agg w 9999 35 _ _ hS hp]
  simp only [Program.fieldsOf, Tryz.underlying35]
  by_cases h1 : p = q
  · subst h1
    by_cases h2 : v = u
    · subst h2
      have e1 := str_refl p
      have e2 := str_refl v
      go_simp
    · have e1 := str_refl p
      have e2 := str_ne h2
      go_simp
  · have e1 := str_ne h1
    go_simp
theorem modEql (p v q u : ByteArray) (w : World) : (binOp .eql 35 (.agg #[.string p, .string v]) (.agg #[.string q, .string u])).run Tryz.prog w = .ok (.bool (decide (p = q ∧ v = u))) w := by
  rw [run_eql_struct, modSame]; rfl
theorem modGuard : Tryz.prog.eqGuardType Tryz.prog.depth 35 = false := by kernel_rfl
end Ve
end Go.Proofs.YtnkgjddkdikikaaGreatDoor
namespace Go.Proofs.YtnkgjddkdikikaaGreatDoor
open Go.RowKit
namespace Ve
def fitsB (major suffix : Int) : Bool := if suffix == 0 then (major == 0 || major == 1) else major == suffix
theorem fits_any (a b : Int) (w : World) : Calls Tryz.prog 174 #[.int .i64 a, .int .i64 b] w fun e w' => e = .returned (.bool (fitsB a b)) ∧ w' = w := by
  have HF := hid (show fitsB a b = if b == 0 then (a == 0 || a == 1) else a == b from rfl)
  cases h : (b == 0)
  · rw [h] at HF
    go_enter Tryz.func174, Tryz.ntmps174
    go_wp2_with fail
    go_ret
    exact ⟨ret_bool (by rw [HF.out]; rfl), rfl⟩
  · rw [h] at HF
    cases h2 : (a == 0)
    · rw [h2] at HF
      go_enter Tryz.func174, Tryz.ntmps174
      go_wp2_with fail
      go_ret
      exact ⟨ret_bool (by rw [HF.out]; rfl), rfl⟩
    · rw [h2] at HF
      go_enter Tryz.func174, Tryz.ntmps174
      go_wp2_with fail
      go_ret
      exact ⟨ret_bool (by rw [HF.out]; rfl), rfl⟩
def modErr (p v : List UInt8) : Nat := if pathErr p = 0 then (if verErr v = 0 then (if fitsB (nAt v 0) (pathN p) then 0 else 4) else verErr v) else pathErr p
theorem verErr_err (l : List UInt8) : verErr l = 0 ∨ verErr l = 1 ∨ verErr l = 2 := by
  unfold verErr
  split
  · simp
  · split
    · exact worse_err (numsErr_err _) (pre_err _)
    · exact numsErr_err _
theorem res2 {w w3 : World} {a b : Value} {T : TypeId} (hb : Below (w.heap.size + 1) (w.alloc (.cells #[a, b] T)) w3) :
    (w3.cell? ⟨w.heap.size, 0, none⟩ = some a ∧ w3.cell? ⟨w.heap.size, 1, none⟩ = some b) ∧ w.heap.size < w3.heap.size := by
  refine ⟨⟨?_, ?_⟩, ?_⟩
  · rw [hb.cell (by simp)]; simp
  · rw [hb.cell (by simp)]; simp
  · have := hb.size; simp at this; omega
set_option maxHeartbeats 1000000 in
theorem mcheck_path (p v : ByteArray) (A : Nat → Addr) (m : Int) (w : World) (hp : p.size < 4294967281) (S : Te w A m) (h0 : pathErr p.data.toList ≠ 0) :
    Calls Tryz.prog 116 #[.agg #[.string p, .string v]] w fun e w' => e = .returned (errA A (pathErr p.data.toList)) ∧ Below w.heap.size w w' := by
  have HB0 := hid ((Below.refl w.heap.size w).alloc (Nat.le_refl _) (.cells #[.string p, .string v] 35))
  have HP := hid (readPath_any p A m _ hp (S.below HB0.out))
  obtain ⟨a9, ha9⟩ := errA_ne A h0
  have HE := hid ha9
  clear S h0 ha9
  go_enter Tryz.func116, Tryz.ntmps116
  go_wp2_with fail
  refine HP.out.mono ?_
  rintro e w1 ⟨⟨H, n, v, rfl, hv, _, _⟩, hb⟩
  rw [HE.out] at hv
  subst hv
  have HB := hid (HB0.out.trans (hb.mono HB0.out.size))
  clear hb
  go_wp2_with fail
  go_ret
  exact ⟨by rw [HE.out]; rfl, HB.out⟩
set_option maxHeartbeats 1000000 in
theorem mcheck_ver (p v : ByteArray) (A : Nat → Addr) (m : Int) (w : World) (hp : p.size < 4294967281) (hvs : v.size < 4294967281) (S : Te w A m) (h0 : pathErr p.data.toList = 0) (h1 : verErr v.data.toList ≠ 0) :
    Calls Tryz.prog 116 #[.agg #[.string p, .string v]] w fun e w' => e = .returned (errA A (verErr v.data.toList)) ∧ Below w.heap.size w w' := by
  obtain ⟨a9, ha9⟩ := errV_ne (A 0) (A 1) h1
  have HE := hid ha9
  have HV := hid h1
  have HX := hid (errA_V A (verErr v.data.toList) (verErr_err _))
  clear ha9 h1
  have HB0 := hid ((Below.refl w.heap.size w).alloc (Nat.le_refl _) (.cells #[.string p, .string v] 35))
  have HS0 := hid (S.below HB0.out)
  have HP := hid (readPath_any p A m _ hp HS0.out)
  have H0 := hid h0
  clear S h0
  go_enter Tryz.func116, Tryz.ntmps116
  go_wp2_with fail
  refine HP.out.mono ?_
  rintro e w1 ⟨⟨H, n, ev, rfl, hv, hgood, _⟩, hb⟩
  obtain ⟨_, rfl⟩ := hgood H0.out
  rw [H0.out, errA0] at hv
  subst hv
  obtain ⟨⟨r0, r1⟩, rz⟩ := res2 (hb.mono (by simp))
  have HS1 := hid (HS0.out.below hb)
  have HB := hid (HB0.out.trans (hb.mono HB0.out.size))
  clear hb hgood
  go_wp2_with fail
  refine (vsplit_bad v (A 0) (A 1) m w1 hvs HS1.out.vs HV.out).mono ?_
  rintro e w2 ⟨rfl, hb2⟩
  rw [HE.out]
  have HB2 := hid (HB.out.trans (hb2.mono HB.out.size))
  clear hb2
  go_wp2_with fail
  go_ret
  exact ⟨by rw [← HX.out, HE.out]; rfl, HB2.out.alloc HB2.out.size _⟩
set_option maxHeartbeats 1000000 in
theorem mcheck_major (p v : ByteArray) (A : Nat → Addr) (m : Int) (w : World) (hp : p.size < 4294967281) (hvs : v.size < 4294967281) (S : Te w A m) (h0 : pathErr p.data.toList = 0) (h1 : verErr v.data.toList = 0) (h2 : fitsB (nAt v.data.toList 0) (pathN p.data.toList) = false) :
    Calls Tryz.prog 116 #[.agg #[.string p, .string v]] w fun e w' => e = .returned (.iface 311 (.pointer (some (A 3)))) ∧ Below w.heap.size w w' := by
  have HV := hid h1
  have HF := hid h2
  clear h1 h2
  have HB0 := hid ((Below.refl w.heap.size w).alloc (Nat.le_refl _) (.cells #[.string p, .string v] 35))
  have HS0 := hid (S.below HB0.out)
  have HP := hid (readPath_any p A m _ hp HS0.out)
  have H0 := hid h0
  clear S h0
  go_enter Tryz.func116, Tryz.ntmps116
  go_wp2_with fail
  refine HP.out.mono ?_
  rintro e w1 ⟨⟨H, n, ev, rfl, hv, hgood, _⟩, hb⟩
  obtain ⟨_, rfl⟩ := hgood H0.out
  rw [H0.out, errA0] at hv
  subst hv
  obtain ⟨⟨r0, r1⟩, rz⟩ := res2 (hb.mono (by simp))
  have HS1 := hid (HS0.out.below hb)
  have HB := hid (HB0.out.trans (hb.mono HB0.out.size))
  clear hb hgood
  go_wp2_with fail
  refine (vsplit_good v (A 0) (A 1) m w1 hvs HS1.out.vs HV.out).mono ?_
  rintro e w2 ⟨u, X, rfl, _, hst, hb2⟩
  obtain ⟨pa, na, ca, rfl⟩ := hst.slice
  have HB2 := hid (HB.out.trans (hb2.mono HB.out.size))
  have HS2 := hid (HS1.out.below hb2)
  have HBA := hid ((Below.refl w2.heap.size w2).alloc (Nat.le_refl _) (.cells #[.int .i64 (nAt v.data.toList 0), .int .i64 (nAt v.data.toList 1), .int .i64 (nAt v.data.toList 2), .slice pa na ca] 37))
  have HS3 := hid (HS2.out.below HBA.out)
  have HB3 := hid (HB2.out.trans (HBA.out.mono HB2.out.size))
  clear hb2 hst
  go_wp2_with fail
  refine (fits_any _ _ _).mono ?_
  rintro e w' ⟨rfl, rfl⟩
  rw [HF.out]
  have g3 := HS3.out.sen.g3
  go_wp2_with fail
  go_ret
  exact ⟨rfl, HB3.out⟩
set_option maxHeartbeats 1000000 in
theorem mcheck_ok (p v : ByteArray) (A : Nat → Addr) (m : Int) (w : World) (hp : p.size < 4294967281) (hvs : v.size < 4294967281) (S : Te w A m) (h0 : pathErr p.data.toList = 0) (h1 : verErr v.data.toList = 0) (h2 : fitsB (nAt v.data.toList 0) (pathN p.data.toList) = true) :
    Calls Tryz.prog 116 #[.agg #[.string p, .string v]] w fun e w' => e = .returned (.nilIface) ∧ Below w.heap.size w w' := by
  have HV := hid h1
  have HF := hid h2
  clear h1 h2
  have HB0 := hid ((Below.refl w.heap.size w).alloc (Nat.le_refl _) (.cells #[.string p, .string v] 35))
  have HS0 := hid (S.below HB0.out)
  have HP := hid (readPath_any p A m _ hp HS0.out)
  have H0 := hid h0
  clear S h0
  go_enter Tryz.func116, Tryz.ntmps116
  go_wp2_with fail
  refine HP.out.mono ?_
  rintro e w1 ⟨⟨H, n, ev, rfl, hv, hgood, _⟩, hb⟩
  obtain ⟨_, rfl⟩ := hgood H0.out
  rw [H0.out, errA0] at hv
  subst hv
  obtain ⟨⟨r0, r1⟩, rz⟩ := res2 (hb.mono (by simp))
  have HS1 := hid (HS0.out.below hb)
  have HB := hid (HB0.out.trans (hb.mono HB0.out.size))
  clear hb hgood
  go_wp2_with fail
  refine (vsplit_good v (A 0) (A 1) m w1 hvs HS1.out.vs HV.out).mono ?_
  rintro e w2 ⟨u, X, rfl, _, hst, hb2⟩
  obtain ⟨pa, na, ca, rfl⟩ := hst.slice
  have HB2 := hid (HB.out.trans (hb2.mono HB.out.size))
  have HS2 := hid (HS1.out.below hb2)
  have HBA := hid ((Below.refl w2.heap.size w2).alloc (Nat.le_refl _) (.cells #[.int .i64 (nAt v.data.toList 0), .int .i64 (nAt v.data.toList 1), .int .i64 (nAt v.data.toList 2), .slice pa na ca] 37))
  have HS3 := hid (HS2.out.below HBA.out)
  have HB3 := hid (HB2.out.trans (HBA.out.mono HB2.out.size))
  clear hb2 hst
  go_wp2_with fail
  refine (fits_any _ _ _).mono ?_
  rintro e w' ⟨rfl, rfl⟩
  rw [HF.out]
  go_wp2_with fail
  go_ret
  exact ⟨rfl, HB3.out⟩
theorem mcheck_any (p v : ByteArray) (A : Nat → Addr) (m : Int) (w : World) (hp : p.size < 4294967281) (hv : v.size < 4294967281) (S : Te w A m) :
    Calls Tryz.prog 116 #[.agg #[.string p, .string v]] w fun e w' => e = .returned (errA A (modErr p.data.toList v.data.toList)) ∧ Below w.heap.size w w' := by
  unfold modErr
  by_cases h0 : pathErr p.data.toList = 0
  · rw [if_pos h0]
    by_cases h1 : verErr v.data.toList = 0
    · rw [if_pos h1]
      cases h2 : fitsB (nAt v.data.toList 0) (pathN p.data.toList)
      · exact mcheck_major p v A m w hp hv S h0 h1 h2
      · exact mcheck_ok p v A m w hp hv S h0 h1 h2
    · rw [if_neg h1]; exact mcheck_ver p v A m w hp hv S h0 h1
  · rw [if_neg h0]; exact mcheck_path p v A m w hp S h0
end Ve
end Go.Proofs.YtnkgjddkdikikaaGreatDoor
namespace Go.Proofs.YtnkgjddkdikikaaGreatDoor
open Go.RowKit
namespace Ve
def mErr (m : Bm) : Nat := modErr m.1.data.toList m.2.data.toList
def mAhead (a b : Bm) : Bool := aheadB a.1.data.toList a.2.data.toList b.1.data.toList b.2.data.toList
def noLess (a b : ByteArray) : Bool := !decide (Lib.compareBytes a.data.toList b.data.toList < 0)
def reqW (own : ByteArray) (prev : Option Bm) (m : Bm) : Nat :=
  if mErr m = 0 then (if m.1 = own then 3 else match prev with
    | none => 0
    | some p => if noLess p.1 m.1 then 8 else 0) else mErr m
def prevOf (l : List Bm) (i : Nat) : Option Bm := if i = 0 then none else l[i - 1]?
def reqE (own : ByteArray) (l : List Bm) (i : Nat) : Nat := match l[i]? with
  | none => 0
  | some m => reqW own (prevOf l i) m
def fstE (E : Nat → Nat) : Nat → Option Nat
  | 0 => none
  | n + 1 => match fstE E n with
    | some i => some i
    | none => if E n = 0 then none else some n
theorem fstE_none {E : Nat → Nat} : ∀ {n : Nat}, (∀ j, j < n → E j = 0) → fstE E n = none
  | 0, _ => rfl
  | n + 1, h => by
    unfold fstE
    rw [fstE_none (n := n) (fun j hj => h j (by omega)), if_pos (h n (by omega))]
theorem fstE_some {E : Nat → Nat} {i : Nat} (h0 : ∀ j, j < i → E j = 0) (hi : E i ≠ 0) : ∀ {n : Nat}, i < n → fstE E n = some i
  | 0, h => by omega
  | n + 1, h => by
    unfold fstE
    rcases Nat.lt_or_ge i n with hh | hh
    · rw [fstE_some h0 hi hh]
    · have : i = n := by omega
      subst this
      rw [fstE_none h0]
      simp only
      rw [if_neg hi]
theorem fstE_of_none {E : Nat → Nat} : ∀ {n : Nat}, fstE E n = none → ∀ j, j < n → E j = 0
  | 0, _, j, hj => by omega
  | n + 1, h, j, hj => by
    unfold fstE at h
    cases h1 : fstE E n with
    | some i => rw [h1] at h; cases h
    | none =>
      rw [h1] at h
      simp only at h
      by_cases h2 : E n = 0
      · rcases Nat.lt_or_ge j n with hh | hh
        · exact fstE_of_none h1 j hh
        · have : j = n := by omega
          rw [this]; exact h2
      · rw [if_neg h2] at h; cases h
theorem fstE_of_some {E : Nat → Nat} {i : Nat} : ∀ {n : Nat}, fstE E n = some i → i < n ∧ E i ≠ 0 ∧ ∀ j, j < i → E j = 0
  | 0, h => by cases h
  | n + 1, h => by
    unfold fstE at h
    cases h1 : fstE E n with
    | some k =>
      rw [h1] at h
      obtain ⟨a, b, c⟩ := fstE_of_some h1
      simp only [Option.some.injEq] at h
      subst h
      exact ⟨by omega, b, c⟩
    | none =>
      rw [h1] at h
      simp only at h
      by_cases h2 : E n = 0
      · rw [if_pos h2] at h; cases h
      · rw [if_neg h2] at h
        simp only [Option.some.injEq] at h
        subst h
        exact ⟨by omega, h2, fstE_of_none h1⟩
def MsAt (w : World) (v : Value) (L : List Bm) : Prop :=
  ∃ (a : Option Addr) (c : Nat), v = .slice a L.length c ∧ L.length ≤ c ∧ (L ≠ [] → ∃ b o, a = some ⟨b, o, none⟩ ∧ ∀ j (h : j < L.length), w.cell? ⟨b, o + j * 2, none⟩ = some (.string L[j].1) ∧ w.cell? ⟨b, o + j * 2 + 1, none⟩ = some (.string L[j].2))
theorem MsAt.below {w w' : World} {v : Value} {L : List Bm} (h : MsAt w v L) (hb : Below w.heap.size w w') : MsAt w' v L := by
  obtain ⟨a, c, e, hc, h⟩ := h
  refine ⟨a, c, e, hc, fun hL => ?_⟩
  obtain ⟨b, o, e2, h2⟩ := h hL
  exact ⟨b, o, e2, fun j hj => ⟨cell_below hb (h2 j hj).1, cell_below hb (h2 j hj).2⟩⟩
end Ve
end Go.Proofs.YtnkgjddkdikikaaGreatDoor
namespace Go.Proofs.YtnkgjddkdikikaaGreatDoor
open Go.RowKit
namespace Ve
theorem below_drawn_of {B : Nat} {a w : World} (h : Below B a w) (q : Nat) : Below B a (w.drewN q) := ⟨h.os, h.tape, h.output, h.size, h.block⟩
def ErrAt (W : World) (A : Nat → Addr) (v : Value) (c : Nat) (o : Option Nat) : Prop := match o with
  | none => v = errA A c
  | some i => c ≠ 0 ∧ ∃ b, v = .iface 142 (.pointer (some ⟨b, 0, none⟩)) ∧ W.cell? ⟨b, 0, none⟩ = some (.int .i64 i) ∧ W.cell? ⟨b, 1, none⟩ = some (errA A c)
theorem ErrAt.below {W W' : World} {A : Nat → Addr} {v : Value} {c : Nat} {o : Option Nat} (h : ErrAt W A v c o) (hb : Below W.heap.size W W') : ErrAt W' A v c o := by
  cases o with
  | none => exact h
  | some i =>
    obtain ⟨h0, b, h1, h2, h3⟩ := h
    exact ⟨h0, b, h1, cell_below hb h2, cell_below hb h3⟩
def codeE (E : Nat → Nat) (n : Nat) : Nat := match fstE E n with
  | none => 0
  | some i => E i
theorem codeE_none {E : Nat → Nat} {n : Nat} (h : fstE E n = none) : codeE E n = 0 := by unfold codeE; rw [h]
theorem codeE_some {E : Nat → Nat} {n i : Nat} (h : fstE E n = some i) : codeE E n = E i := by unfold codeE; rw [h]
theorem errA_if (A : Nat → Addr) {c : Nat} (h : c ≠ 0) : errA A c = .iface 311 (.pointer (some (A (c - 1)))) := by unfold errA; rw [if_neg h]
theorem fault_at {w1 : World} {A : Nat → Addr} {i c : Nat} (hc : c ≠ 0) (T : TypeId) : ErrAt (w1.alloc (.cells #[.int .i64 i, .iface 311 (.pointer (some (A (c - 1))))] T)) A (.iface 142 (.pointer (some ⟨w1.heap.size, 0, none⟩))) c (some i) :=
  ⟨hc, w1.heap.size, rfl, by simp, by rw [errA_if A hc]; simp⟩
set_option maxHeartbeats 1000000 in
theorem first_mods (K : Nat) (cb : Array Value) (E : Nat → Nat) (L : List Bm) (b o c : Nat) (A : Nat → Addr) (w : World) (eg : ∀ args w, (callFunc K args).run Tryz.prog w = .ok (.enter K args) w) (hL : L.length ≤ 1000000)
    (hc : ∀ j (h : j < L.length), w.cell? ⟨b, o + j * 2, none⟩ = some (.string L[j].1) ∧ w.cell? ⟨b, o + j * 2 + 1, none⟩ = some (.string L[j].2))
    (hK : ∀ i (h : i < L.length) W, Below w.heap.size w W → Calls Tryz.prog K (#[.int .i64 (i : Int), .agg #[.string L[i].1, .string L[i].2]] ++ cb) W fun e w' => e = .returned (errA A (E i)) ∧ Below W.heap.size W w') :
    Calls Tryz.prog 121 #[.slice (some ⟨b, o, none⟩) L.length c, .func (.func K) #[] cb] w fun e w' => ∃ v, e = .returned v ∧ ErrAt w' A v (codeE E L.length) (fstE E L.length) ∧ Below w.heap.size w w' := by
  have HK := hid hK
  have HC := hid hc
  clear hK hc
  go_enter Tryz.func121, Tryz.ntmps121
  go_wp2_with fail
  go_loopw [10] (fun i wr => ∃ k : Nat, k ≤ L.length ∧ i = .int .i64 k ∧ Hid (∀ j, j < k → E j = 0) ∧ Hid (Below w.heap.size w wr)) (fun i _ => L.length - (intOf i).toNat)
  case atStart => exact ⟨0, Nat.zero_le _, rfl, hid (fun j hj => absurd hj (by omega)), hid (Below.refl _ _)⟩
  case round =>
    obtain ⟨k, hk, rfl, HE, HB⟩ := hrel
    by_cases hlt : k < L.length
    · have hx := cell_below HB.out (HC.out k hlt).1
      have hy := cell_below HB.out (HC.out k hlt).2
      have HBa := hid (HB.out.alloc HB.out.size (.cells #[.string L[k].1, .string L[k].2] 35))
      have HP := hid (HK.out k hlt _ HBa.out)
      by_cases h0 : E k = 0
      · rw [h0, errA0] at HP
        go_wp2_with fail
        refine HP.out.mono ?_
        rintro e w1 ⟨rfl, hb1⟩
        have HB1 := hid (HBa.out.trans (hb1.mono HBa.out.size))
        clear hb1
        go_wp2_with fail
        go_roundw
        case rel => exact ⟨k + 1, by omega, by go_num, hid (fun j hj => by
          rcases Nat.lt_or_ge j k with h | h
          · exact HE.out j h
          · have : j = k := by omega
            rw [this]; exact h0), HB1⟩
        case measure => simp [intOf]; omega
      · rw [errA_if A h0] at HP
        have HF := hid (fstE_some HE.out h0 hlt)
        have H0 := hid h0
        clear h0
        go_wp2_with fail
        refine HP.out.mono ?_
        rintro e w1 ⟨rfl, hb1⟩
        have HB1 := hid (HBa.out.trans (hb1.mono HBa.out.size))
        clear hb1
        go_wp2_with fail
        go_ret
        refine ⟨_, rfl, ?_, HB1.out.alloc HB1.out.size _⟩
        rw [codeE_some HF.out, HF.out]
        exact fault_at H0.out _
    · have HF := hid (fstE_none (E := E) (n := L.length) (fun j hj => HE.out j (by omega)))
      go_wp2_with fail
      go_ret
      refine ⟨_, rfl, ?_, HB.out⟩
      rw [codeE_none HF.out, HF.out]
      rfl
theorem first_none (K : Nat) (cb : Array Value) (E : Nat → Nat) (a : Option Addr) (c : Nat) (A : Nat → Addr) (w : World) :
    Calls Tryz.prog 121 #[.slice a 0 c, .func (.func K) #[] cb] w fun e w' => ∃ v, e = .returned v ∧ ErrAt w' A v (codeE E 0) (fstE E 0) ∧ Below w.heap.size w w' := by
  go_enter Tryz.func121, Tryz.ntmps121
  go_wp2_with fail
  go_loopw [10] (fun i wr => i = .int .i64 0 ∧ wr = w) (fun i _ => 0)
  case atStart => exact ⟨rfl, rfl⟩
  case round =>
    obtain ⟨rfl, rfl⟩ := hrel
    go_wp2_with fail
    go_ret
    exact ⟨_, rfl, rfl, Below.refl _ _⟩
theorem first_any (K : Nat) (cb : Array Value) (E : Nat → Nat) (L : List Bm) (v : Value) (A : Nat → Addr) (w : World) (eg : ∀ args w, (callFunc K args).run Tryz.prog w = .ok (.enter K args) w) (hL : L.length ≤ 1000000) (hv : MsAt w v L)
    (hK : ∀ i (h : i < L.length) W, Below w.heap.size w W → Calls Tryz.prog K (#[.int .i64 (i : Int), .agg #[.string L[i].1, .string L[i].2]] ++ cb) W fun e w' => e = .returned (errA A (E i)) ∧ Below W.heap.size W w') :
    Calls Tryz.prog 121 #[v, .func (.func K) #[] cb] w fun e w' => ∃ u, e = .returned u ∧ ErrAt w' A u (codeE E L.length) (fstE E L.length) ∧ Below w.heap.size w w' := by
  obtain ⟨a, c, rfl, _, h⟩ := hv
  cases L with
  | nil => exact first_none K cb E a c A w
  | cons x r =>
    obtain ⟨b, o, rfl, h2⟩ := h (by simp)
    exact first_mods K cb E (x :: r) b o c A w eg hL h2 hK
end Ve
end Go.Proofs.YtnkgjddkdikikaaGreatDoor
namespace Go.Proofs.YtnkgjddkdikikaaGreatDoor
open Go.RowKit
namespace Ve
def flatM (L : List Bm) : List Value := L.flatMap fun m => [.string m.1, .string m.2]
theorem flatM_len (L : List Bm) : (flatM L).length = L.length * 2 := by
  induction L with
  | nil => rfl
  | cons r R ih =>
    have : flatM (r :: R) = [.string r.1, .string r.2] ++ flatM R := rfl
    rw [this, List.length_append, ih]
    show 2 + R.length * 2 = (R.length + 1) * 2
    omega
theorem flatM_get : ∀ (D : List Bm) (j c : Nat) (hj : j < D.length) (_ : c < 2), (flatM D)[j * 2 + c]? = [Value.string D[j].1, Value.string D[j].2][c]?
  | [], _, _, hj, _ => absurd hj (Nat.not_lt_zero _)
  | r :: R, 0, c, _, hc => by
    have : flatM (r :: R) = [.string r.1, .string r.2] ++ flatM R := rfl
    rw [this, List.getElem?_append_left (by show 0 * 2 + c < 2; omega)]
    simp
  | r :: R, j + 1, c, hj, hc => by
    have : flatM (r :: R) = [.string r.1, .string r.2] ++ flatM R := rfl
    rw [this, List.getElem?_append_right (by show 2 ≤ (j + 1) * 2 + c; omega), show (j + 1) * 2 + c - [Value.string r.1, Value.string r.2].length = j * 2 + c by simp; omega]
    exact flatM_get R j c (by simpa using hj) hc
theorem own_ms {w : World} {base : Nat} {e : TypeId} {v : Value} {L : List Bm} (h : w.ownsRow base e 2 v L.length (flatM L)) : MsAt w v L := by
  obtain ⟨_, ⟨hv, hn0⟩ | ⟨g, cap, cur, hv, hg, hblk, hcap, hcm, hcs, hct⟩⟩ := h
  · exact ⟨none, 0, by rw [hv, hn0], by omega, fun hL => absurd (List.length_eq_zero_iff.1 hn0) hL⟩
  · refine ⟨_, cap, hv, hcap, fun _ => ⟨g, 0, rfl, fun j hj => ?_⟩⟩
    have go : ∀ c, c < 2 → w.cell? ⟨g, 0 + j * 2 + c, none⟩ = [Value.string L[j].1, Value.string L[j].2][c]? := fun c hc => by
      have h1 := flatM_get L j c hj hc
      rw [← hct, List.getElem?_take, if_pos (by omega)] at h1
      simp only [World.cell?, hblk]
      rw [← h1]; simp
    exact ⟨by have := go 0 (by omega); simpa using this, by have := go 1 (by omega); simpa using this⟩
theorem set_block {W : World} {fb o : Nat} {cs : Array Value} {T : TypeId} {x : Value} (h : W.heap[fb]? = some (.cells cs T (0, 0))) : (W.setCell ⟨fb, o, none⟩ x).heap[fb]? = some (.cells (cs.setIfInBounds o x) T (0, 0)) := by
  simp [World.setCell, Array.getElem?_modify, h]
theorem heap_new (w : World) (o : Obj) : (w.alloc o).heap[w.heap.size]? = some o := heap_alloc_new w o
theorem heap_old (w : World) (o : Obj) {b : Nat} {x : Obj} (h : w.heap[b]? = some x) : (w.alloc o).heap[b]? = some x := by
  rw [((Below.refl w.heap.size w).alloc (Nat.le_refl _) o).block b (lt_of_blk h)]; exact h
theorem own_sl {W : World} {B n : Nat} {e : TypeId} {v : Value} {xs : List Value} (h : W.ownsRow B e 2 v n xs) : ∃ a n c, v = .slice a n c := by
  obtain ⟨_, ⟨h, _⟩ | ⟨g, cap, cur, e1, _⟩⟩ := h
  · exact ⟨_, _, _, h⟩
  · exact ⟨_, _, _, e1⟩
theorem ms_flat {w : World} {b o : Nat} {L : List Bm} (hc : ∀ j (h : j < L.length), w.cell? ⟨b, o + j * 2, none⟩ = some (.string L[j].1) ∧ w.cell? ⟨b, o + j * 2 + 1, none⟩ = some (.string L[j].2)) : ∀ j u, (flatM L)[j]? = some u → w.cell? ⟨b, o + j, none⟩ = some u := by
  intro j u hj
  have hl : j < L.length * 2 := by rw [← flatM_len]; exact (List.getElem?_eq_some_iff.1 hj).1
  have h1 := flatM_get L (j / 2) (j % 2) (by omega) (by omega)
  rw [show j / 2 * 2 + j % 2 = j by omega, hj] at h1
  have h2 := hc (j / 2) (by omega)
  rcases Nat.mod_two_eq_zero_or_one j with e | e
  · rw [e] at h1
    have : u = .string L[j / 2].1 := by simpa using h1
    rw [this, ← h2.1]
    congr 2; omega
  · rw [e] at h1
    have : u = .string L[j / 2].2 := by simpa using h1
    rw [this, ← h2.2]
    congr 2; omega
theorem flat_one (L : List Bm) : ∀ u ∈ flatM L, u.oneCell' = true := by
  intro u hu
  obtain ⟨m, _, hm⟩ := List.mem_flatMap.1 hu
  simp at hm
  rcases hm with rfl | rfl <;> rfl
theorem infoMod : (Tryz.prog.info? 35).map (fun i => (i.zero, i.size, i.bytes)) = some (some (.agg #[.string ⟨#[]⟩, .string ⟨#[]⟩]), 2, 32) := by kernel_rfl
end Ve
end Go.Proofs.YtnkgjddkdikikaaGreatDoor
