/-
  LessAny VerM VerO VerQ
-/
import Derived.Test.YtiebgeamfblbdaaGreatDoorFb19
import Derived.Test.YtiebgeamfblbdaaGreatDoorFb12
import Derived.Test.YtiebgeamfblbdaaGreatDoorFb13
import Derived.Test.YtiebgeamfblbdaaGreatDoorFb11
import Derived.Test.YtiebgeamfblbdaaGreatDoorFb7
import Derived.Test.YtiebgeamfblbdaaGreatDoorFb15
namespace Go.Proofs.YtiebgeamfblbdaaGreatDoor
open Go.RowKit
namespace Ve
def lessB (s t : List UInt8) : Bool := decide (verErr s = 0) && (decide (verErr t = 0) && decide (ordV s t < 0))
set_option maxHeartbeats 1000000 in
theorem less_11 (k : Int) (x y z x' y' z' : Int) (X Y : List ByteArray) (s t : ByteArray) (aT aB : Addr) (m : Int) (w : World) (S : Vs w aT aB m)
    (hA : Calls Tryz.prog 57 #[.string s] w fun e w' => GoodP w w' e x y z X) (hT : ∀ W, Vs W aT aB m → Calls Tryz.prog 57 #[.string t] W fun e w' => GoodP W w' e x' y' z' Y)
    (hC : ∀ W va vb, StrsAt W va X → StrsAt W vb Y → Calls Tryz.prog 81 #[.agg #[.int .i64 x, .int .i64 y, .int .i64 z, va], .agg #[.int .i64 x', .int .i64 y', .int .i64 z', vb]] W fun e w' => e = .returned (.int .i64 k) ∧ Below W.heap.size W w') :
    Calls Tryz.prog 59 #[.string s, .string t] w fun e w' => e = .returned (.bool (decide (k < 0))) ∧ Below w.heap.size w w' := by
  have HC := hid hC
  clear hC
  have HA := hid hA
  have HT := hid hT
  have HS := hid S
  clear hA hT S
  go_enter Tryz.func59, Tryz.ntmps59
  go_wp2_with fail
  refine HA.out.mono ?_
  rintro e w1 ⟨v, rfl, hst, hb1⟩
  obtain ⟨pa, na, ca, rfl⟩ := hst.slice
  have HST := hid hst
  clear hst
  have HB1 := hid hb1
  have HB2 := hid ((Below.refl w1.heap.size w1).alloc (Nat.le_refl _) (.cells #[.int .i64 x, .int .i64 y, .int .i64 z, .slice pa na ca] 85))
  have HS1 := hid ((HS.out.below hb1).below HB2.out)
  clear hb1
  go_wp2_with fail
  refine (HT.out _ HS1.out).mono ?_
  rintro e w2 ⟨v, rfl, hst, hb2⟩
  obtain ⟨pb, nb, cb, rfl⟩ := hst.slice
  have HTT := hid hst
  clear hst
  obtain ⟨⟨r0, r1, r2, r3⟩, rf, rz⟩ := res4 (hb2.mono (by simp))
  have HB12 := hid (HB2.out.trans (hb2.mono (by simp)))
  have HB3 := hid (HB1.out.trans (HB12.out.mono HB1.out.size))
  have HBA := hid ((Below.refl w2.heap.size w2).alloc (Nat.le_refl _) (.cells #[.int .i64 x', .int .i64 y', .int .i64 z', .slice pb nb cb] 85))
  have HB4 := hid (HB3.out.trans (HBA.out.mono HB3.out.size))
  clear hb2
  have HSA := hid ((HST.out.below HB12.out).below HBA.out)
  have HSB := hid (HTT.out.below HBA.out)
  go_wp2_with fail
  refine (HC.out _ _ _ HSA.out HSB.out).mono ?_
  rintro e w3 ⟨rfl, hb3⟩
  have HB5 := hid (HB4.out.trans (hb3.mono HB4.out.size))
  clear hb3
  go_wp2_with fail
  go_ret
  exact ⟨rfl, HB5.out⟩
set_option maxHeartbeats 1000000 in
theorem less_10 (x y z : Int) (X : List ByteArray) (s t : ByteArray) (aT aB : Addr) (m : Int) (w : World) (S : Vs w aT aB m)
    (hA : Calls Tryz.prog 57 #[.string s] w fun e w' => GoodP w w' e x y z X) (hT : ∀ W, Vs W aT aB m → Calls Tryz.prog 57 #[.string t] W fun e w' => BadP W w' e) :
    Calls Tryz.prog 59 #[.string s, .string t] w fun e w' => e = .returned (.bool false) ∧ Below w.heap.size w w' := by
  have HA := hid hA
  have HT := hid hT
  have HS := hid S
  clear hA hT S
  go_enter Tryz.func59, Tryz.ntmps59
  go_wp2_with fail
  refine HA.out.mono ?_
  rintro e w1 ⟨v, rfl, hst, hb1⟩
  obtain ⟨pa, na, ca, rfl⟩ := hst.slice
  have HST := hid hst
  clear hst
  have HB1 := hid hb1
  have HB2 := hid ((Below.refl w1.heap.size w1).alloc (Nat.le_refl _) (.cells #[.int .i64 x, .int .i64 y, .int .i64 z, .slice pa na ca] 85))
  have HS1 := hid ((HS.out.below hb1).below HB2.out)
  clear hb1
  go_wp2_with fail
  refine (HT.out _ HS1.out).mono ?_
  rintro e w2 ⟨a2, rfl, hb2⟩
  obtain ⟨⟨r0, r1, r2, r3⟩, rf, rz⟩ := res4 (hb2.mono (by simp))
  have HB12 := hid (HB2.out.trans (hb2.mono (by simp)))
  have HB3 := hid (HB1.out.trans (HB12.out.mono HB1.out.size))
  have HBA := hid ((Below.refl w2.heap.size w2).alloc (Nat.le_refl _) (.cells #[.int .i64 0, .int .i64 0, .int .i64 0, .slice none 0 0] 85))
  have HB4 := hid (HB3.out.trans (HBA.out.mono HB3.out.size))
  clear hb2
  go_wp2_with fail
  go_ret
  exact ⟨rfl, HB4.out⟩
set_option maxHeartbeats 1000000 in
theorem less_01 (x' y' z' : Int) (Y : List ByteArray) (s t : ByteArray) (aT aB : Addr) (m : Int) (w : World) (S : Vs w aT aB m)
    (hA : Calls Tryz.prog 57 #[.string s] w fun e w' => BadP w w' e) (hT : ∀ W, Vs W aT aB m → Calls Tryz.prog 57 #[.string t] W fun e w' => GoodP W w' e x' y' z' Y) :
    Calls Tryz.prog 59 #[.string s, .string t] w fun e w' => e = .returned (.bool false) ∧ Below w.heap.size w w' := by
  have HA := hid hA
  have HT := hid hT
  have HS := hid S
  clear hA hT S
  go_enter Tryz.func59, Tryz.ntmps59
  go_wp2_with fail
  refine HA.out.mono ?_
  rintro e w1 ⟨a1, rfl, hb1⟩
  have HB1 := hid hb1
  have HB2 := hid ((Below.refl w1.heap.size w1).alloc (Nat.le_refl _) (.cells #[.int .i64 0, .int .i64 0, .int .i64 0, .slice none 0 0] 85))
  have HS1 := hid ((HS.out.below hb1).below HB2.out)
  clear hb1
  go_wp2_with fail
  refine (HT.out _ HS1.out).mono ?_
  rintro e w2 ⟨v, rfl, hst, hb2⟩
  obtain ⟨pb, nb, cb, rfl⟩ := hst.slice
  have HTT := hid hst
  clear hst
  obtain ⟨⟨r0, r1, r2, r3⟩, rf, rz⟩ := res4 (hb2.mono (by simp))
  have HB12 := hid (HB2.out.trans (hb2.mono (by simp)))
  have HB3 := hid (HB1.out.trans (HB12.out.mono HB1.out.size))
  have HBA := hid ((Below.refl w2.heap.size w2).alloc (Nat.le_refl _) (.cells #[.int .i64 x', .int .i64 y', .int .i64 z', .slice pb nb cb] 85))
  have HB4 := hid (HB3.out.trans (HBA.out.mono HB3.out.size))
  clear hb2
  go_wp2_with fail
  go_ret
  exact ⟨rfl, HB4.out⟩
set_option maxHeartbeats 1000000 in
theorem less_00 (s t : ByteArray) (aT aB : Addr) (m : Int) (w : World) (S : Vs w aT aB m)
    (hA : Calls Tryz.prog 57 #[.string s] w fun e w' => BadP w w' e) (hT : ∀ W, Vs W aT aB m → Calls Tryz.prog 57 #[.string t] W fun e w' => BadP W w' e) :
    Calls Tryz.prog 59 #[.string s, .string t] w fun e w' => e = .returned (.bool false) ∧ Below w.heap.size w w' := by
  have HA := hid hA
  have HT := hid hT
  have HS := hid S
  clear hA hT S
  go_enter Tryz.func59, Tryz.ntmps59
  go_wp2_with fail
  refine HA.out.mono ?_
  rintro e w1 ⟨a1, rfl, hb1⟩
  have HB1 := hid hb1
  have HB2 := hid ((Below.refl w1.heap.size w1).alloc (Nat.le_refl _) (.cells #[.int .i64 0, .int .i64 0, .int .i64 0, .slice none 0 0] 85))
  have HS1 := hid ((HS.out.below hb1).below HB2.out)
  clear hb1
  go_wp2_with fail
  refine (HT.out _ HS1.out).mono ?_
  rintro e w2 ⟨a2, rfl, hb2⟩
  obtain ⟨⟨r0, r1, r2, r3⟩, rf, rz⟩ := res4 (hb2.mono (by simp))
  have HB12 := hid (HB2.out.trans (hb2.mono (by simp)))
  have HB3 := hid (HB1.out.trans (HB12.out.mono HB1.out.size))
  have HBA := hid ((Below.refl w2.heap.size w2).alloc (Nat.le_refl _) (.cells #[.int .i64 0, .int .i64 0, .int .i64 0, .slice none 0 0] 85))
  have HB4 := hid (HB3.out.trans (HBA.out.mono HB3.out.size))
  clear hb2
  go_wp2_with fail
  go_ret
  exact ⟨rfl, HB4.out⟩
theorem pre_bounds {s : ByteArray} {X : List ByteArray} (hs : s.size < 999999) (hX : bl X = preOf s.data.toList) : X.length ≤ 1000000 ∧ ∀ x, x ∈ X → x.size ≤ maxLen := by
  constructor
  · have := pre_len (l := s.data.toList); rw [← hX, bl_len, len_eq] at this; omega
  · intro x hx
    have hm : x.data.toList ∈ preOf s.data.toList := hX ▸ bl_mem hx
    have := pre_size hm
    rw [len_eq, len_eq] at this
    unfold maxLen; omega
theorem less_any (s t : ByteArray) (aT aB : Addr) (m : Int) (w : World) (hs : s.size < 999999) (ht : t.size < 999999) (S : Vs w aT aB m) :
    Calls Tryz.prog 59 #[.string s, .string t] w fun e w' => e = .returned (.bool (lessB s.data.toList t.data.toList)) ∧ Below w.heap.size w w' := by
  obtain ⟨X, hX⟩ : ∃ X, bl X = preOf s.data.toList := ⟨_, bl_strs _⟩
  obtain ⟨Y, hY⟩ : ∃ X, bl X = preOf t.data.toList := ⟨_, bl_strs _⟩
  obtain ⟨lX, pX⟩ := pre_bounds hs hX
  obtain ⟨lY, pY⟩ := pre_bounds ht hY
  unfold lessB
  by_cases h1 : verErr s.data.toList = 0
  all_goals by_cases h2 : verErr t.data.toList = 0
  · rw [decide_eq_true h1, decide_eq_true h2]
    refine (less_11 (ordV s.data.toList t.data.toList) _ _ _ _ _ _ X Y s t aT aB m w S (vsplit_is s aT aB m w (by omega) S h1 X hX) (fun W SW => vsplit_is t aT aB m W (by omega) SW h2 Y hY) ?_).mono fun e w' h => h
    intro W va vb ha hb
    unfold ordV
    rw [← hX, ← hY]
    exact compare_any _ _ _ _ _ _ va vb X Y W lX lY pX pY ha hb
  · rw [decide_eq_true h1, decide_eq_false h2]
    exact less_10 _ _ _ X s t aT aB m w S (vsplit_is s aT aB m w (by omega) S h1 X hX) (fun W SW => vsplit_not t aT aB m W (by omega) SW h2)
  · rw [decide_eq_false h1]
    exact less_01 _ _ _ Y s t aT aB m w S (vsplit_not s aT aB m w (by omega) S h1) (fun W SW => vsplit_is t aT aB m W (by omega) SW h2 Y hY)
  · rw [decide_eq_false h1]
    exact less_00 s t aT aB m w S (vsplit_not s aT aB m w (by omega) S h1) (fun W SW => vsplit_not t aT aB m W (by omega) SW h2)
end Ve
end Go.Proofs.YtiebgeamfblbdaaGreatDoor
namespace Go.Proofs.YtiebgeamfblbdaaGreatDoor
open Go.RowKit
namespace Ve
end Ve
end Go.Proofs.YtiebgeamfblbdaaGreatDoor
namespace Go.Proofs.YtiebgeamfblbdaaGreatDoor
open Go.RowKit
namespace Ve
theorem pre_parts {ps : List (List UInt8)} (h : pre ps = 0) : ∀ p, p ∈ ps → part p = 0 := by
  intro p hp
  unfold pre at h
  rw [preTo_worst _ (by split <;> simp)] at h
  unfold worst at h
  have hm : part p ∈ ps.map part := List.mem_map_of_mem hp
  rcases part_err p with e | e | e
  · exact e
  · rw [e] at hm; rw [if_pos (Or.inr hm)] at h; cases h
  · rw [e] at hm
    exfalso
    generalize (if 5 < ps.length then 2 else 0) = q at h
    by_cases g : q = 1 ∨ 1 ∈ ps.map part
    · rw [if_pos g] at h; omega
    · rw [if_neg g, if_pos (Or.inr hm)] at h; omega
end Ve
end Go.Proofs.YtiebgeamfblbdaaGreatDoor
namespace Go.Proofs.YtiebgeamfblbdaaGreatDoor
namespace Ve
theorem joinTail_ne {c : UInt8} : ∀ X : List (List UInt8), X ≠ [] → Lib.joinTail [c] X = c :: Lib.join X [c]
  | [], h => absurd rfl h
  | x :: r, _ => by rw [Lib.join_cons]; simp [Lib.joinTail]
theorem join_cut (c : UInt8) (l : List UInt8) : Lib.join (cutAt c l) [c] = l := by
  induction l with
  | nil => simp [cutAt, Lib.join_one]
  | cons b l ih =>
    unfold cutAt
    by_cases h : b = c
    · rw [if_pos h, Lib.join_cons, joinTail_ne _ (cutAt_ne c l), ih, h]; rfl
    · rw [if_neg h]
      obtain ⟨x, r, e⟩ : ∃ x r, cutAt c l = x :: r := by
        cases e : cutAt c l with
        | nil => exact absurd e (cutAt_ne c l)
        | cons x r => exact ⟨x, r, rfl⟩
      rw [e] at ih ⊢
      rw [Lib.join_cons] at ih
      simp only [ahead, Lib.join_cons]
      rw [← ih]
      simp
theorem one_back {c : UInt8} {l : List UInt8} (h : (one c l).2.2 = true) : l = (one c l).1 ++ c :: (one c l).2.1 := by
  obtain ⟨j, hj, e, _, e1, e2⟩ := one_yes (c := c) (l := l) h
  rw [e1, e2, ← e, List.getElem_cons_drop, List.take_append_drop]
theorem one_none {c : UInt8} {l : List UInt8} (h : (one c l).2.2 = false) : (one c l).1 = l := by rw [one_no h]
theorem worst0 {b : Nat} {cs : List Nat} (h : worst b cs = 0) : 1 ∉ cs ∧ 2 ∉ cs := by
  unfold worst at h
  by_cases h1 : b = 1 ∨ 1 ∈ cs
  · rw [if_pos h1] at h; omega
  · rw [if_neg h1] at h
    by_cases h2 : b = 2 ∨ 2 ∈ cs
    · rw [if_pos h2] at h; omega
    · exact ⟨fun h => h1 (Or.inr h), fun h => h2 (Or.inr h)⟩
theorem ncode0 {ps : List (List UInt8)} (h : numsErr ps = 0) : ∀ p, p ∈ ps → (num p).2 = 0 := by
  intro p hp
  rw [numsErr_ncode] at h
  obtain ⟨h1, h2⟩ := worst0 h
  have hm : ncode p ∈ ps.map ncode := List.mem_map_of_mem hp
  rcases num_err p with e | e | e
  · exact e
  · exact absurd (show ncode p = 1 from e) (fun e => h1 (e ▸ hm))
  · exact absurd (show ncode p = 2 from e) (fun e => h2 (e ▸ hm))
end Ve
end Go.Proofs.YtiebgeamfblbdaaGreatDoor
