/-
  ModB OrdA
-/
import Derived.Test.YtjhlkjgijbobcaaGreatDoorFt8
import Derived.Test.YtjhlkjgijbobcaaGreatDoorFt12
import Derived.Test.YtjhlkjgijbobcaaGreatDoorFt15
import Derived.Test.YtjhlkjgijbobcaaGreatDoorFt16
namespace Go.Proofs.YtjhlkjgijbobcaaGreatDoor
open Go.RowKit
namespace Ve
def sufOk (l : List UInt8) : Bool := decide ((num (restOf l)).2 = 0) && decide (2 ≤ (num (restOf l)).1)
theorem trimV_any (s : ByteArray) (w : World) : Calls Tryz.prog 108 #[.string s, .string ⟨#[118]⟩] w fun e w' => ∃ R : ByteArray, e = .returned (.string R) ∧ R.data.toList = restOf s.data.toList ∧ w' = w :=
  (Tryz.strings_TrimPrefix s ⟨#[118]⟩ w).mono fun e w' ⟨h1, h2⟩ => ⟨_, h1, by
    have e0 : (⟨#[118]⟩ : ByteArray).data.toList = [118] := rfl
    rw [e0, trimPrefix_v], h2⟩
set_option maxHeartbeats 1000000 in
theorem suffix_any (s : ByteArray) (A : Nat → Addr) (m : Int) (w : World) (hs : s.size < 4294967281) (S : Te w A m) :
    Calls Tryz.prog 83 #[.string s] w fun e w' => e = .returned (.tuple #[.int .i64 (if sufOk s.data.toList then (num (restOf s.data.toList)).1 else 0), if sufOk s.data.toList then .nilIface else .iface 201 (.pointer (some (A 3)))]) ∧ Below w.heap.size w w' := by
  have HO := hid (show sufOk s.data.toList = (decide ((num (restOf s.data.toList)).2 = 0) && decide (2 ≤ (num (restOf s.data.toList)).1)) from rfl)
  have HS := hid S
  have HT := hid (trimV_any s w)
  have HN := hid (fun (R : ByteArray) (h : R.data.toList = restOf s.data.toList) W (SW : Te W A m) => num_any R (A 0) (A 1) m W (by
      have h1 := size_of h
      have h2 := restOf_le s.data.toList
      simp at h2; unfold maxLen; omega) SW.vs)
  have HE := hid (num_err (restOf s.data.toList))
  clear S
  by_cases h1 : (num (restOf s.data.toList)).2 = 0
  · by_cases h2 : 2 ≤ (num (restOf s.data.toList)).1
    · have HK := hid (show sufOk s.data.toList = true by rw [HO.out, decide_eq_true h1, decide_eq_true h2]; rfl)
      have H1 := hid h1
      rw [HK.out]
      clear h1
      go_enter Tryz.func83, Tryz.ntmps83
      go_wp2_with fail
      refine HT.out.mono ?_
      rintro e w' ⟨R, rfl, hR, rfl⟩
      have HR := hid hR
      clear hR
      go_wp2_with fail
      refine (HN.out R HR.out _ HS.out).mono ?_
      rintro e w1 ⟨rfl, hb1⟩
      rw [HR.out, H1.out, errV0]
      have HB := hid hb1
      clear hb1
      generalize hn : (num (restOf s.data.toList)).1 = n at *
      have HNN := hid hn
      clear hn
      go_wp2_with fail
      go_ret2
      exact ⟨by rw [← HNN.out]; rfl, HB.out⟩
    · have HK := hid (show sufOk s.data.toList = false by rw [HO.out, decide_eq_false h2]; simp)
      have H1 := hid h1
      rw [HK.out]
      clear h1
      go_enter Tryz.func83, Tryz.ntmps83
      go_wp2_with fail
      refine HT.out.mono ?_
      rintro e w' ⟨R, rfl, hR, rfl⟩
      have HR := hid hR
      clear hR
      go_wp2_with fail
      refine (HN.out R HR.out _ HS.out).mono ?_
      rintro e w1 ⟨rfl, hb1⟩
      rw [HR.out, H1.out, errV0]
      have HB := hid hb1
      have g3 := (HS.out.below hb1).sen.g3
      clear hb1
      generalize (num (restOf s.data.toList)).1 = n at *
      go_wp2_with fail
      go_quiet (fail)
      go_wp2_with fail
      go_ret2
      exact ⟨rfl, HB.out.trans ((below_drawn _ _).mono HB.out.size)⟩
  · have HK := hid (show sufOk s.data.toList = false by rw [HO.out, decide_eq_false h1]; rfl)
    have H1 := hid h1
    rw [HK.out]
    clear h1
    go_enter Tryz.func83, Tryz.ntmps83
    go_wp2_with fail
    refine HT.out.mono ?_
    rintro e w' ⟨R, rfl, hR, rfl⟩
    have HR := hid hR
    clear hR
    go_wp2_with fail
    refine (HN.out R HR.out _ HS.out).mono ?_
    rintro e w1 ⟨rfl, hb1⟩
    rw [HR.out]
    have HB := hid hb1
    have g3 := (HS.out.below hb1).sen.g3
    clear hb1
    obtain ⟨a9, ha9⟩ : ∃ a, errV (A 0) (A 1) (num (restOf s.data.toList)).2 = .iface 201 (.pointer (some a)) := by
      rcases HE.out with h | h | h
      · exact absurd h H1.out
      · exact ⟨_, by rw [h]; rfl⟩
      · exact ⟨_, by rw [h]; rfl⟩
    rw [ha9]
    clear ha9
    generalize (num (restOf s.data.toList)).1 = n at *
    go_wp2_with fail
    go_quiet (fail)
    go_wp2_with fail
    go_ret2
    exact ⟨rfl, HB.out.trans ((below_drawn _ _).mono HB.out.size)⟩
end Ve
end Go.Proofs.YtjhlkjgijbobcaaGreatDoor
namespace Go.Proofs.YtjhlkjgijbobcaaGreatDoor
open Go.RowKit
namespace Ve
theorem below_drew {w w' : World} (h : Below w.heap.size w w') (n : Nat) : Below w.heap.size w (w'.drewN n) := h.trans ((below_drawn w' n).mono h.size)
structure Bw (B : Nat) (w w' : World) : Prop where
  be : Below B w w'
  dr : w.drawn ≤ w'.drawn
theorem Bw.refl (B : Nat) (w : World) : Bw B w w := ⟨Below.refl _ _, Nat.le_refl _⟩
theorem Bw.trans {B : Nat} {a b c : World} (h : Bw B a b) (k : Bw B b c) : Bw B a c := ⟨h.be.trans k.be, Nat.le_trans h.dr k.dr⟩
theorem Bw.mono {B B' : Nat} {w w' : World} (h : Bw B w w') (hB : B' ≤ B) : Bw B' w w' := ⟨h.be.mono hB, h.dr⟩
theorem Bw.size {B : Nat} {w w' : World} (h : Bw B w w') : w.heap.size ≤ w'.heap.size := h.be.size
theorem Bw.alloc {B : Nat} {w w' : World} (h : Bw B w w') (hB : B ≤ w'.heap.size) (o : Obj) : Bw B w (w'.alloc o) := ⟨h.be.alloc hB o, h.dr⟩
theorem bw_drew {w w' : World} (h : Bw w.heap.size w w') (n : Nat) : Bw w.heap.size w (w'.drewN n) := ⟨below_drew h.be n, Nat.le_trans h.dr (Nat.le_add_right _ _)⟩
theorem p1_any (s t : ByteArray) (A B : Nat) (w : World) (a0 : w.cell? ⟨A, 0, none⟩ = some (.string s)) (b0 : w.cell? ⟨B, 0, none⟩ = some (.string t)) :
    Calls Tryz.prog 166 #[.pointer (some ⟨A, 0, none⟩), .pointer (some ⟨B, 0, none⟩)] w fun e w' => e = .returned (.int .i64 (Lib.compareInt (s.size : Int) (t.size : Int))) ∧ w' = w := by
  have HC := hid (Tryz.cmp_Compare_int (s.size : Int) (t.size : Int) w)
  go_enter Tryz.func166, Tryz.ntmps166
  go_wp2_with fail
  refine HC.out.mono ?_
  rintro e w' ⟨rfl, rfl⟩
  go_wp2_with fail
  go_ret
  exact ⟨rfl, rfl⟩
theorem p2_any (s t : ByteArray) (A B : Nat) (w : World) (a0 : w.cell? ⟨A, 0, none⟩ = some (.string s)) (b0 : w.cell? ⟨B, 0, none⟩ = some (.string t)) :
    Calls Tryz.prog 167 #[.pointer (some ⟨A, 0, none⟩), .pointer (some ⟨B, 0, none⟩)] w fun e w' => e = .returned (.int .i64 (Lib.compareBytes s.data.toList t.data.toList)) ∧ w' = w := by
  have HC := hid (Tryz.strings_Compare s t w)
  go_enter Tryz.func167, Tryz.ntmps167
  go_wp2_with fail
  refine HC.out.mono ?_
  rintro e w' ⟨rfl, rfl⟩
  go_wp2_with fail
  go_ret
  exact ⟨rfl, rfl⟩
set_option maxHeartbeats 2000000 in
theorem first_two (k1 k2 : Int) (A B F : Nat) (w : World)
    (h1 : Calls Tryz.prog 166 #[.pointer (some ⟨A, 0, none⟩), .pointer (some ⟨B, 0, none⟩)] w fun e w' => e = .returned (.int .i64 k1) ∧ w' = w)
    (h2 : Calls Tryz.prog 167 #[.pointer (some ⟨A, 0, none⟩), .pointer (some ⟨B, 0, none⟩)] w fun e w' => e = .returned (.int .i64 k2) ∧ w' = w)
    (f0 : w.cell? ⟨F, 0, none⟩ = some (.func (.func 166) #[] #[.pointer (some ⟨A, 0, none⟩), .pointer (some ⟨B, 0, none⟩)])) (f1 : w.cell? ⟨F, 1, none⟩ = some (.func (.func 167) #[] #[.pointer (some ⟨A, 0, none⟩), .pointer (some ⟨B, 0, none⟩)])) :
    Calls Tryz.prog 138 #[.slice (some ⟨F, 0, none⟩) 2 2] w fun e w' => e = .returned (.int .i64 (fst k1 k2)) ∧ w' = w := by
  have HX := hid h1
  have HY := hid h2
  clear h1 h2
  by_cases z1 : k1 = 0
  · subst z1
    by_cases z2 : k2 = 0
    · subst z2
      go_enter Tryz.func138, Tryz.ntmps138
      go_wp2_with fail
      refine wp_loop_rounds 3 ?_
      rw [rounds_succ]
      go_wp2_with fail
      refine HX.out.mono ?_
      rintro e w' ⟨rfl, rfl⟩
      go_wp2_with fail
      rw [rounds_succ]
      go_wp2_with fail
      refine HY.out.mono ?_
      rintro e w' ⟨rfl, rfl⟩
      go_wp2_with fail
      rw [rounds_succ]
      go_wp2_with fail
      go_ret
      exact ⟨rfl, rfl⟩
    · have b2 : (k2 == 0) = false := beq_eq_false_iff_ne.2 z2
      have HF := hid (fst0 k2)
      clear z2
      go_enter Tryz.func138, Tryz.ntmps138
      go_wp2_with fail
      refine wp_loop_rounds 2 ?_
      rw [rounds_succ]
      go_wp2_with fail
      refine HX.out.mono ?_
      rintro e w' ⟨rfl, rfl⟩
      go_wp2_with fail
      rw [rounds_succ]
      go_wp2_with fail
      refine HY.out.mono ?_
      rintro e w' ⟨rfl, rfl⟩
      go_wp2_with fail
      go_ret
      exact ⟨ret_int HF.out.symm, rfl⟩
  · have b1 : (k1 == 0) = false := beq_eq_false_iff_ne.2 z1
    have HF := hid (fst_ne k2 z1)
    clear z1
    go_enter Tryz.func138, Tryz.ntmps138
    go_wp2_with fail
    refine wp_loop_rounds 1 ?_
    rw [rounds_succ]
    go_wp2_with fail
    refine HX.out.mono ?_
    rintro e w' ⟨rfl, rfl⟩
    go_wp2_with fail
    go_ret
    exact ⟨ret_int HF.out.symm, rfl⟩
theorem three' (w : World) (A B C : Array Value) (T U : TypeId) (j : Nat) :
    (((w.alloc (.cells A T)).alloc (.cells B T)).alloc (.cells C U)).cell? ⟨w.heap.size, j, none⟩ = A[j]? ∧ (((w.alloc (.cells A T)).alloc (.cells B T)).alloc (.cells C U)).cell? ⟨w.heap.size + 1, j, none⟩ = B[j]? ∧
    (((w.alloc (.cells A T)).alloc (.cells B T)).alloc (.cells C U)).cell? ⟨w.heap.size + 1 + 1, j, none⟩ = C[j]? := three w A B C T U j
set_option maxHeartbeats 2000000 in
theorem cpart_bw (s t : ByteArray) (w : World) (hs : s.size ≤ maxLen) (ht : t.size ≤ maxLen) :
    Calls Tryz.prog 158 #[.string s, .string t] w fun e w' => e = .returned (.int .i64 (ordPart s.data.toList t.data.toList)) ∧ Bw w.heap.size w w' := by
  have hmf : ∀ (fn : Fn) (first cap : Array Value) (w : World), (Instr.makeFunc fn first cap).run Tryz.prog w = .ok (.func fn first cap) w := fun _ _ _ _ => rfl
  have HO := hid (show ordPart s.data.toList t.data.toList = if digs s.data.toList then (if digs t.data.toList then fst (Lib.compareInt (s.size : Int) (t.size : Int)) (Lib.compareBytes s.data.toList t.data.toList) else -1) else if digs t.data.toList then 1 else Lib.compareBytes s.data.toList t.data.toList by
    unfold ordPart; rw [len_eq, len_eq])
  have HS := hid (fun W => digits_any s W hs)
  have HT := hid (fun W => digits_any t W ht)
  have HC := hid (fun W => Tryz.strings_Compare s t W)
  have HB := hid (((Bw.refl w.heap.size w).alloc (Nat.le_refl _) (.cells #[.string s] 9)).alloc (by simp) (.cells #[.string t] 9))
  clear hs ht
  cases h1 : digs s.data.toList
  all_goals cases h2 : digs t.data.toList
  all_goals rw [h1] at HS HO
  all_goals rw [h2] at HT HO
  all_goals clear h1 h2
  · go_enter Tryz.func158, Tryz.ntmps158
    go_wp2_with fail
    go_quiet (first
      | (go_at_call_of 106 (Value.string s); refine Calls.quiet_of_same (HS.out _))
      | (go_at_call_of 106 (Value.string t); refine Calls.quiet_of_same (HT.out _)))
    go_wp2_with fail
    refine (HC.out _).mono ?_
    rintro e w' ⟨rfl, rfl⟩
    go_wp2_with fail
    go_ret
    exact ⟨ret_int (by rw [HO.out]; rfl), bw_drew HB.out _⟩
  · go_enter Tryz.func158, Tryz.ntmps158
    go_wp2_with fail
    go_quiet (first
      | (go_at_call_of 106 (Value.string s); refine Calls.quiet_of_same (HS.out _))
      | (go_at_call_of 106 (Value.string t); refine Calls.quiet_of_same (HT.out _)))
    go_wp2_with fail
    go_ret
    exact ⟨ret_int (by rw [HO.out]; rfl), bw_drew HB.out _⟩
  · go_enter Tryz.func158, Tryz.ntmps158
    go_wp2_with fail
    go_quiet (first
      | (go_at_call_of 106 (Value.string s); refine Calls.quiet_of_same (HS.out _))
      | (go_at_call_of 106 (Value.string t); refine Calls.quiet_of_same (HT.out _)))
    go_wp2_with fail
    go_ret
    exact ⟨ret_int (by rw [HO.out]; rfl), bw_drew HB.out _⟩
  · go_enter Tryz.func158, Tryz.ntmps158
    go_wp2_with fail
    go_quiet (first
      | (go_at_call_of 106 (Value.string s); refine Calls.quiet_of_same (HS.out _))
      | (go_at_call_of 106 (Value.string t); refine Calls.quiet_of_same (HT.out _)))
    go_wp2_with fail
    refine (first_two (Lib.compareInt (s.size : Int) (t.size : Int)) (Lib.compareBytes s.data.toList t.data.toList) w.heap.size (w.heap.size + 1) (w.heap.size + 1 + 1) _ (p1_any s t _ _ _ ?_ ?_) (p2_any s t _ _ _ ?_ ?_) ?_ ?_).mono ?_
    · exact (three' w _ _ _ _ _ 0).1.trans rfl
    · exact (three' w _ _ _ _ _ 0).2.1.trans rfl
    · exact (three' w _ _ _ _ _ 0).1.trans rfl
    · exact (three' w _ _ _ _ _ 0).2.1.trans rfl
    · exact (three' w _ _ _ _ _ 0).2.2.trans rfl
    · exact (three' w _ _ _ _ _ 1).2.2.trans rfl
    rintro e w' ⟨rfl, rfl⟩
    go_wp2_with fail
    go_ret
    exact ⟨ret_int (by rw [HO.out]; rfl), (bw_drew HB.out nq).alloc (by simp [World.drewN]; omega) _⟩
end Ve
end Go.Proofs.YtjhlkjgijbobcaaGreatDoor
