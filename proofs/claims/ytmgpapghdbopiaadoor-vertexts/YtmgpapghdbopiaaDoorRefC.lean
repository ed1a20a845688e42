/-
  What the document's answer writes for a number (Byte, below, Decimal): its decimal digits; nothing old in memory turns.
-/
import Derived.Test.YtmgpapghdbopiaaDoorPreT
import Derived.Laws.IdiomStrings
namespace Go.Proofs.YtmgpapghdbopiaaDoor
open Go.RowKit
namespace Ve

set_option maxHeartbeats 400000 in
theorem byte_any (n : Int) (w : World) (h0 : 0 ≤ n) (h1 : n ≤ 255) :
    Calls Tryd.prog 67 #[.int .i64 n] w fun e w' => ∃ S : ByteArray, e = .returned (.string S) ∧ S.data.toList = [UInt8.ofNat n.toNat] ∧ S.size = 1 ∧ Below w.heap.size w w' := by
  have hcv : (convert 74 9 (.slice (some ⟨w.heap.size, 0, none⟩) 1 1)).run Tryd.prog (w.alloc (.cells #[.int .u8 n] 5)) = .ok (.string ⟨[UInt8.ofNat n.toNat].toArray⟩) (w.alloc (.cells #[.int .u8 n] 5)) :=
    run_convert_bytes_back (P := Tryd.prog) (w.alloc (.cells #[.int .u8 n] 5)) 74 9 5 ⟨w.heap.size, 0, none⟩ 1 [UInt8.ofNat n.toNat] Tryd.underlying74 Tryd.underlying5 Tryd.underlying9 (fun j hj => by
      match j, hj with
      | 0, _ =>
        simp [Addr.add]
        omega)
  generalize hS : (⟨[UInt8.ofNat n.toNat].toArray⟩ : ByteArray) = S at *
  have HS := hid hS
  clear hS
  go_enter Tryd.func67, Tryd.ntmps67
  go_wp2
  go_ret
  exact ⟨_, rfl, by rw [← HS.out], by rw [← HS.out]; rfl, (Below.refl _ _).alloc (Nat.le_refl _) _⟩

set_option maxHeartbeats 1000000 in
theorem below_small (u : Nat) (w : World) (hu : u < 10) :
    Calls Tryd.prog 40 #[.int .i64 (-(u : Int))] w fun e w' => ∃ S : ByteArray, e = .returned (.string S) ∧ S.data.toList = Lib.decDigits u ∧ Below w.heap.size w w' := by
  have HB := hid (fun W => byte_any (48 - -(u : Int)) W (by omega) (by omega))
  have HD := hid (Lib.decDigits_one hu)
  have hgt : decide (-10 < -(u : Int)) = true := by simp; omega
  generalize hn : -(u : Int) = n at *
  have HN := hid hn
  have hn0 : n ≤ 0 := by omega
  have hn1 : -10 < n := by omega
  clear hn hu
  go_enter Tryd.func40, Tryd.ntmps40
  go_wp2_with fail
  refine (HB.out _).mono ?_
  rintro e w1 ⟨S, rfl, hS, _, hb⟩
  have HS := hid hS
  have HBB := hid hb
  clear hS hb
  go_wp2_with fail
  go_ret
  refine ⟨S, rfl, ?_, HBB.out⟩
  rw [HS.out, HD.out]
  have := HN.out
  rw [show (48 - n).toNat = 48 + u by omega]

theorem neg_tdiv (u : Nat) : (-(u : Int)).tdiv 10 = -((u / 10 : Nat) : Int) := by
  rw [Int.neg_tdiv, Int.tdiv_eq_ediv_of_nonneg (by omega)]; omega
theorem neg_tmod (u : Nat) : (-(u : Int)).tmod 10 = -((u % 10 : Nat) : Int) := by
  rw [Int.neg_tmod, Int.tmod_eq_emod_of_nonneg (by omega)]; omega

set_option maxHeartbeats 1000000 in
theorem below_any : ∀ (k u : Nat) (w : World), u < 10 ^ (k + 1) → k ≤ 6 →
    Calls Tryd.prog 40 #[.int .i64 (-(u : Int))] w fun e w' => ∃ S : ByteArray, e = .returned (.string S) ∧ S.data.toList = Lib.decDigits u ∧ Below w.heap.size w w'
  | 0, u, w, h, _ => below_small u w (by simpa using h)
  | k + 1, u, w, h, hk => by
    by_cases hu : u < 10
    · exact below_small u w hu
    · have ih := fun W => below_any k (u / 10) W (by rw [Nat.pow_succ] at h; omega) (by omega)
      have hu7 : u < 10 ^ 8 := Nat.lt_of_lt_of_le h (Nat.pow_le_pow_right (by omega) (by omega))
      have IH := hid ih
      have HB := hid (fun W => byte_any (48 - -((u % 10 : Nat) : Int)) W (by omega) (by omega))
      have HD := hid (dec_big hu)
      have HT := hid (neg_tdiv u)
      have HM := hid (neg_tmod u)
      have hl1 := nDigits_le 7 (u / 10) (by omega)
      have hgt : decide (-10 < -(u : Int)) = false := by simp; omega
      generalize hn : -(u : Int) = n at *
      have HN := hid hn
      have hn0 : n ≤ -10 := by omega
      have hn1 : -100000000 ≤ n := by omega
      clear hn hu ih h
      go_enter Tryd.func40, Tryd.ntmps40
      go_wp2_with fail
      rw [HT.out]
      refine (IH.out _).mono ?_
      rintro e w1 ⟨S, rfl, hS, hb⟩
      have HS := hid hS
      have hS1 : S.size ≤ 8 := by
        have := size_of' hS
        rw [Lib.decDigits_length] at this
        omega
      have HB1 := hid hb
      have hm0 : -10 ≤ n.tmod 10 := by have := HM.out; omega
      have hm1 : n.tmod 10 ≤ 0 := by have := HM.out; omega
      clear hS hb
      go_wp2_with fail
      rw [HM.out]
      refine (HB.out _).mono ?_
      rintro e w2 ⟨T, rfl, hT, hT1, hb⟩
      have HTT := hid hT
      have HB2 := hid (HB1.out.trans (hb.mono HB1.out.size))
      clear hT hb
      go_wp2_with fail
      go_ret
      refine ⟨_, rfl, ?_, HB2.out⟩
      rw [HD.out, ← HS.out]
      simp only [ByteArray.data_append, Array.toList_append, HTT.out]
      rw [show (48 - -((u % 10 : Nat) : Int)).toNat = 48 + u % 10 by omega]

set_option maxHeartbeats 400000 in
theorem decimal_any (n : Int) (w : World) (h0 : 0 ≤ n) (h1 : n ≤ 999999) :
    Calls Tryd.prog 21 #[.int .i64 n] w fun e w' => ∃ S : ByteArray, e = .returned (.string S) ∧ S.data.toList = Lib.itoa n ∧ S.size ≤ 6 ∧ Below w.heap.size w w' := by
  have HI := hid (itoa_le n h0 h1)
  have HE := hid (show Lib.itoa n = Lib.decDigits n.toNat by unfold Lib.itoa; rw [if_neg (by omega)])
  have HB := hid (fun W => below_any 5 n.toNat W (by omega) (by omega))
  rw [show -((n.toNat : Nat) : Int) = -n by omega] at HB
  have hlt : decide (n < 0) = false := by simp; omega
  go_enter Tryd.func21, Tryd.ntmps21
  go_wp2_with fail
  refine (HB.out _).mono ?_
  rintro e w1 ⟨S, rfl, hS, hb⟩
  have HS := hid hS
  have HBB := hid hb
  clear hS hb
  go_wp2_with fail
  go_ret
  exact ⟨S, rfl, by rw [HS.out, HE.out], by have := size_of' HS.out; rw [this, ← HE.out]; exact HI.out, HBB.out⟩
end Ve
end Go.Proofs.YtmgpapghdbopiaaDoor
