
import Derived.Test.YtemhofbhmnnijaaGreatDoorProg
import Derived.Test.YtemhofbhmnnijaaGreatDoorPj1
import Derived.WalkKit
import Derived.LaidEql
import Derived.Stop.Asserts
import Derived.RowKitTokens
import Derived.Deep.QuietTactic
import Derived.BigQuiet
namespace Go.Proofs.YtemhofbhmnnijaaGreatDoor
open Go.RowKit
namespace Ve
theorem hid {p : Prop} (h : p) : Hid p := h
theorem ret_bool {a b : Bool} (h : a = b) : Ending.returned (.bool a) = .returned (.bool b) := by rw [h]
theorem isDigit_any (c : Int) (w : World) (h0 : 0 ≤ c) (h1 : c ≤ 255) :
    Calls Tryz.prog 97 #[.int .u8 c] w fun e w' => e = .returned (.bool (digB c)) ∧ w' = w := by
  by_cases a : 48 ≤ c
  all_goals
    go_enter Tryz.func97, Tryz.ntmps97
    go_wp2
    go_ret
    exact ⟨ret_bool (by unfold digB; rw [Bool.eq_iff_iff]; simp <;> omega), rfl⟩
theorem small_any (c : Int) (w : World) (h0 : 0 ≤ c) (h1 : c ≤ 255) :
    Calls Tryz.prog 96 #[.int .u8 c] w fun e w' => e = .returned (.bool (decide (97 ≤ c ∧ c ≤ 122))) ∧ w' = w := by
  by_cases a : 97 ≤ c
  all_goals
    go_enter Tryz.func96, Tryz.ntmps96
    go_wp2
    go_ret
    exact ⟨ret_bool (by rw [Bool.eq_iff_iff]; simp <;> omega), rfl⟩
set_option maxHeartbeats 400000 in
theorem every_dig (s : ByteArray) (w : World) (hs : s.size ≤ maxLen) :
    Calls Tryz.prog 78 #[.string s, .func (.func 97) #[] #[]] w fun e w' => e = .returned (.bool (allDig s.data.toList)) ∧ w' = w := by
  unfold maxLen at hs
  go_enter Tryz.func78, Tryz.ntmps78
  go_wp2_with fail
  go_loop [8] (fun i => ∃ k : Nat, k ≤ s.size ∧ i = .int .i64 k ∧ Hid ((s.data.toList.take k).all dig = true)) (fun i => s.size - (intOf i).toNat)
  case atStart => exact ⟨0, Nat.zero_le _, rfl, hid rfl⟩
  case round =>
    obtain ⟨k, hk, rfl, HA⟩ := hrel
    by_cases hlt : k < s.size
    · have HS := hid (all_snoc dig (s.data.toList.take k) s[k])
      rw [← take_snoc s k hlt, HA.out, Bool.true_and] at HS
      cases hd : dig s[k]
      · rw [hd] at HS
        have HX := hid (show allDig s.data.toList = false by
          have h2 : allDig s.data.toList = ((s.data.toList.take (k + 1)).all dig && (s.data.toList.drop (k + 1)).all dig) := by rw [← List.all_append, List.take_append_drop]; rfl
          rw [h2, HS.out]; rfl)
        have HC := hid (fun W => isDigit_any (s[k].toNat : Int) W (by omega) (by have := s[k].toNat_lt; omega))
        have HD := hid (show digB (s[k].toNat : Int) = false from hd)
        clear hd
        go_wp2_with fail
        refine (HC.out _).mono ?_
        rintro e w' ⟨rfl, rfl⟩
        rw [HD.out]
        go_wp2_with fail
        go_ret
        exact ⟨ret_bool HX.out.symm, rfl⟩
      · rw [hd] at HS
        have HC := hid (fun W => isDigit_any (s[k].toNat : Int) W (by omega) (by have := s[k].toNat_lt; omega))
        have HD := hid (show digB (s[k].toNat : Int) = true from hd)
        clear hd
        go_wp2_with fail
        refine (HC.out _).mono ?_
        rintro e w' ⟨rfl, rfl⟩
        rw [HD.out]
        go_wp2_with fail
        go_round
        case rel => exact ⟨k + 1, by omega, by go_num, HS⟩
        case measure => simp [intOf]; omega
    · have HX := hid (show allDig s.data.toList = true by
        have h2 : s.data.toList.take k = s.data.toList := List.take_of_length_le (by simp; omega)
        have := HA.out; rw [h2] at this; exact this)
      go_wp2_with fail
      go_ret
      exact ⟨ret_bool HX.out.symm, rfl⟩
end Ve
end Go.Proofs.YtemhofbhmnnijaaGreatDoor
