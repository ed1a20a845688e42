
import Derived.Test.YtemhofbhmnnijaaGreatDoorPj7
namespace Go.Proofs.YtemhofbhmnnijaaGreatDoor
open Go.RowKit
namespace Ve
set_option maxHeartbeats 400000 in
theorem areDigits_any (s : ByteArray) (w : World) (hs : s.size ≤ maxLen) :
    Calls Tryz.prog 44 #[.string s] w fun e w' => e = .returned (.bool (digs s.data.toList)) ∧ w' = w := by
  have HD := hid (show digs s.data.toList = (decide (0 < s.size) && allDig s.data.toList) by unfold digs; rw [len_eq])
  unfold maxLen at hs
  go_enter Tryz.func44, Tryz.ntmps44
  go_wp2_with fail
  go_loop [3] (fun i => ∃ k : Nat, k ≤ s.size ∧ i = .int .i64 k ∧ Hid ((s.data.toList.take k).all dig = true)) (fun i => s.size - (intOf i).toNat)
  case atStart => exact ⟨0, Nat.zero_le _, rfl, hid rfl⟩
  case round =>
    obtain ⟨k, hk, rfl, HA⟩ := hrel
    by_cases hlt : k < s.size
    · have HS := hid (all_snoc dig (s.data.toList.take k) s[k])
      rw [← take_snoc s k hlt, HA.out, Bool.true_and] at HS
      by_cases h1 : (s[k].toNat : Int) < 48
      · have HX := hid (show digs s.data.toList = false by
          have h2 : allDig s.data.toList = ((s.data.toList.take (k + 1)).all dig && (s.data.toList.drop (k + 1)).all dig) := by rw [← List.all_append, List.take_append_drop]; rfl
          rw [HD.out, h2, HS.out, show dig s[k] = false by simp [dig, digB]; omega]; simp)
        go_wp2_with fail
        go_ret
        exact ⟨ret_bool HX.out.symm, rfl⟩
      · by_cases h2 : 57 < (s[k].toNat : Int)
        · have HX := hid (show digs s.data.toList = false by
            have h2 : allDig s.data.toList = ((s.data.toList.take (k + 1)).all dig && (s.data.toList.drop (k + 1)).all dig) := by rw [← List.all_append, List.take_append_drop]; rfl
            rw [HD.out, h2, HS.out, show dig s[k] = false by simp [dig, digB]; omega]; simp)
          go_wp2_with fail
          go_ret
          exact ⟨ret_bool HX.out.symm, rfl⟩
        · have HY := hid (show (s.data.toList.take (k + 1)).all dig = true by rw [HS.out]; simp [dig, digB]; omega)
          go_wp2_with fail
          go_round
          case rel => exact ⟨k + 1, by omega, by go_num, HY⟩
          case measure => simp [intOf]; omega
    · have HX := hid (show digs s.data.toList = decide (0 < s.size) by
        have h2 : s.data.toList.take k = s.data.toList := List.take_of_length_le (by simp; omega)
        have := HA.out; rw [h2] at this
        rw [HD.out, show allDig s.data.toList = true from this, Bool.and_true])
      go_wp2_with fail
      go_ret
      exact ⟨ret_bool (by rw [HX.out]), rfl⟩
def valTo (n : Int) (l : List UInt8) : Int := l.foldl (fun n c => 10 * n + ((c.toNat : Int) - 48)) n
theorem valTo_snoc (n : Int) (l : List UInt8) (c : UInt8) : valTo n (l ++ [c]) = 10 * valTo n l + ((c.toNat : Int) - 48) := by simp [valTo, List.foldl_append]
theorem dig_bd {c : UInt8} (h : dig c = true) : 48 ≤ (c.toNat : Int) ∧ (c.toNat : Int) ≤ 57 := by simpa [dig, digB] using h
theorem valTo_bd : ∀ (l : List UInt8) (n : Int), l.all dig = true → 0 ≤ n → n * 10 ^ l.length ≤ valTo n l ∧ valTo n l < (n + 1) * 10 ^ l.length := by
  intro l
  induction l with
  | nil => intro n _ h; simp [valTo]; omega
  | cons c r ih =>
    intro n ha h0
    simp only [List.all_cons, Bool.and_eq_true] at ha
    have hc := dig_bd ha.1
    have := ih (10 * n + ((c.toNat : Int) - 48)) ha.2 (by omega)
    show n * 10 ^ (r.length + 1) ≤ valTo (10 * n + ((c.toNat : Int) - 48)) r ∧ valTo (10 * n + ((c.toNat : Int) - 48)) r < (n + 1) * 10 ^ (r.length + 1)
    have hp : (0 : Int) < 10 ^ r.length := Int.pow_pos (by decide)
    have e1 : n * 10 ^ (r.length + 1) = (10 * n) * 10 ^ r.length := by rw [Int.pow_succ]; rw [Int.mul_comm (10 ^ r.length) 10, ← Int.mul_assoc, Int.mul_comm n 10]
    have e2 : (n + 1) * 10 ^ (r.length + 1) = (10 * (n + 1)) * 10 ^ r.length := by rw [Int.pow_succ]; rw [Int.mul_comm (10 ^ r.length) 10, ← Int.mul_assoc, Int.mul_comm (n + 1) 10]
    rw [e1, e2]
    constructor
    · exact Int.le_trans (Int.mul_le_mul_of_nonneg_right (by omega) (Int.le_of_lt hp)) this.1
    · exact Int.lt_of_lt_of_le this.2 (Int.mul_le_mul_of_nonneg_right (by omega) (Int.le_of_lt hp))
theorem numTo_val : ∀ (l : List UInt8) (n : Int), l.all dig = true → 0 ≤ n → numTo (min n 1000000) l = min (valTo n l) 1000000 := by
  intro l
  induction l with
  | nil => intro n _ _; rfl
  | cons c r ih =>
    intro n ha h0
    simp only [List.all_cons, Bool.and_eq_true] at ha
    have hc := dig_bd ha.1
    have := ih (10 * n + ((c.toNat : Int) - 48)) ha.2 (by omega)
    show numTo (min (min n 1000000 * 10 + ((c.toNat : Int) - 48)) 1000000) r = min (valTo (10 * n + ((c.toNat : Int) - 48)) r) 1000000
    rw [← this]
    congr 1
    omega
theorem num_six (l : List UInt8) (h : digs l = true) (h0 : zero l = false) : num l = if 6 < l.length then (0, 2) else (valTo 0 l, 0) := by
  have had : l.all dig = true := by unfold digs at h; simp at h; exact h.2
  have hpos : 0 < l.length := by unfold digs at h; simp at h; exact h.1
  have e := numTo_val l 0 had (by omega)
  rw [show min (0 : Int) 1000000 = 0 by omega] at e
  have hb := valTo_bd l 0 had (by omega)
  unfold num
  rw [h, h0, e]
  simp only [Bool.not_true, Bool.or_false, Bool.false_eq_true, if_false]
  by_cases h6 : 6 < l.length
  · rw [if_pos h6]
    have hbig : 999999 < valTo 0 l := by
      cases l with
      | nil => simp at hpos
      | cons c r =>
        simp only [List.all_cons, Bool.and_eq_true] at had
        have hc := dig_bd had.1
        have hc48 : (c.toNat : Int) ≠ 48 := by
          intro hh
          have : c = 48 := by apply UInt8.toNat_inj.1; show c.toNat = 48; omega
          subst this
          simp [zero] at h0
          have : r.length + 1 > 6 := h6
          have h7 : r ≠ [] := by intro hr; subst hr; simp at this
          exact h7 h0
        have hv := (valTo_bd r (10 * 0 + ((c.toNat : Int) - 48)) had.2 (by omega)).1
        have hr : 6 ≤ r.length := by simp at h6; omega
        have hp : (1000000 : Int) ≤ 10 ^ r.length := by
          have := Nat.pow_le_pow_right (n := 10) (by omega) hr
          have h8 : ((10 ^ 6 : Nat) : Int) ≤ ((10 ^ r.length : Nat) : Int) := by exact_mod_cast this
          simpa using h8
        have h9 : (10 : Int) ^ r.length ≤ (10 * 0 + ((c.toNat : Int) - 48)) * 10 ^ r.length := by
          have := Int.mul_le_mul_of_nonneg_right (a := 1) (b := 10 * 0 + ((c.toNat : Int) - 48)) (c := 10 ^ r.length) (by omega) (by omega)
          simpa using this
        show 999999 < valTo (10 * 0 + ((c.toNat : Int) - 48)) r
        omega
    rw [if_neg (by omega)]
  · rw [if_neg h6]
    have hp : (10 : Int) ^ l.length ≤ 1000000 := by
      have := Nat.pow_le_pow_right (n := 10) (by omega) (show l.length ≤ 6 by omega)
      have h8 : ((10 ^ l.length : Nat) : Int) ≤ ((10 ^ 6 : Nat) : Int) := by exact_mod_cast this
      simpa using h8
    have : valTo 0 l < 1000000 := by have := hb.2; simp at this; omega
    rw [if_pos (by omega), show min (valTo 0 l) 1000000 = valTo 0 l by omega]
theorem val_le (l : List UInt8) (h : l.all dig = true) (h6 : l.length ≤ 6) : 0 ≤ valTo 0 l ∧ valTo 0 l < 1000000 := by
  have hb := valTo_bd l 0 h (by omega)
  have hp : (10 : Int) ^ l.length ≤ 1000000 := by
    have := Nat.pow_le_pow_right (n := 10) (by omega) h6
    have h8 : ((10 ^ l.length : Nat) : Int) ≤ ((10 ^ 6 : Nat) : Int) := by exact_mod_cast this
    simpa using h8
  have h1 := hb.1
  have h2 := hb.2
  simp at h1 h2
  omega
set_option maxHeartbeats 1000000 in
theorem numberOf_any (s : ByteArray) (w : World) (hs : s.size ≤ maxLen) :
    Calls Tryz.prog 45 #[.string s] w fun e w' => e = .returned (.tuple #[.int .i64 (num s.data.toList).1, .int .i64 ((num s.data.toList).2 : Nat)]) ∧ w' = w := by
  have HC := hid (areDigits_any s w hs)
  unfold maxLen at hs
  cases hz : digs s.data.toList
  · have HN := hid (show num s.data.toList = (0, 1) by simp [num, hz])
    rw [hz] at HC
    clear hz
    go_enter Tryz.func45, Tryz.ntmps45
    go_wp2_with fail
    refine HC.out.mono ?_
    rintro e w' ⟨rfl, rfl⟩
    go_wp2_with fail
    go_ret2
    exact ⟨by rw [HN.out]; rfl, rfl⟩
  have had : allDig s.data.toList = true := by unfold digs at hz; simp at hz; exact hz.2
  cases h0 : zero s.data.toList
  · have HN := hid (num_six s.data.toList hz h0)
    have HZ : Hid (¬ ∃ h : 1 < s.size, ((s[0].toNat : Int) == 48) = true) := fun h => by have := (zero_eq s).2 h; rw [h0] at this; cases this
    rw [len_eq] at HN
    rw [hz] at HC
    clear hz h0
    by_cases h1 : 1 < s.size
    · have h2 : ((s[0].toNat : Int) == 48) = false := by
        cases h : ((s[0].toNat : Int) == 48)
        · rfl
        · exact absurd ⟨h1, h⟩ HZ.out
      clear HZ
      by_cases h6 : 6 < s.size
      · rw [if_pos h6] at HN
        go_enter Tryz.func45, Tryz.ntmps45
        go_wp2_with fail
        refine HC.out.mono ?_
        rintro e w' ⟨rfl, rfl⟩
        go_wp2_with fail
        go_ret2
        exact ⟨by rw [HN.out]; rfl, rfl⟩
      · rw [if_neg h6] at HN
        have hl6 : s.data.toList.length ≤ 6 := by rw [len_eq]; omega
        have h6b : decide (6 < (s.size : Int)) = false := by simp; omega
        go_enter Tryz.func45, Tryz.ntmps45
        go_wp2_with fail
        refine HC.out.mono ?_
        rintro e w' ⟨rfl, rfl⟩
        go_wp2_with fail
        go_loop [5, 6] (fun n i => ∃ k : Nat, k ≤ s.size ∧ i = .int .i64 k ∧ n = .int .i64 (valTo 0 (s.data.toList.take k))) (fun _ i => s.size - (intOf i).toNat)
        case atStart => exact ⟨0, Nat.zero_le _, rfl, rfl⟩
        case round =>
          obtain ⟨k, hk, rfl, rfl⟩ := hrel
          obtain ⟨q0, q1⟩ := val_le _ (dig_take s had k) (show (s.data.toList.take k).length ≤ 6 by have := List.length_take_le k s.data.toList; omega)
          by_cases hlt : k < s.size
          · obtain ⟨d0, d1⟩ := dig_at s had k hlt
            have HS := hid (valTo_snoc 0 (s.data.toList.take k) s[k])
            rw [← take_snoc s k hlt] at HS
            generalize hn : valTo 0 (s.data.toList.take k) = n at *
            clear hn
            go_wp2_with fail
            go_round
            case rel => exact ⟨k + 1, by omega, by go_num, by rw [HS.out]⟩
            case measure => simp [intOf]; omega
          · have hk2 : s.data.toList.take k = s.data.toList := List.take_of_length_le (by simp; omega)
            rw [hk2]
            clear hk2 q0 q1
            go_wp2_with fail
            go_ret2
            exact ⟨by rw [HN.out]; rfl, rfl⟩
    · clear HZ
      have h6 : ¬ 6 < s.size := by omega
      rw [if_neg h6] at HN
      have hl6 : s.data.toList.length ≤ 6 := by rw [len_eq]; omega
      have h6b : decide (6 < (s.size : Int)) = false := by simp; omega
      have h1b : decide (1 < (s.size : Int)) = false := by simp; omega
      go_enter Tryz.func45, Tryz.ntmps45
      go_wp2_with fail
      refine HC.out.mono ?_
      rintro e w' ⟨rfl, rfl⟩
      go_wp2_with fail
      go_loop [5, 6] (fun n i => ∃ k : Nat, k ≤ s.size ∧ i = .int .i64 k ∧ n = .int .i64 (valTo 0 (s.data.toList.take k))) (fun _ i => s.size - (intOf i).toNat)
      case atStart => exact ⟨0, Nat.zero_le _, rfl, rfl⟩
      case round =>
        obtain ⟨k, hk, rfl, rfl⟩ := hrel
        obtain ⟨q0, q1⟩ := val_le _ (dig_take s had k) (show (s.data.toList.take k).length ≤ 6 by have := List.length_take_le k s.data.toList; omega)
        by_cases hlt : k < s.size
        · obtain ⟨d0, d1⟩ := dig_at s had k hlt
          have HS := hid (valTo_snoc 0 (s.data.toList.take k) s[k])
          rw [← take_snoc s k hlt] at HS
          generalize hn : valTo 0 (s.data.toList.take k) = n at *
          clear hn
          go_wp2_with fail
          go_round
          case rel => exact ⟨k + 1, by omega, by go_num, by rw [HS.out]⟩
          case measure => simp [intOf]; omega
        · have hk2 : s.data.toList.take k = s.data.toList := List.take_of_length_le (by simp; omega)
          rw [hk2]
          clear hk2 q0 q1
          go_wp2_with fail
          go_ret2
          exact ⟨by rw [HN.out]; rfl, rfl⟩
  · have HN := hid (show num s.data.toList = (0, 1) by simp [num, h0])
    obtain ⟨h1, h2⟩ := (zero_eq s).1 h0
    rw [hz] at HC
    clear hz h0
    go_enter Tryz.func45, Tryz.ntmps45
    go_wp2_with fail
    refine HC.out.mono ?_
    rintro e w' ⟨rfl, rfl⟩
    go_wp2_with fail
    go_ret2
    exact ⟨by rw [HN.out]; rfl, rfl⟩
theorem str_ext {a b : ByteArray} (h : a.data.toList = b.data.toList) : a = b := by
  cases a; cases b; congr 1; exact Array.toList_inj.1 h
theorem str_ne {a b : ByteArray} (h : ¬ a = b) : (a.toList == b.toList) = false := by
  rw [beq_eq_false_iff_ne, ByteArray.toList_eq, ByteArray.toList_eq]
  intro e; exact h (str_ext e)
theorem same_len (a b : Option Addr) (n c m d : Nat) (w : World) (h : ((n : Int) == (m : Int)) = false) :
    Calls Tryz.prog 12 #[.slice a n c, .slice b m d] w fun e w' => e = .returned (.bool false) ∧ w' = w := by
  go_enter Tryz.func12, Tryz.ntmps12
  go_wp2_with fail
  go_ret
  exact ⟨rfl, rfl⟩
theorem same_none (a b : Option Addr) (c d : Nat) (w : World) :
    Calls Tryz.prog 12 #[.slice a 0 c, .slice b 0 d] w fun e w' => e = .returned (.bool true) ∧ w' = w := by
  go_enter Tryz.func12, Tryz.ntmps12
  go_wp2_with fail
  refine wp_loop_rounds 1 ?_
  rw [rounds_succ]
  go_wp2_with fail
  go_ret
  exact ⟨rfl, rfl⟩
set_option maxHeartbeats 1000000 in
theorem same_some (b0 o0 c0 b1 o1 c1 : Nat) (X Y : List ByteArray) (w : World) (hl : X.length = Y.length) (hn : X.length ≤ 1000000)
    (h0 : ∀ j (h : j < X.length), w.cell? ⟨b0, o0 + j, none⟩ = some (.string X[j])) (h1 : ∀ j (h : j < Y.length), w.cell? ⟨b1, o1 + j, none⟩ = some (.string Y[j])) :
    Calls Tryz.prog 12 #[.slice (some ⟨b0, o0, none⟩) X.length c0, .slice (some ⟨b1, o1, none⟩) X.length c1] w fun e w' => e = .returned (.bool (decide (X = Y))) ∧ Below w.heap.size w w' := by
  have H0 := hid h0
  have H1 := hid h1
  have HL := hid hl
  clear h0 h1 hl
  go_enter Tryz.func12, Tryz.ntmps12
  go_wp2_with fail
  go_loopw [5] (fun i wr => ∃ k d : Nat, k ≤ X.length ∧ i = .int .i64 k ∧ Hid (X.take k = Y.take k) ∧ wr = w.drewN d) (fun i _ => X.length - (intOf i).toNat)
  case atStart => exact ⟨0, 0, Nat.zero_le _, rfl, hid rfl, rfl⟩
  case round =>
    obtain ⟨k, d, hk, rfl, HE, rfl⟩ := hrel
    by_cases hlt : k < X.length
    · have hlt' : k < Y.length := HL.out ▸ hlt
      have q0 := H0.out k hlt
      have q1 := H1.out k hlt'
      by_cases heq : X[k] = Y[k]
      · have HS := hid (show X.take (k + 1) = Y.take (k + 1) by rw [List.take_succ_eq_append_getElem hlt, List.take_succ_eq_append_getElem hlt', HE.out, heq])
        rw [← heq] at q1
        clear heq hlt'
        generalize X[k] = x at *
        go_wp2_with fail
        go_quiet (fail)
        go_wp2_with fail
        go_roundw
        case rel => exact ⟨k + 1, _, by omega, by go_num, HS, rfl⟩
        case measure => simp [intOf]; omega
      · have HF := hid (show decide (X = Y) = false by
          rw [decide_eq_false_iff_not]; intro h; subst h; exact heq rfl)
        have hb : (X[k].toList == Y[k].toList) = false := str_ne heq
        clear heq
        go_wp2_with fail
        go_quiet (fail)
        go_wp2_with fail
        go_ret
        exact ⟨ret_bool HF.out.symm, (below_drawn w d).trans (show Below w.heap.size (w.drewN d) _ from below_drawn (w.drewN d) _)⟩
    · have HT := hid (show decide (X = Y) = true by
        have e1 : X.take k = X := List.take_of_length_le (by omega)
        have e2 : Y.take k = Y := List.take_of_length_le (by have := HL.out; omega)
        have := HE.out
        rw [e1, e2] at this
        simp [this])
      go_wp2_with fail
      go_ret
      exact ⟨ret_bool HT.out.symm, below_drawn _ _⟩
end Ve
end Go.Proofs.YtemhofbhmnnijaaGreatDoor
