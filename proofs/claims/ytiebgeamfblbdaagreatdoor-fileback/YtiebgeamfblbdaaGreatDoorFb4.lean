/-
  VerC RefA
-/
import Derived.Test.YtiebgeamfblbdaaGreatDoorFb3
namespace Go.Proofs.YtiebgeamfblbdaaGreatDoor
open Go.RowKit
namespace Ve
set_option maxHeartbeats 1000000 in
theorem pre_some (b o c : Nat) (xs : List ByteArray) (aT aB : Addr) (m : Int) (w : World) (S : Vs w aT aB m) (hn : xs.length ≤ 140737488355328) (hx : ∀ x, x ∈ xs → x.size ≤ maxLen)
    (hc : ∀ j (h : j < xs.length), w.cell? ⟨b, o + j, none⟩ = some (.string xs[j])) :
    Calls Tryz.prog 80 #[.slice (some ⟨b, o, none⟩) xs.length c] w fun e w' => e = .returned (errV aT aB (pre (bl xs))) ∧ Below w.heap.size w w' := by
  have HP := hid (show pre (bl xs) = preTo (if 5 < xs.length then 2 else 0) (bl xs) by unfold pre; rw [bl_len])
  have HS := hid S
  have HC := hid hc
  have HX := hid hx
  have g := S.b
  clear S hc hx
  by_cases h5 : 5 < xs.length
  · rw [if_pos h5] at HP
    have h5b : decide (5 < (xs.length : Int)) = true := by simp; omega
    go_enter Tryz.func80, Tryz.ntmps80
    go_wp2_with fail
    clear g
    go_loopw [3, 12] (fun bad i wr => ∃ k : Nat, k ≤ xs.length ∧ i = .int .i64 k ∧ bad = errV aT aB (preTo 2 (bl (xs.take k))) ∧ Below w.heap.size w wr) (fun _ i _ => xs.length - (intOf i).toNat)
    case atStart => exact ⟨0, Nat.zero_le _, rfl, rfl, Below.refl _ _⟩
    case round =>
      obtain ⟨k, hk, rfl, rfl, hb⟩ := hrel
      have HB := hid hb
      clear hb
      by_cases hlt : k < xs.length
      · have hcell : wr.cell? ⟨b, o + k, none⟩ = some (.string xs[k]) := cell_below HB.out (HC.out k hlt)
        have HSN := hid (preTo_snoc 2 (bl (xs.take k)) xs[k].data.toList)
        rw [← bl_take_snoc xs k hlt] at HSN
        have HE := hid (preTo_err 2 (bl (xs.take k)) (by simp))
        have HXK := hid (HX.out xs[k] (List.getElem_mem hlt))
        generalize hq : preTo 2 (bl (xs.take k)) = q at *
        clear hq
        go_wp2_with fail
        refine (part_any xs[k] aT aB m wr HXK.out (HS.out.below HB.out)).mono ?_
        rintro e w1 ⟨rfl, hb1⟩
        have HB1 := hid (HB.out.trans (hb1.mono HB.out.size))
        clear hb1
        have HPE := hid (part_err xs[k].data.toList)
        go_wp2_with fail
        refine (worse_any q _ aT aB m w1 (HS.out.below HB1.out) HE.out HPE.out).mono ?_
        rintro e w' ⟨rfl, rfl⟩
        rw [← HSN.out]
        go_wp2_with fail
        go_roundw
        case rel => exact ⟨k + 1, by omega, by go_num, rfl, HB1.out⟩
        case measure => simp [intOf]; omega
      · have hkk : xs.take k = xs := List.take_of_length_le (by omega)
        rw [hkk, ← HP.out]
        clear hkk
        go_wp2_with fail
        go_ret
        exact ⟨rfl, HB.out⟩
  · rw [if_neg h5] at HP
    have h5b : decide (5 < (xs.length : Int)) = false := by simp; omega
    go_enter Tryz.func80, Tryz.ntmps80
    go_wp2_with fail
    clear g
    go_loopw [3, 12] (fun bad i wr => ∃ k : Nat, k ≤ xs.length ∧ i = .int .i64 k ∧ bad = errV aT aB (preTo 0 (bl (xs.take k))) ∧ Below w.heap.size w wr) (fun _ i _ => xs.length - (intOf i).toNat)
    case atStart => exact ⟨0, Nat.zero_le _, rfl, rfl, Below.refl _ _⟩
    case round =>
      obtain ⟨k, hk, rfl, rfl, hb⟩ := hrel
      have HB := hid hb
      clear hb
      by_cases hlt : k < xs.length
      · have hcell : wr.cell? ⟨b, o + k, none⟩ = some (.string xs[k]) := cell_below HB.out (HC.out k hlt)
        have HSN := hid (preTo_snoc 0 (bl (xs.take k)) xs[k].data.toList)
        rw [← bl_take_snoc xs k hlt] at HSN
        have HE := hid (preTo_err 0 (bl (xs.take k)) (by simp))
        have HXK := hid (HX.out xs[k] (List.getElem_mem hlt))
        generalize hq : preTo 0 (bl (xs.take k)) = q at *
        clear hq
        go_wp2_with fail
        refine (part_any xs[k] aT aB m wr HXK.out (HS.out.below HB.out)).mono ?_
        rintro e w1 ⟨rfl, hb1⟩
        have HB1 := hid (HB.out.trans (hb1.mono HB.out.size))
        clear hb1
        have HPE := hid (part_err xs[k].data.toList)
        go_wp2_with fail
        refine (worse_any q _ aT aB m w1 (HS.out.below HB1.out) HE.out HPE.out).mono ?_
        rintro e w' ⟨rfl, rfl⟩
        rw [← HSN.out]
        go_wp2_with fail
        go_roundw
        case rel => exact ⟨k + 1, by omega, by go_num, rfl, HB1.out⟩
        case measure => simp [intOf]; omega
      · have hkk : xs.take k = xs := List.take_of_length_le (by omega)
        rw [hkk, ← HP.out]
        clear hkk
        go_wp2_with fail
        go_ret
        exact ⟨rfl, HB.out⟩
end Ve
end Go.Proofs.YtiebgeamfblbdaaGreatDoor
namespace Go.Proofs.YtiebgeamfblbdaaGreatDoor
open Go.RowKit
namespace Ve
def valTo (n : Int) (l : List UInt8) : Int := l.foldl (fun n c => 10 * n + ((c.toNat : Int) - 48)) n
theorem dig_bd {c : UInt8} (h : dig c = true) : 48 ≤ (c.toNat : Int) ∧ (c.toNat : Int) ≤ 57 := by simpa [dig, digB] using h
theorem valTo_bd : ∀ (l : List UInt8) (n : Int), l.all dig = true → 0 ≤ n → n * 10 ^ l.length ≤ valTo n l ∧ valTo n l < (n + 1) * 10 ^ l.length := by
  intro l
  induction l with
  | nil => intro n _ h; simp [valTo]; omega
  | cons c r ih =>
    intro n ha h0
    simp only [List.all_cons, Bool.and_eq_true] at ha
    have hc := dig_bd ha.1
    have := ih (10 * n + ((c.toNat : Int) - 48)) ha.2 (by omega)
    show n * 10 ^ (r.length + 1) ≤ valTo (10 * n + ((c.toNat : Int) - 48)) r ∧ valTo (10 * n + ((c.toNat : Int) - 48)) r < (n + 1) * 10 ^ (r.length + 1)
    have hp : (0 : Int) < 10 ^ r.length := Int.pow_pos (by decide)
    have e1 : n * 10 ^ (r.length + 1) = (10 * n) * 10 ^ r.length := by rw [Int.pow_succ]; rw [Int.mul_comm (10 ^ r.length) 10, ← Int.mul_assoc, Int.mul_comm n 10]
    have e2 : (n + 1) * 10 ^ (r.length + 1) = (10 * (n + 1)) * 10 ^ r.length := by rw [Int.pow_succ]; rw [Int.mul_comm (10 ^ r.length) 10, ← Int.mul_assoc, Int.mul_comm (n + 1) 10]
    rw [e1, e2]
    constructor
    · exact Int.le_trans (Int.mul_le_mul_of_nonneg_right (by omega) (Int.le_of_lt hp)) this.1
    · exact Int.lt_of_lt_of_le this.2 (Int.mul_le_mul_of_nonneg_right (by omega) (Int.le_of_lt hp))
theorem numTo_val : ∀ (l : List UInt8) (n : Int), l.all dig = true → 0 ≤ n → numTo (min n 1000000) l = min (valTo n l) 1000000 := by
  intro l
  induction l with
  | nil => intro n _ _; rfl
  | cons c r ih =>
    intro n ha h0
    simp only [List.all_cons, Bool.and_eq_true] at ha
    have hc := dig_bd ha.1
    have := ih (10 * n + ((c.toNat : Int) - 48)) ha.2 (by omega)
    show numTo (min (min n 1000000 * 10 + ((c.toNat : Int) - 48)) 1000000) r = min (valTo (10 * n + ((c.toNat : Int) - 48)) r) 1000000
    rw [← this]
    congr 1
    omega
theorem num_six (l : List UInt8) (h : digs l = true) (h0 : zero l = false) : num l = if 6 < l.length then (0, 2) else (valTo 0 l, 0) := by
  have had : l.all dig = true := by unfold digs at h; simp at h; exact h.2
  have hpos : 0 < l.length := by unfold digs at h; simp at h; exact h.1
  have e := numTo_val l 0 had (by omega)
  rw [show min (0 : Int) 1000000 = 0 by omega] at e
  have hb := valTo_bd l 0 had (by omega)
  unfold num
  rw [h, h0, e]
  simp only [Bool.not_true, Bool.or_false, Bool.false_eq_true, if_false]
  by_cases h6 : 6 < l.length
  · rw [if_pos h6]
    have hbig : 999999 < valTo 0 l := by
      cases l with
      | nil => simp at hpos
      | cons c r =>
        simp only [List.all_cons, Bool.and_eq_true] at had
        have hc := dig_bd had.1
        have hc48 : (c.toNat : Int) ≠ 48 := by
          intro hh
          have : c = 48 := by apply UInt8.toNat_inj.1; show c.toNat = 48; omega
          subst this
          simp [zero] at h0
          have : r.length + 1 > 6 := h6
          have h7 : r ≠ [] := by intro hr; subst hr; simp at this
          exact h7 h0
        have hv := (valTo_bd r (10 * 0 + ((c.toNat : Int) - 48)) had.2 (by omega)).1
        have hr : 6 ≤ r.length := by simp at h6; omega
        have hp : (1000000 : Int) ≤ 10 ^ r.length := by
          have := Nat.pow_le_pow_right (n := 10) (by omega) hr
          have h8 : ((10 ^ 6 : Nat) : Int) ≤ ((10 ^ r.length : Nat) : Int) := by exact_mod_cast this
          simpa using h8
        have h9 : (10 : Int) ^ r.length ≤ (10 * 0 + ((c.toNat : Int) - 48)) * 10 ^ r.length := by
          have := Int.mul_le_mul_of_nonneg_right (a := 1) (b := 10 * 0 + ((c.toNat : Int) - 48)) (c := 10 ^ r.length) (by omega) (by omega)
          simpa using this
        show 999999 < valTo (10 * 0 + ((c.toNat : Int) - 48)) r
        omega
    rw [if_neg (by omega)]
  · rw [if_neg h6]
    have hp : (10 : Int) ^ l.length ≤ 1000000 := by
      have := Nat.pow_le_pow_right (n := 10) (by omega) (show l.length ≤ 6 by omega)
      have h8 : ((10 ^ l.length : Nat) : Int) ≤ ((10 ^ 6 : Nat) : Int) := by exact_mod_cast this
      simpa using h8
    have : valTo 0 l < 1000000 := by have := hb.2; simp at this; omega
    rw [if_pos (by omega), show min (valTo 0 l) 1000000 = valTo 0 l by omega]
theorem str_ext {a b : ByteArray} (h : a.data.toList = b.data.toList) : a = b := by
  cases a; cases b; congr 1; exact Array.toList_inj.1 h
theorem str_ne {a b : ByteArray} (h : ¬ a = b) : (a.toList == b.toList) = false := by
  rw [beq_eq_false_iff_ne, ByteArray.toList_eq, ByteArray.toList_eq]
  intro e; exact h (str_ext e)
end Ve
end Go.Proofs.YtiebgeamfblbdaaGreatDoor
