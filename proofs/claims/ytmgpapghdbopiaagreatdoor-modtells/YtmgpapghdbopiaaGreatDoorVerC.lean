/-
  What checkPre of package ver answers for any list of texts; nothing old in memory turns.
-/
import Derived.Test.YtmgpapghdbopiaaGreatDoorVerB
namespace Go.Proofs.YtmgpapghdbopiaaGreatDoor
open Go.RowKit
namespace Ve

theorem pre_nil (a : Option Addr) (c : Nat) (aT aB : Addr) (w : World) :
    Calls Tryz.prog 42 #[.slice a 0 c] w fun e w' => e = .returned (errV aT aB (pre [])) ∧ Below w.heap.size w w' := by
  have HP := hid (show errV aT aB (pre []) = .nilIface from rfl)
  go_enter Tryz.func42, Tryz.ntmps42
  go_wp2_with fail
  refine wp_loop_rounds 1 ?_
  rw [rounds_succ]
  go_wp2_with fail
  go_ret
  exact ⟨by rw [HP.out]; rfl, Below.refl _ _⟩

set_option maxHeartbeats 1000000 in
theorem pre_some (b o c : Nat) (xs : List ByteArray) (aT aB : Addr) (m : Int) (w : World) (S : Vs w aT aB m) (hn : xs.length ≤ 140737488355328) (hx : ∀ x, x ∈ xs → x.size ≤ maxLen)
    (hc : ∀ j (h : j < xs.length), w.cell? ⟨b, o + j, none⟩ = some (.string xs[j])) :
    Calls Tryz.prog 42 #[.slice (some ⟨b, o, none⟩) xs.length c] w fun e w' => e = .returned (errV aT aB (pre (bl xs))) ∧ Below w.heap.size w w' := by
  have HP := hid (show pre (bl xs) = preTo (if 5 < xs.length then 2 else 0) (bl xs) by unfold pre; rw [bl_len])
  have HS := hid S
  have HC := hid hc
  have HX := hid hx
  have g := S.b
  clear S hc hx
  by_cases h5 : 5 < xs.length
  · rw [if_pos h5] at HP
    have h5b : decide (5 < (xs.length : Int)) = true := by simp; omega
    go_enter Tryz.func42, Tryz.ntmps42
    go_wp2_with fail
    clear g
    go_loopw [3, 12] (fun bad i wr => ∃ k : Nat, k ≤ xs.length ∧ i = .int .i64 k ∧ bad = errV aT aB (preTo 2 (bl (xs.take k))) ∧ Below w.heap.size w wr) (fun _ i _ => xs.length - (intOf i).toNat)
    case atStart => exact ⟨0, Nat.zero_le _, rfl, rfl, Below.refl _ _⟩
    case round =>
      obtain ⟨k, hk, rfl, rfl, hb⟩ := hrel
      have HB := hid hb
      clear hb
      by_cases hlt : k < xs.length
      · have hcell : wr.cell? ⟨b, o + k, none⟩ = some (.string xs[k]) := cell_below HB.out (HC.out k hlt)
        have HSN := hid (preTo_snoc 2 (bl (xs.take k)) xs[k].data.toList)
        rw [← bl_take_snoc xs k hlt] at HSN
        have HE := hid (preTo_err 2 (bl (xs.take k)) (by simp))
        have HXK := hid (HX.out xs[k] (List.getElem_mem hlt))
        generalize hq : preTo 2 (bl (xs.take k)) = q at *
        clear hq
        go_wp2_with fail
        refine (part_any xs[k] aT aB m wr HXK.out (HS.out.below HB.out)).mono ?_
        rintro e w1 ⟨rfl, hb1⟩
        have HB1 := hid (HB.out.trans (hb1.mono HB.out.size))
        clear hb1
        have HPE := hid (part_err xs[k].data.toList)
        go_wp2_with fail
        refine (worse_any q _ aT aB m w1 (HS.out.below HB1.out) HE.out HPE.out).mono ?_
        rintro e w' ⟨rfl, rfl⟩
        rw [← HSN.out]
        go_wp2_with fail
        go_roundw
        case rel => exact ⟨k + 1, by omega, by go_num, rfl, HB1.out⟩
        case measure => simp [intOf]; omega
      · have hkk : xs.take k = xs := List.take_of_length_le (by omega)
        rw [hkk, ← HP.out]
        clear hkk
        go_wp2_with fail
        go_ret
        exact ⟨rfl, HB.out⟩
  · rw [if_neg h5] at HP
    have h5b : decide (5 < (xs.length : Int)) = false := by simp; omega
    go_enter Tryz.func42, Tryz.ntmps42
    go_wp2_with fail
    clear g
    go_loopw [3, 12] (fun bad i wr => ∃ k : Nat, k ≤ xs.length ∧ i = .int .i64 k ∧ bad = errV aT aB (preTo 0 (bl (xs.take k))) ∧ Below w.heap.size w wr) (fun _ i _ => xs.length - (intOf i).toNat)
    case atStart => exact ⟨0, Nat.zero_le _, rfl, rfl, Below.refl _ _⟩
    case round =>
      obtain ⟨k, hk, rfl, rfl, hb⟩ := hrel
      have HB := hid hb
      clear hb
      by_cases hlt : k < xs.length
      · have hcell : wr.cell? ⟨b, o + k, none⟩ = some (.string xs[k]) := cell_below HB.out (HC.out k hlt)
        have HSN := hid (preTo_snoc 0 (bl (xs.take k)) xs[k].data.toList)
        rw [← bl_take_snoc xs k hlt] at HSN
        have HE := hid (preTo_err 0 (bl (xs.take k)) (by simp))
        have HXK := hid (HX.out xs[k] (List.getElem_mem hlt))
        generalize hq : preTo 0 (bl (xs.take k)) = q at *
        clear hq
        go_wp2_with fail
        refine (part_any xs[k] aT aB m wr HXK.out (HS.out.below HB.out)).mono ?_
        rintro e w1 ⟨rfl, hb1⟩
        have HB1 := hid (HB.out.trans (hb1.mono HB.out.size))
        clear hb1
        have HPE := hid (part_err xs[k].data.toList)
        go_wp2_with fail
        refine (worse_any q _ aT aB m w1 (HS.out.below HB1.out) HE.out HPE.out).mono ?_
        rintro e w' ⟨rfl, rfl⟩
        rw [← HSN.out]
        go_wp2_with fail
        go_roundw
        case rel => exact ⟨k + 1, by omega, by go_num, rfl, HB1.out⟩
        case measure => simp [intOf]; omega
      · have hkk : xs.take k = xs := List.take_of_length_le (by omega)
        rw [hkk, ← HP.out]
        clear hkk
        go_wp2_with fail
        go_ret
        exact ⟨rfl, HB.out⟩
end Ve
end Go.Proofs.YtmgpapghdbopiaaGreatDoor
