
import Derived.Test.YtemhofbhmnnijaaGreatDoorPj14
import Derived.Test.YtemhofbhmnnijaaGreatDoorPj28
import Derived.Test.YtemhofbhmnnijaaGreatDoorPj15
import Derived.Test.YtemhofbhmnnijaaGreatDoorPj30
namespace Go.Proofs.YtemhofbhmnnijaaGreatDoor
open Go.RowKit
namespace Ve
def sufOk (l : List UInt8) : Bool := decide ((num (restOf l)).2 = 0) && decide (2 ≤ (num (restOf l)).1)
theorem trimV_any (s : ByteArray) (w : World) : Calls Tryz.prog 82 #[.string s, .string ⟨#[118]⟩] w fun e w' => ∃ R : ByteArray, e = .returned (.string R) ∧ R.data.toList = restOf s.data.toList ∧ w' = w :=
  (Tryz.strings_TrimPrefix s ⟨#[118]⟩ w).mono fun e w' ⟨h1, h2⟩ => ⟨_, h1, by
    have e0 : (⟨#[118]⟩ : ByteArray).data.toList = [118] := rfl
    rw [e0, trimPrefix_v], h2⟩
set_option maxHeartbeats 1000000 in
theorem suffix_any (s : ByteArray) (A : Nat → Addr) (m : Int) (w : World) (hs : s.size < 4294967281) (S : Te w A m) :
    Calls Tryz.prog 61 #[.string s] w fun e w' => e = .returned (.tuple #[.int .i64 (if sufOk s.data.toList then (num (restOf s.data.toList)).1 else 0), if sufOk s.data.toList then .nilIface else .iface 127 (.pointer (some (A 3)))]) ∧ Below w.heap.size w w' := by
  have HO := hid (show sufOk s.data.toList = (decide ((num (restOf s.data.toList)).2 = 0) && decide (2 ≤ (num (restOf s.data.toList)).1)) from rfl)
  have HS := hid S
  have HT := hid (trimV_any s w)
  have HN := hid (fun (R : ByteArray) (h : R.data.toList = restOf s.data.toList) W (SW : Te W A m) => num_any R (A 0) (A 1) m W (by
      have h1 := size_of h
      have h2 := restOf_le s.data.toList
      simp at h2; unfold maxLen; omega) SW.vs)
  have HE := hid (num_err (restOf s.data.toList))
  clear S
  by_cases h1 : (num (restOf s.data.toList)).2 = 0
  · by_cases h2 : 2 ≤ (num (restOf s.data.toList)).1
    · have HK := hid (show sufOk s.data.toList = true by rw [HO.out, decide_eq_true h1, decide_eq_true h2]; rfl)
      have H1 := hid h1
      rw [HK.out]
      clear h1
      go_enter Tryz.func61, Tryz.ntmps61
      go_wp2_with fail
      refine HT.out.mono ?_
      rintro e w' ⟨R, rfl, hR, rfl⟩
      have HR := hid hR
      clear hR
      go_wp2_with fail
      refine (HN.out R HR.out _ HS.out).mono ?_
      rintro e w1 ⟨rfl, hb1⟩
      rw [HR.out, H1.out, errV0]
      have HB := hid hb1
      clear hb1
      generalize hn : (num (restOf s.data.toList)).1 = n at *
      have HNN := hid hn
      clear hn
      go_wp2_with fail
      go_ret2
      exact ⟨by rw [← HNN.out]; rfl, HB.out⟩
    · have HK := hid (show sufOk s.data.toList = false by rw [HO.out, decide_eq_false h2]; simp)
      have H1 := hid h1
      rw [HK.out]
      clear h1
      go_enter Tryz.func61, Tryz.ntmps61
      go_wp2_with fail
      refine HT.out.mono ?_
      rintro e w' ⟨R, rfl, hR, rfl⟩
      have HR := hid hR
      clear hR
      go_wp2_with fail
      refine (HN.out R HR.out _ HS.out).mono ?_
      rintro e w1 ⟨rfl, hb1⟩
      rw [HR.out, H1.out, errV0]
      have HB := hid hb1
      have g3 := (HS.out.below hb1).sen.g3
      clear hb1
      generalize (num (restOf s.data.toList)).1 = n at *
      go_wp2_with fail
      go_quiet (fail)
      go_wp2_with fail
      go_ret2
      exact ⟨rfl, HB.out.trans ((below_drawn _ _).mono HB.out.size)⟩
  · have HK := hid (show sufOk s.data.toList = false by rw [HO.out, decide_eq_false h1]; rfl)
    have H1 := hid h1
    rw [HK.out]
    clear h1
    go_enter Tryz.func61, Tryz.ntmps61
    go_wp2_with fail
    refine HT.out.mono ?_
    rintro e w' ⟨R, rfl, hR, rfl⟩
    have HR := hid hR
    clear hR
    go_wp2_with fail
    refine (HN.out R HR.out _ HS.out).mono ?_
    rintro e w1 ⟨rfl, hb1⟩
    rw [HR.out]
    have HB := hid hb1
    have g3 := (HS.out.below hb1).sen.g3
    clear hb1
    obtain ⟨a9, ha9⟩ : ∃ a, errV (A 0) (A 1) (num (restOf s.data.toList)).2 = .iface 127 (.pointer (some a)) := by
      rcases HE.out with h | h | h
      · exact absurd h H1.out
      · exact ⟨_, by rw [h]; rfl⟩
      · exact ⟨_, by rw [h]; rfl⟩
    rw [ha9]
    clear ha9
    generalize (num (restOf s.data.toList)).1 = n at *
    go_wp2_with fail
    go_quiet (fail)
    go_wp2_with fail
    go_ret2
    exact ⟨rfl, HB.out.trans ((below_drawn _ _).mono HB.out.size)⟩
end Ve
end Go.Proofs.YtemhofbhmnnijaaGreatDoor


namespace Go.Proofs.YtemhofbhmnnijaaGreatDoor
open Go.RowKit
namespace Ve
end Ve
end Go.Proofs.YtemhofbhmnnijaaGreatDoor
