
import Derived.Test.YtemhofbhmnnijaaGreatDoorPj40
import Derived.Test.YtemhofbhmnnijaaGreatDoorPj38
namespace Go.Proofs.YtemhofbhmnnijaaGreatDoor
open Go.RowKit
namespace Ve
end Ve
end Go.Proofs.YtemhofbhmnnijaaGreatDoor


namespace Go.Proofs.YtemhofbhmnnijaaGreatDoor
open Go.RowKit
namespace Ve
structure Ds (w : World) (A : Nat → Addr) : Prop where
  b0 : ∃ c t, w.heap[(A 0).block]? = some (.cells c t (0, 0))
  b1 : ∃ c t, w.heap[(A 1).block]? = some (.cells c t (0, 0))
  b3 : ∃ c t, w.heap[(A 3).block]? = some (.cells c t (0, 0))
  n0 : A 0 ≠ A 3
  n1 : A 1 ≠ A 3
theorem blk_stayD {w w' : World} {b : Nat} (hb : Below w.heap.size w w') (h : ∃ c t, w.heap[b]? = some (.cells c t (0, 0))) : ∃ c t, w'.heap[b]? = some (.cells c t (0, 0)) := by
  obtain ⟨c, t, e⟩ := h
  exact ⟨c, t, (hb.block _ (lt_of_blk e)).trans e⟩
theorem Ds.below {w w' : World} {A : Nat → Addr} (h : Ds w A) (hb : Below w.heap.size w w') : Ds w' A := ⟨blk_stayD hb h.b0, blk_stayD hb h.b1, blk_stayD hb h.b3, h.n0, h.n1⟩
def likeE (l : List UInt8) : Nat := if pathErr l = 4 then 0 else pathErr l
theorem mpath_l (s : ByteArray) (A : Nat → Addr) (m : Int) (w : World) (hs : s.size < 4294967281) (S : Te w A m) :
    Calls Tryz.prog 24 #[.string s] w fun e w' => e = .returned (errA A (pathErr s.data.toList)) ∧ Below w.heap.size w w' := by
  have HP := hid (readPath_any s A m w hs S)
  clear S
  go_enter Tryz.func24, Tryz.ntmps24
  go_wp2_with fail
  refine HP.out.mono ?_
  rintro e w1 ⟨⟨H, n, v, rfl, hv, _, _⟩, hb⟩
  have HV := hid hv
  have HB := hid hb
  clear hb hv
  go_wp2_with fail
  go_ret
  exact ⟨by rw [← HV.out]; rfl, HB.out⟩
set_option maxHeartbeats 1000000 in
theorem lkp_any (s : ByteArray) (A : Nat → Addr) (m : Int) (w : World) (hs : s.size < 4294967281) (S : Te w A m) (D : Ds w A) :
    Calls Tryz.prog 16 #[.string s] w fun e w' => e = .returned (errA A (likeE s.data.toList)) ∧ Below w.heap.size w w' := by
  have HP := hid (mpath_l s A m w hs S)
  have HG := hid (fun W (h : Below w.heap.size w W) => cell_below h S.sen.g3)
  obtain ⟨i9, hi9, hcmp9⟩ := Option.map_eq_some_iff.1 compS
  obtain ⟨j9, hj9, hjs9⟩ := Option.map_eq_some_iff.1 sizeS
  have HQ0 := hid (fun W => run_eql_iface_nil_left (P := Tryz.prog) W 127 (.pointer (some (A 3))) Tryz.underlying27)
  have HQ1 := hid (fun W => run_eql_iface_ptr_same (P := Tryz.prog) W (A 3) Tryz.underlying27 Tryz.underlying127 hi9 hcmp9 hj9)
  have HQ2 := hid (fun W (h : Below w.heap.size w W) => by
    obtain ⟨c1, t1, e1⟩ := (D.below h).b0
    obtain ⟨c2, t2, e2⟩ := (D.below h).b3
    exact run_eql_iface_ptr_other (P := Tryz.prog) W Tryz.underlying27 Tryz.underlying127 hi9 hcmp9 hj9 (by rw [hjs9]; decide) D.n0 e1 e2)
  have HQ3 := hid (fun W (h : Below w.heap.size w W) => by
    obtain ⟨c1, t1, e1⟩ := (D.below h).b1
    obtain ⟨c2, t2, e2⟩ := (D.below h).b3
    exact run_eql_iface_ptr_other (P := Tryz.prog) W Tryz.underlying27 Tryz.underlying127 hi9 hcmp9 hj9 (by rw [hjs9]; decide) D.n1 e1 e2)
  have HE := hid (show likeE s.data.toList = if pathErr s.data.toList = 4 then 0 else pathErr s.data.toList from rfl)
  have HPE := hid (pathErr_err s.data.toList)
  generalize likeE s.data.toList = pe at *
  clear S D hi9 hcmp9 hj9 hjs9
  go_enter Tryz.func16, Tryz.ntmps16
  rcases HPE.out with h | h | h | h
  · rw [h] at HP HE
    have HE2 := hid (show pe = 0 from HE.out)
    rw [errA0] at HP
    clear h HE HPE
    go_wp2_with fail
    refine HP.out.mono ?_
    rintro e w2 ⟨rfl, hb⟩
    have HB2 := hid hb
    have g3 := HG.out _ HB2.out
    have q0 := HQ0.out w2
    clear hb
    go_wp2_with fail
    go_ret
    exact ⟨by rw [HE2.out]; rfl, HB2.out⟩
  · rw [h] at HP HE
    have HE2 := hid (show pe = 1 from HE.out)
    rw [errA1] at HP
    clear h HE HPE
    go_wp2_with fail
    refine HP.out.mono ?_
    rintro e w2 ⟨rfl, hb⟩
    have HB2 := hid hb
    have g3 := HG.out _ HB2.out
    have q0 := HQ2.out w2 HB2.out
    clear hb
    go_wp2_with fail
    go_ret
    exact ⟨by rw [HE2.out]; rfl, HB2.out⟩
  · rw [h] at HP HE
    have HE2 := hid (show pe = 2 from HE.out)
    rw [errA2] at HP
    clear h HE HPE
    go_wp2_with fail
    refine HP.out.mono ?_
    rintro e w2 ⟨rfl, hb⟩
    have HB2 := hid hb
    have g3 := HG.out _ HB2.out
    have q0 := HQ3.out w2 HB2.out
    clear hb
    go_wp2_with fail
    go_ret
    exact ⟨by rw [HE2.out]; rfl, HB2.out⟩
  · rw [h] at HP HE
    have HE2 := hid (show pe = 0 from HE.out)
    rw [errA4] at HP
    clear h HE HPE
    go_wp2_with fail
    refine HP.out.mono ?_
    rintro e w2 ⟨rfl, hb⟩
    have HB2 := hid hb
    have g3 := HG.out _ HB2.out
    have q0 := HQ1.out w2
    clear hb
    go_wp2_with fail
    go_ret
    exact ⟨by rw [HE2.out]; rfl, HB2.out⟩
end Ve
end Go.Proofs.YtemhofbhmnnijaaGreatDoor
