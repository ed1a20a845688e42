/-
  IdA GtA PkR
-/
import Derived.Test.YtnkgjddkdikikaaGreatDoorPq2
import Derived.Test.YtnkgjddkdikikaaGreatDoorPq26
import Derived.Test.YtnkgjddkdikikaaGreatDoorPq48
import Derived.Test.YtnkgjddkdikikaaGreatDoorPq14
import Derived.Test.YtnkgjddkdikikaaGreatDoorPq4
import Derived.Test.YtnkgjddkdikikaaGreatDoorPq10
import Derived.Test.YtnkgjddkdikikaaGreatDoorPq27
import Derived.Test.YtnkgjddkdikikaaGreatDoorPq29
import Derived.Test.YtnkgjddkdikikaaGreatDoorPq31
import Derived.Test.YtnkgjddkdikikaaGreatDoorPq5
import Derived.Test.YtnkgjddkdikikaaGreatDoorPq32
import Derived.Test.YtnkgjddkdikikaaGreatDoorPq12
import Derived.Test.YtnkgjddkdikikaaGreatDoorPq49
import Derived.Test.YtnkgjddkdikikaaGreatDoorPq24
import Derived.Test.YtnkgjddkdikikaaGreatDoorPq84
namespace Go.Proofs.YtnkgjddkdikikaaGreatDoor
open Go.RowKit
namespace Ve
theorem ix_lt1 {i n : Nat} (h : i + 1 < n) : (i : Int) + 1 < (n : Int) := by omega
end Ve
end Go.Proofs.YtnkgjddkdikikaaGreatDoor
namespace Go.Proofs.YtnkgjddkdikikaaGreatDoor
namespace Ve
theorem Fr.dst {req : Bm → List Bm} {U roots : List Bm} {n i : Nat} {F : List Nat} (h : Fr req U roots n i F) (hn : U.length ≤ n) (hU : ∀ m, Rch req roots m → m ∈ U) {j : Nat} (hj : j < U.length) (hj' : j < F.length) (e : F[j] ≠ 0) : Dst req roots U[j] F[j] := by
  have hw := h.so j hj hj' e
  obtain ⟨d, hd⟩ := wn_dst _ hw
  have := (h.lo d j hj hj' (Nat.le_trans (hd.le hU) hn) hd.1).2
  have h2 := hd.2 _ hw
  rw [show F[j] = d by omega]
  exact hd
end Ve
end Go.Proofs.YtnkgjddkdikikaaGreatDoor
namespace Go.Proofs.YtnkgjddkdikikaaGreatDoor
open Go.RowKit
namespace Ve
theorem wh_in {w : World} {v : Value} {Q : List Raw} {L : List Ent} (I : Ixs w v Q L) (hc : (chk Q L).1 = 0) (hz : shQ Q) {p t : ByteArray} (ht : t ∈ phX Q) : (t, latV Q t) ∈ whX Q L p ↔ p ∈ pkOf Q L (t, latV Q t) := by
  unfold whX
  rw [if_pos hc, whD_mem]
  obtain ⟨r, hr, e⟩ := phX_mem.1 ht
  have h1 := (hz r hr).1
  have h2 := path_pos ((good_of I hc).path r hr)
  rw [len_eq] at h2
  rw [e] at h1 h2
  constructor
  · rintro ⟨_, _, h3, _⟩; exact inB_iff.1 h3
  · intro h3; exact ⟨ht, ⟨h2, by show t.size ≤ 100; omega⟩, inB_iff.2 h3, rfl⟩
theorem wh_lat {Q : List Raw} {L : List Ent} {p : ByteArray} {m : Bm} (h : m ∈ whX Q L p) : m.2 = latV Q m.1 ∧ m.1 ∈ phX Q := by
  unfold whX at h
  split at h
  · have := whD_mem.1 h
    exact ⟨this.2.2.2, this.1⟩
  · cases h
theorem wh_down {Q : List Raw} {L : List Ent} {p : ByteArray} {i : Nat} (h : i + 1 < (whX Q L p).length) : ((whX Q L p)[i + 1]).1.size ≤ ((whX Q L p)[i]'(by omega)).1.size := by
  have hp : (whX Q L p).Pairwise fun a b => b.1.size ≤ a.1.size := by
    unfold whX
    split
    · exact whD_down _
    · exact List.Pairwise.nil
  exact List.pairwise_iff_getElem.1 hp i (i + 1) (by omega) h (by omega)
end Ve
end Go.Proofs.YtnkgjddkdikikaaGreatDoor
