/-
  DnP
-/
import Derived.Test.YtlcffhadobhfkaaGreatDoorMq9
import Derived.Test.YtlcffhadobhfkaaGreatDoorMq2
import Derived.Test.YtlcffhadobhfkaaGreatDoorMq20
import Derived.Test.YtlcffhadobhfkaaGreatDoorMq6
import Derived.Test.YtlcffhadobhfkaaGreatDoorMq22
import Derived.Test.YtlcffhadobhfkaaGreatDoorMq39
import Derived.Test.YtlcffhadobhfkaaGreatDoorMq45
import Derived.Test.YtlcffhadobhfkaaGreatDoorMq48
import Derived.Test.YtlcffhadobhfkaaGreatDoorMq38
namespace Go.Proofs.YtlcffhadobhfkaaGreatDoor
open Go.RowKit
namespace Ve
theorem rch_of {req : Bm -> List Bm} {roots : List Bm} {k : Bm} (h : Rch req roots k) : ∃ r,r ∈ roots /\ Rch req [r] k:=by
  induction h with
  | root hr=>exact ⟨_,hr,.root (by simp)⟩
  | step _ hr ih=>
    obtain ⟨r,h1,h2⟩:=ih
    exact ⟨r,h1,.step h2 hr⟩
theorem rch_in {req : Bm -> List Bm} {roots : List Bm} {r k : Bm} (hr : r ∈ roots) (h : Rch req [r] k) : Rch req roots k:=
  h.mono fun m hm=>by
    have : m = r:=by simpa using hm
    rw [this]; exact hr
theorem bd_self {req : Bm -> List Bm} {caps : List Bm} {m : Bm} (h : ¬ Bd req caps m) : capB caps m = false:=by
  cases hc : capB caps m with
  | false=>rfl
  | true=>exact absurd (bd_iff.2 (Or.inl hc)) h
theorem bd_reach {req : Bm -> List Bm} {caps : List Bm} {m k : Bm} (h : ¬ Bd req caps m) (hk : Rch req [m] k) : ¬ Bd req caps k:=fun ⟨x,h1,h2⟩=>h ⟨x,by
  clear h h2
  induction h1 with
  | root hr=>
    have:=List.mem_singleton.1 hr
    rw [this]; exact hk
  | step _ hr ih=>exact .step ih hr,h2⟩
theorem Tw.under {req : Bm -> List Bm} {caps U roots X : List Bm} (h : Tw (Bd req caps) U roots X) {k : Bm} (hk : Rch req X k) : capB caps k = false:=by
  obtain ⟨x,hx,h1⟩:=rch_of hk
  exact bd_self (bd_reach (h.good hx).2 h1)
end Ve
end Go.Proofs.YtlcffhadobhfkaaGreatDoor
