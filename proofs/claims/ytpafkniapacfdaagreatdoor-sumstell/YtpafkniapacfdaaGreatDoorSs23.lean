
import Derived.Test.YtpafkniapacfdaaGreatDoorSs20
import Derived.Test.YtpafkniapacfdaaGreatDoorSs17
import Derived.Deep.RegionHeld
import Derived.Laws.AppendOwnNone
import Derived.Test.YtpafkniapacfdaaGreatDoorSs9
import Derived.Test.YtpafkniapacfdaaGreatDoorSs21
import Derived.OwnWalk
import Derived.Deep.AppendLies
namespace Go.Proofs.YtpafkniapacfdaaGreatDoor
open Go.RowKit
namespace Ve
end Ve
end Go.Proofs.YtpafkniapacfdaaGreatDoor


namespace Go.Proofs.YtpafkniapacfdaaGreatDoor
open Go.RowKit
namespace Ve
end Ve
end Go.Proofs.YtpafkniapacfdaaGreatDoor


namespace Go.Proofs.YtpafkniapacfdaaGreatDoor
open Go.RowKit
namespace Ve
abbrev Ent := Bm × List Bm × List ByteArray × Bool
structure RawOk (w : World) (r : Raw) (e : Ent) : Prop where
  m : r.1 = e.1
  rq : MsAt w r.2.1 e.2.1
  pk : TxAt w r.2.2.1 e.2.2.1
  bk : r.2.2.2 = e.2.2.2
theorem RawOk.below {w w' : World} {r : Raw} {e : Ent} (h : RawOk w r e) (hb : Below w.heap.size w w') : RawOk w' r e := ⟨h.m, h.rq.below hb, h.pk.below hb, h.bk⟩
structure Ixs (w : World) (v : Value) (Q : List Raw) (L : List Ent) : Prop where
  es : EsAt w v Q
  ln : Q.length = L.length
  ok : ∀ j (h : j < Q.length) (h' : j < L.length), RawOk w Q[j] L[j]
theorem Ixs.below {w w' : World} {v : Value} {Q : List Raw} {L : List Ent} (h : Ixs w v Q L) (hb : Below w.heap.size w w') : Ixs w' v Q L := ⟨h.es.below hb, h.ln, fun j h1 h2 => (h.ok j h1 h2).below hb⟩
def okP (X : List ByteArray) : Bool := X.all fun x => decide (x.size ≤ 70)
def okE (e : Ent) : Bool := decide (e.1.1.size ≤ 70) && decide (e.1.2.size ≤ 60) && okL e.2.1 && decide (e.2.2.1.length ≤ 15) && okP e.2.2.1
def okN (n : Nat) : Bool := decide (n ≤ 30) || decide (n = 101)
def okI (L : List Ent) : Bool := okN L.length && L.all okE
def pfxE (L : List Ent) (k : Nat) : Bool := (L.take k).all okE
theorem okE_next {L : List Ent} {k : Nat} (hk : k < L.length) (h : pfxE L k = true) (hm : okE L[k] = true) : pfxE L (k + 1) = true := by
  unfold pfxE at h ⊢
  rw [List.take_succ_eq_append_getElem hk, List.all_append, h]
  simp [hm]
theorem okE_not {L : List Ent} {k : Nat} (hk : k < L.length) (hm : okE L[k] = false) : L.all okE = false := by
  cases e : L.all okE
  · rfl
  · have := List.all_eq_true.1 e L[k] (List.getElem_mem hk)
    rw [hm] at this; cases this
theorem okP_next {X : List ByteArray} {k : Nat} (hk : k < X.length) (h : okP (X.take k) = true) (hm : X[k].size ≤ 70) : okP (X.take (k + 1)) = true := by
  unfold okP at h ⊢
  rw [List.take_succ_eq_append_getElem hk, List.all_append, h]
  simp [hm]
theorem okP_not {X : List ByteArray} {k : Nat} (hk : k < X.length) (hm : ¬ X[k].size ≤ 70) : okP X = false := by
  cases e : okP X
  · rfl
  · have := List.all_eq_true.1 e X[k] (List.getElem_mem hk)
    exact absurd (of_decide_eq_true this) hm
theorem okN_yes {n : Nat} (h : okN n = true) : ¬ (30 : Int) < (n : Int) ∨ ((30 : Int) < (n : Int) ∧ ((n : Int) != 101) = false) := by
  unfold okN at h
  rw [Bool.or_eq_true] at h
  rcases h with h | h
  · left; have := of_decide_eq_true h; omega
  · right
    have := of_decide_eq_true h
    exact ⟨by omega, by rw [bne, beq_iff_eq.2 (show (n : Int) = 101 by omega)]; rfl⟩
end Ve
end Go.Proofs.YtpafkniapacfdaaGreatDoor


namespace Go.Proofs.YtpafkniapacfdaaGreatDoor
open Go.RowKit
namespace Ve
theorem infoEnt : (Tryz.prog.info? 55).map (fun i => (i.zero, i.size, i.bytes)) = some (some (.agg #[.string ⟨#[]⟩, .string ⟨#[]⟩, .slice none 0 0, .slice none 0 0, .bool false]), 5, 88) := by kernel_rfl
def rowR (r : Raw) : List Value := [.string r.1.1, .string r.1.2, r.2.1, r.2.2.1, .bool r.2.2.2]
def flatR (L : List Raw) : List Value := L.flatMap rowR
theorem flatR_app (D E : List Raw) : flatR (D ++ E) = flatR D ++ flatR E := by simp [flatR]
theorem flatR_get : ∀ (D : List Raw) (j c : Nat) (hj : j < D.length) (_ : c < 5), (flatR D)[j * 5 + c]? = (rowR D[j])[c]?
  | [], _, _, hj, _ => absurd hj (Nat.not_lt_zero _)
  | r :: R, 0, c, _, hc => by
    have : flatR (r :: R) = rowR r ++ flatR R := rfl
    rw [this, List.getElem?_append_left (by show 0 * 5 + c < 5; omega)]
    simp
  | r :: R, j + 1, c, hj, hc => by
    have : flatR (r :: R) = rowR r ++ flatR R := rfl
    rw [this, List.getElem?_append_right (by show 5 ≤ (j + 1) * 5 + c; omega), show (j + 1) * 5 + c - (rowR r).length = j * 5 + c by show (j + 1) * 5 + c - 5 = _; omega]
    exact flatR_get R j c (by simpa using hj) hc
theorem own_es {w : World} {base : Nat} {e : TypeId} {v : Value} {L : List Raw} (hs : ∀ r, r ∈ L → slR r) (h : w.ownsRow base e 5 v L.length (flatR L)) : EsAt w v L := by
  obtain ⟨_, ⟨hv, hn0⟩ | ⟨g, cap, cur, hv, hg, hblk, hcap, hcm, hcs, hct⟩⟩ := h
  · exact ⟨none, 0, by rw [hv, hn0], by omega, hs, fun hL => absurd (List.length_eq_zero_iff.1 hn0) hL⟩
  · refine ⟨_, cap, hv, hcap, hs, fun _ => ⟨g, 0, rfl, fun j hj => ?_⟩⟩
    have go : ∀ c, c < 5 → w.cell? ⟨g, 0 + j * 5 + c, none⟩ = (rowR L[j])[c]? := fun c hc => by
      have h1 := flatR_get L j c hj hc
      rw [← hct, List.getElem?_take, if_pos (by omega)] at h1
      simp only [World.cell?, hblk]
      rw [← h1]; simp
    exact ⟨by have := go 0 (by omega); simpa [rowR] using this, by have := go 1 (by omega); simpa [rowR] using this, by have := go 2 (by omega); simpa [rowR] using this, by have := go 3 (by omega); simpa [rowR] using this, by have := go 4 (by omega); simpa [rowR] using this⟩
theorem own_nextR {W : World} {B : Nat} {e : TypeId} {v : Value} {L L' : List Raw} {x : Raw} (h : W.ownsRow B e 5 v (L.length + 1) (flatR L ++ rowR x)) (hl : L' = L ++ [x]) : W.ownsRow B e 5 v L'.length (flatR L') := by
  subst hl
  rw [List.length_append, flatR_app]
  have : flatR [x] = rowR x := by simp [flatR]
  rw [this]; exact h
end Ve
end Go.Proofs.YtpafkniapacfdaaGreatDoor
