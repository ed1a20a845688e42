/-
  QtB
-/
import Derived.Test.YtnkgjddkdikikaaGreatDoorPq4
import Derived.Test.YtnkgjddkdikikaaGreatDoorPq7
import Derived.Test.YtnkgjddkdikikaaGreatDoorPq13
import Derived.Test.YtnkgjddkdikikaaGreatDoorPq10
import Derived.Test.YtnkgjddkdikikaaGreatDoorPq23
import Derived.Test.YtnkgjddkdikikaaGreatDoorPq27
import Derived.Test.YtnkgjddkdikikaaGreatDoorPq29
import Derived.Test.YtnkgjddkdikikaaGreatDoorPq31
import Derived.Test.YtnkgjddkdikikaaGreatDoorPq32
import Derived.Test.YtnkgjddkdikikaaGreatDoorPq5
import Derived.Test.YtnkgjddkdikikaaGreatDoorPq12
import Derived.Test.YtnkgjddkdikikaaGreatDoorPq61
import Derived.Test.YtnkgjddkdikikaaGreatDoorPq62
import Derived.Test.YtnkgjddkdikikaaGreatDoorPq18
import Derived.Test.YtnkgjddkdikikaaGreatDoorPq66
namespace Go.Proofs.YtnkgjddkdikikaaGreatDoor
open Go.RowKit Go.Maps
namespace Ve
theorem pick_t {T : World → Prop} (PC : PickC T) {Q : List Raw} {L : List Ent} {t q now : ByteArray} {u : Value} {A : Nat → Addr} {m : Int} {W : World} {X : List ByteArray} {P : ByteArray → Bool} (hn : L.length ≤ 200) (sh : ∀ e, e ∈ L → ShE e) (hz : shortQ Q) (ht : t.size ≤ 100) (hq : q.size ≤ 100) (hw : now.size ≤ 100) (S : Te W A m) (hT : T W) (I : Ixs W u Q L)
    (hK : Kept (verL (ofP t Q)) (verL (ofP t Q)).length X) (hl : look Q L q) (hv : ∀ x, x ∈ X → verErr x.data.toList = 0) (hup : ¬ q = bUpgrade) (hP : ∀ x, x ∈ X → okQ q now x = P x) (ha : X.any P = true) :
    Calls Tryz.prog 33 #[u, .string t, .string q, .string now] W fun e w' => ∃ z, e = .returned (.tuple #[.string z, .nilIface]) ∧ z ∈ X ∧ P z = true ∧ Below W.heap.size W w' := by
  refine (PC Q L t q now u A m W hn sh hz ht hq hw S hT I).mono ?_
  rintro e w' ⟨X', y, hK', rfl, he, hb⟩
  have := kept_one (hK' hl) hK
  subst this
  rcases pk_look (t := t) (now := now) hl hv with ⟨h1, _, _⟩ | ⟨x, h1, h2, h3, h4⟩
  · obtain ⟨x, hx, h2⟩ := List.any_eq_true.1 ha
    have h3 := h1 x hx
    rw [hP x hx, h2] at h3
    cases h3
  · rw [h3] at he
    have he : y = .nilIface := he
    subst he
    rw [if_neg hup] at h4
    exact ⟨x, by rw [h4], h1, by rw [← hP x h1]; exact h2, hb⟩
theorem pick_f {T : World → Prop} (PC : PickC T) {Q : List Raw} {L : List Ent} {t q now : ByteArray} {u : Value} {A : Nat → Addr} {m : Int} {W : World} {X : List ByteArray} {P : ByteArray → Bool} (hn : L.length ≤ 200) (sh : ∀ e, e ∈ L → ShE e) (hz : shortQ Q) (ht : t.size ≤ 100) (hq : q.size ≤ 100) (hw : now.size ≤ 100) (S : Te W A m) (hT : T W) (I : Ixs W u Q L)
    (hK : Kept (verL (ofP t Q)) (verL (ofP t Q)).length X) (hl : look Q L q) (hv : ∀ x, x ∈ X → verErr x.data.toList = 0) (hP : ∀ x, x ∈ X → okQ q now x = P x) (ha : X.any P = false) :
    Calls Tryz.prog 33 #[u, .string t, .string q, .string now] W fun e w' => ∃ Ty a, e = .returned (.tuple #[.string ⟨#[]⟩, .iface Ty (.pointer (some a))]) ∧ Below W.heap.size W w' := by
  refine (PC Q L t q now u A m W hn sh hz ht hq hw S hT I).mono ?_
  rintro e w' ⟨X', y, hK', rfl, he, hb⟩
  have := kept_one (hK' hl) hK
  subst this
  rcases pk_look (t := t) (now := now) hl hv with ⟨_, h2, h3⟩ | ⟨x, h1, h2, _, _⟩
  · rw [h2] at he
    rcases he.kind with ⟨h, _⟩ | ⟨_, Ty, a, rfl⟩
    · cases h
    · exact ⟨Ty, a, by rw [h3]; rfl, hb⟩
  · have : X'.any P = true := List.any_eq_true.2 ⟨x, h1, by rw [← hP x h1]; exact h2⟩
    rw [ha] at this; cases this
def cntP (P : ByteArray → Bool) (X : List ByteArray) : Nat := (X.filter P).length
theorem cntP_yes {P : ByteArray → Bool} {X : List ByteArray} {i : Nat} (h : i < X.length) (hp : P X[i] = true) : cntP P (X.take (i + 1)) = cntP P (X.take i) + 1 := by
  unfold cntP
  rw [List.take_succ_eq_append_getElem h, List.filter_append, List.length_append]
  simp [hp]
theorem cntP_no {P : ByteArray → Bool} {X : List ByteArray} {i : Nat} (h : i < X.length) (hp : P X[i] = false) : cntP P (X.take (i + 1)) = cntP P (X.take i) := by
  unfold cntP
  rw [List.take_succ_eq_append_getElem h, List.filter_append, List.length_append]
  simp [hp]
theorem cntP_le (P : ByteArray → Bool) (X : List ByteArray) : cntP P X ≤ X.length := List.length_filter_le _ _
theorem cntP_any {P : ByteArray → Bool} {X : List ByteArray} (h : X.any P = true) : 0 < cntP P X := by
  obtain ⟨x, hx, hp⟩ := List.any_eq_true.1 h
  exact List.length_pos_of_mem (List.mem_filter.2 ⟨hx, hp⟩)
theorem cntP_none {P : ByteArray → Bool} {X : List ByteArray} (h : X.any P = false) : cntP P X = 0 := by
  unfold cntP
  rw [List.length_eq_zero_iff, List.filter_eq_nil_iff]
  intro x hx hp
  have := List.any_eq_true.2 ⟨x, hx, hp⟩
  rw [h] at this; cases this
theorem one_cnt {a : Nat} {p : Bool} (h1 : p = true → 0 < a) (h2 : p = false → a = 0) : (p = true → (0 : Int) < (a : Int)) ∧ (p = false → ¬ (0 : Int) < (a : Int)) :=
  ⟨fun h => by have := h1 h; omega, fun h => by have := h2 h; omega⟩
theorem sum_two {a b : Nat} {p q : Bool} (ha : a ≤ 30) (hb : b ≤ 30) (h1 : p = true → 0 < a) (h2 : p = false → a = 0) (h3 : q = true → 0 < b) (h4 : q = false → b = 0) : ∃ s : Int, wrap64 ((a : Int) + (b : Int)) = s ∧ IntKind.i64.wrap ((a : Int) + (b : Int)) = s ∧ ((p || q) = true → 0 < s) ∧ ((p || q) = false → ¬ 0 < s) := by
  refine ⟨(a : Int) + (b : Int), IntWalk.wrap64_in _ (by omega), by rw [IntKind.wrap_i64] <;> omega, fun h => ?_, fun h => ?_⟩
  · rcases Bool.or_eq_true_iff.1 h with h | h
    · have := h1 h; omega
    · have := h3 h; omega
  · rw [Bool.or_eq_false_iff] at h
    have := h2 h.1; have := h4 h.2; omega
def pLs (v x : ByteArray) : Bool := decide (ordV x.data.toList v.data.toList < 0)
def pMr (v x : ByteArray) : Bool := decide (0 < ordV x.data.toList v.data.toList)
def pSm (v x : ByteArray) : Bool := decide (ordV x.data.toList v.data.toList = 0)
theorem any_or (P R : ByteArray → Bool) (X : List ByteArray) : X.any (fun x => P x || R x) = (X.any P || X.any R) := by
  induction X with
  | nil => rfl
  | cons a l ih => simp only [List.any_cons, ih]; cases P a <;> cases R a <;> simp
theorem lt_v {v x : ByteArray} (hv : verErr v.data.toList = 0) (hx : verErr x.data.toList = 0) : lessB x.data.toList v.data.toList = pLs v x := by unfold lessB pLs; simp [hv, hx]
theorem gt_v {v x : ByteArray} (hv : verErr v.data.toList = 0) (hx : verErr x.data.toList = 0) : lessB v.data.toList x.data.toList = pMr v x := by
  unfold lessB pMr
  rw [decide_eq_true hv, decide_eq_true hx, Bool.true_and, Bool.true_and, ordV_swap x.data.toList v.data.toList]
  rw [Bool.eq_iff_iff, decide_eq_true_iff, decide_eq_true_iff]
  omega
theorem le_v {v x : ByteArray} (hv : verErr v.data.toList = 0) (hx : verErr x.data.toList = 0) : (!lessB v.data.toList x.data.toList) = (pLs v x || pSm v x) := by
  rw [gt_v hv hx]
  unfold pMr pLs pSm
  rw [Bool.eq_iff_iff, Bool.or_eq_true, decide_eq_true_iff, decide_eq_true_iff, Bool.not_eq_true', decide_eq_false_iff_not]
  omega
theorem ge_v {v x : ByteArray} (hv : verErr v.data.toList = 0) (hx : verErr x.data.toList = 0) : (!lessB x.data.toList v.data.toList) = (pMr v x || pSm v x) := by
  rw [lt_v hv hx]
  unfold pMr pLs pSm
  rw [Bool.eq_iff_iff, Bool.or_eq_true, decide_eq_true_iff, decide_eq_true_iff, Bool.not_eq_true', decide_eq_false_iff_not]
  omega
theorem eq_v {v x : ByteArray} (hv : verErr v.data.toList = 0) (hx : verErr x.data.toList = 0) : decide (x = v) = pSm v x := by
  unfold pSm
  rw [Bool.eq_iff_iff, decide_eq_true_iff, decide_eq_true_iff, ordV_zero hx hv]
  exact ⟨fun h => by rw [h], fun h => str_ext h⟩
end Ve
end Go.Proofs.YtnkgjddkdikikaaGreatDoor
