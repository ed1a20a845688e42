/-
  FileP ModQ ModW
-/
import Derived.Test.YtiebgeamfblbdaaGreatDoorFb17
import Derived.Test.YtiebgeamfblbdaaGreatDoorFb20
import Derived.Laws.StructEq
namespace Go.Proofs.YtiebgeamfblbdaaGreatDoor
open Go.RowKit
namespace Ve
def mErr (m : Bm) : Nat := modErr m.1.data.toList m.2.data.toList
def mAhead (a b : Bm) : Bool := aheadB a.1.data.toList a.2.data.toList b.1.data.toList b.2.data.toList
def noLess (a b : ByteArray) : Bool := !decide (Lib.compareBytes a.data.toList b.data.toList < 0)
def reqW (own : ByteArray) (prev : Option Bm) (m : Bm) : Nat :=
  if mErr m = 0 then (if m.1 = own then 3 else match prev with
    | none => 0
    | some p => if noLess p.1 m.1 then 8 else 0) else mErr m
def exW (prev : Option Bm) (m : Bm) : Nat :=
  if mErr m = 0 then (match prev with
    | none => 0
    | some p => if mAhead p m then 0 else 8) else mErr m
def prevOf (l : List Bm) (i : Nat) : Option Bm := if i = 0 then none else l[i - 1]?
def reqE (own : ByteArray) (l : List Bm) (i : Nat) : Nat := match l[i]? with
  | none => 0
  | some m => reqW own (prevOf l i) m
def exE (l : List Bm) (i : Nat) : Nat := match l[i]? with
  | none => 0
  | some m => exW (prevOf l i) m
def hasB (x : List Bm) (m : Bm) : Bool := x.any fun y => decide (m.1 = y.1 ∧ m.2 = y.2)
theorem hasB_iff {x : List Bm} {m : Bm} : hasB x m = true ↔ m ∈ x := by
  unfold hasB
  rw [List.any_eq_true]
  constructor
  · rintro ⟨y, hy, h⟩
    have h := of_decide_eq_true h
    have : m = y := by cases m; cases y; simp only at h; rw [h.1, h.2]
    rw [this]; exact hy
  · intro h
    exact ⟨m, h, decide_eq_true ⟨rfl, rfl⟩⟩
theorem hasB_not {x : List Bm} {m : Bm} (h : m ∉ x) : hasB x m = false := by
  cases e : hasB x m
  · rfl
  · exact absurd (hasB_iff.1 e) h
def clE (x l : List Bm) (i : Nat) : Nat := match l[i]? with
  | none => 0
  | some m => if hasB x m then 9 else 0
def fstE (E : Nat → Nat) : Nat → Option Nat
  | 0 => none
  | n + 1 => match fstE E n with
    | some i => some i
    | none => if E n = 0 then none else some n
theorem fstE_none {E : Nat → Nat} : ∀ {n : Nat}, (∀ j, j < n → E j = 0) → fstE E n = none
  | 0, _ => rfl
  | n + 1, h => by
    unfold fstE
    rw [fstE_none (n := n) (fun j hj => h j (by omega)), if_pos (h n (by omega))]
theorem fstE_some {E : Nat → Nat} {i : Nat} (h0 : ∀ j, j < i → E j = 0) (hi : E i ≠ 0) : ∀ {n : Nat}, i < n → fstE E n = some i
  | 0, h => by omega
  | n + 1, h => by
    unfold fstE
    rcases Nat.lt_or_ge i n with hh | hh
    · rw [fstE_some h0 hi hh]
    · have : i = n := by omega
      subst this
      rw [fstE_none h0]
      simp only
      rw [if_neg hi]
theorem fstE_of_none {E : Nat → Nat} : ∀ {n : Nat}, fstE E n = none → ∀ j, j < n → E j = 0
  | 0, _, j, hj => by omega
  | n + 1, h, j, hj => by
    unfold fstE at h
    cases h1 : fstE E n with
    | some i => rw [h1] at h; cases h
    | none =>
      rw [h1] at h
      simp only at h
      by_cases h2 : E n = 0
      · rcases Nat.lt_or_ge j n with hh | hh
        · exact fstE_of_none h1 j hh
        · have : j = n := by omega
          rw [this]; exact h2
      · rw [if_neg h2] at h; cases h
theorem fstE_of_some {E : Nat → Nat} {i : Nat} : ∀ {n : Nat}, fstE E n = some i → i < n ∧ E i ≠ 0 ∧ ∀ j, j < i → E j = 0
  | 0, h => by cases h
  | n + 1, h => by
    unfold fstE at h
    cases h1 : fstE E n with
    | some k =>
      rw [h1] at h
      obtain ⟨a, b, c⟩ := fstE_of_some h1
      simp only [Option.some.injEq] at h
      subst h
      exact ⟨by omega, b, c⟩
    | none =>
      rw [h1] at h
      simp only at h
      by_cases h2 : E n = 0
      · rw [if_pos h2] at h; cases h
      · rw [if_neg h2] at h
        simp only [Option.some.injEq] at h
        subst h
        exact ⟨by omega, h2, fstE_of_none h1⟩
def fileF (p : ByteArray) (R X : List Bm) : Nat × Option Nat :=
  if pathErr p.data.toList = 0 then
    (if 20 < R.length ∨ 20 < X.length then (7, none)
     else match fstE (reqE p R) R.length with
      | some i => (reqE p R i, some i)
      | none => match fstE (exE X) X.length with
        | some i => (exE X i, some i)
        | none => match fstE (clE X R) R.length with
          | some i => (9, some i)
          | none => (0, none))
  else (pathErr p.data.toList, none)
def MsAt (w : World) (v : Value) (L : List Bm) : Prop :=
  ∃ (a : Option Addr) (c : Nat), v = .slice a L.length c ∧ L.length ≤ c ∧ (L ≠ [] → ∃ b o, a = some ⟨b, o, none⟩ ∧ ∀ j (h : j < L.length), w.cell? ⟨b, o + j * 2, none⟩ = some (.string L[j].1) ∧ w.cell? ⟨b, o + j * 2 + 1, none⟩ = some (.string L[j].2))
theorem MsAt.below {w w' : World} {v : Value} {L : List Bm} (h : MsAt w v L) (hb : Below w.heap.size w w') : MsAt w' v L := by
  obtain ⟨a, c, e, hc, h⟩ := h
  refine ⟨a, c, e, hc, fun hL => ?_⟩
  obtain ⟨b, o, e2, h2⟩ := h hL
  exact ⟨b, o, e2, fun j hj => ⟨cell_below hb (h2 j hj).1, cell_below hb (h2 j hj).2⟩⟩
end Ve
end Go.Proofs.YtiebgeamfblbdaaGreatDoor
namespace Go.Proofs.YtiebgeamfblbdaaGreatDoor
open Go.RowKit
namespace Ve
theorem modSame (p v q u : ByteArray) (w : World) : (Op.equalIn 10000 26 (.agg #[.string p, .string v]) (.agg #[.string q, .string u])).run Tryz.prog w = .ok (decide (p = q ∧ v = u)) w := by
  have u3 := Tryz.underlying9
  have a3 := Tryz.isAgg9
  have z3 := Tryz.sizeOf9
  have hS : Tryz.prog.underlying 26 = some (.struct (Tryz.prog.fieldsOf 26)) := by kernel_rfl
  have hp : Tryz.prog.stoodInHeld 26 = false := by kernel_rfl
  rw [show (10000 : Nat) = 9999 + 1 from rfl, run_equalIn_agg w 9999 26 _ _ hS hp]
  simp only [Program.fieldsOf, Tryz.underlying26]
  by_cases h1 : p = q
  · subst h1
    by_cases h2 : v = u
    · subst h2
      have e1 := str_refl p
      have e2 := str_refl v
      go_simp
    · have e1 := str_refl p
      have e2 := str_ne h2
      go_simp
  · have e1 := str_ne h1
    go_simp
theorem modEql (p v q u : ByteArray) (w : World) : (binOp .eql 26 (.agg #[.string p, .string v]) (.agg #[.string q, .string u])).run Tryz.prog w = .ok (.bool (decide (p = q ∧ v = u))) w := by
  rw [run_eql_struct, modSame]; rfl
theorem modNeq (p v q u : ByteArray) (w : World) : (binOp .neq 26 (.agg #[.string p, .string v]) (.agg #[.string q, .string u])).run Tryz.prog w = .ok (.bool (!decide (p = q ∧ v = u))) w := by
  rw [run_neq_struct, modSame]; rfl
theorem modGuard : Tryz.prog.eqGuardType Tryz.prog.depth 26 = false := by kernel_rfl
end Ve
end Go.Proofs.YtiebgeamfblbdaaGreatDoor
namespace Go.Proofs.YtiebgeamfblbdaaGreatDoor
namespace Ve
theorem mem_cut (c x : UInt8) : ∀ l : List UInt8, x ∈ l → x = c ∨ ∃ p, p ∈ cutAt c l ∧ x ∈ p
  | [], h => by cases h
  | b :: l, h => by
    obtain ⟨y, r, e⟩ : ∃ y r, cutAt c l = y :: r := by
      cases e : cutAt c l with
      | nil => exact absurd e (cutAt_ne c l)
      | cons y r => exact ⟨y, r, rfl⟩
    unfold cutAt
    by_cases hb : b = c
    · rw [if_pos hb]
      rcases List.mem_cons.1 h with h | h
      · exact Or.inl (h.trans hb)
      · rcases mem_cut c x l h with h | ⟨p, hp, hx⟩
        · exact Or.inl h
        · exact Or.inr ⟨p, List.mem_cons_of_mem _ hp, hx⟩
    · rw [if_neg hb, e]
      rcases List.mem_cons.1 h with h | h
      · exact Or.inr ⟨b :: y, by simp [ahead], by simp [h]⟩
      · rcases mem_cut c x l h with h | ⟨p, hp, hx⟩
        · exact Or.inl h
        · rw [e] at hp
          rcases List.mem_cons.1 hp with hp | hp
          · exact Or.inr ⟨b :: y, by simp [ahead], by rw [← hp]; exact List.mem_cons_of_mem _ hx⟩
          · exact Or.inr ⟨p, by simp [ahead, hp], hx⟩
theorem mem_one {c x : UInt8} {l : List UInt8} (h : x ∈ l) : x = c ∨ x ∈ (one c l).1 ∨ ((one c l).2.2 = true ∧ x ∈ (one c l).2.1) := by
  cases e : (one c l).2.2
  · rw [one_none e]; exact Or.inr (Or.inl h)
  · have h2 := h
    rw [one_back e] at h2
    rcases List.mem_append.1 h2 with h3 | h3
    · exact Or.inr (Or.inl h3)
    · rcases List.mem_cons.1 h3 with h4 | h4
      · exact Or.inl h4
      · exact Or.inr (Or.inr ⟨rfl, h4⟩)
theorem path_no {l : List UInt8} {c : UInt8} (h : pathErr l = 0) (hc : el c = false) (h47 : c ≠ 47) : c ∉ l := by
  intro hx
  have hb : badE l = false := by
    cases e : badE l
    · rfl
    · unfold pathErr at h; rw [e] at h; simp at h
  rcases mem_cut 47 c l hx with h | ⟨p, hp, hx⟩
  · exact h47 h
  · have h1 := List.any_eq_false.1 hb p hp
    have ok : elemOk p = true := by simpa using h1
    unfold elemOk at ok
    simp only [Bool.and_eq_true] at ok
    have h2 := List.all_eq_true.1 ok.2.2 c hx
    rw [hc] at h2; cases h2
theorem ver_whole {l : List UInt8} (h : verErr l = 0) : marked l = true ∧ numsErr (coreOf l) = 0 ∧ pre (preOf l) = 0 := by
  unfold verErr at h
  by_cases hc : marked l = false ∨ (coreOf l).length ≠ 3
  · rw [if_pos hc] at h; omega
  rw [if_neg hc] at h
  have hm : marked l = true := by
    cases e : marked l
    · exact absurd (Or.inl e) hc
    · rfl
  refine ⟨hm, ?_⟩
  cases e : hasPre l
  · rw [e] at h
    exact ⟨h, by unfold preOf; rw [e]; rfl⟩
  · rw [e] at h
    have h' : worse (numsErr (coreOf l)) (pre (preOf l)) = 0 := h
    unfold worse at h'
    by_cases q : numsErr (coreOf l) = 1 ∨ pre (preOf l) = 0
    · rw [if_pos q] at h'
      refine ⟨h', ?_⟩
      rcases q with q | q
      · omega
      · exact q
    · rw [if_neg q] at h'; exact absurd (Or.inr h') q
theorem ver_no {l : List UInt8} {c : UInt8} (h : verErr l = 0) (hp : par c = false) (hd : dig c = false) (h1 : c ≠ 118) (h2 : c ≠ 46) (h3 : c ≠ 45) : c ∉ l := by
  intro hx
  obtain ⟨hm, hn, hpr⟩ := ver_whole h
  have hr : c ∈ restOf l := by
    rw [rest_drop hm]
    cases l with
    | nil => cases hx
    | cons b r =>
      have hb : b = 118 := by simpa [marked] using hm
      rcases List.mem_cons.1 hx with e | e
      · exact absurd (e.trans hb) h1
      · simpa using e
  rcases mem_one (c := 45) hr with e | e | ⟨e0, e⟩
  · exact h3 e
  · rcases mem_cut 46 c _ e with e | ⟨p, hp1, hx1⟩
    · exact h2 e
    · have h4 := (num0 (ncode0 hn p hp1)).2.2.2
      have h5 := List.all_eq_true.1 h4 c hx1
      rw [hd] at h5; cases h5
  · rcases mem_cut 46 c _ e with e | ⟨p, hp1, hx1⟩
    · exact h2 e
    · have hpo : preOf l = cutAt 46 (one 45 (restOf l)).2.1 := by unfold preOf; rw [if_pos (show hasPre l = true from e0)]
      rw [← hpo] at hp1
      have h4 := pre_parts hpr p hp1
      unfold part at h4
      split at h4
      · cases h4
      · rename_i hn1
        have h6 : allPar p = true := by
          cases e : allPar p
          · exact absurd (Or.inr (Or.inr e)) hn1
          · rfl
        have h5 := List.all_eq_true.1 h6 c hx1
        rw [hp] at h5; cases h5
theorem mod_right {p v : List UInt8} (h : modErr p v = 0) : pathErr p = 0 ∧ verErr v = 0 := by
  unfold modErr at h
  by_cases h0 : pathErr p = 0
  · rw [if_pos h0] at h
    by_cases h1 : verErr v = 0
    · exact ⟨h0, h1⟩
    · rw [if_neg h1] at h; exact absurd h h1
  · rw [if_neg h0] at h; exact absurd h h0
end Ve
end Go.Proofs.YtiebgeamfblbdaaGreatDoor
