/-
  Plain lemmas: a text cut by one byte, as the library's words say it and as a recursion says it; the first such byte. No Go here.
-/
import Derived.Lib.Split
import Derived.Lib.SplitLaws
import Derived.Lib.CutLaws
import Derived.Lib.IndexMore
import Derived.Test.YtmgpapghdbopiaaDoorVerPlain
namespace Go.Proofs.YtmgpapghdbopiaaDoor
namespace Ve

/-- A byte ahead of the first of the pieces. -/
def ahead (b : UInt8) : List (List UInt8) → List (List UInt8)
  | [] => [[b]]
  | h :: t => (b :: h) :: t
/-- The pieces of a text between the bytes c. -/
def cutAt (c : UInt8) : List UInt8 → List (List UInt8)
  | [] => [[]]
  | b :: l => if b = c then [] :: cutAt c l else ahead b (cutAt c l)

theorem ahead_len (b : UInt8) (x : List (List UInt8)) (h : x ≠ []) : (ahead b x).length = x.length := by cases x <;> simp_all [ahead]
theorem cutAt_ne (c : UInt8) (l : List UInt8) : cutAt c l ≠ [] := by
  cases l with
  | nil => simp [cutAt]
  | cons b l =>
    unfold cutAt
    split
    · simp
    · cases cutAt c l <;> simp [ahead]

theorem index_cons_ne (b c : UInt8) (l : List UInt8) (h : b ≠ c) : Lib.index (b :: l) [c] = if Lib.index l [c] == -1 then -1 else Lib.index l [c] + 1 := by
  have : ([c] : List UInt8).isPrefixOf (b :: l) = false := by simp [List.isPrefixOf]; exact fun e => h e.symm
  rw [Lib.index, this]; rfl
theorem index_cons_eq (c : UInt8) (l : List UInt8) : Lib.index (c :: l) [c] = 0 := by
  have : ([c] : List UInt8).isPrefixOf (c :: l) = true := by simp [List.isPrefixOf]
  rw [Lib.index, this]; rfl

theorem splitK_ahead (b c : UInt8) (h : b ≠ c) (k : Nat) (l : List UInt8) : Lib.splitK [c] 0 k (b :: l) = ahead b (Lib.splitK [c] 0 k l) := by
  cases k with
  | zero => rfl
  | succ k =>
    have hge := Lib.index_ge l [c]
    unfold Lib.splitK
    rw [index_cons_ne b c l h]
    by_cases e : Lib.index l [c] = -1
    · rw [e]; rfl
    · obtain ⟨i, hi⟩ : ∃ i : Nat, Lib.index l [c] = i := ⟨(Lib.index l [c]).toNat, by omega⟩
      rw [hi]
      have e1 : ((i : Int) == -1) = false := by simp
      have e2 : ((i : Int) + 1 == -1) = false := by simp; omega
      have e3 : ((i : Int) + 1).toNat = i + 1 := by omega
      simp [e1, e2, e3, ahead]

theorem splitK_cutAt (c : UInt8) (l : List UInt8) : Lib.splitK [c] 0 (Lib.count l [c]) l = cutAt c l := by
  induction l with
  | nil => simp [Lib.count_one, Lib.splitK, cutAt]
  | cons b l ih =>
    by_cases h : b = c
    · subst h
      rw [Lib.count_cons_eq, Nat.add_comm]
      unfold Lib.splitK
      rw [index_cons_eq]
      simp only [cutAt, if_true]
      simpa using ih
    · rw [Lib.count_cons_ne b c l h, splitK_ahead b c h, ih]
      simp [cutAt, h]

/-- The library's pieces, as bytes. -/
theorem bl_split (c : UInt8) (s : ByteArray) : bl (Lib.splitB ⟨#[c]⟩ 0 (Lib.countB s ⟨#[c]⟩) s) = cutAt c s.data.toList := by
  unfold bl
  rw [Lib.splitB_data]
  exact splitK_cutAt c s.data.toList

/-- Ahead of the first c, behind it, and whether there is one. -/
def one (c : UInt8) (l : List UInt8) : List UInt8 × List UInt8 × Bool := (l.takeWhile (· != c), (l.dropWhile (· != c)).drop 1, l.contains c)
theorem cut_one (c : UInt8) (l : List UInt8) : Lib.cut l [c] = one c l := by
  induction l with
  | nil => simp [Lib.cut, Lib.index, one]
  | cons b l ih =>
    by_cases h : b = c
    · subst h
      unfold Lib.cut
      rw [index_cons_eq]
      simp [one]
    · have hge := Lib.index_ge l [c]
      unfold Lib.cut at ih ⊢
      rw [index_cons_ne b c l h]
      have hb : (b != c) = true := by simp [h]
      have hc : (b :: l).contains c = l.contains c := by simp; intro e; exact absurd e.symm h
      simp only [one, List.takeWhile_cons, List.dropWhile_cons, hb, if_true, hc] at ih ⊢
      by_cases e : Lib.index l [c] = -1
      · rw [e] at ih ⊢
        simp only [show ¬ (0 : Int) ≤ -1 by decide, if_false, Prod.mk.injEq] at ih
        simp only [beq_self_eq_true, if_true, show ¬ (0 : Int) ≤ -1 by decide, if_false, Prod.mk.injEq]
        exact ⟨by rw [← ih.1], ih.2.1, ih.2.2⟩
      · obtain ⟨i, hi⟩ : ∃ i : Nat, Lib.index l [c] = i := ⟨(Lib.index l [c]).toNat, by omega⟩
        rw [hi] at ih ⊢
        have e1 : ((i : Int) == -1) = false := by simp
        have e3 : ((i : Int) + 1).toNat = i + 1 := by omega
        rw [if_pos (by omega)] at ih
        simp only [Prod.mk.injEq, Int.toNat_natCast, List.length_singleton] at ih
        rw [e1]
        simp only [Bool.false_eq_true, if_false]
        rw [if_pos (by omega), e3]
        simp only [Prod.mk.injEq, List.length_singleton, List.take_succ_cons, List.drop_succ_cons]
        exact ⟨by rw [← ih.1], ih.2.1, ih.2.2⟩

theorem cutAt_le (c : UInt8) (l : List UInt8) : ∀ p, p ∈ cutAt c l → p.length ≤ l.length := by
  induction l with
  | nil => intro p hp; simp [cutAt] at hp; simp [hp]
  | cons b l ih =>
    intro p hp
    unfold cutAt at hp
    split at hp
    · rcases List.mem_cons.1 hp with rfl | h
      · simp
      · have := ih p h; simp; omega
    · cases hq : cutAt c l with
      | nil => exact absurd hq (cutAt_ne c l)
      | cons h t =>
        rw [hq] at hp ih
        simp only [ahead, List.mem_cons] at hp
        rcases hp with rfl | hp
        · have := ih h (List.mem_cons_self); simp; omega
        · have := ih p (List.mem_cons_of_mem _ hp); simp; omega
theorem cutAt_many (c : UInt8) (l : List UInt8) : (cutAt c l).length ≤ l.length + 1 := by
  induction l with
  | nil => simp [cutAt]
  | cons b l ih =>
    unfold cutAt
    split
    · simp; omega
    · rw [ahead_len b _ (cutAt_ne c l)]; simp; omega
theorem bl_mem {X : List ByteArray} {x : ByteArray} (h : x ∈ X) : x.data.toList ∈ bl X := List.mem_map.2 ⟨x, h, rfl⟩

/-- readNumbers: the numbers, and the worst of their errors. -/
def numsErr (ps : List (List UInt8)) : Nat := ps.foldl (fun b p => worse b (num p).2) 0
def numsOf (ps : List (List UInt8)) : List Int := ps.map fun p => (num p).1
theorem numsErr_snoc (ps : List (List UInt8)) (p : List UInt8) : numsErr (ps ++ [p]) = worse (numsErr ps) (num p).2 := by simp [numsErr, List.foldl_append]
theorem numsErr_err (ps : List (List UInt8)) : numsErr ps = 0 ∨ numsErr ps = 1 ∨ numsErr ps = 2 := by
  have key : ∀ (ps : List (List UInt8)) (b : Nat), (b = 0 ∨ b = 1 ∨ b = 2) → ps.foldl (fun b p => worse b (num p).2) b = 0 ∨ ps.foldl (fun b p => worse b (num p).2) b = 1 ∨ ps.foldl (fun b p => worse b (num p).2) b = 2 := by
    intro ps
    induction ps with
    | nil => intro b hb; exact hb
    | cons p r ih => intro b hb; exact ih _ (worse_err hb (num_err p))
  exact key ps 0 (Or.inl rfl)
theorem numsOf_snoc (ps : List (List UInt8)) (p : List UInt8) : numsOf (ps ++ [p]) = numsOf ps ++ [(num p).1] := by simp [numsOf]
theorem numsOf_len (ps : List (List UInt8)) : (numsOf ps).length = ps.length := by simp [numsOf]
theorem num_bd (l : List UInt8) : 0 ≤ (num l).1 ∧ (num l).1 ≤ 999999 := by
  unfold num
  split
  · simp
  · rename_i h
    simp only [Bool.or_eq_true, not_or] at h
    have hd : allDig l = true := by
      have h1 := h.1
      unfold digs at h1
      cases ha : allDig l
      · rw [ha] at h1; simp at h1
      · rfl
    have hb := numTo_bd l hd
    split
    · exact ⟨hb.1, by assumption⟩
    · simp
end Ve
end Go.Proofs.YtmgpapghdbopiaaDoor
