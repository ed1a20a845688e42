/-
  What mvs.check and mvs.Closed answer.
-/
import Derived.Test.YtacggkigfjpfnaaGreatDoorTm4
import Derived.Test.YtacggkigfjpfnaaGreatDoorTm2
import Derived.Test.YtacggkigfjpfnaaGreatDoorTm3
import Derived.Test.YtacggkigfjpfnaaGreatDoorAhead
import Derived.Test.YtacggkigfjpfnaaGreatDoorRefF
namespace Go.Proofs.YtacggkigfjpfnaaGreatDoor
open Go.RowKit Go.Maps
namespace Ve

/-- What is wrong with an index, roots and a selection. -/
def chkC (Q : List Raw) (L : List Ent) (roots sel : List Bm) : Nat × Option Nat := if (chkG Q L roots).1 ≠ 0 then chkG Q L roots else if codeE (nonE Q sel) sel.length ≠ 0 then (codeE (nonE Q sel) sel.length, fstE (nonE Q sel) sel.length) else if risB2 sel then (0, none) else (8, none)
theorem univ_right {Q : List Raw} {L : List Ent} (h : (chk Q L).1 = 0) : ∀ m, m ∈ univ L → mErr m = 0 := fun m hm => by
  obtain ⟨e, he, rfl⟩ := List.mem_map.1 hm
  obtain ⟨j, hj, rfl⟩ := List.getElem_of_mem he
  exact entE_mod hj ((chk_each0 h).2 j hj)
theorem chkC_bad {Q : List Raw} {L : List Ent} {roots sel : List Bm} (h : (chkG Q L roots).1 ≠ 0) : chkC Q L roots sel = chkG Q L roots := by unfold chkC; rw [if_pos h]
theorem chkC_sel {Q : List Raw} {L : List Ent} {roots sel : List Bm} (h : (chkG Q L roots).1 = 0) (h2 : codeE (nonE Q sel) sel.length ≠ 0) : chkC Q L roots sel = (codeE (nonE Q sel) sel.length, fstE (nonE Q sel) sel.length) := by unfold chkC; rw [if_neg (by simp [h]), if_pos h2]
theorem chkC_ris {Q : List Raw} {L : List Ent} {roots sel : List Bm} (h : (chkG Q L roots).1 = 0) (h2 : codeE (nonE Q sel) sel.length = 0) : chkC Q L roots sel = if risB2 sel then (0, none) else (8, none) := by unfold chkC; rw [if_neg (by simp [h]), if_neg (by simp [h2])]
/-- Is a selection closed? -/
def closB (Q : List Raw) (L : List Ent) (roots sel : List Bm) : Bool := undB roots sel && sel.all fun m => undB (reqQ Q L m) sel
theorem reqQ_sz {Q : List Raw} {L : List Ent} (sh : ∀ e, e ∈ L → ShE e) (m : Bm) : (reqQ Q L m).length ≤ 1000000 ∧ ∀ x, x ∈ reqQ Q L m → x.1.size < 999999 ∧ x.2.size < 999999 := by
  unfold reqQ
  split
  · exact ⟨by simp, fun x hx => by cases hx⟩
  · cases h : L[(idxOf (isM m) Q).toNat]? with
    | none => exact ⟨by simp, fun x hx => by simp at hx⟩
    | some e =>
      have he := sh e (List.mem_of_getElem? h)
      exact ⟨he.rn, fun x hx => he.rs x hx⟩
theorem chkC_good {w : World} {v : Value} {Q : List Raw} {L : List Ent} {roots sel : List Bm} (I : Ixs w v Q L) (h : (chkC Q L roots sel).1 = 0) : (chkG Q L roots).1 = 0 ∧ (∀ m, m ∈ sel → m ∈ univ L) ∧ risB2 sel = true := by
  by_cases h1 : (chkG Q L roots).1 = 0
  · have hc := (rgt_of I h1).c
    by_cases h2 : codeE (nonE Q sel) sel.length = 0
    · rw [chkC_ris h1 h2] at h
      refine ⟨h1, (rgt_of I (show (chkG Q L sel).1 = 0 by rw [chkG_ok hc]; exact h2)).r, ?_⟩
      cases hs : risB2 sel
      · rw [hs] at h; exact absurd h (by decide)
      · rfl
    · rw [chkC_sel h1 h2] at h; exact absurd h h2
  · rw [chkC_bad h1] at h; exact absurd h h1
theorem chkC_of {w : World} {v : Value} {Q : List Raw} {L : List Ent} {roots sel : List Bm} (I : Ixs w v Q L) (h1 : (chkG Q L roots).1 = 0) (h2 : ∀ m, m ∈ sel → m ∈ univ L) (h3 : risB2 sel = true) : (chkC Q L roots sel).1 = 0 := by
  have hc := (rgt_of I h1).c
  have h4 := chkG_in I hc h2
  rw [chkG_ok hc] at h4
  rw [chkC_ris h1 h4, h3]
  rfl
end Ve
end Go.Proofs.YtacggkigfjpfnaaGreatDoor

/-
  What is built, plain: of what is reached the last of each path; an index' facts.
-/
namespace Go.Proofs.YtacggkigfjpfnaaGreatDoor
open Go.RowKit Go.Maps
namespace Ve

theorem ix_lt {i n : Nat} (h : i < n) : (i : Int) < (n : Int) := Int.ofNat_lt.2 h
theorem ix_nlt {i n : Nat} (h : ¬ i < n) : ¬ (i : Int) < (n : Int) := fun e => h (Int.ofNat_lt.1 e)
theorem ix_pos (i : Nat) : (0 : Int) ≤ (i : Int) := Int.natCast_nonneg _
theorem ix_pos1 (i : Nat) : (0 : Int) ≤ (i : Int) + 1 := by omega
theorem ix_lt1 {i n : Nat} (h : i + 1 < n) : (i : Int) + 1 < (n : Int) := by omega
theorem ix_nlt1 {i n : Nat} (h : ¬ i + 1 < n) : ¬ (i : Int) + 1 < (n : Int) := by omega
theorem ix_nat1 (i : Nat) : ((i : Int) + 1).toNat = i + 1 := by omega
theorem ix_w1 {i n : Nat} (h : i < n) (hn : n ≤ 1000000) : wrap64 ((i : Int) + 1) = (i : Int) + 1 := IntWalk.wrap64_in _ (by omega)
theorem ix_k1 {i n : Nat} (h : i < n) (hn : n ≤ 1000000) : IntKind.i64.wrap ((i : Int) + 1) = (i : Int) + 1 := by rw [IntKind.wrap_i64] <;> omega
theorem ms_atJ {W : World} {b o n c : Nat} {X : List Bm} (h : MsAt W (.slice (some ⟨b, o, none⟩) n c) X) {k : Nat} (hk : k < X.length) : W.cell? ⟨b, o + k * 2, none⟩ = some (.string X[k].1) ∧ W.cell? ⟨b, o + k * 2 + 1, none⟩ = some (.string X[k].2) := by
  obtain ⟨b', o', e, h1⟩ := h.cells hk
  injection e with e
  injection e with e1 e2
  subst e1 e2
  exact h1
/-- Is one of the same path behind it? -/
def nextB (X : List Bm) (i : Nat) (p : ByteArray) : Bool := match X[i + 1]? with
  | some y => decide (y.1 = p)
  | none => false
/-- The last of each path, of the first ones. -/
def lastN (X : List Bm) : Nat → List Bm
  | 0 => []
  | i + 1 => lastN X i ++ match X[i]? with
    | some x => if nextB X i x.1 then [] else [x]
    | none => []
theorem lastN_skip {X : List Bm} {i : Nat} (h : i < X.length) (hb : nextB X i X[i].1 = true) : lastN X (i + 1) = lastN X i := by
  show lastN X i ++ _ = _
  rw [List.getElem?_eq_getElem h]
  simp only [hb, if_true, List.append_nil]
theorem lastN_keep {X : List Bm} {i : Nat} (h : i < X.length) (hb : nextB X i X[i].1 = false) : lastN X (i + 1) = lastN X i ++ [X[i]] := by
  show lastN X i ++ _ = _
  rw [List.getElem?_eq_getElem h]
  simp [hb]
theorem lastN_len (X : List Bm) : ∀ i, (lastN X i).length ≤ i
  | 0 => Nat.le_refl _
  | i + 1 => by
    have h := lastN_len X i
    show (lastN X i ++ _).length ≤ _
    rw [List.length_append]
    split
    · split
      · simp; omega
      · simp; omega
    · simp; omega
theorem nextB_at {X : List Bm} {i : Nat} {p : ByteArray} (h : i + 1 < X.length) : nextB X i p = decide (X[i + 1].1 = p) := by unfold nextB; rw [List.getElem?_eq_getElem h]
theorem nextB_end {X : List Bm} {i : Nat} {p : ByteArray} (h : ¬ i + 1 < X.length) : nextB X i p = false := by unfold nextB; rw [List.getElem?_eq_none (by omega)]
theorem lastN_over {X : List Bm} {n : Nat} (h : ¬ n < X.length) : lastN X (n + 1) = lastN X n := by
  show lastN X n ++ _ = _
  rw [List.getElem?_eq_none (by omega)]; simp
theorem lastN_mem {X : List Bm} {e : Bm} : ∀ n, e ∈ lastN X n ↔ ∃ i, ∃ h : i < X.length, i < n ∧ X[i] = e ∧ nextB X i X[i].1 = false
  | 0 => ⟨(fun h => by cases h), fun ⟨i, _, h, _⟩ => absurd h (Nat.not_lt_zero _)⟩
  | n + 1 => by
    have ih := lastN_mem (X := X) (e := e) n
    by_cases h : n < X.length
    · cases hb : nextB X n X[n].1
      · rw [lastN_keep h hb, List.mem_append, ih, List.mem_singleton]
        constructor
        · rintro (⟨i, hi, h1, h2, h3⟩ | rfl)
          · exact ⟨i, hi, by omega, h2, h3⟩
          · exact ⟨n, h, by omega, rfl, hb⟩
        · rintro ⟨i, hi, h1, h2, h3⟩
          rcases Nat.lt_or_ge i n with h4 | h4
          · exact Or.inl ⟨i, hi, h4, h2, h3⟩
          · have : i = n := by omega
            subst this; exact Or.inr h2.symm
      · rw [lastN_skip h hb, ih]
        constructor
        · rintro ⟨i, hi, h1, h2, h3⟩; exact ⟨i, hi, by omega, h2, h3⟩
        · rintro ⟨i, hi, h1, h2, h3⟩
          rcases Nat.lt_or_ge i n with h4 | h4
          · exact ⟨i, hi, h4, h2, h3⟩
          · have : i = n := by omega
            subst this; rw [hb] at h3; cases h3
    · rw [lastN_over h, ih]
      constructor
      · rintro ⟨i, hi, h1, h2, h3⟩; exact ⟨i, hi, by omega, h2, h3⟩
      · rintro ⟨i, hi, h1, h2, h3⟩; exact ⟨i, hi, by omega, h2, h3⟩
theorem lastN_rising {X : List Bm} (hX : X.Pairwise fun a b => mAhead a b = true) : ∀ n, n ≤ X.length → rising (lastN X n)
  | 0, _ => List.Pairwise.nil
  | n + 1, hn => by
    have ih := lastN_rising hX n (by omega)
    have h : n < X.length := by omega
    cases hb : nextB X n X[n].1
    · rw [lastN_keep h hb]
      refine List.pairwise_append.2 ⟨ih, List.pairwise_singleton _ _, fun a ha b hbb => ?_⟩
      rw [List.mem_singleton.1 hbb]
      obtain ⟨i, hi, h1, rfl, h3⟩ := (lastN_mem n).1 ha
      have hp := List.pairwise_iff_getElem.1 hX
      have h4 : i + 1 < X.length := by omega
      rw [nextB_at h4] at h3
      have h5 : X[i + 1].1 ≠ X[i].1 := of_decide_eq_false h3
      have h6 := hp i (i + 1) hi h4 (by omega)
      rw [ahead_other (fun e => h5 e.symm)] at h6
      rcases Nat.lt_or_ge (i + 1) n with h7 | h7
      · have h8 := hp (i + 1) n h4 h h7
        by_cases e : X[i + 1].1 = X[n].1
        · rw [← e]; exact h6
        · rw [ahead_other e] at h8; exact lt_trans h6 h8
      · have : n = i + 1 := by omega
        subst this; exact h6
    · rw [lastN_skip h hb]; exact ih
theorem ordV_selfJ {m : Bm} (h : mErr m = 0) : ordV (vb m) (vb m) ≤ 0 := by rw [(ordV_zero (mErr_zero h).2 (mErr_zero h).2).2 rfl]; omega
theorem lastN_top {X : List Bm} (hX : X.Pairwise fun a b => mAhead a b = true) (hr : ∀ m, m ∈ X → mErr m = 0) : ∀ (d i : Nat) (hi : i < X.length), X.length - i = d → ∃ e, e ∈ lastN X X.length ∧ e.1 = X[i].1 ∧ ordV (vb X[i]) (vb e) ≤ 0
  | 0, i, hi, h => by omega
  | d + 1, i, hi, h => by
    have hm := hr X[i] (List.getElem_mem hi)
    cases hb : nextB X i X[i].1
    · exact ⟨X[i], (lastN_mem _).2 ⟨i, hi, hi, rfl, hb⟩, rfl, ordV_selfJ hm⟩
    · by_cases h1 : i + 1 < X.length
      · rw [nextB_at h1] at hb
        have h2 : X[i + 1].1 = X[i].1 := of_decide_eq_true hb
        obtain ⟨e, he, e1, e2⟩ := lastN_top hX hr d (i + 1) h1 (by omega)
        have hm1 := hr X[i + 1] (List.getElem_mem h1)
        have h3 := List.pairwise_iff_getElem.1 hX i (i + 1) hi h1 (by omega)
        rw [ahead_same h2.symm, less_right (mErr_zero hm).2 (mErr_zero hm1).2] at h3
        have h4 := of_decide_eq_true h3
        have hme : mErr e = 0 := by
          obtain ⟨j, hj, _, rfl, _⟩ := (lastN_mem _).1 he
          exact hr _ (List.getElem_mem hj)
        exact ⟨e, he, e1.trans h2, ordV_le_trans (mErr_zero hm).2 (mErr_zero hm1).2 (mErr_zero hme).2 (Int.le_of_lt h4) e2⟩
      · rw [nextB_end h1] at hb; cases hb
/-- The last of each path: what is joined. -/
theorem lastN_jn {X : List Bm} (hX : X.Pairwise fun a b => mAhead a b = true) (hr : ∀ m, m ∈ X → mErr m = 0) : Jn X (lastN X X.length) := by
  refine ⟨lastN_rising hX _ (Nat.le_refl _), fun e he => ?_, fun x hx _ => ?_⟩
  · obtain ⟨j, hj, _, rfl, _⟩ := (lastN_mem _).1 he
    exact ⟨List.getElem_mem hj, hr _ (List.getElem_mem hj)⟩
  · obtain ⟨i, hi, rfl⟩ := List.getElem_of_mem hx
    exact lastN_top hX hr _ i hi rfl
/-- What is built. -/
noncomputable def bX (Q : List Raw) (L : List Ent) (roots : List Bm) : List Bm := lastN (rX Q L roots) (rX Q L roots).length
theorem bX_same {Q Q' : List Raw} {L : List Ent} (h : Q.map (fun r => r.1) = Q'.map (fun r => r.1)) (roots : List Bm) : bX Q L roots = bX Q' L roots := by unfold bX; rw [rX_same h]
theorem rX_rises {Q : List Raw} {L : List Ent} {roots : List Bm} : (rX Q L roots).Pairwise fun a b => mAhead a b = true := by
  by_cases h : (chkG Q L roots).1 = 0
  · unfold rX
    rw [if_pos h]
    have hc : (chk Q L).1 = 0 := by
      by_cases hc : (chk Q L).1 = 0
      · exact hc
      · rw [chkG_bad hc] at h; exact h
    exact List.Pairwise.filter _ (univ_rises hc)
  · rw [rX_bad h]; exact List.Pairwise.nil
theorem chkG_chk {Q : List Raw} {L : List Ent} {roots : List Bm} (h : (chkG Q L roots).1 = 0) : (chk Q L).1 = 0 := by
  by_cases hc : (chk Q L).1 = 0
  · exact hc
  · rw [chkG_bad hc] at h; exact h
theorem rX_right {Q : List Raw} {L : List Ent} {roots : List Bm} : ∀ m, m ∈ rX Q L roots → mErr m = 0 := fun m hm => by
  obtain ⟨h1, h2⟩ := rX_in hm
  exact univ_right (chkG_chk h1) m h2
theorem bX_jn (Q : List Raw) (L : List Ent) (roots : List Bm) : Jn (rX Q L roots) (bX Q L roots) := lastN_jn rX_rises rX_right
theorem bX_len {Q : List Raw} {L : List Ent} {roots : List Bm} : (bX Q L roots).length ≤ L.length := Nat.le_trans (lastN_len _ _) rX_len
theorem bX_bad {Q : List Raw} {L : List Ent} {roots : List Bm} (h : ¬ (chkG Q L roots).1 = 0) : bX Q L roots = [] := by unfold bX; rw [rX_bad h]; rfl
theorem bt_bX {w : World} {v : Value} {Q : List Raw} {L : List Ent} {roots E : List Bm} (I : Ixs w v Q L) (h : (chkG Q L roots).1 = 0) (hb : Bt Q L roots E) : E = bX Q L roots := by
  obtain ⟨T, h1, h2, _⟩ := hb.c
  rw [rX_go I h h1] at h2
  exact h2.one (bX_jn Q L roots) (fun _ _ => Iff.rfl)
theorem Mr.below {w0 W W' : World} {v : Value} {D : List Bm} (h : Mr w0 W v D) (hb : Below W.heap.size W W') : Mr w0 W' v D := by
  obtain ⟨h1, a, cap, rfl, hc, hk⟩ := h
  refine ⟨h1.trans (hb.mono h1.size), a, cap, rfl, hc, ?_⟩
  rcases hk with hk | ⟨g, rfl, hM⟩
  · exact Or.inl hk
  · exact Or.inr ⟨g, rfl, hM.below hb⟩
theorem box2J {W : World} {g : Nat} {x y : Value} {T : TypeId} (h : W.heap[g]? = some (.cells #[x, y] T (0, 0))) : W.cell? ⟨g, 0, none⟩ = some x ∧ W.cell? ⟨g, 1, none⟩ = some y ∧ ∀ o, W.frozen? ⟨g, o, none⟩ = false :=
  ⟨by rw [Lib.cell_of_heap h]; rfl, by rw [Lib.cell_of_heap h]; rfl, fun o => Lib.frozen_of_heap h o⟩
theorem mr_nil0 {w w' : World} (h : Below w.heap.size w w') : Mr w w' (.slice none 0 0) [] := ⟨h, none, 0, rfl, Nat.le_refl _, Or.inl ⟨rfl, fun _ => rfl⟩⟩
/-- mvs.Build. -/
theorem build_all (Q : List Raw) (L : List Ent) (roots : List Bm) (v rv : Value) (A : Nat → Addr) (m : Int) (w : World) (hn : L.length ≤ 1000) (hrn : roots.length ≤ 1000000) (sh : ∀ e, e ∈ L → ShE e) (S : Te w A m) (I : Ixs w v Q L) (hr : MsAt w rv roots) :
    Calls Tryz.prog 9 #[v, rv] w fun e w' => ∃ a c x, e = .returned (.tuple #[.slice a (bX Q L roots).length c, x]) ∧ Mr w w' (.slice a (bX Q L roots).length c) (bX Q L roots) ∧ ErrAt w' A x (rF Q L roots).1 (rF Q L roots).2 := by
  by_cases h : (chkG Q L roots).1 = 0
  · refine (build_good Q L roots v rv A m w hn hrn sh S I hr h).mono ?_
    rintro e w' ⟨u, E, rfl, hbt, hm⟩
    have he := bt_bX I h hbt
    subst he
    obtain ⟨a, c, hu⟩ := hm.sl
    subst hu
    exact ⟨a, c, _, rfl, hm, by rw [rF_good h]; rfl⟩
  · refine (build_bad Q L roots v rv A m w hn hrn sh S I hr h).mono ?_
    rintro e w' ⟨T, a, rfl, he, hb⟩
    rw [bX_bad h, rF_bad h]
    exact ⟨_, _, _, rfl, mr_nil0 hb, he⟩
end Ve
end Go.Proofs.YtacggkigfjpfnaaGreatDoor

/-
  What is built is closed, and the least (plain).
-/
namespace Go.Proofs.YtacggkigfjpfnaaGreatDoor
open Go.RowKit Go.Maps
namespace Ve

theorem hasV_iff {B : List Bm} {m : Bm} : hasV B m = true ↔ ∃ x, atP B m.1 = some x ∧ lessB (vb x) (vb m) = false := by
  unfold hasV
  cases h : atP B m.1 with
  | none => simp
  | some x => simp
theorem atP_mem {B : List Bm} {p : ByteArray} {x : Bm} (h : atP B p = some x) : x ∈ B ∧ x.1 = p := by
  unfold atP at h
  exact ⟨List.mem_of_find?_eq_some h, by have := List.find?_some h; simpa using this⟩
theorem less_le {a b : Bm} (ha : mErr a = 0) (hb : mErr b = 0) : lessB (vb a) (vb b) = false ↔ ordV (vb b) (vb a) ≤ 0 := by
  rw [less_right (mErr_zero ha).2 (mErr_zero hb).2]
  simp only [decide_eq_false_iff_not]
  rw [ordV_swap (vb b) (vb a)]
  omega
theorem bt_mem {w : World} {v : Value} {Q : List Raw} {L : List Ent} {roots : List Bm} {T : By} (I : Ixs w v Q L) (h : Came (reqQ Q L) (univ L) roots T) {m : Bm} : m ∈ goM T Q ↔ Rch (reqQ Q L) roots m := goM_mem I h
/-- What is reached lies in the index. -/
theorem rch_univ {w : World} {v : Value} {Q : List Raw} {L : List Ent} {roots : List Bm} (I : Ixs w v Q L) (h : (chkG Q L roots).1 = 0) {m : Bm} (hm : Rch (reqQ Q L) roots m) : m ∈ univ L := by
  have r := rgt_of I h
  induction hm with
  | root hr => exact r.r _ hr
  | step _ hr ih => exact chk_reqs0 I r.c _ ih _ hr
/-- All that is built is reached, and of each that is reached there is no less. -/
theorem Bt.in_ {w : World} {v : Value} {Q : List Raw} {L : List Ent} {roots E : List Bm} (I : Ixs w v Q L) (h : Bt Q L roots E) {m : Bm} (hm : m ∈ E) : Rch (reqQ Q L) roots m := by
  obtain ⟨T, c, j, _⟩ := h.c
  exact (bt_mem I c).1 (j.sub m hm).1
theorem Bt.has {w : World} {v : Value} {Q : List Raw} {L : List Ent} {roots E : List Bm} (I : Ixs w v Q L) (h : Bt Q L roots E) (h0 : (chkG Q L roots).1 = 0) {A : List Bm} (hA : ∀ m, m ∈ A → Rch (reqQ Q L) roots m) : undB A E = true := by
  obtain ⟨T, c, j, _⟩ := h.c
  exact j.over fun m hm => ⟨(bt_mem I c).2 (hA m hm), univ_right (rgt_of I h0).c m (rch_univ I h0 (hA m hm))⟩
theorem Bt.ri {Q : List Raw} {L : List Ent} {roots E : List Bm} (h : Bt Q L roots E) : rising E := by
  obtain ⟨T, c, j, _⟩ := h.c
  exact j.ri
/-- What is built is closed. -/
theorem Bt.closed {w : World} {v : Value} {Q : List Raw} {L : List Ent} {roots E : List Bm} (I : Ixs w v Q L) (h : Bt Q L roots E) (h0 : (chkG Q L roots).1 = 0) : (chkC Q L roots E).1 = 0 ∧ closB Q L roots E = true := by
  refine ⟨chkC_of I h0 (fun m hm => rch_univ I h0 (h.in_ I hm)) (risB2_iff.2 h.ri), ?_⟩
  unfold closB
  rw [h.has I h0 (fun m hm => .root hm), Bool.true_and, List.all_eq_true]
  exact fun m hm => h.has I h0 (fun x hx => .step (h.in_ I hm) hx)
/-- Built again of itself it is itself. -/
theorem Bt.again {w : World} {v : Value} {Q : List Raw} {L : List Ent} {roots E E' : List Bm} (I : Ixs w v Q L) (h : Bt Q L roots E) (h' : Bt Q L E E') : E' = E := by
  obtain ⟨T, c, j, _⟩ := h.c
  obtain ⟨T', c', j', _⟩ := h'.c
  have up : ∀ x, Rch (reqQ Q L) E x → Rch (reqQ Q L) roots x := fun x hx => by
    induction hx with
    | root hr => exact h.in_ I hr
    | step _ hr ih => exact .step ih hr
  have jE : Jn (goM T' Q) E := ⟨j.ri, fun e he => ⟨(bt_mem I c').2 (.root he), (j.sub e he).2⟩, fun x hx hr => j.top x ((bt_mem I c).2 (up x ((bt_mem I c').1 hx))) hr⟩
  exact j'.one jE (fun _ _ => Iff.rfl)
/-- More roots build no less. -/
theorem Bt.more {w : World} {v : Value} {Q : List Raw} {L : List Ent} {a b E F : List Bm} (I : Ixs w v Q L) (h : Bt Q L a E) (h' : Bt Q L (a ++ b) F) (h0 : (chkG Q L (a ++ b)).1 = 0) : undB E F = true :=
  h'.has I h0 fun _ hm => (h.in_ I hm).mono fun _ hx => List.mem_append_left _ hx
theorem Bt.sz {w : World} {v : Value} {Q : List Raw} {L : List Ent} {a E : List Bm} (h : Bt Q L a E) (I : Ixs w v Q L) (sh : ∀ e, e ∈ L → ShE e) : ∀ r, r ∈ E → r.1.size < 999999 ∧ r.2.size < 999999 := fun r hr => by
  obtain ⟨T, _, j, _⟩ := h.c
  exact univ_szJ sh (goM_sub I (j.sub r hr).1)
theorem Bt.len {w : World} {v : Value} {Q : List Raw} {L : List Ent} {a E : List Bm} (h : Bt Q L a E) (I : Ixs w v Q L) : E.length ≤ L.length := by
  obtain ⟨T, _, _, hl⟩ := h.c
  exact Nat.le_trans hl (goM_lenJ I T)
/-- Newer versions require no less. -/
def RiseP (L : List Ent) : Prop := ∀ i k (hi : i < L.length) (hk : k < L.length), i < k → L[i].1.1 = L[k].1.1 → undB L[i].2.1 L[k].2.1 = true
theorem univ_at {w : World} {v : Value} {Q : List Raw} {L : List Ent} (I : Ixs w v Q L) {m : Bm} (hm : m ∈ univ L) : ∃ i, ∃ hi : i < L.length, L[i].1 = m ∧ reqQ Q L m = L[i].2.1 := by
  obtain ⟨k, hk⟩ := (found_iff I m).1 hm
  obtain ⟨h1, h2⟩ := idx_is hk
  have h3 : k < L.length := by rw [← I.ln]; exact h1
  refine ⟨k, h3, ?_, reqQ_at hk h3⟩
  rw [← (I.ok k h1 h3).m]
  have := of_decide_eq_true h2
  exact Prod.ext this.1 this.2
theorem hasV_up {sel : List Bm} {m r : Bm} (hr : ∀ x, x ∈ sel → mErr x = 0) (hm0 : mErr m = 0) (hr0 : mErr r = 0) (hp : r.1 = m.1) (ho : ordV (vb m) (vb r) ≤ 0) (h : hasV sel r = true) : hasV sel m = true := by
  obtain ⟨s, h1, h2⟩ := hasV_iff.1 h
  have hs := hr s (atP_mem h1).1
  rw [hp] at h1
  exact hasV_iff.2 ⟨s, h1, (less_le hs hm0).2 (ordV_le_trans (mErr_zero hm0).2 (mErr_zero hr0).2 (mErr_zero hs).2 ho ((less_le hs hr0).1 h2))⟩
/-- Where newer versions require no less, what is reached is under each selection that is closed. -/
theorem rch_under {w : World} {v : Value} {Q : List Raw} {L : List Ent} {roots sel : List Bm} (I : Ixs w v Q L) (h0 : (chkC Q L roots sel).1 = 0) (hc : closB Q L roots sel = true) (hR : RiseP L) {m : Bm} (hm : Rch (reqQ Q L) roots m) : hasV sel m = true := by
  obtain ⟨hg, hsu, _⟩ := chkC_good I h0
  have hchk := (rgt_of I hg).c
  have rt := univ_right hchk
  unfold closB at hc
  rw [Bool.and_eq_true] at hc
  have hsel := List.all_eq_true.1 hc.2
  induction hm with
  | root hr => exact List.all_eq_true.1 hc.1 _ hr
  | @step p m hp hr ih =>
    have hpu := rch_univ I hg hp
    have hmu := chk_reqs0 I hchk p hpu m hr
    obtain ⟨s, hs1, hs2⟩ := hasV_iff.1 ih
    obtain ⟨hs3, hs4⟩ := atP_mem hs1
    have hsU := hsu s hs3
    have hsr := List.all_eq_true.1 (hsel s hs3)
    obtain ⟨i, hi, ei, qi⟩ := univ_at I hpu
    obtain ⟨k, hk, ek, qk⟩ := univ_at I hsU
    have hle := (less_le (rt s hsU) (rt p hpu)).1 hs2
    rcases Nat.lt_trichotomy i k with hik | hik | hik
    · have hu := hR i k hi hk hik (by rw [ei, ek]; exact hs4.symm)
      rw [← qi, ← qk] at hu
      obtain ⟨r, hr1, hr2⟩ := hasV_iff.1 (List.all_eq_true.1 hu m hr)
      obtain ⟨hr3, hr4⟩ := atP_mem hr1
      have hrU := chk_reqs0 I hchk s hsU r hr3
      exact hasV_up (fun x hx => rt x (hsu x hx)) (rt m hmu) (rt r hrU) hr4 ((less_le (rt r hrU) (rt m hmu)).1 hr2) (hsr r hr3)
    · subst hik
      have : p = s := ei.symm.trans ek
      subst this
      exact hsr m hr
    · have ha := List.pairwise_iff_getElem.1 (univ_rises hchk) k i (by simpa [univ] using hk) (by simpa [univ] using hi) hik
      simp only [univ, List.getElem_map] at ha
      rw [ei, ek, ahead_same hs4, less_right (mErr_zero (rt s hsU)).2 (mErr_zero (rt p hpu)).2] at ha
      have ha : ordV (vb s) (vb p) < 0 := of_decide_eq_true ha
      rw [ordV_swap (vb s) (vb p)] at hle
      omega
theorem Bt.least {w : World} {v : Value} {Q : List Raw} {L : List Ent} {roots sel E : List Bm} (I : Ixs w v Q L) (h : Bt Q L roots E) (h0 : (chkC Q L roots sel).1 = 0) (hc : closB Q L roots sel = true) (hR : RiseP L) : undB E sel = true := by
  unfold undB
  rw [List.all_eq_true]
  exact fun m hm => rch_under I h0 hc hR (h.in_ I hm)
end Ve
end Go.Proofs.YtacggkigfjpfnaaGreatDoor

/-
  What is built, plain: what it has.
-/
namespace Go.Proofs.YtacggkigfjpfnaaGreatDoor
open Go.RowKit Go.Maps
namespace Ve

theorem rX_mem {w : World} {v : Value} {Q : List Raw} {L : List Ent} {roots : List Bm} (I : Ixs w v Q L) (h : (chkG Q L roots).1 = 0) {m : Bm} : m ∈ rX Q L roots ↔ Rch (reqQ Q L) roots m := by
  unfold rX
  rw [if_pos h, List.mem_filter]
  constructor
  · rintro ⟨_, h1⟩; simpa using h1
  · intro h1; exact ⟨rch_univ I h h1, by simpa using h1⟩
theorem bX_univ {Q : List Raw} {L : List Ent} {roots : List Bm} : ∀ m, m ∈ bX Q L roots → m ∈ univ L := fun m hm => (rX_in ((bX_jn Q L roots).sub m hm).1).2
theorem bX_over {w : World} {v : Value} {Q : List Raw} {L : List Ent} {roots A : List Bm} (I : Ixs w v Q L) (h : (chkG Q L roots).1 = 0) (hA : ∀ m, m ∈ A → Rch (reqQ Q L) roots m) : undB A (bX Q L roots) = true :=
  (bX_jn Q L roots).over fun m hm => ⟨(rX_mem I h).2 (hA m hm), univ_right (chkG_chk h) m (rch_univ I h (hA m hm))⟩
theorem bX_in {w : World} {v : Value} {Q : List Raw} {L : List Ent} {roots : List Bm} (I : Ixs w v Q L) (h : (chkG Q L roots).1 = 0) {m : Bm} (hm : m ∈ bX Q L roots) : Rch (reqQ Q L) roots m := (rX_mem I h).1 ((bX_jn Q L roots).sub m hm).1
/-- A selection of the index. -/
structure Sl (L : List Ent) (E : List Bm) : Prop where
  ri : rising E
  un : ∀ m, m ∈ E → m ∈ univ L
theorem bX_sl (Q : List Raw) (L : List Ent) (roots : List Bm) : Sl L (bX Q L roots) := ⟨(bX_jn Q L roots).ri, bX_univ⟩
end Ve
end Go.Proofs.YtacggkigfjpfnaaGreatDoor

/-
  The fewest roots, plain: from the first on, each goes, if what is left will do.
-/
namespace Go.Proofs.YtacggkigfjpfnaaGreatDoor
open Go.RowKit
namespace Ve

/-- One of n rounds: the i-th goes, if what is left will do. -/
def trm (g : List Bm → Bool) : Nat → List Bm → Nat → List Bm
  | 0, l, _ => l
  | n + 1, l, i => if i < l.length then (if g (l.eraseIdx i) then trm g n (l.eraseIdx i) i else trm g n l (i + 1)) else l
theorem trm_goes {g : List Bm → Bool} {n : Nat} {l : List Bm} {i : Nat} (h : i < l.length) (h1 : g (l.eraseIdx i) = true) : trm g (n + 1) l i = trm g n (l.eraseIdx i) i := by
  rw [trm, if_pos h, if_pos h1]
theorem trm_stays {g : List Bm → Bool} {n : Nat} {l : List Bm} {i : Nat} (h : i < l.length) (h1 : g (l.eraseIdx i) = false) : trm g (n + 1) l i = trm g n l (i + 1) := by
  rw [trm, if_pos h, if_neg (by rw [h1]; simp)]
theorem trm_end {g : List Bm → Bool} {n : Nat} {l : List Bm} {i : Nat} (h : ¬ i < l.length) : trm g n l i = l := by
  cases n with
  | zero => rfl
  | succ n => rw [trm, if_neg h]
/-- What is left of all. -/
def trmA (g : List Bm → Bool) (l : List Bm) : List Bm := trm g l.length l 0
theorem erase_erase (l : List Bm) {i j : Nat} (h : j < i) : ((l.eraseIdx i).eraseIdx j).Sublist (l.eraseIdx j) := by
  induction l generalizing i j with
  | nil => simp
  | cons a l ih =>
    cases i with
    | zero => omega
    | succ i =>
      cases j with
      | zero => simp only [List.eraseIdx_cons_succ, List.eraseIdx_cons_zero]; exact List.eraseIdx_sublist _ _
      | succ j => simp only [List.eraseIdx_cons_succ]; exact (ih (by omega)).cons_cons a
structure TrmOk (g : List Bm → Bool) (sel X : List Bm) : Prop where
  sub : X.Sublist sel
  will : g X = true
  least : ∀ j, j < X.length → g (X.eraseIdx j) = false
/-- What will do still does with more. -/
def MoreG (g : List Bm → Bool) (sel : List Bm) : Prop := ∀ a b : List Bm, a.Sublist b → b.Sublist sel → g a = true → g b = true
theorem trm_ok {g : List Bm → Bool} {sel : List Bm} (hm : MoreG g sel) : ∀ (n : Nat) (l : List Bm) (i : Nat), l.length - i ≤ n → l.Sublist sel → g l = true → (∀ j, j < i → j < l.length → g (l.eraseIdx j) = false) → TrmOk g sel (trm g n l i)
  | 0, l, i, hn, hs, hg, h => ⟨hs, hg, fun j (hj : j < l.length) => h j (by omega) hj⟩
  | n + 1, l, i, hn, hs, hg, h => by
    by_cases hi : i < l.length
    · cases h1 : g (l.eraseIdx i) with
      | true =>
        rw [trm_goes hi h1]
        have hl := List.length_eraseIdx_of_lt hi
        refine trm_ok hm n _ i (by omega) ((List.eraseIdx_sublist _ _).trans hs) h1 fun j hj hjl => ?_
        cases h2 : g ((l.eraseIdx i).eraseIdx j) with
        | false => rfl
        | true =>
          have := hm _ _ (erase_erase l hj) ((List.eraseIdx_sublist _ _).trans hs) h2
          rw [h j hj (by omega)] at this; cases this
      | false =>
        rw [trm_stays hi h1]
        refine trm_ok hm n l (i + 1) (by omega) hs hg fun j hj hjl => ?_
        rcases Nat.lt_or_ge j i with h2 | h2
        · exact h j h2 hjl
        · have : j = i := by omega
          subst this; exact h1
    · rw [trm_end hi]
      exact ⟨hs, hg, fun j hj => h j (by omega) hj⟩
theorem trmA_ok {g : List Bm → Bool} {sel : List Bm} (hm : MoreG g sel) (hg : g sel = true) : TrmOk g sel (trmA g sel) :=
  trm_ok hm _ sel 0 (by omega) (List.Sublist.refl _) hg fun j hj => absurd hj (Nat.not_lt_zero j)
/-- What is joined of something between is the same. -/
theorem Jn.between {A B S E sel : List Bm} (ha : Jn A sel) (hs : Jn S sel) (hb : Jn B E) (h1 : ∀ m, m ∈ A → m ∈ B) (h2 : ∀ m, m ∈ B → m ∈ S) : E = sel := by
  have hEs : ∀ m, m ∈ E → m ∈ sel := fun m hm => by
    obtain ⟨a1, a2⟩ := hb.sub m hm
    obtain ⟨s, b1, b2, b3⟩ := hs.top m (h2 m a1) a2
    obtain ⟨c1, c2⟩ := ha.sub s b1
    obtain ⟨e, d1, d2, d3⟩ := hb.top s (h1 s c1) c2
    have : e = m := rising_same hb.ri d1 hm (d2.trans b2)
    subst this
    rw [ver_same a2 c2 b2.symm b3 d3]; exact b1
  refine rising_ext hb.ri hs.ri fun m => ⟨hEs m, fun hm => ?_⟩
  obtain ⟨c1, c2⟩ := ha.sub m hm
  obtain ⟨e, d1, d2, _⟩ := hb.top m (h1 m c1) c2
  have := rising_same hs.ri (hEs e d1) hm d2
  rw [← this]; exact d1
end Ve
end Go.Proofs.YtacggkigfjpfnaaGreatDoor

/-
  The fewest roots of a selection, plain.
-/
namespace Go.Proofs.YtacggkigfjpfnaaGreatDoor
open Go.RowKit Go.Maps
namespace Ve

open Classical in
/-- Is what is built of them the selection? -/
noncomputable def gB (Q : List Raw) (L : List Ent) (sel : List Bm) (R : List Bm) : Bool := decide (bX Q L R = sel)
theorem gB_iff {Q : List Raw} {L : List Ent} {sel R : List Bm} : gB Q L sel R = true ↔ bX Q L R = sel := by unfold gB; simp
theorem gB_not {Q : List Raw} {L : List Ent} {sel R : List Bm} : gB Q L sel R = false ↔ ¬ bX Q L R = sel := by unfold gB; simp
/-- What is reached of fewer is reached of more. -/
theorem rX_more {w : World} {v : Value} {Q : List Raw} {L : List Ent} {A B : List Bm} (I : Ixs w v Q L) (hc : (chk Q L).1 = 0) (hB : ∀ m, m ∈ B → m ∈ univ L) (h : ∀ m, m ∈ A → m ∈ B) : ∀ m, m ∈ rX Q L A → m ∈ rX Q L B := fun _ hm =>
  (rX_mem I (chkG_in I hc hB)).2 (((rX_mem I (chkG_in I hc fun x hx => hB x (h x hx))).1 hm).mono h)
/-- What is built is built of itself. -/
theorem bX_again {w : World} {v : Value} {Q : List Raw} {L : List Ent} {roots : List Bm} (I : Ixs w v Q L) (h : (chkG Q L roots).1 = 0) : bX Q L (bX Q L roots) = bX Q L roots := by
  have hc := chkG_chk h
  have hg := chkG_in I hc (bX_univ (Q := Q) (L := L) (roots := roots))
  have j := bX_jn Q L roots
  have jE : Jn (rX Q L (bX Q L roots)) (bX Q L roots) := ⟨j.ri, fun e he => ⟨(rX_mem I hg).2 (.root he), (j.sub e he).2⟩, fun x hx hr => j.top x ((rX_mem I h).2 (by
    have hx2 := (rX_mem I hg).1 hx
    clear hx hr
    induction hx2 with
    | root hr => exact bX_in I h hr
    | step _ hr ih => exact .step ih hr)) hr⟩
  exact (bX_jn Q L (bX Q L roots)).one jE (fun _ _ => Iff.rfl)
theorem gB_more {w : World} {v : Value} {Q : List Raw} {L : List Ent} {sel : List Bm} (I : Ixs w v Q L) (hc : (chk Q L).1 = 0) (hu : ∀ m, m ∈ sel → m ∈ univ L) (hs : bX Q L sel = sel) : MoreG (gB Q L sel) sel := fun a b hab hbs hg => by
  rw [gB_iff] at hg ⊢
  have jA := bX_jn Q L a
  have jS := bX_jn Q L sel
  rw [hg] at jA
  rw [hs] at jS
  exact Jn.between jA jS (bX_jn Q L b) (rX_more I hc (fun m hm => hu m (hbs.subset hm)) fun m hm => hab.subset hm) (rX_more I hc hu fun m hm => hbs.subset hm)
/-- What is built of fewer is under what is built of more. -/
theorem bX_under {w : World} {v : Value} {Q : List Raw} {L : List Ent} {A B : List Bm} (I : Ixs w v Q L) (hc : (chk Q L).1 = 0) (hB : ∀ m, m ∈ B → m ∈ univ L) (h : ∀ m, m ∈ A → m ∈ B) : undB (bX Q L A) (bX Q L B) = true :=
  bX_over I (chkG_in I hc hB) fun _ hm => (bX_in I (chkG_in I hc fun x hx => hB x (h x hx)) hm).mono h
/-- The fewest roots. -/
noncomputable def trX (Q : List Raw) (L : List Ent) (sel : List Bm) : List Bm := trmA (gB Q L sel) sel
theorem trX_ok {w : World} {v : Value} {Q : List Raw} {L : List Ent} {sel : List Bm} (I : Ixs w v Q L) (hc : (chk Q L).1 = 0) (hu : ∀ m, m ∈ sel → m ∈ univ L) (hs : bX Q L sel = sel) : TrmOk (gB Q L sel) sel (trX Q L sel) := trmA_ok (gB_more I hc hu hs) (gB_iff.2 hs)
end Ve
end Go.Proofs.YtacggkigfjpfnaaGreatDoor

/-
  The fewest roots as the program takes them, plain: each of the selection in turn, all that are like it at once: the same ones go. What Roots and Same say, as one function each.
-/
namespace Go.Proofs.YtacggkigfjpfnaaGreatDoor
open Go.RowKit Go.Maps
namespace Ve

/-- Those that are not like a module. -/
def woM (l : List Bm) (m : Bm) : List Bm := l.filter fun x => !eqM x m
theorem woM_sub (l : List Bm) (m : Bm) : (woM l m).Sublist l := List.filter_sublist
theorem woM_none {l : List Bm} {m : Bm} (h : ∀ x, x ∈ l → x ≠ m) : woM l m = l := by
  unfold woM
  rw [List.filter_eq_self]
  intro x hx
  rw [eqM_ne (h x hx)]; rfl
theorem woM_mid {K r : List Bm} {m : Bm} (h : (K ++ m :: r).Nodup) : woM (K ++ m :: r) m = K ++ r := by
  obtain ⟨h1, h2, h3⟩ := List.nodup_append.1 h
  have h4 : m ∉ r := (List.nodup_cons.1 h2).1
  have e1 : woM K m = K := woM_none fun x hx => h3 x hx m (List.mem_cons_self ..)
  have e2 : woM r m = r := woM_none fun x hx e => h4 (e ▸ hx)
  have e3 : woM (K ++ m :: r) m = woM K m ++ woM (m :: r) m := by unfold woM; rw [List.filter_append]
  have e4 : woM (m :: r) m = woM r m := by unfold woM; rw [List.filter_cons_of_neg]; rw [eqM_iff.2 rfl]; simp
  rw [e3, e4, e1, e2]
theorem erase_mid (K r : List Bm) (m : Bm) : (K ++ m :: r).eraseIdx K.length = K ++ r := by
  rw [List.eraseIdx_append_of_length_le (Nat.le_refl _), Nat.sub_self]; rfl
/-- What is left behind k of them. -/
def lfN (g : List Bm → Bool) (sel : List Bm) : Nat → List Bm
  | 0 => sel
  | k + 1 => match sel[k]? with
    | some m => if g (woM (lfN g sel k) m) then woM (lfN g sel k) m else lfN g sel k
    | none => lfN g sel k
theorem lfN_goes {g : List Bm → Bool} {sel : List Bm} {k : Nat} (hk : k < sel.length) (h : g (woM (lfN g sel k) sel[k]) = true) : lfN g sel (k + 1) = woM (lfN g sel k) sel[k] := by
  show (match sel[k]? with | some m => _ | none => _) = _
  rw [List.getElem?_eq_getElem hk]
  exact if_pos h
theorem lfN_stays {g : List Bm → Bool} {sel : List Bm} {k : Nat} (hk : k < sel.length) (h : g (woM (lfN g sel k) sel[k]) = false) : lfN g sel (k + 1) = lfN g sel k := by
  show (match sel[k]? with | some m => _ | none => _) = _
  rw [List.getElem?_eq_getElem hk]
  exact if_neg (by rw [h]; simp)
theorem lfN_sub (g : List Bm → Bool) (sel : List Bm) : ∀ k, (lfN g sel k).Sublist sel
  | 0 => List.Sublist.refl _
  | k + 1 => by
    have ih := lfN_sub g sel k
    by_cases hk : k < sel.length
    · cases h : g (woM (lfN g sel k) sel[k]) with
      | true => rw [lfN_goes hk h]; exact (woM_sub _ _).trans ih
      | false => rw [lfN_stays hk h]; exact ih
    · have e : lfN g sel (k + 1) = lfN g sel k := by
        show (match sel[k]? with | some m => _ | none => _) = _
        rw [List.getElem?_eq_none (by omega)]
      rw [e]; exact ih
theorem lfN_trm {g : List Bm → Bool} {sel : List Bm} (hnd : sel.Nodup) : ∀ k, k ≤ sel.length → ∃ K, lfN g sel k = K ++ sel.drop k ∧ trm g (sel.length - k) (lfN g sel k) K.length = trmA g sel
  | 0, _ => ⟨[], rfl, rfl⟩
  | k + 1, hk1 => by
    have hk : k < sel.length := by omega
    obtain ⟨K, h1, h2⟩ := lfN_trm hnd k (by omega)
    rw [List.drop_eq_getElem_cons hk] at h1
    have hn : (K ++ sel[k] :: sel.drop (k + 1)).Nodup := by rw [← h1]; exact (lfN_sub g sel k).nodup hnd
    have hw : woM (lfN g sel k) sel[k] = K ++ sel.drop (k + 1) := by rw [h1]; exact woM_mid hn
    have he : (lfN g sel k).eraseIdx K.length = K ++ sel.drop (k + 1) := by rw [h1]; exact erase_mid _ _ _
    have hl : K.length < (lfN g sel k).length := by rw [h1]; simp; omega
    rw [show sel.length - k = sel.length - (k + 1) + 1 by omega] at h2
    cases h : g (woM (lfN g sel k) sel[k]) with
    | true =>
      rw [trm_goes hl (by rw [he, ← hw]; exact h), he] at h2
      exact ⟨K, by rw [lfN_goes hk h, hw], by rw [lfN_goes hk h, hw]; exact h2⟩
    | false =>
      rw [trm_stays hl (by rw [he, ← hw]; exact h)] at h2
      refine ⟨K ++ [sel[k]], by rw [lfN_stays hk h, h1]; simp, ?_⟩
      rw [lfN_stays hk h, List.length_append]
      exact h2
theorem lfN_all {g : List Bm → Bool} {sel : List Bm} (hnd : sel.Nodup) : lfN g sel sel.length = trmA g sel := by
  obtain ⟨K, _, h2⟩ := lfN_trm (g := g) hnd sel.length (Nat.le_refl _)
  rw [Nat.sub_self] at h2
  exact h2
theorem rising_nodup {R : List Bm} (h : rising R) : R.Nodup := List.Pairwise.imp (fun {a b} h e => by rw [e, lt_irrefl] at h; cases h) h
/-- One round of the document's. -/
theorem tr_goes {g : List Bm → Bool} {l : List Bm} {i : Nat} (hi : i < l.length) (h : g (l.eraseIdx i) = true) : trm g ((l.eraseIdx i).length - i) (l.eraseIdx i) i = trm g (l.length - i) l i := by
  rw [show l.length - i = l.length - i - 1 + 1 by omega, trm_goes hi h, List.length_eraseIdx_of_lt hi]
  congr 1; omega
theorem tr_stays {g : List Bm → Bool} {l : List Bm} {i : Nat} (hi : i < l.length) (h : g (l.eraseIdx i) = false) : trm g (l.length - (i + 1)) l (i + 1) = trm g (l.length - i) l i := by
  rw [show l.length - i = l.length - (i + 1) + 1 by omega, trm_stays hi h]
open Classical in
/-- What is wrong with a selection whose roots are asked for. -/
noncomputable def trF (Q : List Raw) (L : List Ent) (sel : List Bm) : Nat × Option Nat := if (chkG Q L sel).1 = 0 then (if bX Q L sel = sel then (0, none) else (3, none)) else chkG Q L sel
open Classical in
/-- What Roots answers. -/
noncomputable def trR (Q : List Raw) (L : List Ent) (sel : List Bm) : List Bm := if (trF Q L sel).1 = 0 then trX Q L sel else []
theorem trF_bad {Q : List Raw} {L : List Ent} {sel : List Bm} (h : ¬ (chkG Q L sel).1 = 0) : trF Q L sel = chkG Q L sel := if_neg h
theorem trF_other {Q : List Raw} {L : List Ent} {sel : List Bm} (h : (chkG Q L sel).1 = 0) (h2 : ¬ bX Q L sel = sel) : trF Q L sel = (3, none) := by unfold trF; rw [if_pos h, if_neg h2]
theorem trF_good {Q : List Raw} {L : List Ent} {sel : List Bm} (h : (chkG Q L sel).1 = 0) (h2 : bX Q L sel = sel) : trF Q L sel = (0, none) := by unfold trF; rw [if_pos h, if_pos h2]
theorem trR_bad {Q : List Raw} {L : List Ent} {sel : List Bm} (h : ¬ (chkG Q L sel).1 = 0) : trR Q L sel = [] := by unfold trR; rw [trF_bad h, if_neg h]
theorem trR_other {Q : List Raw} {L : List Ent} {sel : List Bm} (h : (chkG Q L sel).1 = 0) (h2 : ¬ bX Q L sel = sel) : trR Q L sel = [] := by unfold trR; rw [trF_other h h2, if_neg (by decide)]
theorem trR_good {Q : List Raw} {L : List Ent} {sel : List Bm} (h : (chkG Q L sel).1 = 0) (h2 : bX Q L sel = sel) : trR Q L sel = trX Q L sel := by unfold trR; rw [trF_good h h2, if_pos rfl]
theorem trm_len {g : List Bm → Bool} : ∀ (n : Nat) (l : List Bm) (i : Nat), (trm g n l i).length ≤ l.length
  | 0, l, i => Nat.le_refl _
  | n + 1, l, i => by
    unfold trm
    split
    · split
      · exact Nat.le_trans (trm_len n _ i) (List.eraseIdx_sublist _ _).length_le
      · exact trm_len n l (i + 1)
    · exact Nat.le_refl _
theorem trR_len (Q : List Raw) (L : List Ent) (sel : List Bm) : (trR Q L sel).length ≤ sel.length := by
  unfold trR
  split
  · exact trm_len _ _ _
  · simp
theorem trF_same {Q Q' : List Raw} {L : List Ent} (h : Q.map (fun r => r.1) = Q'.map (fun r => r.1)) (sel : List Bm) : trF Q L sel = trF Q' L sel := by unfold trF; rw [chkG_same h, bX_same h]
theorem gB_same {Q Q' : List Raw} {L : List Ent} (h : Q.map (fun r => r.1) = Q'.map (fun r => r.1)) (sel : List Bm) : gB Q L sel = gB Q' L sel := by
  funext R
  unfold gB
  rw [bX_same h]
theorem trR_same {Q Q' : List Raw} {L : List Ent} (h : Q.map (fun r => r.1) = Q'.map (fun r => r.1)) (sel : List Bm) : trR Q L sel = trR Q' L sel := by unfold trR trX; rw [trF_same h, gB_same h]
/-- What is wrong with two lists, the first one first. -/
def smF (Q : List Raw) (L : List Ent) (a b : List Bm) : Nat × Option Nat := if (chkG Q L a).1 = 0 then rF Q L b else chkG Q L a
open Classical in
/-- Do both build the same? -/
noncomputable def smB (Q : List Raw) (L : List Ent) (a b : List Bm) : Bool := if (smF Q L a b).1 = 0 then decide (bX Q L b = bX Q L a) else false
theorem smF_a {Q : List Raw} {L : List Ent} {a b : List Bm} (h : ¬ (chkG Q L a).1 = 0) : smF Q L a b = chkG Q L a := if_neg h
theorem smF_b {Q : List Raw} {L : List Ent} {a b : List Bm} (h : (chkG Q L a).1 = 0) : smF Q L a b = rF Q L b := if_pos h
theorem smB_a {Q : List Raw} {L : List Ent} {a b : List Bm} (h : ¬ (chkG Q L a).1 = 0) : smB Q L a b = false := by unfold smB; rw [smF_a h, if_neg h]
theorem smB_b {Q : List Raw} {L : List Ent} {a b : List Bm} (h : (chkG Q L a).1 = 0) (h2 : ¬ (chkG Q L b).1 = 0) : smB Q L a b = false := by unfold smB; rw [smF_b h, rF_bad h2, if_neg h2]
theorem smB_good {Q : List Raw} {L : List Ent} {a b : List Bm} (h : (chkG Q L a).1 = 0) (h2 : (chkG Q L b).1 = 0) : smB Q L a b = true ↔ bX Q L b = bX Q L a := by unfold smB; rw [smF_b h, rF_good h2, if_pos rfl, decide_eq_true_iff]
theorem smF_same {Q Q' : List Raw} {L : List Ent} (h : Q.map (fun r => r.1) = Q'.map (fun r => r.1)) (a b : List Bm) : smF Q L a b = smF Q' L a b := by unfold smF; rw [chkG_same h, rF_same h]
theorem smB_same {Q Q' : List Raw} {L : List Ent} (h : Q.map (fun r => r.1) = Q'.map (fun r => r.1)) (a b : List Bm) : smB Q L a b = smB Q' L a b := by unfold smB; rw [smF_same h, bX_same h, bX_same h]
end Ve
end Go.Proofs.YtacggkigfjpfnaaGreatDoor

/-
  What without, builds, Roots and Same of package trim answer; nothing old in memory turns.
-/
namespace Go.Proofs.YtacggkigfjpfnaaGreatDoor
open Go.RowKit Go.Maps
namespace Ve

set_option maxHeartbeats 1000000 in
theorem woK_any (x m : Bm) (b : Nat) (W : World) (h0 : W.cell? ⟨b, 0, none⟩ = some (.string m.1)) (h1 : W.cell? ⟨b, 1, none⟩ = some (.string m.2)) :
    Calls Tryz.prog 39 (#[.agg #[.string x.1, .string x.2]] ++ #[.pointer (some ⟨b, 0, none⟩)]) W fun e w' => e = .returned (.bool (eqM x m)) ∧ Below W.heap.size W w' := by
  have heq := fun W => eqM_run x m W
  have hgd := modGuard
  generalize eqM x m = z at *
  obtain ⟨p, v⟩ := x
  obtain ⟨q, u⟩ := m
  simp only at h0 h1 heq
  show Calls Tryz.prog 39 #[.agg #[.string p, .string v], .pointer (some ⟨b, 0, none⟩)] W _
  have HB0 := hid ((Below.refl W.heap.size W).alloc (Nat.le_refl _) (.cells #[.string p, .string v] 45))
  have c0 := cell_below HB0.out h0
  have c1 := cell_below HB0.out h1
  have hbb : ¬ b = W.heap.size := by have := lt_of_cell h0; simp at this; omega
  have hbb2 : ¬ W.heap.size = b := fun h => hbb h.symm
  go_enter Tryz.func39, Tryz.ntmps39
  go_wp2_with fail
  go_ret
  exact ⟨rfl, HB0.out⟩
set_option maxHeartbeats 1000000 in
/-- trim.without: a new row. -/
theorem wo_any (D : List Bm) (m : Bm) (v : Value) (w : World) (hD : D.length ≤ 1000000) (hv : MsAt w v D) (hem : Em v D) :
    Calls Tryz.prog 23 #[v, .agg #[.string m.1, .string m.2]] w fun e w' => ∃ a c, e = .returned (.slice a (woM D m).length c) ∧ Mr w w' (.slice a (woM D m).length c) (woM D m) := by
  have eg : ∀ args w, (callFunc 39 args).run Tryz.prog w = .ok (.enter 39 args) w := enters_of Tryz.func39 (by kernel_rfl) rfl
  have HB0 := hid ((Below.refl w.heap.size w).alloc (Nat.le_refl _) (.cells #[.string m.1, .string m.2] 45))
  have HCL := hid (cloneM_any v D _ hD (hv.below HB0.out) hem)
  have HDE := hid (fun W u (hR : Mr (w.alloc (.cells #[.string m.1, .string m.2] 45)) W u D) => delP_mr 39 #[.pointer (some ⟨w.heap.size, 0, none⟩)] (fun x => eqM x m) _ W u D eg hD hR (fun x W' hW => woK_any x m w.heap.size W' (cell_below hW (by simp)) (cell_below hW (by simp))))
  obtain ⟨va, vn, vc, hv1⟩ := hv.slice
  subst hv1
  obtain ⟨p, q⟩ := m
  have HKL := hid (show kpL (fun x => eqM x (p, q)) D = woM D (p, q) from rfl)
  rw [HKL.out] at HDE
  generalize woM D (p, q) = E at *
  clear hv hem eg HKL
  go_enter Tryz.func23, Tryz.ntmps23
  go_wp2_with fail
  refine HCL.out.mono ?_
  rintro e w1 ⟨a, c, rfl, hm⟩
  have HD1 := hid (HDE.out w1 _ hm)
  clear hm HDE HCL
  go_wp2_with fail
  refine HD1.out.mono ?_
  rintro e w2 ⟨a2, c2, rfl, hm⟩
  have HM := hid (hm.base HB0.out)
  clear hm HD1
  go_wp2_with fail
  go_ret
  exact ⟨_, _, rfl, HM.out⟩
open Classical in
/-- Is just this selection built of the roots? -/
noncomputable def blB (Q : List Raw) (L : List Ent) (roots sel : List Bm) : Bool := if (chkG Q L roots).1 = 0 then decide (bX Q L roots = sel) else false
theorem blB_bad {Q : List Raw} {L : List Ent} {roots sel : List Bm} (h : ¬ (chkG Q L roots).1 = 0) : blB Q L roots sel = false := if_neg h
theorem blB_good {Q : List Raw} {L : List Ent} {roots sel : List Bm} (h : (chkG Q L roots).1 = 0) : blB Q L roots sel = decide (bX Q L roots = sel) := by
  unfold blB
  rw [if_pos h]
theorem blB_g {Q : List Raw} {L : List Ent} {roots sel : List Bm} (h : (chkG Q L roots).1 = 0) : blB Q L roots sel = gB Q L sel roots := by
  unfold blB gB
  rw [if_pos h]
set_option maxRecDepth 100000 in
set_option maxHeartbeats 2000000 in
theorem bl_good (Q : List Raw) (L : List Ent) (roots sel : List Bm) (v rv sv : Value) (A : Nat → Addr) (m : Int) (w : World) (hn : L.length ≤ 1000) (hrn : roots.length ≤ 1000000) (sh : ∀ e, e ∈ L → ShE e) (S : Te w A m) (I : Ixs w v Q L) (hr : MsAt w rv roots) (hs : MsAt w sv sel) (h0 : (chkG Q L roots).1 = 0) :
    Calls Tryz.prog 21 #[v, rv, sv] w fun e w' => e = .returned (.tuple #[.bool (blB Q L roots sel), .nilIface]) ∧ Below w.heap.size w w' := by
  have HBU := hid (build_all Q L roots v rv A m w hn hrn sh S I hr)
  rw [rF_good h0] at HBU
  have HL := hid (show (bX Q L roots).length ≤ 1000000 from Nat.le_trans bX_len (by omega))
  have HZ := hid (blB_good (sel := sel) h0)
  have HS := hid (fun W (h : Below w.heap.size w W) => hs.below h)
  obtain ⟨a0, c0, hv0, -⟩ := id I.es
  subst hv0
  obtain ⟨ra, rc, hu0, -⟩ := id hr
  subst hu0
  obtain ⟨sa, sc, hs0, -⟩ := id hs
  subst hs0
  clear S I hr hs sh h0
  generalize bX Q L roots = X at *
  go_enter Tryz.func21, Tryz.ntmps21
  go_wp2_with fail
  refine HBU.out.mono ?_
  rintro e w1 ⟨xa, xc, x, rfl, hm, he⟩
  have he : x = .nilIface := he
  subst he
  have HB1 := hid hm.1
  have HEQ := hid (eqQ_any X sel _ _ w1 HL.out hm.ms (HS.out _ hm.1))
  rw [← HZ.out] at HEQ
  clear hm HBU
  obtain ⟨z, hz⟩ : ∃ z, blB Q L roots sel = z := ⟨_, rfl⟩
  rw [hz] at HEQ
  have HZ2 := hid hz
  clear hz
  go_wp2_with fail
  refine HEQ.out.mono ?_
  rintro e w2 ⟨rfl, hb⟩
  have HB2 := hid (HB1.out.trans (hb.mono HB1.out.size))
  clear hb
  go_wp2_with fail
  go_ret2
  exact ⟨by rw [HZ2.out]; rfl, HB2.out⟩
set_option maxRecDepth 100000 in
set_option maxHeartbeats 2000000 in
theorem bl_bad (Q : List Raw) (L : List Ent) (roots : List Bm) (v rv : Value) (sa : Option Addr) (sn sc : Nat) (A : Nat → Addr) (m : Int) (w : World) (hn : L.length ≤ 1000) (hrn : roots.length ≤ 1000000) (sh : ∀ e, e ∈ L → ShE e) (S : Te w A m) (I : Ixs w v Q L) (hr : MsAt w rv roots) (h0 : ¬ (chkG Q L roots).1 = 0) :
    Calls Tryz.prog 21 #[v, rv, .slice sa sn sc] w fun e w' => ∃ T a, e = .returned (.tuple #[.bool false, .iface T (.pointer (some a))]) ∧ ErrAt w' A (.iface T (.pointer (some a))) (chkG Q L roots).1 (chkG Q L roots).2 ∧ Below w.heap.size w w' := by
  have HBU := hid (build_bad Q L roots v rv A m w hn hrn sh S I hr h0)
  obtain ⟨a0, c0, hv0, -⟩ := id I.es
  subst hv0
  obtain ⟨ra, rc, hu0, -⟩ := id hr
  subst hu0
  clear S I hr sh h0
  generalize chkG Q L roots = R at *
  go_enter Tryz.func21, Tryz.ntmps21
  go_wp2_with fail
  refine HBU.out.mono ?_
  rintro e w1 ⟨T, a, rfl, he, hb⟩
  have HE := hid he
  have HB := hid hb
  clear he hb HBU
  go_wp2_with fail
  go_ret2
  exact ⟨_, _, rfl, HE.out, HB.out⟩
set_option maxRecDepth 100000 in
set_option maxHeartbeats 2000000 in
theorem roots_bad (Q : List Raw) (L : List Ent) (sel : List Bm) (v sv : Value) (A : Nat → Addr) (m : Int) (w : World) (hn : L.length ≤ 1000) (hsn : sel.length ≤ 1000000) (sh : ∀ e, e ∈ L → ShE e) (S : Te w A m) (I : Ixs w v Q L) (hs : MsAt w sv sel) (h0 : ¬ (chkG Q L sel).1 = 0) :
    Calls Tryz.prog 11 #[v, sv] w fun e w' => ∃ T a, e = .returned (.tuple #[.slice none 0 0, .iface T (.pointer (some a))]) ∧ ErrAt w' A (.iface T (.pointer (some a))) (chkG Q L sel).1 (chkG Q L sel).2 ∧ Below w.heap.size w w' := by
  obtain ⟨sa, sc, hs0, -⟩ := id hs
  subst hs0
  have HBU := hid (bl_bad Q L sel v _ sa sel.length sc A m w hn hsn sh S I hs h0)
  obtain ⟨a0, c0, hv0, -⟩ := id I.es
  subst hv0
  clear S I hs sh h0
  generalize chkG Q L sel = R at *
  go_enter Tryz.func11, Tryz.ntmps11
  go_wp2_with fail
  refine HBU.out.mono ?_
  rintro e w1 ⟨T, a, rfl, he, hb⟩
  have HE := hid he
  have HB := hid hb
  clear he hb HBU
  go_wp2_with fail
  go_ret2
  exact ⟨_, _, rfl, HE.out, HB.out⟩
set_option maxRecDepth 100000 in
set_option maxHeartbeats 2000000 in
theorem roots_other (Q : List Raw) (L : List Ent) (sel : List Bm) (v sv : Value) (A : Nat → Addr) (m : Int) (w : World) (hn : L.length ≤ 1000) (hsn : sel.length ≤ 1000000) (sh : ∀ e, e ∈ L → ShE e) (S : Te w A m) (I : Ixs w v Q L) (hs : MsAt w sv sel) (h0 : (chkG Q L sel).1 = 0) (h1 : ¬ bX Q L sel = sel) :
    Calls Tryz.prog 11 #[v, sv] w fun e w' => e = .returned (.tuple #[.slice none 0 0, errA A 3]) ∧ Below w.heap.size w w' := by
  obtain ⟨sa, sc, hs0, -⟩ := id hs
  subst hs0
  have HBU := hid (bl_good Q L sel sel v _ _ A m w hn hsn sh S I hs hs h0)
  rw [blB_good h0, decide_eq_false h1] at HBU
  have HS := hid S
  obtain ⟨a0, c0, hv0, -⟩ := id I.es
  subst hv0
  clear S I hs sh h0 h1
  rw [errA_if A (show (3 : Nat) ≠ 0 by decide)]
  go_enter Tryz.func11, Tryz.ntmps11
  go_wp2_with fail
  refine HBU.out.mono ?_
  rintro e w1 ⟨rfl, hb⟩
  have HB := hid hb
  have g2 := (HS.out.below hb).sen.g2
  clear hb HBU
  go_wp2_with fail
  go_region_with fail
  all_goals
    go_wp2_with fail
    go_ret2
    exact ⟨rfl, below_drawn_of HB.out _⟩
set_option maxRecDepth 100000 in
set_option maxHeartbeats 4000000 in
theorem roots_good (Q : List Raw) (L : List Ent) (sel : List Bm) (v sv : Value) (A : Nat → Addr) (m : Int) (w : World) (hn : L.length ≤ 1000) (hsn : sel.length ≤ 1000000) (sh : ∀ e, e ∈ L → ShE e) (S : Te w A m) (I : Ixs w v Q L) (hs : MsAt w sv sel) (hem : Em sv sel) (h0 : (chkG Q L sel).1 = 0) (h1 : bX Q L sel = sel) :
    Calls Tryz.prog 11 #[v, sv] w fun e w' => ∃ a c, e = .returned (.tuple #[.slice a (trX Q L sel).length c, .nilIface]) ∧ Mr w w' (.slice a (trX Q L sel).length c) (trX Q L sel) := by
  have HUN := hid (show ∀ x, x ∈ sel → x ∈ univ L from fun x hx => by rw [← h1] at hx; exact bX_univ x hx)
  have HTR := hid (show lfN (gB Q L sel) sel sel.length = trX Q L sel from lfN_all (rising_nodup (by rw [← h1]; exact (bX_jn Q L sel).ri)))
  obtain ⟨sa, sc, hs0, -⟩ := id hs
  subst hs0
  have HBU := hid (bl_good Q L sel sel v _ _ A m w hn hsn sh S I hs hs h0)
  rw [blB_good h0, decide_eq_true h1] at HBU
  have HCL := hid (fun W (h : Below w.heap.size w W) => cloneM_any _ sel W hsn (hs.below h) hem)
  have HS := hid (fun W (h : Below w.heap.size w W) => hs.below h)
  have HBL := hid (fun (E : List Bm) W u (h : Below w.heap.size w W) (hE : E.Sublist sel) (hu : MsAt W u E) => show Calls Tryz.prog 21 #[v, u, .slice sa sel.length sc] W fun e w' => e = .returned (.tuple #[.bool (gB Q L sel E), .nilIface]) ∧ Below W.heap.size W w' by
    have hg : (chkG Q L E).1 = 0 := chkG_in I (chkG_chk h0) fun x hx => HUN.out x (hE.subset hx)
    have := bl_good Q L E sel v u _ A m W hn (Nat.le_trans hE.length_le hsn) sh (S.below h) (I.below h) hu (hs.below h) hg
    rw [blB_g hg] at this
    exact this)
  generalize trX Q L sel = TX at *
  generalize gB Q L sel = g at *
  obtain ⟨a0, c0, hv0, -⟩ := id I.es
  subst hv0
  clear S I hs sh h0 h1 hem HUN
  go_enter Tryz.func11, Tryz.ntmps11
  go_wp2_with fail
  refine HBU.out.mono ?_
  rintro e w1 ⟨rfl, hb⟩
  have HB1 := hid hb
  clear hb HBU
  go_wp2_with fail
  refine (HCL.out w1 HB1.out).mono ?_
  rintro e w2 ⟨la, lc, rfl, hm⟩
  have HM2 := hid (hm.base HB1.out)
  clear hm HCL HB1
  go_wp2_with fail
  go_loopw [8, 31] (fun lv iv wr => ∃ (i : Nat) (a : Option Addr) (c : Nat), i ≤ sel.length ∧ lv = .slice a (lfN g sel i).length c ∧ iv = .int .i64 i ∧ Hid (Mr w wr (.slice a (lfN g sel i).length c) (lfN g sel i))) (fun _ iv _ => sel.length - (intOf iv).toNat)
  case atStart => exact ⟨0, la, lc, Nat.zero_le _, rfl, rfl, HM2⟩
  case round =>
    obtain ⟨i, a, c, hi, rfl, rfl, HM⟩ := hrel
    by_cases hlt : i < sel.length
    · have hiI := ix_lt hlt
      have hii := ix_pos i
      have HLI := hid hlt
      obtain ⟨sb, so, hsa, y0, y1⟩ := (HS.out _ HM.out.1).cells hlt
      subst hsa
      have HSU := hid (lfN_sub g sel i)
      have HGO := hid (lfN_goes (g := g) hlt)
      have HST := hid (lfN_stays (g := g) hlt)
      generalize sel[i] = x at *
      obtain ⟨x1, x2⟩ := x
      obtain ⟨X, hX⟩ : ∃ X, lfN g sel i = X := ⟨_, rfl⟩
      rw [hX] at HM HSU HGO HST ⊢
      clear hX hlt
      have HWO := hid (fun W (h : Below wr.heap.size wr W) => wo_any X (x1, x2) _ W (Nat.le_trans HSU.out.length_le hsn) (HM.out.ms.below h) HM.out.em)
      have HWS := hid ((woM_sub X (x1, x2)).trans HSU.out)
      simp only at y0 y1
      generalize woM X (x1, x2) = E at *
      have HBX := hid ((Below.refl wr.heap.size wr).alloc (Nat.le_refl _) (.cells #[.string x1, .string x2] 45))
      have HBY := hid (HM.out.1.trans (HBX.out.mono HM.out.1.size))
      go_wp2_with fail
      refine (HWO.out _ HBX.out).mono ?_
      rintro e w3 ⟨ea, ec, rfl, hm⟩
      have HM3 := hid (hm.base HBY.out)
      have HL3 := hid ((HM.out.below HBX.out).below hm.1)
      have HB3 := hid (HBL.out E w3 _ HM3.out.1 HWS.out HM3.out.ms)
      clear hm HWO HM HBL y0 y1
      go_wp2_with fail
      refine HB3.out.mono ?_
      rintro e w4 ⟨rfl, hb⟩
      have HM4 := hid (HM3.out.below hb)
      have HL4 := hid (HL3.out.below hb)
      clear hb HB3 HM3 HL3
      cases hz : g E
      · have HN := hid (HST.out hz)
        clear hz HST HGO
        go_wp2_with fail
        go_roundw
        case rel => first | exact ⟨i + 1, a, c, HLI.out, by rw [HN.out], nr_idx i, hid (by rw [HN.out]; exact HL4.out)⟩ | exact ⟨i + 1, a, c, HLI.out, by rw [HN.out], nx_idx HLI.out hsn, hid (by rw [HN.out]; exact HL4.out)⟩
        case measure => first | exact nr_meas HLI.out | exact nx_meas HLI.out hsn
      · have HN := hid (HGO.out hz)
        clear hz HST HGO
        go_wp2_with fail
        go_roundw
        case rel => first | exact ⟨i + 1, ea, ec, HLI.out, by rw [HN.out], nr_idx i, hid (by rw [HN.out]; exact HM4.out)⟩ | exact ⟨i + 1, ea, ec, HLI.out, by rw [HN.out], nx_idx HLI.out hsn, hid (by rw [HN.out]; exact HM4.out)⟩
        case measure => first | exact nr_meas HLI.out | exact nx_meas HLI.out hsn
    · have hiI := ix_nlt hlt
      have hie : i = sel.length := Nat.le_antisymm hi (Nat.le_of_not_lt hlt)
      subst hie
      rw [HTR.out] at HM ⊢
      clear hlt HTR
      go_wp2_with fail
      go_ret2
      exact ⟨_, _, rfl, HM.out⟩
/-- trim.Roots. -/
theorem roots_all (Q : List Raw) (L : List Ent) (sel : List Bm) (v sv : Value) (A : Nat → Addr) (m : Int) (w : World) (hn : L.length ≤ 1000) (hsn : sel.length ≤ 1000000) (sh : ∀ e, e ∈ L → ShE e) (S : Te w A m) (I : Ixs w v Q L) (hs : MsAt w sv sel) (hem : Em sv sel) :
    Calls Tryz.prog 11 #[v, sv] w fun e w' => ∃ a c x, e = .returned (.tuple #[.slice a (trR Q L sel).length c, x]) ∧ Mr w w' (.slice a (trR Q L sel).length c) (trR Q L sel) ∧ ErrAt w' A x (trF Q L sel).1 (trF Q L sel).2 := by
  by_cases h0 : (chkG Q L sel).1 = 0
  · by_cases h1 : bX Q L sel = sel
    · refine (roots_good Q L sel v sv A m w hn hsn sh S I hs hem h0 h1).mono ?_
      rintro e w' ⟨a, c, rfl, hm⟩
      rw [trR_good h0 h1, trF_good h0 h1]
      exact ⟨a, c, _, rfl, hm, rfl⟩
    · refine (roots_other Q L sel v sv A m w hn hsn sh S I hs h0 h1).mono ?_
      rintro e w' ⟨rfl, hb⟩
      rw [trR_other h0 h1, trF_other h0 h1]
      exact ⟨_, _, _, rfl, mr_nil0 hb, rfl⟩
  · refine (roots_bad Q L sel v sv A m w hn hsn sh S I hs h0).mono ?_
    rintro e w' ⟨T, a, rfl, he, hb⟩
    rw [trR_bad h0, trF_bad h0]
    exact ⟨_, _, _, rfl, mr_nil0 hb, he⟩
set_option maxRecDepth 100000 in
set_option maxHeartbeats 2000000 in
theorem same_a (Q : List Raw) (L : List Ent) (a b : List Bm) (v av bv : Value) (A : Nat → Addr) (m : Int) (w : World) (hn : L.length ≤ 1000) (han : a.length ≤ 1000000) (sh : ∀ e, e ∈ L → ShE e) (S : Te w A m) (I : Ixs w v Q L) (ha : MsAt w av a) (hb : MsAt w bv b) (h0 : ¬ (chkG Q L a).1 = 0) :
    Calls Tryz.prog 13 #[v, av, bv] w fun e w' => ∃ T x, e = .returned (.tuple #[.bool false, .iface T (.pointer (some x))]) ∧ ErrAt w' A (.iface T (.pointer (some x))) (chkG Q L a).1 (chkG Q L a).2 ∧ Below w.heap.size w w' := by
  have HBU := hid (build_bad Q L a v av A m w hn han sh S I ha h0)
  obtain ⟨a0, c0, hv0, -⟩ := id I.es
  subst hv0
  obtain ⟨aa, ac, hu0, -⟩ := id ha
  subst hu0
  obtain ⟨ba, bc, hs0, -⟩ := id hb
  subst hs0
  clear S I ha hb sh h0
  generalize chkG Q L a = R at *
  go_enter Tryz.func13, Tryz.ntmps13
  go_wp2_with fail
  refine HBU.out.mono ?_
  rintro e w1 ⟨T, x, rfl, he, hb⟩
  have HE := hid he
  have HB := hid hb
  clear he hb HBU
  go_wp2_with fail
  go_ret2
  exact ⟨_, _, rfl, HE.out, HB.out⟩
set_option maxRecDepth 100000 in
set_option maxHeartbeats 2000000 in
theorem same_b (Q : List Raw) (L : List Ent) (a b : List Bm) (v av bv : Value) (A : Nat → Addr) (m : Int) (w : World) (hn : L.length ≤ 1000) (han : a.length ≤ 1000000) (hbn : b.length ≤ 1000000) (sh : ∀ e, e ∈ L → ShE e) (S : Te w A m) (I : Ixs w v Q L) (ha : MsAt w av a) (hb : MsAt w bv b) (h0 : (chkG Q L a).1 = 0) :
    Calls Tryz.prog 13 #[v, av, bv] w fun e w' => ∃ x, e = .returned (.tuple #[.bool (blB Q L b (bX Q L a)), x]) ∧ ErrAt w' A x (rF Q L b).1 (rF Q L b).2 ∧ Below w.heap.size w w' := by
  have HBU := hid (build_all Q L a v av A m w hn han sh S I ha)
  rw [rF_good h0] at HBU
  have HBL := hid (fun W sa sc (h : Below w.heap.size w W) (hu : MsAt W (.slice sa (bX Q L a).length sc) (bX Q L a)) => show Calls Tryz.prog 21 #[v, bv, .slice sa (bX Q L a).length sc] W fun e w' => ∃ x, e = .returned (.tuple #[.bool (blB Q L b (bX Q L a)), x]) ∧ (x = .nilIface ∨ ∃ T p, x = .iface T (.pointer (some p))) ∧ ErrAt w' A x (rF Q L b).1 (rF Q L b).2 ∧ Below W.heap.size W w' by
    by_cases h1 : (chkG Q L b).1 = 0
    · refine (bl_good Q L b (bX Q L a) v bv _ A m W hn hbn sh (S.below h) (I.below h) (hb.below h) hu h1).mono ?_
      rintro e w' ⟨rfl, hb'⟩
      rw [rF_good h1]
      exact ⟨_, rfl, Or.inl rfl, rfl, hb'⟩
    · refine (bl_bad Q L b v bv sa _ sc A m W hn hbn sh (S.below h) (I.below h) (hb.below h) h1).mono ?_
      rintro e w' ⟨T, p, rfl, he, hb'⟩
      rw [rF_bad h1, blB_bad h1]
      exact ⟨_, rfl, Or.inr ⟨_, _, rfl⟩, he, hb'⟩)
  obtain ⟨a0, c0, hv0, -⟩ := id I.es
  subst hv0
  obtain ⟨aa, ac, hu0, -⟩ := id ha
  subst hu0
  obtain ⟨ba, bc, hs0, -⟩ := id hb
  subst hs0
  clear S I ha hb sh h0
  generalize blB Q L b (bX Q L a) = z at *
  generalize bX Q L a = X at *
  generalize rF Q L b = R at *
  go_enter Tryz.func13, Tryz.ntmps13
  go_wp2_with fail
  refine HBU.out.mono ?_
  rintro e w1 ⟨xa, xc, x, rfl, hm, he⟩
  have he : x = .nilIface := he
  subst he
  have HB1 := hid hm.1
  have HC := hid (HBL.out w1 _ _ hm.1 hm.ms)
  clear hm HBU HBL
  go_wp2_with fail
  refine HC.out.mono ?_
  rintro e w2 ⟨x, rfl, hk, he, hb⟩
  have HE := hid he
  have HB2 := hid (HB1.out.trans (hb.mono HB1.out.size))
  clear hb he
  go_wp2_with fail
  go_ret2
  exact ⟨_, rfl, HE.out, HB2.out⟩
/-- trim.Same. -/
theorem tsame_all (Q : List Raw) (L : List Ent) (a b : List Bm) (v av bv : Value) (A : Nat → Addr) (m : Int) (w : World) (hn : L.length ≤ 1000) (han : a.length ≤ 1000000) (hbn : b.length ≤ 1000000) (sh : ∀ e, e ∈ L → ShE e) (S : Te w A m) (I : Ixs w v Q L) (ha : MsAt w av a) (hb : MsAt w bv b) :
    Calls Tryz.prog 13 #[v, av, bv] w fun e w' => ∃ x, e = .returned (.tuple #[.bool (smB Q L a b), x]) ∧ ErrAt w' A x (smF Q L a b).1 (smF Q L a b).2 ∧ Below w.heap.size w w' := by
  by_cases h0 : (chkG Q L a).1 = 0
  · have e : blB Q L b (bX Q L a) = smB Q L a b := by
      by_cases h1 : (chkG Q L b).1 = 0
      · rw [Bool.eq_iff_iff, smB_good h0 h1, blB_good h1, decide_eq_true_iff]
      · rw [blB_bad h1, smB_b h0 h1]
    refine (same_b Q L a b v av bv A m w hn han hbn sh S I ha hb h0).mono ?_
    rintro e' w' ⟨x, rfl, he, hb'⟩
    rw [e, smF_b h0]
    exact ⟨_, rfl, he, hb'⟩
  · refine (same_a Q L a b v av bv A m w hn han sh S I ha hb h0).mono ?_
    rintro e w' ⟨T, x, rfl, he, hb'⟩
    rw [smB_a h0, smF_a h0]
    exact ⟨_, rfl, he, hb'⟩
end Ve
end Go.Proofs.YtacggkigfjpfnaaGreatDoor

/-
  The closed fact of chapter 9 (trimmed): one root will do.
-/
namespace Go.Proofs.YtacggkigfjpfnaaGreatDoor
open Go.RowKit Go.Maps
namespace Ve

theorem tm_chkS (g : Nat) : (chkG (smQ g) smL [ma1, mb0]).1 = 0 := by
  rw [chkG_ok (by rw [sm_chk])]
  show codeE (nonE (smQ g) [ma1, mb0]) 2 = 0
  kernel_rfl
theorem tm_chkB (g : Nat) : (chkG (smQ g) smL [mb0]).1 = 0 := by
  rw [chkG_ok (by rw [sm_chk])]
  show codeE (nonE (smQ g) [mb0]) 1 = 0
  kernel_rfl
theorem tm_jn : Jn [ma1, mb0] [ma1, mb0] := ⟨sm_jn.ri, fun e he => ⟨he, (sm_jn.sub e he).2⟩, fun x hx h0 => ⟨x, hx, rfl, ordV_selfJ h0⟩⟩
theorem tm_rch1 {g : Nat} (m : Bm) : Rch (reqQ (smQ g) smL) [ma1] m ↔ m ∈ [ma1, mb0] := by
  refine ⟨fun h => ?_, fun h => ?_⟩
  · rcases sm_rch h with rfl | rfl <;> simp
  · rcases List.mem_cons.1 h with rfl | h
    · exact .root (by simp)
    · rw [List.mem_singleton.1 h]
      exact .step (.root (show ma1 ∈ [ma1] by simp)) (by rw [sm_r1]; simp)
theorem tm_rchS {g : Nat} (m : Bm) : Rch (reqQ (smQ g) smL) [ma1, mb0] m ↔ m ∈ [ma1, mb0] := by
  refine ⟨fun h => ?_, fun h => .root h⟩
  induction h with
  | root hr => exact hr
  | step _ hr ih =>
    rcases List.mem_cons.1 ih with rfl | ih
    · rw [sm_r1] at hr; rw [List.mem_singleton.1 hr]; simp
    · rw [List.mem_singleton.1 ih, sm_rb] at hr; cases hr
theorem tm_rchB {g : Nat} {m : Bm} (h : Rch (reqQ (smQ g) smL) [mb0] m) : m = mb0 := by
  induction h with
  | root hr => exact List.mem_singleton.1 hr
  | step _ hr ih => rw [ih, sm_rb] at hr; cases hr
theorem bX_ofT {w : World} {v : Value} {Q : List Raw} {L : List Ent} {roots D E : List Bm} (I : Ixs w v Q L) (h : (chkG Q L roots).1 = 0) (hm : ∀ m, Rch (reqQ Q L) roots m ↔ m ∈ D) (hj : Jn D E) : bX Q L roots = E :=
  (bX_jn Q L roots).one hj (fun m _ => (rX_mem I h).trans (hm m))
theorem tm_bS {w : World} {v : Value} {g : Nat} (I : Ixs w v (smQ g) smL) : bX (smQ g) smL [ma1, mb0] = [ma1, mb0] := bX_ofT I (tm_chkS g) tm_rchS tm_jn
theorem tm_b1 {w : World} {v : Value} {g : Nat} (I : Ixs w v (smQ g) smL) : bX (smQ g) smL [ma1] = [ma1, mb0] := bX_ofT I (sm_chkG g) tm_rch1 tm_jn
theorem tm_bB {w : World} {v : Value} {g : Nat} (I : Ixs w v (smQ g) smL) : ¬ bX (smQ g) smL [mb0] = [ma1, mb0] := fun e => by
  have h : ma1 ∈ bX (smQ g) smL [mb0] := by rw [e]; simp
  exact absurd (congrArg (fun m : Bm => m.1.data) (tm_rchB (bX_in I (tm_chkB g) h))) (by decide)
theorem tm_trX {w : World} {v : Value} {g : Nat} (I : Ixs w v (smQ g) smL) : trX (smQ g) smL [ma1, mb0] = [ma1] := by
  unfold trX trmA
  show trm _ (1 + 1) [ma1, mb0] 0 = _
  rw [trm_stays (by decide) (gB_not.2 (tm_bB I))]
  show trm _ (0 + 1) [ma1, mb0] 1 = _
  rw [trm_goes (by decide) (gB_iff.2 (tm_b1 I))]
  rfl
set_option maxRecDepth 100000 in
set_option maxHeartbeats 4000000 in
/-- pewholderlaw2.trimmed. -/
theorem trimd_any (A : Nat → Addr) (m : Int) (w : World) (S : Te w A m) : Calls Tryz.prog 5 #[] w fun e w' => e = .returned (.bool true) ∧ Below w.heap.size w w' := by
  have HSM := hid smallI_any
  have HS := hid S
  clear S
  go_enter Tryz.func5, Tryz.ntmps5
  go_wp2_with fail
  refine (HSM.out w).mono ?_
  rintro e w1 ⟨g, q, rfl, hix, hb⟩
  have hBa := (Below.refl w1.heap.size w1).alloc (Nat.le_refl _) (.cells #[.string ⟨#[97]⟩, .string ⟨#[118, 49, 46, 49, 46, 48]⟩, .string ⟨#[98]⟩, .string ⟨#[118, 48, 46, 49, 46, 48]⟩] 45)
  have hB1 := hb.trans (hBa.mono hb.size)
  have hms : MsAt (w1.alloc (.cells #[.string ⟨#[97]⟩, .string ⟨#[118, 49, 46, 49, 46, 48]⟩, .string ⟨#[98]⟩, .string ⟨#[118, 48, 46, 49, 46, 48]⟩] 45)) (.slice (some ⟨w1.heap.size, 0, none⟩) 2 2) [ma1, mb0] := ⟨some ⟨w1.heap.size, 0, none⟩, 2, rfl, Nat.le_refl _, fun _ => ⟨w1.heap.size, 0, rfl, fun j hj => by
    have hj2 : j < 2 := hj
    rcases (by omega : j = 0 ∨ j = 1) with rfl | rfl
    · refine ⟨?_, ?_⟩ <;> (rw [Lib.cell_of_heap (heap_alloc_new w1 _)]; rfl)
    · refine ⟨?_, ?_⟩ <;> (rw [Lib.cell_of_heap (heap_alloc_new w1 _)]; rfl)⟩⟩
  have hem : Em (.slice (some ⟨w1.heap.size, 0, none⟩) 2 2) [ma1, mb0] := fun _ _ _ h => by cases h
  have HRO := hid (roots_good (smQ g) smL [ma1, mb0] _ _ A m _ (by decide) (by decide) sm_sh (HS.out.below hB1) (hix.below hBa) hms hem (tm_chkS g) (tm_bS hix))
  rw [tm_trX hix] at HRO
  have HB1 := hid hB1
  clear hix hb hBa hms hB1 hem
  go_wp2_with fail
  refine HRO.out.mono ?_
  rintro e w2 ⟨ua, uc, rfl, hm⟩
  have HB2 := hid (HB1.out.trans (hm.1.mono HB1.out.size))
  obtain ⟨ub, uo, hua, k0, k1⟩ := hm.ms.cells (k := 0) (by decide)
  subst hua
  have k0' : w2.cell? ⟨ub, uo, none⟩ = some (.string ⟨#[97]⟩) := k0
  have k1' : w2.cell? ⟨ub, uo + 1, none⟩ = some (.string ⟨#[118, 49, 46, 49, 46, 48]⟩) := k1
  have s1 : ((⟨#[97]⟩ : ByteArray).toList == (⟨#[97]⟩ : ByteArray).toList) = true := by simp
  clear hm HRO k0 k1
  go_wp2_with fail
  go_ret
  exact ⟨rfl, HB2.out⟩
end Ve
end Go.Proofs.YtacggkigfjpfnaaGreatDoor

/-
  What graph.Edges answers.
-/
namespace Go.Proofs.YtacggkigfjpfnaaGreatDoor
open Go.RowKit Go.Maps
namespace Ve

/-- How long a slice is. -/
def lenV : Value → Nat
  | .slice _ n _ => n
  | _ => 0
/-- How many requirements there are in all. -/
def sumR : List Raw → Nat
  | [] => 0
  | r :: X => lenV r.2.1 + sumR X
theorem sumR_app : ∀ (X Y : List Raw), sumR (X ++ Y) = sumR X + sumR Y
  | [], Y => by simp [sumR]
  | r :: X, Y => by rw [List.cons_append]; show lenV r.2.1 + sumR (X ++ Y) = lenV r.2.1 + sumR X + sumR Y; rw [sumR_app X Y]; omega
theorem sumR_next {X : List Raw} {k : Nat} (hk : k < X.length) : sumR (X.take (k + 1)) = sumR (X.take k) + lenV X[k].2.1 := by
  rw [List.take_succ_eq_append_getElem hk, sumR_app]
  simp [sumR]
theorem sumR_le (B : Nat) : ∀ (X : List Raw), (∀ r, r ∈ X → lenV r.2.1 ≤ B) → sumR X ≤ X.length * B
  | [], _ => by simp [sumR]
  | r :: X, h => by
    have h1 := h r (by simp)
    have h2 := sumR_le B X fun x hx => h x (by simp [hx])
    have h3 : sumR (r :: X) = lenV r.2.1 + sumR X := rfl
    rw [h3, List.length_cons, Nat.succ_mul]
    omega
theorem sumR_take_le (X : List Raw) (k : Nat) (B : Nat) (h : ∀ r, r ∈ X → lenV r.2.1 ≤ B) : sumR (X.take k) ≤ X.length * B := by
  have h1 := sumR_le B (X.take k) fun r hr => h r (List.mem_of_mem_take hr)
  have h2 : (X.take k).length ≤ X.length := by rw [List.length_take]; omega
  exact Nat.le_trans h1 (Nat.mul_le_mul_right B h2)
theorem lenV_ms {w : World} {v : Value} {R : List Bm} (h : MsAt w v R) : lenV v = R.length := by
  obtain ⟨a, c, e, -⟩ := h
  rw [e]; rfl
theorem Ixs.lenR {w : World} {v : Value} {Q : List Raw} {L : List Ent} (I : Ixs w v Q L) (sh : ∀ e, e ∈ L → ShE e) : ∀ r, r ∈ Q → lenV r.2.1 ≤ 1000000 := fun r hr => by
  obtain ⟨k, hk, rfl⟩ := List.getElem_of_mem hr
  have hk' : k < L.length := by rw [← I.ln]; exact hk
  rw [lenV_ms (I.ok k hk hk').rq]
  exact (sh _ (List.getElem_mem hk')).rn
theorem sum_idx {s n : Nat} (h : s + n ≤ 2000000000) : Value.int .i64 (wrap64 ((s : Int) + (n : Int))) = .int .i64 ((s + n : Nat) : Int) := by
  rw [IntWalk.wrap64_in _ (by omega)]; rfl
end Ve
end Go.Proofs.YtacggkigfjpfnaaGreatDoor

/-
  Elements, suffixes and slashes (plain): an element told byte by byte; the last slash; the text in two. No Go here.
-/
namespace Go.Proofs.YtacggkigfjpfnaaGreatDoor
namespace Ve

theorem dw_nil (p : UInt8 → Bool) : ∀ l : List UInt8, l.dropWhile p = [] ↔ ∀ x, x ∈ l → p x = true
  | [] => by simp
  | b :: r => by
    rw [List.dropWhile_cons]
    cases hb : p b
    · simp [hb]
    · simp [hb, dw_nil p r]
theorem trim_nil (l : List UInt8) : (Lib.trimB l 46 == []) = l.all (· == 46) := by
  have key : Lib.trimB l 46 = [] ↔ ∀ x, x ∈ l → x = 46 := by
    unfold Lib.trimB Lib.trimLeftB Lib.trimRightB
    constructor
    · intro h x hx
      have h1 : ∀ y, y ∈ (l.reverse.dropWhile (· == 46)).reverse → y = 46 := by
        intro y hy
        have := (dw_nil _ _).1 h y hy
        simpa using this
      have h2 : l.reverse.dropWhile (· == 46) = [] := by
        cases e : l.reverse.dropWhile (· == 46) with
        | nil => rfl
        | cons b r =>
          exfalso
          have hb : b = 46 := h1 b (by rw [e]; simp)
          have := List.head_dropWhile_not (· == 46) (l := l.reverse) (by rw [e]; simp)
          simp [e, hb] at this
      have := (dw_nil _ _).1 h2 x (by simpa using hx)
      simpa using this
    · intro h
      have h2 : l.reverse.dropWhile (· == 46) = [] := (dw_nil _ _).2 (fun x hx => by simpa using h x (by simpa using hx))
      rw [h2]; rfl
  rw [Bool.eq_iff_iff]
  simp only [beq_iff_eq, key, List.all_eq_true]
theorem three_iff (l : List UInt8) : Lib.contains l [46, 46, 46] = true ↔ ∃ k, 2 ≤ k ∧ k < l.length ∧ (l.drop (k - 2)).take 3 = [46, 46, 46] := by
  have hocc : ∀ i, Lib.occAt l [46, 46, 46] i = true ↔ (l.drop i).take 3 = [46, 46, 46] := by
    intro i
    unfold Lib.occAt
    rw [List.isPrefixOf_iff_prefix]
    constructor
    · rintro ⟨t, ht⟩
      rw [← ht]; rfl
    · intro h
      exact ⟨(l.drop i).drop 3, by rw [← h, List.take_append_drop]⟩
  unfold Lib.contains
  rw [decide_eq_true_iff]
  rcases Lib.index_spec l [46, 46, 46] with ⟨h1, h2⟩ | ⟨i, h1, h2, h3, h4⟩
  · constructor
    · intro h; omega
    · rintro ⟨k, hk2, hkl, h⟩
      have := h2 (k - 2) (by omega)
      rw [(hocc (k - 2)).2 h] at this
      cases this
  · constructor
    · intro _
      have h5 := (hocc i).1 h3
      have h6 := congrArg List.length h5
      simp at h6
      exact ⟨i + 2, by omega, by omega, by simpa using h5⟩
    · intro _; omega
/-- What an element's bytes up to k have shown: all may be there, no three dots. -/
def seenOk (l : List UInt8) (k : Nat) : Prop := (l.take k).all el = true ∧ ∀ j, 2 ≤ j → j < k → (l.drop (j - 2)).take 3 ≠ [46, 46, 46]
theorem seen_all {l : List UInt8} (h : seenOk l l.length) : elemOk l = !l.all (· == 46) := by
  unfold elemOk
  rw [trim_nil]
  have h1 : allEl l = true := by have := h.1; rw [List.take_length] at this; exact this
  have h2 : Lib.contains l [46, 46, 46] = false := by
    cases e : Lib.contains l [46, 46, 46]
    · rfl
    · obtain ⟨k, a, b, c⟩ := (three_iff l).1 e
      exact absurd c (h.2 k a b)
  rw [h1, h2]; simp
theorem seen_bad {l : List UInt8} {k : Nat} (hk : k < l.length) (h : el l[k] = false) : elemOk l = false := by
  have : allEl l = false := by
    cases e : allEl l
    · rfl
    · have := List.all_eq_true.1 e l[k] (List.getElem_mem hk)
      rw [h] at this; cases this
  unfold elemOk
  rw [this]; simp
theorem seen_three {l : List UInt8} {k : Nat} (h2 : 2 ≤ k) (hk : k < l.length) (h : (l.drop (k - 2)).take 3 = [46, 46, 46]) : elemOk l = false := by
  have : Lib.contains l [46, 46, 46] = true := (three_iff l).2 ⟨k, h2, hk, h⟩
  unfold elemOk
  rw [this]; simp
theorem seen_next {l : List UInt8} {k : Nat} (hs : seenOk l k) (hk : k < l.length) (h : el l[k] = true) (h3 : 2 ≤ k → (l.drop (k - 2)).take 3 ≠ [46, 46, 46]) : seenOk l (k + 1) := by
  refine ⟨?_, fun j h2 hj => ?_⟩
  · rw [List.take_succ_eq_append_getElem hk, all_snoc, hs.1, h]; rfl
  · by_cases e : j = k
    · subst e; exact h3 h2
    · exact hs.2 j h2 (by omega)
theorem dots_next {l : List UInt8} {k : Nat} (hk : k < l.length) : (l.take (k + 1)).all (· == 46) = ((l.take k).all (· == 46) && l[k] == 46) := by
  rw [List.take_succ_eq_append_getElem hk, all_snoc]

/-- suffixOf: the number of a suffix; nought: none; -1: like one, and none. -/
def sufV (l : List UInt8) : Int := if likeB l then (if sufOk l then (num (restOf l)).1 else -1) else 0
theorem suf_pos {l : List UInt8} (h : sufOk l = true) : 2 ≤ (num (restOf l)).1 := by
  unfold sufOk at h
  simp only [Bool.and_eq_true, decide_eq_true_eq] at h
  exact h.2

theorem cut_app (c : UInt8) (b : List UInt8) (hb : b.contains c = false) : ∀ a : List UInt8, cutAt c (a ++ c :: b) = cutAt c a ++ [b]
  | [] => by
    show cutAt c (c :: b) = [[]] ++ [b]
    rw [cutAt, if_pos rfl, cut_last c b hb]; rfl
  | x :: a => by
    show cutAt c (x :: (a ++ c :: b)) = cutAt c (x :: a) ++ [b]
    rw [cutAt, cutAt, cut_app c b hb a]
    by_cases hx : x = c
    · rw [if_pos hx, if_pos hx]; rfl
    · rw [if_neg hx, if_neg hx]
      cases e : cutAt c a with
      | nil => exact absurd e (cutAt_ne c a)
      | cons y r => rfl
theorem slash_split {l : List UInt8} {k : Nat} (hk : k < l.length) (h : l[k] = 47) (hn : ∀ j (hj : j < l.length), k < j → l[j] ≠ 47) :
    elems l = elems (l.take k) ++ [l.drop (k + 1)] := by
  have hb : (l.drop (k + 1)).contains 47 = false := by
    cases e : (l.drop (k + 1)).contains 47
    · rfl
    · exfalso
      have hm : (47 : UInt8) ∈ l.drop (k + 1) := by simpa using e
      obtain ⟨i, hi, e2⟩ := List.mem_iff_getElem.1 hm
      rw [List.getElem_drop] at e2
      exact hn (k + 1 + i) (by simp at hi; omega) (by omega) e2
  have e1 : l = l.take k ++ 47 :: l.drop (k + 1) := by
    have h2 := List.take_append_drop k l
    rw [← List.getElem_cons_drop (h := hk), h] at h2
    exact h2.symm
  have h3 := cut_app 47 (l.drop (k + 1)) hb (l.take k)
  rw [← e1] at h3
  exact h3
theorem slash_last {l : List UInt8} {k : Nat} (h : elems l = elems (l.take k) ++ [l.drop (k + 1)]) : 1 < (elems l).length ∧ lastOf l = l.drop (k + 1) ∧ Lib.join ((elems l).take ((elems l).length - 1)) [47] = l.take k := by
  have hp := elems_pos (l.take k)
  have hl : (elems l).length = (elems (l.take k)).length + 1 := by rw [h]; simp
  refine ⟨by omega, ?_, ?_⟩
  · unfold lastOf
    rw [hl, h]
    simp
  · rw [hl, h]
    simp only [Nat.add_sub_cancel, List.take_left']
    exact join_cut 47 _
theorem slash_none {l : List UInt8} (hn : ∀ j (hj : j < l.length), l[j] ≠ 47) : elems l = [l] := by
  refine cut_last 47 l ?_
  cases e : l.contains 47
  · rfl
  · exfalso
    have hm : (47 : UInt8) ∈ l := by simpa using e
    obtain ⟨i, hi, e2⟩ := List.mem_iff_getElem.1 hm
    exact hn i hi e2

theorem cut_len (c : UInt8) : ∀ l : List UInt8, (cutAt c l).length = l.count c + 1
  | [] => by simp [cutAt]
  | b :: l => by
    unfold cutAt
    by_cases h : b = c
    · rw [if_pos h, h, List.count_cons_self]; simp [cut_len c l]
    · rw [if_neg h, ahead_len b _ (cutAt_ne c l), cut_len c l, List.count_cons_of_ne (by simpa using h)]
theorem cut_two (c : UInt8) (l : List UInt8) (h : l.count c = 1) : cutAt c l = [(one c l).1, (one c l).2.1] := by
  have hm : c ∈ l := List.count_pos_iff.1 (by omega)
  have h2 : (one c l).2.2 = true := by show l.contains c = true; simpa using hm
  have hb := one_back h2
  have hn : (one c l).1.contains c = false := by
    obtain ⟨j, hj, _, hlt, e1, _⟩ := one_yes (c := c) (l := l) h2
    rw [e1]
    cases e : (l.take j).contains c
    · rfl
    · exfalso
      have hm : c ∈ l.take j := by simpa using e
      obtain ⟨i, hi, e2⟩ := List.mem_iff_getElem.1 hm
      rw [List.getElem_take] at e2
      simp at hi
      exact hlt i (by omega) (by omega) e2
  have hn2 : (one c l).2.1.contains c = false := by
    cases e : (one c l).2.1.contains c
    · rfl
    · exfalso
      have hm : c ∈ (one c l).2.1 := by simpa using e
      have := List.count_pos_iff.2 hm
      rw [hb, List.count_append, List.count_cons_self] at h
      omega
  have h3 : cutAt c ((one c l).1 ++ c :: (one c l).2.1) = [(one c l).1, (one c l).2.1] := by
    rw [cut_step c _ _ hn, cut_last c _ hn2]
  rw [← hb] at h3
  exact h3
end Ve
end Go.Proofs.YtacggkigfjpfnaaGreatDoor

/-
  What the document's answer says of an element's suffix (suffixOf).
-/
namespace Go.Proofs.YtacggkigfjpfnaaGreatDoor
open Go.RowKit
namespace Ve

theorem rcut47 (s : ByteArray) (w : World) (hs : s.size < 4294967281) :
    Calls Tryz.prog 142 #[.string s, .int .u8 47] w fun e w' => ∃ v X, e = .returned v ∧ bl X = elems s.data.toList ∧ w'.ownsRow w.heap.size 9 1 v X.length (X.map Value.string) ∧ Below w.heap.size w w' := rcut_any s 47 w hs
theorem rcut64 (s : ByteArray) (w : World) (hs : s.size < 4294967281) :
    Calls Tryz.prog 142 #[.string s, .int .u8 64] w fun e w' => ∃ v X, e = .returned v ∧ bl X = cutAt 64 s.data.toList ∧ w'.ownsRow w.heap.size 9 1 v X.length (X.map Value.string) ∧ Below w.heap.size w w' := rcut_any s 64 w hs

theorem unmarked {s : ByteArray} (hp : 0 < s.size) (h : marked s.data.toList = false) : ((s[0].toNat : Int) == 118) = false := by
  unfold marked at h
  rw [List.headD_eq_head?_getD, List.head?_eq_getElem?, List.getElem?_eq_getElem (by simpa using hp)] at h
  simp only [Option.getD_some, beq_eq_false_iff_ne] at h
  have h2 : s[0] ≠ 118 := h
  refine beq_eq_false_iff_ne.2 fun e => h2 ?_
  apply UInt8.toNat_inj.1
  have : (118 : UInt8).toNat = 118 := rfl
  omega

set_option maxHeartbeats 1000000 in
theorem suffixOf_any (s : ByteArray) (w : World) (hs : s.size ≤ maxLen) :
    Calls Tryz.prog 143 #[.string s] w fun e w' => e = .returned (.int .i64 (sufV s.data.toList)) ∧ w' = w := by
  have HV := hid (show sufV s.data.toList = if likeB s.data.toList then (if sufOk s.data.toList then (num (restOf s.data.toList)).1 else -1) else 0 from rfl)
  have HO := hid (show sufOk s.data.toList = (decide ((num (restOf s.data.toList)).2 = 0) && decide (2 ≤ (num (restOf s.data.toList)).1)) from rfl)
  have HL := hid (show likeB s.data.toList = (marked s.data.toList && digs (restOf s.data.toList)) from rfl)
  have hsz : s.size ≤ 9223372036854775807 := hs
  by_cases h2 : s.size < 2
  · have hk : likeB s.data.toList = false := by
      rw [HL.out]
      cases hm : marked s.data.toList
      · rfl
      · have hd : restOf s.data.toList = [] := by rw [rest_drop hm]; exact List.length_eq_zero_iff.1 (by simp; omega)
        rw [hd]; rfl
    rw [hk] at HV
    clear hk
    go_enter Tryz.func143, Tryz.ntmps143
    go_wp2_with fail
    go_ret
    exact ⟨by rw [HV.out]; rfl, rfl⟩
  · have hpos : 0 < s.size := by omega
    cases hm : marked s.data.toList
    · have h0 := unmarked hpos hm
      rw [HL.out, hm] at HV
      clear hm
      go_enter Tryz.func143, Tryz.ntmps143
      go_wp2_with fail
      go_ret
      exact ⟨by rw [HV.out]; rfl, rfl⟩
    · obtain ⟨_, h0⟩ := marked_pos hm
      have HT := hid (show (s.extract 1 s.size).data.toList = restOf s.data.toList by rw [ext_drop, rest_drop hm])
      have hTs : (s.extract 1 s.size).size ≤ maxLen := by rw [ByteArray.size_extract]; unfold maxLen; omega
      have HA := hid (areDigits_any (s.extract 1 s.size) w hTs)
      have HN := hid (numberOf_any (s.extract 1 s.size) w hTs)
      rw [HT.out] at HA HN
      rw [hm] at HL
      have h1k : (1 : Int) ≤ (s.size : Int) := by omega
      generalize restOf s.data.toList = r at *
      clear hm
      cases hd : digs r
      · rw [hd] at HA HL
        rw [HL.out] at HV
        clear hd
        go_enter Tryz.func143, Tryz.ntmps143
        go_wp2_with fail
        refine HA.out.mono ?_
        rintro e w' ⟨rfl, rfl⟩
        go_wp2_with fail
        go_ret
        exact ⟨by rw [HV.out]; rfl, rfl⟩
      · rw [hd] at HA HL
        rw [HL.out] at HV
        clear hd
        by_cases he : (num r).2 = 0
        · rw [decide_eq_true he] at HO
          have hz : ((num r).2 : Int) = 0 := by omega
          have hz2 : ¬ (0 : Int) < ((num r).2 : Int) := by omega
          rw [hz] at HN
          clear hz he
          by_cases hn : (num r).1 < 2
          · rw [decide_eq_false (show ¬ 2 ≤ (num r).1 by omega)] at HO
            rw [HO.out] at HV
            generalize (num r).1 = n at *
            go_enter Tryz.func143, Tryz.ntmps143
            go_wp2_with fail
            refine HA.out.mono ?_
            rintro e w' ⟨rfl, rfl⟩
            go_wp2_with fail
            refine HN.out.mono ?_
            rintro e w' ⟨rfl, rfl⟩
            go_wp2_with fail
            go_ret
            exact ⟨by rw [HV.out]; rfl, rfl⟩
          · rw [decide_eq_true (show 2 ≤ (num r).1 by omega)] at HO
            rw [HO.out] at HV
            generalize (num r).1 = n at *
            go_enter Tryz.func143, Tryz.ntmps143
            go_wp2_with fail
            refine HA.out.mono ?_
            rintro e w' ⟨rfl, rfl⟩
            go_wp2_with fail
            refine HN.out.mono ?_
            rintro e w' ⟨rfl, rfl⟩
            go_wp2_with fail
            go_ret
            exact ⟨by rw [HV.out]; rfl, rfl⟩
        · rw [decide_eq_false he, Bool.false_and] at HO
          rw [HO.out] at HV
          have hz : (0 : Int) < ((num r).2 : Int) := by omega
          generalize ((num r).2 : Int) = c at *
          generalize (num r).1 = n at *
          clear he
          go_enter Tryz.func143, Tryz.ntmps143
          go_wp2_with fail
          refine HA.out.mono ?_
          rintro e w' ⟨rfl, rfl⟩
          go_wp2_with fail
          refine HN.out.mono ?_
          rintro e w' ⟨rfl, rfl⟩
          go_wp2_with fail
          go_ret
          exact ⟨by rw [HV.out]; rfl, rfl⟩
end Ve
end Go.Proofs.YtacggkigfjpfnaaGreatDoor

/-
  What the document's answer says of a path (PathError).
-/
namespace Go.Proofs.YtacggkigfjpfnaaGreatDoor
open Go.RowKit
namespace Ve

theorem bad_one {l : List UInt8} {e : List UInt8} (h : e ∈ elems l) (hb : elemOk e = false) : pathErr l = 1 := by
  have : badE l = true := List.any_eq_true.2 ⟨e, h, by rw [hb]; rfl⟩
  unfold pathErr; rw [this]; rfl
theorem bad_none {l : List UInt8} (h : (elems l).all elemOk = true) : badE l = false := by
  unfold badE
  rw [List.any_eq_false]
  intro x hx
  rw [List.all_eq_true.1 h x hx]; decide
theorem path_2 {l : List UInt8} (h : (elems l).all elemOk = true) (h2 : longE l = true) : pathErr l = 2 := by
  unfold pathErr; rw [bad_none h, h2]; rfl
theorem path_4 {l : List UInt8} (h : (elems l).all elemOk = true) (h2 : longE l = false) (h1 : 1 < (elems l).length) (hs : sufV (lastOf l) < 0) : pathErr l = 4 := by
  unfold sufV at hs
  cases hk : likeB (lastOf l)
  · rw [hk] at hs; simp at hs
  · rw [hk] at hs
    cases ho : sufOk (lastOf l)
    · have hu : sufE l = true := by unfold sufE; rw [hk, decide_eq_true h1]; rfl
      unfold pathErr; rw [bad_none h, h2, hu, ho]; rfl
    · rw [ho] at hs
      have := suf_pos ho
      simp at hs; omega
theorem path_0 {l : List UInt8} (h : (elems l).all elemOk = true) (h2 : longE l = false) (h1 : 1 < (elems l).length) (hs : ¬ sufV (lastOf l) < 0) : pathErr l = 0 := by
  unfold sufV at hs
  cases hk : likeB (lastOf l)
  · have hu : sufE l = false := by unfold sufE; rw [hk]; simp
    unfold pathErr; rw [bad_none h, h2, hu]; rfl
  · rw [hk] at hs
    have hu : sufE l = true := by unfold sufE; rw [hk, decide_eq_true h1]; rfl
    cases ho : sufOk (lastOf l)
    · rw [ho] at hs; simp at hs
    · unfold pathErr; rw [bad_none h, h2, hu, ho]; rfl
theorem path_00 {l : List UInt8} (h : (elems l).all elemOk = true) (h2 : longE l = false) (h1 : ¬ 1 < (elems l).length) : pathErr l = 0 := by
  have hu : sufE l = false := by unfold sufE; rw [decide_eq_false h1]; rfl
  unfold pathErr; rw [bad_none h, h2, hu]; rfl
theorem el_is (c : UInt8) : el c = (decide (97 ≤ (c.toNat : Int) ∧ (c.toNat : Int) ≤ 122) || decide (48 ≤ (c.toNat : Int) ∧ (c.toNat : Int) ≤ 57) || (c.toNat : Int) == 46 || (c.toNat : Int) == 45 || (c.toNat : Int) == 95) := rfl
theorem dot_is (c : UInt8) : (c == 46) = ((c.toNat : Int) == 46) := by
  rw [Bool.eq_iff_iff]
  simp only [beq_iff_eq]
  have : (46 : UInt8).toNat = 46 := rfl
  constructor
  · intro h; rw [h]; rfl
  · intro h; exact UInt8.toNat_inj.1 (by omega)

set_option maxRecDepth 100000 in
set_option maxHeartbeats 16000000 in
theorem pathError_any (s : ByteArray) (w : World) (hs : s.size < 4294967281) :
    Calls Tryz.prog 102 #[.string s] w fun e w' => e = .returned (.int .i64 (pathErr s.data.toList : Nat)) ∧ Below w.heap.size w w' := by
  go_enter Tryz.func102, Tryz.ntmps102
  go_wp2_with fail
  refine (rcut47 s w hs).mono ?_
  rintro e w1 ⟨v, X, rfl, hX, hown, hb⟩
  have HX := hid hX
  have HB := hid hb
  have HXN := hid (show X ≠ [] from fun h => by subst h; exact cutAt_ne _ _ hX.symm)
  obtain ⟨g, cap, rfl, hg, hgz, hcells⟩ := owned_cells hown HXN.out
  have HCE := hid hcells
  have hXle := many_le hX
  have HXZ := hid (show ∀ x, x ∈ X → x.size ≤ maxLen from fun x hx => by have := piece_le hX hx; unfold maxLen; omega)
  have HXL := hid (show (elems s.data.toList).length = X.length by rw [← hX, bl_len])
  have HPOS := hid (show 0 < X.length from List.length_pos_iff.2 HXN.out)
  have HLE := hid (show longE s.data.toList = (decide (5 < (X.length : Int)) || (bl X).any long) by
    unfold longE
    rw [← hX, bl_len]
    congr 1
    rw [decide_eq_decide]; omega)
  have HLA := hid (fun hp => last_get hX hp)
  clear hX hown hb hg hgz hcells
  generalize hlg : decide (5 < (X.length : Int)) = lg at *
  go_wp2_with fail
  go_loop [4, 5] (fun lo i => ∃ k : Nat, k ≤ X.length ∧ i = .int .i64 k ∧ lo = .bool (lg || (bl (X.take k)).any long) ∧ Hid ((bl (X.take k)).all elemOk = true)) (fun _ i => X.length - (intOf i).toNat)
  case atStart => exact ⟨0, Nat.zero_le _, rfl, by simp [bl], hid (by simp [bl])⟩
  case round =>
    obtain ⟨k, hk, rfl, rfl, HOK⟩ := hrel
    generalize hbj : (lg || (bl (X.take k)).any long) = bj at *
    have HBJ := hid hbj
    clear hbj
    by_cases hkX : k < X.length
    · have hcell := HCE.out k hkX
      have HPZ := hid (HXZ.out X[k] (List.getElem_mem hkX))
      have HXJ := hid (bl_take_snoc X k hkX)
      have HMEM := hid (show X[k].data.toList ∈ elems s.data.toList by rw [← HX.out]; exact bl_mem (List.getElem_mem hkX))
      generalize X[k] = p at *
      have hpz : p.size ≤ 9223372036854775807 := HPZ.out
      go_wp2_with fail
      go_loop [6, 7, 8, 9, 10] (fun dt i _ _ _ => ∃ y : Nat, y ≤ p.size ∧ i = .int .i64 y ∧ dt = .bool ((p.data.toList.take y).all (· == 46)) ∧ Hid (seenOk p.data.toList y)) (fun _ i _ _ _ => p.size - (intOf i).toNat)
      case atStart => exact ⟨0, Nat.zero_le _, rfl, rfl, hid ⟨rfl, fun j _ h => absurd h (Nat.not_lt_zero j)⟩⟩
      case round =>
        obtain ⟨y, hy, rfl, rfl, HSE⟩ := hrel
        generalize hdt : (p.data.toList.take y).all (· == 46) = dt at *
        have HDT := hid hdt
        clear hdt
        by_cases hyl : y < p.size
        · have hyb := p[y].toNat_lt
          have HLL := hid (show y < p.data.toList.length by simpa using hyl)
          have HPY := hid (show p.data.toList[y]'(by simpa using hyl) = p[y] from rfl)
          have HEL := hid (el_is p[y])
          have HDI := hid (dot_is p[y])
          have HDN := hid (dots_next (l := p.data.toList) (k := y) (by simpa using hyl))
          rw [HPY.out, HDT.out, HDI.out] at HDN
          have HBAD := hid (show el p[y] = false → pathErr s.data.toList = 1 from fun h => bad_one HMEM.out (seen_bad (k := y) (by simpa using hyl) h))
          have HTHREE := hid (show 2 ≤ y → (p.data.toList.drop (y - 2)).take 3 = [46, 46, 46] → pathErr s.data.toList = 1 from fun h2 h => bad_one HMEM.out (seen_three h2 (by simpa using hyl) h))
          have HNEXT := hid (show el p[y] = true → (2 ≤ y → (p.data.toList.drop (y - 2)).take 3 ≠ [46, 46, 46]) → seenOk p.data.toList (y + 1) from fun h h3 => seen_next HSE.out (by simpa using hyl) h h3)
          have HRG := hid (show (p[y].toNat : Int) < 45 ∨ (p[y].toNat : Int) = 45 ∨ (p[y].toNat : Int) = 46 ∨ (p[y].toNat : Int) = 47 ∨ (48 ≤ (p[y].toNat : Int) ∧ (p[y].toNat : Int) ≤ 57) ∨ (57 < (p[y].toNat : Int) ∧ (p[y].toNat : Int) < 95) ∨ (p[y].toNat : Int) = 95 ∨ (p[y].toNat : Int) = 96 ∨ (97 ≤ (p[y].toNat : Int) ∧ (p[y].toNat : Int) ≤ 122) ∨ 122 < (p[y].toNat : Int) by omega)
          have HEXT := hid (show 2 ≤ y → (p.extract (y - 2) (y + 1)).data.toList = (p.data.toList.drop (y - 2)).take 3 from fun h2 => by rw [extract_list, show y + 1 - (y - 2) = 3 by omega])
          clear hyb
          rcases HRG.out with hr | hr | hr | hr | hr | hr | hr | hr | hr | hr
          · have a1 : ¬ 97 ≤ (p[y].toNat : Int) := by omega
            have a2 : (p[y].toNat : Int) ≤ 122 := by omega
            have d1 : ¬ 48 ≤ (p[y].toNat : Int) := by omega
            have d2 : (p[y].toNat : Int) ≤ 57 := by omega
            have e1 : ((p[y].toNat : Int) == 46) = false := beq_eq_false_iff_ne.2 (by omega)
            have e1p : ¬ (p[y].toNat : Int) = 46 := by omega
            have e1n : ((p[y].toNat : Int) != 46) = true := by rw [bne, e1]; rfl
            have e2 : ((p[y].toNat : Int) == 45) = false := beq_eq_false_iff_ne.2 (by omega)
            have e2p : ¬ (p[y].toNat : Int) = 45 := by omega
            have e2n : ((p[y].toNat : Int) != 45) = true := by rw [bne, e2]; rfl
            have e3 : ((p[y].toNat : Int) == 95) = false := beq_eq_false_iff_ne.2 (by omega)
            have e3p : ¬ (p[y].toNat : Int) = 95 := by omega
            have e3n : ((p[y].toNat : Int) != 95) = true := by rw [bne, e3]; rfl
            have HRES := hid (HBAD.out (by rw [HEL.out]; simp; omega))
            have D5 := hid (show ∀ h : ¬ (p[y].toNat : Int) ≤ 57, decide ((p[y].toNat : Int) ≤ 57) = false from fun h => decide_eq_false h)
            have D9 := hid (show ∀ h : ¬ (p[y].toNat : Int) ≤ 122, decide ((p[y].toNat : Int) ≤ 122) = false from fun h => decide_eq_false h)
            clear hr
            go_wp2_with fail
            all_goals first
              | (go_ret; exact ⟨by rw [HRES.out]; rfl, HB.out⟩)
              | exact absurd ‹((((p[y].toNat : Int) != 46) = false ∨ ((p[y].toNat : Int) != 45) = false) ∨ ((p[y].toNat : Int) != 95) = false)› (by rw [e1n, e2n, e3n]; decide)
              | exact absurd ‹((((!decide ((p[y].toNat : Int) ≤ 57)) = false ∨ ((p[y].toNat : Int) != 46) = false) ∨ ((p[y].toNat : Int) != 45) = false) ∨ ((p[y].toNat : Int) != 95) = false)› (by rw [e1n, e2n, e3n, D5.out (by omega)]; decide)
              | exact absurd ‹(((((!decide ((p[y].toNat : Int) ≤ 122)) = false ∨ (!decide ((p[y].toNat : Int) ≤ 57)) = false) ∨ ((p[y].toNat : Int) != 46) = false) ∨ ((p[y].toNat : Int) != 45) = false) ∨ ((p[y].toNat : Int) != 95) = false)› (by rw [e1n, e2n, e3n, D5.out (by omega), D9.out (by omega)]; decide)
          · have a1 : ¬ 97 ≤ (p[y].toNat : Int) := by omega
            have a2 : (p[y].toNat : Int) ≤ 122 := by omega
            have d1 : ¬ 48 ≤ (p[y].toNat : Int) := by omega
            have d2 : (p[y].toNat : Int) ≤ 57 := by omega
            have e1 : ((p[y].toNat : Int) == 46) = false := beq_eq_false_iff_ne.2 (by omega)
            have e1p : ¬ (p[y].toNat : Int) = 46 := by omega
            have e1n : ((p[y].toNat : Int) != 46) = true := by rw [bne, e1]; rfl
            have e2 : ((p[y].toNat : Int) == 45) = true := beq_iff_eq.2 (by omega)
            have e2p : (p[y].toNat : Int) = 45 := by omega
            have e2n : ((p[y].toNat : Int) != 45) = false := by rw [bne, e2]; rfl
            have e3 : ((p[y].toNat : Int) == 95) = false := beq_eq_false_iff_ne.2 (by omega)
            have e3p : ¬ (p[y].toNat : Int) = 95 := by omega
            have e3n : ((p[y].toNat : Int) != 95) = true := by rw [bne, e3]; rfl
            have HE1 := hid (show el p[y] = true by rw [HEL.out]; simp; omega)
            clear hr
            cases dt
            · have HDV := hid (show Value.bool false = Value.bool ((p.data.toList.take (y + 1)).all (· == 46)) by rw [HDN.out, e1]; rfl)
              have HDW := hid (show Value.bool false = Value.bool ((p.data.toList.take (y + 1)).all (· == 46)) by rw [HDN.out]; rfl)
              by_cases h2 : 2 ≤ y
              · have h2i : (2 : Int) ≤ (y : Int) := by omega
                have s1 : (0 : Int) ≤ (y : Int) - 2 := by omega
                have s2 : (y : Int) - 2 ≤ (y : Int) + 1 := by omega
                have s3 : (y : Int) + 1 ≤ (p.size : Int) := by omega
                have t1 : ((y : Int) - 2).toNat = y - 2 := by omega
                have h3 : (p.data.toList.drop (y - 2)).take 3 ≠ [46, 46, 46] := fun h => by
                  have h4 := congrArg (fun l => l[2]?) h
                  have h5 : ((p.data.toList.drop (y - 2)).take 3)[2]? = some p[y] := by
                    rw [List.getElem?_take_of_lt (by omega), List.getElem?_drop, show y - 2 + 2 = y by omega, List.getElem?_eq_getElem HLL.out, HPY.out]
                  have h6 : some p[y] = some 46 := h5.symm.trans h4
                  have h7 : p[y] = 46 := Option.some.inj h6
                  have h8 := HDI.out
                  rw [h7] at h8 e1
                  exact absurd e1 (by decide)
                have hx3 : ((p.extract (y - 2) (y + 1)).toList == [46, 46, 46]) = false := by rw [ByteArray.toList_eq, HEXT.out h2]; exact beq_eq_false_iff_ne.2 h3
                have HNX := hid (HNEXT.out HE1.out (fun _ => h3))
                clear h3
                go_wp2_with fail
                go_round
                case rel => first | exact ⟨y + 1, by omega, by go_num, HDV.out, hid (HNX.out)⟩ | exact ⟨y + 1, by omega, by go_num, HDW.out, hid (HNX.out)⟩
                case measure => simp [intOf]; omega
              · have h2i : ¬ (2 : Int) ≤ (y : Int) := by omega
                have HNX := hid (HNEXT.out HE1.out (fun h => absurd h h2))
                go_wp2_with fail
                go_round
                case rel => first | exact ⟨y + 1, by omega, by go_num, HDV.out, hid (HNX.out)⟩ | exact ⟨y + 1, by omega, by go_num, HDW.out, hid (HNX.out)⟩
                case measure => simp [intOf]; omega
            · have HDV := hid (show Value.bool false = Value.bool ((p.data.toList.take (y + 1)).all (· == 46)) by rw [HDN.out, e1]; rfl)
              have HDW := hid (show Value.bool ((p[y].toNat : Int) == 46) = Value.bool ((p.data.toList.take (y + 1)).all (· == 46)) by rw [HDN.out]; rfl)
              by_cases h2 : 2 ≤ y
              · have h2i : (2 : Int) ≤ (y : Int) := by omega
                have s1 : (0 : Int) ≤ (y : Int) - 2 := by omega
                have s2 : (y : Int) - 2 ≤ (y : Int) + 1 := by omega
                have s3 : (y : Int) + 1 ≤ (p.size : Int) := by omega
                have t1 : ((y : Int) - 2).toNat = y - 2 := by omega
                have h3 : (p.data.toList.drop (y - 2)).take 3 ≠ [46, 46, 46] := fun h => by
                  have h4 := congrArg (fun l => l[2]?) h
                  have h5 : ((p.data.toList.drop (y - 2)).take 3)[2]? = some p[y] := by
                    rw [List.getElem?_take_of_lt (by omega), List.getElem?_drop, show y - 2 + 2 = y by omega, List.getElem?_eq_getElem HLL.out, HPY.out]
                  have h6 : some p[y] = some 46 := h5.symm.trans h4
                  have h7 : p[y] = 46 := Option.some.inj h6
                  have h8 := HDI.out
                  rw [h7] at h8 e1
                  exact absurd e1 (by decide)
                have hx3 : ((p.extract (y - 2) (y + 1)).toList == [46, 46, 46]) = false := by rw [ByteArray.toList_eq, HEXT.out h2]; exact beq_eq_false_iff_ne.2 h3
                have HNX := hid (HNEXT.out HE1.out (fun _ => h3))
                clear h3
                go_wp2_with fail
                go_round
                case rel => first | exact ⟨y + 1, by omega, by go_num, HDV.out, hid (HNX.out)⟩ | exact ⟨y + 1, by omega, by go_num, HDW.out, hid (HNX.out)⟩
                case measure => simp [intOf]; omega
              · have h2i : ¬ (2 : Int) ≤ (y : Int) := by omega
                have HNX := hid (HNEXT.out HE1.out (fun h => absurd h h2))
                go_wp2_with fail
                go_round
                case rel => first | exact ⟨y + 1, by omega, by go_num, HDV.out, hid (HNX.out)⟩ | exact ⟨y + 1, by omega, by go_num, HDW.out, hid (HNX.out)⟩
                case measure => simp [intOf]; omega
          · have a1 : ¬ 97 ≤ (p[y].toNat : Int) := by omega
            have a2 : (p[y].toNat : Int) ≤ 122 := by omega
            have d1 : ¬ 48 ≤ (p[y].toNat : Int) := by omega
            have d2 : (p[y].toNat : Int) ≤ 57 := by omega
            have e1 : ((p[y].toNat : Int) == 46) = true := beq_iff_eq.2 (by omega)
            have e1p : (p[y].toNat : Int) = 46 := by omega
            have e1n : ((p[y].toNat : Int) != 46) = false := by rw [bne, e1]; rfl
            have e2 : ((p[y].toNat : Int) == 45) = false := beq_eq_false_iff_ne.2 (by omega)
            have e2p : ¬ (p[y].toNat : Int) = 45 := by omega
            have e2n : ((p[y].toNat : Int) != 45) = true := by rw [bne, e2]; rfl
            have e3 : ((p[y].toNat : Int) == 95) = false := beq_eq_false_iff_ne.2 (by omega)
            have e3p : ¬ (p[y].toNat : Int) = 95 := by omega
            have e3n : ((p[y].toNat : Int) != 95) = true := by rw [bne, e3]; rfl
            have HE1 := hid (show el p[y] = true by rw [HEL.out]; simp; omega)
            clear hr
            cases dt
            · have HDV := hid (show Value.bool false = Value.bool ((p.data.toList.take (y + 1)).all (· == 46)) by rw [HDN.out, e1]; rfl)
              have HDW := hid (show Value.bool false = Value.bool ((p.data.toList.take (y + 1)).all (· == 46)) by rw [HDN.out]; rfl)
              by_cases h2 : 2 ≤ y
              · have h2i : (2 : Int) ≤ (y : Int) := by omega
                have s1 : (0 : Int) ≤ (y : Int) - 2 := by omega
                have s2 : (y : Int) - 2 ≤ (y : Int) + 1 := by omega
                have s3 : (y : Int) + 1 ≤ (p.size : Int) := by omega
                have t1 : ((y : Int) - 2).toNat = y - 2 := by omega
                by_cases h3 : (p.data.toList.drop (y - 2)).take 3 = [46, 46, 46]
                · have hx3 : ((p.extract (y - 2) (y + 1)).toList == [46, 46, 46]) = true := by rw [ByteArray.toList_eq, HEXT.out h2]; exact beq_iff_eq.2 h3
                  have HRES := hid (HTHREE.out h2 h3)
                  clear h3
                  go_wp2_with fail
                  go_ret
                  exact ⟨by rw [HRES.out]; rfl, HB.out⟩
                · have hx3 : ((p.extract (y - 2) (y + 1)).toList == [46, 46, 46]) = false := by rw [ByteArray.toList_eq, HEXT.out h2]; exact beq_eq_false_iff_ne.2 h3
                  have HNX := hid (HNEXT.out HE1.out (fun _ => h3))
                  clear h3
                  go_wp2_with fail
                  go_round
                  case rel => first | exact ⟨y + 1, by omega, by go_num, HDV.out, hid (HNX.out)⟩ | exact ⟨y + 1, by omega, by go_num, HDW.out, hid (HNX.out)⟩
                  case measure => simp [intOf]; omega
              · have h2i : ¬ (2 : Int) ≤ (y : Int) := by omega
                have HNX := hid (HNEXT.out HE1.out (fun h => absurd h h2))
                go_wp2_with fail
                go_round
                case rel => first | exact ⟨y + 1, by omega, by go_num, HDV.out, hid (HNX.out)⟩ | exact ⟨y + 1, by omega, by go_num, HDW.out, hid (HNX.out)⟩
                case measure => simp [intOf]; omega
            · have HDV := hid (show Value.bool true = Value.bool ((p.data.toList.take (y + 1)).all (· == 46)) by rw [HDN.out, e1]; rfl)
              have HDW := hid (show Value.bool ((p[y].toNat : Int) == 46) = Value.bool ((p.data.toList.take (y + 1)).all (· == 46)) by rw [HDN.out]; rfl)
              by_cases h2 : 2 ≤ y
              · have h2i : (2 : Int) ≤ (y : Int) := by omega
                have s1 : (0 : Int) ≤ (y : Int) - 2 := by omega
                have s2 : (y : Int) - 2 ≤ (y : Int) + 1 := by omega
                have s3 : (y : Int) + 1 ≤ (p.size : Int) := by omega
                have t1 : ((y : Int) - 2).toNat = y - 2 := by omega
                by_cases h3 : (p.data.toList.drop (y - 2)).take 3 = [46, 46, 46]
                · have hx3 : ((p.extract (y - 2) (y + 1)).toList == [46, 46, 46]) = true := by rw [ByteArray.toList_eq, HEXT.out h2]; exact beq_iff_eq.2 h3
                  have HRES := hid (HTHREE.out h2 h3)
                  clear h3
                  go_wp2_with fail
                  go_ret
                  exact ⟨by rw [HRES.out]; rfl, HB.out⟩
                · have hx3 : ((p.extract (y - 2) (y + 1)).toList == [46, 46, 46]) = false := by rw [ByteArray.toList_eq, HEXT.out h2]; exact beq_eq_false_iff_ne.2 h3
                  have HNX := hid (HNEXT.out HE1.out (fun _ => h3))
                  clear h3
                  go_wp2_with fail
                  go_round
                  case rel => first | exact ⟨y + 1, by omega, by go_num, HDV.out, hid (HNX.out)⟩ | exact ⟨y + 1, by omega, by go_num, HDW.out, hid (HNX.out)⟩
                  case measure => simp [intOf]; omega
              · have h2i : ¬ (2 : Int) ≤ (y : Int) := by omega
                have HNX := hid (HNEXT.out HE1.out (fun h => absurd h h2))
                go_wp2_with fail
                go_round
                case rel => first | exact ⟨y + 1, by omega, by go_num, HDV.out, hid (HNX.out)⟩ | exact ⟨y + 1, by omega, by go_num, HDW.out, hid (HNX.out)⟩
                case measure => simp [intOf]; omega
          · have a1 : ¬ 97 ≤ (p[y].toNat : Int) := by omega
            have a2 : (p[y].toNat : Int) ≤ 122 := by omega
            have d1 : ¬ 48 ≤ (p[y].toNat : Int) := by omega
            have d2 : (p[y].toNat : Int) ≤ 57 := by omega
            have e1 : ((p[y].toNat : Int) == 46) = false := beq_eq_false_iff_ne.2 (by omega)
            have e1p : ¬ (p[y].toNat : Int) = 46 := by omega
            have e1n : ((p[y].toNat : Int) != 46) = true := by rw [bne, e1]; rfl
            have e2 : ((p[y].toNat : Int) == 45) = false := beq_eq_false_iff_ne.2 (by omega)
            have e2p : ¬ (p[y].toNat : Int) = 45 := by omega
            have e2n : ((p[y].toNat : Int) != 45) = true := by rw [bne, e2]; rfl
            have e3 : ((p[y].toNat : Int) == 95) = false := beq_eq_false_iff_ne.2 (by omega)
            have e3p : ¬ (p[y].toNat : Int) = 95 := by omega
            have e3n : ((p[y].toNat : Int) != 95) = true := by rw [bne, e3]; rfl
            have HRES := hid (HBAD.out (by rw [HEL.out]; simp; omega))
            have D5 := hid (show ∀ h : ¬ (p[y].toNat : Int) ≤ 57, decide ((p[y].toNat : Int) ≤ 57) = false from fun h => decide_eq_false h)
            have D9 := hid (show ∀ h : ¬ (p[y].toNat : Int) ≤ 122, decide ((p[y].toNat : Int) ≤ 122) = false from fun h => decide_eq_false h)
            clear hr
            go_wp2_with fail
            all_goals first
              | (go_ret; exact ⟨by rw [HRES.out]; rfl, HB.out⟩)
              | exact absurd ‹((((p[y].toNat : Int) != 46) = false ∨ ((p[y].toNat : Int) != 45) = false) ∨ ((p[y].toNat : Int) != 95) = false)› (by rw [e1n, e2n, e3n]; decide)
              | exact absurd ‹((((!decide ((p[y].toNat : Int) ≤ 57)) = false ∨ ((p[y].toNat : Int) != 46) = false) ∨ ((p[y].toNat : Int) != 45) = false) ∨ ((p[y].toNat : Int) != 95) = false)› (by rw [e1n, e2n, e3n, D5.out (by omega)]; decide)
              | exact absurd ‹(((((!decide ((p[y].toNat : Int) ≤ 122)) = false ∨ (!decide ((p[y].toNat : Int) ≤ 57)) = false) ∨ ((p[y].toNat : Int) != 46) = false) ∨ ((p[y].toNat : Int) != 45) = false) ∨ ((p[y].toNat : Int) != 95) = false)› (by rw [e1n, e2n, e3n, D5.out (by omega), D9.out (by omega)]; decide)
          · have a1 : ¬ 97 ≤ (p[y].toNat : Int) := by omega
            have a2 : (p[y].toNat : Int) ≤ 122 := by omega
            have d1 : 48 ≤ (p[y].toNat : Int) := by omega
            have d2 : (p[y].toNat : Int) ≤ 57 := by omega
            have e1 : ((p[y].toNat : Int) == 46) = false := beq_eq_false_iff_ne.2 (by omega)
            have e1p : ¬ (p[y].toNat : Int) = 46 := by omega
            have e1n : ((p[y].toNat : Int) != 46) = true := by rw [bne, e1]; rfl
            have e2 : ((p[y].toNat : Int) == 45) = false := beq_eq_false_iff_ne.2 (by omega)
            have e2p : ¬ (p[y].toNat : Int) = 45 := by omega
            have e2n : ((p[y].toNat : Int) != 45) = true := by rw [bne, e2]; rfl
            have e3 : ((p[y].toNat : Int) == 95) = false := beq_eq_false_iff_ne.2 (by omega)
            have e3p : ¬ (p[y].toNat : Int) = 95 := by omega
            have e3n : ((p[y].toNat : Int) != 95) = true := by rw [bne, e3]; rfl
            have HE1 := hid (show el p[y] = true by rw [HEL.out]; simp; omega)
            clear hr
            cases dt
            · have HDV := hid (show Value.bool false = Value.bool ((p.data.toList.take (y + 1)).all (· == 46)) by rw [HDN.out, e1]; rfl)
              have HDW := hid (show Value.bool false = Value.bool ((p.data.toList.take (y + 1)).all (· == 46)) by rw [HDN.out]; rfl)
              by_cases h2 : 2 ≤ y
              · have h2i : (2 : Int) ≤ (y : Int) := by omega
                have s1 : (0 : Int) ≤ (y : Int) - 2 := by omega
                have s2 : (y : Int) - 2 ≤ (y : Int) + 1 := by omega
                have s3 : (y : Int) + 1 ≤ (p.size : Int) := by omega
                have t1 : ((y : Int) - 2).toNat = y - 2 := by omega
                have h3 : (p.data.toList.drop (y - 2)).take 3 ≠ [46, 46, 46] := fun h => by
                  have h4 := congrArg (fun l => l[2]?) h
                  have h5 : ((p.data.toList.drop (y - 2)).take 3)[2]? = some p[y] := by
                    rw [List.getElem?_take_of_lt (by omega), List.getElem?_drop, show y - 2 + 2 = y by omega, List.getElem?_eq_getElem HLL.out, HPY.out]
                  have h6 : some p[y] = some 46 := h5.symm.trans h4
                  have h7 : p[y] = 46 := Option.some.inj h6
                  have h8 := HDI.out
                  rw [h7] at h8 e1
                  exact absurd e1 (by decide)
                have hx3 : ((p.extract (y - 2) (y + 1)).toList == [46, 46, 46]) = false := by rw [ByteArray.toList_eq, HEXT.out h2]; exact beq_eq_false_iff_ne.2 h3
                have HNX := hid (HNEXT.out HE1.out (fun _ => h3))
                clear h3
                go_wp2_with fail
                go_round
                case rel => first | exact ⟨y + 1, by omega, by go_num, HDV.out, hid (HNX.out)⟩ | exact ⟨y + 1, by omega, by go_num, HDW.out, hid (HNX.out)⟩
                case measure => simp [intOf]; omega
              · have h2i : ¬ (2 : Int) ≤ (y : Int) := by omega
                have HNX := hid (HNEXT.out HE1.out (fun h => absurd h h2))
                go_wp2_with fail
                go_round
                case rel => first | exact ⟨y + 1, by omega, by go_num, HDV.out, hid (HNX.out)⟩ | exact ⟨y + 1, by omega, by go_num, HDW.out, hid (HNX.out)⟩
                case measure => simp [intOf]; omega
            · have HDV := hid (show Value.bool false = Value.bool ((p.data.toList.take (y + 1)).all (· == 46)) by rw [HDN.out, e1]; rfl)
              have HDW := hid (show Value.bool ((p[y].toNat : Int) == 46) = Value.bool ((p.data.toList.take (y + 1)).all (· == 46)) by rw [HDN.out]; rfl)
              by_cases h2 : 2 ≤ y
              · have h2i : (2 : Int) ≤ (y : Int) := by omega
                have s1 : (0 : Int) ≤ (y : Int) - 2 := by omega
                have s2 : (y : Int) - 2 ≤ (y : Int) + 1 := by omega
                have s3 : (y : Int) + 1 ≤ (p.size : Int) := by omega
                have t1 : ((y : Int) - 2).toNat = y - 2 := by omega
                have h3 : (p.data.toList.drop (y - 2)).take 3 ≠ [46, 46, 46] := fun h => by
                  have h4 := congrArg (fun l => l[2]?) h
                  have h5 : ((p.data.toList.drop (y - 2)).take 3)[2]? = some p[y] := by
                    rw [List.getElem?_take_of_lt (by omega), List.getElem?_drop, show y - 2 + 2 = y by omega, List.getElem?_eq_getElem HLL.out, HPY.out]
                  have h6 : some p[y] = some 46 := h5.symm.trans h4
                  have h7 : p[y] = 46 := Option.some.inj h6
                  have h8 := HDI.out
                  rw [h7] at h8 e1
                  exact absurd e1 (by decide)
                have hx3 : ((p.extract (y - 2) (y + 1)).toList == [46, 46, 46]) = false := by rw [ByteArray.toList_eq, HEXT.out h2]; exact beq_eq_false_iff_ne.2 h3
                have HNX := hid (HNEXT.out HE1.out (fun _ => h3))
                clear h3
                go_wp2_with fail
                go_round
                case rel => first | exact ⟨y + 1, by omega, by go_num, HDV.out, hid (HNX.out)⟩ | exact ⟨y + 1, by omega, by go_num, HDW.out, hid (HNX.out)⟩
                case measure => simp [intOf]; omega
              · have h2i : ¬ (2 : Int) ≤ (y : Int) := by omega
                have HNX := hid (HNEXT.out HE1.out (fun h => absurd h h2))
                go_wp2_with fail
                go_round
                case rel => first | exact ⟨y + 1, by omega, by go_num, HDV.out, hid (HNX.out)⟩ | exact ⟨y + 1, by omega, by go_num, HDW.out, hid (HNX.out)⟩
                case measure => simp [intOf]; omega
          · have a1 : ¬ 97 ≤ (p[y].toNat : Int) := by omega
            have a2 : (p[y].toNat : Int) ≤ 122 := by omega
            have d1 : 48 ≤ (p[y].toNat : Int) := by omega
            have d2 : ¬ (p[y].toNat : Int) ≤ 57 := by omega
            have e1 : ((p[y].toNat : Int) == 46) = false := beq_eq_false_iff_ne.2 (by omega)
            have e1p : ¬ (p[y].toNat : Int) = 46 := by omega
            have e1n : ((p[y].toNat : Int) != 46) = true := by rw [bne, e1]; rfl
            have e2 : ((p[y].toNat : Int) == 45) = false := beq_eq_false_iff_ne.2 (by omega)
            have e2p : ¬ (p[y].toNat : Int) = 45 := by omega
            have e2n : ((p[y].toNat : Int) != 45) = true := by rw [bne, e2]; rfl
            have e3 : ((p[y].toNat : Int) == 95) = false := beq_eq_false_iff_ne.2 (by omega)
            have e3p : ¬ (p[y].toNat : Int) = 95 := by omega
            have e3n : ((p[y].toNat : Int) != 95) = true := by rw [bne, e3]; rfl
            have HRES := hid (HBAD.out (by rw [HEL.out]; simp; omega))
            have D5 := hid (show ∀ h : ¬ (p[y].toNat : Int) ≤ 57, decide ((p[y].toNat : Int) ≤ 57) = false from fun h => decide_eq_false h)
            have D9 := hid (show ∀ h : ¬ (p[y].toNat : Int) ≤ 122, decide ((p[y].toNat : Int) ≤ 122) = false from fun h => decide_eq_false h)
            clear hr
            go_wp2_with fail
            all_goals first
              | (go_ret; exact ⟨by rw [HRES.out]; rfl, HB.out⟩)
              | exact absurd ‹((((p[y].toNat : Int) != 46) = false ∨ ((p[y].toNat : Int) != 45) = false) ∨ ((p[y].toNat : Int) != 95) = false)› (by rw [e1n, e2n, e3n]; decide)
              | exact absurd ‹((((!decide ((p[y].toNat : Int) ≤ 57)) = false ∨ ((p[y].toNat : Int) != 46) = false) ∨ ((p[y].toNat : Int) != 45) = false) ∨ ((p[y].toNat : Int) != 95) = false)› (by rw [e1n, e2n, e3n, D5.out (by omega)]; decide)
              | exact absurd ‹(((((!decide ((p[y].toNat : Int) ≤ 122)) = false ∨ (!decide ((p[y].toNat : Int) ≤ 57)) = false) ∨ ((p[y].toNat : Int) != 46) = false) ∨ ((p[y].toNat : Int) != 45) = false) ∨ ((p[y].toNat : Int) != 95) = false)› (by rw [e1n, e2n, e3n, D5.out (by omega), D9.out (by omega)]; decide)
          · have a1 : ¬ 97 ≤ (p[y].toNat : Int) := by omega
            have a2 : (p[y].toNat : Int) ≤ 122 := by omega
            have d1 : 48 ≤ (p[y].toNat : Int) := by omega
            have d2 : ¬ (p[y].toNat : Int) ≤ 57 := by omega
            have e1 : ((p[y].toNat : Int) == 46) = false := beq_eq_false_iff_ne.2 (by omega)
            have e1p : ¬ (p[y].toNat : Int) = 46 := by omega
            have e1n : ((p[y].toNat : Int) != 46) = true := by rw [bne, e1]; rfl
            have e2 : ((p[y].toNat : Int) == 45) = false := beq_eq_false_iff_ne.2 (by omega)
            have e2p : ¬ (p[y].toNat : Int) = 45 := by omega
            have e2n : ((p[y].toNat : Int) != 45) = true := by rw [bne, e2]; rfl
            have e3 : ((p[y].toNat : Int) == 95) = true := beq_iff_eq.2 (by omega)
            have e3p : (p[y].toNat : Int) = 95 := by omega
            have e3n : ((p[y].toNat : Int) != 95) = false := by rw [bne, e3]; rfl
            have HE1 := hid (show el p[y] = true by rw [HEL.out]; simp; omega)
            clear hr
            cases dt
            · have HDV := hid (show Value.bool false = Value.bool ((p.data.toList.take (y + 1)).all (· == 46)) by rw [HDN.out, e1]; rfl)
              have HDW := hid (show Value.bool false = Value.bool ((p.data.toList.take (y + 1)).all (· == 46)) by rw [HDN.out]; rfl)
              by_cases h2 : 2 ≤ y
              · have h2i : (2 : Int) ≤ (y : Int) := by omega
                have s1 : (0 : Int) ≤ (y : Int) - 2 := by omega
                have s2 : (y : Int) - 2 ≤ (y : Int) + 1 := by omega
                have s3 : (y : Int) + 1 ≤ (p.size : Int) := by omega
                have t1 : ((y : Int) - 2).toNat = y - 2 := by omega
                have h3 : (p.data.toList.drop (y - 2)).take 3 ≠ [46, 46, 46] := fun h => by
                  have h4 := congrArg (fun l => l[2]?) h
                  have h5 : ((p.data.toList.drop (y - 2)).take 3)[2]? = some p[y] := by
                    rw [List.getElem?_take_of_lt (by omega), List.getElem?_drop, show y - 2 + 2 = y by omega, List.getElem?_eq_getElem HLL.out, HPY.out]
                  have h6 : some p[y] = some 46 := h5.symm.trans h4
                  have h7 : p[y] = 46 := Option.some.inj h6
                  have h8 := HDI.out
                  rw [h7] at h8 e1
                  exact absurd e1 (by decide)
                have hx3 : ((p.extract (y - 2) (y + 1)).toList == [46, 46, 46]) = false := by rw [ByteArray.toList_eq, HEXT.out h2]; exact beq_eq_false_iff_ne.2 h3
                have HNX := hid (HNEXT.out HE1.out (fun _ => h3))
                clear h3
                go_wp2_with fail
                all_goals (try exact absurd (‹((((!decide ((p[y].toNat : Int) ≤ 57)) = true ∧ ((p[y].toNat : Int) != 46) = true) ∧ ((p[y].toNat : Int) != 45) = true) ∧ ((p[y].toNat : Int) != 95) = true)›).2 (by rw [e3n]; decide))
                go_round
                case rel => first | exact ⟨y + 1, by omega, by go_num, HDV.out, hid (HNX.out)⟩ | exact ⟨y + 1, by omega, by go_num, HDW.out, hid (HNX.out)⟩
                case measure => simp [intOf]; omega
              · have h2i : ¬ (2 : Int) ≤ (y : Int) := by omega
                have HNX := hid (HNEXT.out HE1.out (fun h => absurd h h2))
                go_wp2_with fail
                all_goals (try exact absurd (‹((((!decide ((p[y].toNat : Int) ≤ 57)) = true ∧ ((p[y].toNat : Int) != 46) = true) ∧ ((p[y].toNat : Int) != 45) = true) ∧ ((p[y].toNat : Int) != 95) = true)›).2 (by rw [e3n]; decide))
                go_round
                case rel => first | exact ⟨y + 1, by omega, by go_num, HDV.out, hid (HNX.out)⟩ | exact ⟨y + 1, by omega, by go_num, HDW.out, hid (HNX.out)⟩
                case measure => simp [intOf]; omega
            · have HDV := hid (show Value.bool false = Value.bool ((p.data.toList.take (y + 1)).all (· == 46)) by rw [HDN.out, e1]; rfl)
              have HDW := hid (show Value.bool ((p[y].toNat : Int) == 46) = Value.bool ((p.data.toList.take (y + 1)).all (· == 46)) by rw [HDN.out]; rfl)
              by_cases h2 : 2 ≤ y
              · have h2i : (2 : Int) ≤ (y : Int) := by omega
                have s1 : (0 : Int) ≤ (y : Int) - 2 := by omega
                have s2 : (y : Int) - 2 ≤ (y : Int) + 1 := by omega
                have s3 : (y : Int) + 1 ≤ (p.size : Int) := by omega
                have t1 : ((y : Int) - 2).toNat = y - 2 := by omega
                have h3 : (p.data.toList.drop (y - 2)).take 3 ≠ [46, 46, 46] := fun h => by
                  have h4 := congrArg (fun l => l[2]?) h
                  have h5 : ((p.data.toList.drop (y - 2)).take 3)[2]? = some p[y] := by
                    rw [List.getElem?_take_of_lt (by omega), List.getElem?_drop, show y - 2 + 2 = y by omega, List.getElem?_eq_getElem HLL.out, HPY.out]
                  have h6 : some p[y] = some 46 := h5.symm.trans h4
                  have h7 : p[y] = 46 := Option.some.inj h6
                  have h8 := HDI.out
                  rw [h7] at h8 e1
                  exact absurd e1 (by decide)
                have hx3 : ((p.extract (y - 2) (y + 1)).toList == [46, 46, 46]) = false := by rw [ByteArray.toList_eq, HEXT.out h2]; exact beq_eq_false_iff_ne.2 h3
                have HNX := hid (HNEXT.out HE1.out (fun _ => h3))
                clear h3
                go_wp2_with fail
                all_goals (try exact absurd (‹((((!decide ((p[y].toNat : Int) ≤ 57)) = true ∧ ((p[y].toNat : Int) != 46) = true) ∧ ((p[y].toNat : Int) != 45) = true) ∧ ((p[y].toNat : Int) != 95) = true)›).2 (by rw [e3n]; decide))
                go_round
                case rel => first | exact ⟨y + 1, by omega, by go_num, HDV.out, hid (HNX.out)⟩ | exact ⟨y + 1, by omega, by go_num, HDW.out, hid (HNX.out)⟩
                case measure => simp [intOf]; omega
              · have h2i : ¬ (2 : Int) ≤ (y : Int) := by omega
                have HNX := hid (HNEXT.out HE1.out (fun h => absurd h h2))
                go_wp2_with fail
                all_goals (try exact absurd (‹((((!decide ((p[y].toNat : Int) ≤ 57)) = true ∧ ((p[y].toNat : Int) != 46) = true) ∧ ((p[y].toNat : Int) != 45) = true) ∧ ((p[y].toNat : Int) != 95) = true)›).2 (by rw [e3n]; decide))
                go_round
                case rel => first | exact ⟨y + 1, by omega, by go_num, HDV.out, hid (HNX.out)⟩ | exact ⟨y + 1, by omega, by go_num, HDW.out, hid (HNX.out)⟩
                case measure => simp [intOf]; omega
          · have a1 : ¬ 97 ≤ (p[y].toNat : Int) := by omega
            have a2 : (p[y].toNat : Int) ≤ 122 := by omega
            have d1 : 48 ≤ (p[y].toNat : Int) := by omega
            have d2 : ¬ (p[y].toNat : Int) ≤ 57 := by omega
            have e1 : ((p[y].toNat : Int) == 46) = false := beq_eq_false_iff_ne.2 (by omega)
            have e1p : ¬ (p[y].toNat : Int) = 46 := by omega
            have e1n : ((p[y].toNat : Int) != 46) = true := by rw [bne, e1]; rfl
            have e2 : ((p[y].toNat : Int) == 45) = false := beq_eq_false_iff_ne.2 (by omega)
            have e2p : ¬ (p[y].toNat : Int) = 45 := by omega
            have e2n : ((p[y].toNat : Int) != 45) = true := by rw [bne, e2]; rfl
            have e3 : ((p[y].toNat : Int) == 95) = false := beq_eq_false_iff_ne.2 (by omega)
            have e3p : ¬ (p[y].toNat : Int) = 95 := by omega
            have e3n : ((p[y].toNat : Int) != 95) = true := by rw [bne, e3]; rfl
            have HRES := hid (HBAD.out (by rw [HEL.out]; simp; omega))
            have D5 := hid (show ∀ h : ¬ (p[y].toNat : Int) ≤ 57, decide ((p[y].toNat : Int) ≤ 57) = false from fun h => decide_eq_false h)
            have D9 := hid (show ∀ h : ¬ (p[y].toNat : Int) ≤ 122, decide ((p[y].toNat : Int) ≤ 122) = false from fun h => decide_eq_false h)
            clear hr
            go_wp2_with fail
            all_goals first
              | (go_ret; exact ⟨by rw [HRES.out]; rfl, HB.out⟩)
              | exact absurd ‹((((p[y].toNat : Int) != 46) = false ∨ ((p[y].toNat : Int) != 45) = false) ∨ ((p[y].toNat : Int) != 95) = false)› (by rw [e1n, e2n, e3n]; decide)
              | exact absurd ‹((((!decide ((p[y].toNat : Int) ≤ 57)) = false ∨ ((p[y].toNat : Int) != 46) = false) ∨ ((p[y].toNat : Int) != 45) = false) ∨ ((p[y].toNat : Int) != 95) = false)› (by rw [e1n, e2n, e3n, D5.out (by omega)]; decide)
              | exact absurd ‹(((((!decide ((p[y].toNat : Int) ≤ 122)) = false ∨ (!decide ((p[y].toNat : Int) ≤ 57)) = false) ∨ ((p[y].toNat : Int) != 46) = false) ∨ ((p[y].toNat : Int) != 45) = false) ∨ ((p[y].toNat : Int) != 95) = false)› (by rw [e1n, e2n, e3n, D5.out (by omega), D9.out (by omega)]; decide)
          · have a1 : 97 ≤ (p[y].toNat : Int) := by omega
            have a2 : (p[y].toNat : Int) ≤ 122 := by omega
            have d1 : 48 ≤ (p[y].toNat : Int) := by omega
            have d2 : ¬ (p[y].toNat : Int) ≤ 57 := by omega
            have e1 : ((p[y].toNat : Int) == 46) = false := beq_eq_false_iff_ne.2 (by omega)
            have e1p : ¬ (p[y].toNat : Int) = 46 := by omega
            have e1n : ((p[y].toNat : Int) != 46) = true := by rw [bne, e1]; rfl
            have e2 : ((p[y].toNat : Int) == 45) = false := beq_eq_false_iff_ne.2 (by omega)
            have e2p : ¬ (p[y].toNat : Int) = 45 := by omega
            have e2n : ((p[y].toNat : Int) != 45) = true := by rw [bne, e2]; rfl
            have e3 : ((p[y].toNat : Int) == 95) = false := beq_eq_false_iff_ne.2 (by omega)
            have e3p : ¬ (p[y].toNat : Int) = 95 := by omega
            have e3n : ((p[y].toNat : Int) != 95) = true := by rw [bne, e3]; rfl
            have HE1 := hid (show el p[y] = true by rw [HEL.out]; simp; omega)
            clear hr
            cases dt
            · have HDV := hid (show Value.bool false = Value.bool ((p.data.toList.take (y + 1)).all (· == 46)) by rw [HDN.out, e1]; rfl)
              have HDW := hid (show Value.bool false = Value.bool ((p.data.toList.take (y + 1)).all (· == 46)) by rw [HDN.out]; rfl)
              by_cases h2 : 2 ≤ y
              · have h2i : (2 : Int) ≤ (y : Int) := by omega
                have s1 : (0 : Int) ≤ (y : Int) - 2 := by omega
                have s2 : (y : Int) - 2 ≤ (y : Int) + 1 := by omega
                have s3 : (y : Int) + 1 ≤ (p.size : Int) := by omega
                have t1 : ((y : Int) - 2).toNat = y - 2 := by omega
                have h3 : (p.data.toList.drop (y - 2)).take 3 ≠ [46, 46, 46] := fun h => by
                  have h4 := congrArg (fun l => l[2]?) h
                  have h5 : ((p.data.toList.drop (y - 2)).take 3)[2]? = some p[y] := by
                    rw [List.getElem?_take_of_lt (by omega), List.getElem?_drop, show y - 2 + 2 = y by omega, List.getElem?_eq_getElem HLL.out, HPY.out]
                  have h6 : some p[y] = some 46 := h5.symm.trans h4
                  have h7 : p[y] = 46 := Option.some.inj h6
                  have h8 := HDI.out
                  rw [h7] at h8 e1
                  exact absurd e1 (by decide)
                have hx3 : ((p.extract (y - 2) (y + 1)).toList == [46, 46, 46]) = false := by rw [ByteArray.toList_eq, HEXT.out h2]; exact beq_eq_false_iff_ne.2 h3
                have HNX := hid (HNEXT.out HE1.out (fun _ => h3))
                clear h3
                go_wp2_with fail
                go_round
                case rel => first | exact ⟨y + 1, by omega, by go_num, HDV.out, hid (HNX.out)⟩ | exact ⟨y + 1, by omega, by go_num, HDW.out, hid (HNX.out)⟩
                case measure => simp [intOf]; omega
              · have h2i : ¬ (2 : Int) ≤ (y : Int) := by omega
                have HNX := hid (HNEXT.out HE1.out (fun h => absurd h h2))
                go_wp2_with fail
                go_round
                case rel => first | exact ⟨y + 1, by omega, by go_num, HDV.out, hid (HNX.out)⟩ | exact ⟨y + 1, by omega, by go_num, HDW.out, hid (HNX.out)⟩
                case measure => simp [intOf]; omega
            · have HDV := hid (show Value.bool false = Value.bool ((p.data.toList.take (y + 1)).all (· == 46)) by rw [HDN.out, e1]; rfl)
              have HDW := hid (show Value.bool ((p[y].toNat : Int) == 46) = Value.bool ((p.data.toList.take (y + 1)).all (· == 46)) by rw [HDN.out]; rfl)
              by_cases h2 : 2 ≤ y
              · have h2i : (2 : Int) ≤ (y : Int) := by omega
                have s1 : (0 : Int) ≤ (y : Int) - 2 := by omega
                have s2 : (y : Int) - 2 ≤ (y : Int) + 1 := by omega
                have s3 : (y : Int) + 1 ≤ (p.size : Int) := by omega
                have t1 : ((y : Int) - 2).toNat = y - 2 := by omega
                have h3 : (p.data.toList.drop (y - 2)).take 3 ≠ [46, 46, 46] := fun h => by
                  have h4 := congrArg (fun l => l[2]?) h
                  have h5 : ((p.data.toList.drop (y - 2)).take 3)[2]? = some p[y] := by
                    rw [List.getElem?_take_of_lt (by omega), List.getElem?_drop, show y - 2 + 2 = y by omega, List.getElem?_eq_getElem HLL.out, HPY.out]
                  have h6 : some p[y] = some 46 := h5.symm.trans h4
                  have h7 : p[y] = 46 := Option.some.inj h6
                  have h8 := HDI.out
                  rw [h7] at h8 e1
                  exact absurd e1 (by decide)
                have hx3 : ((p.extract (y - 2) (y + 1)).toList == [46, 46, 46]) = false := by rw [ByteArray.toList_eq, HEXT.out h2]; exact beq_eq_false_iff_ne.2 h3
                have HNX := hid (HNEXT.out HE1.out (fun _ => h3))
                clear h3
                go_wp2_with fail
                go_round
                case rel => first | exact ⟨y + 1, by omega, by go_num, HDV.out, hid (HNX.out)⟩ | exact ⟨y + 1, by omega, by go_num, HDW.out, hid (HNX.out)⟩
                case measure => simp [intOf]; omega
              · have h2i : ¬ (2 : Int) ≤ (y : Int) := by omega
                have HNX := hid (HNEXT.out HE1.out (fun h => absurd h h2))
                go_wp2_with fail
                go_round
                case rel => first | exact ⟨y + 1, by omega, by go_num, HDV.out, hid (HNX.out)⟩ | exact ⟨y + 1, by omega, by go_num, HDW.out, hid (HNX.out)⟩
                case measure => simp [intOf]; omega
          · have a1 : 97 ≤ (p[y].toNat : Int) := by omega
            have a2 : ¬ (p[y].toNat : Int) ≤ 122 := by omega
            have d1 : 48 ≤ (p[y].toNat : Int) := by omega
            have d2 : ¬ (p[y].toNat : Int) ≤ 57 := by omega
            have e1 : ((p[y].toNat : Int) == 46) = false := beq_eq_false_iff_ne.2 (by omega)
            have e1p : ¬ (p[y].toNat : Int) = 46 := by omega
            have e1n : ((p[y].toNat : Int) != 46) = true := by rw [bne, e1]; rfl
            have e2 : ((p[y].toNat : Int) == 45) = false := beq_eq_false_iff_ne.2 (by omega)
            have e2p : ¬ (p[y].toNat : Int) = 45 := by omega
            have e2n : ((p[y].toNat : Int) != 45) = true := by rw [bne, e2]; rfl
            have e3 : ((p[y].toNat : Int) == 95) = false := beq_eq_false_iff_ne.2 (by omega)
            have e3p : ¬ (p[y].toNat : Int) = 95 := by omega
            have e3n : ((p[y].toNat : Int) != 95) = true := by rw [bne, e3]; rfl
            have HRES := hid (HBAD.out (by rw [HEL.out]; simp; omega))
            have D5 := hid (show ∀ h : ¬ (p[y].toNat : Int) ≤ 57, decide ((p[y].toNat : Int) ≤ 57) = false from fun h => decide_eq_false h)
            have D9 := hid (show ∀ h : ¬ (p[y].toNat : Int) ≤ 122, decide ((p[y].toNat : Int) ≤ 122) = false from fun h => decide_eq_false h)
            clear hr
            go_wp2_with fail
            all_goals first
              | (go_ret; exact ⟨by rw [HRES.out]; rfl, HB.out⟩)
              | exact absurd ‹((((p[y].toNat : Int) != 46) = false ∨ ((p[y].toNat : Int) != 45) = false) ∨ ((p[y].toNat : Int) != 95) = false)› (by rw [e1n, e2n, e3n]; decide)
              | exact absurd ‹((((!decide ((p[y].toNat : Int) ≤ 57)) = false ∨ ((p[y].toNat : Int) != 46) = false) ∨ ((p[y].toNat : Int) != 45) = false) ∨ ((p[y].toNat : Int) != 95) = false)› (by rw [e1n, e2n, e3n, D5.out (by omega)]; decide)
              | exact absurd ‹(((((!decide ((p[y].toNat : Int) ≤ 122)) = false ∨ (!decide ((p[y].toNat : Int) ≤ 57)) = false) ∨ ((p[y].toNat : Int) != 46) = false) ∨ ((p[y].toNat : Int) != 45) = false) ∨ ((p[y].toNat : Int) != 95) = false)› (by rw [e1n, e2n, e3n, D5.out (by omega), D9.out (by omega)]; decide)
        · have hye : y = p.size := by omega
          subst hye
          have HFIN := hid (show elemOk p.data.toList = !dt by
            have h1 : p.data.toList.length = p.size := len_eq p
            have h2 := seen_all (l := p.data.toList) (by rw [h1]; exact HSE.out)
            have h3 := HDT.out
            rw [take_all] at h3
            rw [h2, h3])
          cases dt
          · have HOK2 := hid (show (bl (X.take (k + 1))).all elemOk = true by rw [HXJ.out, List.all_append, HOK.out, List.all_cons, HFIN.out]; rfl)
            have HLJ := hid (show (lg || (bl (X.take (k + 1))).any long) = (bj || decide (10 < p.data.toList.length)) by rw [HXJ.out, List.any_append, ← HBJ.out, Bool.or_assoc]; simp [long])
            rw [len_eq] at HLJ
            by_cases h10 : 10 < p.size
            · have h10i : (10 : Int) < (p.size : Int) := by omega
              rw [decide_eq_true h10] at HLJ
              cases bj
              · have HV := hid (show Value.bool true = Value.bool (lg || (bl (X.take (k + 1))).any long) by rw [HLJ.out]; rfl)
                go_wp2_with fail
                go_round
                case rel => exact ⟨k + 1, by omega, by go_num, HV.out, HOK2⟩
                case measure => simp [intOf]; omega
              · have HV := hid (show Value.bool true = Value.bool (lg || (bl (X.take (k + 1))).any long) by rw [HLJ.out]; rfl)
                go_wp2_with fail
                go_round
                case rel => exact ⟨k + 1, by omega, by go_num, HV.out, HOK2⟩
                case measure => simp [intOf]; omega
            · have h10i : ¬ (10 : Int) < (p.size : Int) := by omega
              rw [decide_eq_false h10] at HLJ
              cases bj
              · have HV := hid (show Value.bool false = Value.bool (lg || (bl (X.take (k + 1))).any long) by rw [HLJ.out]; rfl)
                go_wp2_with fail
                go_round
                case rel => exact ⟨k + 1, by omega, by go_num, HV.out, HOK2⟩
                case measure => simp [intOf]; omega
              · have HV := hid (show Value.bool true = Value.bool (lg || (bl (X.take (k + 1))).any long) by rw [HLJ.out]; rfl)
                go_wp2_with fail
                go_round
                case rel => exact ⟨k + 1, by omega, by go_num, HV.out, HOK2⟩
                case measure => simp [intOf]; omega
          · have HRES := hid (bad_one HMEM.out HFIN.out)
            go_wp2_with fail
            go_ret
            exact ⟨by rw [HRES.out]; rfl, HB.out⟩
    · have hke : k = X.length := by omega
      subst hke
      have hXt : X.take X.length = X := List.take_length
      rw [hXt] at HOK HBJ
      rw [HBJ.out] at HLE
      rw [HX.out] at HOK
      clear hXt
      cases bj
      · by_cases h1 : 1 < X.length
        · have h1i : (1 : Int) < (X.length : Int) := by omega
          have hpl : X.length - 1 < X.length := by omega
          have hcell := HCE.out (X.length - 1) hpl
          have HSZ := hid (HXZ.out X[X.length - 1] (List.getElem_mem hpl))
          have HLG := hid (HLA.out hpl)
          generalize X[X.length - 1] = q at *
          have HSU := hid (suffixOf_any q w1 HSZ.out)
          rw [HLG.out] at HSU
          have hc1 : ((X.length : Int) - 1).toNat = X.length - 1 := by omega
          have hc2 : (0 : Int) ≤ (X.length : Int) - 1 := by omega
          have hc3 : (X.length : Int) - 1 < (X.length : Int) := by omega
          by_cases hneg : sufV (lastOf s.data.toList) < 0
          · have HRES := hid (path_4 HOK.out HLE.out (by rw [HXL.out]; exact h1) hneg)
            generalize sufV (lastOf s.data.toList) = sv at *
            go_wp2_with fail
            refine HSU.out.mono ?_
            rintro e w' ⟨rfl, rfl⟩
            go_wp2_with fail
            go_ret
            exact ⟨by rw [HRES.out]; rfl, HB.out⟩
          · have HRES := hid (path_0 HOK.out HLE.out (by rw [HXL.out]; exact h1) hneg)
            generalize sufV (lastOf s.data.toList) = sv at *
            go_wp2_with fail
            refine HSU.out.mono ?_
            rintro e w' ⟨rfl, rfl⟩
            go_wp2_with fail
            go_ret
            exact ⟨by rw [HRES.out]; rfl, HB.out⟩
        · have h1i : ¬ (1 : Int) < (X.length : Int) := by omega
          have HRES := hid (path_00 HOK.out HLE.out (by rw [HXL.out]; exact h1))
          go_wp2_with fail
          go_ret
          exact ⟨by rw [HRES.out]; rfl, HB.out⟩
      · have HRES := hid (path_2 HOK.out HLE.out)
        go_wp2_with fail
        go_ret
        exact ⟨by rw [HRES.out]; rfl, HB.out⟩
end Ve
end Go.Proofs.YtacggkigfjpfnaaGreatDoor
