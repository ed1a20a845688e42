
import Derived.Test.YtjndahjfodnllaaGreatDoorPw3
import Derived.Test.YtjndahjfodnllaaGreatDoorPw2
import Derived.Test.YtjndahjfodnllaaGreatDoorPw1
import Derived.Test.YtjndahjfodnllaaGreatDoorFileQ
import Derived.Laws.OwnMore
import Derived.Deep.AppendLies
import Derived.Deep.RegionHeldLaw
namespace Go.Proofs.YtjndahjfodnllaaGreatDoor
open Go.RowKit
namespace Ve
end Ve
end Go.Proofs.YtjndahjfodnllaaGreatDoor


namespace Go.Proofs.YtjndahjfodnllaaGreatDoor
open Go.RowKit
namespace Ve
end Ve
end Go.Proofs.YtjndahjfodnllaaGreatDoor


namespace Go.Proofs.YtjndahjfodnllaaGreatDoor
open Go.RowKit
namespace Ve
theorem cb_lt_iff : ∀ (a b : List UInt8), Lib.compareBytes a b < 0 ↔ a < b
  | [], [] => by simp [Lib.compareBytes]
  | [], b :: bs => by simp [Lib.compareBytes]
  | a :: r, [] => by simp [Lib.compareBytes]
  | a :: r, b :: bs => by
    simp only [Lib.compareBytes]
    rw [List.cons_lt_cons_iff]
    by_cases h1 : a < b
    · rw [if_pos h1]; simp [h1]
    · rw [if_neg h1]
      by_cases h2 : b < a
      · rw [if_pos h2]
        have : ¬ a = b := fun e => by subst e; exact absurd h2 (UInt8.lt_irrefl _)
        simp [h1, this]
      · rw [if_neg h2]
        have : a = b := u8_eq h1 h2
        subst this
        rw [cb_lt_iff r bs]
        simp [h1]
theorem range_get (S : List (List UInt8)) : (List.range S.length).map (fun j => S.toArray[j]!) = S := by
  apply List.ext_getElem
  · simp
  · intro j h1 h2
    simp [h2]
def rsT (Z : List (List UInt8)) : Prop := ∀ j (h : j + 1 < Z.length), Lib.compareBytes Z[j] Z[j + 1] < 0
theorem rsT_pair {Z : List (List UInt8)} (h : rsT Z) : Z.Pairwise fun x y => x < y := by
  have go : ∀ (d i : Nat) (hi : i + d + 1 < Z.length), Z[i] < Z[i + d + 1] := fun d => by
    induction d with
    | zero => intro i hi; exact (cb_lt_iff _ _).1 (h i hi)
    | succ d ih =>
      intro i hi
      exact List.lt_trans (ih i (by omega)) ((cb_lt_iff _ _).1 (h (i + d + 1) hi))
  rw [List.pairwise_iff_getElem]
  intro i j hi hj hij
  obtain ⟨d, rfl⟩ : ∃ d, j = i + d + 1 := ⟨j - i - 1, by omega⟩
  exact go d i hj
theorem ris_iff (Z : List (List UInt8)) : Z = risB Z ↔ rsT Z := by
  have hsrt : (srtB Z).Pairwise fun x y => x ≤ y := by
    have h := List.pairwise_mergeSort (le := fun x y : List UInt8 => decide (x ≤ y)) (fun a b c h1 h2 => by simp only [decide_eq_true_eq] at *; exact List.le_trans h1 h2) (fun a b => by simp only [Bool.or_eq_true, decide_eq_true_eq]; exact List.le_total a b) Z
    unfold srtB
    exact h.imp fun h => of_decide_eq_true h
  have hlen : (srtB Z).length = Z.length := by unfold srtB; exact List.length_mergeSort Z
  constructor
  · intro h
    have hl : (risB Z).length = (srtB Z).length := by rw [← h, hlen]
    unfold risB Lib.compact Lib.compactUpTo at hl
    rw [List.length_map] at hl
    have hk := List.length_filter_eq_length_iff.1 (hl.trans (by simp))
    have hk' : ∀ j, j < (srtB Z).length → Lib.keeps (srtB Z).toArray j = true := fun j hj => hk j (List.mem_range.2 hj)
    have hS : Z = srtB Z := by
      have h5 : risB Z = srtB Z := by
        unfold risB Lib.compact
        rw [Lib.compactUpTo_all _ _ hk', range_get]
      exact h.trans h5
    intro j hj
    have h1 := hk' (j + 1) (by rw [hlen]; exact hj)
    have h2 : (srtB Z)[j + 1]'(by rw [hlen]; exact hj) ≠ (srtB Z)[j]'(by rw [hlen]; omega) := by
      have h3 : decide (j + 1 = 0 ∨ (srtB Z).toArray[j + 1]! ≠ (srtB Z).toArray[j + 1 - 1]!) = true := h1
      rcases of_decide_eq_true h3 with h4 | h4
      · omega
      · intro e
        apply h4
        rw [getElem!_pos _ _ (by simp [hlen]; exact hj), getElem!_pos _ _ (by simp [hlen]; omega)]
        simpa using e
    have h3 := List.pairwise_iff_getElem.1 hsrt j (j + 1) (by rw [hlen]; omega) (by rw [hlen]; exact hj) (by omega)
    have e1 : Z[j] = (srtB Z)[j]'(by rw [hlen]; omega) := by congr 1
    have e2 : Z[j + 1] = (srtB Z)[j + 1]'(by rw [hlen]; exact hj) := by congr 1
    rw [cb_lt_iff, e1, e2]
    rcases List.le_iff_lt_or_eq.1 h3 with h6 | h6
    · exact h6
    · exact absurd h6.symm h2
  · intro h
    have hp := rsT_pair h
    have hS : srtB Z = Z := by
      unfold srtB
      exact List.mergeSort_of_pairwise (hp.imp fun h => decide_eq_true (List.le_of_lt h))
    unfold risB Lib.compact
    rw [hS, Lib.compactUpTo_all, range_get]
    intro j hj
    cases j with
    | zero => exact Lib.keeps_lt_one _ 0 (by omega)
    | succ j =>
      refine Lib.keeps_pos ?_
      rw [getElem!_pos _ _ (by simpa using hj), getElem!_pos _ _ (by simp; omega)]
      intro e
      have h1 := List.pairwise_iff_getElem.1 hp j (j + 1) (by omega) hj (by omega)
      have e' : Z[j + 1] = Z[j] := by simpa using e
      rw [e'] at h1
      exact absurd h1 (List.lt_irrefl _)
end Ve
end Go.Proofs.YtjndahjfodnllaaGreatDoor


namespace Go.Proofs.YtjndahjfodnllaaGreatDoor
open Go.RowKit Go.Maps
namespace Ve
end Ve
end Go.Proofs.YtjndahjfodnllaaGreatDoor


namespace Go.Proofs.YtjndahjfodnllaaGreatDoor
open Go.RowKit
namespace Ve
theorem mAhead_trans {a b c : Bm} (h1 : mAhead a b = true) (h2 : mAhead b c = true) : mAhead a c = true := by
  unfold mAhead aheadB at *
  by_cases e1 : a.1.data.toList = b.1.data.toList
  · rw [if_pos e1] at h1
    rw [e1]
    by_cases e2 : b.1.data.toList = c.1.data.toList
    · rw [if_pos e2] at h2 ⊢
      unfold lessB at *
      simp only [Bool.and_eq_true, decide_eq_true_eq] at *
      exact ⟨h1.1, h2.2.1, ordV_trans h1.2.2 h2.2.2⟩
    · rw [if_neg e2] at h2 ⊢; exact h2
  · rw [if_neg e1] at h1
    by_cases e2 : b.1.data.toList = c.1.data.toList
    · rw [← e2, if_neg e1]; exact h1
    · rw [if_neg e2] at h2
      have h3 := cbt _ _ _ (of_decide_eq_true h1) (of_decide_eq_true h2)
      by_cases e3 : a.1.data.toList = c.1.data.toList
      · rw [e3] at h3
        have := lt_irrefl c.1
        unfold lt at this
        exact absurd h3 (of_decide_eq_false this)
      · rw [if_neg e3]; exact decide_eq_true h3
theorem mAhead_irr (a : Bm) : mAhead a a = false := by
  unfold mAhead aheadB
  rw [if_pos rfl]
  unfold lessB
  have : ¬ ordV a.2.data.toList a.2.data.toList < 0 := fun h => ordV_irr h h
  rw [decide_eq_false this, Bool.and_false, Bool.and_false]
theorem chk_each0 {Q : List Raw} {L : List Ent} (h : (chk Q L).1 = 0) : L.length ≤ 100 ∧ ∀ i, i < L.length → entE L i = 0 := by
  by_cases h1 : 100 < L.length
  · rw [chk_full h1] at h; exact absurd h (by decide)
  · refine ⟨by omega, ?_⟩
    cases hf : fstE (entE L) L.length with
    | some i =>
      rw [chk_each h1 hf] at h
      exact absurd h (fstE_of_some hf).2.1
    | none => exact fstE_of_none hf
theorem entE_mod {L : List Ent} {i : Nat} (hi : i < L.length) (h : entE L i = 0) : mErr L[i].1 = 0 := by
  by_cases hm : mErr L[i].1 = 0
  · exact hm
  · unfold entE at h
    rw [List.getElem?_eq_getElem hi] at h
    simp only at h
    rw [entW_bad hm] at h
    exact absurd h hm
theorem entE_ahead {L : List Ent} {k : Nat} (hk : k + 1 < L.length) (h : entE L (k + 1) = 0) : mAhead (L[k]'(by omega)).1 L[k + 1].1 = true := by
  have hm := entE_mod hk h
  rw [entE_1 hk] at h
  cases ha : mAhead (L[k]'(by omega)).1 L[k + 1].1
  · rw [entW_order hm ha] at h; exact absurd h (by decide)
  · rfl
theorem ahead_all {L : List Ent} (h : ∀ i, i < L.length → entE L i = 0) : ∀ (d i : Nat) (hi : i + d + 1 < L.length), mAhead (L[i]'(by omega)).1 (L[i + d + 1]'hi).1 = true
  | 0, i, hi => entE_ahead hi (h _ hi)
  | d + 1, i, hi => mAhead_trans (ahead_all h d i (by omega)) (entE_ahead (k := i + d + 1) hi (h _ hi))
structure Good (Q : List Raw) : Prop where
  ver : ∀ r, r ∈ Q → verErr r.1.2.data.toList = 0
  path : ∀ r, r ∈ Q → pathErr r.1.1.data.toList = 0
  one : ∀ i j (hi : i < Q.length) (hj : j < Q.length), Q[i].1 = Q[j].1 → i = j
theorem mErr_zero {m : Bm} (h : mErr m = 0) : pathErr m.1.data.toList = 0 ∧ verErr m.2.data.toList = 0 := by
  unfold mErr modErr at h
  by_cases h0 : pathErr m.1.data.toList = 0
  · rw [if_pos h0] at h
    by_cases h1 : verErr m.2.data.toList = 0
    · exact ⟨h0, h1⟩
    · rw [if_neg h1] at h; exact absurd h h1
  · rw [if_neg h0] at h; exact absurd h h0
theorem good_of {w : World} {v : Value} {Q : List Raw} {L : List Ent} (I : Ixs w v Q L) (h : (chk Q L).1 = 0) : Good Q := by
  obtain ⟨_, he⟩ := chk_each0 h
  have hm : ∀ i (hi : i < Q.length), Q[i].1 = (L[i]'(by rw [← I.ln]; exact hi)).1 := fun i hi => (I.ok i hi (by rw [← I.ln]; exact hi)).m
  have hz : ∀ i (hi : i < Q.length), pathErr Q[i].1.1.data.toList = 0 ∧ verErr Q[i].1.2.data.toList = 0 := fun i hi => by
    rw [hm i hi]; exact mErr_zero (entE_mod _ (he i (by rw [← I.ln]; exact hi)))
  refine ⟨fun r hr => ?_, fun r hr => ?_, ?_⟩
  · obtain ⟨i, hi, rfl⟩ := List.getElem_of_mem hr
    exact (hz i hi).2
  · obtain ⟨i, hi, rfl⟩ := List.getElem_of_mem hr
    exact (hz i hi).1
  · have key : ∀ i j (hi : i < Q.length) (hj : j < Q.length), i < j → Q[i].1 ≠ Q[j].1 := fun i j hi hj hij e => by
      have ha := ahead_all he (j - i - 1) i (by rw [← I.ln]; omega)
      have hjj : i + (j - i - 1) + 1 = j := by omega
      simp only [hjj] at ha
      rw [← hm i hi, ← hm j hj, e, mAhead_irr] at ha
      cases ha
    intro i j hi hj e
    rcases Nat.lt_trichotomy i j with h1 | h1 | h1
    · exact absurd e (key i j hi hj h1)
    · exact h1
    · exact absurd e.symm (key j i hj hi h1)
end Ve
end Go.Proofs.YtjndahjfodnllaaGreatDoor


namespace Go.Proofs.YtjndahjfodnllaaGreatDoor
open Go.RowKit
namespace Ve
theorem idx_is {P : Raw → Bool} {L : List Raw} {k : Nat} (h : idxOf P L = (k : Int)) : ∃ hk : k < L.length, P L[k] = true := by
  unfold idxOf at h
  cases h1 : fstE (idxE P L) L.length with
  | none => rw [h1] at h; simp only at h; omega
  | some j =>
    rw [h1] at h
    simp only at h
    have e : j = k := by omega
    subst e
    obtain ⟨a, b, _⟩ := fstE_of_some h1
    refine ⟨a, ?_⟩
    rw [idxE_at a] at b
    cases hp : P L[j] with
    | true => rfl
    | false => rw [hp] at b; exact absurd rfl b
theorem ErrAt.kind {W : World} {A : Nat → Addr} {x : Value} {c : Nat} {o : Option Nat} (h : ErrAt W A x c o) : (c = 0 ∧ x = .nilIface) ∨ (c ≠ 0 ∧ ∃ T a, x = .iface T (.pointer (some a))) := by
  cases o with
  | none =>
    have h : x = errA A c := h
    by_cases hc : c = 0
    · subst hc; exact Or.inl ⟨rfl, h⟩
    · obtain ⟨a, ha⟩ := errA_ne A hc
      exact Or.inr ⟨hc, _, a, h.trans ha⟩
  | some i =>
    obtain ⟨h1, b, h2, _⟩ := h
    exact Or.inr ⟨h1, _, _, h2⟩
theorem okI_iff {L : List Ent} (h : okI L = true) : (L.length ≤ 30 ∨ L.length = 101) ∧ ∀ e, e ∈ L → e.1.1.size ≤ 70 ∧ e.1.2.size ≤ 60 ∧ e.2.1.length ≤ 25 ∧ (∀ m, m ∈ e.2.1 → m.1.size ≤ 70 ∧ m.2.size ≤ 60) ∧ e.2.2.1.length ≤ 15 ∧ ∀ x, x ∈ e.2.2.1 → x.size ≤ 70 := by
  unfold okI at h
  rw [Bool.and_eq_true] at h
  obtain ⟨h1, h2⟩ := h
  refine ⟨by simpa [okN] using h1, fun e he => ?_⟩
  have h3 := List.all_eq_true.1 h2 e he
  unfold okE at h3
  simp only [Bool.and_eq_true, decide_eq_true_eq] at h3
  obtain ⟨⟨⟨⟨a, b⟩, c⟩, d⟩, f⟩ := h3
  obtain ⟨c1, c2⟩ := okL_iff c
  refine ⟨a, b, c1, c2, d, fun x hx => ?_⟩
  have := List.all_eq_true.1 f x hx
  simpa using this
theorem okI_sh {L : List Ent} (h : okI L = true) : ∀ e, e ∈ L → ShE e := fun e he => by
  obtain ⟨a, b, c, d, f, g⟩ := (okI_iff h).2 e he
  exact ⟨by omega, by omega, by omega, fun m hm => ⟨by have := (d m hm).1; omega, by have := (d m hm).2; omega⟩, by omega, fun x hx => by have := g x hx; omega⟩
theorem okI_fits {L : List Ent} (h : okI L = true) : ∀ e, e ∈ L → Fits e := fun e he => by
  obtain ⟨a, b, c, d, f, g⟩ := (okI_iff h).2 e he
  exact ⟨by omega, by omega⟩
theorem ixs_sz {w : World} {v : Value} {Q : List Raw} {L : List Ent} (I : Ixs w v Q L) (h : okI L = true) : ∀ r, r ∈ Q → r.1.1.size ≤ 80 ∧ r.1.2.size ≤ 80 := fun r hr => by
  obtain ⟨j, hj, rfl⟩ := List.getElem_of_mem hr
  have hj2 : j < L.length := by rw [← I.ln]; exact hj
  have hm := (I.ok j hj hj2).m
  obtain ⟨a, b, _⟩ := (okI_iff h).2 L[j] (List.getElem_mem hj2)
  rw [hm]
  exact ⟨by omega, by omega⟩
end Ve
end Go.Proofs.YtjndahjfodnllaaGreatDoor


namespace Go.Proofs.YtjndahjfodnllaaGreatDoor
open Go.RowKit Go.Maps
namespace Ve
theorem pk_rise {Z : List (List UInt8)} (h : ¬ 10 < Z.length) (h1 : Z.any noPk = false) (h2 : rsT Z) : packErr Z = 0 := pk_ok h h1 ((ris_iff Z).2 h2)
end Ve
end Go.Proofs.YtjndahjfodnllaaGreatDoor


namespace Go.Proofs.YtjndahjfodnllaaGreatDoor
open Go.RowKit Go.Maps
namespace Ve
theorem MsAt.cells {w : World} {a : Option Addr} {n c : Nat} {L : List Bm} (h : MsAt w (.slice a n c) L) {k : Nat} (hk : k < L.length) : ∃ b o, a = some ⟨b, o, none⟩ ∧ w.cell? ⟨b, o + k * 2, none⟩ = some (.string L[k].1) ∧ w.cell? ⟨b, o + k * 2 + 1, none⟩ = some (.string L[k].2) := by
  obtain ⟨a', c', e, _, h⟩ := h
  injection e with e1 e2 e3
  subst e1
  obtain ⟨b, o, e4, h4⟩ := h (by intro h0; rw [h0] at hk; simp at hk)
  exact ⟨b, o, e4, h4 k hk⟩
end Ve
end Go.Proofs.YtjndahjfodnllaaGreatDoor


namespace Go.Proofs.YtjndahjfodnllaaGreatDoor
open Go.RowKit Go.Maps
namespace Ve
end Ve
end Go.Proofs.YtjndahjfodnllaaGreatDoor


namespace Go.Proofs.YtjndahjfodnllaaGreatDoor
open Go.RowKit Go.Maps
namespace Ve
theorem put2_below {W w : World} {B b : Nat} {x y : Value} (h : Below B w W) (hb : B ≤ b) : Below B w ((W.setCell ⟨b, 0, none⟩ x).setCell ⟨b, 1, none⟩ y) :=
  (h.setCell (p := ⟨b, 0, none⟩) hb _).setCell (p := ⟨b, 1, none⟩) hb _
end Ve
end Go.Proofs.YtjndahjfodnllaaGreatDoor


namespace Go.Proofs.YtjndahjfodnllaaGreatDoor
open Go.RowKit Go.Maps
namespace Ve
theorem nonE_good {Q : List Raw} {R : List Bm} (h0 : ∀ j (h : j < R.length), 0 ≤ idxOf (isM R[j]) Q) : (codeE (nonE Q R) R.length, fstE (nonE Q R) R.length) = (0, none) := by
  have hs : fstE (nonE Q R) R.length = none := fstE_none fun j hj => by
    rw [nonE_at hj]
    unfold nonW
    rw [if_neg (Int.not_lt.2 (h0 j hj))]
  rw [codeE_none hs, hs]
end Ve
end Go.Proofs.YtjndahjfodnllaaGreatDoor


namespace Go.Proofs.YtjndahjfodnllaaGreatDoor
open Go.RowKit
namespace Ve
end Ve
end Go.Proofs.YtjndahjfodnllaaGreatDoor


namespace Go.Proofs.YtjndahjfodnllaaGreatDoor
open Go.RowKit
namespace Ve
end Ve
end Go.Proofs.YtjndahjfodnllaaGreatDoor


namespace Go.Proofs.YtjndahjfodnllaaGreatDoor
open Go.RowKit
namespace Ve
end Ve
end Go.Proofs.YtjndahjfodnllaaGreatDoor


namespace Go.Proofs.YtjndahjfodnllaaGreatDoor
open Go.RowKit Go.Maps
namespace Ve
theorem owns_from {w : World} {B C : Nat} {e : TypeId} {size : Nat} {v : Value} {n : Nat} {xs : List Value} (h : w.ownsRow B e size v n xs) (hb : C ≤ B) : w.ownsRow C e size v n xs := owns_mono h hb
theorem map_snoc {X : List ByteArray} {k : Nat} (hk : k < X.length) (f : ByteArray → ByteArray) : (X.take (k + 1)).map f = (X.take k).map f ++ [f X[k]] := by
  rw [List.take_succ_eq_append_getElem hk, List.map_append]; rfl
theorem packT_dot (t : ByteArray) : packT t ⟨#[46]⟩ = t := if_pos rfl
theorem packT_no {t s : ByteArray} (h : ¬ s = ⟨#[46]⟩) : packT t s = t ++ ⟨#[47]⟩ ++ s := if_neg h
end Ve
end Go.Proofs.YtjndahjfodnllaaGreatDoor


namespace Go.Proofs.YtjndahjfodnllaaGreatDoor
open Go.RowKit
namespace Ve
theorem pk_is {w : World} {v : Value} {Q : List Raw} {L : List Ent} (I : Ixs w v Q L) {m : Bm} {k : Nat} (hk : idxOf (isM m) Q = (k : Int)) : ∃ hq : k < Q.length, ∃ hl : k < L.length, Q[k].1 = m ∧ pkOf Q L m = (L[k]).2.2.1.map (packT m.1) ∧ TxAt w Q[k].2.2.1 (L[k]).2.2.1 := by
  obtain ⟨hkq, hm⟩ := idx_is hk
  have hkl : k < L.length := by rw [← I.ln]; exact hkq
  have hr := I.ok k hkq hkl
  have hm2 : Q[k].1 = m := by
    unfold isM at hm
    have := of_decide_eq_true hm
    exact Prod.ext this.1 this.2
  have he : (L[k]).1 = m := by rw [← hr.m]; exact hm2
  exact ⟨hkq, hkl, hm2, by unfold pkOf packL; rw [entOf_at hk hkl, he], hr.pk⟩
set_option maxRecDepth 100000 in
set_option maxHeartbeats 4000000 in
theorem pks_any (Q : List Raw) (L : List Ent) (m : Bm) (k : Nat) (v : Value) (w : World) (hL : L.length ≤ 1000) (sh : ∀ e, e ∈ L → ShE e) (hms : m.1.size < 999999) (I : Ixs w v Q L) (hk : idxOf (isM m) Q = (k : Int)) :
    Calls Tryz.prog 30 #[v, .agg #[.string m.1, .string m.2]] w fun e w' => ∃ u, e = .returned u ∧ w'.ownsRow w.heap.size 9 1 u (pkOf Q L m).length ((pkOf Q L m).map Value.string) ∧ Below w.heap.size w w' := by
  obtain ⟨i0, hi, hz0, hz1, hz2⟩ := info_parts infoStr
  obtain ⟨hkq, hkl, hqm, hpk, hpx⟩ := pk_is I hk
  have hsh := sh _ (List.getElem_mem hkl)
  have hX := hsh.pn
  have hxs := hsh.ps
  rw [hpk]
  have HF := hid (fun W (h : Below w.heap.size w W) => find_any Q m v W (by rw [I.ln]; omega) (I.es.below h))
  rw [hk] at HF
  obtain ⟨a, c, hv1, hcl, hsl, hce⟩ := id I.es
  subst hv1
  obtain ⟨eb, eo, rfl, hcells⟩ := hce (fun h => by rw [h] at hkq; simp at hkq)
  have HY3 := hid (hcells k hkq).2.2.2.1
  generalize (L[k]).2.2.1 = X at *
  obtain ⟨pa, pc, hpv, -, -⟩ := id hpx
  rw [hpv] at HY3 hpx
  have HX := hid hpx
  have hkI := ix_lt hkq
  have hk0 := ix_pos k
  obtain ⟨t, q⟩ := m
  simp only at hms ⊢
  have HB0 := hid ((Below.refl w.heap.size w).alloc (Nat.le_refl _) (.cells #[.string t, .string q] 38))
  have HE0 := hid (heap_new w (.cells #[.string t, .string q] 38))
  generalize hZ : X.map (packT t) = Z
  have HZ := hid hZ
  clear hZ hpx I hk hpk hqm hsh hcells hsl hce sh
  go_enter Tryz.func30, Tryz.ntmps30
  go_wp2_with fail
  refine (HF.out _ HB0.out).mono ?_
  rintro e w1 ⟨rfl, hb⟩
  have HB1 := hid (HB0.out.trans (hb.mono HB0.out.size))
  have HE1 := hid ((hb.block _ (lt_of_blk HE0.out)).trans HE0.out)
  have HX1 := hid (HX.out.below HB1.out)
  have y3 := cell_below HB1.out HY3.out
  clear hb HE0 HX
  go_wp2_with fail
  clear y3
  go_loopw [5, 16] (fun ov iv wr => ∃ k : Nat, k ≤ X.length ∧ iv = .int .i64 k ∧ Hid (wr.ownsRow w1.heap.size 9 1 ov ((X.take k).map (packT t)).length (((X.take k).map (packT t)).map Value.string)) ∧ Hid (Below w1.heap.size w1 wr)) (fun _ iv _ => X.length - (intOf iv).toNat)
  case atStart => exact ⟨0, Nat.zero_le _, rfl, hid (World.ownsRow_nil _ _ _ _), hid (Below.refl _ _)⟩
  case round =>
    obtain ⟨k, hk, rfl, HO, HB⟩ := hrel
    have HER := hid ((HB.out.block _ (lt_of_blk HE1.out)).trans HE1.out)
    have s0 : wr.cell? ⟨w.heap.size, 0, none⟩ = some (.string t) := by rw [Lib.cell_of_heap HER.out]; rfl
    by_cases hlt : k < X.length
    · have hkI := ix_lt hlt
      have hk0 := ix_pos k
      have HLT := hid hlt
      obtain ⟨lb, lo, rfl, y9⟩ := tx_cellK HX1.out hlt
      have y0 := cell_below HB.out y9
      clear y9
      have HSN := hid (map_snoc hlt (packT t))
      have HLN := hid (show ((X.take k).map (packT t)).length ≤ 1000 by rw [List.length_map, List.length_take]; omega)
      have HDT := hid (fun h : X[k] = ⟨#[46]⟩ => show packT t X[k] = t by rw [h, packT_dot])
      have HND := hid (fun h : ¬ X[k] = ⟨#[46]⟩ => packT_no (t := t) h)
      have hxk := hxs _ (List.getElem_mem hlt)
      generalize X[k] = x at *
      generalize (X.take k).map (packT t) = Y at *
      clear hlt HX1
      by_cases he : x = ⟨#[46]⟩
      · have HP := hid (HDT.out he)
        have hss : (x.toList == [46]) = true := by rw [he, ByteArray.toList_eq]; rfl
        clear he
        go_wp2_with (at_builtin; refine wpList_append_own _ rfl _ _ 33 rfl w1.heap.size 9 i0 _ 1 16 Tryz.underlying33 hi hz0 hz1 hz2 rfl (by decide) _ _ _ rfl (HO.out.alloc _) ⟨wr.heap.size, 0, none⟩ 1 1 [.string t] rfl rfl ?c1 ?c2 ?c3 ?c4 ?c5 ?_)
        case c1 => exact World.news_of_block (cs := #[.string t]) (heap_new _ _)
        case c2 => intro u hu; simp at hu; rw [hu]; rfl
        case c3 => have := HLN.out; unfold maxLen; omega
        case c4 => have := HLN.out; omega
        case c5 => have := HB.out.size; simp; omega
        intro v' w3 hown hgrow _
        have HR3 := hid (rel_app HB.out.size HB.out HO.out (Below.refl _ _) hgrow)
        have HO3 := hid hown
        clear hown hgrow s0 y0
        go_wp2_with fail
        go_roundw
        case rel => exact ⟨k + 1, HLT.out, by first | exact nr_idx k | exact nx_idx HLT.out (by omega : X.length ≤ 1000000), by rw [HSN.out, List.length_append, List.map_append, HP.out]; exact HO3, HR3⟩
        case measure => first | exact nr_meas HLT.out | exact nx_meas HLT.out (by omega : X.length ≤ 1000000)
      · have HP := hid (HND.out he)
        have hss : (x.toList == [46]) = false := by
          have h := str_ne he
          rw [ByteArray.toList_eq, ByteArray.toList_eq] at h
          rw [ByteArray.toList_eq]; exact h
        clear he
        have b0 : ¬ 9223372036854775807 < t.size + 1 := by omega
        have b1 : ¬ 9223372036854775807 < t.size + 1 + x.size := by omega
        have b2 : (t ++ (⟨#[47]⟩ : ByteArray)).size = t.size + 1 := by rw [ByteArray.size_append]; rfl
        go_wp2_with (at_builtin; refine wpList_append_own _ rfl _ _ 33 rfl w1.heap.size 9 i0 _ 1 16 Tryz.underlying33 hi hz0 hz1 hz2 rfl (by decide) _ _ _ rfl (HO.out.alloc _) ⟨wr.heap.size, 0, none⟩ 1 1 [.string (t ++ ⟨#[47]⟩ ++ x)] rfl rfl ?c1 ?c2 ?c3 ?c4 ?c5 ?_)
        case c1 => exact World.news_of_block (cs := #[.string (t ++ ⟨#[47]⟩ ++ x)]) (heap_new _ _)
        case c2 => intro u hu; simp at hu; rw [hu]; rfl
        case c3 => have := HLN.out; unfold maxLen; omega
        case c4 => have := HLN.out; omega
        case c5 => have := HB.out.size; simp; omega
        intro v' w3 hown hgrow _
        have HR3 := hid (rel_app HB.out.size HB.out HO.out (Below.refl _ _) hgrow)
        have HO3 := hid hown
        clear hown hgrow s0 y0
        go_wp2_with fail
        go_roundw
        case rel => exact ⟨k + 1, HLT.out, by first | exact nr_idx k | exact nx_idx HLT.out (by omega : X.length ≤ 1000000), by rw [HSN.out, List.length_append, List.map_append, HP.out]; exact HO3, HR3⟩
        case measure => first | exact nr_meas HLT.out | exact nx_meas HLT.out (by omega : X.length ≤ 1000000)
    · have HTR := hid (show X.take k = X from List.take_of_length_le (by omega))
      rw [HTR.out, HZ.out] at HO
      have hkI := ix_nlt hlt
      clear hlt
      go_wp2_with fail
      go_ret
      exact ⟨_, rfl, owns_from HO.out HB1.out.size, HB1.out.trans (HB.out.mono HB1.out.size)⟩
end Ve
end Go.Proofs.YtjndahjfodnllaaGreatDoor
