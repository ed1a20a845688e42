/-
  An index that is right, plain: its modules are unlike; each path once; the versions of a path, counted; the latest one.
-/
import Derived.Test.YtanponneancajaaGreatDoorIxH
import Derived.Test.YtanponneancajaaGreatDoorIxW
import Derived.Test.YtanponneancajaaGreatDoorIxPa
import Derived.Test.YtanponneancajaaGreatDoorFileR
namespace Go.Proofs.YtanponneancajaaGreatDoor
open Go.RowKit
namespace Ve

/-! Sorted and each once. -/
theorem cut_mem (d : Array (List UInt8)) (t : List UInt8) : ∀ m, t ∈ Lib.compactUpTo d m ↔ ∃ j, j < m ∧ d[j]! = t
  | 0 => by simp [Lib.compactUpTo]
  | m + 1 => by
    rw [Lib.compactUpTo_succ, List.mem_append, cut_mem d t m]
    constructor
    · rintro (⟨j, hj, e⟩ | h)
      · exact ⟨j, by omega, e⟩
      · split at h
        · exact ⟨m, by omega, (by simpa using h : t = d[m]!).symm⟩
        · simp at h
    · rintro ⟨j, hj, e⟩
      by_cases hjm : j < m
      · exact Or.inl ⟨j, hjm, e⟩
      · have : j = m := by omega
        subst this
        cases hk : Lib.keeps d j
        · left
          have : j ≠ 0 ∧ d[j]! = d[j - 1]! := by
            have h2 : decide (j = 0 ∨ d[j]! ≠ d[j - 1]!) = false := hk
            have h3 := of_decide_eq_false h2
            exact ⟨fun h => h3 (Or.inl h), by
              by_cases h4 : d[j]! = d[j - 1]!
              · exact h4
              · exact absurd (Or.inr h4) h3⟩
          exact ⟨j - 1, by omega, this.2 ▸ e⟩
        · right; simp [e]
theorem le_anti {a b : List UInt8} (h1 : a ≤ b) (h2 : b ≤ a) : a = b := List.le_antisymm h1 h2
theorem cut_nodup (d : Array (List UInt8)) (hs : ∀ i j, i < j → j < d.size → d[i]! ≤ d[j]!) : ∀ m, m ≤ d.size → (Lib.compactUpTo d m).Nodup
  | 0, _ => by simp [Lib.compactUpTo]
  | m + 1, hm => by
    rw [Lib.compactUpTo_succ, List.nodup_append]
    refine ⟨cut_nodup d hs m (by omega), by split <;> simp, ?_⟩
    intro a ha b hb hab
    subst hab
    split at hb
    · rename_i hk
      have hb : a = d[m]! := by simpa using hb
      obtain ⟨j, hj, e⟩ := (cut_mem d a m).1 ha
      have h2 : decide (m = 0 ∨ d[m]! ≠ d[m - 1]!) = true := hk
      rcases of_decide_eq_true h2 with h3 | h3
      · omega
      · apply h3
        by_cases hj1 : j = m - 1
        · rw [← hb, ← e, hj1]
        · have q1 := hs j (m - 1) (by omega) (by omega)
          have q2 := hs (m - 1) m (by omega) (by omega)
          rw [e] at q1
          rw [← hb] at q2 ⊢
          exact le_anti q1 q2
    · simp at hb
theorem srtB_mem {Z : List (List UInt8)} {t : List UInt8} : t ∈ srtB Z ↔ t ∈ Z := by unfold srtB; exact List.mem_mergeSort
theorem srtB_le (Z : List (List UInt8)) : (srtB Z).Pairwise fun x y => x ≤ y := by
  unfold srtB
  have := List.pairwise_mergeSort (le := fun x y : List UInt8 => decide (x ≤ y)) (fun a b c h1 h2 => decide_eq_true (List.le_trans (of_decide_eq_true h1) (of_decide_eq_true h2)))
    (fun a b => by
      rcases List.le_total a b with h | h
      · simp [h]
      · simp [h]) Z
  exact this.imp fun h => of_decide_eq_true h
theorem risB_mem {Z : List (List UInt8)} {t : List UInt8} : t ∈ risB Z ↔ t ∈ Z := by
  unfold risB Lib.compact
  rw [cut_mem, ← srtB_mem (Z := Z)]
  constructor
  · rintro ⟨j, hj, e⟩
    rw [← e, getElem!_pos _ j (by simpa using hj)]
    simp
  · intro h
    obtain ⟨j, hj, e⟩ := List.getElem_of_mem h
    exact ⟨j, hj, by rw [getElem!_pos _ j (by simpa using hj)]; simpa using e⟩
theorem risB_nodup (Z : List (List UInt8)) : (risB Z).Nodup := by
  unfold risB Lib.compact
  refine cut_nodup _ (fun i j hij hj => ?_) _ (by simp)
  have hj' : j < (srtB Z).length := by simpa using hj
  rw [getElem!_pos _ i (by simp; omega), getElem!_pos _ j (by simpa using hj')]
  simpa using List.pairwise_iff_getElem.1 (srtB_le Z) i j (by omega) hj' hij

theorem Good.ofP {Q : List Raw} (g : Good Q) (t : ByteArray) : ofP t Q = Q.filter fun r => decide (r.1.1 = t) := by
  unfold Ve.ofP
  refine List.filter_congr fun r hr => ?_
  unfold isP
  rw [decide_eq_true (g.ver r hr), Bool.and_true]
theorem Good.ofP_mem {Q : List Raw} (g : Good Q) {t : ByteArray} {r : Raw} : r ∈ Ve.ofP t Q ↔ r ∈ Q ∧ r.1.1 = t := by
  rw [g.ofP t, List.mem_filter, decide_eq_true_iff]

/-! The versions of a path, counted. -/
theorem nodup_len {α : Type} [DecidableEq α] : ∀ {a b : List α}, a.Nodup → b.Nodup → (∀ x, x ∈ a ↔ x ∈ b) → a.length = b.length
  | [], b, _, _, h => by
    cases b with
    | nil => rfl
    | cons y s => exact absurd ((h y).2 (by simp)) (by simp)
  | x :: a, b, ha, hb, h => by
    have hx : x ∈ b := (h x).1 (by simp)
    have hl := List.length_erase_of_mem hx
    obtain ⟨h1, h2⟩ := List.nodup_cons.1 ha
    have hne : 0 < b.length := List.length_pos_of_mem hx
    have := nodup_len h2 (hb.erase x) (fun z => by
      rw [hb.mem_erase_iff, ← h z, List.mem_cons]
      constructor
      · intro hz; exact ⟨fun e => h1 (e ▸ hz), Or.inr hz⟩
      · rintro ⟨e, h3 | h3⟩
        · exact absurd h3 e
        · exact h3)
    rw [List.length_cons, this, hl]; omega
theorem Good.pair {Q : List Raw} (g : Good Q) : Q.Pairwise fun r s => r.1 ≠ s.1 :=
  List.pairwise_iff_getElem.2 fun i j hi hj hij e => by have := g.one i j hi hj e; omega
theorem Good.verNodup {Q : List Raw} (g : Good Q) (t : ByteArray) : (bl (verL (Ve.ofP t Q))).Nodup := by
  have h1 : (Ve.ofP t Q).Pairwise fun r s => r.1 ≠ s.1 := List.Pairwise.sublist List.filter_sublist g.pair
  have h2 : (Ve.ofP t Q).Pairwise fun r s => r.1.2.data.toList ≠ s.1.2.data.toList := List.Pairwise.imp_of_mem (fun {r s} hr hs hne e => hne (Prod.ext (((g.ofP_mem.1 hr).2).trans ((g.ofP_mem.1 hs).2).symm) (str_ext e))) h1
  unfold bl verL
  rw [List.map_map]
  exact List.pairwise_map.2 h2
theorem kept_mem {L X : List ByteArray} (hK : Kept L L.length X) (hv : ∀ x, x ∈ L → verErr x.data.toList = 0) (t : List UInt8) : t ∈ bl X ↔ t ∈ bl L := by
  have := hK.2 t
  rw [List.take_length] at this
  rw [this]
  constructor
  · exact fun h => h.1
  · intro h
    refine ⟨h, ?_⟩
    obtain ⟨x, hx, rfl⟩ := List.mem_map.1 h
    exact hv x hx
theorem rises_nd {l : List (List UInt8)} (h : rises l) : l.Nodup := List.Pairwise.imp (fun {a b} h e => by subst e; exact ordV_irr h h) h
theorem verL_ok {Q R : List Raw} (g : Good Q) (hR : ∀ r, r ∈ R → r ∈ Q) : ∀ x, x ∈ verL R → verErr x.data.toList = 0 := fun x hx => by
  obtain ⟨r, hr, rfl⟩ := List.mem_map.1 hx
  exact g.ver r (hR r hr)
theorem ofP_sub {Q : List Raw} {t : ByteArray} : ∀ r, r ∈ ofP t Q → r ∈ Q := fun _ hr => (List.mem_filter.1 hr).1
theorem kept_len {Q : List Raw} (g : Good Q) {t : ByteArray} {X : List ByteArray} (hK : Kept (verL (ofP t Q)) (verL (ofP t Q)).length X) : X.length = (ofP t Q).length := by
  have := nodup_len (rises_nd hK.1) (g.verNodup t) (kept_mem hK (verL_ok g ofP_sub))
  rw [bl_len, bl_len, verL_len] at this; exact this
theorem kept_has {Q R : List Raw} (g : Good Q) (hR : ∀ r, r ∈ R → r ∈ Q) {X : List ByteArray} (hK : Kept (verL R) (verL R).length X) {x : ByteArray} (hx : x ∈ X) : ∃ r, r ∈ R ∧ r.1.2 = x := by
  have h1 : x.data.toList ∈ bl X := List.mem_map.2 ⟨x, hx, rfl⟩
  obtain ⟨y, hy, e⟩ := List.mem_map.1 ((kept_mem hK (verL_ok g hR) _).1 h1)
  obtain ⟨r, hr, rfl⟩ := List.mem_map.1 hy
  exact ⟨r, hr, str_ext e⟩
theorem kept_in {Q R : List Raw} (g : Good Q) (hR : ∀ r, r ∈ R → r ∈ Q) {X : List ByteArray} (hK : Kept (verL R) (verL R).length X) {r : Raw} (hr : r ∈ R) : r.1.2 ∈ X := by
  have h1 : r.1.2.data.toList ∈ bl (verL R) := List.mem_map.2 ⟨r.1.2, List.mem_map.2 ⟨r, hr, rfl⟩, rfl⟩
  obtain ⟨y, hy, e⟩ := List.mem_map.1 ((kept_mem hK (verL_ok g hR) _).2 h1)
  rw [← str_ext e]; exact hy
/-- The paths of an index, each once. -/
def pathsT (Q : List Raw) : List ByteArray := tx (risB (bl (pathL Q)))
theorem tx_mem {Z : List (List UInt8)} {x : ByteArray} : x ∈ tx Z ↔ x.data.toList ∈ Z := by
  constructor
  · intro h
    obtain ⟨t, ht, rfl⟩ := List.mem_map.1 h
    rw [show (ba' t).data.toList = t by simp [ba']]; exact ht
  · intro h
    exact List.mem_map.2 ⟨_, h, str_ext (by simp [ba'])⟩
theorem pathsT_mem {Q : List Raw} {t : ByteArray} : t ∈ pathsT Q ↔ ∃ r, r ∈ Q ∧ r.1.1 = t := by
  unfold pathsT
  rw [tx_mem, risB_mem]
  constructor
  · intro h
    obtain ⟨x, hx, e⟩ := List.mem_map.1 h
    obtain ⟨r, hr, rfl⟩ := List.mem_map.1 hx
    exact ⟨r, hr, str_ext e⟩
  · rintro ⟨r, hr, rfl⟩
    exact List.mem_map.2 ⟨_, List.mem_map.2 ⟨r, hr, rfl⟩, rfl⟩
theorem pathsT_nodup (Q : List Raw) : (pathsT Q).Nodup := by
  have h := risB_nodup (bl (pathL Q))
  rw [← bl_tx (risB (bl (pathL Q)))] at h
  exact List.Pairwise.imp (fun {a b} hne e => hne (by rw [e])) (List.pairwise_map.1 h)
theorem sum_add (f g : ByteArray → Nat) : ∀ T : List ByteArray, (T.map fun t => f t + g t).sum = (T.map f).sum + (T.map g).sum
  | [] => rfl
  | t :: T => by
    simp only [List.map_cons, List.sum_cons]
    rw [sum_add f g T]; omega
theorem sum_one {a : ByteArray} : ∀ {T : List ByteArray}, T.Nodup → a ∈ T → (T.map fun t => if a = t then 1 else 0).sum = 1
  | [], _, h => absurd h (by simp)
  | t :: T, hn, h => by
    obtain ⟨h1, h2⟩ := List.nodup_cons.1 hn
    simp only [List.map_cons, List.sum_cons]
    by_cases e : a = t
    · rw [if_pos e]
      have hz : ∀ T' : List ByteArray, a ∉ T' → (T'.map fun t => if a = t then 1 else 0).sum = 0 := fun T' => by
        induction T' with
        | nil => intro _; rfl
        | cons y s ih =>
          intro hy
          simp only [List.map_cons, List.sum_cons]
          rw [if_neg (fun e => hy (by rw [e]; simp)), ih (fun hh => hy (List.mem_cons_of_mem _ hh))]
      rw [hz T (by rw [e]; exact h1)]
    · rw [if_neg e, sum_one h2 (by
        rcases List.mem_cons.1 h with h3 | h3
        · exact absurd h3 e
        · exact h3)]
theorem sum_paths (T : List ByteArray) (hn : T.Nodup) : ∀ Q : List Raw, (∀ r, r ∈ Q → r.1.1 ∈ T) → (T.map fun t => (Q.filter fun r => decide (r.1.1 = t)).length).sum = Q.length
  | [], _ => by
    have hz : ∀ T' : List ByteArray, (T'.map fun t => (([] : List Raw).filter fun r => decide (r.1.1 = t)).length).sum = 0 := fun T' => by
      induction T' with
      | nil => rfl
      | cons y s ih => simp only [List.map_cons, List.sum_cons]; rw [ih]; rfl
    exact hz T
  | r :: Q, h => by
    have e : (fun t => ((r :: Q).filter fun r => decide (r.1.1 = t)).length) = fun t => (Q.filter fun r => decide (r.1.1 = t)).length + (if r.1.1 = t then 1 else 0) := by
      funext t
      rw [List.filter_cons]
      by_cases h1 : r.1.1 = t
      · rw [if_pos (by simp [h1]), if_pos h1]; rfl
      · rw [if_neg (by simp [h1]), if_neg h1]; rfl
    rw [e, sum_add, sum_paths T hn Q (fun s hs => h s (List.mem_cons_of_mem _ hs)), sum_one hn (h r (by simp))]; rfl
/-- All versions of the first paths. -/
def manyN (Q : List Raw) (k : Nat) : Nat := (((pathsT Q).take k).map fun t => (ofP t Q).length).sum
theorem manyN_next {Q : List Raw} {k : Nat} (hk : k < (pathsT Q).length) : manyN Q (k + 1) = manyN Q k + (ofP (pathsT Q)[k] Q).length := by
  unfold manyN
  rw [List.take_succ_eq_append_getElem hk, List.map_append, List.sum_append]; simp
theorem manyN_all {Q : List Raw} (g : Good Q) : manyN Q (pathsT Q).length = Q.length := by
  unfold manyN
  rw [List.take_length, ← sum_paths (pathsT Q) (pathsT_nodup Q) Q (fun r hr => pathsT_mem.2 ⟨r, hr, rfl⟩)]
  congr 1
  refine List.map_congr_left fun t _ => ?_
  rw [g.ofP t]
theorem manyN_le {Q : List Raw} (g : Good Q) (k : Nat) : manyN Q k ≤ Q.length := by
  rw [← manyN_all g]
  unfold manyN
  rw [List.take_length]
  conv => rhs; rw [← List.take_append_drop k (pathsT Q), List.map_append, List.sum_append]
  omega

/-! The latest. -/
theorem bestR_ne {L : List Raw} (h : L ≠ []) : bestR L ≠ [] := by
  unfold bestR
  split
  · rename_i h1; intro e; rw [e] at h1; simp at h1
  · split
    · rename_i h1; intro e; rw [e] at h1; simp at h1
    · exact h
/-- What is liked as well as one of the best is one of the best. -/
theorem best_liked {Q L : List Raw} (g : Good Q) (hL : ∀ r, r ∈ L → r ∈ Q) {r s : Raw} (hr : r ∈ bestR L) (hs : s ∈ L) (h1 : (!s.2.2.2 || r.2.2.2) = true)
    (h2 : (decide ((preOf s.1.2.data.toList).length = 0) || (decide (0 < (preOf r.1.2.data.toList).length) || r.2.2.2)) = true) : s ∈ bestR L := by
  have hv : verErr s.1.2.data.toList = 0 := g.ver s (hL s hs)
  unfold bestR at hr ⊢
  split at hr
  · rename_i hd
    rw [if_pos hd]
    obtain ⟨hr1, hr2⟩ := List.mem_filter.1 hr
    obtain ⟨hr3, hr4⟩ := List.mem_filter.1 hr1
    have hvr : verErr r.1.2.data.toList = 0 := g.ver r (hL r hr3)
    have hb : r.2.2.2 = false := by unfold isS at hr4; simpa using hr4
    have hp : ¬ 0 < (preOf r.1.2.data.toList).length := by
      unfold isD preB at hr2
      rw [decide_eq_true hvr, Bool.true_and] at hr2
      simpa using hr2
    rw [hb, Bool.or_false] at h1
    rw [hb, decide_eq_false hp, Bool.or_false, Bool.or_false] at h2
    refine List.mem_filter.2 ⟨List.mem_filter.2 ⟨hs, by unfold isS; exact h1⟩, ?_⟩
    unfold isD preB
    have := of_decide_eq_true h2
    rw [decide_eq_false (by omega : ¬ 0 < (preOf s.1.2.data.toList).length), Bool.and_false]; rfl
  · rename_i hd
    rw [if_neg hd]
    split at hr
    · rename_i hd2
      rw [if_pos hd2]
      have hb : r.2.2.2 = false := by have := (List.mem_filter.1 hr).2; unfold isS at this; simpa using this
      rw [hb, Bool.or_false] at h1
      exact List.mem_filter.2 ⟨hs, by unfold isS; exact h1⟩
    · rename_i hd2
      rw [if_neg hd2]; exact hs
/-- The last of what is kept: one of them, and none is greater. -/
theorem kept_last {Q R : List Raw} (g : Good Q) (hR : ∀ r, r ∈ R → r ∈ Q) (hne : R ≠ []) {X : List ByteArray} (hK : Kept (verL R) (verL R).length X) :
    (∃ r, r ∈ R ∧ r.1.2 = lastT X) ∧ ∀ s, s ∈ R → ¬ ordV (lastT X).data.toList s.1.2.data.toList < 0 := by
  have hX : 0 < X.length := by
    obtain ⟨r, hr⟩ := List.exists_mem_of_ne_nil R hne
    exact List.length_pos_of_mem (kept_in g hR hK hr)
  have hl := lastT_get hX
  refine ⟨?_, fun s hs h => ?_⟩
  · rw [hl]; exact kept_has g hR hK (List.getElem_mem _)
  · have hin := kept_in g hR hK hs
    obtain ⟨j, hj, e⟩ := List.getElem_of_mem hin
    have hr := hK.1
    unfold rises at hr
    have hbl : (bl X).length = X.length := bl_len X
    rw [hl, ← e] at h
    by_cases hjl : j = X.length - 1
    · subst hjl; exact ordV_irr h h
    · have h2 := List.pairwise_iff_getElem.1 hr j (X.length - 1) (by omega) (by omega) (by omega)
      have g1 : (bl X)[j]'(by omega) = X[j].data.toList := by simp [bl]
      have g2 : (bl X)[X.length - 1]'(by omega) = (X[X.length - 1]'(by omega)).data.toList := by simp [bl]
      rw [g1, g2] at h2
      exact ordV_irr h h2
/-- The latest of a path that there is: its entry; what is liked as well is not greater. -/
structure Top (Q : List Raw) (t top : ByteArray) (at_ : Nat) : Prop where
  lt : at_ < Q.length
  idx : idxOf (isM (t, top)) Q = (at_ : Int)
  ver : verErr top.data.toList = 0
  no : ∀ s, s ∈ ofP t Q → (!s.2.2.2 || (Q[at_]'lt).2.2.2) = true → (decide ((preOf s.1.2.data.toList).length = 0) || (decide (0 < (preOf top.data.toList).length) || (Q[at_]'lt).2.2.2)) = true → lessB top.data.toList s.1.2.data.toList = false
theorem top_of {Q : List Raw} (g : Good Q) {t : ByteArray} (ht : t ∈ pathsT Q) {X : List ByteArray} (hK : Kept (verL (bestR (ofP t Q))) (verL (bestR (ofP t Q))).length X) : ∃ at_, Top Q t (lastT X) at_ := by
  obtain ⟨r0, hr0, e0⟩ := pathsT_mem.1 ht
  have hne : ofP t Q ≠ [] := List.ne_nil_of_mem (g.ofP_mem.2 ⟨hr0, e0⟩)
  have hsub : ∀ r, r ∈ bestR (ofP t Q) → r ∈ Q := fun r hr => ofP_sub r (bestR_sub hr)
  obtain ⟨⟨r, hr, er⟩, hmax⟩ := kept_last g hsub (bestR_ne hne) hK
  have hrq := g.ofP_mem.1 (bestR_sub hr)
  obtain ⟨n, hn, hi, hq⟩ := g.find hrq.1
  have hm : r.1 = (t, lastT X) := Prod.ext hrq.2 er
  refine ⟨n, hn, by rw [← hm]; exact hi, by rw [← er]; exact g.ver r hrq.1, fun s hs h1 h2 => ?_⟩
  rw [hq] at h1 h2
  rw [← er] at h2
  have hsb := best_liked g ofP_sub hr hs h1 h2
  unfold lessB
  rw [decide_eq_false (hmax s hsb), Bool.and_false, Bool.and_false]
/-- A version of a path that there is. -/
structure One (Q : List Raw) (t v : ByteArray) (n : Nat) : Prop where
  lt : n < Q.length
  idx : idxOf (isM (t, v)) Q = (n : Int)
  ver : verErr v.data.toList = 0
  mem : Q[n]'lt ∈ ofP t Q
  same : (Q[n]'lt).1.2 = v
theorem one_of {Q : List Raw} (g : Good Q) {t v : ByteArray} {X : List ByteArray} (hK : Kept (verL (ofP t Q)) (verL (ofP t Q)).length X) (hv : v ∈ X) : ∃ n, One Q t v n := by
  obtain ⟨r, hr, e⟩ := kept_has g ofP_sub hK hv
  have hrq := g.ofP_mem.1 hr
  obtain ⟨n, hn, hi, hq⟩ := g.find hrq.1
  have hm : r.1 = (t, v) := Prod.ext hrq.2 e
  exact ⟨n, hn, by rw [← hm]; exact hi, by rw [← e]; exact g.ver r hrq.1, by rw [hq]; exact hr, by rw [hq]; exact e⟩
/-- Of a path that there is not there is none. -/
theorem none_of {Q : List Raw} (g : Good Q) {t : ByteArray} (ht : pathErr t.data.toList ≠ 0) {X : List ByteArray} (hK : Kept (verL (bestR (ofP t Q))) (verL (bestR (ofP t Q))).length X) : lastT X = ⟨#[]⟩ := by
  have h0 : ofP t Q = [] := by
    rw [List.eq_nil_iff_forall_not_mem]
    intro r hr
    have := g.ofP_mem.1 hr
    exact ht (by rw [← this.2]; exact g.path r this.1)
  have hb : bestR (ofP t Q) = [] := by rw [h0]; rfl
  cases X with
  | nil => rfl
  | cons x s =>
    obtain ⟨r, hr, _⟩ := kept_has g (R := bestR (ofP t Q)) (fun r hr => ofP_sub r (bestR_sub hr)) hK (x := x) (by simp)
    rw [hb] at hr; cases hr
end Ve
end Go.Proofs.YtanponneancajaaGreatDoor
