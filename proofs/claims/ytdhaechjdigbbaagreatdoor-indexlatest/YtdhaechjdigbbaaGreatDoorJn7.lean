/-
  An index that is right, plain: its modules are unlike; each path once; the versions of a path, counted; the latest one.
-/
import Derived.Test.YtdhaechjdigbbaaGreatDoorJn3
import Derived.Test.YtdhaechjdigbbaaGreatDoorJn6
import Derived.Test.YtdhaechjdigbbaaGreatDoorCoded
import Derived.Test.YtdhaechjdigbbaaGreatDoorJn1
import Derived.Deep.DeepCutAuto
namespace Go.Proofs.YtdhaechjdigbbaaGreatDoor
open Go.RowKit
namespace Ve

/-! Sorted and each once. -/
theorem cut_mem (d : Array (List UInt8)) (t : List UInt8) : ∀ m, t ∈ Lib.compactUpTo d m ↔ ∃ j, j < m ∧ d[j]! = t
  | 0 => by simp [Lib.compactUpTo]
  | m + 1 => by
    rw [Lib.compactUpTo_succ, List.mem_append, cut_mem d t m]
    constructor
    · rintro (⟨j, hj, e⟩ | h)
      · exact ⟨j, by omega, e⟩
      · split at h
        · exact ⟨m, by omega, (by simpa using h : t = d[m]!).symm⟩
        · simp at h
    · rintro ⟨j, hj, e⟩
      by_cases hjm : j < m
      · exact Or.inl ⟨j, hjm, e⟩
      · have : j = m := by omega
        subst this
        cases hk : Lib.keeps d j
        · left
          have : j ≠ 0 ∧ d[j]! = d[j - 1]! := by
            have h2 : decide (j = 0 ∨ d[j]! ≠ d[j - 1]!) = false := hk
            have h3 := of_decide_eq_false h2
            exact ⟨fun h => h3 (Or.inl h), by
              by_cases h4 : d[j]! = d[j - 1]!
              · exact h4
              · exact absurd (Or.inr h4) h3⟩
          exact ⟨j - 1, by omega, this.2 ▸ e⟩
        · right; simp [e]
theorem le_anti {a b : List UInt8} (h1 : a ≤ b) (h2 : b ≤ a) : a = b := List.le_antisymm h1 h2
theorem cut_nodup (d : Array (List UInt8)) (hs : ∀ i j, i < j → j < d.size → d[i]! ≤ d[j]!) : ∀ m, m ≤ d.size → (Lib.compactUpTo d m).Nodup
  | 0, _ => by simp [Lib.compactUpTo]
  | m + 1, hm => by
    rw [Lib.compactUpTo_succ, List.nodup_append]
    refine ⟨cut_nodup d hs m (by omega), by split <;> simp, ?_⟩
    intro a ha b hb hab
    subst hab
    split at hb
    · rename_i hk
      have hb : a = d[m]! := by simpa using hb
      obtain ⟨j, hj, e⟩ := (cut_mem d a m).1 ha
      have h2 : decide (m = 0 ∨ d[m]! ≠ d[m - 1]!) = true := hk
      rcases of_decide_eq_true h2 with h3 | h3
      · omega
      · apply h3
        by_cases hj1 : j = m - 1
        · rw [← hb, ← e, hj1]
        · have q1 := hs j (m - 1) (by omega) (by omega)
          have q2 := hs (m - 1) m (by omega) (by omega)
          rw [e] at q1
          rw [← hb] at q2 ⊢
          exact le_anti q1 q2
    · simp at hb
theorem srtB_mem {Z : List (List UInt8)} {t : List UInt8} : t ∈ srtB Z ↔ t ∈ Z := by unfold srtB; exact List.mem_mergeSort
theorem srtB_le (Z : List (List UInt8)) : (srtB Z).Pairwise fun x y => x ≤ y := by
  unfold srtB
  have := List.pairwise_mergeSort (le := fun x y : List UInt8 => decide (x ≤ y)) (fun a b c h1 h2 => decide_eq_true (List.le_trans (of_decide_eq_true h1) (of_decide_eq_true h2)))
    (fun a b => by
      rcases List.le_total a b with h | h
      · simp [h]
      · simp [h]) Z
  exact this.imp fun h => of_decide_eq_true h
theorem risB_mem {Z : List (List UInt8)} {t : List UInt8} : t ∈ risB Z ↔ t ∈ Z := by
  unfold risB Lib.compact
  rw [cut_mem, ← srtB_mem (Z := Z)]
  constructor
  · rintro ⟨j, hj, e⟩
    rw [← e, getElem!_pos _ j (by simpa using hj)]
    simp
  · intro h
    obtain ⟨j, hj, e⟩ := List.getElem_of_mem h
    exact ⟨j, hj, by rw [getElem!_pos _ j (by simpa using hj)]; simpa using e⟩
theorem risB_nodup (Z : List (List UInt8)) : (risB Z).Nodup := by
  unfold risB Lib.compact
  refine cut_nodup _ (fun i j hij hj => ?_) _ (by simp)
  have hj' : j < (srtB Z).length := by simpa using hj
  rw [getElem!_pos _ i (by simp; omega), getElem!_pos _ j (by simpa using hj')]
  simpa using List.pairwise_iff_getElem.1 (srtB_le Z) i j (by omega) hj' hij

/-! The index. -/
theorem mAhead_trans {a b c : Bm} (h1 : mAhead a b = true) (h2 : mAhead b c = true) : mAhead a c = true := by
  unfold mAhead aheadB at *
  by_cases e1 : a.1.data.toList = b.1.data.toList
  · rw [if_pos e1] at h1
    rw [e1]
    by_cases e2 : b.1.data.toList = c.1.data.toList
    · rw [if_pos e2] at h2 ⊢
      unfold lessB at *
      simp only [Bool.and_eq_true, decide_eq_true_eq] at *
      exact ⟨h1.1, h2.2.1, ordV_trans h1.2.2 h2.2.2⟩
    · rw [if_neg e2] at h2 ⊢; exact h2
  · rw [if_neg e1] at h1
    by_cases e2 : b.1.data.toList = c.1.data.toList
    · rw [← e2, if_neg e1]; exact h1
    · rw [if_neg e2] at h2
      have h3 := cbt _ _ _ (of_decide_eq_true h1) (of_decide_eq_true h2)
      by_cases e3 : a.1.data.toList = c.1.data.toList
      · rw [e3] at h3
        have := lt_irrefl c.1
        unfold lt at this
        exact absurd h3 (of_decide_eq_false this)
      · rw [if_neg e3]; exact decide_eq_true h3
theorem mAhead_irr (a : Bm) : mAhead a a = false := by
  unfold mAhead aheadB
  rw [if_pos rfl]
  unfold lessB
  have : ¬ ordV a.2.data.toList a.2.data.toList < 0 := fun h => ordV_irr h h
  rw [decide_eq_false this, Bool.and_false, Bool.and_false]
/-- What a right index gives. -/
theorem chk_each0 {Q : List Raw} {L : List Ent} (h : (chk Q L).1 = 0) : L.length ≤ 100 ∧ ∀ i, i < L.length → entE L i = 0 := by
  by_cases h1 : 100 < L.length
  · rw [chk_full h1] at h; exact absurd h (by decide)
  · refine ⟨by omega, ?_⟩
    cases hf : fstE (entE L) L.length with
    | some i =>
      rw [chk_each h1 hf] at h
      exact absurd h (fstE_of_some hf).2.1
    | none => exact fstE_of_none hf
theorem entE_mod {L : List Ent} {i : Nat} (hi : i < L.length) (h : entE L i = 0) : mErr L[i].1 = 0 := by
  by_cases hm : mErr L[i].1 = 0
  · exact hm
  · unfold entE at h
    rw [List.getElem?_eq_getElem hi] at h
    simp only at h
    rw [entW_bad hm] at h
    exact absurd h hm
theorem entE_ahead {L : List Ent} {k : Nat} (hk : k + 1 < L.length) (h : entE L (k + 1) = 0) : mAhead (L[k]'(by omega)).1 L[k + 1].1 = true := by
  have hm := entE_mod hk h
  rw [entE_1 hk] at h
  cases ha : mAhead (L[k]'(by omega)).1 L[k + 1].1
  · rw [entW_order hm ha] at h; exact absurd h (by decide)
  · rfl
theorem ahead_all {L : List Ent} (h : ∀ i, i < L.length → entE L i = 0) : ∀ (d i : Nat) (hi : i + d + 1 < L.length), mAhead (L[i]'(by omega)).1 (L[i + d + 1]'hi).1 = true
  | 0, i, hi => entE_ahead hi (h _ hi)
  | d + 1, i, hi => mAhead_trans (ahead_all h d i (by omega)) (entE_ahead (k := i + d + 1) hi (h _ hi))
/-- An index that is right. -/
structure Good (Q : List Raw) : Prop where
  ver : ∀ r, r ∈ Q → verErr r.1.2.data.toList = 0
  path : ∀ r, r ∈ Q → pathErr r.1.1.data.toList = 0
  one : ∀ i j (hi : i < Q.length) (hj : j < Q.length), Q[i].1 = Q[j].1 → i = j
theorem mErr_zero {m : Bm} (h : mErr m = 0) : pathErr m.1.data.toList = 0 ∧ verErr m.2.data.toList = 0 := by
  unfold mErr modErr at h
  by_cases h0 : pathErr m.1.data.toList = 0
  · rw [if_pos h0] at h
    by_cases h1 : verErr m.2.data.toList = 0
    · exact ⟨h0, h1⟩
    · rw [if_neg h1] at h; exact absurd h h1
  · rw [if_neg h0] at h; exact absurd h h0
theorem good_of {w : World} {v : Value} {Q : List Raw} {L : List Ent} (I : Ixs w v Q L) (h : (chk Q L).1 = 0) : Good Q := by
  obtain ⟨_, he⟩ := chk_each0 h
  have hm : ∀ i (hi : i < Q.length), Q[i].1 = (L[i]'(by rw [← I.ln]; exact hi)).1 := fun i hi => (I.ok i hi (by rw [← I.ln]; exact hi)).m
  have hz : ∀ i (hi : i < Q.length), pathErr Q[i].1.1.data.toList = 0 ∧ verErr Q[i].1.2.data.toList = 0 := fun i hi => by
    rw [hm i hi]; exact mErr_zero (entE_mod _ (he i (by rw [← I.ln]; exact hi)))
  refine ⟨fun r hr => ?_, fun r hr => ?_, ?_⟩
  · obtain ⟨i, hi, rfl⟩ := List.getElem_of_mem hr
    exact (hz i hi).2
  · obtain ⟨i, hi, rfl⟩ := List.getElem_of_mem hr
    exact (hz i hi).1
  · have key : ∀ i j (hi : i < Q.length) (hj : j < Q.length), i < j → Q[i].1 ≠ Q[j].1 := fun i j hi hj hij e => by
      have ha := ahead_all he (j - i - 1) i (by rw [← I.ln]; omega)
      have hjj : i + (j - i - 1) + 1 = j := by omega
      simp only [hjj] at ha
      rw [← hm i hi, ← hm j hj, e, mAhead_irr] at ha
      cases ha
    intro i j hi hj e
    rcases Nat.lt_trichotomy i j with h1 | h1 | h1
    · exact absurd e (key i j hi hj h1)
    · exact h1
    · exact absurd e.symm (key j i hj hi h1)
theorem Good.same {Q : List Raw} (g : Good Q) {r s : Raw} (hr : r ∈ Q) (hs : s ∈ Q) (h : r.1 = s.1) : r = s := by
  obtain ⟨i, hi, rfl⟩ := List.getElem_of_mem hr
  obtain ⟨j, hj, rfl⟩ := List.getElem_of_mem hs
  have := g.one i j hi hj h
  subst this; rfl
/-- The entry of a module is found. -/
theorem Good.find {Q : List Raw} (g : Good Q) {r : Raw} (hr : r ∈ Q) : ∃ n, ∃ hn : n < Q.length, idxOf (isM r.1) Q = (n : Int) ∧ Q[n] = r := by
  obtain ⟨i, hi, e⟩ := List.getElem_of_mem hr
  refine ⟨i, hi, idx_hit hi (fun j hj hji => ?_) (by rw [e]; unfold isM; simp), e⟩
  unfold isM
  rw [decide_eq_false]
  rintro ⟨h1, h2⟩
  have := g.one j i hj hi (by rw [e]; exact Prod.ext h1 h2)
  omega
theorem Good.ofP {Q : List Raw} (g : Good Q) (t : ByteArray) : ofP t Q = Q.filter fun r => decide (r.1.1 = t) := by
  unfold Ve.ofP
  refine List.filter_congr fun r hr => ?_
  unfold isP
  rw [decide_eq_true (g.ver r hr), Bool.and_true]
theorem Good.ofP_mem {Q : List Raw} (g : Good Q) {t : ByteArray} {r : Raw} : r ∈ Ve.ofP t Q ↔ r ∈ Q ∧ r.1.1 = t := by
  rw [g.ofP t, List.mem_filter, decide_eq_true_iff]

/-! The versions of a path, counted. -/
theorem nodup_len {α : Type} [DecidableEq α] : ∀ {a b : List α}, a.Nodup → b.Nodup → (∀ x, x ∈ a ↔ x ∈ b) → a.length = b.length
  | [], b, _, _, h => by
    cases b with
    | nil => rfl
    | cons y s => exact absurd ((h y).2 (by simp)) (by simp)
  | x :: a, b, ha, hb, h => by
    have hx : x ∈ b := (h x).1 (by simp)
    have hl := List.length_erase_of_mem hx
    obtain ⟨h1, h2⟩ := List.nodup_cons.1 ha
    have hne : 0 < b.length := List.length_pos_of_mem hx
    have := nodup_len h2 (hb.erase x) (fun z => by
      rw [hb.mem_erase_iff, ← h z, List.mem_cons]
      constructor
      · intro hz; exact ⟨fun e => h1 (e ▸ hz), Or.inr hz⟩
      · rintro ⟨e, h3 | h3⟩
        · exact absurd h3 e
        · exact h3)
    rw [List.length_cons, this, hl]; omega
theorem Good.pair {Q : List Raw} (g : Good Q) : Q.Pairwise fun r s => r.1 ≠ s.1 :=
  List.pairwise_iff_getElem.2 fun i j hi hj hij e => by have := g.one i j hi hj e; omega
theorem Good.verNodup {Q : List Raw} (g : Good Q) (t : ByteArray) : (bl (verL (Ve.ofP t Q))).Nodup := by
  have h1 : (Ve.ofP t Q).Pairwise fun r s => r.1 ≠ s.1 := List.Pairwise.sublist List.filter_sublist g.pair
  have h2 : (Ve.ofP t Q).Pairwise fun r s => r.1.2.data.toList ≠ s.1.2.data.toList := List.Pairwise.imp_of_mem (fun {r s} hr hs hne e => hne (Prod.ext (((g.ofP_mem.1 hr).2).trans ((g.ofP_mem.1 hs).2).symm) (str_ext e))) h1
  unfold bl verL
  rw [List.map_map]
  exact List.pairwise_map.2 h2
theorem kept_mem {L X : List ByteArray} (hK : Kept L L.length X) (hv : ∀ x, x ∈ L → verErr x.data.toList = 0) (t : List UInt8) : t ∈ bl X ↔ t ∈ bl L := by
  have := hK.2 t
  rw [List.take_length] at this
  rw [this]
  constructor
  · exact fun h => h.1
  · intro h
    refine ⟨h, ?_⟩
    obtain ⟨x, hx, rfl⟩ := List.mem_map.1 h
    exact hv x hx
theorem rises_nd {l : List (List UInt8)} (h : rises l) : l.Nodup := List.Pairwise.imp (fun {a b} h e => by subst e; exact ordV_irr h h) h
theorem verL_ok {Q R : List Raw} (g : Good Q) (hR : ∀ r, r ∈ R → r ∈ Q) : ∀ x, x ∈ verL R → verErr x.data.toList = 0 := fun x hx => by
  obtain ⟨r, hr, rfl⟩ := List.mem_map.1 hx
  exact g.ver r (hR r hr)
theorem ofP_sub {Q : List Raw} {t : ByteArray} : ∀ r, r ∈ ofP t Q → r ∈ Q := fun _ hr => (List.mem_filter.1 hr).1
theorem kept_len {Q : List Raw} (g : Good Q) {t : ByteArray} {X : List ByteArray} (hK : Kept (verL (ofP t Q)) (verL (ofP t Q)).length X) : X.length = (ofP t Q).length := by
  have := nodup_len (rises_nd hK.1) (g.verNodup t) (kept_mem hK (verL_ok g ofP_sub))
  rw [bl_len, bl_len, verL_len] at this; exact this
theorem kept_has {Q R : List Raw} (g : Good Q) (hR : ∀ r, r ∈ R → r ∈ Q) {X : List ByteArray} (hK : Kept (verL R) (verL R).length X) {x : ByteArray} (hx : x ∈ X) : ∃ r, r ∈ R ∧ r.1.2 = x := by
  have h1 : x.data.toList ∈ bl X := List.mem_map.2 ⟨x, hx, rfl⟩
  obtain ⟨y, hy, e⟩ := List.mem_map.1 ((kept_mem hK (verL_ok g hR) _).1 h1)
  obtain ⟨r, hr, rfl⟩ := List.mem_map.1 hy
  exact ⟨r, hr, str_ext e⟩
theorem kept_in {Q R : List Raw} (g : Good Q) (hR : ∀ r, r ∈ R → r ∈ Q) {X : List ByteArray} (hK : Kept (verL R) (verL R).length X) {r : Raw} (hr : r ∈ R) : r.1.2 ∈ X := by
  have h1 : r.1.2.data.toList ∈ bl (verL R) := List.mem_map.2 ⟨r.1.2, List.mem_map.2 ⟨r, hr, rfl⟩, rfl⟩
  obtain ⟨y, hy, e⟩ := List.mem_map.1 ((kept_mem hK (verL_ok g hR) _).2 h1)
  rw [← str_ext e]; exact hy
/-- The paths of an index, each once. -/
def pathsT (Q : List Raw) : List ByteArray := tx (risB (bl (pathL Q)))
theorem tx_mem {Z : List (List UInt8)} {x : ByteArray} : x ∈ tx Z ↔ x.data.toList ∈ Z := by
  constructor
  · intro h
    obtain ⟨t, ht, rfl⟩ := List.mem_map.1 h
    rw [show (ba' t).data.toList = t by simp [ba']]; exact ht
  · intro h
    exact List.mem_map.2 ⟨_, h, str_ext (by simp [ba'])⟩
theorem pathsT_mem {Q : List Raw} {t : ByteArray} : t ∈ pathsT Q ↔ ∃ r, r ∈ Q ∧ r.1.1 = t := by
  unfold pathsT
  rw [tx_mem, risB_mem]
  constructor
  · intro h
    obtain ⟨x, hx, e⟩ := List.mem_map.1 h
    obtain ⟨r, hr, rfl⟩ := List.mem_map.1 hx
    exact ⟨r, hr, str_ext e⟩
  · rintro ⟨r, hr, rfl⟩
    exact List.mem_map.2 ⟨_, List.mem_map.2 ⟨r, hr, rfl⟩, rfl⟩
theorem pathsT_nodup (Q : List Raw) : (pathsT Q).Nodup := by
  have h := risB_nodup (bl (pathL Q))
  rw [← bl_tx (risB (bl (pathL Q)))] at h
  exact List.Pairwise.imp (fun {a b} hne e => hne (by rw [e])) (List.pairwise_map.1 h)
theorem sum_add (f g : ByteArray → Nat) : ∀ T : List ByteArray, (T.map fun t => f t + g t).sum = (T.map f).sum + (T.map g).sum
  | [] => rfl
  | t :: T => by
    simp only [List.map_cons, List.sum_cons]
    rw [sum_add f g T]; omega
theorem sum_one {a : ByteArray} : ∀ {T : List ByteArray}, T.Nodup → a ∈ T → (T.map fun t => if a = t then 1 else 0).sum = 1
  | [], _, h => absurd h (by simp)
  | t :: T, hn, h => by
    obtain ⟨h1, h2⟩ := List.nodup_cons.1 hn
    simp only [List.map_cons, List.sum_cons]
    by_cases e : a = t
    · rw [if_pos e]
      have hz : ∀ T' : List ByteArray, a ∉ T' → (T'.map fun t => if a = t then 1 else 0).sum = 0 := fun T' => by
        induction T' with
        | nil => intro _; rfl
        | cons y s ih =>
          intro hy
          simp only [List.map_cons, List.sum_cons]
          rw [if_neg (fun e => hy (by rw [e]; simp)), ih (fun hh => hy (List.mem_cons_of_mem _ hh))]
      rw [hz T (by rw [e]; exact h1)]
    · rw [if_neg e, sum_one h2 (by
        rcases List.mem_cons.1 h with h3 | h3
        · exact absurd h3 e
        · exact h3)]
theorem sum_paths (T : List ByteArray) (hn : T.Nodup) : ∀ Q : List Raw, (∀ r, r ∈ Q → r.1.1 ∈ T) → (T.map fun t => (Q.filter fun r => decide (r.1.1 = t)).length).sum = Q.length
  | [], _ => by
    have hz : ∀ T' : List ByteArray, (T'.map fun t => (([] : List Raw).filter fun r => decide (r.1.1 = t)).length).sum = 0 := fun T' => by
      induction T' with
      | nil => rfl
      | cons y s ih => simp only [List.map_cons, List.sum_cons]; rw [ih]; rfl
    exact hz T
  | r :: Q, h => by
    have e : (fun t => ((r :: Q).filter fun r => decide (r.1.1 = t)).length) = fun t => (Q.filter fun r => decide (r.1.1 = t)).length + (if r.1.1 = t then 1 else 0) := by
      funext t
      rw [List.filter_cons]
      by_cases h1 : r.1.1 = t
      · rw [if_pos (by simp [h1]), if_pos h1]; rfl
      · rw [if_neg (by simp [h1]), if_neg h1]; rfl
    rw [e, sum_add, sum_paths T hn Q (fun s hs => h s (List.mem_cons_of_mem _ hs)), sum_one hn (h r (by simp))]; rfl
/-- All versions of the first paths. -/
def manyN (Q : List Raw) (k : Nat) : Nat := (((pathsT Q).take k).map fun t => (ofP t Q).length).sum
theorem manyN_next {Q : List Raw} {k : Nat} (hk : k < (pathsT Q).length) : manyN Q (k + 1) = manyN Q k + (ofP (pathsT Q)[k] Q).length := by
  unfold manyN
  rw [List.take_succ_eq_append_getElem hk, List.map_append, List.sum_append]; simp
theorem manyN_all {Q : List Raw} (g : Good Q) : manyN Q (pathsT Q).length = Q.length := by
  unfold manyN
  rw [List.take_length, ← sum_paths (pathsT Q) (pathsT_nodup Q) Q (fun r hr => pathsT_mem.2 ⟨r, hr, rfl⟩)]
  congr 1
  refine List.map_congr_left fun t _ => ?_
  rw [g.ofP t]
theorem manyN_le {Q : List Raw} (g : Good Q) (k : Nat) : manyN Q k ≤ Q.length := by
  rw [← manyN_all g]
  unfold manyN
  rw [List.take_length]
  conv => rhs; rw [← List.take_append_drop k (pathsT Q), List.map_append, List.sum_append]
  omega

/-! The latest. -/
theorem bestR_ne {L : List Raw} (h : L ≠ []) : bestR L ≠ [] := by
  unfold bestR
  split
  · rename_i h1; intro e; rw [e] at h1; simp at h1
  · split
    · rename_i h1; intro e; rw [e] at h1; simp at h1
    · exact h
/-- What is liked as well as one of the best is one of the best. -/
theorem best_liked {Q L : List Raw} (g : Good Q) (hL : ∀ r, r ∈ L → r ∈ Q) {r s : Raw} (hr : r ∈ bestR L) (hs : s ∈ L) (h1 : (!s.2.2.2 || r.2.2.2) = true)
    (h2 : (decide ((preOf s.1.2.data.toList).length = 0) || (decide (0 < (preOf r.1.2.data.toList).length) || r.2.2.2)) = true) : s ∈ bestR L := by
  have hv : verErr s.1.2.data.toList = 0 := g.ver s (hL s hs)
  unfold bestR at hr ⊢
  split at hr
  · rename_i hd
    rw [if_pos hd]
    obtain ⟨hr1, hr2⟩ := List.mem_filter.1 hr
    obtain ⟨hr3, hr4⟩ := List.mem_filter.1 hr1
    have hvr : verErr r.1.2.data.toList = 0 := g.ver r (hL r hr3)
    have hb : r.2.2.2 = false := by unfold isS at hr4; simpa using hr4
    have hp : ¬ 0 < (preOf r.1.2.data.toList).length := by
      unfold isD preB at hr2
      rw [decide_eq_true hvr, Bool.true_and] at hr2
      simpa using hr2
    rw [hb, Bool.or_false] at h1
    rw [hb, decide_eq_false hp, Bool.or_false, Bool.or_false] at h2
    refine List.mem_filter.2 ⟨List.mem_filter.2 ⟨hs, by unfold isS; exact h1⟩, ?_⟩
    unfold isD preB
    have := of_decide_eq_true h2
    rw [decide_eq_false (by omega : ¬ 0 < (preOf s.1.2.data.toList).length), Bool.and_false]; rfl
  · rename_i hd
    rw [if_neg hd]
    split at hr
    · rename_i hd2
      rw [if_pos hd2]
      have hb : r.2.2.2 = false := by have := (List.mem_filter.1 hr).2; unfold isS at this; simpa using this
      rw [hb, Bool.or_false] at h1
      exact List.mem_filter.2 ⟨hs, by unfold isS; exact h1⟩
    · rename_i hd2
      rw [if_neg hd2]; exact hs
/-- The last of what is kept: one of them, and none is greater. -/
theorem kept_last {Q R : List Raw} (g : Good Q) (hR : ∀ r, r ∈ R → r ∈ Q) (hne : R ≠ []) {X : List ByteArray} (hK : Kept (verL R) (verL R).length X) :
    (∃ r, r ∈ R ∧ r.1.2 = lastT X) ∧ ∀ s, s ∈ R → ¬ ordV (lastT X).data.toList s.1.2.data.toList < 0 := by
  have hX : 0 < X.length := by
    obtain ⟨r, hr⟩ := List.exists_mem_of_ne_nil R hne
    exact List.length_pos_of_mem (kept_in g hR hK hr)
  have hl := lastT_get hX
  refine ⟨?_, fun s hs h => ?_⟩
  · rw [hl]; exact kept_has g hR hK (List.getElem_mem _)
  · have hin := kept_in g hR hK hs
    obtain ⟨j, hj, e⟩ := List.getElem_of_mem hin
    have hr := hK.1
    unfold rises at hr
    have hbl : (bl X).length = X.length := bl_len X
    rw [hl, ← e] at h
    by_cases hjl : j = X.length - 1
    · subst hjl; exact ordV_irr h h
    · have h2 := List.pairwise_iff_getElem.1 hr j (X.length - 1) (by omega) (by omega) (by omega)
      have g1 : (bl X)[j]'(by omega) = X[j].data.toList := by simp [bl]
      have g2 : (bl X)[X.length - 1]'(by omega) = (X[X.length - 1]'(by omega)).data.toList := by simp [bl]
      rw [g1, g2] at h2
      exact ordV_irr h h2
/-- The latest of a path that there is: its entry; what is liked as well is not greater. -/
structure Top (Q : List Raw) (t top : ByteArray) (at_ : Nat) : Prop where
  lt : at_ < Q.length
  idx : idxOf (isM (t, top)) Q = (at_ : Int)
  ver : verErr top.data.toList = 0
  no : ∀ s, s ∈ ofP t Q → (!s.2.2.2 || (Q[at_]'lt).2.2.2) = true → (decide ((preOf s.1.2.data.toList).length = 0) || (decide (0 < (preOf top.data.toList).length) || (Q[at_]'lt).2.2.2)) = true → lessB top.data.toList s.1.2.data.toList = false
theorem top_of {Q : List Raw} (g : Good Q) {t : ByteArray} (ht : t ∈ pathsT Q) {X : List ByteArray} (hK : Kept (verL (bestR (ofP t Q))) (verL (bestR (ofP t Q))).length X) : ∃ at_, Top Q t (lastT X) at_ := by
  obtain ⟨r0, hr0, e0⟩ := pathsT_mem.1 ht
  have hne : ofP t Q ≠ [] := List.ne_nil_of_mem (g.ofP_mem.2 ⟨hr0, e0⟩)
  have hsub : ∀ r, r ∈ bestR (ofP t Q) → r ∈ Q := fun r hr => ofP_sub r (bestR_sub hr)
  obtain ⟨⟨r, hr, er⟩, hmax⟩ := kept_last g hsub (bestR_ne hne) hK
  have hrq := g.ofP_mem.1 (bestR_sub hr)
  obtain ⟨n, hn, hi, hq⟩ := g.find hrq.1
  have hm : r.1 = (t, lastT X) := Prod.ext hrq.2 er
  refine ⟨n, hn, by rw [← hm]; exact hi, by rw [← er]; exact g.ver r hrq.1, fun s hs h1 h2 => ?_⟩
  rw [hq] at h1 h2
  rw [← er] at h2
  have hsb := best_liked g ofP_sub hr hs h1 h2
  unfold lessB
  rw [decide_eq_false (hmax s hsb), Bool.and_false, Bool.and_false]
/-- A version of a path that there is. -/
structure One (Q : List Raw) (t v : ByteArray) (n : Nat) : Prop where
  lt : n < Q.length
  idx : idxOf (isM (t, v)) Q = (n : Int)
  ver : verErr v.data.toList = 0
  mem : Q[n]'lt ∈ ofP t Q
  same : (Q[n]'lt).1.2 = v
theorem one_of {Q : List Raw} (g : Good Q) {t v : ByteArray} {X : List ByteArray} (hK : Kept (verL (ofP t Q)) (verL (ofP t Q)).length X) (hv : v ∈ X) : ∃ n, One Q t v n := by
  obtain ⟨r, hr, e⟩ := kept_has g ofP_sub hK hv
  have hrq := g.ofP_mem.1 hr
  obtain ⟨n, hn, hi, hq⟩ := g.find hrq.1
  have hm : r.1 = (t, v) := Prod.ext hrq.2 e
  exact ⟨n, hn, by rw [← hm]; exact hi, by rw [← e]; exact g.ver r hrq.1, by rw [hq]; exact hr, by rw [hq]; exact e⟩
/-- Of a path that there is not there is none. -/
theorem none_of {Q : List Raw} (g : Good Q) {t : ByteArray} (ht : pathErr t.data.toList ≠ 0) {X : List ByteArray} (hK : Kept (verL (bestR (ofP t Q))) (verL (bestR (ofP t Q))).length X) : lastT X = ⟨#[]⟩ := by
  have h0 : ofP t Q = [] := by
    rw [List.eq_nil_iff_forall_not_mem]
    intro r hr
    have := g.ofP_mem.1 hr
    exact ht (by rw [← this.2]; exact g.path r this.1)
  have hb : bestR (ofP t Q) = [] := by rw [h0]; rfl
  cases X with
  | nil => rfl
  | cons x s =>
    obtain ⟨r, hr, _⟩ := kept_has g (R := bestR (ofP t Q)) (fun r hr => ofP_sub r (bestR_sub hr)) hK (x := x) (by simp)
    rw [hb] at hr; cases hr
end Ve
end Go.Proofs.YtdhaechjdigbbaaGreatDoor

/-
  What indexed of the statements answers: the closed fact holds.
-/
namespace Go.Proofs.YtdhaechjdigbbaaGreatDoor
open Go.RowKit
namespace Ve

/-- The index of the closed fact. -/
def clQ : List Raw := [((⟨#[97]⟩, ⟨#[118, 49, 46, 48, 46, 48]⟩), .slice none 0 0, .slice none 0 0, false), ((⟨#[97]⟩, ⟨#[118, 49, 46, 49, 46, 48, 45, 114, 99]⟩), .slice none 0 0, .slice none 0 0, false)]
def clL : List Ent := [((⟨#[97]⟩, ⟨#[118, 49, 46, 48, 46, 48]⟩), [], [], false), ((⟨#[97]⟩, ⟨#[118, 49, 46, 49, 46, 48, 45, 114, 99]⟩), [], [], false)]
theorem pk_nil : packErr (bl []) = 0 := pk_ok (by decide) rfl (by simp [risB, srtB, bl, Lib.compact, Lib.compactUpTo])
theorem cl_e0 : entE clL 0 = 0 := by
  show entW none _ = 0
  rw [entW_none (by kernel_rfl), entR_pack (by decide) (by kernel_rfl)]
  exact pk_nil
theorem cl_e1 : entE clL 1 = 0 := by
  show entW (some _) _ = 0
  rw [entW_some (by kernel_rfl) (by kernel_rfl), entR_pack (by decide) (by kernel_rfl)]
  exact pk_nil
theorem cl_chk : chk clQ clL = (0, none) := by
  have h2 : ∀ j, j < 2 → entE clL j = 0 := fun j hj => by
    rcases (by omega : j = 0 ∨ j = 1) with rfl | rfl
    · exact cl_e0
    · exact cl_e1
  have h : fstE (entE clL) clL.length = none := fstE_none h2
  rw [chk_reqs (by decide) h]
  exact Prod.ext (show codeE (reqE2 clQ clL) clL.length = 0 by kernel_rfl) (show fstE (reqE2 clQ clL) clL.length = none by kernel_rfl)
theorem cl_best : bestR (ofP ⟨#[97]⟩ clQ) = [((⟨#[97]⟩, ⟨#[118, 49, 46, 48, 46, 48]⟩), .slice none 0 0, .slice none 0 0, false)] := by kernel_rfl
theorem cl_top {X : List ByteArray} (hK : Kept (verL (bestR (ofP ⟨#[97]⟩ clQ))) (verL (bestR (ofP ⟨#[97]⟩ clQ))).length X) : lastT X = ⟨#[118, 49, 46, 48, 46, 48]⟩ := by
  rw [cl_best] at hK
  have h1 : bl X = [[118, 49, 46, 48, 46, 48]] := rises_same _ _ hK.1 (by simp [rises]) fun t => by
    rw [hK.2 t]
    constructor
    · intro h; simpa [verL, bl] using h.1
    · intro h
      have e : t = [118, 49, 46, 48, 46, 48] := by simpa using h
      subst e
      exact ⟨by simp [verL, bl], by kernel_rfl⟩
  have h2 : X = [⟨#[118, 49, 46, 48, 46, 48]⟩] := bl_inj (h1.trans rfl)
  rw [h2]; rfl
theorem cl_find : idxOf (isM (⟨#[97]⟩, ⟨#[118, 49, 46, 49, 46, 48, 45, 114, 99]⟩)) clQ = 1 := by kernel_rfl
theorem cl_ixs {W : World} {g : Nat} (hb : W.heap[g]? = some (.cells #[.string ⟨#[97]⟩, .string ⟨#[118, 49, 46, 48, 46, 48]⟩, .slice none 0 0, .slice none 0 0, .bool false, .string ⟨#[97]⟩, .string ⟨#[118, 49, 46, 49, 46, 48, 45, 114, 99]⟩, .slice none 0 0, .slice none 0 0, .bool false] 42 (0, 0))) :
    Ixs W (.slice (some ⟨g, 0, none⟩) 2 2) clQ clL := by
  have msn : MsAt W (.slice none 0 0) [] := ⟨none, 0, rfl, Nat.le_refl _, fun h => absurd rfl h⟩
  have txn : TxAt W (.slice none 0 0) [] := ⟨none, 0, rfl, Nat.le_refl _, fun h => absurd rfl h⟩
  refine ⟨⟨some ⟨g, 0, none⟩, 2, rfl, Nat.le_refl _, fun r hr => ?_, fun _ => ⟨g, 0, rfl, fun j hj => ?_⟩⟩, rfl, fun j h1 h2 => ?_⟩
  · have : r = clQ[0] ∨ r = clQ[1] := by simpa [clQ] using hr
    rcases this with rfl | rfl
    · exact ⟨⟨none, 0, 0, rfl⟩, none, 0, 0, rfl⟩
    · exact ⟨⟨none, 0, 0, rfl⟩, none, 0, 0, rfl⟩
  · have hj2 : j < 2 := hj
    rcases (by omega : j = 0 ∨ j = 1) with rfl | rfl
    · refine ⟨?_, ?_, ?_, ?_, ?_⟩ <;> (rw [Lib.cell_of_heap hb]; rfl)
    · refine ⟨?_, ?_, ?_, ?_, ?_⟩ <;> (rw [Lib.cell_of_heap hb]; rfl)
  · have hj2 : j < 2 := h1
    rcases (by omega : j = 0 ∨ j = 1) with rfl | rfl
    · exact ⟨rfl, msn, txn, rfl⟩
    · exact ⟨rfl, msn, txn, rfl⟩
theorem cl_sh : ∀ e, e ∈ clL → ShE e := fun e he => by
  have : e = clL[0] ∨ e = clL[1] := by simpa [clL] using he
  rcases this with rfl | rfl
  · exact ⟨by decide, by decide, by decide, fun m hm => (by cases hm), by decide, fun x hx => (by cases hx)⟩
  · exact ⟨by decide, by decide, by decide, fun m hm => (by cases hm), by decide, fun x hx => (by cases hx)⟩
theorem cl_sz : ∀ r, r ∈ clQ → r.1.1.size ≤ 80 ∧ r.1.2.size ≤ 80 := fun r hr => by
  have : r = clQ[0] ∨ r = clQ[1] := by simpa [clQ] using hr
  rcases this with rfl | rfl <;> exact ⟨by decide, by decide⟩
set_option maxHeartbeats 4000000 in
theorem indexed_any (A : Nat → Addr) (m : Int) (w : World) (S : Te w A m) (htab : Lib.TabIs Tryz.prog w powName .u64 Lib.pow10Tab) :
    Calls Tryz.prog 6 #[] w fun e w' => e = .returned (.bool true) ∧ Below w.heap.size w w' := by
  obtain ⟨W0, hW0⟩ : ∃ W0, w.alloc (.cells #[.string ⟨#[97]⟩, .string ⟨#[118, 49, 46, 48, 46, 48]⟩, .slice none 0 0, .slice none 0 0, .bool false, .string ⟨#[97]⟩, .string ⟨#[118, 49, 46, 49, 46, 48, 45, 114, 99]⟩, .slice none 0 0, .slice none 0 0, .bool false] 42) = W0 := ⟨_, rfl⟩
  have HB0 := hid (show Below w.heap.size w W0 by rw [← hW0]; exact (Below.refl w.heap.size w).alloc (Nat.le_refl _) _)
  have HH := hid (show W0.heap[w.heap.size]? = some (.cells #[.string ⟨#[97]⟩, .string ⟨#[118, 49, 46, 48, 46, 48]⟩, .slice none 0 0, .slice none 0 0, .bool false, .string ⟨#[97]⟩, .string ⟨#[118, 49, 46, 49, 46, 48, 45, 114, 99]⟩, .slice none 0 0, .slice none 0 0, .bool false] 42 (0, 0)) by rw [← hW0]; exact heap_alloc_new w _)
  have HI := hid (cl_ixs HH.out)
  have HC := hid (icheck_any clQ clL _ A m W0 (by decide) cl_sh (S.below HB0.out) HI.out)
  rw [cl_chk] at HC
  have HS := hid S
  have HT := hid htab
  clear S htab
  go_enter Tryz.func6, Tryz.ntmps6
  go_wp2_with fail
  refine HC.out.mono ?_
  rintro e w1 ⟨x, rfl, he, hb⟩
  have he : x = errA A 0 := he
  rw [errA0] at he
  subst he
  have HB1 := hid (HB0.out.trans (hb.mono HB0.out.size))
  have HI1 := hid (HI.out.below hb)
  have HH1 := hid (show w1.heap[w.heap.size]? = some (.cells #[.string ⟨#[97]⟩, .string ⟨#[118, 49, 46, 48, 46, 48]⟩, .slice none 0 0, .slice none 0 0, .bool false, .string ⟨#[97]⟩, .string ⟨#[118, 49, 46, 49, 46, 48, 45, 114, 99]⟩, .slice none 0 0, .slice none 0 0, .bool false] 42 (0, 0)) by rw [hb.block _ (lt_of_blk HH.out)]; exact HH.out)
  clear hb HC hW0 HH
  go_wp2_with fail
  refine (Er.coded_nil w1).mono ?_
  rintro e w2 ⟨rfl, hb⟩
  have HB2 := hid (HB1.out.trans (hb.mono HB1.out.size))
  have HI2 := hid (HI1.out.below hb)
  have HH2 := hid (show w2.heap[w.heap.size]? = some (.cells #[.string ⟨#[97]⟩, .string ⟨#[118, 49, 46, 48, 46, 48]⟩, .slice none 0 0, .slice none 0 0, .bool false, .string ⟨#[97]⟩, .string ⟨#[118, 49, 46, 49, 46, 48, 45, 114, 99]⟩, .slice none 0 0, .slice none 0 0, .bool false] 42 (0, 0)) by rw [hb.block _ (lt_of_blk HH1.out)]; exact HH1.out)
  have HLA := hid (latest_any clQ ⟨#[97]⟩ _ (A 0) (A 1) m w2 (by decide) cl_sz (HS.out.below HB2.out).vs (tab_below HT.out HB2.out) HI2.out.es)
  clear hb HH1 HI1
  go_wp2_with fail
  refine HLA.out.mono ?_
  rintro e w3 ⟨X, rfl, hK, hb⟩
  rw [cl_top hK]
  have HB3 := hid (HB2.out.trans (hb.mono HB2.out.size))
  have HI3 := hid (HI2.out.below hb)
  have HH3 := hid (show w3.heap[w.heap.size]? = some (.cells #[.string ⟨#[97]⟩, .string ⟨#[118, 49, 46, 48, 46, 48]⟩, .slice none 0 0, .slice none 0 0, .bool false, .string ⟨#[97]⟩, .string ⟨#[118, 49, 46, 49, 46, 48, 45, 114, 99]⟩, .slice none 0 0, .slice none 0 0, .bool false] 42 (0, 0)) by rw [hb.block _ (lt_of_blk HH2.out)]; exact HH2.out)
  have z0 : w3.cell? ⟨w.heap.size, 5, none⟩ = some (.string ⟨#[97]⟩) := by rw [Lib.cell_of_heap HH3.out]; rfl
  have z1 : w3.cell? ⟨w.heap.size, 6, none⟩ = some (.string ⟨#[118, 49, 46, 49, 46, 48, 45, 114, 99]⟩) := by rw [Lib.cell_of_heap HH3.out]; rfl
  have he := str_refl (⟨#[118, 49, 46, 48, 46, 48]⟩ : ByteArray)
  have HFI := hid (find_any clQ (⟨#[97]⟩, ⟨#[118, 49, 46, 49, 46, 48, 45, 114, 99]⟩) _ w3 (by decide) HI3.out.es)
  rw [cl_find] at HFI
  clear hb HH2 HI2 hK HLA
  go_wp2_with fail
  refine HFI.out.mono ?_
  rintro e w4 ⟨rfl, hb⟩
  have HB4 := hid (HB3.out.trans (hb.mono HB3.out.size))
  clear hb
  go_wp2_with fail
  go_ret
  exact ⟨rfl, HB4.out⟩
end Ve
end Go.Proofs.YtdhaechjdigbbaaGreatDoor

/-
  Places in an index; errors, or none; the lengths of an index that is not too long; the next round of a loop.
-/
namespace Go.Proofs.YtdhaechjdigbbaaGreatDoor
open Go.RowKit
namespace Ve

theorem idx_is {P : Raw → Bool} {L : List Raw} {k : Nat} (h : idxOf P L = (k : Int)) : ∃ hk : k < L.length, P L[k] = true := by
  unfold idxOf at h
  cases h1 : fstE (idxE P L) L.length with
  | none => rw [h1] at h; simp only at h; omega
  | some j =>
    rw [h1] at h
    simp only at h
    have e : j = k := by omega
    subst e
    obtain ⟨a, b, _⟩ := fstE_of_some h1
    refine ⟨a, ?_⟩
    rw [idxE_at a] at b
    cases hp : P L[j] with
    | true => rfl
    | false => rw [hp] at b; exact absurd rfl b
/-- An error, or none. -/
theorem ErrAt.kind {W : World} {A : Nat → Addr} {x : Value} {c : Nat} {o : Option Nat} (h : ErrAt W A x c o) : (c = 0 ∧ x = .nilIface) ∨ (c ≠ 0 ∧ ∃ T a, x = .iface T (.pointer (some a))) := by
  cases o with
  | none =>
    have h : x = errA A c := h
    by_cases hc : c = 0
    · subst hc; exact Or.inl ⟨rfl, h⟩
    · obtain ⟨a, ha⟩ := errA_ne A hc
      exact Or.inr ⟨hc, _, a, h.trans ha⟩
  | some i =>
    obtain ⟨h1, b, h2, _⟩ := h
    exact Or.inr ⟨h1, _, _, h2⟩
theorem okI_iff {L : List Ent} (h : okI L = true) : (L.length ≤ 30 ∨ L.length = 101) ∧ ∀ e, e ∈ L → e.1.1.size ≤ 70 ∧ e.1.2.size ≤ 60 ∧ e.2.1.length ≤ 25 ∧ (∀ m, m ∈ e.2.1 → m.1.size ≤ 70 ∧ m.2.size ≤ 60) ∧ e.2.2.1.length ≤ 15 ∧ ∀ x, x ∈ e.2.2.1 → x.size ≤ 70 := by
  unfold okI at h
  rw [Bool.and_eq_true] at h
  obtain ⟨h1, h2⟩ := h
  refine ⟨by simpa [okN] using h1, fun e he => ?_⟩
  have h3 := List.all_eq_true.1 h2 e he
  unfold okE at h3
  simp only [Bool.and_eq_true, decide_eq_true_eq] at h3
  obtain ⟨⟨⟨⟨a, b⟩, c⟩, d⟩, f⟩ := h3
  obtain ⟨c1, c2⟩ := okL_iff c
  refine ⟨a, b, c1, c2, d, fun x hx => ?_⟩
  have := List.all_eq_true.1 f x hx
  simpa using this
theorem okI_sh {L : List Ent} (h : okI L = true) : ∀ e, e ∈ L → ShE e := fun e he => by
  obtain ⟨a, b, c, d, f, g⟩ := (okI_iff h).2 e he
  exact ⟨by omega, by omega, by omega, fun m hm => ⟨by have := (d m hm).1; omega, by have := (d m hm).2; omega⟩, by omega, fun x hx => by have := g x hx; omega⟩
theorem okI_fits {L : List Ent} (h : okI L = true) : ∀ e, e ∈ L → Fits e := fun e he => by
  obtain ⟨a, b, c, d, f, g⟩ := (okI_iff h).2 e he
  exact ⟨by omega, by omega⟩
theorem ixs_sz {w : World} {v : Value} {Q : List Raw} {L : List Ent} (I : Ixs w v Q L) (h : okI L = true) : ∀ r, r ∈ Q → r.1.1.size ≤ 80 ∧ r.1.2.size ≤ 80 := fun r hr => by
  obtain ⟨j, hj, rfl⟩ := List.getElem_of_mem hr
  have hj2 : j < L.length := by rw [← I.ln]; exact hj
  have hm := (I.ok j hj hj2).m
  obtain ⟨a, b, _⟩ := (okI_iff h).2 L[j] (List.getElem_mem hj2)
  rw [hm]
  exact ⟨by omega, by omega⟩

theorem nx_idx {t n : Nat} (h : t < n) (h2 : n ≤ 1000000) : Value.int .i64 (wrap64 ((t : Int) + 1)) = .int .i64 ((t + 1 : Nat) : Int) := by
  rw [IntWalk.wrap64_in _ (by omega)]; rfl
theorem nx_meas {t n : Nat} (h : t < n) (h2 : n ≤ 1000000) : n - (intOf (Value.int .i64 (wrap64 ((t : Int) + 1)))).toNat < n - (intOf (Value.int .i64 (t : Int))).toNat := by
  rw [IntWalk.wrap64_in _ (by omega)]
  show n - ((t : Int) + 1).toNat < n - ((t : Int)).toNat
  omega
theorem nr_idx (t : Nat) : Value.int .i64 ((t : Int) + 1) = .int .i64 ((t + 1 : Nat) : Int) := rfl
theorem nr_meas {t n : Nat} (h : t < n) : n - (intOf (Value.int .i64 ((t : Int) + 1))).toNat < n - (intOf (Value.int .i64 (t : Int))).toNat := by
  show n - ((t : Int) + 1).toNat < n - ((t : Int)).toNat
  omega
end Ve
end Go.Proofs.YtdhaechjdigbbaaGreatDoor

/-
  pewholderlaw1.IndexLatest walked.
-/
namespace Go.Proofs.YtdhaechjdigbbaaGreatDoor
open Go.RowKit
namespace Ve

/-- What the loops read. -/
structure Il (w0 W : World) (u : Value) (Q : List Raw) (pv : Value) (P : List ByteArray) : Prop where
  bl : Below w0.heap.size w0 W
  es : EsAt W u Q
  ps : TxAt W pv P
theorem Il.below {w0 W W' : World} {u pv : Value} {Q : List Raw} {P : List ByteArray} (h : Il w0 W u Q pv P) (hb : Below W.heap.size W W') : Il w0 W' u Q pv P :=
  ⟨h.bl.trans (hb.mono h.bl.size), h.es.below hb, h.ps.below hb⟩
theorem tx_cell {W : World} {a : Option Addr} {n c : Nat} {X : List ByteArray} (h : TxAt W (.slice a n c) X) {k : Nat} (hk : k < X.length) : ∃ b o, a = some ⟨b, o, none⟩ ∧ W.cell? ⟨b, o + k, none⟩ = some (.string X[k]) := by
  obtain ⟨a', c', e, _, h⟩ := h
  injection e with e1 e2 e3
  subst e1
  obtain ⟨b, o, e4, h4⟩ := h (by intro h0; rw [h0] at hk; simp at hk)
  exact ⟨b, o, e4, h4 k hk⟩
theorem tx_at {W : World} {b o n c : Nat} {X : List ByteArray} (h : TxAt W (.slice (some ⟨b, o, none⟩) n c) X) {k : Nat} (hk : k < X.length) : W.cell? ⟨b, o + k, none⟩ = some (.string X[k]) := by
  obtain ⟨b', o', e, h⟩ := tx_cell h hk
  injection e with e
  injection e with e1 e2
  subst e1 e2
  exact h
theorem es_at {W : World} {b o n c : Nat} {Q : List Raw} (h : EsAt W (.slice (some ⟨b, o, none⟩) n c) Q) {k : Nat} (hk : k < Q.length) : W.cell? ⟨b, o + k * 5 + 4, none⟩ = some (.bool Q[k].2.2.2) := by
  obtain ⟨a', c', e, _, _, h⟩ := h
  injection e with e1 e2 e3
  subst e1
  obtain ⟨b', o', e4, h4⟩ := h (by intro h0; rw [h0] at hk; simp at hk)
  injection e4 with e4
  injection e4 with e5 e6
  subst e5 e6
  exact (h4 k hk).2.2.2.2
theorem es_some {W : World} {a : Option Addr} {n c : Nat} {Q : List Raw} (h : EsAt W (.slice a n c) Q) (hQ : 0 < Q.length) : ∃ b o, a = some ⟨b, o, none⟩ := by
  obtain ⟨a', c', e, _, _, h⟩ := h
  injection e with e1 e2 e3
  subst e1
  obtain ⟨b', o', e4, h4⟩ := h (by intro h0; rw [h0] at hQ; simp at hQ)
  exact ⟨b', o', e4⟩

/-- What the inner loop reads. -/
structure Iv (w0 W : World) (u : Value) (Q : List Raw) (pv : Value) (P : List ByteArray) (vv : Value) (X : List ByteArray) (tb : Nat) (tc : Array Value) : Prop where
  il : Il w0 W u Q pv P
  xs : TxAt W vv X
  tx : W.heap[tb]? = some (.cells tc 37 (0, 0))
theorem Iv.below {w0 W W' : World} {u pv vv : Value} {Q : List Raw} {P X : List ByteArray} {tb : Nat} {tc : Array Value} (h : Iv w0 W u Q pv P vv X tb tc) (hb : Below W.heap.size W W') : Iv w0 W' u Q pv P vv X tb tc :=
  ⟨h.il.below hb, h.xs.below hb, (hb.block _ (lt_of_blk h.tx)).trans h.tx⟩
theorem Top.size {Q : List Raw} {t top : ByteArray} {n : Nat} (h : Top Q t top n) (hz : ∀ r, r ∈ Q → r.1.1.size ≤ 80 ∧ r.1.2.size ≤ 80) : top.size ≤ 80 := by
  obtain ⟨hk, h1⟩ := idx_is h.idx
  have h2 := of_decide_eq_true h1
  have := (hz _ (List.getElem_mem hk)).2
  rw [h2.2] at this
  exact this
set_option maxRecDepth 100000 in
set_option maxHeartbeats 2000000 in
theorem il_main (Q0 : List Raw) (L : List Ent) (v : Value) (A : Nat → Addr) (m : Int) (w : World) (S : Te w A m) (htab : Lib.TabIs Tryz.prog w powName .u64 Lib.pow10Tab) (I : Ixs w v Q0 L) (em : EmI Q0 L) (hok : okI L = true) (h30 : L.length ≤ 30) :
    Calls Tryz.prog 3 #[v] w fun e w' => e = .returned (.bool true) ∧ Below w.heap.size w w' := by
  obtain ⟨a0, c0, hv0, -⟩ := id I.es
  subst hv0
  have HLN0 := hid I.ln
  have hq30 : ¬ (30 : Int) < (Q0.length : Int) := by rw [I.ln]; omega
  have hq30b : decide ((30 : Int) < (Q0.length : Int)) = false := decide_eq_false hq30
  have HIN := hid (indexed_any A m w S htab)
  have HLO := hid (fun W (h : Below w.heap.size w W) => longI_any Q0 L _ W (I.below h))
  rw [if_pos hok] at HLO
  have HOW := hid (fun W (h : Below w.heap.size w W) => ownI_any Q0 L _ W (by omega) (I.below h) em (okI_fits hok))
  have HS := hid S
  have HT := hid htab
  have HSH := hid (okI_sh hok)
  have HSZ := hid (fun W u Q (h : Ixs W u Q L) => ixs_sz h hok)
  clear S htab I em hok
  go_enter Tryz.func3, Tryz.ntmps3
  go_wp2_with fail
  refine HIN.out.mono ?_
  rintro e w1 ⟨rfl, hb⟩
  have HB1 := hid hb
  clear hb
  go_wp2_with fail
  refine (HLO.out w1 HB1.out).mono ?_
  rintro e w2 ⟨rfl, hb⟩
  have HB2 := hid (HB1.out.trans (hb.mono HB1.out.size))
  clear hb
  go_wp2_with fail
  refine (HOW.out w2 HB2.out).mono ?_
  rintro e w3 ⟨u, Q, rfl, hO, hb⟩
  have HB3 := hid (HB2.out.trans (hb.mono HB2.out.size))
  have HIX := hid hO.ixs
  have HLN := hid hO.ixs.ln
  have hq1k : Q.length ≤ 30 := by rw [hO.ixs.ln]; exact h30
  have HZ := hid (HSZ.out _ _ _ hO.ixs)
  obtain ⟨ua, uc, hu, -⟩ := id hO.ixs.es
  subst hu
  have HCK := hid (icheck_any Q L _ A m w3 (by omega) HSH.out (HS.out.below HB3.out) HIX.out)
  clear hb hO
  go_wp2_with fail
  refine HCK.out.mono ?_
  rintro e w4 ⟨x, rfl, he, hb⟩
  have HB4 := hid (HB3.out.trans (hb.mono HB3.out.size))
  have HIX4 := hid (HIX.out.below hb)
  clear hb
  rcases he.kind.symm with ⟨_, T, xa, rfl⟩ | ⟨hc0, rfl⟩
  · clear he
    go_wp2_with fail
    go_ret
    exact ⟨rfl, HB4.out⟩
  have HG := hid (good_of HIX4.out hc0)
  have HPA := hid (paths_any Q _ w4 (by omega) HIX4.out.es)
  clear he hc0
  go_wp2_with fail
  refine HPA.out.mono ?_
  rintro e w5 ⟨pv, rfl, hpo, hb⟩
  obtain ⟨P, hP⟩ : ∃ P, pathsT Q = P := ⟨_, rfl⟩
  have HPE := hid hP
  have hpt : TxAt w5 pv P := by rw [← hP]; exact own_tx hpo
  have HIL := hid (show Il w w5 (.slice ua Q.length uc) Q pv P from ⟨HB4.out.trans (hb.mono HB4.out.size), HIX4.out.es.below hb, hpt⟩)
  obtain ⟨pa, pc, hpv, -⟩ := id hpt
  subst hpv
  clear hb hpo hpt hP
  have hP30 : P.length ≤ 30 := by
    rw [← HPE.out]
    unfold pathsT
    have := risB_len (bl (pathL Q))
    rw [tx_len]
    rw [bl_len, pathL_len] at this
    omega
  go_wp2_with fail
  go_loopw [6, 7] (fun mv iv wr => ∃ i : Nat, i ≤ P.length ∧ iv = .int .i64 i ∧ mv = .int .i64 (manyN Q i : Nat) ∧ Hid (Il w wr (.slice ua Q.length uc) Q (.slice pa P.length pc) P)) (fun _ i _ => P.length - (intOf i).toNat)
  case atStart => exact ⟨0, Nat.zero_le _, rfl, rfl, HIL⟩
  case round =>
    obtain ⟨i, hi, rfl, rfl, HIL⟩ := hrel
    by_cases hlt : i < P.length
    · have hiI : (i : Int) < (P.length : Int) := by omega
      have hi0 : (0 : Int) ≤ (i : Int) := by omega
      obtain ⟨pb, po, rfl, hcell⟩ := tx_cell HIL.out.ps hlt
      have HPC := hid (fun W (h : Il w W (.slice ua Q.length uc) Q (.slice (some ⟨pb, po, none⟩) P.length pc) P) => tx_at h.ps hlt)
      have HTM := hid (show P[i] ∈ pathsT Q by rw [HPE.out]; exact List.getElem_mem hlt)
      have HMN := hid (show manyN Q (i + 1) = manyN Q i + (ofP P[i] Q).length by
        have hlt2 : i < (pathsT Q).length := by rw [HPE.out]; exact hlt
        have := manyN_next hlt2
        simp only [HPE.out] at this
        exact this)
      have HML := hid (manyN_le HG.out (i + 1))
      generalize P[i] = t at *
      have HVE := hid (fun W (h : Il w W (.slice ua Q.length uc) Q (.slice (some ⟨pb, po, none⟩) P.length pc) P) => vers_any Q t (.slice ua Q.length uc) (A 0) (A 1) m W (by omega) HZ.out (HS.out.below h.bl).vs (tab_below HT.out h.bl) h.es)
      have HLA := hid (fun W (h : Il w W (.slice ua Q.length uc) Q (.slice (some ⟨pb, po, none⟩) P.length pc) P) => latest_any Q t (.slice ua Q.length uc) (A 0) (A 1) m W (by omega) HZ.out (HS.out.below h.bl).vs (tab_below HT.out h.bl) h.es)
      clear hlt
      go_wp2_with fail
      refine (HVE.out wr HIL.out).mono ?_
      rintro e w6 ⟨vv, rfl, X, hxo, hK, hb⟩
      have HIL6 := hid (HIL.out.below hb)
      have HX6 := hid (own_tx hxo)
      have HK1 := hid hK
      have hXl : manyN Q i + X.length = manyN Q (i + 1) := by rw [HMN.out, kept_len HG.out hK]
      have hXm : manyN Q i + X.length ≤ 30 := by have := HML.out; omega
      obtain ⟨va, vc, hvv, -⟩ := own_tx hxo
      subst hvv
      have hc6 := HPC.out _ HIL6.out
      have hwx : IntKind.i64.wrap ((manyN Q i : Int) + (X.length : Int)) = (manyN Q i : Int) + (X.length : Int) := by rw [IntKind.wrap_i64] <;> omega
      have HXL := hid hXl
      clear hb hxo hK hcell hXl
      go_wp2_with fail
      refine (HLA.out _ HIL6.out).mono ?_
      rintro e w7 ⟨X2, rfl, hK2, hb⟩
      have HIL7 := hid (HIL6.out.below hb)
      have HX7 := hid (HX6.out.below hb)
      obtain ⟨at_, hT⟩ := top_of HG.out HTM.out hK2
      clear hK2 hb hc6 HLA HVE
      generalize lastT X2 = top at *
      have HTP := hid hT
      have hc7 := HPC.out _ HIL7.out
      have HFT := hid (find_any Q (t, top) (.slice ua Q.length uc) w7 (by omega) HIL7.out.es)
      rw [hT.idx] at HFT
      have hat0 : ¬ ((at_ : Int) < 0) := by omega
      have hatp : (0 : Int) ≤ (at_ : Int) := by omega
      have hatl : (at_ : Int) < (Q.length : Int) := by have := hT.lt; omega
      have htz : top.size ≤ 80 := hT.size HZ.out
      clear hT
      go_wp2_with fail
      refine HFT.out.mono ?_
      rintro e w8 ⟨rfl, hb⟩
      have HIL8 := hid (HIL7.out.below hb)
      have HX8 := hid (HX7.out.below hb)
      obtain ⟨Tp, hTp⟩ : ∃ X, bl X = preOf top.data.toList := ⟨_, bl_strs _⟩
      have HTp := hid hTp
      have HSP := hid (vsplit_is top (A 0) (A 1) m w8 (by omega) (HS.out.below HIL8.out.bl).vs HTP.out.ver Tp hTp)
      clear hb hTp hc7 HFT
      go_wp2_with fail
      refine HSP.out.mono ?_
      rintro e w9 ⟨tv, rfl, hst, hb⟩
      obtain ⟨tp, tcap, rfl⟩ := hst.len
      generalize nAt top.data.toList 0 = n0 at *
      generalize nAt top.data.toList 1 = n1 at *
      generalize nAt top.data.toList 2 = n2 at *
      have HBq := hid ((Below.refl w9.heap.size w9).alloc (Nat.le_refl _) (.cells #[.int .i64 n0, .int .i64 n1, .int .i64 n2, .slice tp Tp.length tcap] 37))
      have HIV := hid (show Iv w (w9.alloc (.cells #[.int .i64 n0, .int .i64 n1, .int .i64 n2, .slice tp Tp.length tcap] 37)) (.slice ua Q.length uc) Q (.slice (some ⟨pb, po, none⟩) P.length pc) P (.slice va X.length vc) X w9.heap.size #[.int .i64 n0, .int .i64 n1, .int .i64 n2, .slice tp Tp.length tcap] from
        ⟨(HIL8.out.below hb).below HBq.out, (HX8.out.below hb).below HBq.out, heap_alloc_new w9 _⟩)
      clear hst hb HSP
      go_wp2_with fail
      go_loopw [13] (fun kv wr => ∃ k : Nat, k ≤ X.length ∧ kv = .int .i64 k ∧ Hid (Iv w wr (.slice ua Q.length uc) Q (.slice (some ⟨pb, po, none⟩) P.length pc) P (.slice va X.length vc) X w9.heap.size #[.int .i64 n0, .int .i64 n1, .int .i64 n2, .slice tp Tp.length tcap])) (fun k _ => X.length - (intOf k).toNat)
      case atStart => exact ⟨0, Nat.zero_le _, rfl, HIV⟩
      case round =>
        obtain ⟨k, hk, rfl, HIV⟩ := hrel
        by_cases hlt : k < X.length
        · have hkI : (k : Int) < (X.length : Int) := by omega
          have hk0 : (0 : Int) ≤ (k : Int) := by omega
          obtain ⟨vb, vo, rfl, hcx⟩ := tx_cell HIV.out.xs hlt
          have hpx := HPC.out _ HIV.out.il
          have HXC := hid (fun W (h : Iv w W (.slice ua Q.length uc) Q (.slice (some ⟨pb, po, none⟩) P.length pc) P (.slice (some ⟨vb, vo, none⟩) X.length vc) X w9.heap.size #[.int .i64 n0, .int .i64 n1, .int .i64 n2, .slice tp Tp.length tcap]) => tx_at h.xs hlt)
          obtain ⟨n, hO⟩ := one_of HG.out HK1.out (List.getElem_mem hlt)
          generalize X[k] = x at *
          have HFN := hid (fun W (h : Iv w W (.slice ua Q.length uc) Q (.slice (some ⟨pb, po, none⟩) P.length pc) P (.slice (some ⟨vb, vo, none⟩) X.length vc) X w9.heap.size #[.int .i64 n0, .int .i64 n1, .int .i64 n2, .slice tp Tp.length tcap]) => find_any Q (t, x) (.slice ua Q.length uc) W (by omega) h.il.es)
          rw [hO.idx] at HFN
          have hn0 : ¬ ((n : Int) < 0) := by omega
          have hnp : (0 : Int) ≤ (n : Int) := by omega
          have hnl : (n : Int) < (Q.length : Int) := by have := hO.lt; omega
          have hxz : x.size ≤ 80 := by
            have := (HZ.out _ (List.getElem_mem hO.lt)).2
            rw [hO.same] at this
            exact this
          obtain ⟨Xp, hXp⟩ : ∃ Y, bl Y = preOf x.data.toList := ⟨_, bl_strs _⟩
          have HSX := hid (fun W (h : Iv w W (.slice ua Q.length uc) Q (.slice (some ⟨pb, po, none⟩) P.length pc) P (.slice (some ⟨vb, vo, none⟩) X.length vc) X w9.heap.size #[.int .i64 n0, .int .i64 n1, .int .i64 n2, .slice tp Tp.length tcap]) => vsplit_is x (A 0) (A 1) m W (by omega) (HS.out.below h.il.bl).vs hO.ver Xp hXp)
          have HLE := hid (fun W (h : Iv w W (.slice ua Q.length uc) Q (.slice (some ⟨pb, po, none⟩) P.length pc) P (.slice (some ⟨vb, vo, none⟩) X.length vc) X w9.heap.size #[.int .i64 n0, .int .i64 n1, .int .i64 n2, .slice tp Tp.length tcap]) => less_any top x (A 0) (A 1) m W (by omega) (by omega) (HS.out.below h.il.bl).vs)
          have HNO := hid (show (!(Q[n]'hO.lt).2.2.2 || (Q[at_]'HTP.out.lt).2.2.2) = true → (decide (Xp.length = 0) || (decide (0 < Tp.length) || (Q[at_]'HTP.out.lt).2.2.2)) = true → lessB top.data.toList x.data.toList = false from fun h1 h2 => by
            have := HTP.out.no (Q[n]'hO.lt) hO.mem h1 (by rw [hO.same, ← hXp, ← HTp.out, bl_len, bl_len]; exact h2)
            rw [hO.same] at this
            exact this)
          have HBN := hid (fun (W : World) (b o : Nat) (h : EsAt W (.slice (some ⟨b, o, none⟩) Q.length uc) Q) => es_at h hO.lt)
          have HBA := hid (fun (W : World) (b o : Nat) (h : EsAt W (.slice (some ⟨b, o, none⟩) Q.length uc) Q) => es_at h HTP.out.lt)
          obtain ⟨ub, uo, rfl⟩ := es_some HIV.out.il.es (by have := hO.lt; omega)
          generalize (Q[n]'hO.lt).2.2.2 = bn at *
          generalize (Q[at_]'HTP.out.lt).2.2.2 = ba at *
          clear hO hXp hlt
          go_upto_region 24 with fail
          go_cut [14] (fun nv wx => nv = .int .i64 n ∧ Hid (Iv w wx (.slice (some ⟨ub, uo, none⟩) Q.length uc) Q (.slice (some ⟨pb, po, none⟩) P.length pc) P (.slice (some ⟨vb, vo, none⟩) X.length vc) X w9.heap.size #[.int .i64 n0, .int .i64 n1, .int .i64 n2, .slice tp Tp.length tcap]))
          case first =>
            go_region_with (go_at_call 13; refine (HFN.out _ (HIV.out.below (below_drawn _ 1))).mono ?_; rintro e w10 ⟨rfl, hb⟩; have HIV1 := hid ((HIV.out.below (below_drawn _ 1)).below hb); clear hb)
            all_goals
              go_wp2_with fail
              go_meet
              case rel => exact ⟨rfl, HIV1⟩
          case rest =>
            obtain ⟨rfl, HIV1⟩ := hcut
            have hc1 := HXC.out _ HIV1.out
            go_wp2_with fail
            refine (HSX.out _ HIV1.out).mono ?_
            rintro e w11 ⟨xv, rfl, hst, hb⟩
            obtain ⟨xp, xcap, rfl⟩ := hst.len
            generalize nAt x.data.toList 0 = y0 at *
            generalize nAt x.data.toList 1 = y1 at *
            generalize nAt x.data.toList 2 = y2 at *
            have HIV2 := hid ((HIV1.out.below hb).below ((Below.refl w11.heap.size w11).alloc (Nat.le_refl _) (.cells #[.int .i64 y0, .int .i64 y1, .int .i64 y2, .slice xp Xp.length xcap] 37)))
            clear hb hst HSX hc1 HFN hcx hpx
            have hc2 := HXC.out _ HIV2.out
            have hbn := HBN.out _ _ _ HIV2.out.il.es
            have hba := HBA.out _ _ _ HIV2.out.il.es
            have htc : (w11.alloc (.cells #[.int .i64 y0, .int .i64 y1, .int .i64 y2, .slice xp Xp.length xcap] 37)).cell? ⟨w9.heap.size, 3, none⟩ = some (.slice tp Tp.length tcap) := by rw [Lib.cell_of_heap HIV2.out.tx]; rfl
            have HYD := hid (show ((Xp.length : Int) == 0) = decide (Xp.length = 0) by rw [Bool.eq_iff_iff]; simp)
            have hle30 : k < X.length := by omega
            have hX30 : X.length ≤ 1000000 := by omega
            obtain ⟨lk, hlk⟩ : ∃ lk, (!bn || ba) = lk := ⟨_, rfl⟩
            obtain ⟨pl, hpl⟩ : ∃ pl, (decide (Xp.length = 0) || (decide (0 < Tp.length) || ba)) = pl := ⟨_, rfl⟩
            have HLK := hid hlk
            have HPL := hid hpl
            clear hlk hpl
            go_upto_region 30 with fail
            go_cut [17] (fun bv wx => bv = .bool lk ∧ wx = (w11.alloc (.cells #[.int .i64 y0, .int .i64 y1, .int .i64 y2, .slice xp Xp.length xcap] 37)))
            case first =>
              cases bn <;> cases ba
              all_goals
                go_wp2_with fail
                go_meet
                case rel => exact ⟨by rw [← HLK.out]; rfl, rfl⟩
            case rest =>
              obtain ⟨rfl, rfl⟩ := hcut
              go_upto_region 31 with fail
              go_cut [18] (fun bv wx => bv = .bool pl ∧ wx = (w11.alloc (.cells #[.int .i64 y0, .int .i64 y1, .int .i64 y2, .slice xp Xp.length xcap] 37)))
              case first =>
                by_cases hy : Xp.length = 0
                · have hy1 : ((Xp.length : Int) == 0) = true := by rw [HYD.out, decide_eq_true hy]
                  have HY := hid hy
                  clear hy
                  go_wp2_with fail
                  go_meet
                  case rel => exact ⟨by rw [← HPL.out, decide_eq_true HY.out]; rfl, rfl⟩
                · have hy1 : ((Xp.length : Int) == 0) = false := by rw [HYD.out, decide_eq_false hy]
                  have HY := hid hy
                  clear hy
                  by_cases ht : 0 < Tp.length
                  · have ht1 : (0 : Int) < (Tp.length : Int) := by omega
                    have HTT := hid ht
                    have ht2 : decide (0 < Tp.length) = true := decide_eq_true ht
                    go_wp2_with fail
                    go_meet
                    case rel => exact ⟨by rw [← HPL.out, decide_eq_false HY.out, decide_eq_true HTT.out]; rfl, rfl⟩
                  · have ht1 : ¬ (0 : Int) < (Tp.length : Int) := by omega
                    have HTT := hid ht
                    have ht2 : decide (0 < Tp.length) = false := decide_eq_false ht
                    cases ba
                    all_goals
                      go_wp2_with fail
                      go_meet
                      case rel => exact ⟨by rw [← HPL.out, decide_eq_false HY.out, decide_eq_false HTT.out]; rfl, rfl⟩
              case rest =>
                obtain ⟨rfl, rfl⟩ := hcut
                cases lk with
                | false =>
                  go_wp2_with fail
                  go_roundw
                  case rel => exact ⟨k + 1, hle30, nr_idx k, HIV2⟩
                  case measure => exact nr_meas hle30
                | true =>
                  cases pl with
                  | false =>
                    go_wp2_with fail
                    go_roundw
                    case rel => exact ⟨k + 1, hle30, nr_idx k, HIV2⟩
                    case measure => exact nr_meas hle30
                  | true =>
                    have hno := HNO.out HLK.out HPL.out
                    rw [hno] at HLE
                    clear hno
                    go_wp2_with (go_at_call 15; refine (HLE.out _ HIV2.out).mono ?_; rintro e w12 ⟨rfl, hb⟩; have HIV3 := hid (HIV2.out.below hb); clear hb)
                    go_roundw
                    case rel => exact ⟨k + 1, hle30, nr_idx k, HIV3⟩
                    case measure => exact nr_meas hle30
        · obtain rfl : k = X.length := by omega
          go_wp2_with fail
          go_roundw
          case rel => exact ⟨i + 1, by omega, by go_num, by rw [← HXL.out]; go_num, hid HIV.out.il⟩
          case measure => simp [intOf]; omega
    · obtain rfl : i = P.length := by omega
      have HLN2 := hid (latest_any Q ⟨#[110, 111, 32, 115, 117, 99, 104]⟩ (.slice ua Q.length uc) (A 0) (A 1) m wr (by omega) HZ.out (HS.out.below HIL.out.bl).vs (tab_below HT.out HIL.out.bl) HIL.out.es)
      have HMA := hid (show manyN Q P.length = Q0.length by rw [← HPE.out, manyN_all HG.out, HLN.out, HLN0.out])
      rw [HMA.out]
      have hee : ((Q0.length : Int) == (Q0.length : Int)) = true := by simp
      have hss : ((⟨#[]⟩ : ByteArray).toList == (⟨#[]⟩ : ByteArray).toList) = true := by simp
      go_wp2_with fail
      refine HLN2.out.mono ?_
      rintro e w10 ⟨X, rfl, hK, hb⟩
      rw [none_of HG.out (by decide) hK]
      have HB10 := hid (HIL.out.bl.trans (hb.mono HIL.out.bl.size))
      clear hb hK
      go_wp2_with fail
      go_ret
      exact ⟨rfl, HB10.out⟩
end Ve
end Go.Proofs.YtdhaechjdigbbaaGreatDoor

/-
  pewholderlaw1.IndexLatest: true for every input.
-/
namespace Go.Proofs.YtdhaechjdigbbaaGreatDoor
open Go.RowKit
namespace Ve

set_option maxRecDepth 100000 in
set_option maxHeartbeats 2000000 in
theorem il_long (Q0 : List Raw) (L : List Ent) (v : Value) (A : Nat → Addr) (m : Int) (w : World) (S : Te w A m) (htab : Lib.TabIs Tryz.prog w powName .u64 Lib.pow10Tab) (I : Ixs w v Q0 L) (hok : okI L = false) :
    Calls Tryz.prog 3 #[v] w fun e w' => e = .returned (.bool true) ∧ Below w.heap.size w w' := by
  obtain ⟨a0, c0, hv0, -⟩ := id I.es
  subst hv0
  have HIN := hid (indexed_any A m w S htab)
  have HLO := hid (fun W (h : Below w.heap.size w W) => longI_any Q0 L _ W (I.below h))
  rw [hok] at HLO
  clear S htab I hok
  go_enter Tryz.func3, Tryz.ntmps3
  go_wp2_with fail
  refine HIN.out.mono ?_
  rintro e w1 ⟨rfl, hb⟩
  have HB1 := hid hb
  clear hb
  go_wp2_with fail
  refine (HLO.out w1 HB1.out).mono ?_
  rintro e w2 ⟨rfl, hb⟩
  have HB2 := hid (HB1.out.trans (hb.mono HB1.out.size))
  clear hb
  go_wp2_with fail
  go_ret
  exact ⟨rfl, HB2.out⟩
set_option maxRecDepth 100000 in
set_option maxHeartbeats 2000000 in
theorem il_many (Q0 : List Raw) (L : List Ent) (v : Value) (A : Nat → Addr) (m : Int) (w : World) (S : Te w A m) (htab : Lib.TabIs Tryz.prog w powName .u64 Lib.pow10Tab) (I : Ixs w v Q0 L) (hok : okI L = true) (h30 : 30 < L.length) :
    Calls Tryz.prog 3 #[v] w fun e w' => e = .returned (.bool true) ∧ Below w.heap.size w w' := by
  obtain ⟨a0, c0, hv0, -⟩ := id I.es
  subst hv0
  have hq30 : (30 : Int) < (Q0.length : Int) := by rw [I.ln]; omega
  have HIN := hid (indexed_any A m w S htab)
  have HLO := hid (fun W (h : Below w.heap.size w W) => longI_any Q0 L _ W (I.below h))
  rw [if_pos hok] at HLO
  clear S htab I hok h30
  go_enter Tryz.func3, Tryz.ntmps3
  go_wp2_with fail
  refine HIN.out.mono ?_
  rintro e w1 ⟨rfl, hb⟩
  have HB1 := hid hb
  clear hb
  go_wp2_with fail
  refine (HLO.out w1 HB1.out).mono ?_
  rintro e w2 ⟨rfl, hb⟩
  have HB2 := hid (HB1.out.trans (hb.mono HB1.out.size))
  clear hb
  go_wp2_with fail
  go_ret
  exact ⟨rfl, HB2.out⟩
theorem indexLatest_any (Q0 : List Raw) (L : List Ent) (v : Value) (A : Nat → Addr) (m : Int) (w : World) (S : Te w A m) (htab : Lib.TabIs Tryz.prog w powName .u64 Lib.pow10Tab) (I : Ixs w v Q0 L) (em : EmI Q0 L) :
    Calls Tryz.prog 3 #[v] w fun e w' => e = .returned (.bool true) ∧ Below w.heap.size w w' := by
  cases hok : okI L with
  | false => exact il_long Q0 L v A m w S htab I hok
  | true =>
    by_cases h : L.length ≤ 30
    · exact il_main Q0 L v A m w S htab I em hok h
    · exact il_many Q0 L v A m w S htab I hok (by omega)
end Ve
end Go.Proofs.YtdhaechjdigbbaaGreatDoor
