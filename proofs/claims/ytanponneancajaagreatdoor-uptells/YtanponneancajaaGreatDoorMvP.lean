/-
  Modules joined, plain: of each path the greatest version, paths rising; what is under what.
-/
import Derived.Test.YtanponneancajaaGreatDoorIxPa
namespace Go.Proofs.YtanponneancajaaGreatDoor
open Go.RowKit
namespace Ve

/-- A version's bytes. -/
abbrev vb (m : Bm) : List UInt8 := m.2.data.toList
theorem ahead_same {a b : Bm} (h : a.1 = b.1) : mAhead a b = lessB (vb a) (vb b) := by
  unfold mAhead aheadB
  rw [if_pos (by rw [h])]
theorem ahead_other {a b : Bm} (h : a.1 ≠ b.1) : mAhead a b = lt a.1 b.1 := by
  unfold mAhead aheadB
  rw [if_neg (fun e => h (str_ext e))]
  rfl
theorem less_right {s t : List UInt8} (hs : verErr s = 0) (ht : verErr t = 0) : lessB s t = decide (ordV s t < 0) := by
  unfold lessB
  simp [hs, ht]
/-- How newestFirst orders two: paths rising, versions falling. -/
def nfC (a b : Bm) : Int := if a.1 = b.1 then (if mAhead b a then -1 else if mAhead a b then 1 else 0) else Lib.compareBytes a.1.data.toList b.1.data.toList
/-- A right module of fitting length. -/
structure Rt (m : Bm) : Prop where
  ok : mErr m = 0
  p : m.1.size < 999999
  v : m.2.size < 999999
theorem Rt.ver {m : Bm} (h : Rt m) : verErr (vb m) = 0 := (mErr_zero h.ok).2
theorem nf_lt {a b : Bm} (ha : Rt a) (hb : Rt b) : nfC a b < 0 ↔ (lt a.1 b.1 = true ∨ (a.1 = b.1 ∧ ordV (vb b) (vb a) < 0)) := by
  unfold nfC
  by_cases h : a.1 = b.1
  · rw [if_pos h, ahead_same h.symm, ahead_same h, less_right hb.ver ha.ver, less_right ha.ver hb.ver]
    have hl : ¬ lt a.1 b.1 = true := by rw [h, lt_irrefl]; simp
    by_cases h1 : ordV (vb b) (vb a) < 0
    · simp [h1, h]
    · by_cases h2 : ordV (vb a) (vb b) < 0
      · simp [h1, h2, hl]
      · simp [h1, h2, hl]
  · rw [if_neg h]
    unfold lt
    simp [h]
theorem ordV_le_trans {s t u : List UInt8} (hs : verErr s = 0) (ht : verErr t = 0) (hu : verErr u = 0) (h1 : ordV s t ≤ 0) (h2 : ordV t u ≤ 0) : ordV s u ≤ 0 := by
  rcases Int.lt_or_eq_of_le h1 with a | a
  · rcases Int.lt_or_eq_of_le h2 with b | b
    · exact Int.le_of_lt (ordV_trans a b)
    · rw [← (ordV_zero ht hu).1 b]; exact h1
  · rw [(ordV_zero hs ht).1 a]; exact h2
theorem ordV_total {s t : List UInt8} (h : ¬ ordV s t < 0) : ordV t s ≤ 0 := by rw [ordV_swap s t]; omega
/-- What is not behind: the sort's own order, weakly. -/
def nfW (a b : Bm) : Prop := lt a.1 b.1 = true ∨ (a.1 = b.1 ∧ ordV (vb b) (vb a) ≤ 0)
theorem nf_not {a b : Bm} (ha : Rt a) (hb : Rt b) (h : ¬ nfC b a < 0) : nfW a b := by
  rw [nf_lt hb ha] at h
  rcases lt_three a.1 b.1 with h1 | h1 | h1
  · exact Or.inl h1
  · refine Or.inr ⟨h1, ordV_total fun h2 => h (Or.inr ⟨h1.symm, h2⟩)⟩
  · exact absurd (Or.inl h1) h
theorem nf_irr {a : Bm} (ha : Rt a) : ¬ nfC a a < 0 := by
  rw [nf_lt ha ha]
  rintro (h | ⟨_, h⟩)
  · rw [lt_irrefl] at h; cases h
  · rw [(ordV_zero ha.ver ha.ver).2 rfl] at h; omega
theorem nf_trans {a b c : Bm} (ha : Rt a) (hb : Rt b) (hc : Rt c) (h1 : nfC a b < 0) (h2 : nfC b c < 0) : nfC a c < 0 := by
  rw [nf_lt ha hb] at h1
  rw [nf_lt hb hc] at h2
  rw [nf_lt ha hc]
  rcases h1 with h1 | ⟨e1, h1⟩
  · rcases h2 with h2 | ⟨e2, h2⟩
    · exact Or.inl (lt_trans h1 h2)
    · rw [← e2]; exact Or.inl h1
  · rcases h2 with h2 | ⟨e2, h2⟩
    · rw [e1]; exact Or.inl h2
    · exact Or.inr ⟨e1.trans e2, ordV_trans h2 h1⟩
theorem nfW_trans {a b c : Bm} (ha : Rt a) (hb : Rt b) (hc : Rt c) (h1 : nfW a b) (h2 : nfW b c) : nfW a c := by
  rcases h1 with h1 | ⟨e1, h1⟩
  · rcases h2 with h2 | ⟨e2, h2⟩
    · exact Or.inl (lt_trans h1 h2)
    · rw [nfW, ← e2]; exact Or.inl h1
  · rcases h2 with h2 | ⟨e2, h2⟩
    · rw [nfW, e1]; exact Or.inl h2
    · exact Or.inr ⟨e1.trans e2, ordV_le_trans hc.ver hb.ver ha.ver h2 h1⟩
theorem nfW_not {a b : Bm} (ha : Rt a) (hb : Rt b) (h : nfW a b) : ¬ nfC b a < 0 := by
  rw [nf_lt hb ha]
  rintro (h2 | ⟨e, h2⟩)
  · rcases h with h | ⟨e, _⟩
    · rw [lt_asymm h] at h2; cases h2
    · rw [e, lt_irrefl] at h2; cases h2
  · rcases h with h | ⟨_, h⟩
    · rw [e, lt_irrefl] at h; cases h
    · rw [ordV_swap (vb b) (vb a)] at h2; omega

/-- E is what is joined of D: of each path the greatest of the right ones, paths rising. -/
structure Jn (D E : List Bm) : Prop where
  ri : rising E
  sub : ∀ e, e ∈ E → e ∈ D ∧ mErr e = 0
  top : ∀ x, x ∈ D → mErr x = 0 → ∃ e, e ∈ E ∧ e.1 = x.1 ∧ ordV (vb x) (vb e) ≤ 0
theorem rising_same {E : List Bm} (h : rising E) {a b : Bm} (ha : a ∈ E) (hb : b ∈ E) (e : a.1 = b.1) : a = b := by
  obtain ⟨i, hi, rfl⟩ := List.getElem_of_mem ha
  obtain ⟨j, hj, rfl⟩ := List.getElem_of_mem hb
  have hp := List.pairwise_iff_getElem.1 h
  rcases Nat.lt_trichotomy i j with h1 | h1 | h1
  · have := hp i j hi hj h1
    rw [e, lt_irrefl] at this; cases this
  · subst h1; rfl
  · have := hp j i hj hi h1
    rw [e, lt_irrefl] at this; cases this
/-- Paths that rise: one row of the same modules alone. -/
theorem rising_ext : ∀ {E F : List Bm}, rising E → rising F → (∀ m, m ∈ E ↔ m ∈ F) → E = F
  | [], [], _, _, _ => rfl
  | [], f :: F, _, _, h => by have := (h f).2 (by simp); cases this
  | e :: E, [], _, _, h => by have := (h e).1 (by simp); cases this
  | e :: E, f :: F, hE, hF, h => by
    obtain ⟨hE1, hE2⟩ := List.pairwise_cons.1 hE
    obtain ⟨hF1, hF2⟩ := List.pairwise_cons.1 hF
    have hef : e = f := by
      rcases List.mem_cons.1 ((h e).1 (by simp)) with a | a
      · exact a
      · rcases List.mem_cons.1 ((h f).2 (by simp)) with b | b
        · exact b.symm
        · have h1 := hF1 e a
          have h2 := hE1 f b
          rw [lt_asymm h1] at h2; cases h2
    subst hef
    have : E = F := rising_ext hE2 hF2 fun m => by
      constructor
      · intro hm
        rcases List.mem_cons.1 ((h m).1 (List.mem_cons_of_mem _ hm)) with a | a
        · subst a; have := hE1 m hm; rw [lt_irrefl] at this; cases this
        · exact a
      · intro hm
        rcases List.mem_cons.1 ((h m).2 (List.mem_cons_of_mem _ hm)) with a | a
        · subst a; have := hF1 m hm; rw [lt_irrefl] at this; cases this
        · exact a
    rw [this]
theorem ver_same {a b : Bm} (ha : mErr a = 0) (hb : mErr b = 0) (e : a.1 = b.1) (h1 : ordV (vb a) (vb b) ≤ 0) (h2 : ordV (vb b) (vb a) ≤ 0) : a = b := by
  have h0 : ordV (vb a) (vb b) = 0 := by rw [ordV_swap (vb a) (vb b)] at h2; omega
  have := (ordV_zero (mErr_zero ha).2 (mErr_zero hb).2).1 h0
  exact Prod.ext e (str_ext this)
/-- What is joined is one row: of the same modules, the same. -/
theorem Jn.one {D D' E F : List Bm} (hE : Jn D E) (hF : Jn D' F) (h : ∀ m, mErr m = 0 → (m ∈ D ↔ m ∈ D')) : E = F := by
  refine rising_ext hE.ri hF.ri fun m => ?_
  have go : ∀ {D D' E F : List Bm}, Jn D E → Jn D' F → (∀ m, mErr m = 0 → (m ∈ D ↔ m ∈ D')) → ∀ m, m ∈ E → m ∈ F := by
    intro D D' E F hE hF h m hm
    obtain ⟨h1, h2⟩ := hE.sub m hm
    obtain ⟨f, hf, e1, h3⟩ := hF.top m ((h m h2).1 h1) h2
    obtain ⟨h4, h5⟩ := hF.sub f hf
    obtain ⟨g, hg, e2, h6⟩ := hE.top f ((h f h5).2 h4) h5
    have hgm : g = m := rising_same hE.ri hg hm (e2.trans e1)
    subst hgm
    rw [ver_same h2 h5 e1.symm h3 h6]; exact hf
  exact ⟨go hE hF h m, go hF hE (fun m hm => (h m hm).symm) m⟩
/-- The first of a path. -/
def atP (B : List Bm) (p : ByteArray) : Option Bm := B.find? fun x => decide (x.1 = p)
/-- Has B the path, in no less a version? -/
def hasV (B : List Bm) (m : Bm) : Bool := match atP B m.1 with
  | none => false
  | some x => !lessB (vb x) (vb m)
/-- Under. -/
def undB (A B : List Bm) : Bool := A.all (hasV B)
theorem atP_rising {E : List Bm} (h : rising E) {e : Bm} (he : e ∈ E) : atP E e.1 = some e := by
  unfold atP
  cases hf : E.find? fun x => decide (x.1 = e.1) with
  | none =>
    have := List.find?_eq_none.1 hf e he
    simp at this
  | some x =>
    have h1 := List.find?_some hf
    have h2 := List.mem_of_find?_eq_some hf
    have h3 : x.1 = e.1 := by simpa using h1
    rw [rising_same h h2 he h3]
theorem hasV_rising {E : List Bm} (h : rising E) {e m : Bm} (he : e ∈ E) (hp : e.1 = m.1) : hasV E m = !lessB (vb e) (vb m) := by
  unfold hasV
  rw [← hp, atP_rising h he]
theorem hasV_of {E : List Bm} (h : rising E) {e m : Bm} (he : e ∈ E) (hp : e.1 = m.1) (ho : ordV (vb m) (vb e) ≤ 0) : hasV E m = true := by
  rw [hasV_rising h he hp]
  unfold lessB
  have : ¬ ordV (vb e) (vb m) < 0 := by rw [ordV_swap (vb m) (vb e)]; omega
  simp [this]
/-- What is joined is over what it is joined of. -/
theorem Jn.over {D E A : List Bm} (h : Jn D E) (hA : ∀ m, m ∈ A → m ∈ D ∧ mErr m = 0) : undB A E = true := by
  unfold undB
  rw [List.all_eq_true]
  intro m hm
  obtain ⟨h1, h2⟩ := hA m hm
  obtain ⟨e, he, e1, e2⟩ := h.top m h1 h2
  exact hasV_of h.ri he e1 e2
/-- Under what is over both. -/
theorem Jn.least {D E C : List Bm} (h : Jn D E) (hD : ∀ m, m ∈ D → hasV C m = true) : undB E C = true := by
  unfold undB
  rw [List.all_eq_true]
  exact fun m hm => hD m (h.sub m hm).1
end Ve
end Go.Proofs.YtanponneancajaaGreatDoor
