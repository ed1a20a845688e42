/-
  What is reached, plain: who came, and by whom; ways back.
-/
import Derived.Test.YtanponneancajaaGreatDoorFileQ
namespace Go.Proofs.YtanponneancajaaGreatDoor
namespace Ve

/-- Who came, in their order, and by whom each. -/
abbrev By := List (Bm × Bm)
def whoT (T : By) : List Bm := T.map fun x => x.1
theorem whoT_len (T : By) : (whoT T).length = T.length := by simp [whoT]
theorem whoT_get {T : By} {k : Nat} (h : k < T.length) : (whoT T)[k]'(by rw [whoT_len]; exact h) = T[k].1 := by simp [whoT]
theorem whoT_mem {T : By} {m : Bm} : m ∈ whoT T ↔ ∃ k, ∃ h : k < T.length, T[k].1 = m := by
  constructor
  · intro h
    obtain ⟨k, hk, e⟩ := List.getElem_of_mem h
    have hk2 : k < T.length := by rw [← whoT_len]; exact hk
    exact ⟨k, hk2, by rw [← whoT_get hk2]; exact e⟩
  · rintro ⟨k, h, rfl⟩
    exact List.mem_map.2 ⟨T[k], List.getElem_mem h, rfl⟩
def cameB (T : By) (m : Bm) : Bool := T.any fun x => decide (x.1.1 = m.1 ∧ x.1.2 = m.2)
theorem cameB_iff {T : By} {m : Bm} : cameB T m = true ↔ m ∈ whoT T := by
  unfold cameB
  rw [List.any_eq_true]
  constructor
  · rintro ⟨x, hx, h⟩
    have h2 := of_decide_eq_true h
    exact List.mem_map.2 ⟨x, hx, Prod.ext h2.1 h2.2⟩
  · intro h
    obtain ⟨x, hx, e⟩ := List.mem_map.1 h
    exact ⟨x, hx, decide_eq_true (by rw [e]; exact ⟨rfl, rfl⟩)⟩
theorem cameB_not {T : By} {m : Bm} (h : cameB T m = false) : m ∉ whoT T := fun hm => by rw [cameB_iff.2 hm] at h; cases h
def comeT (T : By) (m f : Bm) : By := if cameB T m then T else T ++ [(m, f)]
theorem come_yes {T : By} {m f : Bm} (h : cameB T m = true) : comeT T m f = T := by unfold comeT; rw [if_pos h]
theorem come_no {T : By} {m f : Bm} (h : cameB T m = false) : comeT T m f = T ++ [(m, f)] := by unfold comeT; rw [h]; rfl
theorem whoT_app (T : By) (m f : Bm) : whoT (T ++ [(m, f)]) = whoT T ++ [m] := by simp [whoT]
theorem come_mem (T : By) (m f : Bm) : m ∈ whoT (comeT T m f) := by
  cases h : cameB T m
  · rw [come_no h, whoT_app]; simp
  · rw [come_yes h]; exact cameB_iff.1 h
theorem come_sub {T : By} {m f x : Bm} (h : x ∈ whoT T) : x ∈ whoT (comeT T m f) := by
  cases hc : cameB T m
  · rw [come_no hc, whoT_app]; simp [h]
  · rw [come_yes hc]; exact h
/-- What was there stays where it was. -/
theorem come_old (T : By) (m f : Bm) : ∃ R, comeT T m f = T ++ R := by
  cases hc : cameB T m
  · exact ⟨[(m, f)], come_no hc⟩
  · exact ⟨[], by rw [come_yes hc]; simp⟩
theorem nd_len {α : Type} [DecidableEq α] : ∀ (a b : List α), a.Nodup → (∀ x, x ∈ a → x ∈ b) → a.length ≤ b.length
  | [], _, _, _ => Nat.zero_le _
  | x :: a, b, hn, hs => by
    obtain ⟨h1, h2⟩ := List.nodup_cons.1 hn
    have hx := hs x (by simp)
    have h3 := nd_len a (b.erase x) h2 (fun y hy => (List.mem_erase_of_ne (fun e => h1 (by rw [← e]; exact hy))).2 (hs y (List.mem_cons_of_mem _ hy)))
    rw [List.length_erase_of_mem hx] at h3
    have := List.length_pos_of_mem hx
    simp
    omega

/-- The walk, as far as it has come: the first i have been asked whom they require. -/
structure Bfs (req : Bm → List Bm) (U roots : List Bm) (T : By) (i : Nat) : Prop where
  le : i ≤ T.length
  nd : (whoT T).Nodup
  un : ∀ m, m ∈ whoT T → m ∈ U
  by_ : ∀ k (h : k < T.length), (T[k].1 = T[k].2 ∧ T[k].1 ∈ roots) ∨ ∃ j, ∃ hj : j < k, (T[j]'(Nat.lt_trans hj h)).1 = T[k].2 ∧ T[k].1 ∈ req T[k].2
  cl : ∀ j (h : j < T.length), j < i → ∀ m, m ∈ req T[j].1 → m ∈ whoT T
theorem Bfs.none (req : Bm → List Bm) (U roots : List Bm) : Bfs req U roots [] 0 := ⟨Nat.le_refl _, by simp [whoT], fun m h => by simp [whoT] at h, fun k h => absurd h (Nat.not_lt_zero _), fun j h => absurd h (Nat.not_lt_zero _)⟩
theorem Bfs.len {req : Bm → List Bm} {U roots : List Bm} {T : By} {i : Nat} (h : Bfs req U roots T i) : T.length ≤ U.length := by
  have := nd_len (whoT T) U h.nd h.un
  rw [whoT_len] at this
  exact this
theorem Bfs.come {req : Bm → List Bm} {U roots : List Bm} {T : By} {i : Nat} (h : Bfs req U roots T i) {m f : Bm} (hm : m ∈ U) (hf : (m = f ∧ m ∈ roots) ∨ (f ∈ whoT T ∧ m ∈ req f)) : Bfs req U roots (comeT T m f) i := by
  cases hc : cameB T m
  · rw [come_no hc]
    have hn : m ∉ whoT T := cameB_not hc
    refine ⟨by have := h.le; simp; omega, ?_, ?_, ?_, ?_⟩
    · rw [whoT_app]
      exact List.nodup_append.2 ⟨h.nd, by simp, fun a ha b hb e => by simp at hb; subst hb; subst e; exact hn ha⟩
    · intro x hx
      rw [whoT_app] at hx
      rcases List.mem_append.1 hx with hx | hx
      · exact h.un x hx
      · simp at hx; subst hx; exact hm
    · intro k hk
      by_cases hkT : k < T.length
      · have e : (T ++ [(m, f)])[k] = T[k] := List.getElem_append_left hkT
        rw [e]
        rcases h.by_ k hkT with h1 | ⟨j, hj, h2, h3⟩
        · exact Or.inl h1
        · exact Or.inr ⟨j, hj, by rw [List.getElem_append_left (by omega)]; exact h2, h3⟩
      · have hk2 : k = T.length := by simp at hk; omega
        subst hk2
        have e : (T ++ [(m, f)])[T.length] = (m, f) := by simp
        rw [e]
        rcases hf with hf | ⟨hf, hr⟩
        · exact Or.inl hf
        · obtain ⟨j, hj, ej⟩ := whoT_mem.1 hf
          exact Or.inr ⟨j, hj, by rw [List.getElem_append_left hj]; exact ej, hr⟩
    · intro j hj hji x hx
      rw [whoT_app]
      by_cases hjT : j < T.length
      · rw [List.getElem_append_left hjT] at hx
        exact List.mem_append_left _ (h.cl j hjT hji x hx)
      · have := h.le; omega
  · rw [come_yes hc]; exact h
theorem Bfs.next {req : Bm → List Bm} {U roots : List Bm} {T : By} {i : Nat} (h : Bfs req U roots T i) (hi : i < T.length) (hr : ∀ m, m ∈ req T[i].1 → m ∈ whoT T) : Bfs req U roots T (i + 1) :=
  ⟨hi, h.nd, h.un, h.by_, fun j hj hji m hm => by
    rcases Nat.lt_or_ge j i with h1 | h1
    · exact h.cl j hj h1 m hm
    · have : j = i := by omega
      subst this
      exact hr m hm⟩

/-- What is reached. -/
inductive Rch (req : Bm → List Bm) (roots : List Bm) : Bm → Prop
  | root {m : Bm} : m ∈ roots → Rch req roots m
  | step {p m : Bm} : Rch req roots p → m ∈ req p → Rch req roots m
theorem Bfs.only {req : Bm → List Bm} {U roots : List Bm} {T : By} {i : Nat} (h : Bfs req U roots T i) : ∀ (n k : Nat) (hk : k < T.length), k ≤ n → Rch req roots T[k].1
  | 0, k, hk, hn => by
    rcases h.by_ k hk with h1 | ⟨j, hj, _⟩
    · exact .root h1.2
    · omega
  | n + 1, k, hk, hn => by
    rcases h.by_ k hk with h1 | ⟨j, hj, h2, h3⟩
    · exact .root h1.2
    · have := h.only n j (by omega) (by omega)
      rw [h2] at this
      exact .step this h3
theorem nd_get {T : By} (h : (whoT T).Nodup) {i j : Nat} (hi : i < T.length) (hj : j < T.length) (e : T[i].1 = T[j].1) : i = j := by
  rw [← whoT_get hi, ← whoT_get hj] at e
  have hp := List.pairwise_iff_getElem.1 h
  rcases Nat.lt_trichotomy i j with h1 | h1 | h1
  · exact absurd e (hp i j (by rw [whoT_len]; exact hi) (by rw [whoT_len]; exact hj) h1)
  · exact h1
  · exact absurd e.symm (hp j i (by rw [whoT_len]; exact hj) (by rw [whoT_len]; exact hi) h1)
/-- There is a way of n modules. -/
inductive Wn (req : Bm → List Bm) (roots : List Bm) : Nat → Bm → Prop
  | root {m : Bm} : m ∈ roots → Wn req roots 1 m
  | step {n : Nat} {p m : Bm} : Wn req roots n p → m ∈ req p → Wn req roots (n + 1) m
theorem Wn.rch {req : Bm → List Bm} {roots : List Bm} {n : Nat} {m : Bm} (h : Wn req roots n m) : Rch req roots m := by
  induction h with
  | root hr => exact .root hr
  | step _ hr ih => exact .step ih hr
theorem Wn.pos {req : Bm → List Bm} {roots : List Bm} {n : Nat} {m : Bm} (h : Wn req roots n m) : 1 ≤ n := by
  cases h with
  | root _ => exact Nat.le_refl _
  | step _ _ => omega
/-- The shortest way has n modules. -/
def Dst (req : Bm → List Bm) (roots : List Bm) (m : Bm) (n : Nat) : Prop := Wn req roots n m ∧ ∀ k, Wn req roots k m → n ≤ k
theorem Dst.one {req : Bm → List Bm} {roots : List Bm} {m : Bm} {a b : Nat} (ha : Dst req roots m a) (hb : Dst req roots m b) : a = b := Nat.le_antisymm (ha.2 b hb.1) (hb.2 a ha.1)
/-- The levels of who came. -/
structure LvOk (req : Bm → List Bm) (roots : List Bm) (T : By) (i : Nat) (V : List Nat) : Prop where
  ln : V.length = T.length
  wn : ∀ k (h : k < T.length) (h' : k < V.length), Wn req roots V[k] T[k].1
  st : ∀ k (h : k < T.length) (h' : k < V.length), (T[k].1 = T[k].2 ∧ V[k] = 1) ∨ ∃ j, ∃ hj : j < k, (T[j]'(Nat.lt_trans hj h)).1 = T[k].2 ∧ V[k] = (V[j]'(Nat.lt_trans hj h')) + 1
  mo : ∀ a b (hb : b < V.length) (hab : a < b), (V[a]'(Nat.lt_trans hab hb)) ≤ V[b]
  nx : ∀ k (h : k < V.length) (hi : i < V.length), V[k] ≤ V[i] + 1
  pr : ∀ j (h : j < T.length) (h' : j < V.length), j < i → ∀ m, m ∈ req T[j].1 → ∃ k, ∃ hk : k < T.length, ∃ hk' : k < V.length, T[k].1 = m ∧ V[k] ≤ V[j] + 1
  rt : ∀ k (h : k < T.length) (h' : k < V.length), T[k].1 ∈ roots → V[k] = 1
theorem LvOk.none (req : Bm → List Bm) (roots : List Bm) : LvOk req roots [] 0 [] :=
  ⟨rfl, fun _ h => absurd h (Nat.not_lt_zero _), fun _ h => absurd h (Nat.not_lt_zero _), fun _ _ hb => absurd hb (Nat.not_lt_zero _), fun _ h => absurd h (Nat.not_lt_zero _), fun _ h => absurd h (Nat.not_lt_zero _), fun _ h => absurd h (Nat.not_lt_zero _)⟩
/-- One more behind the others, of the level l. -/
theorem LvOk.push {req : Bm → List Bm} {roots : List Bm} {T : By} {i : Nat} {V : List Nat} (h : LvOk req roots T i V) {m f : Bm} {l : Nat} (hw : Wn req roots l m)
    (hs : (m = f ∧ l = 1) ∨ ∃ j, ∃ hj : j < T.length, T[j].1 = f ∧ l = (V[j]'(by rw [h.ln]; exact hj)) + 1) (hm : ∀ k (hk : k < V.length), V[k] ≤ l) (hn : ∀ (hi : i < V.length), l ≤ V[i] + 1) (hi0 : i ≤ T.length) (hi1 : i = V.length → l ≤ l + 1) (hr : m ∈ roots → l = 1) : LvOk req roots (T ++ [(m, f)]) i (V ++ [l]) := by
  have hl : V.length = T.length := h.ln
  have gT : ∀ k (hk : k < T.length) (hk' : k < (T ++ [(m, f)]).length), (T ++ [(m, f)])[k] = T[k] := fun k hk _ => List.getElem_append_left hk
  have gV : ∀ k (hk : k < V.length) (hk' : k < (V ++ [l]).length), (V ++ [l])[k] = V[k] := fun k hk _ => List.getElem_append_left hk
  have eT : ∀ (hk' : T.length < (T ++ [(m, f)]).length), (T ++ [(m, f)])[T.length] = (m, f) := fun _ => by simp
  have eV : ∀ (hk' : T.length < (V ++ [l]).length), (V ++ [l])[T.length] = l := fun _ => by
    have : ∀ (n : Nat) (hn : n = V.length) (hk : n < (V ++ [l]).length), (V ++ [l])[n] = l := fun n hn hk => by subst hn; simp
    exact this _ hl.symm _
  refine ⟨by simp [hl], ?_, ?_, ?_, ?_, ?_, ?_⟩
  · intro k hk hk'
    by_cases hT : k < T.length
    · rw [gT k hT hk, gV k (by omega) hk']; exact h.wn k hT _
    · have : k = T.length := by simp at hk; omega
      subst this
      rw [eT hk, eV hk']; exact hw
  · intro k hk hk'
    by_cases hT : k < T.length
    · rw [gT k hT hk, gV k (by omega) hk']
      rcases h.st k hT (by omega) with h1 | ⟨j, hj, h2, h3⟩
      · exact Or.inl h1
      · exact Or.inr ⟨j, hj, by rw [gT j (by omega)]; exact h2, by rw [gV j (by omega)]; exact h3⟩
    · have : k = T.length := by simp at hk; omega
      subst this
      rw [eT hk, eV hk']
      rcases hs with h1 | ⟨j, hj, h2, h3⟩
      · exact Or.inl h1
      · exact Or.inr ⟨j, hj, by rw [gT j hj]; exact h2, by rw [gV j (by omega)]; exact h3⟩
  · intro a b hb hab
    by_cases hB : b < V.length
    · rw [gV b hB hb, gV a (by omega)]; exact h.mo a b hB hab
    · have : b = T.length := by simp at hb; omega
      subst this
      rw [eV hb, gV a (by omega)]
      exact hm a (by omega)
  · intro k hk hi
    by_cases hI : i < V.length
    · rw [gV i hI hi]
      by_cases hK : k < V.length
      · rw [gV k hK hk]; exact h.nx k hK hI
      · have : k = T.length := by simp at hk; omega
        subst this
        rw [eV hk]; exact hn hI
    · have hie : i = T.length := by simp at hi; omega
      subst hie
      rw [eV hi]
      by_cases hK : k < V.length
      · rw [gV k hK hk]; exact Nat.le_succ_of_le (hm k hK)
      · have : k = T.length := by simp at hk; omega
        subst this
        rw [eV hk]; omega
  · intro j hj hj' hji x hx
    have hjT : j < T.length := by omega
    rw [gT j hjT hj] at hx
    obtain ⟨k, hk, hk', e, hle⟩ := h.pr j hjT (by omega) hji x hx
    refine ⟨k, by simp; omega, by simp; omega, by rw [gT k hk]; exact e, ?_⟩
    rw [gV k hk', gV j (by omega)]; exact hle
  · intro k hk hk' hx
    by_cases hT : k < T.length
    · rw [gT k hT hk] at hx
      rw [gV k (by omega) hk']; exact h.rt k hT _ hx
    · have : k = T.length := by simp at hk; omega
      subst this
      rw [eT hk] at hx
      rw [eV hk']; exact hr hx
/-- A root comes. -/
theorem LvOk.root {req : Bm → List Bm} {roots : List Bm} {T : By} {V : List Nat} (h : LvOk req roots T 0 V) (h1 : ∀ k (hk : k < V.length), V[k] = 1) {m : Bm} (hm : m ∈ roots) : ∃ V', LvOk req roots (comeT T m m) 0 V' ∧ ∀ k (hk : k < V'.length), V'[k] = 1 := by
  cases hc : cameB T m with
  | true => rw [come_yes hc]; exact ⟨V, h, h1⟩
  | false =>
    rw [come_no hc]
    refine ⟨V ++ [1], h.push (.root hm) (Or.inl ⟨rfl, rfl⟩) (fun k hk => by rw [h1 k hk]; exact Nat.le_refl _) (fun hi => by omega) (Nat.zero_le _) (fun _ => by omega) (fun _ => rfl), fun k hk => ?_⟩
    by_cases hK : k < V.length
    · rw [List.getElem_append_left hK]; exact h1 k hK
    · have : k = V.length := by simp at hk; omega
      subst this; simp
/-- What the one at i requires comes. -/
theorem LvOk.reqs {req : Bm → List Bm} {roots : List Bm} {T : By} {i : Nat} {V : List Nat} (h : LvOk req roots T i V) (hi : i < T.length) (hall : ∀ m, m ∈ roots → m ∈ whoT T) {m : Bm} (hm : m ∈ req T[i].1) : ∃ V', LvOk req roots (comeT T m T[i].1) i V' := by
  have hiV : i < V.length := by rw [h.ln]; exact hi
  cases hc : cameB T m with
  | true => rw [come_yes hc]; exact ⟨V, h⟩
  | false =>
    rw [come_no hc]
    exact ⟨V ++ [V[i] + 1], h.push (.step (h.wn i hi hiV) hm) (Or.inr ⟨i, hi, rfl, rfl⟩) (fun k hk => h.nx k hk hiV) (fun _ => Nat.le_refl _) (Nat.le_of_lt hi) (fun e => by omega) (fun hr => absurd (hall m hr) (cameB_not hc))⟩
/-- The next one's turn. -/
theorem LvOk.next {req : Bm → List Bm} {roots : List Bm} {T : By} {i : Nat} {V : List Nat} (h : LvOk req roots T i V) (hi : i < T.length) (hr : ∀ m, m ∈ req T[i].1 → m ∈ whoT T) : LvOk req roots T (i + 1) V := by
  have hiV : i < V.length := by rw [h.ln]; exact hi
  refine ⟨h.ln, h.wn, h.st, h.mo, fun k hk hi1 => ?_, fun j hj hj' hji m hm => ?_, h.rt⟩
  · exact Nat.le_trans (h.nx k hk hiV) (Nat.succ_le_succ (h.mo i (i + 1) hi1 (Nat.lt_succ_self i)))
  · rcases Nat.lt_or_ge j i with h1 | h1
    · exact h.pr j hj hj' h1 m hm
    · have : j = i := by omega
      subst this
      obtain ⟨k, hk, e⟩ := whoT_mem.1 (hr m hm)
      exact ⟨k, hk, by rw [h.ln]; exact hk, e, h.nx k (by rw [h.ln]; exact hk) hiV⟩
/-- At the end: the level is how far one is off. -/
theorem LvOk.low {req : Bm → List Bm} {roots : List Bm} {T : By} {V : List Nat} (h : LvOk req roots T T.length V) (hall : ∀ m, m ∈ roots → m ∈ whoT T) {n : Nat} {m : Bm} (hw : Wn req roots n m) : ∃ k, ∃ hk : k < T.length, ∃ hk' : k < V.length, T[k].1 = m ∧ V[k] ≤ n := by
  induction hw with
  | root hr =>
    obtain ⟨k, hk, rfl⟩ := whoT_mem.1 (hall _ hr)
    exact ⟨k, hk, by rw [h.ln]; exact hk, rfl, Nat.le_of_eq (h.rt k hk _ hr)⟩
  | step _ hr ih =>
    obtain ⟨j, hj, hj', rfl, hle⟩ := ih
    obtain ⟨k, hk, hk', e, hle2⟩ := h.pr j hj hj' hj _ hr
    exact ⟨k, hk, hk', e, by omega⟩
theorem LvOk.dst {req : Bm → List Bm} {roots : List Bm} {T : By} {V : List Nat} (h : LvOk req roots T T.length V) (hnd : (whoT T).Nodup) (hall : ∀ m, m ∈ roots → m ∈ whoT T) {k : Nat} (hk : k < T.length) (hk' : k < V.length) : Dst req roots T[k].1 V[k] := by
  refine ⟨h.wn k hk hk', fun n hn => ?_⟩
  obtain ⟨j, hj, hj', e, hle⟩ := h.low hall hn
  have := nd_get hnd hj hk e
  subst this
  exact hle
/-- At the end: who came is who is reached. -/
structure Came (req : Bm → List Bm) (U roots : List Bm) (T : By) : Prop where
  b : Bfs req U roots T T.length
  r : ∀ m, m ∈ roots → m ∈ whoT T
  l : ∃ V, LvOk req roots T T.length V
theorem Came.iff {req : Bm → List Bm} {U roots : List Bm} {T : By} (h : Came req U roots T) (m : Bm) : m ∈ whoT T ↔ Rch req roots m := by
  constructor
  · intro hm
    obtain ⟨k, hk, rfl⟩ := whoT_mem.1 hm
    exact h.b.only k k hk (Nat.le_refl _)
  · intro hm
    induction hm with
    | root hr => exact h.r _ hr
    | step _ hr ih =>
      obtain ⟨k, hk, rfl⟩ := whoT_mem.1 ih
      exact h.b.cl k hk hk _ hr
theorem Came.cameB {req : Bm → List Bm} {U roots : List Bm} {T : By} (h : Came req U roots T) (m : Bm) : Ve.cameB T m = true ↔ Rch req roots m := by
  rw [cameB_iff]
  exact h.iff m
theorem Rch.mono {req : Bm → List Bm} {r r' : List Bm} (hs : ∀ m, m ∈ r → m ∈ r') {m : Bm} (h : Rch req r m) : Rch req r' m := by
  induction h with
  | root hr => exact .root (hs _ hr)
  | step _ hr ih => exact .step ih hr
theorem Rch.app {req : Bm → List Bm} {a b : List Bm} {m : Bm} : Rch req (a ++ b) m ↔ Rch req a m ∨ Rch req b m := by
  constructor
  · intro h
    induction h with
    | root hr =>
      rcases List.mem_append.1 hr with h1 | h1
      · exact Or.inl (.root h1)
      · exact Or.inr (.root h1)
    | step _ hr ih =>
      rcases ih with h1 | h1
      · exact Or.inl (.step h1 hr)
      · exact Or.inr (.step h1 hr)
  · rintro (h | h)
    · exact h.mono fun m hm => List.mem_append_left _ hm
    · exact h.mono fun m hm => List.mem_append_right _ hm
/-- Of what is reached no more is reached. -/
theorem Rch.again {req : Bm → List Bm} {r x : List Bm} (hx : ∀ m, m ∈ x ↔ Rch req r m) {m : Bm} : Rch req x m ↔ Rch req r m := by
  constructor
  · intro h
    induction h with
    | root hr => exact (hx _).1 hr
    | step _ hr ih => exact .step ih hr
  · intro h
    exact .root ((hx m).2 h)

/-- A way back, turned round: from the one at place k to the one that was asked for. -/
inductive Wy (req : Bm → List Bm) (T : By) : Bm → Nat → List Bm → Prop
  | start {k : Nat} (h : k < T.length) : Wy req T T[k].1 k [T[k].1]
  | next {m : Bm} {k j : Nat} {Y : List Bm} : Wy req T m k Y → (hk : k < T.length) → (hj : j < k) → (T[j]'(Nat.lt_trans hj hk)).1 = T[k].2 → T[k].1 ∈ req T[k].2 → Wy req T m j ((T[j]'(Nat.lt_trans hj hk)).1 :: Y)
theorem Wy.lt {req : Bm → List Bm} {T : By} {m : Bm} {k : Nat} {Y : List Bm} (h : Wy req T m k Y) : k < T.length := by
  cases h with
  | start h => exact h
  | next h hk hj _ _ => omega
theorem Wy.at_ {req : Bm → List Bm} {T : By} {m : Bm} {k : Nat} {Y : List Bm} (h : Wy req T m k Y) : ∃ Z, Y = (T[k]'h.lt).1 :: Z := by
  cases h with
  | start h => exact ⟨[], rfl⟩
  | next h hk hj _ _ => exact ⟨_, rfl⟩
theorem Wy.pos {req : Bm → List Bm} {T : By} {m : Bm} {k : Nat} {Y : List Bm} (h : Wy req T m k Y) : 0 < Y.length := by
  cases h with
  | start h => simp
  | next h hk hj _ _ => simp
theorem Wy.head {req : Bm → List Bm} {T : By} {m : Bm} {k : Nat} {Y : List Bm} (h : Wy req T m k Y) : Y[0]'h.pos = (T[k]'h.lt).1 := by
  cases h with
  | start h => rfl
  | next h hk hj _ _ => rfl
theorem Wy.last {req : Bm → List Bm} {T : By} {m : Bm} {k : Nat} {Y : List Bm} (h : Wy req T m k Y) : Y.getLast? = some m := by
  induction h with
  | start h => rfl
  | next h hk hj _ _ ih =>
    rw [List.getLast?_cons, ih]
    rfl
theorem Wy.far {req : Bm → List Bm} {T : By} {m : Bm} {k : Nat} {Y : List Bm} (h : Wy req T m k Y) : ∀ y, y ∈ Y → ∃ p, ∃ hp : p < T.length, k ≤ p ∧ T[p].1 = y := by
  induction h with
  | start h => intro y hy; simp at hy; exact ⟨_, h, Nat.le_refl _, hy.symm⟩
  | next h hk hj _ _ ih =>
    intro y hy
    rcases List.mem_cons.1 hy with rfl | hy
    · exact ⟨_, by omega, Nat.le_refl _, rfl⟩
    · obtain ⟨p, hp, h1, h2⟩ := ih y hy
      exact ⟨p, hp, by omega, h2⟩
theorem Wy.nd {req : Bm → List Bm} {T : By} {m : Bm} {k : Nat} {Y : List Bm} (hn : (whoT T).Nodup) (h : Wy req T m k Y) : Y.Nodup := by
  induction h with
  | start h => simp
  | next h hk hj _ _ ih =>
    refine List.nodup_cons.2 ⟨fun hy => ?_, ih⟩
    obtain ⟨p, hp, h1, h2⟩ := h.far _ hy
    have := nd_get hn hp (by omega) h2
    omega
/-- Each is required by the one ahead. -/
theorem Wy.chain {req : Bm → List Bm} {T : By} {m : Bm} {k : Nat} {Y : List Bm} (h : Wy req T m k Y) : ∀ a (ha : a + 1 < Y.length), Y[a + 1] ∈ req Y[a] := by
  induction h with
  | start h => intro a ha; simp at ha
  | next h hk hj h2 h3 ih =>
    intro a ha
    cases a with
    | zero =>
      simp only [List.getElem_cons_succ, List.getElem_cons_zero]
      rw [h2, h.head]
      exact h3
    | succ a =>
      simp only [List.getElem_cons_succ]
      exact ih a (by simpa using ha)
/-- How long the way back is. -/
theorem LvOk.way {req : Bm → List Bm} {roots : List Bm} {T : By} {i : Nat} {V : List Nat} (h : LvOk req roots T i V) (hnd : (whoT T).Nodup) {m : Bm} {k : Nat} {Y : List Bm} (hy : Wy req T m k Y) : ∃ t, ∃ ht : t < T.length, ∃ ht' : t < V.length, ∃ hk' : k < V.length, T[t].1 = m ∧ Y.length + V[k] = V[t] + 1 := by
  induction hy with
  | @start k hk => exact ⟨k, hk, by rw [h.ln]; exact hk, by rw [h.ln]; exact hk, rfl, by simp; omega⟩
  | @next m k j Y hy hk hj e1 e2 ih =>
    obtain ⟨t, ht, ht', hk', e, hl⟩ := ih
    refine ⟨t, ht, ht', by omega, e, ?_⟩
    rcases h.st k hk hk' with ⟨s1, s2⟩ | ⟨j', hj', s1, s2⟩
    · have := nd_get hnd (by omega) hk (e1.trans s1.symm)
      omega
    · have := nd_get hnd (by omega) (by omega) (s1.trans e1.symm)
      subst this
      simp
      omega
end Ve
end Go.Proofs.YtanponneancajaaGreatDoor
