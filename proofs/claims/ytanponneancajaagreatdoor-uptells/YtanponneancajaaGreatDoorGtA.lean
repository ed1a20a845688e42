/-
  The document's marks and how far one is off, plain.
-/
import Derived.Test.YtanponneancajaaGreatDoorGrA
namespace Go.Proofs.YtanponneancajaaGreatDoor
namespace Ve

/-- How many are not marked. -/
def unm : List Bool → Nat
  | [] => 0
  | true :: l => unm l
  | false :: l => unm l + 1
theorem unm_set : ∀ (O : List Bool) (a : Nat) (h : a < O.length), O[a] = false → unm (O.set a true) + 1 = unm O
  | [], _, h, _ => absurd h (Nat.not_lt_zero _)
  | b :: O, 0, _, e => by
    have : b = false := e
    subst this
    rfl
  | b :: O, a + 1, h, e => by
    have ih := unm_set O a (by simpa using h) (by simpa using e)
    rw [List.set_cons_succ]
    cases b
    · show unm (O.set a true) + 1 + 1 = unm O + 1
      omega
    · exact ih
/-- Marks that are right. -/
structure Mk (req : Bm → List Bm) (U roots : List Bm) (O : List Bool) : Prop where
  ln : O.length = U.length
  so : ∀ i (h : i < U.length) (h' : i < O.length), O[i] = true → Rch req roots U[i]
theorem Mk.none (req : Bm → List Bm) (U roots : List Bm) : Mk req U roots (List.replicate U.length false) :=
  ⟨by simp, fun i h h' e => by rw [List.getElem_replicate] at e; cases e⟩
theorem Mk.set {req : Bm → List Bm} {U roots : List Bm} {O : List Bool} (h : Mk req U roots O) {a : Nat} (ha : a < U.length) (hr : Rch req roots U[a]) : Mk req U roots (O.set a true) := by
  refine ⟨by rw [List.length_set]; exact h.ln, fun i hi hi' e => ?_⟩
  by_cases hia : a = i
  · subst hia; exact hr
  · rw [List.getElem_set_ne hia] at e
    exact h.so i hi (by rw [h.ln]; exact hi) e
/-- Is it marked? -/
def At1 (U : List Bm) (O : List Bool) (m : Bm) : Prop := ∃ a, ∃ h : a < U.length, ∃ h' : a < O.length, U[a] = m ∧ O[a] = true
theorem At1.set {U : List Bm} {O : List Bool} {m : Bm} (h : At1 U O m) (a : Nat) : At1 U (O.set a true) m := by
  obtain ⟨k, hk, hk', e1, e2⟩ := h
  refine ⟨k, hk, by rw [List.length_set]; exact hk', e1, ?_⟩
  by_cases hka : a = k
  · subst hka; rw [List.getElem_set_self]
  · rw [List.getElem_set_ne hka]; exact e2
theorem At1.new {U : List Bm} {O : List Bool} {a : Nat} (ha : a < U.length) (hl : O.length = U.length) : At1 U (O.set a true) U[a] :=
  ⟨a, ha, by rw [List.length_set, hl]; exact ha, rfl, by rw [List.getElem_set_self]⟩
/-- What those below i require is marked. -/
def Cl1 (req : Bm → List Bm) (U : List Bm) (O : List Bool) (i : Nat) : Prop := ∀ j (h : j < U.length) (h' : j < O.length), j < i → O[j] = true → ∀ m, m ∈ req U[j] → At1 U O m
theorem Mk.iff {req : Bm → List Bm} {U roots : List Bm} {O : List Bool} (h : Mk req U roots O) (hn : U.Nodup) (hr : ∀ m, m ∈ roots → At1 U O m) (hc : Cl1 req U O U.length) {i : Nat} (hi : i < U.length) (hi' : i < O.length) : O[i] = true ↔ Rch req roots U[i] := by
  refine ⟨h.so i hi hi', fun hR => ?_⟩
  have all : ∀ m, Rch req roots m → At1 U O m := fun m hm => by
    induction hm with
    | root hm => exact hr _ hm
    | step _ hm ih =>
      obtain ⟨a, ha, ha', e1, e2⟩ := ih
      rw [← e1] at hm
      exact hc a ha ha' ha e2 _ hm
  obtain ⟨a, ha, ha', e1, e2⟩ := all _ hR
  have hp := List.pairwise_iff_getElem.1 hn
  have : a = i := by
    rcases Nat.lt_trichotomy a i with h1 | h1 | h1
    · exact absurd e1 (hp a i ha hi h1)
    · exact h1
    · exact absurd e1.symm (hp i a hi ha h1)
  subst this
  exact e2
/-- One that is reached has a shortest way. -/
theorem rch_wn {req : Bm → List Bm} {roots : List Bm} {m : Bm} (h : Rch req roots m) : ∃ n, Wn req roots n m := by
  induction h with
  | root hr => exact ⟨1, .root hr⟩
  | step _ hr ih => obtain ⟨n, hn⟩ := ih; exact ⟨n + 1, .step hn hr⟩
theorem wn_dst {req : Bm → List Bm} {roots : List Bm} {m : Bm} : ∀ (n : Nat), Wn req roots n m → ∃ d, Dst req roots m d := fun n => by
  induction n using Nat.strongRecOn with
  | ind n ih =>
    intro h
    by_cases hs : ∃ k, k < n ∧ Wn req roots k m
    · obtain ⟨k, hk, hw⟩ := hs
      exact ih k hk hw
    · exact ⟨n, h, fun k hk => Nat.le_of_not_lt fun hlt => hs ⟨k, hlt, hk⟩⟩
theorem Dst.row {req : Bm → List Bm} {roots : List Bm} : ∀ {d : Nat} {m : Bm}, Dst req roots m d → ∃ Y : List Bm, Y.length = d ∧ Y.Nodup ∧ ∀ y, y ∈ Y → ∃ k, k ≤ d ∧ Dst req roots y k
  | 0, m, h => absurd h.1.pos (by omega)
  | d + 1, m, h => by
    have hs := h
    obtain ⟨hw, hm⟩ := h
    cases hw with
    | root hr => exact ⟨[m], rfl, by simp, fun y hy => by rw [List.mem_singleton] at hy; subst hy; exact ⟨_, Nat.le_refl _, hs⟩⟩
    | @step _ p _ hp hr =>
      have hd : Dst req roots p d := ⟨hp, fun k hk => by have := hm _ (.step hk hr); omega⟩
      obtain ⟨Y, h1, h2, h3⟩ := Dst.row hd
      refine ⟨m :: Y, by simp [h1], List.nodup_cons.2 ⟨fun hmem => ?_, h2⟩, fun y hy => ?_⟩
      · obtain ⟨k, hk, hk2⟩ := h3 m hmem
        have := hk2.one hs
        omega
      · rcases List.mem_cons.1 hy with rfl | hy
        · exact ⟨_, Nat.le_refl _, hs⟩
        · obtain ⟨k, hk, hk2⟩ := h3 y hy
          exact ⟨k, by omega, hk2⟩
theorem Dst.le {req : Bm → List Bm} {roots U : List Bm} (hU : ∀ m, Rch req roots m → m ∈ U) {d : Nat} {m : Bm} (h : Dst req roots m d) : d ≤ U.length := by
  obtain ⟨Y, h1, h2, h3⟩ := h.row
  rw [← h1]
  exact nd_len Y U h2 fun y hy => by
    obtain ⟨_, _, hk⟩ := h3 y hy
    exact hU y hk.1.rch
/-- How far, as far as n: in the breadth n, those below i done, and of the one at i the first of R. -/
structure Fr (req : Bm → List Bm) (U roots : List Bm) (n i : Nat) (F : List Nat) : Prop where
  ln : F.length = U.length
  so : ∀ j (h : j < U.length) (h' : j < F.length), F[j] ≠ 0 → Wn req roots F[j] U[j]
  bd : ∀ j (h' : j < F.length), F[j] ≤ n + 1
  lo : ∀ d j (h : j < U.length) (h' : j < F.length), d ≤ n → Wn req roots d U[j] → F[j] ≠ 0 ∧ F[j] ≤ d
  dn : ∀ j (h : j < U.length) (h' : j < F.length), j < i → F[j] = n → ∀ m, m ∈ req U[j] → ∃ a, ∃ h : a < U.length, ∃ h' : a < F.length, U[a] = m ∧ F[a] ≠ 0
theorem Fr.none (req : Bm → List Bm) (U roots : List Bm) : Fr req U roots 0 0 (List.replicate U.length 0) :=
  ⟨by simp, fun j _ _ e => by rw [List.getElem_replicate] at e; exact absurd rfl e, fun j _ => by rw [List.getElem_replicate]; omega, fun d j _ _ hd hw => absurd hw.pos (by omega), fun _ _ _ h => absurd h (Nat.not_lt_zero _)⟩
/-- One that was not come to. -/
theorem Fr.set {req : Bm → List Bm} {U roots : List Bm} {n i : Nat} {F : List Nat} (h : Fr req U roots n i F) {a : Nat} (ha : a < U.length) (ha' : a < F.length) (e0 : F[a] = 0) (hw : Wn req roots (n + 1) U[a]) : Fr req U roots n i (F.set a (n + 1)) := by
  refine ⟨by rw [List.length_set]; exact h.ln, fun j hj hj' e => ?_, fun j hj' => ?_, fun d j hj hj' hd hwn => ?_, fun j hj hj' hji e m hm => ?_⟩
  · by_cases hja : a = j
    · subst hja; rw [List.getElem_set_self]; exact hw
    · rw [List.getElem_set_ne hja] at e ⊢
      exact h.so j hj _ e
  · by_cases hja : a = j
    · subst hja; rw [List.getElem_set_self]; exact Nat.le_refl _
    · rw [List.getElem_set_ne hja]; exact h.bd j _
  · have h1 := h.lo d j hj (by rw [h.ln]; exact hj) hd hwn
    by_cases hja : a = j
    · subst hja; exact absurd e0 h1.1
    · rw [List.getElem_set_ne hja]; exact h1
  · have hja : a ≠ j := fun hja => by subst hja; rw [List.getElem_set_self] at e; omega
    rw [List.getElem_set_ne hja] at e
    obtain ⟨t, ht, ht', e1, e2⟩ := h.dn j hj (by rw [h.ln]; exact hj) hji e m hm
    refine ⟨t, ht, by rw [List.length_set]; exact ht', e1, ?_⟩
    have hta : a ≠ t := fun hta => by subst hta; exact e2 e0
    rw [List.getElem_set_ne hta]; exact e2
/-- A root, be it there before or not. -/
theorem Fr.root {req : Bm → List Bm} {U roots : List Bm} {F : List Nat} (h : Fr req U roots 0 0 F) {a : Nat} (ha : a < U.length) (hr : U[a] ∈ roots) : Fr req U roots 0 0 (F.set a 1) := by
  have ha' : a < F.length := by rw [h.ln]; exact ha
  by_cases e0 : F[a] = 0
  · exact h.set ha ha' e0 (.root hr)
  · have e1 : F[a] = 1 := by have := h.bd a ha'; omega
    have : F.set a 1 = F := by rw [← e1]; exact List.set_getElem_self ha'
    rw [this]; exact h
/-- From the roots to the first breadth. -/
theorem Fr.first {req : Bm → List Bm} {U roots : List Bm} {F : List Nat} (h : Fr req U roots 0 0 F) (hr : ∀ j (_ : j < U.length) (h' : j < F.length), U[j] ∈ roots → F[j] ≠ 0) : Fr req U roots 1 0 F := by
  refine ⟨h.ln, h.so, fun j hj => Nat.le_succ_of_le (h.bd j hj), fun d j hj hj' hd hw => ?_, fun _ _ _ hh => absurd hh (Nat.not_lt_zero _)⟩
  have hb := h.bd j hj'
  have hp := hw.pos
  have : d = 1 := by omega
  subst this
  cases hw with
  | root hm => exact ⟨hr j hj hj' hm, hb⟩
  | step hq _ => exact absurd hq.pos (by omega)
/-- One more of those of a breadth is done. -/
theorem Fr.next {req : Bm → List Bm} {U roots : List Bm} {n i : Nat} {F : List Nat} (h : Fr req U roots n i F) (hd : ∀ (hi : i < U.length) (hi' : i < F.length), F[i] = n → ∀ m, m ∈ req U[i] → ∃ a, ∃ h : a < U.length, ∃ h' : a < F.length, U[a] = m ∧ F[a] ≠ 0) : Fr req U roots n (i + 1) F :=
  ⟨h.ln, h.so, h.bd, h.lo, fun j hj hj' hji e m hm => by
    rcases Nat.lt_or_ge j i with h1 | h1
    · exact h.dn j hj hj' h1 e m hm
    · have : j = i := by omega
      subst this
      exact hd hj hj' e m hm⟩
/-- The next breadth. -/
theorem Fr.turn {req : Bm → List Bm} {U roots : List Bm} {n : Nat} {F : List Nat} (h : Fr req U roots n U.length F) (hn : 1 ≤ n) (hN : U.Nodup) (hU : ∀ m, Rch req roots m → m ∈ U) : Fr req U roots (n + 1) 0 F := by
  refine ⟨h.ln, h.so, fun j hj => Nat.le_succ_of_le (h.bd j hj), fun d j hj hj' hd hw => ?_, fun _ _ _ hh => absurd hh (Nat.not_lt_zero _)⟩
  rcases Nat.lt_or_ge n d with h1 | h1
  · have : d = n + 1 := by omega
    subst this
    generalize hm : U[j] = m at hw
    cases hw with
    | root hr => omega
    | @step _ p _ hp hr =>
      obtain ⟨k, hk, rfl⟩ := List.getElem_of_mem (hU p hp.rch)
      have hk' : k < F.length := by rw [h.ln]; exact hk
      obtain ⟨q1, q2⟩ := h.lo n k hk hk' (Nat.le_refl _) hp
      rcases Nat.lt_or_ge F[k] n with h2 | h2
      · have := h.lo (F[k] + 1) j hj hj' h2 (by rw [hm]; exact .step (h.so k hk hk' q1) hr)
        exact ⟨this.1, by omega⟩
      · obtain ⟨a, ha, ha', e1, e2⟩ := h.dn k hk hk' hk (by omega) m hr
        have hp2 := List.pairwise_iff_getElem.1 hN
        have : a = j := by
          rcases Nat.lt_trichotomy a j with h1 | h1 | h1
          · exact absurd (e1.trans hm.symm) (hp2 a j ha hj h1)
          · exact h1
          · exact absurd (hm.trans e1.symm) (hp2 j a hj ha h1)
        subst this
        exact ⟨e2, h.bd a ha'⟩
  · exact h.lo d j hj hj' h1 hw
/-- At the end. -/
theorem Fr.zero {req : Bm → List Bm} {U roots : List Bm} {n i : Nat} {F : List Nat} (h : Fr req U roots n i F) (hn : U.length ≤ n) (hU : ∀ m, Rch req roots m → m ∈ U) {j : Nat} (hj : j < U.length) (hj' : j < F.length) : F[j] = 0 ↔ ¬ Rch req roots U[j] := by
  constructor
  · intro e hR
    obtain ⟨k, hk⟩ := rch_wn hR
    obtain ⟨d, hd⟩ := wn_dst k hk
    exact (h.lo d j hj hj' (Nat.le_trans (hd.le hU) hn) hd.1).1 e
  · intro hR
    by_cases e : F[j] = 0
    · exact e
    · exact absurd (h.so j hj hj' e).rch hR
theorem Fr.dst {req : Bm → List Bm} {U roots : List Bm} {n i : Nat} {F : List Nat} (h : Fr req U roots n i F) (hn : U.length ≤ n) (hU : ∀ m, Rch req roots m → m ∈ U) {j : Nat} (hj : j < U.length) (hj' : j < F.length) (e : F[j] ≠ 0) : Dst req roots U[j] F[j] := by
  have hw := h.so j hj hj' e
  obtain ⟨d, hd⟩ := wn_dst _ hw
  have := (h.lo d j hj hj' (Nat.le_trans (hd.le hU) hn) hd.1).2
  have h2 := hd.2 _ hw
  rw [show F[j] = d by omega]
  exact hd
end Ve
end Go.Proofs.YtanponneancajaaGreatDoor
