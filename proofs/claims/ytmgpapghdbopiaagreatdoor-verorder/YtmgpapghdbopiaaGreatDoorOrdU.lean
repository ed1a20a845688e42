/-
  A sorted row without what comes twice (plain).
-/
import Derived.Test.YtmgpapghdbopiaaGreatDoorOrdQ
namespace Go.Proofs.YtmgpapghdbopiaaGreatDoor
namespace Ve

theorem srt_strict {D : List Rc} (hs : srt D) (hv : ∀ r, r ∈ D → verErr r.1 = 0) {i k : Nat} (hik : i ≤ k) (hk : k + 1 < D.length) (hne : ordV D[k + 1].1 (D[k]'(by omega)).1 ≠ 0) : ordV (D[i]'(by omega)).1 D[k + 1].1 < 0 := by
  unfold srt at hs
  rw [List.pairwise_iff_getElem] at hs
  have hi : i < D.length := by omega
  have hk' : k < D.length := by omega
  have v1 := hv D[i] (List.getElem_mem hi)
  have v2 := hv D[k + 1] (List.getElem_mem hk)
  have v3 := hv D[k] (List.getElem_mem hk')
  have h1 := hs i (k + 1) hi hk (by omega)
  have h2 := hs k (k + 1) hk' hk (by omega)
  rcases ordV_range D[i].1 D[k + 1].1 with e | e | e
  · omega
  · exfalso
    have e1 := (ordV_zero v1 v2).1 e
    rcases Nat.lt_or_ge i k with h | h
    · have h3 := hs i k hi hk' h
      rw [e1, ordV_swap D[k].1 D[k + 1].1] at h3
      have h4 : ordV D[k].1 D[k + 1].1 = 0 := by omega
      rw [ordV_swap D[k].1 D[k + 1].1] at hne
      omega
    · have : i = k := by omega
      subst this
      rw [ordV_swap D[i].1 D[i + 1].1, e] at hne
      exact hne rfl
  · omega
/-- What is kept of the first m. -/
structure Cp (D : List Rc) (m : Nat) (E : List Rc) : Prop where
  ri : rises (E.map (·.1))
  mem : ∀ t, t ∈ E.map (·.1) ↔ t ∈ (D.take m).map (·.1)
  len : E.length ≤ m
  sub : ∀ r, r ∈ E → r ∈ D
theorem take_snoc' (D : List Rc) (m : Nat) (hm : m < D.length) : (D.take (m + 1)).map (·.1) = (D.take m).map (·.1) ++ [D[m].1] := by
  rw [List.take_succ_eq_append_getElem hm, List.map_append]; rfl
theorem Cp.same {D E : List Rc} {m : Nat} (h : Cp D (m + 1) E) (hv : ∀ r, r ∈ D → verErr r.1 = 0) (hm : m + 1 < D.length) (he : ordV D[m + 1].1 (D[m]'(by omega)).1 = 0) : Cp D (m + 1 + 1) E := by
  have e1 := (ordV_zero (hv _ (List.getElem_mem hm)) (hv _ (List.getElem_mem (by omega)))).1 he
  refine ⟨h.ri, fun t => ?_, by have := h.len; omega, h.sub⟩
  rw [h.mem, take_snoc' D (m + 1) hm, List.mem_append, List.mem_singleton]
  constructor
  · exact Or.inl
  · rintro (a | a)
    · exact a
    · rw [a, e1, take_snoc' D m (by omega), List.mem_append]
      exact Or.inr (by simp)
theorem Cp.more {D E : List Rc} {m : Nat} (h : Cp D (m + 1) E) (hs : srt D) (hv : ∀ r, r ∈ D → verErr r.1 = 0) (hm : m + 1 < D.length) (he : ordV D[m + 1].1 (D[m]'(by omega)).1 ≠ 0) : Cp D (m + 1 + 1) (E ++ [D[m + 1]]) := by
  refine ⟨?_, fun t => ?_, by have := h.len; simp; omega, fun r hr => ?_⟩
  · unfold rises
    rw [List.map_append, List.pairwise_append]
    refine ⟨h.ri, List.pairwise_singleton _ _, fun a ha b hb => ?_⟩
    have hb' : b = D[m + 1].1 := by simpa using hb
    rw [hb']
    obtain ⟨r, hr, e⟩ := List.mem_map.1 ((h.mem a).1 ha)
    obtain ⟨i, hi, e2⟩ := List.mem_iff_getElem.1 hr
    rw [List.getElem_take] at e2
    simp at hi
    rw [← e, ← e2]
    exact srt_strict hs hv (by omega) hm he
  · rw [List.map_append, List.mem_append, h.mem, take_snoc' D (m + 1) hm, List.mem_append]
    simp
  · rcases List.mem_append.1 hr with hr | hr
    · exact h.sub r hr
    · rw [List.mem_singleton.1 hr]; exact List.getElem_mem hm
theorem Cp.start {D : List Rc} (hD : 0 < D.length) : Cp D 1 (D.take 1) := by
  match D, hD with
  | r :: R, _ => exact ⟨List.pairwise_singleton _ _, fun t => Iff.rfl, by simp, fun q hq => List.mem_of_mem_take hq⟩
theorem Cp.plain {D : List Rc} {m : Nat} (h : Cp D (m + 1) (D.take (m + 1))) (hs : srt D) (hv : ∀ r, r ∈ D → verErr r.1 = 0) (hm : m + 1 < D.length) (he : ordV D[m + 1].1 (D[m]'(by omega)).1 ≠ 0) : Cp D (m + 1 + 1) (D.take (m + 1 + 1)) := by
  have := h.more hs hv hm he
  rw [List.take_succ_eq_append_getElem hm]
  exact this
end Ve
end Go.Proofs.YtmgpapghdbopiaaGreatDoor
