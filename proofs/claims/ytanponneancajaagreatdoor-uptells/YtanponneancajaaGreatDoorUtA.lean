/-
  What the document's answer says is the latest of a path (LatestOf), in an index that is right: what index.Latest answers.
-/
import Derived.Test.YtanponneancajaaGreatDoorLkA
import Derived.Test.YtanponneancajaaGreatDoorUpD
import Derived.Test.YtanponneancajaaGreatDoorUpE
import Derived.Test.YtanponneancajaaGreatDoorOrdN
import Derived.Test.YtanponneancajaaGreatDoorVerOA
namespace Go.Proofs.YtanponneancajaaGreatDoor
open Go.RowKit Go.Maps
namespace Ve

/-- The latest, by how versions are liked. -/
theorem lik_lat {Q : List Raw} (g : Good Q) {t : ByteArray} {X Y : List ByteArray} (hK : Kept (verL (ofP t Q)) (verL (ofP t Q)).length X) (hY : KeptT Q t Y) : (likN Q t X X.length).1 = latV Q t := by
  rw [← latV_of hY]
  by_cases h0 : X.length = 0
  · have hX : X = [] := List.eq_nil_of_length_eq_zero h0
    subst hX
    have hne : ofP t Q = [] := by
      rw [List.eq_nil_iff_forall_not_mem]
      intro r hr
      have := kept_in g ofP_sub hK hr
      cases this
    have hb : bestR (ofP t Q) = [] := by rw [hne]; rfl
    cases hYc : Y with
    | nil => rfl
    | cons y s =>
      obtain ⟨r, hr, _⟩ := kept_has g (R := bestR (ofP t Q)) (fun r hr => ofP_sub r (bestR_sub hr)) hY (x := y) (by rw [hYc]; simp)
      rw [hb] at hr; cases hr
  · obtain ⟨j, hj, _, hs, h1, h2⟩ := (likN_is (Q := Q) (t := t) (X := X) X.length (Nat.le_refl _)).p (by omega)
    rw [hs]
    obtain ⟨r, hr, er⟩ := kept_has g ofP_sub hK (List.getElem_mem hj)
    have hrq := g.ofP_mem.1 hr
    have hrank : ∀ s, s ∈ ofP t Q → rkV Q t s.1.2 = rnk s := fun s hs => by
      have h := g.ofP_mem.1 hs
      rw [← h.2]; exact rkV_at g h.1
    have hbest : r ∈ bestR (ofP t Q) := (rnk_best g ofP_sub hr).2 fun s hs => by
      have hin := kept_in g ofP_sub hK hs
      obtain ⟨k, hk, e⟩ := List.getElem_of_mem hin
      have := h1 k hk hk
      rw [e, hrank s hs, ← er, hrank r hr] at this
      exact this
    have hne : bestR (ofP t Q) ≠ [] := List.ne_nil_of_mem hbest
    have hsub : ∀ r, r ∈ bestR (ofP t Q) → r ∈ Q := fun r hr => ofP_sub r (bestR_sub hr)
    obtain ⟨⟨q, hq, eq⟩, hmax⟩ := kept_last g hsub hne hY
    have hqv := g.ver q (hsub q hq)
    have hrv := g.ver r hrq.1
    -- q is no greater than r, and r no greater than q
    have hqX := kept_in g ofP_sub hK (bestR_sub hq)
    obtain ⟨k, hk, ek⟩ := List.getElem_of_mem hqX
    have hqr : rkV Q t X[j] ≤ rkV Q t X[k] := by
      rw [ek, ← er, hrank r hr, hrank q (bestR_sub hq)]
      exact (rnk_best g ofP_sub (bestR_sub hq)).1 hq r hr
    have hkj : ¬ j < k := fun h => by have := h2 k hk hk h; omega
    have ho1 : ¬ ordV X[j].data.toList X[k].data.toList < 0 := fun h => by
      rcases Nat.lt_or_ge k j with h3 | h3
      · have hr := hK.1
        unfold rises at hr
        have hbl : (bl X).length = X.length := bl_len X
        have h4 := List.pairwise_iff_getElem.1 hr k j (by omega) (by omega) h3
        have g1 : (bl X)[k]'(by omega) = X[k].data.toList := by simp [bl]
        have g2 : (bl X)[j]'(by omega) = X[j].data.toList := by simp [bl]
        rw [g1, g2] at h4
        exact ordV_irr h h4
      · have : k = j := by omega
        subst this; exact ordV_irr h h
    have ho2 := hmax r hbest
    rw [← eq, ← ek] at ho2
    rw [er] at ho2
    have h0' : ordV X[j].data.toList X[k].data.toList = 0 := by
      rw [ordV_swap X[j].data.toList X[k].data.toList] at ho2
      omega
    have hvj : verErr X[j].data.toList = 0 := by rw [← er]; exact hrv
    have hvk : verErr X[k].data.toList = 0 := by rw [ek]; exact hqv
    have := str_ext ((ordV_zero hvj hvk).1 h0')
    rw [this, ek, eq]
end Ve
end Go.Proofs.YtanponneancajaaGreatDoor
