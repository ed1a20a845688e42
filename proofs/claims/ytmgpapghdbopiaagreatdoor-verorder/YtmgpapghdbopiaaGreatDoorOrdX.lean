/-
  What VerOrder counts and compares (plain): each right one once; the greatest; who is less.
-/
import Derived.Test.YtmgpapghdbopiaaGreatDoorOrdW
import Derived.Test.YtmgpapghdbopiaaGreatDoorOrdE
import Derived.Test.YtmgpapghdbopiaaGreatDoorSameT
namespace Go.Proofs.YtmgpapghdbopiaaGreatDoor
namespace Ve

theorem rises_nodup {l : List (List UInt8)} (h : rises l) : l.Nodup := List.Pairwise.imp (fun {a b} h e => by subst e; exact ordV_irr h h) h
theorem count_one {X : List ByteArray} {t : List UInt8} (h : rises (bl X)) (hm : t ∈ bl X) : (bl X).count t = 1 := by
  have h1 := List.nodup_iff_count.1 (rises_nodup h) t
  have h2 := List.count_pos_iff.2 hm
  omega
theorem count_step (X : List ByteArray) (k : Nat) (hk : k < X.length) (t : List UInt8) : (bl (X.take (k + 1))).count t = (bl (X.take k)).count t + if X[k].data.toList = t then 1 else 0 := by
  rw [bl_take_snoc X k hk, List.count_append]
  congr 1
  by_cases h : X[k].data.toList = t
  · rw [if_pos h, h]; simp
  · rw [if_neg h]; simp [h]
theorem less_at {X : List ByteArray} (h : rises (bl X)) (hv : ∀ t, t ∈ bl X → verErr t = 0) (i k : Nat) (hi : i < X.length) (hk : k < X.length) : lessB X[i].data.toList X[k].data.toList = decide (i < k) := by
  have v1 := hv _ (bl_mem (List.getElem_mem hi))
  have v2 := hv _ (bl_mem (List.getElem_mem hk))
  unfold rises at h
  rw [List.pairwise_iff_getElem] at h
  unfold lessB
  rw [decide_eq_true v1, decide_eq_true v2]
  simp only [Bool.true_and]
  rw [decide_eq_decide]
  have get : ∀ j (hj : j < X.length), (bl X)[j]'(by rw [bl_len]; exact hj) = X[j].data.toList := fun j hj => bl_get hj
  constructor
  · intro hl
    rcases Nat.lt_trichotomy i k with e | e | e
    · exact e
    · exfalso
      subst e
      exact ordV_irr hl hl
    · exfalso
      have := h k i (by rw [bl_len]; exact hk) (by rw [bl_len]; exact hi) e
      rw [get k hk, get i hi] at this
      exact ordV_irr hl this
  · intro e
    have := h i k (by rw [bl_len]; exact hi) (by rw [bl_len]; exact hk) e
    rw [get k hk, get i hi] at this
    exact this
/-- The greatest of right ones, or nothing. -/
def TopIs (G : List (List UInt8)) (t : List UInt8) : Prop := (G = [] ∧ t = []) ∨ (t ∈ G ∧ ∀ u, u ∈ G → ordV u t ≤ 0)
theorem top_next {G : List (List UInt8)} {t q : ByteArray} (h : TopIs G t.data.toList) (hG : ∀ u, u ∈ G → verErr u = 0) (hq : verErr q.data.toList = 0) : TopIs (G ++ [q.data.toList]) (maxB t q).data.toList := by
  rcases h with ⟨hG0, ht⟩ | ⟨ht, hmax⟩
  · have hv : verErr t.data.toList ≠ 0 := by rw [ht]; decide
    have : maxB t q = q := by unfold maxB; rw [if_neg hv, if_pos hq]
    rw [this, hG0]
    refine Or.inr ⟨by simp, fun u hu => ?_⟩
    have : u = q.data.toList := by simpa using hu
    rw [this, (ordV_zero hq hq).2 rfl]
    exact Int.le_refl _
  · have hv := hG _ ht
    unfold maxB
    rw [if_pos hv, if_pos hq]
    by_cases hl : ordV t.data.toList q.data.toList < 0
    · rw [if_pos hl]
      refine Or.inr ⟨by simp, fun u hu => ?_⟩
      rcases List.mem_append.1 hu with hu | hu
      · have h1 := hmax u hu
        rcases ordV_range u t.data.toList with e | e | e
        · exact Int.le_of_lt (ordV_trans (by omega) hl)
        · rw [(ordV_zero (hG u hu) hv).1 e]; exact Int.le_of_lt hl
        · omega
      · have : u = q.data.toList := by simpa using hu
        rw [this, (ordV_zero hq hq).2 rfl]
        exact Int.le_refl _
    · rw [if_neg hl]
      refine Or.inr ⟨by simp [ht], fun u hu => ?_⟩
      rcases List.mem_append.1 hu with hu | hu
      · exact hmax u hu
      · have : u = q.data.toList := by simpa using hu
        rw [this, ordV_swap t.data.toList q.data.toList]
        omega
theorem top_last {L X : List ByteArray} {t : ByteArray} (hK : Kept L L.length X) (hT : TopIs (goods L) t.data.toList) (hX : 0 < X.length) : X[X.length - 1]'(by omega) = t := by
  have hm : ∀ u, u ∈ bl X ↔ u ∈ goods L := fun u => by
    rw [hK.2 u, List.take_length]
    unfold goods
    rw [List.mem_filter, decide_eq_true_iff]
  have hlast : (X[X.length - 1]'(by omega)).data.toList ∈ goods L := (hm _).1 (bl_mem (List.getElem_mem _))
  rcases hT with ⟨h0, _⟩ | ⟨ht, hmax⟩
  · rw [h0] at hlast; cases hlast
  · have h1 := hmax _ hlast
    obtain ⟨i, hi, e⟩ := List.mem_iff_getElem.1 ((hm _).2 ht)
    rw [bl_len] at hi
    rw [bl_get hi] at e
    have hr := hK.1
    unfold rises at hr
    rw [List.pairwise_iff_getElem] at hr
    by_cases hil : i = X.length - 1
    · subst hil; exact str_ext e
    · exfalso
      have := hr i (X.length - 1) (by rw [bl_len]; omega) (by rw [bl_len]; omega) (by omega)
      rw [bl_get hi, bl_get (by omega), e, ordV_swap (X[X.length - 1]'(by omega)).data.toList t.data.toList] at this
      omega
theorem top_none {L X : List ByteArray} {t : ByteArray} (hK : Kept L L.length X) (hT : TopIs (goods L) t.data.toList) (hX : X.length = 0) : t = ⟨#[]⟩ := by
  have h0 : goods L = [] := by
    apply List.eq_nil_iff_forall_not_mem.2
    intro u hu
    have : u ∈ bl X := by
      rw [hK.2 u, List.take_length]
      unfold goods at hu
      rw [List.mem_filter, decide_eq_true_iff] at hu
      exact hu
    have h9 := bl_len X
    rw [hX] at h9
    rw [List.length_eq_zero_iff.1 h9] at this
    cases this
  rcases hT with ⟨_, h⟩ | ⟨h, _⟩
  · exact str_ext h
  · rw [h0] at h; cases h
theorem goods_right (L : List ByteArray) : ∀ u, u ∈ goods L → verErr u = 0 := fun u hu => by
  unfold goods at hu
  rw [List.mem_filter, decide_eq_true_iff] at hu
  exact hu.2
theorem kept_same {L X Y : List ByteArray} (h1 : Kept L L.length X) (h2 : Kept L L.length Y) : X = Y :=
  bl_inj (rises_same _ _ h1.1 h2.1 (fun t => (h1.2 t).trans (h2.2 t).symm))
end Ve
end Go.Proofs.YtmgpapghdbopiaaGreatDoor
