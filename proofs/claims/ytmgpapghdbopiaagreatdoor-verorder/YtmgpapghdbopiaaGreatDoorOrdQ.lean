/-
  Versions' parts that a call has gathered: the row that it owns; the row as a sort reads it.
-/
import Derived.Test.YtmgpapghdbopiaaGreatDoorOrdO
import Derived.Test.YtmgpapghdbopiaaGreatDoorOrdM
namespace Go.Proofs.YtmgpapghdbopiaaGreatDoor
open Go.RowKit
namespace Ve

def flat (D : List Rc) : List Value := D.flatMap rcells
theorem flat_len (D : List Rc) : (flat D).length = D.length * 4 := by
  induction D with
  | nil => rfl
  | cons r R ih =>
    have : flat (r :: R) = rcells r ++ flat R := rfl
    rw [this, List.length_append, ih]
    show 4 + R.length * 4 = (R.length + 1) * 4
    omega
theorem flat_app (D E : List Rc) : flat (D ++ E) = flat D ++ flat E := by simp [flat]
theorem flat_get : ∀ (D : List Rc) (j c : Nat) (hj : j < D.length) (_ : c < 4), (flat D)[j * 4 + c]? = (rcells D[j])[c]?
  | [], _, _, hj, _ => absurd hj (Nat.not_lt_zero _)
  | r :: R, 0, c, _, hc => by
    have : flat (r :: R) = rcells r ++ flat R := rfl
    rw [this, List.getElem?_append_left (by show 0 * 4 + c < 4; omega)]
    simp
  | r :: R, j + 1, c, hj, hc => by
    have : flat (r :: R) = rcells r ++ flat R := rfl
    have hl : (rcells r).length = 4 := rfl
    rw [this, List.getElem?_append_right (by rw [hl]; omega), hl, show (j + 1) * 4 + c - 4 = j * 4 + c by omega]
    exact flat_get R j c (by simpa using hj) hc
/-- What is gathered. -/
structure Fd (w0 W : World) (v : Value) (D : List Rc) : Prop where
  own : W.ownsRow w0.heap.size 30 4 v D.length (flat D)
  nl : D = [] → v = .slice none 0 0
  bl : Below w0.heap.size w0 W
  rc : ∀ r, r ∈ D → verErr r.1 = 0 ∧ r.1.length ≤ 80 ∧ StrsAt W r.2 (strs (preOf r.1))
theorem Fd.below {w0 W W' : World} {v : Value} {D : List Rc} (h : Fd w0 W v D) (hb : Below W.heap.size W W') : Fd w0 W' v D :=
  ⟨owns_below h.own hb, h.nl, h.bl.trans (hb.mono h.bl.size), fun r hr => ⟨(h.rc r hr).1, (h.rc r hr).2.1, (h.rc r hr).2.2.below hb⟩⟩
theorem own_cells {w : World} {base : Nat} {e : TypeId} {v : Value} {D : List Rc} (h : w.ownsRow base e 4 v D.length (flat D)) (hD : D ≠ []) : ∃ g cap, v = .slice (some ⟨g, 0, none⟩) D.length cap ∧ base ≤ g ∧ g < w.heap.size ∧ D.length ≤ cap ∧ cap ≤ maxLen ∧ (∀ o, w.frozen? ⟨g, o, none⟩ = false) ∧
    ∀ j c (hj : j < D.length) (_ : c < 4), w.cell? ⟨g, j * 4 + c, none⟩ = (rcells D[j])[c]? := by
  obtain ⟨_, ⟨_, hn0⟩ | ⟨g, cap, cur, hv, hg, hblk, hcap, hcm, hcs, hct⟩⟩ := h
  · exact absurd (List.length_eq_zero_iff.1 hn0) hD
  · refine ⟨g, cap, hv, hg, lt_of_blk hblk, hcap, hcm, fun o => by simp [World.frozen?, hblk], fun j c hj hc => ?_⟩
    have h1 := flat_get D j c hj hc
    rw [← hct, List.getElem?_take, if_pos (by omega)] at h1
    simp only [World.cell?, hblk]
    rw [← h1]; simp
/-- No pre lies in the row's own block. -/
theorem own_apart {w : World} {base : Nat} {e : TypeId} {v : Value} {D : List Rc} (h : w.ownsRow base e 4 v D.length (flat D)) (hnl : D = [] → v = .slice none 0 0) {p : Value} {X : List ByteArray} (hs : StrsAt w p X) : ∀ b o s n c, p = .slice (some ⟨b, o, s⟩) n c → v.ownBlock ≠ some b := by
  intro b o s n c hp hv
  by_cases hD : D = []
  · rw [hnl hD] at hv; cases hv
  · obtain ⟨g, cap, hvv, _, _, _, _, _, hc⟩ := own_cells h hD
    rw [hvv] at hv
    have hgb : g = b := by simpa [Value.ownBlock] using hv
    rcases hs with ⟨_, h0⟩ | ⟨hX, b', h1, _, h3⟩
    · rw [h0] at hp; cases hp
    · rw [h1] at hp
      have hbb : b' = b := by injection hp with hp _ _; injection hp with hp; injection hp with hp _ _
      have h4 := h3 0 (List.length_pos_iff.2 hX)
      have h5 := hc 0 0 (List.length_pos_iff.2 hD) (by omega)
      rw [hbb, ← hgb] at h4
      rw [show 0 * 4 + 0 = 0 + 0 from rfl, h4] at h5
      simp [rcells] at h5
theorem Fd.rw {w0 W : World} {v : Value} {D : List Rc} (h : Fd w0 W v D) (hD : D ≠ []) : ∃ g cap, v = .slice (some ⟨g, 0, none⟩) D.length cap ∧ Rw w0 W g D := by
  obtain ⟨g, cap, rfl, h1, h2, _, _, h5, h6⟩ := own_cells h.own hD
  refine ⟨g, cap, rfl, h.bl, h1, h2, h5, fun r hr => ⟨(h.rc r hr).1, (h.rc r hr).2.1, (h.rc r hr).2.2, fun b o s n c e => ?_⟩, fun j hj => h6 j 0 hj (by omega), fun j hj => h6 j 1 hj (by omega), fun j hj => h6 j 2 hj (by omega), fun j hj => h6 j 3 hj (by omega)⟩
  have := own_apart h.own h.nl (h.rc r hr).2.2 b o s n c e
  intro e2
  exact this (by simp [Value.ownBlock, e2])
theorem strs_grown {w w' : World} {row : Option Nat} {p : Value} {X : List ByteArray} (h : StrsAt w p X) (hg : w.grownBy w' row) (hne : ∀ b o s n c, p = .slice (some ⟨b, o, s⟩) n c → row ≠ some b) : StrsAt w' p X := by
  rcases h with h | ⟨hX, b, h1, h2, h3⟩
  · exact Or.inl h
  · refine Or.inr ⟨hX, b, h1, Nat.lt_of_lt_of_le h2 hg.size, fun j hj => ?_⟩
    have := hg.block b h2 (fun e => hne b 0 none _ _ h1 e.symm)
    rw [World.cell?_of_block (a := ⟨b, 0 + j, none⟩) this]
    exact h3 j hj
/-- One more record is gathered. -/
theorem Fd.more {w0 W W3 : World} {v v' : Value} {D : List Rc} {r : Rc} {o : Obj} (h : Fd w0 W v D) (hr : verErr r.1 = 0 ∧ r.1.length ≤ 80 ∧ StrsAt W r.2 (strs (preOf r.1)))
    (hown : W3.ownsRow w0.heap.size 30 4 v' (D.length + 1) (flat D ++ rcells r)) (hg : (W.alloc o).grownBy W3 v.ownBlock) : Fd w0 W3 v' (D ++ [r]) := by
  have ha := (Below.refl W.heap.size W).alloc (Nat.le_refl _) o
  have h' := h.below ha
  have hr' : StrsAt (W.alloc o) r.2 (strs (preOf r.1)) := hr.2.2.below ha
  have e1 : flat (D ++ [r]) = flat D ++ rcells r := by rw [flat_app]; simp [flat]
  refine ⟨?_, fun e => by simp at e, ?_, fun q hq => ?_⟩
  · rw [e1, List.length_append]; exact hown
  · exact h'.bl.grown hg h'.bl.size (fun k hk => (h'.own.lt k hk).1)
  · rcases List.mem_append.1 hq with hq | hq
    · have hq' := h'.rc q hq
      exact ⟨hq'.1, hq'.2.1, strs_grown hq'.2.2 hg (own_apart h'.own h'.nl hq'.2.2)⟩
    · rw [List.mem_singleton.1 hq]
      exact ⟨hr.1, hr.2.1, strs_grown hr' hg (own_apart h'.own h'.nl hr')⟩
end Ve
end Go.Proofs.YtmgpapghdbopiaaGreatDoor
