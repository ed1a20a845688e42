/-
  How far the document's answer says that one is off (FarOf).
-/
import Derived.Test.YtanponneancajaaGreatDoorRmB
namespace Go.Proofs.YtanponneancajaaGreatDoor
open Go.RowKit Go.Maps
namespace Ve

theorem rch_uni {w : World} {v : Value} {Q : List Raw} {L : List Ent} {roots : List Bm} (I : Ixs w v Q L) (h : (chkG Q L roots).1 = 0) {m : Bm} (hm : Rch (reqQ Q L) roots m) : m ∈ univ L := by
  have r := rgt_of I h
  induction hm with
  | root hr => exact r.r _ hr
  | step _ hr ih => exact chk_reqs0 I r.c _ ih _ hr
theorem reachOf_bad (Q : List Raw) (L : List Ent) (roots : List Bm) (v rv : Value) (w : World) (hn : L.length ≤ 1000) (hrn : roots.length ≤ 1000000) (sh : ∀ e, e ∈ L → ShE e) (I : Ixs w v Q L) (hr : MsAt w rv roots) (h0 : (chkG Q L roots).1 ≠ 0) :
    Calls Tryz.prog 127 #[v, rv] w fun e w' => e = .returned (.tuple #[.slice none 0 0, faultV (chkG Q L roots)]) ∧ Below w.heap.size w w' := by
  by_cases hc : (chk Q L).1 = 0
  · rw [chkG_ok hc] at h0 ⊢
    exact reachOf_rt Q L roots v rv w hn hrn sh I hr hc h0
  · rw [chkG_bad hc]
    exact reachOf_ix Q L roots v rv w hn sh I hr hc
/-- Numbers in memory. -/
def iwc (F : List Nat) : Array Value := (F.map fun n : Nat => Value.int .i64 (n : Int)).toArray
theorem iwc_set (F : List Nat) (a n : Nat) : (iwc F).setIfInBounds a (.int .i64 (n : Int)) = iwc (F.set a n) := by
  unfold iwc
  rw [List.setIfInBounds_toArray, List.map_set]
theorem iwc_at {W : World} {g : Nat} {F : List Nat} (h : W.heap[g]? = some (.cells (iwc F) 3 (0, 0))) {a : Nat} (ha : a < F.length) : W.cell? ⟨g, a, none⟩ = some (.int .i64 (F[a] : Int)) := by
  rw [Lib.cell_of_heap h]
  simp [iwc, ha]
theorem made_ints (n : Nat) : madeCells (Value.int .i64 0).cells n = iwc (List.replicate n 0) := by
  unfold madeCells iwc
  simp [Value.cells]
  apply Array.ext
  · simp
  · intro i h1 h2
    simp [Nat.mod_one]
theorem make_ints (n : Nat) (w : World) (hn : n ≤ 1000000) : (Instr.makeSlice 78 (.int .i64 (n : Int)) (.int .i64 (n : Int))).run Tryz.prog w = .ok (.slice (some ⟨w.heap.size, 0, none⟩) n n) (w.alloc (.cells (iwc (List.replicate n 0)) 3)) := by
  obtain ⟨i0, hi, hz0, hz1, hz2⟩ := info_parts infoInt
  have h := run_makeSlice (P := Tryz.prog) w 78 3 i0 (.int .i64 0) Tryz.underlying78 hi hz0 .i64 .i64 (n : Int) (n : Int) (by omega) (by omega) (by rw [hz1]; simp; omega) (by rw [hz2]; omega) (by omega)
  rw [hz1] at h
  simp only [Int.toNat_natCast, Nat.mul_one] at h
  rw [made_ints] at h
  exact h
/-- How far, in memory. -/
structure Fas (w W : World) (g : Nat) (Q : List Raw) (L : List Ent) (roots : List Bm) (n i : Nat) (F : List Nat) : Prop where
  gg : w.heap.size = g
  bl : Below w.heap.size w W
  hp : W.heap[g]? = some (.cells (iwc F) 3 (0, 0))
  ok : Fr (reqQ Q L) (univ L) roots n i F
theorem Fas.below {w W W' : World} {g : Nat} {Q : List Raw} {L : List Ent} {roots : List Bm} {n i : Nat} {F : List Nat} (h : Fas w W g Q L roots n i F) (hb : Below W.heap.size W W') : Fas w W' g Q L roots n i F :=
  ⟨h.gg, h.bl.trans (hb.mono h.bl.size), (hb.block _ (lt_of_blk h.hp)).trans h.hp, h.ok⟩
theorem Fas.fr {w W : World} {g : Nat} {Q : List Raw} {L : List Ent} {roots : List Bm} {n i n' i' : Nat} {F : List Nat} (h : Fas w W g Q L roots n i F) (hf : Fr (reqQ Q L) (univ L) roots n' i' F) : Fas w W g Q L roots n' i' F := ⟨h.gg, h.bl, h.hp, hf⟩
theorem Fas.put {w W : World} {g : Nat} {Q : List Raw} {L : List Ent} {roots : List Bm} {n i k : Nat} {F : List Nat} (h : Fas w W g Q L roots n i F) {a : Nat} {x : Value} (hx : x = .int .i64 (k : Int)) (hf : Fr (reqQ Q L) (univ L) roots n i (F.set a k)) : Fas w (W.setCell ⟨g, a, none⟩ x) g Q L roots n i (F.set a k) :=
  ⟨h.gg, h.bl.setCell (by rw [h.gg]; exact Nat.le_refl _) _, by rw [set_block h.hp, hx, iwc_set], hf⟩
/-- Was it come to? -/
def AtF (U : List Bm) (F : List Nat) (m : Bm) : Prop := ∃ a, ∃ h : a < U.length, ∃ h' : a < F.length, U[a] = m ∧ F[a] ≠ 0
theorem AtF.set {U : List Bm} {F : List Nat} {m : Bm} (h : AtF U F m) (a n : Nat) : AtF U (F.set a (n + 1)) m := by
  obtain ⟨k, hk, hk', e1, e2⟩ := h
  refine ⟨k, hk, by rw [List.length_set]; exact hk', e1, ?_⟩
  by_cases hka : a = k
  · subst hka; rw [List.getElem_set_self]; omega
  · rw [List.getElem_set_ne hka]; exact e2
theorem AtF.new {U : List Bm} {F : List Nat} {a : Nat} (n : Nat) (ha : a < U.length) (hl : F.length = U.length) : AtF U (F.set a (n + 1)) U[a] :=
  ⟨a, ha, by rw [List.length_set, hl]; exact ha, rfl, by rw [List.getElem_set_self]; omega⟩
theorem AtF.at {U : List Bm} {F : List Nat} (hN : U.Nodup) {j : Nat} (hj : j < U.length) (hj' : j < F.length) (h : AtF U F U[j]) : F[j] ≠ 0 := by
  obtain ⟨k, hk, hk', e1, e2⟩ := h
  have hp := List.pairwise_iff_getElem.1 hN
  have : k = j := by
    rcases Nat.lt_trichotomy k j with h1 | h1 | h1
    · exact absurd e1 (hp k j hk hj h1)
    · exact h1
    · exact absurd e1.symm (hp j k hj hk h1)
  subst this
  exact e2
/-- What FarOf answers. -/
def FarR (Q : List Raw) (L : List Ent) (roots : List Bm) (m : Bm) (d : Nat) (f : Value) : Prop :=
  (¬ Rch (reqQ Q L) roots m ∧ d = 0 ∧ f = .agg #[.int .i64 5, .int .i64 (-1)]) ∨ (Dst (reqQ Q L) roots m d ∧ f = .agg #[.int .i64 0, .int .i64 (-1)])
end Ve
end Go.Proofs.YtanponneancajaaGreatDoor
