/-
  Both sides of chapter 5 as one function each: what is reached, how many requirements, how far; what is refused.
-/
import Derived.Test.YtanponneancajaaGreatDoorGtD
namespace Go.Proofs.YtanponneancajaaGreatDoor
open Go.RowKit Go.Maps
namespace Ve

theorem rF_le (Q : List Raw) (L : List Ent) (roots : List Bm) : (rF Q L roots).1 ≤ 10 := by
  unfold rF
  split
  · simp
  · exact chkG_le _ _ _
theorem rX_sel {Q : List Raw} {L : List Ent} {roots : List Bm} {O : List Bool} (h : (chkG Q L roots).1 = 0) (hl : O.length = (univ L).length) (hO : ∀ i (hi : i < (univ L).length) (hi' : i < O.length), O[i] = true ↔ Rch (reqQ Q L) roots (univ L)[i]) : selO O (univ L) = rX Q L roots := by
  unfold rX
  rw [if_pos h]
  refine selO_filter O (univ L) _ hl fun i h1 h2 => ?_
  by_cases hr : Rch (reqQ Q L) roots (univ L)[i]
  · rw [(hO i h1 h2).2 hr]; simp [hr]
  · cases hc : O[i]
    · simp [hr]
    · exact absurd ((hO i h1 h2).1 hc) hr
open Classical in
/-- How far a module is off, and what is refused of it. -/
noncomputable def rW (Q : List Raw) (L : List Ent) (roots : List Bm) (m : Bm) : Nat × (Nat × Option Nat) := if (chkG Q L roots).1 = 0 then (if h : ∃ d, Dst (reqQ Q L) roots m d then (h.choose, (0, none)) else (0, (5, none))) else (0, chkG Q L roots)
theorem rW_same {Q Q' : List Raw} {L : List Ent} (h : Q.map (fun r => r.1) = Q'.map (fun r => r.1)) (roots : List Bm) (m : Bm) : rW Q L roots m = rW Q' L roots m := by unfold rW; rw [chkG_same h, reqQ_same h]
theorem rW_bad {Q : List Raw} {L : List Ent} {roots : List Bm} {m : Bm} (h : ¬ (chkG Q L roots).1 = 0) : rW Q L roots m = (0, chkG Q L roots) := if_neg h
theorem rW_some {Q : List Raw} {L : List Ent} {roots : List Bm} {m : Bm} {d : Nat} (h : (chkG Q L roots).1 = 0) (hd : Dst (reqQ Q L) roots m d) : rW Q L roots m = (d, (0, none)) := by
  unfold rW
  have he : ∃ d, Dst (reqQ Q L) roots m d := ⟨d, hd⟩
  rw [if_pos h, dif_pos he]
  rw [he.choose_spec.one hd]
theorem rW_none {Q : List Raw} {L : List Ent} {roots : List Bm} {m : Bm} (h : (chkG Q L roots).1 = 0) (hd : ¬ Rch (reqQ Q L) roots m) : rW Q L roots m = (0, (5, none)) := by
  unfold rW
  rw [if_pos h, dif_neg (fun ⟨d, hh⟩ => hd hh.1.rch)]
theorem rW_le (Q : List Raw) (L : List Ent) (roots : List Bm) (m : Bm) : (rW Q L roots m).2.1 ≤ 10 := by
  unfold rW
  split
  · split <;> simp
  · exact chkG_le _ _ _
theorem faultV0 : faultV (0, none) = .agg #[.int .i64 0, .int .i64 (-1)] := rfl
theorem faultV5 : faultV (5, none) = .agg #[.int .i64 5, .int .i64 (-1)] := rfl
theorem reach_all (Q : List Raw) (L : List Ent) (roots : List Bm) (v rv : Value) (A : Nat → Addr) (m : Int) (w : World) (hn : L.length ≤ 1000) (hrn : roots.length ≤ 1000000) (sh : ∀ e, e ∈ L → ShE e) (S : Te w A m) (I : Ixs w v Q L) (hr : MsAt w rv roots) :
    Calls Tryz.prog 73 #[v, rv] w fun e w' => ∃ a c x, e = .returned (.tuple #[.slice a (rX Q L roots).length c, x]) ∧ MsAt w' (.slice a (rX Q L roots).length c) (rX Q L roots) ∧ ErrAt w' A x (rF Q L roots).1 (rF Q L roots).2 ∧ Below w.heap.size w w' := by
  by_cases h : (chkG Q L roots).1 = 0
  · refine (reach_good Q L roots v rv A m w hn hrn sh S I hr h).mono ?_
    rintro e w' ⟨u, rfl, T, hT, hown, hb⟩
    rw [rX_go I h hT] at hown
    have hms := own_ms hown
    obtain ⟨a, c, hu⟩ := own_slN hown
    subst hu
    exact ⟨a, c, _, rfl, hms, by rw [rF_good h]; rfl, hb⟩
  · refine (reach_bad Q L roots v rv A m w hn hrn sh S I hr h).mono ?_
    rintro e w' ⟨T, a, rfl, he, hb⟩
    rw [rX_bad h, rF_bad h]
    exact ⟨_, _, _, rfl, ms_nil0 _, he, hb⟩
theorem reachOf_all (Q : List Raw) (L : List Ent) (roots : List Bm) (v rv : Value) (w : World) (hn : L.length ≤ 1000) (hrn : roots.length ≤ 1000000) (sh : ∀ e, e ∈ L → ShE e) (I : Ixs w v Q L) (hr : MsAt w rv roots) :
    Calls Tryz.prog 127 #[v, rv] w fun e w' => ∃ a c, e = .returned (.tuple #[.slice a (rX Q L roots).length c, faultV (rF Q L roots)]) ∧ MsAt w' (.slice a (rX Q L roots).length c) (rX Q L roots) ∧ Below w.heap.size w w' := by
  by_cases h : (chkG Q L roots).1 = 0
  · refine (reachOf_good Q L roots v rv w hn hrn sh I hr h).mono ?_
    rintro e w' ⟨u, O, rfl, hl, hO, hown, hb⟩
    rw [rX_sel h hl hO] at hown
    have hms := own_ms hown
    obtain ⟨a, c, hu⟩ := own_slN hown
    subst hu
    exact ⟨a, c, by rw [rF_good h]; rfl, hms, hb⟩
  · refine (reachOf_bad Q L roots v rv w hn hrn sh I hr h).mono ?_
    rintro e w' ⟨rfl, hb⟩
    rw [rX_bad h, rF_bad h]
    exact ⟨_, _, rfl, ms_nil0 _, hb⟩
end Ve
end Go.Proofs.YtanponneancajaaGreatDoor
