/-
  Both sides of chapter 7 as one function each.
-/
import Derived.Test.YtanponneancajaaGreatDoorUtF
namespace Go.Proofs.YtanponneancajaaGreatDoor
open Go.RowKit Go.Maps
namespace Ve

open Classical in
/-- What is refused of one module more. -/
noncomputable def oF (Q : List Raw) (L : List Ent) (roots : List Bm) (x : Bm) : Nat × Option Nat := if (chkG Q L roots).1 = 0 then (if x ∈ univ L then (0, none) else (5, none)) else chkG Q L roots
open Classical in
/-- What is built with one module more. -/
noncomputable def oX (Q : List Raw) (L : List Ent) (roots : List Bm) (x : Bm) : List Bm := if (chkG Q L roots).1 = 0 ∧ x ∈ univ L then bX Q L (roots ++ [x]) else []
theorem oF_le (Q : List Raw) (L : List Ent) (roots : List Bm) (x : Bm) : (oF Q L roots x).1 ≤ 10 := by
  unfold oF
  split
  · split <;> simp
  · exact chkG_le _ _ _
theorem oX_len {Q : List Raw} {L : List Ent} {roots : List Bm} {x : Bm} : (oX Q L roots x).length ≤ L.length := by
  unfold oX
  split
  · exact bX_len
  · simp
theorem oF_same {Q Q' : List Raw} {L : List Ent} (h : Q.map (fun r => r.1) = Q'.map (fun r => r.1)) (roots : List Bm) (x : Bm) : oF Q L roots x = oF Q' L roots x := by unfold oF; rw [chkG_same h]
theorem oX_same {Q Q' : List Raw} {L : List Ent} (h : Q.map (fun r => r.1) = Q'.map (fun r => r.1)) (roots : List Bm) (x : Bm) : oX Q L roots x = oX Q' L roots x := by unfold oX; rw [chkG_same h, bX_same h]
/-- up.One. -/
theorem one_all (Q : List Raw) (L : List Ent) (roots : List Bm) (x : Bm) (v rv : Value) (A : Nat → Addr) (m : Int) (w : World) (hn : L.length ≤ 1000) (hrn : roots.length ≤ 400) (sh : ∀ e, e ∈ L → ShE e) (S : Te w A m) (I : Ixs w v Q L) (hr : MsAt w rv roots) (her : Em rv roots) :
    Calls Tryz.prog 36 #[v, rv, .agg #[.string x.1, .string x.2]] w fun e w' => ∃ a c y, e = .returned (.tuple #[.slice a (oX Q L roots x).length c, y]) ∧ MsAt w' (.slice a (oX Q L roots x).length c) (oX Q L roots x) ∧ ErrAt w' A y (oF Q L roots x).1 (oF Q L roots x).2 ∧ Below w.heap.size w w' := by
  by_cases h : (chkG Q L roots).1 = 0
  · by_cases hx : x ∈ univ L
    · refine (one_good Q L roots x v rv A m w hn hrn sh S I hr her h hx).mono ?_
      rintro e w' ⟨a, c, rfl, hm⟩
      unfold oX oF
      rw [if_pos ⟨h, hx⟩, if_pos h, if_pos hx]
      exact ⟨a, c, _, rfl, hm.ms, rfl, hm.1⟩
    · refine (one_not Q L roots x v rv A m w hn hrn sh S I hr h hx).mono ?_
      rintro e w' ⟨rfl, hb⟩
      unfold oX oF
      rw [if_neg (fun e => hx e.2), if_pos h, if_neg hx]
      exact ⟨_, _, _, rfl, ms_nil0 _, rfl, hb⟩
  · refine (one_bad Q L roots x v rv A m w hn hrn sh S I hr h).mono ?_
    rintro e w' ⟨T, a, rfl, he, hb⟩
    unfold oX oF
    rw [if_neg (fun e => h e.1), if_neg h]
    exact ⟨_, _, _, rfl, ms_nil0 _, he, hb⟩
/-- OneOf. -/
theorem oneO_all (Q : List Raw) (L : List Ent) (roots : List Bm) (x : Bm) (v rv : Value) (w : World) (hn : L.length ≤ 1000) (hrn : roots.length ≤ 400) (sh : ∀ e, e ∈ L → ShE e) (I : Ixs w v Q L) (hr : MsAt w rv roots) (her : Em rv roots) :
    Calls Tryz.prog 38 #[v, rv, .agg #[.string x.1, .string x.2]] w fun e w' => ∃ a c, e = .returned (.tuple #[.slice a (oX Q L roots x).length c, faultV (oF Q L roots x)]) ∧ MsAt w' (.slice a (oX Q L roots x).length c) (oX Q L roots x) ∧ Below w.heap.size w w' := by
  by_cases h : (chkG Q L roots).1 = 0
  · by_cases hx : x ∈ univ L
    · refine (oneO_good Q L roots x v rv w hn hrn sh I hr her h hx).mono ?_
      rintro e w' ⟨a, c, rfl, hm, hb⟩
      unfold oX oF
      rw [if_pos ⟨h, hx⟩, if_pos h, if_pos hx]
      exact ⟨a, c, rfl, hm, hb⟩
    · refine (oneO_not Q L roots x v rv w hn (by omega) sh I hr h hx).mono ?_
      rintro e w' ⟨rfl, hb⟩
      unfold oX oF
      rw [if_neg (fun e => hx e.2), if_pos h, if_neg hx]
      exact ⟨_, _, rfl, ms_nil0 _, hb⟩
  · refine (oneO_bad Q L roots x v rv w hn (by omega) sh I hr h).mono ?_
    rintro e w' ⟨rfl, hb⟩
    unfold oX oF
    rw [if_neg (fun e => h e.1), if_neg h]
    exact ⟨_, _, rfl, ms_nil0 _, hb⟩
theorem fix_len {Q : List Raw} {L : List Ent} {E0 E : List Bm} (h : Fix Q L E0 E) : E.length ≤ L.length := by
  rw [← h.f]; exact bX_len
theorem allE_len {Q : List Raw} {L : List Ent} {roots : List Bm} : (allE Q L roots).length ≤ L.length := by
  unfold allE
  split
  · rename_i h; exact fix_len h.2.choose_spec
  · simp
/-- up.All; of two indexes of one content. -/
theorem all_all (Q Q0 : List Raw) (L : List Ent) (roots : List Bm) (v rv : Value) (A : Nat → Addr) (m : Int) (w : World) (hk : Q.map keyR = Q0.map keyR) (hn : L.length ≤ 400) (hrn : roots.length ≤ 1000000) (hz : ∀ r, r ∈ Q → r.1.1.size ≤ 80 ∧ r.1.2.size ≤ 80) (sh : ∀ e, e ∈ L → ShE e) (S : Te w A m) (htab : Lib.TabIs Tryz.prog w powName .u64 Lib.pow10Tab) (I : Ixs w v Q L) (hr : MsAt w rv roots) :
    Calls Tryz.prog 32 #[v, rv] w fun e w' => ∃ a c y, e = .returned (.tuple #[.slice a (allE Q0 L roots).length c, y]) ∧ MsAt w' (.slice a (allE Q0 L roots).length c) (allE Q0 L roots) ∧ ErrAt w' A y (rF Q0 L roots).1 (rF Q0 L roots).2 ∧ Below w.heap.size w w' := by
  have hG : chkG Q L roots = chkG Q0 L roots := chkG_same (key_mod hk) roots
  by_cases h : (chkG Q L roots).1 = 0
  · refine (all_good Q L roots v rv A m w hn hrn hz sh S htab I hr h).mono ?_
    rintro e w' ⟨a, c, E, rfl, hm, hA⟩
    have f := hA.fx.same hk
    rw [bX_same (key_mod hk)] at f
    have he := allE_of (by rw [← hG]; exact h) f
    subst he
    exact ⟨a, c, _, rfl, hm.ms, by rw [rF_good (by rw [← hG]; exact h)]; rfl, hm.1⟩
  · refine (all_bad Q L roots v rv A m w (by omega) hrn sh S I hr h).mono ?_
    rintro e w' ⟨T, a, rfl, he, hb⟩
    rw [hG] at h he
    rw [allE_bad h, rF_bad h]
    exact ⟨_, _, _, rfl, ms_nil0 _, he, hb⟩
/-- AllOf. -/
theorem allO_all (Q : List Raw) (L : List Ent) (roots : List Bm) (v rv : Value) (w : World) (hn : L.length ≤ 400) (hrn : roots.length ≤ 1000000) (hz : ∀ r, r ∈ Q → r.1.1.size ≤ 80 ∧ r.1.2.size ≤ 80) (sh : ∀ e, e ∈ L → ShE e) (I : Ixs w v Q L) (hr : MsAt w rv roots) :
    Calls Tryz.prog 40 #[v, rv] w fun e w' => ∃ a c, e = .returned (.tuple #[.slice a (allE Q L roots).length c, faultV (rF Q L roots)]) ∧ MsAt w' (.slice a (allE Q L roots).length c) (allE Q L roots) ∧ Below w.heap.size w w' := by
  by_cases h : (chkG Q L roots).1 = 0
  · refine (allO_good Q L roots v rv w hn hrn hz sh I hr h).mono ?_
    rintro e w' ⟨a, c, E, rfl, hm, f, hb⟩
    have he := allE_of h f
    subst he
    exact ⟨a, c, by rw [rF_good h]; rfl, hm, hb⟩
  · refine (allO_bad Q L roots v rv w (by omega) hrn sh I hr h).mono ?_
    rintro e w' ⟨rfl, hb⟩
    rw [allE_bad h, rF_bad h]
    exact ⟨_, _, rfl, ms_nil0 _, hb⟩
/-- What is refused of the news. -/
def nF (Q : List Raw) (L : List Ent) (sel : List Bm) : Nat × Option Nat := if (chk Q L).1 = 0 then (if risB2 sel then (0, none) else (8, none)) else chk Q L
/-- The news. -/
noncomputable def nX (Q : List Raw) (L : List Ent) (sel : List Bm) : List Bm := if (chk Q L).1 = 0 ∧ risB2 sel = true then newsL Q sel else []
theorem nF_le (Q : List Raw) (L : List Ent) (sel : List Bm) : (nF Q L sel).1 ≤ 10 := by
  unfold nF
  split
  · split <;> simp
  · exact chk_le _ _
theorem nX_len {Q : List Raw} {L : List Ent} {sel : List Bm} : (nX Q L sel).length ≤ sel.length := by
  unfold nX
  split
  · exact newsL_len Q sel
  · simp
theorem nF_same {Q Q' : List Raw} {L : List Ent} (h : Q.map keyR = Q'.map keyR) (sel : List Bm) : nF Q L sel = nF Q' L sel := by unfold nF; rw [chk_same (key_mod h)]
theorem nX_same {Q Q' : List Raw} {L : List Ent} (h : Q.map keyR = Q'.map keyR) (sel : List Bm) : nX Q L sel = nX Q' L sel := by unfold nX; rw [chk_same (key_mod h), newsL_same h]
/-- up.News. -/
theorem news_all (Q : List Raw) (L : List Ent) (sel : List Bm) (v sv : Value) (A : Nat → Addr) (m : Int) (w : World) (hn : L.length ≤ 1000) (hsn : sel.length ≤ 1000) (hz : ∀ r, r ∈ Q → r.1.1.size ≤ 80 ∧ r.1.2.size ≤ 80) (hsz : ∀ x, x ∈ sel → x.2.size < 999999) (sh : ∀ e, e ∈ L → ShE e) (S : Te w A m) (htab : Lib.TabIs Tryz.prog w powName .u64 Lib.pow10Tab) (I : Ixs w v Q L) (hs : MsAt w sv sel) :
    Calls Tryz.prog 34 #[v, sv] w fun e w' => ∃ a c y, e = .returned (.tuple #[.slice a (nX Q L sel).length c, y]) ∧ MsAt w' (.slice a (nX Q L sel).length c) (nX Q L sel) ∧ ErrAt w' A y (nF Q L sel).1 (nF Q L sel).2 ∧ Below w.heap.size w w' := by
  by_cases h : (chk Q L).1 = 0
  · cases hr : risB2 sel with
    | true =>
      refine (news_good Q L sel v sv A m w hn hsn hz hsz sh S htab I hs h hr).mono ?_
      rintro e w' ⟨u, rfl, ho, hb⟩
      have hms := own_ms ho
      obtain ⟨a, c, hu⟩ := own_slN ho
      subst hu
      unfold nX nF
      rw [if_pos ⟨h, hr⟩, if_pos h, if_pos hr]
      exact ⟨a, c, _, rfl, hms, rfl, hb⟩
    | false =>
      refine (news_ord Q L sel v sv A m w hn hsn sh S I hs h hr).mono ?_
      rintro e w' ⟨rfl, hb⟩
      unfold nX nF
      rw [if_neg (fun e => by rw [hr] at e; exact absurd e.2 (by decide)), if_pos h, if_neg (by rw [hr]; decide)]
      exact ⟨_, _, _, rfl, ms_nil0 _, rfl, hb⟩
  · refine (news_bad Q L sel v sv A m w hn sh S I hs h).mono ?_
    rintro e w' ⟨T, a, rfl, he, hb⟩
    unfold nX nF
    rw [if_neg (fun e => h e.1), if_neg h]
    exact ⟨_, _, _, rfl, ms_nil0 _, he, hb⟩
/-- NewsOf. -/
theorem newsO_all (Q : List Raw) (L : List Ent) (sel : List Bm) (v sv : Value) (w : World) (hn : L.length ≤ 1000) (hsn : sel.length ≤ 1000) (hz : ∀ r, r ∈ Q → r.1.1.size ≤ 80 ∧ r.1.2.size ≤ 80) (hsz : ∀ x, x ∈ sel → x.2.size < 999999) (sh : ∀ e, e ∈ L → ShE e) (I : Ixs w v Q L) (hs : MsAt w sv sel) :
    Calls Tryz.prog 41 #[v, sv] w fun e w' => ∃ a c, e = .returned (.tuple #[.slice a (nX Q L sel).length c, faultV (nF Q L sel)]) ∧ MsAt w' (.slice a (nX Q L sel).length c) (nX Q L sel) ∧ Below w.heap.size w w' := by
  by_cases h : (chk Q L).1 = 0
  · cases hr : risB2 sel with
    | true =>
      refine (newsO_good Q L sel v sv w hn hsn hz hsz sh I hs h hr).mono ?_
      rintro e w' ⟨a, c, rfl, hm, hb⟩
      unfold nX nF
      rw [if_pos ⟨h, hr⟩, if_pos h, if_pos hr]
      exact ⟨a, c, rfl, hm, hb⟩
    | false =>
      refine (newsO_ord Q L sel v sv w hn hsn sh I hs h hr).mono ?_
      rintro e w' ⟨rfl, hb⟩
      unfold nX nF
      rw [if_neg (fun e => by rw [hr] at e; exact absurd e.2 (by decide)), if_pos h, if_neg (by rw [hr]; decide)]
      exact ⟨_, _, rfl, ms_nil0 _, hb⟩
  · refine (newsO_bad Q L sel v sv w hn sh I hs h).mono ?_
    rintro e w' ⟨rfl, hb⟩
    unfold nX nF
    rw [if_neg (fun e => h e.1), if_neg h]
    exact ⟨_, _, rfl, ms_nil0 _, hb⟩
end Ve
end Go.Proofs.YtanponneancajaaGreatDoor
