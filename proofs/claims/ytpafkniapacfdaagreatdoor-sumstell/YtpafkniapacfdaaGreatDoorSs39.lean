
import Derived.Test.YtpafkniapacfdaaGreatDoorSs37
import Derived.Test.YtpafkniapacfdaaGreatDoorSs38
import Derived.Test.YtpafkniapacfdaaGreatDoorSs33
namespace Go.Proofs.YtpafkniapacfdaaGreatDoor
open Go.RowKit
namespace Ve
set_option maxRecDepth 100000 in
set_option maxHeartbeats 2000000 in
theorem all_chk (Q : List Raw) (L : List Ent) (v u : Value) (A : Nat → Addr) (m : Int) (w : World) (hL : L.length ≤ 1000) (sh : ∀ e, e ∈ L → ShE e) (S : Te w A m) (I : Ixs w v Q L) (h0 : (chk Q L).1 ≠ 0) :
    Calls Tryz.prog 11 #[v, u] w fun e w' => ∃ y, e = .returned (.tuple #[.slice none 0 0, y]) ∧ ErrAt w' A y (chk Q L).1 (chk Q L).2 ∧ Below w.heap.size w w' := by
  have HIC := hid (icheck_any Q L v A m w (by omega) sh S I)
  obtain ⟨va, vc, hv1, -⟩ := id I.es
  subst hv1
  clear I S sh
  have HC := hid h0
  clear h0
  generalize chk Q L = r at *
  go_enter Tryz.func11, Tryz.ntmps11
  go_wp2_with fail
  refine HIC.out.mono ?_
  rintro e w1 ⟨x, rfl, hx, hb⟩
  obtain ⟨T', a', rfl⟩ := errAt_ifaceS hx HC.out
  have HX := hid hx
  have HB1 := hid hb
  clear hb hx
  go_wp2_with fail
  go_ret2
  exact ⟨_, rfl, HX.out, HB1.out⟩
set_option maxRecDepth 100000 in
set_option maxHeartbeats 2000000 in
theorem all_sel (Q : List Raw) (L : List Ent) (sel : List Bm) (v u : Value) (A : Nat → Addr) (m : Int) (w : World) (hL : L.length ≤ 1000) (hR : sel.length ≤ 1000) (sh : ∀ e, e ∈ L → ShE e) (S : Te w A m) (I : Ixs w v Q L) (hu : MsAt w u sel)
    (h0 : (chk Q L).1 = 0) (h1 : codeE (nonE Q sel) sel.length ≠ 0) :
    Calls Tryz.prog 11 #[v, u] w fun e w' => ∃ y, e = .returned (.tuple #[.slice none 0 0, y]) ∧ ErrAt w' A y (codeE (nonE Q sel) sel.length) (fstE (nonE Q sel) sel.length) ∧ Below w.heap.size w w' := by
  have HIC := hid (icheck_any Q L v A m w (by omega) sh S I)
  have HCM := hid (fun W (h : Below w.heap.size w W) => cmods_any Q sel v u A m W (by rw [I.ln]; omega) (by omega) (S.below h) (I.es.below h) (hu.below h))
  rw [h0] at HIC
  obtain ⟨va, vc, hv1, -⟩ := id I.es
  subst hv1
  obtain ⟨ua, uc, hu1, -⟩ := id hu
  subst hu1
  clear I hu S sh h0 hL
  have HC := hid h1
  clear h1
  generalize codeE (nonE Q sel) sel.length = c at *
  generalize fstE (nonE Q sel) sel.length = o at *
  go_enter Tryz.func11, Tryz.ntmps11
  go_wp2_with fail
  refine HIC.out.mono ?_
  rintro e w1 ⟨x, rfl, hx, hb⟩
  obtain rfl := errAt_nilS hx
  have HB1 := hid hb
  clear hb hx
  go_wp2_with fail
  refine (HCM.out _ HB1.out).mono ?_
  rintro e w2 ⟨x, rfl, hx, hb⟩
  obtain ⟨T', a', rfl⟩ := errAt_ifaceS hx HC.out
  have HX := hid hx
  have HB2 := hid (HB1.out.trans (hb.mono HB1.out.size))
  clear hb hx
  go_wp2_with fail
  go_ret2
  exact ⟨_, rfl, HX.out, HB2.out⟩
theorem chkG_fine {Q : List Raw} {L : List Ent} {sel : List Bm} (h : (chkG Q L sel).1 = 0) : (chkG Q L sel).2 = none := by
  by_cases h0 : (chk Q L).1 = 0
  · rw [chkG_ok h0] at h ⊢; exact codeG_fine h
  · rw [chkG_bad h0] at h; exact absurd h h0
theorem all_any (Q : List Raw) (L : List Ent) (sel : List Bm) (v u : Value) (A : Nat → Addr) (m : Int) (w : World) (hL : L.length ≤ 1000) (hR : sel.length ≤ 1000) (sh : ∀ e, e ∈ L → ShE e) (ok : ∀ e, e ∈ L → OkE e) (S : Te w A m) (I : Ixs w v Q L) (hu : MsAt w u sel) :
    Calls Tryz.prog 11 #[v, u] w fun e w' => ∃ x y, e = .returned (.tuple #[x, y]) ∧ w'.ownsRow w.heap.size 44 3 x (allX Q L sel).length (flatN .u32 (allX Q L sel)) ∧ ErrAt w' A y (chkG Q L sel).1 (chkG Q L sel).2 ∧ Below w.heap.size w w' := by
  by_cases h0 : (chk Q L).1 = 0
  · by_cases h1 : codeE (nonE Q sel) sel.length = 0
    · have h2 : (chkG Q L sel).1 = 0 := by rw [chkG_ok h0]; exact h1
      have hx : allX Q L sel = sumL Q L sel := by unfold allX; rw [if_pos h2]
      rw [hx, h2, chkG_fine h2]
      exact (all_good Q L sel v u A m w hL hR sh ok S I hu h0 h1).mono fun e w' ⟨x, e1, e2, e3⟩ => ⟨x, _, e1, e2, rfl, e3⟩
    · have hx : allX Q L sel = [] := by unfold allX; rw [if_neg (by rw [chkG_ok h0]; exact h1)]
      rw [hx, chkG_ok h0]
      exact (all_sel Q L sel v u A m w hL hR sh S I hu h0 h1).mono fun e w' ⟨y, e1, e2, e3⟩ => ⟨_, y, e1, World.ownsRow_nil _ _ _ _, e2, e3⟩
  · have hx : allX Q L sel = [] := by unfold allX; rw [if_neg (by rw [chkG_bad h0]; exact h0)]
    rw [hx, chkG_bad h0]
    exact (all_chk Q L v u A m w hL sh S I h0).mono fun e w' ⟨y, e1, e2, e3⟩ => ⟨_, y, e1, World.ownsRow_nil _ _ _ _, e2, e3⟩
end Ve
end Go.Proofs.YtpafkniapacfdaaGreatDoor


namespace Go.Proofs.YtpafkniapacfdaaGreatDoor
open Go.RowKit
namespace Ve
theorem cutAt_not (c : UInt8) : ∀ (l p : List UInt8), p ∈ cutAt c l → c ∉ p
  | [], p, h => by
    have : p = [] := by simpa [cutAt] using h
    rw [this]; simp
  | b :: l, p, h => by
    have ih := cutAt_not c l
    unfold cutAt at h
    by_cases hb : b = c
    · rw [if_pos hb] at h
      rcases List.mem_cons.1 h with rfl | h
      · simp
      · exact ih p h
    · rw [if_neg hb] at h
      have hne := cutAt_ne c l
      generalize cutAt c l = X at *
      cases X with
      | nil => exact absurd rfl hne
      | cons x r =>
        have h : p ∈ (b :: x) :: r := h
        rcases List.mem_cons.1 h with rfl | h
        · intro hm
          rcases List.mem_cons.1 hm with e | hm
          · exact hb e.symm
          · exact ih x (by simp) hm
        · exact ih p (by simp [h])
theorem lastD_at {P : List (List UInt8)} {n : Nat} (h : n + 1 = P.length) : P.getLastD [] = P[n]'(by omega) := by
  have hne : P ≠ [] := fun e => by rw [e] at h; simp at h
  rw [List.getLastD_eq_getLast?, List.getLast?_eq_some_getLast hne, Option.getD_some, List.getLast_eq_getElem]
  congr 1; omega
theorem t_mid {P : List (List UInt8)} {i : Nat} (h : i + 1 < P.length) : ∃ hi : i < (endsL P).length, (endsL P)[i] = P[i] ++ [10] := by
  have h1 : i < (P.dropLast.map fun p => p ++ [10]).length := by simp; omega
  have h2 : (endsL P)[i]? = some (P[i] ++ [10]) := by
    unfold endsL
    rw [List.getElem?_append_left h1, List.getElem?_map, List.getElem?_dropLast, if_pos (by omega), List.getElem?_eq_getElem (by omega)]
    rfl
  exact List.getElem?_eq_some_iff.1 h2
theorem t_end {P : List (List UInt8)} {n : Nat} (h : n + 1 = P.length) (he : P[n] = []) : (endsL P).length = n := by
  unfold endsL
  rw [lastD_at h, if_pos he, List.length_append, List.length_map, List.length_dropLast]
  simp; omega
theorem t_rest {P : List (List UInt8)} {n : Nat} (h : n + 1 = P.length) (he : P[n] ≠ []) : ∃ hi : n < (endsL P).length, (endsL P)[n] = P[n] := by
  have h2 : (endsL P)[n]? = some P[n] := by
    unfold endsL
    rw [lastD_at h, if_neg he, List.getElem?_append_right (by simp; omega)]
    have : n - (P.dropLast.map fun p => p ++ [10]).length = 0 := by simp; omega
    rw [this]; rfl
  exact List.getElem?_eq_some_iff.1 h2
theorem end_no {t : List UInt8} (h : (10 : UInt8) ∉ t) : hasEnd t = false := by
  unfold hasEnd
  refine decide_eq_false fun e => h ?_
  exact List.mem_of_getLast? e
theorem rdF_at {T : List (List UInt8)} {k : Nat} (h0 : ∀ j, j < k → lnEr T j = 0) (hk : k < T.length) (h : lnEr T k ≠ 0) : rdF T = (lnEr T k, some k) := by
  have hf := fstE_some h0 h hk
  unfold rdF
  rw [codeE_some hf, hf]
theorem rd_mid {s : List UInt8} {P : List (List UInt8)} (hP : P = cutAt 10 s) {i : Nat} (h : i + 1 < P.length) : ∃ hi : i < (linesL s).length, rdT (linesL s)[i] = rdW (cutAt 32 P[i]) := by
  have hl := lines_cut s
  rw [← hP] at hl
  obtain ⟨hi, e⟩ := t_mid h
  have hi' : i < (linesL s).length := by rw [hl]; exact hi
  refine ⟨hi', ?_⟩
  have e2 : (linesL s)[i] = P[i] ++ [10] := by
    have : (linesL s)[i]? = (endsL P)[i]? := by rw [hl]
    rw [List.getElem?_eq_getElem hi', List.getElem?_eq_getElem hi] at this
    rw [Option.some.inj this, e]
  rw [e2, rdT_yes (end_snoc _)]
  simp
theorem rd_end {s : List UInt8} {P : List (List UInt8)} (hP : P = cutAt 10 s) {n : Nat} (h : n + 1 = P.length) (he : P[n] = []) : (linesL s).length = n := by
  rw [lines_cut, ← hP]; exact t_end h he
theorem rd_rest {s : List UInt8} {P : List (List UInt8)} (hP : P = cutAt 10 s) {n : Nat} (h : n + 1 = P.length) (he : P[n] ≠ []) : ∃ hi : n < (linesL s).length, rdT (linesL s)[n] = (1, ln0) := by
  have hl := lines_cut s
  rw [← hP] at hl
  obtain ⟨hi, e⟩ := t_rest h he
  have hi' : n < (linesL s).length := by rw [hl]; exact hi
  refine ⟨hi', ?_⟩
  have e2 : (linesL s)[n] = P[n] := by
    have : (linesL s)[n]? = (endsL P)[n]? := by rw [hl]
    rw [List.getElem?_eq_getElem hi', List.getElem?_eq_getElem hi] at this
    rw [Option.some.inj this, e]
  rw [e2, rdT_no (end_no (cutAt_not 10 s _ (by rw [← hP]; exact List.getElem_mem _)))]
end Ve
end Go.Proofs.YtpafkniapacfdaaGreatDoor


namespace Go.Proofs.YtpafkniapacfdaaGreatDoor
open Go.RowKit Go.Maps
namespace Ve
end Ve
end Go.Proofs.YtpafkniapacfdaaGreatDoor



