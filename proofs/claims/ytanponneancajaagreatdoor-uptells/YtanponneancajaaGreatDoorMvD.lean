/-
  slices.CompactFunc over a sorted row of modules: of each path the first one stays.
-/
import Derived.Test.YtanponneancajaaGreatDoorMvC
import Derived.Deep.RegionHeld
namespace Go.Proofs.YtanponneancajaaGreatDoor
open Go.RowKit
namespace Ve

set_option maxHeartbeats 1000000 in
/-- Two modules: are they of one path? -/
theorem sameP_any (a b : Bm) (W : World) :
    Calls Tryz.prog 172 #[.agg #[.string a.1, .string a.2], .agg #[.string b.1, .string b.2]] W fun e w' => e = .returned (.bool (decide (a.1 = b.1))) ∧ Below W.heap.size W w' := by
  obtain ⟨p, v⟩ := a
  obtain ⟨q, u⟩ := b
  have HB0 := hid (((Below.refl W.heap.size W).alloc (Nat.le_refl _) (.cells #[.string p, .string v] 51)).alloc (by simp) (.cells #[.string q, .string u] 51))
  by_cases h : p = q
  · subst h
    have he := str_refl p
    have HD := hid (show decide (p = p) = true by simp)
    show Calls Tryz.prog 172 _ W fun e w' => e = .returned (.bool (decide (p = p))) ∧ _
    generalize decide (p = p) = z at *
    go_enter Tryz.func172, Tryz.ntmps172
    go_wp2_with fail
    go_ret
    exact ⟨ret_bool HD.out.symm, HB0.out⟩
  · have he := str_ne h
    have HD := hid (show decide (p = q) = false by simp [h])
    show Calls Tryz.prog 172 _ W fun e w' => e = .returned (.bool (decide (p = q))) ∧ _
    generalize decide (p = q) = z at *
    go_enter Tryz.func172, Tryz.ntmps172
    go_wp2_with fail
    go_ret
    exact ⟨ret_bool HD.out.symm, HB0.out⟩
theorem compactM_nil (a : Option Addr) (c : Nat) (W : World) : Calls Tryz.prog 171 #[.slice a 0 c, .func (.func 172) #[] #[]] W fun e w' => e = .returned (.slice a 0 c) ∧ Below W.heap.size W w' := by
  go_enter Tryz.func171, Tryz.ntmps171
  go_wp2_with fail
  go_ret
  exact ⟨rfl, Below.refl _ _⟩

/-- Two neighbours' cells, and the row. -/
def TwoM (w0 W : World) (g i j : Nat) (D : List Bm) (y x : Bm) : Prop :=
  W.cell? ⟨g, i, none⟩ = some (.string y.1) ∧ W.cell? ⟨g, i + 1, none⟩ = some (.string y.2) ∧ W.cell? ⟨g, j, none⟩ = some (.string x.1) ∧ W.cell? ⟨g, j + 1, none⟩ = some (.string x.2) ∧ Hid (Mw w0 W g D)
theorem Mw.two {w0 W : World} {g : Nat} {D : List Bm} (h : Mw w0 W g D) {j : Nat} {y x : Bm} (hy : D[j]? = some y) (hx : D[j + 1]? = some x) : TwoM w0 W g (j * 2) ((j + 1) * 2) D y x :=
  ⟨(h.at hy).1, (h.at hy).2, (h.at hx).1, (h.at hx).2, h⟩
set_option maxRecDepth 100000 in
set_option maxHeartbeats 8000000 in
theorem compact_mw (w0 w : World) (g cap : Nat) (D : List Bm) (hD : D ≠ []) (h12 : D.length ≤ 1000000) (hc : D.length ≤ cap) (hr : ∀ r, r ∈ D → Rt r) (hs : srtM D) (hR : Mw w0 w g D) :
    Calls Tryz.prog 171 #[.slice (some ⟨g, 0, none⟩) D.length cap, .func (.func 172) #[] #[]] w fun e w' => ∃ E : List Bm, e = .returned (.slice (some ⟨g, 0, none⟩) E.length cap) ∧ E.length ≤ D.length ∧ Jn D E ∧ Mw w0 w' g E := by
  have HR := hid hR
  have HS := hid hs
  have HRT := hid hr
  have hpos : 0 < D.length := List.length_pos_iff.2 hD
  clear hR hs hD hr
  by_cases h2 : D.length < 2
  · have h2i : (D.length : Int) < 2 := by omega
    have HRI := hid (show Jn D D by
      have h := (CpM.start hpos HRT.out)
      rw [show (1 : Nat) = D.length by omega, List.take_length] at h
      exact h.jn HRT.out)
    go_enter Tryz.func171, Tryz.ntmps171
    go_wp2_with fail
    go_ret
    exact ⟨D, rfl, Nat.le_refl _, HRI.out, HR.out⟩
  · have h2i : ¬ (D.length : Int) < 2 := by omega
    go_enter Tryz.func171, Tryz.ntmps171
    go_wp2_with fail
    go_loopw [5] (fun i wr => ∃ k : Nat, k + 1 ≤ D.length ∧ i = .int .i64 ((k : Int) + 1) ∧ Hid (CpM D (k + 1) (D.take (k + 1))) ∧ Hid (Mw w0 wr g D)) (fun i _ => D.length - (intOf i).toNat)
    case atStart => exact ⟨0, by omega, rfl, hid (CpM.start hpos HRT.out), HR⟩
    case round =>
      obtain ⟨k, hk, rfl, HCP, HRW⟩ := hrel
      by_cases hkn : k + 1 < D.length
      · have hi1 : (0 : Int) ≤ (k : Int) + 1 := by omega
        have hi2 : (k : Int) + 1 < (D.length : Int) := by omega
        have hi3 : (0 : Int) ≤ (k : Int) := by omega
        have hi4 : (k : Int) < (D.length : Int) := by omega
        have hi5 : (k : Int) + 1 - 1 = (k : Int) := by omega
        have hwp : IntKind.i64.wrap (k : Int) = (k : Int) := by rw [IntKind.wrap_i64]; omega
        have hwe : ((k : Int) + 1).toNat = k + 1 := by omega
        have hcap1 : (k : Int) + 1 ≤ (cap : Int) := by omega
        have hcap2 : (D.length : Int) ≤ (cap : Int) := by omega
        have HPL := hid (fun h => HCP.out.plain HS.out HRT.out hkn h)
        have HSA := hid (fun h => HCP.out.same HS.out HRT.out hkn h)
        have hy2 : D[k]? = some D[k] := List.getElem?_eq_getElem (by omega)
        have hx2 : D[k + 1]? = some D[k + 1] := List.getElem?_eq_getElem hkn
        generalize D[k] = y at *
        generalize D[k + 1] = x at *
        obtain ⟨ty, vy⟩ := y
        obtain ⟨tx, vx⟩ := x
        have HCM := hid (fun W => (show Calls Tryz.prog 172 #[.agg #[.string tx, .string vx], .agg #[.string ty, .string vy]] W
            fun e w' => e = .returned (.bool (decide (tx = ty))) ∧ Below W.heap.size W w' from sameP_any (tx, vx) (ty, vy) W))
        have HTW := hid (fun (W : World) (h : Mw w0 W g D) => (show W.cell? ⟨g, k * 2, none⟩ = some (.string ty) ∧ W.cell? ⟨g, k * 2 + 1, none⟩ = some (.string vy) ∧ W.cell? ⟨g, (k + 1) * 2, none⟩ = some (.string tx) ∧ W.cell? ⟨g, (k + 1) * 2 + 1, none⟩ = some (.string vx) ∧ Hid (Mw w0 W g D) from h.two hy2 hx2))
        obtain ⟨a0, a1, b0, b1, _⟩ := HTW.out _ HRW.out
        clear hy2 hx2
        by_cases hod : tx = ty
        · have HC2 := hid (HSA.out hod)
          rw [decide_eq_true hod] at HCM
          clear hod
          go_wp2_with fail
          go_region_held (fun W => W.cell? ⟨g, k * 2, none⟩ = some (.string ty) ∧ W.cell? ⟨g, k * 2 + 1, none⟩ = some (.string vy) ∧ W.cell? ⟨g, (k + 1) * 2, none⟩ = some (.string tx) ∧ W.cell? ⟨g, (k + 1) * 2 + 1, none⟩ = some (.string vx) ∧ Hid (Mw w0 W g D)) (first | exact HTW.out _ HRa.out | exact HTW.out _ (HRW.out.below (below_drawn _ 1))) (first
            | (go_at_call 172; refine (HCM.out _).mono ?_; rintro e w' ⟨rfl, hb⟩; have HRa := hid ((HRW.out.below (below_drawn _ 1)).below hb); clear hb))
          all_goals
            have HN := hid (show (D.take (k + 1)).length = k + 1 by simp; omega)
            clear a0 a1 b0 b1
            go_wp2_with fail
            go_loopw [5, 7] (fun a b wr2 => ∃ (j : Nat) (E : List Bm), a = .int .i64 (E.length : Int) ∧ b = .int .i64 ((j : Int) + 1) ∧ k + 1 + (j + 1) ≤ D.length ∧ E.length ≤ k + 1 + j ∧ Hid (CpM D (k + 1 + j + 1) E) ∧ Hid (Mw w0 wr2 g (E ++ D.drop E.length))) (fun _ b _ => D.length - (intOf b).toNat)
            case atStart => exact ⟨0, D.take (k + 1), by rw [HN.out]; rfl, rfl, by omega, by rw [HN.out]; omega, HC2, hid (by rw [HN.out, List.take_append_drop]; exact HRa.out)⟩
            case round =>
              obtain ⟨j, E, rfl, rfl, hjD, hEj, HCE, HRV⟩ := hrel
              have HAT := hid (show ∀ i, E.length ≤ i → (E ++ D.drop E.length)[i]? = D[i]? from fun i hi => by rw [List.getElem?_append_right hi, List.getElem?_drop]; congr 1; omega)
              by_cases hj : k + 1 + (j + 1) < D.length
              · have g1 : (0 : Int) ≤ (j : Int) + 1 := by omega
                have g2 : (j : Int) + 1 < ((D.length - (k + 1) : Nat) : Int) := by omega
                have g3 : (0 : Int) ≤ (j : Int) := by omega
                have g4 : (j : Int) < ((D.length - (k + 1) : Nat) : Int) := by omega
                have g5 : (j : Int) + 1 - 1 = (j : Int) := by omega
                have gwp : IntKind.i64.wrap (j : Int) = (j : Int) := by rw [IntKind.wrap_i64]; omega
                have gwe : ((j : Int) + 1).toNat = j + 1 := by omega
                have HMO := hid (fun h => HCE.out.more HS.out HRT.out hj h)
                have HSM := hid (fun h => HCE.out.same HS.out HRT.out hj h)
                have hv2 : (E ++ D.drop E.length)[k + 1 + j]? = some D[k + 1 + j] := by rw [HAT.out _ hEj]; exact List.getElem?_eq_getElem (by omega)
                have hu2 : (E ++ D.drop E.length)[k + 1 + j + 1]? = some D[k + 1 + j + 1] := by rw [HAT.out _ (by omega)]; exact List.getElem?_eq_getElem hj
                generalize D[k + 1 + j] = y at *
                generalize D[k + 1 + j + 1] = x at *
                obtain ⟨sy, vsy⟩ := y
                obtain ⟨sx, vsx⟩ := x
                have HCN := hid (fun W => (show Calls Tryz.prog 172 #[.agg #[.string sx, .string vsx], .agg #[.string sy, .string vsy]] W
                  fun e w' => e = .returned (.bool (decide (sx = sy))) ∧ Below W.heap.size W w' from sameP_any (sx, vsx) (sy, vsy) W))
                have HTV := hid (fun (W : World) (h : Mw w0 W g (E ++ D.drop E.length)) => (show W.cell? ⟨g, (k + 1) * 2 + j * 2, none⟩ = some (.string sy) ∧ W.cell? ⟨g, (k + 1) * 2 + j * 2 + 1, none⟩ = some (.string vsy) ∧ W.cell? ⟨g, (k + 1) * 2 + (j + 1) * 2, none⟩ = some (.string sx) ∧ W.cell? ⟨g, (k + 1) * 2 + (j + 1) * 2 + 1, none⟩ = some (.string vsx) ∧ Hid (Mw w0 W g (E ++ D.drop E.length)) by
                  have h2 := h.two hv2 hu2
                  unfold TwoM at h2
                  rw [show (k + 1 + j) * 2 = (k + 1) * 2 + j * 2 by omega, show (k + 1 + j + 1) * 2 = (k + 1) * 2 + (j + 1) * 2 by omega] at h2
                  exact h2))
                obtain ⟨a0, a1, b0, b1, _⟩ := HTV.out _ HRV.out
                clear hv2 hu2
                by_cases hoe : sx = sy
                · have HC3 := hid (HSM.out hoe)
                  rw [decide_eq_true hoe] at HCN
                  clear hoe
                  go_wp2_with fail
                  go_region_held (fun W => W.cell? ⟨g, (k + 1) * 2 + j * 2, none⟩ = some (.string sy) ∧ W.cell? ⟨g, (k + 1) * 2 + j * 2 + 1, none⟩ = some (.string vsy) ∧ W.cell? ⟨g, (k + 1) * 2 + (j + 1) * 2, none⟩ = some (.string sx) ∧ W.cell? ⟨g, (k + 1) * 2 + (j + 1) * 2 + 1, none⟩ = some (.string vsx) ∧ Hid (Mw w0 W g (E ++ D.drop E.length))) (first | exact HTV.out _ HRb.out | exact HTV.out _ (HRV.out.below (below_drawn _ 1))) (first
                  | (go_at_call 172; refine (HCN.out _).mono ?_; rintro e w' ⟨rfl, hb⟩; have HRb := hid ((HRV.out.below (below_drawn _ 1)).below hb); clear hb))
                  all_goals
                    go_wp2_with fail
                    go_roundw
                    case rel => exact ⟨j + 1, E, rfl, by go_num, by omega, by omega, HC3, HRb⟩
                    case measure => simp [intOf]; omega
                · have HC3 := hid (HMO.out hoe)
                  rw [decide_eq_false hoe] at HCN
                  clear hoe
                  go_wp2_with fail
                  go_region_held (fun W => W.cell? ⟨g, (k + 1) * 2 + j * 2, none⟩ = some (.string sy) ∧ W.cell? ⟨g, (k + 1) * 2 + j * 2 + 1, none⟩ = some (.string vsy) ∧ W.cell? ⟨g, (k + 1) * 2 + (j + 1) * 2, none⟩ = some (.string sx) ∧ W.cell? ⟨g, (k + 1) * 2 + (j + 1) * 2 + 1, none⟩ = some (.string vsx) ∧ Hid (Mw w0 W g (E ++ D.drop E.length))) (first | exact HTV.out _ HRb.out | exact HTV.out _ (HRV.out.below (below_drawn _ 1))) (first
                  | (go_at_call 172; refine (HCN.out _).mono ?_; rintro e w' ⟨rfl, hb⟩; have HRb := hid ((HRV.out.below (below_drawn _ 1)).below hb); clear hb))
                  all_goals
                    clear a0 a1 b0 b1
                    obtain ⟨a0, a1, b0, b1, _⟩ := HTV.out _ HRb.out
                    have hfz := HRb.out.fz
                    have e1 : (0 : Int) ≤ (E.length : Int) := by omega
                    have e2 : (E.length : Int) < (D.length : Int) := by omega
                    have hEl : E.length < (E ++ D.drop E.length).length := by simp; omega
                    obtain ⟨z0, z1⟩ := HRb.out.at (j := E.length) (r := (E ++ D.drop E.length)[E.length]) (List.getElem?_eq_getElem hEl)
                    have HW4 := hid (show Mw w0 ((w'.setCell ⟨g, E.length * 2, none⟩ (.string sx)).setCell ⟨g, E.length * 2 + 1, none⟩ (.string vsx)) g ((E ++ [((sx, vsx) : Bm)]) ++ D.drop (E ++ [((sx, vsx) : Bm)]).length) by
                      have h := HRb.out.setAt E.length hEl (sx, vsx)
                      have e : (E ++ D.drop E.length).set E.length (sx, vsx) = (E ++ [((sx, vsx) : Bm)]) ++ D.drop (E ++ [((sx, vsx) : Bm)]).length := by
                        rw [List.set_append_right _ _ (Nat.le_refl _), Nat.sub_self, List.drop_eq_getElem_cons (show E.length < D.length by omega), List.set_cons_zero, List.length_append]
                        simp
                      rw [e] at h
                      exact h)
                    go_wp2_with fail
                    go_roundw
                    case rel => exact ⟨j + 1, E ++ [(sx, vsx)], by simp, by go_num, by omega, by simp; omega, HC3, HW4⟩
                    case measure => simp [intOf]; omega
              · have hje : k + 1 + (j + 1) = D.length := by omega
                have g2 : ¬ (j : Int) + 1 < ((D.length - (k + 1) : Nat) : Int) := by omega
                have hRl : (E ++ D.drop E.length).length = D.length := by simp; omega
                obtain ⟨zs, hcl⟩ := run_clear_mw HRV.out E.length (by omega)
                rw [hRl] at hcl
                have HEN := hid (show CpM D D.length E by have := HCE.out; rw [show k + 1 + j + 1 = D.length by omega] at this; exact this)
                have HRE := hid (show Mw w0 (wr.setCells g (E.length * 2) zs) g E by
                  have := HRV.out.cleared E.length (by omega) zs
                  rw [List.take_left'  rfl] at this
                  exact this)
                have c1 : (E.length : Int) ≤ (D.length : Int) := by omega
                have c2 : (E.length : Int) < (cap : Int) := by omega
                have c3 : (E.length : Int) ≤ (cap : Int) := by omega
                have c4 : (0 : Int) ≤ (E.length : Int) := by omega
                have c5 : E.length < cap := by omega
                go_wp2_with fail
                go_ret
                exact ⟨E, rfl, by omega, HEN.out.jn HRT.out, HRE.out⟩
        · have HC2 := hid (HPL.out hod)
          rw [decide_eq_false hod] at HCM
          clear hod
          go_wp2_with fail
          go_region_held (fun W => W.cell? ⟨g, k * 2, none⟩ = some (.string ty) ∧ W.cell? ⟨g, k * 2 + 1, none⟩ = some (.string vy) ∧ W.cell? ⟨g, (k + 1) * 2, none⟩ = some (.string tx) ∧ W.cell? ⟨g, (k + 1) * 2 + 1, none⟩ = some (.string vx) ∧ Hid (Mw w0 W g D)) (first | exact HTW.out _ HRa.out | exact HTW.out _ (HRW.out.below (below_drawn _ 1))) (first
            | (go_at_call 172; refine (HCM.out _).mono ?_; rintro e w' ⟨rfl, hb⟩; have HRa := hid ((HRW.out.below (below_drawn _ 1)).below hb); clear hb))
          all_goals
            go_wp2_with fail
            go_roundw
            case rel => exact ⟨k + 1, by omega, by go_num, HC2, HRa⟩
            case measure => simp [intOf]; omega
      · obtain hke : k + 1 = D.length := by omega
        have HFI := hid (show CpM D D.length D by have := HCP.out; rw [hke, List.take_length] at this; exact this)
        have hi2 : ¬ (k : Int) + 1 < (D.length : Int) := by omega
        go_wp2_with fail
        go_ret
        exact ⟨D, rfl, Nat.le_refl _, HFI.out.jn HRT.out, HRW.out⟩
end Ve
end Go.Proofs.YtanponneancajaaGreatDoor
