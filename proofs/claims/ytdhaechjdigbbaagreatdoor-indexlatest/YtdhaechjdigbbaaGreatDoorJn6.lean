/-
  slices.CompactFunc over a sorted row of records.
-/
import Derived.Test.YtdhaechjdigbbaaGreatDoorJn5
import Derived.Test.YtdhaechjdigbbaaGreatDoorJn3
import Derived.Test.YtdhaechjdigbbaaGreatDoorJn2
import Derived.Test.YtdhaechjdigbbaaGreatDoorFileP
namespace Go.Proofs.YtdhaechjdigbbaaGreatDoor
open Go.RowKit
namespace Ve

/-- Two records: are they one version? -/
theorem same_rc (r q : Rc) (g : Nat) (W : World) (hr : RcAt W g r) (hq : RcAt W g q) :
    Calls Tryz.prog 100 #[.agg #[.int .i64 (nAt r.1 0), .int .i64 (nAt r.1 1), .int .i64 (nAt r.1 2), r.2], .agg #[.int .i64 (nAt q.1 0), .int .i64 (nAt q.1 1), .int .i64 (nAt q.1 2), q.2]] W
      fun e w' => e = .returned (.bool (ordV r.1 q.1 == 0)) ∧ Below W.heap.size W w' := by
  have HB0 := hid (((Below.refl W.heap.size W).alloc (Nat.le_refl _) (.cells #[.int .i64 (nAt r.1 0), .int .i64 (nAt r.1 1), .int .i64 (nAt r.1 2), r.2] 37)).alloc (by simp) (.cells #[.int .i64 (nAt q.1 0), .int .i64 (nAt q.1 1), .int .i64 (nAt q.1 2), q.2] 37))
  have HC := hid (compare_rc r q g _ (hr.below HB0.out) (hq.below HB0.out))
  obtain ⟨pr, nr, cr, hrv⟩ := hr.2.2.1.slice
  obtain ⟨pq, nq, cq, hqv⟩ := hq.2.2.1.slice
  clear hr hq
  obtain ⟨tr, vr⟩ := r
  obtain ⟨tq, vq⟩ := q
  simp only at hrv hqv
  subst hrv hqv
  generalize ordV tr tq = od at *
  go_enter Tryz.func100, Tryz.ntmps100
  go_wp2_with fail
  refine HC.out.mono ?_
  rintro e w1 ⟨rfl, hb⟩
  have HB := hid (HB0.out.trans (hb.mono HB0.out.size))
  clear hb
  go_wp2_with fail
  go_ret
  exact ⟨rfl, HB.out⟩

theorem compact_nil (W : World) : Calls Tryz.prog 99 #[.slice none 0 0, .func (.func 100) #[] #[]] W fun e w' => e = .returned (.slice none 0 0) ∧ Below W.heap.size W w' := by
  go_enter Tryz.func99, Tryz.ntmps99
  go_wp2_with fail
  go_ret
  exact ⟨rfl, Below.refl _ _⟩

set_option maxRecDepth 100000 in
set_option maxHeartbeats 8000000 in
theorem compact_rw (w0 w : World) (g cap : Nat) (D : List Rc) (hD : D ≠ []) (h12 : D.length ≤ 1000) (hc : D.length ≤ cap) (_hcm : cap ≤ maxLen) (hs : srt D) (hR : Rw w0 w g D) :
    Calls Tryz.prog 99 #[.slice (some ⟨g, 0, none⟩) D.length cap, .func (.func 100) #[] #[]] w fun e w' => ∃ E : List Rc, e = .returned (.slice (some ⟨g, 0, none⟩) E.length cap) ∧ E.length ≤ D.length ∧ rises (E.map (·.1)) ∧ (∀ t, t ∈ E.map (·.1) ↔ t ∈ D.map (·.1)) ∧ Rw w0 w' g E := by
  have HR := hid hR
  have HS := hid hs
  have hpos : 0 < D.length := List.length_pos_iff.2 hD
  clear hR hs hD
  by_cases h2 : D.length < 2
  · have h2i : (D.length : Int) < 2 := by omega
    have HRI := hid (show rises (D.map (·.1)) by
      match D, h2 with
      | [], _ => exact List.Pairwise.nil
      | [r], _ => exact List.pairwise_singleton _ _)
    go_enter Tryz.func99, Tryz.ntmps99
    go_wp2_with fail
    go_ret
    exact ⟨D, rfl, Nat.le_refl _, HRI.out, fun _ => Iff.rfl, HR.out⟩
  · have h2i : ¬ (D.length : Int) < 2 := by omega
    go_enter Tryz.func99, Tryz.ntmps99
    go_wp2_with fail
    have HVV := hid (show ∀ r, r ∈ D → verErr r.1 = 0 from fun r hr => (HR.out.rc r hr).1)
    go_loopw [5] (fun i wr => ∃ k : Nat, k + 1 ≤ D.length ∧ i = .int .i64 ((k : Int) + 1) ∧ Hid (Cp D (k + 1) (D.take (k + 1))) ∧ Hid (Rw w0 wr g D)) (fun i _ => D.length - (intOf i).toNat)
    case atStart => exact ⟨0, by omega, rfl, hid (Cp.start hpos), HR⟩
    case round =>
      obtain ⟨k, hk, rfl, HCP, HRW⟩ := hrel
      by_cases hkn : k + 1 < D.length
      · have hi1 : (0 : Int) ≤ (k : Int) + 1 := by omega
        have hi2 : (k : Int) + 1 < (D.length : Int) := by omega
        have hi3 : (0 : Int) ≤ (k : Int) := by omega
        have hi4 : (k : Int) < (D.length : Int) := by omega
        have hi5 : (k : Int) + 1 - 1 = (k : Int) := by omega
        have hwp : IntKind.i64.wrap (k : Int) = (k : Int) := by rw [IntKind.wrap_i64]; omega
        have hwe : ((k : Int) + 1).toNat = k + 1 := by omega
        have hcap1 : (k : Int) + 1 ≤ (cap : Int) := by omega
        have hcap2 : (D.length : Int) ≤ (cap : Int) := by omega
        have HPL := hid (fun h => HCP.out.plain HS.out HVV.out hkn h)
        have HSA := hid (fun h => HCP.out.same HVV.out hkn h)
        have HY := hid (HRW.out.rc D[k] (List.getElem_mem (by omega)))
        have HX := hid (HRW.out.rc D[k + 1] (List.getElem_mem hkn))
        have hy2 : D[k]? = some D[k] := List.getElem?_eq_getElem (by omega)
        have hx2 : D[k + 1]? = some D[k + 1] := List.getElem?_eq_getElem hkn
        generalize D[k] = y at *
        generalize D[k + 1] = x at *
        obtain ⟨ty, vy⟩ := y
        obtain ⟨tx, vx⟩ := x
        obtain ⟨py, ny, cy, rfl⟩ := HY.out.2.2.1.slice
        obtain ⟨px, nx, cx, rfl⟩ := HX.out.2.2.1.slice
        have HCM := hid (fun W (hr : RcAt W g (tx, .slice px nx cx)) (hq : RcAt W g (ty, .slice py ny cy)) => (show Calls Tryz.prog 100 #[.agg #[.int .i64 (nAt tx 0), .int .i64 (nAt tx 1), .int .i64 (nAt tx 2), .slice px nx cx], .agg #[.int .i64 (nAt ty 0), .int .i64 (nAt ty 1), .int .i64 (nAt ty 2), .slice py ny cy]] W
            fun e w' => e = .returned (.bool (ordV tx ty == 0)) ∧ Below W.heap.size W w' from same_rc (tx, .slice px nx cx) (ty, .slice py ny cy) g W hr hq))
        have HTW := hid (fun (W : World) (h : Rw w0 W g D) => (show W.cell? ⟨g, k * 4, none⟩ = some (.int .i64 (nAt ty 0)) ∧ W.cell? ⟨g, k * 4 + 1, none⟩ = some (.int .i64 (nAt ty 1)) ∧ W.cell? ⟨g, k * 4 + 2, none⟩ = some (.int .i64 (nAt ty 2)) ∧ W.cell? ⟨g, k * 4 + 3, none⟩ = some (.slice py ny cy) ∧ W.cell? ⟨g, (k + 1) * 4, none⟩ = some (.int .i64 (nAt tx 0)) ∧ W.cell? ⟨g, (k + 1) * 4 + 1, none⟩ = some (.int .i64 (nAt tx 1)) ∧ W.cell? ⟨g, (k + 1) * 4 + 2, none⟩ = some (.int .i64 (nAt tx 2)) ∧ W.cell? ⟨g, (k + 1) * 4 + 3, none⟩ = some (.slice px nx cx) ∧ Hid (Rw w0 W g D) from h.two hy2 hx2))
        obtain ⟨a0, a1, a2, a3, b0, b1, b2, b3, _⟩ := HTW.out _ HRW.out
        clear hy2 hx2
        by_cases hod : ordV tx ty = 0
        · have HC2 := hid (HSA.out hod)
          rw [hod] at HCM
          clear hod
          go_wp2_with fail
          go_region_held (fun W => W.cell? ⟨g, k * 4, none⟩ = some (.int .i64 (nAt ty 0)) ∧ W.cell? ⟨g, k * 4 + 1, none⟩ = some (.int .i64 (nAt ty 1)) ∧ W.cell? ⟨g, k * 4 + 2, none⟩ = some (.int .i64 (nAt ty 2)) ∧ W.cell? ⟨g, k * 4 + 3, none⟩ = some (.slice py ny cy) ∧ W.cell? ⟨g, (k + 1) * 4, none⟩ = some (.int .i64 (nAt tx 0)) ∧ W.cell? ⟨g, (k + 1) * 4 + 1, none⟩ = some (.int .i64 (nAt tx 1)) ∧ W.cell? ⟨g, (k + 1) * 4 + 2, none⟩ = some (.int .i64 (nAt tx 2)) ∧ W.cell? ⟨g, (k + 1) * 4 + 3, none⟩ = some (.slice px nx cx) ∧ Hid (Rw w0 W g D)) (first | exact HTW.out _ HRa.out | exact HTW.out _ (HRW.out.below (below_drawn _ 1))) (first
            | (go_at_call 100; refine (HCM.out _ ?_ ?_).mono ?_; exact HX.out.below (below_drawn _ 1); exact HY.out.below (below_drawn _ 1); rintro e w' ⟨rfl, hb⟩; have HRa := hid ((HRW.out.below (below_drawn _ 1)).below hb); clear hb))
          all_goals
            have HN := hid (show (D.take (k + 1)).length = k + 1 by simp; omega)
            clear a0 a1 a2 a3 b0 b1 b2 b3
            go_wp2_with fail
            go_loopw [5, 7] (fun a b wr2 => ∃ (j : Nat) (E : List Rc), a = .int .i64 (E.length : Int) ∧ b = .int .i64 ((j : Int) + 1) ∧ k + 1 + (j + 1) ≤ D.length ∧ E.length ≤ k + 1 + j ∧ Hid (Cp D (k + 1 + j + 1) E) ∧ Hid (Rw w0 wr2 g (E ++ D.drop E.length))) (fun _ b _ => D.length - (intOf b).toNat)
            case atStart => exact ⟨0, D.take (k + 1), by rw [HN.out]; rfl, rfl, by omega, by rw [HN.out]; omega, HC2, hid (by rw [HN.out, List.take_append_drop]; exact HRa.out)⟩
            case round =>
              obtain ⟨j, E, rfl, rfl, hjD, hEj, HCE, HRV⟩ := hrel
              have HAT := hid (show ∀ i, E.length ≤ i → (E ++ D.drop E.length)[i]? = D[i]? from fun i hi => by rw [List.getElem?_append_right hi, List.getElem?_drop]; congr 1; omega)
              by_cases hj : k + 1 + (j + 1) < D.length
              · have g1 : (0 : Int) ≤ (j : Int) + 1 := by omega
                have g2 : (j : Int) + 1 < ((D.length - (k + 1) : Nat) : Int) := by omega
                have g3 : (0 : Int) ≤ (j : Int) := by omega
                have g4 : (j : Int) < ((D.length - (k + 1) : Nat) : Int) := by omega
                have g5 : (j : Int) + 1 - 1 = (j : Int) := by omega
                have gwp : IntKind.i64.wrap (j : Int) = (j : Int) := by rw [IntKind.wrap_i64]; omega
                have gwe : ((j : Int) + 1).toNat = j + 1 := by omega
                have HMO := hid (fun h => HCE.out.more HS.out HVV.out hj h)
                have HSM := hid (fun h => HCE.out.same HVV.out hj h)
                have hv2 : (E ++ D.drop E.length)[k + 1 + j]? = some D[k + 1 + j] := by rw [HAT.out _ hEj]; exact List.getElem?_eq_getElem (by omega)
                have hu2 : (E ++ D.drop E.length)[k + 1 + j + 1]? = some D[k + 1 + j + 1] := by rw [HAT.out _ (by omega)]; exact List.getElem?_eq_getElem hj
                have HVY := hid (HRV.out.rc D[k + 1 + j] (List.mem_of_getElem? hv2))
                have HVX := hid (HRV.out.rc D[k + 1 + j + 1] (List.mem_of_getElem? hu2))
                have HUM := hid (List.mem_of_getElem? hu2)
                generalize D[k + 1 + j] = y at *
                generalize D[k + 1 + j + 1] = x at *
                obtain ⟨sy, vy⟩ := y
                obtain ⟨sx, vx⟩ := x
                obtain ⟨qy, my, dy, rfl⟩ := HVY.out.2.2.1.slice
                obtain ⟨qx, mx, dx, rfl⟩ := HVX.out.2.2.1.slice
                have HCN := hid (fun W (hr : RcAt W g (sx, .slice qx mx dx)) (hq : RcAt W g (sy, .slice qy my dy)) => (show Calls Tryz.prog 100 #[.agg #[.int .i64 (nAt sx 0), .int .i64 (nAt sx 1), .int .i64 (nAt sx 2), .slice qx mx dx], .agg #[.int .i64 (nAt sy 0), .int .i64 (nAt sy 1), .int .i64 (nAt sy 2), .slice qy my dy]] W
                  fun e w' => e = .returned (.bool (ordV sx sy == 0)) ∧ Below W.heap.size W w' from same_rc (sx, .slice qx mx dx) (sy, .slice qy my dy) g W hr hq))
                have HTV := hid (fun (W : World) (h : Rw w0 W g (E ++ D.drop E.length)) => (show W.cell? ⟨g, (k + 1) * 4 + j * 4, none⟩ = some (.int .i64 (nAt sy 0)) ∧ W.cell? ⟨g, (k + 1) * 4 + j * 4 + 1, none⟩ = some (.int .i64 (nAt sy 1)) ∧ W.cell? ⟨g, (k + 1) * 4 + j * 4 + 2, none⟩ = some (.int .i64 (nAt sy 2)) ∧ W.cell? ⟨g, (k + 1) * 4 + j * 4 + 3, none⟩ = some (.slice qy my dy) ∧ W.cell? ⟨g, (k + 1) * 4 + (j + 1) * 4, none⟩ = some (.int .i64 (nAt sx 0)) ∧ W.cell? ⟨g, (k + 1) * 4 + (j + 1) * 4 + 1, none⟩ = some (.int .i64 (nAt sx 1)) ∧ W.cell? ⟨g, (k + 1) * 4 + (j + 1) * 4 + 2, none⟩ = some (.int .i64 (nAt sx 2)) ∧ W.cell? ⟨g, (k + 1) * 4 + (j + 1) * 4 + 3, none⟩ = some (.slice qx mx dx) ∧ Hid (Rw w0 W g (E ++ D.drop E.length)) by
                  have h2 := h.two hv2 hu2
                  unfold Two at h2
                  rw [show (k + 1 + j) * 4 = (k + 1) * 4 + j * 4 by omega, show (k + 1 + j + 1) * 4 = (k + 1) * 4 + (j + 1) * 4 by omega] at h2
                  exact h2))
                obtain ⟨a0, a1, a2, a3, b0, b1, b2, b3, _⟩ := HTV.out _ HRV.out
                clear hv2 hu2
                by_cases hoe : ordV sx sy = 0
                · have HC3 := hid (HSM.out hoe)
                  rw [hoe] at HCN
                  clear hoe
                  go_wp2_with fail
                  go_region_held (fun W => W.cell? ⟨g, (k + 1) * 4 + j * 4, none⟩ = some (.int .i64 (nAt sy 0)) ∧ W.cell? ⟨g, (k + 1) * 4 + j * 4 + 1, none⟩ = some (.int .i64 (nAt sy 1)) ∧ W.cell? ⟨g, (k + 1) * 4 + j * 4 + 2, none⟩ = some (.int .i64 (nAt sy 2)) ∧ W.cell? ⟨g, (k + 1) * 4 + j * 4 + 3, none⟩ = some (.slice qy my dy) ∧ W.cell? ⟨g, (k + 1) * 4 + (j + 1) * 4, none⟩ = some (.int .i64 (nAt sx 0)) ∧ W.cell? ⟨g, (k + 1) * 4 + (j + 1) * 4 + 1, none⟩ = some (.int .i64 (nAt sx 1)) ∧ W.cell? ⟨g, (k + 1) * 4 + (j + 1) * 4 + 2, none⟩ = some (.int .i64 (nAt sx 2)) ∧ W.cell? ⟨g, (k + 1) * 4 + (j + 1) * 4 + 3, none⟩ = some (.slice qx mx dx) ∧ Hid (Rw w0 W g (E ++ D.drop E.length))) (first | exact HTV.out _ HRb.out | exact HTV.out _ (HRV.out.below (below_drawn _ 1))) (first
                  | (go_at_call 100; refine (HCN.out _ ?_ ?_).mono ?_; exact HVX.out.below (below_drawn _ 1); exact HVY.out.below (below_drawn _ 1); rintro e w' ⟨rfl, hb⟩; have HRb := hid ((HRV.out.below (below_drawn _ 1)).below hb); clear hb))
                  all_goals
                    go_wp2_with fail
                    go_roundw
                    case rel => exact ⟨j + 1, E, rfl, by go_num, by omega, by omega, HC3, HRb⟩
                    case measure => simp [intOf]; omega
                · have HC3 := hid (HMO.out hoe)
                  have hob : (ordV sx sy == 0) = false := beq_eq_false_iff_ne.2 hoe
                  rw [hob] at HCN
                  clear hoe hob
                  go_wp2_with fail
                  go_region_held (fun W => W.cell? ⟨g, (k + 1) * 4 + j * 4, none⟩ = some (.int .i64 (nAt sy 0)) ∧ W.cell? ⟨g, (k + 1) * 4 + j * 4 + 1, none⟩ = some (.int .i64 (nAt sy 1)) ∧ W.cell? ⟨g, (k + 1) * 4 + j * 4 + 2, none⟩ = some (.int .i64 (nAt sy 2)) ∧ W.cell? ⟨g, (k + 1) * 4 + j * 4 + 3, none⟩ = some (.slice qy my dy) ∧ W.cell? ⟨g, (k + 1) * 4 + (j + 1) * 4, none⟩ = some (.int .i64 (nAt sx 0)) ∧ W.cell? ⟨g, (k + 1) * 4 + (j + 1) * 4 + 1, none⟩ = some (.int .i64 (nAt sx 1)) ∧ W.cell? ⟨g, (k + 1) * 4 + (j + 1) * 4 + 2, none⟩ = some (.int .i64 (nAt sx 2)) ∧ W.cell? ⟨g, (k + 1) * 4 + (j + 1) * 4 + 3, none⟩ = some (.slice qx mx dx) ∧ Hid (Rw w0 W g (E ++ D.drop E.length))) (first | exact HTV.out _ HRb.out | exact HTV.out _ (HRV.out.below (below_drawn _ 1))) (first
                  | (go_at_call 100; refine (HCN.out _ ?_ ?_).mono ?_; exact HVX.out.below (below_drawn _ 1); exact HVY.out.below (below_drawn _ 1); rintro e w' ⟨rfl, hb⟩; have HRb := hid ((HRV.out.below (below_drawn _ 1)).below hb); clear hb))
                  all_goals
                    clear a0 a1 a2 a3 b0 b1 b2 b3
                    obtain ⟨a0, a1, a2, a3, b0, b1, b2, b3, _⟩ := HTV.out _ HRb.out
                    have hfz := HRb.out.fz
                    have e1 : (0 : Int) ≤ (E.length : Int) := by omega
                    have e2 : (E.length : Int) < (D.length : Int) := by omega
                    have hEl : E.length < (E ++ D.drop E.length).length := by simp; omega
                    obtain ⟨z0, z1, z2, z3⟩ := HRb.out.at (j := E.length) (r := (E ++ D.drop E.length)[E.length]) (List.getElem?_eq_getElem hEl)
                    have HW4 := hid (show Rw w0 ((((w'.setCell ⟨g, E.length * 4, none⟩ (.int .i64 (nAt sx 0))).setCell ⟨g, E.length * 4 + 1, none⟩ (.int .i64 (nAt sx 1))).setCell ⟨g, E.length * 4 + 2, none⟩ (.int .i64 (nAt sx 2))).setCell ⟨g, E.length * 4 + 3, none⟩ (.slice qx mx dx)) g ((E ++ [((sx, .slice qx mx dx) : Rc)]) ++ D.drop (E ++ [((sx, .slice qx mx dx) : Rc)]).length) by
                      have h := HRb.out.setAt E.length hEl (sx, .slice qx mx dx) (HRb.out.rc _ HUM.out)
                      have e : (E ++ D.drop E.length).set E.length (sx, .slice qx mx dx) = (E ++ [((sx, .slice qx mx dx) : Rc)]) ++ D.drop (E ++ [((sx, .slice qx mx dx) : Rc)]).length := by
                        rw [List.set_append_right _ _ (Nat.le_refl _), Nat.sub_self, List.drop_eq_getElem_cons (show E.length < D.length by omega), List.set_cons_zero, List.length_append]
                        simp
                      rw [e] at h
                      exact h)
                    go_wp2_with fail
                    go_roundw
                    case rel => exact ⟨j + 1, E ++ [(sx, .slice qx mx dx)], by simp, by go_num, by omega, by simp; omega, HC3, HW4⟩
                    case measure => simp [intOf]; omega
              · have hje : k + 1 + (j + 1) = D.length := by omega
                have g2 : ¬ (j : Int) + 1 < ((D.length - (k + 1) : Nat) : Int) := by omega
                have hRl : (E ++ D.drop E.length).length = D.length := by simp; omega
                obtain ⟨zs, hcl⟩ := run_clear_rw HRV.out E.length (by omega)
                rw [hRl] at hcl
                have HEN := hid (show Cp D D.length E by have := HCE.out; rw [show k + 1 + j + 1 = D.length by omega] at this; exact this)
                have HRE := hid (show Rw w0 (wr.setCells g (E.length * 4) zs) g E by
                  have := HRV.out.cleared E.length (by omega) zs
                  rw [List.take_left'  rfl] at this
                  exact this)
                have c1 : (E.length : Int) ≤ (D.length : Int) := by omega
                have c2 : (E.length : Int) < (cap : Int) := by omega
                have c3 : (E.length : Int) ≤ (cap : Int) := by omega
                have c4 : (0 : Int) ≤ (E.length : Int) := by omega
                have c5 : E.length < cap := by omega
                go_wp2_with fail
                go_ret
                exact ⟨E, rfl, by omega, HEN.out.ri, fun t => by have h := HEN.out.mem t; rw [List.take_length] at h; simpa using h, HRE.out⟩
        · have HC2 := hid (HPL.out hod)
          have hob : (ordV tx ty == 0) = false := beq_eq_false_iff_ne.2 hod
          rw [hob] at HCM
          clear hod hob
          go_wp2_with fail
          go_region_held (fun W => W.cell? ⟨g, k * 4, none⟩ = some (.int .i64 (nAt ty 0)) ∧ W.cell? ⟨g, k * 4 + 1, none⟩ = some (.int .i64 (nAt ty 1)) ∧ W.cell? ⟨g, k * 4 + 2, none⟩ = some (.int .i64 (nAt ty 2)) ∧ W.cell? ⟨g, k * 4 + 3, none⟩ = some (.slice py ny cy) ∧ W.cell? ⟨g, (k + 1) * 4, none⟩ = some (.int .i64 (nAt tx 0)) ∧ W.cell? ⟨g, (k + 1) * 4 + 1, none⟩ = some (.int .i64 (nAt tx 1)) ∧ W.cell? ⟨g, (k + 1) * 4 + 2, none⟩ = some (.int .i64 (nAt tx 2)) ∧ W.cell? ⟨g, (k + 1) * 4 + 3, none⟩ = some (.slice px nx cx) ∧ Hid (Rw w0 W g D)) (first | exact HTW.out _ HRa.out | exact HTW.out _ (HRW.out.below (below_drawn _ 1))) (first
            | (go_at_call 100; refine (HCM.out _ ?_ ?_).mono ?_; exact HX.out.below (below_drawn _ 1); exact HY.out.below (below_drawn _ 1); rintro e w' ⟨rfl, hb⟩; have HRa := hid ((HRW.out.below (below_drawn _ 1)).below hb); clear hb))
          all_goals
            go_wp2_with fail
            go_roundw
            case rel => exact ⟨k + 1, by omega, by go_num, HC2, HRa⟩
            case measure => simp [intOf]; omega
      · obtain hke : k + 1 = D.length := by omega
        have HFI := hid (show Cp D D.length D by have := HCP.out; rw [hke, List.take_length] at this; exact this)
        have hi2 : ¬ (k : Int) + 1 < (D.length : Int) := by omega
        go_wp2_with fail
        go_ret
        exact ⟨D, rfl, Nat.le_refl _, HFI.out.ri, fun t => Iff.rfl, HRW.out⟩
end Ve
end Go.Proofs.YtdhaechjdigbbaaGreatDoor

/-
  The sorts of nothing; ver.Sort whole.
-/
namespace Go.Proofs.YtdhaechjdigbbaaGreatDoor
open Go.RowKit
namespace Ve

theorem ins_nil (W : World) : Calls Tryz.prog 167 #[.slice none 0 0, .int .i64 0, .int .i64 0, .func (.func 42) #[] #[]] W fun e w' => e = .returned (.tuple #[]) ∧ w' = W := by
  go_enter Tryz.func167, Tryz.ntmps167
  go_wp2_with fail
  go_loop [8] (fun i => i = .int .i64 1) (fun _ => 0)
  case atStart => rfl
  case round =>
    obtain rfl := hrel
    go_wp2_with fail
    go_end0
    exact ⟨rfl, rfl⟩
set_option maxRecDepth 100000 in
set_option maxHeartbeats 2000000 in
theorem pdq_nil (n : Int) (W : World) : Calls Tryz.prog 131 #[.slice none 0 0, .int .i64 0, .int .i64 0, .int .i64 n, .func (.func 42) #[] #[]] W fun e w' => e = .returned (.tuple #[]) ∧ w' = W := by
  have HI := hid (ins_nil W)
  go_enter Tryz.func131, Tryz.ntmps131
  go_wp2_with fail
  go_loop [1, 2, 3, 10, 11] (fun a b _ _ _ => a = .int .i64 0 ∧ b = .int .i64 0) (fun _ _ _ _ _ => 0)
  case atStart => exact ⟨rfl, rfl⟩
  case round =>
    obtain ⟨rfl, rfl⟩ := hrel
    go_wp2_with fail
    refine HI.out.mono ?_
    rintro e w' ⟨rfl, rfl⟩
    go_wp2_with fail
    first | (go_end0; exact ⟨rfl, rfl⟩) | (go_ret; exact ⟨rfl, rfl⟩) | (refine bodyPost_ret (v := .tuple #[]) (by simp [results, Tryz.results131]) rfl ⟨rfl, rfl⟩)
set_option maxHeartbeats 1000000 in
theorem sortf_nil (W : World) : Calls Tryz.prog 98 #[.slice none 0 0, .func (.func 42) #[] #[]] W fun e w' => e = .returned (.tuple #[]) ∧ Below W.heap.size W w' := by
  have HLN := hid (show Calls Tryz.prog 130 #[.int .u64 0] W fun e w' => e = .returned (.int .i64 (Lib.bitLen 0 : Nat)) ∧ w' = W from by
    have h := Any.bits_Len (SlLaysF0.n15.bits (P := Tryz.prog) (ρ := Tryz.sortParts_ren) { Tryz.sortParts with }) 0 W (by omega) (by omega)
    exact h)
  have HP := hid (fun n => pdq_nil n W)
  go_enter Tryz.func98, Tryz.ntmps98
  go_wp2_with fail
  refine HLN.out.mono ?_
  rintro e w' ⟨rfl, rfl⟩
  go_wp2_with fail
  refine (HP.out _).mono ?_
  rintro e w' ⟨rfl, rfl⟩
  go_wp2_with fail
  go_end0
  exact ⟨rfl, Below.refl _ _⟩

theorem compact_is : CompactIs := fun w0 W g cap D hD h12 hc hcm hs hR => compact_rw w0 W g cap D hD h12 hc hcm hs hR
/-- ver.Sort of a list that is there. -/
theorem vsort_any (b0 o0 cap : Nat) (L : List ByteArray) (aT aB : Addr) (m : Int) (w : World) (S : Vs w aT aB m) (htab : Lib.TabIs Tryz.prog w powName .u64 Lib.pow10Tab) (hL : ∀ j (h : j < L.length), w.cell? ⟨b0, o0 + j, none⟩ = some (.string L[j])) (h12 : L.length ≤ 1000) (hz : ∀ x, x ∈ L → x.size ≤ 80) :
    Calls Tryz.prog 62 #[.slice (some ⟨b0, o0, none⟩) L.length cap] w fun e w' => ∃ v X, e = .returned v ∧ w'.ownsRow w.heap.size 9 1 v X.length (X.map Value.string) ∧ Kept L L.length X ∧ Below w.heap.size w w' :=
  vsort_some compact_is sortf_nil compact_nil b0 o0 cap L aT aB m w S htab hL h12 hz
theorem kept_none : Kept [] 0 [] := ⟨List.Pairwise.nil, fun t => by simp [bl]⟩
set_option maxHeartbeats 1000000 in
theorem vsort_none (W : World) : Calls Tryz.prog 62 #[.slice none 0 0] W fun e w' => e = .returned (.slice none 0 0) ∧ Below W.heap.size W w' := by
  have HSN := hid sortf_nil
  have HCN := hid compact_nil
  go_enter Tryz.func62, Tryz.ntmps62
  go_wp2_with fail
  go_loop [3, 13] (fun v i => v = .slice none 0 0 ∧ i = .int .i64 0) (fun _ _ => 0)
  case atStart => exact ⟨rfl, rfl⟩
  case round =>
    obtain ⟨rfl, rfl⟩ := hrel
    go_wp2_with fail
    refine (HSN.out _).mono ?_
    rintro e w1 ⟨rfl, hb1⟩
    go_wp2_with fail
    refine (HCN.out _).mono ?_
    rintro e w2 ⟨rfl, hb2⟩
    have HB2 := hid (hb1.trans (hb2.mono hb1.size))
    clear hb1 hb2
    go_wp2_with fail
    go_loop [8, 35] (fun v i => v = .slice none 0 0 ∧ i = .int .i64 0) (fun _ _ => 0)
    case atStart => exact ⟨rfl, rfl⟩
    case round =>
      obtain ⟨rfl, rfl⟩ := hrel
      go_wp2_with fail
      go_ret
      exact ⟨rfl, HB2.out⟩
end Ve
end Go.Proofs.YtdhaechjdigbbaaGreatDoor

/-
  What index.versions, Versions, Latest and Paths answer.
-/
namespace Go.Proofs.YtdhaechjdigbbaaGreatDoor
open Go.RowKit
namespace Ve

/-- The versions, the paths of a row of entries. -/
def verL (L : List Raw) : List ByteArray := L.map fun r => r.1.2
def pathL (L : List Raw) : List ByteArray := L.map fun r => r.1.1
theorem verL_len (L : List Raw) : (verL L).length = L.length := by simp [verL]
theorem pathL_len (L : List Raw) : (pathL L).length = L.length := by simp [pathL]
theorem verL_next {L : List Raw} {k : Nat} (hk : k < L.length) : verL (L.take (k + 1)) = verL (L.take k) ++ [L[k].1.2] := by
  unfold verL
  rw [List.take_succ_eq_append_getElem hk, List.map_append]; rfl
theorem pathL_next {L : List Raw} {k : Nat} (hk : k < L.length) : pathL (L.take (k + 1)) = pathL (L.take k) ++ [L[k].1.1] := by
  unfold pathL
  rw [List.take_succ_eq_append_getElem hk, List.map_append]; rfl
theorem own_nextT {W : World} {B : Nat} {e : TypeId} {v : Value} {X X' : List ByteArray} {x : ByteArray} (h : W.ownsRow B e 1 v (X.length + 1) (X.map Value.string ++ [.string x])) (hl : X' = X ++ [x]) : W.ownsRow B e 1 v X'.length (X'.map Value.string) := by
  subst hl
  rw [List.length_append, List.map_append]
  exact h
set_option maxHeartbeats 4000000 in
set_option maxRecDepth 100000 in
theorem versions_some (L : List Raw) (b o c : Nat) (w : World) (hL : L.length ≤ 1000) (hs : ∀ r, r ∈ L → slR r)
    (hc : ∀ j (h : j < L.length), w.cell? ⟨b, o + j * 5, none⟩ = some (.string L[j].1.1) ∧ w.cell? ⟨b, o + j * 5 + 1, none⟩ = some (.string L[j].1.2) ∧ w.cell? ⟨b, o + j * 5 + 2, none⟩ = some L[j].2.1 ∧ w.cell? ⟨b, o + j * 5 + 3, none⟩ = some L[j].2.2.1 ∧ w.cell? ⟨b, o + j * 5 + 4, none⟩ = some (.bool L[j].2.2.2))
    (Post : Value → World → Prop) (hk : ∀ u W, W.ownsRow w.heap.size 9 1 u (verL L).length ((verL L).map Value.string) → Below w.heap.size w W → Calls Tryz.prog 62 #[u] W fun e w' => ∃ x, e = .returned x ∧ Post x w') :
    Calls Tryz.prog 31 #[.slice (some ⟨b, o, none⟩) L.length c] w fun e w' => ∃ x, e = .returned x ∧ Post x w' := by
  obtain ⟨i0, hi, hz0, hz1, hz2⟩ := info_parts infoStr
  have HC := hid hc
  have HSL := hid hs
  have HK := hid hk
  clear hc hs hk
  go_enter Tryz.func31, Tryz.ntmps31
  go_wp2_with fail
  go_loopw [3, 8] (fun ov i wr => ∃ k : Nat, k ≤ L.length ∧ i = .int .i64 k ∧ Hid (wr.ownsRow w.heap.size 9 1 ov (verL (L.take k)).length ((verL (L.take k)).map Value.string)) ∧ Hid (Below w.heap.size w wr)) (fun _ i _ => L.length - (intOf i).toNat)
  case atStart => exact ⟨0, Nat.zero_le _, rfl, hid (World.ownsRow_nil _ _ _ _), hid (Below.refl _ _)⟩
  case round =>
    obtain ⟨k, hk, rfl, HO, HB⟩ := hrel
    by_cases hlt : k < L.length
    · obtain ⟨y0, y1, y2, y3, y4⟩ := HC.out k hlt
      have x0 := cell_below HB.out y0
      have x1 := cell_below HB.out y1
      have x2 := cell_below HB.out y2
      have x3 := cell_below HB.out y3
      have x4 := cell_below HB.out y4
      have hsl := HSL.out L[k] (List.getElem_mem hlt)
      have hkI : (k : Int) < (L.length : Int) := by omega
      have HLT := hid hlt
      have HY := hid (verL_next hlt)
      have hln : (verL (L.take k)).length = k := by rw [verL_len, List.length_take]; omega
      clear y0 y1 y2 y3 y4
      generalize L[k] = x at *
      obtain ⟨⟨p, q⟩, rv, pv, bk⟩ := x
      obtain ⟨⟨ra, rn, rc, hrv⟩, pa, pn, pc, hpv⟩ := hsl
      simp only at hrv hpv
      subst hrv
      subst hpv
      have HBa := hid (HB.out.alloc HB.out.size (.cells #[.string p, .string q, .slice ra rn rc, .slice pa pn pc, .bool bk] 42))
      have HOa := hid (HO.out.alloc (.cells #[.string p, .string q, .slice ra rn rc, .slice pa pn pc, .bool bk] 42))
      clear hlt
      have hzz := HB.out.size
      go_wp2_with (at_builtin; refine wpList_append_own _ rfl _ _ 29 rfl w.heap.size 9 i0 _ 1 16 Tryz.underlying29 hi hz0 hz1 hz2 rfl (by decide) _ _ _ rfl (HOa.out.alloc _) ⟨wr.heap.size + 1, 0, none⟩ 1 1 [.string q] rfl rfl ?c1 ?c2 ?c3 ?c4 ?c5 ?_)
      case c2 => rfl
      case c3 => unfold maxLen; omega
      case c4 => omega
      case c5 => omega
      intro v' w3 hown hgrow _
      have HR3 := hid (rel_app HBa.out.size HBa.out HOa.out (Below.refl _ _) hgrow)
      have HO3 := hid hown
      clear hown hgrow x0 x1 x2 x3 x4
      go_wp2_with fail
      go_roundw
      case rel => exact ⟨k + 1, by have := HLT.out; omega, by go_num, hid (own_nextT (X := verL (L.take k)) (by rw [hln]; exact HO3.out) HY.out), HR3⟩
      case measure => have := HLT.out; simp [intOf]; omega
    · have HTR := hid (show L.take k = L from List.take_of_length_le (by omega))
      rw [HTR.out] at HO
      have hkI : ¬ (k : Int) < (L.length : Int) := by omega
      have HKK := hid (HK.out _ _ HO.out HB.out)
      clear hlt
      go_wp2_with fail
      refine HKK.out.mono ?_
      rintro e w1 ⟨x, rfl, hp⟩
      have HP := hid hp
      clear hp
      go_wp2_with fail
      go_ret
      exact ⟨_, rfl, HP.out⟩
theorem versions_none (a : Option Addr) (c : Nat) (w : World)
    (Post : Value → World → Prop) (hk : Calls Tryz.prog 62 #[.slice none 0 0] w fun e w' => ∃ x, e = .returned x ∧ Post x w') :
    Calls Tryz.prog 31 #[.slice a 0 c] w fun e w' => ∃ x, e = .returned x ∧ Post x w' := by
  have HK := hid hk
  clear hk
  go_enter Tryz.func31, Tryz.ntmps31
  go_wp2_with fail
  go_loopw [3, 8] (fun ov i wr => ov = .slice none 0 0 ∧ i = .int .i64 0 ∧ wr = w) (fun _ i _ => 0)
  case atStart => exact ⟨rfl, rfl, rfl⟩
  case round =>
    obtain ⟨rfl, rfl, rfl⟩ := hrel
    go_wp2_with fail
    refine HK.out.mono ?_
    rintro e w1 ⟨x, rfl, hp⟩
    have HP := hid hp
    clear hp
    go_wp2_with fail
    go_ret
    exact ⟨_, rfl, HP.out⟩
set_option maxHeartbeats 4000000 in
set_option maxRecDepth 100000 in
theorem paths_some (L : List Raw) (b o c : Nat) (w : World) (hL : L.length ≤ 1000) (hs : ∀ r, r ∈ L → slR r)
    (hc : ∀ j (h : j < L.length), w.cell? ⟨b, o + j * 5, none⟩ = some (.string L[j].1.1) ∧ w.cell? ⟨b, o + j * 5 + 1, none⟩ = some (.string L[j].1.2) ∧ w.cell? ⟨b, o + j * 5 + 2, none⟩ = some L[j].2.1 ∧ w.cell? ⟨b, o + j * 5 + 3, none⟩ = some L[j].2.2.1 ∧ w.cell? ⟨b, o + j * 5 + 4, none⟩ = some (.bool L[j].2.2.2))
    (Post : Value → World → Prop) (hk : ∀ u W, W.ownsRow w.heap.size 9 1 u (pathL L).length ((pathL L).map Value.string) → Below w.heap.size w W → Calls Tryz.prog 30 #[u] W fun e w' => ∃ x, e = .returned x ∧ Post x w') :
    Calls Tryz.prog 10 #[.slice (some ⟨b, o, none⟩) L.length c] w fun e w' => ∃ x, e = .returned x ∧ Post x w' := by
  obtain ⟨i0, hi, hz0, hz1, hz2⟩ := info_parts infoStr
  have HC := hid hc
  have HSL := hid hs
  have HK := hid hk
  clear hc hs hk
  go_enter Tryz.func10, Tryz.ntmps10
  go_wp2_with fail
  go_loopw [3, 8] (fun ov i wr => ∃ k : Nat, k ≤ L.length ∧ i = .int .i64 k ∧ Hid (wr.ownsRow w.heap.size 9 1 ov (pathL (L.take k)).length ((pathL (L.take k)).map Value.string)) ∧ Hid (Below w.heap.size w wr)) (fun _ i _ => L.length - (intOf i).toNat)
  case atStart => exact ⟨0, Nat.zero_le _, rfl, hid (World.ownsRow_nil _ _ _ _), hid (Below.refl _ _)⟩
  case round =>
    obtain ⟨k, hk, rfl, HO, HB⟩ := hrel
    by_cases hlt : k < L.length
    · obtain ⟨y0, y1, y2, y3, y4⟩ := HC.out k hlt
      have x0 := cell_below HB.out y0
      have x1 := cell_below HB.out y1
      have x2 := cell_below HB.out y2
      have x3 := cell_below HB.out y3
      have x4 := cell_below HB.out y4
      have hsl := HSL.out L[k] (List.getElem_mem hlt)
      have hkI : (k : Int) < (L.length : Int) := by omega
      have HLT := hid hlt
      have HY := hid (pathL_next hlt)
      have hln : (pathL (L.take k)).length = k := by rw [pathL_len, List.length_take]; omega
      clear y0 y1 y2 y3 y4
      generalize L[k] = x at *
      obtain ⟨⟨p, q⟩, rv, pv, bk⟩ := x
      obtain ⟨⟨ra, rn, rc, hrv⟩, pa, pn, pc, hpv⟩ := hsl
      simp only at hrv hpv
      subst hrv
      subst hpv
      have HBa := hid (HB.out.alloc HB.out.size (.cells #[.string p, .string q, .slice ra rn rc, .slice pa pn pc, .bool bk] 42))
      have HOa := hid (HO.out.alloc (.cells #[.string p, .string q, .slice ra rn rc, .slice pa pn pc, .bool bk] 42))
      clear hlt
      have hzz := HB.out.size
      go_wp2_with (at_builtin; refine wpList_append_own _ rfl _ _ 29 rfl w.heap.size 9 i0 _ 1 16 Tryz.underlying29 hi hz0 hz1 hz2 rfl (by decide) _ _ _ rfl (HOa.out.alloc _) ⟨wr.heap.size + 1, 0, none⟩ 1 1 [.string p] rfl rfl ?c1 ?c2 ?c3 ?c4 ?c5 ?_)
      case c2 => rfl
      case c3 => unfold maxLen; omega
      case c4 => omega
      case c5 => omega
      intro v' w3 hown hgrow _
      have HR3 := hid (rel_app HBa.out.size HBa.out HOa.out (Below.refl _ _) hgrow)
      have HO3 := hid hown
      clear hown hgrow x0 x1 x2 x3 x4
      go_wp2_with fail
      go_roundw
      case rel => exact ⟨k + 1, by have := HLT.out; omega, by go_num, hid (own_nextT (X := pathL (L.take k)) (by rw [hln]; exact HO3.out) HY.out), HR3⟩
      case measure => have := HLT.out; simp [intOf]; omega
    · have HTR := hid (show L.take k = L from List.take_of_length_le (by omega))
      rw [HTR.out] at HO
      have hkI : ¬ (k : Int) < (L.length : Int) := by omega
      have HKK := hid (HK.out _ _ HO.out HB.out)
      clear hlt
      go_wp2_with fail
      refine HKK.out.mono ?_
      rintro e w1 ⟨x, rfl, hp⟩
      have HP := hid hp
      clear hp
      go_wp2_with fail
      go_ret
      exact ⟨_, rfl, HP.out⟩
theorem paths_none (a : Option Addr) (c : Nat) (w : World)
    (Post : Value → World → Prop) (hk : Calls Tryz.prog 30 #[.slice none 0 0] w fun e w' => ∃ x, e = .returned x ∧ Post x w') :
    Calls Tryz.prog 10 #[.slice a 0 c] w fun e w' => ∃ x, e = .returned x ∧ Post x w' := by
  have HK := hid hk
  clear hk
  go_enter Tryz.func10, Tryz.ntmps10
  go_wp2_with fail
  go_loopw [3, 8] (fun ov i wr => ov = .slice none 0 0 ∧ i = .int .i64 0 ∧ wr = w) (fun _ i _ => 0)
  case atStart => exact ⟨rfl, rfl, rfl⟩
  case round =>
    obtain ⟨rfl, rfl, rfl⟩ := hrel
    go_wp2_with fail
    refine HK.out.mono ?_
    rintro e w1 ⟨x, rfl, hp⟩
    have HP := hid hp
    clear hp
    go_wp2_with fail
    go_ret
    exact ⟨_, rfl, HP.out⟩
/-- index.versions. -/
theorem versions_any (L : List Raw) (v : Value) (aT aB : Addr) (m : Int) (w : World) (hL : L.length ≤ 1000) (hz : ∀ r, r ∈ L → r.1.2.size ≤ 80) (S : Vs w aT aB m) (htab : Lib.TabIs Tryz.prog w powName .u64 Lib.pow10Tab) (hv : EsAt w v L) :
    Calls Tryz.prog 31 #[v] w fun e w' => ∃ u, e = .returned u ∧ ∃ X, w'.ownsRow w.heap.size 9 1 u X.length (X.map Value.string) ∧ Kept (verL L) (verL L).length X ∧ Below w.heap.size w w' := by
  obtain ⟨a, c, rfl, _, hs, h⟩ := hv
  cases L with
  | nil => exact versions_none a c w (fun u w' => ∃ X, w'.ownsRow w.heap.size 9 1 u X.length (X.map Value.string) ∧ Kept (verL []) (verL []).length X ∧ Below w.heap.size w w') ((vsort_none w).mono fun e w' ⟨h1, h2⟩ => ⟨_, h1, [], World.ownsRow_nil _ _ _ _, kept_none, h2⟩)
  | cons x r =>
    obtain ⟨b, o, rfl, h2⟩ := h (by simp)
    refine versions_some (x :: r) b o c w hL hs h2 (fun u w' => ∃ X, w'.ownsRow w.heap.size 9 1 u X.length (X.map Value.string) ∧ Kept (verL (x :: r)) (verL (x :: r)).length X ∧ Below w.heap.size w w') fun u W ho hb => ?_
    obtain ⟨a', c', rfl, _, h3⟩ := own_tx ho
    obtain ⟨b', o', rfl, h4⟩ := h3 (by simp [verL])
    refine (vsort_any b' o' c' (verL (x :: r)) aT aB m W (S.below hb) (tab_below htab hb) h4 (by rw [verL_len]; exact hL) (fun y hy => ?_)).mono ?_
    · obtain ⟨r', hr', rfl⟩ := List.mem_map.1 hy
      exact hz r' hr'
    · rintro e w' ⟨u, X, rfl, h5, h6, h7⟩
      exact ⟨u, rfl, X, own_baseN h5 hb.size, h6, hb.trans (h7.mono hb.size)⟩
/-- index.Paths. -/
theorem paths_any (L : List Raw) (v : Value) (w : World) (hL : L.length ≤ 1000) (hv : EsAt w v L) :
    Calls Tryz.prog 10 #[v] w fun e w' => ∃ u, e = .returned u ∧ w'.ownsRow w.heap.size 9 1 u (tx (risB (bl (pathL L)))).length ((tx (risB (bl (pathL L)))).map Value.string) ∧ Below w.heap.size w w' := by
  obtain ⟨a, c, rfl, _, hs, h⟩ := hv
  cases L with
  | nil =>
    refine paths_none a c w _ ((rising_any [] (by simp) (.slice none 0 0) w ⟨none, 0, rfl, Nat.le_refl _, fun h => absurd rfl h⟩).mono fun e w' ⟨u, h1, h2, h3⟩ => ⟨u, h1, h2, h3⟩)
  | cons x r =>
    obtain ⟨b, o, rfl, h2⟩ := h (by simp)
    refine paths_some (x :: r) b o c w hL hs h2 _ fun u W ho hb => ?_
    refine (rising_any (pathL (x :: r)) (by rw [pathL_len]; omega) u W (own_tx ho)).mono ?_
    rintro e w' ⟨u', rfl, h5, h7⟩
    exact ⟨u', rfl, own_baseN h5 hb.size, hb.trans (h7.mono hb.size)⟩
end Ve
end Go.Proofs.YtdhaechjdigbbaaGreatDoor

/-
  What index.Versions and index.Latest answer.
-/
namespace Go.Proofs.YtdhaechjdigbbaaGreatDoor
open Go.RowKit
namespace Ve

/-- The entries of a path whose version is one. -/
def ofP (t : ByteArray) (L : List Raw) : List Raw := L.filter (isP t)
theorem ofP_len (t : ByteArray) (L : List Raw) : (ofP t L).length ≤ L.length := List.length_filter_le _ _
theorem bestR_sub {L : List Raw} {r : Raw} (h : r ∈ bestR L) : r ∈ L := by
  unfold bestR at h
  split at h
  · exact (List.mem_filter.1 (List.mem_filter.1 h).1).1
  · split at h
    · exact (List.mem_filter.1 h).1
    · exact h
theorem bestR_len (L : List Raw) : (bestR L).length ≤ L.length := by
  unfold bestR
  split
  · exact Nat.le_trans (List.length_filter_le _ _) (List.length_filter_le _ _)
  · split
    · exact List.length_filter_le _ _
    · exact Nat.le_refl _
/-- The last of a row of texts, or none. -/
def lastT (X : List ByteArray) : ByteArray := X.getLast?.getD ⟨#[]⟩
theorem lastT_nil : lastT [] = ⟨#[]⟩ := rfl
theorem lastT_get {X : List ByteArray} (h : 0 < X.length) : lastT X = X[X.length - 1] := by
  unfold lastT
  rw [List.getLast?_eq_getElem?, List.getElem?_eq_getElem (by omega)]; rfl
theorem own_max {W : World} {B n k : Nat} {e : TypeId} {v : Value} {xs : List Value} (h : W.ownsRow B e k v n xs) : n ≤ maxLen := by
  obtain ⟨_, ⟨hv, hn0⟩ | ⟨g, cap, cur, hv, hg, hblk, hcap, hcm, hcs, hct⟩⟩ := h
  · rw [hn0]; exact Nat.zero_le _
  · exact Nat.le_trans hcap hcm
set_option maxRecDepth 100000 in
set_option maxHeartbeats 2000000 in
/-- index.Versions. -/
theorem vers_any (L : List Raw) (t : ByteArray) (v : Value) (aT aB : Addr) (m : Int) (w : World) (hL : L.length ≤ 1000) (hz : ∀ r, r ∈ L → r.1.1.size ≤ 80 ∧ r.1.2.size ≤ 80) (S : Vs w aT aB m) (htab : Lib.TabIs Tryz.prog w powName .u64 Lib.pow10Tab) (hv : EsAt w v L) :
    Calls Tryz.prog 11 #[v, .string t] w fun e w' => ∃ u, e = .returned u ∧ ∃ X, w'.ownsRow w.heap.size 9 1 u X.length (X.map Value.string) ∧ Kept (verL (ofP t L)) (verL (ofP t L)).length X ∧ Below w.heap.size w w' := by
  obtain ⟨a, c, rfl, _⟩ := id hv
  have hsh : shortR L := fun r hr => ⟨by have := (hz r hr).1; omega, by have := (hz r hr).2; omega⟩
  have HP := hid (ofPath_any L t _ aT aB m w (by omega) hsh S hv)
  have HZ := hid hz
  have HS := hid S
  have HT := hid htab
  have hll := ofP_len t L
  clear hv S htab hz hsh
  go_enter Tryz.func11, Tryz.ntmps11
  go_wp2_with fail
  refine HP.out.mono ?_
  rintro e w1 ⟨v1, rfl, he, hb⟩
  have HV := hid (versions_any (ofP t L) v1 aT aB m w1 (by omega) (fun r hr => (HZ.out r (List.mem_filter.1 hr).1).2) (HS.out.below hb) (tab_below HT.out hb) he)
  have HB := hid hb
  obtain ⟨a1, c1, rfl, _⟩ := he
  clear hb
  go_wp2_with fail
  refine HV.out.mono ?_
  rintro e w2 ⟨u, rfl, X, h1, h2, h3⟩
  obtain ⟨ua, uc, hu⟩ := own_slN h1
  subst hu
  have HR := hid (⟨own_baseN h1 HB.out.size, h2, HB.out.trans (h3.mono HB.out.size)⟩ : _ ∧ _ ∧ Below w.heap.size w w2)
  clear h1 h2 h3
  go_wp2_with fail
  go_ret
  exact ⟨_, rfl, X, HR.out⟩
set_option maxRecDepth 100000 in
set_option maxHeartbeats 4000000 in
/-- index.Latest. -/
theorem latest_any (L : List Raw) (t : ByteArray) (v : Value) (aT aB : Addr) (m : Int) (w : World) (hL : L.length ≤ 1000) (hz : ∀ r, r ∈ L → r.1.1.size ≤ 80 ∧ r.1.2.size ≤ 80) (S : Vs w aT aB m) (htab : Lib.TabIs Tryz.prog w powName .u64 Lib.pow10Tab) (hv : EsAt w v L) :
    Calls Tryz.prog 12 #[v, .string t] w fun e w' => ∃ X, e = .returned (.string (lastT X)) ∧ Kept (verL (bestR (ofP t L))) (verL (bestR (ofP t L))).length X ∧ Below w.heap.size w w' := by
  obtain ⟨a, c, rfl, _⟩ := id hv
  have hsh : shortR L := fun r hr => ⟨by have := (hz r hr).1; omega, by have := (hz r hr).2; omega⟩
  have HP := hid (ofPath_any L t _ aT aB m w (by omega) hsh S hv)
  have HSH := hid (hsh.filter (isP t))
  have HZ := hid hz
  have HS := hid S
  have HT := hid htab
  have hll := ofP_len t L
  have hlb := bestR_len (ofP t L)
  clear hv S htab hz hsh
  go_enter Tryz.func12, Tryz.ntmps12
  go_wp2_with fail
  refine HP.out.mono ?_
  rintro e w1 ⟨v1, rfl, he, hb⟩
  have HBE := hid (best_any (ofP t L) v1 aT aB m w1 (by omega) HSH.out (HS.out.below hb) he)
  have HB := hid hb
  obtain ⟨a1, c1, rfl, _⟩ := he
  clear hb
  go_wp2_with fail
  refine HBE.out.mono ?_
  rintro e w2 ⟨v2, rfl, he, hb⟩
  have HB2 := hid (HB.out.trans (hb.mono HB.out.size))
  have HV := hid (versions_any (bestR (ofP t L)) v2 aT aB m w2 (by omega) (fun r hr => (HZ.out r (List.mem_filter.1 (bestR_sub hr)).1).2) (HS.out.below HB2.out) (tab_below HT.out HB2.out) he)
  obtain ⟨a2, c2, rfl, _⟩ := he
  clear hb
  go_wp2_with fail
  refine HV.out.mono ?_
  rintro e w3 ⟨u, rfl, X, h1, h2, h3⟩
  obtain ⟨ua, uc, hu, _, hcell⟩ := own_tx h1
  subst hu
  have HR := hid (⟨h2, HB2.out.trans (h3.mono HB2.out.size)⟩ : _ ∧ Below w.heap.size w w3)
  have HCC := hid hcell
  have hmx := own_max h1
  clear h1 h2 h3 hcell
  by_cases hX : 0 < X.length
  · obtain ⟨b, o, rfl, hcc⟩ := HCC.out (by intro h; rw [h] at hX; simp at hX)
    have hlast := hcc (X.length - 1) (by omega)
    have HLT := hid (lastT_get hX)
    rw [← HLT.out] at hlast
    have hne : ((X.length : Int) == 0) = false := by rw [beq_eq_false_iff_ne]; omega
    have hx1 : (X.length : Int) - 1 = ((X.length - 1 : Nat) : Int) := by omega
    have hx2 : ((X.length - 1 : Nat) : Int) < (X.length : Int) := by omega
    have hw64 : wrap64 ((X.length - 1 : Nat) : Int) = ((X.length - 1 : Nat) : Int) := IntWalk.wrap64_in _ (by unfold maxLen at hmx; omega)
    have htn : ((X.length - 1 : Nat) : Int).toNat = X.length - 1 := Int.toNat_natCast _
    clear hcc
    go_wp2_with fail
    go_ret
    exact ⟨X, rfl, HR.out⟩
  · have hx0 : X = [] := List.eq_nil_of_length_eq_zero (by omega)
    subst hx0
    go_wp2_with fail
    go_ret
    exact ⟨[], rfl, HR.out⟩
end Ve
end Go.Proofs.YtdhaechjdigbbaaGreatDoor

/-
  Modules whose paths rise, plain: what is ahead of a path, what is behind it, and what is at it.
-/
namespace Go.Proofs.YtdhaechjdigbbaaGreatDoor
open Go.RowKit
namespace Ve

theorem cbt : ∀ (a b c : List UInt8), Lib.compareBytes a b < 0 → Lib.compareBytes b c < 0 → Lib.compareBytes a c < 0 := by
  intro a
  induction a with
  | nil =>
    intro b c h1 h2
    cases c with
    | nil => cases b <;> simp [Lib.compareBytes] at h2
    | cons z c => simp [Lib.compareBytes]
  | cons x a ih =>
    intro b c h1 h2
    cases b with
    | nil => simp [Lib.compareBytes] at h1
    | cons y b =>
      cases c with
      | nil => simp [Lib.compareBytes] at h2
      | cons z c =>
        simp only [Lib.compareBytes] at h1 h2 ⊢
        by_cases e1 : x < y
        · by_cases e2 : y < z
          · rw [if_pos (UInt8.lt_trans e1 e2)]; omega
          · rw [if_neg e2] at h2
            by_cases e3 : z < y
            · rw [if_pos e3] at h2; omega
            · have : y = z := UInt8.le_antisymm (UInt8.not_lt.1 e3) (UInt8.not_lt.1 e2)
              subst this
              rw [if_pos e1]; omega
        · rw [if_neg e1] at h1
          by_cases e2 : y < x
          · rw [if_pos e2] at h1; omega
          · have : x = y := UInt8.le_antisymm (UInt8.not_lt.1 e2) (UInt8.not_lt.1 e1)
            subst this
            rw [if_neg e2] at h1
            by_cases e3 : x < z
            · rw [if_pos e3]; omega
            · rw [if_neg e3] at h2 ⊢
              by_cases e4 : z < x
              · rw [if_pos e4] at h2; omega
              · rw [if_neg e4] at h2 ⊢
                exact ih b c h1 h2
/-- Less, by bytes. -/
def lt (a b : ByteArray) : Bool := decide (Lib.compareBytes a.data.toList b.data.toList < 0)
theorem lt_trans {a b c : ByteArray} (h1 : lt a b = true) (h2 : lt b c = true) : lt a c = true := decide_eq_true (cbt _ _ _ (of_decide_eq_true h1) (of_decide_eq_true h2))
theorem lt_irrefl (a : ByteArray) : lt a a = false := by
  unfold lt; rw [(cb_zero _ _).2 rfl]; rfl
theorem lt_asymm {a b : ByteArray} (h : lt a b = true) : lt b a = false := by
  cases h2 : lt b a
  · rfl
  · have := lt_trans h h2
    rw [lt_irrefl] at this; cases this
theorem lt_three (a b : ByteArray) : lt a b = true ∨ a = b ∨ lt b a = true := by
  rcases cb_range a.data.toList b.data.toList with h | h | h
  · exact Or.inl (decide_eq_true (by omega))
  · exact Or.inr (Or.inl (str_ext ((cb_zero _ _).1 h)))
  · refine Or.inr (Or.inr (decide_eq_true ?_))
    rw [cb_swap]; omega
theorem noLess_lt (a b : ByteArray) : noLess a b = !lt a b := rfl
/-- Paths rise. -/
def rising (R : List Bm) : Prop := R.Pairwise (fun a b => lt a.1 b.1 = true)
theorem rising_of {own : ByteArray} {R : List Bm} (h : ∀ j, j < R.length → reqE own R j = 0) : rising R := by
  have hc : ∀ j, (hj : j + 1 < R.length) → lt R[j].1 R[j + 1].1 = true := by
    intro j hj
    have h1 := h (j + 1) hj
    unfold reqE prevOf at h1
    rw [List.getElem?_eq_getElem hj, if_neg (by omega)] at h1
    simp only [Nat.add_sub_cancel] at h1
    rw [List.getElem?_eq_getElem (show j < R.length by omega)] at h1
    unfold reqW at h1
    simp only at h1
    by_cases e1 : mErr R[j + 1] = 0
    · rw [if_pos e1] at h1
      by_cases e2 : R[j + 1].1 = own
      · rw [if_pos e2] at h1; omega
      · rw [if_neg e2] at h1
        rw [noLess_lt] at h1
        cases e3 : lt R[j].1 R[j + 1].1
        · rw [e3] at h1; simp at h1
        · rfl
    · rw [if_neg e1] at h1; exact absurd h1 e1
  unfold rising
  rw [List.pairwise_iff_getElem]
  intro i j hi hj hij
  induction j with
  | zero => omega
  | succ j ih =>
    rcases Nat.lt_or_ge i j with hh | hh
    · exact lt_trans (ih (by omega) hh) (hc j hj)
    · have : i = j := by omega
      subst this
      exact hc i hj
def loR (R : List Bm) (p : ByteArray) : List Bm := R.filter (fun m => lt m.1 p)
def hiR (R : List Bm) (p : ByteArray) : List Bm := R.filter (fun m => lt p m.1)
def eqR (R : List Bm) (p : ByteArray) : List Bm := R.filter (fun m => decide (m.1 = p))
theorem three_R {R : List Bm} (h : rising R) (p : ByteArray) : R = loR R p ++ (eqR R p ++ hiR R p) ∧ ((eqR R p = [] ∧ ∀ m, m ∈ R → m.1 ≠ p) ∨ ∃ q, eqR R p = [q] ∧ q.1 = p) := by
  induction R with
  | nil => exact ⟨rfl, Or.inl ⟨rfl, fun m hm => by cases hm⟩⟩
  | cons a r ih =>
    have hr : rising r := (List.pairwise_cons.1 h).2
    have ha : ∀ m, m ∈ r → lt a.1 m.1 = true := (List.pairwise_cons.1 h).1
    obtain ⟨e, hq⟩ := ih hr
    rcases lt_three a.1 p with h1 | h1 | h1
    · have h2 := lt_asymm h1
      have h3 : a.1 ≠ p := fun e => by rw [e, lt_irrefl] at h1; cases h1
      have e1 : loR (a :: r) p = a :: loR r p := by unfold loR; rw [List.filter_cons_of_pos (by simpa using h1)]
      have e2 : hiR (a :: r) p = hiR r p := by unfold hiR; rw [List.filter_cons_of_neg (by simp [h2])]
      have e3 : eqR (a :: r) p = eqR r p := by unfold eqR; rw [List.filter_cons_of_neg (by simp [h3])]
      rw [e1, e2, e3]
      refine ⟨by rw [List.cons_append, ← e], ?_⟩
      rcases hq with ⟨q1, q2⟩ | hq
      · refine Or.inl ⟨q1, fun m hm => ?_⟩
        rcases List.mem_cons.1 hm with rfl | hm
        · exact h3
        · exact q2 m hm
      · exact Or.inr hq
    · have hl : loR r p = [] := by
        unfold loR; rw [List.filter_eq_nil_iff]; intro m hm
        have := lt_asymm (ha m hm); rw [h1] at this; simp [this]
      have he : eqR r p = [] := by
        unfold eqR; rw [List.filter_eq_nil_iff]; intro m hm
        have := ha m hm
        simp only [decide_eq_true_eq]
        intro e; rw [h1, e, lt_irrefl] at this; cases this
      have e1 : loR (a :: r) p = [] := by unfold loR; rw [List.filter_cons_of_neg (by rw [h1, lt_irrefl]; simp)]; exact hl
      have e2 : hiR (a :: r) p = hiR r p := by unfold hiR; rw [List.filter_cons_of_neg (by rw [h1, lt_irrefl]; simp)]
      have e3 : eqR (a :: r) p = [a] := by unfold eqR; rw [List.filter_cons_of_pos (by simp [h1])]; exact congrArg (a :: ·) he
      rw [e1, e2, e3]
      rw [hl, he] at e
      exact ⟨by rw [List.nil_append, List.singleton_append]; exact congrArg (a :: ·) e, Or.inr ⟨a, rfl, h1⟩⟩
    · have hg : ∀ m, m ∈ a :: r → lt p m.1 = true := fun m hm => by
        rcases List.mem_cons.1 hm with rfl | hm
        · exact h1
        · exact lt_trans h1 (ha m hm)
      have e1 : loR (a :: r) p = [] := by
        unfold loR; rw [List.filter_eq_nil_iff]; intro m hm; rw [lt_asymm (hg m hm)]; simp
      have e3 : eqR (a :: r) p = [] := by
        unfold eqR; rw [List.filter_eq_nil_iff]; intro m hm
        have := hg m hm
        simp only [decide_eq_true_eq]
        intro e; rw [e, lt_irrefl] at this; cases this
      have e2 : hiR (a :: r) p = a :: r := by unfold hiR; rw [List.filter_eq_self]; exact hg
      rw [e1, e2, e3]
      refine ⟨rfl, Or.inl ⟨rfl, fun m hm e => ?_⟩⟩
      have := hg m hm
      rw [e, lt_irrefl] at this; cases this
/-- What is required once m is set; once a path is dropped. -/
def setR (R : List Bm) (m : Bm) : List Bm := loR R m.1 ++ m :: hiR R m.1
def dropR (R : List Bm) (p : ByteArray) : List Bm := loR R p ++ hiR R p
theorem loR_mem {R : List Bm} {p : ByteArray} {m : Bm} : m ∈ loR R p ↔ m ∈ R ∧ lt m.1 p = true := List.mem_filter
theorem hiR_mem {R : List Bm} {p : ByteArray} {m : Bm} : m ∈ hiR R p ↔ m ∈ R ∧ lt p m.1 = true := List.mem_filter
theorem loR_set (R : List Bm) (m : Bm) : loR (setR R m) m.1 = loR R m.1 := by
  unfold setR loR
  rw [List.filter_append, List.filter_filter, List.filter_cons_of_neg (by rw [lt_irrefl]; simp)]
  have e1 : (hiR R m.1).filter (fun x => lt x.1 m.1) = [] := by
    rw [List.filter_eq_nil_iff]; intro x hx; rw [lt_asymm (hiR_mem.1 hx).2]; simp
  rw [e1, List.append_nil]
  simp
theorem hiR_set (R : List Bm) (m : Bm) : hiR (setR R m) m.1 = hiR R m.1 := by
  unfold setR
  have e0 : ∀ (a b : List Bm), hiR (a ++ b) m.1 = hiR a m.1 ++ hiR b m.1 := fun a b => List.filter_append _ _
  rw [e0]
  have e1 : hiR (loR R m.1) m.1 = [] := by
    unfold hiR; rw [List.filter_eq_nil_iff]; intro x hx; rw [lt_asymm (loR_mem.1 hx).2]; simp
  have e2 : hiR (m :: hiR R m.1) m.1 = hiR R m.1 := by
    unfold hiR; rw [List.filter_cons_of_neg (by rw [lt_irrefl]; simp), List.filter_filter]; simp
  rw [e1, e2, List.nil_append]
theorem drop_set (R : List Bm) (m : Bm) : dropR (setR R m) m.1 = dropR R m.1 := by unfold dropR; rw [loR_set, hiR_set]
theorem drop_mem {R : List Bm} {p : ByteArray} {m : Bm} : m ∈ dropR R p ↔ m ∈ R ∧ m.1 ≠ p := by
  unfold dropR
  rw [List.mem_append, loR_mem, hiR_mem]
  constructor
  · rintro (⟨h1, h2⟩ | ⟨h1, h2⟩)
    · exact ⟨h1, fun e => by rw [e, lt_irrefl] at h2; cases h2⟩
    · exact ⟨h1, fun e => by rw [e, lt_irrefl] at h2; cases h2⟩
  · rintro ⟨h1, h2⟩
    rcases lt_three m.1 p with h | h | h
    · exact Or.inl ⟨h1, h⟩
    · exact absurd h h2
    · exact Or.inr ⟨h1, h⟩
theorem rising_drop {R : List Bm} (h : rising R) (p : ByteArray) : dropR R p = R.filter (fun m => decide (m.1 ≠ p)) := by
  obtain ⟨e, hq⟩ := three_R h p
  have e0 : ∀ (a b : List Bm), (a ++ b).filter (fun m => decide (m.1 ≠ p)) = a.filter (fun m => decide (m.1 ≠ p)) ++ b.filter (fun m => decide (m.1 ≠ p)) := fun a b => List.filter_append _ _
  have e1 : (loR R p).filter (fun m => decide (m.1 ≠ p)) = loR R p := by
    rw [List.filter_eq_self]; intro x hx
    have := (loR_mem.1 hx).2
    exact decide_eq_true (fun e => by rw [e, lt_irrefl] at this; cases this)
  have e2 : (hiR R p).filter (fun m => decide (m.1 ≠ p)) = hiR R p := by
    rw [List.filter_eq_self]; intro x hx
    have := (hiR_mem.1 hx).2
    exact decide_eq_true (fun e => by rw [e, lt_irrefl] at this; cases this)
  have e3 : (eqR R p).filter (fun m => decide (m.1 ≠ p)) = [] := by
    rw [List.filter_eq_nil_iff]; intro x hx
    have : x.1 = p := of_decide_eq_true (List.mem_filter.1 hx).2
    simp [this]
  conv => rhs; rw [e, e0, e0, e1, e2, e3]
  rfl
end Ve
end Go.Proofs.YtdhaechjdigbbaaGreatDoor
