/-
  slices.CompactFunc over a sorted row of modules: of each path the first one stays.
-/
import Derived.Test.YtoaobngpdaidoaaGreatDoorUn4
import Derived.Deep.RegionHeld
import Derived.Lib.AppendZeros
import Derived.Test.YtoaobngpdaidoaaGreatDoorUn1
import Derived.Test.YtoaobngpdaidoaaGreatDoorSplitAny
import Derived.Test.YtoaobngpdaidoaaGreatDoorOrdB
import Derived.Test.YtoaobngpdaidoaaGreatDoorUn3
namespace Go.Proofs.YtoaobngpdaidoaaGreatDoor
open Go.RowKit
namespace Ve

set_option maxHeartbeats 1000000 in
/-- Two modules: are they of one path? -/
theorem sameP_any (a b : Bm) (W : World) :
    Calls Tryz.prog 74 #[.agg #[.string a.1, .string a.2], .agg #[.string b.1, .string b.2]] W fun e w' => e = .returned (.bool (decide (a.1 = b.1))) ∧ Below W.heap.size W w' := by
  obtain ⟨p, v⟩ := a
  obtain ⟨q, u⟩ := b
  have HB0 := hid (((Below.refl W.heap.size W).alloc (Nat.le_refl _) (.cells #[.string p, .string v] 46)).alloc (by simp) (.cells #[.string q, .string u] 46))
  by_cases h : p = q
  · subst h
    have he := str_refl p
    have HD := hid (show decide (p = p) = true by simp)
    show Calls Tryz.prog 74 _ W fun e w' => e = .returned (.bool (decide (p = p))) ∧ _
    generalize decide (p = p) = z at *
    go_enter Tryz.func74, Tryz.ntmps74
    go_wp2_with fail
    go_ret
    exact ⟨ret_bool HD.out.symm, HB0.out⟩
  · have he := str_ne h
    have HD := hid (show decide (p = q) = false by simp [h])
    show Calls Tryz.prog 74 _ W fun e w' => e = .returned (.bool (decide (p = q))) ∧ _
    generalize decide (p = q) = z at *
    go_enter Tryz.func74, Tryz.ntmps74
    go_wp2_with fail
    go_ret
    exact ⟨ret_bool HD.out.symm, HB0.out⟩
theorem compactM_nil (a : Option Addr) (c : Nat) (W : World) : Calls Tryz.prog 73 #[.slice a 0 c, .func (.func 74) #[] #[]] W fun e w' => e = .returned (.slice a 0 c) ∧ Below W.heap.size W w' := by
  go_enter Tryz.func73, Tryz.ntmps73
  go_wp2_with fail
  go_ret
  exact ⟨rfl, Below.refl _ _⟩

/-- Two neighbours' cells, and the row. -/
def TwoM (w0 W : World) (g i j : Nat) (D : List Bm) (y x : Bm) : Prop :=
  W.cell? ⟨g, i, none⟩ = some (.string y.1) ∧ W.cell? ⟨g, i + 1, none⟩ = some (.string y.2) ∧ W.cell? ⟨g, j, none⟩ = some (.string x.1) ∧ W.cell? ⟨g, j + 1, none⟩ = some (.string x.2) ∧ Hid (Mw w0 W g D)
theorem Mw.two {w0 W : World} {g : Nat} {D : List Bm} (h : Mw w0 W g D) {j : Nat} {y x : Bm} (hy : D[j]? = some y) (hx : D[j + 1]? = some x) : TwoM w0 W g (j * 2) ((j + 1) * 2) D y x :=
  ⟨(h.at hy).1, (h.at hy).2, (h.at hx).1, (h.at hx).2, h⟩
set_option maxRecDepth 100000 in
set_option maxHeartbeats 8000000 in
theorem compact_mw (w0 w : World) (g cap : Nat) (D : List Bm) (hD : D ≠ []) (h12 : D.length ≤ 1000000) (hc : D.length ≤ cap) (hr : ∀ r, r ∈ D → Rt r) (hs : srtM D) (hR : Mw w0 w g D) :
    Calls Tryz.prog 73 #[.slice (some ⟨g, 0, none⟩) D.length cap, .func (.func 74) #[] #[]] w fun e w' => ∃ E : List Bm, e = .returned (.slice (some ⟨g, 0, none⟩) E.length cap) ∧ E.length ≤ D.length ∧ Jn D E ∧ Mw w0 w' g E := by
  have HR := hid hR
  have HS := hid hs
  have HRT := hid hr
  have hpos : 0 < D.length := List.length_pos_iff.2 hD
  clear hR hs hD hr
  by_cases h2 : D.length < 2
  · have h2i : (D.length : Int) < 2 := by omega
    have HRI := hid (show Jn D D by
      have h := (CpM.start hpos HRT.out)
      rw [show (1 : Nat) = D.length by omega, List.take_length] at h
      exact h.jn HRT.out)
    go_enter Tryz.func73, Tryz.ntmps73
    go_wp2_with fail
    go_ret
    exact ⟨D, rfl, Nat.le_refl _, HRI.out, HR.out⟩
  · have h2i : ¬ (D.length : Int) < 2 := by omega
    go_enter Tryz.func73, Tryz.ntmps73
    go_wp2_with fail
    go_loopw [5] (fun i wr => ∃ k : Nat, k + 1 ≤ D.length ∧ i = .int .i64 ((k : Int) + 1) ∧ Hid (CpM D (k + 1) (D.take (k + 1))) ∧ Hid (Mw w0 wr g D)) (fun i _ => D.length - (intOf i).toNat)
    case atStart => exact ⟨0, by omega, rfl, hid (CpM.start hpos HRT.out), HR⟩
    case round =>
      obtain ⟨k, hk, rfl, HCP, HRW⟩ := hrel
      by_cases hkn : k + 1 < D.length
      · have hi1 : (0 : Int) ≤ (k : Int) + 1 := by omega
        have hi2 : (k : Int) + 1 < (D.length : Int) := by omega
        have hi3 : (0 : Int) ≤ (k : Int) := by omega
        have hi4 : (k : Int) < (D.length : Int) := by omega
        have hi5 : (k : Int) + 1 - 1 = (k : Int) := by omega
        have hwp : IntKind.i64.wrap (k : Int) = (k : Int) := by rw [IntKind.wrap_i64]; omega
        have hwe : ((k : Int) + 1).toNat = k + 1 := by omega
        have hcap1 : (k : Int) + 1 ≤ (cap : Int) := by omega
        have hcap2 : (D.length : Int) ≤ (cap : Int) := by omega
        have HPL := hid (fun h => HCP.out.plain HS.out HRT.out hkn h)
        have HSA := hid (fun h => HCP.out.same HS.out HRT.out hkn h)
        have hy2 : D[k]? = some D[k] := List.getElem?_eq_getElem (by omega)
        have hx2 : D[k + 1]? = some D[k + 1] := List.getElem?_eq_getElem hkn
        generalize D[k] = y at *
        generalize D[k + 1] = x at *
        obtain ⟨ty, vy⟩ := y
        obtain ⟨tx, vx⟩ := x
        have HCM := hid (fun W => (show Calls Tryz.prog 74 #[.agg #[.string tx, .string vx], .agg #[.string ty, .string vy]] W
            fun e w' => e = .returned (.bool (decide (tx = ty))) ∧ Below W.heap.size W w' from sameP_any (tx, vx) (ty, vy) W))
        have HTW := hid (fun (W : World) (h : Mw w0 W g D) => (show W.cell? ⟨g, k * 2, none⟩ = some (.string ty) ∧ W.cell? ⟨g, k * 2 + 1, none⟩ = some (.string vy) ∧ W.cell? ⟨g, (k + 1) * 2, none⟩ = some (.string tx) ∧ W.cell? ⟨g, (k + 1) * 2 + 1, none⟩ = some (.string vx) ∧ Hid (Mw w0 W g D) from h.two hy2 hx2))
        obtain ⟨a0, a1, b0, b1, _⟩ := HTW.out _ HRW.out
        clear hy2 hx2
        by_cases hod : tx = ty
        · have HC2 := hid (HSA.out hod)
          rw [decide_eq_true hod] at HCM
          clear hod
          go_wp2_with fail
          go_region_held (fun W => W.cell? ⟨g, k * 2, none⟩ = some (.string ty) ∧ W.cell? ⟨g, k * 2 + 1, none⟩ = some (.string vy) ∧ W.cell? ⟨g, (k + 1) * 2, none⟩ = some (.string tx) ∧ W.cell? ⟨g, (k + 1) * 2 + 1, none⟩ = some (.string vx) ∧ Hid (Mw w0 W g D)) (first | exact HTW.out _ HRa.out | exact HTW.out _ (HRW.out.below (below_drawn _ 1))) (first
            | (go_at_call 74; refine (HCM.out _).mono ?_; rintro e w' ⟨rfl, hb⟩; have HRa := hid ((HRW.out.below (below_drawn _ 1)).below hb); clear hb))
          all_goals
            have HN := hid (show (D.take (k + 1)).length = k + 1 by simp; omega)
            clear a0 a1 b0 b1
            go_wp2_with fail
            go_loopw [5, 7] (fun a b wr2 => ∃ (j : Nat) (E : List Bm), a = .int .i64 (E.length : Int) ∧ b = .int .i64 ((j : Int) + 1) ∧ k + 1 + (j + 1) ≤ D.length ∧ E.length ≤ k + 1 + j ∧ Hid (CpM D (k + 1 + j + 1) E) ∧ Hid (Mw w0 wr2 g (E ++ D.drop E.length))) (fun _ b _ => D.length - (intOf b).toNat)
            case atStart => exact ⟨0, D.take (k + 1), by rw [HN.out]; rfl, rfl, by omega, by rw [HN.out]; omega, HC2, hid (by rw [HN.out, List.take_append_drop]; exact HRa.out)⟩
            case round =>
              obtain ⟨j, E, rfl, rfl, hjD, hEj, HCE, HRV⟩ := hrel
              have HAT := hid (show ∀ i, E.length ≤ i → (E ++ D.drop E.length)[i]? = D[i]? from fun i hi => by rw [List.getElem?_append_right hi, List.getElem?_drop]; congr 1; omega)
              by_cases hj : k + 1 + (j + 1) < D.length
              · have g1 : (0 : Int) ≤ (j : Int) + 1 := by omega
                have g2 : (j : Int) + 1 < ((D.length - (k + 1) : Nat) : Int) := by omega
                have g3 : (0 : Int) ≤ (j : Int) := by omega
                have g4 : (j : Int) < ((D.length - (k + 1) : Nat) : Int) := by omega
                have g5 : (j : Int) + 1 - 1 = (j : Int) := by omega
                have gwp : IntKind.i64.wrap (j : Int) = (j : Int) := by rw [IntKind.wrap_i64]; omega
                have gwe : ((j : Int) + 1).toNat = j + 1 := by omega
                have HMO := hid (fun h => HCE.out.more HS.out HRT.out hj h)
                have HSM := hid (fun h => HCE.out.same HS.out HRT.out hj h)
                have hv2 : (E ++ D.drop E.length)[k + 1 + j]? = some D[k + 1 + j] := by rw [HAT.out _ hEj]; exact List.getElem?_eq_getElem (by omega)
                have hu2 : (E ++ D.drop E.length)[k + 1 + j + 1]? = some D[k + 1 + j + 1] := by rw [HAT.out _ (by omega)]; exact List.getElem?_eq_getElem hj
                generalize D[k + 1 + j] = y at *
                generalize D[k + 1 + j + 1] = x at *
                obtain ⟨sy, vsy⟩ := y
                obtain ⟨sx, vsx⟩ := x
                have HCN := hid (fun W => (show Calls Tryz.prog 74 #[.agg #[.string sx, .string vsx], .agg #[.string sy, .string vsy]] W
                  fun e w' => e = .returned (.bool (decide (sx = sy))) ∧ Below W.heap.size W w' from sameP_any (sx, vsx) (sy, vsy) W))
                have HTV := hid (fun (W : World) (h : Mw w0 W g (E ++ D.drop E.length)) => (show W.cell? ⟨g, (k + 1) * 2 + j * 2, none⟩ = some (.string sy) ∧ W.cell? ⟨g, (k + 1) * 2 + j * 2 + 1, none⟩ = some (.string vsy) ∧ W.cell? ⟨g, (k + 1) * 2 + (j + 1) * 2, none⟩ = some (.string sx) ∧ W.cell? ⟨g, (k + 1) * 2 + (j + 1) * 2 + 1, none⟩ = some (.string vsx) ∧ Hid (Mw w0 W g (E ++ D.drop E.length)) by
                  have h2 := h.two hv2 hu2
                  unfold TwoM at h2
                  rw [show (k + 1 + j) * 2 = (k + 1) * 2 + j * 2 by omega, show (k + 1 + j + 1) * 2 = (k + 1) * 2 + (j + 1) * 2 by omega] at h2
                  exact h2))
                obtain ⟨a0, a1, b0, b1, _⟩ := HTV.out _ HRV.out
                clear hv2 hu2
                by_cases hoe : sx = sy
                · have HC3 := hid (HSM.out hoe)
                  rw [decide_eq_true hoe] at HCN
                  clear hoe
                  go_wp2_with fail
                  go_region_held (fun W => W.cell? ⟨g, (k + 1) * 2 + j * 2, none⟩ = some (.string sy) ∧ W.cell? ⟨g, (k + 1) * 2 + j * 2 + 1, none⟩ = some (.string vsy) ∧ W.cell? ⟨g, (k + 1) * 2 + (j + 1) * 2, none⟩ = some (.string sx) ∧ W.cell? ⟨g, (k + 1) * 2 + (j + 1) * 2 + 1, none⟩ = some (.string vsx) ∧ Hid (Mw w0 W g (E ++ D.drop E.length))) (first | exact HTV.out _ HRb.out | exact HTV.out _ (HRV.out.below (below_drawn _ 1))) (first
                  | (go_at_call 74; refine (HCN.out _).mono ?_; rintro e w' ⟨rfl, hb⟩; have HRb := hid ((HRV.out.below (below_drawn _ 1)).below hb); clear hb))
                  all_goals
                    go_wp2_with fail
                    go_roundw
                    case rel => exact ⟨j + 1, E, rfl, by go_num, by omega, by omega, HC3, HRb⟩
                    case measure => simp [intOf]; omega
                · have HC3 := hid (HMO.out hoe)
                  rw [decide_eq_false hoe] at HCN
                  clear hoe
                  go_wp2_with fail
                  go_region_held (fun W => W.cell? ⟨g, (k + 1) * 2 + j * 2, none⟩ = some (.string sy) ∧ W.cell? ⟨g, (k + 1) * 2 + j * 2 + 1, none⟩ = some (.string vsy) ∧ W.cell? ⟨g, (k + 1) * 2 + (j + 1) * 2, none⟩ = some (.string sx) ∧ W.cell? ⟨g, (k + 1) * 2 + (j + 1) * 2 + 1, none⟩ = some (.string vsx) ∧ Hid (Mw w0 W g (E ++ D.drop E.length))) (first | exact HTV.out _ HRb.out | exact HTV.out _ (HRV.out.below (below_drawn _ 1))) (first
                  | (go_at_call 74; refine (HCN.out _).mono ?_; rintro e w' ⟨rfl, hb⟩; have HRb := hid ((HRV.out.below (below_drawn _ 1)).below hb); clear hb))
                  all_goals
                    clear a0 a1 b0 b1
                    obtain ⟨a0, a1, b0, b1, _⟩ := HTV.out _ HRb.out
                    have hfz := HRb.out.fz
                    have e1 : (0 : Int) ≤ (E.length : Int) := by omega
                    have e2 : (E.length : Int) < (D.length : Int) := by omega
                    have hEl : E.length < (E ++ D.drop E.length).length := by simp; omega
                    obtain ⟨z0, z1⟩ := HRb.out.at (j := E.length) (r := (E ++ D.drop E.length)[E.length]) (List.getElem?_eq_getElem hEl)
                    have HW4 := hid (show Mw w0 ((w'.setCell ⟨g, E.length * 2, none⟩ (.string sx)).setCell ⟨g, E.length * 2 + 1, none⟩ (.string vsx)) g ((E ++ [((sx, vsx) : Bm)]) ++ D.drop (E ++ [((sx, vsx) : Bm)]).length) by
                      have h := HRb.out.setAt E.length hEl (sx, vsx)
                      have e : (E ++ D.drop E.length).set E.length (sx, vsx) = (E ++ [((sx, vsx) : Bm)]) ++ D.drop (E ++ [((sx, vsx) : Bm)]).length := by
                        rw [List.set_append_right _ _ (Nat.le_refl _), Nat.sub_self, List.drop_eq_getElem_cons (show E.length < D.length by omega), List.set_cons_zero, List.length_append]
                        simp
                      rw [e] at h
                      exact h)
                    go_wp2_with fail
                    go_roundw
                    case rel => exact ⟨j + 1, E ++ [(sx, vsx)], by simp, by go_num, by omega, by simp; omega, HC3, HW4⟩
                    case measure => simp [intOf]; omega
              · have hje : k + 1 + (j + 1) = D.length := by omega
                have g2 : ¬ (j : Int) + 1 < ((D.length - (k + 1) : Nat) : Int) := by omega
                have hRl : (E ++ D.drop E.length).length = D.length := by simp; omega
                obtain ⟨zs, hcl⟩ := run_clear_mw HRV.out E.length (by omega)
                rw [hRl] at hcl
                have HEN := hid (show CpM D D.length E by have := HCE.out; rw [show k + 1 + j + 1 = D.length by omega] at this; exact this)
                have HRE := hid (show Mw w0 (wr.setCells g (E.length * 2) zs) g E by
                  have := HRV.out.cleared E.length (by omega) zs
                  rw [List.take_left'  rfl] at this
                  exact this)
                have c1 : (E.length : Int) ≤ (D.length : Int) := by omega
                have c2 : (E.length : Int) < (cap : Int) := by omega
                have c3 : (E.length : Int) ≤ (cap : Int) := by omega
                have c4 : (0 : Int) ≤ (E.length : Int) := by omega
                have c5 : E.length < cap := by omega
                go_wp2_with fail
                go_ret
                exact ⟨E, rfl, by omega, HEN.out.jn HRT.out, HRE.out⟩
        · have HC2 := hid (HPL.out hod)
          rw [decide_eq_false hod] at HCM
          clear hod
          go_wp2_with fail
          go_region_held (fun W => W.cell? ⟨g, k * 2, none⟩ = some (.string ty) ∧ W.cell? ⟨g, k * 2 + 1, none⟩ = some (.string vy) ∧ W.cell? ⟨g, (k + 1) * 2, none⟩ = some (.string tx) ∧ W.cell? ⟨g, (k + 1) * 2 + 1, none⟩ = some (.string vx) ∧ Hid (Mw w0 W g D)) (first | exact HTW.out _ HRa.out | exact HTW.out _ (HRW.out.below (below_drawn _ 1))) (first
            | (go_at_call 74; refine (HCM.out _).mono ?_; rintro e w' ⟨rfl, hb⟩; have HRa := hid ((HRW.out.below (below_drawn _ 1)).below hb); clear hb))
          all_goals
            go_wp2_with fail
            go_roundw
            case rel => exact ⟨k + 1, by omega, by go_num, HC2, HRa⟩
            case measure => simp [intOf]; omega
      · obtain hke : k + 1 = D.length := by omega
        have HFI := hid (show CpM D D.length D by have := HCP.out; rw [hke, List.take_length] at this; exact this)
        have hi2 : ¬ (k : Int) + 1 < (D.length : Int) := by omega
        go_wp2_with fail
        go_ret
        exact ⟨D, rfl, Nat.le_refl _, HFI.out.jn HRT.out, HRW.out⟩
end Ve
end Go.Proofs.YtoaobngpdaidoaaGreatDoor

/-
  slices.DeleteFunc over a row of modules: those that are right stay.
-/
namespace Go.Proofs.YtoaobngpdaidoaaGreatDoor
open Go.RowKit
namespace Ve

/-- Is a module not right? -/
def badM (m : Bm) : Bool := decide (mErr m ≠ 0)
/-- Those that are right. -/
def rightL (D : List Bm) : List Bm := D.filter fun m => !badM m
theorem rightL_mem {D : List Bm} {m : Bm} : m ∈ rightL D ↔ m ∈ D ∧ mErr m = 0 := by
  unfold rightL
  rw [List.mem_filter]
  simp [badM]
set_option maxHeartbeats 1000000 in
theorem rightK_any (m : Bm) (A : Nat → Addr) (ml : Int) (W : World) (hp : m.1.size < 999999) (hv : m.2.size < 999999) (S : Te W A ml) :
    Calls Tryz.prog 76 (#[.agg #[.string m.1, .string m.2]] ++ #[]) W fun e w' => e = .returned (.bool (badM m)) ∧ Below W.heap.size W w' := by
  obtain ⟨p, v⟩ := m
  simp only at hp hv
  show Calls Tryz.prog 76 #[.agg #[.string p, .string v]] W _
  have HB0 := hid ((Below.refl W.heap.size W).alloc (Nat.le_refl _) (.cells #[.string p, .string v] 46))
  have HM := hid (mcheck_any p v A ml _ (by omega) (by omega) (S.below HB0.out))
  have hme : mErr (p, v) = modErr p.data.toList v.data.toList := rfl
  rw [← hme] at HM
  clear S hme
  by_cases h : mErr (p, v) = 0
  · have HD := hid (show badM (p, v) = false by unfold badM; simp [h])
    rw [h, errA0] at HM
    generalize badM (p, v) = z at *
    clear h
    go_enter Tryz.func76, Tryz.ntmps76
    go_wp2_with fail
    refine HM.out.mono ?_
    rintro e w1 ⟨rfl, hb⟩
    have HB := hid (HB0.out.trans (hb.mono HB0.out.size))
    clear hb
    go_wp2_with fail
    go_ret
    exact ⟨ret_bool HD.out.symm, HB.out⟩
  · have HD := hid (show badM (p, v) = true by unfold badM; simp [h])
    rw [errA_if A h] at HM
    generalize badM (p, v) = z at *
    clear h
    go_enter Tryz.func76, Tryz.ntmps76
    go_wp2_with fail
    refine HM.out.mono ?_
    rintro e w1 ⟨rfl, hb⟩
    have HB := hid (HB0.out.trans (hb.mono HB0.out.size))
    clear hb
    go_wp2_with fail
    go_ret
    exact ⟨ret_bool HD.out.symm, HB.out⟩
theorem rightL_take {D : List Bm} {k : Nat} (hk : k < D.length) : rightL (D.take (k + 1)) = if badM D[k] then rightL (D.take k) else rightL (D.take k) ++ [D[k]] := by
  unfold rightL
  rw [List.take_succ_eq_append_getElem hk, List.filter_append]
  cases h : badM D[k] <;> simp [h]
theorem rightL_first {D : List Bm} {k : Nat} (hk : k < D.length) (h1 : badM D[k] = true) (h2 : ∀ j (hj : j < D.length), j < k → badM D[j] = false) : rightL (D.take (k + 1)) = D.take k := by
  rw [rightL_take hk, if_pos h1]
  unfold rightL
  rw [List.filter_eq_self]
  intro x hx
  obtain ⟨i, hi, him, rfl⟩ := mem_take_at hx
  rw [h2 i hi him]; rfl
theorem rightL_all {D : List Bm} (h : ∀ x, x ∈ D → badM x = false) : rightL D = D := by
  unfold rightL
  rw [List.filter_eq_self]
  intro x hx
  rw [h x hx]; rfl
set_option maxRecDepth 100000 in
set_option maxHeartbeats 8000000 in
theorem del_mw (w0 w : World) (g cap : Nat) (D : List Bm) (A : Nat → Addr) (ml : Int) (S : Te w0 A ml) (h12 : D.length ≤ 1000000) (hc : D.length ≤ cap) (hz : ∀ r, r ∈ D → r.1.size < 999999 ∧ r.2.size < 999999) (hR : Mw w0 w g D) :
    Calls Tryz.prog 75 #[.slice (some ⟨g, 0, none⟩) D.length cap, .func (.func 76) #[] #[]] w fun e w' => e = .returned (.slice (some ⟨g, 0, none⟩) (rightL D).length cap) ∧ Mw w0 w' g (rightL D) := by
  have eg : ∀ args w, (callFunc 76 args).run Tryz.prog w = .ok (.enter 76 args) w := enters_of Tryz.func76 (by kernel_rfl) rfl
  have HRK := hid (fun (m : Bm) (hm : m ∈ D) W (hW : Below w0.heap.size w0 W) => rightK_any m A ml W (hz m hm).1 (hz m hm).2 (S.below hW))
  have HI := hid (idxM_any 76 #[] badM D _ w eg h12 (hR.ms hc) (fun i hi W hW => HRK.out D[i] (List.getElem_mem hi) W (hR.bl.trans (hW.mono hR.bl.size))))
  have HR := hid hR
  clear hR S hz
  rcases idxB_kind badM D with ⟨e1, h2⟩ | ⟨k, hk, e1, h2, h3⟩
  · rw [e1] at HI
    rw [rightL_all h2]
    clear e1 h2
    go_enter Tryz.func75, Tryz.ntmps75
    go_wp2_with fail
    refine HI.out.mono ?_
    rintro e w1 ⟨rfl, hb⟩
    have HR1 := hid (HR.out.below hb)
    clear hb
    go_wp2_with fail
    go_ret
    exact ⟨rfl, HR1.out⟩
  · rw [e1] at HI
    have HF := hid (rightL_first hk h2 h3)
    have hkn : ¬ (k : Int) = -1 := by omega
    have hk1 : (k : Int) < (D.length : Int) := by omega
    clear e1 h2 h3
    go_enter Tryz.func75, Tryz.ntmps75
    go_wp2_with fail
    refine HI.out.mono ?_
    rintro e w1 ⟨rfl, hb⟩
    have HR1 := hid (HR.out.below hb)
    clear hb
    go_wp2_with fail
    go_loopw [5, 6] (fun a b wr => ∃ (j : Nat), a = .int .i64 ((rightL (D.take j)).length : Int) ∧ b = .int .i64 (j : Int) ∧ j ≤ D.length ∧ (rightL (D.take j)).length < j ∧ Hid (Mw w0 wr g (rightL (D.take j) ++ D.drop (rightL (D.take j)).length))) (fun _ b _ => D.length - (intOf b).toNat)
    case atStart =>
      have hl : (D.take k).length = k := by simp; omega
      exact ⟨k + 1, by rw [HF.out, hl], by go_num, by omega, by rw [HF.out, hl]; omega, hid (by rw [HF.out, hl, List.take_append_drop]; exact HR1.out)⟩
    case round =>
      obtain ⟨j, rfl, rfl, hjD, hEj, HRV⟩ := hrel
      have HAT := hid (show ∀ i, (rightL (D.take j)).length ≤ i → (rightL (D.take j) ++ D.drop (rightL (D.take j)).length)[i]? = D[i]? from fun i hi => by rw [List.getElem?_append_right hi, List.getElem?_drop]; congr 1; omega)
      by_cases hj : j < D.length
      · have g1 : (j : Int) < (D.length : Int) := by omega
        have HT := hid (rightL_take hj)
        obtain ⟨y0, y1⟩ := HRV.out.at (j := j) (r := D[j]) (by rw [HAT.out j (by omega)]; exact List.getElem?_eq_getElem hj)
        have HKX := hid (fun W (hW : Below w0.heap.size w0 W) => (show Calls Tryz.prog 76 #[.agg #[.string D[j].1, .string D[j].2]] W fun e w' => e = .returned (.bool (badM D[j])) ∧ Below W.heap.size W w' from HRK.out D[j] (List.getElem_mem hj) W hW))
        generalize D[j] = x at *
        generalize hE : rightL (D.take j) = E at *
        obtain ⟨x1, x2⟩ := x
        have HBA := hid ((Below.refl wr.heap.size wr).alloc (Nat.le_refl _) (.cells #[.string x1, .string x2] 46))
        have HRA := hid (HRV.out.below HBA.out)
        have HP := hid (HKX.out _ HRA.out.bl)
        cases hbad : badM (x1, x2)
        · rw [hbad] at HP HT
          have HT2 := hid (show rightL (D.take (j + 1)) = E ++ [(x1, x2)] from HT.out)
          clear hbad
          go_wp2_with fail
          refine HP.out.mono ?_
          rintro e w2 ⟨rfl, hb⟩
          have HR2 := hid (HRA.out.below hb)
          have d0 : w2.cell? ⟨wr.heap.size, 0, none⟩ = some (.string x1) := cell_below hb (by simp)
          have d1 : w2.cell? ⟨wr.heap.size, 1, none⟩ = some (.string x2) := cell_below hb (by simp)
          have hfz := HR2.out.fz
          have e1 : (0 : Int) ≤ (E.length : Int) := by omega
          have e2 : (E.length : Int) < (D.length : Int) := by omega
          have hEl : E.length < (E ++ D.drop E.length).length := by simp; omega
          obtain ⟨z0, z1⟩ := HR2.out.at (j := E.length) (r := (E ++ D.drop E.length)[E.length]) (List.getElem?_eq_getElem hEl)
          have HW4 := hid (show Mw w0 ((w2.setCell ⟨g, E.length * 2, none⟩ (.string x1)).setCell ⟨g, E.length * 2 + 1, none⟩ (.string x2)) g ((E ++ [((x1, x2) : Bm)]) ++ D.drop (E ++ [((x1, x2) : Bm)]).length) by
            have h := HR2.out.setAt E.length hEl (x1, x2)
            have e : (E ++ D.drop E.length).set E.length (x1, x2) = (E ++ [((x1, x2) : Bm)]) ++ D.drop (E ++ [((x1, x2) : Bm)]).length := by
              rw [List.set_append_right _ _ (Nat.le_refl _), Nat.sub_self, List.drop_eq_getElem_cons (show E.length < D.length by omega), List.set_cons_zero, List.length_append]
              simp
            rw [e] at h
            exact h)
          clear hb y0 y1
          go_wp2_with fail
          go_roundw
          case rel =>
            repeat apply Exists.intro
            refine ⟨?r, rfl⟩
            exact ⟨j + 1, by rw [HT2.out]; first | (simp; done) | (rw [List.length_append]; go_num), by go_num, by omega, by rw [HT2.out]; simp; omega, hid (by rw [HT2.out]; exact HW4.out)⟩
          case measure => simp [intOf]; omega
        · rw [hbad] at HP HT
          have HT2 := hid (show rightL (D.take (j + 1)) = E from HT.out)
          clear hbad
          go_wp2_with fail
          refine HP.out.mono ?_
          rintro e w2 ⟨rfl, hb⟩
          have HR2 := hid (HRA.out.below hb)
          clear hb y0 y1
          go_wp2_with fail
          go_roundw
          case rel =>
            repeat apply Exists.intro
            refine ⟨?r2, rfl⟩
            exact ⟨j + 1, by rw [HT2.out], by go_num, by omega, by rw [HT2.out]; omega, hid (by rw [HT2.out]; exact HR2.out)⟩
          case measure => simp [intOf]; omega
      · obtain rfl : j = D.length := by omega
        have g2 : ¬ (D.length : Int) < (D.length : Int) := by omega
        rw [List.take_length] at hEj HRV HAT ⊢
        generalize hE : rightL D = E at *
        have hRl : (E ++ D.drop E.length).length = D.length := by simp; omega
        obtain ⟨zs, hcl⟩ := run_clear_mw HRV.out E.length (by omega)
        rw [hRl] at hcl
        have HRE := hid (show Mw w0 (wr.setCells g (E.length * 2) zs) g E by
          have := HRV.out.cleared E.length (by omega) zs
          rw [List.take_left' rfl] at this
          exact this)
        have c1 : (E.length : Int) ≤ (D.length : Int) := by omega
        have c2 : (E.length : Int) < (cap : Int) := by omega
        have c3 : (E.length : Int) ≤ (cap : Int) := by omega
        have c4 : (0 : Int) ≤ (E.length : Int) := by omega
        have c5 : E.length < cap := by omega
        have c6 : (D.length : Int) ≤ (cap : Int) := by omega
        go_wp2_with fail
        go_ret
        exact ⟨rfl, HRE.out⟩
end Ve
end Go.Proofs.YtoaobngpdaidoaaGreatDoor

/-
  slices.Grow of nothing, and slices.Concat of two rows of modules.
-/
namespace Go.Proofs.YtoaobngpdaidoaaGreatDoor
open Go.RowKit
namespace Ve

theorem zero_len (n : Nat) : (Builtin.zeroCells (Value.agg #[.string ⟨#[]⟩, .string ⟨#[]⟩]).cells n).size = n * 2 := by
  simp [Builtin.zeroCells, Value.cells]
set_option maxHeartbeats 2000000 in
theorem grow_zero (w : World) : Calls Tryz.prog 82 #[.slice none 0 0, .int .i64 0] w fun e w' => e = .returned (.slice none 0 0) ∧ Below w.heap.size w w' := by
  go_enter Tryz.func82, Tryz.ntmps82
  go_wp2_with fail
  go_ret
  exact ⟨rfl, Below.refl _ _⟩
set_option maxRecDepth 100000 in
set_option maxHeartbeats 4000000 in
theorem grow_some (n : Nat) (w : World) (h0 : 0 < n) (hn : n ≤ 1000000) : Calls Tryz.prog 82 #[.slice none 0 0, .int .i64 (n : Int)] w fun e w' => ∃ v, e = .returned v ∧ w'.ownsRow w.heap.size 46 2 v 0 [] ∧ Below w.heap.size w w' := by
  obtain ⟨i0, hi, hz0, hz1, hz2⟩ := info_parts infoMod
  have HA := hid (fun (W : World) ty => Lib.run_append_nil_zeros (P := Tryz.prog) W 23 3 ty 46 i0 (.agg #[.string ⟨#[]⟩, .string ⟨#[]⟩]) .i64 .i64 Tryz.underlying23 Tryz.underlying3 hi hz0 n h0 (by rw [hz1]; omega) (by omega) (by rw [hz2]; omega))
  have hn0 : ¬ (n : Int) < 0 := by omega
  have hn1 : (0 : Int) < (n : Int) := by omega
  go_enter Tryz.func82, Tryz.ntmps82
  go_wp2_with (at_builtin; refine Lib.wpList_append_run _ rfl _ _ _ _ rfl _ _ rfl rfl _ _ (HA.out _ _) ?_)
  go_ret
  refine ⟨_, rfl, ⟨by simp, Or.inr ⟨w.heap.size, grownCap w n 0 46, _, rfl, Nat.le_refl _, heap_new w _, Nat.zero_le _, grownCap_le_maxLen w n 0 46 (by unfold maxLen; omega), ?_, by simp⟩⟩, below_drawn_of ((Below.refl w.heap.size w).alloc (Nat.le_refl _) _) 1⟩
  have h1 := zero_len n
  have h2 := zero_len (grownCap w n 0 46 - n)
  have h3 := grownCap_ge w n 0 46
  simp only [Value.cells] at h1 h2
  rw [Array.size_append, h1, h2]
  omega
set_option maxRecDepth 100000 in
set_option maxHeartbeats 8000000 in
/-- slices.Concat of two. -/
theorem cat_any (A B : List Bm) (va vb : Value) (lb : Nat) (w : World) (c0 : w.cell? ⟨lb, 0, none⟩ = some va) (c1 : w.cell? ⟨lb, 1, none⟩ = some vb) (hA : MsAt w va A) (hB : MsAt w vb B) (eA : Em va A) (eB : Em vb B) (lA : A.length ≤ 500) (lB : B.length ≤ 500) :
    Calls Tryz.prog 53 #[.slice (some ⟨lb, 0, none⟩) 2 2] w fun e w' => ∃ v, e = .returned v ∧ w'.ownsRow w.heap.size 46 2 v (A ++ B).length (flatM (A ++ B)) ∧ Below w.heap.size w w' := by
  obtain ⟨aa, ac, ea⟩ : ∃ a c, va = .slice a A.length c := by obtain ⟨a, c, e, _⟩ := hA; exact ⟨a, c, e⟩
  obtain ⟨ba, bc, eb⟩ : ∃ a c, vb = .slice a B.length c := by obtain ⟨a, c, e, _⟩ := hB; exact ⟨a, c, e⟩
  subst ea eb
  have HA := hid hA
  have HB := hid hB
  have HEA := hid eA
  have HEB := hid eB
  clear hA hB eA eB
  go_enter Tryz.func53, Tryz.ntmps53
  go_wp2_with fail
  go_loopw [3, 11] (fun s i wr => Hid (wr = w) ∧ ((s = .int .i64 0 ∧ i = .int .i64 0) ∨ (s = .int .i64 (A.length : Int) ∧ i = .int .i64 1) ∨ (s = .int .i64 ((A.length + B.length : Nat) : Int) ∧ i = .int .i64 2))) (fun _ i _ => 2 - (intOf i).toNat)
  case atStart => exact ⟨hid rfl, Or.inl ⟨rfl, rfl⟩⟩
  case round =>
    obtain ⟨HWR, ⟨rfl, rfl⟩ | ⟨rfl, rfl⟩ | ⟨rfl, rfl⟩⟩ := hrel
    all_goals obtain rfl := HWR.out
    all_goals clear HWR
    · have q1 : ¬ (A.length : Int) < 0 := by omega
      go_wp2_with fail
      go_roundw
      case rel => exact ⟨hid trivial, Or.inr (Or.inl ⟨rfl, rfl⟩)⟩
      case measure => decide
    · have q1 : ¬ (A.length : Int) + (B.length : Int) < 0 := by omega
      go_wp2_with fail
      go_roundw
      case rel => exact ⟨hid trivial, Or.inr (Or.inr ⟨by go_num, rfl⟩)⟩
      case measure => decide
    · have HG := hid (show Calls Tryz.prog 82 #[.slice none 0 0, .int .i64 ((A.length + B.length : Nat) : Int)] wr fun e w' => ∃ v, e = .returned v ∧ w'.ownsRow wr.heap.size 46 2 v 0 [] ∧ Below wr.heap.size wr w' by
        by_cases h0 : A.length + B.length = 0
        · rw [h0]
          exact (grow_zero wr).mono fun _ _ h => ⟨_, h.1, World.ownsRow_nil _ _ _ _, h.2⟩
        · exact grow_some (A.length + B.length) wr (by omega) (by omega))
      go_wp2_with fail
      refine HG.out.mono ?_
      rintro e w1 ⟨v0, rfl, hown, hb⟩
      have HO := hid hown
      have HBL := hid hb
      obtain ⟨oa, on, oc, hv0⟩ := own_sl hown
      subst hv0
      clear hown hb HG
      go_wp2_with fail
      go_loopw [6, 27] (fun v i W => ∃ (k : Nat) (X : List Bm), i = .int .i64 (k : Int) ∧ ((k = 0 ∧ X = []) ∨ (k = 1 ∧ X = A) ∨ (k = 2 ∧ X = A ++ B)) ∧ Hid (W.ownsRow wr.heap.size 46 2 v X.length (flatM X)) ∧ Hid (Below wr.heap.size wr W)) (fun _ i _ => 2 - (intOf i).toNat)
      case atStart => exact ⟨0, [], rfl, Or.inl ⟨rfl, rfl⟩, HO, HBL⟩
      case round =>
        obtain ⟨k, X, rfl, hk, HOW, HBW⟩ := hrel
        have HSZ := hid HBW.out.size
        rcases hk with ⟨rfl, rfl⟩ | ⟨rfl, rfl⟩ | ⟨rfl, rfl⟩
        · have d0 := cell_below HBW.out c0
          obtain ⟨v2, W2, hrun, ho2, hg2⟩ := both_run [] A _ _ wr _ HSZ.out (by simp) (by omega) HOW.out (HA.out.below HBW.out) HEA.out
          have HRUN := hid hrun
          have HO2 := hid (show W2.ownsRow _ 46 2 v2 A.length (flatM A) from ho2)
          have HB2 := hid (HBW.out.grown hg2 HBW.out.size (fun k hk => (HOW.out.lt k hk).1))
          clear hrun ho2 hg2
          go_wp2_with (at_builtin; refine Lib.wpList_append_run _ rfl _ _ _ _ rfl _ _ rfl rfl _ _ HRUN.out ?_)
          go_roundw
          case rel => exact ⟨1, A, rfl, Or.inr (Or.inl ⟨rfl, rfl⟩), HO2, HB2⟩
          case measure => decide
        · have d1 := cell_below HBW.out c1
          obtain ⟨v2, W2, hrun, ho2, hg2⟩ := both_run X B _ _ wr _ HSZ.out (by omega) (by omega) HOW.out (HB.out.below HBW.out) HEB.out
          have HRUN := hid hrun
          have HO2 := hid ho2
          have HB2 := hid (HBW.out.grown hg2 HBW.out.size (fun k hk => (HOW.out.lt k hk).1))
          clear hrun ho2 hg2
          go_wp2_with (at_builtin; refine Lib.wpList_append_run _ rfl _ _ _ _ rfl _ _ rfl rfl _ _ HRUN.out ?_)
          go_roundw
          case rel => exact ⟨2, X ++ B, rfl, Or.inr (Or.inr ⟨rfl, rfl⟩), HO2, HB2⟩
          case measure => decide
        · go_wp2_with fail
          go_ret
          exact ⟨_, rfl, HOW.out, HBW.out⟩
end Ve
end Go.Proofs.YtoaobngpdaidoaaGreatDoor

/-
  mvs.Join: of each path of both the greater version.
-/
namespace Go.Proofs.YtoaobngpdaidoaaGreatDoor
open Go.RowKit
namespace Ve

theorem insM_nil (a : Option Addr) (c : Nat) (W : World) : Calls Tryz.prog 149 #[.slice a 0 c, .int .i64 0, .int .i64 0, .func (.func 72) #[] #[]] W fun e w' => e = .returned (.tuple #[]) ∧ w' = W := by
  go_enter Tryz.func149, Tryz.ntmps149
  go_wp2_with fail
  go_loop [8] (fun i => i = .int .i64 1) (fun _ => 0)
  case atStart => rfl
  case round =>
    obtain rfl := hrel
    go_wp2_with fail
    go_end0
    exact ⟨rfl, rfl⟩
set_option maxRecDepth 100000 in
set_option maxHeartbeats 2000000 in
theorem pdqM_nil (a : Option Addr) (c : Nat) (n : Int) (W : World) : Calls Tryz.prog 118 #[.slice a 0 c, .int .i64 0, .int .i64 0, .int .i64 n, .func (.func 72) #[] #[]] W fun e w' => e = .returned (.tuple #[]) ∧ w' = W := by
  have HI := hid (insM_nil a c W)
  go_enter Tryz.func118, Tryz.ntmps118
  go_wp2_with fail
  go_loop [1, 2, 3, 10, 11] (fun a b _ _ _ => a = .int .i64 0 ∧ b = .int .i64 0) (fun _ _ _ _ _ => 0)
  case atStart => exact ⟨rfl, rfl⟩
  case round =>
    obtain ⟨rfl, rfl⟩ := hrel
    go_wp2_with fail
    refine HI.out.mono ?_
    rintro e w' ⟨rfl, rfl⟩
    go_wp2_with fail
    first | (go_end0; exact ⟨rfl, rfl⟩) | (go_ret; exact ⟨rfl, rfl⟩) | (refine bodyPost_ret (v := .tuple #[]) (by simp [results, Tryz.results118]) rfl ⟨rfl, rfl⟩)
set_option maxHeartbeats 1000000 in
theorem sortM_nil (a : Option Addr) (c : Nat) (W : World) : Calls Tryz.prog 71 #[.slice a 0 c, .func (.func 72) #[] #[]] W fun e w' => e = .returned (.tuple #[]) ∧ Below W.heap.size W w' := by
  have HLN := hid (show Calls Tryz.prog 119 #[.int .u64 0] W fun e w' => e = .returned (.int .i64 (Lib.bitLen 0 : Nat)) ∧ w' = W from by
    have h := Any.bits_Len (SlLaysF0.n15.bits (P := Tryz.prog) (ρ := Tryz.sortMods_ren) { Tryz.sortMods with }) 0 W (by omega) (by omega)
    exact h)
  have HP := hid (fun n => pdqM_nil a c n W)
  go_enter Tryz.func71, Tryz.ntmps71
  go_wp2_with fail
  refine HLN.out.mono ?_
  rintro e w' ⟨rfl, rfl⟩
  go_wp2_with fail
  refine (HP.out _).mono ?_
  rintro e w' ⟨rfl, rfl⟩
  go_wp2_with fail
  go_end0
  exact ⟨rfl, Below.refl _ _⟩
set_option maxHeartbeats 1000000 in
theorem delM_nil (a : Option Addr) (c : Nat) (W : World) : Calls Tryz.prog 75 #[.slice a 0 c, .func (.func 76) #[] #[]] W fun e w' => e = .returned (.slice a 0 c) ∧ Below W.heap.size W w' := by
  have HI := hid (idxM_none 76 #[] a c W)
  go_enter Tryz.func75, Tryz.ntmps75
  go_wp2_with fail
  refine HI.out.mono ?_
  rintro e w1 ⟨rfl, hb⟩
  have HB := hid hb
  clear hb
  go_wp2_with fail
  go_ret
  exact ⟨rfl, HB.out⟩
/-- A row of modules that a call owns: nothing, or in a block of its own. -/
def Mr (w0 W : World) (v : Value) (D : List Bm) : Prop := Below w0.heap.size w0 W ∧ ∃ a cap, v = .slice a D.length cap ∧ D.length ≤ cap ∧ ((D = [] ∧ (a = none → cap = 0)) ∨ ∃ g, a = some ⟨g, 0, none⟩ ∧ Mw w0 W g D)
theorem Mr.ms {w0 W : World} {v : Value} {D : List Bm} (h : Mr w0 W v D) : MsAt W v D := by
  obtain ⟨_, a, cap, rfl, hc, ⟨rfl, _⟩ | ⟨g, rfl, h⟩⟩ := h
  · exact ⟨a, cap, rfl, hc, fun h => absurd rfl h⟩
  · exact h.ms hc
theorem Mr.em {w0 W : World} {v : Value} {D : List Bm} (h : Mr w0 W v D) : Em v D := by
  obtain ⟨_, a, cap, rfl, hc, h⟩ := h
  intro a' c' e hD
  injection e with e1 e2 e3
  subst e1 e3
  cases a with
  | some a' => exact Or.inr ⟨a', rfl⟩
  | none =>
    rcases h with ⟨_, h0⟩ | ⟨g, h, _⟩
    · rw [h0 rfl]; exact Or.inl rfl
    · cases h
theorem mr_own {w0 W : World} {v : Value} {L : List Bm} (h : W.ownsRow w0.heap.size 46 2 v L.length (flatM L)) (hb : Below w0.heap.size w0 W) : Mr w0 W v L := by
  by_cases hL : L = []
  · subst hL
    obtain ⟨_, ⟨rfl, _⟩ | ⟨g, cap, cur, rfl, _, _, _, _⟩⟩ := h
    · exact ⟨hb, none, 0, rfl, Nat.le_refl _, Or.inl ⟨rfl, fun _ => rfl⟩⟩
    · exact ⟨hb, _, cap, rfl, Nat.zero_le _, Or.inl ⟨rfl, fun h => by cases h⟩⟩
  · obtain ⟨g, cap, rfl, h1, _, h3⟩ := own_mw h hb hL
    exact ⟨hb, _, cap, rfl, h1, Or.inr ⟨g, rfl, h3⟩⟩
theorem Mr.base {w w0 W : World} {v : Value} {D : List Bm} (h : Mr w0 W v D) (hb : Below w.heap.size w w0) : Mr w W v D := by
  obtain ⟨h1, a, cap, rfl, hc, hk⟩ := h
  refine ⟨hb.trans (h1.mono hb.size), a, cap, rfl, hc, ?_⟩
  rcases hk with hk | ⟨g, rfl, hM⟩
  · exact Or.inl hk
  · exact Or.inr ⟨g, rfl, hb.trans (h1.mono hb.size), Nat.le_trans hb.size hM.lo, hM.hi, hM.fz, hM.c0, hM.c1⟩
theorem Mr.sl {w0 W : World} {v : Value} {D : List Bm} (h : Mr w0 W v D) : ∃ a c, v = .slice a D.length c := by
  obtain ⟨_, a, cap, rfl, _⟩ := h
  exact ⟨a, cap, rfl⟩
set_option maxHeartbeats 2000000 in
/-- mvs.right of two. -/
theorem right_any (X Y : List Bm) (va vb : Value) (lb : Nat) (A : Nat → Addr) (ml : Int) (w : World) (c0 : w.cell? ⟨lb, 0, none⟩ = some va) (c1 : w.cell? ⟨lb, 1, none⟩ = some vb) (hA : MsAt w va X) (hB : MsAt w vb Y) (eA : Em va X) (eB : Em vb Y) (lA : X.length ≤ 500) (lB : Y.length ≤ 500)
    (hz : ∀ r, r ∈ X ++ Y → r.1.size < 999999 ∧ r.2.size < 999999) (S : Te w A ml) :
    Calls Tryz.prog 50 #[.slice (some ⟨lb, 0, none⟩) 2 2] w fun e w' => ∃ v, e = .returned v ∧ Mr w w' v (rightL (X ++ Y)) := by
  have HC := hid (cat_any X Y va vb lb w c0 c1 hA hB eA eB lA lB)
  have HS := hid S
  have HZ := hid hz
  have hl : (X ++ Y).length ≤ 1000 := by simp; omega
  generalize X ++ Y = D at *
  clear hA hB eA eB S hz c0 c1
  go_enter Tryz.func50, Tryz.ntmps50
  go_wp2_with fail
  refine HC.out.mono ?_
  rintro e w1 ⟨v, rfl, hown, hb⟩
  obtain ⟨_, a, cap, rfl, hcap, hk⟩ := mr_own hown hb
  have HBL := hid hb
  clear hown hb
  rcases hk with ⟨rfl, h0⟩ | ⟨g, rfl, hM⟩
  · have HD := hid (delM_nil a cap w1)
    go_wp2_with fail
    refine HD.out.mono ?_
    rintro e w2 ⟨rfl, hb⟩
    have HB2 := hid (HBL.out.trans (hb.mono HBL.out.size))
    clear hb
    go_wp2_with fail
    go_ret
    exact ⟨_, rfl, HB2.out, a, cap, rfl, Nat.zero_le _, Or.inl ⟨rfl, h0⟩⟩
  · have HD := hid (del_mw w w1 g cap D A ml HS.out (by omega) hcap HZ.out hM)
    have HRL := hid (show (rightL D).length ≤ cap from Nat.le_trans (List.length_filter_le _ _) hcap)
    clear hM
    go_wp2_with fail
    refine HD.out.mono ?_
    rintro e w2 ⟨rfl, hm⟩
    have HM2 := hid hm
    clear hm
    go_wp2_with fail
    go_ret
    exact ⟨_, rfl, HM2.out.bl, _, cap, rfl, HRL.out, Or.inr ⟨g, rfl, HM2.out⟩⟩
theorem Jn.nil : Jn [] [] := ⟨List.Pairwise.nil, fun _ h => absurd h (by simp), fun _ h => absurd h (by simp)⟩
theorem Jn.perm {D D' E : List Bm} (h : Jn D' E) (hp : D'.Perm D) : Jn D E :=
  ⟨h.ri, fun e he => ⟨hp.mem_iff.1 (h.sub e he).1, (h.sub e he).2⟩, fun x hx => h.top x (hp.mem_iff.2 hx)⟩
theorem Jn.right {D E : List Bm} (h : Jn (rightL D) E) : Jn D E :=
  ⟨h.ri, fun e he => ⟨(rightL_mem.1 (h.sub e he).1).1, (h.sub e he).2⟩, fun x hx hr => h.top x (rightL_mem.2 ⟨hx, hr⟩) hr⟩
set_option maxHeartbeats 2000000 in
/-- mvs.greatest of a row of its own. -/
theorem great_any (D : List Bm) (v : Value) (A : Nat → Addr) (ml : Int) (w0 w : World) (hM : Mr w0 w v D) (h12 : D.length ≤ 1000000) (hr : ∀ r, r ∈ D → Rt r) (S : Te w0 A ml) :
    Calls Tryz.prog 49 #[v] w fun e w' => ∃ u E, e = .returned u ∧ E.length ≤ D.length ∧ Jn D E ∧ Mr w0 w' u E := by
  obtain ⟨hb, a, cap, rfl, hcap, hk⟩ := hM
  by_cases hD : D = []
  · subst hD
    have HS := hid (sortM_nil a cap w)
    have HC := hid (fun W => compactM_nil a cap W)
    have h0 : a = none → cap = 0 := by
      rcases hk with ⟨_, h0⟩ | ⟨g, rfl, _⟩
      · exact h0
      · intro h; cases h
    have HBL := hid hb
    clear hk hb S
    go_enter Tryz.func49, Tryz.ntmps49
    go_wp2_with fail
    refine HS.out.mono ?_
    rintro e w1 ⟨rfl, hb⟩
    have HB1 := hid (HBL.out.trans (hb.mono HBL.out.size))
    clear hb
    go_wp2_with fail
    refine (HC.out _).mono ?_
    rintro e w2 ⟨rfl, hb⟩
    have HB2 := hid (HB1.out.trans (hb.mono HB1.out.size))
    clear hb
    go_wp2_with fail
    go_ret
    exact ⟨_, [], rfl, Nat.le_refl _, Jn.nil, HB2.out, a, cap, rfl, Nat.zero_le _, Or.inl ⟨rfl, h0⟩⟩
  · obtain ⟨g, rfl, hM⟩ : ∃ g, a = some ⟨g, 0, none⟩ ∧ Mw w0 w g D := by
      rcases hk with ⟨h, _⟩ | h
      · exact absurd h hD
      · exact h
    have HS := hid (sort_mw w0 w g cap D hD h12 A ml S hr hM)
    have HRT := hid hr
    have HD := hid hD
    clear hk hb S hM hr hD
    go_enter Tryz.func49, Tryz.ntmps49
    go_wp2_with fail
    refine HS.out.mono ?_
    rintro e w1 ⟨rfl, D1, hp, hs, hM1⟩
    have hl : D1.length = D.length := hp.length_eq
    have HC := hid (compact_mw w0 w1 g cap D1 (fun e => HD.out (by rw [e] at hl; exact List.length_eq_zero_iff.1 hl.symm)) (by omega) (by omega) (fun r h => HRT.out r (hp.mem_iff.1 h)) hs hM1)
    have HP := hid hp
    rw [hl] at HC
    clear hp hs hM1 HS
    go_wp2_with fail
    refine HC.out.mono ?_
    rintro e w2 ⟨E, rfl, hEl, hj, hM2⟩
    have HJ := hid (hj.perm HP.out)
    have HM2 := hid hM2
    clear hj hM2
    go_wp2_with fail
    go_ret
    exact ⟨_, E, rfl, hEl, HJ.out, HM2.out.bl, _, cap, rfl, by omega, Or.inr ⟨g, rfl, HM2.out⟩⟩
set_option maxHeartbeats 2000000 in
/-- mvs.Join. -/
theorem join_mods (X Y : List Bm) (va vb : Value) (A : Nat → Addr) (ml : Int) (w : World) (hA : MsAt w va X) (hB : MsAt w vb Y) (eA : Em va X) (eB : Em vb Y) (lA : X.length ≤ 500) (lB : Y.length ≤ 500)
    (hz : ∀ r, r ∈ X ++ Y → r.1.size < 999999 ∧ r.2.size < 999999) (S : Te w A ml) :
    Calls Tryz.prog 20 #[va, vb] w fun e w' => ∃ v E, e = .returned v ∧ E.length ≤ (X ++ Y).length ∧ Jn (X ++ Y) E ∧ Mr w w' v E := by
  obtain ⟨aa, an, ac, ea⟩ := hA.slice
  obtain ⟨ba, bn, bc, eb⟩ := hB.slice
  subst ea eb
  have HB0 := hid ((Below.refl w.heap.size w).alloc (Nat.le_refl _) (.cells #[.slice aa an ac, .slice ba bn bc] 23))
  have HR := hid (right_any X Y _ _ w.heap.size A ml (w.alloc (.cells #[.slice aa an ac, .slice ba bn bc] 23)) (by simp) (by simp) (hA.below HB0.out) (hB.below HB0.out) eA eB lA lB hz (S.below HB0.out))
  have HS := hid S
  have HRT := hid (show ∀ r, r ∈ rightL (X ++ Y) → Rt r from fun r h => ⟨(rightL_mem.1 h).2, (hz r (rightL_mem.1 h).1).1, (hz r (rightL_mem.1 h).1).2⟩)
  have hl : (X ++ Y).length ≤ 1000 := by simp; omega
  have HRL := hid (show (rightL (X ++ Y)).length ≤ (X ++ Y).length from List.length_filter_le _ _)
  generalize X ++ Y = D at *
  clear hA hB eA eB S hz
  go_enter Tryz.func20, Tryz.ntmps20
  go_wp2_with fail
  refine HR.out.mono ?_
  rintro e w1 ⟨v, rfl, hm⟩
  have HG := hid (great_any (rightL D) v A ml _ w1 hm (by have := HRL.out; omega) HRT.out (HS.out.below HB0.out))
  obtain ⟨va, vc, hv⟩ := hm.sl
  subst hv
  clear hm HR
  go_wp2_with fail
  refine HG.out.mono ?_
  rintro e w2 ⟨u, E, rfl, hl2, hj, hM⟩
  have HJ := hid hj.right
  have HM := hid (hM.base HB0.out)
  have HEL := hid (Nat.le_trans hl2 HRL.out)
  obtain ⟨ua, uc, hu⟩ := hM.sl
  subst hu
  clear hj hM hl2
  go_wp2_with fail
  go_ret
  exact ⟨_, E, rfl, HEL.out, HJ.out, HM.out⟩
end Ve
end Go.Proofs.YtoaobngpdaidoaaGreatDoor

/-
  What mvs.Build answers; the closed fact of the statements (built).
-/
namespace Go.Proofs.YtoaobngpdaidoaaGreatDoor
open Go.RowKit Go.Maps
namespace Ve

theorem goM_sub {w : World} {v : Value} {Q : List Raw} {L : List Ent} (I : Ixs w v Q L) {T : By} {m : Bm} (h : m ∈ goM T Q) : m ∈ univ L := by
  rw [← univ_eq I]
  unfold goM goQ at h
  obtain ⟨r, hr, e⟩ := List.mem_map.1 h
  exact List.mem_map.2 ⟨r, (List.mem_filter.1 hr).1, e⟩
theorem univ_szJ {L : List Ent} (sh : ∀ e, e ∈ L → ShE e) {m : Bm} (h : m ∈ univ L) : m.1.size < 999999 ∧ m.2.size < 999999 := by
  obtain ⟨e, he, rfl⟩ := List.mem_map.1 h
  exact ⟨(sh e he).p, (sh e he).v⟩
theorem goM_lenJ {w : World} {v : Value} {Q : List Raw} {L : List Ent} (I : Ixs w v Q L) (T : By) : (goM T Q).length ≤ L.length := by
  unfold goM goQ
  rw [List.length_map, ← I.ln]
  exact List.length_filter_le _ _
theorem em_none : Em (.slice none 0 0) [] := fun a c e _ => by
  injection e with e1 e2 e3
  subst e1 e3
  exact Or.inl rfl
theorem ms_none (w : World) : MsAt w (.slice none 0 0) [] := ⟨none, 0, rfl, Nat.le_refl _, fun h => absurd rfl h⟩
set_option maxRecDepth 100000 in
set_option maxHeartbeats 2000000 in
theorem build_bad (Q : List Raw) (L : List Ent) (roots : List Bm) (v rv : Value) (A : Nat → Addr) (m : Int) (w : World) (hn : L.length ≤ 1000) (hrn : roots.length ≤ 1000000) (sh : ∀ e, e ∈ L → ShE e) (S : Te w A m) (I : Ixs w v Q L) (hr : MsAt w rv roots) (h0 : (chkG Q L roots).1 ≠ 0) :
    Calls Tryz.prog 11 #[v, rv] w fun e w' => ∃ T a, e = .returned (.tuple #[.slice none 0 0, .iface T (.pointer (some a))]) ∧ ErrAt w' A (.iface T (.pointer (some a))) (chkG Q L roots).1 (chkG Q L roots).2 ∧ Below w.heap.size w w' := by
  have HCK := hid (reach_bad Q L roots v rv A m w hn hrn sh S I hr h0)
  obtain ⟨a, c, hv, -⟩ := id I.es
  subst hv
  obtain ⟨ra, rc, hrv, -⟩ := id hr
  subst hrv
  clear S I hr sh h0
  go_enter Tryz.func11, Tryz.ntmps11
  go_wp2_with fail
  refine HCK.out.mono ?_
  rintro e w1 ⟨T, xa, rfl, he, hb⟩
  have HB := hid hb
  have HE := hid he
  clear hb he HCK
  go_wp2_with fail
  go_ret2
  exact ⟨_, _, rfl, HE.out, HB.out⟩
/-- What is built: of what is reached, of each path the greatest. -/
structure Bt (Q : List Raw) (L : List Ent) (roots E : List Bm) : Prop where
  c : ∃ T, Came (reqQ Q L) (univ L) roots T ∧ Jn (goM T Q) E ∧ E.length ≤ (goM T Q).length
set_option maxRecDepth 100000 in
set_option maxHeartbeats 2000000 in
theorem build_good (Q : List Raw) (L : List Ent) (roots : List Bm) (v rv : Value) (A : Nat → Addr) (m : Int) (w : World) (hn : L.length ≤ 1000) (hrn : roots.length ≤ 1000000) (sh : ∀ e, e ∈ L → ShE e) (S : Te w A m) (I : Ixs w v Q L) (hr : MsAt w rv roots) (h0 : (chkG Q L roots).1 = 0) :
    Calls Tryz.prog 11 #[v, rv] w fun e w' => ∃ u E, e = .returned (.tuple #[u, .nilIface]) ∧ Bt Q L roots E ∧ Mr w w' u E := by
  have HRE := hid (reach_good Q L roots v rv A m w hn hrn sh S I hr h0)
  have hl : L.length ≤ 100 := by
    by_cases hc : (chk Q L).1 = 0
    · exact (chk_each0 hc).1
    · rw [chkG_bad hc] at h0; exact absurd h0 hc
  have HS := hid S
  have HI := hid I
  have HSH := hid sh
  obtain ⟨a, c, hv, -⟩ := id I.es
  subst hv
  obtain ⟨ra, rc, hrv, -⟩ := id hr
  subst hrv
  clear S I hr sh h0
  go_enter Tryz.func11, Tryz.ntmps11
  go_wp2_with fail
  refine HRE.out.mono ?_
  rintro e w1 ⟨u, rfl, T, hcm, hown, hb⟩
  have HCM := hid hcm
  have HB := hid hb
  have hgl := goM_lenJ HI.out T
  have HM := hid (mr_own hown hb)
  have HJ := hid (join_mods (goM T Q) [] u (.slice none 0 0) A m w1 HM.out.ms (ms_none w1) HM.out.em em_none (by omega) (by simp) (fun r hr => univ_szJ HSH.out (goM_sub HI.out (by simpa using hr))) (HS.out.below hb))
  rw [List.append_nil] at HJ
  obtain ⟨ua, uc, hu⟩ := HM.out.sl
  subst hu
  clear hcm hown hb HRE HM
  go_wp2_with fail
  refine HJ.out.mono ?_
  rintro e w2 ⟨x, E, rfl, hel, hj, hm⟩
  have HMX := hid (hm.base HB.out)
  have HBT := hid (show Bt Q L roots E from ⟨T, HCM.out, hj, hel⟩)
  obtain ⟨xa, xc, hx⟩ := hm.sl
  subst hx
  clear hel hj hm HJ
  go_wp2_with fail
  go_ret2
  exact ⟨_, E, rfl, HBT.out, HMX.out⟩
theorem sm_chkG2 (g : Nat) : (chkG (smQ g) smL [ma0, ma1]).1 = 0 := by
  rw [chkG_ok (by rw [sm_chk])]
  show codeE (nonE (smQ g) [ma0, ma1]) 2 = 0
  kernel_rfl
theorem sm_go2 {g : Nat} {T : By} (h : Came (reqQ (smQ g) smL) (univ smL) [ma0, ma1] T) : goM T (smQ g) = [ma0, ma1, mb0] := by
  have c0 : cameB T ma0 = true := (h.cameB _).2 (.root (by simp))
  have c1 : cameB T ma1 = true := (h.cameB _).2 (.root (by simp))
  have cb : cameB T mb0 = true := (h.cameB _).2 (.step (.root (show ma1 ∈ [ma0, ma1] by simp)) (by rw [sm_r1]; simp))
  unfold goM goQ smQ
  simp [c0, c1, cb]
theorem sm_jn : Jn [ma0, ma1, mb0] [ma1, mb0] := by
  have e0 : decide (ordV (vb ma0) (vb ma1) ≤ 0) = true := by kernel_rfl
  have e1 : decide (ordV (vb ma1) (vb ma1) ≤ 0) = true := by kernel_rfl
  have e2 : decide (ordV (vb mb0) (vb mb0) ≤ 0) = true := by kernel_rfl
  have m1 : mErr ma1 = 0 := by kernel_rfl
  have m2 : mErr mb0 = 0 := by kernel_rfl
  have l1 : lt ma1.1 mb0.1 = true := by kernel_rfl
  refine ⟨?_, fun e he => ?_, fun x hx _ => ?_⟩
  · refine List.pairwise_cons.2 ⟨fun b hb => ?_, List.pairwise_singleton _ _⟩
    rw [List.mem_singleton.1 hb]; exact l1
  · rcases List.mem_cons.1 he with rfl | he
    · exact ⟨by simp, m1⟩
    · rw [List.mem_singleton.1 he]; exact ⟨by simp, m2⟩
  · rcases List.mem_cons.1 hx with rfl | hx
    · exact ⟨ma1, by simp, rfl, of_decide_eq_true e0⟩
    · rcases List.mem_cons.1 hx with rfl | hx
      · exact ⟨ma1, by simp, rfl, of_decide_eq_true e1⟩
      · rw [List.mem_singleton.1 hx]
        exact ⟨mb0, by simp, rfl, of_decide_eq_true e2⟩
theorem sm_bt {g : Nat} {E : List Bm} (h : Bt (smQ g) smL [ma0, ma1] E) : E = [ma1, mb0] := by
  obtain ⟨T, h1, h2, _⟩ := h.c
  rw [sm_go2 h1] at h2
  exact h2.one sm_jn (fun _ _ => Iff.rfl)
set_option maxRecDepth 100000 in
set_option maxHeartbeats 4000000 in
/-- pewholderlaw2.built. -/
theorem built_any (A : Nat → Addr) (m : Int) (w : World) (S : Te w A m) : Calls Tryz.prog 7 #[] w fun e w' => e = .returned (.bool true) ∧ Below w.heap.size w w' := by
  have HSM := hid smallI_any
  have HS := hid S
  clear S
  go_enter Tryz.func7, Tryz.ntmps7
  go_wp2_with fail
  refine (HSM.out w).mono ?_
  rintro e w1 ⟨g, q, rfl, hix, hb⟩
  have hBa := (Below.refl w1.heap.size w1).alloc (Nat.le_refl _) (.cells #[.string ⟨#[97]⟩, .string ⟨#[118, 49, 46, 48, 46, 48]⟩, .string ⟨#[97]⟩, .string ⟨#[118, 49, 46, 49, 46, 48]⟩] 46)
  have hB1 := hb.trans (hBa.mono hb.size)
  have hms : MsAt (w1.alloc (.cells #[.string ⟨#[97]⟩, .string ⟨#[118, 49, 46, 48, 46, 48]⟩, .string ⟨#[97]⟩, .string ⟨#[118, 49, 46, 49, 46, 48]⟩] 46)) (.slice (some ⟨w1.heap.size, 0, none⟩) 2 2) [ma0, ma1] := ⟨some ⟨w1.heap.size, 0, none⟩, 2, rfl, Nat.le_refl _, fun _ => ⟨w1.heap.size, 0, rfl, fun j hj => by
    have hj2 : j < 2 := hj
    rcases (by omega : j = 0 ∨ j = 1) with rfl | rfl
    · refine ⟨?_, ?_⟩ <;> (rw [Lib.cell_of_heap (heap_alloc_new w1 _)]; rfl)
    · refine ⟨?_, ?_⟩ <;> (rw [Lib.cell_of_heap (heap_alloc_new w1 _)]; rfl)⟩⟩
  have HBU := hid (build_good (smQ g) smL [ma0, ma1] _ _ A m _ (by decide) (by decide) sm_sh (HS.out.below hB1) (hix.below hBa) hms (sm_chkG2 g))
  have HB1 := hid hB1
  clear hix hb hBa hms hB1
  go_wp2_with fail
  refine HBU.out.mono ?_
  rintro e w2 ⟨u, E, rfl, hbt, hM⟩
  obtain rfl := sm_bt hbt
  have HB2 := hid (HB1.out.trans (hM.1.mono HB1.out.size))
  have hms := hM.ms
  obtain ⟨_, ua, uc, rfl, huc, hk⟩ := hM
  obtain ⟨ug, rfl, hmw⟩ : ∃ g, ua = some ⟨g, 0, none⟩ ∧ Mw _ w2 g [ma1, mb0] := by
    rcases hk with ⟨h, _⟩ | h
    · cases h
    · exact h
  have k0 : w2.cell? ⟨ug, 0, none⟩ = some (.string ⟨#[97]⟩) := hmw.c0 0 (by decide)
  have k1 : w2.cell? ⟨ug, 1, none⟩ = some (.string ⟨#[118, 49, 46, 49, 46, 48]⟩) := hmw.c1 0 (by decide)
  have hm1 : MsAt w2 (.slice (some ⟨ug, 0, none⟩) 1 uc) [ma1] := ⟨_, uc, rfl, by have h2 : 2 ≤ uc := huc; show 1 ≤ uc; omega, fun _ => ⟨ug, 0, rfl, fun j hj => by
    have hj2 : j < 1 := hj
    obtain rfl : j = 0 := by omega
    exact ⟨k0, k1⟩⟩⟩
  have HUN := hid (und_any [ma1] [ma1, mb0] _ _ A m w2 (by decide) (by decide) (fun x hx => by rw [List.mem_singleton.1 hx]; decide) (fun x hx => by
    rcases List.mem_cons.1 hx with rfl | hx
    · decide
    · rw [List.mem_singleton.1 hx]; decide) (HS.out.below HB2.out) hm1 hms)
  have hub : undB [ma1] [ma1, mb0] = true := by kernel_rfl
  rw [hub, show ([ma1, mb0] : List Bm).length = 2 from rfl] at HUN
  have s1 : ((⟨#[118, 49, 46, 49, 46, 48]⟩ : ByteArray).toList == (⟨#[118, 49, 46, 49, 46, 48]⟩ : ByteArray).toList) = true := by simp
  have huc2 : (2 : Int) ≤ (uc : Int) := by have h2 : 2 ≤ uc := huc; omega
  have huc1 : (1 : Int) ≤ (uc : Int) := by omega
  clear hbt hk hmw hms hm1 hub HBU
  go_wp2_with fail
  refine HUN.out.mono ?_
  rintro e w3 ⟨rfl, hb⟩
  have HB3 := hid (HB2.out.trans (hb.mono HB2.out.size))
  clear hb
  go_wp2_with fail
  go_ret
  exact ⟨rfl, HB3.out⟩
end Ve
end Go.Proofs.YtoaobngpdaidoaaGreatDoor

/-
  What slices.Equal answers over modules; what mvs.IsSelection answers: do paths rise?
-/
namespace Go.Proofs.YtoaobngpdaidoaaGreatDoor
open Go.RowKit Go.Maps
namespace Ve

set_option maxHeartbeats 2000000 in
theorem eqS_len (a a' : Option Addr) (n n' c c' : Nat) (w : World) (h : n ≠ n') : Calls Tryz.prog 55 #[.slice a n c, .slice a' n' c'] w fun e w' => e = .returned (.bool false) ∧ Below w.heap.size w w' := by
  have h1 : ¬ (n : Int) = (n' : Int) := by omega
  have h2 : ((n : Int) == (n' : Int)) = false := by simp; omega
  go_enter Tryz.func55, Tryz.ntmps55
  go_wp2_with fail
  go_ret
  exact ⟨rfl, Below.refl _ _⟩
set_option maxHeartbeats 2000000 in
theorem eqS_some (L M : List Bm) (b o c b' o' c' : Nat) (w : World) (hn : L.length ≤ 1000000) (hl : M.length = L.length)
    (hc : ∀ j (h : j < L.length), w.cell? ⟨b, o + j * 2, none⟩ = some (.string L[j].1) ∧ w.cell? ⟨b, o + j * 2 + 1, none⟩ = some (.string L[j].2))
    (hd : ∀ j (h : j < M.length), w.cell? ⟨b', o' + j * 2, none⟩ = some (.string M[j].1) ∧ w.cell? ⟨b', o' + j * 2 + 1, none⟩ = some (.string M[j].2)) :
    Calls Tryz.prog 55 #[.slice (some ⟨b, o, none⟩) L.length c, .slice (some ⟨b', o', none⟩) L.length c'] w fun e w' => e = .returned (.bool (decide (L = M))) ∧ Below w.heap.size w w' := by
  have HC := hid hc
  have HD := hid hd
  have hgd := modGuard
  have HX := hid (show (∀ j (h : j < L.length) (h' : j < M.length), L[j] = M[j]) → decide (L = M) = true from fun h => decide_eq_true (List.ext_getElem hl.symm (fun j h1 h2 => h j h1 h2)))
  have HY := hid (show ∀ j (h : j < L.length) (h' : j < M.length), L[j] ≠ M[j] → decide (L = M) = false from fun j h h' hne => decide_eq_false (fun e => hne (by subst e; rfl)))
  generalize decide (L = M) = z at *
  clear hc hd
  go_enter Tryz.func55, Tryz.ntmps55
  go_wp2_with fail
  go_loopw [13] (fun i wr => ∃ k : Nat, k ≤ L.length ∧ i = .int .i64 k ∧ Hid (∀ j (h : j < L.length) (h' : j < M.length), j < k → L[j] = M[j]) ∧ Hid (Below w.heap.size w wr)) (fun i _ => L.length - (intOf i).toNat)
  case atStart => exact ⟨0, Nat.zero_le _, rfl, hid (fun j _ _ hj => absurd hj (Nat.not_lt_zero _)), hid (Below.refl _ _)⟩
  case round =>
    obtain ⟨k, hk, rfl, HE, HB⟩ := hrel
    by_cases hlt : k < L.length
    · have hlm : k < M.length := by omega
      have hx := cell_below HB.out (HC.out k hlt).1
      have hy := cell_below HB.out (HC.out k hlt).2
      have hx' := cell_below HB.out (HD.out k hlm).1
      have hy' := cell_below HB.out (HD.out k hlm).2
      have hne := fun W => modNeq L[k].1 L[k].2 M[k].1 M[k].2 W
      have hkI : (k : Int) < (L.length : Int) := by omega
      have HLT := hid hlt
      have HN := hid (show L[k] = M[k] → ∀ j (h : j < L.length) (h' : j < M.length), j < k + 1 → L[j] = M[j] from fun h0 j h1 h2 h3 => by
        rcases Nat.lt_or_ge j k with h | h
        · exact HE.out j h1 h2 h
        · have : j = k := by omega
          subst this; exact h0)
      have HYK := hid (HY.out k hlt hlm)
      generalize L[k] = x at *
      generalize M[k] = y at *
      obtain ⟨x1, x2⟩ := x
      obtain ⟨y1, y2⟩ := y
      simp only at hx hy hx' hy' hne
      clear hlt hlm
      by_cases he : x1 = y1 ∧ x2 = y2
      · rw [decide_eq_true he] at hne
        have HN2 := hid (HN.out (Prod.ext he.1 he.2))
        clear he HN
        go_wp2_with fail
        go_quiet (fail)
        go_wp2_with fail
        go_roundw
        case rel => first | exact ⟨k + 1, HLT.out, nr_idx k, HN2, hid (below_drawn_of HB.out _)⟩ | exact ⟨k + 1, HLT.out, nx_idx HLT.out hn, HN2, hid (below_drawn_of HB.out _)⟩
        case measure => first | exact nr_meas HLT.out | exact nx_meas HLT.out hn
      · rw [decide_eq_false he] at hne
        have HZ := hid (HYK.out (fun e => he (by injection e with e1 e2; exact ⟨e1, e2⟩)))
        clear he HN
        go_wp2_with fail
        go_quiet (fail)
        go_wp2_with fail
        go_ret
        exact ⟨by rw [HZ.out]; rfl, below_drawn_of HB.out _⟩
    · have hkI : ¬ (k : Int) < (L.length : Int) := by omega
      have HZ := hid (HX.out (fun j h h' => HE.out j h h' (by omega)))
      go_wp2_with fail
      go_ret
      exact ⟨by rw [HZ.out]; rfl, HB.out⟩
theorem eqS_none (a a' : Option Addr) (c c' : Nat) (w : World) : Calls Tryz.prog 55 #[.slice a 0 c, .slice a' 0 c'] w fun e w' => e = .returned (.bool true) ∧ Below w.heap.size w w' := by
  go_enter Tryz.func55, Tryz.ntmps55
  go_wp2_with fail
  go_loopw [13] (fun i wr => i = .int .i64 0 ∧ wr = w) (fun i _ => 0)
  case atStart => exact ⟨rfl, rfl⟩
  case round =>
    obtain ⟨rfl, rfl⟩ := hrel
    go_wp2_with fail
    go_ret
    exact ⟨rfl, Below.refl _ _⟩
theorem eqS_any (L M : List Bm) (v u : Value) (w : World) (hn : L.length ≤ 1000000) (hv : MsAt w v L) (hu : MsAt w u M) : Calls Tryz.prog 55 #[v, u] w fun e w' => e = .returned (.bool (decide (L = M))) ∧ Below w.heap.size w w' := by
  obtain ⟨a, c, rfl, _, h⟩ := hv
  obtain ⟨a', c', rfl, _, h'⟩ := hu
  by_cases hl : M.length = L.length
  · cases L with
    | nil =>
      have : M = [] := List.length_eq_zero_iff.1 hl
      subst this
      exact eqS_none a a' c c' w
    | cons x r =>
      obtain ⟨b, o, rfl, h2⟩ := h (by simp)
      obtain ⟨b', o', rfl, h3⟩ := h' (fun e => by rw [e] at hl; simp at hl)
      rw [hl]
      exact eqS_some (x :: r) M b o c b' o' c' w hn hl h2 h3
  · rw [decide_eq_false (fun e => hl (by rw [e]))]
    exact eqS_len a a' _ _ c c' w (fun e => hl e.symm)
/-- Do paths rise? -/
def risB2 : List Bm → Bool
  | [] => true
  | [_] => true
  | a :: b :: r => lt a.1 b.1 && risB2 (b :: r)
theorem risB2_iff : ∀ {L : List Bm}, risB2 L = true ↔ rising L
  | [] => ⟨fun _ => List.Pairwise.nil, fun _ => rfl⟩
  | [a] => ⟨fun _ => List.pairwise_singleton _ _, fun _ => rfl⟩
  | a :: b :: r => by
    unfold risB2
    rw [Bool.and_eq_true, risB2_iff]
    constructor
    · rintro ⟨h1, h2⟩
      refine List.pairwise_cons.2 ⟨fun c hc => ?_, h2⟩
      rcases List.mem_cons.1 hc with rfl | hc
      · exact h1
      · exact lt_trans h1 ((List.pairwise_cons.1 h2).1 c hc)
    · intro h
      obtain ⟨h1, h2⟩ := List.pairwise_cons.1 h
      exact ⟨h1 b (by simp), h2⟩
theorem risB2_all : ∀ {L : List Bm}, (∀ j (h : j + 1 < L.length), lt (L[j]'(by omega)).1 L[j + 1].1 = true) → risB2 L = true
  | [], _ => rfl
  | [_], _ => rfl
  | a :: b :: r, h => by
    unfold risB2
    rw [Bool.and_eq_true]
    exact ⟨h 0 (by simp), risB2_all (L := b :: r) fun j hj => h (j + 1) (by simpa using hj)⟩
theorem risB2_not {L : List Bm} {j : Nat} (h : j + 1 < L.length) (hn : lt (L[j]'(by omega)).1 L[j + 1].1 = false) : risB2 L = false := by
  cases hb : risB2 L
  · rfl
  · have := List.pairwise_iff_getElem.1 (risB2_iff.1 hb) j (j + 1) (by omega) h (by omega)
    rw [hn] at this; cases this
theorem geqB (a b : ByteArray) (X : World) : (binOp BinOp.geq 9 (.string a) (.string b)).run Tryz.prog X = .ok (.bool (!lt a b)) X := by rw [← noLess_lt, ← noLess_is]; rfl
theorem isSel_none (a : Option Addr) (c : Nat) (w : World) : Calls Tryz.prog 57 #[.slice a 0 c] w fun e w' => e = .returned (.bool true) ∧ Below w.heap.size w w' := by
  go_enter Tryz.func57, Tryz.ntmps57
  go_wp2_with fail
  go_loopw [3] (fun i wr => i = .int .i64 1 ∧ wr = w) (fun i _ => 0)
  case atStart => exact ⟨rfl, rfl⟩
  case round =>
    obtain ⟨rfl, rfl⟩ := hrel
    go_wp2_with fail
    go_ret
    exact ⟨rfl, Below.refl _ _⟩
set_option maxHeartbeats 2000000 in
theorem isSel_some (L : List Bm) (b o c : Nat) (w : World) (hn : L.length ≤ 1000000) (h0 : 0 < L.length)
    (hc : ∀ j (h : j < L.length), w.cell? ⟨b, o + j * 2, none⟩ = some (.string L[j].1) ∧ w.cell? ⟨b, o + j * 2 + 1, none⟩ = some (.string L[j].2)) :
    Calls Tryz.prog 57 #[.slice (some ⟨b, o, none⟩) L.length c] w fun e w' => e = .returned (.bool (risB2 L)) ∧ Below w.heap.size w w' := by
  have HC := hid hc
  have HX := hid (show (∀ j (h : j + 1 < L.length), lt (L[j]'(by omega)).1 L[j + 1].1 = true) → risB2 L = true from fun h => risB2_all h)
  have HY := hid (show ∀ j (h : j + 1 < L.length), lt (L[j]'(by omega)).1 L[j + 1].1 = false → risB2 L = false from fun j h hne => risB2_not h hne)
  generalize risB2 L = z at *
  clear hc
  go_enter Tryz.func57, Tryz.ntmps57
  go_wp2_with fail
  go_loopw [3] (fun i wr => ∃ k : Nat, k + 1 ≤ L.length ∧ i = .int .i64 ((k : Int) + 1) ∧ Hid (∀ j (h : j + 1 < L.length), j < k → lt (L[j]'(by omega)).1 L[j + 1].1 = true) ∧ Hid (Below w.heap.size w wr)) (fun i _ => L.length - (intOf i).toNat)
  case atStart => exact ⟨0, h0, rfl, hid (fun j _ hj => absurd hj (Nat.not_lt_zero _)), hid (Below.refl _ _)⟩
  case round =>
    obtain ⟨k, hk, rfl, HE, HB⟩ := hrel
    by_cases hlt : k + 1 < L.length
    · have hx := cell_below HB.out (HC.out k (Nat.lt_of_succ_lt hlt)).1
      have hx' := cell_below HB.out (HC.out (k + 1) hlt).1
      have hge := fun W => geqB (L[k]'(by omega)).1 L[k + 1].1 W
      have hkI : (k : Int) + 1 < (L.length : Int) := by omega
      have kx1 : (0 : Int) ≤ (k : Int) + 1 := by omega
      have kx2 : (k : Int) + 1 - 1 = (k : Int) := by omega
      have kx3 : (k : Int) < (L.length : Int) := by omega
      have kx4 : (0 : Int) ≤ (k : Int) := by omega
      have ktn : ((k : Int) + 1).toNat = k + 1 := by omega
      have kw0 : wrap64 (k : Int) = (k : Int) := IntWalk.wrap64_in _ (by omega)
      have kw1 : IntKind.i64.wrap (k : Int) = (k : Int) := by rw [IntKind.wrap_i64] <;> omega
      have kw2 : wrap64 ((k : Int) + 1 + 1) = (k : Int) + 1 + 1 := IntWalk.wrap64_in _ (by omega)
      have HLT := hid hlt
      have HN := hid (show lt (L[k]'(by omega)).1 L[k + 1].1 = true → ∀ j (h : j + 1 < L.length), j < k + 1 → lt (L[j]'(by omega)).1 L[j + 1].1 = true from fun h0 j h1 h2 => by
        rcases Nat.lt_or_ge j k with h | h
        · exact HE.out j h1 h
        · have : j = k := by omega
          subst this; exact h0)
      have HYK := hid (HY.out k hlt)
      generalize (L[k]'(Nat.lt_of_succ_lt hlt)) = x at *
      generalize (L[k + 1]'hlt) = y at *
      obtain ⟨x1, x2⟩ := x
      obtain ⟨y1, y2⟩ := y
      simp only at hx hx' hge HN HYK
      clear hlt hk
      cases he : lt x1 y1 with
      | true =>
        have HN2 := hid (HN.out he)
        rw [he] at hge
        clear he HN HYK
        go_wp2_with fail
        go_quiet (fail)
        go_wp2_with fail
        go_roundw
        case rel => exact ⟨k + 1, HLT.out, by first | rfl | (simp only [kw2]; push_cast; rfl), HN2, hid (below_drawn_of HB.out _)⟩
        case measure =>
          have := HLT.out
          simp only [intOf]
          omega
      | false =>
        have HZ := hid (HYK.out he)
        rw [he] at hge
        clear he HN HYK
        go_wp2_with fail
        go_quiet (fail)
        go_wp2_with fail
        go_ret
        exact ⟨by rw [HZ.out]; rfl, below_drawn_of HB.out _⟩
    · have hkI : ¬ (k : Int) + 1 < (L.length : Int) := by omega
      have HZ := hid (HX.out (fun j h => HE.out j h (by omega)))
      go_wp2_with fail
      go_ret
      exact ⟨by rw [HZ.out]; rfl, HB.out⟩
/-- mvs.IsSelection. -/
theorem isSel_any (L : List Bm) (v : Value) (w : World) (hv : MsAt w v L) (hn : L.length ≤ 1000000) :
    Calls Tryz.prog 57 #[v] w fun e w' => e = .returned (.bool (risB2 L)) ∧ Below w.heap.size w w' := by
  obtain ⟨a, c, rfl, _, h⟩ := hv
  cases L with
  | nil => exact isSel_none a c w
  | cons x r =>
    obtain ⟨b, o, rfl, h2⟩ := h (by simp)
    exact isSel_some (x :: r) b o c w hn (by simp) h2
end Ve
end Go.Proofs.YtoaobngpdaidoaaGreatDoor

/-
  What mvs.check and mvs.Closed answer.
-/
namespace Go.Proofs.YtoaobngpdaidoaaGreatDoor
open Go.RowKit Go.Maps
namespace Ve

/-- What is wrong with an index, roots and a selection. -/
def chkC (Q : List Raw) (L : List Ent) (roots sel : List Bm) : Nat × Option Nat := if (chkG Q L roots).1 ≠ 0 then chkG Q L roots else if codeE (nonE Q sel) sel.length ≠ 0 then (codeE (nonE Q sel) sel.length, fstE (nonE Q sel) sel.length) else if risB2 sel then (0, none) else (8, none)
theorem univ_right {Q : List Raw} {L : List Ent} (h : (chk Q L).1 = 0) : ∀ m, m ∈ univ L → mErr m = 0 := fun m hm => by
  obtain ⟨e, he, rfl⟩ := List.mem_map.1 hm
  obtain ⟨j, hj, rfl⟩ := List.getElem_of_mem he
  exact entE_mod hj ((chk_each0 h).2 j hj)
theorem chkC_bad {Q : List Raw} {L : List Ent} {roots sel : List Bm} (h : (chkG Q L roots).1 ≠ 0) : chkC Q L roots sel = chkG Q L roots := by unfold chkC; rw [if_pos h]
theorem chkC_sel {Q : List Raw} {L : List Ent} {roots sel : List Bm} (h : (chkG Q L roots).1 = 0) (h2 : codeE (nonE Q sel) sel.length ≠ 0) : chkC Q L roots sel = (codeE (nonE Q sel) sel.length, fstE (nonE Q sel) sel.length) := by unfold chkC; rw [if_neg (by simp [h]), if_pos h2]
theorem chkC_ris {Q : List Raw} {L : List Ent} {roots sel : List Bm} (h : (chkG Q L roots).1 = 0) (h2 : codeE (nonE Q sel) sel.length = 0) : chkC Q L roots sel = if risB2 sel then (0, none) else (8, none) := by unfold chkC; rw [if_neg (by simp [h]), if_neg (by simp [h2])]
set_option maxRecDepth 100000 in
set_option maxHeartbeats 4000000 in
/-- mvs.check. -/
theorem mcheck_all (Q : List Raw) (L : List Ent) (roots sel : List Bm) (v rv sv : Value) (A : Nat → Addr) (m : Int) (w : World) (hn : L.length ≤ 1000) (hrn : roots.length ≤ 1000000) (hsn : sel.length ≤ 500) (sh : ∀ e, e ∈ L → ShE e) (S : Te w A m) (I : Ixs w v Q L) (hr : MsAt w rv roots) (hs : MsAt w sv sel) (es : Em sv sel) :
    Calls Tryz.prog 36 #[v, rv, sv] w fun e w' => ∃ x, e = .returned x ∧ ErrAt w' A x (chkC Q L roots sel).1 (chkC Q L roots sel).2 ∧ Below w.heap.size w w' := by
  have HCK := hid (icheck_any Q L v A m w (by omega) sh S I)
  have HCM := hid (fun W (h : Below w.heap.size w W) => cmods_any Q roots v rv A m W (by rw [I.ln]; omega) hrn (S.below h) (I.es.below h) (hr.below h))
  have HCS := hid (fun W (h : Below w.heap.size w W) => cmods_any Q sel v sv A m W (by rw [I.ln]; omega) (by omega) (S.below h) (I.es.below h) (hs.below h))
  have HIS := hid (fun W (h : Below w.heap.size w W) (_ : (chk Q L).1 = 0) (_ : codeE (nonE Q sel) sel.length = 0) => isSel_any sel sv W (hs.below h) (by omega))
  have HS := hid S
  obtain ⟨a, c, hv, -⟩ := id I.es
  subst hv
  obtain ⟨ra, rc, hrv, -⟩ := id hr
  subst hrv
  obtain ⟨sa, sc, hsv, -⟩ := id hs
  subst hsv
  clear S I hr sh hs es
  by_cases h0 : (chk Q L).1 = 0
  · have hG : chkG Q L roots = (codeE (nonE Q roots) roots.length, fstE (nonE Q roots) roots.length) := chkG_ok h0
    go_enter Tryz.func36, Tryz.ntmps36
    go_wp2_with fail
    refine HCK.out.mono ?_
    rintro e w1 ⟨x, rfl, he, hb⟩
    have HB1 := hid hb
    rcases he.kind with ⟨_, rfl⟩ | ⟨h, _⟩
    · clear he hb HCK
      by_cases h1 : codeE (nonE Q roots) roots.length = 0
      · have hg0 : (chkG Q L roots).1 = 0 := by rw [hG]; exact h1
        go_wp2_with fail
        refine (HCM.out _ HB1.out).mono ?_
        rintro e w2 ⟨x, rfl, he, hb⟩
        have HB2 := hid (HB1.out.trans (hb.mono HB1.out.size))
        rcases he.kind with ⟨_, rfl⟩ | ⟨h, _⟩
        · clear he hb HCM
          by_cases h2 : codeE (nonE Q sel) sel.length = 0
          · go_wp2_with fail
            refine (HCS.out _ HB2.out).mono ?_
            rintro e w3 ⟨x, rfl, he, hb⟩
            have HB3 := hid (HB2.out.trans (hb.mono HB2.out.size))
            rcases he.kind with ⟨_, rfl⟩ | ⟨h, _⟩
            · clear he hb HCS
              have HSL := hid (HIS.out w3 HB3.out h0 h2)
              have HC := hid (chkC_ris (sel := sel) hg0 h2)
              clear h0 h1 h2 hG hg0 HIS
              cases hs : risB2 sel
              · rw [hs] at HSL HC
                clear hs
                go_wp2_with fail
                refine HSL.out.mono ?_
                rintro e w4 ⟨rfl, hb⟩
                have HB4 := hid (HB3.out.trans (hb.mono HB3.out.size))
                have g7 := (HS.out.below HB4.out).sen.g7
                clear hb
                go_wp2_with fail
                go_ret
                exact ⟨_, rfl, by rw [HC.out]; rfl, HB4.out⟩
              · rw [hs] at HSL HC
                clear hs
                go_wp2_with fail
                refine HSL.out.mono ?_
                rintro e w4 ⟨rfl, hb⟩
                have HB4 := hid (HB3.out.trans (hb.mono HB3.out.size))
                clear hb
                go_wp2_with fail
                go_ret
                exact ⟨_, rfl, by rw [HC.out]; rfl, HB4.out⟩
            · exact absurd h2 h
          · go_wp2_with fail
            refine (HCS.out _ HB2.out).mono ?_
            rintro e w3 ⟨x, rfl, he, hb⟩
            have HB3 := hid (HB2.out.trans (hb.mono HB2.out.size))
            have HE := hid he
            rcases he.kind with ⟨h, _⟩ | ⟨_, T, xa, rfl⟩
            · exact absurd h h2
            have HC := hid (chkC_sel hg0 h2)
            clear he hb HCS h0 h1 h2 hG hg0
            go_wp2_with fail
            go_ret
            exact ⟨_, rfl, by rw [HC.out]; exact HE.out, HB3.out⟩
        · exact absurd h1 h
      · go_wp2_with fail
        refine (HCM.out _ HB1.out).mono ?_
        rintro e w2 ⟨x, rfl, he, hb⟩
        have HB2 := hid (HB1.out.trans (hb.mono HB1.out.size))
        have HE := hid he
        rcases he.kind with ⟨h, _⟩ | ⟨_, T, xa, rfl⟩
        · exact absurd h h1
        have HC := hid (chkC_bad (sel := sel) (show (chkG Q L roots).1 ≠ 0 by rw [hG]; exact h1))
        rw [hG] at HC
        clear he hb HCM h0 h1 hG
        go_wp2_with fail
        go_ret
        exact ⟨_, rfl, by rw [HC.out]; exact HE.out, HB2.out⟩
    · exact absurd h0 h
  · have HC := hid (chkC_bad (sel := sel) (show (chkG Q L roots).1 ≠ 0 by rw [chkG_bad h0]; exact h0))
    rw [chkG_bad h0] at HC
    go_enter Tryz.func36, Tryz.ntmps36
    go_wp2_with fail
    refine HCK.out.mono ?_
    rintro e w1 ⟨x, rfl, he, hb⟩
    have HB1 := hid hb
    have HE := hid he
    rcases he.kind with ⟨h, _⟩ | ⟨_, T, xa, rfl⟩
    · exact absurd h h0
    clear he hb HCK h0
    go_wp2_with fail
    go_ret
    exact ⟨_, rfl, by rw [HC.out]; exact HE.out, HB1.out⟩
/-- Is a selection closed? -/
def closB (Q : List Raw) (L : List Ent) (roots sel : List Bm) : Bool := undB roots sel && sel.all fun m => undB (reqQ Q L m) sel
theorem reqQ_sz {Q : List Raw} {L : List Ent} (sh : ∀ e, e ∈ L → ShE e) (m : Bm) : (reqQ Q L m).length ≤ 1000000 ∧ ∀ x, x ∈ reqQ Q L m → x.1.size < 999999 ∧ x.2.size < 999999 := by
  unfold reqQ
  split
  · exact ⟨by simp, fun x hx => by cases hx⟩
  · cases h : L[(idxOf (isM m) Q).toNat]? with
    | none => exact ⟨by simp, fun x hx => by simp at hx⟩
    | some e =>
      have he := sh e (List.mem_of_getElem? h)
      exact ⟨he.rn, fun x hx => he.rs x hx⟩
set_option maxRecDepth 100000 in
set_option maxHeartbeats 4000000 in
theorem clK_any (Q : List Raw) (L : List Ent) (sel : List Bm) (x : Bm) (lb sb : Nat) (v sv : Value) (A : Nat → Addr) (m : Int) (W : World) (hn : L.length ≤ 1000) (hsn : sel.length ≤ 1000000) (hss : ∀ y, y ∈ sel → y.2.size < 999999) (sh : ∀ e, e ∈ L → ShE e) (hx : x ∈ univ L) (S : Te W A m) (I : Ixs W v Q L) (hs : MsAt W sv sel) (c0 : W.cell? ⟨lb, 0, none⟩ = some v) (c1 : W.cell? ⟨sb, 0, none⟩ = some sv) :
    Calls Tryz.prog 37 (#[.agg #[.string x.1, .string x.2]] ++ #[.pointer (some ⟨lb, 0, none⟩), .pointer (some ⟨sb, 0, none⟩)]) W fun e w' => e = .returned (.bool (!undB (reqQ Q L x) sel)) ∧ Below W.heap.size W w' := by
  obtain ⟨kq, hkq⟩ := (found_iff I x).1 hx
  obtain ⟨hkl, -⟩ := idx_is hkq
  have hkl2 : kq < L.length := by rw [← I.ln]; exact hkl
  have HB0 := hid ((Below.refl W.heap.size W).alloc (Nat.le_refl _) (.cells #[.string x.1, .string x.2] 46))
  have HFI := hid (fun W' (h : Below W.heap.size W W') => find_any Q x v W' (by rw [I.ln]; omega) (I.below h).es)
  rw [hkq] at HFI
  have HRS := hid (reqQ_sz (Q := Q) sh x)
  have HRQ := hid (reqQ_at hkq hkl2)
  have hkI : (kq : Int) < (Q.length : Int) := by omega
  have hk0 : (0 : Int) ≤ (kq : Int) := by omega
  obtain ⟨a, c, hv, -⟩ := id I.es
  subst hv
  have HES := hid (fun W' (h : Below W.heap.size W W') => es_cells (I.below h).es hkl)
  have HMS := hid (fun W' (h : Below W.heap.size W W') => ((I.below h).ok kq hkl hkl2).rq)
  rw [HRQ.out] at HRS ⊢
  generalize (L[kq]'hkl2).2.1 = R at *
  generalize (Q[kq]'hkl).2.1 = qv at *
  obtain ⟨qa, qc, hqv, -⟩ := HMS.out W (Below.refl _ _)
  subst hqv
  obtain ⟨sa, sc, hsv, -⟩ := id hs
  subst hsv
  have HUN := hid (fun W' (h : Below W.heap.size W W') => und_any R sel _ _ A m W' HRS.out.1 hsn (fun y hy => (HRS.out.2 y hy).2) hss (S.below h) (HMS.out W' h) (hs.below h))
  obtain ⟨eb, eo, ha, -⟩ := HES.out W (Below.refl _ _)
  subst ha
  have HCL := hid (fun W' (h : Below W.heap.size W W') => show W'.cell? ⟨lb, 0, none⟩ = some (.slice (some ⟨eb, eo, none⟩) Q.length c) ∧ W'.cell? ⟨sb, 0, none⟩ = some (.slice sa sel.length sc) from ⟨cell_below h c0, cell_below h c1⟩)
  have HX2 := hid (fun W' (h : Below W.heap.size W W') => show W'.cell? ⟨eb, eo + kq * 5 + 2, none⟩ = some (.slice qa R.length qc) by
    obtain ⟨eb', eo', e, h2⟩ := HES.out W' h
    injection e with e
    injection e with e1 e2
    subst e1 e2
    exact h2)
  obtain ⟨d0, d1⟩ := HCL.out _ HB0.out
  show Calls Tryz.prog 37 #[.agg #[.string x.1, .string x.2], .pointer (some ⟨lb, 0, none⟩), .pointer (some ⟨sb, 0, none⟩)] W _
  clear S I hs hkq hkl hkl2 hx HES HMS HRQ sh c0 c1 hss
  obtain ⟨Wa, hWa⟩ : ∃ Wa, W.alloc (.cells #[.string x.1, .string x.2] 46) = Wa := ⟨_, rfl⟩
  have b0 : Wa.cell? ⟨W.heap.size, 0, none⟩ = some (.string x.1) := by rw [← hWa]; simp
  have b1 : Wa.cell? ⟨W.heap.size, 1, none⟩ = some (.string x.2) := by rw [← hWa]; simp
  rw [hWa] at HB0 d0 d1
  have HW := hid (fun W' (hW : Below Wa.heap.size Wa W') => (HB0.out.trans (hW.mono HB0.out.size)))
  have HT := hid (fun W' (hW : Below Wa.heap.size Wa W') => (show (fun W' => W'.cell? ⟨lb, 0, none⟩ = some (.slice (some ⟨eb, eo, none⟩) Q.length c) ∧ W'.cell? ⟨sb, 0, none⟩ = some (.slice sa sel.length sc) ∧ W'.cell? ⟨W.heap.size, 0, none⟩ = some (.string x.1) ∧ W'.cell? ⟨W.heap.size, 1, none⟩ = some (.string x.2) ∧ W'.cell? ⟨eb, eo + kq * 5 + 2, none⟩ = some (.slice qa R.length qc) ∧ Hid (Below Wa.heap.size Wa W')) W' from ⟨(HCL.out W' (HW.out W' hW)).1, (HCL.out W' (HW.out W' hW)).2, cell_below hW b0, cell_below hW b1, HX2.out W' (HW.out W' hW), hid hW⟩))
  have x2 := HX2.out Wa HB0.out
  go_enter Tryz.func37, Tryz.ntmps37
  go_wp2_with fail
  clear hWa
  go_region_held (fun W' => W'.cell? ⟨lb, 0, none⟩ = some (.slice (some ⟨eb, eo, none⟩) Q.length c) ∧ W'.cell? ⟨sb, 0, none⟩ = some (.slice sa sel.length sc) ∧ W'.cell? ⟨W.heap.size, 0, none⟩ = some (.string x.1) ∧ W'.cell? ⟨W.heap.size, 1, none⟩ = some (.string x.2) ∧ W'.cell? ⟨eb, eo + kq * 5 + 2, none⟩ = some (.slice qa R.length qc) ∧ Hid (Below Wa.heap.size Wa W')) (first | exact HT.out _ HRb.out | exact HT.out _ HRa.out | exact HT.out _ (below_drawn _ 1)) (first
    | (go_at_call 38; refine (HFI.out _ (HW.out _ (below_drawn _ 1))).mono ?_; rintro e w' ⟨rfl, hb⟩; have HRa := hid ((below_drawn Wa 1).trans (hb.mono (Nat.le_refl _))); clear hb)
    | (go_at_call 19; refine (HUN.out _ (HW.out _ HRa.out)).mono ?_; rintro e w'' ⟨rfl, hb⟩; have HRb := hid (HRa.out.trans (hb.mono HRa.out.size)); clear hb))
  all_goals
    have HBe := hid (HW.out _ HRb.out)
    go_wp2_with fail
    go_ret
    exact ⟨rfl, HBe.out⟩
set_option maxRecDepth 100000 in
set_option maxHeartbeats 4000000 in
theorem closed_bad (Q : List Raw) (L : List Ent) (roots sel : List Bm) (v rv sv : Value) (A : Nat → Addr) (m : Int) (w : World) (hn : L.length ≤ 1000) (hrn : roots.length ≤ 1000000) (hsn : sel.length ≤ 500) (sh : ∀ e, e ∈ L → ShE e) (S : Te w A m) (I : Ixs w v Q L) (hr : MsAt w rv roots) (hs : MsAt w sv sel) (es : Em sv sel) (h0 : (chkC Q L roots sel).1 ≠ 0) :
    Calls Tryz.prog 16 #[v, rv, sv] w fun e w' => ∃ T a, e = .returned (.tuple #[.bool false, .iface T (.pointer (some a))]) ∧ ErrAt w' A (.iface T (.pointer (some a))) (chkC Q L roots sel).1 (chkC Q L roots sel).2 ∧ Below w.heap.size w w' := by
  have HB0 := hid (((Below.refl w.heap.size w).alloc (Nat.le_refl _) (.cells #[v] 22)).alloc (by simp) (.cells #[sv] 23))
  have HCK := hid (mcheck_all Q L roots sel v rv sv A m _ hn hrn hsn sh (S.below HB0.out) (I.below HB0.out) (hr.below HB0.out) (hs.below HB0.out) es)
  obtain ⟨a, c, hv, -⟩ := id I.es
  subst hv
  obtain ⟨ra, rc, hrv, -⟩ := id hr
  subst hrv
  obtain ⟨sa, sc, hsv, -⟩ := id hs
  subst hsv
  have H0 := hid h0
  clear S I hr hs es sh h0
  go_enter Tryz.func16, Tryz.ntmps16
  go_wp2_with fail
  refine HCK.out.mono ?_
  rintro e w1 ⟨x, rfl, he, hb⟩
  have HB1 := hid (HB0.out.trans (hb.mono HB0.out.size))
  have HE := hid he
  rcases he.kind with ⟨h, _⟩ | ⟨_, T, xa, rfl⟩
  · exact absurd h H0.out
  clear he hb HCK
  go_wp2_with fail
  go_ret2
  exact ⟨_, _, rfl, HE.out, HB1.out⟩
theorem chkC_good {w : World} {v : Value} {Q : List Raw} {L : List Ent} {roots sel : List Bm} (I : Ixs w v Q L) (h : (chkC Q L roots sel).1 = 0) : (chkG Q L roots).1 = 0 ∧ (∀ m, m ∈ sel → m ∈ univ L) ∧ risB2 sel = true := by
  by_cases h1 : (chkG Q L roots).1 = 0
  · have hc := (rgt_of I h1).c
    by_cases h2 : codeE (nonE Q sel) sel.length = 0
    · rw [chkC_ris h1 h2] at h
      refine ⟨h1, (rgt_of I (show (chkG Q L sel).1 = 0 by rw [chkG_ok hc]; exact h2)).r, ?_⟩
      cases hs : risB2 sel
      · rw [hs] at h; exact absurd h (by decide)
      · rfl
    · rw [chkC_sel h1 h2] at h; exact absurd h h2
  · rw [chkC_bad h1] at h; exact absurd h h1
theorem chkC_of {w : World} {v : Value} {Q : List Raw} {L : List Ent} {roots sel : List Bm} (I : Ixs w v Q L) (h1 : (chkG Q L roots).1 = 0) (h2 : ∀ m, m ∈ sel → m ∈ univ L) (h3 : risB2 sel = true) : (chkC Q L roots sel).1 = 0 := by
  have hc := (rgt_of I h1).c
  have h4 := chkG_in I hc h2
  rw [chkG_ok hc] at h4
  rw [chkC_ris h1 h4, h3]
  rfl
set_option maxRecDepth 100000 in
set_option maxHeartbeats 4000000 in
/-- mvs.Closed. -/
theorem closed_good (Q : List Raw) (L : List Ent) (roots sel : List Bm) (v rv sv : Value) (A : Nat → Addr) (m : Int) (w : World) (hn : L.length ≤ 1000) (hrn : roots.length ≤ 1000000) (hsn : sel.length ≤ 500) (sh : ∀ e, e ∈ L → ShE e) (S : Te w A m) (I : Ixs w v Q L) (hr : MsAt w rv roots) (hs : MsAt w sv sel) (es : Em sv sel) (h0 : (chkC Q L roots sel).1 = 0) :
    Calls Tryz.prog 16 #[v, rv, sv] w fun e w' => e = .returned (.tuple #[.bool (closB Q L roots sel), .nilIface]) ∧ Below w.heap.size w w' := by
  obtain ⟨hg, hsu, -⟩ := chkC_good I h0
  have hru := (rgt_of I hg).r
  have HB0 := hid (((Below.refl w.heap.size w).alloc (Nat.le_refl _) (.cells #[v] 22)).alloc (by simp) (.cells #[sv] 23))
  have HCK := hid (mcheck_all Q L roots sel v rv sv A m _ hn hrn hsn sh (S.below HB0.out) (I.below HB0.out) (hr.below HB0.out) (hs.below HB0.out) es)
  have HUN := hid (fun W (h : Below w.heap.size w W) => und_any roots sel rv sv A m W hrn (by omega) (fun y hy => (univ_szJ sh (hru y hy)).2) (fun y hy => (univ_szJ sh (hsu y hy)).2) (S.below h) (hr.below h) (hs.below h))
  have eg : ∀ args w, (callFunc 37 args).run Tryz.prog w = .ok (.enter 37 args) w := enters_of Tryz.func37 (by kernel_rfl) rfl
  have HHA := hid (fun W (h : Below w.heap.size w W) (c0 : W.cell? ⟨w.heap.size, 0, none⟩ = some v) (c1 : W.cell? ⟨w.heap.size + 1, 0, none⟩ = some sv) => hasM_any 37 #[.pointer (some ⟨w.heap.size, 0, none⟩), .pointer (some ⟨w.heap.size + 1, 0, none⟩)] (fun x => !undB (reqQ Q L x) sel) sel sv W eg (by omega) (hs.below h) (fun i hi W' hW => by
    have hb2 := h.trans (hW.mono h.size)
    exact clK_any Q L sel sel[i] w.heap.size (w.heap.size + 1) v sv A m W' hn (by omega) (fun y hy => (univ_szJ sh (hsu y hy)).2) sh (hsu _ (List.getElem_mem hi)) (S.below hb2) (I.below hb2) (hs.below hb2) (cell_below hW c0) (cell_below hW c1)))
  have HX := hid (show closB Q L roots sel = (undB roots sel && !(sel.any fun x => !undB (reqQ Q L x) sel)) by
    unfold closB
    congr 1
    rw [List.any_eq_not_all_not]
    simp)
  obtain ⟨a, c, hv, -⟩ := id I.es
  subst hv
  obtain ⟨ra, rc, hrv, -⟩ := id hr
  subst hrv
  obtain ⟨sa, sc, hsv, -⟩ := id hs
  subst hsv
  have H0 := hid h0
  generalize closB Q L roots sel = z at *
  generalize undB roots sel = zu at *
  generalize (sel.any fun x => !undB (reqQ Q L x) sel) = za at *
  clear S I hr hs es sh h0 hg hsu hru eg
  go_enter Tryz.func16, Tryz.ntmps16
  go_wp2_with fail
  refine HCK.out.mono ?_
  rintro e w1 ⟨x, rfl, he, hb⟩
  have HB1 := hid (HB0.out.trans (hb.mono HB0.out.size))
  have d0 : w1.cell? ⟨w.heap.size, 0, none⟩ = some (.slice a Q.length c) := cell_below hb (by simp)
  have d1 : w1.cell? ⟨w.heap.size + 1, 0, none⟩ = some (.slice sa sel.length sc) := cell_below hb (by simp)
  rcases he.kind with ⟨_, rfl⟩ | ⟨h, _⟩
  · clear he hb HCK
    have HU1 := hid (HUN.out w1 HB1.out)
    cases zu
    · go_wp2_with fail
      refine HU1.out.mono ?_
      rintro e w2 ⟨rfl, hb⟩
      have HB2 := hid (HB1.out.trans (hb.mono HB1.out.size))
      clear hb
      go_wp2_with fail
      go_ret2
      exact ⟨by rw [HX.out]; rfl, HB2.out⟩
    · go_wp2_with fail
      refine HU1.out.mono ?_
      rintro e w2 ⟨rfl, hb⟩
      have HB2 := hid (HB1.out.trans (hb.mono HB1.out.size))
      have f0 := cell_below hb d0
      have f1 := cell_below hb d1
      have HH1 := hid (HHA.out w2 HB2.out f0 f1)
      clear hb d0 d1
      go_wp2_with fail
      refine HH1.out.mono ?_
      rintro e w3 ⟨rfl, hb⟩
      have HB3 := hid (HB2.out.trans (hb.mono HB2.out.size))
      clear hb
      go_wp2_with fail
      go_ret2
      exact ⟨by rw [HX.out]; rfl, HB3.out⟩
  · exact absurd H0.out h
end Ve
end Go.Proofs.YtoaobngpdaidoaaGreatDoor

/-
  What is built, plain: of what is reached the last of each path; an index' facts.
-/
namespace Go.Proofs.YtoaobngpdaidoaaGreatDoor
open Go.RowKit Go.Maps
namespace Ve

theorem ix_lt {i n : Nat} (h : i < n) : (i : Int) < (n : Int) := Int.ofNat_lt.2 h
theorem ix_nlt {i n : Nat} (h : ¬ i < n) : ¬ (i : Int) < (n : Int) := fun e => h (Int.ofNat_lt.1 e)
theorem ix_pos (i : Nat) : (0 : Int) ≤ (i : Int) := Int.natCast_nonneg _
theorem ix_pos1 (i : Nat) : (0 : Int) ≤ (i : Int) + 1 := by omega
theorem ix_lt1 {i n : Nat} (h : i + 1 < n) : (i : Int) + 1 < (n : Int) := by omega
theorem ix_nlt1 {i n : Nat} (h : ¬ i + 1 < n) : ¬ (i : Int) + 1 < (n : Int) := by omega
theorem ix_nat1 (i : Nat) : ((i : Int) + 1).toNat = i + 1 := by omega
theorem ix_w1 {i n : Nat} (h : i < n) (hn : n ≤ 1000000) : wrap64 ((i : Int) + 1) = (i : Int) + 1 := IntWalk.wrap64_in _ (by omega)
theorem ix_k1 {i n : Nat} (h : i < n) (hn : n ≤ 1000000) : IntKind.i64.wrap ((i : Int) + 1) = (i : Int) + 1 := by rw [IntKind.wrap_i64] <;> omega
theorem ms_atJ {W : World} {b o n c : Nat} {X : List Bm} (h : MsAt W (.slice (some ⟨b, o, none⟩) n c) X) {k : Nat} (hk : k < X.length) : W.cell? ⟨b, o + k * 2, none⟩ = some (.string X[k].1) ∧ W.cell? ⟨b, o + k * 2 + 1, none⟩ = some (.string X[k].2) := by
  obtain ⟨b', o', e, h1⟩ := h.cells hk
  injection e with e
  injection e with e1 e2
  subst e1 e2
  exact h1
/-- Is one of the same path behind it? -/
def nextB (X : List Bm) (i : Nat) (p : ByteArray) : Bool := match X[i + 1]? with
  | some y => decide (y.1 = p)
  | none => false
/-- The last of each path, of the first ones. -/
def lastN (X : List Bm) : Nat → List Bm
  | 0 => []
  | i + 1 => lastN X i ++ match X[i]? with
    | some x => if nextB X i x.1 then [] else [x]
    | none => []
theorem lastN_skip {X : List Bm} {i : Nat} (h : i < X.length) (hb : nextB X i X[i].1 = true) : lastN X (i + 1) = lastN X i := by
  show lastN X i ++ _ = _
  rw [List.getElem?_eq_getElem h]
  simp only [hb, if_true, List.append_nil]
theorem lastN_keep {X : List Bm} {i : Nat} (h : i < X.length) (hb : nextB X i X[i].1 = false) : lastN X (i + 1) = lastN X i ++ [X[i]] := by
  show lastN X i ++ _ = _
  rw [List.getElem?_eq_getElem h]
  simp [hb]
theorem lastN_len (X : List Bm) : ∀ i, (lastN X i).length ≤ i
  | 0 => Nat.le_refl _
  | i + 1 => by
    have h := lastN_len X i
    show (lastN X i ++ _).length ≤ _
    rw [List.length_append]
    split
    · split
      · simp; omega
      · simp; omega
    · simp; omega
theorem nextB_at {X : List Bm} {i : Nat} {p : ByteArray} (h : i + 1 < X.length) : nextB X i p = decide (X[i + 1].1 = p) := by unfold nextB; rw [List.getElem?_eq_getElem h]
theorem nextB_end {X : List Bm} {i : Nat} {p : ByteArray} (h : ¬ i + 1 < X.length) : nextB X i p = false := by unfold nextB; rw [List.getElem?_eq_none (by omega)]
theorem lastN_over {X : List Bm} {n : Nat} (h : ¬ n < X.length) : lastN X (n + 1) = lastN X n := by
  show lastN X n ++ _ = _
  rw [List.getElem?_eq_none (by omega)]; simp
theorem lastN_mem {X : List Bm} {e : Bm} : ∀ n, e ∈ lastN X n ↔ ∃ i, ∃ h : i < X.length, i < n ∧ X[i] = e ∧ nextB X i X[i].1 = false
  | 0 => ⟨(fun h => by cases h), fun ⟨i, _, h, _⟩ => absurd h (Nat.not_lt_zero _)⟩
  | n + 1 => by
    have ih := lastN_mem (X := X) (e := e) n
    by_cases h : n < X.length
    · cases hb : nextB X n X[n].1
      · rw [lastN_keep h hb, List.mem_append, ih, List.mem_singleton]
        constructor
        · rintro (⟨i, hi, h1, h2, h3⟩ | rfl)
          · exact ⟨i, hi, by omega, h2, h3⟩
          · exact ⟨n, h, by omega, rfl, hb⟩
        · rintro ⟨i, hi, h1, h2, h3⟩
          rcases Nat.lt_or_ge i n with h4 | h4
          · exact Or.inl ⟨i, hi, h4, h2, h3⟩
          · have : i = n := by omega
            subst this; exact Or.inr h2.symm
      · rw [lastN_skip h hb, ih]
        constructor
        · rintro ⟨i, hi, h1, h2, h3⟩; exact ⟨i, hi, by omega, h2, h3⟩
        · rintro ⟨i, hi, h1, h2, h3⟩
          rcases Nat.lt_or_ge i n with h4 | h4
          · exact ⟨i, hi, h4, h2, h3⟩
          · have : i = n := by omega
            subst this; rw [hb] at h3; cases h3
    · rw [lastN_over h, ih]
      constructor
      · rintro ⟨i, hi, h1, h2, h3⟩; exact ⟨i, hi, by omega, h2, h3⟩
      · rintro ⟨i, hi, h1, h2, h3⟩; exact ⟨i, hi, by omega, h2, h3⟩
theorem lastN_rising {X : List Bm} (hX : X.Pairwise fun a b => mAhead a b = true) : ∀ n, n ≤ X.length → rising (lastN X n)
  | 0, _ => List.Pairwise.nil
  | n + 1, hn => by
    have ih := lastN_rising hX n (by omega)
    have h : n < X.length := by omega
    cases hb : nextB X n X[n].1
    · rw [lastN_keep h hb]
      refine List.pairwise_append.2 ⟨ih, List.pairwise_singleton _ _, fun a ha b hbb => ?_⟩
      rw [List.mem_singleton.1 hbb]
      obtain ⟨i, hi, h1, rfl, h3⟩ := (lastN_mem n).1 ha
      have hp := List.pairwise_iff_getElem.1 hX
      have h4 : i + 1 < X.length := by omega
      rw [nextB_at h4] at h3
      have h5 : X[i + 1].1 ≠ X[i].1 := of_decide_eq_false h3
      have h6 := hp i (i + 1) hi h4 (by omega)
      rw [ahead_other (fun e => h5 e.symm)] at h6
      rcases Nat.lt_or_ge (i + 1) n with h7 | h7
      · have h8 := hp (i + 1) n h4 h h7
        by_cases e : X[i + 1].1 = X[n].1
        · rw [← e]; exact h6
        · rw [ahead_other e] at h8; exact lt_trans h6 h8
      · have : n = i + 1 := by omega
        subst this; exact h6
    · rw [lastN_skip h hb]; exact ih
theorem ordV_selfJ {m : Bm} (h : mErr m = 0) : ordV (vb m) (vb m) ≤ 0 := by rw [(ordV_zero (mErr_zero h).2 (mErr_zero h).2).2 rfl]; omega
theorem lastN_top {X : List Bm} (hX : X.Pairwise fun a b => mAhead a b = true) (hr : ∀ m, m ∈ X → mErr m = 0) : ∀ (d i : Nat) (hi : i < X.length), X.length - i = d → ∃ e, e ∈ lastN X X.length ∧ e.1 = X[i].1 ∧ ordV (vb X[i]) (vb e) ≤ 0
  | 0, i, hi, h => by omega
  | d + 1, i, hi, h => by
    have hm := hr X[i] (List.getElem_mem hi)
    cases hb : nextB X i X[i].1
    · exact ⟨X[i], (lastN_mem _).2 ⟨i, hi, hi, rfl, hb⟩, rfl, ordV_selfJ hm⟩
    · by_cases h1 : i + 1 < X.length
      · rw [nextB_at h1] at hb
        have h2 : X[i + 1].1 = X[i].1 := of_decide_eq_true hb
        obtain ⟨e, he, e1, e2⟩ := lastN_top hX hr d (i + 1) h1 (by omega)
        have hm1 := hr X[i + 1] (List.getElem_mem h1)
        have h3 := List.pairwise_iff_getElem.1 hX i (i + 1) hi h1 (by omega)
        rw [ahead_same h2.symm, less_right (mErr_zero hm).2 (mErr_zero hm1).2] at h3
        have h4 := of_decide_eq_true h3
        have hme : mErr e = 0 := by
          obtain ⟨j, hj, _, rfl, _⟩ := (lastN_mem _).1 he
          exact hr _ (List.getElem_mem hj)
        exact ⟨e, he, e1.trans h2, ordV_le_trans (mErr_zero hm).2 (mErr_zero hm1).2 (mErr_zero hme).2 (Int.le_of_lt h4) e2⟩
      · rw [nextB_end h1] at hb; cases hb
/-- The last of each path: what is joined. -/
theorem lastN_jn {X : List Bm} (hX : X.Pairwise fun a b => mAhead a b = true) (hr : ∀ m, m ∈ X → mErr m = 0) : Jn X (lastN X X.length) := by
  refine ⟨lastN_rising hX _ (Nat.le_refl _), fun e he => ?_, fun x hx _ => ?_⟩
  · obtain ⟨j, hj, _, rfl, _⟩ := (lastN_mem _).1 he
    exact ⟨List.getElem_mem hj, hr _ (List.getElem_mem hj)⟩
  · obtain ⟨i, hi, rfl⟩ := List.getElem_of_mem hx
    exact lastN_top hX hr _ i hi rfl
/-- What is built. -/
noncomputable def bX (Q : List Raw) (L : List Ent) (roots : List Bm) : List Bm := lastN (rX Q L roots) (rX Q L roots).length
theorem bX_same {Q Q' : List Raw} {L : List Ent} (h : Q.map (fun r => r.1) = Q'.map (fun r => r.1)) (roots : List Bm) : bX Q L roots = bX Q' L roots := by unfold bX; rw [rX_same h]
theorem rX_rises {Q : List Raw} {L : List Ent} {roots : List Bm} : (rX Q L roots).Pairwise fun a b => mAhead a b = true := by
  by_cases h : (chkG Q L roots).1 = 0
  · unfold rX
    rw [if_pos h]
    have hc : (chk Q L).1 = 0 := by
      by_cases hc : (chk Q L).1 = 0
      · exact hc
      · rw [chkG_bad hc] at h; exact h
    exact List.Pairwise.filter _ (univ_rises hc)
  · rw [rX_bad h]; exact List.Pairwise.nil
theorem chkG_chk {Q : List Raw} {L : List Ent} {roots : List Bm} (h : (chkG Q L roots).1 = 0) : (chk Q L).1 = 0 := by
  by_cases hc : (chk Q L).1 = 0
  · exact hc
  · rw [chkG_bad hc] at h; exact h
theorem rX_right {Q : List Raw} {L : List Ent} {roots : List Bm} : ∀ m, m ∈ rX Q L roots → mErr m = 0 := fun m hm => by
  obtain ⟨h1, h2⟩ := rX_in hm
  exact univ_right (chkG_chk h1) m h2
theorem bX_jn (Q : List Raw) (L : List Ent) (roots : List Bm) : Jn (rX Q L roots) (bX Q L roots) := lastN_jn rX_rises rX_right
theorem bX_len {Q : List Raw} {L : List Ent} {roots : List Bm} : (bX Q L roots).length ≤ L.length := Nat.le_trans (lastN_len _ _) rX_len
theorem bX_bad {Q : List Raw} {L : List Ent} {roots : List Bm} (h : ¬ (chkG Q L roots).1 = 0) : bX Q L roots = [] := by unfold bX; rw [rX_bad h]; rfl
theorem bt_bX {w : World} {v : Value} {Q : List Raw} {L : List Ent} {roots E : List Bm} (I : Ixs w v Q L) (h : (chkG Q L roots).1 = 0) (hb : Bt Q L roots E) : E = bX Q L roots := by
  obtain ⟨T, h1, h2, _⟩ := hb.c
  rw [rX_go I h h1] at h2
  exact h2.one (bX_jn Q L roots) (fun _ _ => Iff.rfl)
theorem Mr.below {w0 W W' : World} {v : Value} {D : List Bm} (h : Mr w0 W v D) (hb : Below W.heap.size W W') : Mr w0 W' v D := by
  obtain ⟨h1, a, cap, rfl, hc, hk⟩ := h
  refine ⟨h1.trans (hb.mono h1.size), a, cap, rfl, hc, ?_⟩
  rcases hk with hk | ⟨g, rfl, hM⟩
  · exact Or.inl hk
  · exact Or.inr ⟨g, rfl, hM.below hb⟩
theorem box2J {W : World} {g : Nat} {x y : Value} {T : TypeId} (h : W.heap[g]? = some (.cells #[x, y] T (0, 0))) : W.cell? ⟨g, 0, none⟩ = some x ∧ W.cell? ⟨g, 1, none⟩ = some y ∧ ∀ o, W.frozen? ⟨g, o, none⟩ = false :=
  ⟨by rw [Lib.cell_of_heap h]; rfl, by rw [Lib.cell_of_heap h]; rfl, fun o => Lib.frozen_of_heap h o⟩
theorem mr_nil0 {w w' : World} (h : Below w.heap.size w w') : Mr w w' (.slice none 0 0) [] := ⟨h, none, 0, rfl, Nat.le_refl _, Or.inl ⟨rfl, fun _ => rfl⟩⟩
/-- mvs.Build. -/
theorem build_all (Q : List Raw) (L : List Ent) (roots : List Bm) (v rv : Value) (A : Nat → Addr) (m : Int) (w : World) (hn : L.length ≤ 1000) (hrn : roots.length ≤ 1000000) (sh : ∀ e, e ∈ L → ShE e) (S : Te w A m) (I : Ixs w v Q L) (hr : MsAt w rv roots) :
    Calls Tryz.prog 11 #[v, rv] w fun e w' => ∃ a c x, e = .returned (.tuple #[.slice a (bX Q L roots).length c, x]) ∧ Mr w w' (.slice a (bX Q L roots).length c) (bX Q L roots) ∧ ErrAt w' A x (rF Q L roots).1 (rF Q L roots).2 := by
  by_cases h : (chkG Q L roots).1 = 0
  · refine (build_good Q L roots v rv A m w hn hrn sh S I hr h).mono ?_
    rintro e w' ⟨u, E, rfl, hbt, hm⟩
    have he := bt_bX I h hbt
    subst he
    obtain ⟨a, c, hu⟩ := hm.sl
    subst hu
    exact ⟨a, c, _, rfl, hm, by rw [rF_good h]; rfl⟩
  · refine (build_bad Q L roots v rv A m w hn hrn sh S I hr h).mono ?_
    rintro e w' ⟨T, a, rfl, he, hb⟩
    rw [bX_bad h, rF_bad h]
    exact ⟨_, _, _, rfl, mr_nil0 hb, he⟩
end Ve
end Go.Proofs.YtoaobngpdaidoaaGreatDoor

/-
  What is built is closed, and the least (plain).
-/
namespace Go.Proofs.YtoaobngpdaidoaaGreatDoor
open Go.RowKit Go.Maps
namespace Ve

theorem hasV_iff {B : List Bm} {m : Bm} : hasV B m = true ↔ ∃ x, atP B m.1 = some x ∧ lessB (vb x) (vb m) = false := by
  unfold hasV
  cases h : atP B m.1 with
  | none => simp
  | some x => simp
theorem atP_mem {B : List Bm} {p : ByteArray} {x : Bm} (h : atP B p = some x) : x ∈ B ∧ x.1 = p := by
  unfold atP at h
  exact ⟨List.mem_of_find?_eq_some h, by have := List.find?_some h; simpa using this⟩
theorem less_le {a b : Bm} (ha : mErr a = 0) (hb : mErr b = 0) : lessB (vb a) (vb b) = false ↔ ordV (vb b) (vb a) ≤ 0 := by
  rw [less_right (mErr_zero ha).2 (mErr_zero hb).2]
  simp only [decide_eq_false_iff_not]
  rw [ordV_swap (vb b) (vb a)]
  omega
theorem bt_mem {w : World} {v : Value} {Q : List Raw} {L : List Ent} {roots : List Bm} {T : By} (I : Ixs w v Q L) (h : Came (reqQ Q L) (univ L) roots T) {m : Bm} : m ∈ goM T Q ↔ Rch (reqQ Q L) roots m := goM_mem I h
/-- What is reached lies in the index. -/
theorem rch_univ {w : World} {v : Value} {Q : List Raw} {L : List Ent} {roots : List Bm} (I : Ixs w v Q L) (h : (chkG Q L roots).1 = 0) {m : Bm} (hm : Rch (reqQ Q L) roots m) : m ∈ univ L := by
  have r := rgt_of I h
  induction hm with
  | root hr => exact r.r _ hr
  | step _ hr ih => exact chk_reqs0 I r.c _ ih _ hr
/-- All that is built is reached, and of each that is reached there is no less. -/
theorem Bt.in_ {w : World} {v : Value} {Q : List Raw} {L : List Ent} {roots E : List Bm} (I : Ixs w v Q L) (h : Bt Q L roots E) {m : Bm} (hm : m ∈ E) : Rch (reqQ Q L) roots m := by
  obtain ⟨T, c, j, _⟩ := h.c
  exact (bt_mem I c).1 (j.sub m hm).1
theorem Bt.has {w : World} {v : Value} {Q : List Raw} {L : List Ent} {roots E : List Bm} (I : Ixs w v Q L) (h : Bt Q L roots E) (h0 : (chkG Q L roots).1 = 0) {A : List Bm} (hA : ∀ m, m ∈ A → Rch (reqQ Q L) roots m) : undB A E = true := by
  obtain ⟨T, c, j, _⟩ := h.c
  exact j.over fun m hm => ⟨(bt_mem I c).2 (hA m hm), univ_right (rgt_of I h0).c m (rch_univ I h0 (hA m hm))⟩
theorem Bt.ri {Q : List Raw} {L : List Ent} {roots E : List Bm} (h : Bt Q L roots E) : rising E := by
  obtain ⟨T, c, j, _⟩ := h.c
  exact j.ri
/-- What is built is closed. -/
theorem Bt.closed {w : World} {v : Value} {Q : List Raw} {L : List Ent} {roots E : List Bm} (I : Ixs w v Q L) (h : Bt Q L roots E) (h0 : (chkG Q L roots).1 = 0) : (chkC Q L roots E).1 = 0 ∧ closB Q L roots E = true := by
  refine ⟨chkC_of I h0 (fun m hm => rch_univ I h0 (h.in_ I hm)) (risB2_iff.2 h.ri), ?_⟩
  unfold closB
  rw [h.has I h0 (fun m hm => .root hm), Bool.true_and, List.all_eq_true]
  exact fun m hm => h.has I h0 (fun x hx => .step (h.in_ I hm) hx)
/-- Built again of itself it is itself. -/
theorem Bt.again {w : World} {v : Value} {Q : List Raw} {L : List Ent} {roots E E' : List Bm} (I : Ixs w v Q L) (h : Bt Q L roots E) (h' : Bt Q L E E') : E' = E := by
  obtain ⟨T, c, j, _⟩ := h.c
  obtain ⟨T', c', j', _⟩ := h'.c
  have up : ∀ x, Rch (reqQ Q L) E x → Rch (reqQ Q L) roots x := fun x hx => by
    induction hx with
    | root hr => exact h.in_ I hr
    | step _ hr ih => exact .step ih hr
  have jE : Jn (goM T' Q) E := ⟨j.ri, fun e he => ⟨(bt_mem I c').2 (.root he), (j.sub e he).2⟩, fun x hx hr => j.top x ((bt_mem I c).2 (up x ((bt_mem I c').1 hx))) hr⟩
  exact j'.one jE (fun _ _ => Iff.rfl)
/-- More roots build no less. -/
theorem Bt.more {w : World} {v : Value} {Q : List Raw} {L : List Ent} {a b E F : List Bm} (I : Ixs w v Q L) (h : Bt Q L a E) (h' : Bt Q L (a ++ b) F) (h0 : (chkG Q L (a ++ b)).1 = 0) : undB E F = true :=
  h'.has I h0 fun _ hm => (h.in_ I hm).mono fun _ hx => List.mem_append_left _ hx
theorem Bt.sz {w : World} {v : Value} {Q : List Raw} {L : List Ent} {a E : List Bm} (h : Bt Q L a E) (I : Ixs w v Q L) (sh : ∀ e, e ∈ L → ShE e) : ∀ r, r ∈ E → r.1.size < 999999 ∧ r.2.size < 999999 := fun r hr => by
  obtain ⟨T, _, j, _⟩ := h.c
  exact univ_szJ sh (goM_sub I (j.sub r hr).1)
theorem Bt.len {w : World} {v : Value} {Q : List Raw} {L : List Ent} {a E : List Bm} (h : Bt Q L a E) (I : Ixs w v Q L) : E.length ≤ L.length := by
  obtain ⟨T, _, _, hl⟩ := h.c
  exact Nat.le_trans hl (goM_lenJ I T)
/-- Newer versions require no less. -/
def RiseP (L : List Ent) : Prop := ∀ i k (hi : i < L.length) (hk : k < L.length), i < k → L[i].1.1 = L[k].1.1 → undB L[i].2.1 L[k].2.1 = true
theorem univ_at {w : World} {v : Value} {Q : List Raw} {L : List Ent} (I : Ixs w v Q L) {m : Bm} (hm : m ∈ univ L) : ∃ i, ∃ hi : i < L.length, L[i].1 = m ∧ reqQ Q L m = L[i].2.1 := by
  obtain ⟨k, hk⟩ := (found_iff I m).1 hm
  obtain ⟨h1, h2⟩ := idx_is hk
  have h3 : k < L.length := by rw [← I.ln]; exact h1
  refine ⟨k, h3, ?_, reqQ_at hk h3⟩
  rw [← (I.ok k h1 h3).m]
  have := of_decide_eq_true h2
  exact Prod.ext this.1 this.2
theorem hasV_up {sel : List Bm} {m r : Bm} (hr : ∀ x, x ∈ sel → mErr x = 0) (hm0 : mErr m = 0) (hr0 : mErr r = 0) (hp : r.1 = m.1) (ho : ordV (vb m) (vb r) ≤ 0) (h : hasV sel r = true) : hasV sel m = true := by
  obtain ⟨s, h1, h2⟩ := hasV_iff.1 h
  have hs := hr s (atP_mem h1).1
  rw [hp] at h1
  exact hasV_iff.2 ⟨s, h1, (less_le hs hm0).2 (ordV_le_trans (mErr_zero hm0).2 (mErr_zero hr0).2 (mErr_zero hs).2 ho ((less_le hs hr0).1 h2))⟩
/-- Where newer versions require no less, what is reached is under each selection that is closed. -/
theorem rch_under {w : World} {v : Value} {Q : List Raw} {L : List Ent} {roots sel : List Bm} (I : Ixs w v Q L) (h0 : (chkC Q L roots sel).1 = 0) (hc : closB Q L roots sel = true) (hR : RiseP L) {m : Bm} (hm : Rch (reqQ Q L) roots m) : hasV sel m = true := by
  obtain ⟨hg, hsu, _⟩ := chkC_good I h0
  have hchk := (rgt_of I hg).c
  have rt := univ_right hchk
  unfold closB at hc
  rw [Bool.and_eq_true] at hc
  have hsel := List.all_eq_true.1 hc.2
  induction hm with
  | root hr => exact List.all_eq_true.1 hc.1 _ hr
  | @step p m hp hr ih =>
    have hpu := rch_univ I hg hp
    have hmu := chk_reqs0 I hchk p hpu m hr
    obtain ⟨s, hs1, hs2⟩ := hasV_iff.1 ih
    obtain ⟨hs3, hs4⟩ := atP_mem hs1
    have hsU := hsu s hs3
    have hsr := List.all_eq_true.1 (hsel s hs3)
    obtain ⟨i, hi, ei, qi⟩ := univ_at I hpu
    obtain ⟨k, hk, ek, qk⟩ := univ_at I hsU
    have hle := (less_le (rt s hsU) (rt p hpu)).1 hs2
    rcases Nat.lt_trichotomy i k with hik | hik | hik
    · have hu := hR i k hi hk hik (by rw [ei, ek]; exact hs4.symm)
      rw [← qi, ← qk] at hu
      obtain ⟨r, hr1, hr2⟩ := hasV_iff.1 (List.all_eq_true.1 hu m hr)
      obtain ⟨hr3, hr4⟩ := atP_mem hr1
      have hrU := chk_reqs0 I hchk s hsU r hr3
      exact hasV_up (fun x hx => rt x (hsu x hx)) (rt m hmu) (rt r hrU) hr4 ((less_le (rt r hrU) (rt m hmu)).1 hr2) (hsr r hr3)
    · subst hik
      have : p = s := ei.symm.trans ek
      subst this
      exact hsr m hr
    · have ha := List.pairwise_iff_getElem.1 (univ_rises hchk) k i (by simpa [univ] using hk) (by simpa [univ] using hi) hik
      simp only [univ, List.getElem_map] at ha
      rw [ei, ek, ahead_same hs4, less_right (mErr_zero (rt s hsU)).2 (mErr_zero (rt p hpu)).2] at ha
      have ha : ordV (vb s) (vb p) < 0 := of_decide_eq_true ha
      rw [ordV_swap (vb s) (vb p)] at hle
      omega
theorem Bt.least {w : World} {v : Value} {Q : List Raw} {L : List Ent} {roots sel E : List Bm} (I : Ixs w v Q L) (h : Bt Q L roots E) (h0 : (chkC Q L roots sel).1 = 0) (hc : closB Q L roots sel = true) (hR : RiseP L) : undB E sel = true := by
  unfold undB
  rw [List.all_eq_true]
  exact fun m hm => rch_under I h0 hc hR (h.in_ I hm)
end Ve
end Go.Proofs.YtoaobngpdaidoaaGreatDoor

/-
  What hasPre, ofPath and best of package index answer; nothing old in memory turns.
-/
namespace Go.Proofs.YtoaobngpdaidoaaGreatDoor
open Go.RowKit
namespace Ve

set_option maxHeartbeats 1000000 in
theorem vcheck_is (s : ByteArray) (aT aB : Addr) (m : Int) (w : World) (hs : s.size < 4294967281) (S : Vs w aT aB m) :
    Calls Tryz.prog 173 #[.string s] w fun e w' => e = .returned (errV aT aB (verErr s.data.toList)) ∧ Below w.heap.size w w' := by
  have HC := hid (vsplit_any s aT aB m w hs S)
  clear S
  go_enter Tryz.func173, Tryz.ntmps173
  go_wp2_with fail
  refine HC.out.mono ?_
  rintro e w1 ⟨h1, hb⟩
  have HB := hid hb
  clear hb
  rcases h1 with ⟨h0, rfl⟩ | ⟨h0, v, X, rfl, _, hst⟩
  · obtain ⟨a, ha⟩ := errV_ne aT aB h0
    have HE := hid ha
    rw [ha]
    clear h0 ha
    go_wp2_with fail
    go_ret
    exact ⟨by rw [HE.out]; rfl, HB.out.alloc HB.out.size _⟩
  · obtain ⟨p, n, c, rfl⟩ := hst.slice
    have HE := hid (show errV aT aB (verErr s.data.toList) = .nilIface by rw [h0]; rfl)
    clear h0 hst
    go_wp2_with fail
    go_ret
    exact ⟨by rw [HE.out]; rfl, HB.out.alloc HB.out.size _⟩
/-- Has a version a pre? -/
def preB (s : ByteArray) : Bool := decide (verErr s.data.toList = 0) && decide (0 < (preOf s.data.toList).length)
theorem StrsAt.len {w : World} {v : Value} {X : List ByteArray} (h : StrsAt w v X) : ∃ p c, v = .slice p X.length c := by
  rcases h with ⟨h0, rfl⟩ | ⟨_, b, rfl, _⟩
  · exact ⟨none, 0, by rw [h0]; rfl⟩
  · exact ⟨_, _, rfl⟩
set_option maxHeartbeats 1000000 in
theorem hasPre_any (s : ByteArray) (aT aB : Addr) (m : Int) (w : World) (hs : s.size < 4294967281) (S : Vs w aT aB m) :
    Calls Tryz.prog 171 #[.string s] w fun e w' => e = .returned (.bool (preB s)) ∧ Below w.heap.size w w' := by
  have HC := hid (vsplit_any s aT aB m w hs S)
  clear S
  go_enter Tryz.func171, Tryz.ntmps171
  go_wp2_with fail
  refine HC.out.mono ?_
  rintro e w1 ⟨h1, hb⟩
  have HB := hid hb
  clear hb
  rcases h1 with ⟨h0, rfl⟩ | ⟨h0, v, X, rfl, hX, hst⟩
  · have HE := hid (show preB s = false by unfold preB; rw [decide_eq_false h0]; rfl)
    obtain ⟨a, ha⟩ := errV_ne aT aB h0
    rw [ha]
    clear h0 ha
    go_wp2_with fail
    go_ret
    exact ⟨by rw [HE.out]; rfl, HB.out.alloc HB.out.size _⟩
  · obtain ⟨p, c, rfl⟩ := hst.len
    have HE := hid (show preB s = decide (0 < X.length) by
      unfold preB; rw [decide_eq_true h0, ← hX, bl_len]; rfl)
    clear h0 hst hX
    go_wp2_with fail
    go_ret
    refine ⟨?_, HB.out.alloc HB.out.size _⟩
    rw [HE.out]
    simp
/-- Is an entry of this path, and a version? -/
def isP (t : ByteArray) (r : Raw) : Bool := decide (r.1.1 = t) && decide (verErr r.1.2.data.toList = 0)
set_option maxHeartbeats 2000000 in
theorem ofPathK_any (t : ByteArray) (r : Raw) (hs : slR r) (hz : r.1.2.size < 999999) (aT aB : Addr) (m : Int) (b : Nat) (W : World) (S : Vs W aT aB m) (h0 : W.cell? ⟨b, 0, none⟩ = some (.string t)) :
    Calls Tryz.prog 172 (#[rawV r] ++ #[.pointer (some ⟨b, 0, none⟩)]) W fun e w' => e = .returned (.bool (isP t r)) ∧ Below W.heap.size W w' := by
  obtain ⟨⟨p, v⟩, rv, pv, bk⟩ := r
  obtain ⟨⟨ra, rn, rc, hrv⟩, pa, pn, pc, hpv⟩ := hs
  simp only at hrv hpv hz
  subst hrv
  subst hpv
  show Calls Tryz.prog 172 #[.agg #[.string p, .string v, .slice ra rn rc, .slice pa pn pc, .bool bk], .pointer (some ⟨b, 0, none⟩)] W _
  have HI := hid (show isP t ((p, v), .slice ra rn rc, .slice pa pn pc, bk) = (decide (p = t) && decide (verErr v.data.toList = 0)) from rfl)
  have HB0 := hid ((Below.refl W.heap.size W).alloc (Nat.le_refl _) (.cells #[.string p, .string v, .slice ra rn rc, .slice pa pn pc, .bool bk] 56))
  have c0 := cell_below HB0.out h0
  have hbb : ¬ b = W.heap.size := by have := lt_of_cell h0; simp at this; omega
  have hbb2 : ¬ W.heap.size = b := fun h => hbb h.symm
  have HS := hid (S.below HB0.out)
  have HV := hid (fun W' (SW : Vs W' aT aB m) => vcheck_is v aT aB m W' (by omega) SW)
  generalize isP t ((p, v), .slice ra rn rc, .slice pa pn pc, bk) = z at *
  clear S
  by_cases h : p = t
  · rw [decide_eq_true h, Bool.true_and] at HI
    have hq : (p.toList == t.toList) = true := by rw [h]; exact str_refl t
    by_cases h1 : verErr v.data.toList = 0
    · rw [decide_eq_true h1] at HI
      have hz1 := HI.out
      subst hz1
      have HE := hid (show errV aT aB (verErr v.data.toList) = .nilIface by rw [h1]; rfl)
      rw [HE.out] at HV
      clear h h1 HI
      go_enter Tryz.func172, Tryz.ntmps172
      go_wp2_with fail
      refine (HV.out _ HS.out).mono ?_
      rintro e w1 ⟨rfl, hb⟩
      have HB := hid (HB0.out.trans (hb.mono HB0.out.size))
      clear hb
      go_wp2_with fail
      go_ret
      exact ⟨rfl, HB.out⟩
    · rw [decide_eq_false h1] at HI
      have hz1 := HI.out
      subst hz1
      obtain ⟨a, ha⟩ := errV_ne aT aB h1
      rw [ha] at HV
      clear h h1 HI ha
      go_enter Tryz.func172, Tryz.ntmps172
      go_wp2_with fail
      refine (HV.out _ HS.out).mono ?_
      rintro e w1 ⟨rfl, hb⟩
      have HB := hid (HB0.out.trans (hb.mono HB0.out.size))
      clear hb
      go_wp2_with fail
      go_ret
      exact ⟨rfl, HB.out⟩
  · rw [decide_eq_false h, Bool.false_and] at HI
    have hz1 := HI.out
    subst hz1
    have hq := str_ne h
    clear h HI
    go_enter Tryz.func172, Tryz.ntmps172
    go_wp2_with fail
    go_ret
    exact ⟨rfl, HB0.out⟩
/-- Versions of entries are short. -/
def shortR (L : List Raw) : Prop := ∀ r, r ∈ L → r.1.1.size < 999999 ∧ r.1.2.size < 999999
theorem shortR.filter {L : List Raw} (h : shortR L) (P : Raw → Bool) : shortR (L.filter P) := fun r hr => h r (List.mem_filter.1 hr).1
set_option maxHeartbeats 1000000 in
/-- index.ofPath. -/
theorem ofPath_any (L : List Raw) (t : ByteArray) (v : Value) (aT aB : Addr) (m : Int) (w : World) (hL : L.length ≤ 100000) (hz : shortR L) (S : Vs w aT aB m) (hv : EsAt w v L) :
    Calls Tryz.prog 130 #[v, .string t] w fun e w' => ∃ v', e = .returned v' ∧ EsAt w' v' (L.filter (isP t)) ∧ Below w.heap.size w w' := by
  obtain ⟨a, c, hv1, _, hs, _⟩ := id hv
  have HB0 := hid ((Below.refl w.heap.size w).alloc (Nat.le_refl _) (.cells #[.string t] 9))
  have eg : ∀ args w, (callFunc 172 args).run Tryz.prog w = .ok (.enter 172 args) w := enters_of Tryz.func172 (by kernel_rfl) rfl
  have HF := hid (where_any 172 #[.pointer (some ⟨w.heap.size, 0, none⟩)] (isP t) L v (w.alloc (.cells #[.string t] 9)) eg hL (hv.below HB0.out) (fun i hi W hW =>
    ofPathK_any t L[i] (hs L[i] (List.getElem_mem hi)) (hz L[i] (List.getElem_mem hi)).2 aT aB m w.heap.size W ((S.below HB0.out).below hW) (cell_below hW (by simp))))
  subst hv1
  clear hv hs eg S
  go_enter Tryz.func130, Tryz.ntmps130
  go_wp2_with fail
  refine HF.out.mono ?_
  rintro e w1 ⟨v', rfl, he, hb⟩
  obtain ⟨a1, c1, e1, _⟩ := id he
  have HE := hid he
  have HB := hid (HB0.out.trans (hb.mono HB0.out.size))
  subst e1
  clear hb he
  go_wp2_with fail
  go_ret
  exact ⟨_, rfl, HE.out, HB.out⟩
/-- Is an entry not taken back? -/
def isS (r : Raw) : Bool := !r.2.2.2
/-- Has its version no pre? -/
def isD (r : Raw) : Bool := !preB r.1.2
set_option maxHeartbeats 1000000 in
theorem bestA_any (r : Raw) (hs : slR r) (W : World) : Calls Tryz.prog 169 (#[rawV r] ++ #[]) W fun e w' => e = .returned (.bool (isS r)) ∧ Below W.heap.size W w' := by
  obtain ⟨⟨p, v⟩, rv, pv, bk⟩ := r
  obtain ⟨⟨ra, rn, rc, hrv⟩, pa, pn, pc, hpv⟩ := hs
  simp only at hrv hpv
  subst hrv
  subst hpv
  show Calls Tryz.prog 169 #[.agg #[.string p, .string v, .slice ra rn rc, .slice pa pn pc, .bool bk]] W fun e w' => e = .returned (.bool (!bk)) ∧ Below W.heap.size W w'
  have HB0 := hid ((Below.refl W.heap.size W).alloc (Nat.le_refl _) (.cells #[.string p, .string v, .slice ra rn rc, .slice pa pn pc, .bool bk] 56))
  go_enter Tryz.func169, Tryz.ntmps169
  go_wp2_with fail
  go_ret
  exact ⟨rfl, HB0.out⟩
set_option maxHeartbeats 1000000 in
theorem bestB_any (r : Raw) (hs : slR r) (hz : r.1.2.size < 999999) (aT aB : Addr) (m : Int) (W : World) (S : Vs W aT aB m) : Calls Tryz.prog 170 (#[rawV r] ++ #[]) W fun e w' => e = .returned (.bool (isD r)) ∧ Below W.heap.size W w' := by
  obtain ⟨⟨p, v⟩, rv, pv, bk⟩ := r
  obtain ⟨⟨ra, rn, rc, hrv⟩, pa, pn, pc, hpv⟩ := hs
  simp only at hrv hpv hz
  subst hrv
  subst hpv
  show Calls Tryz.prog 170 #[.agg #[.string p, .string v, .slice ra rn rc, .slice pa pn pc, .bool bk]] W fun e w' => e = .returned (.bool (!preB v)) ∧ Below W.heap.size W w'
  have HB0 := hid ((Below.refl W.heap.size W).alloc (Nat.le_refl _) (.cells #[.string p, .string v, .slice ra rn rc, .slice pa pn pc, .bool bk] 56))
  have HH := hid (hasPre_any v aT aB m _ (by omega) (S.below HB0.out))
  generalize preB v = z at *
  clear S
  go_enter Tryz.func170, Tryz.ntmps170
  go_wp2_with fail
  refine HH.out.mono ?_
  rintro e w1 ⟨rfl, hb⟩
  have HB := hid (HB0.out.trans (hb.mono HB0.out.size))
  clear hb
  go_wp2_with fail
  go_ret
  exact ⟨rfl, HB.out⟩
/-- The entries that are liked most. -/
def bestR (L : List Raw) : List Raw := if 0 < ((L.filter isS).filter isD).length then (L.filter isS).filter isD else if 0 < (L.filter isS).length then L.filter isS else L
set_option maxHeartbeats 1000000 in
/-- index.best. -/
theorem best_any (L : List Raw) (v : Value) (aT aB : Addr) (m : Int) (w : World) (hL : L.length ≤ 100000) (hz : shortR L) (S : Vs w aT aB m) (hv : EsAt w v L) :
    Calls Tryz.prog 129 #[v] w fun e w' => ∃ v', e = .returned v' ∧ EsAt w' v' (bestR L) ∧ Below w.heap.size w w' := by
  obtain ⟨a, c, hv1, _, hs, _⟩ := id hv
  have egA : ∀ args w, (callFunc 169 args).run Tryz.prog w = .ok (.enter 169 args) w := enters_of Tryz.func169 (by kernel_rfl) rfl
  have egB : ∀ args w, (callFunc 170 args).run Tryz.prog w = .ok (.enter 170 args) w := enters_of Tryz.func170 (by kernel_rfl) rfl
  have HF := hid (where_any 169 #[] isS L v w egA hL hv (fun i hi W hW => bestA_any L[i] (hs L[i] (List.getElem_mem hi)) W))
  have HG := hid (fun W (SW : Vs W aT aB m) v' (hv' : EsAt W v' (L.filter isS)) => where_any 170 #[] isD (L.filter isS) v' W egB (Nat.le_trans (List.length_filter_le _ _) hL) hv' (fun i hi W' hW => bestB_any (L.filter isS)[i] (hs _ (List.mem_filter.1 (List.getElem_mem hi)).1) (hz.filter isS _ (List.getElem_mem hi)).2 aT aB m W' (SW.below hW)))
  have HV := hid hv
  have HS := hid S
  subst hv1
  clear hv hs egA egB S
  go_enter Tryz.func129, Tryz.ntmps129
  go_wp2_with fail
  refine HF.out.mono ?_
  rintro e w1 ⟨v1, rfl, h1, hb⟩
  obtain ⟨a1, c1, e1, _⟩ := id h1
  have HE1 := hid h1
  have HB1 := hid hb
  subst e1
  clear hb h1
  go_wp2_with fail
  refine (HG.out w1 (HS.out.below HB1.out) _ HE1.out).mono ?_
  rintro e w2 ⟨v2, rfl, h2, hb⟩
  obtain ⟨a2, c2, e2, _⟩ := id h2
  have HE2 := hid h2
  have HB2 := hid (HB1.out.trans (hb.mono HB1.out.size))
  have HE3 := hid (HE1.out.below hb)
  subst e2
  clear hb h2
  have HR := hid (show bestR L = if 0 < ((L.filter isS).filter isD).length then (L.filter isS).filter isD else if 0 < (L.filter isS).length then L.filter isS else L from rfl)
  clear HF HG HE1
  generalize (L.filter isS).filter isD = D at *
  generalize L.filter isS = Q at *
  by_cases p1 : 0 < D.length
  · have q1 : (0 : Int) < (D.length : Int) := by omega
    rw [if_pos p1] at HR
    clear p1
    go_wp2_with fail
    go_ret
    exact ⟨_, rfl, by rw [HR.out]; exact HE2.out, HB2.out⟩
  · have q1 : ¬ (0 : Int) < (D.length : Int) := by omega
    rw [if_neg p1] at HR
    by_cases p2 : 0 < Q.length
    · have q2 : (0 : Int) < (Q.length : Int) := by omega
      rw [if_pos p2] at HR
      clear p1 p2
      go_wp2_with fail
      go_ret
      exact ⟨_, rfl, by rw [HR.out]; exact HE3.out, HB2.out⟩
    · have q2 : ¬ (0 : Int) < (Q.length : Int) := by omega
      rw [if_neg p2] at HR
      clear p1 p2
      go_wp2_with fail
      go_ret
      exact ⟨_, rfl, by rw [HR.out]; exact HV.out.below HB2.out, HB2.out⟩
end Ve
end Go.Proofs.YtoaobngpdaidoaaGreatDoor

/-
  A row of versions' parts in memory; what slices.insertionSortCmpFunc makes of it.
-/
namespace Go.Proofs.YtoaobngpdaidoaaGreatDoor
open Go.RowKit
namespace Ve

/-- A version's text, and the slice of its pre. -/
abbrev Rc := List UInt8 × Value
def rcells (r : Rc) : List Value := [.int .i64 (nAt r.1 0), .int .i64 (nAt r.1 1), .int .i64 (nAt r.1 2), r.2]
/-- A record's pre lies in memory, and not in block g. -/
def RcAt (W : World) (g : Nat) (r : Rc) : Prop := verErr r.1 = 0 ∧ r.1.length ≤ 80 ∧ StrsAt W r.2 (strs (preOf r.1)) ∧ ∀ b o s n c, r.2 = .slice (some ⟨b, o, s⟩) n c → b ≠ g
/-- The row of records in block g. -/
structure Rw (w0 W : World) (g : Nat) (D : List Rc) : Prop where
  bl : Below w0.heap.size w0 W
  lo : w0.heap.size ≤ g
  hi : g < W.heap.size
  fz : ∀ o, W.frozen? ⟨g, o, none⟩ = false
  rc : ∀ r, r ∈ D → RcAt W g r
  c0 : ∀ j (h : j < D.length), W.cell? ⟨g, j * 4, none⟩ = some (.int .i64 (nAt D[j].1 0))
  c1 : ∀ j (h : j < D.length), W.cell? ⟨g, j * 4 + 1, none⟩ = some (.int .i64 (nAt D[j].1 1))
  c2 : ∀ j (h : j < D.length), W.cell? ⟨g, j * 4 + 2, none⟩ = some (.int .i64 (nAt D[j].1 2))
  c3 : ∀ j (h : j < D.length), W.cell? ⟨g, j * 4 + 3, none⟩ = some D[j].2
theorem RcAt.below {W W' : World} {g : Nat} {r : Rc} (h : RcAt W g r) (hb : Below W.heap.size W W') : RcAt W' g r := ⟨h.1, h.2.1, h.2.2.1.below hb, h.2.2.2⟩
theorem Rw.below {w0 W W' : World} {g : Nat} {D : List Rc} (h : Rw w0 W g D) (hb : Below W.heap.size W W') : Rw w0 W' g D :=
  ⟨h.bl.trans (hb.mono h.bl.size), h.lo, Nat.lt_of_lt_of_le h.hi hb.size, fun o => by rw [hb.frozen h.hi]; exact h.fz o, fun r hr => (h.rc r hr).below hb,
   fun j hj => cell_below hb (h.c0 j hj), fun j hj => cell_below hb (h.c1 j hj), fun j hj => cell_below hb (h.c2 j hj), fun j hj => cell_below hb (h.c3 j hj)⟩

theorem Rw.at {w0 W : World} {g : Nat} {D : List Rc} (h : Rw w0 W g D) {j : Nat} {r : Rc} (hj : D[j]? = some r) :
    W.cell? ⟨g, j * 4, none⟩ = some (.int .i64 (nAt r.1 0)) ∧ W.cell? ⟨g, j * 4 + 1, none⟩ = some (.int .i64 (nAt r.1 1)) ∧ W.cell? ⟨g, j * 4 + 2, none⟩ = some (.int .i64 (nAt r.1 2)) ∧ W.cell? ⟨g, j * 4 + 3, none⟩ = some r.2 := by
  obtain ⟨hl, rfl⟩ := List.getElem?_eq_some_iff.1 hj
  exact ⟨h.c0 j hl, h.c1 j hl, h.c2 j hl, h.c3 j hl⟩
/-- Two neighbours' cells, and the row. -/
def Two (w0 W : World) (g j : Nat) (D : List Rc) (y x : Rc) : Prop :=
  W.cell? ⟨g, j * 4, none⟩ = some (.int .i64 (nAt y.1 0)) ∧ W.cell? ⟨g, j * 4 + 1, none⟩ = some (.int .i64 (nAt y.1 1)) ∧ W.cell? ⟨g, j * 4 + 2, none⟩ = some (.int .i64 (nAt y.1 2)) ∧ W.cell? ⟨g, j * 4 + 3, none⟩ = some y.2 ∧
  W.cell? ⟨g, (j + 1) * 4, none⟩ = some (.int .i64 (nAt x.1 0)) ∧ W.cell? ⟨g, (j + 1) * 4 + 1, none⟩ = some (.int .i64 (nAt x.1 1)) ∧ W.cell? ⟨g, (j + 1) * 4 + 2, none⟩ = some (.int .i64 (nAt x.1 2)) ∧ W.cell? ⟨g, (j + 1) * 4 + 3, none⟩ = some x.2 ∧ Hid (Rw w0 W g D)
theorem Rw.two {w0 W : World} {g : Nat} {D : List Rc} (h : Rw w0 W g D) {j : Nat} {y x : Rc} (hy : D[j]? = some y) (hx : D[j + 1]? = some x) : Two w0 W g j D y x := by
  obtain ⟨a0, a1, a2, a3⟩ := h.at hy
  obtain ⟨b0, b1, b2, b3⟩ := h.at hx
  exact ⟨a0, a1, a2, a3, b0, b1, b2, b3, h⟩
theorem strs_len (ps : List (List UInt8)) : (strs ps).length = ps.length := by simp [strs]
theorem pre_small {W : World} {g : Nat} {r : Rc} (h : RcAt W g r) : (strs (preOf r.1)).length ≤ 1000000 ∧ ∀ x, x ∈ strs (preOf r.1) → x.size ≤ maxLen := by
  have h1 := pre_len (l := r.1)
  refine ⟨by rw [strs_len]; have := h.2.1; omega, fun x hx => ?_⟩
  have h2 : x.data.toList ∈ preOf r.1 := by rw [← bl_strs (preOf r.1)]; exact bl_mem hx
  have h3 := pre_size h2
  rw [len_eq] at h3
  have := h.2.1
  unfold maxLen; omega
/-- compare of two records. -/
theorem compare_rcw (r q : Rc) (g : Nat) (W : World) (hr : RcAt W g r) (hq : RcAt W g q) :
    Calls Tryz.prog 70 #[.agg #[.int .i64 (nAt r.1 0), .int .i64 (nAt r.1 1), .int .i64 (nAt r.1 2), r.2], .agg #[.int .i64 (nAt q.1 0), .int .i64 (nAt q.1 1), .int .i64 (nAt q.1 2), q.2]] W
      fun e w' => e = .returned (.int .i64 (ordV r.1 q.1)) ∧ Bw W.heap.size W w' := by
  have h := compare_bw (nAt r.1 0) (nAt r.1 1) (nAt r.1 2) (nAt q.1 0) (nAt q.1 1) (nAt q.1 2) r.2 q.2 (strs (preOf r.1)) (strs (preOf q.1)) W (pre_small hr).1 (pre_small hq).1 (pre_small hr).2 (pre_small hq).2 hr.2.2.1 hq.2.2.1
  rw [bl_strs, bl_strs] at h
  exact h
theorem compare_rc (r q : Rc) (g : Nat) (W : World) (hr : RcAt W g r) (hq : RcAt W g q) :
    Calls Tryz.prog 70 #[.agg #[.int .i64 (nAt r.1 0), .int .i64 (nAt r.1 1), .int .i64 (nAt r.1 2), r.2], .agg #[.int .i64 (nAt q.1 0), .int .i64 (nAt q.1 1), .int .i64 (nAt q.1 2), q.2]] W
      fun e w' => e = .returned (.int .i64 (ordV r.1 q.1)) ∧ Below W.heap.size W w' := by
  have h := compare_any (nAt r.1 0) (nAt r.1 1) (nAt r.1 2) (nAt q.1 0) (nAt q.1 1) (nAt q.1 2) r.2 q.2 (strs (preOf r.1)) (strs (preOf q.1)) W (pre_small hr).1 (pre_small hq).1 (pre_small hr).2 (pre_small hq).2 hr.2.2.1 hq.2.2.1
  rw [bl_strs, bl_strs] at h
  exact h
end Ve
end Go.Proofs.YtoaobngpdaidoaaGreatDoor
