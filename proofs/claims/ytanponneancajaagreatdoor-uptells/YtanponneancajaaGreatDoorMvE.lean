/-
  slices.DeleteFunc over a row of modules: those that are right stay.
-/
import Derived.Test.YtanponneancajaaGreatDoorMvD
namespace Go.Proofs.YtanponneancajaaGreatDoor
open Go.RowKit
namespace Ve

/-- Is a module not right? -/
def badM (m : Bm) : Bool := decide (mErr m ≠ 0)
/-- Those that are right. -/
def rightL (D : List Bm) : List Bm := D.filter fun m => !badM m
theorem rightL_mem {D : List Bm} {m : Bm} : m ∈ rightL D ↔ m ∈ D ∧ mErr m = 0 := by
  unfold rightL
  rw [List.mem_filter]
  simp [badM]
set_option maxHeartbeats 1000000 in
theorem rightK_any (m : Bm) (A : Nat → Addr) (ml : Int) (W : World) (hp : m.1.size < 999999) (hv : m.2.size < 999999) (S : Te W A ml) :
    Calls Tryz.prog 174 (#[.agg #[.string m.1, .string m.2]] ++ #[]) W fun e w' => e = .returned (.bool (badM m)) ∧ Below W.heap.size W w' := by
  obtain ⟨p, v⟩ := m
  simp only at hp hv
  show Calls Tryz.prog 174 #[.agg #[.string p, .string v]] W _
  have HB0 := hid ((Below.refl W.heap.size W).alloc (Nat.le_refl _) (.cells #[.string p, .string v] 51))
  have HM := hid (mcheck_any p v A ml _ (by omega) (by omega) (S.below HB0.out))
  have hme : mErr (p, v) = modErr p.data.toList v.data.toList := rfl
  rw [← hme] at HM
  clear S hme
  by_cases h : mErr (p, v) = 0
  · have HD := hid (show badM (p, v) = false by unfold badM; simp [h])
    rw [h, errA0] at HM
    generalize badM (p, v) = z at *
    clear h
    go_enter Tryz.func174, Tryz.ntmps174
    go_wp2_with fail
    refine HM.out.mono ?_
    rintro e w1 ⟨rfl, hb⟩
    have HB := hid (HB0.out.trans (hb.mono HB0.out.size))
    clear hb
    go_wp2_with fail
    go_ret
    exact ⟨ret_bool HD.out.symm, HB.out⟩
  · have HD := hid (show badM (p, v) = true by unfold badM; simp [h])
    rw [errA_if A h] at HM
    generalize badM (p, v) = z at *
    clear h
    go_enter Tryz.func174, Tryz.ntmps174
    go_wp2_with fail
    refine HM.out.mono ?_
    rintro e w1 ⟨rfl, hb⟩
    have HB := hid (HB0.out.trans (hb.mono HB0.out.size))
    clear hb
    go_wp2_with fail
    go_ret
    exact ⟨ret_bool HD.out.symm, HB.out⟩
theorem rightL_take {D : List Bm} {k : Nat} (hk : k < D.length) : rightL (D.take (k + 1)) = if badM D[k] then rightL (D.take k) else rightL (D.take k) ++ [D[k]] := by
  unfold rightL
  rw [List.take_succ_eq_append_getElem hk, List.filter_append]
  cases h : badM D[k] <;> simp [h]
theorem rightL_first {D : List Bm} {k : Nat} (hk : k < D.length) (h1 : badM D[k] = true) (h2 : ∀ j (hj : j < D.length), j < k → badM D[j] = false) : rightL (D.take (k + 1)) = D.take k := by
  rw [rightL_take hk, if_pos h1]
  unfold rightL
  rw [List.filter_eq_self]
  intro x hx
  obtain ⟨i, hi, him, rfl⟩ := mem_take_at hx
  rw [h2 i hi him]; rfl
theorem rightL_all {D : List Bm} (h : ∀ x, x ∈ D → badM x = false) : rightL D = D := by
  unfold rightL
  rw [List.filter_eq_self]
  intro x hx
  rw [h x hx]; rfl
set_option maxRecDepth 100000 in
set_option maxHeartbeats 8000000 in
theorem del_mw (w0 w : World) (g cap : Nat) (D : List Bm) (A : Nat → Addr) (ml : Int) (S : Te w0 A ml) (h12 : D.length ≤ 1000000) (hc : D.length ≤ cap) (hz : ∀ r, r ∈ D → r.1.size < 999999 ∧ r.2.size < 999999) (hR : Mw w0 w g D) :
    Calls Tryz.prog 173 #[.slice (some ⟨g, 0, none⟩) D.length cap, .func (.func 174) #[] #[]] w fun e w' => e = .returned (.slice (some ⟨g, 0, none⟩) (rightL D).length cap) ∧ Mw w0 w' g (rightL D) := by
  have eg : ∀ args w, (callFunc 174 args).run Tryz.prog w = .ok (.enter 174 args) w := enters_of Tryz.func174 (by kernel_rfl) rfl
  have HRK := hid (fun (m : Bm) (hm : m ∈ D) W (hW : Below w0.heap.size w0 W) => rightK_any m A ml W (hz m hm).1 (hz m hm).2 (S.below hW))
  have HI := hid (idxM_any 174 #[] badM D _ w eg h12 (hR.ms hc) (fun i hi W hW => HRK.out D[i] (List.getElem_mem hi) W (hR.bl.trans (hW.mono hR.bl.size))))
  have HR := hid hR
  clear hR S hz
  rcases idxB_kind badM D with ⟨e1, h2⟩ | ⟨k, hk, e1, h2, h3⟩
  · rw [e1] at HI
    rw [rightL_all h2]
    clear e1 h2
    go_enter Tryz.func173, Tryz.ntmps173
    go_wp2_with fail
    refine HI.out.mono ?_
    rintro e w1 ⟨rfl, hb⟩
    have HR1 := hid (HR.out.below hb)
    clear hb
    go_wp2_with fail
    go_ret
    exact ⟨rfl, HR1.out⟩
  · rw [e1] at HI
    have HF := hid (rightL_first hk h2 h3)
    have hkn : ¬ (k : Int) = -1 := by omega
    have hk1 : (k : Int) < (D.length : Int) := by omega
    clear e1 h2 h3
    go_enter Tryz.func173, Tryz.ntmps173
    go_wp2_with fail
    refine HI.out.mono ?_
    rintro e w1 ⟨rfl, hb⟩
    have HR1 := hid (HR.out.below hb)
    clear hb
    go_wp2_with fail
    go_loopw [5, 6] (fun a b wr => ∃ (j : Nat), a = .int .i64 ((rightL (D.take j)).length : Int) ∧ b = .int .i64 (j : Int) ∧ j ≤ D.length ∧ (rightL (D.take j)).length < j ∧ Hid (Mw w0 wr g (rightL (D.take j) ++ D.drop (rightL (D.take j)).length))) (fun _ b _ => D.length - (intOf b).toNat)
    case atStart =>
      have hl : (D.take k).length = k := by simp; omega
      exact ⟨k + 1, by rw [HF.out, hl], by go_num, by omega, by rw [HF.out, hl]; omega, hid (by rw [HF.out, hl, List.take_append_drop]; exact HR1.out)⟩
    case round =>
      obtain ⟨j, rfl, rfl, hjD, hEj, HRV⟩ := hrel
      have HAT := hid (show ∀ i, (rightL (D.take j)).length ≤ i → (rightL (D.take j) ++ D.drop (rightL (D.take j)).length)[i]? = D[i]? from fun i hi => by rw [List.getElem?_append_right hi, List.getElem?_drop]; congr 1; omega)
      by_cases hj : j < D.length
      · have g1 : (j : Int) < (D.length : Int) := by omega
        have HT := hid (rightL_take hj)
        obtain ⟨y0, y1⟩ := HRV.out.at (j := j) (r := D[j]) (by rw [HAT.out j (by omega)]; exact List.getElem?_eq_getElem hj)
        have HKX := hid (fun W (hW : Below w0.heap.size w0 W) => (show Calls Tryz.prog 174 #[.agg #[.string D[j].1, .string D[j].2]] W fun e w' => e = .returned (.bool (badM D[j])) ∧ Below W.heap.size W w' from HRK.out D[j] (List.getElem_mem hj) W hW))
        generalize D[j] = x at *
        generalize hE : rightL (D.take j) = E at *
        obtain ⟨x1, x2⟩ := x
        have HBA := hid ((Below.refl wr.heap.size wr).alloc (Nat.le_refl _) (.cells #[.string x1, .string x2] 51))
        have HRA := hid (HRV.out.below HBA.out)
        have HP := hid (HKX.out _ HRA.out.bl)
        cases hbad : badM (x1, x2)
        · rw [hbad] at HP HT
          have HT2 := hid (show rightL (D.take (j + 1)) = E ++ [(x1, x2)] from HT.out)
          clear hbad
          go_wp2_with fail
          refine HP.out.mono ?_
          rintro e w2 ⟨rfl, hb⟩
          have HR2 := hid (HRA.out.below hb)
          have d0 : w2.cell? ⟨wr.heap.size, 0, none⟩ = some (.string x1) := cell_below hb (by simp)
          have d1 : w2.cell? ⟨wr.heap.size, 1, none⟩ = some (.string x2) := cell_below hb (by simp)
          have hfz := HR2.out.fz
          have e1 : (0 : Int) ≤ (E.length : Int) := by omega
          have e2 : (E.length : Int) < (D.length : Int) := by omega
          have hEl : E.length < (E ++ D.drop E.length).length := by simp; omega
          obtain ⟨z0, z1⟩ := HR2.out.at (j := E.length) (r := (E ++ D.drop E.length)[E.length]) (List.getElem?_eq_getElem hEl)
          have HW4 := hid (show Mw w0 ((w2.setCell ⟨g, E.length * 2, none⟩ (.string x1)).setCell ⟨g, E.length * 2 + 1, none⟩ (.string x2)) g ((E ++ [((x1, x2) : Bm)]) ++ D.drop (E ++ [((x1, x2) : Bm)]).length) by
            have h := HR2.out.setAt E.length hEl (x1, x2)
            have e : (E ++ D.drop E.length).set E.length (x1, x2) = (E ++ [((x1, x2) : Bm)]) ++ D.drop (E ++ [((x1, x2) : Bm)]).length := by
              rw [List.set_append_right _ _ (Nat.le_refl _), Nat.sub_self, List.drop_eq_getElem_cons (show E.length < D.length by omega), List.set_cons_zero, List.length_append]
              simp
            rw [e] at h
            exact h)
          clear hb y0 y1
          go_wp2_with fail
          go_roundw
          case rel =>
            repeat apply Exists.intro
            refine ⟨?r, rfl⟩
            exact ⟨j + 1, by rw [HT2.out]; first | (simp; done) | (rw [List.length_append]; go_num), by go_num, by omega, by rw [HT2.out]; simp; omega, hid (by rw [HT2.out]; exact HW4.out)⟩
          case measure => simp [intOf]; omega
        · rw [hbad] at HP HT
          have HT2 := hid (show rightL (D.take (j + 1)) = E from HT.out)
          clear hbad
          go_wp2_with fail
          refine HP.out.mono ?_
          rintro e w2 ⟨rfl, hb⟩
          have HR2 := hid (HRA.out.below hb)
          clear hb y0 y1
          go_wp2_with fail
          go_roundw
          case rel =>
            repeat apply Exists.intro
            refine ⟨?r2, rfl⟩
            exact ⟨j + 1, by rw [HT2.out], by go_num, by omega, by rw [HT2.out]; omega, hid (by rw [HT2.out]; exact HR2.out)⟩
          case measure => simp [intOf]; omega
      · obtain rfl : j = D.length := by omega
        have g2 : ¬ (D.length : Int) < (D.length : Int) := by omega
        rw [List.take_length] at hEj HRV HAT ⊢
        generalize hE : rightL D = E at *
        have hRl : (E ++ D.drop E.length).length = D.length := by simp; omega
        obtain ⟨zs, hcl⟩ := run_clear_mw HRV.out E.length (by omega)
        rw [hRl] at hcl
        have HRE := hid (show Mw w0 (wr.setCells g (E.length * 2) zs) g E by
          have := HRV.out.cleared E.length (by omega) zs
          rw [List.take_left' rfl] at this
          exact this)
        have c1 : (E.length : Int) ≤ (D.length : Int) := by omega
        have c2 : (E.length : Int) < (cap : Int) := by omega
        have c3 : (E.length : Int) ≤ (cap : Int) := by omega
        have c4 : (0 : Int) ≤ (E.length : Int) := by omega
        have c5 : E.length < cap := by omega
        have c6 : (D.length : Int) ≤ (cap : Int) := by omega
        go_wp2_with fail
        go_ret
        exact ⟨rfl, HRE.out⟩
end Ve
end Go.Proofs.YtanponneancajaaGreatDoor
