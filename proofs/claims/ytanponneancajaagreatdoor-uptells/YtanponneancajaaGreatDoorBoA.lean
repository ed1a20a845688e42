/-
  Modules appended to an own row; the document's IsAhead.
-/
import Derived.Test.YtanponneancajaaGreatDoorOrdE
import Derived.Test.YtanponneancajaaGreatDoorLawO
import Derived.Test.YtanponneancajaaGreatDoorFileQ
import Derived.Test.YtanponneancajaaGreatDoorFileR
import Derived.Laws.OwnMore
namespace Go.Proofs.YtanponneancajaaGreatDoor
open Go.RowKit Go.Maps
namespace Ve

/-- A row of modules, appended to an own one. -/
theorem both_run (X Y : List Bm) (dv sv : Value) (W : World) (B : Nat) (hB : B ≤ W.heap.size) (hX : X.length ≤ 1000) (hY : Y.length ≤ 1000) (ho : W.ownsRow B 51 2 dv X.length (flatM X)) (h : MsAt W sv Y) (he : Em sv Y) :
    ∃ v' W', (Builtin.append_ #[52, 52] 52 #[dv, sv]).run Tryz.prog W = .ok v' W' ∧ W'.ownsRow B 51 2 v' (X ++ Y).length (flatM (X ++ Y)) ∧ W.grownBy W' dv.ownBlock := by
  obtain ⟨i0, hi, hz0, hz1, hz2⟩ := info_parts infoMod
  obtain ⟨a, c, rfl, hc, h2⟩ := h
  have some_case : ∀ a', (∀ j u, (flatM Y)[j]? = some u → W.cell? (a'.add j) = some u) → ∃ v' W', (Builtin.append_ #[52, 52] 52 #[dv, .slice (some a') Y.length c]).run Tryz.prog W = .ok v' W' ∧ W'.ownsRow B 51 2 v' (X ++ Y).length (flatM (X ++ Y)) ∧ W.grownBy W' dv.ownBlock := fun a' hcell => by
    obtain ⟨v', W', h3, h4, h5, _⟩ := run_append_own (P := Tryz.prog) W B 52 52 51 i0 _ 2 32 Tryz.underlying52 hi hz0 hz1 hz2 rfl (by decide) dv X.length (flatM X) ho a' Y.length c (flatM Y) (flatM_len Y) hcell (flat_one Y) (by unfold maxLen; omega) (by omega) hB
    exact ⟨v', W', h3, by rw [List.length_append, flatM_app]; exact h4, h5⟩
  cases Y with
  | nil =>
    rcases he a c rfl rfl with hz | ⟨a', hz⟩
    · refine ⟨dv, W, ?_, by simpa using ho, ⟨rfl, rfl, rfl, Nat.le_refl _, fun _ _ _ => rfl⟩⟩
      show (Builtin.append_ #[52, 52] 52 #[dv, .slice a 0 c]).run Tryz.prog W = _
      rw [hz]
      exact run_append_owned_none (P := Tryz.prog) (w := W) B 52 52 51 i0 2 Tryz.underlying52 hi dv X.length (flatM X) ho
    · have hz' : (Value.slice a ([] : List Bm).length c) = .slice (some a') ([] : List Bm).length c := hz
      rw [hz']
      exact some_case a' (fun j u hj => by simp [flatM] at hj)
  | cons x r =>
    obtain ⟨b, o, rfl, hcell⟩ := h2 (by simp)
    exact some_case ⟨b, o, none⟩ (fun j u hj => by rw [Addr.add_lit]; exact ms_flat hcell j u hj)
set_option maxHeartbeats 1000000 in
/-- pewholderref1.IsAhead. -/
theorem isA_any (a b : Bm) (w : World) (hv : a.2.size < 999999) (hu : b.2.size < 999999) :
    Calls Tryz.prog 180 #[.agg #[.string a.1, .string a.2], .agg #[.string b.1, .string b.2]] w fun e w' => e = .returned (.bool (mAhead a b)) ∧ Below w.heap.size w w' := by
  obtain ⟨p, v⟩ := a
  obtain ⟨q, u⟩ := b
  have HO := hid (show mAhead (p, v) (q, u) = if p.data.toList = q.data.toList then lessB v.data.toList u.data.toList else decide (Lib.compareBytes p.data.toList q.data.toList < 0) from rfl)
  have HB0 := hid (((Below.refl w.heap.size w).alloc (Nat.le_refl _) (.cells #[.string p, .string v] 51)).alloc (by simp) (.cells #[.string q, .string u] 51))
  simp only at hv hu
  by_cases h : p = q
  · subst h
    rw [if_pos rfl] at HO
    have he := str_refl p
    have HL := hid (fun W => isLess_any v u W hv hu)
    go_enter Tryz.func180, Tryz.ntmps180
    go_wp2_with fail
    refine (HL.out _).mono ?_
    rintro e w1 ⟨rfl, hb⟩
    have HB := hid (HB0.out.trans (hb.mono HB0.out.size))
    clear hb
    go_wp2_with fail
    go_ret
    exact ⟨ret_bool HO.out.symm, HB.out⟩
  · rw [if_neg (fun e => h (str_ext e))] at HO
    have he := str_ne h
    have HC := hid (show Op.bytesLess p.toList q.toList = decide (Lib.compareBytes p.data.toList q.data.toList < 0) by rw [cb_less, ByteArray.toList_eq, ByteArray.toList_eq])
    clear h
    go_enter Tryz.func180, Tryz.ntmps180
    go_wp2_with fail
    go_ret
    exact ⟨ret_bool (by rw [HO.out, ← HC.out]), HB0.out⟩
end Ve
end Go.Proofs.YtanponneancajaaGreatDoor
