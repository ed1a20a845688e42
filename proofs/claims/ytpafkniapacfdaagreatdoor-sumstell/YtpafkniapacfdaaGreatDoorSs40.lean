
import Derived.Test.YtpafkniapacfdaaGreatDoorSs37
import Derived.Deep.RegionHeldLaw
import Derived.Deep.RegionHeld
import Derived.Deep.AppendLies
namespace Go.Proofs.YtpafkniapacfdaaGreatDoor
open Go.RowKit
namespace Ve
theorem keep3D {W W3 W4 : World} {b i j k : Nat} {row : Option Nat} {x y z : Value} (hb : Below W.heap.size W W3) (hg : W3.grownBy W4 row) (hne : some b ≠ row) (hc : W.cell? ⟨b, i, none⟩ = some x ∧ W.cell? ⟨b, j, none⟩ = some y ∧ W.cell? ⟨b, k, none⟩ = some z) : W4.cell? ⟨b, i, none⟩ = some x ∧ W4.cell? ⟨b, j, none⟩ = some y ∧ W4.cell? ⟨b, k, none⟩ = some z := by
  have h1 : b < W.heap.size := lt_of_cell hc.1
  have h2 : W4.heap[b]? = W.heap[b]? := (hg.block b (Nat.lt_of_lt_of_le h1 hb.size) hne).trans (hb.block b h1)
  have c : ∀ t, W4.cell? ⟨b, t, none⟩ = W.cell? ⟨b, t, none⟩ := fun t => by rw [World.cell?_of_block h2]
  exact ⟨(c _).trans hc.1, (c _).trans hc.2.1, (c _).trans hc.2.2⟩
theorem flatU_next {X : List Ln} {k : Nat} (h : k < X.length) : X.take (k + 1) = X.take k ++ [X[k]] := List.take_succ_eq_append_getElem h
set_option maxRecDepth 100000 in
set_option maxHeartbeats 4000000 in
theorem asl_any (X : List Ln) (v : Value) (w : World) (hX : X.length ≤ 1000) (hn : ∀ x, x ∈ X → x.2 ≤ 4294967295) (hv : LnAt .i64 w v X) :
    Calls Tryz.prog 20 #[v] w fun e w' => ∃ u, e = .returned u ∧ w'.ownsRow w.heap.size 44 3 u X.length (flatN .u32 X) ∧ Below w.heap.size w w' := by
  obtain ⟨i0, hi0, hz0, hz1, hz2⟩ := info_parts infoLine
  have HV := hid hv
  have HN := hid hn
  obtain ⟨va, vc, rfl, -⟩ := id hv
  clear hv hn
  go_enter Tryz.func20, Tryz.ntmps20
  go_wp2_with fail
  go_loopw [3, 4] (fun ov iv wr => ∃ k : Nat, k ≤ X.length ∧ iv = .int .i64 k ∧ Hid (wr.ownsRow w.heap.size 44 3 ov (X.take k).length (flatN .u32 (X.take k))) ∧ Hid (Below w.heap.size w wr)) (fun _ iv _ => X.length - (intOf iv).toNat)
  case atStart => exact ⟨0, Nat.zero_le _, rfl, hid (World.ownsRow_nil _ _ _ _), hid (Below.refl _ _)⟩
  case round =>
    obtain ⟨k, hk, rfl, HOW, HBr⟩ := hrel
    by_cases hlt : k < X.length
    · obtain ⟨xb, xo, hxa, y0, y1, y2⟩ := HV.out.cells hlt
      subst hxa
      have hkI := ix_lt hlt
      have hk0 := ix_pos k
      have HNX := hid (show some xb ≠ u3.ownBlock from fun h => absurd (HOW.out.lt _ h.symm).1 (by have : xb < w.heap.size := lt_of_cell y0; omega))
      have HST := hid (flatU_next hlt)
      have HSL := hid (show (X.take k).length ≤ 1000 by rw [List.length_take]; omega)
      have hxn := HN.out X[k] (List.getElem_mem hlt)
      generalize X[k] = x at *
      have HLI := hid hlt
      clear hlt
      obtain ⟨⟨p, q⟩, n⟩ := x
      dsimp only at y0 y1 y2 hxn
      have hq : IntKind.u32.wrap (n : Int) = (n : Int) := by rw [IntKind.wrap_u32]; omega
      obtain ⟨SX, hSX⟩ : ∃ SX, X.take k = SX := ⟨_, rfl⟩
      rw [hSX] at HOW HST HSL
      clear hSX
      have HT := hid (fun W' (hW : Below wr.heap.size wr W') => (show (fun W' => W'.cell? ⟨xb, xo + k * 3, none⟩ = some (.string p) ∧ W'.cell? ⟨xb, xo + k * 3 + 1, none⟩ = some (.string q) ∧ W'.cell? ⟨xb, xo + k * 3 + 2, none⟩ = some (.int .i64 (n : Nat))) W' from
        let B := HBr.out.trans (hW.mono HBr.out.size)
        ⟨cell_below B y0, cell_below B y1, cell_below B y2⟩))
      clear y0 y1 y2
      go_wp2_with fail
      go_region_held_law (fun W' => W'.cell? ⟨xb, xo + k * 3, none⟩ = some (.string p) ∧ W'.cell? ⟨xb, xo + k * 3 + 1, none⟩ = some (.string q) ∧ W'.cell? ⟨xb, xo + k * 3 + 2, none⟩ = some (.int .i64 (n : Nat))) (first | exact keep3D (below_drawn_of ((Below.refl wr.heap.size wr).alloc (Nat.le_refl _) _) 1) HR9.out HNX.out (HT.out wr (Below.refl _ wr)) | exact HT.out _ ((below_drawn wr 1).alloc (below_drawn wr 1).size _) | exact HT.out _ (below_drawn _ 1)) (first
        | (refine step_append_lies _ (by rfl) _ _ 34 (by rfl) w.heap.size 44 i0 _ 3 40 Tryz.underlying34 hi0 hz0 hz1 hz2 rfl (by decide) _ _ _ (by rfl) ((owns_below HOW.out (below_drawn wr 1)).alloc _) ⟨wr.heap.size, 0, none⟩ 1 1 [.string p, .string q, .int .u32 (n : Nat)] (by rfl) rfl (World.news_of_block (heap_alloc_new _ _)) (by intro u hu; simp at hu; rcases hu with rfl | rfl | rfl <;> rfl) (by decide) (Nat.le_trans (Nat.add_le_add_right HSL.out 1) (by unfold maxLen; decide)) (by have := HSL.out; omega) (Nat.le_trans HBr.out.size (by simp)) (wr.heap.size + 1) (by simp) ?_; intro g cap w4 hown hgrow hat hlt2; have HR9 := hid hgrow))
      all_goals
        have HB4 := hid (Below.grown (HBr.out.trans ((below_drawn_of ((Below.refl wr.heap.size wr).alloc (Nat.le_refl _) _) 1).mono HBr.out.size)) hgrow (Nat.le_trans HBr.out.size (by simp)) (fun j hj => (HOW.out.lt j hj).1))
        have HO4 := hid (show w4.ownsRow w.heap.size 44 3 (.slice (some ⟨g, 0, none⟩) (SX.length + 1) cap) (SX ++ [((p, q), n)]).length (flatN .u32 (SX ++ [((p, q), n)])) by rw [flatN_snoc, List.length_append]; exact hown)
        clear hown hgrow hat hlt2 HR9
        go_wp2_with fail
        go_roundw
        case rel => first | exact ⟨k + 1, HLI.out, nr_idx k, hid (by rw [HST.out]; exact HO4.out), HB4⟩ | exact ⟨k + 1, HLI.out, nx_idx HLI.out (by omega), hid (by rw [HST.out]; exact HO4.out), HB4⟩
        case measure => first | exact nr_meas HLI.out | exact nx_meas HLI.out (by omega)
    · have hkI := ix_nlt hlt
      have HTA := hid (show X.take k = X from List.take_of_length_le (by omega))
      rw [HTA.out] at HOW
      clear hlt
      go_wp2_with fail
      go_ret
      exact ⟨_, rfl, HOW.out, HBr.out⟩
set_option maxRecDepth 100000 in
set_option maxHeartbeats 4000000 in
theorem saml_any (X : List Ln) (v u : Value) (w : World) (hX : X.length ≤ 1000000) (hn : ∀ x, x ∈ X → x.2 ≤ 4294967295) (hv : LnAt .u32 w v X) (hu : LnAt .i64 w u X) :
    Calls Tryz.prog 19 #[v, u] w fun e w' => e = .returned (.bool true) ∧ Below w.heap.size w w' := by
  have HV := hid hv
  have HU := hid hu
  have HN := hid hn
  obtain ⟨va, vc, rfl, -⟩ := id hv
  obtain ⟨ua, uc, rfl, -⟩ := id hu
  clear hv hu hn
  go_enter Tryz.func19, Tryz.ntmps19
  go_wp2_with fail
  go_loopw [5] (fun iv wr => ∃ k : Nat, k ≤ X.length ∧ iv = .int .i64 k ∧ Hid (Below w.heap.size w wr)) (fun iv _ => X.length - (intOf iv).toNat)
  case atStart => exact ⟨0, Nat.zero_le _, rfl, hid (Below.refl _ _)⟩
  case round =>
    obtain ⟨k, hk, rfl, HBr⟩ := hrel
    by_cases hlt : k < X.length
    · obtain ⟨xb, xo, hxa, y0, y1, y2⟩ := HV.out.cells hlt
      subst hxa
      obtain ⟨zb, zo, hza, z0, z1, z2⟩ := HU.out.cells hlt
      subst hza
      have hkI := ix_lt hlt
      have hk0 := ix_pos k
      have hxn := HN.out X[k] (List.getElem_mem hlt)
      have HNE := hid (fun W => modNeq X[k].1.1 X[k].1.2 X[k].1.1 X[k].1.2 W)
      rw [decide_eq_true ⟨rfl, rfl⟩] at HNE
      have hgd := modGuard
      generalize X[k] = x at *
      have HLI := hid hlt
      clear hlt
      obtain ⟨⟨p, q⟩, n⟩ := x
      dsimp only at y0 y1 y2 z0 z1 z2 hxn HNE
      have heq := HNE.out
      have hq : IntKind.i64.wrap (n : Int) = (n : Int) := by rw [IntKind.wrap_i64]; omega
      have hnn : ((n : Int) != (n : Int)) = false := by simp
      have HT := hid (fun W' (hW : Below wr.heap.size wr W') => (show (fun W' => W'.cell? ⟨xb, xo + k * 3, none⟩ = some (.string p) ∧ W'.cell? ⟨xb, xo + k * 3 + 1, none⟩ = some (.string q) ∧ W'.cell? ⟨xb, xo + k * 3 + 2, none⟩ = some (.int .u32 (n : Nat)) ∧ W'.cell? ⟨zb, zo + k * 3, none⟩ = some (.string p) ∧ W'.cell? ⟨zb, zo + k * 3 + 1, none⟩ = some (.string q) ∧ W'.cell? ⟨zb, zo + k * 3 + 2, none⟩ = some (.int .i64 (n : Nat))) W' from
        let B := HBr.out.trans (hW.mono HBr.out.size)
        ⟨cell_below B y0, cell_below B y1, cell_below B y2, cell_below B z0, cell_below B z1, cell_below B z2⟩))
      clear y0 y1 y2 z0 z1 z2
      go_wp2_with fail
      go_region_held (fun W' => W'.cell? ⟨xb, xo + k * 3, none⟩ = some (.string p) ∧ W'.cell? ⟨xb, xo + k * 3 + 1, none⟩ = some (.string q) ∧ W'.cell? ⟨xb, xo + k * 3 + 2, none⟩ = some (.int .u32 (n : Nat)) ∧ W'.cell? ⟨zb, zo + k * 3, none⟩ = some (.string p) ∧ W'.cell? ⟨zb, zo + k * 3 + 1, none⟩ = some (.string q) ∧ W'.cell? ⟨zb, zo + k * 3 + 2, none⟩ = some (.int .i64 (n : Nat))) (first | exact HT.out _ HRa.out | exact HT.out _ (below_drawn _ 1)) (fail)
      all_goals
        have HBN := hid (HBr.out.trans ((below_drawn wr 1).mono HBr.out.size))
        go_wp2_with fail
        go_roundw
        case rel => first | exact ⟨k + 1, HLI.out, nr_idx k, HBN⟩ | exact ⟨k + 1, HLI.out, nx_idx HLI.out (by omega), HBN⟩
        case measure => first | exact nr_meas HLI.out | exact nx_meas HLI.out (by omega)
    · have hkI := ix_nlt hlt
      clear hlt
      go_wp2_with fail
      go_ret
      exact ⟨rfl, HBr.out⟩
end Ve
end Go.Proofs.YtpafkniapacfdaaGreatDoor
