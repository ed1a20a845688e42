/-
  What up.latest answers: of each module its path in the latest version.
-/
import Derived.Test.YtanponneancajaaGreatDoorUpP
import Derived.Test.YtanponneancajaaGreatDoorIxW
import Derived.Deep.RegionHeldLaw
import Derived.Deep.AppendLies
namespace Go.Proofs.YtanponneancajaaGreatDoor
open Go.RowKit Go.Maps
namespace Ve

theorem latL_next {Q : List Raw} {E : List Bm} {k : Nat} (h : k < E.length) : latL Q (E.take (k + 1)) = latL Q (E.take k) ++ [(E[k].1, latV Q E[k].1)] := by
  unfold latL
  rw [List.take_succ_eq_append_getElem h, List.map_append]; rfl
theorem keep_grow {W3 W4 : World} {o : Obj} {b : Nat} {row : Option Nat} {x : Value} (hg : (W3.alloc o).grownBy W4 row) (hb : b < W3.heap.size) (hne : some b ≠ row) (hc : W3.cell? ⟨b, 0, none⟩ = some x) : W4.cell? ⟨b, 0, none⟩ = some x ∧ Hid (b < W4.heap.size) := by
  have hl : b < (W3.alloc o).heap.size := by simp; omega
  have h1 := ((Below.refl W3.heap.size W3).alloc (Nat.le_refl _) o).block b hb
  have h2 := hg.block b hl hne
  refine ⟨?_, hid (Nat.lt_of_lt_of_le hl hg.size)⟩
  rw [World.cell?_of_block h2, World.cell?_of_block h1]; exact hc
/-- Each path's latest is made of something. -/
def LatK (Q : List Raw) (E : List Bm) : Prop := ∀ x, x ∈ E → ∃ X, KeptT Q x.1 X
set_option maxRecDepth 100000 in
set_option maxHeartbeats 4000000 in
theorem latest_row (Q : List Raw) (mods : List Bm) (v mv : Value) (A : Nat → Addr) (m : Int) (w : World) (hL : Q.length ≤ 1000) (hn : mods.length ≤ 1000) (hz : ∀ r, r ∈ Q → r.1.1.size ≤ 80 ∧ r.1.2.size ≤ 80) (S : Te w A m) (htab : Lib.TabIs Tryz.prog w powName .u64 Lib.pow10Tab) (hv : EsAt w v Q) (hm : MsAt w mv mods) :
    Calls Tryz.prog 76 #[v, mv] w fun e w' => ∃ u, e = .returned u ∧ w'.ownsRow w.heap.size 51 2 u (latL Q mods).length (flatM (latL Q mods)) ∧ LatK Q mods ∧ Below w.heap.size w w' := by
  have HLA := hid (fun t W (h : Below w.heap.size w W) => latest_any Q t v (A 0) (A 1) m W hL hz (S.below h).vs (tab_below htab h) (hv.below h))
  have HM := hid (fun W (h : Below w.heap.size w W) => hm.below h)
  have HNM := hid (show mods.length ≤ 1000000 by omega)
  have HN := hid hn
  obtain ⟨i0, hi0, hz0, hz1, hz2⟩ := info_parts infoMod
  obtain ⟨va, vc, hv1, -⟩ := id hv
  subst hv1
  obtain ⟨ma, mc, hm1, -⟩ := id hm
  subst hm1
  clear hv hm S htab hz hn
  go_enter Tryz.func76, Tryz.ntmps76
  go_wp2_with fail
  go_loopw [5, 10] (fun ov iv wr => ∃ i : Nat, i ≤ mods.length ∧ iv = .int .i64 i ∧ Hid (wr.ownsRow w.heap.size 51 2 ov (latL Q (mods.take i)).length (flatM (latL Q (mods.take i)))) ∧ Hid (∀ j (h : j < mods.length), j < i → ∃ X, KeptT Q mods[j].1 X) ∧ Hid (Below w.heap.size w wr)) (fun _ iv _ => mods.length - (intOf iv).toNat)
  case atStart => exact ⟨0, Nat.zero_le _, rfl, hid (World.ownsRow_nil _ _ _ _), hid (fun j _ hj => absurd hj (Nat.not_lt_zero _)), hid (Below.refl _ _)⟩
  case round =>
    obtain ⟨i, hi, rfl, HOW, HK, HBr⟩ := hrel
    by_cases hlt : i < mods.length
    · have hiI := ix_lt hlt
      have hii := ix_pos i
      have HLI := hid hlt
      obtain ⟨xb, xo, hxa, y0, y1⟩ := (HM.out _ HBr.out).cells hlt
      subst hxa
      have HST := hid (latL_next (Q := Q) hlt)
      have HSL := hid (show (latL Q (mods.take i)).length ≤ 1000 by rw [latL_len]; exact Nat.le_trans (List.length_take_le' i mods) HN.out)
      have HKN := hid (show (∃ X, KeptT Q mods[i].1 X) → ∀ j (h : j < mods.length), j < i + 1 → ∃ X, KeptT Q mods[j].1 X from fun h0 j h1 h2 => by
        rcases Nat.lt_or_ge j i with h | h
        · exact HK.out j h1 h
        · have : j = i := by omega
          subst this; exact h0)
      generalize mods[i] = x at *
      obtain ⟨p, q⟩ := x
      simp only at y0 y1 HST HKN
      obtain ⟨SX, hSX⟩ : ∃ SX, latL Q (mods.take i) = SX := ⟨_, rfl⟩
      rw [hSX] at HOW HST HSL
      clear hSX hlt
      have HAl := hid ((Below.refl wr.heap.size wr).alloc (Nat.le_refl _) (.cells #[.string p, .string q] 51))
      have HBa := hid (HBr.out.trans (HAl.out.mono HBr.out.size))
      have HM0 := hid (heap_new wr (.cells #[.string p, .string q] 51))
      have HOa := hid (HOW.out.alloc (.cells #[.string p, .string q] 51))
      have HNE := hid (show some wr.heap.size ≠ u5.ownBlock from fun h => Nat.lt_irrefl _ (own_lt HOW.out h.symm).1)
      go_wp2_with fail
      obtain ⟨wa, hwa⟩ : ∃ wa, wr.alloc (.cells #[.string p, .string q] 51) = wa := ⟨_, rfl⟩
      rw [hwa] at HAl HBa HM0 HOa ⊢
      have HSZ := hid (show wr.heap.size < wa.heap.size from lt_of_blk HM0.out)
      clear hwa
      obtain ⟨m0, m1, mf⟩ := box2J HM0.out
      have HW := hid (fun W' (hW : Below wa.heap.size wa W') => HBa.out.trans (hW.mono HBa.out.size))
      have HT := hid (fun W' (hW : Below wa.heap.size wa W') => (show (fun W' => W'.cell? ⟨wr.heap.size, 0, none⟩ = some (.string p) ∧ Hid (wr.heap.size < W'.heap.size)) W' from ⟨cell_below hW m0, hid (Nat.lt_of_lt_of_le HSZ.out hW.size)⟩))
      have HLP := hid (fun W (h : Below w.heap.size w W) => HLA.out p W h)
      go_region_held_law (fun W' => W'.cell? ⟨wr.heap.size, 0, none⟩ = some (.string p) ∧ Hid (wr.heap.size < W'.heap.size)) (first | exact keep_grow HR9.out (HT.out _ HRa.out).2.out HNE.out (HT.out _ HRa.out).1 | exact HT.out _ (HRa.out.alloc HRa.out.size _) | exact HT.out _ HRa.out | exact HT.out _ (below_drawn _ 1)) (first
        | (go_at_call 26; refine (HLP.out _ (HW.out _ (below_drawn _ 1))).mono ?_; rintro e w3 ⟨X, rfl, hK, hb⟩; have HRa := hid ((below_drawn wa 1).trans (hb.mono (Nat.le_refl _))); have HKX := hid hK; have HLV := hid (latV_of hK); clear hb hK)
        | (refine step_append_lies _ (by rfl) _ _ 52 (by rfl) w.heap.size 51 i0 _ 2 32 Tryz.underlying52 hi0 hz0 hz1 hz2 rfl (by decide) _ _ _ (by rfl) ((owns_below HOa.out HRa.out).alloc _) ⟨w3.heap.size, 0, none⟩ 1 1 [.string p, .string (lastT X)] (by rfl) rfl (World.news_of_block (heap_new _ _)) (by intro u hu; simp at hu; rcases hu with rfl | rfl <;> rfl) (by decide) (Nat.le_trans (Nat.add_le_add_right HSL.out 1) (by unfold maxLen; decide)) (by have := HSL.out; omega) (Nat.le_trans (HW.out _ HRa.out).size (by simp)) (w3.heap.size + 1) (by simp) ?_; intro g cap w4 hown hgrow hat hlt2; have HR9 := hid hgrow))
      all_goals
        have HB4 := hid (rel_app2 HBa.out.size HBa.out HOa.out HRa.out hgrow)
        have HO4 := hid (show w4.ownsRow w.heap.size 51 2 (.slice (some ⟨g, 0, none⟩) (SX.length + 1) cap) (SX ++ [(p, latV Q p)]).length (flatM (SX ++ [(p, latV Q p)])) by rw [← HLV.out, List.length_append, flatM_app]; exact hown)
        have HK4 := hid (HKN.out ⟨X, HKX.out⟩)
        clear hown hgrow hat hlt2 HR9 m0 m1 mf
        go_wp2_with fail
        go_roundw
        case rel => first | exact ⟨i + 1, HLI.out, nr_idx i, hid (by rw [HST.out]; exact HO4.out), HK4, HB4⟩ | exact ⟨i + 1, HLI.out, nx_idx HLI.out HNM.out, hid (by rw [HST.out]; exact HO4.out), HK4, HB4⟩
        case measure => first | exact nr_meas HLI.out | exact nx_meas HLI.out HNM.out
    · have hiI := ix_nlt hlt
      have hie : i = mods.length := Nat.le_antisymm hi (Nat.le_of_not_lt hlt)
      have HTA := hid (show mods.take i = mods from List.take_of_length_le (by omega))
      rw [HTA.out] at HOW
      have HKA := hid (show LatK Q mods from fun x hx => by
        obtain ⟨j, hj, rfl⟩ := List.getElem_of_mem hx
        exact HK.out j hj (by omega))
      clear hlt
      go_wp2_with fail
      go_ret
      exact ⟨_, rfl, HOW.out, HKA.out, HBr.out⟩
end Ve
end Go.Proofs.YtanponneancajaaGreatDoor
