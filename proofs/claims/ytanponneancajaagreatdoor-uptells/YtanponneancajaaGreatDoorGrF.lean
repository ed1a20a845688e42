/-
  What graph.Reach answers.
-/
import Derived.Test.YtanponneancajaaGreatDoorGrE
namespace Go.Proofs.YtanponneancajaaGreatDoor
open Go.RowKit Go.Maps
namespace Ve

set_option maxRecDepth 100000 in
set_option maxHeartbeats 2000000 in
theorem reached_bad (Q : List Raw) (L : List Ent) (roots : List Bm) (v rv : Value) (A : Nat → Addr) (m : Int) (w : World) (hn : L.length ≤ 1000) (hrn : roots.length ≤ 1000000) (sh : ∀ e, e ∈ L → ShE e) (S : Te w A m) (I : Ixs w v Q L) (hr : MsAt w rv roots) (h0 : (chkG Q L roots).1 ≠ 0) :
    Calls Tryz.prog 123 #[v, rv] w fun e w' => ∃ T a, e = .returned (.tuple #[.slice none 0 0, .iface T (.pointer (some a))]) ∧ ErrAt w' A (.iface T (.pointer (some a))) (chkG Q L roots).1 (chkG Q L roots).2 ∧ Below w.heap.size w w' := by
  have HCK := hid (gcheck_any Q L roots v rv A m w hn hrn sh S I hr)
  obtain ⟨a, c, hv, -⟩ := id I.es
  subst hv
  obtain ⟨ra, rc, hrv, -⟩ := id hr
  subst hrv
  have HH0 := hid h0
  clear S I hr sh h0
  go_enter Tryz.func123, Tryz.ntmps123
  go_wp2_with fail
  refine HCK.out.mono ?_
  rintro e w1 ⟨x, rfl, he, hb⟩
  have HB := hid hb
  have HE := hid he
  rcases he.kind with ⟨h, _⟩ | ⟨_, T, xa, rfl⟩
  · exact absurd h HH0.out
  clear hb he HCK
  go_wp2_with fail
  go_ret2
  exact ⟨_, _, rfl, HE.out, HB.out⟩
set_option maxRecDepth 100000 in
set_option maxHeartbeats 2000000 in
theorem reach_bad (Q : List Raw) (L : List Ent) (roots : List Bm) (v rv : Value) (A : Nat → Addr) (m : Int) (w : World) (hn : L.length ≤ 1000) (hrn : roots.length ≤ 1000000) (sh : ∀ e, e ∈ L → ShE e) (S : Te w A m) (I : Ixs w v Q L) (hr : MsAt w rv roots) (h0 : (chkG Q L roots).1 ≠ 0) :
    Calls Tryz.prog 73 #[v, rv] w fun e w' => ∃ T a, e = .returned (.tuple #[.slice none 0 0, .iface T (.pointer (some a))]) ∧ ErrAt w' A (.iface T (.pointer (some a))) (chkG Q L roots).1 (chkG Q L roots).2 ∧ Below w.heap.size w w' := by
  have HCK := hid (reached_bad Q L roots v rv A m w hn hrn sh S I hr h0)
  obtain ⟨a, c, hv, -⟩ := id I.es
  subst hv
  obtain ⟨ra, rc, hrv, -⟩ := id hr
  subst hrv
  clear S I hr sh h0
  go_enter Tryz.func73, Tryz.ntmps73
  go_wp2_with fail
  refine HCK.out.mono ?_
  rintro e w1 ⟨T, xa, rfl, he, hb⟩
  have HB := hid hb
  have HE := hid he
  clear hb he HCK
  go_wp2_with fail
  go_ret2
  exact ⟨_, _, rfl, HE.out, HB.out⟩
theorem goM_next {X : List Raw} {k : Nat} (hk : k < X.length) : flatM ((X.take (k + 1)).map fun r => r.1) = flatM ((X.take k).map fun r => r.1) ++ [.string X[k].1.1, .string X[k].1.2] := by
  rw [List.take_succ_eq_append_getElem hk, List.map_append, flatM_app]
  simp [flatM]
theorem rel_app2 {B : Nat} {w wr w2 w3 : World} {e : TypeId} {v : Value} {n : Nat} {xs : List Value} {o : Obj} (hB : B ≤ wr.heap.size) (hb : Below B w wr) (hown : wr.ownsRow B e 2 v n xs) (hb2 : Below wr.heap.size wr w2)
    (hg : (w2.alloc o).grownBy w3 v.ownBlock) : Below B w w3 := by
  have h2 : Below B w w2 := hb.trans (hb2.mono hB)
  have h3 : Below B w (w2.alloc o) := h2.alloc (Nat.le_trans hB hb2.size) o
  exact h3.grown hg (by simp; exact Nat.le_succ_of_le (Nat.le_trans hB hb2.size)) (fun k hk => (hown.lt k hk).1)
set_option maxRecDepth 100000 in
set_option maxHeartbeats 2000000 in
theorem reach_good (Q : List Raw) (L : List Ent) (roots : List Bm) (v rv : Value) (A : Nat → Addr) (m : Int) (w : World) (hn : L.length ≤ 1000) (hrn : roots.length ≤ 1000000) (sh : ∀ e, e ∈ L → ShE e) (S : Te w A m) (I : Ixs w v Q L) (hr : MsAt w rv roots) (h0 : (chkG Q L roots).1 = 0) :
    Calls Tryz.prog 73 #[v, rv] w fun e w' => ∃ u, e = .returned (.tuple #[u, .nilIface]) ∧ ∃ T, Came (reqQ Q L) (univ L) roots T ∧ w'.ownsRow w.heap.size 51 2 u (goM T Q).length (flatM (goM T Q)) ∧ Below w.heap.size w w' := by
  have HRE := hid (reached_some Q L roots v rv A m w hn hrn sh S I hr h0)
  obtain ⟨a, c, hv, -, hs, -⟩ := id I.es
  subst hv
  obtain ⟨ra, rc, hrv, -⟩ := id hr
  subst hrv
  obtain ⟨i0, hi0, hz0, hz1, hz2⟩ := info_parts infoMod
  have HSL := hid hs
  have HLN := hid I.ln
  clear S I hr sh h0 hs
  go_enter Tryz.func73, Tryz.ntmps73
  go_wp2_with fail
  refine HRE.out.mono ?_
  rintro e w1 ⟨u, rfl, T, hcm, hown, hb⟩
  have HCM := hid hcm
  have HB := hid hb
  have HES := hid (show EsAt w1 u (goQ T Q) from own_es (fun r hr => HSL.out r (List.mem_filter.1 hr).1) hown)
  obtain ⟨ua, uc, hu⟩ := own_slN hown
  subst hu
  have HXL := hid (show (goQ T Q).length ≤ 1000 from Nat.le_trans (List.length_filter_le _ _) (by rw [HLN.out]; exact hn))
  have HSX := hid (show ∀ r, r ∈ goQ T Q → slR r from fun r hr => HSL.out r (List.mem_filter.1 hr).1)
  have HGM := hid (show goM T Q = (goQ T Q).map fun r => r.1 from rfl)
  clear hcm hb hown HRE HSL
  generalize goQ T Q = X at *
  go_wp2_with fail
  go_loopw [8, 22] (fun ov i wr => ∃ k : Nat, k ≤ X.length ∧ i = .int .i64 k ∧ Hid (wr.ownsRow w1.heap.size 51 2 ov k (flatM ((X.take k).map fun r => r.1))) ∧ Hid (Below w1.heap.size w1 wr)) (fun _ i _ => X.length - (intOf i).toNat)
  case atStart => exact ⟨0, Nat.zero_le _, rfl, hid (World.ownsRow_nil _ _ _ _), hid (Below.refl _ _)⟩
  case round =>
    obtain ⟨k, hk, rfl, HO, HBr⟩ := hrel
    by_cases hlt : k < X.length
    · obtain ⟨ua', uc', hue, -, -, hce⟩ := HES.out.below HBr.out
      injection hue with hu1 hu2 hu3
      subst hu1
      subst hu3
      clear hu2
      obtain ⟨eb, eo, ha, hce2⟩ := hce (by intro h; rw [h] at hlt; simp at hlt)
      subst ha
      obtain ⟨x0, x1, x2, x3, x4⟩ := hce2 k hlt
      have hsl := HSX.out X[k] (List.getElem_mem hlt)
      have hkI : (k : Int) < (X.length : Int) := by omega
      have HLT := hid hlt
      have HNX := hid (goM_next hlt)
      clear hce hce2
      generalize X[k] = r at *
      obtain ⟨⟨p, q⟩, rv, pv, bk⟩ := r
      obtain ⟨⟨ra2, rn2, rc2, hrv⟩, pa, pn, pc, hpv⟩ := hsl
      simp only at hrv hpv
      subst hrv
      subst hpv
      have HBa := hid ((Below.refl wr.heap.size wr).alloc (Nat.le_refl _) (.cells #[.string p, .string q, .slice ra2 rn2 rc2, .slice pa pn pc, .bool bk] 54))
      have HBB := hid (HBr.out.trans (HBa.out.mono HBr.out.size))
      have HOa := hid (HO.out.alloc (.cells #[.string p, .string q, .slice ra2 rn2 rc2, .slice pa pn pc, .bool bk] 54))
      have hs1 := HBr.out.size
      clear hlt
      go_wp2_with (at_builtin; refine wpList_append_own _ rfl _ _ 52 rfl w1.heap.size 51 i0 _ 2 32 Tryz.underlying52 hi0 hz0 hz1 hz2 rfl (by decide) _ _ _ rfl (HOa.out.alloc _) ⟨wr.heap.size + 1, 0, none⟩ 1 1 [.string p, .string q] rfl rfl ?c1 ?c2 ?c3 ?c4 ?c5 ?_)
      case c2 => first | rfl | exact ⟨rfl, rfl⟩ | (intro u hu; simp at hu; rcases hu with rfl | rfl <;> rfl) | simp
      case c3 => have := HLT.out; have := HXL.out; unfold maxLen; omega
      case c4 => have := HLT.out; have := HXL.out; omega
      case c5 => first | omega | (simp; omega)
      intro v' w4 hown hgrow _
      have HR3 := hid (rel_app2 HBB.out.size HBB.out HOa.out (Below.refl _ _) hgrow)
      have HO4 := hid hown
      clear hown hgrow
      go_wp2_with fail
      go_roundw
      case rel => first | exact ⟨k + 1, HLT.out, nr_idx k, hid (by rw [HNX.out, List.map_take]; exact HO4.out), HR3⟩ | exact ⟨k + 1, HLT.out, nx_idx HLT.out (by have := HXL.out; omega), hid (by rw [HNX.out, List.map_take]; exact HO4.out), HR3⟩
      case measure => first | exact nr_meas HLT.out | exact nx_meas HLT.out (by have := HXL.out; omega)
    · have HTR := hid (show X.take k = X from List.take_of_length_le (by omega))
      have HKE := hid (show k = X.length by omega)
      rw [HTR.out] at HO
      have hkI : ¬ (k : Int) < (X.length : Int) := by omega
      obtain ⟨oa, oc, hov⟩ := own_slN HO.out
      subst hov
      clear hlt
      go_wp2_with fail
      go_ret2
      exact ⟨_, rfl, T, HCM.out, by rw [HGM.out, List.length_map, ← HKE.out]; exact own_baseN HO.out HB.out.size, HB.out.trans (HBr.out.mono HB.out.size)⟩
end Ve
end Go.Proofs.YtanponneancajaaGreatDoor
