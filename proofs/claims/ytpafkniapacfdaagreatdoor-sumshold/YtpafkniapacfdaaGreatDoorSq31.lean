
import Derived.Test.YtpafkniapacfdaaGreatDoorSq26
import Derived.Test.YtpafkniapacfdaaGreatDoorSq30
import Derived.Deep.RegionHeld
import Derived.Test.YtpafkniapacfdaaGreatDoorSq2
namespace Go.Proofs.YtpafkniapacfdaaGreatDoor
open Go.RowKit Go.Maps
namespace Ve
end Ve
end Go.Proofs.YtpafkniapacfdaaGreatDoor


namespace Go.Proofs.YtpafkniapacfdaaGreatDoor
open Go.RowKit Go.Maps
namespace Ve
set_option maxRecDepth 100000 in
set_option maxHeartbeats 2000000 in
theorem reached_bad (Q : List Raw) (L : List Ent) (roots : List Bm) (v rv : Value) (A : Nat → Addr) (m : Int) (w : World) (hn : L.length ≤ 1000) (hrn : roots.length ≤ 1000000) (sh : ∀ e, e ∈ L → ShE e) (S : Te w A m) (I : Ixs w v Q L) (hr : MsAt w rv roots) (h0 : (chkG Q L roots).1 ≠ 0) :
    Calls Tryz.prog 57 #[v, rv] w fun e w' => ∃ T a, e = .returned (.tuple #[.slice none 0 0, .iface T (.pointer (some a))]) ∧ ErrAt w' A (.iface T (.pointer (some a))) (chkG Q L roots).1 (chkG Q L roots).2 ∧ Below w.heap.size w w' := by
  have HCK := hid (gcheck_any Q L roots v rv A m w hn hrn sh S I hr)
  obtain ⟨a, c, hv, -⟩ := id I.es
  subst hv
  obtain ⟨ra, rc, hrv, -⟩ := id hr
  subst hrv
  have HH0 := hid h0
  clear S I hr sh h0
  go_enter Tryz.func57, Tryz.ntmps57
  go_wp2_with fail
  refine HCK.out.mono ?_
  rintro e w1 ⟨x, rfl, he, hb⟩
  have HB := hid hb
  have HE := hid he
  rcases he.kind with ⟨h, _⟩ | ⟨_, T, xa, rfl⟩
  · exact absurd h HH0.out
  clear hb he HCK
  go_wp2_with fail
  go_ret2
  exact ⟨_, _, rfl, HE.out, HB.out⟩
set_option maxRecDepth 100000 in
set_option maxHeartbeats 2000000 in
theorem reach_bad (Q : List Raw) (L : List Ent) (roots : List Bm) (v rv : Value) (A : Nat → Addr) (m : Int) (w : World) (hn : L.length ≤ 1000) (hrn : roots.length ≤ 1000000) (sh : ∀ e, e ∈ L → ShE e) (S : Te w A m) (I : Ixs w v Q L) (hr : MsAt w rv roots) (h0 : (chkG Q L roots).1 ≠ 0) :
    Calls Tryz.prog 26 #[v, rv] w fun e w' => ∃ T a, e = .returned (.tuple #[.slice none 0 0, .iface T (.pointer (some a))]) ∧ ErrAt w' A (.iface T (.pointer (some a))) (chkG Q L roots).1 (chkG Q L roots).2 ∧ Below w.heap.size w w' := by
  have HCK := hid (reached_bad Q L roots v rv A m w hn hrn sh S I hr h0)
  obtain ⟨a, c, hv, -⟩ := id I.es
  subst hv
  obtain ⟨ra, rc, hrv, -⟩ := id hr
  subst hrv
  clear S I hr sh h0
  go_enter Tryz.func26, Tryz.ntmps26
  go_wp2_with fail
  refine HCK.out.mono ?_
  rintro e w1 ⟨T, xa, rfl, he, hb⟩
  have HB := hid hb
  have HE := hid he
  clear hb he HCK
  go_wp2_with fail
  go_ret2
  exact ⟨_, _, rfl, HE.out, HB.out⟩
theorem goM_next {X : List Raw} {k : Nat} (hk : k < X.length) : flatM ((X.take (k + 1)).map fun r => r.1) = flatM ((X.take k).map fun r => r.1) ++ [.string X[k].1.1, .string X[k].1.2] := by
  rw [List.take_succ_eq_append_getElem hk, List.map_append, flatM_app]
  simp [flatM]
theorem rel_app2 {B : Nat} {w wr w2 w3 : World} {e : TypeId} {v : Value} {n : Nat} {xs : List Value} {o : Obj} (hB : B ≤ wr.heap.size) (hb : Below B w wr) (hown : wr.ownsRow B e 2 v n xs) (hb2 : Below wr.heap.size wr w2)
    (hg : (w2.alloc o).grownBy w3 v.ownBlock) : Below B w w3 := by
  have h2 : Below B w w2 := hb.trans (hb2.mono hB)
  have h3 : Below B w (w2.alloc o) := h2.alloc (Nat.le_trans hB hb2.size) o
  exact h3.grown hg (by simp; exact Nat.le_succ_of_le (Nat.le_trans hB hb2.size)) (fun k hk => (hown.lt k hk).1)
set_option maxRecDepth 100000 in
set_option maxHeartbeats 2000000 in
theorem reach_good (Q : List Raw) (L : List Ent) (roots : List Bm) (v rv : Value) (A : Nat → Addr) (m : Int) (w : World) (hn : L.length ≤ 1000) (hrn : roots.length ≤ 1000000) (sh : ∀ e, e ∈ L → ShE e) (S : Te w A m) (I : Ixs w v Q L) (hr : MsAt w rv roots) (h0 : (chkG Q L roots).1 = 0) :
    Calls Tryz.prog 26 #[v, rv] w fun e w' => ∃ u, e = .returned (.tuple #[u, .nilIface]) ∧ ∃ T, Came (reqQ Q L) (univ L) roots T ∧ w'.ownsRow w.heap.size 42 2 u (goM T Q).length (flatM (goM T Q)) ∧ Below w.heap.size w w' := by
  have HRE := hid (reached_some Q L roots v rv A m w hn hrn sh S I hr h0)
  obtain ⟨a, c, hv, -, hs, -⟩ := id I.es
  subst hv
  obtain ⟨ra, rc, hrv, -⟩ := id hr
  subst hrv
  obtain ⟨i0, hi0, hz0, hz1, hz2⟩ := info_parts infoMod
  have HSL := hid hs
  have HLN := hid I.ln
  clear S I hr sh h0 hs
  go_enter Tryz.func26, Tryz.ntmps26
  go_wp2_with fail
  refine HRE.out.mono ?_
  rintro e w1 ⟨u, rfl, T, hcm, hown, hb⟩
  have HCM := hid hcm
  have HB := hid hb
  have HES := hid (show EsAt w1 u (goQ T Q) from own_es (fun r hr => HSL.out r (List.mem_filter.1 hr).1) hown)
  obtain ⟨ua, uc, hu⟩ := own_slN hown
  subst hu
  have HXL := hid (show (goQ T Q).length ≤ 1000 from Nat.le_trans (List.length_filter_le _ _) (by rw [HLN.out]; exact hn))
  have HSX := hid (show ∀ r, r ∈ goQ T Q → slR r from fun r hr => HSL.out r (List.mem_filter.1 hr).1)
  have HGM := hid (show goM T Q = (goQ T Q).map fun r => r.1 from rfl)
  clear hcm hb hown HRE HSL
  generalize goQ T Q = X at *
  go_wp2_with fail
  go_loopw [8, 22] (fun ov i wr => ∃ k : Nat, k ≤ X.length ∧ i = .int .i64 k ∧ Hid (wr.ownsRow w1.heap.size 42 2 ov k (flatM ((X.take k).map fun r => r.1))) ∧ Hid (Below w1.heap.size w1 wr)) (fun _ i _ => X.length - (intOf i).toNat)
  case atStart => exact ⟨0, Nat.zero_le _, rfl, hid (World.ownsRow_nil _ _ _ _), hid (Below.refl _ _)⟩
  case round =>
    obtain ⟨k, hk, rfl, HO, HBr⟩ := hrel
    by_cases hlt : k < X.length
    · obtain ⟨ua', uc', hue, -, -, hce⟩ := HES.out.below HBr.out
      injection hue with hu1 hu2 hu3
      subst hu1
      subst hu3
      clear hu2
      obtain ⟨eb, eo, ha, hce2⟩ := hce (by intro h; rw [h] at hlt; simp at hlt)
      subst ha
      obtain ⟨x0, x1, x2, x3, x4⟩ := hce2 k hlt
      have hsl := HSX.out X[k] (List.getElem_mem hlt)
      have hkI : (k : Int) < (X.length : Int) := by omega
      have HLT := hid hlt
      have HNX := hid (goM_next hlt)
      clear hce hce2
      generalize X[k] = r at *
      obtain ⟨⟨p, q⟩, rv, pv, bk⟩ := r
      obtain ⟨⟨ra2, rn2, rc2, hrv⟩, pa, pn, pc, hpv⟩ := hsl
      simp only at hrv hpv
      subst hrv
      subst hpv
      have HBa := hid ((Below.refl wr.heap.size wr).alloc (Nat.le_refl _) (.cells #[.string p, .string q, .slice ra2 rn2 rc2, .slice pa pn pc, .bool bk] 55))
      have HBB := hid (HBr.out.trans (HBa.out.mono HBr.out.size))
      have HOa := hid (HO.out.alloc (.cells #[.string p, .string q, .slice ra2 rn2 rc2, .slice pa pn pc, .bool bk] 55))
      have hs1 := HBr.out.size
      clear hlt
      go_wp2_with (at_builtin; refine wpList_append_own _ rfl _ _ 23 rfl w1.heap.size 42 i0 _ 2 32 Tryz.underlying23 hi0 hz0 hz1 hz2 rfl (by decide) _ _ _ rfl (HOa.out.alloc _) ⟨wr.heap.size + 1, 0, none⟩ 1 1 [.string p, .string q] rfl rfl ?c1 ?c2 ?c3 ?c4 ?c5 ?_)
      case c2 => first | rfl | exact ⟨rfl, rfl⟩ | (intro u hu; simp at hu; rcases hu with rfl | rfl <;> rfl) | simp
      case c3 => have := HLT.out; have := HXL.out; unfold maxLen; omega
      case c4 => have := HLT.out; have := HXL.out; omega
      case c5 => first | omega | (simp; omega)
      intro v' w4 hown hgrow _
      have HR3 := hid (rel_app2 HBB.out.size HBB.out HOa.out (Below.refl _ _) hgrow)
      have HO4 := hid hown
      clear hown hgrow
      go_wp2_with fail
      go_roundw
      case rel => first | exact ⟨k + 1, HLT.out, nr_idx k, hid (by rw [HNX.out, List.map_take]; exact HO4.out), HR3⟩ | exact ⟨k + 1, HLT.out, nx_idx HLT.out (by have := HXL.out; omega), hid (by rw [HNX.out, List.map_take]; exact HO4.out), HR3⟩
      case measure => first | exact nr_meas HLT.out | exact nx_meas HLT.out (by have := HXL.out; omega)
    · have HTR := hid (show X.take k = X from List.take_of_length_le (by omega))
      have HKE := hid (show k = X.length by omega)
      rw [HTR.out] at HO
      have hkI : ¬ (k : Int) < (X.length : Int) := by omega
      obtain ⟨oa, oc, hov⟩ := own_slN HO.out
      subst hov
      clear hlt
      go_wp2_with fail
      go_ret2
      exact ⟨_, rfl, T, HCM.out, by rw [HGM.out, List.length_map, ← HKE.out]; exact own_baseN HO.out HB.out.size, HB.out.trans (HBr.out.mono HB.out.size)⟩
end Ve
end Go.Proofs.YtpafkniapacfdaaGreatDoor


namespace Go.Proofs.YtpafkniapacfdaaGreatDoor
open Go.RowKit
namespace Ve
set_option maxHeartbeats 1000000 in
theorem sameP_any (a b : Bm) (W : World) :
    Calls Tryz.prog 98 #[.agg #[.string a.1, .string a.2], .agg #[.string b.1, .string b.2]] W fun e w' => e = .returned (.bool (decide (a.1 = b.1))) ∧ Below W.heap.size W w' := by
  obtain ⟨p, v⟩ := a
  obtain ⟨q, u⟩ := b
  have HB0 := hid (((Below.refl W.heap.size W).alloc (Nat.le_refl _) (.cells #[.string p, .string v] 42)).alloc (by simp) (.cells #[.string q, .string u] 42))
  by_cases h : p = q
  · subst h
    have he := str_refl p
    have HD := hid (show decide (p = p) = true by simp)
    show Calls Tryz.prog 98 _ W fun e w' => e = .returned (.bool (decide (p = p))) ∧ _
    generalize decide (p = p) = z at *
    go_enter Tryz.func98, Tryz.ntmps98
    go_wp2_with fail
    go_ret
    exact ⟨ret_bool HD.out.symm, HB0.out⟩
  · have he := str_ne h
    have HD := hid (show decide (p = q) = false by simp [h])
    show Calls Tryz.prog 98 _ W fun e w' => e = .returned (.bool (decide (p = q))) ∧ _
    generalize decide (p = q) = z at *
    go_enter Tryz.func98, Tryz.ntmps98
    go_wp2_with fail
    go_ret
    exact ⟨ret_bool HD.out.symm, HB0.out⟩
theorem compactM_nil (a : Option Addr) (c : Nat) (W : World) : Calls Tryz.prog 97 #[.slice a 0 c, .func (.func 98) #[] #[]] W fun e w' => e = .returned (.slice a 0 c) ∧ Below W.heap.size W w' := by
  go_enter Tryz.func97, Tryz.ntmps97
  go_wp2_with fail
  go_ret
  exact ⟨rfl, Below.refl _ _⟩
def TwoM (w0 W : World) (g i j : Nat) (D : List Bm) (y x : Bm) : Prop :=
  W.cell? ⟨g, i, none⟩ = some (.string y.1) ∧ W.cell? ⟨g, i + 1, none⟩ = some (.string y.2) ∧ W.cell? ⟨g, j, none⟩ = some (.string x.1) ∧ W.cell? ⟨g, j + 1, none⟩ = some (.string x.2) ∧ Hid (Mw w0 W g D)
theorem Mw.two {w0 W : World} {g : Nat} {D : List Bm} (h : Mw w0 W g D) {j : Nat} {y x : Bm} (hy : D[j]? = some y) (hx : D[j + 1]? = some x) : TwoM w0 W g (j * 2) ((j + 1) * 2) D y x :=
  ⟨(h.at hy).1, (h.at hy).2, (h.at hx).1, (h.at hx).2, h⟩
set_option maxRecDepth 100000 in
set_option maxHeartbeats 8000000 in
theorem compact_mw (w0 w : World) (g cap : Nat) (D : List Bm) (hD : D ≠ []) (h12 : D.length ≤ 1000000) (hc : D.length ≤ cap) (hr : ∀ r, r ∈ D → Rt r) (hs : srtM D) (hR : Mw w0 w g D) :
    Calls Tryz.prog 97 #[.slice (some ⟨g, 0, none⟩) D.length cap, .func (.func 98) #[] #[]] w fun e w' => ∃ E : List Bm, e = .returned (.slice (some ⟨g, 0, none⟩) E.length cap) ∧ E.length ≤ D.length ∧ Jn D E ∧ Mw w0 w' g E := by
  have HR := hid hR
  have HS := hid hs
  have HRT := hid hr
  have hpos : 0 < D.length := List.length_pos_iff.2 hD
  clear hR hs hD hr
  by_cases h2 : D.length < 2
  · have h2i : (D.length : Int) < 2 := by omega
    have HRI := hid (show Jn D D by
      have h := (CpM.start hpos HRT.out)
      rw [show (1 : Nat) = D.length by omega, List.take_length] at h
      exact h.jn HRT.out)
    go_enter Tryz.func97, Tryz.ntmps97
    go_wp2_with fail
    go_ret
    exact ⟨D, rfl, Nat.le_refl _, HRI.out, HR.out⟩
  · have h2i : ¬ (D.length : Int) < 2 := by omega
    go_enter Tryz.func97, Tryz.ntmps97
    go_wp2_with fail
    go_loopw [5] (fun i wr => ∃ k : Nat, k + 1 ≤ D.length ∧ i = .int .i64 ((k : Int) + 1) ∧ Hid (CpM D (k + 1) (D.take (k + 1))) ∧ Hid (Mw w0 wr g D)) (fun i _ => D.length - (intOf i).toNat)
    case atStart => exact ⟨0, by omega, rfl, hid (CpM.start hpos HRT.out), HR⟩
    case round =>
      obtain ⟨k, hk, rfl, HCP, HRW⟩ := hrel
      by_cases hkn : k + 1 < D.length
      · have hi1 : (0 : Int) ≤ (k : Int) + 1 := by omega
        have hi2 : (k : Int) + 1 < (D.length : Int) := by omega
        have hi3 : (0 : Int) ≤ (k : Int) := by omega
        have hi4 : (k : Int) < (D.length : Int) := by omega
        have hi5 : (k : Int) + 1 - 1 = (k : Int) := by omega
        have hwp : IntKind.i64.wrap (k : Int) = (k : Int) := by rw [IntKind.wrap_i64]; omega
        have hwe : ((k : Int) + 1).toNat = k + 1 := by omega
        have hcap1 : (k : Int) + 1 ≤ (cap : Int) := by omega
        have hcap2 : (D.length : Int) ≤ (cap : Int) := by omega
        have HPL := hid (fun h => HCP.out.plain HS.out HRT.out hkn h)
        have HSA := hid (fun h => HCP.out.same HS.out HRT.out hkn h)
        have hy2 : D[k]? = some D[k] := List.getElem?_eq_getElem (by omega)
        have hx2 : D[k + 1]? = some D[k + 1] := List.getElem?_eq_getElem hkn
        generalize D[k] = y at *
        generalize D[k + 1] = x at *
        obtain ⟨ty, vy⟩ := y
        obtain ⟨tx, vx⟩ := x
        have HCM := hid (fun W => (show Calls Tryz.prog 98 #[.agg #[.string tx, .string vx], .agg #[.string ty, .string vy]] W
            fun e w' => e = .returned (.bool (decide (tx = ty))) ∧ Below W.heap.size W w' from sameP_any (tx, vx) (ty, vy) W))
        have HTW := hid (fun (W : World) (h : Mw w0 W g D) => (show W.cell? ⟨g, k * 2, none⟩ = some (.string ty) ∧ W.cell? ⟨g, k * 2 + 1, none⟩ = some (.string vy) ∧ W.cell? ⟨g, (k + 1) * 2, none⟩ = some (.string tx) ∧ W.cell? ⟨g, (k + 1) * 2 + 1, none⟩ = some (.string vx) ∧ Hid (Mw w0 W g D) from h.two hy2 hx2))
        obtain ⟨a0, a1, b0, b1, _⟩ := HTW.out _ HRW.out
        clear hy2 hx2
        by_cases hod : tx = ty
        · have HC2 := hid (HSA.out hod)
          rw [decide_eq_true hod] at HCM
          clear hod
          go_wp2_with fail
          go_region_held (fun W => W.cell? ⟨g, k * 2, none⟩ = some (.string ty) ∧ W.cell? ⟨g, k * 2 + 1, none⟩ = some (.string vy) ∧ W.cell? ⟨g, (k + 1) * 2, none⟩ = some (.string tx) ∧ W.cell? ⟨g, (k + 1) * 2 + 1, none⟩ = some (.string vx) ∧ Hid (Mw w0 W g D)) (first | exact HTW.out _ HRa.out | exact HTW.out _ (HRW.out.below (below_drawn _ 1))) (first
            | (go_at_call 98; refine (HCM.out _).mono ?_; rintro e w' ⟨rfl, hb⟩; have HRa := hid ((HRW.out.below (below_drawn _ 1)).below hb); clear hb))
          all_goals
            have HN := hid (show (D.take (k + 1)).length = k + 1 by simp; omega)
            clear a0 a1 b0 b1
            go_wp2_with fail
            go_loopw [5, 7] (fun a b wr2 => ∃ (j : Nat) (E : List Bm), a = .int .i64 (E.length : Int) ∧ b = .int .i64 ((j : Int) + 1) ∧ k + 1 + (j + 1) ≤ D.length ∧ E.length ≤ k + 1 + j ∧ Hid (CpM D (k + 1 + j + 1) E) ∧ Hid (Mw w0 wr2 g (E ++ D.drop E.length))) (fun _ b _ => D.length - (intOf b).toNat)
            case atStart => exact ⟨0, D.take (k + 1), by rw [HN.out]; rfl, rfl, by omega, by rw [HN.out]; omega, HC2, hid (by rw [HN.out, List.take_append_drop]; exact HRa.out)⟩
            case round =>
              obtain ⟨j, E, rfl, rfl, hjD, hEj, HCE, HRV⟩ := hrel
              have HAT := hid (show ∀ i, E.length ≤ i → (E ++ D.drop E.length)[i]? = D[i]? from fun i hi => by rw [List.getElem?_append_right hi, List.getElem?_drop]; congr 1; omega)
              by_cases hj : k + 1 + (j + 1) < D.length
              · have g1 : (0 : Int) ≤ (j : Int) + 1 := by omega
                have g2 : (j : Int) + 1 < ((D.length - (k + 1) : Nat) : Int) := by omega
                have g3 : (0 : Int) ≤ (j : Int) := by omega
                have g4 : (j : Int) < ((D.length - (k + 1) : Nat) : Int) := by omega
                have g5 : (j : Int) + 1 - 1 = (j : Int) := by omega
                have gwp : IntKind.i64.wrap (j : Int) = (j : Int) := by rw [IntKind.wrap_i64]; omega
                have gwe : ((j : Int) + 1).toNat = j + 1 := by omega
                have HMO := hid (fun h => HCE.out.more HS.out HRT.out hj h)
                have HSM := hid (fun h => HCE.out.same HS.out HRT.out hj h)
                have hv2 : (E ++ D.drop E.length)[k + 1 + j]? = some D[k + 1 + j] := by rw [HAT.out _ hEj]; exact List.getElem?_eq_getElem (by omega)
                have hu2 : (E ++ D.drop E.length)[k + 1 + j + 1]? = some D[k + 1 + j + 1] := by rw [HAT.out _ (by omega)]; exact List.getElem?_eq_getElem hj
                generalize D[k + 1 + j] = y at *
                generalize D[k + 1 + j + 1] = x at *
                obtain ⟨sy, vsy⟩ := y
                obtain ⟨sx, vsx⟩ := x
                have HCN := hid (fun W => (show Calls Tryz.prog 98 #[.agg #[.string sx, .string vsx], .agg #[.string sy, .string vsy]] W
                  fun e w' => e = .returned (.bool (decide (sx = sy))) ∧ Below W.heap.size W w' from sameP_any (sx, vsx) (sy, vsy) W))
                have HTV := hid (fun (W : World) (h : Mw w0 W g (E ++ D.drop E.length)) => (show W.cell? ⟨g, (k + 1) * 2 + j * 2, none⟩ = some (.string sy) ∧ W.cell? ⟨g, (k + 1) * 2 + j * 2 + 1, none⟩ = some (.string vsy) ∧ W.cell? ⟨g, (k + 1) * 2 + (j + 1) * 2, none⟩ = some (.string sx) ∧ W.cell? ⟨g, (k + 1) * 2 + (j + 1) * 2 + 1, none⟩ = some (.string vsx) ∧ Hid (Mw w0 W g (E ++ D.drop E.length)) by
                  have h2 := h.two hv2 hu2
                  unfold TwoM at h2
                  rw [show (k + 1 + j) * 2 = (k + 1) * 2 + j * 2 by omega, show (k + 1 + j + 1) * 2 = (k + 1) * 2 + (j + 1) * 2 by omega] at h2
                  exact h2))
                obtain ⟨a0, a1, b0, b1, _⟩ := HTV.out _ HRV.out
                clear hv2 hu2
                by_cases hoe : sx = sy
                · have HC3 := hid (HSM.out hoe)
                  rw [decide_eq_true hoe] at HCN
                  clear hoe
                  go_wp2_with fail
                  go_region_held (fun W => W.cell? ⟨g, (k + 1) * 2 + j * 2, none⟩ = some (.string sy) ∧ W.cell? ⟨g, (k + 1) * 2 + j * 2 + 1, none⟩ = some (.string vsy) ∧ W.cell? ⟨g, (k + 1) * 2 + (j + 1) * 2, none⟩ = some (.string sx) ∧ W.cell? ⟨g, (k + 1) * 2 + (j + 1) * 2 + 1, none⟩ = some (.string vsx) ∧ Hid (Mw w0 W g (E ++ D.drop E.length))) (first | exact HTV.out _ HRb.out | exact HTV.out _ (HRV.out.below (below_drawn _ 1))) (first
                  | (go_at_call 98; refine (HCN.out _).mono ?_; rintro e w' ⟨rfl, hb⟩; have HRb := hid ((HRV.out.below (below_drawn _ 1)).below hb); clear hb))
                  all_goals
                    go_wp2_with fail
                    go_roundw
                    case rel => exact ⟨j + 1, E, rfl, by go_num, by omega, by omega, HC3, HRb⟩
                    case measure => simp [intOf]; omega
                · have HC3 := hid (HMO.out hoe)
                  rw [decide_eq_false hoe] at HCN
                  clear hoe
                  go_wp2_with fail
                  go_region_held (fun W => W.cell? ⟨g, (k + 1) * 2 + j * 2, none⟩ = some (.string sy) ∧ W.cell? ⟨g, (k + 1) * 2 + j * 2 + 1, none⟩ = some (.string vsy) ∧ W.cell? ⟨g, (k + 1) * 2 + (j + 1) * 2, none⟩ = some (.string sx) ∧ W.cell? ⟨g, (k + 1) * 2 + (j + 1) * 2 + 1, none⟩ = some (.string vsx) ∧ Hid (Mw w0 W g (E ++ D.drop E.length))) (first | exact HTV.out _ HRb.out | exact HTV.out _ (HRV.out.below (below_drawn _ 1))) (first
                  | (go_at_call 98; refine (HCN.out _).mono ?_; rintro e w' ⟨rfl, hb⟩; have HRb := hid ((HRV.out.below (below_drawn _ 1)).below hb); clear hb))
                  all_goals
                    clear a0 a1 b0 b1
                    obtain ⟨a0, a1, b0, b1, _⟩ := HTV.out _ HRb.out
                    have hfz := HRb.out.fz
                    have e1 : (0 : Int) ≤ (E.length : Int) := by omega
                    have e2 : (E.length : Int) < (D.length : Int) := by omega
                    have hEl : E.length < (E ++ D.drop E.length).length := by simp; omega
                    obtain ⟨z0, z1⟩ := HRb.out.at (j := E.length) (r := (E ++ D.drop E.length)[E.length]) (List.getElem?_eq_getElem hEl)
                    have HW4 := hid (show Mw w0 ((w'.setCell ⟨g, E.length * 2, none⟩ (.string sx)).setCell ⟨g, E.length * 2 + 1, none⟩ (.string vsx)) g ((E ++ [((sx, vsx) : Bm)]) ++ D.drop (E ++ [((sx, vsx) : Bm)]).length) by
                      have h := HRb.out.setAt E.length hEl (sx, vsx)
                      have e : (E ++ D.drop E.length).set E.length (sx, vsx) = (E ++ [((sx, vsx) : Bm)]) ++ D.drop (E ++ [((sx, vsx) : Bm)]).length := by
                        rw [List.set_append_right _ _ (Nat.le_refl _), Nat.sub_self, List.drop_eq_getElem_cons (show E.length < D.length by omega), List.set_cons_zero, List.length_append]
                        simp
                      rw [e] at h
                      exact h)
                    go_wp2_with fail
                    go_roundw
                    case rel => exact ⟨j + 1, E ++ [(sx, vsx)], by simp, by go_num, by omega, by simp; omega, HC3, HW4⟩
                    case measure => simp [intOf]; omega
              · have hje : k + 1 + (j + 1) = D.length := by omega
                have g2 : ¬ (j : Int) + 1 < ((D.length - (k + 1) : Nat) : Int) := by omega
                have hRl : (E ++ D.drop E.length).length = D.length := by simp; omega
                obtain ⟨zs, hcl⟩ := run_clear_mw HRV.out E.length (by omega)
                rw [hRl] at hcl
                have HEN := hid (show CpM D D.length E by have := HCE.out; rw [show k + 1 + j + 1 = D.length by omega] at this; exact this)
                have HRE := hid (show Mw w0 (wr.setCells g (E.length * 2) zs) g E by
                  have := HRV.out.cleared E.length (by omega) zs
                  rw [List.take_left'  rfl] at this
                  exact this)
                have c1 : (E.length : Int) ≤ (D.length : Int) := by omega
                have c2 : (E.length : Int) < (cap : Int) := by omega
                have c3 : (E.length : Int) ≤ (cap : Int) := by omega
                have c4 : (0 : Int) ≤ (E.length : Int) := by omega
                have c5 : E.length < cap := by omega
                go_wp2_with fail
                go_ret
                exact ⟨E, rfl, by omega, HEN.out.jn HRT.out, HRE.out⟩
        · have HC2 := hid (HPL.out hod)
          rw [decide_eq_false hod] at HCM
          clear hod
          go_wp2_with fail
          go_region_held (fun W => W.cell? ⟨g, k * 2, none⟩ = some (.string ty) ∧ W.cell? ⟨g, k * 2 + 1, none⟩ = some (.string vy) ∧ W.cell? ⟨g, (k + 1) * 2, none⟩ = some (.string tx) ∧ W.cell? ⟨g, (k + 1) * 2 + 1, none⟩ = some (.string vx) ∧ Hid (Mw w0 W g D)) (first | exact HTW.out _ HRa.out | exact HTW.out _ (HRW.out.below (below_drawn _ 1))) (first
            | (go_at_call 98; refine (HCM.out _).mono ?_; rintro e w' ⟨rfl, hb⟩; have HRa := hid ((HRW.out.below (below_drawn _ 1)).below hb); clear hb))
          all_goals
            go_wp2_with fail
            go_roundw
            case rel => exact ⟨k + 1, by omega, by go_num, HC2, HRa⟩
            case measure => simp [intOf]; omega
      · obtain hke : k + 1 = D.length := by omega
        have HFI := hid (show CpM D D.length D by have := HCP.out; rw [hke, List.take_length] at this; exact this)
        have hi2 : ¬ (k : Int) + 1 < (D.length : Int) := by omega
        go_wp2_with fail
        go_ret
        exact ⟨D, rfl, Nat.le_refl _, HFI.out.jn HRT.out, HRW.out⟩
end Ve
end Go.Proofs.YtpafkniapacfdaaGreatDoor


namespace Go.Proofs.YtpafkniapacfdaaGreatDoor
open Go.RowKit
namespace Ve
theorem errAt_nilS {W : World} {A : Nat → Addr} {x : Value} {o : Option Nat} (h : ErrAt W A x 0 o) : x = .nilIface := by
  cases o with
  | none => exact h
  | some i => exact absurd rfl h.1
theorem errAt_ifaceS {W : World} {A : Nat → Addr} {x : Value} {c : Nat} {o : Option Nat} (h : ErrAt W A x c o) (hc : c ≠ 0) : ∃ T a, x = .iface T (.pointer (some a)) := by
  cases o with
  | none => exact ⟨_, _, h.trans (errA_if A hc)⟩
  | some i =>
    obtain ⟨_, b, e, _⟩ := h
    exact ⟨_, _, e⟩
theorem lines_bd {X : List Ln} (hs : shortN X) (hn : ∀ x, x ∈ X → x.2 ≤ 4294967295) (k : Nat) : ((X.take k).flatMap lineT).length ≤ 2000020 * X.length := by
  have h1 := flat_bd lineT 2000020 (X.take k) fun x hx => lineT_len (hs x (List.mem_of_mem_take hx)) (hn x (List.mem_of_mem_take hx))
  have h2 : (X.take k).length ≤ X.length := by simp; omega
  exact Nat.le_trans h1 (Nat.mul_le_mul_left _ h2)
set_option maxRecDepth 100000 in
set_option maxHeartbeats 2000000 in
theorem stext_any (X : List Ln) (v : Value) (A : Nat → Addr) (m : Int) (w : World) (hX : X.length ≤ 1000000) (hs : shortN X) (hn : ∀ x, x ∈ X → x.2 ≤ 4294967295) (S : Te w A m) (htab : Lib.TabIs Tryz.prog w powName .u64 Lib.pow10Tab) (hv : LnAt .u32 w v X) :
    Calls Tryz.prog 13 #[v] w fun e w' => ∃ y, e = .returned (.tuple #[.string (bt (txT X)), y]) ∧ ErrAt w' A y (txF X).1 (txF X).2 ∧ Below w.heap.size w w' := by
  have HB0 := hid ((Below.refl w.heap.size w).alloc (Nat.le_refl _) (.cells #[v] 34))
  have hbx : (w.alloc (.cells #[v] 34)).cell? ⟨w.heap.size, 0, none⟩ = some v := by simp
  have HFI := hid (firstL_any 34 #[.pointer (some ⟨w.heap.size, 0, none⟩)] (txE X) X v A (w.alloc (.cells #[v] 34)) (enters_of Tryz.func34 (by kernel_rfl) rfl) hX (hv.below HB0.out)
    (fun i h W hW => textK_any X w.heap.size v A m W hX hs (S.below (HB0.out.trans (hW.mono HB0.out.size))) (cell_below hW hbx) (hv.below (HB0.out.trans (hW.mono HB0.out.size))) i h))
  have HTX := hid (show txF X = (codeE (txE X) X.length, fstE (txE X) X.length) from rfl)
  have HTT := hid (show txT X = if (txF X).1 = 0 then X.flatMap lineT else [] from rfl)
  rw [show codeE (txE X) X.length = (txF X).1 from rfl, show fstE (txE X) X.length = (txF X).2 from rfl] at HFI
  clear HTX
  generalize txF X = r at *
  generalize txT X = T at *
  obtain ⟨c, o⟩ := r
  dsimp only at HFI HTT ⊢
  have HLN := hid (fun W (h : Below w.heap.size w W) => hv.below h)
  have HTB := hid (fun W (h : Below w.heap.size w W) => tab_below htab h)
  have HSN := hid hs
  have HNN := hid hn
  have HLB := hid (lines_bd hs hn)
  obtain ⟨a, cp, rfl, -⟩ := id hv
  clear hv htab hs hn S
  by_cases hc : c = 0
  · rw [if_pos hc] at HTT
    subst hc
    go_enter Tryz.func13, Tryz.ntmps13
    go_wp2_with fail
    refine HFI.out.mono ?_
    rintro e w1 ⟨u, rfl, hu, hb⟩
    obtain rfl := errAt_nilS hu
    have HU := hid (show o = none by
      cases o with
      | none => rfl
      | some i => exact absurd rfl hu.1)
    have HB1 := hid (HB0.out.trans (hb.mono HB0.out.size))
    have c0 := cell_below hb hbx
    clear hb hu hbx
    have HI := hid (Lib.fresh_isBuilder 79 5 w1)
    have HBb := hid ((Below.refl w1.heap.size w1).alloc (Nat.le_refl _) (.cells #[.pointer none, .slice none 0 0] 79))
    have C0 := hid c0
    have c1 := cell_below HBb.out c0
    go_wp2_with fail
    go_loopw [16] (fun i wr => ∃ k : Nat, k ≤ X.length ∧ i = .int .i64 k ∧ Hid (Below w1.heap.size w1 wr) ∧ Hid (Lib.IsBuilder 79 5 w1.heap.size w1.heap.size (Lib.byteCells ((X.take k).flatMap lineT)) wr)) (fun i _ => X.length - (intOf i).toNat)
    case atStart => exact ⟨0, Nat.zero_le _, rfl, HBb, hid (by rw [List.take_zero, List.flatMap_nil]; exact HI.out)⟩
    case round =>
      clear c0 c1
      obtain ⟨k, hk, rfl, HBk, HIk⟩ := hrel
      by_cases hlk : k < X.length
      · obtain ⟨xb, xo, hxa, y0, y1, y2⟩ := (HLN.out _ (HB1.out.trans (HBk.out.mono HB1.out.size))).cells hlk
        subst hxa
        have hkI := ix_lt hlk
        have hk0 := ix_pos k
        have HLK := hid hlk
        have hz := HSN.out X[k] (List.getElem_mem hlk)
        have hnn := HNN.out X[k] (List.getElem_mem hlk)
        have HFN := hid (flat_next lineT hlk)
        have HBD := hid (HLB.out k)
        generalize X[k] = x at *
        obtain ⟨⟨x1, x2⟩, xn⟩ := x
        dsimp only at y0 y1 y2 hz hnn
        have HML := hid (lineT_len (x := ((x1, x2), xn)) hz hnn)
        have HBa := hid (HBk.out.alloc HBk.out.size (.cells #[.string x1, .string x2, .int .u32 (xn : Nat)] 44))
        have HIa := hid (isB_belowS HIk.out ((Below.refl wr.heap.size wr).alloc (Nat.le_refl _) (.cells #[.string x1, .string x2, .int .u32 (xn : Nat)] 44)))
        have HL := hid (ltext_any x1 x2 xn _ hz.1 hz.2 hnn (HTB.out _ (HB1.out.trans (HBa.out.mono HB1.out.size))))
        have hsz : (bt (lineT ((x1, x2), xn))).size ≤ 2000020 := by rw [← len_eq, bt_list]; exact HML.out
        have HDD := hid (bt_list (lineT ((x1, x2), xn)))
        clear hlk hz hnn
        generalize bt (lineT ((x1, x2), xn)) = D at *
        go_wp2_with fail
        refine HL.out.mono ?_
        rintro e w4 ⟨rfl, hb⟩
        have HB4 := hid (HBa.out.trans (hb.mono HBa.out.size))
        have HI4 := hid (isB_belowS HIa.out hb)
        clear hb
        go_wp2_with fail
        refine (write_any w1.heap.size w1.heap.size _ _ _ HI4.out (by have := HBD.out; rw [bytes_lenS]; have h9 : 2000020 * X.length ≤ 2000020 * 1000000 := Nat.mul_le_mul_left _ hX; omega) HB4.out.size).mono ?_
        rintro e w5 ⟨rfl, hI, hb⟩
        have HB5 := hid (HB4.out.trans hb)
        have HI5 := hid (show Lib.IsBuilder 79 5 w1.heap.size w1.heap.size (Lib.byteCells ((X.take (k + 1)).flatMap lineT)) w5 by
          rw [HFN.out, bytes_appS, ← HDD.out, ← strCellsS]; exact Or.inr hI)
        clear hI hb
        go_wp2_with fail
        go_roundw
        case rel => first | exact ⟨k + 1, HLK.out, nx_idx HLK.out (by omega), HB5, HI5⟩ | exact ⟨k + 1, HLK.out, nr_idx k, HB5, HI5⟩
        case measure => first | exact nx_meas HLK.out (by omega) | exact nr_meas HLK.out
      · have hkI := ix_nlt hlk
        have HTK := hid (show X.take k = X from List.take_of_length_le (by omega))
        rw [HTK.out] at HIk
        go_wp2_with fail
        refine (Tryz.Builder_String_any w1.heap.size w1.heap.size _ wr HIk.out HBk.out.size).mono ?_
        rintro e w5 ⟨rfl, hb⟩
        have HB5 := hid (HB1.out.trans ((HBk.out.trans hb).mono HB1.out.size))
        clear hb
        go_wp2_with fail
        go_ret2
        exact ⟨_, by rw [HTT.out]; rfl, by rw [HU.out]; exact rfl, HB5.out⟩
  · rw [if_neg hc] at HTT
    have HC := hid hc
    clear hc
    go_enter Tryz.func13, Tryz.ntmps13
    go_wp2_with fail
    refine HFI.out.mono ?_
    rintro e w1 ⟨u, rfl, hu, hb⟩
    obtain ⟨T', a', rfl⟩ := errAt_ifaceS hu HC.out
    have HU := hid hu
    have HB1 := hid (HB0.out.trans (hb.mono HB0.out.size))
    clear hb hu hbx
    go_wp2_with fail
    go_ret2
    exact ⟨_, by rw [HTT.out]; rfl, HU.out, HB1.out⟩
end Ve
end Go.Proofs.YtpafkniapacfdaaGreatDoor


namespace Go.Proofs.YtpafkniapacfdaaGreatDoor
open Go.RowKit Go.Maps Go.Sort Go.Lib
namespace Ve
end Ve
end Go.Proofs.YtpafkniapacfdaaGreatDoor
