
import Derived.Test.YtpafkniapacfdaaGreatDoorSq28
import Derived.Test.YtpafkniapacfdaaGreatDoorSq29
import Derived.Test.YtpafkniapacfdaaGreatDoorSq2
import Derived.Deep.RegionHeld
import Derived.Test.YtpafkniapacfdaaGreatDoorSq24
import Derived.Test.YtpafkniapacfdaaGreatDoorSq8
import Derived.Test.YtpafkniapacfdaaGreatDoorSq18
import Derived.Deep.AppendLies
namespace Go.Proofs.YtpafkniapacfdaaGreatDoor
open Go.RowKit Go.Maps
namespace Ve
def chkG (Q : List Raw) (L : List Ent) (roots : List Bm) : Nat × Option Nat := if (chk Q L).1 ≠ 0 then chk Q L else (codeE (nonE Q roots) roots.length, fstE (nonE Q roots) roots.length)
theorem chkG_bad {Q : List Raw} {L : List Ent} {roots : List Bm} (h : (chk Q L).1 ≠ 0) : chkG Q L roots = chk Q L := by unfold chkG; rw [if_pos h]
theorem chkG_ok {Q : List Raw} {L : List Ent} {roots : List Bm} (h : (chk Q L).1 = 0) : chkG Q L roots = (codeE (nonE Q roots) roots.length, fstE (nonE Q roots) roots.length) := by unfold chkG; rw [if_neg (by simp [h])]
theorem codeE_all {E : Nat → Nat} {n : Nat} (h : codeE E n = 0) : ∀ j, j < n → E j = 0 := by
  cases h1 : fstE E n with
  | none => exact fstE_of_none h1
  | some i =>
    rw [codeE_some h1] at h
    exact absurd h (fstE_of_some h1).2.1
theorem nonE_found {w : World} {v : Value} {Q : List Raw} {L : List Ent} (I : Ixs w v Q L) {R : List Bm} (h : codeE (nonE Q R) R.length = 0) : ∀ m, m ∈ R → m ∈ univ L := fun m hm => by
  obtain ⟨j, hj, rfl⟩ := List.getElem_of_mem hm
  have h1 := codeE_all h j hj
  rw [nonE_at hj] at h1
  unfold nonW at h1
  refine (found_iff I _).2 ?_
  rcases idx_nat (isM R[j]) Q with h2 | h2
  · rw [h2] at h1; simp at h1
  · exact h2
theorem chk_reqs0 {w : World} {v : Value} {Q : List Raw} {L : List Ent} (I : Ixs w v Q L) (h : (chk Q L).1 = 0) : ∀ m, m ∈ univ L → ∀ x, x ∈ reqQ Q L m → x ∈ univ L := fun m hm x hx => by
  have h100 : ¬ 100 < L.length := by have := (chk_each0 h).1; omega
  cases hf : fstE (entE L) L.length with
  | some i => rw [chk_each h100 hf] at h; exact absurd h (fstE_of_some hf).2.1
  | none =>
    rw [chk_reqs h100 hf] at h
    obtain ⟨k, hk⟩ := (found_iff I m).1 hm
    obtain ⟨hkq, -⟩ := idx_is hk
    have hkl : k < L.length := by rw [← I.ln]; exact hkq
    rw [reqQ_at hk hkl] at hx
    have := codeE_all h k hkl
    rw [reqE2_at hkl] at this
    exact nonE_found I this x hx
set_option maxRecDepth 100000 in
set_option maxHeartbeats 2000000 in
theorem gcheck_any (Q : List Raw) (L : List Ent) (roots : List Bm) (v rv : Value) (A : Nat → Addr) (m : Int) (w : World) (hn : L.length ≤ 1000) (hrn : roots.length ≤ 1000000) (sh : ∀ e, e ∈ L → ShE e) (S : Te w A m) (I : Ixs w v Q L) (hr : MsAt w rv roots) :
    Calls Tryz.prog 92 #[v, rv] w fun e w' => ∃ x, e = .returned x ∧ ErrAt w' A x (chkG Q L roots).1 (chkG Q L roots).2 ∧ Below w.heap.size w w' := by
  have HCK := hid (icheck_any Q L v A m w (by omega) sh S I)
  have HCM := hid (fun W (h : Below w.heap.size w W) => cmods_any Q roots v rv A m W (by rw [I.ln]; omega) hrn (S.below h) (I.es.below h) (hr.below h))
  obtain ⟨a, c, hv, -⟩ := id I.es
  subst hv
  obtain ⟨ra, rc, hrv, -⟩ := id hr
  subst hrv
  clear S I hr sh
  go_enter Tryz.func92, Tryz.ntmps92
  go_wp2_with fail
  refine HCK.out.mono ?_
  rintro e w1 ⟨x, rfl, he, hb⟩
  have HE := hid he
  have HB := hid hb
  clear hb
  rcases he.kind.symm with ⟨hc0, T, xa, rfl⟩ | ⟨hc0, rfl⟩
  · have HX := hid (chkG_bad (roots := roots) hc0)
    clear he hc0
    go_wp2_with fail
    go_ret
    exact ⟨_, rfl, by rw [HX.out]; exact HE.out, HB.out⟩
  · have HX := hid (chkG_ok (roots := roots) hc0)
    have HC2 := hid (HCM.out w1 HB.out)
    clear he hc0 HCM
    go_wp2_with fail
    refine HC2.out.mono ?_
    rintro e w2 ⟨y, rfl, he, hb⟩
    have HE2 := hid he
    have HB2 := hid (HB.out.trans (hb.mono HB.out.size))
    clear he hb
    go_wp2_with fail
    go_ret
    exact ⟨_, rfl, by rw [HX.out]; exact HE2.out, HB2.out⟩
def goQ (T : By) (Q : List Raw) : List Raw := Q.filter fun r => cameB T r.1
def goM (T : By) (Q : List Raw) : List Bm := (goQ T Q).map fun r => r.1
set_option maxRecDepth 100000 in
set_option maxHeartbeats 2000000 in
theorem reached_some (Q : List Raw) (L : List Ent) (roots : List Bm) (v rv : Value) (A : Nat → Addr) (m : Int) (w : World) (hn : L.length ≤ 1000) (hrn : roots.length ≤ 1000000) (sh : ∀ e, e ∈ L → ShE e) (S : Te w A m) (I : Ixs w v Q L) (hr : MsAt w rv roots) (h0 : (chkG Q L roots).1 = 0) :
    Calls Tryz.prog 57 #[v, rv] w fun e w' => ∃ u, e = .returned (.tuple #[u, .nilIface]) ∧ ∃ T, Came (reqQ Q L) (univ L) roots T ∧ w'.ownsRow w.heap.size 55 5 u (goQ T Q).length (flatR (goQ T Q)) ∧ Below w.heap.size w w' := by
  have hc0 : (chk Q L).1 = 0 := by
    by_cases hc : (chk Q L).1 = 0
    · exact hc
    · rw [chkG_bad hc] at h0; exact absurd h0 hc
  have hru : ∀ m, m ∈ roots → m ∈ univ L := by rw [chkG_ok hc0] at h0; exact nonE_found I h0
  have HCK := hid (gcheck_any Q L roots v rv A m w hn hrn sh S I hr)
  have hz : ∀ m, m ∈ univ L → m.1.size ≤ maxLen ∧ m.2.size ≤ maxLen := fun m hm => by
    obtain ⟨e, he, rfl⟩ := List.mem_map.1 hm
    have := sh e he
    exact ⟨by have := this.p; unfold maxLen; omega, by have := this.v; unfold maxLen; omega⟩
  have HWK := hid (fun W (h : Below w.heap.size w W) => walk_any Q L roots v rv W hn hrn (I.below h) (hr.below h) hz (fun e he => (sh e he).rn) hru (chk_reqs0 I hc0))
  obtain ⟨a, c, hv, -, hs, hcc⟩ := id I.es
  subst hv
  obtain ⟨ra, rc, hrv, -⟩ := id hr
  subst hrv
  obtain ⟨i0, hi0, hz0, hz1, hz2⟩ := info_parts infoEnt
  have HH0 := hid h0
  have HC := hid hcc
  have HSL := hid hs
  have HI := hid I
  have HZ := hid hz
  clear S I hr sh h0 hc0 hru hz hs hcc
  go_enter Tryz.func57, Tryz.ntmps57
  go_wp2_with fail
  refine HCK.out.mono ?_
  rintro e w1 ⟨x, rfl, he, hb⟩
  have HB := hid hb
  have hx : x = .nilIface := by
    rcases he.kind with ⟨_, h⟩ | ⟨h, _⟩
    · exact h
    · exact absurd HH0.out h
  subst hx
  clear hb he HCK
  go_wp2_with fail
  refine (HWK.out w1 HB.out).mono ?_
  rintro e w2 ⟨mb, rfl, T, hby, hsz, hcm, hb⟩
  have HBY := hid hby
  have HSZ := hid hsz
  have HCM := hid hcm
  have HB2 := hid (HB.out.trans (hb.mono HB.out.size))
  clear hby hsz hcm hb HWK
  go_wp2_with fail
  go_loopw [8, 22] (fun ov i wr => ∃ k : Nat, k ≤ Q.length ∧ i = .int .i64 k ∧ Hid (wr.ownsRow w2.heap.size 55 5 ov (goQ T (Q.take k)).length (flatR (goQ T (Q.take k)))) ∧ Hid (Below w2.heap.size w2 wr)) (fun _ i _ => Q.length - (intOf i).toNat)
  case atStart => exact ⟨0, Nat.zero_le _, rfl, hid (World.ownsRow_nil _ _ _ _), hid (Below.refl _ _)⟩
  case round =>
    obtain ⟨k, hk, rfl, HO, HBr⟩ := hrel
    by_cases hlt : k < Q.length
    · have HBw := hid (HB2.out.trans (HBr.out.mono HB2.out.size))
      obtain ⟨eb, eo, ha, hce⟩ := HC.out (by intro h; rw [h] at hlt; simp at hlt)
      subst ha
      obtain ⟨y0, y1, y2, y3, y4⟩ := hce k hlt
      have x0 := cell_below HBw.out y0
      have x1 := cell_below HBw.out y1
      have x2 := cell_below HBw.out y2
      have x3 := cell_below HBw.out y3
      have x4 := cell_below HBw.out y4
      have hsl := HSL.out Q[k] (List.getElem_mem hlt)
      have hkI : (k : Int) < (Q.length : Int) := by omega
      have HLT := hid hlt
      have HQL := hid (show Q.length ≤ 1000000 by have := HI.out.ln; omega)
      have HY := hid (fun h => filter_yes hlt h (P := fun r => cameB T r.1))
      have HN := hid (fun h => filter_no hlt h (P := fun r => cameB T r.1))
      have HQZ := hid (show Q[k].1.1.size ≤ maxLen ∧ Q[k].1.2.size ≤ maxLen by
        obtain ⟨h1, h2⟩ := ixs_get HI.out hlt
        exact Eq.mpr (congrArg (fun m : Bm => m.1.size ≤ maxLen ∧ m.2.size ≤ maxLen) h2) (HZ.out _ (List.mem_map.2 ⟨L[k], List.getElem_mem h1, rfl⟩)))
      have HLN := hid (show (goQ T (Q.take k)).length ≤ 1000 from Nat.le_trans (List.length_filter_le _ _) (by rw [List.length_take]; have := HI.out.ln; omega))
      clear y0 y1 y2 y3 y4 hce
      generalize Q[k] = r at *
      obtain ⟨⟨p, q⟩, rv, pv, bk⟩ := r
      obtain ⟨⟨ra2, rn2, rc2, hrv⟩, pa, pn, pc, hpv⟩ := hsl
      simp only at hrv hpv
      subst hrv
      subst hpv
      have HBa := hid ((Below.refl wr.heap.size wr).alloc (Nat.le_refl _) (.cells #[.string p, .string q, .slice ra2 rn2 rc2, .slice pa pn pc, .bool bk] 55))
      have HBB := hid (HBr.out.trans (HBa.out.mono HBr.out.size))
      have HCA := hid (came_any mb T (p, q) _ HQZ.out HSZ.out (HBY.out.below HBB.out))
      have HOa := hid (HO.out.alloc (.cells #[.string p, .string q, .slice ra2 rn2 rc2, .slice pa pn pc, .bool bk] 55))
      clear hlt
      cases hp : cameB T (p, q) with
      | false =>
        rw [hp] at HCA
        have HN2 := hid (HN.out hp)
        clear hp
        go_wp2_with fail
        refine HCA.out.mono ?_
        rintro e w3 ⟨rfl, hb⟩
        have HB3 := hid (HBB.out.trans (hb.mono HBB.out.size))
        have HO3 := hid (owns_below HOa.out hb)
        clear hb
        go_wp2_with fail
        go_roundw
        case rel => first | exact ⟨k + 1, HLT.out, nr_idx k, by unfold goQ; rw [HN2.out]; exact HO3, HB3⟩ | exact ⟨k + 1, HLT.out, nx_idx HLT.out HQL.out, by unfold goQ; rw [HN2.out]; exact HO3, HB3⟩
        case measure => first | exact nr_meas HLT.out | exact nx_meas HLT.out HQL.out
      | true =>
        rw [hp] at HCA
        have HY2 := hid (HY.out hp)
        clear hp
        go_wp2_with fail
        refine HCA.out.mono ?_
        rintro e w3 ⟨rfl, hb⟩
        have HB3 := hid (HBB.out.trans (hb.mono HBB.out.size))
        have HO3 := hid (owns_below HOa.out hb)
        have HE1 := hid (show w3.heap[wr.heap.size]? = some (.cells #[.string p, .string q, .slice ra2 rn2 rc2, .slice pa pn pc, .bool bk] 55 (0, 0)) by rw [hb.block _ (by simp)]; exact heap_alloc_new wr _)
        have z0 : w3.cell? ⟨wr.heap.size, 0, none⟩ = some (.string p) := by rw [Lib.cell_of_heap HE1.out]; rfl
        have z1 : w3.cell? ⟨wr.heap.size, 1, none⟩ = some (.string q) := by rw [Lib.cell_of_heap HE1.out]; rfl
        have z2 : w3.cell? ⟨wr.heap.size, 2, none⟩ = some (.slice ra2 rn2 rc2) := by rw [Lib.cell_of_heap HE1.out]; rfl
        have z3 : w3.cell? ⟨wr.heap.size, 3, none⟩ = some (.slice pa pn pc) := by rw [Lib.cell_of_heap HE1.out]; rfl
        have z4 : w3.cell? ⟨wr.heap.size, 4, none⟩ = some (.bool bk) := by rw [Lib.cell_of_heap HE1.out]; rfl
        clear hb x0 x1 x2 x3 x4
        go_wp2_with (at_builtin; refine wpList_append_own _ rfl _ _ 22 rfl w2.heap.size 55 i0 _ 5 88 Tryz.underlying22 hi0 hz0 hz1 hz2 rfl (by decide) _ _ _ rfl (HO3.out.alloc _) ⟨w3.heap.size, 0, none⟩ 1 1 [.string p, .string q, .slice ra2 rn2 rc2, .slice pa pn pc, .bool bk] rfl rfl ?c1 ?c2 ?c3 ?c4 ?c5 ?_)
        case c1 => exact World.news_of_block (cs := #[.string p, .string q, .slice ra2 rn2 rc2, .slice pa pn pc, .bool bk]) (t := 55) (fr := (0, 0)) (heap_alloc_new w3 _)
        case c2 =>
          intro u hu
          simp at hu
          rcases hu with rfl | rfl | rfl | rfl | rfl <;> rfl
        case c3 => have := HLN.out; unfold maxLen; omega
        case c4 => have := HLN.out; omega
        case c5 => have := HB3.out.size; simp; omega
        intro v' w4 hown hgrow _
        have HR3 := hid (rel_app5 HB3.out.size HB3.out HO3.out (Below.refl _ _) hgrow)
        have HO4 := hid hown
        clear hown hgrow z0 z1 z2 z3 z4
        go_wp2_with fail
        go_roundw
        case rel => first | exact ⟨k + 1, HLT.out, nr_idx k, hid (own_nextR (x := ((p, q), .slice ra2 rn2 rc2, .slice pa pn pc, bk)) HO4.out HY2.out), HR3⟩ | exact ⟨k + 1, HLT.out, nx_idx HLT.out HQL.out, hid (own_nextR (x := ((p, q), .slice ra2 rn2 rc2, .slice pa pn pc, bk)) HO4.out HY2.out), HR3⟩
        case measure => first | exact nr_meas HLT.out | exact nx_meas HLT.out HQL.out
    · have HTR := hid (show Q.take k = Q from List.take_of_length_le (by omega))
      rw [HTR.out] at HO
      have hkI : ¬ (k : Int) < (Q.length : Int) := by omega
      obtain ⟨oa, oc, hov⟩ := own_slN HO.out
      subst hov
      clear hlt
      go_wp2_with fail
      go_ret2
      exact ⟨_, rfl, T, HCM.out, own_baseN HO.out HB2.out.size, HB2.out.trans (HBr.out.mono HB2.out.size)⟩
end Ve
end Go.Proofs.YtpafkniapacfdaaGreatDoor


namespace Go.Proofs.YtpafkniapacfdaaGreatDoor
open Go.RowKit Go.Maps
namespace Ve
end Ve
end Go.Proofs.YtpafkniapacfdaaGreatDoor


namespace Go.Proofs.YtpafkniapacfdaaGreatDoor
open Go.RowKit
namespace Ve
theorem grow_of_be {W w' : World} (h : Below W.heap.size W w') (hd : W.drawn ≤ w'.drawn) : ∃ q os', w' = Go.Sort.grow (W.drewN q) os' := by
  refine ⟨w'.drawn - W.drawn, w'.heap.extract W.heap.size w'.heap.size, ?_⟩
  have hh : w'.heap = W.heap ++ w'.heap.extract W.heap.size w'.heap.size := by
    apply Array.ext_getElem?
    intro i
    by_cases hi : i < W.heap.size
    · rw [Array.getElem?_append_left hi, h.block i hi]
    · rw [Array.getElem?_append_right (by omega), Array.getElem?_extract]
      have hs := h.size
      by_cases h2 : i < w'.heap.size
      · rw [if_pos (by omega)]
        congr 1
        omega
      · rw [if_neg (by omega)]
        exact Array.getElem?_eq_none (by omega)
  obtain ⟨a, b, c, d, e⟩ := w'
  obtain ⟨a', b', c', d', e'⟩ := W
  have h1 := h.os
  have h2 := h.tape
  have h3 := h.output
  simp only at h1 h2 h3 hh hd
  subst h1 h2 h3
  simp only [Go.Sort.grow, World.drewN, World.mk.injEq, true_and, and_true]
  exact ⟨hh, by omega⟩
set_option maxHeartbeats 2000000 in
theorem nf_any (a b : Bm) (A : Nat → Addr) (ml : Int) (w : World) (ha : a.2.size < 999999) (hb : b.2.size < 999999) (S : Te w A ml) :
    Calls Tryz.prog 96 #[.agg #[.string a.1, .string a.2], .agg #[.string b.1, .string b.2]] w fun e w' => e = .returned (.int .i64 (nfC a b)) ∧ Below w.heap.size w w' := by
  obtain ⟨p, v⟩ := a
  obtain ⟨q, u⟩ := b
  simp only at ha hb
  have HB0 := hid (((Below.refl w.heap.size w).alloc (Nat.le_refl _) (.cells #[.string p, .string v] 42)).alloc (by simp) (.cells #[.string q, .string u] 42))
  have HS := hid S
  by_cases h : p = q
  · subst h
    have he := str_refl p
    have HX := hid (show nfC (p, v) (p, u) = if mAhead (p, u) (p, v) then -1 else if mAhead (p, v) (p, u) then 1 else 0 by unfold nfC; rw [if_pos rfl])
    have H1 := hid (fun W (SW : Te W A ml) => ahead_any p u p v A ml W hb ha SW)
    have H2 := hid (fun W (SW : Te W A ml) => ahead_any p v p u A ml W ha hb SW)
    have e1 : aheadB p.data.toList u.data.toList p.data.toList v.data.toList = mAhead (p, u) (p, v) := rfl
    have e2 : aheadB p.data.toList v.data.toList p.data.toList u.data.toList = mAhead (p, v) (p, u) := rfl
    rw [e1] at H1
    rw [e2] at H2
    generalize nfC (p, v) (p, u) = r at *
    clear S e1 e2
    have HD := hid (fun W (hW : Below ((w.alloc (.cells #[.string p, .string v] 42)).alloc (.cells #[.string p, .string u] 42)).heap.size ((w.alloc (.cells #[.string p, .string v] 42)).alloc (.cells #[.string p, .string u] 42)) W) =>
      show W.cell? ⟨w.heap.size, 0, none⟩ = some (.string p) ∧ W.cell? ⟨w.heap.size, 1, none⟩ = some (.string v) ∧ W.cell? ⟨w.heap.size + 1, 0, none⟩ = some (.string p) ∧ W.cell? ⟨w.heap.size + 1, 1, none⟩ = some (.string u) from ⟨cell_below hW (by simp), cell_below hW (by simp), cell_below hW (by simp), cell_below hW (by simp)⟩)
    cases h1 : mAhead (p, u) (p, v)
    · rw [h1] at H1 HX
      cases h2 : mAhead (p, v) (p, u)
      · rw [h2] at H2 HX
        clear h1 h2
        go_enter Tryz.func96, Tryz.ntmps96
        go_wp2_with fail
        refine (H1.out _ (HS.out.below HB0.out)).mono ?_
        rintro e w1 ⟨rfl, hb1⟩
        obtain ⟨d0, d1, d2, d3⟩ := HD.out w1 hb1
        have HB1 := hid (HB0.out.trans (hb1.mono HB0.out.size))
        clear hb1
        go_wp2_with fail
        refine (H2.out _ (HS.out.below HB1.out)).mono ?_
        rintro e w2 ⟨rfl, hb2⟩
        have HB2 := hid (HB1.out.trans (hb2.mono HB1.out.size))
        clear hb2
        go_wp2_with fail
        go_ret
        exact ⟨by rw [HX.out]; rfl, HB2.out⟩
      · rw [h2] at H2 HX
        clear h1 h2
        go_enter Tryz.func96, Tryz.ntmps96
        go_wp2_with fail
        refine (H1.out _ (HS.out.below HB0.out)).mono ?_
        rintro e w1 ⟨rfl, hb1⟩
        obtain ⟨d0, d1, d2, d3⟩ := HD.out w1 hb1
        have HB1 := hid (HB0.out.trans (hb1.mono HB0.out.size))
        clear hb1
        go_wp2_with fail
        refine (H2.out _ (HS.out.below HB1.out)).mono ?_
        rintro e w2 ⟨rfl, hb2⟩
        have HB2 := hid (HB1.out.trans (hb2.mono HB1.out.size))
        clear hb2
        go_wp2_with fail
        go_ret
        exact ⟨by rw [HX.out]; rfl, HB2.out⟩
    · rw [h1] at H1 HX
      clear h1
      go_enter Tryz.func96, Tryz.ntmps96
      go_wp2_with fail
      refine (H1.out _ (HS.out.below HB0.out)).mono ?_
      rintro e w1 ⟨rfl, hb1⟩
      have HB1 := hid (HB0.out.trans (hb1.mono HB0.out.size))
      clear hb1
      go_wp2_with fail
      go_ret
      exact ⟨by rw [HX.out]; rfl, HB1.out⟩
  · have he := str_ne h
    have HX := hid (show nfC (p, v) (q, u) = Lib.compareBytes p.data.toList q.data.toList by unfold nfC; rw [if_neg h])
    have HC := hid (fun W => Tryz.strings_Compare p q W)
    rw [HX.out]
    clear S h
    go_enter Tryz.func96, Tryz.ntmps96
    go_wp2_with fail
    refine (HC.out _).mono ?_
    rintro e w1 ⟨rfl, rfl⟩
    go_wp2_with fail
    go_ret
    exact ⟨rfl, HB0.out⟩
theorem nf_bw (a b : Bm) (A : Nat → Addr) (ml : Int) (w : World) (ha : a.2.size < 999999) (hb : b.2.size < 999999) (S : Te w A ml) :
    Calls Tryz.prog 96 #[.agg #[.string a.1, .string a.2], .agg #[.string b.1, .string b.2]] w fun e w' => e = .returned (.int .i64 (nfC a b)) ∧ ∃ q os', w' = Go.Sort.grow (w.drewN q) os' :=
  (Mo.calls_ge (nf_any a b A ml w ha hb S) (fun _ _ h => ⟨_, h.1⟩)).mono fun _ _ ⟨⟨h1, h2⟩, h3⟩ => ⟨h1, grow_of_be h2 h3⟩
abbrev Mq := { m : Bm // Rt m }
def encJ (m : Mq) : List Value := mcells m.1
def cfM (a b : Mq) : Int := nfC a.1 b.1
theorem swoM : Go.Sort.SWO (ltOf cfM) where
  irrefl x := by
    unfold ltOf cfM
    simpa using Int.not_lt.1 (nf_irr x.2)
  trans x y z h1 h2 := by
    unfold ltOf cfM at *
    simp only [decide_eq_true_eq] at *
    exact nf_trans x.2 y.2 z.2 h1 h2
  ntrans x y z h1 h2 := by
    unfold ltOf cfM at *
    simp only [decide_eq_false_iff_not] at *
    exact nfW_not z.2 x.2 (nfW_trans z.2 y.2 x.2 (nf_not z.2 y.2 h2) (nf_not y.2 x.2 h1))
theorem encJ_len (r : Mq) : (encJ r).length = 2 := rfl
theorem sorted_belowM {w : World} {g : Nat} {α : Type} [Inhabited α] (enc : α → List Value) (m : Nat) (dk : Array α) (os : Array Obj) (B : Nat) (hB : B ≤ g) (hz : B ≤ w.heap.size) : Below B w (sortWorldK enc 2 w g 0 m dk os) := by
  refine ⟨rfl, rfl, rfl, size_sortWorldK_c enc 2 w g 0 m dk os, fun k hk => ?_⟩
  unfold sortWorldK
  rw [Go.Sort.heap_grow_old _ _ (by rw [Go.Sort.size_putRowK]; show k < w.heap.size; omega)]
  unfold Go.Sort.putRowK Go.Sort.putRow
  show (Array.modify (Go.Sort.ahead w m).heap g _)[k]? = _
  rw [Array.getElem?_modify, if_neg (by omega)]
  rfl
theorem cmpM {w0 w : World} {g : Nat} {D : List Bm} (h : Mw w0 w g D) (A : Nat → Addr) (ml : Int) (S : Te w0 A ml) (n : Nat) [Inhabited Mq] : CmpLays Tryz.prog 96 #[] encJ 2 cfM g 0 n w := by
  intro m os dk hs x y
  have hb : Below w0.heap.size w0 (sortWorldK encJ 2 w g 0 m dk os) := h.bl.trans (sorted_belowM encJ m dk os w0.heap.size h.lo h.bl.size)
  have h := nf_bw x.1 y.1 A ml (sortWorldK encJ 2 w g 0 m dk os) x.2.v y.2.v (S.below hb)
  have e : (#[.agg (encJ x).toArray, .agg (encJ y).toArray] ++ #[] : Array Value) = #[.agg #[.string x.1.1, .string x.1.2], .agg #[.string y.1.1, .string y.1.2]] := by simp [encJ, mcells]
  rw [e]
  exact h
theorem holds_mw {w0 w : World} {g : Nat} {D : List Bm} (h : Mw w0 w g D) [Inhabited Mq] (d : Array Mq) (hd : d.toList.map (·.1) = D) : Go.Sort.HoldsK encJ 2 w g 0 d := by
  have hl : d.size = D.length := by rw [← hd]; simp
  intro t ht
  rw [Go.Sort.size_flatK] at ht
  rw [Go.Sort.get_flatK _ _ _ _ ht]
  have hi : t / 2 < d.size := by omega
  have e : d[t / 2]!.1 = D[t / 2]'(by omega) := by
    rw [getElem!_pos d (t / 2) hi]
    simp [← hd]
  refine ⟨?_, by rw [Nat.zero_add]; exact h.fz t⟩
  show w.cell? ⟨g, 0 + t, none⟩ = some ((mcells d[t / 2]!.1)[t % 2]!)
  rw [e, Nat.zero_add]
  have hm : t % 2 < 2 := Nat.mod_lt _ (by omega)
  have hdm := Nat.div_add_mod t 2
  match hc : t % 2, hm with
  | 0, _ => have := h.c0 (t / 2) (by omega); rw [show t / 2 * 2 = t by omega] at this; exact this
  | 1, _ => have := h.c1 (t / 2) (by omega); rw [show t / 2 * 2 + 1 = t by omega] at this; exact this
theorem lift_mq : ∀ D : List Bm, (∀ r, r ∈ D → Rt r) → ∃ l : List Mq, l.map (·.1) = D
  | [], _ => ⟨[], rfl⟩
  | r :: R, h => by
    obtain ⟨l, e⟩ := lift_mq R (fun q hq => h q (List.mem_cons_of_mem _ hq))
    exact ⟨⟨r, h r (by simp)⟩ :: l, by simp [e]⟩
theorem sort_mw (w0 w : World) (g cap : Nat) (D : List Bm) (hD : D ≠ []) (h12 : D.length ≤ 1000000) (A : Nat → Addr) (ml : Int) (S : Te w0 A ml) (hr : ∀ r, r ∈ D → Rt r) (h : Mw w0 w g D) :
    Calls Tryz.prog 95 #[.slice (some ⟨g, 0, none⟩) D.length cap, .func (.func 96) #[] #[]] w fun e w' => e = .returned (.tuple #[]) ∧ ∃ D', D'.Perm D ∧ srtM D' ∧ Mw w0 w' g D' := by
  obtain ⟨r0, R, rfl⟩ : ∃ r R, D = r :: R := by
    cases D with
    | nil => exact absurd rfl hD
    | cons r R => exact ⟨r, R, rfl⟩
  letI : Inhabited Mq := ⟨⟨r0, hr r0 (by simp)⟩⟩
  obtain ⟨d, hd⟩ : ∃ d : Array Mq, d.toList.map (·.1) = r0 :: R := by
    obtain ⟨l, e⟩ := lift_mq (r0 :: R) hr
    exact ⟨l.toArray, by simpa using e⟩
  have hl : d.size = (r0 :: R).length := by rw [← hd]; simp
  have hH := holds_mw h d hd
  have eg : ∀ args w, (callFunc 96 args).run Tryz.prog w = .ok (.enter 96 args) w := enters_of Tryz.func96 (by kernel_rfl) rfl
  have hcon := AnyQ.slices_SortFunc Tryz.sortMods 2 Tryz.isAgg42 Tryz.sizeOf42 encJ encJ_len (fun x v hv => by
    simp only [encJ, mcells, List.mem_cons, List.not_mem_nil, or_false] at hv
    rcases hv with rfl | rfl <;> rfl) cfM swoM 96 #[] g 0 cap d w eg (cmpM h A ml S d.size) hH h.hi (by omega)
  rw [hl] at hcon
  refine Calls.mono hcon ?_
  rintro e w' ⟨he, d', n, os, hp, hs, rfl⟩
  obtain ⟨hsz, _, hperm⟩ := hp
  have hsz' : d'.size = (r0 :: R).length := hsz.trans hl
  have hHd := holdsK_sortWorldK_c encJ 2 w g 0 d d' n os hH h.hi hsz
  have hpm : d'.toList.Perm d.toList := by
    have e1 : d'.extract 0 (r0 :: R).length = d' := by rw [← hsz']; simp
    have e2 : d.extract 0 (r0 :: R).length = d := by rw [← hl]; simp
    rw [e1, e2] at hperm
    exact hperm
  have hg : ∀ j (hj : j < (d'.toList.map (·.1)).length), d'[j]! = d'[j]'(by simpa using hj) := fun j hj => getElem!_pos d' j (by simpa using hj)
  have cell : ∀ j (hj : j < (d'.toList.map (·.1)).length) c (hc : c < 2), (sortWorldK encJ 2 w g 0 n d' os).cell? ⟨g, j * 2 + c, none⟩ = some ((mcells (d'.toList.map (·.1))[j])[c]!) := by
    intro j hj c hc
    have h1 := (hHd.cell (i := j) (c := c) (by simpa using hj) hc).1
    rw [Nat.zero_add, hg j hj] at h1
    rw [h1]
    simp [encJ]
  refine ⟨he, d'.toList.map (·.1), ?_, ?_, ?_⟩
  · rw [← hd]; exact hpm.map _
  · unfold srtM
    rw [List.pairwise_iff_getElem]
    intro i j hi hj hij
    have h1 := hs i j (Nat.zero_le _) hij (by rw [← hsz']; simpa using hj)
    rw [hg i hi, hg j hj] at h1
    unfold ltOf cfM at h1
    simp only [decide_eq_false_iff_not] at h1
    simp only [List.getElem_map, Array.getElem_toList]
    exact nf_not (d'[i]'(by simpa using hi)).2 (d'[j]'(by simpa using hj)).2 h1
  · refine ⟨h.bl.trans ((sorted_belowM encJ n d' os w0.heap.size h.lo h.bl.size)), h.lo, Nat.lt_of_lt_of_le h.hi (size_sortWorldK_c encJ 2 w g 0 n d' os), fun o => ?_, fun j hj => ?_, fun j hj => ?_⟩
    · unfold sortWorldK
      rw [Go.Sort.frozen?_grow _ _ _ (by rw [Go.Sort.size_putRowK]; exact h.hi)]
      unfold Go.Sort.putRowK
      rw [Go.Sort.frozen?_putRow]
      exact h.fz o
    · exact cell j hj 0 (by omega)
    · exact cell j hj 1 (by omega)
end Ve
end Go.Proofs.YtpafkniapacfdaaGreatDoor


namespace Go.Proofs.YtpafkniapacfdaaGreatDoor
open Go.RowKit
namespace Ve
theorem decN_len {n : Nat} (h : n ≤ 4294967295) : (Lib.decDigits n).length ≤ 10 := by
  rw [Lib.decDigits_length]
  exact nDigits_le 9 _ (by omega)
theorem lineT_len {x : Ln} (h : x.1.1.size < 999999 ∧ x.1.2.size < 999999) (hn : x.2 ≤ 4294967295) : (lineT x).length ≤ 2000020 := by
  have := decN_len hn
  unfold lineT
  simp only [List.length_append, List.length_cons, List.length_nil, len_eq]
  omega
set_option maxRecDepth 100000 in
set_option maxHeartbeats 2000000 in
theorem ltext_any (p v : ByteArray) (n : Nat) (w : World) (hp : p.size < 999999) (hv : v.size < 999999) (hn : n ≤ 4294967295) (htab : Lib.TabIs Tryz.prog w powName .u64 Lib.pow10Tab) :
    Calls Tryz.prog 37 #[.agg #[.string p, .string v, .int .u32 (n : Nat)]] w fun e w' => e = .returned (.string (bt (lineT ((p, v), n)))) ∧ Below w.heap.size w w' := by
  have HB0 := hid ((Below.refl w.heap.size w).alloc (Nat.le_refl _) (.cells #[.string p, .string v, .int .u32 (n : Nat)] 44))
  obtain ⟨Wa, hWa⟩ : ∃ Wa, w.alloc (.cells #[.string p, .string v, .int .u32 (n : Nat)] 44) = Wa := ⟨_, rfl⟩
  have b0 : Wa.cell? ⟨w.heap.size, 0, none⟩ = some (.string p) := by rw [← hWa]; simp
  have b1 : Wa.cell? ⟨w.heap.size, 1, none⟩ = some (.string v) := by rw [← hWa]; simp
  have b2 : Wa.cell? ⟨w.heap.size, 2, none⟩ = some (.int .u32 (n : Nat)) := by rw [← hWa]; simp
  rw [hWa] at HB0
  have HF := hid (fun W (h : Below Wa.heap.size Wa W) => fmtU_any n hn W (tab_below htab (HB0.out.trans (h.mono HB0.out.size))))
  have HT := hid (fun W' (hW : Below Wa.heap.size Wa W') => (show (fun W' => W'.cell? ⟨w.heap.size, 0, none⟩ = some (.string p) ∧ W'.cell? ⟨w.heap.size, 1, none⟩ = some (.string v) ∧ W'.cell? ⟨w.heap.size, 2, none⟩ = some (.int .u32 (n : Nat)) ∧ Hid (Below Wa.heap.size Wa W')) W' from ⟨cell_below hW b0, cell_below hW b1, cell_below hW b2, hid hW⟩))
  have hq : IntKind.u64.wrap (n : Int) = (n : Int) := by rw [IntKind.wrap_u64]; omega
  have HD := hid (decN_len hn)
  have hds : (⟨(Lib.decDigits n).toArray⟩ : ByteArray).size ≤ 10 := by have := HD.out; rw [← len_eq]; simpa using this
  have HE := hid (show p ++ (⟨#[32]⟩ : ByteArray) ++ v ++ (⟨#[32]⟩ : ByteArray) ++ (⟨(Lib.decDigits n).toArray⟩ : ByteArray) ++ (⟨#[10]⟩ : ByteArray) = bt (lineT ((p, v), n)) from str_ext (by rw [bt_list]; simp [lineT]))
  have HW := hid hWa
  clear htab hWa
  generalize (⟨(Lib.decDigits n).toArray⟩ : ByteArray) = D at *
  generalize bt (lineT ((p, v), n)) = T at *
  go_enter Tryz.func37, Tryz.ntmps37
  go_wp2_with fail
  rw [HW.out]
  go_region_held (fun W' => W'.cell? ⟨w.heap.size, 0, none⟩ = some (.string p) ∧ W'.cell? ⟨w.heap.size, 1, none⟩ = some (.string v) ∧ W'.cell? ⟨w.heap.size, 2, none⟩ = some (.int .u32 (n : Nat)) ∧ Hid (Below Wa.heap.size Wa W')) (first | exact HT.out _ HRa.out | exact HT.out _ (below_drawn _ 1)) (first
    | (go_at_call 73; have HFa := HF.out Wa.drew (below_drawn Wa 1); refine HFa.mono ?_; clear HFa; rintro e w' ⟨rfl, hb⟩; have HRa := hid ((below_drawn Wa 1).trans (hb.mono (Nat.le_refl _))); clear hb))
  all_goals
    have HB := hid (HB0.out.trans (HRa.out.mono HB0.out.size))
    clear b0 b1 b2
    go_wp2_with fail
    go_ret
    exact ⟨congrArg (fun z => Ending.returned (Value.string z)) HE.out, HB.out⟩
set_option maxHeartbeats 1000000 in
theorem textK_any (X : List Ln) (b1 : Nat) (v : Value) (A : Nat → Addr) (m : Int) (W : World) (hX : X.length ≤ 1000000) (hs : shortN X) (S : Te W A m) (h1 : W.cell? ⟨b1, 0, none⟩ = some v) (hv : LnAt .u32 W v X) (i : Nat) (hi : i < X.length) :
    Calls Tryz.prog 34 (#[.int .i64 (i : Int), .agg #[.string X[i].1.1, .string X[i].1.2, .int .u32 (X[i].2 : Nat)]] ++ #[.pointer (some ⟨b1, 0, none⟩)]) W fun e w' => e = .returned (errA A (txE X i)) ∧ Below W.heap.size W w' := by
  have HB0 := hid ((Below.refl W.heap.size W).alloc (Nat.le_refl _) (.cells #[.string X[i].1.1, .string X[i].1.2, .int .u32 (X[i].2 : Nat)] 44))
  have HC := hid (chkAt_any X v A m _ hX hs (S.below HB0.out) (hv.below HB0.out) i hi)
  have c1 := cell_below HB0.out h1
  obtain ⟨a, c, rfl, -⟩ := id hv
  generalize X[i] = x at *
  clear S hv h1 hi
  generalize errA A (txE X i) = z at *
  show Calls Tryz.prog 34 #[.int .i64 (i : Int), .agg #[.string x.1.1, .string x.1.2, .int .u32 (x.2 : Nat)], .pointer (some ⟨b1, 0, none⟩)] W _
  go_enter Tryz.func34, Tryz.ntmps34
  go_wp2_with fail
  refine HC.out.mono ?_
  rintro e w1 ⟨rfl, hb⟩
  have HB := hid (HB0.out.trans (hb.mono HB0.out.size))
  clear hb
  go_wp2_with fail
  go_ret
  exact ⟨rfl, HB.out⟩
end Ve
end Go.Proofs.YtpafkniapacfdaaGreatDoor


namespace Go.Proofs.YtpafkniapacfdaaGreatDoor
open Go.RowKit Go.Shelf Go.Sort
namespace Ve
theorem infoLine : (Tryz.prog.info? 44).map (fun i => (i.zero, i.size, i.bytes)) = some (some (.agg #[.string ⟨#[]⟩, .string ⟨#[]⟩, .int .u32 0]), 3, 40) := by kernel_rfl
structure RdL (w0 W : World) (gb pb : Nat) (cs : Array Value) (v : Value) (X : List Ln) : Prop where
  bx : W.heap[gb]? = some (.cells #[v] 34 (0, 0))
  tx : W.heap[pb]? = some (.cells cs 9 (0, 0))
  ow : W.ownsRow w0.heap.size 44 3 v X.length (flatN .u32 X)
  bl : Below w0.heap.size w0 W
theorem RdL.below {w0 W W' : World} {gb pb : Nat} {cs : Array Value} {v : Value} {X : List Ln} (h : RdL w0 W gb pb cs v X) (hb : Below W.heap.size W W') : RdL w0 W' gb pb cs v X :=
  ⟨(hb.block _ (lt_of_blk h.bx)).trans h.bx, (hb.block _ (lt_of_blk h.tx)).trans h.tx, owns_below h.ow hb, h.bl.trans (hb.mono h.bl.size)⟩
theorem own_ne3 {w : World} {B : Nat} {e T : TypeId} {v : Value} {n : Nat} {xs : List Value} {b : Nat} {cs : Array Value} {fr : Nat × Nat} (hown : w.ownsRow B e 3 v n xs) (hb : w.heap[b]? = some (.cells cs T fr)) (hTe : T ≠ e) : v.ownBlock ≠ some b := by
  rcases hown.2 with ⟨rfl, _⟩ | ⟨g, cap, cur, rfl, _, hg, _⟩
  · simp [Value.ownBlock]
  · intro h
    simp only [Value.ownBlock, Option.some.injEq] at h
    subst h
    rw [hg] at hb
    simp only [Option.some.injEq, Obj.cells.injEq] at hb
    exact hTe hb.2.1.symm
set_option maxRecDepth 100000 in
set_option maxHeartbeats 2000000 in
theorem rdK_bad (i : Nat) (s : ByteArray) (w0 W : World) (gb pb : Nat) (cs : Array Value) (v : Value) (X : List Ln) (A : Nat → Addr) (m : Int) (hs : s.size ≤ 1000000) (S : Te w0 A m) (R : Rg w0) (H : RdL w0 W gb pb cs v X) (h : (rdT s.data.toList).1 ≠ 0) :
    Calls Tryz.prog 42 #[.int .i64 (i : Int), .string s, .pointer (some ⟨gb, 0, none⟩)] W fun e w' => e = .returned (errA A (rdT s.data.toList).1) ∧ Below w0.heap.size w0 w' := by
  have HL := hid (rline_any s A m W hs (S.below H.bl) (R.below H.bl))
  have HH := hid H
  obtain ⟨⟨⟨x1, x2⟩, xn⟩, hx⟩ : ∃ x : Ln, x = (rdT s.data.toList).2 := ⟨_, rfl⟩
  rw [← hx] at HL
  rw [errA_if A h] at HL ⊢
  clear S R H h hx
  unfold lnV at HL
  dsimp only at HL
  go_enter Tryz.func42, Tryz.ntmps42
  go_wp2_with fail
  refine HL.out.mono ?_
  rintro e w1 ⟨rfl, hb⟩
  have HB := hid (HH.out.bl.trans (hb.mono HH.out.bl.size))
  clear hb
  go_wp2_with fail
  go_ret
  exact ⟨rfl, HB.out.alloc HB.out.size _⟩
theorem flatN_snoc (X : List Ln) (x : Ln) : flatN .u32 (X ++ [x]) = flatN .u32 X ++ [.string x.1.1, .string x.1.2, .int .u32 (x.2 : Nat)] := by rw [flatN_app]; rfl
theorem RdL.put {w0 W W4 : World} {gb pb : Nat} {cs : Array Value} {v v' : Value} {X : List Ln} {x : Ln} (h : RdL w0 W gb pb cs v X) (hw : w0.heap.size ≤ gb) (hpg : pb ≠ gb)
    (ho : W4.ownsRow w0.heap.size 44 3 v' (X.length + 1) (flatN .u32 X ++ [.string x.1.1, .string x.1.2, .int .u32 (x.2 : Nat)])) (hg : W.grownBy W4 v.ownBlock) : RdL w0 (W4.setCell ⟨gb, 0, none⟩ v') gb pb cs v' (X ++ [x]) := by
  have h1 : W4.heap[gb]? = some (.cells #[v] 34 (0, 0)) := (hg.block gb (lt_of_blk h.bx) (fun e => own_ne3 h.ow h.bx (by decide) e.symm)).trans h.bx
  have h2 : W4.heap[pb]? = some (.cells cs 9 (0, 0)) := (hg.block pb (lt_of_blk h.tx) (fun e => own_ne3 h.ow h.tx (by decide) e.symm)).trans h.tx
  refine ⟨cell1_set h1, (cell1_far hpg).trans h2, ?_, (h.bl.grown hg h.bl.size fun k e => (h.ow.lt k e).1).setCell (p := ⟨gb, 0, none⟩) hw _⟩
  rw [flatN_snoc, List.length_append]
  exact ho.kept (row := some gb) ⟨rfl, rfl, rfl, by simp [World.setCell], fun k _ hk => Below.heap_setCell _ _ _ _ (fun e => hk (by simp [e]))⟩ (Or.inr (own_ne3 ho h1 (by decide)))
set_option maxRecDepth 100000 in
set_option maxHeartbeats 2000000 in
theorem rdK_ok (s : ByteArray) (w0 W : World) (gb pb : Nat) (cs : Array Value) (v : Value) (X : List Ln) (A : Nat → Addr) (m : Int) (hs : s.size ≤ 1000000) (hX : X.length ≤ 999999) (S : Te w0 A m) (R : Rg w0) (hw0 : w0.heap.size ≤ gb) (hpg : pb ≠ gb) (H : RdL w0 W gb pb cs v X) (hsh : shortN (X ++ [(rdT s.data.toList).2])) (h : (rdT s.data.toList).1 = 0) :
    Calls Tryz.prog 42 #[.int .i64 (X.length : Int), .string s, .pointer (some ⟨gb, 0, none⟩)] W fun e w' => e = .returned (errA A (txE (X ++ [(rdT s.data.toList).2]) X.length)) ∧ ∃ v', RdL w0 w' gb pb cs v' (X ++ [(rdT s.data.toList).2]) := by
  obtain ⟨i0, hi0, hz0, hz1, hz2⟩ := info_parts infoLine
  have HL := hid (rline_any s A m W hs (S.below H.bl) (R.below H.bl))
  have HH := hid H
  have HS := hid S
  have HHS := hid hsh
  rw [h] at HL
  obtain ⟨x, hx⟩ : ∃ x : Ln, x = (rdT s.data.toList).2 := ⟨_, rfl⟩
  rw [← hx] at HL HHS ⊢
  rw [errA0] at HL
  clear S R H h hx hsh
  obtain ⟨z, hz⟩ : ∃ z, z = errA A (txE (X ++ [x]) X.length) := ⟨_, rfl⟩
  rw [← hz]
  have HZ := hid hz
  clear hz
  obtain ⟨⟨x1, x2⟩, xn⟩ := x
  unfold lnV at HL
  dsimp only at HL
  go_enter Tryz.func42, Tryz.ntmps42
  go_wp2_with fail
  refine HL.out.mono ?_
  rintro e w1 ⟨rfl, hb⟩
  have HBa := hid ((Below.refl w1.heap.size w1).alloc (Nat.le_refl _) (.cells #[.string x1, .string x2, .int .u32 (xn : Nat)] 44))
  have HH1 := hid ((HH.out.below hb).below HBa.out)
  have cg : (w1.alloc (.cells #[.string x1, .string x2, .int .u32 (xn : Nat)] 44)).cell? ⟨gb, 0, none⟩ = some v := by rw [Lib.cell_of_heap HH1.out.bx]; rfl
  obtain ⟨va, vc, rfl⟩ := own_slN HH1.out.ow
  have hlt := lt_of_blk (HH.out.below hb).bx
  clear hb
  go_wp2_with (at_builtin; refine wpList_append_own _ rfl _ _ 34 rfl w0.heap.size 44 i0 _ 3 40 Tryz.underlying34 hi0 hz0 hz1 hz2 rfl (by decide) _ _ _ rfl (HH1.out.ow.alloc _) ⟨w1.heap.size + 1, 0, none⟩ 1 1 [.string x1, .string x2, .int .u32 (xn : Nat)] rfl rfl ?c1 ?c2 ?c3 ?c4 ?c5 ?_)
  case c1 => exact World.news_of_block (cs := #[.string x1, .string x2, .int .u32 (xn : Nat)]) (t := 44) (fr := (0, 0)) (by have := heap_alloc_new (w1.alloc (.cells #[.string x1, .string x2, .int .u32 (xn : Nat)] 44)) (.cells #[.string x1, .string x2, .int .u32 (xn : Nat)] 44); simpa using this)
  case c2 =>
    intro u hu
    simp at hu
    rcases hu with rfl | rfl | rfl <;> rfl
  case c3 => unfold maxLen; omega
  case c4 => omega
  case c5 => have := HH1.out.bl.size; simp at this ⊢; omega
  intro v' w4 hown hgrow _
  have HBb := hid ((Below.refl _ (w1.alloc (.cells #[.string x1, .string x2, .int .u32 (xn : Nat)] 44))).alloc (Nat.le_refl _) (.cells #[.string x1, .string x2, .int .u32 (xn : Nat)] 44))
  have HH2 := hid (HH1.out.below HBb.out)
  have HRD := hid (HH2.out.put (x := ((x1, x2), xn)) hw0 hpg hown hgrow)
  have hg4 := (hgrow.block gb (lt_of_blk HH2.out.bx) (fun e => own_ne3 HH2.out.ow HH2.out.bx (by decide) e.symm)).trans HH2.out.bx
  have c4 : w4.cell? ⟨gb, 0, none⟩ = some (.slice va X.length vc) := by rw [Lib.cell_of_heap hg4]; rfl
  have f4 := fun o => Lib.frozen_of_heap hg4 o
  obtain ⟨v'a, v'c, rfl⟩ := own_slN hown
  clear hown hgrow hg4
  have HC := hid (chkAt_any (X ++ [((x1, x2), xn)]) (.slice v'a (X.length + 1) v'c) A m _ (by simp; omega) HHS.out (HS.out.below HRD.out.bl) (own_ln HRD.out.ow) X.length (by simp))
  rw [← HZ.out] at HC
  go_wp2_with fail
  refine HC.out.mono ?_
  rintro e w6 ⟨rfl, hb⟩
  have HR6 := hid (HRD.out.below hb)
  clear hb
  go_wp2_with fail
  go_ret
  exact ⟨rfl, _, HR6.out⟩
end Ve
end Go.Proofs.YtpafkniapacfdaaGreatDoor
