/-
  What index.Versions, Best and Latest answer.
-/
import Derived.Test.YtanponneancajaaGreatDoorIxV
namespace Go.Proofs.YtanponneancajaaGreatDoor
open Go.RowKit
namespace Ve

/-- The entries of a path whose version is one. -/
def ofP (t : ByteArray) (L : List Raw) : List Raw := L.filter (isP t)
theorem ofP_len (t : ByteArray) (L : List Raw) : (ofP t L).length ≤ L.length := List.length_filter_le _ _
theorem bestR_sub {L : List Raw} {r : Raw} (h : r ∈ bestR L) : r ∈ L := by
  unfold bestR at h
  split at h
  · exact (List.mem_filter.1 (List.mem_filter.1 h).1).1
  · split at h
    · exact (List.mem_filter.1 h).1
    · exact h
theorem bestR_len (L : List Raw) : (bestR L).length ≤ L.length := by
  unfold bestR
  split
  · exact Nat.le_trans (List.length_filter_le _ _) (List.length_filter_le _ _)
  · split
    · exact List.length_filter_le _ _
    · exact Nat.le_refl _
/-- The last of a row of texts, or none. -/
def lastT (X : List ByteArray) : ByteArray := X.getLast?.getD ⟨#[]⟩
theorem lastT_nil : lastT [] = ⟨#[]⟩ := rfl
theorem lastT_get {X : List ByteArray} (h : 0 < X.length) : lastT X = X[X.length - 1] := by
  unfold lastT
  rw [List.getLast?_eq_getElem?, List.getElem?_eq_getElem (by omega)]; rfl
theorem own_max {W : World} {B n k : Nat} {e : TypeId} {v : Value} {xs : List Value} (h : W.ownsRow B e k v n xs) : n ≤ maxLen := by
  obtain ⟨_, ⟨hv, hn0⟩ | ⟨g, cap, cur, hv, hg, hblk, hcap, hcm, hcs, hct⟩⟩ := h
  · rw [hn0]; exact Nat.zero_le _
  · exact Nat.le_trans hcap hcm
set_option maxRecDepth 100000 in
set_option maxHeartbeats 2000000 in
/-- index.Versions. -/
theorem vers_any (L : List Raw) (t : ByteArray) (v : Value) (aT aB : Addr) (m : Int) (w : World) (hL : L.length ≤ 1000) (hz : ∀ r, r ∈ L → r.1.1.size ≤ 80 ∧ r.1.2.size ≤ 80) (S : Vs w aT aB m) (htab : Lib.TabIs Tryz.prog w powName .u64 Lib.pow10Tab) (hv : EsAt w v L) :
    Calls Tryz.prog 25 #[v, .string t] w fun e w' => ∃ u, e = .returned u ∧ ∃ X, w'.ownsRow w.heap.size 9 1 u X.length (X.map Value.string) ∧ Kept (verL (ofP t L)) (verL (ofP t L)).length X ∧ Below w.heap.size w w' := by
  obtain ⟨a, c, rfl, _⟩ := id hv
  have hsh : shortR L := fun r hr => ⟨by have := (hz r hr).1; omega, by have := (hz r hr).2; omega⟩
  have HP := hid (ofPath_any L t _ aT aB m w (by omega) hsh S hv)
  have HZ := hid hz
  have HS := hid S
  have HT := hid htab
  have hll := ofP_len t L
  clear hv S htab hz hsh
  go_enter Tryz.func25, Tryz.ntmps25
  go_wp2_with fail
  refine HP.out.mono ?_
  rintro e w1 ⟨v1, rfl, he, hb⟩
  have HV := hid (versions_any (ofP t L) v1 aT aB m w1 (by omega) (fun r hr => (HZ.out r (List.mem_filter.1 hr).1).2) (HS.out.below hb) (tab_below HT.out hb) he)
  have HB := hid hb
  obtain ⟨a1, c1, rfl, _⟩ := he
  clear hb
  go_wp2_with fail
  refine HV.out.mono ?_
  rintro e w2 ⟨u, rfl, X, h1, h2, h3⟩
  obtain ⟨ua, uc, hu⟩ := own_slN h1
  subst hu
  have HR := hid (⟨own_baseN h1 HB.out.size, h2, HB.out.trans (h3.mono HB.out.size)⟩ : _ ∧ _ ∧ Below w.heap.size w w2)
  clear h1 h2 h3
  go_wp2_with fail
  go_ret
  exact ⟨_, rfl, X, HR.out⟩
set_option maxRecDepth 100000 in
set_option maxHeartbeats 2000000 in
/-- index.Best. -/
theorem ibest_any (L : List Raw) (t : ByteArray) (v : Value) (aT aB : Addr) (m : Int) (w : World) (hL : L.length ≤ 1000) (hz : ∀ r, r ∈ L → r.1.1.size ≤ 80 ∧ r.1.2.size ≤ 80) (S : Vs w aT aB m) (htab : Lib.TabIs Tryz.prog w powName .u64 Lib.pow10Tab) (hv : EsAt w v L) :
    Calls Tryz.prog 69 #[v, .string t] w fun e w' => ∃ u, e = .returned u ∧ ∃ X, w'.ownsRow w.heap.size 9 1 u X.length (X.map Value.string) ∧ Kept (verL (bestR (ofP t L))) (verL (bestR (ofP t L))).length X ∧ Below w.heap.size w w' := by
  obtain ⟨a, c, rfl, _⟩ := id hv
  have hsh : shortR L := fun r hr => ⟨by have := (hz r hr).1; omega, by have := (hz r hr).2; omega⟩
  have HP := hid (ofPath_any L t _ aT aB m w (by omega) hsh S hv)
  have HSH := hid (hsh.filter (isP t))
  have HZ := hid hz
  have HS := hid S
  have HT := hid htab
  have hll := ofP_len t L
  have hlb := bestR_len (ofP t L)
  clear hv S htab hz hsh
  go_enter Tryz.func69, Tryz.ntmps69
  go_wp2_with fail
  refine HP.out.mono ?_
  rintro e w1 ⟨v1, rfl, he, hb⟩
  have HBE := hid (best_any (ofP t L) v1 aT aB m w1 (by omega) HSH.out (HS.out.below hb) he)
  have HB := hid hb
  obtain ⟨a1, c1, rfl, _⟩ := he
  clear hb
  go_wp2_with fail
  refine HBE.out.mono ?_
  rintro e w2 ⟨v2, rfl, he, hb⟩
  have HB2 := hid (HB.out.trans (hb.mono HB.out.size))
  have HV := hid (versions_any (bestR (ofP t L)) v2 aT aB m w2 (by omega) (fun r hr => (HZ.out r (List.mem_filter.1 (bestR_sub hr)).1).2) (HS.out.below HB2.out) (tab_below HT.out HB2.out) he)
  obtain ⟨a2, c2, rfl, _⟩ := he
  clear hb
  go_wp2_with fail
  refine HV.out.mono ?_
  rintro e w3 ⟨u, rfl, X, h1, h2, h3⟩
  obtain ⟨ua, uc, hu⟩ := own_slN h1
  subst hu
  have HR := hid (⟨own_baseN h1 HB2.out.size, h2, HB2.out.trans (h3.mono HB2.out.size)⟩ : _ ∧ _ ∧ Below w.heap.size w w3)
  clear h1 h2 h3
  go_wp2_with fail
  go_ret
  exact ⟨_, rfl, X, HR.out⟩
set_option maxRecDepth 100000 in
set_option maxHeartbeats 4000000 in
/-- index.Latest. -/
theorem latest_any (L : List Raw) (t : ByteArray) (v : Value) (aT aB : Addr) (m : Int) (w : World) (hL : L.length ≤ 1000) (hz : ∀ r, r ∈ L → r.1.1.size ≤ 80 ∧ r.1.2.size ≤ 80) (S : Vs w aT aB m) (htab : Lib.TabIs Tryz.prog w powName .u64 Lib.pow10Tab) (hv : EsAt w v L) :
    Calls Tryz.prog 26 #[v, .string t] w fun e w' => ∃ X, e = .returned (.string (lastT X)) ∧ Kept (verL (bestR (ofP t L))) (verL (bestR (ofP t L))).length X ∧ Below w.heap.size w w' := by
  obtain ⟨a, c, rfl, _⟩ := id hv
  have HP := hid (ibest_any L t _ aT aB m w hL hz S htab hv)
  clear hv S htab hz
  go_enter Tryz.func26, Tryz.ntmps26
  go_wp2_with fail
  refine HP.out.mono ?_
  rintro e w3 ⟨u, rfl, X, h1, h2, h3⟩
  obtain ⟨ua, uc, hu, _, hcell⟩ := own_tx h1
  subst hu
  have HR := hid (⟨h2, h3⟩ : _ ∧ Below w.heap.size w w3)
  have HCC := hid hcell
  have hmx := own_max h1
  clear h1 h2 h3 hcell
  by_cases hX : 0 < X.length
  · obtain ⟨b, o, rfl, hcc⟩ := HCC.out (by intro h; rw [h] at hX; simp at hX)
    have hlast := hcc (X.length - 1) (by omega)
    have HLT := hid (lastT_get hX)
    rw [← HLT.out] at hlast
    have hne : ((X.length : Int) == 0) = false := by rw [beq_eq_false_iff_ne]; omega
    have hx1 : (X.length : Int) - 1 = ((X.length - 1 : Nat) : Int) := by omega
    have hx2 : ((X.length - 1 : Nat) : Int) < (X.length : Int) := by omega
    have hw64 : wrap64 ((X.length - 1 : Nat) : Int) = ((X.length - 1 : Nat) : Int) := IntWalk.wrap64_in _ (by unfold maxLen at hmx; omega)
    have htn : ((X.length - 1 : Nat) : Int).toNat = X.length - 1 := Int.toNat_natCast _
    clear hcc
    go_wp2_with fail
    go_ret
    exact ⟨X, rfl, HR.out⟩
  · have hx0 : X = [] := List.eq_nil_of_length_eq_zero (by omega)
    subst hx0
    go_wp2_with fail
    go_ret
    exact ⟨[], rfl, HR.out⟩
end Ve
end Go.Proofs.YtanponneancajaaGreatDoor
