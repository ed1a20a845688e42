/-
  What index.versions, Versions, Latest and Paths answer.
-/
import Derived.Test.YtanponneancajaaGreatDoorIxC
import Derived.Test.YtanponneancajaaGreatDoorIxS
import Derived.Test.YtanponneancajaaGreatDoorOrdW
namespace Go.Proofs.YtanponneancajaaGreatDoor
open Go.RowKit
namespace Ve

/-- The versions, the paths of a row of entries. -/
def verL (L : List Raw) : List ByteArray := L.map fun r => r.1.2
def pathL (L : List Raw) : List ByteArray := L.map fun r => r.1.1
theorem verL_len (L : List Raw) : (verL L).length = L.length := by simp [verL]
theorem pathL_len (L : List Raw) : (pathL L).length = L.length := by simp [pathL]
theorem verL_next {L : List Raw} {k : Nat} (hk : k < L.length) : verL (L.take (k + 1)) = verL (L.take k) ++ [L[k].1.2] := by
  unfold verL
  rw [List.take_succ_eq_append_getElem hk, List.map_append]; rfl
theorem pathL_next {L : List Raw} {k : Nat} (hk : k < L.length) : pathL (L.take (k + 1)) = pathL (L.take k) ++ [L[k].1.1] := by
  unfold pathL
  rw [List.take_succ_eq_append_getElem hk, List.map_append]; rfl
theorem own_nextT {W : World} {B : Nat} {e : TypeId} {v : Value} {X X' : List ByteArray} {x : ByteArray} (h : W.ownsRow B e 1 v (X.length + 1) (X.map Value.string ++ [.string x])) (hl : X' = X ++ [x]) : W.ownsRow B e 1 v X'.length (X'.map Value.string) := by
  subst hl
  rw [List.length_append, List.map_append]
  exact h
set_option maxHeartbeats 4000000 in
set_option maxRecDepth 100000 in
theorem versions_some (L : List Raw) (b o c : Nat) (w : World) (hL : L.length ≤ 1000) (hs : ∀ r, r ∈ L → slR r)
    (hc : ∀ j (h : j < L.length), w.cell? ⟨b, o + j * 5, none⟩ = some (.string L[j].1.1) ∧ w.cell? ⟨b, o + j * 5 + 1, none⟩ = some (.string L[j].1.2) ∧ w.cell? ⟨b, o + j * 5 + 2, none⟩ = some L[j].2.1 ∧ w.cell? ⟨b, o + j * 5 + 3, none⟩ = some L[j].2.2.1 ∧ w.cell? ⟨b, o + j * 5 + 4, none⟩ = some (.bool L[j].2.2.2))
    (Post : Value → World → Prop) (hk : ∀ u W, W.ownsRow w.heap.size 9 1 u (verL L).length ((verL L).map Value.string) → Below w.heap.size w W → Calls Tryz.prog 119 #[u] W fun e w' => ∃ x, e = .returned x ∧ Post x w') :
    Calls Tryz.prog 67 #[.slice (some ⟨b, o, none⟩) L.length c] w fun e w' => ∃ x, e = .returned x ∧ Post x w' := by
  obtain ⟨i0, hi, hz0, hz1, hz2⟩ := info_parts infoStr
  have HC := hid hc
  have HSL := hid hs
  have HK := hid hk
  clear hc hs hk
  go_enter Tryz.func67, Tryz.ntmps67
  go_wp2_with fail
  go_loopw [3, 8] (fun ov i wr => ∃ k : Nat, k ≤ L.length ∧ i = .int .i64 k ∧ Hid (wr.ownsRow w.heap.size 9 1 ov (verL (L.take k)).length ((verL (L.take k)).map Value.string)) ∧ Hid (Below w.heap.size w wr)) (fun _ i _ => L.length - (intOf i).toNat)
  case atStart => exact ⟨0, Nat.zero_le _, rfl, hid (World.ownsRow_nil _ _ _ _), hid (Below.refl _ _)⟩
  case round =>
    obtain ⟨k, hk, rfl, HO, HB⟩ := hrel
    by_cases hlt : k < L.length
    · obtain ⟨y0, y1, y2, y3, y4⟩ := HC.out k hlt
      have x0 := cell_below HB.out y0
      have x1 := cell_below HB.out y1
      have x2 := cell_below HB.out y2
      have x3 := cell_below HB.out y3
      have x4 := cell_below HB.out y4
      have hsl := HSL.out L[k] (List.getElem_mem hlt)
      have hkI : (k : Int) < (L.length : Int) := by omega
      have HLT := hid hlt
      have HY := hid (verL_next hlt)
      have hln : (verL (L.take k)).length = k := by rw [verL_len, List.length_take]; omega
      clear y0 y1 y2 y3 y4
      generalize L[k] = x at *
      obtain ⟨⟨p, q⟩, rv, pv, bk⟩ := x
      obtain ⟨⟨ra, rn, rc, hrv⟩, pa, pn, pc, hpv⟩ := hsl
      simp only at hrv hpv
      subst hrv
      subst hpv
      have HBa := hid (HB.out.alloc HB.out.size (.cells #[.string p, .string q, .slice ra rn rc, .slice pa pn pc, .bool bk] 54))
      have HOa := hid (HO.out.alloc (.cells #[.string p, .string q, .slice ra rn rc, .slice pa pn pc, .bool bk] 54))
      clear hlt
      have hzz := HB.out.size
      go_wp2_with (at_builtin; refine wpList_append_own _ rfl _ _ 24 rfl w.heap.size 9 i0 _ 1 16 Tryz.underlying24 hi hz0 hz1 hz2 rfl (by decide) _ _ _ rfl (HOa.out.alloc _) ⟨wr.heap.size + 1, 0, none⟩ 1 1 [.string q] rfl rfl ?c1 ?c2 ?c3 ?c4 ?c5 ?_)
      case c2 => rfl
      case c3 => unfold maxLen; omega
      case c4 => omega
      case c5 => omega
      intro v' w3 hown hgrow _
      have HR3 := hid (rel_app HBa.out.size HBa.out HOa.out (Below.refl _ _) hgrow)
      have HO3 := hid hown
      clear hown hgrow x0 x1 x2 x3 x4
      go_wp2_with fail
      go_roundw
      case rel => exact ⟨k + 1, by have := HLT.out; omega, by go_num, hid (own_nextT (X := verL (L.take k)) (by rw [hln]; exact HO3.out) HY.out), HR3⟩
      case measure => have := HLT.out; simp [intOf]; omega
    · have HTR := hid (show L.take k = L from List.take_of_length_le (by omega))
      rw [HTR.out] at HO
      have hkI : ¬ (k : Int) < (L.length : Int) := by omega
      have HKK := hid (HK.out _ _ HO.out HB.out)
      clear hlt
      go_wp2_with fail
      refine HKK.out.mono ?_
      rintro e w1 ⟨x, rfl, hp⟩
      have HP := hid hp
      clear hp
      go_wp2_with fail
      go_ret
      exact ⟨_, rfl, HP.out⟩
theorem versions_none (a : Option Addr) (c : Nat) (w : World)
    (Post : Value → World → Prop) (hk : Calls Tryz.prog 119 #[.slice none 0 0] w fun e w' => ∃ x, e = .returned x ∧ Post x w') :
    Calls Tryz.prog 67 #[.slice a 0 c] w fun e w' => ∃ x, e = .returned x ∧ Post x w' := by
  have HK := hid hk
  clear hk
  go_enter Tryz.func67, Tryz.ntmps67
  go_wp2_with fail
  go_loopw [3, 8] (fun ov i wr => ov = .slice none 0 0 ∧ i = .int .i64 0 ∧ wr = w) (fun _ i _ => 0)
  case atStart => exact ⟨rfl, rfl, rfl⟩
  case round =>
    obtain ⟨rfl, rfl, rfl⟩ := hrel
    go_wp2_with fail
    refine HK.out.mono ?_
    rintro e w1 ⟨x, rfl, hp⟩
    have HP := hid hp
    clear hp
    go_wp2_with fail
    go_ret
    exact ⟨_, rfl, HP.out⟩
set_option maxHeartbeats 4000000 in
set_option maxRecDepth 100000 in
theorem paths_some (L : List Raw) (b o c : Nat) (w : World) (hL : L.length ≤ 1000) (hs : ∀ r, r ∈ L → slR r)
    (hc : ∀ j (h : j < L.length), w.cell? ⟨b, o + j * 5, none⟩ = some (.string L[j].1.1) ∧ w.cell? ⟨b, o + j * 5 + 1, none⟩ = some (.string L[j].1.2) ∧ w.cell? ⟨b, o + j * 5 + 2, none⟩ = some L[j].2.1 ∧ w.cell? ⟨b, o + j * 5 + 3, none⟩ = some L[j].2.2.1 ∧ w.cell? ⟨b, o + j * 5 + 4, none⟩ = some (.bool L[j].2.2.2))
    (Post : Value → World → Prop) (hk : ∀ u W, W.ownsRow w.heap.size 9 1 u (pathL L).length ((pathL L).map Value.string) → Below w.heap.size w W → Calls Tryz.prog 66 #[u] W fun e w' => ∃ x, e = .returned x ∧ Post x w') :
    Calls Tryz.prog 24 #[.slice (some ⟨b, o, none⟩) L.length c] w fun e w' => ∃ x, e = .returned x ∧ Post x w' := by
  obtain ⟨i0, hi, hz0, hz1, hz2⟩ := info_parts infoStr
  have HC := hid hc
  have HSL := hid hs
  have HK := hid hk
  clear hc hs hk
  go_enter Tryz.func24, Tryz.ntmps24
  go_wp2_with fail
  go_loopw [3, 8] (fun ov i wr => ∃ k : Nat, k ≤ L.length ∧ i = .int .i64 k ∧ Hid (wr.ownsRow w.heap.size 9 1 ov (pathL (L.take k)).length ((pathL (L.take k)).map Value.string)) ∧ Hid (Below w.heap.size w wr)) (fun _ i _ => L.length - (intOf i).toNat)
  case atStart => exact ⟨0, Nat.zero_le _, rfl, hid (World.ownsRow_nil _ _ _ _), hid (Below.refl _ _)⟩
  case round =>
    obtain ⟨k, hk, rfl, HO, HB⟩ := hrel
    by_cases hlt : k < L.length
    · obtain ⟨y0, y1, y2, y3, y4⟩ := HC.out k hlt
      have x0 := cell_below HB.out y0
      have x1 := cell_below HB.out y1
      have x2 := cell_below HB.out y2
      have x3 := cell_below HB.out y3
      have x4 := cell_below HB.out y4
      have hsl := HSL.out L[k] (List.getElem_mem hlt)
      have hkI : (k : Int) < (L.length : Int) := by omega
      have HLT := hid hlt
      have HY := hid (pathL_next hlt)
      have hln : (pathL (L.take k)).length = k := by rw [pathL_len, List.length_take]; omega
      clear y0 y1 y2 y3 y4
      generalize L[k] = x at *
      obtain ⟨⟨p, q⟩, rv, pv, bk⟩ := x
      obtain ⟨⟨ra, rn, rc, hrv⟩, pa, pn, pc, hpv⟩ := hsl
      simp only at hrv hpv
      subst hrv
      subst hpv
      have HBa := hid (HB.out.alloc HB.out.size (.cells #[.string p, .string q, .slice ra rn rc, .slice pa pn pc, .bool bk] 54))
      have HOa := hid (HO.out.alloc (.cells #[.string p, .string q, .slice ra rn rc, .slice pa pn pc, .bool bk] 54))
      clear hlt
      have hzz := HB.out.size
      go_wp2_with (at_builtin; refine wpList_append_own _ rfl _ _ 24 rfl w.heap.size 9 i0 _ 1 16 Tryz.underlying24 hi hz0 hz1 hz2 rfl (by decide) _ _ _ rfl (HOa.out.alloc _) ⟨wr.heap.size + 1, 0, none⟩ 1 1 [.string p] rfl rfl ?c1 ?c2 ?c3 ?c4 ?c5 ?_)
      case c2 => rfl
      case c3 => unfold maxLen; omega
      case c4 => omega
      case c5 => omega
      intro v' w3 hown hgrow _
      have HR3 := hid (rel_app HBa.out.size HBa.out HOa.out (Below.refl _ _) hgrow)
      have HO3 := hid hown
      clear hown hgrow x0 x1 x2 x3 x4
      go_wp2_with fail
      go_roundw
      case rel => exact ⟨k + 1, by have := HLT.out; omega, by go_num, hid (own_nextT (X := pathL (L.take k)) (by rw [hln]; exact HO3.out) HY.out), HR3⟩
      case measure => have := HLT.out; simp [intOf]; omega
    · have HTR := hid (show L.take k = L from List.take_of_length_le (by omega))
      rw [HTR.out] at HO
      have hkI : ¬ (k : Int) < (L.length : Int) := by omega
      have HKK := hid (HK.out _ _ HO.out HB.out)
      clear hlt
      go_wp2_with fail
      refine HKK.out.mono ?_
      rintro e w1 ⟨x, rfl, hp⟩
      have HP := hid hp
      clear hp
      go_wp2_with fail
      go_ret
      exact ⟨_, rfl, HP.out⟩
theorem paths_none (a : Option Addr) (c : Nat) (w : World)
    (Post : Value → World → Prop) (hk : Calls Tryz.prog 66 #[.slice none 0 0] w fun e w' => ∃ x, e = .returned x ∧ Post x w') :
    Calls Tryz.prog 24 #[.slice a 0 c] w fun e w' => ∃ x, e = .returned x ∧ Post x w' := by
  have HK := hid hk
  clear hk
  go_enter Tryz.func24, Tryz.ntmps24
  go_wp2_with fail
  go_loopw [3, 8] (fun ov i wr => ov = .slice none 0 0 ∧ i = .int .i64 0 ∧ wr = w) (fun _ i _ => 0)
  case atStart => exact ⟨rfl, rfl, rfl⟩
  case round =>
    obtain ⟨rfl, rfl, rfl⟩ := hrel
    go_wp2_with fail
    refine HK.out.mono ?_
    rintro e w1 ⟨x, rfl, hp⟩
    have HP := hid hp
    clear hp
    go_wp2_with fail
    go_ret
    exact ⟨_, rfl, HP.out⟩
/-- index.versions. -/
theorem versions_any (L : List Raw) (v : Value) (aT aB : Addr) (m : Int) (w : World) (hL : L.length ≤ 1000) (hz : ∀ r, r ∈ L → r.1.2.size ≤ 80) (S : Vs w aT aB m) (htab : Lib.TabIs Tryz.prog w powName .u64 Lib.pow10Tab) (hv : EsAt w v L) :
    Calls Tryz.prog 67 #[v] w fun e w' => ∃ u, e = .returned u ∧ ∃ X, w'.ownsRow w.heap.size 9 1 u X.length (X.map Value.string) ∧ Kept (verL L) (verL L).length X ∧ Below w.heap.size w w' := by
  obtain ⟨a, c, rfl, _, hs, h⟩ := hv
  cases L with
  | nil => exact versions_none a c w (fun u w' => ∃ X, w'.ownsRow w.heap.size 9 1 u X.length (X.map Value.string) ∧ Kept (verL []) (verL []).length X ∧ Below w.heap.size w w') ((vsort_none w).mono fun e w' ⟨h1, h2⟩ => ⟨_, h1, [], World.ownsRow_nil _ _ _ _, kept_none, h2⟩)
  | cons x r =>
    obtain ⟨b, o, rfl, h2⟩ := h (by simp)
    refine versions_some (x :: r) b o c w hL hs h2 (fun u w' => ∃ X, w'.ownsRow w.heap.size 9 1 u X.length (X.map Value.string) ∧ Kept (verL (x :: r)) (verL (x :: r)).length X ∧ Below w.heap.size w w') fun u W ho hb => ?_
    obtain ⟨a', c', rfl, _, h3⟩ := own_tx ho
    obtain ⟨b', o', rfl, h4⟩ := h3 (by simp [verL])
    refine (vsort_any b' o' c' (verL (x :: r)) aT aB m W (S.below hb) (tab_below htab hb) h4 (by rw [verL_len]; exact hL) (fun y hy => ?_)).mono ?_
    · obtain ⟨r', hr', rfl⟩ := List.mem_map.1 hy
      exact hz r' hr'
    · rintro e w' ⟨u, X, rfl, h5, h6, h7⟩
      exact ⟨u, rfl, X, own_baseN h5 hb.size, h6, hb.trans (h7.mono hb.size)⟩
/-- index.Paths. -/
theorem paths_any (L : List Raw) (v : Value) (w : World) (hL : L.length ≤ 1000) (hv : EsAt w v L) :
    Calls Tryz.prog 24 #[v] w fun e w' => ∃ u, e = .returned u ∧ w'.ownsRow w.heap.size 9 1 u (tx (risB (bl (pathL L)))).length ((tx (risB (bl (pathL L)))).map Value.string) ∧ Below w.heap.size w w' := by
  obtain ⟨a, c, rfl, _, hs, h⟩ := hv
  cases L with
  | nil =>
    refine paths_none a c w _ ((rising_any [] (by simp) (.slice none 0 0) w ⟨none, 0, rfl, Nat.le_refl _, fun h => absurd rfl h⟩).mono fun e w' ⟨u, h1, h2, h3⟩ => ⟨u, h1, h2, h3⟩)
  | cons x r =>
    obtain ⟨b, o, rfl, h2⟩ := h (by simp)
    refine paths_some (x :: r) b o c w hL hs h2 _ fun u W ho hb => ?_
    refine (rising_any (pathL (x :: r)) (by rw [pathL_len]; omega) u W (own_tx ho)).mono ?_
    rintro e w' ⟨u', rfl, h5, h7⟩
    exact ⟨u', rfl, own_baseN h5 hb.size, hb.trans (h7.mono hb.size)⟩
end Ve
end Go.Proofs.YtanponneancajaaGreatDoor
