
import Derived.Test.YtanponneancajaaGreatDoorBt3
import Derived.Test.YtanponneancajaaGreatDoorBt2
import Derived.Test.YtanponneancajaaGreatDoorBt4
import Derived.Test.YtanponneancajaaGreatDoorBt1
import Derived.Test.YtanponneancajaaGreatDoorRefH
import Derived.Test.YtanponneancajaaGreatDoorVerO
import Derived.Test.YtanponneancajaaGreatDoorVerR
import Derived.Test.YtanponneancajaaGreatDoorVerQ
import Derived.Test.YtanponneancajaaGreatDoorOrdB
import Derived.Test.YtanponneancajaaGreatDoorSplitAny
namespace Go.Proofs.YtanponneancajaaGreatDoor
open Go.RowKit
namespace Ve
def verL (L : List Raw) : List ByteArray := L.map fun r => r.1.2
theorem verL_len (L : List Raw) : (verL L).length = L.length := by simp [verL]
theorem verL_next {L : List Raw} {k : Nat} (hk : k < L.length) : verL (L.take (k + 1)) = verL (L.take k) ++ [L[k].1.2] := by
  unfold verL
  rw [List.take_succ_eq_append_getElem hk, List.map_append]; rfl
theorem own_nextT {W : World} {B : Nat} {e : TypeId} {v : Value} {X X' : List ByteArray} {x : ByteArray} (h : W.ownsRow B e 1 v (X.length + 1) (X.map Value.string ++ [.string x])) (hl : X' = X ++ [x]) : W.ownsRow B e 1 v X'.length (X'.map Value.string) := by
  subst hl
  rw [List.length_append, List.map_append]
  exact h
set_option maxHeartbeats 4000000 in
set_option maxRecDepth 100000 in
theorem versions_some (L : List Raw) (b o c : Nat) (w : World) (hL : L.length ≤ 1000) (hs : ∀ r, r ∈ L → slR r)
    (hc : ∀ j (h : j < L.length), w.cell? ⟨b, o + j * 5, none⟩ = some (.string L[j].1.1) ∧ w.cell? ⟨b, o + j * 5 + 1, none⟩ = some (.string L[j].1.2) ∧ w.cell? ⟨b, o + j * 5 + 2, none⟩ = some L[j].2.1 ∧ w.cell? ⟨b, o + j * 5 + 3, none⟩ = some L[j].2.2.1 ∧ w.cell? ⟨b, o + j * 5 + 4, none⟩ = some (.bool L[j].2.2.2))
    (Post : Value → World → Prop) (hk : ∀ u W, W.ownsRow w.heap.size 9 1 u (verL L).length ((verL L).map Value.string) → Below w.heap.size w W → Calls Tryz.prog 119 #[u] W fun e w' => ∃ x, e = .returned x ∧ Post x w') :
    Calls Tryz.prog 67 #[.slice (some ⟨b, o, none⟩) L.length c] w fun e w' => ∃ x, e = .returned x ∧ Post x w' := by
  obtain ⟨i0, hi, hz0, hz1, hz2⟩ := info_parts infoStr
  have HC := hid hc
  have HSL := hid hs
  have HK := hid hk
  clear hc hs hk
  go_enter Tryz.func67, Tryz.ntmps67
  go_wp2_with fail
  go_loopw [3, 8] (fun ov i wr => ∃ k : Nat, k ≤ L.length ∧ i = .int .i64 k ∧ Hid (wr.ownsRow w.heap.size 9 1 ov (verL (L.take k)).length ((verL (L.take k)).map Value.string)) ∧ Hid (Below w.heap.size w wr)) (fun _ i _ => L.length - (intOf i).toNat)
  case atStart => exact ⟨0, Nat.zero_le _, rfl, hid (World.ownsRow_nil _ _ _ _), hid (Below.refl _ _)⟩
  case round =>
    obtain ⟨k, hk, rfl, HO, HB⟩ := hrel
    by_cases hlt : k < L.length
    · obtain ⟨y0, y1, y2, y3, y4⟩ := HC.out k hlt
      have x0 := cell_below HB.out y0
      have x1 := cell_below HB.out y1
      have x2 := cell_below HB.out y2
      have x3 := cell_below HB.out y3
      have x4 := cell_below HB.out y4
      have hsl := HSL.out L[k] (List.getElem_mem hlt)
      have hkI : (k : Int) < (L.length : Int) := by omega
      have HLT := hid hlt
      have HY := hid (verL_next hlt)
      have hln : (verL (L.take k)).length = k := by rw [verL_len, List.length_take]; omega
      clear y0 y1 y2 y3 y4
      generalize L[k] = x at *
      obtain ⟨⟨p, q⟩, rv, pv, bk⟩ := x
      obtain ⟨⟨ra, rn, rc, hrv⟩, pa, pn, pc, hpv⟩ := hsl
      simp only at hrv hpv
      subst hrv
      subst hpv
      have HBa := hid (HB.out.alloc HB.out.size (.cells #[.string p, .string q, .slice ra rn rc, .slice pa pn pc, .bool bk] 54))
      have HOa := hid (HO.out.alloc (.cells #[.string p, .string q, .slice ra rn rc, .slice pa pn pc, .bool bk] 54))
      clear hlt
      have hzz := HB.out.size
      go_wp2_with (at_builtin; refine wpList_append_own _ rfl _ _ 24 rfl w.heap.size 9 i0 _ 1 16 Tryz.underlying24 hi hz0 hz1 hz2 rfl (by decide) _ _ _ rfl (HOa.out.alloc _) ⟨wr.heap.size + 1, 0, none⟩ 1 1 [.string q] rfl rfl ?c1 ?c2 ?c3 ?c4 ?c5 ?_)
      case c2 => rfl
      case c3 => unfold maxLen; omega
      case c4 => omega
      case c5 => omega
      intro v' w3 hown hgrow _
      have HR3 := hid (rel_app HBa.out.size HBa.out HOa.out (Below.refl _ _) hgrow)
      have HO3 := hid hown
      clear hown hgrow x0 x1 x2 x3 x4
      go_wp2_with fail
      go_roundw
      case rel => exact ⟨k + 1, by have := HLT.out; omega, by go_num, hid (own_nextT (X := verL (L.take k)) (by rw [hln]; exact HO3.out) HY.out), HR3⟩
      case measure => have := HLT.out; simp [intOf]; omega
    · have HTR := hid (show L.take k = L from List.take_of_length_le (by omega))
      rw [HTR.out] at HO
      have hkI : ¬ (k : Int) < (L.length : Int) := by omega
      have HKK := hid (HK.out _ _ HO.out HB.out)
      clear hlt
      go_wp2_with fail
      refine HKK.out.mono ?_
      rintro e w1 ⟨x, rfl, hp⟩
      have HP := hid hp
      clear hp
      go_wp2_with fail
      go_ret
      exact ⟨_, rfl, HP.out⟩
theorem versions_none (a : Option Addr) (c : Nat) (w : World)
    (Post : Value → World → Prop) (hk : Calls Tryz.prog 119 #[.slice none 0 0] w fun e w' => ∃ x, e = .returned x ∧ Post x w') :
    Calls Tryz.prog 67 #[.slice a 0 c] w fun e w' => ∃ x, e = .returned x ∧ Post x w' := by
  have HK := hid hk
  clear hk
  go_enter Tryz.func67, Tryz.ntmps67
  go_wp2_with fail
  go_loopw [3, 8] (fun ov i wr => ov = .slice none 0 0 ∧ i = .int .i64 0 ∧ wr = w) (fun _ i _ => 0)
  case atStart => exact ⟨rfl, rfl, rfl⟩
  case round =>
    obtain ⟨rfl, rfl, rfl⟩ := hrel
    go_wp2_with fail
    refine HK.out.mono ?_
    rintro e w1 ⟨x, rfl, hp⟩
    have HP := hid hp
    clear hp
    go_wp2_with fail
    go_ret
    exact ⟨_, rfl, HP.out⟩
theorem versions_any (L : List Raw) (v : Value) (aT aB : Addr) (m : Int) (w : World) (hL : L.length ≤ 1000) (hz : ∀ r, r ∈ L → r.1.2.size ≤ 80) (S : Vs w aT aB m) (htab : Lib.TabIs Tryz.prog w powName .u64 Lib.pow10Tab) (hv : EsAt w v L) :
    Calls Tryz.prog 67 #[v] w fun e w' => ∃ u, e = .returned u ∧ ∃ X, w'.ownsRow w.heap.size 9 1 u X.length (X.map Value.string) ∧ Kept (verL L) (verL L).length X ∧ Below w.heap.size w w' := by
  obtain ⟨a, c, rfl, _, hs, h⟩ := hv
  cases L with
  | nil => exact versions_none a c w (fun u w' => ∃ X, w'.ownsRow w.heap.size 9 1 u X.length (X.map Value.string) ∧ Kept (verL []) (verL []).length X ∧ Below w.heap.size w w') ((vsort_none w).mono fun e w' ⟨h1, h2⟩ => ⟨_, h1, [], World.ownsRow_nil _ _ _ _, kept_none, h2⟩)
  | cons x r =>
    obtain ⟨b, o, rfl, h2⟩ := h (by simp)
    refine versions_some (x :: r) b o c w hL hs h2 (fun u w' => ∃ X, w'.ownsRow w.heap.size 9 1 u X.length (X.map Value.string) ∧ Kept (verL (x :: r)) (verL (x :: r)).length X ∧ Below w.heap.size w w') fun u W ho hb => ?_
    obtain ⟨a', c', rfl, _, h3⟩ := own_tx ho
    obtain ⟨b', o', rfl, h4⟩ := h3 (by simp [verL])
    refine (vsort_any b' o' c' (verL (x :: r)) aT aB m W (S.below hb) (tab_below htab hb) h4 (by rw [verL_len]; exact hL) (fun y hy => ?_)).mono ?_
    · obtain ⟨r', hr', rfl⟩ := List.mem_map.1 hy
      exact hz r' hr'
    · rintro e w' ⟨u, X, rfl, h5, h6, h7⟩
      exact ⟨u, rfl, X, own_baseN h5 hb.size, h6, hb.trans (h7.mono hb.size)⟩
end Ve
end Go.Proofs.YtanponneancajaaGreatDoor


namespace Go.Proofs.YtanponneancajaaGreatDoor
open Go.RowKit
namespace Ve
def ofP (t : ByteArray) (L : List Raw) : List Raw := L.filter (isP t)
theorem ofP_len (t : ByteArray) (L : List Raw) : (ofP t L).length ≤ L.length := List.length_filter_le _ _
theorem bestR_sub {L : List Raw} {r : Raw} (h : r ∈ bestR L) : r ∈ L := by
  unfold bestR at h
  split at h
  · exact (List.mem_filter.1 (List.mem_filter.1 h).1).1
  · split at h
    · exact (List.mem_filter.1 h).1
    · exact h
theorem bestR_len (L : List Raw) : (bestR L).length ≤ L.length := by
  unfold bestR
  split
  · exact Nat.le_trans (List.length_filter_le _ _) (List.length_filter_le _ _)
  · split
    · exact List.length_filter_le _ _
    · exact Nat.le_refl _
def lastT (X : List ByteArray) : ByteArray := X.getLast?.getD ⟨#[]⟩
theorem lastT_get {X : List ByteArray} (h : 0 < X.length) : lastT X = X[X.length - 1] := by
  unfold lastT
  rw [List.getLast?_eq_getElem?, List.getElem?_eq_getElem (by omega)]; rfl
theorem own_max {W : World} {B n k : Nat} {e : TypeId} {v : Value} {xs : List Value} (h : W.ownsRow B e k v n xs) : n ≤ maxLen := by
  obtain ⟨_, ⟨hv, hn0⟩ | ⟨g, cap, cur, hv, hg, hblk, hcap, hcm, hcs, hct⟩⟩ := h
  · rw [hn0]; exact Nat.zero_le _
  · exact Nat.le_trans hcap hcm
set_option maxRecDepth 100000 in
set_option maxHeartbeats 2000000 in
theorem vers_any (L : List Raw) (t : ByteArray) (v : Value) (aT aB : Addr) (m : Int) (w : World) (hL : L.length ≤ 1000) (hz : ∀ r, r ∈ L → r.1.1.size ≤ 80 ∧ r.1.2.size ≤ 80) (S : Vs w aT aB m) (htab : Lib.TabIs Tryz.prog w powName .u64 Lib.pow10Tab) (hv : EsAt w v L) :
    Calls Tryz.prog 25 #[v, .string t] w fun e w' => ∃ u, e = .returned u ∧ ∃ X, w'.ownsRow w.heap.size 9 1 u X.length (X.map Value.string) ∧ Kept (verL (ofP t L)) (verL (ofP t L)).length X ∧ Below w.heap.size w w' := by
  obtain ⟨a, c, rfl, _⟩ := id hv
  have hsh : shortR L := fun r hr => ⟨by have := (hz r hr).1; omega, by have := (hz r hr).2; omega⟩
  have HP := hid (ofPath_any L t _ aT aB m w (by omega) hsh S hv)
  have HZ := hid hz
  have HS := hid S
  have HT := hid htab
  have hll := ofP_len t L
  clear hv S htab hz hsh
  go_enter Tryz.func25, Tryz.ntmps25
  go_wp2_with fail
  refine HP.out.mono ?_
  rintro e w1 ⟨v1, rfl, he, hb⟩
  have HV := hid (versions_any (ofP t L) v1 aT aB m w1 (by omega) (fun r hr => (HZ.out r (List.mem_filter.1 hr).1).2) (HS.out.below hb) (tab_below HT.out hb) he)
  have HB := hid hb
  obtain ⟨a1, c1, rfl, _⟩ := he
  clear hb
  go_wp2_with fail
  refine HV.out.mono ?_
  rintro e w2 ⟨u, rfl, X, h1, h2, h3⟩
  obtain ⟨ua, uc, hu⟩ := own_slN h1
  subst hu
  have HR := hid (⟨own_baseN h1 HB.out.size, h2, HB.out.trans (h3.mono HB.out.size)⟩ : _ ∧ _ ∧ Below w.heap.size w w2)
  clear h1 h2 h3
  go_wp2_with fail
  go_ret
  exact ⟨_, rfl, X, HR.out⟩
set_option maxRecDepth 100000 in
set_option maxHeartbeats 2000000 in
theorem ibest_any (L : List Raw) (t : ByteArray) (v : Value) (aT aB : Addr) (m : Int) (w : World) (hL : L.length ≤ 1000) (hz : ∀ r, r ∈ L → r.1.1.size ≤ 80 ∧ r.1.2.size ≤ 80) (S : Vs w aT aB m) (htab : Lib.TabIs Tryz.prog w powName .u64 Lib.pow10Tab) (hv : EsAt w v L) :
    Calls Tryz.prog 69 #[v, .string t] w fun e w' => ∃ u, e = .returned u ∧ ∃ X, w'.ownsRow w.heap.size 9 1 u X.length (X.map Value.string) ∧ Kept (verL (bestR (ofP t L))) (verL (bestR (ofP t L))).length X ∧ Below w.heap.size w w' := by
  obtain ⟨a, c, rfl, _⟩ := id hv
  have hsh : shortR L := fun r hr => ⟨by have := (hz r hr).1; omega, by have := (hz r hr).2; omega⟩
  have HP := hid (ofPath_any L t _ aT aB m w (by omega) hsh S hv)
  have HSH := hid (hsh.filter (isP t))
  have HZ := hid hz
  have HS := hid S
  have HT := hid htab
  have hll := ofP_len t L
  have hlb := bestR_len (ofP t L)
  clear hv S htab hz hsh
  go_enter Tryz.func69, Tryz.ntmps69
  go_wp2_with fail
  refine HP.out.mono ?_
  rintro e w1 ⟨v1, rfl, he, hb⟩
  have HBE := hid (best_any (ofP t L) v1 aT aB m w1 (by omega) HSH.out (HS.out.below hb) he)
  have HB := hid hb
  obtain ⟨a1, c1, rfl, _⟩ := he
  clear hb
  go_wp2_with fail
  refine HBE.out.mono ?_
  rintro e w2 ⟨v2, rfl, he, hb⟩
  have HB2 := hid (HB.out.trans (hb.mono HB.out.size))
  have HV := hid (versions_any (bestR (ofP t L)) v2 aT aB m w2 (by omega) (fun r hr => (HZ.out r (List.mem_filter.1 (bestR_sub hr)).1).2) (HS.out.below HB2.out) (tab_below HT.out HB2.out) he)
  obtain ⟨a2, c2, rfl, _⟩ := he
  clear hb
  go_wp2_with fail
  refine HV.out.mono ?_
  rintro e w3 ⟨u, rfl, X, h1, h2, h3⟩
  obtain ⟨ua, uc, hu⟩ := own_slN h1
  subst hu
  have HR := hid (⟨own_baseN h1 HB2.out.size, h2, HB2.out.trans (h3.mono HB2.out.size)⟩ : _ ∧ _ ∧ Below w.heap.size w w3)
  clear h1 h2 h3
  go_wp2_with fail
  go_ret
  exact ⟨_, rfl, X, HR.out⟩
set_option maxRecDepth 100000 in
set_option maxHeartbeats 4000000 in
theorem latest_any (L : List Raw) (t : ByteArray) (v : Value) (aT aB : Addr) (m : Int) (w : World) (hL : L.length ≤ 1000) (hz : ∀ r, r ∈ L → r.1.1.size ≤ 80 ∧ r.1.2.size ≤ 80) (S : Vs w aT aB m) (htab : Lib.TabIs Tryz.prog w powName .u64 Lib.pow10Tab) (hv : EsAt w v L) :
    Calls Tryz.prog 26 #[v, .string t] w fun e w' => ∃ X, e = .returned (.string (lastT X)) ∧ Kept (verL (bestR (ofP t L))) (verL (bestR (ofP t L))).length X ∧ Below w.heap.size w w' := by
  obtain ⟨a, c, rfl, _⟩ := id hv
  have HP := hid (ibest_any L t _ aT aB m w hL hz S htab hv)
  clear hv S htab hz
  go_enter Tryz.func26, Tryz.ntmps26
  go_wp2_with fail
  refine HP.out.mono ?_
  rintro e w3 ⟨u, rfl, X, h1, h2, h3⟩
  obtain ⟨ua, uc, hu, _, hcell⟩ := own_tx h1
  subst hu
  have HR := hid (⟨h2, h3⟩ : _ ∧ Below w.heap.size w w3)
  have HCC := hid hcell
  have hmx := own_max h1
  clear h1 h2 h3 hcell
  by_cases hX : 0 < X.length
  · obtain ⟨b, o, rfl, hcc⟩ := HCC.out (by intro h; rw [h] at hX; simp at hX)
    have hlast := hcc (X.length - 1) (by omega)
    have HLT := hid (lastT_get hX)
    rw [← HLT.out] at hlast
    have hne : ((X.length : Int) == 0) = false := by rw [beq_eq_false_iff_ne]; omega
    have hx1 : (X.length : Int) - 1 = ((X.length - 1 : Nat) : Int) := by omega
    have hx2 : ((X.length - 1 : Nat) : Int) < (X.length : Int) := by omega
    have hw64 : wrap64 ((X.length - 1 : Nat) : Int) = ((X.length - 1 : Nat) : Int) := IntWalk.wrap64_in _ (by unfold maxLen at hmx; omega)
    have htn : ((X.length - 1 : Nat) : Int).toNat = X.length - 1 := Int.toNat_natCast _
    clear hcc
    go_wp2_with fail
    go_ret
    exact ⟨X, rfl, HR.out⟩
  · have hx0 : X = [] := List.eq_nil_of_length_eq_zero (by omega)
    subst hx0
    go_wp2_with fail
    go_ret
    exact ⟨[], rfl, HR.out⟩
end Ve
end Go.Proofs.YtanponneancajaaGreatDoor


namespace Go.Proofs.YtanponneancajaaGreatDoor
open Go.RowKit
namespace Ve
theorem cbt : ∀ (a b c : List UInt8), Lib.compareBytes a b < 0 → Lib.compareBytes b c < 0 → Lib.compareBytes a c < 0 := by
  intro a
  induction a with
  | nil =>
    intro b c h1 h2
    cases c with
    | nil => cases b <;> simp [Lib.compareBytes] at h2
    | cons z c => simp [Lib.compareBytes]
  | cons x a ih =>
    intro b c h1 h2
    cases b with
    | nil => simp [Lib.compareBytes] at h1
    | cons y b =>
      cases c with
      | nil => simp [Lib.compareBytes] at h2
      | cons z c =>
        simp only [Lib.compareBytes] at h1 h2 ⊢
        by_cases e1 : x < y
        · by_cases e2 : y < z
          · rw [if_pos (UInt8.lt_trans e1 e2)]; omega
          · rw [if_neg e2] at h2
            by_cases e3 : z < y
            · rw [if_pos e3] at h2; omega
            · have : y = z := UInt8.le_antisymm (UInt8.not_lt.1 e3) (UInt8.not_lt.1 e2)
              subst this
              rw [if_pos e1]; omega
        · rw [if_neg e1] at h1
          by_cases e2 : y < x
          · rw [if_pos e2] at h1; omega
          · have : x = y := UInt8.le_antisymm (UInt8.not_lt.1 e2) (UInt8.not_lt.1 e1)
            subst this
            rw [if_neg e2] at h1
            by_cases e3 : x < z
            · rw [if_pos e3]; omega
            · rw [if_neg e3] at h2 ⊢
              by_cases e4 : z < x
              · rw [if_pos e4] at h2; omega
              · rw [if_neg e4] at h2 ⊢
                exact ih b c h1 h2
def lt (a b : ByteArray) : Bool := decide (Lib.compareBytes a.data.toList b.data.toList < 0)
theorem lt_trans {a b c : ByteArray} (h1 : lt a b = true) (h2 : lt b c = true) : lt a c = true := decide_eq_true (cbt _ _ _ (of_decide_eq_true h1) (of_decide_eq_true h2))
theorem lt_irrefl (a : ByteArray) : lt a a = false := by
  unfold lt; rw [(cb_zero _ _).2 rfl]; rfl
theorem lt_asymm {a b : ByteArray} (h : lt a b = true) : lt b a = false := by
  cases h2 : lt b a
  · rfl
  · have := lt_trans h h2
    rw [lt_irrefl] at this; cases this
theorem lt_three (a b : ByteArray) : lt a b = true ∨ a = b ∨ lt b a = true := by
  rcases cb_range a.data.toList b.data.toList with h | h | h
  · exact Or.inl (decide_eq_true (by omega))
  · exact Or.inr (Or.inl (str_ext ((cb_zero _ _).1 h)))
  · refine Or.inr (Or.inr (decide_eq_true ?_))
    rw [cb_swap]; omega
theorem noLess_lt (a b : ByteArray) : noLess a b = !lt a b := rfl
def rising (R : List Bm) : Prop := R.Pairwise (fun a b => lt a.1 b.1 = true)
end Ve
end Go.Proofs.YtanponneancajaaGreatDoor


namespace Go.Proofs.YtanponneancajaaGreatDoor
open Go.RowKit
namespace Ve
theorem mAhead_trans {a b c : Bm} (h1 : mAhead a b = true) (h2 : mAhead b c = true) : mAhead a c = true := by
  unfold mAhead aheadB at *
  by_cases e1 : a.1.data.toList = b.1.data.toList
  · rw [if_pos e1] at h1
    rw [e1]
    by_cases e2 : b.1.data.toList = c.1.data.toList
    · rw [if_pos e2] at h2 ⊢
      unfold lessB at *
      simp only [Bool.and_eq_true, decide_eq_true_eq] at *
      exact ⟨h1.1, h2.2.1, ordV_trans h1.2.2 h2.2.2⟩
    · rw [if_neg e2] at h2 ⊢; exact h2
  · rw [if_neg e1] at h1
    by_cases e2 : b.1.data.toList = c.1.data.toList
    · rw [← e2, if_neg e1]; exact h1
    · rw [if_neg e2] at h2
      have h3 := cbt _ _ _ (of_decide_eq_true h1) (of_decide_eq_true h2)
      by_cases e3 : a.1.data.toList = c.1.data.toList
      · rw [e3] at h3
        have := lt_irrefl c.1
        unfold lt at this
        exact absurd h3 (of_decide_eq_false this)
      · rw [if_neg e3]; exact decide_eq_true h3
theorem mAhead_irr (a : Bm) : mAhead a a = false := by
  unfold mAhead aheadB
  rw [if_pos rfl]
  unfold lessB
  have : ¬ ordV a.2.data.toList a.2.data.toList < 0 := fun h => ordV_irr h h
  rw [decide_eq_false this, Bool.and_false, Bool.and_false]
theorem chk_each0 {Q : List Raw} {L : List Ent} (h : (chk Q L).1 = 0) : L.length ≤ 100 ∧ ∀ i, i < L.length → entE L i = 0 := by
  by_cases h1 : 100 < L.length
  · rw [chk_full h1] at h; exact absurd h (by decide)
  · refine ⟨by omega, ?_⟩
    cases hf : fstE (entE L) L.length with
    | some i =>
      rw [chk_each h1 hf] at h
      exact absurd h (fstE_of_some hf).2.1
    | none => exact fstE_of_none hf
theorem entE_mod {L : List Ent} {i : Nat} (hi : i < L.length) (h : entE L i = 0) : mErr L[i].1 = 0 := by
  by_cases hm : mErr L[i].1 = 0
  · exact hm
  · unfold entE at h
    rw [List.getElem?_eq_getElem hi] at h
    simp only at h
    rw [entW_bad hm] at h
    exact absurd h hm
theorem entE_ahead {L : List Ent} {k : Nat} (hk : k + 1 < L.length) (h : entE L (k + 1) = 0) : mAhead (L[k]'(by omega)).1 L[k + 1].1 = true := by
  have hm := entE_mod hk h
  rw [entE_1 hk] at h
  cases ha : mAhead (L[k]'(by omega)).1 L[k + 1].1
  · rw [entW_order hm ha] at h; exact absurd h (by decide)
  · rfl
theorem ahead_all {L : List Ent} (h : ∀ i, i < L.length → entE L i = 0) : ∀ (d i : Nat) (hi : i + d + 1 < L.length), mAhead (L[i]'(by omega)).1 (L[i + d + 1]'hi).1 = true
  | 0, i, hi => entE_ahead hi (h _ hi)
  | d + 1, i, hi => mAhead_trans (ahead_all h d i (by omega)) (entE_ahead (k := i + d + 1) hi (h _ hi))
structure Good (Q : List Raw) : Prop where
  ver : ∀ r, r ∈ Q → verErr r.1.2.data.toList = 0
  path : ∀ r, r ∈ Q → pathErr r.1.1.data.toList = 0
  one : ∀ i j (hi : i < Q.length) (hj : j < Q.length), Q[i].1 = Q[j].1 → i = j
theorem mErr_zero {m : Bm} (h : mErr m = 0) : pathErr m.1.data.toList = 0 ∧ verErr m.2.data.toList = 0 := by
  unfold mErr modErr at h
  by_cases h0 : pathErr m.1.data.toList = 0
  · rw [if_pos h0] at h
    by_cases h1 : verErr m.2.data.toList = 0
    · exact ⟨h0, h1⟩
    · rw [if_neg h1] at h; exact absurd h h1
  · rw [if_neg h0] at h; exact absurd h h0
theorem good_of {w : World} {v : Value} {Q : List Raw} {L : List Ent} (I : Ixs w v Q L) (h : (chk Q L).1 = 0) : Good Q := by
  obtain ⟨_, he⟩ := chk_each0 h
  have hm : ∀ i (hi : i < Q.length), Q[i].1 = (L[i]'(by rw [← I.ln]; exact hi)).1 := fun i hi => (I.ok i hi (by rw [← I.ln]; exact hi)).m
  have hz : ∀ i (hi : i < Q.length), pathErr Q[i].1.1.data.toList = 0 ∧ verErr Q[i].1.2.data.toList = 0 := fun i hi => by
    rw [hm i hi]; exact mErr_zero (entE_mod _ (he i (by rw [← I.ln]; exact hi)))
  refine ⟨fun r hr => ?_, fun r hr => ?_, ?_⟩
  · obtain ⟨i, hi, rfl⟩ := List.getElem_of_mem hr
    exact (hz i hi).2
  · obtain ⟨i, hi, rfl⟩ := List.getElem_of_mem hr
    exact (hz i hi).1
  · have key : ∀ i j (hi : i < Q.length) (hj : j < Q.length), i < j → Q[i].1 ≠ Q[j].1 := fun i j hi hj hij e => by
      have ha := ahead_all he (j - i - 1) i (by rw [← I.ln]; omega)
      have hjj : i + (j - i - 1) + 1 = j := by omega
      simp only [hjj] at ha
      rw [← hm i hi, ← hm j hj, e, mAhead_irr] at ha
      cases ha
    intro i j hi hj e
    rcases Nat.lt_trichotomy i j with h1 | h1 | h1
    · exact absurd e (key i j hi hj h1)
    · exact h1
    · exact absurd e.symm (key j i hj hi h1)
theorem Good.same {Q : List Raw} (g : Good Q) {r s : Raw} (hr : r ∈ Q) (hs : s ∈ Q) (h : r.1 = s.1) : r = s := by
  obtain ⟨i, hi, rfl⟩ := List.getElem_of_mem hr
  obtain ⟨j, hj, rfl⟩ := List.getElem_of_mem hs
  have := g.one i j hi hj h
  subst this; rfl
theorem Good.find {Q : List Raw} (g : Good Q) {r : Raw} (hr : r ∈ Q) : ∃ n, ∃ hn : n < Q.length, idxOf (isM r.1) Q = (n : Int) ∧ Q[n] = r := by
  obtain ⟨i, hi, e⟩ := List.getElem_of_mem hr
  refine ⟨i, hi, idx_hit hi (fun j hj hji => ?_) (by rw [e]; unfold isM; simp), e⟩
  unfold isM
  rw [decide_eq_false]
  rintro ⟨h1, h2⟩
  have := g.one j i hj hi (by rw [e]; exact Prod.ext h1 h2)
  omega
end Ve
end Go.Proofs.YtanponneancajaaGreatDoor


namespace Go.Proofs.YtanponneancajaaGreatDoor
open Go.RowKit
namespace Ve
theorem Good.ofP {Q : List Raw} (g : Good Q) (t : ByteArray) : ofP t Q = Q.filter fun r => decide (r.1.1 = t) := by
  unfold Ve.ofP
  refine List.filter_congr fun r hr => ?_
  unfold isP
  rw [decide_eq_true (g.ver r hr), Bool.and_true]
theorem Good.ofP_mem {Q : List Raw} (g : Good Q) {t : ByteArray} {r : Raw} : r ∈ Ve.ofP t Q ↔ r ∈ Q ∧ r.1.1 = t := by
  rw [g.ofP t, List.mem_filter, decide_eq_true_iff]
theorem kept_mem {L X : List ByteArray} (hK : Kept L L.length X) (hv : ∀ x, x ∈ L → verErr x.data.toList = 0) (t : List UInt8) : t ∈ bl X ↔ t ∈ bl L := by
  have := hK.2 t
  rw [List.take_length] at this
  rw [this]
  constructor
  · exact fun h => h.1
  · intro h
    refine ⟨h, ?_⟩
    obtain ⟨x, hx, rfl⟩ := List.mem_map.1 h
    exact hv x hx
theorem rises_nd {l : List (List UInt8)} (h : rises l) : l.Nodup := List.Pairwise.imp (fun {a b} h e => by subst e; exact ordV_irr h h) h
theorem verL_ok {Q R : List Raw} (g : Good Q) (hR : ∀ r, r ∈ R → r ∈ Q) : ∀ x, x ∈ verL R → verErr x.data.toList = 0 := fun x hx => by
  obtain ⟨r, hr, rfl⟩ := List.mem_map.1 hx
  exact g.ver r (hR r hr)
theorem ofP_sub {Q : List Raw} {t : ByteArray} : ∀ r, r ∈ ofP t Q → r ∈ Q := fun _ hr => (List.mem_filter.1 hr).1
theorem kept_has {Q R : List Raw} (g : Good Q) (hR : ∀ r, r ∈ R → r ∈ Q) {X : List ByteArray} (hK : Kept (verL R) (verL R).length X) {x : ByteArray} (hx : x ∈ X) : ∃ r, r ∈ R ∧ r.1.2 = x := by
  have h1 : x.data.toList ∈ bl X := List.mem_map.2 ⟨x, hx, rfl⟩
  obtain ⟨y, hy, e⟩ := List.mem_map.1 ((kept_mem hK (verL_ok g hR) _).1 h1)
  obtain ⟨r, hr, rfl⟩ := List.mem_map.1 hy
  exact ⟨r, hr, str_ext e⟩
theorem kept_in {Q R : List Raw} (g : Good Q) (hR : ∀ r, r ∈ R → r ∈ Q) {X : List ByteArray} (hK : Kept (verL R) (verL R).length X) {r : Raw} (hr : r ∈ R) : r.1.2 ∈ X := by
  have h1 : r.1.2.data.toList ∈ bl (verL R) := List.mem_map.2 ⟨r.1.2, List.mem_map.2 ⟨r, hr, rfl⟩, rfl⟩
  obtain ⟨y, hy, e⟩ := List.mem_map.1 ((kept_mem hK (verL_ok g hR) _).2 h1)
  rw [← str_ext e]; exact hy
theorem bestR_ne {L : List Raw} (h : L ≠ []) : bestR L ≠ [] := by
  unfold bestR
  split
  · rename_i h1; intro e; rw [e] at h1; simp at h1
  · split
    · rename_i h1; intro e; rw [e] at h1; simp at h1
    · exact h
theorem kept_last {Q R : List Raw} (g : Good Q) (hR : ∀ r, r ∈ R → r ∈ Q) (hne : R ≠ []) {X : List ByteArray} (hK : Kept (verL R) (verL R).length X) :
    (∃ r, r ∈ R ∧ r.1.2 = lastT X) ∧ ∀ s, s ∈ R → ¬ ordV (lastT X).data.toList s.1.2.data.toList < 0 := by
  have hX : 0 < X.length := by
    obtain ⟨r, hr⟩ := List.exists_mem_of_ne_nil R hne
    exact List.length_pos_of_mem (kept_in g hR hK hr)
  have hl := lastT_get hX
  refine ⟨?_, fun s hs h => ?_⟩
  · rw [hl]; exact kept_has g hR hK (List.getElem_mem _)
  · have hin := kept_in g hR hK hs
    obtain ⟨j, hj, e⟩ := List.getElem_of_mem hin
    have hr := hK.1
    unfold rises at hr
    have hbl : (bl X).length = X.length := bl_len X
    rw [hl, ← e] at h
    by_cases hjl : j = X.length - 1
    · subst hjl; exact ordV_irr h h
    · have h2 := List.pairwise_iff_getElem.1 hr j (X.length - 1) (by omega) (by omega) (by omega)
      have g1 : (bl X)[j]'(by omega) = X[j].data.toList := by simp [bl]
      have g2 : (bl X)[X.length - 1]'(by omega) = (X[X.length - 1]'(by omega)).data.toList := by simp [bl]
      rw [g1, g2] at h2
      exact ordV_irr h h2
structure One (Q : List Raw) (t v : ByteArray) (n : Nat) : Prop where
  lt : n < Q.length
  idx : idxOf (isM (t, v)) Q = (n : Int)
  ver : verErr v.data.toList = 0
  mem : Q[n]'lt ∈ ofP t Q
  same : (Q[n]'lt).1.2 = v
theorem one_of {Q : List Raw} (g : Good Q) {t v : ByteArray} {X : List ByteArray} (hK : Kept (verL (ofP t Q)) (verL (ofP t Q)).length X) (hv : v ∈ X) : ∃ n, One Q t v n := by
  obtain ⟨r, hr, e⟩ := kept_has g ofP_sub hK hv
  have hrq := g.ofP_mem.1 hr
  obtain ⟨n, hn, hi, hq⟩ := g.find hrq.1
  have hm : r.1 = (t, v) := Prod.ext hrq.2 e
  exact ⟨n, hn, by rw [← hm]; exact hi, by rw [← e]; exact g.ver r hrq.1, by rw [hq]; exact hr, by rw [hq]; exact e⟩
end Ve
end Go.Proofs.YtanponneancajaaGreatDoor


namespace Go.Proofs.YtanponneancajaaGreatDoor
open Go.RowKit
namespace Ve
def verB (l : List UInt8) : Nat := if 1 ∈ (coreOf l).map ncode ∨ 1 ∈ (preOf l).map part then 1 else if 2 ∈ (coreOf l).map ncode ∨ 2 ∈ (preOf l).map part ∨ 5 < (preOf l).length then 2 else 0
theorem verB_eq (l : List UInt8) : verB l = worse (numsErr (coreOf l)) (pre (preOf l)) := by
  unfold pre
  rw [numsErr_ncode, preTo_worst _ (by split <;> simp)]
  unfold verB worst worse
  by_cases a : 1 ∈ (coreOf l).map ncode <;> by_cases b : 1 ∈ (preOf l).map part <;> by_cases c : 2 ∈ (coreOf l).map ncode <;> by_cases d : 2 ∈ (preOf l).map part <;> by_cases e : 5 < (preOf l).length <;> simp [a, b, c, d, e]
set_option maxRecDepth 100000 in
set_option maxHeartbeats 16000000 in
theorem verOf_B (s : ByteArray) (w : World) (hs : s.size < 4294967281) (hmk : marked s.data.toList = true) (hp : hasPre s.data.toList = true) (h3 : (coreOf s.data.toList).length = 3) :
    Calls Tryz.prog 8 #[.string s] w fun e w' => (verB s.data.toList ≠ 0 ∧ e = .returned (.tuple #[.agg #[.int .i64 0, .int .i64 0, .int .i64 0, .slice none 0 0], .int .i64 (verB s.data.toList : Nat)]) ∨
      verB s.data.toList = 0 ∧ ∃ g cap X2, e = .returned (.tuple #[.agg #[.int .i64 (nAt s.data.toList 0), .int .i64 (nAt s.data.toList 1), .int .i64 (nAt s.data.toList 2), .slice (some ⟨g, 0, none⟩) X2.length cap], .int .i64 0]) ∧ bl X2 = preOf s.data.toList ∧ X2 ≠ [] ∧ ∀ j (hj : j < X2.length), w'.cell? ⟨g, j, none⟩ = some (.string X2[j])) ∧ Below w.heap.size w w' := by
  have H3 := hid h3
  clear h3
  obtain ⟨dj, hd1, hdl, hdc, hdn, hd2, hd3, hcore⟩ := dash hmk hp
  obtain ⟨hpos, hv0⟩ := marked_pos hmk
  have HDN := hid hdn
  have HD2 := hid hd2
  have HD3 := hid hd3
  have HCO := hid hcore
  have h0b : ((s.size : Int) == 0) = false := beq_eq_false_iff_ne.2 (by omega)
  have HMK := hid hmk
  have HPP := hid hp
  clear hdn hd2 hd3 hcore hmk hp
  go_enter Tryz.func8, Tryz.ntmps8
  go_wp2_with fail
  go_loop [4, 5, 6, 7] (fun hd pr hs i => (∃ k : Nat, k ≤ dj ∧ i = .int .i64 k ∧ hd = .string (s.extract 1 s.size) ∧ pr = .string ⟨#[]⟩ ∧ hs = .bool false) ∨ (i = .int .i64 ((dj : Int) + 1) ∧ hd = .string (s.extract 1 dj) ∧ pr = .string (s.extract (dj + 1) s.size) ∧ hs = .bool true)) (fun _ _ _ i => s.size + 1 - (intOf i).toNat)
  case atStart => exact Or.inl ⟨0, Nat.zero_le _, rfl, rfl, rfl, rfl⟩
  case round =>
    rcases hrel with ⟨k, hk, rfl, rfl, rfl, rfl⟩ | ⟨rfl, rfl, rfl, rfl⟩
    · have hlt : k < s.size := by omega
      by_cases hkd : k = dj
      · subst hkd
        have h1k : (1 : Int) ≤ (k : Int) := by omega
        have h2k : (k : Int) ≤ (s.size : Int) := by omega
        go_wp2_with fail
        go_round
        case rel => exact Or.inr ⟨rfl, rfl, rfl, rfl⟩
        case measure => simp [intOf]; omega
      · have hn := HDN.out k (by omega) hlt
        go_wp2_with fail
        go_round
        case rel => exact Or.inl ⟨k + 1, by omega, by go_num, rfl, rfl, rfl⟩
        case measure => simp [intOf]; omega
    · have hes : (s.extract 1 dj).size < 4294967281 := by rw [ByteArray.size_extract]; omega
      have hps : (s.extract (dj + 1) s.size).size < 4294967281 := by rw [ByteArray.size_extract]; omega
      have HEX := HD2
      generalize s.extract 1 dj = C at *
      generalize s.extract (dj + 1) s.size = D at *
      have HZZ := hid hdl
      by_cases hx : (dj : Int) + 1 < (s.size : Int)
      all_goals
        have HB0 := hid ((Below.refl w.heap.size w).alloc (Nat.le_refl _) (.cells #[.int .i64 0, .int .i64 0, .int .i64 0, .slice none 0 0] 26))
        go_wp2_with fail
        refine (rcut46 C _ hes).mono ?_
        rintro e w2 ⟨v, X, rfl, hX, hown, hb⟩
        have hXc : bl X = coreOf s.data.toList := by rw [hX, HCO.out]
        have HXC := hid hXc
        have HB2 := hid (show Below (w.heap.size + 1) (w.alloc (.cells #[.int .i64 0, .int .i64 0, .int .i64 0, .slice none 0 0] 26)) w2 from hb.mono (by simp))
        have HXN := hid (show X ≠ [] from fun h => by subst h; exact cutAt_ne _ _ hX.symm)
        have hXl : X.length = (coreOf s.data.toList).length := by rw [← hXc, bl_len]
        have HXZ := hid (show ∀ x, x ∈ X → x.size ≤ maxLen from fun x hx => by have := piece_le hX hx; unfold maxLen; omega)
        obtain ⟨g, cap, rfl, hg, hgz, hcells⟩ := owned_cells hown HXN.out
        have HG := hid hg
        have HGZ := hid hgz
        have HCE := hid hcells
        have HXL := hid hXl
        have hXle := many_le hX
        clear hX hXc hown hb hXl hg hgz hcells
        have hX3 : X.length = 3 := by rw [HXL.out, H3.out]
        have h3b : ((X.length : Int) == 3) = true := beq_iff_eq.2 (by omega)
        have HBM := hid ((Below.refl w2.heap.size w2).alloc (Nat.le_refl _) (.cells #[.int .i64 0, .int .i64 0, .int .i64 0, .slice none 0 0] 26))
        have hN2 : w.heap.size < w2.heap.size := by have := HB2.out.size; simp at this; omega
        go_wp2_with fail
        go_loopw [10, 11] (fun bd i wr => ∃ k : Nat, k ≤ 3 ∧ i = .int .i64 k ∧ bd = .bool (decide (2 ∈ (bl (X.take k)).map ncode)) ∧ Hid (1 ∉ (bl (X.take k)).map ncode) ∧ Hid (∀ i, i < 3 → wr.cell? ⟨w2.heap.size, i, none⟩ = some (.int .i64 (nTo s.data.toList k i))) ∧
            wr.cell? ⟨w2.heap.size, 3, none⟩ = some (.slice none 0 0) ∧ Hid (∀ o, wr.frozen? ⟨w2.heap.size, o, none⟩ = false) ∧ Below w2.heap.size w2 wr) (fun _ i _ => 3 - (intOf i).toNat)
        case atStart =>
          refine ⟨0, by omega, rfl, rfl, hid (by simp [bl]), hid ?_, by simp, hid (by simp), HBM.out⟩
          intro i hi
          match i, hi with
          | 0, _ => simp [nTo]
          | 1, _ => simp [nTo]
          | 2, _ => simp [nTo]
        case round =>
          obtain ⟨k, hk, rfl, rfl, H1, HCS, c3, HFZ, hbr⟩ := hrel
          have HBR := hid hbr
          have HBW := hid (show Below (w.heap.size + 1) (w.alloc (.cells #[.int .i64 0, .int .i64 0, .int .i64 0, .slice none 0 0] 26)) wr from HB2.out.trans (hbr.mono (by omega)))
          have HBF := hid (HB0.out.trans (HBW.out.mono (by omega)))
          obtain ⟨⟨r0, r1, r2, r3⟩, rf, rz⟩ := res4 HBW.out
          clear hbr
          by_cases hlt : k < 3
          · have hkX : k < X.length := by omega
            have hcell := cell_below HBR.out (HCE.out k hkX)
            have HNU := hid (numberOf_any X[k] wr (HXZ.out X[k] (List.getElem_mem hkX)))
            have HNA := hid (nAt_eq HXC.out k hkX)
            have HSN := hid (show (bl (X.take (k + 1))).map ncode = (bl (X.take k)).map ncode ++ [ncode X[k].data.toList] by rw [bl_take_snoc X k hkX, List.map_append]; rfl)
            have HQ := hid (show (num X[k].data.toList).2 = ncode X[k].data.toList from rfl)
            have HE := hid (show ncode X[k].data.toList = 0 ∨ ncode X[k].data.toList = 1 ∨ ncode X[k].data.toList = 2 from num_err _)
            rw [HQ.out, HNA.out] at HNU
            have hck := HCS.out k hlt
            have hfk := HFZ.out k
            rcases HE.out with hq | hq | hq
            · cases hbd : decide (2 ∈ (bl (X.take k)).map ncode)
              · have HN1 := hid (show 1 ∉ (bl (X.take (k + 1))).map ncode by rw [HSN.out, hq]; simpa using H1.out)
                have HFL := hid (show Value.bool false = Value.bool (decide (2 ∈ (bl (X.take (k + 1))).map ncode)) by
                  rw [HSN.out, hq]
                  congr 1
                  have := hbd
                  simp only [decide_eq_false_iff_not] at this
                  simp [this])
                rw [hq] at HNU
                clear hq hbd
                go_wp2_with fail
                refine HNU.out.mono ?_
                rintro e w' ⟨rfl, rfl⟩
                go_wp2_with fail
                go_roundw
                case rel => exact ⟨k + 1, by omega, by go_num, HFL.out, HN1, hid (cells_set HCS.out hlt), by rw [World.cell?_setCell_other (h := fun hh => by have := congrArg Addr.off hh; simp at this; omega)]; exact c3, hid (fun o => by simpa using HFZ.out o), HBR.out.setCell (Nat.le_refl _) _⟩
                case measure => simp [intOf]; omega
              · have HN1 := hid (show 1 ∉ (bl (X.take (k + 1))).map ncode by rw [HSN.out, hq]; simpa using H1.out)
                have HFL := hid (show Value.bool true = Value.bool (decide (2 ∈ (bl (X.take (k + 1))).map ncode)) by
                  rw [HSN.out, hq]
                  congr 1
                  have := hbd
                  simp only [decide_eq_true_eq] at this
                  simp [this])
                rw [hq] at HNU
                clear hq hbd
                go_wp2_with fail
                refine HNU.out.mono ?_
                rintro e w' ⟨rfl, rfl⟩
                go_wp2_with fail
                go_roundw
                case rel => exact ⟨k + 1, by omega, by go_num, HFL.out, HN1, hid (cells_set HCS.out hlt), by rw [World.cell?_setCell_other (h := fun hh => by have := congrArg Addr.off hh; simp at this; omega)]; exact c3, hid (fun o => by simpa using HFZ.out o), HBR.out.setCell (Nat.le_refl _) _⟩
                case measure => simp [intOf]; omega
            · have HRES := hid (show verB s.data.toList = 1 by
                unfold verB
                rw [← HXC.out]
                have hm : 1 ∈ (bl X).map ncode := by
                  rw [← hq]
                  exact List.mem_map.2 ⟨_, bl_mem (List.getElem_mem hkX), rfl⟩
                rw [if_pos (Or.inl hm)])
              rw [hq] at HNU
              clear hq
              go_wp2_with fail
              refine HNU.out.mono ?_
              rintro e w' ⟨rfl, rfl⟩
              go_wp2_with fail
              refine bodyPost_ret (v := .tuple #[.agg #[.int .i64 0, .int .i64 0, .int .i64 0, .slice none 0 0], .int .i64 1]) (by simp [results, Tryz.results8, go_sem, r0, r1, r2, r3]) rfl ⟨Or.inl ⟨by rw [HRES.out]; decide, by rw [HRES.out]; rfl⟩, ?_⟩
              exact (((HBF.out.setCell (Nat.le_refl _) _).setCell (Nat.le_refl _) _).setCell (Nat.le_refl _) _).setCell (Nat.le_refl _) _
            · cases hbd : decide (2 ∈ (bl (X.take k)).map ncode)
              · have HN1 := hid (show 1 ∉ (bl (X.take (k + 1))).map ncode by rw [HSN.out, hq]; simpa using H1.out)
                have HFL := hid (show Value.bool true = Value.bool (decide (2 ∈ (bl (X.take (k + 1))).map ncode)) by
                  rw [HSN.out, hq]
                  congr 1
                  have := hbd
                  simp only [decide_eq_false_iff_not] at this
                  simp [this])
                rw [hq] at HNU
                clear hq hbd
                go_wp2_with fail
                refine HNU.out.mono ?_
                rintro e w' ⟨rfl, rfl⟩
                go_wp2_with fail
                go_roundw
                case rel => exact ⟨k + 1, by omega, by go_num, HFL.out, HN1, hid (cells_set HCS.out hlt), by rw [World.cell?_setCell_other (h := fun hh => by have := congrArg Addr.off hh; simp at this; omega)]; exact c3, hid (fun o => by simpa using HFZ.out o), HBR.out.setCell (Nat.le_refl _) _⟩
                case measure => simp [intOf]; omega
              · have HN1 := hid (show 1 ∉ (bl (X.take (k + 1))).map ncode by rw [HSN.out, hq]; simpa using H1.out)
                have HFL := hid (show Value.bool true = Value.bool (decide (2 ∈ (bl (X.take (k + 1))).map ncode)) by
                  rw [HSN.out, hq]
                  congr 1
                  have := hbd
                  simp only [decide_eq_true_eq] at this
                  simp [this])
                rw [hq] at HNU
                clear hq hbd
                go_wp2_with fail
                refine HNU.out.mono ?_
                rintro e w' ⟨rfl, rfl⟩
                go_wp2_with fail
                go_roundw
                case rel => exact ⟨k + 1, by omega, by go_num, HFL.out, HN1, hid (cells_set HCS.out hlt), by rw [World.cell?_setCell_other (h := fun hh => by have := congrArg Addr.off hh; simp at this; omega)]; exact c3, hid (fun o => by simpa using HFZ.out o), HBR.out.setCell (Nat.le_refl _) _⟩
                case measure => simp [intOf]; omega
          · have hk3 : k = 3 := by omega
            subst hk3
            have hXt : X.take 3 = X := List.take_of_length_le (by omega)
            rw [hXt, HXC.out] at H1 ⊢
            generalize hfb : decide (2 ∈ (coreOf s.data.toList).map ncode) = fb at *
            have HFB := hid hfb
            clear hfb
            have q0 : wr.cell? ⟨w2.heap.size, 0, none⟩ = some (.int .i64 (nAt s.data.toList 0)) := HCS.out 0 (by omega)
            have q1 : wr.cell? ⟨w2.heap.size, 1, none⟩ = some (.int .i64 (nAt s.data.toList 1)) := HCS.out 1 (by omega)
            have q2 : wr.cell? ⟨w2.heap.size, 2, none⟩ = some (.int .i64 (nAt s.data.toList 2)) := HCS.out 2 (by omega)
            have HQ0 := hid q0
            have HQ1 := hid q1
            have HQ2 := hid q2
            have HC3 := hid c3
            have hM : w2.heap.size < wr.heap.size := lt_of_cell c3
            clear hXt q0 q1 q2 c3
            go_wp2_with fail
            refine (rcut46 D _ hps).mono ?_
            rintro e w5 ⟨v2, X2, rfl, hX2, hown2, hb5⟩
            have hPX : bl X2 = preOf s.data.toList := by rw [hX2, HD3.out]; unfold preOf; rw [HPP.out, rest_drop HMK.out]; rfl
            obtain ⟨g2, cap2, rfl, hg2, hgz2, hcells2⟩ := owned_cells hown2 (show X2 ≠ [] from fun h => by subst h; exact cutAt_ne _ _ hX2.symm)
            have HX2N := hid (show X2 ≠ [] from fun h => by subst h; exact cutAt_ne _ _ hX2.symm)
            have HPX := hid hPX
            have HCE2 := hid hcells2
            have HX2Z := hid (show ∀ x, x ∈ X2 → x.size ≤ maxLen from fun x hx => by have := piece_le hX2 hx; unfold maxLen; omega)
            have hX2le := many_le hX2
            have p0 := cell_below hb5 HQ0.out
            have p1 := cell_below hb5 HQ1.out
            have p2 := cell_below hb5 HQ2.out
            have p3 := cell_below hb5 HC3.out
            have pf : ∀ o, w5.frozen? ⟨w2.heap.size, o, none⟩ = false := fun o => by rw [hb5.frozen hM]; exact HFZ.out o
            have HBW5 := hid (HBW.out.trans (hb5.mono (by omega)))
            have HBF := hid (HB0.out.trans (HBW5.out.mono (by omega)))
            obtain ⟨⟨r0, r1, r2, r3⟩, rf, rz⟩ := res4 HBW5.out
            have hg2M : ¬ g2 = w2.heap.size := by omega
            have hg2N : ¬ g2 = w.heap.size := by omega
            have hMN : ¬ w2.heap.size = w.heap.size := by omega
            have HZ5 := hid hb5.size
            have HPL := hid (show (preOf s.data.toList).length = X2.length by rw [← hPX, bl_len])
            clear hX2 hown2 hb5 hPX hcells2 hg2 hgz2
            go_wp2_with fail
            generalize hW : w5.setCell ⟨w2.heap.size, 3, none⟩ (.slice (some ⟨g2, 0, none⟩) X2.length cap2) = W at *
            have m3 : W.cell? ⟨w2.heap.size, 3, none⟩ = some (.slice (some ⟨g2, 0, none⟩) X2.length cap2) := by rw [← hW]; exact World.cell?_setCell_same _ _ _ p3
            have m0 : W.cell? ⟨w2.heap.size, 0, none⟩ = some (.int .i64 (nAt s.data.toList 0)) := by rw [← hW, World.cell?_setCell_other (h := by simp)]; exact p0
            have m1 : W.cell? ⟨w2.heap.size, 1, none⟩ = some (.int .i64 (nAt s.data.toList 1)) := by rw [← hW, World.cell?_setCell_other (h := by simp)]; exact p1
            have m2 : W.cell? ⟨w2.heap.size, 2, none⟩ = some (.int .i64 (nAt s.data.toList 2)) := by rw [← hW, World.cell?_setCell_other (h := by simp)]; exact p2
            have HBW := hid (show Below (w.heap.size + 1) (w.alloc (.cells #[.int .i64 0, .int .i64 0, .int .i64 0, .slice none 0 0] 26)) W by rw [← hW]; exact HBW5.out.setCell (by show w.heap.size + 1 ≤ w2.heap.size; omega) _)
            have HBF := hid (HB0.out.trans (HBW.out.mono (by omega)))
            have HCEW := hid (show ∀ j (hj : j < X2.length), W.cell? ⟨g2, j, none⟩ = some (.string X2[j]) from fun j hj => by rw [← hW, World.cell?_setCell_other (h := fun hh => hg2M (congrArg Addr.block hh).symm)]; exact HCE2.out j hj)
            clear p0 p1 p2 p3 pf r0 r1 r2 r3 rf rz hW
            obtain ⟨⟨r0, r1, r2, r3⟩, rf, rz⟩ := res4 HBW.out
            go_loop [10, 14] (fun bd i => ∃ j : Nat, j ≤ X2.length ∧ i = .int .i64 j ∧ bd = .bool (fb || (bl (X2.take j)).any (fun p => part p == 2)) ∧ Hid (1 ∉ (bl (X2.take j)).map part)) (fun _ i => X2.length - (intOf i).toNat)
            case atStart => exact ⟨0, Nat.zero_le _, rfl, by simp [bl], hid (by simp [bl])⟩
            case round =>
              obtain ⟨j, hj, rfl, rfl, HP1⟩ := hrel
              generalize hbj : (fb || (bl (X2.take j)).any (fun p => part p == 2)) = bj at *
              have HBJ := hid hbj
              clear hbj
              by_cases hjX : j < X2.length
              · have hcell2 := HCEW.out j hjX
                have HPZ := hid (HX2Z.out X2[j] (List.getElem_mem hjX))
                have HXJ := hid (bl_take_snoc X2 j hjX)
                have HMEM := hid (bl_mem (List.getElem_mem hjX))
                have HAD := hid (areDigits_any X2[j] W HPZ.out)
                have HNO := hid (numberOf_any X2[j] W HPZ.out)
                generalize X2[j] = p at *
                have hpz : p.size ≤ 9223372036854775807 := HPZ.out
                by_cases hp1 : p.size < 1
                · have HRES := hid (show verB s.data.toList = 1 by
                    unfold verB
                    rw [if_pos (Or.inr (by rw [← HPX.out]; exact List.mem_map.2 ⟨_, HMEM.out, by unfold part; rw [if_pos (Or.inl (by rw [len_eq]; exact hp1))]⟩))])
                  go_wp2_with fail
                  refine bodyPost_ret (v := .tuple #[.agg #[.int .i64 0, .int .i64 0, .int .i64 0, .slice none 0 0], .int .i64 1]) (by simp [results, Tryz.results8, go_sem, r0, r1, r2, r3]) rfl ⟨Or.inl ⟨by rw [HRES.out]; decide, by rw [HRES.out]; rfl⟩, ?_⟩
                  exact (((HBF.out.setCell (Nat.le_refl _) _).setCell (Nat.le_refl _) _).setCell (Nat.le_refl _) _).setCell (Nat.le_refl _) _
                · by_cases hp8 : 8 < p.size
                  · have HRES := hid (show verB s.data.toList = 1 by
                      unfold verB
                      rw [if_pos (Or.inr (by rw [← HPX.out]; exact List.mem_map.2 ⟨_, HMEM.out, by unfold part; rw [if_pos (Or.inr (Or.inl (by rw [len_eq]; exact hp8)))]⟩))])
                    go_wp2_with fail
                    refine bodyPost_ret (v := .tuple #[.agg #[.int .i64 0, .int .i64 0, .int .i64 0, .slice none 0 0], .int .i64 1]) (by simp [results, Tryz.results8, go_sem, r0, r1, r2, r3]) rfl ⟨Or.inl ⟨by rw [HRES.out]; decide, by rw [HRES.out]; rfl⟩, ?_⟩
                    exact (((HBF.out.setCell (Nat.le_refl _) _).setCell (Nat.le_refl _) _).setCell (Nat.le_refl _) _).setCell (Nat.le_refl _) _
                  · have HPT := hid (show part p.data.toList = if allPar p.data.toList = false then 1 else if digs p.data.toList = false then 0 else (num p.data.toList).2 by
                      unfold part
                      rw [len_eq]
                      by_cases ha : allPar p.data.toList = false
                      · rw [if_pos (Or.inr (Or.inr ha)), if_pos ha]
                      · rw [if_neg (by rintro (h | h | h) <;> first | omega | exact ha h), if_neg ha])
                    go_wp2_with fail
                    go_loop [16, 17, 18, 19] (fun i _ _ _ => ∃ y : Nat, y ≤ p.size ∧ i = .int .i64 y ∧ Hid ((p.data.toList.take y).all par = true)) (fun i _ _ _ => p.size - (intOf i).toNat)
                    case atStart => exact ⟨0, Nat.zero_le _, rfl, hid rfl⟩
                    case round =>
                      obtain ⟨y, hy, rfl, HAL⟩ := hrel
                      by_cases hyl : y < p.size
                      · have hyb := p[y].toNat_lt
                        have HSN4 := hid (all_snoc par (p.data.toList.take y) p[y])
                        rw [← take_snoc p y hyl, HAL.out, Bool.true_and] at HSN4
                        have HPB := hid (show par p[y] = parB (p[y].toNat : Int) from rfl)
                        have HPD := hid (show parB (p[y].toNat : Int) = (decide (48 ≤ (p[y].toNat : Int) ∧ (p[y].toNat : Int) ≤ 57) || decide (97 ≤ (p[y].toNat : Int) ∧ (p[y].toNat : Int) ≤ 122) || decide (65 ≤ (p[y].toNat : Int) ∧ (p[y].toNat : Int) ≤ 90) || (p[y].toNat : Int) == 45) from rfl)
                        have HRG := hid (show (p[y].toNat : Int) < 45 ∨ (p[y].toNat : Int) = 45 ∨ (45 < (p[y].toNat : Int) ∧ (p[y].toNat : Int) < 48) ∨ (48 ≤ (p[y].toNat : Int) ∧ (p[y].toNat : Int) ≤ 57) ∨ (57 < (p[y].toNat : Int) ∧ (p[y].toNat : Int) < 65) ∨ (65 ≤ (p[y].toNat : Int) ∧ (p[y].toNat : Int) ≤ 90) ∨ (90 < (p[y].toNat : Int) ∧ (p[y].toNat : Int) < 97) ∨ (97 ≤ (p[y].toNat : Int) ∧ (p[y].toNat : Int) ≤ 122) ∨ 122 < (p[y].toNat : Int) by omega)
                        have HNP := hid (show parB (p[y].toNat : Int) = false → allPar p.data.toList = false from fun h => by
                          have h2 : allPar p.data.toList = ((p.data.toList.take (y + 1)).all par && (p.data.toList.drop (y + 1)).all par) := by rw [← List.all_append, List.take_append_drop]; rfl
                          rw [h2, HSN4.out, HPB.out, h]; rfl)
                        have HRS := hid (show allPar p.data.toList = false → verB s.data.toList = 1 from fun h => by
                          unfold verB
                          rw [if_pos (Or.inr (by rw [← HPX.out]; exact List.mem_map.2 ⟨_, HMEM.out, by rw [HPT.out, if_pos h]⟩))])
                        clear hyb
                        rcases HRG.out with hr | hr | hr | hr | hr | hr | hr | hr | hr
                        · have a1 : ¬ 97 ≤ (p[y].toNat : Int) := by omega
                          have a2 : (p[y].toNat : Int) ≤ 122 := by omega
                          have b1 : ¬ 65 ≤ (p[y].toNat : Int) := by omega
                          have b2 : (p[y].toNat : Int) ≤ 90 := by omega
                          have d1 : ¬ 48 ≤ (p[y].toNat : Int) := by omega
                          have d2 : (p[y].toNat : Int) ≤ 57 := by omega
                          have d3 : ((p[y].toNat : Int) == 45) = false := beq_eq_false_iff_ne.2 (by omega)
                          have HRES := hid (HRS.out (HNP.out (by rw [HPD.out]; simp; omega)))
                          clear hr
                          go_wp2_with fail
                          refine bodyPost_ret (v := .tuple #[.agg #[.int .i64 0, .int .i64 0, .int .i64 0, .slice none 0 0], .int .i64 1]) (by simp [results, Tryz.results8, go_sem, r0, r1, r2, r3]) rfl ⟨Or.inl ⟨by rw [HRES.out]; decide, by rw [HRES.out]; rfl⟩, ?_⟩
                          exact (((HBF.out.setCell (Nat.le_refl _) _).setCell (Nat.le_refl _) _).setCell (Nat.le_refl _) _).setCell (Nat.le_refl _) _
                        · have a1 : ¬ 97 ≤ (p[y].toNat : Int) := by omega
                          have a2 : (p[y].toNat : Int) ≤ 122 := by omega
                          have b1 : ¬ 65 ≤ (p[y].toNat : Int) := by omega
                          have b2 : (p[y].toNat : Int) ≤ 90 := by omega
                          have d1 : ¬ 48 ≤ (p[y].toNat : Int) := by omega
                          have d2 : (p[y].toNat : Int) ≤ 57 := by omega
                          have d3 : ((p[y].toNat : Int) == 45) = true := beq_iff_eq.2 (by omega)
                          have HY := hid (show (p.data.toList.take (y + 1)).all par = true by rw [HSN4.out, HPB.out, HPD.out]; simp; omega)
                          clear hr
                          go_wp2_with fail
                          go_round
                          case rel => exact ⟨y + 1, by omega, by go_num, HY⟩
                          case measure => simp [intOf]; omega
                        · have a1 : ¬ 97 ≤ (p[y].toNat : Int) := by omega
                          have a2 : (p[y].toNat : Int) ≤ 122 := by omega
                          have b1 : ¬ 65 ≤ (p[y].toNat : Int) := by omega
                          have b2 : (p[y].toNat : Int) ≤ 90 := by omega
                          have d1 : ¬ 48 ≤ (p[y].toNat : Int) := by omega
                          have d2 : (p[y].toNat : Int) ≤ 57 := by omega
                          have d3 : ((p[y].toNat : Int) == 45) = false := beq_eq_false_iff_ne.2 (by omega)
                          have HRES := hid (HRS.out (HNP.out (by rw [HPD.out]; simp; omega)))
                          clear hr
                          go_wp2_with fail
                          refine bodyPost_ret (v := .tuple #[.agg #[.int .i64 0, .int .i64 0, .int .i64 0, .slice none 0 0], .int .i64 1]) (by simp [results, Tryz.results8, go_sem, r0, r1, r2, r3]) rfl ⟨Or.inl ⟨by rw [HRES.out]; decide, by rw [HRES.out]; rfl⟩, ?_⟩
                          exact (((HBF.out.setCell (Nat.le_refl _) _).setCell (Nat.le_refl _) _).setCell (Nat.le_refl _) _).setCell (Nat.le_refl _) _
                        · have a1 : ¬ 97 ≤ (p[y].toNat : Int) := by omega
                          have a2 : (p[y].toNat : Int) ≤ 122 := by omega
                          have b1 : ¬ 65 ≤ (p[y].toNat : Int) := by omega
                          have b2 : (p[y].toNat : Int) ≤ 90 := by omega
                          have d1 : 48 ≤ (p[y].toNat : Int) := by omega
                          have d2 : (p[y].toNat : Int) ≤ 57 := by omega
                          have d3 : ((p[y].toNat : Int) == 45) = false := beq_eq_false_iff_ne.2 (by omega)
                          have HY := hid (show (p.data.toList.take (y + 1)).all par = true by rw [HSN4.out, HPB.out, HPD.out]; simp; omega)
                          clear hr
                          go_wp2_with fail
                          go_round
                          case rel => exact ⟨y + 1, by omega, by go_num, HY⟩
                          case measure => simp [intOf]; omega
                        · have a1 : ¬ 97 ≤ (p[y].toNat : Int) := by omega
                          have a2 : (p[y].toNat : Int) ≤ 122 := by omega
                          have b1 : ¬ 65 ≤ (p[y].toNat : Int) := by omega
                          have b2 : (p[y].toNat : Int) ≤ 90 := by omega
                          have d1 : 48 ≤ (p[y].toNat : Int) := by omega
                          have d2 : ¬ (p[y].toNat : Int) ≤ 57 := by omega
                          have d3 : ((p[y].toNat : Int) == 45) = false := beq_eq_false_iff_ne.2 (by omega)
                          have HRES := hid (HRS.out (HNP.out (by rw [HPD.out]; simp; omega)))
                          clear hr
                          go_wp2_with fail
                          refine bodyPost_ret (v := .tuple #[.agg #[.int .i64 0, .int .i64 0, .int .i64 0, .slice none 0 0], .int .i64 1]) (by simp [results, Tryz.results8, go_sem, r0, r1, r2, r3]) rfl ⟨Or.inl ⟨by rw [HRES.out]; decide, by rw [HRES.out]; rfl⟩, ?_⟩
                          exact (((HBF.out.setCell (Nat.le_refl _) _).setCell (Nat.le_refl _) _).setCell (Nat.le_refl _) _).setCell (Nat.le_refl _) _
                        · have a1 : ¬ 97 ≤ (p[y].toNat : Int) := by omega
                          have a2 : (p[y].toNat : Int) ≤ 122 := by omega
                          have b1 : 65 ≤ (p[y].toNat : Int) := by omega
                          have b2 : (p[y].toNat : Int) ≤ 90 := by omega
                          have d1 : 48 ≤ (p[y].toNat : Int) := by omega
                          have d2 : ¬ (p[y].toNat : Int) ≤ 57 := by omega
                          have d3 : ((p[y].toNat : Int) == 45) = false := beq_eq_false_iff_ne.2 (by omega)
                          have HY := hid (show (p.data.toList.take (y + 1)).all par = true by rw [HSN4.out, HPB.out, HPD.out]; simp; omega)
                          clear hr
                          go_wp2_with fail
                          go_round
                          case rel => exact ⟨y + 1, by omega, by go_num, HY⟩
                          case measure => simp [intOf]; omega
                        · have a1 : ¬ 97 ≤ (p[y].toNat : Int) := by omega
                          have a2 : (p[y].toNat : Int) ≤ 122 := by omega
                          have b1 : 65 ≤ (p[y].toNat : Int) := by omega
                          have b2 : ¬ (p[y].toNat : Int) ≤ 90 := by omega
                          have d1 : 48 ≤ (p[y].toNat : Int) := by omega
                          have d2 : ¬ (p[y].toNat : Int) ≤ 57 := by omega
                          have d3 : ((p[y].toNat : Int) == 45) = false := beq_eq_false_iff_ne.2 (by omega)
                          have HRES := hid (HRS.out (HNP.out (by rw [HPD.out]; simp; omega)))
                          clear hr
                          go_wp2_with fail
                          refine bodyPost_ret (v := .tuple #[.agg #[.int .i64 0, .int .i64 0, .int .i64 0, .slice none 0 0], .int .i64 1]) (by simp [results, Tryz.results8, go_sem, r0, r1, r2, r3]) rfl ⟨Or.inl ⟨by rw [HRES.out]; decide, by rw [HRES.out]; rfl⟩, ?_⟩
                          exact (((HBF.out.setCell (Nat.le_refl _) _).setCell (Nat.le_refl _) _).setCell (Nat.le_refl _) _).setCell (Nat.le_refl _) _
                        · have a1 : 97 ≤ (p[y].toNat : Int) := by omega
                          have a2 : (p[y].toNat : Int) ≤ 122 := by omega
                          have b1 : 65 ≤ (p[y].toNat : Int) := by omega
                          have b2 : ¬ (p[y].toNat : Int) ≤ 90 := by omega
                          have d1 : 48 ≤ (p[y].toNat : Int) := by omega
                          have d2 : ¬ (p[y].toNat : Int) ≤ 57 := by omega
                          have d3 : ((p[y].toNat : Int) == 45) = false := beq_eq_false_iff_ne.2 (by omega)
                          have HY := hid (show (p.data.toList.take (y + 1)).all par = true by rw [HSN4.out, HPB.out, HPD.out]; simp; omega)
                          clear hr
                          go_wp2_with fail
                          go_round
                          case rel => exact ⟨y + 1, by omega, by go_num, HY⟩
                          case measure => simp [intOf]; omega
                        · have a1 : 97 ≤ (p[y].toNat : Int) := by omega
                          have a2 : ¬ (p[y].toNat : Int) ≤ 122 := by omega
                          have b1 : 65 ≤ (p[y].toNat : Int) := by omega
                          have b2 : ¬ (p[y].toNat : Int) ≤ 90 := by omega
                          have d1 : 48 ≤ (p[y].toNat : Int) := by omega
                          have d2 : ¬ (p[y].toNat : Int) ≤ 57 := by omega
                          have d3 : ((p[y].toNat : Int) == 45) = false := beq_eq_false_iff_ne.2 (by omega)
                          have HRES := hid (HRS.out (HNP.out (by rw [HPD.out]; simp; omega)))
                          clear hr
                          go_wp2_with fail
                          refine bodyPost_ret (v := .tuple #[.agg #[.int .i64 0, .int .i64 0, .int .i64 0, .slice none 0 0], .int .i64 1]) (by simp [results, Tryz.results8, go_sem, r0, r1, r2, r3]) rfl ⟨Or.inl ⟨by rw [HRES.out]; decide, by rw [HRES.out]; rfl⟩, ?_⟩
                          exact (((HBF.out.setCell (Nat.le_refl _) _).setCell (Nat.le_refl _) _).setCell (Nat.le_refl _) _).setCell (Nat.le_refl _) _
                      · have HAP := hid (show allPar p.data.toList = true by
                          have h2 : p.data.toList.take y = p.data.toList := List.take_of_length_le (by simp; omega)
                          have := HAL.out; rw [h2] at this; exact this)
                        rw [HAP.out] at HPT
                        simp only [Bool.true_eq_false, if_false] at HPT
                        cases hdg : digs p.data.toList
                        · rw [hdg] at HPT HAD
                          have HPV := hid (show part p.data.toList = 0 by rw [HPT.out]; rfl)
                          have HO1 := hid (show 1 ∉ (bl (X2.take (j + 1))).map part by
                            rw [HXJ.out, List.map_append, List.mem_append]
                            rintro (h | h)
                            · exact HP1.out h
                            · simp only [List.map_cons, List.map_nil, List.mem_singleton, HPV.out] at h; omega)
                          have HFL := hid (show Value.bool bj = Value.bool (fb || (bl (X2.take (j + 1))).any (fun p => part p == 2)) by
                            rw [HXJ.out, List.any_append, ← Bool.or_assoc, HBJ.out, List.any_cons, HPV.out]; simp)
                          clear hdg
                          go_wp2_with fail
                          refine HAD.out.mono ?_
                          rintro e w' ⟨rfl, hw'⟩
                          rw [hw']
                          clear hw'
                          go_wp2_with fail
                          go_round
                          case rel => exact ⟨j + 1, by omega, by go_num, HFL.out, HO1⟩
                          case measure => simp [intOf]; omega
                        · rw [hdg] at HPT HAD
                          simp only [Bool.true_eq_false, if_false] at HPT
                          have HNE := hid (num_err p.data.toList)
                          generalize hnp : num p.data.toList = np at *
                          obtain ⟨n1, n2⟩ := np
                          clear hnp hdg
                          rcases HNE.out with h | h | h
                          · dsimp only at h
                            subst h
                            have HPV := hid (show part p.data.toList = 0 from HPT.out)
                            have HO1 := hid (show 1 ∉ (bl (X2.take (j + 1))).map part by
                              rw [HXJ.out, List.map_append, List.mem_append]
                              rintro (h | h)
                              · exact HP1.out h
                              · simp only [List.map_cons, List.map_nil, List.mem_singleton, HPV.out] at h; omega)
                            cases bj
                            · have HFL := hid (show Value.bool false = Value.bool (fb || (bl (X2.take (j + 1))).any (fun p => part p == 2)) by
                                rw [HXJ.out, List.any_append, ← Bool.or_assoc, HBJ.out, List.any_cons, HPV.out]; rfl)
                              go_wp2_with fail
                              refine HAD.out.mono ?_
                              rintro e w' ⟨rfl, hw'⟩
                              rw [hw']
                              clear hw'
                              go_wp2_with fail
                              refine HNO.out.mono ?_
                              rintro e w' ⟨rfl, hw'⟩
                              rw [hw']
                              clear hw'
                              go_wp2_with fail
                              go_round
                              case rel => exact ⟨j + 1, by omega, by go_num, HFL.out, HO1⟩
                              case measure => simp [intOf]; omega
                            · have HFL := hid (show Value.bool true = Value.bool (fb || (bl (X2.take (j + 1))).any (fun p => part p == 2)) by
                                rw [HXJ.out, List.any_append, ← Bool.or_assoc, HBJ.out, List.any_cons, HPV.out]; rfl)
                              go_wp2_with fail
                              refine HAD.out.mono ?_
                              rintro e w' ⟨rfl, hw'⟩
                              rw [hw']
                              clear hw'
                              go_wp2_with fail
                              refine HNO.out.mono ?_
                              rintro e w' ⟨rfl, hw'⟩
                              rw [hw']
                              clear hw'
                              go_wp2_with fail
                              go_round
                              case rel => exact ⟨j + 1, by omega, by go_num, HFL.out, HO1⟩
                              case measure => simp [intOf]; omega
                          · dsimp only at h
                            subst h
                            have HRES := hid (show verB s.data.toList = 1 by
                              unfold verB
                              rw [if_pos (Or.inr (by rw [← HPX.out]; exact List.mem_map.2 ⟨_, HMEM.out, HPT.out⟩))])
                            go_wp2_with fail
                            refine HAD.out.mono ?_
                            rintro e w' ⟨rfl, hw'⟩
                            rw [hw']
                            clear hw'
                            go_wp2_with fail
                            refine HNO.out.mono ?_
                            rintro e w' ⟨rfl, hw'⟩
                            rw [hw']
                            clear hw'
                            go_wp2_with fail
                            refine bodyPost_ret (v := .tuple #[.agg #[.int .i64 0, .int .i64 0, .int .i64 0, .slice none 0 0], .int .i64 1]) (by simp [results, Tryz.results8, go_sem, r0, r1, r2, r3]) rfl ⟨Or.inl ⟨by rw [HRES.out]; decide, by rw [HRES.out]; rfl⟩, ?_⟩
                            exact (((HBF.out.setCell (Nat.le_refl _) _).setCell (Nat.le_refl _) _).setCell (Nat.le_refl _) _).setCell (Nat.le_refl _) _
                          · dsimp only at h
                            subst h
                            have HPV := hid (show part p.data.toList = 2 from HPT.out)
                            have HO1 := hid (show 1 ∉ (bl (X2.take (j + 1))).map part by
                              rw [HXJ.out, List.map_append, List.mem_append]
                              rintro (h | h)
                              · exact HP1.out h
                              · simp only [List.map_cons, List.map_nil, List.mem_singleton, HPV.out] at h; omega)
                            cases bj
                            · have HFL := hid (show Value.bool true = Value.bool (fb || (bl (X2.take (j + 1))).any (fun p => part p == 2)) by
                                rw [HXJ.out, List.any_append, ← Bool.or_assoc, HBJ.out, List.any_cons, HPV.out]; rfl)
                              go_wp2_with fail
                              refine HAD.out.mono ?_
                              rintro e w' ⟨rfl, hw'⟩
                              rw [hw']
                              clear hw'
                              go_wp2_with fail
                              refine HNO.out.mono ?_
                              rintro e w' ⟨rfl, hw'⟩
                              rw [hw']
                              clear hw'
                              go_wp2_with fail
                              go_round
                              case rel => exact ⟨j + 1, by omega, by go_num, HFL.out, HO1⟩
                              case measure => simp [intOf]; omega
                            · have HFL := hid (show Value.bool true = Value.bool (fb || (bl (X2.take (j + 1))).any (fun p => part p == 2)) by
                                rw [HXJ.out, List.any_append, ← Bool.or_assoc, HBJ.out, List.any_cons, HPV.out]; rfl)
                              go_wp2_with fail
                              refine HAD.out.mono ?_
                              rintro e w' ⟨rfl, hw'⟩
                              rw [hw']
                              clear hw'
                              go_wp2_with fail
                              refine HNO.out.mono ?_
                              rintro e w' ⟨rfl, hw'⟩
                              rw [hw']
                              clear hw'
                              go_wp2_with fail
                              go_round
                              case rel => exact ⟨j + 1, by omega, by go_num, HFL.out, HO1⟩
                              case measure => simp [intOf]; omega
              · have hXt2 : X2.take j = X2 := List.take_of_length_le (by omega)
                rw [hXt2, HPX.out] at HP1
                rw [hXt2, HPX.out] at HBJ
                have HVB := hid (show verB s.data.toList = if bj = true ∨ 5 < X2.length then 2 else 0 by
                  unfold verB
                  rw [if_neg (by rintro (h | h); exact H1.out h; exact HP1.out h), HPL.out, ← HBJ.out, ← HFB.out]
                  congr 1
                  simp only [Bool.or_eq_true, decide_eq_true_eq, List.any_eq_true, beq_iff_eq, List.mem_map, eq_iff_iff]
                  constructor
                  · rintro (h | h | h)
                    · exact Or.inl (Or.inl h)
                    · exact Or.inl (Or.inr h)
                    · exact Or.inr h
                  · rintro ((h | h) | h)
                    · exact Or.inl h
                    · exact Or.inr (Or.inl h)
                    · exact Or.inr (Or.inr h))
                clear hXt2
                cases bj
                · by_cases h5 : 5 < X2.length
                  · have HRES := hid (show verB s.data.toList = 2 by rw [HVB.out, if_pos (Or.inr h5)])
                    go_wp2_with fail
                    refine bodyPost_ret (v := .tuple #[.agg #[.int .i64 0, .int .i64 0, .int .i64 0, .slice none 0 0], .int .i64 2]) (by simp [results, Tryz.results8, go_sem, r0, r1, r2, r3]) rfl ⟨Or.inl ⟨by rw [HRES.out]; decide, by rw [HRES.out]; rfl⟩, ?_⟩
                    exact (((HBF.out.setCell (Nat.le_refl _) _).setCell (Nat.le_refl _) _).setCell (Nat.le_refl _) _).setCell (Nat.le_refl _) _
                  · have HRES := hid (show verB s.data.toList = 0 by rw [HVB.out, if_neg (by rintro (h | h); cases h; exact h5 h)])
                    go_wp2_with fail
                    refine bodyPost_ret (v := .tuple #[.agg #[.int .i64 (nAt s.data.toList 0), .int .i64 (nAt s.data.toList 1), .int .i64 (nAt s.data.toList 2), .slice (some ⟨g2, 0, none⟩) X2.length cap2], .int .i64 0]) (by simp [results, Tryz.results8, go_sem, r0, r1, r2, r3]) rfl ⟨Or.inr ⟨HRES.out, g2, cap2, X2, rfl, HPX.out, HX2N.out, ?_⟩, ?_⟩
                    · intro j hj
                      have := HCEW.out j hj
                      simpa [World.cell?_setCell_other, hg2N, fun h : w.heap.size = g2 => hg2N h.symm] using this
                    · exact (((HBF.out.setCell (Nat.le_refl _) _).setCell (Nat.le_refl _) _).setCell (Nat.le_refl _) _).setCell (Nat.le_refl _) _
                · have HRES := hid (show verB s.data.toList = 2 by rw [HVB.out, if_pos (Or.inl rfl)])
                  go_wp2_with fail
                  refine bodyPost_ret (v := .tuple #[.agg #[.int .i64 0, .int .i64 0, .int .i64 0, .slice none 0 0], .int .i64 2]) (by simp [results, Tryz.results8, go_sem, r0, r1, r2, r3]) rfl ⟨Or.inl ⟨by rw [HRES.out]; decide, by rw [HRES.out]; rfl⟩, ?_⟩
                  exact (((HBF.out.setCell (Nat.le_refl _) _).setCell (Nat.le_refl _) _).setCell (Nat.le_refl _) _).setCell (Nat.le_refl _) _
end Ve
end Go.Proofs.YtanponneancajaaGreatDoor


namespace Go.Proofs.YtanponneancajaaGreatDoor
open Go.RowKit
namespace Ve
theorem verOf_any (s : ByteArray) (w : World) (hs : s.size < 4294967281) :
    Calls Tryz.prog 8 #[.string s] w fun e w' => (verErr s.data.toList ≠ 0 ∧ e = .returned (.tuple #[.agg #[.int .i64 0, .int .i64 0, .int .i64 0, .slice none 0 0], .int .i64 (verErr s.data.toList : Nat)]) ∨
      verErr s.data.toList = 0 ∧ ∃ sa cap X2, e = .returned (.tuple #[.agg #[.int .i64 (nAt s.data.toList 0), .int .i64 (nAt s.data.toList 1), .int .i64 (nAt s.data.toList 2), .slice sa X2.length cap], .int .i64 0]) ∧ bl X2 = preOf s.data.toList ∧ (X2 = [] ∨ ∃ g, sa = some ⟨g, 0, none⟩ ∧ ∀ j (hj : j < X2.length), w'.cell? ⟨g, j, none⟩ = some (.string X2[j]))) ∧ Below w.heap.size w w' := by
  by_cases hm : marked s.data.toList = false
  · have hv : verErr s.data.toList = 1 := by unfold verErr; rw [if_pos (Or.inl hm)]
    rw [hv]
    exact (verOf_head s w hs hm).mono fun e w' ⟨h1, h2⟩ => ⟨Or.inl ⟨by omega, h1⟩, h2⟩
  · have hm' : marked s.data.toList = true := by simpa using hm
    by_cases h3 : (coreOf s.data.toList).length = 3
    · have hn : ¬ (marked s.data.toList = false ∨ (coreOf s.data.toList).length ≠ 3) := by rintro (h | h); exact hm h; exact h h3
      cases hp : hasPre s.data.toList
      · have hv : verErr s.data.toList = numsErr (coreOf s.data.toList) := by unfold verErr; rw [if_neg hn, hp]; rfl
        rw [hv]
        refine (verOf_A s w hs hm' hp h3).mono fun e w' ⟨h1, h2⟩ => ⟨?_, h2⟩
        by_cases hq : numsErr (coreOf s.data.toList) = 0
        · refine Or.inr ⟨hq, none, 0, [], ?_, ?_, Or.inl rfl⟩
          · rw [h1, hq]; rfl
          · unfold preOf; rw [hp]; rfl
        · refine Or.inl ⟨hq, ?_⟩
          rw [h1]; unfold resA; rw [if_neg hq]
      · have hv : verErr s.data.toList = verB s.data.toList := by rw [verB_eq]; unfold verErr; rw [if_neg hn, hp]; rfl
        rw [hv]
        refine (verOf_B s w hs hm' hp h3).mono fun e w' ⟨h1, h2⟩ => ⟨?_, h2⟩
        rcases h1 with h1 | ⟨h0, g, cap, X2, h1, h4, h5, h6⟩
        · exact Or.inl h1
        · exact Or.inr ⟨h0, _, cap, X2, h1, h4, Or.inr ⟨g, rfl, h6⟩⟩
    · have hv : verErr s.data.toList = 1 := by unfold verErr; rw [if_pos (Or.inr h3)]
      rw [hv]
      cases hp : hasPre s.data.toList
      · exact (verOf_A1 s w hs hm' hp h3).mono fun e w' ⟨h1, h2⟩ => ⟨Or.inl ⟨by omega, h1⟩, h2⟩
      · exact (verOf_B1 s w hs hm' hp h3).mono fun e w' ⟨h1, h2⟩ => ⟨Or.inl ⟨by omega, h1⟩, h2⟩
end Ve
end Go.Proofs.YtanponneancajaaGreatDoor


namespace Go.Proofs.YtanponneancajaaGreatDoor
open Go.RowKit
namespace Ve
theorem ver_parts {l : List UInt8} (h : verErr l = 0) : ∀ p, p ∈ preOf l → part p = 0 := by
  intro p hp
  unfold verErr at h
  split at h
  · cases h
  · cases hh : hasPre l
    · unfold preOf at hp; rw [hh] at hp; simp at hp
    · rw [hh] at h
      simp only [if_true] at h
      refine pre_parts ?_ p hp
      unfold worse at h
      split at h
      · rename_i hc
        rcases hc with hc | hc
        · omega
        · exact hc
      · exact h
theorem sign_any (l m : Bool) (w : World) : Calls Tryz.prog 100 #[.bool l, .bool m] w fun e w' => e = .returned (.int .i64 (if l then -1 else if m then 1 else 0)) ∧ w' = w := by
  cases l <;> cases m
  all_goals
    go_enter Tryz.func100, Tryz.ntmps100
    go_wp2
    go_ret
    exact ⟨rfl, rfl⟩
theorem sign_is (l m : Bool) (k : Int) (w : World) (hk : (if l then (-1 : Int) else if m then 1 else 0) = k) : Calls Tryz.prog 100 #[.bool l, .bool m] w fun e w' => e = .returned (.int .i64 k) ∧ w' = w := by
  rw [← hk]; exact sign_any l m w
theorem sign_int (x y : Int) : (if decide (x < y) then (-1 : Int) else if decide (x > y) then 1 else 0) = Lib.compareInt x y := by
  unfold Lib.compareInt; simp
theorem sign_bytes (a b : List UInt8) : (if Op.bytesLess a b then (-1 : Int) else if !(Op.bytesLess a b || a == b) then 1 else 0) = Lib.compareBytes a b := by
  rw [cb_more, cb_less]
  rcases cb_range a b with h | h | h <;> rw [h] <;> rfl
theorem toList_data (s : ByteArray) : s.toList = s.data.toList := ByteArray.toList_eq s
set_option maxHeartbeats 1000000 in
theorem opart_any (s t : ByteArray) (w : World) (hs : s.size ≤ maxLen) (ht : t.size ≤ maxLen) :
    Calls Tryz.prog 101 #[.string s, .string t] w fun e w' => e = .returned (.int .i64 (ordPartN s.data.toList t.data.toList)) ∧ w' = w := by
  have HO := hid (show ordPartN s.data.toList t.data.toList = if digs s.data.toList then (if digs t.data.toList then Lib.compareInt (num s.data.toList).1 (num t.data.toList).1 else -1) else if digs t.data.toList then 1 else Lib.compareBytes s.data.toList t.data.toList from rfl)
  have HS := hid (areDigits_any s w hs)
  have HT := hid (areDigits_any t w ht)
  have NS := hid (numberOf_any s w hs)
  have NT := hid (numberOf_any t w ht)
  have HI := hid (sign_int (num s.data.toList).1 (num t.data.toList).1)
  have HB := hid ((sign_bytes s.toList t.toList).trans (by rw [toList_data, toList_data]))
  have hgt : ∀ W : World, (binOp BinOp.gtr 9 (.string s) (.string t)).run Tryz.prog W = .ok (.bool (!(Op.bytesLess s.toList t.toList || s.toList == t.toList))) W := fun _ => rfl
  clear hs ht
  cases h1 : digs s.data.toList
  all_goals cases h2 : digs t.data.toList
  all_goals rw [h1] at HS HO
  all_goals rw [h2] at HT HO
  all_goals clear h1 h2
  · go_enter Tryz.func101, Tryz.ntmps101
    go_wp2_with fail
    refine HS.out.mono ?_
    rintro e w' ⟨rfl, rfl⟩
    go_wp2_with fail
    refine HT.out.mono ?_
    rintro e w' ⟨rfl, rfl⟩
    go_wp2_with fail
    refine (sign_is _ _ (Lib.compareBytes s.data.toList t.data.toList) _ ?hk).mono ?_
    case hk => rw [← Bool.not_or]; exact HB.out
    rintro e w' ⟨rfl, rfl⟩
    go_wp2_with fail
    go_ret
    exact ⟨ret_int (by rw [HO.out]; rfl), rfl⟩
  · go_enter Tryz.func101, Tryz.ntmps101
    go_wp2_with fail
    refine HS.out.mono ?_
    rintro e w' ⟨rfl, rfl⟩
    go_wp2_with fail
    refine HT.out.mono ?_
    rintro e w' ⟨rfl, rfl⟩
    go_wp2_with fail
    refine (sign_is _ _ 1 _ rfl).mono ?_
    rintro e w' ⟨rfl, rfl⟩
    go_wp2_with fail
    go_ret
    exact ⟨ret_int (by rw [HO.out]; rfl), rfl⟩
  · go_enter Tryz.func101, Tryz.ntmps101
    go_wp2_with fail
    refine HS.out.mono ?_
    rintro e w' ⟨rfl, rfl⟩
    go_wp2_with fail
    refine HT.out.mono ?_
    rintro e w' ⟨rfl, rfl⟩
    go_wp2_with fail
    refine (sign_is _ _ (-1) _ rfl).mono ?_
    rintro e w' ⟨rfl, rfl⟩
    go_wp2_with fail
    go_ret
    exact ⟨ret_int (by rw [HO.out]; rfl), rfl⟩
  · go_enter Tryz.func101, Tryz.ntmps101
    go_wp2_with fail
    refine HS.out.mono ?_
    rintro e w' ⟨rfl, rfl⟩
    go_wp2_with fail
    refine HT.out.mono ?_
    rintro e w' ⟨rfl, rfl⟩
    go_wp2_with fail
    refine NS.out.mono ?_
    rintro e w' ⟨rfl, rfl⟩
    go_wp2_with fail
    refine NT.out.mono ?_
    rintro e w' ⟨rfl, rfl⟩
    go_wp2_with fail
    refine (sign_is _ _ _ _ HI.out).mono ?_
    rintro e w' ⟨rfl, rfl⟩
    go_wp2_with fail
    go_ret
    exact ⟨ret_int (by rw [HO.out]; rfl), rfl⟩
theorem isVer_any (s : ByteArray) (w : World) (hs : s.size < 4294967281) :
    Calls Tryz.prog 55 #[.string s] w fun e w' => e = .returned (.bool (decide (verErr s.data.toList = 0))) ∧ Below w.heap.size w w' := by
  have HV := hid (verOf_any s w hs)
  by_cases h : verErr s.data.toList = 0
  · have HH := hid h
    clear h
    go_enter Tryz.func55, Tryz.ntmps55
    go_wp2_with fail
    refine HV.out.mono ?_
    rintro e w1 ⟨h1, hb⟩
    have HB := hid hb
    clear hb
    rcases h1 with ⟨h1, _⟩ | ⟨_, sa, cap, X2, rfl, _⟩
    · exact absurd HH.out h1
    go_wp2_with fail
    go_ret
    exact ⟨ret_bool (by rw [HH.out]; rfl), HB.out.alloc HB.out.size _⟩
  · have HH := hid h
    have hz : ((verErr s.data.toList : Int) == 0) = false := beq_eq_false_iff_ne.2 (by omega)
    clear h
    go_enter Tryz.func55, Tryz.ntmps55
    go_wp2_with fail
    refine HV.out.mono ?_
    rintro e w1 ⟨h1, hb⟩
    have HB := hid hb
    clear hb
    rcases h1 with ⟨_, rfl⟩ | ⟨h1, _⟩
    · go_wp2_with fail
      go_ret
      exact ⟨ret_bool (by rw [decide_eq_false HH.out]), HB.out.alloc HB.out.size _⟩
    · exact absurd h1 HH.out
end Ve
end Go.Proofs.YtanponneancajaaGreatDoor


namespace Go.Proofs.YtanponneancajaaGreatDoor
open Go.RowKit
namespace Ve
def GoodV (w w' : World) (e : Ending) (x y z : Int) (X : List ByteArray) : Prop :=
  (∃ sa cap, e = .returned (.tuple #[.agg #[.int .i64 x, .int .i64 y, .int .i64 z, .slice sa X.length cap], .int .i64 0]) ∧ (X = [] ∨ ∃ g, sa = some ⟨g, 0, none⟩ ∧ ∀ j (hj : j < X.length), w'.cell? ⟨g, j, none⟩ = some (.string X[j]))) ∧ Below w.heap.size w w'
theorem verOf_good (s : ByteArray) (w : World) (hs : s.size < 4294967281) (h : verErr s.data.toList = 0) (X : List ByteArray) (hX : bl X = preOf s.data.toList) :
    Calls Tryz.prog 8 #[.string s] w fun e w' => GoodV w w' e (nAt s.data.toList 0) (nAt s.data.toList 1) (nAt s.data.toList 2) X :=
  (verOf_any s w hs).mono fun e w' ⟨h1, hb⟩ => by
    rcases h1 with ⟨h1, _⟩ | ⟨_, sa, cap, X2, e1, e2, e3⟩
    · exact absurd h h1
    · obtain rfl : X2 = X := bl_inj (e2.trans hX.symm)
      exact ⟨⟨sa, cap, e1, e3⟩, hb⟩
structure Os (w W : World) (P Q ga gb ca cb : Nat) (X Y : List ByteArray) : Prop where
  bl : Below w.heap.size w W
  p3 : W.cell? ⟨P, 3, none⟩ = some (.slice (some ⟨ga, 0, none⟩) X.length ca)
  q3 : W.cell? ⟨Q, 3, none⟩ = some (.slice (some ⟨gb, 0, none⟩) Y.length cb)
  xs : ∀ j (hj : j < X.length), W.cell? ⟨ga, j, none⟩ = some (.string X[j])
  ys : ∀ j (hj : j < Y.length), W.cell? ⟨gb, j, none⟩ = some (.string Y[j])
theorem lt_sign {x y : Int} (h : x ≠ y) : Lib.compareInt x y = (if decide (x < y) then (-1 : Int) else if (true : Bool) = true then 1 else 0) := by
  unfold Lib.compareInt
  by_cases h1 : x < y
  · simp [h1]
  · simp [h1]; omega
set_option maxHeartbeats 2000000 in
theorem over_0 (x x' y y' z z' : Int) (X Y : List ByteArray) (s t : ByteArray) (w : World) (hn : x ≠ x')
    (hA : Calls Tryz.prog 8 #[.string s] w fun e w' => GoodV w w' e x y z X) (hT : ∀ W, Calls Tryz.prog 8 #[.string t] W fun e w' => GoodV W w' e x' y' z' Y) :
    Calls Tryz.prog 56 #[.string s, .string t] w fun e w' => e = .returned (.int .i64 (Lib.compareInt x x')) ∧ Below w.heap.size w w' := by
  have hq : (x == x') = false := beq_eq_false_iff_ne.2 hn
  have HK := hid (lt_sign hn).symm
  clear hn
  have HA := hid hA
  have HT := hid hT
  clear hA hT
  go_enter Tryz.func56, Tryz.ntmps56
  go_wp2_with fail
  refine HA.out.mono ?_
  rintro e w1 ⟨⟨sa, ca, rfl, hc1⟩, hb1⟩
  have HC1 := hid hc1
  have HB1 := hid hb1
  clear hc1 hb1
  go_wp2_with fail
  refine (HT.out _).mono ?_
  rintro e w2 ⟨⟨sb, cb, rfl, hc2⟩, hb2⟩
  have HC2 := hid hc2
  obtain ⟨⟨r0, r1, r2, r3⟩, rf, rz⟩ := res4 (hb2.mono (by simp))
  have HB2 := hid (((Below.refl w1.heap.size w1).alloc (Nat.le_refl _) _).trans (hb2.mono (by simp)))
  have HB := hid ((HB1.out.trans (HB2.out.mono HB1.out.size)).alloc (HB1.out.trans (HB2.out.mono HB1.out.size)).size (.cells #[.int .i64 x', .int .i64 y', .int .i64 z', .slice sb Y.length cb] 26))
  clear hc2 hb2
  go_wp2_with fail
  refine wp_loop_rounds 1 ?_
  rw [rounds_succ]
  go_wp2_with fail
  go_quiet (fail)
  go_wp2_with fail
  go_quiet (first | (go_at_call 100; refine (sign_is _ _ (Lib.compareInt x x') _ HK.out).mono fun e w' h => ⟨h.1, _, h.2⟩))
  go_wp2_with fail
  go_ret
  exact ⟨rfl, by first | exact below_drew (below_drew HB.out _) _ | exact below_drew (below_drew (below_drew HB.out _) _) _ | exact below_drew (below_drew (below_drew (below_drew HB.out _) _) _) _⟩
set_option maxHeartbeats 2000000 in
theorem over_1 (x y y' z z' : Int) (X Y : List ByteArray) (s t : ByteArray) (w : World) (hn : y ≠ y')
    (hA : Calls Tryz.prog 8 #[.string s] w fun e w' => GoodV w w' e x y z X) (hT : ∀ W, Calls Tryz.prog 8 #[.string t] W fun e w' => GoodV W w' e x y' z' Y) :
    Calls Tryz.prog 56 #[.string s, .string t] w fun e w' => e = .returned (.int .i64 (Lib.compareInt y y')) ∧ Below w.heap.size w w' := by
  have hq : (y == y') = false := beq_eq_false_iff_ne.2 hn
  have HK := hid (lt_sign hn).symm
  clear hn
  have HA := hid hA
  have HT := hid hT
  clear hA hT
  go_enter Tryz.func56, Tryz.ntmps56
  go_wp2_with fail
  refine HA.out.mono ?_
  rintro e w1 ⟨⟨sa, ca, rfl, hc1⟩, hb1⟩
  have HC1 := hid hc1
  have HB1 := hid hb1
  clear hc1 hb1
  go_wp2_with fail
  refine (HT.out _).mono ?_
  rintro e w2 ⟨⟨sb, cb, rfl, hc2⟩, hb2⟩
  have HC2 := hid hc2
  obtain ⟨⟨r0, r1, r2, r3⟩, rf, rz⟩ := res4 (hb2.mono (by simp))
  have HB2 := hid (((Below.refl w1.heap.size w1).alloc (Nat.le_refl _) _).trans (hb2.mono (by simp)))
  have HB := hid ((HB1.out.trans (HB2.out.mono HB1.out.size)).alloc (HB1.out.trans (HB2.out.mono HB1.out.size)).size (.cells #[.int .i64 x, .int .i64 y', .int .i64 z', .slice sb Y.length cb] 26))
  clear hc2 hb2
  go_wp2_with fail
  refine wp_loop_rounds 2 ?_
  rw [rounds_succ]
  go_wp2_with fail
  go_quiet (fail)
  go_wp2_with fail
  rw [rounds_succ]
  go_wp2_with fail
  go_quiet (fail)
  go_wp2_with fail
  go_quiet (first | (go_at_call 100; refine (sign_is _ _ (Lib.compareInt y y') _ HK.out).mono fun e w' h => ⟨h.1, _, h.2⟩))
  go_wp2_with fail
  go_ret
  exact ⟨rfl, by first | exact below_drew (below_drew HB.out _) _ | exact below_drew (below_drew (below_drew HB.out _) _) _ | exact below_drew (below_drew (below_drew (below_drew HB.out _) _) _) _⟩
set_option maxHeartbeats 2000000 in
theorem over_2 (x y z z' : Int) (X Y : List ByteArray) (s t : ByteArray) (w : World) (hn : z ≠ z')
    (hA : Calls Tryz.prog 8 #[.string s] w fun e w' => GoodV w w' e x y z X) (hT : ∀ W, Calls Tryz.prog 8 #[.string t] W fun e w' => GoodV W w' e x y z' Y) :
    Calls Tryz.prog 56 #[.string s, .string t] w fun e w' => e = .returned (.int .i64 (Lib.compareInt z z')) ∧ Below w.heap.size w w' := by
  have hq : (z == z') = false := beq_eq_false_iff_ne.2 hn
  have HK := hid (lt_sign hn).symm
  clear hn
  have HA := hid hA
  have HT := hid hT
  clear hA hT
  go_enter Tryz.func56, Tryz.ntmps56
  go_wp2_with fail
  refine HA.out.mono ?_
  rintro e w1 ⟨⟨sa, ca, rfl, hc1⟩, hb1⟩
  have HC1 := hid hc1
  have HB1 := hid hb1
  clear hc1 hb1
  go_wp2_with fail
  refine (HT.out _).mono ?_
  rintro e w2 ⟨⟨sb, cb, rfl, hc2⟩, hb2⟩
  have HC2 := hid hc2
  obtain ⟨⟨r0, r1, r2, r3⟩, rf, rz⟩ := res4 (hb2.mono (by simp))
  have HB2 := hid (((Below.refl w1.heap.size w1).alloc (Nat.le_refl _) _).trans (hb2.mono (by simp)))
  have HB := hid ((HB1.out.trans (HB2.out.mono HB1.out.size)).alloc (HB1.out.trans (HB2.out.mono HB1.out.size)).size (.cells #[.int .i64 x, .int .i64 y, .int .i64 z', .slice sb Y.length cb] 26))
  clear hc2 hb2
  go_wp2_with fail
  refine wp_loop_rounds 3 ?_
  rw [rounds_succ]
  go_wp2_with fail
  go_quiet (fail)
  go_wp2_with fail
  rw [rounds_succ]
  go_wp2_with fail
  go_quiet (fail)
  go_wp2_with fail
  rw [rounds_succ]
  go_wp2_with fail
  go_quiet (fail)
  go_wp2_with fail
  go_quiet (first | (go_at_call 100; refine (sign_is _ _ (Lib.compareInt z z') _ HK.out).mono fun e w' h => ⟨h.1, _, h.2⟩))
  go_wp2_with fail
  go_ret
  exact ⟨rfl, by first | exact below_drew (below_drew HB.out _) _ | exact below_drew (below_drew (below_drew HB.out _) _) _ | exact below_drew (below_drew (below_drew (below_drew HB.out _) _) _) _⟩
set_option maxHeartbeats 2000000 in
theorem over_none0 (x y z : Int) (s t : ByteArray) (w : World)
    (hA : Calls Tryz.prog 8 #[.string s] w fun e w' => GoodV w w' e x y z []) (hT : ∀ W, Calls Tryz.prog 8 #[.string t] W fun e w' => GoodV W w' e x y z []) :
    Calls Tryz.prog 56 #[.string s, .string t] w fun e w' => e = .returned (.int .i64 (0)) ∧ Below w.heap.size w w' := by
  have HA := hid hA
  have HT := hid hT
  clear hA hT
  go_enter Tryz.func56, Tryz.ntmps56
  go_wp2_with fail
  refine HA.out.mono ?_
  rintro e w1 ⟨⟨sa, ca, rfl, hc1⟩, hb1⟩
  have HC1 := hid hc1
  have HB1 := hid hb1
  clear hc1 hb1
  go_wp2_with fail
  refine (HT.out _).mono ?_
  rintro e w2 ⟨⟨sb, cb, rfl, hc2⟩, hb2⟩
  have HC2 := hid hc2
  obtain ⟨⟨r0, r1, r2, r3⟩, rf, rz⟩ := res4 (hb2.mono (by simp))
  have HB2 := hid (((Below.refl w1.heap.size w1).alloc (Nat.le_refl _) _).trans (hb2.mono (by simp)))
  have HB := hid ((HB1.out.trans (HB2.out.mono HB1.out.size)).alloc (HB1.out.trans (HB2.out.mono HB1.out.size)).size (.cells #[.int .i64 x, .int .i64 y, .int .i64 z, .slice sb 0 cb] 26))
  clear hc2 hb2
  go_wp2_with fail
  refine wp_loop_rounds 4 ?_
  rw [rounds_succ]
  go_wp2_with fail
  go_quiet (fail)
  go_wp2_with fail
  rw [rounds_succ]
  go_wp2_with fail
  go_quiet (fail)
  go_wp2_with fail
  rw [rounds_succ]
  go_wp2_with fail
  go_quiet (fail)
  go_wp2_with fail
  rw [rounds_succ]
  go_wp2_with fail
  refine (sign_is _ _ (0) _ rfl).mono ?_
  rintro e w' ⟨rfl, rfl⟩
  go_wp2_with fail
  go_ret
  exact ⟨rfl, below_drew HB.out _⟩
set_option maxHeartbeats 2000000 in
theorem over_none1 (x y z : Int) (Y : List ByteArray) (s t : ByteArray) (w : World) (hp : 0 < Y.length) (hl : Y.length ≤ 1000000)
    (hA : Calls Tryz.prog 8 #[.string s] w fun e w' => GoodV w w' e x y z []) (hT : ∀ W, Calls Tryz.prog 8 #[.string t] W fun e w' => GoodV W w' e x y z Y) :
    Calls Tryz.prog 56 #[.string s, .string t] w fun e w' => e = .returned (.int .i64 (1)) ∧ Below w.heap.size w w' := by
  have h0 : ((Y.length : Int) == 0) = false := beq_eq_false_iff_ne.2 (by omega)
  have HA := hid hA
  have HT := hid hT
  clear hA hT
  go_enter Tryz.func56, Tryz.ntmps56
  go_wp2_with fail
  refine HA.out.mono ?_
  rintro e w1 ⟨⟨sa, ca, rfl, hc1⟩, hb1⟩
  have HC1 := hid hc1
  have HB1 := hid hb1
  clear hc1 hb1
  go_wp2_with fail
  refine (HT.out _).mono ?_
  rintro e w2 ⟨⟨sb, cb, rfl, hc2⟩, hb2⟩
  have HC2 := hid hc2
  obtain ⟨⟨r0, r1, r2, r3⟩, rf, rz⟩ := res4 (hb2.mono (by simp))
  have HB2 := hid (((Below.refl w1.heap.size w1).alloc (Nat.le_refl _) _).trans (hb2.mono (by simp)))
  have HB := hid ((HB1.out.trans (HB2.out.mono HB1.out.size)).alloc (HB1.out.trans (HB2.out.mono HB1.out.size)).size (.cells #[.int .i64 x, .int .i64 y, .int .i64 z, .slice sb Y.length cb] 26))
  clear hc2 hb2
  go_wp2_with fail
  refine wp_loop_rounds 4 ?_
  rw [rounds_succ]
  go_wp2_with fail
  go_quiet (fail)
  go_wp2_with fail
  rw [rounds_succ]
  go_wp2_with fail
  go_quiet (fail)
  go_wp2_with fail
  rw [rounds_succ]
  go_wp2_with fail
  go_quiet (fail)
  go_wp2_with fail
  rw [rounds_succ]
  go_wp2_with fail
  refine (sign_is _ _ (1) _ rfl).mono ?_
  rintro e w' ⟨rfl, rfl⟩
  go_wp2_with fail
  go_ret
  exact ⟨rfl, below_drew HB.out _⟩
set_option maxHeartbeats 2000000 in
theorem over_none2 (x y z : Int) (X : List ByteArray) (s t : ByteArray) (w : World) (hp : 0 < X.length) (hl : X.length ≤ 1000000)
    (hA : Calls Tryz.prog 8 #[.string s] w fun e w' => GoodV w w' e x y z X) (hT : ∀ W, Calls Tryz.prog 8 #[.string t] W fun e w' => GoodV W w' e x y z []) :
    Calls Tryz.prog 56 #[.string s, .string t] w fun e w' => e = .returned (.int .i64 (-1)) ∧ Below w.heap.size w w' := by
  have h0 : ((X.length : Int) == 0) = false := beq_eq_false_iff_ne.2 (by omega)
  have HA := hid hA
  have HT := hid hT
  clear hA hT
  go_enter Tryz.func56, Tryz.ntmps56
  go_wp2_with fail
  refine HA.out.mono ?_
  rintro e w1 ⟨⟨sa, ca, rfl, hc1⟩, hb1⟩
  have HC1 := hid hc1
  have HB1 := hid hb1
  clear hc1 hb1
  go_wp2_with fail
  refine (HT.out _).mono ?_
  rintro e w2 ⟨⟨sb, cb, rfl, hc2⟩, hb2⟩
  have HC2 := hid hc2
  obtain ⟨⟨r0, r1, r2, r3⟩, rf, rz⟩ := res4 (hb2.mono (by simp))
  have HB2 := hid (((Below.refl w1.heap.size w1).alloc (Nat.le_refl _) _).trans (hb2.mono (by simp)))
  have HB := hid ((HB1.out.trans (HB2.out.mono HB1.out.size)).alloc (HB1.out.trans (HB2.out.mono HB1.out.size)).size (.cells #[.int .i64 x, .int .i64 y, .int .i64 z, .slice sb 0 cb] 26))
  clear hc2 hb2
  go_wp2_with fail
  refine wp_loop_rounds 4 ?_
  rw [rounds_succ]
  go_wp2_with fail
  go_quiet (fail)
  go_wp2_with fail
  rw [rounds_succ]
  go_wp2_with fail
  go_quiet (fail)
  go_wp2_with fail
  rw [rounds_succ]
  go_wp2_with fail
  go_quiet (fail)
  go_wp2_with fail
  rw [rounds_succ]
  go_wp2_with fail
  refine (sign_is _ _ (-1) _ rfl).mono ?_
  rintro e w' ⟨rfl, rfl⟩
  go_wp2_with fail
  go_ret
  exact ⟨rfl, below_drew HB.out _⟩
set_option maxHeartbeats 4000000 in
theorem over_some (x y z : Int) (X Y : List ByteArray) (s t : ByteArray) (w : World) (hp : 0 < X.length) (hp2 : 0 < Y.length) (hl : X.length ≤ 1000000) (hl2 : Y.length ≤ 1000000) (hXs : ∀ x, x ∈ X → x.size ≤ maxLen ∧ part x.data.toList = 0) (hYs : ∀ x, x ∈ Y → x.size ≤ maxLen ∧ part x.data.toList = 0)
    (hA : Calls Tryz.prog 8 #[.string s] w fun e w' => GoodV w w' e x y z X) (hT : ∀ W, Calls Tryz.prog 8 #[.string t] W fun e w' => GoodV W w' e x y z Y) :
    Calls Tryz.prog 56 #[.string s, .string t] w fun e w' => e = .returned (.int .i64 (ordPs (bl X) (bl Y))) ∧ Below w.heap.size w w' := by
  have h0 : ((X.length : Int) == 0) = false := beq_eq_false_iff_ne.2 (by omega)
  have h02 : ((Y.length : Int) == 0) = false := beq_eq_false_iff_ne.2 (by omega)
  have HXS := hid hXs
  have HYS := hid hYs
  clear hXs hYs
  have HA := hid hA
  have HT := hid hT
  clear hA hT
  go_enter Tryz.func56, Tryz.ntmps56
  go_wp2_with fail
  refine HA.out.mono ?_
  rintro e w1 ⟨⟨sa, ca, rfl, hc1⟩, hb1⟩
  have HC1 := hid hc1
  have HB1 := hid hb1
  clear hc1 hb1
  go_wp2_with fail
  refine (HT.out _).mono ?_
  rintro e w2 ⟨⟨sb, cb, rfl, hc2⟩, hb2⟩
  have HC2 := hid hc2
  obtain ⟨⟨r0, r1, r2, r3⟩, rf, rz⟩ := res4 (hb2.mono (by simp))
  have HB2 := hid (((Below.refl w1.heap.size w1).alloc (Nat.le_refl _) _).trans (hb2.mono (by simp)))
  have HB := hid ((HB1.out.trans (HB2.out.mono HB1.out.size)).alloc (HB1.out.trans (HB2.out.mono HB1.out.size)).size (.cells #[.int .i64 x, .int .i64 y, .int .i64 z, .slice sb Y.length cb] 26))
  clear hc2 hb2
  go_wp2_with fail
  obtain ⟨ga, rfl, hca⟩ : ∃ g, sa = some ⟨g, 0, none⟩ ∧ ∀ j (hj : j < X.length), w1.cell? ⟨g, j, none⟩ = some (.string X[j]) := by
    rcases HC1.out with h | h
    · subst h; simp at hp
    · exact h
  obtain ⟨gb, rfl, hcb⟩ : ∃ g, sb = some ⟨g, 0, none⟩ ∧ ∀ j (hj : j < Y.length), w2.cell? ⟨g, j, none⟩ = some (.string Y[j]) := by
    rcases HC2.out with h | h
    · subst h; simp at hp2
    · exact h
  have HCA := hid (fun j (hj : j < X.length) => cell_below HB2.out (hca j hj))
  have HCB := hid hcb
  have HOS := hid (show Os w (w2.alloc (.cells #[.int .i64 x, .int .i64 y, .int .i64 z, .slice (some ⟨gb, 0, none⟩) Y.length cb] 26)) w1.heap.size w2.heap.size ga gb ca cb X Y from
    ⟨HB.out, by rw [World.cell?_alloc_lt _ _ _ (by show w1.heap.size < _; exact rz)]; exact r3, by rw [World.cell?_alloc_at _ _ _ _ rfl]; rfl,
      fun j hj => by rw [World.cell?_alloc_lt _ _ _ (lt_of_cell (HCA.out j hj))]; exact HCA.out j hj, fun j hj => by rw [World.cell?_alloc_lt _ _ _ (lt_of_cell (HCB.out j hj))]; exact HCB.out j hj⟩)
  clear hca hcb HC1 HC2
  refine wp_loop_rounds 4 ?_
  rw [rounds_succ]
  go_wp2_with fail
  go_quiet (fail)
  go_wp2_with fail
  rw [rounds_succ]
  go_wp2_with fail
  go_quiet (fail)
  go_wp2_with fail
  rw [rounds_succ]
  go_wp2_with fail
  go_quiet (fail)
  go_wp2_with fail
  rw [rounds_succ]
  go_wp2_with fail
  go_loopw [10] (fun i wr => ∃ (k d : Nat) (W : World), k ≤ X.length ∧ k ≤ Y.length ∧ i = .int .i64 k ∧ Hid (ordPs (bl X) (bl Y) = ordPs (bl (X.drop k)) (bl (Y.drop k))) ∧ Hid (Os w W w1.heap.size w2.heap.size ga gb ca cb X Y) ∧ wr = W.drewN d) (fun i _ => X.length - (intOf i).toNat)
  case atStart => exact ⟨0, _, _, Nat.zero_le _, Nat.zero_le _, rfl, hid rfl, HOS, rfl⟩
  case round =>
    clear HB HB1 HB2 r0 r1 r2 r3 rf rz
    obtain ⟨k, d, W, hk, hk2, rfl, HO, HW, rfl⟩ := hrel
    have p3 := HW.out.p3
    have q3 := HW.out.q3
    by_cases hlt : k < X.length
    · have t1 : decide ((k : Int) < (X.length : Int)) = true := decide_eq_true (by omega)
      by_cases hlt2 : k < Y.length
      · have t2 : decide ((k : Int) < (Y.length : Int)) = true := decide_eq_true (by omega)
        have hx := HW.out.xs k hlt
        have hy := HW.out.ys k hlt2
        have HP := hid (fun W => opart_any X[k] Y[k] W (HXS.out _ (List.getElem_mem hlt)).1 (HYS.out _ (List.getElem_mem hlt2)).1)
        rw [ordPart_num (HXS.out _ (List.getElem_mem hlt)).2 (HYS.out _ (List.getElem_mem hlt2)).2] at HP
        have HN := hid (HO.out.trans (ordPs_step X Y k hlt hlt2))
        generalize hq : ordPart X[k].data.toList Y[k].data.toList = q at *
        clear hq HO
        by_cases hz : q = 0
        · subst hz
          go_wp2_with fail
          go_quiet (first | (go_at_call 101; refine (HP.out _).mono fun e w' h => ⟨h.1, _, h.2⟩))
          go_wp2_with fail
          go_roundw
          case rel => exact ⟨k + 1, _, W, by omega, by omega, by go_num, hid (HN.out.trans (fst0 _)), HW, rfl⟩
          case measure => simp [intOf]; omega
        · have hqb : (q == 0) = false := beq_eq_false_iff_ne.2 hz
          have HF := hid (HN.out.trans (fst_ne _ hz))
          clear hz
          go_wp2_with fail
          go_quiet (first | (go_at_call 101; refine (HP.out _).mono fun e w' h => ⟨h.1, _, h.2⟩))
          go_wp2_with fail
          go_ret
          exact ⟨ret_int HF.out.symm, by first | exact below_drew HW.out.bl _ | exact below_drew (below_drew HW.out.bl _) _ | exact below_drew (below_drew (below_drew HW.out.bl _) _) _⟩
      · have HF := hid (HO.out.trans (ordPs_long X Y k hlt (by omega)))
        have t2 : decide ((k : Int) < (Y.length : Int)) = false := decide_eq_false (by omega)
        clear HO
        go_wp2_with fail
        refine (sign_is _ _ 1 _ ?hk).mono ?_
        case hk => simp [show ¬ X.length < Y.length by omega, show Y.length < X.length by omega]
        rintro e w' ⟨rfl, rfl⟩
        go_wp2_with fail
        go_ret
        exact ⟨ret_int HF.out.symm, by first | exact below_drew HW.out.bl _ | exact below_drew (below_drew HW.out.bl _) _ | exact below_drew (below_drew (below_drew HW.out.bl _) _) _⟩
    · have t1 : decide ((k : Int) < (X.length : Int)) = false := decide_eq_false (by omega)
      by_cases hlt2 : X.length < Y.length
      · have HF := hid (HO.out.trans (ordPs_short X Y k (by omega) (by omega)))
        clear HO
        go_wp2_with fail
        refine (sign_is _ _ (-1) _ ?hk).mono ?_
        case hk => simp
        rintro e w' ⟨rfl, rfl⟩
        go_wp2_with fail
        go_ret
        exact ⟨ret_int HF.out.symm, by first | exact below_drew HW.out.bl _ | exact below_drew (below_drew HW.out.bl _) _ | exact below_drew (below_drew (below_drew HW.out.bl _) _) _⟩
      · have HF := hid (HO.out.trans (ordPs_end X Y k (by omega) (by omega)))
        clear HO
        go_wp2_with fail
        refine (sign_is _ _ 0 _ ?hk).mono ?_
        case hk => simp [show ¬ Y.length < X.length by omega]
        rintro e w' ⟨rfl, rfl⟩
        go_wp2_with fail
        go_ret
        exact ⟨ret_int HF.out.symm, by first | exact below_drew HW.out.bl _ | exact below_drew (below_drew HW.out.bl _) _ | exact below_drew (below_drew (below_drew HW.out.bl _) _) _⟩
theorem orderVer_any (s t : ByteArray) (w : World) (hs : s.size < 999999) (ht : t.size < 999999) (h1 : verErr s.data.toList = 0) (h2 : verErr t.data.toList = 0) :
    Calls Tryz.prog 56 #[.string s, .string t] w fun e w' => e = .returned (.int .i64 (ordV s.data.toList t.data.toList)) ∧ Below w.heap.size w w' := by
  obtain ⟨X, hX⟩ : ∃ X, bl X = preOf s.data.toList := ⟨_, bl_strs _⟩
  obtain ⟨Y, hY⟩ : ∃ X, bl X = preOf t.data.toList := ⟨_, bl_strs _⟩
  have hA := verOf_good s w (by omega) h1 X hX
  have hT := fun W => verOf_good t W (by omega) h2 Y hY
  have lX : X.length ≤ 1000000 := by have := pre_len (l := s.data.toList); rw [← hX, bl_len, len_eq] at this; omega
  have lY : Y.length ≤ 1000000 := by have := pre_len (l := t.data.toList); rw [← hY, bl_len, len_eq] at this; omega
  have pX : ∀ x, x ∈ X → x.size ≤ maxLen ∧ part x.data.toList = 0 := fun x hx => by
    have hm : x.data.toList ∈ preOf s.data.toList := hX ▸ bl_mem hx
    refine ⟨?_, ver_parts h1 _ hm⟩
    have := pre_size hm
    rw [len_eq, len_eq] at this
    unfold maxLen; omega
  have pY : ∀ x, x ∈ Y → x.size ≤ maxLen ∧ part x.data.toList = 0 := fun x hx => by
    have hm : x.data.toList ∈ preOf t.data.toList := hY ▸ bl_mem hx
    refine ⟨?_, ver_parts h2 _ hm⟩
    have := pre_size hm
    rw [len_eq, len_eq] at this
    unfold maxLen; omega
  unfold ordV
  rw [← hX, ← hY]
  generalize nAt s.data.toList 0 = x at *
  generalize nAt s.data.toList 1 = y at *
  generalize nAt s.data.toList 2 = z at *
  generalize nAt t.data.toList 0 = x' at *
  generalize nAt t.data.toList 1 = y' at *
  generalize nAt t.data.toList 2 = z' at *
  unfold ordN
  by_cases e0 : x = x'
  · subst e0
    rw [ci_self, fst0]
    by_cases e1 : y = y'
    · subst e1
      rw [ci_self, fst0]
      by_cases e2 : z = z'
      · subst e2
        rw [ci_self, fst0]
        unfold ordPre
        by_cases f0 : X = []
        · subst f0
          rw [if_pos (show bl [] = [] ∨ bl Y = [] from Or.inl rfl), bl_len]
          by_cases f1 : Y = []
          · subst f1
            exact over_none0 x y z s t w hA hT
          · have hp := List.length_pos_iff.2 f1
            rw [show Lib.compareInt (Y.length : Int) ((bl []).length : Int) = 1 from ci_gt (by show (0 : Int) < _; omega)]
            exact over_none1 x y z Y s t w hp lY hA hT
        · by_cases f1 : Y = []
          · subst f1
            have hp := List.length_pos_iff.2 f0
            rw [if_pos (show bl X = [] ∨ bl [] = [] from Or.inr rfl), bl_len X, show Lib.compareInt ((bl []).length : Int) (X.length : Int) = -1 from ci_lt (by show (0 : Int) < _; omega)]
            exact over_none2 x y z X s t w hp lX hA hT
          · rw [if_neg (by rintro (h | h); exact f0 (bl_nil.1 h); exact f1 (bl_nil.1 h))]
            exact over_some x y z X Y s t w (List.length_pos_iff.2 f0) (List.length_pos_iff.2 f1) lX lY pX pY hA hT
      · rw [fst_ne _ (fun h => e2 ((ci_zero _ _).1 h))]
        exact over_2 x y z z' X Y s t w e2 hA hT
    · rw [fst_ne _ (fun h => e1 ((ci_zero _ _).1 h))]
      exact over_1 x y y' z z' X Y s t w e1 hA hT
  · rw [fst_ne _ (fun h => e0 ((ci_zero _ _).1 h))]
    exact over_0 x x' y y' z z' X Y s t w e0 hA hT
end Ve
end Go.Proofs.YtanponneancajaaGreatDoor
