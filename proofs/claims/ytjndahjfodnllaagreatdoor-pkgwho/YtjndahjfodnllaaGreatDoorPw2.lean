
import Derived.Sort.OwnSorted
import Derived.Test.YtjndahjfodnllaaGreatDoorPw1
import Derived.Test.YtjndahjfodnllaaGreatDoorFileA
import Derived.Test.YtjndahjfodnllaaGreatDoorFileB
import Derived.Deep.RegionHeld
import Derived.Test.YtjndahjfodnllaaGreatDoorCode
import Derived.Test.YtjndahjfodnllaaGreatDoorSplitAny
import Derived.Test.YtjndahjfodnllaaGreatDoorVerR
import Derived.Test.YtjndahjfodnllaaGreatDoorVerQ
import Derived.Test.YtjndahjfodnllaaGreatDoorOrdB
import Derived.Shelf.SlSortCmp.WholeK
import Derived.Shelf.SlGeneric
import Derived.Test.YtjndahjfodnllaaGreatDoorProg
import Derived.Laws.AppendOwnNone
namespace Go.Proofs.YtjndahjfodnllaaGreatDoor
open Go.RowKit Go.Shelf Go.Sort
namespace Ve
theorem map_bl (X : List ByteArray) : (bl X).map encStr = X.map Value.string := by simp [bl]
def ba' (t : List UInt8) : ByteArray := ⟨t.toArray⟩
def srtB (Z : List (List UInt8)) : List (List UInt8) := Z.mergeSort fun x y => decide (x ≤ y)
def risB (Z : List (List UInt8)) : List (List UInt8) := Lib.compact (srtB Z)
theorem srtB_len (Z : List (List UInt8)) : (srtB Z).length = Z.length := by simp [srtB]
theorem values_any (a : Option Addr) (len cap : Nat) (w : World) :
    Calls Tryz.prog 85 #[.slice a len cap] w fun e w' => e = .returned (.func (.func 151) #[] #[.pointer (some ⟨w.heap.size, 0, none⟩)]) ∧ w' = w.alloc (.cells #[.slice a len cap] 33) :=
  (callsIn_wide (n := 4)).1 (values_in Fence.wide 4 trivial rfl a len cap w)
set_option maxRecDepth 100000 in
set_option maxHeartbeats 2000000 in
theorem sorted_any (X : List ByteArray) (hX : X.length ≤ 1000000) (sv : Value) (w : World) (Bs : Nat) (hBs : Bs < w.heap.size) (hc : w.cell? ⟨Bs, 0, none⟩ = some sv) (hI : TxAt w sv X) :
    Calls Tryz.prog 84 #[.func (.func 151) #[] #[.pointer (some ⟨Bs, 0, none⟩)]] w fun e W' => ∃ v, e = .returned v ∧ W'.ownsRow w.heap.size 9 1 v X.length ((srtB (bl X)).map encStr) ∧ Below w.heap.size w W' := by
  have HCL := hid (collect_any X hX sv w Bs hBs hc hI)
  clear hc hI
  go_enter Tryz.func84, Tryz.ntmps84
  go_wp2_with fail
  refine HCL.out.mono ?_
  rintro e W ⟨v, rfl, hrow, hnil, hb⟩
  have HB := hid hb
  have HROW := hid hrow
  rcases hrow.2 with ⟨rfl, hz⟩ | ⟨gb, cap, cur, rfl, hbase, hgb, r1, r2, r3, r4⟩
  · have hss : X = [] := List.eq_nil_of_length_eq_zero hz
    subst hss
    have HS := hid (Tryz.slices_Sort_string_none none 0 W)
    clear hrow hnil hb hz
    go_wp2_with fail
    refine HS.out.mono ?_
    rintro e w1 ⟨rfl, rfl⟩
    go_wp2_with fail
    go_ret
    exact ⟨_, rfl, by simpa [srtB, bl] using World.ownsRow_nil w1 w.heap.size 9 1, HB.out⟩
  · have hlen : (bl X).length = X.length := bl_len X
    have hH : Holds encStr W gb 0 (bl X).toArray := holds_of_block hgb (by rw [map_bl, hlen]; simpa using r4)
    have hgl : gb < W.heap.size := (Array.getElem?_eq_some_iff.1 hgb).1
    have HS := hid (Tryz.slices_Sort_string gb 0 cap (bl X) W hH hgl (by rw [hlen]; omega))
    rw [hlen] at HS
    have HO := hid (fun n os => ownsRow_sorted (n := n) (os := os) (ss := bl X) (ts := srtB (bl X)) (srtB_len _) hbase hgb (by rw [hlen]; exact r1) r2 r3)
    have HBS := hid hbase
    clear hrow hnil hb hH r1 r2 r3 r4 hgb
    go_wp2_with fail
    refine HS.out.mono ?_
    rintro e w1 ⟨rfl, nn, os, rfl⟩
    have HBB := hid (HB.out.grown (grownBy_sorted (w := W) (g := gb) (n := nn) (os := os) (srtB (bl X)).toArray) HB.out.size (fun j hj => by cases hj; exact HBS.out))
    have HOO := hid (HO.out nn os)
    rw [hlen] at HOO
    have HWW := hid (show ∃ W2, grow (putRow encStr (Sort.ahead W nn) gb 0 ((bl X).mergeSort fun x y => decide (x ≤ y)).toArray) os = W2 from ⟨_, rfl⟩)
    obtain ⟨W2, hW2⟩ := HWW.out
    have HOO2 := hid (show W2.ownsRow w.heap.size 9 1 (.slice (some ⟨gb, 0, none⟩) X.length cap) X.length ((srtB (bl X)).map encStr) by rw [← hW2]; exact HOO.out)
    have HBB2 := hid (show Below w.heap.size w W2 by rw [← hW2]; exact HBB.out)
    rw [hW2]
    clear HOO HBB HO HWW hW2
    go_wp2_with fail
    go_ret
    exact ⟨_, rfl, HOO2.out, HBB2.out⟩
theorem owns_compact {w : World} {base g cap n : Nat} {e : TypeId} {cur : Array Value} {C R : List (List UInt8)} (hbase : base ≤ g) (hb : w.heap[g]? = some (.cells cur e (0, 0)))
    (h1 : C.length + R.length ≤ cap) (h2 : cap ≤ maxLen) (h3 : cur.size = cap * 1) :
    (putRow encStr (Sort.ahead w n) g 0 (C ++ R).toArray).ownsRow base e 1 (.slice (some ⟨g, 0, none⟩) C.length cap) C.length (C.map encStr) := by
  have hs := heap_sorted (n := n) (os := #[]) (C ++ R).toArray hb
  rw [grow_empty] at hs
  refine ⟨by simp, .inr ⟨g, cap, _, rfl, hbase, hs, by omega, h2, by simp [putCells, h3], ?_⟩⟩
  have ht := take_putCells cur (C ++ R) (by rw [List.length_append]; omega)
  have := congrArg (List.take C.length) ht
  rw [List.take_take, List.length_append, Nat.min_eq_left (by omega), List.map_append, List.take_append_of_le_length (by simp), List.take_of_length_le (l := List.map encStr C) (by simp)] at this
  rw [Nat.mul_one]; exact this
theorem grownBy_compact {w : World} {g n : Nat} (d : Array (List UInt8)) : w.grownBy (putRow encStr (Sort.ahead w n) g 0 d) (some g) := by
  have := grownBy_sorted (w := w) (g := g) (n := n) (os := #[]) d
  rwa [grow_empty] at this
theorem compact_le (zs : List (List UInt8)) : (Lib.compact zs).length ≤ zs.length := by
  unfold Lib.compact Lib.compactUpTo
  rw [List.length_map]
  exact Nat.le_trans (List.length_filter_le _ _) (by simp)
def tx (Z : List (List UInt8)) : List ByteArray := Z.map ba'
theorem tx_str (Z : List (List UInt8)) : (tx Z).map Value.string = Z.map encStr := by simp [tx, ba']
theorem bl_tx (Z : List (List UInt8)) : bl (tx Z) = Z := by
  unfold bl tx
  rw [List.map_map]
  exact (List.map_congr_left fun t _ => show (ba' t).data.toList = t by simp [ba']).trans (List.map_id _)
theorem tx_len (Z : List (List UInt8)) : (tx Z).length = Z.length := by simp [tx]
theorem own_txB {w : World} {B : Nat} {e : TypeId} {v : Value} {Z : List (List UInt8)} (h : w.ownsRow B e 1 v Z.length (Z.map encStr)) : w.ownsRow B e 1 v (tx Z).length ((tx Z).map Value.string) := by
  rw [tx_str, tx_len]; exact h
set_option maxRecDepth 100000 in
set_option maxHeartbeats 2000000 in
theorem rising_any (X : List ByteArray) (hX : X.length ≤ 1000000) (sv : Value) (w : World) (hI : TxAt w sv X) :
    Calls Tryz.prog 49 #[sv] w fun e W' => ∃ v, e = .returned v ∧ W'.ownsRow w.heap.size 9 1 v (tx (risB (bl X))).length ((tx (risB (bl X))).map Value.string) ∧ Below w.heap.size w W' := by
  obtain ⟨a, c, rfl, hac, _⟩ := id hI
  have HV := hid (values_any a X.length c w)
  have HB1 := hid ((Below.refl w.heap.size w).alloc (Nat.le_refl _) (.cells #[.slice a X.length c] 33))
  have HSO := hid (sorted_any X hX (.slice a X.length c) (w.alloc (.cells #[.slice a X.length c] 33)) w.heap.size (by simp) (by rw [Lib.cell_of_heap (heap_alloc_new w _)]; rfl) (hI.below HB1.out))
  clear hI hac
  go_enter Tryz.func49, Tryz.ntmps49
  go_wp2_with fail
  refine HV.out.mono ?_
  rintro e w1 ⟨rfl, rfl⟩
  go_wp2_with fail
  refine HSO.out.mono ?_
  rintro e W ⟨v, rfl, hrow, hb⟩
  have HB := hid (HB1.out.trans (hb.mono (by simp)))
  rcases hrow.2 with ⟨rfl, hz⟩ | ⟨gb, cap, cur, rfl, hbase, hgb, r1, r2, r3, r4⟩
  · have hss : X = [] := List.eq_nil_of_length_eq_zero hz
    subst hss
    have HS := hid (Tryz.slices_Compact_string_empty none 0 W)
    clear hrow hb hz
    go_wp2_with fail
    refine HS.out.mono ?_
    rintro e w1 ⟨rfl, rfl⟩
    go_wp2_with fail
    go_ret
    exact ⟨_, rfl, by simpa [risB, srtB, bl, tx, Lib.compact, Lib.compactUpTo] using World.ownsRow_nil w1 w.heap.size 9 1, HB.out⟩
  · have hlen : (srtB (bl X)).length = X.length := by rw [srtB_len, bl_len]
    have hH : Holds encStr W gb 0 (srtB (bl X)).toArray := holds_of_block hgb (by rw [hlen]; simpa using r4)
    have HS := hid (Tryz.slices_Compact_string gb 0 cap (srtB (bl X)) W hH (by rw [hlen]; omega) (by rw [hlen]; exact r1))
    rw [hlen] at HS
    have hcl := compact_le (srtB (bl X))
    have hgw : w.heap.size ≤ gb := by simp at hbase; omega
    have HO := hid (fun n => owns_compact (n := n) (base := w.heap.size) (C := risB (bl X)) (R := List.replicate (X.length - (Lib.compact (srtB (bl X))).length) []) hgw hgb (by rw [List.length_replicate]; unfold risB; omega) r2 r3)
    have HBS := hid hgw
    clear hrow hb hH r1 r2 r3 r4 hgb hbase
    go_wp2_with fail
    refine HS.out.mono ?_
    rintro e w1 ⟨rfl, nn, hw1⟩
    have HBB := hid (HB.out.grown (grownBy_compact (w := W) (g := gb) (n := nn) (Lib.compact (srtB (bl X)) ++ List.replicate (X.length - (Lib.compact (srtB (bl X))).length) []).toArray) HB.out.size (fun j hj => by cases hj; exact HBS.out))
    have HOO := hid (HO.out nn)
    rw [← hw1] at HBB
    have HOO2 := hid (show w1.ownsRow w.heap.size 9 1 (.slice (some ⟨gb, 0, none⟩) (risB (bl X)).length cap) (risB (bl X)).length ((risB (bl X)).map encStr) by rw [hw1]; exact HOO.out)
    clear HOO HO hw1
    go_wp2_with fail
    go_ret
    exact ⟨_, rfl, own_txB HOO2.out, HBB.out⟩
end Ve
end Go.Proofs.YtjndahjfodnllaaGreatDoor


namespace Go.Proofs.YtjndahjfodnllaaGreatDoor
open Go.RowKit
namespace Ve
set_option maxHeartbeats 4000000 in
set_option maxRecDepth 100000 in
theorem first_ents (K : Nat) (cb : Array Value) (E : Nat → Nat) (L : List Raw) (b o c : Nat) (A : Nat → Addr) (w : World) (eg : ∀ args w, (callFunc K args).run Tryz.prog w = .ok (.enter K args) w) (hL : L.length ≤ 1000000) (hs : ∀ r, r ∈ L → slR r)
    (hc : ∀ j (h : j < L.length), w.cell? ⟨b, o + j * 5, none⟩ = some (.string L[j].1.1) ∧ w.cell? ⟨b, o + j * 5 + 1, none⟩ = some (.string L[j].1.2) ∧ w.cell? ⟨b, o + j * 5 + 2, none⟩ = some L[j].2.1 ∧ w.cell? ⟨b, o + j * 5 + 3, none⟩ = some L[j].2.2.1 ∧ w.cell? ⟨b, o + j * 5 + 4, none⟩ = some (.bool L[j].2.2.2))
    (hK : ∀ i (h : i < L.length) W, Below w.heap.size w W → Calls Tryz.prog K (#[.int .i64 (i : Int), rawV L[i]] ++ cb) W fun e w' => e = .returned (errA A (E i)) ∧ Below W.heap.size W w') :
    Calls Tryz.prog 54 #[.slice (some ⟨b, o, none⟩) L.length c, .func (.func K) #[] cb] w fun e w' => ∃ v, e = .returned v ∧ ErrAt w' A v (codeE E L.length) (fstE E L.length) ∧ Below w.heap.size w w' := by
  have HK := hid hK
  have HC := hid hc
  have HSL := hid hs
  clear hK hc hs
  go_enter Tryz.func54, Tryz.ntmps54
  go_wp2_with fail
  go_loopw [10] (fun i wr => ∃ k : Nat, k ≤ L.length ∧ i = .int .i64 k ∧ Hid (∀ j, j < k → E j = 0) ∧ Hid (Below w.heap.size w wr)) (fun i _ => L.length - (intOf i).toNat)
  case atStart => exact ⟨0, Nat.zero_le _, rfl, hid (fun j hj => absurd hj (by omega)), hid (Below.refl _ _)⟩
  case round =>
    obtain ⟨k, hk, rfl, HE, HB⟩ := hrel
    by_cases hlt : k < L.length
    · obtain ⟨y0, y1, y2, y3, y4⟩ := HC.out k hlt
      have x0 := cell_below HB.out y0
      have x1 := cell_below HB.out y1
      have x2 := cell_below HB.out y2
      have x3 := cell_below HB.out y3
      have x4 := cell_below HB.out y4
      have hsl := HSL.out L[k] (List.getElem_mem hlt)
      have hkI : (k : Int) < (L.length : Int) := by omega
      have HLT := hid hlt
      have HKK := hid (fun W hW => HK.out k hlt W hW)
      clear y0 y1 y2 y3 y4
      generalize L[k] = x at *
      obtain ⟨⟨p, q⟩, rv, pv, bk⟩ := x
      obtain ⟨⟨ra, rn, rc, hrv⟩, pa, pn, pc, hpv⟩ := hsl
      simp only at hrv hpv
      subst hrv
      subst hpv
      have HBa := hid (HB.out.alloc HB.out.size (.cells #[.string p, .string q, .slice ra rn rc, .slice pa pn pc, .bool bk] 61))
      have HP := hid (HKK.out _ HBa.out)
      unfold rawV at HP
      clear hlt HKK
      by_cases h0 : E k = 0
      · rw [h0, errA0] at HP
        have H0 := hid h0
        clear h0
        go_wp2_with fail
        refine HP.out.mono ?_
        rintro e w1 ⟨rfl, hb1⟩
        have HB1 := hid (HBa.out.trans (hb1.mono HBa.out.size))
        clear hb1
        go_wp2_with fail
        go_roundw
        case rel => exact ⟨k + 1, by have := HLT.out; omega, by go_num, hid (fun j hj => by
          rcases Nat.lt_or_ge j k with h | h
          · exact HE.out j h
          · have : j = k := by omega
            rw [this]; exact H0.out), HB1⟩
        case measure => have := HLT.out; simp [intOf]; omega
      · rw [errA_if A h0] at HP
        have HF := hid (fstE_some HE.out h0 HLT.out)
        have H0 := hid h0
        clear h0
        go_wp2_with fail
        refine HP.out.mono ?_
        rintro e w1 ⟨rfl, hb1⟩
        have HB1 := hid (HBa.out.trans (hb1.mono HBa.out.size))
        clear hb1
        go_wp2_with fail
        go_ret
        refine ⟨_, rfl, ?_, HB1.out.alloc HB1.out.size _⟩
        rw [codeE_some HF.out, HF.out]
        exact fault_at H0.out _
    · have HF := hid (fstE_none (E := E) (n := L.length) (fun j hj => HE.out j (by omega)))
      have hkI : ¬ (k : Int) < (L.length : Int) := by omega
      clear hlt
      go_wp2_with fail
      go_ret
      refine ⟨_, rfl, ?_, HB.out⟩
      rw [codeE_none HF.out, HF.out]
      rfl
theorem firstE_none (K : Nat) (cb : Array Value) (E : Nat → Nat) (a : Option Addr) (c : Nat) (A : Nat → Addr) (w : World) :
    Calls Tryz.prog 54 #[.slice a 0 c, .func (.func K) #[] cb] w fun e w' => ∃ v, e = .returned v ∧ ErrAt w' A v (codeE E 0) (fstE E 0) ∧ Below w.heap.size w w' := by
  go_enter Tryz.func54, Tryz.ntmps54
  go_wp2_with fail
  go_loopw [10] (fun i wr => i = .int .i64 0 ∧ wr = w) (fun i _ => 0)
  case atStart => exact ⟨rfl, rfl⟩
  case round =>
    obtain ⟨rfl, rfl⟩ := hrel
    go_wp2_with fail
    go_ret
    exact ⟨_, rfl, rfl, Below.refl _ _⟩
theorem firstE_any (K : Nat) (cb : Array Value) (E : Nat → Nat) (L : List Raw) (v : Value) (A : Nat → Addr) (w : World) (eg : ∀ args w, (callFunc K args).run Tryz.prog w = .ok (.enter K args) w) (hL : L.length ≤ 1000000) (hv : EsAt w v L)
    (hK : ∀ i (h : i < L.length) W, Below w.heap.size w W → Calls Tryz.prog K (#[.int .i64 (i : Int), rawV L[i]] ++ cb) W fun e w' => e = .returned (errA A (E i)) ∧ Below W.heap.size W w') :
    Calls Tryz.prog 54 #[v, .func (.func K) #[] cb] w fun e w' => ∃ u, e = .returned u ∧ ErrAt w' A u (codeE E L.length) (fstE E L.length) ∧ Below w.heap.size w w' := by
  obtain ⟨a, c, rfl, _, hs, h⟩ := hv
  cases L with
  | nil => exact firstE_none K cb E a c A w
  | cons x r =>
    obtain ⟨b, o, rfl, h2⟩ := h (by simp)
    exact first_ents K cb E (x :: r) b o c A w eg hL hs h2 hK
theorem mpath_ix (s : ByteArray) (A : Nat → Addr) (m : Int) (w : World) (hs : s.size < 4294967281) (S : Te w A m) :
    Calls Tryz.prog 13 #[.string s] w fun e w' => e = .returned (errA A (pathErr s.data.toList)) ∧ Below w.heap.size w w' := by
  have HP := hid (readPath_any s A m w hs S)
  clear S
  go_enter Tryz.func13, Tryz.ntmps13
  go_wp2_with fail
  refine HP.out.mono ?_
  rintro e w1 ⟨⟨H, n, v, rfl, hv, _, _⟩, hb⟩
  have HV := hid hv
  have HB := hid hb
  clear hb hv
  go_wp2_with fail
  go_ret
  exact ⟨by rw [← HV.out]; rfl, HB.out⟩
def noPk (l : List UInt8) : Bool := decide (l ≠ [46]) && decide (pathErr l ≠ 0)
set_option maxHeartbeats 1000000 in
theorem noPack_any (s : ByteArray) (A : Nat → Addr) (m : Int) (w : World) (hs : s.size < 4294967281) (S : Te w A m) :
    Calls Tryz.prog 161 #[.string s] w fun e w' => e = .returned (.bool (noPk s.data.toList)) ∧ Below w.heap.size w w' := by
  have HP := hid (mpath_ix s A m w hs S)
  clear S
  generalize hr : noPk s.data.toList = r
  have HR := hid hr
  clear hr
  by_cases h1 : s.data.toList = [46]
  · have hq : (s.toList == [46]) = true := by rw [ByteArray.toList_eq]; exact beq_iff_eq.2 h1
    have HX := hid (show noPk s.data.toList = false by unfold noPk; rw [h1]; rfl)
    clear h1
    go_enter Tryz.func161, Tryz.ntmps161
    go_wp2_with fail
    go_ret
    exact ⟨by rw [← HR.out, HX.out]; rfl, Below.refl _ _⟩
  · have hq : (s.toList == [46]) = false := by rw [ByteArray.toList_eq]; exact beq_eq_false_iff_ne.2 h1
    by_cases h2 : pathErr s.data.toList = 0
    · rw [h2, errA0] at HP
      have HX := hid (show noPk s.data.toList = false by unfold noPk; rw [h2]; simp)
      clear h1 h2
      go_enter Tryz.func161, Tryz.ntmps161
      go_wp2_with fail
      refine HP.out.mono ?_
      rintro e w1 ⟨rfl, hb⟩
      have HB := hid hb
      clear hb
      go_wp2_with fail
      go_ret
      exact ⟨by rw [← HR.out, HX.out]; rfl, HB.out⟩
    · rw [errA_if A h2] at HP
      have HX := hid (show noPk s.data.toList = true by unfold noPk; rw [decide_eq_true h1, decide_eq_true h2]; rfl)
      clear h1 h2
      go_enter Tryz.func161, Tryz.ntmps161
      go_wp2_with fail
      refine HP.out.mono ?_
      rintro e w1 ⟨rfl, hb⟩
      have HB := hid hb
      clear hb
      go_wp2_with fail
      go_ret
      exact ⟨by rw [← HR.out, HX.out]; rfl, HB.out⟩
set_option maxHeartbeats 1000000 in
theorem idxT_some (K : Nat) (P : List UInt8 → Bool) (b0 o0 c0 : Nat) (X : List ByteArray) (w : World) (eg : ∀ args w, (callFunc K args).run Tryz.prog w = .ok (.enter K args) w) (hX : X.length ≤ 1000000) (hc0 : ∀ j (h : j < X.length), w.cell? ⟨b0, o0 + j, none⟩ = some (.string X[j]))
    (hK : ∀ i (h : i < X.length) W, Below w.heap.size w W → Calls Tryz.prog K #[.string X[i]] W fun e w' => e = .returned (.bool (P X[i].data.toList)) ∧ Below W.heap.size W w') :
    Calls Tryz.prog 115 #[.slice (some ⟨b0, o0, none⟩) X.length c0, .func (.func K) #[] #[]] w fun e w' => ∃ i : Int, e = .returned (.int .i64 i) ∧ decide (0 ≤ i) = (bl X).any P ∧ Below w.heap.size w w' := by
  have HC0 := hid hc0
  have HK := hid hK
  clear hK hc0
  go_enter Tryz.func115, Tryz.ntmps115
  go_wp2_with fail
  go_loopw [8] (fun i wr => ∃ k : Nat, k ≤ X.length ∧ i = .int .i64 k ∧ Hid ((bl X).any P = (bl (X.drop k)).any P) ∧ Hid (Below w.heap.size w wr)) (fun i _ => X.length - (intOf i).toNat)
  case atStart => exact ⟨0, Nat.zero_le _, rfl, hid rfl, hid (Below.refl _ _)⟩
  case round =>
    obtain ⟨k, hk, rfl, HO, HB⟩ := hrel
    by_cases hlt : k < X.length
    · have hx : wr.cell? ⟨b0, o0 + k, none⟩ = some (.string X[k]) := cell_below HB.out (HC0.out k hlt)
      have HP := hid (HK.out k hlt wr HB.out)
      have HN := hid (HO.out.trans (any_step P X k hlt))
      generalize hq : P X[k].data.toList = q at *
      clear hq HO
      cases q
      · go_wp2_with fail
        refine HP.out.mono ?_
        rintro e w1 ⟨rfl, hb1⟩
        have HB1 := hid (HB.out.trans (hb1.mono HB.out.size))
        clear hb1
        go_wp2_with fail
        go_roundw
        case rel => exact ⟨k + 1, by omega, by go_num, hid (HN.out.trans (Bool.false_or _)), HB1⟩
        case measure => simp [intOf]; omega
      · go_wp2_with fail
        refine HP.out.mono ?_
        rintro e w1 ⟨rfl, hb1⟩
        have HB1 := hid (HB.out.trans (hb1.mono HB.out.size))
        clear hb1
        go_wp2_with fail
        go_ret
        exact ⟨k, rfl, by rw [HN.out, Bool.true_or]; exact decide_eq_true (by omega), HB1.out⟩
    · have HE := hid (show (bl (X.drop k)).any P = false by rw [List.drop_eq_nil_of_le (by omega)]; rfl)
      go_wp2_with fail
      go_ret
      exact ⟨-1, rfl, by rw [HO.out, HE.out]; rfl, HB.out⟩
theorem idxT_none (K : Nat) (a : Option Addr) (c : Nat) (w : World) : Calls Tryz.prog 115 #[.slice a 0 c, .func (.func K) #[] #[]] w fun e w' => e = .returned (.int .i64 (-1)) ∧ Below w.heap.size w w' := by
  go_enter Tryz.func115, Tryz.ntmps115
  go_wp2_with fail
  go_loopw [8] (fun i wr => i = .int .i64 0 ∧ wr = w) (fun i _ => 0)
  case atStart => exact ⟨rfl, rfl⟩
  case round =>
    obtain ⟨rfl, rfl⟩ := hrel
    go_wp2_with fail
    go_ret
    exact ⟨rfl, Below.refl _ _⟩
theorem idxT_any (K : Nat) (P : List UInt8 → Bool) (X : List ByteArray) (v : Value) (w : World) (eg : ∀ args w, (callFunc K args).run Tryz.prog w = .ok (.enter K args) w) (hX : X.length ≤ 1000000) (hv : TxAt w v X)
    (hK : ∀ i (h : i < X.length) W, Below w.heap.size w W → Calls Tryz.prog K #[.string X[i]] W fun e w' => e = .returned (.bool (P X[i].data.toList)) ∧ Below W.heap.size W w') :
    Calls Tryz.prog 115 #[v, .func (.func K) #[] #[]] w fun e w' => ∃ i : Int, e = .returned (.int .i64 i) ∧ decide (0 ≤ i) = (bl X).any P ∧ Below w.heap.size w w' := by
  obtain ⟨a, c, rfl, _, h⟩ := hv
  cases X with
  | nil => exact (idxT_none K a c w).mono fun e w' ⟨h1, h2⟩ => ⟨-1, h1, rfl, h2⟩
  | cons x r =>
    obtain ⟨b, o, rfl, h2⟩ := h (by simp)
    exact idxT_some K P b o c (x :: r) w eg hX h2 hK
theorem hasT_any (K : Nat) (P : List UInt8 → Bool) (X : List ByteArray) (v : Value) (w : World) (eg : ∀ args w, (callFunc K args).run Tryz.prog w = .ok (.enter K args) w) (hX : X.length ≤ 1000000) (hv : TxAt w v X)
    (hK : ∀ i (h : i < X.length) W, Below w.heap.size w W → Calls Tryz.prog K #[.string X[i]] W fun e w' => e = .returned (.bool (P X[i].data.toList)) ∧ Below W.heap.size W w') :
    Calls Tryz.prog 63 #[v, .func (.func K) #[] #[]] w fun e w' => e = .returned (.bool ((bl X).any P)) ∧ Below w.heap.size w w' := by
  have HI := hid (idxT_any K P X v w eg hX hv hK)
  obtain ⟨a, c, rfl, _⟩ := hv
  clear hK
  go_enter Tryz.func63, Tryz.ntmps63
  go_wp2_with fail
  refine HI.out.mono ?_
  rintro e w1 ⟨i, rfl, hi, hb⟩
  have HB := hid hb
  have HQ := hid hi
  clear hb hi
  go_wp2_with fail
  go_ret
  exact ⟨ret_bool HQ.out, HB.out⟩
theorem eqT_any (X Y : List ByteArray) (v u : Value) (w : World) (hX : X.length ≤ 1000000) (hY : Y.length ≤ 1000000) (hv : TxAt w v X) (hu : TxAt w u Y) :
    Calls Tryz.prog 162 #[v, u] w fun e w' => e = .returned (.bool (decide (X = Y))) ∧ Below w.heap.size w w' := by
  obtain ⟨a, c, rfl, _, h⟩ := hv
  obtain ⟨a', c', rfl, _, h'⟩ := hu
  cases X with
  | nil =>
    refine (Tryz.slices_Equal_string_empty a a' c Y.length c' w (by omega)).mono fun e w' ⟨h1, h2⟩ => ⟨?_, by rw [h2]; exact Below.refl _ _⟩
    rw [h1]
    congr 2
    cases Y with
    | nil => rfl
    | cons y s => simp
  | cons x r =>
    by_cases hl : (x :: r).length = Y.length
    · obtain ⟨b, o, rfl, h2⟩ := h (by simp)
      obtain ⟨b', o', rfl, h3⟩ := h' (by intro hy; rw [hy] at hl; simp at hl)
      refine (Tryz.slices_Equal_string b o (x :: r).length c b' o' Y.length c' (x :: r) Y w (Nat.le_refl _) (Nat.le_refl _) (by omega) (by omega) (fun j hj => ?_) (fun j hj => ?_)).mono fun e w' ⟨h1, q, h4⟩ => ⟨?_, by rw [h4]; exact below_drawn_of (Below.refl _ w) q⟩
      · rw [h2 j hj]; simp [List.getD, List.getElem?_eq_getElem hj]
      · rw [h3 j hj]; simp [List.getD, List.getElem?_eq_getElem hj]
      · rw [h1, List.take_length, List.take_length]
    · refine (Tryz.slices_Equal_string_lens a a' (x :: r).length c Y.length c' w hl).mono fun e w' ⟨h1, h2⟩ => ⟨?_, by rw [h2]; exact Below.refl _ _⟩
      rw [h1]
      congr 2
      exact (decide_eq_false (fun hh => hl (by rw [hh]))).symm
def packErr (Z : List (List UInt8)) : Nat := if 10 < Z.length then 7 else if Z.any noPk then 1 else if Z = risB Z then 0 else 8
theorem pk_full {Z : List (List UInt8)} (h : 10 < Z.length) : packErr Z = 7 := by unfold packErr; rw [if_pos h]
theorem pk_text {Z : List (List UInt8)} (h : ¬ 10 < Z.length) (h1 : Z.any noPk = true) : packErr Z = 1 := by unfold packErr; rw [if_neg h, if_pos h1]
theorem pk_ok {Z : List (List UInt8)} (h : ¬ 10 < Z.length) (h1 : Z.any noPk = false) (h2 : Z = risB Z) : packErr Z = 0 := by unfold packErr; rw [if_neg h, h1, if_neg (by simp), if_pos h2]
theorem pk_order {Z : List (List UInt8)} (h : ¬ 10 < Z.length) (h1 : Z.any noPk = false) (h2 : ¬ Z = risB Z) : packErr Z = 8 := by unfold packErr; rw [if_neg h, h1, if_neg (by simp), if_neg h2]
theorem eq_ris (X : List ByteArray) : decide (X = tx (risB (bl X))) = decide (bl X = risB (bl X)) := by
  congr 1
  apply propext
  constructor
  · intro h; have := congrArg bl h; rwa [bl_tx] at this
  · intro h; exact bl_inj (by rw [bl_tx]; exact h)
theorem risB_len (Z : List (List UInt8)) : (risB Z).length ≤ Z.length := by
  unfold risB
  exact Nat.le_trans (compact_le _) (by rw [srtB_len]; exact Nat.le_refl _)
set_option maxHeartbeats 2000000 in
theorem packs_any (X : List ByteArray) (v : Value) (A : Nat → Addr) (m : Int) (w : World) (hX : X.length ≤ 1000) (hz : ∀ x, x ∈ X → x.size < 999999) (S : Te w A m) (hv : TxAt w v X) :
    Calls Tryz.prog 100 #[v] w fun e w' => e = .returned (errA A (packErr (bl X))) ∧ Below w.heap.size w w' := by
  obtain ⟨a, c, rfl, _⟩ := id hv
  have hbl : (bl X).length = X.length := bl_len X
  have HS := hid S
  have g6 := S.sen.g6
  have egN : ∀ args w, (callFunc 161 args).run Tryz.prog w = .ok (.enter 161 args) w := enters_of Tryz.func161 (by kernel_rfl) rfl
  by_cases h1 : 10 < X.length
  · have q1 : (10 : Int) < (X.length : Int) := by omega
    rw [pk_full (by rw [hbl]; exact h1)]
    clear hv S h1 egN
    go_enter Tryz.func100, Tryz.ntmps100
    go_wp2_with fail
    go_ret
    exact ⟨rfl, Below.refl _ _⟩
  · have q1 : ¬ (10 : Int) < (X.length : Int) := by omega
    have HH := hid (hasT_any 161 noPk X _ w egN (by omega) hv (fun i hi W hW => noPack_any X[i] A m W (by have := hz _ (List.getElem_mem hi); omega) (S.below hW)))
    have HV := hid hv
    have hb10 : ¬ 10 < (bl X).length := by rw [hbl]; exact h1
    have H10 := hid hb10
    clear hv S h1 egN hb10
    cases h2 : (bl X).any noPk
    · rw [h2] at HH
      have H2 := hid h2
      clear h2
      go_enter Tryz.func100, Tryz.ntmps100
      go_wp2_with fail
      refine HH.out.mono ?_
      rintro e w1 ⟨rfl, hb⟩
      have HRI := hid (rising_any X (by omega) _ w1 (HV.out.below hb))
      have HB := hid hb
      clear hb
      go_wp2_with fail
      refine HRI.out.mono ?_
      rintro e w2 ⟨u, rfl, ho, hb⟩
      have HB2 := hid (HB.out.trans (hb.mono HB.out.size))
      have HEQ := hid (eqT_any X (tx (risB (bl X))) _ u w2 (by omega) (by rw [tx_len]; have := risB_len (bl X); omega) (HV.out.below HB2.out) (own_tx ho))
      rw [eq_ris] at HEQ
      obtain ⟨ua, uc, hu⟩ := own_slN ho
      subst hu
      have g7 := (HS.out.below HB2.out).sen.g7
      clear hb ho g6
      by_cases h3 : bl X = risB (bl X)
      · rw [decide_eq_true h3] at HEQ
        have HX := hid (pk_ok H10.out H2.out h3)
        clear h3
        go_wp2_with fail
        refine HEQ.out.mono ?_
        rintro e w3 ⟨rfl, hb⟩
        have HB3 := hid (HB2.out.trans (hb.mono HB2.out.size))
        clear hb
        go_wp2_with fail
        go_ret
        exact ⟨by rw [HX.out]; rfl, HB3.out⟩
      · rw [decide_eq_false h3] at HEQ
        have HX := hid (pk_order H10.out H2.out h3)
        have HG := hid (fun W (h : Below w.heap.size w W) => (HS.out.below h).sen.g7)
        clear h3 g7
        go_wp2_with fail
        refine HEQ.out.mono ?_
        rintro e w3 ⟨rfl, hb⟩
        have HB3 := hid (HB2.out.trans (hb.mono HB2.out.size))
        have g7 := HG.out _ HB3.out
        clear hb
        go_wp2_with fail
        go_ret
        exact ⟨by rw [HX.out]; rfl, HB3.out⟩
    · rw [h2] at HH
      have HX := hid (pk_text H10.out h2)
      have HG := hid (fun W (h : Below w.heap.size w W) => (HS.out.below h).sen.g0)
      clear h2 g6
      go_enter Tryz.func100, Tryz.ntmps100
      go_wp2_with fail
      refine HH.out.mono ?_
      rintro e w1 ⟨rfl, hb⟩
      have HB := hid hb
      have g0 := HG.out _ HB.out
      clear hb
      go_wp2_with fail
      go_ret
      exact ⟨by rw [HX.out]; rfl, HB.out⟩
end Ve
end Go.Proofs.YtjndahjfodnllaaGreatDoor


namespace Go.Proofs.YtjndahjfodnllaaGreatDoor
open Go.RowKit
namespace Ve
def shortL (L : List Bm) : Prop := ∀ m, m ∈ L → m.1.size < 999999 ∧ m.2.size < 999999
theorem reqE_0 {own : ByteArray} {L : List Bm} (h : 0 < L.length) : reqE own L 0 = reqW own none L[0] := by
  unfold reqE prevOf; rw [List.getElem?_eq_getElem h]; rfl
theorem reqE_1 {own : ByteArray} {L : List Bm} {k : Nat} (h : k + 1 < L.length) : reqE own L (k + 1) = reqW own (some (L[k]'(by omega))) L[k + 1] := by
  unfold reqE prevOf; rw [List.getElem?_eq_getElem h, if_neg (by omega)]; simp only [Nat.add_sub_cancel]; rw [List.getElem?_eq_getElem (show k < L.length by omega)]
theorem reqK_any (own : ByteArray) (L : List Bm) (b1 b2 : Nat) (v : Value) (A : Nat → Addr) (m : Int) (W : World) (hL : L.length ≤ 1000000) (hs : shortL L) (S : Te W A m) (h1 : W.cell? ⟨b1, 0, none⟩ = some (.string own)) (h2 : W.cell? ⟨b2, 0, none⟩ = some v) (hv : MsAt W v L) (i : Nat) (hi : i < L.length) :
    Calls Tryz.prog 160 (#[.int .i64 (i : Int), .agg #[.string L[i].1, .string L[i].2]] ++ #[.pointer (some ⟨b1, 0, none⟩), .pointer (some ⟨b2, 0, none⟩)]) W fun e w' => e = .returned (errA A (reqE own L i)) ∧ Below W.heap.size W w' := by
  obtain ⟨a, c, rfl, _, h⟩ := hv
  obtain ⟨b, o, rfl, hc⟩ := h (by intro e; rw [e] at hi; simp at hi)
  have hz := hs L[i] (List.getElem_mem hi)
  cases i with
  | zero =>
    rw [reqE_0 hi]
    by_cases e0 : mErr L[0] = 0
    · by_cases e1 : L[0].1 = own
      · exact reqK_own 0 L[0].1 L[0].2 own b1 _ none A m W hz.1 hz.2 S h1 e0 e1
      · exact reqK_0 L[0].1 L[0].2 own b1 _ A m W hz.1 hz.2 S h1 e0 e1
    · exact reqK_bad 0 L[0].1 L[0].2 own b1 _ none A m W hz.1 hz.2 S e0
  | succ k =>
    rw [reqE_1 hi]
    by_cases e0 : mErr L[k + 1] = 0
    · by_cases e1 : L[k + 1].1 = own
      · exact reqK_own _ L[k + 1].1 L[k + 1].2 own b1 _ _ A m W hz.1 hz.2 S h1 e0 e1
      · exact reqK_1 k L[k + 1].1 L[k + 1].2 L[k].1 L[k].2 own b1 b2 b o L.length c A m W hz.1 hz.2 S h1 e0 e1 h2 (by omega) hL (hc k (by omega)).1
    · exact reqK_bad _ L[k + 1].1 L[k + 1].2 own b1 _ _ A m W hz.1 hz.2 S e0
theorem MsAt.slice {w : World} {v : Value} {L : List Bm} (h : MsAt w v L) : ∃ p n c, v = .slice p n c := by
  obtain ⟨a, c, e, _⟩ := h
  exact ⟨a, _, c, e⟩
set_option maxHeartbeats 1000000 in
theorem reqs_any (own : ByteArray) (L : List Bm) (v : Value) (A : Nat → Addr) (m : Int) (w : World) (hL : L.length ≤ 1000000) (hs : shortL L) (S : Te w A m) (hv : MsAt w v L) :
    Calls Tryz.prog 99 #[.string own, v] w fun e w' => ∃ u, e = .returned u ∧ ErrAt w' A u (codeE (reqE own L) L.length) (fstE (reqE own L) L.length) ∧ Below w.heap.size w w' := by
  obtain ⟨vp, vn, vc, rfl⟩ := hv.slice
  have HB0 := hid (((Below.refl w.heap.size w).alloc (Nat.le_refl _) (.cells #[.string own] 9)).alloc (by simp) (.cells #[.slice vp vn vc] 23))
  have eg : ∀ args w, (callFunc 160 args).run Tryz.prog w = .ok (.enter 160 args) w := enters_of Tryz.func160 (by kernel_rfl) rfl
  have HF := hid (first_any 160 #[.pointer (some ⟨w.heap.size, 0, none⟩), .pointer (some ⟨w.heap.size + 1, 0, none⟩)] (reqE own L) L _ A ((w.alloc (.cells #[.string own] 9)).alloc (.cells #[.slice vp vn vc] 23)) eg hL (hv.below HB0.out) (fun i hi W hW =>
    reqK_any own L w.heap.size (w.heap.size + 1) _ A m W hL hs ((S.below HB0.out).below hW) (cell_below hW (by rw [World.cell?_alloc_lt _ _ _ (by simp)]; simp)) (cell_below hW (by rw [World.cell?_alloc_at _ _ _ _ (by simp)]; rfl)) ((hv.below HB0.out).below hW) i hi))
  clear S hv eg
  go_enter Tryz.func99, Tryz.ntmps99
  go_wp2_with fail
  refine HF.out.mono ?_
  rintro e w1 ⟨u, rfl, he, hb⟩
  have HB := hid (HB0.out.trans (hb.mono HB0.out.size))
  have HE := hid he
  clear hb he
  go_wp2_with fail
  go_ret
  exact ⟨_, rfl, HE.out, HB.out⟩
end Ve
end Go.Proofs.YtjndahjfodnllaaGreatDoor


namespace Go.Proofs.YtjndahjfodnllaaGreatDoor
open Go.RowKit
namespace Ve
set_option maxHeartbeats 1000000 in
theorem bare_sen (a : Addr) (A : Nat → Addr) (m : Int) (w : World) (S : Te w A m) :
    Calls Tryz.prog 56 #[.iface 292 (.pointer (some a))] w fun e w' => e = .returned (.iface 292 (.pointer (some a))) ∧ Below w.heap.size w w' := by
  have HB0 := hid ((Below.refl w.heap.size w).alloc (Nat.le_refl _) (.cells #[.pointer none] 106))
  have HA := hid (Er.as_miss_b a ⟨w.heap.size, 0, none⟩ _ (S.below HB0.out).sen.et)
  clear S
  go_enter Tryz.func56, Tryz.ntmps56
  go_wp2_with fail
  refine HA.out.mono ?_
  rintro e w1 ⟨rfl, hb⟩
  have HB := hid (HB0.out.trans (hb.mono HB0.out.size))
  clear hb
  go_wp2_with fail
  go_ret
  exact ⟨rfl, HB.out⟩
set_option maxHeartbeats 1000000 in
theorem bare_fault (b : Nat) (x : Addr) (A : Nat → Addr) (m : Int) (w : World) (S : Te w A m) (h1 : w.cell? ⟨b, 1, none⟩ = some (.iface 292 (.pointer (some x)))) :
    Calls Tryz.prog 56 #[.iface 106 (.pointer (some ⟨b, 0, none⟩))] w fun e w' => e = .returned (.iface 292 (.pointer (some x))) ∧ Below w.heap.size w w' := by
  have HB0 := hid ((Below.refl w.heap.size w).alloc (Nat.le_refl _) (.cells #[.pointer none] 106))
  have HA := hid (Er.as_hit_b ⟨b, 0, none⟩ ⟨w.heap.size, 0, none⟩ (.pointer none) _ w.heap.size (Nat.le_refl _) (S.below HB0.out).sen.et (by simp) (by simp) (by simp))
  have H1 := hid h1
  clear S h1
  go_enter Tryz.func56, Tryz.ntmps56
  go_wp2_with fail
  refine HA.out.mono ?_
  rintro e w1 ⟨rfl, hb, ht⟩
  have HB := hid (HB0.out.trans hb)
  have c1 := cell_below HB.out H1.out
  clear hb
  go_wp2_with fail
  go_ret
  exact ⟨rfl, HB.out⟩
theorem bare_any (x : Value) (c : Nat) (o : Option Nat) (A : Nat → Addr) (m : Int) (w : World) (S : Te w A m) (h : ErrAt w A x c o) (hc : c ≠ 0) :
    Calls Tryz.prog 56 #[x] w fun e w' => e = .returned (errA A c) ∧ Below w.heap.size w w' := by
  cases o with
  | none =>
    have h : x = errA A c := h
    rw [h, errA_if A hc]
    exact bare_sen _ A m w S
  | some i =>
    obtain ⟨_, b, rfl, _, h3⟩ := h
    rw [errA_if A hc] at h3 ⊢
    exact bare_fault b _ A m w S h3
theorem as_nil (p : Addr) (w : World) : Calls Tryz.prog 77 #[.nilIface, .iface 108 (.pointer (some p))] w fun e w' => e = .returned (.bool false) ∧ Below w.heap.size w w' := by
  go_enter Tryz.func77, Tryz.ntmps77
  go_wp2_with fail
  go_ret
  exact ⟨rfl, Below.refl _ _⟩
set_option maxHeartbeats 1000000 in
theorem bare_nil (w : World) : Calls Tryz.prog 56 #[.nilIface] w fun e w' => e = .returned .nilIface ∧ Below w.heap.size w w' := by
  have HA := hid (as_nil ⟨w.heap.size, 0, none⟩ (w.alloc (.cells #[.pointer none] 106)))
  have HB0 := hid ((Below.refl w.heap.size w).alloc (Nat.le_refl _) (.cells #[.pointer none] 106))
  go_enter Tryz.func56, Tryz.ntmps56
  go_wp2_with fail
  refine HA.out.mono ?_
  rintro e w1 ⟨rfl, hb⟩
  have HB := hid (HB0.out.trans (hb.mono HB0.out.size))
  clear hb
  go_wp2_with fail
  go_ret
  exact ⟨rfl, HB.out⟩
theorem bare_all (x : Value) (c : Nat) (o : Option Nat) (A : Nat → Addr) (m : Int) (w : World) (S : Te w A m) (h : ErrAt w A x c o) :
    Calls Tryz.prog 56 #[x] w fun e w' => e = .returned (errA A c) ∧ Below w.heap.size w w' := by
  by_cases hc : c = 0
  · subst hc
    cases o with
    | none =>
      have h : x = errA A 0 := h
      rw [h]
      exact bare_nil w
    | some i => exact absurd rfl h.1
  · exact bare_any x c o A m w S h hc
end Ve
end Go.Proofs.YtjndahjfodnllaaGreatDoor


namespace Go.Proofs.YtjndahjfodnllaaGreatDoor
open Go.RowKit
namespace Ve
def nonW (L : List Raw) (m : Bm) : Nat := if idxOf (isM m) L < 0 then 5 else 0
def nonE (L : List Raw) (R : List Bm) (i : Nat) : Nat := match R[i]? with
  | none => 0
  | some m => nonW L m
theorem nonE_at {L : List Raw} {R : List Bm} {i : Nat} (h : i < R.length) : nonE L R i = nonW L R[i] := by unfold nonE; rw [List.getElem?_eq_getElem h]
set_option maxHeartbeats 2000000 in
theorem modsK_any (L : List Raw) (p q : ByteArray) (i : Int) (b : Nat) (v : Value) (A : Nat → Addr) (m : Int) (W : World) (hL : L.length ≤ 1000000) (S : Te W A m) (h1 : W.cell? ⟨b, 0, none⟩ = some v) (hv : EsAt W v L) :
    Calls Tryz.prog 58 (#[.int .i64 i, .agg #[.string p, .string q]] ++ #[.pointer (some ⟨b, 0, none⟩)]) W fun e w' => e = .returned (errA A (nonW L (p, q))) ∧ Below W.heap.size W w' := by
  have HB0 := hid ((Below.refl W.heap.size W).alloc (Nat.le_refl _) (.cells #[.string p, .string q] 38))
  have HF := hid (find_any L (p, q) v _ hL (hv.below HB0.out))
  obtain ⟨a, c, rfl, _⟩ := hv
  have h1' := cell_below HB0.out h1
  have HG := hid (fun X (h : Below W.heap.size W X) => (S.below h).sen.g4)
  clear S
  unfold nonW
  generalize hx : idxOf (isM (p, q)) L = x at HF ⊢
  clear hx
  by_cases h : x < 0
  · rw [if_pos h]
    go_enter Tryz.func58, Tryz.ntmps58
    go_wp2_with fail
    refine HF.out.mono ?_
    rintro e w1 ⟨rfl, hb⟩
    have HB := hid (HB0.out.trans (hb.mono HB0.out.size))
    have g4 := HG.out _ HB.out
    clear hb
    go_wp2_with fail
    go_ret
    exact ⟨rfl, HB.out⟩
  · rw [if_neg h]
    go_enter Tryz.func58, Tryz.ntmps58
    go_wp2_with fail
    refine HF.out.mono ?_
    rintro e w1 ⟨rfl, hb⟩
    have HB := hid (HB0.out.trans (hb.mono HB0.out.size))
    clear hb
    go_wp2_with fail
    go_ret
    exact ⟨rfl, HB.out⟩
set_option maxHeartbeats 2000000 in
theorem cmods_any (L : List Raw) (R : List Bm) (v u : Value) (A : Nat → Addr) (m : Int) (w : World) (hL : L.length ≤ 1000000) (hR : R.length ≤ 1000000) (S : Te w A m) (hv : EsAt w v L) (hu : MsAt w u R) :
    Calls Tryz.prog 29 #[v, u] w fun e w' => ∃ x, e = .returned x ∧ ErrAt w' A x (codeE (nonE L R) R.length) (fstE (nonE L R) R.length) ∧ Below w.heap.size w w' := by
  obtain ⟨a, c, hv1, _⟩ := id hv
  obtain ⟨ua, un, uc, hu1⟩ := hu.slice
  subst hv1
  subst hu1
  have HB0 := hid ((Below.refl w.heap.size w).alloc (Nat.le_refl _) (.cells #[.slice a L.length c] 22))
  have eg : ∀ args w, (callFunc 58 args).run Tryz.prog w = .ok (.enter 58 args) w := enters_of Tryz.func58 (by kernel_rfl) rfl
  have HF := hid (first_any 58 #[.pointer (some ⟨w.heap.size, 0, none⟩)] (nonE L R) R _ A (w.alloc (.cells #[.slice a L.length c] 22)) eg hR (hu.below HB0.out) (fun i hi W hW => by
    rw [nonE_at hi]
    exact modsK_any L R[i].1 R[i].2 i w.heap.size _ A m W hL ((S.below HB0.out).below hW) (cell_below hW (by simp)) ((hv.below HB0.out).below hW)))
  clear S hv hu eg
  go_enter Tryz.func29, Tryz.ntmps29
  go_wp2_with fail
  refine HF.out.mono ?_
  rintro e w1 ⟨u, rfl, he, hb⟩
  have HB := hid (HB0.out.trans (hb.mono HB0.out.size))
  have HE := hid he
  clear hb he
  go_wp2_with fail
  go_ret
  exact ⟨_, rfl, HE.out, HB.out⟩
set_option maxHeartbeats 4000000 in
theorem checkK_any (L : List Raw) (r : Raw) (R : List Bm) (i : Int) (b : Nat) (v : Value) (A : Nat → Addr) (m : Int) (W : World) (hL : L.length ≤ 1000000) (hR : R.length ≤ 1000000) (S : Te W A m) (h1 : W.cell? ⟨b, 0, none⟩ = some v) (hv : EsAt W v L) (hs : slR r) (hr : MsAt W r.2.1 R) :
    Calls Tryz.prog 55 (#[.int .i64 i, rawV r] ++ #[.pointer (some ⟨b, 0, none⟩)]) W fun e w' => e = .returned (errA A (codeE (nonE L R) R.length)) ∧ Below W.heap.size W w' := by
  obtain ⟨a, c, hv1, _⟩ := id hv
  obtain ⟨⟨p, q⟩, rv, pv, bk⟩ := r
  obtain ⟨⟨ra, rn, rc, hrv⟩, pa, pn, pc, hpv⟩ := hs
  simp only at hrv hpv hr
  subst hrv
  subst hpv
  subst hv1
  have HB0 := hid ((Below.refl W.heap.size W).alloc (Nat.le_refl _) (.cells #[.string p, .string q, .slice ra rn rc, .slice pa pn pc, .bool bk] 61))
  have HC := hid (cmods_any L R _ _ A m _ hL hR (S.below HB0.out) (hv.below HB0.out) (hr.below HB0.out))
  have HS := hid S
  have h1' := cell_below HB0.out h1
  unfold rawV
  clear S hv hr
  go_enter Tryz.func55, Tryz.ntmps55
  go_wp2_with fail
  refine HC.out.mono ?_
  rintro e w1 ⟨x, rfl, he, hb⟩
  have HB := hid (HB0.out.trans (hb.mono HB0.out.size))
  have HE := hid (bare_all x _ _ A m w1 (HS.out.below HB.out) he)
  clear hb he
  go_wp2_with fail
  refine HE.out.mono ?_
  rintro e w2 ⟨rfl, hb⟩
  have HB2 := hid (HB.out.trans (hb.mono HB.out.size))
  clear hb
  go_wp2_with fail
  go_ret
  exact ⟨rfl, HB2.out⟩
end Ve
end Go.Proofs.YtjndahjfodnllaaGreatDoor


namespace Go.Proofs.YtjndahjfodnllaaGreatDoor
open Go.RowKit
namespace Ve
def entR (e : Ent) : Nat := if 20 < e.2.1.length then 7 else if codeE (reqE e.1.1 e.2.1) e.2.1.length ≠ 0 then codeE (reqE e.1.1 e.2.1) e.2.1.length else packErr (bl e.2.2.1)
def entW (prev : Option Bm) (e : Ent) : Nat := if mErr e.1 ≠ 0 then mErr e.1 else match prev with
  | none => entR e
  | some p => if mAhead p e.1 then entR e else 8
theorem entW_bad {o : Option Bm} {e : Ent} (h : mErr e.1 ≠ 0) : entW o e = mErr e.1 := by unfold entW; rw [if_pos h]
theorem entW_none {e : Ent} (h : mErr e.1 = 0) : entW none e = entR e := by unfold entW; rw [if_neg (by simp [h])]
theorem entW_some {p : Bm} {e : Ent} (h : mErr e.1 = 0) (ha : mAhead p e.1 = true) : entW (some p) e = entR e := by unfold entW; rw [if_neg (by simp [h])]; simp only [ha, if_true]
theorem entW_order {p : Bm} {e : Ent} (h : mErr e.1 = 0) (ha : mAhead p e.1 = false) : entW (some p) e = 8 := by unfold entW; rw [if_neg (by simp [h])]; simp [ha]
theorem entR_full {e : Ent} (h : 20 < e.2.1.length) : entR e = 7 := by unfold entR; rw [if_pos h]
theorem entR_req {e : Ent} (h : ¬ 20 < e.2.1.length) (hc : codeE (reqE e.1.1 e.2.1) e.2.1.length ≠ 0) : entR e = codeE (reqE e.1.1 e.2.1) e.2.1.length := by unfold entR; rw [if_neg h, if_pos hc]
theorem entR_pack {e : Ent} (h : ¬ 20 < e.2.1.length) (hc : codeE (reqE e.1.1 e.2.1) e.2.1.length = 0) : entR e = packErr (bl e.2.2.1) := by unfold entR; rw [if_neg h, if_neg (by simp [hc])]
structure ShE (e : Ent) : Prop where
  p : e.1.1.size < 999999
  v : e.1.2.size < 999999
  rn : e.2.1.length ≤ 1000000
  rs : shortL e.2.1
  pn : e.2.2.1.length ≤ 1000
  ps : ∀ x, x ∈ e.2.2.1 → x.size < 999999
set_option maxHeartbeats 4000000 in
theorem eachK_bad (p q : ByteArray) (rv pv : Value) (bk : Bool) (i b : Nat) (A : Nat → Addr) (m : Int) (W : World) (hs : slR ((p, q), rv, pv, bk)) (hp : p.size < 999999) (hq : q.size < 999999) (S : Te W A m) (h : mErr (p, q) ≠ 0) :
    Calls Tryz.prog 97 #[.int .i64 (i : Int), .agg #[.string p, .string q, rv, pv, .bool bk], .pointer (some ⟨b, 0, none⟩)] W fun e w' => e = .returned (errA A (mErr (p, q))) ∧ Below W.heap.size W w' := by
  obtain ⟨⟨ra, rn, rc, hrv⟩, pa, pn, pc, hpv⟩ := hs
  simp only at hrv hpv
  subst hrv
  subst hpv
  have HB0 := hid ((Below.refl W.heap.size W).alloc (Nat.le_refl _) (.cells #[.string p, .string q, .slice ra rn rc, .slice pa pn pc, .bool bk] 61))
  have HM := hid (mcheck_any p q A m _ (by omega) (by omega) (S.below HB0.out))
  have hme : mErr (p, q) = modErr p.data.toList q.data.toList := rfl
  rw [← hme, errA_if A h] at HM
  rw [errA_if A h]
  clear S h hme
  go_enter Tryz.func97, Tryz.ntmps97
  go_wp2_with fail
  refine HM.out.mono ?_
  rintro e w1 ⟨rfl, hb⟩
  have HB := hid (HB0.out.trans (hb.mono HB0.out.size))
  clear hb
  go_wp2_with fail
  go_ret
  exact ⟨rfl, HB.out⟩
set_option maxHeartbeats 8000000 in
set_option maxRecDepth 100000 in
theorem eachK_0 (pr : Option Bm) (hpr : pr = none) (p q : ByteArray) (rv pv : Value) (eR : List Bm) (eP : List ByteArray) (bk : Bool) (b : Nat) (A : Nat → Addr) (m : Int) (W : World) (hs : slR ((p, q), rv, pv, bk)) (sh : ShE ((p, q), eR, eP, bk)) (S : Te W A m) (h : mErr (p, q) = 0) (hr : MsAt W rv eR) (hpk : TxAt W pv eP) :
    Calls Tryz.prog 97 #[.int .i64 0, .agg #[.string p, .string q, rv, pv, .bool bk], .pointer (some ⟨b, 0, none⟩)] W fun e w' => e = .returned (errA A (entW pr ((p, q), eR, eP, bk))) ∧ Below W.heap.size W w' := by
  obtain ⟨⟨ra, rn, rc, hrv⟩, pa, pn, pc, hpv⟩ := hs
  simp only at hrv hpv
  subst hrv
  subst hpv
  have hrl : rn = eR.length := by obtain ⟨_, _, h, _⟩ := hr; injection h
  subst hrl
  have HB0 := hid ((Below.refl W.heap.size W).alloc (Nat.le_refl _) (.cells #[.string p, .string q, .slice ra eR.length rc, .slice pa pn pc, .bool bk] 61))
  have HM := hid (mcheck_any p q A m _ (by have := sh.p; simp only at this; omega) (by have := sh.v; simp only at this; omega) (S.below HB0.out))
  have hme : mErr (p, q) = modErr p.data.toList q.data.toList := rfl
  rw [← hme, h, errA0] at HM
  have HS := hid S
  have HSH := hid sh
  have HR := hid hr
  have HPK := hid hpk
  have H := hid h
  have HGX := hid (fun w1 (hb : Below (W.alloc (.cells #[.string p, .string q, .slice ra eR.length rc, .slice pa pn pc, .bool bk] 61)).heap.size (W.alloc (.cells #[.string p, .string q, .slice ra eR.length rc, .slice pa pn pc, .bool bk] 61)) w1) => show w1.heap[W.heap.size]? = some (.cells #[.string p, .string q, .slice ra eR.length rc, .slice pa pn pc, .bool bk] 61 (0, 0)) by rw [hb.block _ (by simp)]; exact heap_alloc_new W _)
  clear S sh hr hpk h hme
  go_enter Tryz.func97, Tryz.ntmps97
  go_wp2_with fail
  refine HM.out.mono ?_
  rintro e wz ⟨rfl, hb⟩
  have HBz := hid (HB0.out.trans (hb.mono HB0.out.size))
  have HEz := hid (HGX.out wz hb)
  clear hb HM HGX
  go_wp2_with fail
  go_quiet (fail)
  have HB1 := hid (below_drawn_of HBz.out nq)
  have HE1 := hid (show (wz.drewN nq).heap[W.heap.size]? = some (.cells #[.string p, .string q, .slice ra eR.length rc, .slice pa pn pc, .bool bk] 61 (0, 0)) from HEz.out)
  obtain ⟨wa, hwa⟩ : ∃ wa, wz.drewN nq = wa := ⟨_, rfl⟩
  rw [hwa] at HB1 HE1 ⊢
  clear hwa
  have y0 : wa.cell? ⟨W.heap.size, 0, none⟩ = some (.string p) := by rw [Lib.cell_of_heap HE1.out]; rfl
  have y1 : wa.cell? ⟨W.heap.size, 1, none⟩ = some (.string q) := by rw [Lib.cell_of_heap HE1.out]; rfl
  have y2 : wa.cell? ⟨W.heap.size, 2, none⟩ = some (.slice ra eR.length rc) := by rw [Lib.cell_of_heap HE1.out]; rfl
  have y3 : wa.cell? ⟨W.heap.size, 3, none⟩ = some (.slice pa pn pc) := by rw [Lib.cell_of_heap HE1.out]; rfl
  have y4 : wa.cell? ⟨W.heap.size, 4, none⟩ = some (.bool bk) := by rw [Lib.cell_of_heap HE1.out]; rfl
  by_cases hf : 20 < eR.length
  · have q2 : (20 : Int) < (eR.length : Int) := by omega
    have HX := hid (show entW pr ((p, q), eR, eP, bk) = 7 by rw [hpr, entW_none H.out]; exact entR_full hf)
    have g6 := (HS.out.below HB1.out).sen.g6
    clear hf
    go_wp2_with fail
    go_ret
    exact ⟨by rw [HX.out]; rfl, HB1.out⟩
  · have q2 : ¬ (20 : Int) < (eR.length : Int) := by omega
    have HF := hid hf
    have HRQ := hid (reqs_any p eR _ A m wa HSH.out.rn HSH.out.rs (HS.out.below HB1.out) (HR.out.below HB1.out))
    clear hf
    go_wp2_with fail
    refine HRQ.out.mono ?_
    rintro e wb ⟨u, rfl, he, hb⟩
    have HB2 := hid (HB1.out.trans (hb.mono HB1.out.size))
    have HE2 := hid (show wb.heap[W.heap.size]? = some (.cells #[.string p, .string q, .slice ra eR.length rc, .slice pa pn pc, .bool bk] 61 (0, 0)) by rw [hb.block _ (lt_of_blk HE1.out)]; exact HE1.out)
    clear y0 y1 y2 y3 y4 HRQ
    have z0 : wb.cell? ⟨W.heap.size, 0, none⟩ = some (.string p) := by rw [Lib.cell_of_heap HE2.out]; rfl
    have z1 : wb.cell? ⟨W.heap.size, 1, none⟩ = some (.string q) := by rw [Lib.cell_of_heap HE2.out]; rfl
    have z2 : wb.cell? ⟨W.heap.size, 2, none⟩ = some (.slice ra eR.length rc) := by rw [Lib.cell_of_heap HE2.out]; rfl
    have z3 : wb.cell? ⟨W.heap.size, 3, none⟩ = some (.slice pa pn pc) := by rw [Lib.cell_of_heap HE2.out]; rfl
    have z4 : wb.cell? ⟨W.heap.size, 4, none⟩ = some (.bool bk) := by rw [Lib.cell_of_heap HE2.out]; rfl
    cases hfe : fstE (reqE p eR) eR.length with
    | none =>
      rw [hfe] at he
      have hc := codeE_none hfe
      have he : u = errA A (codeE (reqE p eR) eR.length) := he
      rw [hc, errA0] at he
      subst he
      have HX := hid (show entW pr ((p, q), eR, eP, bk) = packErr (bl eP) by rw [hpr, entW_none H.out]; exact entR_pack HF.out hc)
      have HPP := hid (packs_any eP _ A m wb HSH.out.pn HSH.out.ps (HS.out.below HB2.out) (HPK.out.below HB2.out))
      clear hb hc hfe
      go_wp2_with fail
      refine HPP.out.mono ?_
      rintro e wc ⟨rfl, hb⟩
      have HB3 := hid (HB2.out.trans (hb.mono HB2.out.size))
      clear hb
      go_wp2_with fail
      go_ret
      exact ⟨by rw [HX.out]; rfl, HB3.out⟩
    | some j =>
      rw [hfe] at he
      have hc : codeE (reqE p eR) eR.length ≠ 0 := he.1
      have HX := hid (show entW pr ((p, q), eR, eP, bk) = codeE (reqE p eR) eR.length by rw [hpr, entW_none H.out]; exact entR_req HF.out hc)
      have HBA := hid (bare_any u _ _ A m wb (HS.out.below HB2.out) he hc)
      obtain ⟨_, fb, hu, _⟩ := he
      subst hu
      clear hb hc hfe
      go_wp2_with fail
      refine HBA.out.mono ?_
      rintro e wc ⟨rfl, hb⟩
      have HB3 := hid (HB2.out.trans (hb.mono HB2.out.size))
      clear hb
      go_wp2_with fail
      go_ret
      exact ⟨by rw [HX.out]; rfl, HB3.out⟩
set_option maxHeartbeats 8000000 in
set_option maxRecDepth 100000 in
theorem eachK_1 (pr : Option Bm) (k : Nat) (p0 q0 : ByteArray) (hpr : pr = some (p0, q0)) (p q : ByteArray) (rv pv : Value) (eR : List Bm) (eP : List ByteArray) (bk : Bool) (b : Nat) (A : Nat → Addr) (m : Int) (W : World) (hs : slR ((p, q), rv, pv, bk)) (sh : ShE ((p, q), eR, eP, bk)) (S : Te W A m) (h : mErr (p, q) = 0) (hr : MsAt W rv eR) (hpk : TxAt W pv eP) (bb oo n c : Nat) (hn : k < n) (hn2 : n ≤ 1000000) (hq0 : q0.size < 999999) (hl : W.cell? ⟨b, 0, none⟩ = some (.slice (some ⟨bb, oo, none⟩) n c)) (hx : W.cell? ⟨bb, oo + k * 5, none⟩ = some (.string p0)) (hy : W.cell? ⟨bb, oo + k * 5 + 1, none⟩ = some (.string q0)) :
    Calls Tryz.prog 97 #[.int .i64 ((k : Int) + 1), .agg #[.string p, .string q, rv, pv, .bool bk], .pointer (some ⟨b, 0, none⟩)] W fun e w' => e = .returned (errA A (entW pr ((p, q), eR, eP, bk))) ∧ Below W.heap.size W w' := by
  obtain ⟨⟨ra, rn, rc, hrv⟩, pa, pn, pc, hpv⟩ := hs
  simp only at hrv hpv
  subst hrv
  subst hpv
  have hrl : rn = eR.length := by obtain ⟨_, _, h, _⟩ := hr; injection h
  subst hrl
  have HB0 := hid ((Below.refl W.heap.size W).alloc (Nat.le_refl _) (.cells #[.string p, .string q, .slice ra eR.length rc, .slice pa pn pc, .bool bk] 61))
  have HM := hid (mcheck_any p q A m _ (by have := sh.p; simp only at this; omega) (by have := sh.v; simp only at this; omega) (S.below HB0.out))
  have hme : mErr (p, q) = modErr p.data.toList q.data.toList := rfl
  rw [← hme, h, errA0] at HM
  have HS := hid S
  have HSH := hid sh
  have HR := hid hr
  have HPK := hid hpk
  have H := hid h
  have HGX := hid (fun w1 (hb : Below (W.alloc (.cells #[.string p, .string q, .slice ra eR.length rc, .slice pa pn pc, .bool bk] 61)).heap.size (W.alloc (.cells #[.string p, .string q, .slice ra eR.length rc, .slice pa pn pc, .bool bk] 61)) w1) => show w1.heap[W.heap.size]? = some (.cells #[.string p, .string q, .slice ra eR.length rc, .slice pa pn pc, .bool bk] 61 (0, 0)) by rw [hb.block _ (by simp)]; exact heap_alloc_new W _)
  have HL := hid hl
  have HXX := hid hx
  have HYY := hid hy
  clear S sh hr hpk h hme hl hx hy
  have hk0 : (0 : Int) < (k : Int) + 1 := by omega
  have hk1 : (k : Int) + 1 - 1 = (k : Int) := by omega
  have hkn : (k : Int) < (n : Int) := by omega
  go_enter Tryz.func97, Tryz.ntmps97
  go_wp2_with fail
  refine HM.out.mono ?_
  rintro e wz ⟨rfl, hb⟩
  have HBz := hid (HB0.out.trans (hb.mono HB0.out.size))
  have HEz := hid (HGX.out wz hb)
  have hl := cell_below HBz.out HL.out
  have hx := cell_below HBz.out HXX.out
  have hy := cell_below HBz.out HYY.out
  have HAH := hid (fun X (hX : Below wz.heap.size wz X) => ahead_any p0 q0 p q A m X hq0 HSH.out.v ((HS.out.below HBz.out).below hX))
  have hma : mAhead (p0, q0) (p, q) = aheadB p0.data.toList q0.data.toList p.data.toList q.data.toList := rfl
  rw [← hma] at HAH
  clear hb HM HGX hma
  have x0 : wz.cell? ⟨W.heap.size, 0, none⟩ = some (.string p) := by rw [Lib.cell_of_heap HEz.out]; rfl
  have x1 : wz.cell? ⟨W.heap.size, 1, none⟩ = some (.string q) := by rw [Lib.cell_of_heap HEz.out]; rfl
  have x2 : wz.cell? ⟨W.heap.size, 2, none⟩ = some (.slice ra eR.length rc) := by rw [Lib.cell_of_heap HEz.out]; rfl
  have x3 : wz.cell? ⟨W.heap.size, 3, none⟩ = some (.slice pa pn pc) := by rw [Lib.cell_of_heap HEz.out]; rfl
  have x4 : wz.cell? ⟨W.heap.size, 4, none⟩ = some (.bool bk) := by rw [Lib.cell_of_heap HEz.out]; rfl
  have gw : IntKind.i64.wrap (k : Int) = (k : Int) := by rw [IntKind.wrap_i64]; omega
  have gk : (0 : Int) ≤ (k : Int) := by omega
  cases hah : mAhead (p0, q0) (p, q)
  · rw [hah] at HAH
    have HX := hid (show entW pr ((p, q), eR, eP, bk) = 8 by rw [hpr]; exact entW_order H.out hah)
    clear hah
    go_wp2_with fail
    go_region_with (go_at_call 98; refine (HAH.out _ (below_drawn _ 1)).mono ?_; rintro e wa ⟨rfl, hb⟩; have HB1 := hid ((HBz.out.trans ((below_drawn _ 1).mono HBz.out.size)).trans (hb.mono HBz.out.size)); have g7 := (HS.out.below HB1.out).sen.g7; clear hb)
    all_goals
      go_wp2_with fail
      go_ret
      exact ⟨by rw [HX.out]; rfl, HB1.out⟩
  · rw [hah] at HAH
    have HLL := hid (show entW pr ((p, q), eR, eP, bk) = entR ((p, q), eR, eP, bk) by rw [hpr]; exact entW_some H.out hah)
    clear hah
    go_wp2_with fail
    go_region_with (go_at_call 98; refine (HAH.out _ (below_drawn _ 1)).mono ?_; rintro e wa ⟨rfl, hb⟩; have HB1 := hid ((HBz.out.trans ((below_drawn _ 1).mono HBz.out.size)).trans (hb.mono HBz.out.size)); have HE1 := hid (show wa.heap[W.heap.size]? = some (.cells #[.string p, .string q, .slice ra eR.length rc, .slice pa pn pc, .bool bk] 61 (0, 0)) by rw [hb.block _ (lt_of_blk HEz.out)]; exact HEz.out); clear hb x0 x1 x2 x3 x4 hl hx hy)
    all_goals
      have y0 : wa.cell? ⟨W.heap.size, 0, none⟩ = some (.string p) := by rw [Lib.cell_of_heap HE1.out]; rfl
      have y1 : wa.cell? ⟨W.heap.size, 1, none⟩ = some (.string q) := by rw [Lib.cell_of_heap HE1.out]; rfl
      have y2 : wa.cell? ⟨W.heap.size, 2, none⟩ = some (.slice ra eR.length rc) := by rw [Lib.cell_of_heap HE1.out]; rfl
      have y3 : wa.cell? ⟨W.heap.size, 3, none⟩ = some (.slice pa pn pc) := by rw [Lib.cell_of_heap HE1.out]; rfl
      have y4 : wa.cell? ⟨W.heap.size, 4, none⟩ = some (.bool bk) := by rw [Lib.cell_of_heap HE1.out]; rfl
      by_cases hf : 20 < eR.length
      · have q2 : (20 : Int) < (eR.length : Int) := by omega
        have HX := hid (show entW pr ((p, q), eR, eP, bk) = 7 by rw [HLL.out]; exact entR_full hf)
        have g6 := (HS.out.below HB1.out).sen.g6
        clear hf
        go_wp2_with fail
        go_ret
        exact ⟨by rw [HX.out]; rfl, HB1.out⟩
      · have q2 : ¬ (20 : Int) < (eR.length : Int) := by omega
        have HF := hid hf
        have HRQ := hid (reqs_any p eR _ A m wa HSH.out.rn HSH.out.rs (HS.out.below HB1.out) (HR.out.below HB1.out))
        clear hf
        go_wp2_with fail
        refine HRQ.out.mono ?_
        rintro e wb ⟨u, rfl, he, hb⟩
        have HB2 := hid (HB1.out.trans (hb.mono HB1.out.size))
        have HE2 := hid (show wb.heap[W.heap.size]? = some (.cells #[.string p, .string q, .slice ra eR.length rc, .slice pa pn pc, .bool bk] 61 (0, 0)) by rw [hb.block _ (lt_of_blk HE1.out)]; exact HE1.out)
        clear y0 y1 y2 y3 y4 HRQ
        have z0 : wb.cell? ⟨W.heap.size, 0, none⟩ = some (.string p) := by rw [Lib.cell_of_heap HE2.out]; rfl
        have z1 : wb.cell? ⟨W.heap.size, 1, none⟩ = some (.string q) := by rw [Lib.cell_of_heap HE2.out]; rfl
        have z2 : wb.cell? ⟨W.heap.size, 2, none⟩ = some (.slice ra eR.length rc) := by rw [Lib.cell_of_heap HE2.out]; rfl
        have z3 : wb.cell? ⟨W.heap.size, 3, none⟩ = some (.slice pa pn pc) := by rw [Lib.cell_of_heap HE2.out]; rfl
        have z4 : wb.cell? ⟨W.heap.size, 4, none⟩ = some (.bool bk) := by rw [Lib.cell_of_heap HE2.out]; rfl
        cases hfe : fstE (reqE p eR) eR.length with
        | none =>
          rw [hfe] at he
          have hc := codeE_none hfe
          have he : u = errA A (codeE (reqE p eR) eR.length) := he
          rw [hc, errA0] at he
          subst he
          have HX := hid (show entW pr ((p, q), eR, eP, bk) = packErr (bl eP) by rw [HLL.out]; exact entR_pack HF.out hc)
          have HPP := hid (packs_any eP _ A m wb HSH.out.pn HSH.out.ps (HS.out.below HB2.out) (HPK.out.below HB2.out))
          clear hb hc hfe
          go_wp2_with fail
          refine HPP.out.mono ?_
          rintro e wc ⟨rfl, hb⟩
          have HB3 := hid (HB2.out.trans (hb.mono HB2.out.size))
          clear hb
          go_wp2_with fail
          go_ret
          exact ⟨by rw [HX.out]; rfl, HB3.out⟩
        | some j =>
          rw [hfe] at he
          have hc : codeE (reqE p eR) eR.length ≠ 0 := he.1
          have HX := hid (show entW pr ((p, q), eR, eP, bk) = codeE (reqE p eR) eR.length by rw [HLL.out]; exact entR_req HF.out hc)
          have HBA := hid (bare_any u _ _ A m wb (HS.out.below HB2.out) he hc)
          obtain ⟨_, fb, hu, _⟩ := he
          subst hu
          clear hb hc hfe
          go_wp2_with fail
          refine HBA.out.mono ?_
          rintro e wc ⟨rfl, hb⟩
          have HB3 := hid (HB2.out.trans (hb.mono HB2.out.size))
          clear hb
          go_wp2_with fail
          go_ret
          exact ⟨by rw [HX.out]; rfl, HB3.out⟩
end Ve
end Go.Proofs.YtjndahjfodnllaaGreatDoor


namespace Go.Proofs.YtjndahjfodnllaaGreatDoor
open Go.RowKit
namespace Ve
def entE (L : List Ent) (i : Nat) : Nat := match L[i]? with
  | none => 0
  | some e => entW (if i = 0 then none else (L[i - 1]?).map (·.1)) e
theorem entE_0 {L : List Ent} (h : 0 < L.length) : entE L 0 = entW none L[0] := by unfold entE; rw [List.getElem?_eq_getElem h]; rfl
theorem entE_1 {L : List Ent} {k : Nat} (h : k + 1 < L.length) : entE L (k + 1) = entW (some (L[k]'(by omega)).1) L[k + 1] := by
  unfold entE
  rw [List.getElem?_eq_getElem h]
  simp only [Nat.add_sub_cancel, List.getElem?_eq_getElem (show k < L.length by omega)]
  rw [if_neg (by omega)]; rfl
def reqE2 (Q : List Raw) (L : List Ent) (i : Nat) : Nat := match L[i]? with
  | none => 0
  | some e => codeE (nonE Q e.2.1) e.2.1.length
theorem reqE2_at {Q : List Raw} {L : List Ent} {i : Nat} (h : i < L.length) : reqE2 Q L i = codeE (nonE Q L[i].2.1) L[i].2.1.length := by unfold reqE2; rw [List.getElem?_eq_getElem h]
def chk (Q : List Raw) (L : List Ent) : Nat × Option Nat := if 100 < L.length then (7, none) else match fstE (entE L) L.length with
  | some i => (entE L i, some i)
  | none => (codeE (reqE2 Q L) L.length, fstE (reqE2 Q L) L.length)
theorem chk_full {Q : List Raw} {L : List Ent} (h : 100 < L.length) : chk Q L = (7, none) := by unfold chk; rw [if_pos h]
theorem chk_each {Q : List Raw} {L : List Ent} {i : Nat} (h : ¬ 100 < L.length) (hi : fstE (entE L) L.length = some i) : chk Q L = (entE L i, some i) := by unfold chk; rw [if_neg h, hi]
theorem chk_reqs {Q : List Raw} {L : List Ent} (h : ¬ 100 < L.length) (hi : fstE (entE L) L.length = none) : chk Q L = (codeE (reqE2 Q L) L.length, fstE (reqE2 Q L) L.length) := by unfold chk; rw [if_neg h, hi]
theorem eachK_any (Q : List Raw) (L : List Ent) (v : Value) (b : Nat) (A : Nat → Addr) (m : Int) (W : World) (hL : L.length ≤ 1000000) (sh : ∀ e, e ∈ L → ShE e) (S : Te W A m) (h1 : W.cell? ⟨b, 0, none⟩ = some v) (I : Ixs W v Q L) (i : Nat) (hi : i < Q.length) :
    Calls Tryz.prog 97 (#[.int .i64 (i : Int), rawV Q[i]] ++ #[.pointer (some ⟨b, 0, none⟩)]) W fun e w' => e = .returned (errA A (entE L i)) ∧ Below W.heap.size W w' := by
  have hiL : i < L.length := by rw [← I.ln]; exact hi
  have ok := I.ok i hi hiL
  have she := sh L[i] (List.getElem_mem hiL)
  obtain ⟨a, c, hv, _, hs, hc⟩ := id I.es
  have hsl := hs Q[i] (List.getElem_mem hi)
  cases i with
  | zero =>
    rw [entE_0 hiL]
    generalize hq : Q[0] = r at *
    generalize he : L[0] = e at *
    obtain ⟨⟨p, q⟩, rv, pv, bk⟩ := r
    obtain ⟨⟨p', q'⟩, eR, eP, bk'⟩ := e
    obtain ⟨hm, hrq, hpk, hbk⟩ := ok
    simp only at hm hrq hpk hbk
    subst hbk
    obtain ⟨rfl, rfl⟩ : p = p' ∧ q = q' := by injection hm with h1 h2; exact ⟨h1, h2⟩
    by_cases hb : mErr (p, q) = 0
    · exact eachK_0 none rfl p q rv pv eR eP bk b A m W hsl she S hb hrq hpk
    · rw [entW_bad hb]
      exact eachK_bad p q rv pv bk 0 b A m W hsl she.p she.v S hb
  | succ k =>
    rw [entE_1 hiL]
    have hkq : k < Q.length := by omega
    have hkL : k < L.length := by omega
    have okk := (I.ok k hkq hkL).m
    have shk := sh L[k] (List.getElem_mem hkL)
    obtain ⟨bb, oo, ha, hcc⟩ := hc (by intro h; rw [h] at hkq; simp at hkq)
    obtain ⟨y0, y1, _⟩ := hcc k hkq
    generalize hq : Q[k + 1] = r at *
    generalize he : L[k + 1] = e at *
    generalize hpr : L[k].1 = pr at *
    obtain ⟨⟨p, q⟩, rv, pv, bk⟩ := r
    obtain ⟨⟨p', q'⟩, eR, eP, bk'⟩ := e
    obtain ⟨p0, q0⟩ := pr
    obtain ⟨hm, hrq, hpk, hbk⟩ := ok
    simp only at hm hrq hpk hbk
    subst hbk
    obtain ⟨rfl, rfl⟩ : p = p' ∧ q = q' := by injection hm with h1 h2; exact ⟨h1, h2⟩
    by_cases hb : mErr (p, q) = 0
    · refine eachK_1 (some (p0, q0)) k p0 q0 rfl p q rv pv eR eP bk b A m W hsl she S hb hrq hpk bb oo Q.length c hkq (by rw [I.ln]; exact hL) ?_ ?_ ?_ ?_
      · have := shk.v; rw [hpr] at this; exact this
      · rw [h1, hv, ha]
      · rw [okk] at y0; exact y0
      · rw [okk] at y1; exact y1
    · rw [entW_bad hb]
      exact eachK_bad p q rv pv bk (k + 1) b A m W hsl she.p she.v S hb
set_option maxHeartbeats 2000000 in
theorem each_any (Q : List Raw) (L : List Ent) (v : Value) (A : Nat → Addr) (m : Int) (w : World) (hL : L.length ≤ 1000000) (sh : ∀ e, e ∈ L → ShE e) (S : Te w A m) (I : Ixs w v Q L) :
    Calls Tryz.prog 53 #[v] w fun e w' => ∃ x, e = .returned x ∧ ErrAt w' A x (codeE (entE L) L.length) (fstE (entE L) L.length) ∧ Below w.heap.size w w' := by
  obtain ⟨a, c, hv1, _⟩ := id I.es
  subst hv1
  have HB0 := hid ((Below.refl w.heap.size w).alloc (Nat.le_refl _) (.cells #[.slice a Q.length c] 22))
  have eg : ∀ args w, (callFunc 97 args).run Tryz.prog w = .ok (.enter 97 args) w := enters_of Tryz.func97 (by kernel_rfl) rfl
  have HF := hid (firstE_any 97 #[.pointer (some ⟨w.heap.size, 0, none⟩)] (entE L) Q _ A (w.alloc (.cells #[.slice a Q.length c] 22)) eg (by rw [I.ln]; exact hL) (I.es.below HB0.out) (fun i hi W hW =>
    eachK_any Q L _ w.heap.size A m W hL sh ((S.below HB0.out).below hW) (cell_below hW (by simp)) ((I.below HB0.out).below hW) i hi))
  have HLN := hid I.ln
  clear S I eg
  go_enter Tryz.func53, Tryz.ntmps53
  go_wp2_with fail
  refine HF.out.mono ?_
  rintro e w1 ⟨u, rfl, he, hb⟩
  have HB := hid (HB0.out.trans (hb.mono HB0.out.size))
  rw [HLN.out] at he
  have HE := hid he
  clear hb he
  go_wp2_with fail
  go_ret
  exact ⟨_, rfl, HE.out, HB.out⟩
set_option maxHeartbeats 4000000 in
theorem icheck_any (Q : List Raw) (L : List Ent) (v : Value) (A : Nat → Addr) (m : Int) (w : World) (hL : L.length ≤ 1000000) (sh : ∀ e, e ∈ L → ShE e) (S : Te w A m) (I : Ixs w v Q L) :
    Calls Tryz.prog 28 #[v] w fun e w' => ∃ x, e = .returned x ∧ ErrAt w' A x (chk Q L).1 (chk Q L).2 ∧ Below w.heap.size w w' := by
  obtain ⟨a, c, hv1, _, hs, _⟩ := id I.es
  subst hv1
  have HB0 := hid ((Below.refl w.heap.size w).alloc (Nat.le_refl _) (.cells #[.slice a Q.length c] 22))
  have HEA := hid (each_any Q L _ A m _ hL sh (S.below HB0.out) (I.below HB0.out))
  have hln := I.ln
  have HS := hid S
  have HI := hid I
  have HSL := hid hs
  have HSH := hid sh
  have c0 : (w.alloc (.cells #[.slice a Q.length c] 22)).cell? ⟨w.heap.size, 0, none⟩ = some (.slice a Q.length c) := by simp
  have HC0 := hid c0
  rw [hln] at c0
  have eg : ∀ args w, (callFunc 55 args).run Tryz.prog w = .ok (.enter 55 args) w := enters_of Tryz.func55 (by kernel_rfl) rfl
  have HEG := hid eg
  clear S I hs sh eg
  by_cases h1 : 100 < L.length
  · have q1 : (100 : Int) < (L.length : Int) := by omega
    have g6 := (HS.out.below HB0.out).sen.g6
    rw [chk_full h1, hln]
    rw [hln] at HB0
    clear h1 HEA
    go_enter Tryz.func28, Tryz.ntmps28
    rw [hln] at g6
    go_wp2_with fail
    go_ret
    exact ⟨_, rfl, rfl, HB0.out⟩
  · have q1 : ¬ (100 : Int) < (L.length : Int) := by omega
    have H1 := hid h1
    rw [hln] at HB0 HEA ⊢
    clear h1
    go_enter Tryz.func28, Tryz.ntmps28
    go_wp2_with fail
    refine HEA.out.mono ?_
    rintro e w1 ⟨x, rfl, he, hb⟩
    have HB1 := hid (HB0.out.trans (hb.mono HB0.out.size))
    have c1 := cell_below hb c0
    have HC1 := hid c1
    clear hb HEA
    cases hf : fstE (entE L) L.length with
    | some i =>
      rw [hf, codeE_some hf] at he
      have HX := hid (chk_each (Q := Q) H1.out hf)
      have HE := hid he
      obtain ⟨_, fb, hu, _⟩ := he
      subst hu
      clear hf
      go_wp2_with fail
      go_ret
      exact ⟨_, rfl, by rw [HX.out]; exact HE.out, HB1.out⟩
    | none =>
      rw [hf, codeE_none hf] at he
      have he : x = errA A 0 := he
      rw [errA0] at he
      subst he
      have HX := hid (chk_reqs (Q := Q) H1.out hf)
      have HF := hid (firstE_any 55 #[.pointer (some ⟨w.heap.size, 0, none⟩)] (reqE2 Q L) Q (.slice a Q.length c) A w1 HEG.out (by rw [hln]; exact hL) ((HI.out.es).below HB1.out) (fun i hi W hW => by
        have hiL : i < L.length := by rw [← hln]; exact hi
        rw [reqE2_at hiL]
        exact checkK_any Q Q[i] L[i].2.1 i w.heap.size (.slice a Q.length c) A m W (by rw [hln]; exact hL) (HSH.out L[i] (List.getElem_mem hiL)).rn ((HS.out.below HB1.out).below hW) (cell_below hW (by rw [hln]; exact HC1.out)) ((HI.out.es.below HB1.out).below hW) (HSL.out Q[i] (List.getElem_mem hi)) ((HI.out.ok i hi hiL).rq.below (HB1.out.trans (hW.mono HB1.out.size)))))
      rw [hln] at HF
      clear hf
      go_wp2_with fail
      refine HF.out.mono ?_
      rintro e w2 ⟨x, rfl, he, hb⟩
      have HB2 := hid (HB1.out.trans (hb.mono HB1.out.size))
      have HE := hid he
      clear hb he
      go_wp2_with fail
      go_ret
      exact ⟨_, rfl, by rw [HX.out]; exact HE.out, HB2.out⟩
end Ve
end Go.Proofs.YtjndahjfodnllaaGreatDoor


namespace Go.Proofs.YtjndahjfodnllaaGreatDoor
open Go.RowKit
namespace Ve
set_option maxHeartbeats 1000000 in
theorem vcheck_is (s : ByteArray) (aT aB : Addr) (m : Int) (w : World) (hs : s.size < 4294967281) (S : Vs w aT aB m) :
    Calls Tryz.prog 149 #[.string s] w fun e w' => e = .returned (errV aT aB (verErr s.data.toList)) ∧ Below w.heap.size w w' := by
  have HC := hid (vsplit_any s aT aB m w hs S)
  clear S
  go_enter Tryz.func149, Tryz.ntmps149
  go_wp2_with fail
  refine HC.out.mono ?_
  rintro e w1 ⟨h1, hb⟩
  have HB := hid hb
  clear hb
  rcases h1 with ⟨h0, rfl⟩ | ⟨h0, v, X, rfl, _, hst⟩
  · obtain ⟨a, ha⟩ := errV_ne aT aB h0
    have HE := hid ha
    rw [ha]
    clear h0 ha
    go_wp2_with fail
    go_ret
    exact ⟨by rw [HE.out]; rfl, HB.out.alloc HB.out.size _⟩
  · obtain ⟨p, n, c, rfl⟩ := hst.slice
    have HE := hid (show errV aT aB (verErr s.data.toList) = .nilIface by rw [h0]; rfl)
    clear h0 hst
    go_wp2_with fail
    go_ret
    exact ⟨by rw [HE.out]; rfl, HB.out.alloc HB.out.size _⟩
def preB (s : ByteArray) : Bool := decide (verErr s.data.toList = 0) && decide (0 < (preOf s.data.toList).length)
theorem StrsAt.len {w : World} {v : Value} {X : List ByteArray} (h : StrsAt w v X) : ∃ p c, v = .slice p X.length c := by
  rcases h with ⟨h0, rfl⟩ | ⟨_, b, rfl, _⟩
  · exact ⟨none, 0, by rw [h0]; rfl⟩
  · exact ⟨_, _, rfl⟩
set_option maxHeartbeats 1000000 in
theorem hasPre_any (s : ByteArray) (aT aB : Addr) (m : Int) (w : World) (hs : s.size < 4294967281) (S : Vs w aT aB m) :
    Calls Tryz.prog 147 #[.string s] w fun e w' => e = .returned (.bool (preB s)) ∧ Below w.heap.size w w' := by
  have HC := hid (vsplit_any s aT aB m w hs S)
  clear S
  go_enter Tryz.func147, Tryz.ntmps147
  go_wp2_with fail
  refine HC.out.mono ?_
  rintro e w1 ⟨h1, hb⟩
  have HB := hid hb
  clear hb
  rcases h1 with ⟨h0, rfl⟩ | ⟨h0, v, X, rfl, hX, hst⟩
  · have HE := hid (show preB s = false by unfold preB; rw [decide_eq_false h0]; rfl)
    obtain ⟨a, ha⟩ := errV_ne aT aB h0
    rw [ha]
    clear h0 ha
    go_wp2_with fail
    go_ret
    exact ⟨by rw [HE.out]; rfl, HB.out.alloc HB.out.size _⟩
  · obtain ⟨p, c, rfl⟩ := hst.len
    have HE := hid (show preB s = decide (0 < X.length) by
      unfold preB; rw [decide_eq_true h0, ← hX, bl_len]; rfl)
    clear h0 hst hX
    go_wp2_with fail
    go_ret
    refine ⟨?_, HB.out.alloc HB.out.size _⟩
    rw [HE.out]
    simp
def isP (t : ByteArray) (r : Raw) : Bool := decide (r.1.1 = t) && decide (verErr r.1.2.data.toList = 0)
set_option maxHeartbeats 2000000 in
theorem ofPathK_any (t : ByteArray) (r : Raw) (hs : slR r) (hz : r.1.2.size < 999999) (aT aB : Addr) (m : Int) (b : Nat) (W : World) (S : Vs W aT aB m) (h0 : W.cell? ⟨b, 0, none⟩ = some (.string t)) :
    Calls Tryz.prog 148 (#[rawV r] ++ #[.pointer (some ⟨b, 0, none⟩)]) W fun e w' => e = .returned (.bool (isP t r)) ∧ Below W.heap.size W w' := by
  obtain ⟨⟨p, v⟩, rv, pv, bk⟩ := r
  obtain ⟨⟨ra, rn, rc, hrv⟩, pa, pn, pc, hpv⟩ := hs
  simp only at hrv hpv hz
  subst hrv
  subst hpv
  show Calls Tryz.prog 148 #[.agg #[.string p, .string v, .slice ra rn rc, .slice pa pn pc, .bool bk], .pointer (some ⟨b, 0, none⟩)] W _
  have HI := hid (show isP t ((p, v), .slice ra rn rc, .slice pa pn pc, bk) = (decide (p = t) && decide (verErr v.data.toList = 0)) from rfl)
  have HB0 := hid ((Below.refl W.heap.size W).alloc (Nat.le_refl _) (.cells #[.string p, .string v, .slice ra rn rc, .slice pa pn pc, .bool bk] 61))
  have c0 := cell_below HB0.out h0
  have hbb : ¬ b = W.heap.size := by have := lt_of_cell h0; simp at this; omega
  have hbb2 : ¬ W.heap.size = b := fun h => hbb h.symm
  have HS := hid (S.below HB0.out)
  have HV := hid (fun W' (SW : Vs W' aT aB m) => vcheck_is v aT aB m W' (by omega) SW)
  generalize isP t ((p, v), .slice ra rn rc, .slice pa pn pc, bk) = z at *
  clear S
  by_cases h : p = t
  · rw [decide_eq_true h, Bool.true_and] at HI
    have hq : (p.toList == t.toList) = true := by rw [h]; exact str_refl t
    by_cases h1 : verErr v.data.toList = 0
    · rw [decide_eq_true h1] at HI
      have hz1 := HI.out
      subst hz1
      have HE := hid (show errV aT aB (verErr v.data.toList) = .nilIface by rw [h1]; rfl)
      rw [HE.out] at HV
      clear h h1 HI
      go_enter Tryz.func148, Tryz.ntmps148
      go_wp2_with fail
      refine (HV.out _ HS.out).mono ?_
      rintro e w1 ⟨rfl, hb⟩
      have HB := hid (HB0.out.trans (hb.mono HB0.out.size))
      clear hb
      go_wp2_with fail
      go_ret
      exact ⟨rfl, HB.out⟩
    · rw [decide_eq_false h1] at HI
      have hz1 := HI.out
      subst hz1
      obtain ⟨a, ha⟩ := errV_ne aT aB h1
      rw [ha] at HV
      clear h h1 HI ha
      go_enter Tryz.func148, Tryz.ntmps148
      go_wp2_with fail
      refine (HV.out _ HS.out).mono ?_
      rintro e w1 ⟨rfl, hb⟩
      have HB := hid (HB0.out.trans (hb.mono HB0.out.size))
      clear hb
      go_wp2_with fail
      go_ret
      exact ⟨rfl, HB.out⟩
  · rw [decide_eq_false h, Bool.false_and] at HI
    have hz1 := HI.out
    subst hz1
    have hq := str_ne h
    clear h HI
    go_enter Tryz.func148, Tryz.ntmps148
    go_wp2_with fail
    go_ret
    exact ⟨rfl, HB0.out⟩
def shortR (L : List Raw) : Prop := ∀ r, r ∈ L → r.1.1.size < 999999 ∧ r.1.2.size < 999999
theorem shortR.filter {L : List Raw} (h : shortR L) (P : Raw → Bool) : shortR (L.filter P) := fun r hr => h r (List.mem_filter.1 hr).1
set_option maxHeartbeats 1000000 in
theorem ofPath_any (L : List Raw) (t : ByteArray) (v : Value) (aT aB : Addr) (m : Int) (w : World) (hL : L.length ≤ 100000) (hz : shortR L) (S : Vs w aT aB m) (hv : EsAt w v L) :
    Calls Tryz.prog 83 #[v, .string t] w fun e w' => ∃ v', e = .returned v' ∧ EsAt w' v' (L.filter (isP t)) ∧ Below w.heap.size w w' := by
  obtain ⟨a, c, hv1, _, hs, _⟩ := id hv
  have HB0 := hid ((Below.refl w.heap.size w).alloc (Nat.le_refl _) (.cells #[.string t] 9))
  have eg : ∀ args w, (callFunc 148 args).run Tryz.prog w = .ok (.enter 148 args) w := enters_of Tryz.func148 (by kernel_rfl) rfl
  have HF := hid (where_any 148 #[.pointer (some ⟨w.heap.size, 0, none⟩)] (isP t) L v (w.alloc (.cells #[.string t] 9)) eg hL (hv.below HB0.out) (fun i hi W hW =>
    ofPathK_any t L[i] (hs L[i] (List.getElem_mem hi)) (hz L[i] (List.getElem_mem hi)).2 aT aB m w.heap.size W ((S.below HB0.out).below hW) (cell_below hW (by simp))))
  subst hv1
  clear hv hs eg S
  go_enter Tryz.func83, Tryz.ntmps83
  go_wp2_with fail
  refine HF.out.mono ?_
  rintro e w1 ⟨v', rfl, he, hb⟩
  obtain ⟨a1, c1, e1, _⟩ := id he
  have HE := hid he
  have HB := hid (HB0.out.trans (hb.mono HB0.out.size))
  subst e1
  clear hb he
  go_wp2_with fail
  go_ret
  exact ⟨_, rfl, HE.out, HB.out⟩
def isS (r : Raw) : Bool := !r.2.2.2
def isD (r : Raw) : Bool := !preB r.1.2
set_option maxHeartbeats 1000000 in
theorem bestA_any (r : Raw) (hs : slR r) (W : World) : Calls Tryz.prog 145 (#[rawV r] ++ #[]) W fun e w' => e = .returned (.bool (isS r)) ∧ Below W.heap.size W w' := by
  obtain ⟨⟨p, v⟩, rv, pv, bk⟩ := r
  obtain ⟨⟨ra, rn, rc, hrv⟩, pa, pn, pc, hpv⟩ := hs
  simp only at hrv hpv
  subst hrv
  subst hpv
  show Calls Tryz.prog 145 #[.agg #[.string p, .string v, .slice ra rn rc, .slice pa pn pc, .bool bk]] W fun e w' => e = .returned (.bool (!bk)) ∧ Below W.heap.size W w'
  have HB0 := hid ((Below.refl W.heap.size W).alloc (Nat.le_refl _) (.cells #[.string p, .string v, .slice ra rn rc, .slice pa pn pc, .bool bk] 61))
  go_enter Tryz.func145, Tryz.ntmps145
  go_wp2_with fail
  go_ret
  exact ⟨rfl, HB0.out⟩
set_option maxHeartbeats 1000000 in
theorem bestB_any (r : Raw) (hs : slR r) (hz : r.1.2.size < 999999) (aT aB : Addr) (m : Int) (W : World) (S : Vs W aT aB m) : Calls Tryz.prog 146 (#[rawV r] ++ #[]) W fun e w' => e = .returned (.bool (isD r)) ∧ Below W.heap.size W w' := by
  obtain ⟨⟨p, v⟩, rv, pv, bk⟩ := r
  obtain ⟨⟨ra, rn, rc, hrv⟩, pa, pn, pc, hpv⟩ := hs
  simp only at hrv hpv hz
  subst hrv
  subst hpv
  show Calls Tryz.prog 146 #[.agg #[.string p, .string v, .slice ra rn rc, .slice pa pn pc, .bool bk]] W fun e w' => e = .returned (.bool (!preB v)) ∧ Below W.heap.size W w'
  have HB0 := hid ((Below.refl W.heap.size W).alloc (Nat.le_refl _) (.cells #[.string p, .string v, .slice ra rn rc, .slice pa pn pc, .bool bk] 61))
  have HH := hid (hasPre_any v aT aB m _ (by omega) (S.below HB0.out))
  generalize preB v = z at *
  clear S
  go_enter Tryz.func146, Tryz.ntmps146
  go_wp2_with fail
  refine HH.out.mono ?_
  rintro e w1 ⟨rfl, hb⟩
  have HB := hid (HB0.out.trans (hb.mono HB0.out.size))
  clear hb
  go_wp2_with fail
  go_ret
  exact ⟨rfl, HB.out⟩
def bestR (L : List Raw) : List Raw := if 0 < ((L.filter isS).filter isD).length then (L.filter isS).filter isD else if 0 < (L.filter isS).length then L.filter isS else L
set_option maxHeartbeats 1000000 in
theorem best_any (L : List Raw) (v : Value) (aT aB : Addr) (m : Int) (w : World) (hL : L.length ≤ 100000) (hz : shortR L) (S : Vs w aT aB m) (hv : EsAt w v L) :
    Calls Tryz.prog 82 #[v] w fun e w' => ∃ v', e = .returned v' ∧ EsAt w' v' (bestR L) ∧ Below w.heap.size w w' := by
  obtain ⟨a, c, hv1, _, hs, _⟩ := id hv
  have egA : ∀ args w, (callFunc 145 args).run Tryz.prog w = .ok (.enter 145 args) w := enters_of Tryz.func145 (by kernel_rfl) rfl
  have egB : ∀ args w, (callFunc 146 args).run Tryz.prog w = .ok (.enter 146 args) w := enters_of Tryz.func146 (by kernel_rfl) rfl
  have HF := hid (where_any 145 #[] isS L v w egA hL hv (fun i hi W hW => bestA_any L[i] (hs L[i] (List.getElem_mem hi)) W))
  have HG := hid (fun W (SW : Vs W aT aB m) v' (hv' : EsAt W v' (L.filter isS)) => where_any 146 #[] isD (L.filter isS) v' W egB (Nat.le_trans (List.length_filter_le _ _) hL) hv' (fun i hi W' hW => bestB_any (L.filter isS)[i] (hs _ (List.mem_filter.1 (List.getElem_mem hi)).1) (hz.filter isS _ (List.getElem_mem hi)).2 aT aB m W' (SW.below hW)))
  have HV := hid hv
  have HS := hid S
  subst hv1
  clear hv hs egA egB S
  go_enter Tryz.func82, Tryz.ntmps82
  go_wp2_with fail
  refine HF.out.mono ?_
  rintro e w1 ⟨v1, rfl, h1, hb⟩
  obtain ⟨a1, c1, e1, _⟩ := id h1
  have HE1 := hid h1
  have HB1 := hid hb
  subst e1
  clear hb h1
  go_wp2_with fail
  refine (HG.out w1 (HS.out.below HB1.out) _ HE1.out).mono ?_
  rintro e w2 ⟨v2, rfl, h2, hb⟩
  obtain ⟨a2, c2, e2, _⟩ := id h2
  have HE2 := hid h2
  have HB2 := hid (HB1.out.trans (hb.mono HB1.out.size))
  have HE3 := hid (HE1.out.below hb)
  subst e2
  clear hb h2
  have HR := hid (show bestR L = if 0 < ((L.filter isS).filter isD).length then (L.filter isS).filter isD else if 0 < (L.filter isS).length then L.filter isS else L from rfl)
  clear HF HG HE1
  generalize (L.filter isS).filter isD = D at *
  generalize L.filter isS = Q at *
  by_cases p1 : 0 < D.length
  · have q1 : (0 : Int) < (D.length : Int) := by omega
    rw [if_pos p1] at HR
    clear p1
    go_wp2_with fail
    go_ret
    exact ⟨_, rfl, by rw [HR.out]; exact HE2.out, HB2.out⟩
  · have q1 : ¬ (0 : Int) < (D.length : Int) := by omega
    rw [if_neg p1] at HR
    by_cases p2 : 0 < Q.length
    · have q2 : (0 : Int) < (Q.length : Int) := by omega
      rw [if_pos p2] at HR
      clear p1 p2
      go_wp2_with fail
      go_ret
      exact ⟨_, rfl, by rw [HR.out]; exact HE3.out, HB2.out⟩
    · have q2 : ¬ (0 : Int) < (Q.length : Int) := by omega
      rw [if_neg p2] at HR
      clear p1 p2
      go_wp2_with fail
      go_ret
      exact ⟨_, rfl, by rw [HR.out]; exact HV.out.below HB2.out, HB2.out⟩
end Ve
end Go.Proofs.YtjndahjfodnllaaGreatDoor


namespace Go.Proofs.YtjndahjfodnllaaGreatDoor
namespace Ve
theorem ordPart_swap (a b : List UInt8) : ordPart b a = -ordPart a b := by
  unfold ordPart
  cases h1 : digs a <;> cases h2 : digs b
  · simp only [Bool.false_eq_true, if_false]; exact cb_swap a b
  · simp
  · simp
  · simp only [if_true]; exact fst_swap (ci_swap _ _) (cb_swap _ _)
theorem ordPart_zero (a b : List UInt8) : ordPart a b = 0 ↔ a = b := by
  unfold ordPart
  cases h1 : digs a <;> cases h2 : digs b
  · simp only [Bool.false_eq_true, if_false]; exact cb_zero a b
  · simp only [Bool.false_eq_true, if_false, if_true]
    constructor
    · intro h; cases h
    · intro h; subst h; rw [h1] at h2; cases h2
  · simp only [Bool.false_eq_true, if_false, if_true]
    constructor
    · intro h; cases h
    · intro h; subst h; rw [h1] at h2; cases h2
  · simp only [if_true]
    rw [fst_zero, cb_zero]
    constructor
    · intro h; exact h.2
    · intro h; subst h; exact ⟨ci_self _, rfl⟩
theorem ordPs_swap : ∀ (a b : List (List UInt8)), ordPs b a = -ordPs a b
  | [], [] => rfl
  | [], _ :: _ => rfl
  | _ :: _, [] => rfl
  | x :: xs, y :: ys => fst_swap (ordPart_swap x y) (ordPs_swap xs ys)
theorem ordPs_zero : ∀ (a b : List (List UInt8)), ordPs a b = 0 ↔ a = b
  | [], [] => by simp [ordPs]
  | [], _ :: _ => by simp [ordPs]
  | _ :: _, [] => by simp [ordPs]
  | x :: xs, y :: ys => by
    unfold ordPs
    rw [fst_zero, ordPart_zero, ordPs_zero xs ys]
    simp
theorem ordPre_swap (a b : List (List UInt8)) : ordPre b a = -ordPre a b := by
  unfold ordPre
  by_cases h : a = [] ∨ b = []
  · rw [if_pos h, if_pos h.symm]; exact ci_swap _ _
  · rw [if_neg h, if_neg (fun k => h k.symm)]; exact ordPs_swap a b
theorem ordPre_zero (a b : List (List UInt8)) : ordPre a b = 0 ↔ a = b := by
  unfold ordPre
  by_cases h : a = [] ∨ b = []
  · rw [if_pos h, ci_zero]
    constructor
    · intro e
      rcases h with h | h
      · subst h; simp at e; exact e.symm
      · subst h; simp at e; exact List.length_eq_zero_iff.1 (by omega)
    · intro e; subst e; rfl
  · rw [if_neg h]; exact ordPs_zero a b
theorem ordV_swap (s t : List UInt8) : ordV t s = -ordV s t :=
  fst_swap (ci_swap _ _) (fst_swap (ci_swap _ _) (fst_swap (ci_swap _ _) (ordPre_swap _ _)))
theorem ordV_zero {s t : List UInt8} (hs : verErr s = 0) (ht : verErr t = 0) : ordV s t = 0 ↔ s = t := by
  unfold ordV ordN
  rw [fst_zero, fst_zero, fst_zero, ci_zero, ci_zero, ci_zero, ordPre_zero]
  constructor
  · rintro ⟨h0, h1, h2, h3⟩
    rw [← text_back s hs, ← text_back t ht, h0, h1, h2, h3]
  · intro h; subst h; exact ⟨rfl, rfl, rfl, rfl⟩
theorem ordV_range (s t : List UInt8) : ordV s t = -1 ∨ ordV s t = 0 ∨ ordV s t = 1 := ordN_range _ _ _ _ _ _ _ _
end Ve
end Go.Proofs.YtjndahjfodnllaaGreatDoor


namespace Go.Proofs.YtjndahjfodnllaaGreatDoor
namespace Ve
theorem fst_lt {a b : Int} : fst a b < 0 ↔ a < 0 ∨ a = 0 ∧ b < 0 := by
  unfold fst
  by_cases h : a = 0
  · rw [if_pos h]; subst h; simp
  · rw [if_neg h]; simp [h]
theorem lex_trans {a1 a2 a3 b1 b2 b3 : Int} (h12 : a1 < 0 → a2 < 0 → a3 < 0) (h0l : a1 = 0 → a3 = a2) (h0r : a2 = 0 → a3 = a1) (hb : a1 = 0 → a2 = 0 → b1 < 0 → b2 < 0 → b3 < 0) :
    fst a1 b1 < 0 → fst a2 b2 < 0 → fst a3 b3 < 0 := by
  rw [fst_lt, fst_lt, fst_lt]
  rintro (h1 | ⟨h1, k1⟩) (h2 | ⟨h2, k2⟩)
  · exact Or.inl (h12 h1 h2)
  · exact Or.inl (by rw [h0r h2]; exact h1)
  · exact Or.inl (by rw [h0l h1]; exact h2)
  · exact Or.inr ⟨by rw [h0l h1]; exact h2, hb h1 h2 k1 k2⟩
theorem ci_trans {x y z : Int} (h1 : Lib.compareInt x y < 0) (h2 : Lib.compareInt y z < 0) : Lib.compareInt x z < 0 := by
  have e1 : x < y := by
    unfold Lib.compareInt at h1
    split at h1
    · assumption
    · split at h1 <;> omega
  have e2 : y < z := by
    unfold Lib.compareInt at h2
    split at h2
    · assumption
    · split at h2 <;> omega
  rw [ci_lt (by omega)]; decide
theorem cb_trans : ∀ (a b c : List UInt8), Lib.compareBytes a b < 0 → Lib.compareBytes b c < 0 → Lib.compareBytes a c < 0
  | [], [], _, h, _ => by simp [Lib.compareBytes] at h
  | [], _ :: _, [], _, h => by simp [Lib.compareBytes] at h
  | [], _ :: _, _ :: _, _, _ => by simp [Lib.compareBytes]
  | _ :: _, [], _, h, _ => by simp [Lib.compareBytes] at h
  | _ :: _, _ :: _, [], _, h => by simp [Lib.compareBytes] at h
  | x :: a, y :: b, z :: c, h1, h2 => by
    unfold Lib.compareBytes at h1 h2 ⊢
    by_cases h3 : x < y
    · by_cases h4 : y < z
      · rw [if_pos (UInt8.lt_trans h3 h4)]; decide
      · rw [if_neg h4] at h2
        by_cases h5 : z < y
        · rw [if_pos h5] at h2; omega
        · have := u8_eq h4 h5
          subst this
          rw [if_pos h3]; decide
    · rw [if_neg h3] at h1
      by_cases h4 : y < x
      · rw [if_pos h4] at h1; omega
      · rw [if_neg h4] at h1
        have := u8_eq h3 h4
        subst this
        by_cases h5 : x < z
        · rw [if_pos h5]; decide
        · rw [if_neg h5] at h2 ⊢
          by_cases h6 : z < x
          · rw [if_pos h6] at h2; omega
          · rw [if_neg h6] at h2 ⊢
            exact cb_trans a b c h1 h2
theorem ordPart_trans {a b c : List UInt8} (h1 : ordPart a b < 0) (h2 : ordPart b c < 0) : ordPart a c < 0 := by
  unfold ordPart at *
  cases ha : digs a <;> cases hb : digs b <;> cases hc : digs c <;> rw [ha, hb] at h1 <;> rw [hb, hc] at h2
  · exact cb_trans _ _ _ h1 h2
  · exact absurd (show (1 : Int) < 0 from h2) (by decide)
  · exact absurd (show (1 : Int) < 0 from h1) (by decide)
  · exact absurd (show (1 : Int) < 0 from h1) (by decide)
  · show (-1 : Int) < 0; decide
  · exact absurd (show (1 : Int) < 0 from h2) (by decide)
  · show (-1 : Int) < 0; decide
  · refine lex_trans (fun h k => ci_trans h k) ?_ ?_ (fun _ _ h k => cb_trans _ _ _ h k) h1 h2
    · intro h; rw [(ci_zero _ _).1 h]
    · intro h; rw [(ci_zero _ _).1 h]
theorem ordPs_trans : ∀ (a b c : List (List UInt8)), ordPs a b < 0 → ordPs b c < 0 → ordPs a c < 0
  | [], [], _, h, _ => by simp [ordPs] at h
  | [], _ :: _, [], _, h => by simp [ordPs] at h
  | [], _ :: _, _ :: _, _, _ => by simp [ordPs]
  | _ :: _, [], _, h, _ => by simp [ordPs] at h
  | _ :: _, _ :: _, [], _, h => by simp [ordPs] at h
  | x :: a, y :: b, z :: c, h1, h2 => by
    unfold ordPs at h1 h2 ⊢
    refine lex_trans (fun h k => ordPart_trans h k) ?_ ?_ (fun _ _ h k => ordPs_trans a b c h k) h1 h2
    · intro h; rw [(ordPart_zero _ _).1 h]
    · intro h; rw [(ordPart_zero _ _).1 h]
theorem ordPre_trans {a b c : List (List UInt8)} (h1 : ordPre a b < 0) (h2 : ordPre b c < 0) : ordPre a c < 0 := by
  unfold ordPre at *
  by_cases ha : a = []
  · subst ha
    rw [if_pos (Or.inl rfl)] at h1
    exfalso
    have : ¬ Lib.compareInt (b.length : Int) (([] : List (List UInt8)).length : Int) < 0 := by
      unfold Lib.compareInt
      split
      · rename_i h; simp at h; omega
      · split <;> omega
    exact this h1
  · by_cases hb : b = []
    · subst hb
      rw [if_pos (Or.inl rfl)] at h2
      exfalso
      have : ¬ Lib.compareInt (c.length : Int) (([] : List (List UInt8)).length : Int) < 0 := by
        unfold Lib.compareInt
        split
        · rename_i h; simp at h; omega
        · split <;> omega
      exact this h2
    · by_cases hc : c = []
      · subst hc
        rw [if_pos (Or.inr rfl)]
        rw [ci_lt (by have := List.length_pos_iff.2 ha; simp; omega)]; decide
      · rw [if_neg (by rintro (h | h); exact ha h; exact hb h)] at h1
        rw [if_neg (by rintro (h | h); exact hb h; exact hc h)] at h2
        rw [if_neg (by rintro (h | h); exact ha h; exact hc h)]
        exact ordPs_trans a b c h1 h2
theorem ordV_trans {s t u : List UInt8} (h1 : ordV s t < 0) (h2 : ordV t u < 0) : ordV s u < 0 := by
  unfold ordV ordN at *
  refine lex_trans (fun h k => ci_trans h k) ?_ ?_ (fun _ _ => lex_trans (fun h k => ci_trans h k) ?_ ?_ (fun _ _ => lex_trans (fun h k => ci_trans h k) ?_ ?_ (fun _ _ h k => ordPre_trans h k))) h1 h2
  all_goals (intro h; rw [(ci_zero _ _).1 h])
theorem ordV_irr {s t : List UInt8} (h : ordV s t < 0) : ¬ ordV t s < 0 := by rw [ordV_swap s t]; omega
def rises (l : List (List UInt8)) : Prop := l.Pairwise fun s t => ordV s t < 0
end Ve
end Go.Proofs.YtjndahjfodnllaaGreatDoor


namespace Go.Proofs.YtjndahjfodnllaaGreatDoor
open Go.RowKit
namespace Ve
abbrev Rc := List UInt8 × Value
def rcells (r : Rc) : List Value := [.int .i64 (nAt r.1 0), .int .i64 (nAt r.1 1), .int .i64 (nAt r.1 2), r.2]
def RcAt (W : World) (g : Nat) (r : Rc) : Prop := verErr r.1 = 0 ∧ r.1.length ≤ 80 ∧ StrsAt W r.2 (strs (preOf r.1)) ∧ ∀ b o s n c, r.2 = .slice (some ⟨b, o, s⟩) n c → b ≠ g
structure Rw (w0 W : World) (g : Nat) (D : List Rc) : Prop where
  bl : Below w0.heap.size w0 W
  lo : w0.heap.size ≤ g
  hi : g < W.heap.size
  fz : ∀ o, W.frozen? ⟨g, o, none⟩ = false
  rc : ∀ r, r ∈ D → RcAt W g r
  c0 : ∀ j (h : j < D.length), W.cell? ⟨g, j * 4, none⟩ = some (.int .i64 (nAt D[j].1 0))
  c1 : ∀ j (h : j < D.length), W.cell? ⟨g, j * 4 + 1, none⟩ = some (.int .i64 (nAt D[j].1 1))
  c2 : ∀ j (h : j < D.length), W.cell? ⟨g, j * 4 + 2, none⟩ = some (.int .i64 (nAt D[j].1 2))
  c3 : ∀ j (h : j < D.length), W.cell? ⟨g, j * 4 + 3, none⟩ = some D[j].2
theorem RcAt.below {W W' : World} {g : Nat} {r : Rc} (h : RcAt W g r) (hb : Below W.heap.size W W') : RcAt W' g r := ⟨h.1, h.2.1, h.2.2.1.below hb, h.2.2.2⟩
theorem Rw.below {w0 W W' : World} {g : Nat} {D : List Rc} (h : Rw w0 W g D) (hb : Below W.heap.size W W') : Rw w0 W' g D :=
  ⟨h.bl.trans (hb.mono h.bl.size), h.lo, Nat.lt_of_lt_of_le h.hi hb.size, fun o => by rw [hb.frozen h.hi]; exact h.fz o, fun r hr => (h.rc r hr).below hb,
   fun j hj => cell_below hb (h.c0 j hj), fun j hj => cell_below hb (h.c1 j hj), fun j hj => cell_below hb (h.c2 j hj), fun j hj => cell_below hb (h.c3 j hj)⟩
theorem Rw.at {w0 W : World} {g : Nat} {D : List Rc} (h : Rw w0 W g D) {j : Nat} {r : Rc} (hj : D[j]? = some r) :
    W.cell? ⟨g, j * 4, none⟩ = some (.int .i64 (nAt r.1 0)) ∧ W.cell? ⟨g, j * 4 + 1, none⟩ = some (.int .i64 (nAt r.1 1)) ∧ W.cell? ⟨g, j * 4 + 2, none⟩ = some (.int .i64 (nAt r.1 2)) ∧ W.cell? ⟨g, j * 4 + 3, none⟩ = some r.2 := by
  obtain ⟨hl, rfl⟩ := List.getElem?_eq_some_iff.1 hj
  exact ⟨h.c0 j hl, h.c1 j hl, h.c2 j hl, h.c3 j hl⟩
def Two (w0 W : World) (g j : Nat) (D : List Rc) (y x : Rc) : Prop :=
  W.cell? ⟨g, j * 4, none⟩ = some (.int .i64 (nAt y.1 0)) ∧ W.cell? ⟨g, j * 4 + 1, none⟩ = some (.int .i64 (nAt y.1 1)) ∧ W.cell? ⟨g, j * 4 + 2, none⟩ = some (.int .i64 (nAt y.1 2)) ∧ W.cell? ⟨g, j * 4 + 3, none⟩ = some y.2 ∧
  W.cell? ⟨g, (j + 1) * 4, none⟩ = some (.int .i64 (nAt x.1 0)) ∧ W.cell? ⟨g, (j + 1) * 4 + 1, none⟩ = some (.int .i64 (nAt x.1 1)) ∧ W.cell? ⟨g, (j + 1) * 4 + 2, none⟩ = some (.int .i64 (nAt x.1 2)) ∧ W.cell? ⟨g, (j + 1) * 4 + 3, none⟩ = some x.2 ∧ Hid (Rw w0 W g D)
theorem Rw.two {w0 W : World} {g : Nat} {D : List Rc} (h : Rw w0 W g D) {j : Nat} {y x : Rc} (hy : D[j]? = some y) (hx : D[j + 1]? = some x) : Two w0 W g j D y x := by
  obtain ⟨a0, a1, a2, a3⟩ := h.at hy
  obtain ⟨b0, b1, b2, b3⟩ := h.at hx
  exact ⟨a0, a1, a2, a3, b0, b1, b2, b3, h⟩
theorem strs_len (ps : List (List UInt8)) : (strs ps).length = ps.length := by simp [strs]
theorem pre_small {W : World} {g : Nat} {r : Rc} (h : RcAt W g r) : (strs (preOf r.1)).length ≤ 1000000 ∧ ∀ x, x ∈ strs (preOf r.1) → x.size ≤ maxLen := by
  have h1 := pre_len (l := r.1)
  refine ⟨by rw [strs_len]; have := h.2.1; omega, fun x hx => ?_⟩
  have h2 : x.data.toList ∈ preOf r.1 := by rw [← bl_strs (preOf r.1)]; exact bl_mem hx
  have h3 := pre_size h2
  rw [len_eq] at h3
  have := h.2.1
  unfold maxLen; omega
theorem compare_rcw (r q : Rc) (g : Nat) (W : World) (hr : RcAt W g r) (hq : RcAt W g q) :
    Calls Tryz.prog 195 #[.agg #[.int .i64 (nAt r.1 0), .int .i64 (nAt r.1 1), .int .i64 (nAt r.1 2), r.2], .agg #[.int .i64 (nAt q.1 0), .int .i64 (nAt q.1 1), .int .i64 (nAt q.1 2), q.2]] W
      fun e w' => e = .returned (.int .i64 (ordV r.1 q.1)) ∧ Bw W.heap.size W w' := by
  have h := compare_bw (nAt r.1 0) (nAt r.1 1) (nAt r.1 2) (nAt q.1 0) (nAt q.1 1) (nAt q.1 2) r.2 q.2 (strs (preOf r.1)) (strs (preOf q.1)) W (pre_small hr).1 (pre_small hq).1 (pre_small hr).2 (pre_small hq).2 hr.2.2.1 hq.2.2.1
  rw [bl_strs, bl_strs] at h
  exact h
theorem compare_rc (r q : Rc) (g : Nat) (W : World) (hr : RcAt W g r) (hq : RcAt W g q) :
    Calls Tryz.prog 195 #[.agg #[.int .i64 (nAt r.1 0), .int .i64 (nAt r.1 1), .int .i64 (nAt r.1 2), r.2], .agg #[.int .i64 (nAt q.1 0), .int .i64 (nAt q.1 1), .int .i64 (nAt q.1 2), q.2]] W
      fun e w' => e = .returned (.int .i64 (ordV r.1 q.1)) ∧ Below W.heap.size W w' := by
  have h := compare_any (nAt r.1 0) (nAt r.1 1) (nAt r.1 2) (nAt q.1 0) (nAt q.1 1) (nAt q.1 2) r.2 q.2 (strs (preOf r.1)) (strs (preOf q.1)) W (pre_small hr).1 (pre_small hq).1 (pre_small hr).2 (pre_small hq).2 hr.2.2.1 hq.2.2.1
  rw [bl_strs, bl_strs] at h
  exact h
end Ve
end Go.Proofs.YtjndahjfodnllaaGreatDoor


namespace Go.Proofs.YtjndahjfodnllaaGreatDoor
open Go.RowKit
namespace Ve
theorem grow_of_bw {W w' : World} (h : Bw W.heap.size W w') : ∃ q os', w' = Go.Sort.grow (W.drewN q) os' := by
  refine ⟨w'.drawn - W.drawn, w'.heap.extract W.heap.size w'.heap.size, ?_⟩
  have hd := h.dr
  have hh : w'.heap = W.heap ++ w'.heap.extract W.heap.size w'.heap.size := by
    apply Array.ext_getElem?
    intro i
    by_cases hi : i < W.heap.size
    · rw [Array.getElem?_append_left hi, h.be.block i hi]
    · rw [Array.getElem?_append_right (by omega), Array.getElem?_extract]
      have hs := h.be.size
      by_cases h2 : i < w'.heap.size
      · rw [if_pos (by omega)]
        congr 1
        omega
      · rw [if_neg (by omega)]
        exact Array.getElem?_eq_none (by omega)
  obtain ⟨a, b, c, d, e⟩ := w'
  obtain ⟨a', b', c', d', e'⟩ := W
  have h1 := h.be.os
  have h2 := h.be.tape
  have h3 := h.be.output
  simp only at h1 h2 h3 hh hd
  subst h1 h2 h3
  simp only [Go.Sort.grow, World.drewN, World.mk.injEq, true_and, and_true]
  exact ⟨hh, by omega⟩
abbrev Rq (w : World) (g : Nat) := { r : Rc // RcAt w g r }
def encR {w : World} {g : Nat} (r : Rq w g) : List Value := rcells r.1
def cfR {w : World} {g : Nat} (r q : Rq w g) : Int := ordV r.1.1 q.1.1
theorem swoR (w : World) (g : Nat) : Go.Sort.SWO (ltOf (cfR (w := w) (g := g))) where
  irrefl x := by
    unfold ltOf cfR
    rw [(ordV_zero x.2.1 x.2.1).2 rfl]; rfl
  trans x y z h1 h2 := by
    unfold ltOf cfR at *
    simp only [decide_eq_true_eq] at *
    exact ordV_trans h1 h2
  ntrans x y z h1 h2 := by
    unfold ltOf cfR at *
    simp only [decide_eq_false_iff_not] at *
    intro h
    rcases ordV_range x.1.1 y.1.1 with e | e | e
    · omega
    · have := (ordV_zero x.2.1 y.2.1).1 e
      rw [this] at h
      exact h2 h
    · have h3 : ordV y.1.1 x.1.1 < 0 := by rw [ordV_swap x.1.1 y.1.1]; omega
      exact h2 (ordV_trans h3 h)
theorem encR_len {w : World} {g : Nat} (r : Rq w g) : (encR r).length = 4 := rfl
theorem RcAt.sorted {w : World} {g : Nat} {r : Rc} (h : RcAt w g r) {α : Type} [Inhabited α] (enc : α → List Value) (m : Nat) (dk : Array α) (os : Array Obj) : RcAt (sortWorldK enc 4 w g 0 m dk os) g r := by
  refine ⟨h.1, h.2.1, ?_, h.2.2.2⟩
  rcases h.2.2.1 with h0 | ⟨hne, b, e1, e2, e3⟩
  · exact Or.inl h0
  · have hbg : b ≠ g := h.2.2.2 b 0 none _ _ e1
    refine Or.inr ⟨hne, b, e1, Nat.lt_of_lt_of_le e2 (size_sortWorldK_c enc 4 w g 0 m dk os), fun j hj => ?_⟩
    unfold sortWorldK
    rw [Go.Sort.cell?_grow _ _ _ (by rw [Go.Sort.size_putRowK]; exact e2), Go.Sort.cell?_putRowK_other enc 4 _ g 0 dk _ hbg]
    exact e3 j hj
theorem cmpR (w : World) (g n : Nat) [Inhabited (Rq w g)] : CmpLays Tryz.prog 195 #[] (encR (w := w) (g := g)) 4 cfR g 0 n w := by
  intro m os dk hs x y
  have h := compare_rcw x.1 y.1 g (sortWorldK encR 4 w g 0 m dk os) (x.2.sorted encR m dk os) (y.2.sorted encR m dk os)
  have e : (#[.agg (encR x).toArray, .agg (encR y).toArray] ++ #[] : Array Value) = #[.agg #[.int .i64 (nAt x.1.1 0), .int .i64 (nAt x.1.1 1), .int .i64 (nAt x.1.1 2), x.1.2], .agg #[.int .i64 (nAt y.1.1 0), .int .i64 (nAt y.1.1 1), .int .i64 (nAt y.1.1 2), y.1.2]] := by simp [encR, rcells]
  rw [e]
  exact h.mono fun e w' ⟨he, hb⟩ => ⟨he, grow_of_bw hb⟩
end Ve
end Go.Proofs.YtjndahjfodnllaaGreatDoor


namespace Go.Proofs
open Go.Shelf
def Tryz.sortParts_ren : Go.Shelf.Ren := ⟨fun | 6 => 194 | 15 => 61 | 14 => 226 | 28 => 112 | 29 => 113 | 20 => 249 | 21 => 250 | 22 => 251 | 23 => 252 | 24 => 253 | 25 => 254 | 26 => 255 | 27 => 256 | 46 => 266 | 47 => 164 | 48 => 165 | 49 => 267 | 50 => 268 | 57 => 272 | n => n, fun | 22 => 229 | 24 => 187 | 25 => 231 | 3 => 3 | 39 => 93 | 0 => 0 | 53 => 142 | 55 => 144 | 4 => 4 | 46 => 134 | 45 => 133 | 50 => 139 | 5 => 5 | 9 => 9 | 66 => 191 | 70 => 195 | 76 => 246 | 77 => 78 | n => n, fun | n => n⟩
theorem Tryz.sortParts : Go.Proofs.SlLaysF0.n6 Tryz.prog Tryz.sortParts_ren := {
  mixed := by kernel_rfl
  f6 := ⟨Tryz.f194.name, by decide, Tryz.func194.trans (congrArg some (by kernel_rfl))⟩
  f14 := ⟨Tryz.f226.name, by decide, Tryz.func226.trans (congrArg some (by kernel_rfl))⟩
  f15 := Tryz.func61.trans (congrArg some (by kernel_rfl))
  f20 := ⟨Tryz.f249.name, by decide, Tryz.func249.trans (congrArg some (by kernel_rfl))⟩
  f21 := ⟨Tryz.f250.name, by decide, Tryz.func250.trans (congrArg some (by kernel_rfl))⟩
  f22 := ⟨Tryz.f251.name, by decide, Tryz.func251.trans (congrArg some (by kernel_rfl))⟩
  f23 := ⟨Tryz.f252.name, by decide, Tryz.func252.trans (congrArg some (by kernel_rfl))⟩
  f24 := ⟨Tryz.f253.name, by decide, Tryz.func253.trans (congrArg some (by kernel_rfl))⟩
  f25 := ⟨Tryz.f254.name, by decide, Tryz.func254.trans (congrArg some (by kernel_rfl))⟩
  f26 := ⟨Tryz.f255.name, by decide, Tryz.func255.trans (congrArg some (by kernel_rfl))⟩
  f27 := ⟨Tryz.f256.name, by decide, Tryz.func256.trans (congrArg some (by kernel_rfl))⟩
  f28 := Tryz.func112.trans (congrArg some (by kernel_rfl))
  f29 := Tryz.func113.trans (congrArg some (by kernel_rfl))
  f46 := ⟨Tryz.f266.name, by decide, Tryz.func266.trans (congrArg some (by kernel_rfl))⟩
  f47 := Tryz.func164.trans (congrArg some (by kernel_rfl))
  f48 := Tryz.func165.trans (congrArg some (by kernel_rfl))
  f49 := ⟨Tryz.f267.name, by decide, Tryz.func267.trans (congrArg some (by kernel_rfl))⟩
  f50 := ⟨Tryz.f268.name, by decide, Tryz.func268.trans (congrArg some (by kernel_rfl))⟩
  f57 := ⟨Tryz.f272.name, by decide, Tryz.func272.trans (congrArg some (by kernel_rfl))⟩
  t0 := Tryz.underlying0
  a0 := Tryz.isAgg0
  z0 := Tryz.sizeOf0
  v0 := Tryz.zeroValue0
  t3 := Tryz.underlying3
  a3 := Tryz.isAgg3
  z3 := Tryz.sizeOf3
  v3 := Tryz.zeroValue3
  t4 := Tryz.underlying4
  a4 := Tryz.isAgg4
  z4 := Tryz.sizeOf4
  v4 := Tryz.zeroValue4
  t5 := Tryz.underlying5
  a5 := Tryz.isAgg5
  z5 := Tryz.sizeOf5
  v5 := Tryz.zeroValue5
  t9 := Tryz.underlying9
  a9 := Tryz.isAgg9
  z9 := Tryz.sizeOf9
  v9 := Tryz.zeroValue9
  t22 := Tryz.underlying229
  a22 := Tryz.isAgg229
  z22 := Tryz.sizeOf229
  v22 := Tryz.zeroValue229
  t25 := Tryz.underlying231
  a25 := Tryz.isAgg231
  z25 := Tryz.sizeOf231
  v25 := Tryz.zeroValue231
  t39 := Tryz.underlying93
  a39 := Tryz.isAgg93
  z39 := Tryz.sizeOf93
  v39 := Tryz.zeroValue93
  t45 := Tryz.underlying133
  a45 := Tryz.isAgg133
  z45 := Tryz.sizeOf133
  v45 := Tryz.zeroValue133
  t46 := Tryz.underlying134
  a46 := Tryz.isAgg134
  z46 := Tryz.sizeOf134
  v46 := Tryz.zeroValue134
  t50 := Tryz.underlying139
  a50 := Tryz.isAgg139
  z50 := Tryz.sizeOf139
  v50 := Tryz.zeroValue139
  t53 := Tryz.underlying142
  a53 := Tryz.isAgg142
  z53 := Tryz.sizeOf142
  v53 := Tryz.zeroValue142
  t55 := Tryz.underlying144
  a55 := Tryz.isAgg144
  z55 := Tryz.sizeOf144
  v55 := Tryz.zeroValue144
  t66 := Tryz.underlying191
  a66 := Tryz.isAgg191
  z66 := Tryz.sizeOf191
  v66 := Tryz.zeroValue191
  t70 := Tryz.underlying195
  a70 := Tryz.isAgg195
  z70 := Tryz.sizeOf195
  v70 := Tryz.zeroValue195
  t76 := Tryz.underlying246
  a76 := Tryz.isAgg246
  z76 := Tryz.sizeOf246
  v76 := Tryz.zeroValue246
  t77 := Tryz.underlying78
  a77 := Tryz.isAgg78
  z77 := Tryz.sizeOf78
  v77 := Tryz.zeroValue78 }
end Go.Proofs


namespace Go.Proofs.YtjndahjfodnllaaGreatDoor
open Go.RowKit
namespace Ve
def srt (D : List Rc) : Prop := D.Pairwise fun r q => ordV r.1 q.1 ≤ 0
theorem sorted_below {w : World} {g : Nat} {α : Type} [Inhabited α] (enc : α → List Value) (m : Nat) (dk : Array α) (os : Array Obj) (B : Nat) (hB : B ≤ g) (hz : B ≤ w.heap.size) : Below B w (sortWorldK enc 4 w g 0 m dk os) := by
  refine ⟨rfl, rfl, rfl, size_sortWorldK_c enc 4 w g 0 m dk os, fun k hk => ?_⟩
  unfold sortWorldK
  rw [Go.Sort.heap_grow_old _ _ (by rw [Go.Sort.size_putRowK]; show k < w.heap.size; omega)]
  unfold Go.Sort.putRowK Go.Sort.putRow
  show (Array.modify (Go.Sort.ahead w m).heap g _)[k]? = _
  rw [Array.getElem?_modify, if_neg (by omega)]
  rfl
theorem holds_rw {w0 w : World} {g : Nat} {D : List Rc} (h : Rw w0 w g D) [Inhabited (Rq w g)] (d : Array (Rq w g)) (hd : d.toList.map (·.1) = D) : Go.Sort.HoldsK encR 4 w g 0 d := by
  have hl : d.size = D.length := by rw [← hd]; simp
  intro t ht
  rw [Go.Sort.size_flatK] at ht
  rw [Go.Sort.get_flatK _ _ _ _ ht]
  have hi : t / 4 < d.size := by omega
  have e : d[t / 4]!.1 = D[t / 4]'(by omega) := by
    rw [getElem!_pos d (t / 4) hi]
    simp [← hd]
  refine ⟨?_, by rw [Nat.zero_add]; exact h.fz t⟩
  show w.cell? ⟨g, 0 + t, none⟩ = some ((rcells d[t / 4]!.1)[t % 4]!)
  rw [e, Nat.zero_add]
  have hm : t % 4 < 4 := Nat.mod_lt _ (by omega)
  have hdm := Nat.div_add_mod t 4
  match hc : t % 4, hm with
  | 0, _ => have := h.c0 (t / 4) (by omega); rw [show t / 4 * 4 = t by omega] at this; exact this
  | 1, _ => have := h.c1 (t / 4) (by omega); rw [show t / 4 * 4 + 1 = t by omega] at this; exact this
  | 2, _ => have := h.c2 (t / 4) (by omega); rw [show t / 4 * 4 + 2 = t by omega] at this; exact this
  | 3, _ => have := h.c3 (t / 4) (by omega); rw [show t / 4 * 4 + 3 = t by omega] at this; exact this
theorem lift_rq {w : World} {g : Nat} : ∀ D : List Rc, (∀ r, r ∈ D → RcAt w g r) → ∃ l : List (Rq w g), l.map (·.1) = D
  | [], _ => ⟨[], rfl⟩
  | r :: R, h => by
    obtain ⟨l, e⟩ := lift_rq R (fun q hq => h q (List.mem_cons_of_mem _ hq))
    exact ⟨⟨r, h r (by simp)⟩ :: l, by simp [e]⟩
theorem sort_rw (w0 w : World) (g cap : Nat) (D : List Rc) (hD : D ≠ []) (h12 : D.length ≤ 1000) (h : Rw w0 w g D) :
    Calls Tryz.prog 194 #[.slice (some ⟨g, 0, none⟩) D.length cap, .func (.func 195) #[] #[]] w fun e w' => e = .returned (.tuple #[]) ∧ ∃ D', D'.Perm D ∧ srt D' ∧ Rw w0 w' g D' := by
  obtain ⟨r0, R, rfl⟩ : ∃ r R, D = r :: R := by
    cases D with
    | nil => exact absurd rfl hD
    | cons r R => exact ⟨r, R, rfl⟩
  letI : Inhabited (Rq w g) := ⟨⟨r0, h.rc r0 (by simp)⟩⟩
  obtain ⟨d, hd⟩ : ∃ d : Array (Rq w g), d.toList.map (·.1) = r0 :: R := by
    obtain ⟨l, e⟩ := lift_rq (r0 :: R) h.rc
    exact ⟨l.toArray, by simpa using e⟩
  have hl : d.size = (r0 :: R).length := by rw [← hd]; simp
  have hH := holds_rw h d hd
  have eg : ∀ args w, (callFunc 195 args).run Tryz.prog w = .ok (.enter 195 args) w := enters_of Tryz.func195 (by kernel_rfl) rfl
  have hcon := AnyQ.slices_SortFunc Tryz.sortParts 4 Tryz.isAgg187 Tryz.sizeOf187 encR encR_len (fun x v hv => by
    obtain ⟨px, nx, cx, e⟩ := x.2.2.2.1.slice
    simp only [encR, rcells, e, List.mem_cons, List.not_mem_nil, or_false] at hv
    rcases hv with rfl | rfl | rfl | rfl <;> rfl) cfR (swoR w g) 195 #[] g 0 cap d w eg (cmpR w g d.size) hH h.hi (by omega)
  rw [hl] at hcon
  refine Calls.mono hcon ?_
  rintro e w' ⟨he, d', n, os, hp, hs, rfl⟩
  obtain ⟨hsz, _, hperm⟩ := hp
  have hsz' : d'.size = (r0 :: R).length := hsz.trans hl
  have hHd := holdsK_sortWorldK_c encR 4 w g 0 d d' n os hH h.hi hsz
  have hpm : d'.toList.Perm d.toList := by
    have e1 : d'.extract 0 (r0 :: R).length = d' := by rw [← hsz']; simp
    have e2 : d.extract 0 (r0 :: R).length = d := by rw [← hl]; simp
    rw [e1, e2] at hperm
    exact hperm
  have hg : ∀ j (hj : j < (d'.toList.map (·.1)).length), d'[j]! = d'[j]'(by simpa using hj) := fun j hj => getElem!_pos d' j (by simpa using hj)
  have cell : ∀ j (hj : j < (d'.toList.map (·.1)).length) c (hc : c < 4), (sortWorldK encR 4 w g 0 n d' os).cell? ⟨g, j * 4 + c, none⟩ = some ((rcells (d'.toList.map (·.1))[j])[c]!) := by
    intro j hj c hc
    have h1 := (hHd.cell (i := j) (c := c) (by simpa using hj) hc).1
    rw [Nat.zero_add, hg j hj] at h1
    rw [h1]
    simp [encR]
  refine ⟨he, d'.toList.map (·.1), ?_, ?_, ?_⟩
  · rw [← hd]; exact hpm.map _
  · unfold srt
    rw [List.pairwise_iff_getElem]
    intro i j hi hj hij
    have h1 := hs i j (Nat.zero_le _) hij (by rw [← hsz']; simpa using hj)
    rw [hg i hi, hg j hj] at h1
    unfold ltOf cfR at h1
    simp only [decide_eq_false_iff_not] at h1
    simp only [List.getElem_map, Array.getElem_toList]
    have h3 : ¬ ordV (d'[j]'(by simpa using hj)).1.1 (d'[i]'(by simpa using hi)).1.1 < 0 := h1
    rw [ordV_swap (d'[i]'(by simpa using hi)).1.1 (d'[j]'(by simpa using hj)).1.1] at h3
    omega
  · refine ⟨h.bl.trans ((sorted_below encR n d' os w0.heap.size h.lo h.bl.size)), h.lo, Nat.lt_of_lt_of_le h.hi (size_sortWorldK_c encR 4 w g 0 n d' os), fun o => ?_, fun r hr => ?_, fun j hj => ?_, fun j hj => ?_, fun j hj => ?_, fun j hj => ?_⟩
    · unfold sortWorldK
      rw [Go.Sort.frozen?_grow _ _ _ (by rw [Go.Sort.size_putRowK]; exact h.hi)]
      unfold Go.Sort.putRowK
      rw [Go.Sort.frozen?_putRow]
      exact h.fz o
    · obtain ⟨x, _, rfl⟩ := List.mem_map.1 hr
      exact x.2.sorted encR n d' os
    · exact cell j hj 0 (by omega)
    · exact cell j hj 1 (by omega)
    · exact cell j hj 2 (by omega)
    · exact cell j hj 3 (by omega)
end Ve
end Go.Proofs.YtjndahjfodnllaaGreatDoor


namespace Go.Proofs.YtjndahjfodnllaaGreatDoor
open Go.RowKit
namespace Ve
theorem owns_mono {w : World} {b b' : Nat} {e : TypeId} {size : Nat} {v : Value} {n : Nat} {xs : List Value} (h : w.ownsRow b e size v n xs) (hb : b' ≤ b) : w.ownsRow b' e size v n xs := by
  refine ⟨h.1, ?_⟩
  rcases h.2 with h | ⟨g, cap, cur, h1, h2, h3⟩
  · exact Or.inl h
  · exact Or.inr ⟨g, cap, cur, h1, Nat.le_trans hb h2, h3⟩
def Kept (L : List ByteArray) (k : Nat) (X : List ByteArray) : Prop := rises (bl X) ∧ ∀ t, t ∈ bl X ↔ t ∈ bl (L.take k) ∧ verErr t = 0
end Ve
end Go.Proofs.YtjndahjfodnllaaGreatDoor


namespace Go.Proofs.YtjndahjfodnllaaGreatDoor
open Go.RowKit
namespace Ve
def flat (D : List Rc) : List Value := D.flatMap rcells
theorem flat_app (D E : List Rc) : flat (D ++ E) = flat D ++ flat E := by simp [flat]
theorem flat_get : ∀ (D : List Rc) (j c : Nat) (hj : j < D.length) (_ : c < 4), (flat D)[j * 4 + c]? = (rcells D[j])[c]?
  | [], _, _, hj, _ => absurd hj (Nat.not_lt_zero _)
  | r :: R, 0, c, _, hc => by
    have : flat (r :: R) = rcells r ++ flat R := rfl
    rw [this, List.getElem?_append_left (by show 0 * 4 + c < 4; omega)]
    simp
  | r :: R, j + 1, c, hj, hc => by
    have : flat (r :: R) = rcells r ++ flat R := rfl
    have hl : (rcells r).length = 4 := rfl
    rw [this, List.getElem?_append_right (by rw [hl]; omega), hl, show (j + 1) * 4 + c - 4 = j * 4 + c by omega]
    exact flat_get R j c (by simpa using hj) hc
structure Fd (w0 W : World) (v : Value) (D : List Rc) : Prop where
  own : W.ownsRow w0.heap.size 187 4 v D.length (flat D)
  nl : D = [] → v = .slice none 0 0
  bl : Below w0.heap.size w0 W
  rc : ∀ r, r ∈ D → verErr r.1 = 0 ∧ r.1.length ≤ 80 ∧ StrsAt W r.2 (strs (preOf r.1))
theorem Fd.below {w0 W W' : World} {v : Value} {D : List Rc} (h : Fd w0 W v D) (hb : Below W.heap.size W W') : Fd w0 W' v D :=
  ⟨owns_below h.own hb, h.nl, h.bl.trans (hb.mono h.bl.size), fun r hr => ⟨(h.rc r hr).1, (h.rc r hr).2.1, (h.rc r hr).2.2.below hb⟩⟩
theorem own_cells {w : World} {base : Nat} {e : TypeId} {v : Value} {D : List Rc} (h : w.ownsRow base e 4 v D.length (flat D)) (hD : D ≠ []) : ∃ g cap, v = .slice (some ⟨g, 0, none⟩) D.length cap ∧ base ≤ g ∧ g < w.heap.size ∧ D.length ≤ cap ∧ cap ≤ maxLen ∧ (∀ o, w.frozen? ⟨g, o, none⟩ = false) ∧
    ∀ j c (hj : j < D.length) (_ : c < 4), w.cell? ⟨g, j * 4 + c, none⟩ = (rcells D[j])[c]? := by
  obtain ⟨_, ⟨_, hn0⟩ | ⟨g, cap, cur, hv, hg, hblk, hcap, hcm, hcs, hct⟩⟩ := h
  · exact absurd (List.length_eq_zero_iff.1 hn0) hD
  · refine ⟨g, cap, hv, hg, lt_of_blk hblk, hcap, hcm, fun o => by simp [World.frozen?, hblk], fun j c hj hc => ?_⟩
    have h1 := flat_get D j c hj hc
    rw [← hct, List.getElem?_take, if_pos (by omega)] at h1
    simp only [World.cell?, hblk]
    rw [← h1]; simp
theorem own_apart {w : World} {base : Nat} {e : TypeId} {v : Value} {D : List Rc} (h : w.ownsRow base e 4 v D.length (flat D)) (hnl : D = [] → v = .slice none 0 0) {p : Value} {X : List ByteArray} (hs : StrsAt w p X) : ∀ b o s n c, p = .slice (some ⟨b, o, s⟩) n c → v.ownBlock ≠ some b := by
  intro b o s n c hp hv
  by_cases hD : D = []
  · rw [hnl hD] at hv; cases hv
  · obtain ⟨g, cap, hvv, _, _, _, _, _, hc⟩ := own_cells h hD
    rw [hvv] at hv
    have hgb : g = b := by simpa [Value.ownBlock] using hv
    rcases hs with ⟨_, h0⟩ | ⟨hX, b', h1, _, h3⟩
    · rw [h0] at hp; cases hp
    · rw [h1] at hp
      have hbb : b' = b := by injection hp with hp _ _; injection hp with hp; injection hp with hp _ _
      have h4 := h3 0 (List.length_pos_iff.2 hX)
      have h5 := hc 0 0 (List.length_pos_iff.2 hD) (by omega)
      rw [hbb, ← hgb] at h4
      rw [show 0 * 4 + 0 = 0 + 0 from rfl, h4] at h5
      simp [rcells] at h5
theorem Fd.rw {w0 W : World} {v : Value} {D : List Rc} (h : Fd w0 W v D) (hD : D ≠ []) : ∃ g cap, v = .slice (some ⟨g, 0, none⟩) D.length cap ∧ Rw w0 W g D := by
  obtain ⟨g, cap, rfl, h1, h2, _, _, h5, h6⟩ := own_cells h.own hD
  refine ⟨g, cap, rfl, h.bl, h1, h2, h5, fun r hr => ⟨(h.rc r hr).1, (h.rc r hr).2.1, (h.rc r hr).2.2, fun b o s n c e => ?_⟩, fun j hj => h6 j 0 hj (by omega), fun j hj => h6 j 1 hj (by omega), fun j hj => h6 j 2 hj (by omega), fun j hj => h6 j 3 hj (by omega)⟩
  have := own_apart h.own h.nl (h.rc r hr).2.2 b o s n c e
  intro e2
  exact this (by simp [Value.ownBlock, e2])
theorem strs_grown {w w' : World} {row : Option Nat} {p : Value} {X : List ByteArray} (h : StrsAt w p X) (hg : w.grownBy w' row) (hne : ∀ b o s n c, p = .slice (some ⟨b, o, s⟩) n c → row ≠ some b) : StrsAt w' p X := by
  rcases h with h | ⟨hX, b, h1, h2, h3⟩
  · exact Or.inl h
  · refine Or.inr ⟨hX, b, h1, Nat.lt_of_lt_of_le h2 hg.size, fun j hj => ?_⟩
    have := hg.block b h2 (fun e => hne b 0 none _ _ h1 e.symm)
    rw [World.cell?_of_block (a := ⟨b, 0 + j, none⟩) this]
    exact h3 j hj
theorem Fd.more {w0 W W3 : World} {v v' : Value} {D : List Rc} {r : Rc} {o : Obj} (h : Fd w0 W v D) (hr : verErr r.1 = 0 ∧ r.1.length ≤ 80 ∧ StrsAt W r.2 (strs (preOf r.1)))
    (hown : W3.ownsRow w0.heap.size 187 4 v' (D.length + 1) (flat D ++ rcells r)) (hg : (W.alloc o).grownBy W3 v.ownBlock) : Fd w0 W3 v' (D ++ [r]) := by
  have ha := (Below.refl W.heap.size W).alloc (Nat.le_refl _) o
  have h' := h.below ha
  have hr' : StrsAt (W.alloc o) r.2 (strs (preOf r.1)) := hr.2.2.below ha
  have e1 : flat (D ++ [r]) = flat D ++ rcells r := by rw [flat_app]; simp [flat]
  refine ⟨?_, fun e => by simp at e, ?_, fun q hq => ?_⟩
  · rw [e1, List.length_append]; exact hown
  · exact h'.bl.grown hg h'.bl.size (fun k hk => (h'.own.lt k hk).1)
  · rcases List.mem_append.1 hq with hq | hq
    · have hq' := h'.rc q hq
      exact ⟨hq'.1, hq'.2.1, strs_grown hq'.2.2 hg (own_apart h'.own h'.nl hq'.2.2)⟩
    · rw [List.mem_singleton.1 hq]
      exact ⟨hr.1, hr.2.1, strs_grown hr' hg (own_apart h'.own h'.nl hr')⟩
end Ve
end Go.Proofs.YtjndahjfodnllaaGreatDoor
