
import Derived.Sort.OwnSorted
import Derived.Test.YtpafkniapacfdaaGreatDoorSq22
import Derived.Test.YtpafkniapacfdaaGreatDoorSq4
import Derived.Test.YtpafkniapacfdaaGreatDoorSq23
import Derived.Test.YtpafkniapacfdaaGreatDoorSq5
import Derived.Test.YtpafkniapacfdaaGreatDoorSq21
import Derived.Lib.SmallJoins
namespace Go.Proofs.YtpafkniapacfdaaGreatDoor
open Go.RowKit Go.Shelf Go.Sort
namespace Ve
theorem map_bl (X : List ByteArray) : (bl X).map encStr = X.map Value.string := by simp [bl]
def ba' (t : List UInt8) : ByteArray := ⟨t.toArray⟩
def srtB (Z : List (List UInt8)) : List (List UInt8) := Z.mergeSort fun x y => decide (x ≤ y)
def risB (Z : List (List UInt8)) : List (List UInt8) := Lib.compact (srtB Z)
theorem srtB_len (Z : List (List UInt8)) : (srtB Z).length = Z.length := by simp [srtB]
theorem values_any (a : Option Addr) (len cap : Nat) (w : World) :
    Calls Tryz.prog 182 #[.slice a len cap] w fun e w' => e = .returned (.func (.func 222) #[] #[.pointer (some ⟨w.heap.size, 0, none⟩)]) ∧ w' = w.alloc (.cells #[.slice a len cap] 53) :=
  (callsIn_wide (n := 4)).1 (values_in Fence.wide 4 trivial rfl a len cap w)
set_option maxRecDepth 100000 in
set_option maxHeartbeats 2000000 in
theorem sorted_any (X : List ByteArray) (hX : X.length ≤ 1000000) (sv : Value) (w : World) (Bs : Nat) (hBs : Bs < w.heap.size) (hc : w.cell? ⟨Bs, 0, none⟩ = some sv) (hI : TxAt w sv X) :
    Calls Tryz.prog 181 #[.func (.func 222) #[] #[.pointer (some ⟨Bs, 0, none⟩)]] w fun e W' => ∃ v, e = .returned v ∧ W'.ownsRow w.heap.size 9 1 v X.length ((srtB (bl X)).map encStr) ∧ Below w.heap.size w W' := by
  have HCL := hid (collect_any X hX sv w Bs hBs hc hI)
  clear hc hI
  go_enter Tryz.func181, Tryz.ntmps181
  go_wp2_with fail
  refine HCL.out.mono ?_
  rintro e W ⟨v, rfl, hrow, hnil, hb⟩
  have HB := hid hb
  have HROW := hid hrow
  rcases hrow.2 with ⟨rfl, hz⟩ | ⟨gb, cap, cur, rfl, hbase, hgb, r1, r2, r3, r4⟩
  · have hss : X = [] := List.eq_nil_of_length_eq_zero hz
    subst hss
    have HS := hid (Tryz.slices_Sort_string_none none 0 W)
    clear hrow hnil hb hz
    go_wp2_with fail
    refine HS.out.mono ?_
    rintro e w1 ⟨rfl, rfl⟩
    go_wp2_with fail
    go_ret
    exact ⟨_, rfl, by simpa [srtB, bl] using World.ownsRow_nil w1 w.heap.size 9 1, HB.out⟩
  · have hlen : (bl X).length = X.length := bl_len X
    have hH : Holds encStr W gb 0 (bl X).toArray := holds_of_block hgb (by rw [map_bl, hlen]; simpa using r4)
    have hgl : gb < W.heap.size := (Array.getElem?_eq_some_iff.1 hgb).1
    have HS := hid (Tryz.slices_Sort_string gb 0 cap (bl X) W hH hgl (by rw [hlen]; omega))
    rw [hlen] at HS
    have HO := hid (fun n os => ownsRow_sorted (n := n) (os := os) (ss := bl X) (ts := srtB (bl X)) (srtB_len _) hbase hgb (by rw [hlen]; exact r1) r2 r3)
    have HBS := hid hbase
    clear hrow hnil hb hH r1 r2 r3 r4 hgb
    go_wp2_with fail
    refine HS.out.mono ?_
    rintro e w1 ⟨rfl, nn, os, rfl⟩
    have HBB := hid (HB.out.grown (grownBy_sorted (w := W) (g := gb) (n := nn) (os := os) (srtB (bl X)).toArray) HB.out.size (fun j hj => by cases hj; exact HBS.out))
    have HOO := hid (HO.out nn os)
    rw [hlen] at HOO
    have HWW := hid (show ∃ W2, grow (putRow encStr (Sort.ahead W nn) gb 0 ((bl X).mergeSort fun x y => decide (x ≤ y)).toArray) os = W2 from ⟨_, rfl⟩)
    obtain ⟨W2, hW2⟩ := HWW.out
    have HOO2 := hid (show W2.ownsRow w.heap.size 9 1 (.slice (some ⟨gb, 0, none⟩) X.length cap) X.length ((srtB (bl X)).map encStr) by rw [← hW2]; exact HOO.out)
    have HBB2 := hid (show Below w.heap.size w W2 by rw [← hW2]; exact HBB.out)
    rw [hW2]
    clear HOO HBB HO HWW hW2
    go_wp2_with fail
    go_ret
    exact ⟨_, rfl, HOO2.out, HBB2.out⟩
theorem owns_compact {w : World} {base g cap n : Nat} {e : TypeId} {cur : Array Value} {C R : List (List UInt8)} (hbase : base ≤ g) (hb : w.heap[g]? = some (.cells cur e (0, 0)))
    (h1 : C.length + R.length ≤ cap) (h2 : cap ≤ maxLen) (h3 : cur.size = cap * 1) :
    (putRow encStr (Sort.ahead w n) g 0 (C ++ R).toArray).ownsRow base e 1 (.slice (some ⟨g, 0, none⟩) C.length cap) C.length (C.map encStr) := by
  have hs := heap_sorted (n := n) (os := #[]) (C ++ R).toArray hb
  rw [grow_empty] at hs
  refine ⟨by simp, .inr ⟨g, cap, _, rfl, hbase, hs, by omega, h2, by simp [putCells, h3], ?_⟩⟩
  have ht := take_putCells cur (C ++ R) (by rw [List.length_append]; omega)
  have := congrArg (List.take C.length) ht
  rw [List.take_take, List.length_append, Nat.min_eq_left (by omega), List.map_append, List.take_append_of_le_length (by simp), List.take_of_length_le (l := List.map encStr C) (by simp)] at this
  rw [Nat.mul_one]; exact this
theorem grownBy_compact {w : World} {g n : Nat} (d : Array (List UInt8)) : w.grownBy (putRow encStr (Sort.ahead w n) g 0 d) (some g) := by
  have := grownBy_sorted (w := w) (g := g) (n := n) (os := #[]) d
  rwa [grow_empty] at this
theorem compact_le (zs : List (List UInt8)) : (Lib.compact zs).length ≤ zs.length := by
  unfold Lib.compact Lib.compactUpTo
  rw [List.length_map]
  exact Nat.le_trans (List.length_filter_le _ _) (by simp)
def tx (Z : List (List UInt8)) : List ByteArray := Z.map ba'
theorem tx_str (Z : List (List UInt8)) : (tx Z).map Value.string = Z.map encStr := by simp [tx, ba']
theorem bl_tx (Z : List (List UInt8)) : bl (tx Z) = Z := by
  unfold bl tx
  rw [List.map_map]
  exact (List.map_congr_left fun t _ => show (ba' t).data.toList = t by simp [ba']).trans (List.map_id _)
theorem tx_len (Z : List (List UInt8)) : (tx Z).length = Z.length := by simp [tx]
theorem own_txB {w : World} {B : Nat} {e : TypeId} {v : Value} {Z : List (List UInt8)} (h : w.ownsRow B e 1 v Z.length (Z.map encStr)) : w.ownsRow B e 1 v (tx Z).length ((tx Z).map Value.string) := by
  rw [tx_str, tx_len]; exact h
set_option maxRecDepth 100000 in
set_option maxHeartbeats 2000000 in
theorem rising_any (X : List ByteArray) (hX : X.length ≤ 1000000) (sv : Value) (w : World) (hI : TxAt w sv X) :
    Calls Tryz.prog 138 #[sv] w fun e W' => ∃ v, e = .returned v ∧ W'.ownsRow w.heap.size 9 1 v (tx (risB (bl X))).length ((tx (risB (bl X))).map Value.string) ∧ Below w.heap.size w W' := by
  obtain ⟨a, c, rfl, hac, _⟩ := id hI
  have HV := hid (values_any a X.length c w)
  have HB1 := hid ((Below.refl w.heap.size w).alloc (Nat.le_refl _) (.cells #[.slice a X.length c] 53))
  have HSO := hid (sorted_any X hX (.slice a X.length c) (w.alloc (.cells #[.slice a X.length c] 53)) w.heap.size (by simp) (by rw [Lib.cell_of_heap (heap_alloc_new w _)]; rfl) (hI.below HB1.out))
  clear hI hac
  go_enter Tryz.func138, Tryz.ntmps138
  go_wp2_with fail
  refine HV.out.mono ?_
  rintro e w1 ⟨rfl, rfl⟩
  go_wp2_with fail
  refine HSO.out.mono ?_
  rintro e W ⟨v, rfl, hrow, hb⟩
  have HB := hid (HB1.out.trans (hb.mono (by simp)))
  rcases hrow.2 with ⟨rfl, hz⟩ | ⟨gb, cap, cur, rfl, hbase, hgb, r1, r2, r3, r4⟩
  · have hss : X = [] := List.eq_nil_of_length_eq_zero hz
    subst hss
    have HS := hid (Tryz.slices_Compact_string_empty none 0 W)
    clear hrow hb hz
    go_wp2_with fail
    refine HS.out.mono ?_
    rintro e w1 ⟨rfl, rfl⟩
    go_wp2_with fail
    go_ret
    exact ⟨_, rfl, by simpa [risB, srtB, bl, tx, Lib.compact, Lib.compactUpTo] using World.ownsRow_nil w1 w.heap.size 9 1, HB.out⟩
  · have hlen : (srtB (bl X)).length = X.length := by rw [srtB_len, bl_len]
    have hH : Holds encStr W gb 0 (srtB (bl X)).toArray := holds_of_block hgb (by rw [hlen]; simpa using r4)
    have HS := hid (Tryz.slices_Compact_string gb 0 cap (srtB (bl X)) W hH (by rw [hlen]; omega) (by rw [hlen]; exact r1))
    rw [hlen] at HS
    have hcl := compact_le (srtB (bl X))
    have hgw : w.heap.size ≤ gb := by simp at hbase; omega
    have HO := hid (fun n => owns_compact (n := n) (base := w.heap.size) (C := risB (bl X)) (R := List.replicate (X.length - (Lib.compact (srtB (bl X))).length) []) hgw hgb (by rw [List.length_replicate]; unfold risB; omega) r2 r3)
    have HBS := hid hgw
    clear hrow hb hH r1 r2 r3 r4 hgb hbase
    go_wp2_with fail
    refine HS.out.mono ?_
    rintro e w1 ⟨rfl, nn, hw1⟩
    have HBB := hid (HB.out.grown (grownBy_compact (w := W) (g := gb) (n := nn) (Lib.compact (srtB (bl X)) ++ List.replicate (X.length - (Lib.compact (srtB (bl X))).length) []).toArray) HB.out.size (fun j hj => by cases hj; exact HBS.out))
    have HOO := hid (HO.out nn)
    rw [← hw1] at HBB
    have HOO2 := hid (show w1.ownsRow w.heap.size 9 1 (.slice (some ⟨gb, 0, none⟩) (risB (bl X)).length cap) (risB (bl X)).length ((risB (bl X)).map encStr) by rw [hw1]; exact HOO.out)
    clear HOO HO hw1
    go_wp2_with fail
    go_ret
    exact ⟨_, rfl, own_txB HOO2.out, HBB.out⟩
end Ve
end Go.Proofs.YtpafkniapacfdaaGreatDoor


namespace Go.Proofs.YtpafkniapacfdaaGreatDoor
open Go.RowKit
namespace Ve
theorem end_snoc (l : List UInt8) : hasEnd (l ++ [10]) = true := by simp [hasEnd]
theorem end_is {t : List UInt8} (h : hasEnd t = true) : t = t.dropLast ++ [10] := by
  unfold hasEnd at h
  have h := of_decide_eq_true h
  obtain ⟨l, rfl⟩ := List.getLast?_eq_some_iff.1 h
  simp
theorem suf_end (t : List UInt8) : Lib.hasSuffix t [10] = hasEnd t := by
  cases h : hasEnd t
  · cases e : Lib.hasSuffix t [10]
    · rfl
    · unfold Lib.hasSuffix at e
      obtain ⟨r, hr⟩ := List.isSuffixOf_iff_suffix.1 e
      rw [← hr, end_snoc] at h; cases h
  · rw [end_is h]; simp [Lib.hasSuffix]
theorem trim_le (t : List UInt8) : (Lib.trimSuffix t [10]).length ≤ t.length := by
  unfold Lib.trimSuffix
  split
  · simp
  · exact Nat.le_refl _
theorem trim_end {t : List UInt8} (h : hasEnd t = true) : Lib.trimSuffix t [10] = t.dropLast := by
  have h3 := suf_end t
  rw [h] at h3
  unfold Lib.trimSuffix
  rw [if_pos h3, List.dropLast_eq_take]
  rfl
theorem cutE_any (s : ByteArray) (w : World) (hs : s.size ≤ 1000000) :
    Calls Tryz.prog 77 #[.string s, .string ⟨#[10]⟩] w fun e w' => ∃ T : ByteArray, e = .returned (.tuple #[.string T, .bool (hasEnd s.data.toList)]) ∧ T.size ≤ 1000000 ∧ (hasEnd s.data.toList = true → T.data.toList = s.data.toList.dropLast) ∧ w' = w :=
  (Tryz.strings_CutSuffix s ⟨#[10]⟩ w (by omega)).mono fun e w' ⟨h1, h2⟩ => ⟨bt (Lib.trimSuffix s.data.toList [10]), by
    rw [h1, show (⟨#[10]⟩ : ByteArray).data.toList = [10] from rfl, suf_end]; rfl, by
    have := trim_le s.data.toList
    rw [len_eq] at this
    rw [← len_eq, bt_list]; omega, fun he => by rw [bt_list, trim_end he], h2⟩
theorem rdT_no {t : List UInt8} (h : hasEnd t = false) : rdT t = (1, ln0) := by unfold rdT; rw [h]; rfl
theorem rdT_yes {t : List UInt8} (h : hasEnd t = true) : rdT t = rdW (cutAt 32 t.dropLast) := by unfold rdT; rw [if_pos h]
theorem rdW_no {W : List (List UInt8)} (h : W.length ≠ 3) : rdW W = (1, ln0) := by
  match W, h with
  | [], _ => rfl
  | [_], _ => rfl
  | [_, _], _ => rfl
  | [_, _, _], h => exact absurd rfl h
  | _ :: _ :: _ :: _ :: _, _ => rfl
theorem three_of {α : Type} {W : List α} (h : W.length = 3) : ∃ a b c, W = [a, b, c] := by
  match W, h with
  | [a, b, c], _ => exact ⟨a, b, c, rfl⟩
def put3S (W : World) (b : Nat) (x y z : Value) : World := ((W.setCell ⟨b, 0, none⟩ x).setCell ⟨b, 1, none⟩ y).setCell ⟨b, 2, none⟩ z
theorem put3S_below {W w : World} {B b : Nat} {x y z : Value} (h : Below B w W) (hb : B ≤ b) : Below B w (put3S W b x y z) :=
  ((h.setCell (p := ⟨b, 0, none⟩) hb _).setCell (p := ⟨b, 1, none⟩) hb _).setCell (p := ⟨b, 2, none⟩) hb _
theorem res3J {w w3 : World} {a b c : Value} {T : TypeId} (hb : Below (w.heap.size + 1) (w.alloc (.cells #[a, b, c] T)) w3) : w3.heap[w.heap.size]? = some (.cells #[a, b, c] T (0, 0)) := by
  rw [hb.block _ (by simp)]; exact heap_alloc_new w _
set_option maxRecDepth 100000 in
set_option maxHeartbeats 2000000 in
theorem rline_no (s : ByteArray) (A : Nat → Addr) (m : Int) (w : World) (hs : s.size ≤ 1000000) (S : Te w A m) (h : hasEnd s.data.toList = false ∨ (hasEnd s.data.toList = true ∧ (cutAt 32 s.data.toList.dropLast).length ≠ 3)) :
    Calls Tryz.prog 43 #[.string s] w fun e w' => e = .returned (.tuple #[lnV .u32 ln0, errA A 1]) ∧ Below w.heap.size w w' := by
  have HC := hid (fun W => cutE_any s W hs)
  have HB0 := hid ((Below.refl w.heap.size w).alloc (Nat.le_refl _) (.cells #[.string ⟨#[]⟩, .string ⟨#[]⟩, .int .u32 0] 44))
  have HSP := hid (fun (T : ByteArray) (hT : T.size ≤ 1000000) => split_any 32 T m (w.alloc (.cells #[.string ⟨#[]⟩, .string ⟨#[]⟩, .int .u32 0] 44)) (by omega) (S.below HB0.out).ml)
  have g0 := S.sen.g0
  have hlt := lt_of_cell g0
  have n1 : ¬ 4 = w.heap.size := by have : 4 < w.heap.size := hlt; omega
  have n2 : ¬ w.heap.size = 4 := by have : 4 < w.heap.size := hlt; omega
  have G0 := hid (cell_below HB0.out g0)
  have H := hid h
  have HZ := hid (show (w.alloc (.cells #[.string ⟨#[]⟩, .string ⟨#[]⟩, .int .u32 0] 44)).heap.size = w.heap.size + 1 by simp)
  clear S h hlt g0
  go_enter Tryz.func43, Tryz.ntmps43
  go_wp2_with fail
  refine (HC.out _).mono ?_
  rintro e w1 ⟨T, rfl, hT, hTe, rfl⟩
  have HSQ := hid (HSP.out T hT)
  have HTE := hid hTe
  have HTS := hid hT
  clear hT hTe
  go_wp2_with fail
  refine HSQ.out.mono ?_
  rintro e w2 ⟨X, rfl, hX, hc, hb, hz⟩
  have gg := cell_below hb G0.out
  have hbk := res3J (w := w) (by rw [← HZ.out]; exact hb)
  have s0 : w2.cell? ⟨w.heap.size, 0, none⟩ = some (.string ⟨#[]⟩) := by rw [Lib.cell_of_heap hbk]; rfl
  have s1 : w2.cell? ⟨w.heap.size, 1, none⟩ = some (.string ⟨#[]⟩) := by rw [Lib.cell_of_heap hbk]; rfl
  have s2 : w2.cell? ⟨w.heap.size, 2, none⟩ = some (.int .u32 0) := by rw [Lib.cell_of_heap hbk]; rfl
  have tf := fun o => Lib.frozen_of_heap hbk o
  have HB2 := hid (HB0.out.trans (hb.mono HB0.out.size))
  have HXL := hid (show hasEnd s.data.toList = true → X.length = (cutAt 32 s.data.toList.dropLast).length from fun he => by rw [← HTE.out he, ← hX]; simp [bl])
  have hxn := hid (show X.length ≤ 1000001 by
    have h1 : X.length = (cutAt 32 T.data.toList).length := by rw [← hX]; simp [bl]
    have := cutAt_many 32 T.data.toList
    have := HTS.out
    rw [len_eq] at *
    omega)
  clear hc hb hz hbk hX
  rcases H.out with h | ⟨h, h3⟩
  · go_wp2_with fail
    go_region
    all_goals
      go_wp2_with fail
      refine bodyPost_ret (v := .tuple #[.agg #[.string ⟨#[]⟩, .string ⟨#[]⟩, .int .u32 0], .iface 291 (.pointer (some (A 0)))]) (by simp [results, Tryz.results43, go_sem, s0, s1, s2]) rfl ⟨rfl, ?_⟩
      exact below_drawn_of (put3S_below HB2.out (Nat.le_refl _)) 1
  · have hne : ((X.length : Int) != 3) = true := by rw [bne_iff_ne]; have := HXL.out h; omega
    clear h3
    go_wp2_with fail
    go_region
    all_goals
      go_wp2_with fail
      refine bodyPost_ret (v := .tuple #[.agg #[.string ⟨#[]⟩, .string ⟨#[]⟩, .int .u32 0], .iface 291 (.pointer (some (A 0)))]) (by simp [results, Tryz.results43, go_sem, s0, s1, s2]) rfl ⟨rfl, ?_⟩
      exact below_drawn_of (put3S_below HB2.out (Nat.le_refl _)) 1
set_option maxRecDepth 100000 in
set_option maxHeartbeats 2000000 in
theorem rline_sum (s : ByteArray) (a b c : List UInt8) (A : Nat → Addr) (m : Int) (w : World) (hs : s.size ≤ 1000000) (S : Te w A m) (R : Rg w) (h : hasEnd s.data.toList = true) (hw : cutAt 32 s.data.toList.dropLast = [a, b, c]) (hc : (rdS c).1 ≠ 0) :
    Calls Tryz.prog 43 #[.string s] w fun e w' => e = .returned (.tuple #[lnV .u32 ln0, errA A (rdS c).1]) ∧ Below w.heap.size w w' := by
  rw [errA_if A hc]
  have HB0 := hid ((Below.refl w.heap.size w).alloc (Nat.le_refl _) (.cells #[.string ⟨#[]⟩, .string ⟨#[]⟩, .int .u32 0] 44))
  have HC := hid (fun W => cutE_any s W hs)
  rw [h] at HC
  have HSP := hid (fun (T : ByteArray) (hT : T.size ≤ 1000000) => split_any 32 T m (w.alloc (.cells #[.string ⟨#[]⟩, .string ⟨#[]⟩, .int .u32 0] 44)) (by omega) (S.below HB0.out).ml)
  have HZ := hid (show (w.alloc (.cells #[.string ⟨#[]⟩, .string ⟨#[]⟩, .int .u32 0] 44)).heap.size = w.heap.size + 1 by simp)
  have HS := hid (S.below HB0.out)
  have HR := hid (R.below HB0.out)
  have HW := hid hw
  have HE := hid hc
  clear S R h hw hc
  go_enter Tryz.func43, Tryz.ntmps43
  go_wp2_with fail
  refine (HC.out _).mono ?_
  rintro e w1 ⟨T, rfl, hT, hTe, rfl⟩
  have HSQ := hid (HSP.out T hT)
  have HTE := hid (hTe trivial)
  clear hTe
  go_wp2_with fail
  refine HSQ.out.mono ?_
  rintro e w2 ⟨X, rfl, hX, hc, hb, hz⟩
  rw [HTE.out, HW.out] at hX
  obtain ⟨x, y, z, rfl⟩ : ∃ x y z, X = [x, y, z] := three_of (by have := congrArg List.length hX; simpa [bl] using this)
  have hxyz : x.data.toList = a ∧ y.data.toList = b ∧ z.data.toList = c := by simpa [bl] using hX
  obtain ⟨hxa, hyb, hzc⟩ := hxyz
  have HXY := hid (show x = bt a ∧ y = bt b from ⟨by rw [← hxa, bt_of], by rw [← hyb, bt_of]⟩)
  have d0 : w2.cell? ⟨w.heap.size + 1, 0, none⟩ = some (.string x) := by have := hc 0 (by simp); rw [HZ.out] at this; exact this
  have d1 : w2.cell? ⟨w.heap.size + 1, 1, none⟩ = some (.string y) := by have := hc 1 (by simp); rw [HZ.out] at this; exact this
  have d2 : w2.cell? ⟨w.heap.size + 1, 2, none⟩ = some (.string z) := by have := hc 2 (by simp); rw [HZ.out] at this; exact this
  have hzs : z.size < 4294967281 := by
    have h1 : z.data.toList ∈ cutAt 32 T.data.toList := by rw [HTE.out, HW.out, hzc]; simp
    have h2 := cutAt_le 32 T.data.toList _ h1
    rw [len_eq, len_eq] at h2
    omega
  have HSU := hid (rsum_any z A m w2 hzs (HS.out.below hb) (HR.out.below hb))
  rw [hzc] at HSU
  have hbk := res3J (w := w) (by rw [← HZ.out]; exact hb)
  have HBK := hid hbk
  have HB2 := hid (HB0.out.trans (hb.mono HB0.out.size))
  clear hc hb hz hX hxa hyb hzc hbk hT hzs
  go_wp2_with fail
  rw [errA_if A HE.out] at HSU
  refine HSU.out.mono ?_
  rintro e w3 ⟨rfl, hb⟩
  have hbk := (hb.block _ (lt_of_blk HBK.out)).trans HBK.out
  have s0 : w3.cell? ⟨w.heap.size, 0, none⟩ = some (.string ⟨#[]⟩) := by rw [Lib.cell_of_heap hbk]; rfl
  have s1 : w3.cell? ⟨w.heap.size, 1, none⟩ = some (.string ⟨#[]⟩) := by rw [Lib.cell_of_heap hbk]; rfl
  have s2 : w3.cell? ⟨w.heap.size, 2, none⟩ = some (.int .u32 0) := by rw [Lib.cell_of_heap hbk]; rfl
  have tf := fun o => Lib.frozen_of_heap hbk o
  have HB3 := hid (HB2.out.trans (hb.mono HB2.out.size))
  clear hb hbk d0 d1 d2
  go_wp2_with fail
  refine bodyPost_ret (v := .tuple #[.agg #[.string ⟨#[]⟩, .string ⟨#[]⟩, .int .u32 0], .iface 291 (.pointer (some (A ((rdS c).1 - 1))))]) (by simp [results, Tryz.results43, go_sem, s0, s1, s2]) rfl ⟨rfl, ?_⟩
  exact put3S_below HB3.out (Nat.le_refl _)
set_option maxRecDepth 100000 in
set_option maxHeartbeats 2000000 in
theorem rline_ok (s : ByteArray) (a b c : List UInt8) (A : Nat → Addr) (m : Int) (w : World) (hs : s.size ≤ 1000000) (S : Te w A m) (R : Rg w) (h : hasEnd s.data.toList = true) (hw : cutAt 32 s.data.toList.dropLast = [a, b, c]) (hc : (rdS c).1 = 0) :
    Calls Tryz.prog 43 #[.string s] w fun e w' => e = .returned (.tuple #[lnV .u32 ((bt a, bt b), (rdS c).2), errA A 0]) ∧ Below w.heap.size w w' := by
  obtain ⟨n, hn⟩ : ∃ n, n = (rdS c).2 := ⟨_, rfl⟩
  rw [← hn]
  have HNN := hid hn
  clear hn
  have HB0 := hid ((Below.refl w.heap.size w).alloc (Nat.le_refl _) (.cells #[.string ⟨#[]⟩, .string ⟨#[]⟩, .int .u32 0] 44))
  have HC := hid (fun W => cutE_any s W hs)
  rw [h] at HC
  have HSP := hid (fun (T : ByteArray) (hT : T.size ≤ 1000000) => split_any 32 T m (w.alloc (.cells #[.string ⟨#[]⟩, .string ⟨#[]⟩, .int .u32 0] 44)) (by omega) (S.below HB0.out).ml)
  have HZ := hid (show (w.alloc (.cells #[.string ⟨#[]⟩, .string ⟨#[]⟩, .int .u32 0] 44)).heap.size = w.heap.size + 1 by simp)
  have HS := hid (S.below HB0.out)
  have HR := hid (R.below HB0.out)
  have HW := hid hw
  have HE := hid hc
  clear S R h hw hc
  go_enter Tryz.func43, Tryz.ntmps43
  go_wp2_with fail
  refine (HC.out _).mono ?_
  rintro e w1 ⟨T, rfl, hT, hTe, rfl⟩
  have HSQ := hid (HSP.out T hT)
  have HTE := hid (hTe trivial)
  clear hTe
  go_wp2_with fail
  refine HSQ.out.mono ?_
  rintro e w2 ⟨X, rfl, hX, hc, hb, hz⟩
  rw [HTE.out, HW.out] at hX
  obtain ⟨x, y, z, rfl⟩ : ∃ x y z, X = [x, y, z] := three_of (by have := congrArg List.length hX; simpa [bl] using this)
  have hxyz : x.data.toList = a ∧ y.data.toList = b ∧ z.data.toList = c := by simpa [bl] using hX
  obtain ⟨hxa, hyb, hzc⟩ := hxyz
  have HXY := hid (show x = bt a ∧ y = bt b from ⟨by rw [← hxa, bt_of], by rw [← hyb, bt_of]⟩)
  have d0 : w2.cell? ⟨w.heap.size + 1, 0, none⟩ = some (.string x) := by have := hc 0 (by simp); rw [HZ.out] at this; exact this
  have d1 : w2.cell? ⟨w.heap.size + 1, 1, none⟩ = some (.string y) := by have := hc 1 (by simp); rw [HZ.out] at this; exact this
  have d2 : w2.cell? ⟨w.heap.size + 1, 2, none⟩ = some (.string z) := by have := hc 2 (by simp); rw [HZ.out] at this; exact this
  have hzs : z.size < 4294967281 := by
    have h1 : z.data.toList ∈ cutAt 32 T.data.toList := by rw [HTE.out, HW.out, hzc]; simp
    have h2 := cutAt_le 32 T.data.toList _ h1
    rw [len_eq, len_eq] at h2
    omega
  have HSU := hid (rsum_any z A m w2 hzs (HS.out.below hb) (HR.out.below hb))
  rw [hzc] at HSU
  have hbk := res3J (w := w) (by rw [← HZ.out]; exact hb)
  have HBK := hid hbk
  have HB2 := hid (HB0.out.trans (hb.mono HB0.out.size))
  clear hc hb hz hX hxa hyb hzc hbk hT hzs
  rw [HE.out, errA0, ← HNN.out] at HSU
  go_wp2_with fail
  refine HSU.out.mono ?_
  rintro e w3 ⟨rfl, hb⟩
  have hbk := (hb.block _ (lt_of_blk HBK.out)).trans HBK.out
  have s0 : w3.cell? ⟨w.heap.size, 0, none⟩ = some (.string ⟨#[]⟩) := by rw [Lib.cell_of_heap hbk]; rfl
  have s1 : w3.cell? ⟨w.heap.size, 1, none⟩ = some (.string ⟨#[]⟩) := by rw [Lib.cell_of_heap hbk]; rfl
  have s2 : w3.cell? ⟨w.heap.size, 2, none⟩ = some (.int .u32 0) := by rw [Lib.cell_of_heap hbk]; rfl
  have tf := fun o => Lib.frozen_of_heap hbk o
  have f0 := cell_below hb d0
  have f1 := cell_below hb d1
  have HB3 := hid (HB2.out.trans (hb.mono HB2.out.size))
  have n1 : ¬ w.heap.size = w.heap.size + 1 := by omega
  have n2 : ¬ w.heap.size + 1 = w.heap.size := by omega
  clear hb hbk d0 d1 d2
  go_wp2_with fail
  go_region
  all_goals
    go_wp2_with fail
    refine bodyPost_ret (v := .tuple #[.agg #[.string x, .string y, .int .u32 (n : Nat)], .nilIface]) (by simp [results, Tryz.results43, go_sem, s0, s1, s2]) rfl ⟨by rw [HXY.out.1, HXY.out.2]; rfl, ?_⟩
    exact below_drawn_of (put3S_below HB3.out (Nat.le_refl _)) 1
theorem rline_any (s : ByteArray) (A : Nat → Addr) (m : Int) (w : World) (hs : s.size ≤ 1000000) (S : Te w A m) (R : Rg w) :
    Calls Tryz.prog 43 #[.string s] w fun e w' => e = .returned (.tuple #[lnV .u32 (rdT s.data.toList).2, errA A (rdT s.data.toList).1]) ∧ Below w.heap.size w w' := by
  cases h : hasEnd s.data.toList
  · rw [rdT_no h]
    exact rline_no s A m w hs S (Or.inl h)
  · rw [rdT_yes h]
    by_cases h3 : (cutAt 32 s.data.toList.dropLast).length = 3
    · obtain ⟨a, b, c, hw⟩ := three_of h3
      rw [hw]
      by_cases hc : (rdS c).1 = 0
      · rw [show rdW [a, b, c] = (0, ((bt a, bt b), (rdS c).2)) from if_pos hc]
        exact rline_ok s a b c A m w hs S R h hw hc
      · rw [show rdW [a, b, c] = ((rdS c).1, ln0) from if_neg hc]
        exact rline_sum s a b c A m w hs S R h hw hc
    · rw [rdW_no h3]
      exact rline_no s A m w hs S (Or.inr ⟨h, h3⟩)
end Ve
end Go.Proofs.YtpafkniapacfdaaGreatDoor


namespace Go.Proofs.YtpafkniapacfdaaGreatDoor
open Go.RowKit
namespace Ve
def atOf : Option Nat → Int
  | none => -1
  | some i => (i : Int)
def faultV (r : Nat × Option Nat) : Value := .agg #[.int .i64 (r.1 : Nat), .int .i64 (atOf r.2)]
end Ve
end Go.Proofs.YtpafkniapacfdaaGreatDoor


namespace Go.Proofs.YtpafkniapacfdaaGreatDoor
open Go.RowKit
namespace Ve
end Ve
end Go.Proofs.YtpafkniapacfdaaGreatDoor


namespace Go.Proofs.YtpafkniapacfdaaGreatDoor
open Go.ChangeShapes Go.WideShapes Go.ChangeAt Go.RowKit Go.ChangeMaps Go.Joins
namespace Ve
end Ve
end Go.Proofs.YtpafkniapacfdaaGreatDoor
