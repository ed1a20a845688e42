
import Derived.Test.YtoaobngpdaidoaaGreatDoorFileA
import Derived.Test.YtoaobngpdaidoaaGreatDoorUt1
import Derived.Test.YtoaobngpdaidoaaGreatDoorFileB
import Derived.Deep.RegionHeld
import Derived.Test.YtoaobngpdaidoaaGreatDoorCode
import Derived.Test.YtoaobngpdaidoaaGreatDoorFileP
import Derived.Test.YtoaobngpdaidoaaGreatDoorVerR
import Derived.Test.YtoaobngpdaidoaaGreatDoorVerQ
import Derived.Deep.DeepCutAuto
namespace Go.Proofs.YtoaobngpdaidoaaGreatDoor
open Go.RowKit
namespace Ve
set_option maxHeartbeats 4000000 in
set_option maxRecDepth 100000 in
theorem first_ents (K : Nat) (cb : Array Value) (E : Nat → Nat) (L : List Raw) (b o c : Nat) (A : Nat → Addr) (w : World) (eg : ∀ args w, (callFunc K args).run Tryz.prog w = .ok (.enter K args) w) (hL : L.length ≤ 1000000) (hs : ∀ r, r ∈ L → slR r)
    (hc : ∀ j (h : j < L.length), w.cell? ⟨b, o + j * 5, none⟩ = some (.string L[j].1.1) ∧ w.cell? ⟨b, o + j * 5 + 1, none⟩ = some (.string L[j].1.2) ∧ w.cell? ⟨b, o + j * 5 + 2, none⟩ = some L[j].2.1 ∧ w.cell? ⟨b, o + j * 5 + 3, none⟩ = some L[j].2.2.1 ∧ w.cell? ⟨b, o + j * 5 + 4, none⟩ = some (.bool L[j].2.2.2))
    (hK : ∀ i (h : i < L.length) W, Below w.heap.size w W → Calls Tryz.prog K (#[.int .i64 (i : Int), rawV L[i]] ++ cb) W fun e w' => e = .returned (errA A (E i)) ∧ Below W.heap.size W w') :
    Calls Tryz.prog 85 #[.slice (some ⟨b, o, none⟩) L.length c, .func (.func K) #[] cb] w fun e w' => ∃ v, e = .returned v ∧ ErrAt w' A v (codeE E L.length) (fstE E L.length) ∧ Below w.heap.size w w' := by
  have HK := hid hK
  have HC := hid hc
  have HSL := hid hs
  clear hK hc hs
  go_enter Tryz.func85, Tryz.ntmps85
  go_wp2_with fail
  go_loopw [10] (fun i wr => ∃ k : Nat, k ≤ L.length ∧ i = .int .i64 k ∧ Hid (∀ j, j < k → E j = 0) ∧ Hid (Below w.heap.size w wr)) (fun i _ => L.length - (intOf i).toNat)
  case atStart => exact ⟨0, Nat.zero_le _, rfl, hid (fun j hj => absurd hj (by omega)), hid (Below.refl _ _)⟩
  case round =>
    obtain ⟨k, hk, rfl, HE, HB⟩ := hrel
    by_cases hlt : k < L.length
    · obtain ⟨y0, y1, y2, y3, y4⟩ := HC.out k hlt
      have x0 := cell_below HB.out y0
      have x1 := cell_below HB.out y1
      have x2 := cell_below HB.out y2
      have x3 := cell_below HB.out y3
      have x4 := cell_below HB.out y4
      have hsl := HSL.out L[k] (List.getElem_mem hlt)
      have hkI : (k : Int) < (L.length : Int) := by omega
      have HLT := hid hlt
      have HKK := hid (fun W hW => HK.out k hlt W hW)
      clear y0 y1 y2 y3 y4
      generalize L[k] = x at *
      obtain ⟨⟨p, q⟩, rv, pv, bk⟩ := x
      obtain ⟨⟨ra, rn, rc, hrv⟩, pa, pn, pc, hpv⟩ := hsl
      simp only at hrv hpv
      subst hrv
      subst hpv
      have HBa := hid (HB.out.alloc HB.out.size (.cells #[.string p, .string q, .slice ra rn rc, .slice pa pn pc, .bool bk] 56))
      have HP := hid (HKK.out _ HBa.out)
      unfold rawV at HP
      clear hlt HKK
      by_cases h0 : E k = 0
      · rw [h0, errA0] at HP
        have H0 := hid h0
        clear h0
        go_wp2_with fail
        refine HP.out.mono ?_
        rintro e w1 ⟨rfl, hb1⟩
        have HB1 := hid (HBa.out.trans (hb1.mono HBa.out.size))
        clear hb1
        go_wp2_with fail
        go_roundw
        case rel => exact ⟨k + 1, by have := HLT.out; omega, by go_num, hid (fun j hj => by
          rcases Nat.lt_or_ge j k with h | h
          · exact HE.out j h
          · have : j = k := by omega
            rw [this]; exact H0.out), HB1⟩
        case measure => have := HLT.out; simp [intOf]; omega
      · rw [errA_if A h0] at HP
        have HF := hid (fstE_some HE.out h0 HLT.out)
        have H0 := hid h0
        clear h0
        go_wp2_with fail
        refine HP.out.mono ?_
        rintro e w1 ⟨rfl, hb1⟩
        have HB1 := hid (HBa.out.trans (hb1.mono HBa.out.size))
        clear hb1
        go_wp2_with fail
        go_ret
        refine ⟨_, rfl, ?_, HB1.out.alloc HB1.out.size _⟩
        rw [codeE_some HF.out, HF.out]
        exact fault_at H0.out _
    · have HF := hid (fstE_none (E := E) (n := L.length) (fun j hj => HE.out j (by omega)))
      have hkI : ¬ (k : Int) < (L.length : Int) := by omega
      clear hlt
      go_wp2_with fail
      go_ret
      refine ⟨_, rfl, ?_, HB.out⟩
      rw [codeE_none HF.out, HF.out]
      rfl
theorem firstE_none (K : Nat) (cb : Array Value) (E : Nat → Nat) (a : Option Addr) (c : Nat) (A : Nat → Addr) (w : World) :
    Calls Tryz.prog 85 #[.slice a 0 c, .func (.func K) #[] cb] w fun e w' => ∃ v, e = .returned v ∧ ErrAt w' A v (codeE E 0) (fstE E 0) ∧ Below w.heap.size w w' := by
  go_enter Tryz.func85, Tryz.ntmps85
  go_wp2_with fail
  go_loopw [10] (fun i wr => i = .int .i64 0 ∧ wr = w) (fun i _ => 0)
  case atStart => exact ⟨rfl, rfl⟩
  case round =>
    obtain ⟨rfl, rfl⟩ := hrel
    go_wp2_with fail
    go_ret
    exact ⟨_, rfl, rfl, Below.refl _ _⟩
theorem firstE_any (K : Nat) (cb : Array Value) (E : Nat → Nat) (L : List Raw) (v : Value) (A : Nat → Addr) (w : World) (eg : ∀ args w, (callFunc K args).run Tryz.prog w = .ok (.enter K args) w) (hL : L.length ≤ 1000000) (hv : EsAt w v L)
    (hK : ∀ i (h : i < L.length) W, Below w.heap.size w W → Calls Tryz.prog K (#[.int .i64 (i : Int), rawV L[i]] ++ cb) W fun e w' => e = .returned (errA A (E i)) ∧ Below W.heap.size W w') :
    Calls Tryz.prog 85 #[v, .func (.func K) #[] cb] w fun e w' => ∃ u, e = .returned u ∧ ErrAt w' A u (codeE E L.length) (fstE E L.length) ∧ Below w.heap.size w w' := by
  obtain ⟨a, c, rfl, _, hs, h⟩ := hv
  cases L with
  | nil => exact firstE_none K cb E a c A w
  | cons x r =>
    obtain ⟨b, o, rfl, h2⟩ := h (by simp)
    exact first_ents K cb E (x :: r) b o c A w eg hL hs h2 hK
theorem mpath_ix (s : ByteArray) (A : Nat → Addr) (m : Int) (w : World) (hs : s.size < 4294967281) (S : Te w A m) :
    Calls Tryz.prog 206 #[.string s] w fun e w' => e = .returned (errA A (pathErr s.data.toList)) ∧ Below w.heap.size w w' := by
  have HP := hid (readPath_any s A m w hs S)
  clear S
  go_enter Tryz.func206, Tryz.ntmps206
  go_wp2_with fail
  refine HP.out.mono ?_
  rintro e w1 ⟨⟨H, n, v, rfl, hv, _, _⟩, hb⟩
  have HV := hid hv
  have HB := hid hb
  clear hb hv
  go_wp2_with fail
  go_ret
  exact ⟨by rw [← HV.out]; rfl, HB.out⟩
def noPk (l : List UInt8) : Bool := decide (l ≠ [46]) && decide (pathErr l ≠ 0)
set_option maxHeartbeats 1000000 in
theorem noPack_any (s : ByteArray) (A : Nat → Addr) (m : Int) (w : World) (hs : s.size < 4294967281) (S : Te w A m) :
    Calls Tryz.prog 175 #[.string s] w fun e w' => e = .returned (.bool (noPk s.data.toList)) ∧ Below w.heap.size w w' := by
  have HP := hid (mpath_ix s A m w hs S)
  clear S
  generalize hr : noPk s.data.toList = r
  have HR := hid hr
  clear hr
  by_cases h1 : s.data.toList = [46]
  · have hq : (s.toList == [46]) = true := by rw [ByteArray.toList_eq]; exact beq_iff_eq.2 h1
    have HX := hid (show noPk s.data.toList = false by unfold noPk; rw [h1]; rfl)
    clear h1
    go_enter Tryz.func175, Tryz.ntmps175
    go_wp2_with fail
    go_ret
    exact ⟨by rw [← HR.out, HX.out]; rfl, Below.refl _ _⟩
  · have hq : (s.toList == [46]) = false := by rw [ByteArray.toList_eq]; exact beq_eq_false_iff_ne.2 h1
    by_cases h2 : pathErr s.data.toList = 0
    · rw [h2, errA0] at HP
      have HX := hid (show noPk s.data.toList = false by unfold noPk; rw [h2]; simp)
      clear h1 h2
      go_enter Tryz.func175, Tryz.ntmps175
      go_wp2_with fail
      refine HP.out.mono ?_
      rintro e w1 ⟨rfl, hb⟩
      have HB := hid hb
      clear hb
      go_wp2_with fail
      go_ret
      exact ⟨by rw [← HR.out, HX.out]; rfl, HB.out⟩
    · rw [errA_if A h2] at HP
      have HX := hid (show noPk s.data.toList = true by unfold noPk; rw [decide_eq_true h1, decide_eq_true h2]; rfl)
      clear h1 h2
      go_enter Tryz.func175, Tryz.ntmps175
      go_wp2_with fail
      refine HP.out.mono ?_
      rintro e w1 ⟨rfl, hb⟩
      have HB := hid hb
      clear hb
      go_wp2_with fail
      go_ret
      exact ⟨by rw [← HR.out, HX.out]; rfl, HB.out⟩
set_option maxHeartbeats 1000000 in
theorem idxT_some (K : Nat) (P : List UInt8 → Bool) (b0 o0 c0 : Nat) (X : List ByteArray) (w : World) (eg : ∀ args w, (callFunc K args).run Tryz.prog w = .ok (.enter K args) w) (hX : X.length ≤ 1000000) (hc0 : ∀ j (h : j < X.length), w.cell? ⟨b0, o0 + j, none⟩ = some (.string X[j]))
    (hK : ∀ i (h : i < X.length) W, Below w.heap.size w W → Calls Tryz.prog K #[.string X[i]] W fun e w' => e = .returned (.bool (P X[i].data.toList)) ∧ Below W.heap.size W w') :
    Calls Tryz.prog 194 #[.slice (some ⟨b0, o0, none⟩) X.length c0, .func (.func K) #[] #[]] w fun e w' => ∃ i : Int, e = .returned (.int .i64 i) ∧ decide (0 ≤ i) = (bl X).any P ∧ Below w.heap.size w w' := by
  have HC0 := hid hc0
  have HK := hid hK
  clear hK hc0
  go_enter Tryz.func194, Tryz.ntmps194
  go_wp2_with fail
  go_loopw [8] (fun i wr => ∃ k : Nat, k ≤ X.length ∧ i = .int .i64 k ∧ Hid ((bl X).any P = (bl (X.drop k)).any P) ∧ Hid (Below w.heap.size w wr)) (fun i _ => X.length - (intOf i).toNat)
  case atStart => exact ⟨0, Nat.zero_le _, rfl, hid rfl, hid (Below.refl _ _)⟩
  case round =>
    obtain ⟨k, hk, rfl, HO, HB⟩ := hrel
    by_cases hlt : k < X.length
    · have hx : wr.cell? ⟨b0, o0 + k, none⟩ = some (.string X[k]) := cell_below HB.out (HC0.out k hlt)
      have HP := hid (HK.out k hlt wr HB.out)
      have HN := hid (HO.out.trans (any_step P X k hlt))
      generalize hq : P X[k].data.toList = q at *
      clear hq HO
      cases q
      · go_wp2_with fail
        refine HP.out.mono ?_
        rintro e w1 ⟨rfl, hb1⟩
        have HB1 := hid (HB.out.trans (hb1.mono HB.out.size))
        clear hb1
        go_wp2_with fail
        go_roundw
        case rel => exact ⟨k + 1, by omega, by go_num, hid (HN.out.trans (Bool.false_or _)), HB1⟩
        case measure => simp [intOf]; omega
      · go_wp2_with fail
        refine HP.out.mono ?_
        rintro e w1 ⟨rfl, hb1⟩
        have HB1 := hid (HB.out.trans (hb1.mono HB.out.size))
        clear hb1
        go_wp2_with fail
        go_ret
        exact ⟨k, rfl, by rw [HN.out, Bool.true_or]; exact decide_eq_true (by omega), HB1.out⟩
    · have HE := hid (show (bl (X.drop k)).any P = false by rw [List.drop_eq_nil_of_le (by omega)]; rfl)
      go_wp2_with fail
      go_ret
      exact ⟨-1, rfl, by rw [HO.out, HE.out]; rfl, HB.out⟩
theorem idxT_none (K : Nat) (a : Option Addr) (c : Nat) (w : World) : Calls Tryz.prog 194 #[.slice a 0 c, .func (.func K) #[] #[]] w fun e w' => e = .returned (.int .i64 (-1)) ∧ Below w.heap.size w w' := by
  go_enter Tryz.func194, Tryz.ntmps194
  go_wp2_with fail
  go_loopw [8] (fun i wr => i = .int .i64 0 ∧ wr = w) (fun i _ => 0)
  case atStart => exact ⟨rfl, rfl⟩
  case round =>
    obtain ⟨rfl, rfl⟩ := hrel
    go_wp2_with fail
    go_ret
    exact ⟨rfl, Below.refl _ _⟩
theorem idxT_any (K : Nat) (P : List UInt8 → Bool) (X : List ByteArray) (v : Value) (w : World) (eg : ∀ args w, (callFunc K args).run Tryz.prog w = .ok (.enter K args) w) (hX : X.length ≤ 1000000) (hv : TxAt w v X)
    (hK : ∀ i (h : i < X.length) W, Below w.heap.size w W → Calls Tryz.prog K #[.string X[i]] W fun e w' => e = .returned (.bool (P X[i].data.toList)) ∧ Below W.heap.size W w') :
    Calls Tryz.prog 194 #[v, .func (.func K) #[] #[]] w fun e w' => ∃ i : Int, e = .returned (.int .i64 i) ∧ decide (0 ≤ i) = (bl X).any P ∧ Below w.heap.size w w' := by
  obtain ⟨a, c, rfl, _, h⟩ := hv
  cases X with
  | nil => exact (idxT_none K a c w).mono fun e w' ⟨h1, h2⟩ => ⟨-1, h1, rfl, h2⟩
  | cons x r =>
    obtain ⟨b, o, rfl, h2⟩ := h (by simp)
    exact idxT_some K P b o c (x :: r) w eg hX h2 hK
theorem hasT_any (K : Nat) (P : List UInt8 → Bool) (X : List ByteArray) (v : Value) (w : World) (eg : ∀ args w, (callFunc K args).run Tryz.prog w = .ok (.enter K args) w) (hX : X.length ≤ 1000000) (hv : TxAt w v X)
    (hK : ∀ i (h : i < X.length) W, Below w.heap.size w W → Calls Tryz.prog K #[.string X[i]] W fun e w' => e = .returned (.bool (P X[i].data.toList)) ∧ Below W.heap.size W w') :
    Calls Tryz.prog 160 #[v, .func (.func K) #[] #[]] w fun e w' => e = .returned (.bool ((bl X).any P)) ∧ Below w.heap.size w w' := by
  have HI := hid (idxT_any K P X v w eg hX hv hK)
  obtain ⟨a, c, rfl, _⟩ := hv
  clear hK
  go_enter Tryz.func160, Tryz.ntmps160
  go_wp2_with fail
  refine HI.out.mono ?_
  rintro e w1 ⟨i, rfl, hi, hb⟩
  have HB := hid hb
  have HQ := hid hi
  clear hb hi
  go_wp2_with fail
  go_ret
  exact ⟨ret_bool HQ.out, HB.out⟩
theorem eqT_any (X Y : List ByteArray) (v u : Value) (w : World) (hX : X.length ≤ 1000000) (hY : Y.length ≤ 1000000) (hv : TxAt w v X) (hu : TxAt w u Y) :
    Calls Tryz.prog 176 #[v, u] w fun e w' => e = .returned (.bool (decide (X = Y))) ∧ Below w.heap.size w w' := by
  obtain ⟨a, c, rfl, _, h⟩ := hv
  obtain ⟨a', c', rfl, _, h'⟩ := hu
  cases X with
  | nil =>
    refine (Tryz.slices_Equal_string_empty a a' c Y.length c' w (by omega)).mono fun e w' ⟨h1, h2⟩ => ⟨?_, by rw [h2]; exact Below.refl _ _⟩
    rw [h1]
    congr 2
    cases Y with
    | nil => rfl
    | cons y s => simp
  | cons x r =>
    by_cases hl : (x :: r).length = Y.length
    · obtain ⟨b, o, rfl, h2⟩ := h (by simp)
      obtain ⟨b', o', rfl, h3⟩ := h' (by intro hy; rw [hy] at hl; simp at hl)
      refine (Tryz.slices_Equal_string b o (x :: r).length c b' o' Y.length c' (x :: r) Y w (Nat.le_refl _) (Nat.le_refl _) (by omega) (by omega) (fun j hj => ?_) (fun j hj => ?_)).mono fun e w' ⟨h1, q, h4⟩ => ⟨?_, by rw [h4]; exact below_drawn_of (Below.refl _ w) q⟩
      · rw [h2 j hj]; simp [List.getD, List.getElem?_eq_getElem hj]
      · rw [h3 j hj]; simp [List.getD, List.getElem?_eq_getElem hj]
      · rw [h1, List.take_length, List.take_length]
    · refine (Tryz.slices_Equal_string_lens a a' (x :: r).length c Y.length c' w hl).mono fun e w' ⟨h1, h2⟩ => ⟨?_, by rw [h2]; exact Below.refl _ _⟩
      rw [h1]
      congr 2
      exact (decide_eq_false (fun hh => hl (by rw [hh]))).symm
def packErr (Z : List (List UInt8)) : Nat := if 10 < Z.length then 7 else if Z.any noPk then 1 else if Z = risB Z then 0 else 8
theorem pk_full {Z : List (List UInt8)} (h : 10 < Z.length) : packErr Z = 7 := by unfold packErr; rw [if_pos h]
theorem pk_text {Z : List (List UInt8)} (h : ¬ 10 < Z.length) (h1 : Z.any noPk = true) : packErr Z = 1 := by unfold packErr; rw [if_neg h, if_pos h1]
theorem pk_ok {Z : List (List UInt8)} (h : ¬ 10 < Z.length) (h1 : Z.any noPk = false) (h2 : Z = risB Z) : packErr Z = 0 := by unfold packErr; rw [if_neg h, h1, if_neg (by simp), if_pos h2]
theorem pk_order {Z : List (List UInt8)} (h : ¬ 10 < Z.length) (h1 : Z.any noPk = false) (h2 : ¬ Z = risB Z) : packErr Z = 8 := by unfold packErr; rw [if_neg h, h1, if_neg (by simp), if_neg h2]
theorem eq_ris (X : List ByteArray) : decide (X = tx (risB (bl X))) = decide (bl X = risB (bl X)) := by
  congr 1
  apply propext
  constructor
  · intro h; have := congrArg bl h; rwa [bl_tx] at this
  · intro h; exact bl_inj (by rw [bl_tx]; exact h)
theorem risB_len (Z : List (List UInt8)) : (risB Z).length ≤ Z.length := by
  unfold risB
  exact Nat.le_trans (compact_le _) (by rw [srtB_len]; exact Nat.le_refl _)
set_option maxHeartbeats 2000000 in
theorem packs_any (X : List ByteArray) (v : Value) (A : Nat → Addr) (m : Int) (w : World) (hX : X.length ≤ 1000) (hz : ∀ x, x ∈ X → x.size < 999999) (S : Te w A m) (hv : TxAt w v X) :
    Calls Tryz.prog 133 #[v] w fun e w' => e = .returned (errA A (packErr (bl X))) ∧ Below w.heap.size w w' := by
  obtain ⟨a, c, rfl, _⟩ := id hv
  have hbl : (bl X).length = X.length := bl_len X
  have HS := hid S
  have g6 := S.sen.g6
  have egN : ∀ args w, (callFunc 175 args).run Tryz.prog w = .ok (.enter 175 args) w := enters_of Tryz.func175 (by kernel_rfl) rfl
  by_cases h1 : 10 < X.length
  · have q1 : (10 : Int) < (X.length : Int) := by omega
    rw [pk_full (by rw [hbl]; exact h1)]
    clear hv S h1 egN
    go_enter Tryz.func133, Tryz.ntmps133
    go_wp2_with fail
    go_ret
    exact ⟨rfl, Below.refl _ _⟩
  · have q1 : ¬ (10 : Int) < (X.length : Int) := by omega
    have HH := hid (hasT_any 175 noPk X _ w egN (by omega) hv (fun i hi W hW => noPack_any X[i] A m W (by have := hz _ (List.getElem_mem hi); omega) (S.below hW)))
    have HV := hid hv
    have hb10 : ¬ 10 < (bl X).length := by rw [hbl]; exact h1
    have H10 := hid hb10
    clear hv S h1 egN hb10
    cases h2 : (bl X).any noPk
    · rw [h2] at HH
      have H2 := hid h2
      clear h2
      go_enter Tryz.func133, Tryz.ntmps133
      go_wp2_with fail
      refine HH.out.mono ?_
      rintro e w1 ⟨rfl, hb⟩
      have HRI := hid (rising_any X (by omega) _ w1 (HV.out.below hb))
      have HB := hid hb
      clear hb
      go_wp2_with fail
      refine HRI.out.mono ?_
      rintro e w2 ⟨u, rfl, ho, hb⟩
      have HB2 := hid (HB.out.trans (hb.mono HB.out.size))
      have HEQ := hid (eqT_any X (tx (risB (bl X))) _ u w2 (by omega) (by rw [tx_len]; have := risB_len (bl X); omega) (HV.out.below HB2.out) (own_tx ho))
      rw [eq_ris] at HEQ
      obtain ⟨ua, uc, hu⟩ := own_slN ho
      subst hu
      have g7 := (HS.out.below HB2.out).sen.g7
      clear hb ho g6
      by_cases h3 : bl X = risB (bl X)
      · rw [decide_eq_true h3] at HEQ
        have HX := hid (pk_ok H10.out H2.out h3)
        clear h3
        go_wp2_with fail
        refine HEQ.out.mono ?_
        rintro e w3 ⟨rfl, hb⟩
        have HB3 := hid (HB2.out.trans (hb.mono HB2.out.size))
        clear hb
        go_wp2_with fail
        go_ret
        exact ⟨by rw [HX.out]; rfl, HB3.out⟩
      · rw [decide_eq_false h3] at HEQ
        have HX := hid (pk_order H10.out H2.out h3)
        have HG := hid (fun W (h : Below w.heap.size w W) => (HS.out.below h).sen.g7)
        clear h3 g7
        go_wp2_with fail
        refine HEQ.out.mono ?_
        rintro e w3 ⟨rfl, hb⟩
        have HB3 := hid (HB2.out.trans (hb.mono HB2.out.size))
        have g7 := HG.out _ HB3.out
        clear hb
        go_wp2_with fail
        go_ret
        exact ⟨by rw [HX.out]; rfl, HB3.out⟩
    · rw [h2] at HH
      have HX := hid (pk_text H10.out h2)
      have HG := hid (fun W (h : Below w.heap.size w W) => (HS.out.below h).sen.g0)
      clear h2 g6
      go_enter Tryz.func133, Tryz.ntmps133
      go_wp2_with fail
      refine HH.out.mono ?_
      rintro e w1 ⟨rfl, hb⟩
      have HB := hid hb
      have g0 := HG.out _ HB.out
      clear hb
      go_wp2_with fail
      go_ret
      exact ⟨by rw [HX.out]; rfl, HB.out⟩
end Ve
end Go.Proofs.YtoaobngpdaidoaaGreatDoor


namespace Go.Proofs.YtoaobngpdaidoaaGreatDoor
open Go.RowKit
namespace Ve
def shortL (L : List Bm) : Prop := ∀ m, m ∈ L → m.1.size < 999999 ∧ m.2.size < 999999
theorem reqE_0 {own : ByteArray} {L : List Bm} (h : 0 < L.length) : reqE own L 0 = reqW own none L[0] := by
  unfold reqE prevOf; rw [List.getElem?_eq_getElem h]; rfl
theorem reqE_1 {own : ByteArray} {L : List Bm} {k : Nat} (h : k + 1 < L.length) : reqE own L (k + 1) = reqW own (some (L[k]'(by omega))) L[k + 1] := by
  unfold reqE prevOf; rw [List.getElem?_eq_getElem h, if_neg (by omega)]; simp only [Nat.add_sub_cancel]; rw [List.getElem?_eq_getElem (show k < L.length by omega)]
theorem reqK_any (own : ByteArray) (L : List Bm) (b1 b2 : Nat) (v : Value) (A : Nat → Addr) (m : Int) (W : World) (hL : L.length ≤ 1000000) (hs : shortL L) (S : Te W A m) (h1 : W.cell? ⟨b1, 0, none⟩ = some (.string own)) (h2 : W.cell? ⟨b2, 0, none⟩ = some v) (hv : MsAt W v L) (i : Nat) (hi : i < L.length) :
    Calls Tryz.prog 174 (#[.int .i64 (i : Int), .agg #[.string L[i].1, .string L[i].2]] ++ #[.pointer (some ⟨b1, 0, none⟩), .pointer (some ⟨b2, 0, none⟩)]) W fun e w' => e = .returned (errA A (reqE own L i)) ∧ Below W.heap.size W w' := by
  obtain ⟨a, c, rfl, _, h⟩ := hv
  obtain ⟨b, o, rfl, hc⟩ := h (by intro e; rw [e] at hi; simp at hi)
  have hz := hs L[i] (List.getElem_mem hi)
  cases i with
  | zero =>
    rw [reqE_0 hi]
    by_cases e0 : mErr L[0] = 0
    · by_cases e1 : L[0].1 = own
      · exact reqK_own 0 L[0].1 L[0].2 own b1 _ none A m W hz.1 hz.2 S h1 e0 e1
      · exact reqK_0 L[0].1 L[0].2 own b1 _ A m W hz.1 hz.2 S h1 e0 e1
    · exact reqK_bad 0 L[0].1 L[0].2 own b1 _ none A m W hz.1 hz.2 S e0
  | succ k =>
    rw [reqE_1 hi]
    by_cases e0 : mErr L[k + 1] = 0
    · by_cases e1 : L[k + 1].1 = own
      · exact reqK_own _ L[k + 1].1 L[k + 1].2 own b1 _ _ A m W hz.1 hz.2 S h1 e0 e1
      · exact reqK_1 k L[k + 1].1 L[k + 1].2 L[k].1 L[k].2 own b1 b2 b o L.length c A m W hz.1 hz.2 S h1 e0 e1 h2 (by omega) hL (hc k (by omega)).1
    · exact reqK_bad _ L[k + 1].1 L[k + 1].2 own b1 _ _ A m W hz.1 hz.2 S e0
theorem MsAt.slice {w : World} {v : Value} {L : List Bm} (h : MsAt w v L) : ∃ p n c, v = .slice p n c := by
  obtain ⟨a, c, e, _⟩ := h
  exact ⟨a, _, c, e⟩
set_option maxHeartbeats 1000000 in
theorem reqs_any (own : ByteArray) (L : List Bm) (v : Value) (A : Nat → Addr) (m : Int) (w : World) (hL : L.length ≤ 1000000) (hs : shortL L) (S : Te w A m) (hv : MsAt w v L) :
    Calls Tryz.prog 132 #[.string own, v] w fun e w' => ∃ u, e = .returned u ∧ ErrAt w' A u (codeE (reqE own L) L.length) (fstE (reqE own L) L.length) ∧ Below w.heap.size w w' := by
  obtain ⟨vp, vn, vc, rfl⟩ := hv.slice
  have HB0 := hid (((Below.refl w.heap.size w).alloc (Nat.le_refl _) (.cells #[.string own] 9)).alloc (by simp) (.cells #[.slice vp vn vc] 23))
  have eg : ∀ args w, (callFunc 174 args).run Tryz.prog w = .ok (.enter 174 args) w := enters_of Tryz.func174 (by kernel_rfl) rfl
  have HF := hid (first_any 174 #[.pointer (some ⟨w.heap.size, 0, none⟩), .pointer (some ⟨w.heap.size + 1, 0, none⟩)] (reqE own L) L _ A ((w.alloc (.cells #[.string own] 9)).alloc (.cells #[.slice vp vn vc] 23)) eg hL (hv.below HB0.out) (fun i hi W hW =>
    reqK_any own L w.heap.size (w.heap.size + 1) _ A m W hL hs ((S.below HB0.out).below hW) (cell_below hW (by rw [World.cell?_alloc_lt _ _ _ (by simp)]; simp)) (cell_below hW (by rw [World.cell?_alloc_at _ _ _ _ (by simp)]; rfl)) ((hv.below HB0.out).below hW) i hi))
  clear S hv eg
  go_enter Tryz.func132, Tryz.ntmps132
  go_wp2_with fail
  refine HF.out.mono ?_
  rintro e w1 ⟨u, rfl, he, hb⟩
  have HB := hid (HB0.out.trans (hb.mono HB0.out.size))
  have HE := hid he
  clear hb he
  go_wp2_with fail
  go_ret
  exact ⟨_, rfl, HE.out, HB.out⟩
end Ve
end Go.Proofs.YtoaobngpdaidoaaGreatDoor


namespace Go.Proofs.YtoaobngpdaidoaaGreatDoor
open Go.RowKit
namespace Ve
set_option maxHeartbeats 1000000 in
theorem bare_sen (a : Addr) (A : Nat → Addr) (m : Int) (w : World) (S : Te w A m) :
    Calls Tryz.prog 87 #[.iface 290 (.pointer (some a))] w fun e w' => e = .returned (.iface 290 (.pointer (some a))) ∧ Below w.heap.size w w' := by
  have HB0 := hid ((Below.refl w.heap.size w).alloc (Nat.le_refl _) (.cells #[.pointer none] 80))
  have HA := hid (Er.as_miss_b a ⟨w.heap.size, 0, none⟩ _ (S.below HB0.out).sen.et)
  clear S
  go_enter Tryz.func87, Tryz.ntmps87
  go_wp2_with fail
  refine HA.out.mono ?_
  rintro e w1 ⟨rfl, hb⟩
  have HB := hid (HB0.out.trans (hb.mono HB0.out.size))
  clear hb
  go_wp2_with fail
  go_ret
  exact ⟨rfl, HB.out⟩
set_option maxHeartbeats 1000000 in
theorem bare_fault (b : Nat) (x : Addr) (A : Nat → Addr) (m : Int) (w : World) (S : Te w A m) (h1 : w.cell? ⟨b, 1, none⟩ = some (.iface 290 (.pointer (some x)))) :
    Calls Tryz.prog 87 #[.iface 80 (.pointer (some ⟨b, 0, none⟩))] w fun e w' => e = .returned (.iface 290 (.pointer (some x))) ∧ Below w.heap.size w w' := by
  have HB0 := hid ((Below.refl w.heap.size w).alloc (Nat.le_refl _) (.cells #[.pointer none] 80))
  have HA := hid (Er.as_hit_b ⟨b, 0, none⟩ ⟨w.heap.size, 0, none⟩ (.pointer none) _ w.heap.size (Nat.le_refl _) (S.below HB0.out).sen.et (by simp) (by simp) (by simp))
  have H1 := hid h1
  clear S h1
  go_enter Tryz.func87, Tryz.ntmps87
  go_wp2_with fail
  refine HA.out.mono ?_
  rintro e w1 ⟨rfl, hb, ht⟩
  have HB := hid (HB0.out.trans hb)
  have c1 := cell_below HB.out H1.out
  clear hb
  go_wp2_with fail
  go_ret
  exact ⟨rfl, HB.out⟩
theorem bare_any (x : Value) (c : Nat) (o : Option Nat) (A : Nat → Addr) (m : Int) (w : World) (S : Te w A m) (h : ErrAt w A x c o) (hc : c ≠ 0) :
    Calls Tryz.prog 87 #[x] w fun e w' => e = .returned (errA A c) ∧ Below w.heap.size w w' := by
  cases o with
  | none =>
    have h : x = errA A c := h
    rw [h, errA_if A hc]
    exact bare_sen _ A m w S
  | some i =>
    obtain ⟨_, b, rfl, _, h3⟩ := h
    rw [errA_if A hc] at h3 ⊢
    exact bare_fault b _ A m w S h3
theorem as_nil (p : Addr) (w : World) : Calls Tryz.prog 62 #[.nilIface, .iface 82 (.pointer (some p))] w fun e w' => e = .returned (.bool false) ∧ Below w.heap.size w w' := by
  go_enter Tryz.func62, Tryz.ntmps62
  go_wp2_with fail
  go_ret
  exact ⟨rfl, Below.refl _ _⟩
set_option maxHeartbeats 1000000 in
theorem bare_nil (w : World) : Calls Tryz.prog 87 #[.nilIface] w fun e w' => e = .returned .nilIface ∧ Below w.heap.size w w' := by
  have HA := hid (as_nil ⟨w.heap.size, 0, none⟩ (w.alloc (.cells #[.pointer none] 80)))
  have HB0 := hid ((Below.refl w.heap.size w).alloc (Nat.le_refl _) (.cells #[.pointer none] 80))
  go_enter Tryz.func87, Tryz.ntmps87
  go_wp2_with fail
  refine HA.out.mono ?_
  rintro e w1 ⟨rfl, hb⟩
  have HB := hid (HB0.out.trans (hb.mono HB0.out.size))
  clear hb
  go_wp2_with fail
  go_ret
  exact ⟨rfl, HB.out⟩
theorem bare_all (x : Value) (c : Nat) (o : Option Nat) (A : Nat → Addr) (m : Int) (w : World) (S : Te w A m) (h : ErrAt w A x c o) :
    Calls Tryz.prog 87 #[x] w fun e w' => e = .returned (errA A c) ∧ Below w.heap.size w w' := by
  by_cases hc : c = 0
  · subst hc
    cases o with
    | none =>
      have h : x = errA A 0 := h
      rw [h]
      exact bare_nil w
    | some i => exact absurd rfl h.1
  · exact bare_any x c o A m w S h hc
end Ve
end Go.Proofs.YtoaobngpdaidoaaGreatDoor


namespace Go.Proofs.YtoaobngpdaidoaaGreatDoor
open Go.RowKit
namespace Ve
def nonW (L : List Raw) (m : Bm) : Nat := if idxOf (isM m) L < 0 then 5 else 0
def nonE (L : List Raw) (R : List Bm) (i : Nat) : Nat := match R[i]? with
  | none => 0
  | some m => nonW L m
theorem nonE_at {L : List Raw} {R : List Bm} {i : Nat} (h : i < R.length) : nonE L R i = nonW L R[i] := by unfold nonE; rw [List.getElem?_eq_getElem h]
set_option maxHeartbeats 2000000 in
theorem modsK_any (L : List Raw) (p q : ByteArray) (i : Int) (b : Nat) (v : Value) (A : Nat → Addr) (m : Int) (W : World) (hL : L.length ≤ 1000000) (S : Te W A m) (h1 : W.cell? ⟨b, 0, none⟩ = some v) (hv : EsAt W v L) :
    Calls Tryz.prog 102 (#[.int .i64 i, .agg #[.string p, .string q]] ++ #[.pointer (some ⟨b, 0, none⟩)]) W fun e w' => e = .returned (errA A (nonW L (p, q))) ∧ Below W.heap.size W w' := by
  have HB0 := hid ((Below.refl W.heap.size W).alloc (Nat.le_refl _) (.cells #[.string p, .string q] 46))
  have HF := hid (find_any L (p, q) v _ hL (hv.below HB0.out))
  obtain ⟨a, c, rfl, _⟩ := hv
  have h1' := cell_below HB0.out h1
  have HG := hid (fun X (h : Below W.heap.size W X) => (S.below h).sen.g4)
  clear S
  unfold nonW
  generalize hx : idxOf (isM (p, q)) L = x at HF ⊢
  clear hx
  by_cases h : x < 0
  · rw [if_pos h]
    go_enter Tryz.func102, Tryz.ntmps102
    go_wp2_with fail
    refine HF.out.mono ?_
    rintro e w1 ⟨rfl, hb⟩
    have HB := hid (HB0.out.trans (hb.mono HB0.out.size))
    have g4 := HG.out _ HB.out
    clear hb
    go_wp2_with fail
    go_ret
    exact ⟨rfl, HB.out⟩
  · rw [if_neg h]
    go_enter Tryz.func102, Tryz.ntmps102
    go_wp2_with fail
    refine HF.out.mono ?_
    rintro e w1 ⟨rfl, hb⟩
    have HB := hid (HB0.out.trans (hb.mono HB0.out.size))
    clear hb
    go_wp2_with fail
    go_ret
    exact ⟨rfl, HB.out⟩
set_option maxHeartbeats 2000000 in
theorem cmods_any (L : List Raw) (R : List Bm) (v u : Value) (A : Nat → Addr) (m : Int) (w : World) (hL : L.length ≤ 1000000) (hR : R.length ≤ 1000000) (S : Te w A m) (hv : EsAt w v L) (hu : MsAt w u R) :
    Calls Tryz.prog 64 #[v, u] w fun e w' => ∃ x, e = .returned x ∧ ErrAt w' A x (codeE (nonE L R) R.length) (fstE (nonE L R) R.length) ∧ Below w.heap.size w w' := by
  obtain ⟨a, c, hv1, _⟩ := id hv
  obtain ⟨ua, un, uc, hu1⟩ := hu.slice
  subst hv1
  subst hu1
  have HB0 := hid ((Below.refl w.heap.size w).alloc (Nat.le_refl _) (.cells #[.slice a L.length c] 22))
  have eg : ∀ args w, (callFunc 102 args).run Tryz.prog w = .ok (.enter 102 args) w := enters_of Tryz.func102 (by kernel_rfl) rfl
  have HF := hid (first_any 102 #[.pointer (some ⟨w.heap.size, 0, none⟩)] (nonE L R) R _ A (w.alloc (.cells #[.slice a L.length c] 22)) eg hR (hu.below HB0.out) (fun i hi W hW => by
    rw [nonE_at hi]
    exact modsK_any L R[i].1 R[i].2 i w.heap.size _ A m W hL ((S.below HB0.out).below hW) (cell_below hW (by simp)) ((hv.below HB0.out).below hW)))
  clear S hv hu eg
  go_enter Tryz.func64, Tryz.ntmps64
  go_wp2_with fail
  refine HF.out.mono ?_
  rintro e w1 ⟨u, rfl, he, hb⟩
  have HB := hid (HB0.out.trans (hb.mono HB0.out.size))
  have HE := hid he
  clear hb he
  go_wp2_with fail
  go_ret
  exact ⟨_, rfl, HE.out, HB.out⟩
set_option maxHeartbeats 4000000 in
theorem checkK_any (L : List Raw) (r : Raw) (R : List Bm) (i : Int) (b : Nat) (v : Value) (A : Nat → Addr) (m : Int) (W : World) (hL : L.length ≤ 1000000) (hR : R.length ≤ 1000000) (S : Te W A m) (h1 : W.cell? ⟨b, 0, none⟩ = some v) (hv : EsAt W v L) (hs : slR r) (hr : MsAt W r.2.1 R) :
    Calls Tryz.prog 86 (#[.int .i64 i, rawV r] ++ #[.pointer (some ⟨b, 0, none⟩)]) W fun e w' => e = .returned (errA A (codeE (nonE L R) R.length)) ∧ Below W.heap.size W w' := by
  obtain ⟨a, c, hv1, _⟩ := id hv
  obtain ⟨⟨p, q⟩, rv, pv, bk⟩ := r
  obtain ⟨⟨ra, rn, rc, hrv⟩, pa, pn, pc, hpv⟩ := hs
  simp only at hrv hpv hr
  subst hrv
  subst hpv
  subst hv1
  have HB0 := hid ((Below.refl W.heap.size W).alloc (Nat.le_refl _) (.cells #[.string p, .string q, .slice ra rn rc, .slice pa pn pc, .bool bk] 56))
  have HC := hid (cmods_any L R _ _ A m _ hL hR (S.below HB0.out) (hv.below HB0.out) (hr.below HB0.out))
  have HS := hid S
  have h1' := cell_below HB0.out h1
  unfold rawV
  clear S hv hr
  go_enter Tryz.func86, Tryz.ntmps86
  go_wp2_with fail
  refine HC.out.mono ?_
  rintro e w1 ⟨x, rfl, he, hb⟩
  have HB := hid (HB0.out.trans (hb.mono HB0.out.size))
  have HE := hid (bare_all x _ _ A m w1 (HS.out.below HB.out) he)
  clear hb he
  go_wp2_with fail
  refine HE.out.mono ?_
  rintro e w2 ⟨rfl, hb⟩
  have HB2 := hid (HB.out.trans (hb.mono HB.out.size))
  clear hb
  go_wp2_with fail
  go_ret
  exact ⟨rfl, HB2.out⟩
end Ve
end Go.Proofs.YtoaobngpdaidoaaGreatDoor


namespace Go.Proofs.YtoaobngpdaidoaaGreatDoor
open Go.RowKit
namespace Ve
def entR (e : Ent) : Nat := if 20 < e.2.1.length then 7 else if codeE (reqE e.1.1 e.2.1) e.2.1.length ≠ 0 then codeE (reqE e.1.1 e.2.1) e.2.1.length else packErr (bl e.2.2.1)
def entW (prev : Option Bm) (e : Ent) : Nat := if mErr e.1 ≠ 0 then mErr e.1 else match prev with
  | none => entR e
  | some p => if mAhead p e.1 then entR e else 8
theorem entW_bad {o : Option Bm} {e : Ent} (h : mErr e.1 ≠ 0) : entW o e = mErr e.1 := by unfold entW; rw [if_pos h]
theorem entW_none {e : Ent} (h : mErr e.1 = 0) : entW none e = entR e := by unfold entW; rw [if_neg (by simp [h])]
theorem entW_some {p : Bm} {e : Ent} (h : mErr e.1 = 0) (ha : mAhead p e.1 = true) : entW (some p) e = entR e := by unfold entW; rw [if_neg (by simp [h])]; simp only [ha, if_true]
theorem entW_order {p : Bm} {e : Ent} (h : mErr e.1 = 0) (ha : mAhead p e.1 = false) : entW (some p) e = 8 := by unfold entW; rw [if_neg (by simp [h])]; simp [ha]
theorem entR_full {e : Ent} (h : 20 < e.2.1.length) : entR e = 7 := by unfold entR; rw [if_pos h]
theorem entR_req {e : Ent} (h : ¬ 20 < e.2.1.length) (hc : codeE (reqE e.1.1 e.2.1) e.2.1.length ≠ 0) : entR e = codeE (reqE e.1.1 e.2.1) e.2.1.length := by unfold entR; rw [if_neg h, if_pos hc]
theorem entR_pack {e : Ent} (h : ¬ 20 < e.2.1.length) (hc : codeE (reqE e.1.1 e.2.1) e.2.1.length = 0) : entR e = packErr (bl e.2.2.1) := by unfold entR; rw [if_neg h, if_neg (by simp [hc])]
structure ShE (e : Ent) : Prop where
  p : e.1.1.size < 999999
  v : e.1.2.size < 999999
  rn : e.2.1.length ≤ 1000000
  rs : shortL e.2.1
  pn : e.2.2.1.length ≤ 1000
  ps : ∀ x, x ∈ e.2.2.1 → x.size < 999999
set_option maxHeartbeats 4000000 in
theorem eachK_bad (p q : ByteArray) (rv pv : Value) (bk : Bool) (i b : Nat) (A : Nat → Addr) (m : Int) (W : World) (hs : slR ((p, q), rv, pv, bk)) (hp : p.size < 999999) (hq : q.size < 999999) (S : Te W A m) (h : mErr (p, q) ≠ 0) :
    Calls Tryz.prog 131 #[.int .i64 (i : Int), .agg #[.string p, .string q, rv, pv, .bool bk], .pointer (some ⟨b, 0, none⟩)] W fun e w' => e = .returned (errA A (mErr (p, q))) ∧ Below W.heap.size W w' := by
  obtain ⟨⟨ra, rn, rc, hrv⟩, pa, pn, pc, hpv⟩ := hs
  simp only at hrv hpv
  subst hrv
  subst hpv
  have HB0 := hid ((Below.refl W.heap.size W).alloc (Nat.le_refl _) (.cells #[.string p, .string q, .slice ra rn rc, .slice pa pn pc, .bool bk] 56))
  have HM := hid (mcheck_any p q A m _ (by omega) (by omega) (S.below HB0.out))
  have hme : mErr (p, q) = modErr p.data.toList q.data.toList := rfl
  rw [← hme, errA_if A h] at HM
  rw [errA_if A h]
  clear S h hme
  go_enter Tryz.func131, Tryz.ntmps131
  go_wp2_with fail
  refine HM.out.mono ?_
  rintro e w1 ⟨rfl, hb⟩
  have HB := hid (HB0.out.trans (hb.mono HB0.out.size))
  clear hb
  go_wp2_with fail
  go_ret
  exact ⟨rfl, HB.out⟩
set_option maxHeartbeats 8000000 in
set_option maxRecDepth 100000 in
theorem eachK_0 (pr : Option Bm) (hpr : pr = none) (p q : ByteArray) (rv pv : Value) (eR : List Bm) (eP : List ByteArray) (bk : Bool) (b : Nat) (A : Nat → Addr) (m : Int) (W : World) (hs : slR ((p, q), rv, pv, bk)) (sh : ShE ((p, q), eR, eP, bk)) (S : Te W A m) (h : mErr (p, q) = 0) (hr : MsAt W rv eR) (hpk : TxAt W pv eP) :
    Calls Tryz.prog 131 #[.int .i64 0, .agg #[.string p, .string q, rv, pv, .bool bk], .pointer (some ⟨b, 0, none⟩)] W fun e w' => e = .returned (errA A (entW pr ((p, q), eR, eP, bk))) ∧ Below W.heap.size W w' := by
  obtain ⟨⟨ra, rn, rc, hrv⟩, pa, pn, pc, hpv⟩ := hs
  simp only at hrv hpv
  subst hrv
  subst hpv
  have hrl : rn = eR.length := by obtain ⟨_, _, h, _⟩ := hr; injection h
  subst hrl
  have HB0 := hid ((Below.refl W.heap.size W).alloc (Nat.le_refl _) (.cells #[.string p, .string q, .slice ra eR.length rc, .slice pa pn pc, .bool bk] 56))
  have HM := hid (mcheck_any p q A m _ (by have := sh.p; simp only at this; omega) (by have := sh.v; simp only at this; omega) (S.below HB0.out))
  have hme : mErr (p, q) = modErr p.data.toList q.data.toList := rfl
  rw [← hme, h, errA0] at HM
  have HS := hid S
  have HSH := hid sh
  have HR := hid hr
  have HPK := hid hpk
  have H := hid h
  have HGX := hid (fun w1 (hb : Below (W.alloc (.cells #[.string p, .string q, .slice ra eR.length rc, .slice pa pn pc, .bool bk] 56)).heap.size (W.alloc (.cells #[.string p, .string q, .slice ra eR.length rc, .slice pa pn pc, .bool bk] 56)) w1) => show w1.heap[W.heap.size]? = some (.cells #[.string p, .string q, .slice ra eR.length rc, .slice pa pn pc, .bool bk] 56 (0, 0)) by rw [hb.block _ (by simp)]; exact heap_alloc_new W _)
  clear S sh hr hpk h hme
  go_enter Tryz.func131, Tryz.ntmps131
  go_wp2_with fail
  refine HM.out.mono ?_
  rintro e wz ⟨rfl, hb⟩
  have HBz := hid (HB0.out.trans (hb.mono HB0.out.size))
  have HEz := hid (HGX.out wz hb)
  clear hb HM HGX
  go_wp2_with fail
  go_quiet (fail)
  have HB1 := hid (below_drawn_of HBz.out nq)
  have HE1 := hid (show (wz.drewN nq).heap[W.heap.size]? = some (.cells #[.string p, .string q, .slice ra eR.length rc, .slice pa pn pc, .bool bk] 56 (0, 0)) from HEz.out)
  obtain ⟨wa, hwa⟩ : ∃ wa, wz.drewN nq = wa := ⟨_, rfl⟩
  rw [hwa] at HB1 HE1 ⊢
  clear hwa
  have y0 : wa.cell? ⟨W.heap.size, 0, none⟩ = some (.string p) := by rw [Lib.cell_of_heap HE1.out]; rfl
  have y1 : wa.cell? ⟨W.heap.size, 1, none⟩ = some (.string q) := by rw [Lib.cell_of_heap HE1.out]; rfl
  have y2 : wa.cell? ⟨W.heap.size, 2, none⟩ = some (.slice ra eR.length rc) := by rw [Lib.cell_of_heap HE1.out]; rfl
  have y3 : wa.cell? ⟨W.heap.size, 3, none⟩ = some (.slice pa pn pc) := by rw [Lib.cell_of_heap HE1.out]; rfl
  have y4 : wa.cell? ⟨W.heap.size, 4, none⟩ = some (.bool bk) := by rw [Lib.cell_of_heap HE1.out]; rfl
  by_cases hf : 20 < eR.length
  · have q2 : (20 : Int) < (eR.length : Int) := by omega
    have HX := hid (show entW pr ((p, q), eR, eP, bk) = 7 by rw [hpr, entW_none H.out]; exact entR_full hf)
    have g6 := (HS.out.below HB1.out).sen.g6
    clear hf
    go_wp2_with fail
    go_ret
    exact ⟨by rw [HX.out]; rfl, HB1.out⟩
  · have q2 : ¬ (20 : Int) < (eR.length : Int) := by omega
    have HF := hid hf
    have HRQ := hid (reqs_any p eR _ A m wa HSH.out.rn HSH.out.rs (HS.out.below HB1.out) (HR.out.below HB1.out))
    clear hf
    go_wp2_with fail
    refine HRQ.out.mono ?_
    rintro e wb ⟨u, rfl, he, hb⟩
    have HB2 := hid (HB1.out.trans (hb.mono HB1.out.size))
    have HE2 := hid (show wb.heap[W.heap.size]? = some (.cells #[.string p, .string q, .slice ra eR.length rc, .slice pa pn pc, .bool bk] 56 (0, 0)) by rw [hb.block _ (lt_of_blk HE1.out)]; exact HE1.out)
    clear y0 y1 y2 y3 y4 HRQ
    have z0 : wb.cell? ⟨W.heap.size, 0, none⟩ = some (.string p) := by rw [Lib.cell_of_heap HE2.out]; rfl
    have z1 : wb.cell? ⟨W.heap.size, 1, none⟩ = some (.string q) := by rw [Lib.cell_of_heap HE2.out]; rfl
    have z2 : wb.cell? ⟨W.heap.size, 2, none⟩ = some (.slice ra eR.length rc) := by rw [Lib.cell_of_heap HE2.out]; rfl
    have z3 : wb.cell? ⟨W.heap.size, 3, none⟩ = some (.slice pa pn pc) := by rw [Lib.cell_of_heap HE2.out]; rfl
    have z4 : wb.cell? ⟨W.heap.size, 4, none⟩ = some (.bool bk) := by rw [Lib.cell_of_heap HE2.out]; rfl
    cases hfe : fstE (reqE p eR) eR.length with
    | none =>
      rw [hfe] at he
      have hc := codeE_none hfe
      have he : u = errA A (codeE (reqE p eR) eR.length) := he
      rw [hc, errA0] at he
      subst he
      have HX := hid (show entW pr ((p, q), eR, eP, bk) = packErr (bl eP) by rw [hpr, entW_none H.out]; exact entR_pack HF.out hc)
      have HPP := hid (packs_any eP _ A m wb HSH.out.pn HSH.out.ps (HS.out.below HB2.out) (HPK.out.below HB2.out))
      clear hb hc hfe
      go_wp2_with fail
      refine HPP.out.mono ?_
      rintro e wc ⟨rfl, hb⟩
      have HB3 := hid (HB2.out.trans (hb.mono HB2.out.size))
      clear hb
      go_wp2_with fail
      go_ret
      exact ⟨by rw [HX.out]; rfl, HB3.out⟩
    | some j =>
      rw [hfe] at he
      have hc : codeE (reqE p eR) eR.length ≠ 0 := he.1
      have HX := hid (show entW pr ((p, q), eR, eP, bk) = codeE (reqE p eR) eR.length by rw [hpr, entW_none H.out]; exact entR_req HF.out hc)
      have HBA := hid (bare_any u _ _ A m wb (HS.out.below HB2.out) he hc)
      obtain ⟨_, fb, hu, _⟩ := he
      subst hu
      clear hb hc hfe
      go_wp2_with fail
      refine HBA.out.mono ?_
      rintro e wc ⟨rfl, hb⟩
      have HB3 := hid (HB2.out.trans (hb.mono HB2.out.size))
      clear hb
      go_wp2_with fail
      go_ret
      exact ⟨by rw [HX.out]; rfl, HB3.out⟩
set_option maxHeartbeats 8000000 in
set_option maxRecDepth 100000 in
theorem eachK_1 (pr : Option Bm) (k : Nat) (p0 q0 : ByteArray) (hpr : pr = some (p0, q0)) (p q : ByteArray) (rv pv : Value) (eR : List Bm) (eP : List ByteArray) (bk : Bool) (b : Nat) (A : Nat → Addr) (m : Int) (W : World) (hs : slR ((p, q), rv, pv, bk)) (sh : ShE ((p, q), eR, eP, bk)) (S : Te W A m) (h : mErr (p, q) = 0) (hr : MsAt W rv eR) (hpk : TxAt W pv eP) (bb oo n c : Nat) (hn : k < n) (hn2 : n ≤ 1000000) (hq0 : q0.size < 999999) (hl : W.cell? ⟨b, 0, none⟩ = some (.slice (some ⟨bb, oo, none⟩) n c)) (hx : W.cell? ⟨bb, oo + k * 5, none⟩ = some (.string p0)) (hy : W.cell? ⟨bb, oo + k * 5 + 1, none⟩ = some (.string q0)) :
    Calls Tryz.prog 131 #[.int .i64 ((k : Int) + 1), .agg #[.string p, .string q, rv, pv, .bool bk], .pointer (some ⟨b, 0, none⟩)] W fun e w' => e = .returned (errA A (entW pr ((p, q), eR, eP, bk))) ∧ Below W.heap.size W w' := by
  obtain ⟨⟨ra, rn, rc, hrv⟩, pa, pn, pc, hpv⟩ := hs
  simp only at hrv hpv
  subst hrv
  subst hpv
  have hrl : rn = eR.length := by obtain ⟨_, _, h, _⟩ := hr; injection h
  subst hrl
  have HB0 := hid ((Below.refl W.heap.size W).alloc (Nat.le_refl _) (.cells #[.string p, .string q, .slice ra eR.length rc, .slice pa pn pc, .bool bk] 56))
  have HM := hid (mcheck_any p q A m _ (by have := sh.p; simp only at this; omega) (by have := sh.v; simp only at this; omega) (S.below HB0.out))
  have hme : mErr (p, q) = modErr p.data.toList q.data.toList := rfl
  rw [← hme, h, errA0] at HM
  have HS := hid S
  have HSH := hid sh
  have HR := hid hr
  have HPK := hid hpk
  have H := hid h
  have HGX := hid (fun w1 (hb : Below (W.alloc (.cells #[.string p, .string q, .slice ra eR.length rc, .slice pa pn pc, .bool bk] 56)).heap.size (W.alloc (.cells #[.string p, .string q, .slice ra eR.length rc, .slice pa pn pc, .bool bk] 56)) w1) => show w1.heap[W.heap.size]? = some (.cells #[.string p, .string q, .slice ra eR.length rc, .slice pa pn pc, .bool bk] 56 (0, 0)) by rw [hb.block _ (by simp)]; exact heap_alloc_new W _)
  have HL := hid hl
  have HXX := hid hx
  have HYY := hid hy
  clear S sh hr hpk h hme hl hx hy
  have hk0 : (0 : Int) < (k : Int) + 1 := by omega
  have hk1 : (k : Int) + 1 - 1 = (k : Int) := by omega
  have hkn : (k : Int) < (n : Int) := by omega
  go_enter Tryz.func131, Tryz.ntmps131
  go_wp2_with fail
  refine HM.out.mono ?_
  rintro e wz ⟨rfl, hb⟩
  have HBz := hid (HB0.out.trans (hb.mono HB0.out.size))
  have HEz := hid (HGX.out wz hb)
  have hl := cell_below HBz.out HL.out
  have hx := cell_below HBz.out HXX.out
  have hy := cell_below HBz.out HYY.out
  have HAH := hid (fun X (hX : Below wz.heap.size wz X) => ahead_any p0 q0 p q A m X hq0 HSH.out.v ((HS.out.below HBz.out).below hX))
  have hma : mAhead (p0, q0) (p, q) = aheadB p0.data.toList q0.data.toList p.data.toList q.data.toList := rfl
  rw [← hma] at HAH
  clear hb HM HGX hma
  have x0 : wz.cell? ⟨W.heap.size, 0, none⟩ = some (.string p) := by rw [Lib.cell_of_heap HEz.out]; rfl
  have x1 : wz.cell? ⟨W.heap.size, 1, none⟩ = some (.string q) := by rw [Lib.cell_of_heap HEz.out]; rfl
  have x2 : wz.cell? ⟨W.heap.size, 2, none⟩ = some (.slice ra eR.length rc) := by rw [Lib.cell_of_heap HEz.out]; rfl
  have x3 : wz.cell? ⟨W.heap.size, 3, none⟩ = some (.slice pa pn pc) := by rw [Lib.cell_of_heap HEz.out]; rfl
  have x4 : wz.cell? ⟨W.heap.size, 4, none⟩ = some (.bool bk) := by rw [Lib.cell_of_heap HEz.out]; rfl
  have gw : IntKind.i64.wrap (k : Int) = (k : Int) := by rw [IntKind.wrap_i64]; omega
  have gk : (0 : Int) ≤ (k : Int) := by omega
  cases hah : mAhead (p0, q0) (p, q)
  · rw [hah] at HAH
    have HX := hid (show entW pr ((p, q), eR, eP, bk) = 8 by rw [hpr]; exact entW_order H.out hah)
    clear hah
    go_wp2_with fail
    go_region_with (go_at_call 121; refine (HAH.out _ (below_drawn _ 1)).mono ?_; rintro e wa ⟨rfl, hb⟩; have HB1 := hid ((HBz.out.trans ((below_drawn _ 1).mono HBz.out.size)).trans (hb.mono HBz.out.size)); have g7 := (HS.out.below HB1.out).sen.g7; clear hb)
    all_goals
      go_wp2_with fail
      go_ret
      exact ⟨by rw [HX.out]; rfl, HB1.out⟩
  · rw [hah] at HAH
    have HLL := hid (show entW pr ((p, q), eR, eP, bk) = entR ((p, q), eR, eP, bk) by rw [hpr]; exact entW_some H.out hah)
    clear hah
    go_wp2_with fail
    go_region_with (go_at_call 121; refine (HAH.out _ (below_drawn _ 1)).mono ?_; rintro e wa ⟨rfl, hb⟩; have HB1 := hid ((HBz.out.trans ((below_drawn _ 1).mono HBz.out.size)).trans (hb.mono HBz.out.size)); have HE1 := hid (show wa.heap[W.heap.size]? = some (.cells #[.string p, .string q, .slice ra eR.length rc, .slice pa pn pc, .bool bk] 56 (0, 0)) by rw [hb.block _ (lt_of_blk HEz.out)]; exact HEz.out); clear hb x0 x1 x2 x3 x4 hl hx hy)
    all_goals
      have y0 : wa.cell? ⟨W.heap.size, 0, none⟩ = some (.string p) := by rw [Lib.cell_of_heap HE1.out]; rfl
      have y1 : wa.cell? ⟨W.heap.size, 1, none⟩ = some (.string q) := by rw [Lib.cell_of_heap HE1.out]; rfl
      have y2 : wa.cell? ⟨W.heap.size, 2, none⟩ = some (.slice ra eR.length rc) := by rw [Lib.cell_of_heap HE1.out]; rfl
      have y3 : wa.cell? ⟨W.heap.size, 3, none⟩ = some (.slice pa pn pc) := by rw [Lib.cell_of_heap HE1.out]; rfl
      have y4 : wa.cell? ⟨W.heap.size, 4, none⟩ = some (.bool bk) := by rw [Lib.cell_of_heap HE1.out]; rfl
      by_cases hf : 20 < eR.length
      · have q2 : (20 : Int) < (eR.length : Int) := by omega
        have HX := hid (show entW pr ((p, q), eR, eP, bk) = 7 by rw [HLL.out]; exact entR_full hf)
        have g6 := (HS.out.below HB1.out).sen.g6
        clear hf
        go_wp2_with fail
        go_ret
        exact ⟨by rw [HX.out]; rfl, HB1.out⟩
      · have q2 : ¬ (20 : Int) < (eR.length : Int) := by omega
        have HF := hid hf
        have HRQ := hid (reqs_any p eR _ A m wa HSH.out.rn HSH.out.rs (HS.out.below HB1.out) (HR.out.below HB1.out))
        clear hf
        go_wp2_with fail
        refine HRQ.out.mono ?_
        rintro e wb ⟨u, rfl, he, hb⟩
        have HB2 := hid (HB1.out.trans (hb.mono HB1.out.size))
        have HE2 := hid (show wb.heap[W.heap.size]? = some (.cells #[.string p, .string q, .slice ra eR.length rc, .slice pa pn pc, .bool bk] 56 (0, 0)) by rw [hb.block _ (lt_of_blk HE1.out)]; exact HE1.out)
        clear y0 y1 y2 y3 y4 HRQ
        have z0 : wb.cell? ⟨W.heap.size, 0, none⟩ = some (.string p) := by rw [Lib.cell_of_heap HE2.out]; rfl
        have z1 : wb.cell? ⟨W.heap.size, 1, none⟩ = some (.string q) := by rw [Lib.cell_of_heap HE2.out]; rfl
        have z2 : wb.cell? ⟨W.heap.size, 2, none⟩ = some (.slice ra eR.length rc) := by rw [Lib.cell_of_heap HE2.out]; rfl
        have z3 : wb.cell? ⟨W.heap.size, 3, none⟩ = some (.slice pa pn pc) := by rw [Lib.cell_of_heap HE2.out]; rfl
        have z4 : wb.cell? ⟨W.heap.size, 4, none⟩ = some (.bool bk) := by rw [Lib.cell_of_heap HE2.out]; rfl
        cases hfe : fstE (reqE p eR) eR.length with
        | none =>
          rw [hfe] at he
          have hc := codeE_none hfe
          have he : u = errA A (codeE (reqE p eR) eR.length) := he
          rw [hc, errA0] at he
          subst he
          have HX := hid (show entW pr ((p, q), eR, eP, bk) = packErr (bl eP) by rw [HLL.out]; exact entR_pack HF.out hc)
          have HPP := hid (packs_any eP _ A m wb HSH.out.pn HSH.out.ps (HS.out.below HB2.out) (HPK.out.below HB2.out))
          clear hb hc hfe
          go_wp2_with fail
          refine HPP.out.mono ?_
          rintro e wc ⟨rfl, hb⟩
          have HB3 := hid (HB2.out.trans (hb.mono HB2.out.size))
          clear hb
          go_wp2_with fail
          go_ret
          exact ⟨by rw [HX.out]; rfl, HB3.out⟩
        | some j =>
          rw [hfe] at he
          have hc : codeE (reqE p eR) eR.length ≠ 0 := he.1
          have HX := hid (show entW pr ((p, q), eR, eP, bk) = codeE (reqE p eR) eR.length by rw [HLL.out]; exact entR_req HF.out hc)
          have HBA := hid (bare_any u _ _ A m wb (HS.out.below HB2.out) he hc)
          obtain ⟨_, fb, hu, _⟩ := he
          subst hu
          clear hb hc hfe
          go_wp2_with fail
          refine HBA.out.mono ?_
          rintro e wc ⟨rfl, hb⟩
          have HB3 := hid (HB2.out.trans (hb.mono HB2.out.size))
          clear hb
          go_wp2_with fail
          go_ret
          exact ⟨by rw [HX.out]; rfl, HB3.out⟩
end Ve
end Go.Proofs.YtoaobngpdaidoaaGreatDoor


namespace Go.Proofs.YtoaobngpdaidoaaGreatDoor
open Go.RowKit
namespace Ve
def entE (L : List Ent) (i : Nat) : Nat := match L[i]? with
  | none => 0
  | some e => entW (if i = 0 then none else (L[i - 1]?).map (·.1)) e
theorem entE_0 {L : List Ent} (h : 0 < L.length) : entE L 0 = entW none L[0] := by unfold entE; rw [List.getElem?_eq_getElem h]; rfl
theorem entE_1 {L : List Ent} {k : Nat} (h : k + 1 < L.length) : entE L (k + 1) = entW (some (L[k]'(by omega)).1) L[k + 1] := by
  unfold entE
  rw [List.getElem?_eq_getElem h]
  simp only [Nat.add_sub_cancel, List.getElem?_eq_getElem (show k < L.length by omega)]
  rw [if_neg (by omega)]; rfl
def reqE2 (Q : List Raw) (L : List Ent) (i : Nat) : Nat := match L[i]? with
  | none => 0
  | some e => codeE (nonE Q e.2.1) e.2.1.length
theorem reqE2_at {Q : List Raw} {L : List Ent} {i : Nat} (h : i < L.length) : reqE2 Q L i = codeE (nonE Q L[i].2.1) L[i].2.1.length := by unfold reqE2; rw [List.getElem?_eq_getElem h]
def chk (Q : List Raw) (L : List Ent) : Nat × Option Nat := if 100 < L.length then (7, none) else match fstE (entE L) L.length with
  | some i => (entE L i, some i)
  | none => (codeE (reqE2 Q L) L.length, fstE (reqE2 Q L) L.length)
theorem chk_full {Q : List Raw} {L : List Ent} (h : 100 < L.length) : chk Q L = (7, none) := by unfold chk; rw [if_pos h]
theorem chk_each {Q : List Raw} {L : List Ent} {i : Nat} (h : ¬ 100 < L.length) (hi : fstE (entE L) L.length = some i) : chk Q L = (entE L i, some i) := by unfold chk; rw [if_neg h, hi]
theorem chk_reqs {Q : List Raw} {L : List Ent} (h : ¬ 100 < L.length) (hi : fstE (entE L) L.length = none) : chk Q L = (codeE (reqE2 Q L) L.length, fstE (reqE2 Q L) L.length) := by unfold chk; rw [if_neg h, hi]
theorem eachK_any (Q : List Raw) (L : List Ent) (v : Value) (b : Nat) (A : Nat → Addr) (m : Int) (W : World) (hL : L.length ≤ 1000000) (sh : ∀ e, e ∈ L → ShE e) (S : Te W A m) (h1 : W.cell? ⟨b, 0, none⟩ = some v) (I : Ixs W v Q L) (i : Nat) (hi : i < Q.length) :
    Calls Tryz.prog 131 (#[.int .i64 (i : Int), rawV Q[i]] ++ #[.pointer (some ⟨b, 0, none⟩)]) W fun e w' => e = .returned (errA A (entE L i)) ∧ Below W.heap.size W w' := by
  have hiL : i < L.length := by rw [← I.ln]; exact hi
  have ok := I.ok i hi hiL
  have she := sh L[i] (List.getElem_mem hiL)
  obtain ⟨a, c, hv, _, hs, hc⟩ := id I.es
  have hsl := hs Q[i] (List.getElem_mem hi)
  cases i with
  | zero =>
    rw [entE_0 hiL]
    generalize hq : Q[0] = r at *
    generalize he : L[0] = e at *
    obtain ⟨⟨p, q⟩, rv, pv, bk⟩ := r
    obtain ⟨⟨p', q'⟩, eR, eP, bk'⟩ := e
    obtain ⟨hm, hrq, hpk, hbk⟩ := ok
    simp only at hm hrq hpk hbk
    subst hbk
    obtain ⟨rfl, rfl⟩ : p = p' ∧ q = q' := by injection hm with h1 h2; exact ⟨h1, h2⟩
    by_cases hb : mErr (p, q) = 0
    · exact eachK_0 none rfl p q rv pv eR eP bk b A m W hsl she S hb hrq hpk
    · rw [entW_bad hb]
      exact eachK_bad p q rv pv bk 0 b A m W hsl she.p she.v S hb
  | succ k =>
    rw [entE_1 hiL]
    have hkq : k < Q.length := by omega
    have hkL : k < L.length := by omega
    have okk := (I.ok k hkq hkL).m
    have shk := sh L[k] (List.getElem_mem hkL)
    obtain ⟨bb, oo, ha, hcc⟩ := hc (by intro h; rw [h] at hkq; simp at hkq)
    obtain ⟨y0, y1, _⟩ := hcc k hkq
    generalize hq : Q[k + 1] = r at *
    generalize he : L[k + 1] = e at *
    generalize hpr : L[k].1 = pr at *
    obtain ⟨⟨p, q⟩, rv, pv, bk⟩ := r
    obtain ⟨⟨p', q'⟩, eR, eP, bk'⟩ := e
    obtain ⟨p0, q0⟩ := pr
    obtain ⟨hm, hrq, hpk, hbk⟩ := ok
    simp only at hm hrq hpk hbk
    subst hbk
    obtain ⟨rfl, rfl⟩ : p = p' ∧ q = q' := by injection hm with h1 h2; exact ⟨h1, h2⟩
    by_cases hb : mErr (p, q) = 0
    · refine eachK_1 (some (p0, q0)) k p0 q0 rfl p q rv pv eR eP bk b A m W hsl she S hb hrq hpk bb oo Q.length c hkq (by rw [I.ln]; exact hL) ?_ ?_ ?_ ?_
      · have := shk.v; rw [hpr] at this; exact this
      · rw [h1, hv, ha]
      · rw [okk] at y0; exact y0
      · rw [okk] at y1; exact y1
    · rw [entW_bad hb]
      exact eachK_bad p q rv pv bk (k + 1) b A m W hsl she.p she.v S hb
set_option maxHeartbeats 2000000 in
theorem each_any (Q : List Raw) (L : List Ent) (v : Value) (A : Nat → Addr) (m : Int) (w : World) (hL : L.length ≤ 1000000) (sh : ∀ e, e ∈ L → ShE e) (S : Te w A m) (I : Ixs w v Q L) :
    Calls Tryz.prog 84 #[v] w fun e w' => ∃ x, e = .returned x ∧ ErrAt w' A x (codeE (entE L) L.length) (fstE (entE L) L.length) ∧ Below w.heap.size w w' := by
  obtain ⟨a, c, hv1, _⟩ := id I.es
  subst hv1
  have HB0 := hid ((Below.refl w.heap.size w).alloc (Nat.le_refl _) (.cells #[.slice a Q.length c] 22))
  have eg : ∀ args w, (callFunc 131 args).run Tryz.prog w = .ok (.enter 131 args) w := enters_of Tryz.func131 (by kernel_rfl) rfl
  have HF := hid (firstE_any 131 #[.pointer (some ⟨w.heap.size, 0, none⟩)] (entE L) Q _ A (w.alloc (.cells #[.slice a Q.length c] 22)) eg (by rw [I.ln]; exact hL) (I.es.below HB0.out) (fun i hi W hW =>
    eachK_any Q L _ w.heap.size A m W hL sh ((S.below HB0.out).below hW) (cell_below hW (by simp)) ((I.below HB0.out).below hW) i hi))
  have HLN := hid I.ln
  clear S I eg
  go_enter Tryz.func84, Tryz.ntmps84
  go_wp2_with fail
  refine HF.out.mono ?_
  rintro e w1 ⟨u, rfl, he, hb⟩
  have HB := hid (HB0.out.trans (hb.mono HB0.out.size))
  rw [HLN.out] at he
  have HE := hid he
  clear hb he
  go_wp2_with fail
  go_ret
  exact ⟨_, rfl, HE.out, HB.out⟩
set_option maxHeartbeats 4000000 in
theorem icheck_any (Q : List Raw) (L : List Ent) (v : Value) (A : Nat → Addr) (m : Int) (w : World) (hL : L.length ≤ 1000000) (sh : ∀ e, e ∈ L → ShE e) (S : Te w A m) (I : Ixs w v Q L) :
    Calls Tryz.prog 56 #[v] w fun e w' => ∃ x, e = .returned x ∧ ErrAt w' A x (chk Q L).1 (chk Q L).2 ∧ Below w.heap.size w w' := by
  obtain ⟨a, c, hv1, _, hs, _⟩ := id I.es
  subst hv1
  have HB0 := hid ((Below.refl w.heap.size w).alloc (Nat.le_refl _) (.cells #[.slice a Q.length c] 22))
  have HEA := hid (each_any Q L _ A m _ hL sh (S.below HB0.out) (I.below HB0.out))
  have hln := I.ln
  have HS := hid S
  have HI := hid I
  have HSL := hid hs
  have HSH := hid sh
  have c0 : (w.alloc (.cells #[.slice a Q.length c] 22)).cell? ⟨w.heap.size, 0, none⟩ = some (.slice a Q.length c) := by simp
  have HC0 := hid c0
  rw [hln] at c0
  have eg : ∀ args w, (callFunc 86 args).run Tryz.prog w = .ok (.enter 86 args) w := enters_of Tryz.func86 (by kernel_rfl) rfl
  have HEG := hid eg
  clear S I hs sh eg
  by_cases h1 : 100 < L.length
  · have q1 : (100 : Int) < (L.length : Int) := by omega
    have g6 := (HS.out.below HB0.out).sen.g6
    rw [chk_full h1, hln]
    rw [hln] at HB0
    clear h1 HEA
    go_enter Tryz.func56, Tryz.ntmps56
    rw [hln] at g6
    go_wp2_with fail
    go_ret
    exact ⟨_, rfl, rfl, HB0.out⟩
  · have q1 : ¬ (100 : Int) < (L.length : Int) := by omega
    have H1 := hid h1
    rw [hln] at HB0 HEA ⊢
    clear h1
    go_enter Tryz.func56, Tryz.ntmps56
    go_wp2_with fail
    refine HEA.out.mono ?_
    rintro e w1 ⟨x, rfl, he, hb⟩
    have HB1 := hid (HB0.out.trans (hb.mono HB0.out.size))
    have c1 := cell_below hb c0
    have HC1 := hid c1
    clear hb HEA
    cases hf : fstE (entE L) L.length with
    | some i =>
      rw [hf, codeE_some hf] at he
      have HX := hid (chk_each (Q := Q) H1.out hf)
      have HE := hid he
      obtain ⟨_, fb, hu, _⟩ := he
      subst hu
      clear hf
      go_wp2_with fail
      go_ret
      exact ⟨_, rfl, by rw [HX.out]; exact HE.out, HB1.out⟩
    | none =>
      rw [hf, codeE_none hf] at he
      have he : x = errA A 0 := he
      rw [errA0] at he
      subst he
      have HX := hid (chk_reqs (Q := Q) H1.out hf)
      have HF := hid (firstE_any 86 #[.pointer (some ⟨w.heap.size, 0, none⟩)] (reqE2 Q L) Q (.slice a Q.length c) A w1 HEG.out (by rw [hln]; exact hL) ((HI.out.es).below HB1.out) (fun i hi W hW => by
        have hiL : i < L.length := by rw [← hln]; exact hi
        rw [reqE2_at hiL]
        exact checkK_any Q Q[i] L[i].2.1 i w.heap.size (.slice a Q.length c) A m W (by rw [hln]; exact hL) (HSH.out L[i] (List.getElem_mem hiL)).rn ((HS.out.below HB1.out).below hW) (cell_below hW (by rw [hln]; exact HC1.out)) ((HI.out.es.below HB1.out).below hW) (HSL.out Q[i] (List.getElem_mem hi)) ((HI.out.ok i hi hiL).rq.below (HB1.out.trans (hW.mono HB1.out.size)))))
      rw [hln] at HF
      clear hf
      go_wp2_with fail
      refine HF.out.mono ?_
      rintro e w2 ⟨x, rfl, he, hb⟩
      have HB2 := hid (HB1.out.trans (hb.mono HB1.out.size))
      have HE := hid he
      clear hb he
      go_wp2_with fail
      go_ret
      exact ⟨_, rfl, by rw [HX.out]; exact HE.out, HB2.out⟩
end Ve
end Go.Proofs.YtoaobngpdaidoaaGreatDoor


namespace Go.Proofs.YtoaobngpdaidoaaGreatDoor
open Go.RowKit
namespace Ve
theorem cbt : ∀ (a b c : List UInt8), Lib.compareBytes a b < 0 → Lib.compareBytes b c < 0 → Lib.compareBytes a c < 0 := by
  intro a
  induction a with
  | nil =>
    intro b c h1 h2
    cases c with
    | nil => cases b <;> simp [Lib.compareBytes] at h2
    | cons z c => simp [Lib.compareBytes]
  | cons x a ih =>
    intro b c h1 h2
    cases b with
    | nil => simp [Lib.compareBytes] at h1
    | cons y b =>
      cases c with
      | nil => simp [Lib.compareBytes] at h2
      | cons z c =>
        simp only [Lib.compareBytes] at h1 h2 ⊢
        by_cases e1 : x < y
        · by_cases e2 : y < z
          · rw [if_pos (UInt8.lt_trans e1 e2)]; omega
          · rw [if_neg e2] at h2
            by_cases e3 : z < y
            · rw [if_pos e3] at h2; omega
            · have : y = z := UInt8.le_antisymm (UInt8.not_lt.1 e3) (UInt8.not_lt.1 e2)
              subst this
              rw [if_pos e1]; omega
        · rw [if_neg e1] at h1
          by_cases e2 : y < x
          · rw [if_pos e2] at h1; omega
          · have : x = y := UInt8.le_antisymm (UInt8.not_lt.1 e2) (UInt8.not_lt.1 e1)
            subst this
            rw [if_neg e2] at h1
            by_cases e3 : x < z
            · rw [if_pos e3]; omega
            · rw [if_neg e3] at h2 ⊢
              by_cases e4 : z < x
              · rw [if_pos e4] at h2; omega
              · rw [if_neg e4] at h2 ⊢
                exact ih b c h1 h2
def lt (a b : ByteArray) : Bool := decide (Lib.compareBytes a.data.toList b.data.toList < 0)
theorem lt_trans {a b c : ByteArray} (h1 : lt a b = true) (h2 : lt b c = true) : lt a c = true := decide_eq_true (cbt _ _ _ (of_decide_eq_true h1) (of_decide_eq_true h2))
theorem lt_irrefl (a : ByteArray) : lt a a = false := by
  unfold lt; rw [(cb_zero _ _).2 rfl]; rfl
theorem lt_asymm {a b : ByteArray} (h : lt a b = true) : lt b a = false := by
  cases h2 : lt b a
  · rfl
  · have := lt_trans h h2
    rw [lt_irrefl] at this; cases this
theorem lt_three (a b : ByteArray) : lt a b = true ∨ a = b ∨ lt b a = true := by
  rcases cb_range a.data.toList b.data.toList with h | h | h
  · exact Or.inl (decide_eq_true (by omega))
  · exact Or.inr (Or.inl (str_ext ((cb_zero _ _).1 h)))
  · refine Or.inr (Or.inr (decide_eq_true ?_))
    rw [cb_swap]; omega
theorem noLess_lt (a b : ByteArray) : noLess a b = !lt a b := rfl
def rising (R : List Bm) : Prop := R.Pairwise (fun a b => lt a.1 b.1 = true)
end Ve
end Go.Proofs.YtoaobngpdaidoaaGreatDoor


namespace Go.Proofs.YtoaobngpdaidoaaGreatDoor
namespace Ve
theorem ordPart_swap (a b : List UInt8) : ordPart b a = -ordPart a b := by
  unfold ordPart
  cases h1 : digs a <;> cases h2 : digs b
  · simp only [Bool.false_eq_true, if_false]; exact cb_swap a b
  · simp
  · simp
  · simp only [if_true]; exact fst_swap (ci_swap _ _) (cb_swap _ _)
theorem ordPart_zero (a b : List UInt8) : ordPart a b = 0 ↔ a = b := by
  unfold ordPart
  cases h1 : digs a <;> cases h2 : digs b
  · simp only [Bool.false_eq_true, if_false]; exact cb_zero a b
  · simp only [Bool.false_eq_true, if_false, if_true]
    constructor
    · intro h; cases h
    · intro h; subst h; rw [h1] at h2; cases h2
  · simp only [Bool.false_eq_true, if_false, if_true]
    constructor
    · intro h; cases h
    · intro h; subst h; rw [h1] at h2; cases h2
  · simp only [if_true]
    rw [fst_zero, cb_zero]
    constructor
    · intro h; exact h.2
    · intro h; subst h; exact ⟨ci_self _, rfl⟩
theorem ordPs_swap : ∀ (a b : List (List UInt8)), ordPs b a = -ordPs a b
  | [], [] => rfl
  | [], _ :: _ => rfl
  | _ :: _, [] => rfl
  | x :: xs, y :: ys => fst_swap (ordPart_swap x y) (ordPs_swap xs ys)
theorem ordPs_zero : ∀ (a b : List (List UInt8)), ordPs a b = 0 ↔ a = b
  | [], [] => by simp [ordPs]
  | [], _ :: _ => by simp [ordPs]
  | _ :: _, [] => by simp [ordPs]
  | x :: xs, y :: ys => by
    unfold ordPs
    rw [fst_zero, ordPart_zero, ordPs_zero xs ys]
    simp
theorem ordPre_swap (a b : List (List UInt8)) : ordPre b a = -ordPre a b := by
  unfold ordPre
  by_cases h : a = [] ∨ b = []
  · rw [if_pos h, if_pos h.symm]; exact ci_swap _ _
  · rw [if_neg h, if_neg (fun k => h k.symm)]; exact ordPs_swap a b
theorem ordPre_zero (a b : List (List UInt8)) : ordPre a b = 0 ↔ a = b := by
  unfold ordPre
  by_cases h : a = [] ∨ b = []
  · rw [if_pos h, ci_zero]
    constructor
    · intro e
      rcases h with h | h
      · subst h; simp at e; exact e.symm
      · subst h; simp at e; exact List.length_eq_zero_iff.1 (by omega)
    · intro e; subst e; rfl
  · rw [if_neg h]; exact ordPs_zero a b
theorem ordV_swap (s t : List UInt8) : ordV t s = -ordV s t :=
  fst_swap (ci_swap _ _) (fst_swap (ci_swap _ _) (fst_swap (ci_swap _ _) (ordPre_swap _ _)))
theorem ordV_zero {s t : List UInt8} (hs : verErr s = 0) (ht : verErr t = 0) : ordV s t = 0 ↔ s = t := by
  unfold ordV ordN
  rw [fst_zero, fst_zero, fst_zero, ci_zero, ci_zero, ci_zero, ordPre_zero]
  constructor
  · rintro ⟨h0, h1, h2, h3⟩
    rw [← text_back s hs, ← text_back t ht, h0, h1, h2, h3]
  · intro h; subst h; exact ⟨rfl, rfl, rfl, rfl⟩
theorem ordV_range (s t : List UInt8) : ordV s t = -1 ∨ ordV s t = 0 ∨ ordV s t = 1 := ordN_range _ _ _ _ _ _ _ _
end Ve
end Go.Proofs.YtoaobngpdaidoaaGreatDoor


namespace Go.Proofs.YtoaobngpdaidoaaGreatDoor
namespace Ve
theorem fst_lt {a b : Int} : fst a b < 0 ↔ a < 0 ∨ a = 0 ∧ b < 0 := by
  unfold fst
  by_cases h : a = 0
  · rw [if_pos h]; subst h; simp
  · rw [if_neg h]; simp [h]
theorem lex_trans {a1 a2 a3 b1 b2 b3 : Int} (h12 : a1 < 0 → a2 < 0 → a3 < 0) (h0l : a1 = 0 → a3 = a2) (h0r : a2 = 0 → a3 = a1) (hb : a1 = 0 → a2 = 0 → b1 < 0 → b2 < 0 → b3 < 0) :
    fst a1 b1 < 0 → fst a2 b2 < 0 → fst a3 b3 < 0 := by
  rw [fst_lt, fst_lt, fst_lt]
  rintro (h1 | ⟨h1, k1⟩) (h2 | ⟨h2, k2⟩)
  · exact Or.inl (h12 h1 h2)
  · exact Or.inl (by rw [h0r h2]; exact h1)
  · exact Or.inl (by rw [h0l h1]; exact h2)
  · exact Or.inr ⟨by rw [h0l h1]; exact h2, hb h1 h2 k1 k2⟩
theorem ci_trans {x y z : Int} (h1 : Lib.compareInt x y < 0) (h2 : Lib.compareInt y z < 0) : Lib.compareInt x z < 0 := by
  have e1 : x < y := by
    unfold Lib.compareInt at h1
    split at h1
    · assumption
    · split at h1 <;> omega
  have e2 : y < z := by
    unfold Lib.compareInt at h2
    split at h2
    · assumption
    · split at h2 <;> omega
  rw [ci_lt (by omega)]; decide
theorem cb_trans : ∀ (a b c : List UInt8), Lib.compareBytes a b < 0 → Lib.compareBytes b c < 0 → Lib.compareBytes a c < 0
  | [], [], _, h, _ => by simp [Lib.compareBytes] at h
  | [], _ :: _, [], _, h => by simp [Lib.compareBytes] at h
  | [], _ :: _, _ :: _, _, _ => by simp [Lib.compareBytes]
  | _ :: _, [], _, h, _ => by simp [Lib.compareBytes] at h
  | _ :: _, _ :: _, [], _, h => by simp [Lib.compareBytes] at h
  | x :: a, y :: b, z :: c, h1, h2 => by
    unfold Lib.compareBytes at h1 h2 ⊢
    by_cases h3 : x < y
    · by_cases h4 : y < z
      · rw [if_pos (UInt8.lt_trans h3 h4)]; decide
      · rw [if_neg h4] at h2
        by_cases h5 : z < y
        · rw [if_pos h5] at h2; omega
        · have := u8_eq h4 h5
          subst this
          rw [if_pos h3]; decide
    · rw [if_neg h3] at h1
      by_cases h4 : y < x
      · rw [if_pos h4] at h1; omega
      · rw [if_neg h4] at h1
        have := u8_eq h3 h4
        subst this
        by_cases h5 : x < z
        · rw [if_pos h5]; decide
        · rw [if_neg h5] at h2 ⊢
          by_cases h6 : z < x
          · rw [if_pos h6] at h2; omega
          · rw [if_neg h6] at h2 ⊢
            exact cb_trans a b c h1 h2
theorem ordPart_trans {a b c : List UInt8} (h1 : ordPart a b < 0) (h2 : ordPart b c < 0) : ordPart a c < 0 := by
  unfold ordPart at *
  cases ha : digs a <;> cases hb : digs b <;> cases hc : digs c <;> rw [ha, hb] at h1 <;> rw [hb, hc] at h2
  · exact cb_trans _ _ _ h1 h2
  · exact absurd (show (1 : Int) < 0 from h2) (by decide)
  · exact absurd (show (1 : Int) < 0 from h1) (by decide)
  · exact absurd (show (1 : Int) < 0 from h1) (by decide)
  · show (-1 : Int) < 0; decide
  · exact absurd (show (1 : Int) < 0 from h2) (by decide)
  · show (-1 : Int) < 0; decide
  · refine lex_trans (fun h k => ci_trans h k) ?_ ?_ (fun _ _ h k => cb_trans _ _ _ h k) h1 h2
    · intro h; rw [(ci_zero _ _).1 h]
    · intro h; rw [(ci_zero _ _).1 h]
theorem ordPs_trans : ∀ (a b c : List (List UInt8)), ordPs a b < 0 → ordPs b c < 0 → ordPs a c < 0
  | [], [], _, h, _ => by simp [ordPs] at h
  | [], _ :: _, [], _, h => by simp [ordPs] at h
  | [], _ :: _, _ :: _, _, _ => by simp [ordPs]
  | _ :: _, [], _, h, _ => by simp [ordPs] at h
  | _ :: _, _ :: _, [], _, h => by simp [ordPs] at h
  | x :: a, y :: b, z :: c, h1, h2 => by
    unfold ordPs at h1 h2 ⊢
    refine lex_trans (fun h k => ordPart_trans h k) ?_ ?_ (fun _ _ h k => ordPs_trans a b c h k) h1 h2
    · intro h; rw [(ordPart_zero _ _).1 h]
    · intro h; rw [(ordPart_zero _ _).1 h]
theorem ordPre_trans {a b c : List (List UInt8)} (h1 : ordPre a b < 0) (h2 : ordPre b c < 0) : ordPre a c < 0 := by
  unfold ordPre at *
  by_cases ha : a = []
  · subst ha
    rw [if_pos (Or.inl rfl)] at h1
    exfalso
    have : ¬ Lib.compareInt (b.length : Int) (([] : List (List UInt8)).length : Int) < 0 := by
      unfold Lib.compareInt
      split
      · rename_i h; simp at h; omega
      · split <;> omega
    exact this h1
  · by_cases hb : b = []
    · subst hb
      rw [if_pos (Or.inl rfl)] at h2
      exfalso
      have : ¬ Lib.compareInt (c.length : Int) (([] : List (List UInt8)).length : Int) < 0 := by
        unfold Lib.compareInt
        split
        · rename_i h; simp at h; omega
        · split <;> omega
      exact this h2
    · by_cases hc : c = []
      · subst hc
        rw [if_pos (Or.inr rfl)]
        rw [ci_lt (by have := List.length_pos_iff.2 ha; simp; omega)]; decide
      · rw [if_neg (by rintro (h | h); exact ha h; exact hb h)] at h1
        rw [if_neg (by rintro (h | h); exact hb h; exact hc h)] at h2
        rw [if_neg (by rintro (h | h); exact ha h; exact hc h)]
        exact ordPs_trans a b c h1 h2
theorem ordV_trans {s t u : List UInt8} (h1 : ordV s t < 0) (h2 : ordV t u < 0) : ordV s u < 0 := by
  unfold ordV ordN at *
  refine lex_trans (fun h k => ci_trans h k) ?_ ?_ (fun _ _ => lex_trans (fun h k => ci_trans h k) ?_ ?_ (fun _ _ => lex_trans (fun h k => ci_trans h k) ?_ ?_ (fun _ _ h k => ordPre_trans h k))) h1 h2
  all_goals (intro h; rw [(ci_zero _ _).1 h])
theorem ordV_irr {s t : List UInt8} (h : ordV s t < 0) : ¬ ordV t s < 0 := by rw [ordV_swap s t]; omega
def rises (l : List (List UInt8)) : Prop := l.Pairwise fun s t => ordV s t < 0
end Ve
end Go.Proofs.YtoaobngpdaidoaaGreatDoor


namespace Go.Proofs.YtoaobngpdaidoaaGreatDoor
open Go.RowKit
namespace Ve
theorem mAhead_trans {a b c : Bm} (h1 : mAhead a b = true) (h2 : mAhead b c = true) : mAhead a c = true := by
  unfold mAhead aheadB at *
  by_cases e1 : a.1.data.toList = b.1.data.toList
  · rw [if_pos e1] at h1
    rw [e1]
    by_cases e2 : b.1.data.toList = c.1.data.toList
    · rw [if_pos e2] at h2 ⊢
      unfold lessB at *
      simp only [Bool.and_eq_true, decide_eq_true_eq] at *
      exact ⟨h1.1, h2.2.1, ordV_trans h1.2.2 h2.2.2⟩
    · rw [if_neg e2] at h2 ⊢; exact h2
  · rw [if_neg e1] at h1
    by_cases e2 : b.1.data.toList = c.1.data.toList
    · rw [← e2, if_neg e1]; exact h1
    · rw [if_neg e2] at h2
      have h3 := cbt _ _ _ (of_decide_eq_true h1) (of_decide_eq_true h2)
      by_cases e3 : a.1.data.toList = c.1.data.toList
      · rw [e3] at h3
        have := lt_irrefl c.1
        unfold lt at this
        exact absurd h3 (of_decide_eq_false this)
      · rw [if_neg e3]; exact decide_eq_true h3
theorem mAhead_irr (a : Bm) : mAhead a a = false := by
  unfold mAhead aheadB
  rw [if_pos rfl]
  unfold lessB
  have : ¬ ordV a.2.data.toList a.2.data.toList < 0 := fun h => ordV_irr h h
  rw [decide_eq_false this, Bool.and_false, Bool.and_false]
theorem chk_each0 {Q : List Raw} {L : List Ent} (h : (chk Q L).1 = 0) : L.length ≤ 100 ∧ ∀ i, i < L.length → entE L i = 0 := by
  by_cases h1 : 100 < L.length
  · rw [chk_full h1] at h; exact absurd h (by decide)
  · refine ⟨by omega, ?_⟩
    cases hf : fstE (entE L) L.length with
    | some i =>
      rw [chk_each h1 hf] at h
      exact absurd h (fstE_of_some hf).2.1
    | none => exact fstE_of_none hf
theorem entE_mod {L : List Ent} {i : Nat} (hi : i < L.length) (h : entE L i = 0) : mErr L[i].1 = 0 := by
  by_cases hm : mErr L[i].1 = 0
  · exact hm
  · unfold entE at h
    rw [List.getElem?_eq_getElem hi] at h
    simp only at h
    rw [entW_bad hm] at h
    exact absurd h hm
theorem entE_ahead {L : List Ent} {k : Nat} (hk : k + 1 < L.length) (h : entE L (k + 1) = 0) : mAhead (L[k]'(by omega)).1 L[k + 1].1 = true := by
  have hm := entE_mod hk h
  rw [entE_1 hk] at h
  cases ha : mAhead (L[k]'(by omega)).1 L[k + 1].1
  · rw [entW_order hm ha] at h; exact absurd h (by decide)
  · rfl
theorem ahead_all {L : List Ent} (h : ∀ i, i < L.length → entE L i = 0) : ∀ (d i : Nat) (hi : i + d + 1 < L.length), mAhead (L[i]'(by omega)).1 (L[i + d + 1]'hi).1 = true
  | 0, i, hi => entE_ahead hi (h _ hi)
  | d + 1, i, hi => mAhead_trans (ahead_all h d i (by omega)) (entE_ahead (k := i + d + 1) hi (h _ hi))
structure Good (Q : List Raw) : Prop where
  ver : ∀ r, r ∈ Q → verErr r.1.2.data.toList = 0
  path : ∀ r, r ∈ Q → pathErr r.1.1.data.toList = 0
  one : ∀ i j (hi : i < Q.length) (hj : j < Q.length), Q[i].1 = Q[j].1 → i = j
theorem mErr_zero {m : Bm} (h : mErr m = 0) : pathErr m.1.data.toList = 0 ∧ verErr m.2.data.toList = 0 := by
  unfold mErr modErr at h
  by_cases h0 : pathErr m.1.data.toList = 0
  · rw [if_pos h0] at h
    by_cases h1 : verErr m.2.data.toList = 0
    · exact ⟨h0, h1⟩
    · rw [if_neg h1] at h; exact absurd h h1
  · rw [if_neg h0] at h; exact absurd h h0
theorem good_of {w : World} {v : Value} {Q : List Raw} {L : List Ent} (I : Ixs w v Q L) (h : (chk Q L).1 = 0) : Good Q := by
  obtain ⟨_, he⟩ := chk_each0 h
  have hm : ∀ i (hi : i < Q.length), Q[i].1 = (L[i]'(by rw [← I.ln]; exact hi)).1 := fun i hi => (I.ok i hi (by rw [← I.ln]; exact hi)).m
  have hz : ∀ i (hi : i < Q.length), pathErr Q[i].1.1.data.toList = 0 ∧ verErr Q[i].1.2.data.toList = 0 := fun i hi => by
    rw [hm i hi]; exact mErr_zero (entE_mod _ (he i (by rw [← I.ln]; exact hi)))
  refine ⟨fun r hr => ?_, fun r hr => ?_, ?_⟩
  · obtain ⟨i, hi, rfl⟩ := List.getElem_of_mem hr
    exact (hz i hi).2
  · obtain ⟨i, hi, rfl⟩ := List.getElem_of_mem hr
    exact (hz i hi).1
  · have key : ∀ i j (hi : i < Q.length) (hj : j < Q.length), i < j → Q[i].1 ≠ Q[j].1 := fun i j hi hj hij e => by
      have ha := ahead_all he (j - i - 1) i (by rw [← I.ln]; omega)
      have hjj : i + (j - i - 1) + 1 = j := by omega
      simp only [hjj] at ha
      rw [← hm i hi, ← hm j hj, e, mAhead_irr] at ha
      cases ha
    intro i j hi hj e
    rcases Nat.lt_trichotomy i j with h1 | h1 | h1
    · exact absurd e (key i j hi hj h1)
    · exact h1
    · exact absurd e.symm (key j i hj hi h1)
theorem Good.same {Q : List Raw} (g : Good Q) {r s : Raw} (hr : r ∈ Q) (hs : s ∈ Q) (h : r.1 = s.1) : r = s := by
  obtain ⟨i, hi, rfl⟩ := List.getElem_of_mem hr
  obtain ⟨j, hj, rfl⟩ := List.getElem_of_mem hs
  have := g.one i j hi hj h
  subst this; rfl
theorem Good.find {Q : List Raw} (g : Good Q) {r : Raw} (hr : r ∈ Q) : ∃ n, ∃ hn : n < Q.length, idxOf (isM r.1) Q = (n : Int) ∧ Q[n] = r := by
  obtain ⟨i, hi, e⟩ := List.getElem_of_mem hr
  refine ⟨i, hi, idx_hit hi (fun j hj hji => ?_) (by rw [e]; unfold isM; simp), e⟩
  unfold isM
  rw [decide_eq_false]
  rintro ⟨h1, h2⟩
  have := g.one j i hj hi (by rw [e]; exact Prod.ext h1 h2)
  omega
end Ve
end Go.Proofs.YtoaobngpdaidoaaGreatDoor


namespace Go.Proofs.YtoaobngpdaidoaaGreatDoor
open Go.RowKit
namespace Ve
theorem idx_is {P : Raw → Bool} {L : List Raw} {k : Nat} (h : idxOf P L = (k : Int)) : ∃ hk : k < L.length, P L[k] = true := by
  unfold idxOf at h
  cases h1 : fstE (idxE P L) L.length with
  | none => rw [h1] at h; simp only at h; omega
  | some j =>
    rw [h1] at h
    simp only at h
    have e : j = k := by omega
    subst e
    obtain ⟨a, b, _⟩ := fstE_of_some h1
    refine ⟨a, ?_⟩
    rw [idxE_at a] at b
    cases hp : P L[j] with
    | true => rfl
    | false => rw [hp] at b; exact absurd rfl b
theorem ErrAt.kind {W : World} {A : Nat → Addr} {x : Value} {c : Nat} {o : Option Nat} (h : ErrAt W A x c o) : (c = 0 ∧ x = .nilIface) ∨ (c ≠ 0 ∧ ∃ T a, x = .iface T (.pointer (some a))) := by
  cases o with
  | none =>
    have h : x = errA A c := h
    by_cases hc : c = 0
    · subst hc; exact Or.inl ⟨rfl, h⟩
    · obtain ⟨a, ha⟩ := errA_ne A hc
      exact Or.inr ⟨hc, _, a, h.trans ha⟩
  | some i =>
    obtain ⟨h1, b, h2, _⟩ := h
    exact Or.inr ⟨h1, _, _, h2⟩
theorem okI_iff {L : List Ent} (h : okI L = true) : (L.length ≤ 30 ∨ L.length = 101) ∧ ∀ e, e ∈ L → e.1.1.size ≤ 70 ∧ e.1.2.size ≤ 60 ∧ e.2.1.length ≤ 25 ∧ (∀ m, m ∈ e.2.1 → m.1.size ≤ 70 ∧ m.2.size ≤ 60) ∧ e.2.2.1.length ≤ 15 ∧ ∀ x, x ∈ e.2.2.1 → x.size ≤ 70 := by
  unfold okI at h
  rw [Bool.and_eq_true] at h
  obtain ⟨h1, h2⟩ := h
  refine ⟨by simpa [okN] using h1, fun e he => ?_⟩
  have h3 := List.all_eq_true.1 h2 e he
  unfold okE at h3
  simp only [Bool.and_eq_true, decide_eq_true_eq] at h3
  obtain ⟨⟨⟨⟨a, b⟩, c⟩, d⟩, f⟩ := h3
  obtain ⟨c1, c2⟩ := okL_iff c
  refine ⟨a, b, c1, c2, d, fun x hx => ?_⟩
  have := List.all_eq_true.1 f x hx
  simpa using this
theorem okI_sh {L : List Ent} (h : okI L = true) : ∀ e, e ∈ L → ShE e := fun e he => by
  obtain ⟨a, b, c, d, f, g⟩ := (okI_iff h).2 e he
  exact ⟨by omega, by omega, by omega, fun m hm => ⟨by have := (d m hm).1; omega, by have := (d m hm).2; omega⟩, by omega, fun x hx => by have := g x hx; omega⟩
theorem okI_fits {L : List Ent} (h : okI L = true) : ∀ e, e ∈ L → Fits e := fun e he => by
  obtain ⟨a, b, c, d, f, g⟩ := (okI_iff h).2 e he
  exact ⟨by omega, by omega⟩
theorem ixs_sz {w : World} {v : Value} {Q : List Raw} {L : List Ent} (I : Ixs w v Q L) (h : okI L = true) : ∀ r, r ∈ Q → r.1.1.size ≤ 80 ∧ r.1.2.size ≤ 80 := fun r hr => by
  obtain ⟨j, hj, rfl⟩ := List.getElem_of_mem hr
  have hj2 : j < L.length := by rw [← I.ln]; exact hj
  have hm := (I.ok j hj hj2).m
  obtain ⟨a, b, _⟩ := (okI_iff h).2 L[j] (List.getElem_mem hj2)
  rw [hm]
  exact ⟨by omega, by omega⟩
theorem nx_idx {t n : Nat} (h : t < n) (h2 : n ≤ 1000000) : Value.int .i64 (wrap64 ((t : Int) + 1)) = .int .i64 ((t + 1 : Nat) : Int) := by
  rw [IntWalk.wrap64_in _ (by omega)]; rfl
theorem nx_meas {t n : Nat} (h : t < n) (h2 : n ≤ 1000000) : n - (intOf (Value.int .i64 (wrap64 ((t : Int) + 1)))).toNat < n - (intOf (Value.int .i64 (t : Int))).toNat := by
  rw [IntWalk.wrap64_in _ (by omega)]
  show n - ((t : Int) + 1).toNat < n - ((t : Int)).toNat
  omega
theorem nr_idx (t : Nat) : Value.int .i64 ((t : Int) + 1) = .int .i64 ((t + 1 : Nat) : Int) := rfl
theorem nr_meas {t n : Nat} (h : t < n) : n - (intOf (Value.int .i64 ((t : Int) + 1))).toNat < n - (intOf (Value.int .i64 (t : Int))).toNat := by
  show n - ((t : Int) + 1).toNat < n - ((t : Int)).toNat
  omega
end Ve
end Go.Proofs.YtoaobngpdaidoaaGreatDoor


namespace Go.Proofs.YtoaobngpdaidoaaGreatDoor
open Go.RowKit Go.Maps
namespace Ve
def univ (L : List Ent) : List Bm := L.map fun e => e.1
theorem univ_len (L : List Ent) : (univ L).length = L.length := by simp [univ]
def reqQ (Q : List Raw) (L : List Ent) (m : Bm) : List Bm := if idxOf (isM m) Q < 0 then [] else ((L[(idxOf (isM m) Q).toNat]?).map fun e => e.2.1).getD []
theorem ixs_get {w : World} {v : Value} {Q : List Raw} {L : List Ent} (I : Ixs w v Q L) {j : Nat} (hj : j < Q.length) : ∃ hj' : j < L.length, Q[j].1 = L[j].1 := by
  have hj' : j < L.length := by rw [← I.ln]; exact hj
  exact ⟨hj', (I.ok j hj hj').m⟩
theorem isM_iff {m : Bm} {r : Raw} : isM m r = true ↔ r.1 = m := by
  unfold isM
  constructor
  · intro h; have h2 := of_decide_eq_true h; exact Prod.ext h2.1 h2.2
  · intro h; exact decide_eq_true (by rw [h]; exact ⟨rfl, rfl⟩)
theorem idx_nat (P : Raw → Bool) (Q : List Raw) : idxOf P Q = -1 ∨ ∃ k : Nat, idxOf P Q = (k : Int) := by
  unfold idxOf
  cases fstE (idxE P Q) Q.length with
  | none => exact Or.inl rfl
  | some k => exact Or.inr ⟨k, rfl⟩
theorem idx_none {P : Raw → Bool} {Q : List Raw} (h : idxOf P Q = -1) : ∀ r, r ∈ Q → P r = false := fun r hr => by
  obtain ⟨j, hj, rfl⟩ := List.getElem_of_mem hr
  unfold idxOf at h
  cases h1 : fstE (idxE P Q) Q.length with
  | some k => rw [h1] at h; simp only at h; omega
  | none =>
    have := fstE_of_none h1 j hj
    rw [idxE_at hj] at this
    cases hp : P Q[j] with
    | false => rfl
    | true => rw [hp] at this; simp at this
theorem found_iff {w : World} {v : Value} {Q : List Raw} {L : List Ent} (I : Ixs w v Q L) (m : Bm) : m ∈ univ L ↔ ∃ k : Nat, idxOf (isM m) Q = (k : Int) := by
  constructor
  · intro h
    rcases idx_nat (isM m) Q with h1 | h1
    · obtain ⟨e, he, rfl⟩ := List.mem_map.1 h
      obtain ⟨j, hj, rfl⟩ := List.getElem_of_mem he
      have hj2 : j < Q.length := by rw [I.ln]; exact hj
      have := idx_none h1 Q[j] (List.getElem_mem hj2)
      rw [isM_iff.2 (I.ok j hj2 hj).m] at this
      cases this
    · exact h1
  · rintro ⟨k, h⟩
    obtain ⟨hk, h1⟩ := idx_is h
    obtain ⟨hk', h2⟩ := ixs_get I hk
    exact List.mem_map.2 ⟨L[k], List.getElem_mem hk', by rw [← h2]; exact isM_iff.1 h1⟩
theorem reqQ_at {Q : List Raw} {L : List Ent} {m : Bm} {k : Nat} (h : idxOf (isM m) Q = (k : Int)) (hk : k < L.length) : reqQ Q L m = L[k].2.1 := by
  unfold reqQ
  rw [h, if_neg (by omega), Int.toNat_natCast, List.getElem?_eq_getElem hk]
  rfl
theorem MsAt.cells {w : World} {a : Option Addr} {n c : Nat} {L : List Bm} (h : MsAt w (.slice a n c) L) {k : Nat} (hk : k < L.length) : ∃ b o, a = some ⟨b, o, none⟩ ∧ w.cell? ⟨b, o + k * 2, none⟩ = some (.string L[k].1) ∧ w.cell? ⟨b, o + k * 2 + 1, none⟩ = some (.string L[k].2) := by
  obtain ⟨a', c', e, _, h⟩ := h
  injection e with e1 e2 e3
  subst e1
  obtain ⟨b, o, e4, h4⟩ := h (by intro h0; rw [h0] at hk; simp at hk)
  exact ⟨b, o, e4, h4 k hk⟩
theorem es_cells {W : World} {a : Option Addr} {n c : Nat} {Q : List Raw} (h : EsAt W (.slice a n c) Q) {k : Nat} (hk : k < Q.length) : ∃ b o, a = some ⟨b, o, none⟩ ∧ W.cell? ⟨b, o + k * 5 + 2, none⟩ = some Q[k].2.1 := by
  obtain ⟨a', c', e, _, _, h⟩ := h
  injection e with e1 e2 e3
  subst e1
  obtain ⟨b', o', e4, h4⟩ := h (by intro h0; rw [h0] at hk; simp at hk)
  exact ⟨b', o', e4, (h4 k hk).2.2.1⟩
set_option maxRecDepth 100000 in
set_option maxHeartbeats 2000000 in
theorem walk_any (Q : List Raw) (L : List Ent) (roots : List Bm) (v rv : Value) (w : World) (hn : L.length ≤ 1000) (hrn : roots.length ≤ 1000000) (I : Ixs w v Q L) (hr : MsAt w rv roots) (hz : ∀ m, m ∈ univ L → m.1.size ≤ maxLen ∧ m.2.size ≤ maxLen) (hrl : ∀ e, e ∈ L → e.2.1.length ≤ 1000000)
    (hru : ∀ m, m ∈ roots → m ∈ univ L) (hlu : ∀ m, m ∈ univ L → ∀ x, x ∈ reqQ Q L m → x ∈ univ L) :
    Calls Tryz.prog 93 #[v, rv] w fun e w' => ∃ b, e = .returned (.map (some b)) ∧ ∃ T, ByAt w' b T ∧ szT T ∧ Came (reqQ Q L) (univ L) roots T ∧ Below w.heap.size w w' := by
  obtain ⟨a, c, hv, -⟩ := id I.es
  subst hv
  obtain ⟨ra, rc, hrv, -⟩ := id hr
  subst hrv
  have HI := hid I
  have HR := hid hr
  have HZ := hid hz
  have HRL := hid hrl
  have HRU := hid hru
  have HLU := hid hlu
  have eg : ∀ args w, (callFunc 138 args).run Tryz.prog w = .ok (.enter 138 args) w := enters_of Tryz.func138 (by kernel_rfl) rfl
  have hmk : ∀ W : World, (Instr.makeMap 121 none).run Tryz.prog W = .ok (.map (some W.heap.size)) (W.alloc (.map #[] 0)) := fun W => run_makeMap 121 W
  clear I hr hz hrl hru hlu
  go_enter Tryz.func93, Tryz.ntmps93
  go_wp2_with fail
  have HW0 := hid (show Wk w (((w.alloc (.map #[] 0)).alloc (.cells #[.map (some w.heap.size)] 121)).alloc (.cells #[.slice none 0 0] 23)) (w.heap.size + 1) (w.heap.size + 1 + 1) w.heap.size [] by
    have b1 := (Below.refl w.heap.size w).alloc (Nat.le_refl _) (.map #[] 0)
    have b2 := b1.alloc (by simp) (.cells #[.map (some w.heap.size)] 121)
    have b3 := b2.alloc (by simp; omega) (.cells #[.slice none 0 0] 23)
    have c1 := (Below.refl (w.alloc (.map #[] 0)).heap.size (w.alloc (.map #[] 0))).alloc (Nat.le_refl _) (.cells #[.map (some w.heap.size)] 121)
    have c2 := (Below.refl ((w.alloc (.map #[] 0)).alloc (.cells #[.map (some w.heap.size)] 121)).heap.size ((w.alloc (.map #[] 0)).alloc (.cells #[.map (some w.heap.size)] 121))).alloc (Nat.le_refl _) (.cells #[.slice none 0 0] 23)
    have m0 : ByAt (w.alloc (.map #[] 0)) w.heap.size [] := World.ownsMap_made w Tryz.prog 46 rB
    have h1 := heap_new (w.alloc (.map #[] 0)) (.cells #[.map (some w.heap.size)] 121)
    have h2 := heap_new ((w.alloc (.map #[] 0)).alloc (.cells #[.map (some w.heap.size)] 121)) (.cells #[.slice none 0 0] 23)
    have s1 : (w.alloc (.map #[] 0)).heap.size = w.heap.size + 1 := by simp
    have s2 : ((w.alloc (.map #[] 0)).alloc (.cells #[.map (some w.heap.size)] 121)).heap.size = w.heap.size + 1 + 1 := by simp
    rw [s1] at h1
    rw [s2] at h2
    exact ⟨b3, fun x hx => (by cases hx), by omega, by omega, by omega, heap_old _ _ h1, (m0.below c1).below c2, _, h2, World.ownsRow_nil _ _ _ _⟩)
  generalize hW0 : ((w.alloc (.map #[] 0)).alloc (.cells #[.map (some w.heap.size)] 121)).alloc (.cells #[.slice none 0 0] 23) = W0 at *
  clear hW0
  go_loopw [17] (fun iv wr => ∃ k : Nat, k ≤ roots.length ∧ iv = .int .i64 k ∧ Hid (∃ T, Wk w wr (w.heap.size + 1) (w.heap.size + 1 + 1) w.heap.size T ∧ Bfs (reqQ Q L) (univ L) roots T 0 ∧ (∀ m, m ∈ roots.take k → m ∈ whoT T) ∧ ∃ V, LvOk (reqQ Q L) roots T 0 V ∧ ∀ k (hk : k < V.length), V[k] = 1)) (fun i _ => roots.length - (intOf i).toNat)
  case atStart => exact ⟨0, Nat.zero_le _, rfl, hid ⟨[], HW0.out, Bfs.none _ _ _, fun m hm => by simp at hm, [], LvOk.none _ _, fun _ h => absurd h (Nat.not_lt_zero _)⟩⟩
  case round =>
    obtain ⟨k, hk, rfl, HT⟩ := hrel
    by_cases hlt : k < roots.length
    · obtain ⟨T, hT⟩ := HT.out
      have HTT := hid hT
      have HRM := hid (HR.out.below hT.1.bl)
      obtain ⟨rb, ro, hra, hcc⟩ := HRM.out.cells hlt
      subst hra
      have x0 := hcc.1
      have x1 := hcc.2
      have HMU := hid (HRU.out roots[k] (List.getElem_mem hlt))
      have HMR := hid (List.getElem_mem hlt)
      have HTK := hid (show ∀ x, x ∈ roots.take (k + 1) → x ∈ roots.take k ∨ x = roots[k] from fun x hx => by
        rw [List.take_succ_eq_append_getElem hlt] at hx
        rcases List.mem_append.1 hx with h | h
        · exact Or.inl h
        · exact Or.inr (List.mem_singleton.1 h))
      have HLT := hid hlt
      have hkI : (k : Int) < (roots.length : Int) := by omega
      clear hT hcc
      generalize roots[k] = m at *
      clear hlt
      have HBa := hid ((Below.refl wr.heap.size wr).alloc (Nat.le_refl _) (.cells #[.string m.1, .string m.2] 46))
      have HCO := hid (come_any w _ (w.heap.size + 1) (w.heap.size + 1 + 1) w.heap.size T m m (HZ.out m HMU.out) (by have := HTT.out.2.1.len; rw [univ_len] at this; omega) (HTT.out.1.below HBa.out))
      go_wp2_with fail
      refine HCO.out.mono ?_
      rintro e w1 ⟨rfl, hk1⟩
      have HN := hid (show ∃ T, Wk w w1 (w.heap.size + 1) (w.heap.size + 1 + 1) w.heap.size T ∧ Bfs (reqQ Q L) (univ L) roots T 0 ∧ (∀ m, m ∈ roots.take (k + 1) → m ∈ whoT T) ∧ ∃ V, LvOk (reqQ Q L) roots T 0 V ∧ ∀ k (hk : k < V.length), V[k] = 1 from
        ⟨_, hk1, HTT.out.2.1.come HMU.out (Or.inl ⟨rfl, HMR.out⟩), fun x hx => by
          rcases HTK.out x hx with h | rfl
          · exact come_sub (HTT.out.2.2.1 x h)
          · exact come_mem _ _ _, by
          obtain ⟨V, h1, h2⟩ := HTT.out.2.2.2
          exact h1.root h2 HMR.out⟩)
      clear hk1
      go_wp2_with fail
      go_roundw
      case rel => exact ⟨k + 1, HLT.out, nr_idx k, HN⟩
      case measure => exact nr_meas HLT.out
    · have HALL := hid (show ∃ T, Wk w wr (w.heap.size + 1) (w.heap.size + 1 + 1) w.heap.size T ∧ Bfs (reqQ Q L) (univ L) roots T 0 ∧ (∀ m, m ∈ roots → m ∈ whoT T) ∧ ∃ V, LvOk (reqQ Q L) roots T 0 V by
        have := HT.out
        rw [List.take_of_length_le (by omega)] at this
        obtain ⟨T, h1, h2, h3, V, h4, _⟩ := this
        exact ⟨T, h1, h2, h3, V, h4⟩)
      have hkI : ¬ (k : Int) < (roots.length : Int) := by omega
      clear HT hlt
      go_wp2_with fail
      go_loopw [10] (fun iv wr => ∃ i : Nat, iv = .int .i64 i ∧ Hid (∃ T, Wk w wr (w.heap.size + 1) (w.heap.size + 1 + 1) w.heap.size T ∧ Bfs (reqQ Q L) (univ L) roots T i ∧ (∀ m, m ∈ roots → m ∈ whoT T) ∧ ∃ V, LvOk (reqQ Q L) roots T i V)) (fun i _ => L.length - (intOf i).toNat)
      case atStart => exact ⟨0, rfl, HALL⟩
      case round =>
        obtain ⟨i, rfl, HA⟩ := hrel
        obtain ⟨T, hT⟩ := HA.out
        have HTT := hid hT
        obtain ⟨ov, o1, o2⟩ := hT.1.oc
        have hTl : T.length ≤ L.length := by have := hT.2.1.len; rw [univ_len] at this; exact this
        obtain ⟨oa, oc, hov⟩ := own_slN o2
        subst hov
        have z0 : wr.cell? ⟨w.heap.size + 1 + 1, 0, none⟩ = some (.slice oa T.length oc) := by rw [Lib.cell_of_heap o1]; rfl
        have HO2 := hid o2
        clear hT o1 o2 HA
        by_cases hlt : i < T.length
        · have hiI : (i : Int) < (T.length : Int) := by omega
          obtain ⟨b1, o1, hoa, yy0, yy1⟩ := (own_ms (L := whoT T) (by rw [whoT_len]; exact HO2.out)).cells (k := i) (by rw [whoT_len]; exact hlt)
          subst hoa
          rw [whoT_get hlt] at yy0 yy1
          have HLT := hid hlt
          have HOU := hid (HTT.out.2.1.un T[i].1 (whoT_mem.2 ⟨i, hlt, rfl⟩))
          have HOM := hid (show T[i].1 ∈ whoT T from whoT_mem.2 ⟨i, hlt, rfl⟩)
          obtain ⟨o, ho, y0, y1, hou, hom⟩ : ∃ o, T[i].1 = o ∧ wr.cell? ⟨b1, o1 + i * 2, none⟩ = some (.string o.1) ∧ wr.cell? ⟨b1, o1 + i * 2 + 1, none⟩ = some (.string o.2) ∧ o ∈ univ L ∧ o ∈ whoT T := ⟨_, rfl, yy0, yy1, HOU.out, HOM.out⟩
          clear yy0 yy1 HOU HOM
          have HOU := hid hou
          have HOM := hid hom
          have HOI := hid (show ∃ h : i < T.length, (T[i]'h).1 = o from ⟨hlt, ho⟩)
          clear hou hom
          obtain ⟨kq, hkq⟩ := (found_iff HI.out o).1 HOU.out
          obtain ⟨hkl, -⟩ := idx_is hkq
          have hkl2 : kq < L.length := by rw [← HI.out.ln]; exact hkl
          have HFI := hid (find_any Q o (.slice a Q.length c) wr (by rw [HI.out.ln]; omega) (HI.out.below HTT.out.1.bl).es)
          rw [hkq] at HFI
          have HRQ := hid (reqQ_at hkq hkl2)
          have hkI : (kq : Int) < (Q.length : Int) := by omega
          have hk0 : (0 : Int) ≤ (kq : Int) := by omega
          have HES := hid (fun W (h : Below w.heap.size w W) => es_cells (HI.out.below h).es hkl)
          have HMS := hid (fun W (h : Below w.heap.size w W) => ((HI.out.below h).ok kq hkl hkl2).rq)
          have hrl2 := HRL.out L[kq] (List.getElem_mem hkl2)
          generalize (L[kq]'hkl2).2.1 = R at *
          generalize (Q[kq]'hkl).2.1 = qv at *
          obtain ⟨qa, qc, hqv, -⟩ := HMS.out w (Below.refl _ _)
          subst hqv
          clear hkq hkl hkl2 ho hlt
          go_wp2_with fail
          refine HFI.out.mono ?_
          rintro e w1 ⟨rfl, hb⟩
          have HW1 := hid (HTT.out.1.below hb)
          obtain ⟨eb, eo, ha, x2⟩ := HES.out w1 HW1.out.bl
          subst ha
          clear hb HFI
          go_wp2_with fail
          have HMS1 := hid (HMS.out w1 HW1.out.bl)
          have HST := hid (show ∃ T', Wk w w1 (w.heap.size + 1) (w.heap.size + 1 + 1) w.heap.size T' ∧ Bfs (reqQ Q L) (univ L) roots T' i ∧ (∀ m, m ∈ roots → m ∈ whoT T') ∧ (∃ h : i < T'.length, (T'[i]'h).1 = o) ∧ (∀ m, m ∈ R.take 0 → m ∈ whoT T') ∧ ∃ V, LvOk (reqQ Q L) roots T' i V from
            ⟨T, HW1.out, HTT.out.2.1, HTT.out.2.2.1, HOI.out, fun m hm => by simp at hm, HTT.out.2.2.2⟩)
          clear HW1 HTT x2 y0 y1 z0
          go_loopw [43] (fun iv wr => ∃ k : Nat, k ≤ R.length ∧ iv = .int .i64 k ∧ Hid (∃ T', Wk w wr (w.heap.size + 1) (w.heap.size + 1 + 1) w.heap.size T' ∧ Bfs (reqQ Q L) (univ L) roots T' i ∧ (∀ m, m ∈ roots → m ∈ whoT T') ∧ (∃ h : i < T'.length, (T'[i]'h).1 = o) ∧ (∀ m, m ∈ R.take k → m ∈ whoT T') ∧ ∃ V, LvOk (reqQ Q L) roots T' i V)) (fun i _ => R.length - (intOf i).toNat)
          case atStart => exact ⟨0, Nat.zero_le _, rfl, HST⟩
          case round =>
            obtain ⟨k2, hk2, rfl, HS2⟩ := hrel
            by_cases hlt : k2 < R.length
            · obtain ⟨T2, hT2⟩ := HS2.out
              have HT2 := hid hT2
              obtain ⟨qb, qo, hqa, xx0, xx1⟩ := (HMS.out wr hT2.1.bl).cells hlt
              subst hqa
              have HMR := hid (show R[k2] ∈ reqQ Q L o by rw [HRQ.out]; exact List.getElem_mem hlt)
              have HTK := hid (show ∀ x, x ∈ R.take (k2 + 1) → x ∈ R.take k2 ∨ x = R[k2] from fun x hx => by
                rw [List.take_succ_eq_append_getElem hlt] at hx
                rcases List.mem_append.1 hx with h | h
                · exact Or.inl h
                · exact Or.inr (List.mem_singleton.1 h))
              have HLT2 := hid hlt
              have hkI2 : (k2 : Int) < (R.length : Int) := by omega
              obtain ⟨m, hm, x0, x1, hmr, htk⟩ : ∃ m, R[k2] = m ∧ wr.cell? ⟨qb, qo + k2 * 2, none⟩ = some (.string m.1) ∧ wr.cell? ⟨qb, qo + k2 * 2 + 1, none⟩ = some (.string m.2) ∧ m ∈ reqQ Q L o ∧ ∀ x, x ∈ R.take (k2 + 1) → x ∈ R.take k2 ∨ x = m := ⟨_, rfl, xx0, xx1, HMR.out, HTK.out⟩
              clear HMR HTK xx0 xx1
              have HMR := hid hmr
              have HTK := hid htk
              have HMU := hid (HLU.out o HOU.out m hmr)
              obtain ⟨hi2, ho2⟩ := hT2.2.2.2.1
              have HFO := hid (show o ∈ whoT T2 from whoT_mem.2 ⟨i, hi2, ho2⟩)
              obtain ⟨ov, o1, o2⟩ := hT2.1.oc
              obtain ⟨oa2, oc2, hov⟩ := own_slN o2
              subst hov
              have hBa := (Below.refl wr.heap.size wr).alloc (Nat.le_refl _) (.cells #[.string m.1, .string m.2] 46)
              obtain ⟨b3, o3, hoa, w0, w1'⟩ := (own_ms (L := whoT T2) (by rw [whoT_len]; exact o2)).cells (k := i) (by rw [whoT_len]; exact hi2)
              subst hoa
              rw [whoT_get hi2] at w0 w1'
              have hiI2 : (i : Int) < (T2.length : Int) := by omega
              have hi00 : (0 : Int) ≤ (i : Int) := by omega
              obtain ⟨q0, q1⟩ : (wr.alloc (.cells #[.string m.1, .string m.2] 46)).cell? ⟨b3, o3 + i * 2, none⟩ = some (.string o.1) ∧ (wr.alloc (.cells #[.string m.1, .string m.2] 46)).cell? ⟨b3, o3 + i * 2 + 1, none⟩ = some (.string o.2) := ⟨cell_below hBa (by rw [← ho2]; exact w0), cell_below hBa (by rw [← ho2]; exact w1')⟩
              have q2 : (wr.alloc (.cells #[.string m.1, .string m.2] 46)).cell? ⟨w.heap.size + 1 + 1, 0, none⟩ = some (.slice (some ⟨b3, o3, none⟩) T2.length oc2) := cell_below hBa (by rw [Lib.cell_of_heap o1]; rfl)
              have HCO := hid (fun W (h : Wk w W (w.heap.size + 1) (w.heap.size + 1 + 1) w.heap.size T2) => come_any w W (w.heap.size + 1) (w.heap.size + 1 + 1) w.heap.size T2 m o (HZ.out m HMU.out) (by have := HT2.out.2.1.len; rw [univ_len] at this; omega) h)
              have HWB := hid (hT2.1.below hBa)
              clear hT2 hm hmr htk o1 o2 w0 w1' hBa
              clear ho2 hi2 hlt
              go_upto_region 15 with fail
              go_region_with (go_at_call 138; refine (HCO.out _ (HWB.out.below (below_drawn _ 1))).mono ?_; rintro e w4 ⟨rfl, hk4⟩; have HK4 := hid hk4; clear hk4)
              all_goals
                have HNX := hid (show ∃ T', Wk w w4 (w.heap.size + 1) (w.heap.size + 1 + 1) w.heap.size T' ∧ Bfs (reqQ Q L) (univ L) roots T' i ∧ (∀ m, m ∈ roots → m ∈ whoT T') ∧ (∃ h : i < T'.length, (T'[i]'h).1 = o) ∧ (∀ m, m ∈ R.take (k2 + 1) → m ∈ whoT T') ∧ ∃ V, LvOk (reqQ Q L) roots T' i V from by
                  obtain ⟨h1, h2, h3, ⟨h4, h5⟩, h6, V, h7⟩ := HT2.out
                  refine ⟨_, HK4.out, h2.come HMU.out (Or.inr ⟨HFO.out, HMR.out⟩), fun x hx => come_sub (h3 x hx), ?_, fun x hx => ?_, by rw [← h5]; exact h7.reqs h4 h3 (by rw [h5]; exact HMR.out)⟩
                  · obtain ⟨E, hE⟩ := come_old T2 m o
                    rw [hE]
                    exact ⟨by simp; omega, by rw [List.getElem_append_left h4]; exact h5⟩
                  · rcases HTK.out x hx with h | rfl
                    · exact come_sub (h6 x h)
                    · exact come_mem _ _ _)
                go_wp2_with fail
                go_roundw
                case rel => exact ⟨k2 + 1, HLT2.out, nr_idx k2, HNX⟩
                case measure => exact nr_meas HLT2.out
            · have HSE := hid (show ∃ T', Wk w wr (w.heap.size + 1) (w.heap.size + 1 + 1) w.heap.size T' ∧ Bfs (reqQ Q L) (univ L) roots T' (i + 1) ∧ (∀ m, m ∈ roots → m ∈ whoT T') ∧ ∃ V, LvOk (reqQ Q L) roots T' (i + 1) V by
                obtain ⟨T', h1, h2, h3, ⟨h4, h5⟩, h6, V, h7⟩ := HS2.out
                rw [List.take_of_length_le (by omega)] at h6
                exact ⟨T', h1, h2.next h4 (by rw [h5, HRQ.out]; exact h6), h3, V, h7.next h4 (by rw [h5, HRQ.out]; exact h6)⟩)
              have hkI2 : ¬ (k2 : Int) < (R.length : Int) := by omega
              have HIL := hid (show i < L.length by
                obtain ⟨T', h1, h2, h3, ⟨h4, h5⟩, h6⟩ := HS2.out
                have := h2.len
                rw [univ_len] at this
                omega)
              clear HS2 hlt
              go_wp2_with fail
              go_roundw
              case rel => exact ⟨i + 1, nr_idx i, HSE⟩
              case measure => exact nr_meas HIL.out
        · have hiI : ¬ (i : Int) < (T.length : Int) := by omega
          have HTE := hid (show i = T.length by have := HTT.out.2.1.le; omega)
          have z1 : wr.cell? ⟨w.heap.size + 1, 0, none⟩ = some (.map (some w.heap.size)) := by rw [Lib.cell_of_heap HTT.out.1.bc]; rfl
          clear hlt
          go_wp2_with fail
          go_ret
          exact ⟨_, rfl, T, HTT.out.1.mp, HTT.out.1.sz, ⟨by have := HTT.out.2.1; rw [HTE.out] at this; exact this, HTT.out.2.2.1, by have := HTT.out.2.2.2; rw [HTE.out] at this; exact this⟩, HTT.out.1.bl⟩
end Ve
end Go.Proofs.YtoaobngpdaidoaaGreatDoor


namespace Go.Proofs.YtoaobngpdaidoaaGreatDoor
open Go.RowKit Go.Maps
namespace Ve
def chkG (Q : List Raw) (L : List Ent) (roots : List Bm) : Nat × Option Nat := if (chk Q L).1 ≠ 0 then chk Q L else (codeE (nonE Q roots) roots.length, fstE (nonE Q roots) roots.length)
theorem chkG_bad {Q : List Raw} {L : List Ent} {roots : List Bm} (h : (chk Q L).1 ≠ 0) : chkG Q L roots = chk Q L := by unfold chkG; rw [if_pos h]
theorem chkG_ok {Q : List Raw} {L : List Ent} {roots : List Bm} (h : (chk Q L).1 = 0) : chkG Q L roots = (codeE (nonE Q roots) roots.length, fstE (nonE Q roots) roots.length) := by unfold chkG; rw [if_neg (by simp [h])]
theorem codeE_all {E : Nat → Nat} {n : Nat} (h : codeE E n = 0) : ∀ j, j < n → E j = 0 := by
  cases h1 : fstE E n with
  | none => exact fstE_of_none h1
  | some i =>
    rw [codeE_some h1] at h
    exact absurd h (fstE_of_some h1).2.1
theorem nonE_found {w : World} {v : Value} {Q : List Raw} {L : List Ent} (I : Ixs w v Q L) {R : List Bm} (h : codeE (nonE Q R) R.length = 0) : ∀ m, m ∈ R → m ∈ univ L := fun m hm => by
  obtain ⟨j, hj, rfl⟩ := List.getElem_of_mem hm
  have h1 := codeE_all h j hj
  rw [nonE_at hj] at h1
  unfold nonW at h1
  refine (found_iff I _).2 ?_
  rcases idx_nat (isM R[j]) Q with h2 | h2
  · rw [h2] at h1; simp at h1
  · exact h2
theorem chk_reqs0 {w : World} {v : Value} {Q : List Raw} {L : List Ent} (I : Ixs w v Q L) (h : (chk Q L).1 = 0) : ∀ m, m ∈ univ L → ∀ x, x ∈ reqQ Q L m → x ∈ univ L := fun m hm x hx => by
  have h100 : ¬ 100 < L.length := by have := (chk_each0 h).1; omega
  cases hf : fstE (entE L) L.length with
  | some i => rw [chk_each h100 hf] at h; exact absurd h (fstE_of_some hf).2.1
  | none =>
    rw [chk_reqs h100 hf] at h
    obtain ⟨k, hk⟩ := (found_iff I m).1 hm
    obtain ⟨hkq, -⟩ := idx_is hk
    have hkl : k < L.length := by rw [← I.ln]; exact hkq
    rw [reqQ_at hk hkl] at hx
    have := codeE_all h k hkl
    rw [reqE2_at hkl] at this
    exact nonE_found I this x hx
set_option maxRecDepth 100000 in
set_option maxHeartbeats 2000000 in
theorem gcheck_any (Q : List Raw) (L : List Ent) (roots : List Bm) (v rv : Value) (A : Nat → Addr) (m : Int) (w : World) (hn : L.length ≤ 1000) (hrn : roots.length ≤ 1000000) (sh : ∀ e, e ∈ L → ShE e) (S : Te w A m) (I : Ixs w v Q L) (hr : MsAt w rv roots) :
    Calls Tryz.prog 92 #[v, rv] w fun e w' => ∃ x, e = .returned x ∧ ErrAt w' A x (chkG Q L roots).1 (chkG Q L roots).2 ∧ Below w.heap.size w w' := by
  have HCK := hid (icheck_any Q L v A m w (by omega) sh S I)
  have HCM := hid (fun W (h : Below w.heap.size w W) => cmods_any Q roots v rv A m W (by rw [I.ln]; omega) hrn (S.below h) (I.es.below h) (hr.below h))
  obtain ⟨a, c, hv, -⟩ := id I.es
  subst hv
  obtain ⟨ra, rc, hrv, -⟩ := id hr
  subst hrv
  clear S I hr sh
  go_enter Tryz.func92, Tryz.ntmps92
  go_wp2_with fail
  refine HCK.out.mono ?_
  rintro e w1 ⟨x, rfl, he, hb⟩
  have HE := hid he
  have HB := hid hb
  clear hb
  rcases he.kind.symm with ⟨hc0, T, xa, rfl⟩ | ⟨hc0, rfl⟩
  · have HX := hid (chkG_bad (roots := roots) hc0)
    clear he hc0
    go_wp2_with fail
    go_ret
    exact ⟨_, rfl, by rw [HX.out]; exact HE.out, HB.out⟩
  · have HX := hid (chkG_ok (roots := roots) hc0)
    have HC2 := hid (HCM.out w1 HB.out)
    clear he hc0 HCM
    go_wp2_with fail
    refine HC2.out.mono ?_
    rintro e w2 ⟨y, rfl, he, hb⟩
    have HE2 := hid he
    have HB2 := hid (HB.out.trans (hb.mono HB.out.size))
    clear he hb
    go_wp2_with fail
    go_ret
    exact ⟨_, rfl, by rw [HX.out]; exact HE2.out, HB2.out⟩
def goQ (T : By) (Q : List Raw) : List Raw := Q.filter fun r => cameB T r.1
def goM (T : By) (Q : List Raw) : List Bm := (goQ T Q).map fun r => r.1
set_option maxRecDepth 100000 in
set_option maxHeartbeats 2000000 in
theorem reached_some (Q : List Raw) (L : List Ent) (roots : List Bm) (v rv : Value) (A : Nat → Addr) (m : Int) (w : World) (hn : L.length ≤ 1000) (hrn : roots.length ≤ 1000000) (sh : ∀ e, e ∈ L → ShE e) (S : Te w A m) (I : Ixs w v Q L) (hr : MsAt w rv roots) (h0 : (chkG Q L roots).1 = 0) :
    Calls Tryz.prog 60 #[v, rv] w fun e w' => ∃ u, e = .returned (.tuple #[u, .nilIface]) ∧ ∃ T, Came (reqQ Q L) (univ L) roots T ∧ w'.ownsRow w.heap.size 56 5 u (goQ T Q).length (flatR (goQ T Q)) ∧ Below w.heap.size w w' := by
  have hc0 : (chk Q L).1 = 0 := by
    by_cases hc : (chk Q L).1 = 0
    · exact hc
    · rw [chkG_bad hc] at h0; exact absurd h0 hc
  have hru : ∀ m, m ∈ roots → m ∈ univ L := by rw [chkG_ok hc0] at h0; exact nonE_found I h0
  have HCK := hid (gcheck_any Q L roots v rv A m w hn hrn sh S I hr)
  have hz : ∀ m, m ∈ univ L → m.1.size ≤ maxLen ∧ m.2.size ≤ maxLen := fun m hm => by
    obtain ⟨e, he, rfl⟩ := List.mem_map.1 hm
    have := sh e he
    exact ⟨by have := this.p; unfold maxLen; omega, by have := this.v; unfold maxLen; omega⟩
  have HWK := hid (fun W (h : Below w.heap.size w W) => walk_any Q L roots v rv W hn hrn (I.below h) (hr.below h) hz (fun e he => (sh e he).rn) hru (chk_reqs0 I hc0))
  obtain ⟨a, c, hv, -, hs, hcc⟩ := id I.es
  subst hv
  obtain ⟨ra, rc, hrv, -⟩ := id hr
  subst hrv
  obtain ⟨i0, hi0, hz0, hz1, hz2⟩ := info_parts infoEnt
  have HH0 := hid h0
  have HC := hid hcc
  have HSL := hid hs
  have HI := hid I
  have HZ := hid hz
  clear S I hr sh h0 hc0 hru hz hs hcc
  go_enter Tryz.func60, Tryz.ntmps60
  go_wp2_with fail
  refine HCK.out.mono ?_
  rintro e w1 ⟨x, rfl, he, hb⟩
  have HB := hid hb
  have hx : x = .nilIface := by
    rcases he.kind with ⟨_, h⟩ | ⟨h, _⟩
    · exact h
    · exact absurd HH0.out h
  subst hx
  clear hb he HCK
  go_wp2_with fail
  refine (HWK.out w1 HB.out).mono ?_
  rintro e w2 ⟨mb, rfl, T, hby, hsz, hcm, hb⟩
  have HBY := hid hby
  have HSZ := hid hsz
  have HCM := hid hcm
  have HB2 := hid (HB.out.trans (hb.mono HB.out.size))
  clear hby hsz hcm hb HWK
  go_wp2_with fail
  go_loopw [8, 22] (fun ov i wr => ∃ k : Nat, k ≤ Q.length ∧ i = .int .i64 k ∧ Hid (wr.ownsRow w2.heap.size 56 5 ov (goQ T (Q.take k)).length (flatR (goQ T (Q.take k)))) ∧ Hid (Below w2.heap.size w2 wr)) (fun _ i _ => Q.length - (intOf i).toNat)
  case atStart => exact ⟨0, Nat.zero_le _, rfl, hid (World.ownsRow_nil _ _ _ _), hid (Below.refl _ _)⟩
  case round =>
    obtain ⟨k, hk, rfl, HO, HBr⟩ := hrel
    by_cases hlt : k < Q.length
    · have HBw := hid (HB2.out.trans (HBr.out.mono HB2.out.size))
      obtain ⟨eb, eo, ha, hce⟩ := HC.out (by intro h; rw [h] at hlt; simp at hlt)
      subst ha
      obtain ⟨y0, y1, y2, y3, y4⟩ := hce k hlt
      have x0 := cell_below HBw.out y0
      have x1 := cell_below HBw.out y1
      have x2 := cell_below HBw.out y2
      have x3 := cell_below HBw.out y3
      have x4 := cell_below HBw.out y4
      have hsl := HSL.out Q[k] (List.getElem_mem hlt)
      have hkI : (k : Int) < (Q.length : Int) := by omega
      have HLT := hid hlt
      have HQL := hid (show Q.length ≤ 1000000 by have := HI.out.ln; omega)
      have HY := hid (fun h => filter_yes hlt h (P := fun r => cameB T r.1))
      have HN := hid (fun h => filter_no hlt h (P := fun r => cameB T r.1))
      have HQZ := hid (show Q[k].1.1.size ≤ maxLen ∧ Q[k].1.2.size ≤ maxLen by
        obtain ⟨h1, h2⟩ := ixs_get HI.out hlt
        exact Eq.mpr (congrArg (fun m : Bm => m.1.size ≤ maxLen ∧ m.2.size ≤ maxLen) h2) (HZ.out _ (List.mem_map.2 ⟨L[k], List.getElem_mem h1, rfl⟩)))
      have HLN := hid (show (goQ T (Q.take k)).length ≤ 1000 from Nat.le_trans (List.length_filter_le _ _) (by rw [List.length_take]; have := HI.out.ln; omega))
      clear y0 y1 y2 y3 y4 hce
      generalize Q[k] = r at *
      obtain ⟨⟨p, q⟩, rv, pv, bk⟩ := r
      obtain ⟨⟨ra2, rn2, rc2, hrv⟩, pa, pn, pc, hpv⟩ := hsl
      simp only at hrv hpv
      subst hrv
      subst hpv
      have HBa := hid ((Below.refl wr.heap.size wr).alloc (Nat.le_refl _) (.cells #[.string p, .string q, .slice ra2 rn2 rc2, .slice pa pn pc, .bool bk] 56))
      have HBB := hid (HBr.out.trans (HBa.out.mono HBr.out.size))
      have HCA := hid (came_any mb T (p, q) _ HQZ.out HSZ.out (HBY.out.below HBB.out))
      have HOa := hid (HO.out.alloc (.cells #[.string p, .string q, .slice ra2 rn2 rc2, .slice pa pn pc, .bool bk] 56))
      clear hlt
      cases hp : cameB T (p, q) with
      | false =>
        rw [hp] at HCA
        have HN2 := hid (HN.out hp)
        clear hp
        go_wp2_with fail
        refine HCA.out.mono ?_
        rintro e w3 ⟨rfl, hb⟩
        have HB3 := hid (HBB.out.trans (hb.mono HBB.out.size))
        have HO3 := hid (owns_below HOa.out hb)
        clear hb
        go_wp2_with fail
        go_roundw
        case rel => first | exact ⟨k + 1, HLT.out, nr_idx k, by unfold goQ; rw [HN2.out]; exact HO3, HB3⟩ | exact ⟨k + 1, HLT.out, nx_idx HLT.out HQL.out, by unfold goQ; rw [HN2.out]; exact HO3, HB3⟩
        case measure => first | exact nr_meas HLT.out | exact nx_meas HLT.out HQL.out
      | true =>
        rw [hp] at HCA
        have HY2 := hid (HY.out hp)
        clear hp
        go_wp2_with fail
        refine HCA.out.mono ?_
        rintro e w3 ⟨rfl, hb⟩
        have HB3 := hid (HBB.out.trans (hb.mono HBB.out.size))
        have HO3 := hid (owns_below HOa.out hb)
        have HE1 := hid (show w3.heap[wr.heap.size]? = some (.cells #[.string p, .string q, .slice ra2 rn2 rc2, .slice pa pn pc, .bool bk] 56 (0, 0)) by rw [hb.block _ (by simp)]; exact heap_alloc_new wr _)
        have z0 : w3.cell? ⟨wr.heap.size, 0, none⟩ = some (.string p) := by rw [Lib.cell_of_heap HE1.out]; rfl
        have z1 : w3.cell? ⟨wr.heap.size, 1, none⟩ = some (.string q) := by rw [Lib.cell_of_heap HE1.out]; rfl
        have z2 : w3.cell? ⟨wr.heap.size, 2, none⟩ = some (.slice ra2 rn2 rc2) := by rw [Lib.cell_of_heap HE1.out]; rfl
        have z3 : w3.cell? ⟨wr.heap.size, 3, none⟩ = some (.slice pa pn pc) := by rw [Lib.cell_of_heap HE1.out]; rfl
        have z4 : w3.cell? ⟨wr.heap.size, 4, none⟩ = some (.bool bk) := by rw [Lib.cell_of_heap HE1.out]; rfl
        clear hb x0 x1 x2 x3 x4
        go_wp2_with (at_builtin; refine wpList_append_own _ rfl _ _ 22 rfl w2.heap.size 56 i0 _ 5 88 Tryz.underlying22 hi0 hz0 hz1 hz2 rfl (by decide) _ _ _ rfl (HO3.out.alloc _) ⟨w3.heap.size, 0, none⟩ 1 1 [.string p, .string q, .slice ra2 rn2 rc2, .slice pa pn pc, .bool bk] rfl rfl ?c1 ?c2 ?c3 ?c4 ?c5 ?_)
        case c1 => exact World.news_of_block (cs := #[.string p, .string q, .slice ra2 rn2 rc2, .slice pa pn pc, .bool bk]) (t := 56) (fr := (0, 0)) (heap_alloc_new w3 _)
        case c2 =>
          intro u hu
          simp at hu
          rcases hu with rfl | rfl | rfl | rfl | rfl <;> rfl
        case c3 => have := HLN.out; unfold maxLen; omega
        case c4 => have := HLN.out; omega
        case c5 => have := HB3.out.size; simp; omega
        intro v' w4 hown hgrow _
        have HR3 := hid (rel_app5 HB3.out.size HB3.out HO3.out (Below.refl _ _) hgrow)
        have HO4 := hid hown
        clear hown hgrow z0 z1 z2 z3 z4
        go_wp2_with fail
        go_roundw
        case rel => first | exact ⟨k + 1, HLT.out, nr_idx k, hid (own_nextR (x := ((p, q), .slice ra2 rn2 rc2, .slice pa pn pc, bk)) HO4.out HY2.out), HR3⟩ | exact ⟨k + 1, HLT.out, nx_idx HLT.out HQL.out, hid (own_nextR (x := ((p, q), .slice ra2 rn2 rc2, .slice pa pn pc, bk)) HO4.out HY2.out), HR3⟩
        case measure => first | exact nr_meas HLT.out | exact nx_meas HLT.out HQL.out
    · have HTR := hid (show Q.take k = Q from List.take_of_length_le (by omega))
      rw [HTR.out] at HO
      have hkI : ¬ (k : Int) < (Q.length : Int) := by omega
      obtain ⟨oa, oc, hov⟩ := own_slN HO.out
      subst hov
      clear hlt
      go_wp2_with fail
      go_ret2
      exact ⟨_, rfl, T, HCM.out, own_baseN HO.out HB2.out.size, HB2.out.trans (HBr.out.mono HB2.out.size)⟩
end Ve
end Go.Proofs.YtoaobngpdaidoaaGreatDoor


namespace Go.Proofs.YtoaobngpdaidoaaGreatDoor
open Go.RowKit Go.Maps
namespace Ve
set_option maxRecDepth 100000 in
set_option maxHeartbeats 2000000 in
theorem reached_bad (Q : List Raw) (L : List Ent) (roots : List Bm) (v rv : Value) (A : Nat → Addr) (m : Int) (w : World) (hn : L.length ≤ 1000) (hrn : roots.length ≤ 1000000) (sh : ∀ e, e ∈ L → ShE e) (S : Te w A m) (I : Ixs w v Q L) (hr : MsAt w rv roots) (h0 : (chkG Q L roots).1 ≠ 0) :
    Calls Tryz.prog 60 #[v, rv] w fun e w' => ∃ T a, e = .returned (.tuple #[.slice none 0 0, .iface T (.pointer (some a))]) ∧ ErrAt w' A (.iface T (.pointer (some a))) (chkG Q L roots).1 (chkG Q L roots).2 ∧ Below w.heap.size w w' := by
  have HCK := hid (gcheck_any Q L roots v rv A m w hn hrn sh S I hr)
  obtain ⟨a, c, hv, -⟩ := id I.es
  subst hv
  obtain ⟨ra, rc, hrv, -⟩ := id hr
  subst hrv
  have HH0 := hid h0
  clear S I hr sh h0
  go_enter Tryz.func60, Tryz.ntmps60
  go_wp2_with fail
  refine HCK.out.mono ?_
  rintro e w1 ⟨x, rfl, he, hb⟩
  have HB := hid hb
  have HE := hid he
  rcases he.kind with ⟨h, _⟩ | ⟨_, T, xa, rfl⟩
  · exact absurd h HH0.out
  clear hb he HCK
  go_wp2_with fail
  go_ret2
  exact ⟨_, _, rfl, HE.out, HB.out⟩
set_option maxRecDepth 100000 in
set_option maxHeartbeats 2000000 in
theorem reach_bad (Q : List Raw) (L : List Ent) (roots : List Bm) (v rv : Value) (A : Nat → Addr) (m : Int) (w : World) (hn : L.length ≤ 1000) (hrn : roots.length ≤ 1000000) (sh : ∀ e, e ∈ L → ShE e) (S : Te w A m) (I : Ixs w v Q L) (hr : MsAt w rv roots) (h0 : (chkG Q L roots).1 ≠ 0) :
    Calls Tryz.prog 32 #[v, rv] w fun e w' => ∃ T a, e = .returned (.tuple #[.slice none 0 0, .iface T (.pointer (some a))]) ∧ ErrAt w' A (.iface T (.pointer (some a))) (chkG Q L roots).1 (chkG Q L roots).2 ∧ Below w.heap.size w w' := by
  have HCK := hid (reached_bad Q L roots v rv A m w hn hrn sh S I hr h0)
  obtain ⟨a, c, hv, -⟩ := id I.es
  subst hv
  obtain ⟨ra, rc, hrv, -⟩ := id hr
  subst hrv
  clear S I hr sh h0
  go_enter Tryz.func32, Tryz.ntmps32
  go_wp2_with fail
  refine HCK.out.mono ?_
  rintro e w1 ⟨T, xa, rfl, he, hb⟩
  have HB := hid hb
  have HE := hid he
  clear hb he HCK
  go_wp2_with fail
  go_ret2
  exact ⟨_, _, rfl, HE.out, HB.out⟩
theorem goM_next {X : List Raw} {k : Nat} (hk : k < X.length) : flatM ((X.take (k + 1)).map fun r => r.1) = flatM ((X.take k).map fun r => r.1) ++ [.string X[k].1.1, .string X[k].1.2] := by
  rw [List.take_succ_eq_append_getElem hk, List.map_append, flatM_app]
  simp [flatM]
theorem rel_app2 {B : Nat} {w wr w2 w3 : World} {e : TypeId} {v : Value} {n : Nat} {xs : List Value} {o : Obj} (hB : B ≤ wr.heap.size) (hb : Below B w wr) (hown : wr.ownsRow B e 2 v n xs) (hb2 : Below wr.heap.size wr w2)
    (hg : (w2.alloc o).grownBy w3 v.ownBlock) : Below B w w3 := by
  have h2 : Below B w w2 := hb.trans (hb2.mono hB)
  have h3 : Below B w (w2.alloc o) := h2.alloc (Nat.le_trans hB hb2.size) o
  exact h3.grown hg (by simp; exact Nat.le_succ_of_le (Nat.le_trans hB hb2.size)) (fun k hk => (hown.lt k hk).1)
set_option maxRecDepth 100000 in
set_option maxHeartbeats 2000000 in
theorem reach_good (Q : List Raw) (L : List Ent) (roots : List Bm) (v rv : Value) (A : Nat → Addr) (m : Int) (w : World) (hn : L.length ≤ 1000) (hrn : roots.length ≤ 1000000) (sh : ∀ e, e ∈ L → ShE e) (S : Te w A m) (I : Ixs w v Q L) (hr : MsAt w rv roots) (h0 : (chkG Q L roots).1 = 0) :
    Calls Tryz.prog 32 #[v, rv] w fun e w' => ∃ u, e = .returned (.tuple #[u, .nilIface]) ∧ ∃ T, Came (reqQ Q L) (univ L) roots T ∧ w'.ownsRow w.heap.size 46 2 u (goM T Q).length (flatM (goM T Q)) ∧ Below w.heap.size w w' := by
  have HRE := hid (reached_some Q L roots v rv A m w hn hrn sh S I hr h0)
  obtain ⟨a, c, hv, -, hs, -⟩ := id I.es
  subst hv
  obtain ⟨ra, rc, hrv, -⟩ := id hr
  subst hrv
  obtain ⟨i0, hi0, hz0, hz1, hz2⟩ := info_parts infoMod
  have HSL := hid hs
  have HLN := hid I.ln
  clear S I hr sh h0 hs
  go_enter Tryz.func32, Tryz.ntmps32
  go_wp2_with fail
  refine HRE.out.mono ?_
  rintro e w1 ⟨u, rfl, T, hcm, hown, hb⟩
  have HCM := hid hcm
  have HB := hid hb
  have HES := hid (show EsAt w1 u (goQ T Q) from own_es (fun r hr => HSL.out r (List.mem_filter.1 hr).1) hown)
  obtain ⟨ua, uc, hu⟩ := own_slN hown
  subst hu
  have HXL := hid (show (goQ T Q).length ≤ 1000 from Nat.le_trans (List.length_filter_le _ _) (by rw [HLN.out]; exact hn))
  have HSX := hid (show ∀ r, r ∈ goQ T Q → slR r from fun r hr => HSL.out r (List.mem_filter.1 hr).1)
  have HGM := hid (show goM T Q = (goQ T Q).map fun r => r.1 from rfl)
  clear hcm hb hown HRE HSL
  generalize goQ T Q = X at *
  go_wp2_with fail
  go_loopw [8, 22] (fun ov i wr => ∃ k : Nat, k ≤ X.length ∧ i = .int .i64 k ∧ Hid (wr.ownsRow w1.heap.size 46 2 ov k (flatM ((X.take k).map fun r => r.1))) ∧ Hid (Below w1.heap.size w1 wr)) (fun _ i _ => X.length - (intOf i).toNat)
  case atStart => exact ⟨0, Nat.zero_le _, rfl, hid (World.ownsRow_nil _ _ _ _), hid (Below.refl _ _)⟩
  case round =>
    obtain ⟨k, hk, rfl, HO, HBr⟩ := hrel
    by_cases hlt : k < X.length
    · obtain ⟨ua', uc', hue, -, -, hce⟩ := HES.out.below HBr.out
      injection hue with hu1 hu2 hu3
      subst hu1
      subst hu3
      clear hu2
      obtain ⟨eb, eo, ha, hce2⟩ := hce (by intro h; rw [h] at hlt; simp at hlt)
      subst ha
      obtain ⟨x0, x1, x2, x3, x4⟩ := hce2 k hlt
      have hsl := HSX.out X[k] (List.getElem_mem hlt)
      have hkI : (k : Int) < (X.length : Int) := by omega
      have HLT := hid hlt
      have HNX := hid (goM_next hlt)
      clear hce hce2
      generalize X[k] = r at *
      obtain ⟨⟨p, q⟩, rv, pv, bk⟩ := r
      obtain ⟨⟨ra2, rn2, rc2, hrv⟩, pa, pn, pc, hpv⟩ := hsl
      simp only at hrv hpv
      subst hrv
      subst hpv
      have HBa := hid ((Below.refl wr.heap.size wr).alloc (Nat.le_refl _) (.cells #[.string p, .string q, .slice ra2 rn2 rc2, .slice pa pn pc, .bool bk] 56))
      have HBB := hid (HBr.out.trans (HBa.out.mono HBr.out.size))
      have HOa := hid (HO.out.alloc (.cells #[.string p, .string q, .slice ra2 rn2 rc2, .slice pa pn pc, .bool bk] 56))
      have hs1 := HBr.out.size
      clear hlt
      go_wp2_with (at_builtin; refine wpList_append_own _ rfl _ _ 23 rfl w1.heap.size 46 i0 _ 2 32 Tryz.underlying23 hi0 hz0 hz1 hz2 rfl (by decide) _ _ _ rfl (HOa.out.alloc _) ⟨wr.heap.size + 1, 0, none⟩ 1 1 [.string p, .string q] rfl rfl ?c1 ?c2 ?c3 ?c4 ?c5 ?_)
      case c2 => first | rfl | exact ⟨rfl, rfl⟩ | (intro u hu; simp at hu; rcases hu with rfl | rfl <;> rfl) | simp
      case c3 => have := HLT.out; have := HXL.out; unfold maxLen; omega
      case c4 => have := HLT.out; have := HXL.out; omega
      case c5 => first | omega | (simp; omega)
      intro v' w4 hown hgrow _
      have HR3 := hid (rel_app2 HBB.out.size HBB.out HOa.out (Below.refl _ _) hgrow)
      have HO4 := hid hown
      clear hown hgrow
      go_wp2_with fail
      go_roundw
      case rel => first | exact ⟨k + 1, HLT.out, nr_idx k, hid (by rw [HNX.out, List.map_take]; exact HO4.out), HR3⟩ | exact ⟨k + 1, HLT.out, nx_idx HLT.out (by have := HXL.out; omega), hid (by rw [HNX.out, List.map_take]; exact HO4.out), HR3⟩
      case measure => first | exact nr_meas HLT.out | exact nx_meas HLT.out (by have := HXL.out; omega)
    · have HTR := hid (show X.take k = X from List.take_of_length_le (by omega))
      have HKE := hid (show k = X.length by omega)
      rw [HTR.out] at HO
      have hkI : ¬ (k : Int) < (X.length : Int) := by omega
      obtain ⟨oa, oc, hov⟩ := own_slN HO.out
      subst hov
      clear hlt
      go_wp2_with fail
      go_ret2
      exact ⟨_, rfl, T, HCM.out, by rw [HGM.out, List.length_map, ← HKE.out]; exact own_baseN HO.out HB.out.size, HB.out.trans (HBr.out.mono HB.out.size)⟩
end Ve
end Go.Proofs.YtoaobngpdaidoaaGreatDoor
