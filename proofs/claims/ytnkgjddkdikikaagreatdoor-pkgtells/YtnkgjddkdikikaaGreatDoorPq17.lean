/-
  RefA FileR LtS MsB PkT LkC SmG RtC PkD PkA UtA
-/
import Derived.Test.YtnkgjddkdikikaaGreatDoorPq3
import Derived.Test.YtnkgjddkdikikaaGreatDoorPq4
import Derived.Test.YtnkgjddkdikikaaGreatDoorPq7
import Derived.Test.YtnkgjddkdikikaaGreatDoorPq2
import Derived.Test.YtnkgjddkdikikaaGreatDoorPq10
import Derived.Deep.AppendLies
import Derived.Test.YtnkgjddkdikikaaGreatDoorPq14
import Derived.Test.YtnkgjddkdikikaaGreatDoorPq5
import Derived.Test.YtnkgjddkdikikaaGreatDoorPq13
import Derived.Test.YtnkgjddkdikikaaGreatDoorPq23
import Derived.Test.YtnkgjddkdikikaaGreatDoorPq26
import Derived.Test.YtnkgjddkdikikaaGreatDoorPq27
import Derived.Test.YtnkgjddkdikikaaGreatDoorPq31
import Derived.Test.YtnkgjddkdikikaaGreatDoorPq29
import Derived.Test.YtnkgjddkdikikaaGreatDoorPq30
import Derived.Test.YtnkgjddkdikikaaGreatDoorPq24
import Derived.Test.YtnkgjddkdikikaaGreatDoorPq12
import Derived.Test.YtnkgjddkdikikaaGreatDoorPq1
import Derived.Test.YtnkgjddkdikikaaGreatDoorPq35
import Derived.Deep.RegionHeldLaw
import Derived.Test.YtnkgjddkdikikaaGreatDoorPq32
import Derived.Test.YtnkgjddkdikikaaGreatDoorPq37
import Derived.Test.YtnkgjddkdikikaaGreatDoorPq49
import Derived.Test.YtnkgjddkdikikaaGreatDoorPq34
import Derived.Test.YtnkgjddkdikikaaGreatDoorPq84
import Derived.Test.YtnkgjddkdikikaaGreatDoorPq48
namespace Go.Proofs.YtnkgjddkdikikaaGreatDoor
open Go.RowKit
namespace Ve
theorem same_len (a b : Option Addr) (n c m d : Nat) (w : World) (h : ((n : Int) == (m : Int)) = false) :
    Calls Tryz.prog 48 #[.slice a n c, .slice b m d] w fun e w' => e = .returned (.bool false) ∧ w' = w := by
  go_enter Tryz.func48, Tryz.ntmps48
  go_wp2_with fail
  go_ret
  exact ⟨rfl, rfl⟩
theorem same_none (a b : Option Addr) (c d : Nat) (w : World) :
    Calls Tryz.prog 48 #[.slice a 0 c, .slice b 0 d] w fun e w' => e = .returned (.bool true) ∧ w' = w := by
  go_enter Tryz.func48, Tryz.ntmps48
  go_wp2_with fail
  refine wp_loop_rounds 1 ?_
  rw [rounds_succ]
  go_wp2_with fail
  go_ret
  exact ⟨rfl, rfl⟩
set_option maxHeartbeats 1000000 in
theorem same_some (b0 o0 c0 b1 o1 c1 : Nat) (X Y : List ByteArray) (w : World) (hl : X.length = Y.length) (hn : X.length ≤ 1000000)
    (h0 : ∀ j (h : j < X.length), w.cell? ⟨b0, o0 + j, none⟩ = some (.string X[j])) (h1 : ∀ j (h : j < Y.length), w.cell? ⟨b1, o1 + j, none⟩ = some (.string Y[j])) :
    Calls Tryz.prog 48 #[.slice (some ⟨b0, o0, none⟩) X.length c0, .slice (some ⟨b1, o1, none⟩) X.length c1] w fun e w' => e = .returned (.bool (decide (X = Y))) ∧ Below w.heap.size w w' := by
  have H0 := hid h0
  have H1 := hid h1
  have HL := hid hl
  clear h0 h1 hl
  go_enter Tryz.func48, Tryz.ntmps48
  go_wp2_with fail
  go_loopw [5] (fun i wr => ∃ k d : Nat, k ≤ X.length ∧ i = .int .i64 k ∧ Hid (X.take k = Y.take k) ∧ wr = w.drewN d) (fun i _ => X.length - (intOf i).toNat)
  case atStart => exact ⟨0, 0, Nat.zero_le _, rfl, hid rfl, rfl⟩
  case round =>
    obtain ⟨k, d, hk, rfl, HE, rfl⟩ := hrel
    by_cases hlt : k < X.length
    · have hlt' : k < Y.length := HL.out ▸ hlt
      have q0 := H0.out k hlt
      have q1 := H1.out k hlt'
      by_cases heq : X[k] = Y[k]
      · have HS := hid (show X.take (k + 1) = Y.take (k + 1) by rw [List.take_succ_eq_append_getElem hlt, List.take_succ_eq_append_getElem hlt', HE.out, heq])
        rw [← heq] at q1
        clear heq hlt'
        generalize X[k] = x at *
        go_wp2_with fail
        go_quiet (fail)
        go_wp2_with fail
        go_roundw
        case rel => exact ⟨k + 1, _, by omega, by go_num, HS, rfl⟩
        case measure => simp [intOf]; omega
      · have HF := hid (show decide (X = Y) = false by
          rw [decide_eq_false_iff_not]; intro h; subst h; exact heq rfl)
        have hb : (X[k].toList == Y[k].toList) = false := str_ne heq
        clear heq
        go_wp2_with fail
        go_quiet (fail)
        go_wp2_with fail
        go_ret
        exact ⟨ret_bool HF.out.symm, (below_drawn w d).trans (show Below w.heap.size (w.drewN d) _ from below_drawn (w.drewN d) _)⟩
    · have HT := hid (show decide (X = Y) = true by
        have e1 : X.take k = X := List.take_of_length_le (by omega)
        have e2 : Y.take k = Y := List.take_of_length_le (by have := HL.out; omega)
        have := HE.out
        rw [e1, e2] at this
        simp [this])
      go_wp2_with fail
      go_ret
      exact ⟨ret_bool HT.out.symm, below_drawn _ _⟩
end Ve
end Go.Proofs.YtnkgjddkdikikaaGreatDoor
namespace Go.Proofs.YtnkgjddkdikikaaGreatDoor
open Go.RowKit
namespace Ve
def hiR (R : List Bm) (p : ByteArray) : List Bm := R.filter (fun m => lt p m.1)
end Ve
end Go.Proofs.YtnkgjddkdikikaaGreatDoor
namespace Go.Proofs.YtnkgjddkdikikaaGreatDoor
open Go.RowKit
namespace Ve
theorem lss_lt (a b : ByteArray) : Op.bytesLess a.toList b.toList = lt a b := by unfold lt; rw [cb_less, ByteArray.toList_eq, ByteArray.toList_eq]
end Ve
end Go.Proofs.YtnkgjddkdikikaaGreatDoor
namespace Go.Proofs.YtnkgjddkdikikaaGreatDoor
open Go.RowKit
namespace Ve
theorem own_lt {W : World} {B n g : Nat} {e : TypeId} {v : Value} {xs : List Value} (h : W.ownsRow B e 2 v n xs) (hv : v.ownBlock = some g) : g < W.heap.size ∧ B ≤ g := by
  obtain ⟨hl, ⟨h, _⟩ | ⟨g', cap, cur, e1, e2, e3, _⟩⟩ := h
  · rw [h] at hv; cases hv
  · rw [e1] at hv
    have : g' = g := by simpa [Value.ownBlock] using hv
    subst this
    exact ⟨lt_of_blk e3, e2⟩
end Ve
end Go.Proofs.YtnkgjddkdikikaaGreatDoor
namespace Go.Proofs.YtnkgjddkdikikaaGreatDoor
open Go.RowKit
namespace Ve
theorem insT_at {s : ByteArray} : ∀ {X : List ByteArray} {a : Nat}, a ≤ X.length → (∀ j (h : j < X.length), j < a → lt X[j] s = true) → (∀ h : a < X.length, lt X[a] s = false) → insT X s = if X[a]? = some s then X else X.take a ++ s :: X.drop a
  | [], a, ha, _, _ => by
    have : a = 0 := by simpa using ha
    subst this; unfold insT; simp
  | x :: r, 0, _, _, h2 => by
    have h3 : lt x s = false := h2 (by simp)
    unfold insT
    rw [h3, if_neg (by simp)]
    simp only [List.getElem?_cons_zero, Option.some.injEq, List.take_zero, List.drop_zero, List.nil_append]
  | x :: r, a + 1, ha, h1, h2 => by
    have h3 : lt x s = true := h1 0 (by simp) (by omega)
    have ih := insT_at (s := s) (X := r) (a := a) (by simpa using ha) (fun j h hj => h1 (j + 1) (by simp; omega) (by omega)) (fun h => h2 (by simp; omega))
    unfold insT
    rw [if_pos h3, ih]
    simp only [List.getElem?_cons_succ, List.take_succ_cons, List.drop_succ_cons, List.cons_append]
    split <;> rfl
end Ve
end Go.Proofs.YtnkgjddkdikikaaGreatDoor
namespace Go.Proofs.YtnkgjddkdikikaaGreatDoor
open Go.RowKit Go.Maps
namespace Ve
theorem nodup_sub {α : Type} [DecidableEq α] : ∀ {a b : List α}, a.Nodup → (∀ x, x ∈ a → x ∈ b) → a.length ≤ b.length
  | [], b, _, _ => Nat.zero_le _
  | x :: r, b, hn, hs => by
    obtain ⟨h1, h2⟩ := List.nodup_cons.1 hn
    have hx := hs x (List.mem_cons_self ..)
    have := nodup_sub (a := r) (b := b.erase x) h2 fun y hy => (List.mem_erase_of_ne (fun e => h1 (by rw [← e]; exact hy))).2 (hs y (List.mem_cons_of_mem _ hy))
    rw [List.length_erase_of_mem hx] at this
    have hp := List.length_pos_of_mem hx
    simp only [List.length_cons]
    omega
end Ve
end Go.Proofs.YtnkgjddkdikikaaGreatDoor
namespace Go.Proofs.YtnkgjddkdikikaaGreatDoor
open Go.RowKit Go.Maps
namespace Ve
set_option maxHeartbeats 2000000 in
theorem sameG_len (a a' : Option Addr) (n n' c c' : Nat) (w : World) (h : n ≠ n') : Calls Tryz.prog 26 #[.slice a n c, .slice a' n' c'] w fun e w' => e = .returned (.bool false) ∧ Below w.heap.size w w' := by
  have h1 : ¬ (n : Int) = (n' : Int) := by omega
  have h2 : ((n : Int) == (n' : Int)) = false := by simp; omega
  go_enter Tryz.func26, Tryz.ntmps26
  go_wp2_with fail
  go_ret
  exact ⟨rfl, Below.refl _ _⟩
set_option maxHeartbeats 2000000 in
theorem sameG_some (L M : List Bm) (b o c b' o' c' : Nat) (w : World) (hn : L.length ≤ 1000000) (hl : M.length = L.length)
    (hc : ∀ j (h : j < L.length), w.cell? ⟨b, o + j * 2, none⟩ = some (.string L[j].1) ∧ w.cell? ⟨b, o + j * 2 + 1, none⟩ = some (.string L[j].2))
    (hd : ∀ j (h : j < M.length), w.cell? ⟨b', o' + j * 2, none⟩ = some (.string M[j].1) ∧ w.cell? ⟨b', o' + j * 2 + 1, none⟩ = some (.string M[j].2)) :
    Calls Tryz.prog 26 #[.slice (some ⟨b, o, none⟩) L.length c, .slice (some ⟨b', o', none⟩) L.length c'] w fun e w' => e = .returned (.bool (decide (L = M))) ∧ Below w.heap.size w w' := by
  have HC := hid hc
  have HD := hid hd
  have hgd := modGuard
  have HX := hid (show (∀ j (h : j < L.length) (h' : j < M.length), L[j] = M[j]) → decide (L = M) = true from fun h => decide_eq_true (List.ext_getElem hl.symm (fun j h1 h2 => h j h1 h2)))
  have HY := hid (show ∀ j (h : j < L.length) (h' : j < M.length), L[j] ≠ M[j] → decide (L = M) = false from fun j h h' hne => decide_eq_false (fun e => hne (by subst e; rfl)))
  generalize decide (L = M) = z at *
  clear hc hd
  go_enter Tryz.func26, Tryz.ntmps26
  go_wp2_with fail
  go_loopw [5] (fun i wr => ∃ k : Nat, k ≤ L.length ∧ i = .int .i64 k ∧ Hid (∀ j (h : j < L.length) (h' : j < M.length), j < k → L[j] = M[j]) ∧ Hid (Below w.heap.size w wr)) (fun i _ => L.length - (intOf i).toNat)
  case atStart => exact ⟨0, Nat.zero_le _, rfl, hid (fun j _ _ hj => absurd hj (Nat.not_lt_zero _)), hid (Below.refl _ _)⟩
  case round =>
    obtain ⟨k, hk, rfl, HE, HB⟩ := hrel
    by_cases hlt : k < L.length
    · have hlm : k < M.length := by omega
      have hx := cell_below HB.out (HC.out k hlt).1
      have hy := cell_below HB.out (HC.out k hlt).2
      have hx' := cell_below HB.out (HD.out k hlm).1
      have hy' := cell_below HB.out (HD.out k hlm).2
      have hne := fun W => modNeq L[k].1 L[k].2 M[k].1 M[k].2 W
      have hkI : (k : Int) < (L.length : Int) := by omega
      have HLT := hid hlt
      have HN := hid (show L[k] = M[k] → ∀ j (h : j < L.length) (h' : j < M.length), j < k + 1 → L[j] = M[j] from fun h0 j h1 h2 h3 => by
        rcases Nat.lt_or_ge j k with h | h
        · exact HE.out j h1 h2 h
        · have : j = k := by omega
          subst this; exact h0)
      have HYK := hid (HY.out k hlt hlm)
      generalize L[k] = x at *
      generalize M[k] = y at *
      obtain ⟨x1, x2⟩ := x
      obtain ⟨y1, y2⟩ := y
      simp only at hx hy hx' hy' hne
      clear hlt hlm
      by_cases he : x1 = y1 ∧ x2 = y2
      · rw [decide_eq_true he] at hne
        have HN2 := hid (HN.out (Prod.ext he.1 he.2))
        clear he HN
        go_wp2_with fail
        go_quiet (fail)
        go_wp2_with fail
        go_roundw
        case rel => first | exact ⟨k + 1, HLT.out, nr_idx k, HN2, hid (below_drawn_of HB.out _)⟩ | exact ⟨k + 1, HLT.out, nx_idx HLT.out hn, HN2, hid (below_drawn_of HB.out _)⟩
        case measure => first | exact nr_meas HLT.out | exact nx_meas HLT.out hn
      · rw [decide_eq_false he] at hne
        have HZ := hid (HYK.out (fun e => he (by injection e with e1 e2; exact ⟨e1, e2⟩)))
        clear he HN
        go_wp2_with fail
        go_quiet (fail)
        go_wp2_with fail
        go_ret
        exact ⟨by rw [HZ.out]; rfl, below_drawn_of HB.out _⟩
    · have hkI : ¬ (k : Int) < (L.length : Int) := by omega
      have HZ := hid (HX.out (fun j h h' => HE.out j h h' (by omega)))
      go_wp2_with fail
      go_ret
      exact ⟨by rw [HZ.out]; rfl, HB.out⟩
theorem sameG_any (L M : List Bm) (v u : Value) (w : World) (hn : L.length ≤ 1000000) (hv : MsAt w v L) (hu : MsAt w u M) : Calls Tryz.prog 26 #[v, u] w fun e w' => e = .returned (.bool (decide (L = M))) ∧ Below w.heap.size w w' := by
  obtain ⟨a, c, rfl, _, h⟩ := hv
  obtain ⟨a', c', rfl, _, h'⟩ := hu
  by_cases hl : M.length = L.length
  · cases L with
    | nil =>
      have : M = [] := List.length_eq_zero_iff.1 hl
      subst this
      exact sameM_none a a' c c' w
    | cons x r =>
      obtain ⟨b, o, rfl, h2⟩ := h (by simp)
      obtain ⟨b', o', rfl, h3⟩ := h' (fun e => by rw [e] at hl; simp at hl)
      rw [hl]
      exact sameG_some (x :: r) M b o c b' o' c' w hn hl h2 h3
  · rw [decide_eq_false (fun e => hl (by rw [e]))]
    exact sameG_len a a' _ _ c c' w (fun e => hl e.symm)
end Ve
end Go.Proofs.YtnkgjddkdikikaaGreatDoor
namespace Go.Proofs.YtnkgjddkdikikaaGreatDoor
open Go.RowKit Go.Maps
namespace Ve
theorem findOf_none (a : Option Addr) (c : Nat) (m : Bm) (w : World) : Calls Tryz.prog 28 #[.slice a 0 c, .agg #[.string m.1, .string m.2]] w fun e w' => e = .returned (.int .i64 (-1)) ∧ Below w.heap.size w w' := by
  have HB0 := hid ((Below.refl w.heap.size w).alloc (Nat.le_refl _) (.cells #[.string m.1, .string m.2] 35))
  go_enter Tryz.func28, Tryz.ntmps28
  go_wp2_with fail
  go_loopw [5] (fun i wr => i = .int .i64 0 ∧ Hid (Below w.heap.size w wr)) (fun i _ => 0)
  case atStart => exact ⟨rfl, HB0⟩
  case round =>
    obtain ⟨rfl, HB⟩ := hrel
    go_wp2_with fail
    go_ret
    exact ⟨rfl, HB.out⟩
theorem findOf_all (Q : List Raw) (m : Bm) (v : Value) (w : World) (hL : Q.length ≤ 1000000) (hv : EsAt w v Q) :
    Calls Tryz.prog 28 #[v, .agg #[.string m.1, .string m.2]] w fun e w' => e = .returned (.int .i64 (idxOf (isM m) Q)) ∧ Below w.heap.size w w' := by
  by_cases hQ : Q = []
  · subst hQ
    obtain ⟨a, c, rfl, _⟩ := hv
    exact findOf_none a c m w
  · exact findOf_any Q m v w hL (List.length_pos_iff.2 hQ) hv
theorem nonE_bad {Q : List Raw} {R : List Bm} {k : Nat} (hk : k < R.length) (h0 : ∀ j (h : j < R.length), j < k → 0 ≤ idxOf (isM R[j]) Q) (h : idxOf (isM R[k]) Q < 0) : (codeE (nonE Q R) R.length, fstE (nonE Q R) R.length) = (5, some k) := by
  have hz : ∀ j, j < k → nonE Q R j = 0 := fun j hj => by
    rw [nonE_at (by omega)]
    unfold nonW
    rw [if_neg (Int.not_lt.2 (h0 j (by omega) hj))]
  have h5 : nonE Q R k = 5 := by
    rw [nonE_at hk]
    unfold nonW
    rw [if_pos h]
  have hs := fstE_some hz (by rw [h5]; decide) hk
  rw [codeE_some hs, hs, h5]
end Ve
end Go.Proofs.YtnkgjddkdikikaaGreatDoor
namespace Go.Proofs.YtnkgjddkdikikaaGreatDoor
open Go.RowKit Go.Maps
namespace Ve
set_option maxHeartbeats 4000000 in
set_option maxRecDepth 100000 in
theorem rsel_any (Q : List Raw) (R : List Bm) (v rv : Value) (w : World) (hn : Q.length ≤ 1000) (hR : R.length ≤ 1000000) (hv : EsAt w v Q) (hr : MsAt w rv R) :
    Calls Tryz.prog 109 #[v, rv] w fun e w' => e = .returned (faultV (slF Q R)) ∧ Below w.heap.size w w' := by
  have HB0 := hid ((Below.refl w.heap.size w).alloc (Nat.le_refl _) (.cells #[.int .i64 0, .int .i64 0] 62))
  have HE0 := hid (heap_new w (.cells #[.int .i64 0, .int .i64 0] 62))
  have HFO := hid (fun m W (h : Below w.heap.size w W) => findOf_all Q m v W (by omega) (hv.below h))
  have HFN := hid (fun W => fine_any W)
  have HMR := hid (fun W (h : Below w.heap.size w W) => hr.below h)
  have HGD := hid (nonE_good (Q := Q) (R := R))
  have HBD := hid (fun k (hk : k < R.length) h0 h => nonE_bad (Q := Q) hk h0 h)
  obtain ⟨a, c, hv1, -⟩ := id hv
  subst hv1
  obtain ⟨ra, rc, hrv, -⟩ := id hr
  subst hrv
  show Calls Tryz.prog 109 #[_, _] w fun e w' => e = .returned (faultV (codeE (nonE Q R) R.length, fstE (nonE Q R) R.length)) ∧ Below w.heap.size w w'
  generalize (codeE (nonE Q R) R.length, fstE (nonE Q R) R.length) = ans at *
  clear hv hr
  go_enter Tryz.func109, Tryz.ntmps109
  go_wp2_with fail
  go_loopw [5] (fun kv wr => ∃ k : Nat, k ≤ R.length ∧ kv = .int .i64 k ∧ Hid (∀ j (h : j < R.length), j < k → 0 ≤ idxOf (isM R[j]) Q) ∧ Hid (Below w.heap.size w wr) ∧ Hid (wr.heap[w.heap.size]? = some (.cells #[.int .i64 0, .int .i64 0] 62 (0, 0)))) (fun kv _ => R.length - (intOf kv).toNat)
  case atStart => exact ⟨0, Nat.zero_le _, rfl, hid (fun j _ h => absurd h (Nat.not_lt_zero _)), HB0, HE0⟩
  case round =>
    obtain ⟨k, hk, rfl, HZ3, HB3, HE3⟩ := hrel
    by_cases hlk : k < R.length
    · have hkI : (k : Int) < (R.length : Int) := by omega
      have hk0 : (0 : Int) ≤ (k : Int) := by omega
      obtain ⟨xb, xo, hxa, y0, y1⟩ := (HMR.out _ HB3.out).cells hlk
      subst hxa
      have HLK := hid hlk
      have HF := hid (HFO.out R[k] _ HB3.out)
      have HNK := hid (show 0 ≤ idxOf (isM R[k]) Q → ∀ j (h : j < R.length), j < k + 1 → 0 ≤ idxOf (isM R[j]) Q from fun h0 j h1 h3 => by
        rcases Nat.lt_or_ge j k with h | h
        · exact HZ3.out j h1 h
        · have : j = k := by omega
          subst this; exact h0)
      have HBK := hid (HBD.out k hlk HZ3.out)
      generalize R[k] = x at *
      obtain ⟨x1, x2'⟩ := x
      generalize idxOf (isM (x1, x2')) Q = ix at *
      clear hlk
      by_cases hix : ix < 0
      · have HX := hid (HBK.out hix)
        go_wp2_with fail
        refine HF.out.mono ?_
        rintro e w1 ⟨rfl, hb⟩
        have HB4 := hid (HB3.out.trans (hb.mono HB3.out.size))
        have HE4 := hid ((hb.block _ (lt_of_blk HE3.out)).trans HE3.out)
        clear hb
        have s0 : w1.cell? ⟨w.heap.size, 0, none⟩ = some (.int .i64 0) := by rw [Lib.cell_of_heap HE4.out]; rfl
        have s1 : w1.cell? ⟨w.heap.size, 1, none⟩ = some (.int .i64 0) := by rw [Lib.cell_of_heap HE4.out]; rfl
        have tf := fun o => Lib.frozen_of_heap HE4.out o
        go_wp2_with fail
        refine bodyPost_ret (v := .agg #[.int .i64 5, .int .i64 (k : Int)]) (by simp [results, Tryz.results109, go_sem, s0, s1]) rfl ⟨by rw [HX.out]; rfl, ?_⟩
        exact put2_below HB4.out (Nat.le_refl _)
      · have HN2 := hid (HNK.out (Int.not_lt.1 hix))
        go_wp2_with fail
        refine HF.out.mono ?_
        rintro e w1 ⟨rfl, hb⟩
        have HB4 := hid (HB3.out.trans (hb.mono HB3.out.size))
        have HE4 := hid ((hb.block _ (lt_of_blk HE3.out)).trans HE3.out)
        clear hb
        go_wp2_with fail
        go_roundw
        case rel => first | exact ⟨k + 1, HLK.out, nr_idx k, HN2, HB4, HE4⟩ | exact ⟨k + 1, HLK.out, nx_idx HLK.out hR, HN2, HB4, HE4⟩
        case measure => first | exact nr_meas HLK.out | exact nx_meas HLK.out hR
    · have hkI : ¬ (k : Int) < (R.length : Int) := by omega
      have HX := hid (HGD.out (fun j h => HZ3.out j h (by omega)))
      clear hlk
      go_wp2_with fail
      refine (HFN.out _).mono ?_
      rintro e w1 ⟨rfl, hb⟩
      have HB4 := hid (HB3.out.trans (hb.mono HB3.out.size))
      have HE4 := hid ((hb.block _ (lt_of_blk HE3.out)).trans HE3.out)
      clear hb
      have s0 : w1.cell? ⟨w.heap.size, 0, none⟩ = some (.int .i64 0) := by rw [Lib.cell_of_heap HE4.out]; rfl
      have s1 : w1.cell? ⟨w.heap.size, 1, none⟩ = some (.int .i64 0) := by rw [Lib.cell_of_heap HE4.out]; rfl
      have tf := fun o => Lib.frozen_of_heap HE4.out o
      go_wp2_with fail
      refine bodyPost_ret (v := .agg #[.int .i64 0, .int .i64 (-1)]) (by simp [results, Tryz.results109, go_sem, s0, s1]) rfl ⟨by rw [HX.out]; rfl, ?_⟩
      exact put2_below HB4.out (Nat.le_refl _)
end Ve
end Go.Proofs.YtnkgjddkdikikaaGreatDoor
namespace Go.Proofs.YtnkgjddkdikikaaGreatDoor
open Go.RowKit Go.Maps
namespace Ve
set_option maxRecDepth 100000 in
set_option maxHeartbeats 4000000 in
theorem rpacks_any (r : Raw) (X : List ByteArray) (w : World) (hs : slR r) (hx : TxAt w r.2.2.1 X) (hX : X.length ≤ 1000) (ht : r.1.1.size < 999999) (hxs : ∀ x, x ∈ X → x.size < 999999) :
    Calls Tryz.prog 110 #[rawV r] w fun e w' => ∃ u, e = .returned u ∧ w'.ownsRow w.heap.size 9 1 u (X.map (packT r.1.1)).length ((X.map (packT r.1.1)).map Value.string) ∧ Below w.heap.size w w' := by
  obtain ⟨i0, hi, hz0, hz1, hz2⟩ := info_parts infoStr
  obtain ⟨⟨t, q⟩, rv, pv, bk⟩ := r
  obtain ⟨⟨ra, rn, rc, hrv⟩, -⟩ := hs
  obtain ⟨pa, pc, hpv, hpc, hcells⟩ := id hx
  simp only at hrv hpv hx ht ⊢
  subst hrv
  subst hpv
  have HB0 := hid ((Below.refl w.heap.size w).alloc (Nat.le_refl _) (.cells #[.string t, .string q, .slice ra rn rc, .slice pa X.length pc, .bool bk] 42))
  have HE0 := hid (heap_new w (.cells #[.string t, .string q, .slice ra rn rc, .slice pa X.length pc, .bool bk] 42))
  have HW0 := hid (show (w.alloc (.cells #[.string t, .string q, .slice ra rn rc, .slice pa X.length pc, .bool bk] 42)).heap.size = w.heap.size + 1 by simp)
  have HX := hid (hx.below HB0.out)
  clear hx hcells
  show Calls Tryz.prog 110 #[.agg #[.string t, .string q, .slice ra rn rc, .slice pa X.length pc, .bool bk]] w _
  generalize hw0 : w.alloc (.cells #[.string t, .string q, .slice ra rn rc, .slice pa X.length pc, .bool bk] 42) = w0 at *
  generalize hZ : X.map (packT t) = Z
  have HZ := hid hZ
  clear hZ
  go_enter Tryz.func110, Tryz.ntmps110
  go_wp2_with fail
  go_loopw [3, 4] (fun ov iv wr => ∃ k : Nat, k ≤ X.length ∧ iv = .int .i64 k ∧ Hid (wr.ownsRow w0.heap.size 9 1 ov ((X.take k).map (packT t)).length (((X.take k).map (packT t)).map Value.string)) ∧ Hid (Below w0.heap.size w0 wr)) (fun _ iv _ => X.length - (intOf iv).toNat)
  case atStart => exact ⟨0, Nat.zero_le _, rfl, hid (World.ownsRow_nil _ _ _ _), hid (Below.refl _ _)⟩
  case round =>
    obtain ⟨k, hk, rfl, HO, HB⟩ := hrel
    have HER := hid ((HB.out.block _ (lt_of_blk HE0.out)).trans HE0.out)
    have s0 : wr.cell? ⟨w.heap.size, 0, none⟩ = some (.string t) := by rw [Lib.cell_of_heap HER.out]; rfl
    have s1 : wr.cell? ⟨w.heap.size, 1, none⟩ = some (.string q) := by rw [Lib.cell_of_heap HER.out]; rfl
    have s2 : wr.cell? ⟨w.heap.size, 2, none⟩ = some (.slice ra rn rc) := by rw [Lib.cell_of_heap HER.out]; rfl
    have s3 : wr.cell? ⟨w.heap.size, 3, none⟩ = some (.slice pa X.length pc) := by rw [Lib.cell_of_heap HER.out]; rfl
    have s4 : wr.cell? ⟨w.heap.size, 4, none⟩ = some (.bool bk) := by rw [Lib.cell_of_heap HER.out]; rfl
    by_cases hlt : k < X.length
    · have hkI := ix_lt hlt
      have hk0 := ix_pos k
      have HLT := hid hlt
      obtain ⟨lb, lo, rfl, y9⟩ := tx_cellK HX.out hlt
      have HY0 := hid y9
      have y0 := cell_below HB.out y9
      have HC0 := hid (show w0.cell? ⟨w.heap.size, 0, none⟩ = some (.string t) by rw [Lib.cell_of_heap HE0.out]; rfl)
      have HC3 := hid (show w0.cell? ⟨w.heap.size, 3, none⟩ = some (.slice (some ⟨lb, lo, none⟩) X.length pc) by rw [Lib.cell_of_heap HE0.out]; rfl)
      clear y9
      have HSN := hid (map_snoc hlt (packT t))
      have HLN := hid (show ((X.take k).map (packT t)).length ≤ 1000 by rw [List.length_map, List.length_take]; omega)
      have HDT := hid (fun h : X[k] = ⟨#[46]⟩ => show packT t X[k] = t by rw [h, packT_dot])
      have HND := hid (fun h : ¬ X[k] = ⟨#[46]⟩ => packT_no (t := t) h)
      have hxk := hxs _ (List.getElem_mem hlt)
      generalize X[k] = x at *
      generalize (X.take k).map (packT t) = Y at *
      clear hlt HX
      by_cases he : x = ⟨#[46]⟩
      · have HP := hid (HDT.out he)
        have hss : (x.toList == [46]) = true := by rw [he, ByteArray.toList_eq]; rfl
        clear he
        go_wp2_with (at_builtin; refine wpList_append_own _ rfl _ _ 29 rfl w0.heap.size 9 i0 _ 1 16 Tryz.underlying29 hi hz0 hz1 hz2 rfl (by decide) _ _ _ rfl (HO.out.alloc _) ⟨wr.heap.size, 0, none⟩ 1 1 [.string t] rfl rfl ?c1 ?c2 ?c3 ?c4 ?c5 ?_)
        case c1 => exact World.news_of_block (cs := #[.string t]) (heap_new _ _)
        case c2 => intro u hu; simp at hu; rw [hu]; rfl
        case c3 => have := HLN.out; unfold maxLen; omega
        case c4 => have := HLN.out; omega
        case c5 => have := HB.out.size; simp; omega
        intro v' w3 hown hgrow _
        have HR3 := hid (rel_app HB.out.size HB.out HO.out (Below.refl _ _) hgrow)
        have HO3 := hid hown
        clear hown hgrow s0 s1 s2 s3 s4 y0
        go_wp2_with fail
        go_roundw
        case rel => exact ⟨k + 1, HLT.out, by first | exact nr_idx k | exact nx_idx HLT.out (by omega : X.length ≤ 1000000), by rw [HSN.out, List.length_append, List.map_append, HP.out]; exact HO3, HR3⟩
        case measure => first | exact nr_meas HLT.out | exact nx_meas HLT.out (by omega : X.length ≤ 1000000)
      · have HP := hid (HND.out he)
        have hss : (x.toList == [46]) = false := by
          have h := str_ne he
          rw [ByteArray.toList_eq, ByteArray.toList_eq] at h
          rw [ByteArray.toList_eq]; exact h
        clear he
        have b0 : ¬ 9223372036854775807 < t.size + 1 := by omega
        have b1 : ¬ 9223372036854775807 < t.size + 1 + x.size := by omega
        have b2 : (t ++ (⟨#[47]⟩ : ByteArray)).size = t.size + 1 := by rw [ByteArray.size_append]; rfl
        have HYW := hid (fun W' (h : Below w0.heap.size w0 W') => show (fun W' => W'.cell? ⟨w.heap.size, 0, none⟩ = some (.string t) ∧ W'.cell? ⟨w.heap.size, 3, none⟩ = some (.slice (some ⟨lb, lo, none⟩) X.length pc) ∧ W'.cell? ⟨lb, lo + k, none⟩ = some (.string x)) W' from ⟨cell_below h HC0.out, cell_below h HC3.out, cell_below h HY0.out⟩)
        have HBd := hid (below_drawn_of HB.out 1)
        have HOd := hid (owns_below HO.out (below_drawn wr 1))
        go_wp2_with fail
        go_region_held_law (fun W' => W'.cell? ⟨w.heap.size, 0, none⟩ = some (.string t) ∧ W'.cell? ⟨w.heap.size, 3, none⟩ = some (.slice (some ⟨lb, lo, none⟩) X.length pc) ∧ W'.cell? ⟨lb, lo + k, none⟩ = some (.string x)) (first | exact HYW.out _ HR9.out | exact HYW.out _ (HBd.out.alloc HBd.out.size _) | exact HYW.out _ HBd.out) (first
          | (refine step_append_lies _ (by rfl) _ _ 29 (by rfl) w0.heap.size 9 i0 _ 1 16 Tryz.underlying29 hi hz0 hz1 hz2 rfl (by decide) _ _ _ (by rfl) (HOd.out.alloc _) ⟨wr.heap.size, 0, none⟩ 1 1 [.string (t ++ ⟨#[47]⟩ ++ x)] (by rfl) rfl (World.news_of_block (heap_new _ _)) (by intro u hu; simp at hu; rw [hu]; rfl) (by decide) (Nat.le_trans (Nat.add_le_add_right HLN.out 1) (by unfold maxLen; decide)) (by have := HLN.out; omega) (Nat.le_trans HBd.out.size (by simp)) (wr.heap.size + 1) (by simp) ?_; intro g cap w4 hown hgrow hat hlt2; have HR9 := hid (rel_app HBd.out.size HBd.out HOd.out (Below.refl _ _) hgrow)))
        all_goals
          have HO3 := hid hown
          clear hown hgrow hat hlt2 s0 s1 s2 s3 s4 y0
          go_wp2_with fail
          go_roundw
          case rel => exact ⟨k + 1, HLT.out, by first | exact nr_idx k | exact nx_idx HLT.out (by omega : X.length ≤ 1000000), by rw [HSN.out, List.length_append, List.map_append, HP.out]; exact HO3, HR9⟩
          case measure => first | exact nr_meas HLT.out | exact nx_meas HLT.out (by omega : X.length ≤ 1000000)
    · have HTR := hid (show X.take k = X from List.take_of_length_le (by omega))
      rw [HTR.out, HZ.out] at HO
      have hkI := ix_nlt hlt
      clear hlt
      go_wp2_with fail
      go_ret
      exact ⟨_, rfl, owns_from HO.out HB0.out.size, HB0.out.trans (HB.out.mono HB0.out.size)⟩
end Ve
end Go.Proofs.YtnkgjddkdikikaaGreatDoor
namespace Go.Proofs.YtnkgjddkdikikaaGreatDoor
open Go.RowKit Go.Maps
namespace Ve
theorem lik_lat {Q : List Raw} (g : Good Q) {t : ByteArray} {X Y : List ByteArray} (hK : Kept (verL (ofP t Q)) (verL (ofP t Q)).length X) (hY : KeptT Q t Y) : (likN Q t X X.length).1 = latV Q t := by
  rw [← latV_of hY]
  by_cases h0 : X.length = 0
  · have hX : X = [] := List.eq_nil_of_length_eq_zero h0
    subst hX
    have hne : ofP t Q = [] := by
      rw [List.eq_nil_iff_forall_not_mem]
      intro r hr
      have := kept_in g ofP_sub hK hr
      cases this
    have hb : bestR (ofP t Q) = [] := by rw [hne]; rfl
    cases hYc : Y with
    | nil => rfl
    | cons y s =>
      obtain ⟨r, hr, _⟩ := kept_has g (R := bestR (ofP t Q)) (fun r hr => ofP_sub r (bestR_sub hr)) hY (x := y) (by rw [hYc]; simp)
      rw [hb] at hr; cases hr
  · obtain ⟨j, hj, _, hs, h1, h2⟩ := (likN_is (Q := Q) (t := t) (X := X) X.length (Nat.le_refl _)).p (by omega)
    rw [hs]
    obtain ⟨r, hr, er⟩ := kept_has g ofP_sub hK (List.getElem_mem hj)
    have hrq := g.ofP_mem.1 hr
    have hrank : ∀ s, s ∈ ofP t Q → rkV Q t s.1.2 = rnk s := fun s hs => by
      have h := g.ofP_mem.1 hs
      rw [← h.2]; exact rkV_at g h.1
    have hbest : r ∈ bestR (ofP t Q) := (rnk_best g ofP_sub hr).2 fun s hs => by
      have hin := kept_in g ofP_sub hK hs
      obtain ⟨k, hk, e⟩ := List.getElem_of_mem hin
      have := h1 k hk hk
      rw [e, hrank s hs, ← er, hrank r hr] at this
      exact this
    have hne : bestR (ofP t Q) ≠ [] := List.ne_nil_of_mem hbest
    have hsub : ∀ r, r ∈ bestR (ofP t Q) → r ∈ Q := fun r hr => ofP_sub r (bestR_sub hr)
    obtain ⟨⟨q, hq, eq⟩, hmax⟩ := kept_last g hsub hne hY
    have hqv := g.ver q (hsub q hq)
    have hrv := g.ver r hrq.1
    have hqX := kept_in g ofP_sub hK (bestR_sub hq)
    obtain ⟨k, hk, ek⟩ := List.getElem_of_mem hqX
    have hqr : rkV Q t X[j] ≤ rkV Q t X[k] := by
      rw [ek, ← er, hrank r hr, hrank q (bestR_sub hq)]
      exact (rnk_best g ofP_sub (bestR_sub hq)).1 hq r hr
    have hkj : ¬ j < k := fun h => by have := h2 k hk hk h; omega
    have ho1 : ¬ ordV X[j].data.toList X[k].data.toList < 0 := fun h => by
      rcases Nat.lt_or_ge k j with h3 | h3
      · have hr := hK.1
        unfold rises at hr
        have hbl : (bl X).length = X.length := bl_len X
        have h4 := List.pairwise_iff_getElem.1 hr k j (by omega) (by omega) h3
        have g1 : (bl X)[k]'(by omega) = X[k].data.toList := by simp [bl]
        have g2 : (bl X)[j]'(by omega) = X[j].data.toList := by simp [bl]
        rw [g1, g2] at h4
        exact ordV_irr h h4
      · have : k = j := by omega
        subst this; exact ordV_irr h h
    have ho2 := hmax r hbest
    rw [← eq, ← ek] at ho2
    rw [er] at ho2
    have h0' : ordV X[j].data.toList X[k].data.toList = 0 := by
      rw [ordV_swap X[j].data.toList X[k].data.toList] at ho2
      omega
    have hvj : verErr X[j].data.toList = 0 := by rw [← er]; exact hrv
    have hvk : verErr X[k].data.toList = 0 := by rw [ek]; exact hqv
    have := str_ext ((ordV_zero hvj hvk).1 h0')
    rw [this, ek, eq]
end Ve
end Go.Proofs.YtnkgjddkdikikaaGreatDoor
