/-
  What the document's answer says of roots that may be no entries (rootsFault).
-/
import Derived.Test.YtanponneancajaaGreatDoorRtB
namespace Go.Proofs.YtanponneancajaaGreatDoor
open Go.RowKit Go.Maps
namespace Ve

theorem findOf_none (a : Option Addr) (c : Nat) (m : Bm) (w : World) : Calls Tryz.prog 37 #[.slice a 0 c, .agg #[.string m.1, .string m.2]] w fun e w' => e = .returned (.int .i64 (-1)) ∧ Below w.heap.size w w' := by
  have HB0 := hid ((Below.refl w.heap.size w).alloc (Nat.le_refl _) (.cells #[.string m.1, .string m.2] 51))
  go_enter Tryz.func37, Tryz.ntmps37
  go_wp2_with fail
  go_loopw [5] (fun i wr => i = .int .i64 0 ∧ Hid (Below w.heap.size w wr)) (fun i _ => 0)
  case atStart => exact ⟨rfl, HB0⟩
  case round =>
    obtain ⟨rfl, HB⟩ := hrel
    go_wp2_with fail
    go_ret
    exact ⟨rfl, HB.out⟩
/-- pewholderref1.FindOf. -/
theorem findOf_all (Q : List Raw) (m : Bm) (v : Value) (w : World) (hL : Q.length ≤ 1000000) (hv : EsAt w v Q) :
    Calls Tryz.prog 37 #[v, .agg #[.string m.1, .string m.2]] w fun e w' => e = .returned (.int .i64 (idxOf (isM m) Q)) ∧ Below w.heap.size w w' := by
  by_cases hQ : Q = []
  · subst hQ
    obtain ⟨a, c, rfl, _⟩ := hv
    exact findOf_none a c m w
  · exact findOf_any Q m v w hL (List.length_pos_iff.2 hQ) hv
theorem nonE_bad {Q : List Raw} {R : List Bm} {k : Nat} (hk : k < R.length) (h0 : ∀ j (h : j < R.length), j < k → 0 ≤ idxOf (isM R[j]) Q) (h : idxOf (isM R[k]) Q < 0) : (codeE (nonE Q R) R.length, fstE (nonE Q R) R.length) = (5, some k) := by
  have hz : ∀ j, j < k → nonE Q R j = 0 := fun j hj => by
    rw [nonE_at (by omega)]
    unfold nonW
    rw [if_neg (Int.not_lt.2 (h0 j (by omega) hj))]
  have h5 : nonE Q R k = 5 := by
    rw [nonE_at hk]
    unfold nonW
    rw [if_pos h]
  have hs := fstE_some hz (by rw [h5]; decide) hk
  rw [codeE_some hs, hs, h5]
theorem nonE_good {Q : List Raw} {R : List Bm} (h0 : ∀ j (h : j < R.length), 0 ≤ idxOf (isM R[j]) Q) : (codeE (nonE Q R) R.length, fstE (nonE Q R) R.length) = (0, none) := by
  have hs : fstE (nonE Q R) R.length = none := fstE_none fun j hj => by
    rw [nonE_at hj]
    unfold nonW
    rw [if_neg (Int.not_lt.2 (h0 j hj))]
  rw [codeE_none hs, hs]
set_option maxRecDepth 100000 in
set_option maxHeartbeats 4000000 in
/-- pewholderref2.rootsFault. -/
theorem rFault_any (Q : List Raw) (R : List Bm) (v rv : Value) (w : World) (hn : Q.length ≤ 1000) (hR : R.length ≤ 1000000) (hv : EsAt w v Q) (hr : MsAt w rv R) :
    Calls Tryz.prog 175 #[v, rv] w fun e w' => e = .returned (faultV (codeE (nonE Q R) R.length, fstE (nonE Q R) R.length)) ∧ Below w.heap.size w w' := by
  have HB0 := hid ((Below.refl w.heap.size w).alloc (Nat.le_refl _) (.cells #[.int .i64 0, .int .i64 0] 64))
  have HE0 := hid (heap_new w (.cells #[.int .i64 0, .int .i64 0] 64))
  have HFO := hid (fun m W (h : Below w.heap.size w W) => findOf_all Q m v W (by omega) (hv.below h))
  have HFN := hid (fun W => fine_any W)
  have HMR := hid (fun W (h : Below w.heap.size w W) => hr.below h)
  have HGD := hid (nonE_good (Q := Q) (R := R))
  have HBD := hid (fun k (hk : k < R.length) h0 h => nonE_bad (Q := Q) hk h0 h)
  obtain ⟨a, c, hv1, -⟩ := id hv
  subst hv1
  obtain ⟨ra, rc, hrv, -⟩ := id hr
  subst hrv
  generalize (codeE (nonE Q R) R.length, fstE (nonE Q R) R.length) = ans at *
  clear hv hr
  go_enter Tryz.func175, Tryz.ntmps175
  go_wp2_with fail
  go_loopw [5] (fun kv wr => ∃ k : Nat, k ≤ R.length ∧ kv = .int .i64 k ∧ Hid (∀ j (h : j < R.length), j < k → 0 ≤ idxOf (isM R[j]) Q) ∧ Hid (Below w.heap.size w wr) ∧ Hid (wr.heap[w.heap.size]? = some (.cells #[.int .i64 0, .int .i64 0] 64 (0, 0)))) (fun kv _ => R.length - (intOf kv).toNat)
  case atStart => exact ⟨0, Nat.zero_le _, rfl, hid (fun j _ h => absurd h (Nat.not_lt_zero _)), HB0, HE0⟩
  case round =>
    obtain ⟨k, hk, rfl, HZ3, HB3, HE3⟩ := hrel
    by_cases hlk : k < R.length
    · have hkI : (k : Int) < (R.length : Int) := by omega
      have hk0 : (0 : Int) ≤ (k : Int) := by omega
      obtain ⟨xb, xo, hxa, y0, y1⟩ := (HMR.out _ HB3.out).cells hlk
      subst hxa
      have HLK := hid hlk
      have HF := hid (HFO.out R[k] _ HB3.out)
      have HNK := hid (show 0 ≤ idxOf (isM R[k]) Q → ∀ j (h : j < R.length), j < k + 1 → 0 ≤ idxOf (isM R[j]) Q from fun h0 j h1 h3 => by
        rcases Nat.lt_or_ge j k with h | h
        · exact HZ3.out j h1 h
        · have : j = k := by omega
          subst this; exact h0)
      have HBK := hid (HBD.out k hlk HZ3.out)
      generalize R[k] = x at *
      obtain ⟨x1, x2'⟩ := x
      generalize idxOf (isM (x1, x2')) Q = ix at *
      clear hlk
      by_cases hix : ix < 0
      · have HX := hid (HBK.out hix)
        go_wp2_with fail
        refine HF.out.mono ?_
        rintro e w1 ⟨rfl, hb⟩
        have HB4 := hid (HB3.out.trans (hb.mono HB3.out.size))
        have HE4 := hid ((hb.block _ (lt_of_blk HE3.out)).trans HE3.out)
        clear hb
        have s0 : w1.cell? ⟨w.heap.size, 0, none⟩ = some (.int .i64 0) := by rw [Lib.cell_of_heap HE4.out]; rfl
        have s1 : w1.cell? ⟨w.heap.size, 1, none⟩ = some (.int .i64 0) := by rw [Lib.cell_of_heap HE4.out]; rfl
        have tf := fun o => Lib.frozen_of_heap HE4.out o
        go_wp2_with fail
        refine bodyPost_ret (v := .agg #[.int .i64 5, .int .i64 (k : Int)]) (by simp [results, Tryz.results175, go_sem, s0, s1]) rfl ⟨by rw [HX.out]; rfl, ?_⟩
        exact put2_below HB4.out (Nat.le_refl _)
      · have HN2 := hid (HNK.out (Int.not_lt.1 hix))
        go_wp2_with fail
        refine HF.out.mono ?_
        rintro e w1 ⟨rfl, hb⟩
        have HB4 := hid (HB3.out.trans (hb.mono HB3.out.size))
        have HE4 := hid ((hb.block _ (lt_of_blk HE3.out)).trans HE3.out)
        clear hb
        go_wp2_with fail
        go_roundw
        case rel => first | exact ⟨k + 1, HLK.out, nr_idx k, HN2, HB4, HE4⟩ | exact ⟨k + 1, HLK.out, nx_idx HLK.out hR, HN2, HB4, HE4⟩
        case measure => first | exact nr_meas HLK.out | exact nx_meas HLK.out hR
    · have hkI : ¬ (k : Int) < (R.length : Int) := by omega
      have HX := hid (HGD.out (fun j h => HZ3.out j h (by omega)))
      clear hlk
      go_wp2_with fail
      refine (HFN.out _).mono ?_
      rintro e w1 ⟨rfl, hb⟩
      have HB4 := hid (HB3.out.trans (hb.mono HB3.out.size))
      have HE4 := hid ((hb.block _ (lt_of_blk HE3.out)).trans HE3.out)
      clear hb
      have s0 : w1.cell? ⟨w.heap.size, 0, none⟩ = some (.int .i64 0) := by rw [Lib.cell_of_heap HE4.out]; rfl
      have s1 : w1.cell? ⟨w.heap.size, 1, none⟩ = some (.int .i64 0) := by rw [Lib.cell_of_heap HE4.out]; rfl
      have tf := fun o => Lib.frozen_of_heap HE4.out o
      go_wp2_with fail
      refine bodyPost_ret (v := .agg #[.int .i64 0, .int .i64 (-1)]) (by simp [results, Tryz.results175, go_sem, s0, s1]) rfl ⟨by rw [HX.out]; rfl, ?_⟩
      exact put2_below HB4.out (Nat.le_refl _)
end Ve
end Go.Proofs.YtanponneancajaaGreatDoor
