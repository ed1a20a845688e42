/-
  The walk of pewholderlaw1.Names, out of the contracts of plain.Code, coded, errors.New and SameInts: it answers true, and nothing old in memory turns.
-/
import Derived.Test.YtjgmngihpmliiaaDoorCoded
import Derived.Deep.QuietTactic
import Derived.BigQuiet
namespace Go.Proofs.YtjgmngihpmliiaaDoor
open Go.RowKit Go.Extern.Stop Go.Stop Go.Extern
namespace Er

set_option maxHeartbeats 1000000 in
theorem new_any (s : ByteArray) (w : World) : Calls Tryd.prog 9 #[.string s] w fun e w' => e = .returned (.iface 58 (.pointer (some ⟨w.heap.size, 0, none⟩))) ∧ w' = w.alloc (.cells #[.string s] 60) := by
  go_enter Tryd.func9, Tryd.ntmps9
  go_wp2
  go_ret
  exact ⟨rfl, rfl⟩

set_option maxHeartbeats 1000000 in
/-- SameInts of two lists that hold the same. -/
theorem same_yes (b0 b1 n : Nat) (z : Nat → Int) (w : World) (hn : n ≤ 1000) (h0 : ∀ k, k < n → w.cell? ⟨b0, k, none⟩ = some (.int .i64 (z k))) (h1 : ∀ k, k < n → w.cell? ⟨b1, k, none⟩ = some (.int .i64 (z k))) :
    Calls Tryd.prog 6 #[.slice (some ⟨b0, 0, none⟩) n n, .slice (some ⟨b1, 0, none⟩) n n] w fun e w' => e = .returned (.bool true) ∧ ∃ d, w' = w.drewN d := by
  go_enter Tryd.func6, Tryd.ntmps6
  have H0 := hid h0
  have H1 := hid h1
  clear h0 h1
  go_wp2_with fail
  go_loopw [5] (fun i wr => ∃ k d : Nat, k ≤ n ∧ i = .int .i64 k ∧ wr = w.drewN d) (fun i _ => n - (intOf i).toNat)
  case atStart => exact ⟨0, 0, by omega, rfl, rfl⟩
  case round =>
    obtain ⟨k, d, hk, rfl, rfl⟩ := hrel
    by_cases hlt : k < n
    · have c0 := H0.out k hlt
      have c1 := H1.out k hlt
      go_wp2_with fail
      go_quiet (fail)
      go_wp2_with fail
      go_roundw
      case rel => exact ⟨k + 1, _, by omega, by go_num, rfl⟩
      case measure => simp [intOf]; omega
    · go_wp2_with fail
      go_ret
      exact ⟨rfl, d, rfl⟩

theorem below_drawn (w : World) (d : Nat) : Below w.heap.size w (w.drewN d) := ⟨rfl, rfl, rfl, Nat.le_refl _, fun _ _ => rfl⟩

theorem same_yes_b (b0 b1 n : Nat) (z : Nat → Int) (w : World) (hn : n ≤ 1000) (h0 : ∀ k, k < n → w.cell? ⟨b0, k, none⟩ = some (.int .i64 (z k))) (h1 : ∀ k, k < n → w.cell? ⟨b1, k, none⟩ = some (.int .i64 (z k))) :
    Calls Tryd.prog 6 #[.slice (some ⟨b0, 0, none⟩) n n, .slice (some ⟨b1, 0, none⟩) n n] w fun e w' => e = .returned (.bool true) ∧ Below w.heap.size w w' :=
  (same_yes b0 b1 n z w hn h0 h1).mono fun _ _ ⟨e1, d, e2⟩ => ⟨e1, by rw [e2]; exact below_drawn w d⟩

/-- The numbers of package api. -/
def zs : List Int := [999999, 5, 8, 10, 5, 20, 100, 10, 8000, 10, 80, 16]
theorem zs_at (w : World) (T : TypeId) (k : Nat) (hk : k < 12) :
    (w.alloc (.cells #[.int .i64 999999, .int .i64 5, .int .i64 8, .int .i64 10, .int .i64 5, .int .i64 20, .int .i64 100, .int .i64 10, .int .i64 8000, .int .i64 10, .int .i64 80, .int .i64 16] T)).cell? ⟨w.heap.size, k, none⟩ = some (.int .i64 (zs.getD k 0)) := by
  match k, hk with
  | 0, _ => simp [zs]
  | 1, _ => simp [zs]
  | 2, _ => simp [zs]
  | 3, _ => simp [zs]
  | 4, _ => simp [zs]
  | 5, _ => simp [zs]
  | 6, _ => simp [zs]
  | 7, _ => simp [zs]
  | 8, _ => simp [zs]
  | 9, _ => simp [zs]
  | 10, _ => simp [zs]
  | 11, _ => simp [zs]

set_option maxHeartbeats 1000000 in
theorem names_any (A : Nat → Addr) (w : World) (S : Sen w A) :
    Calls Tryd.prog 3 #[] w fun e w' => e = .returned (.bool true) ∧ Below w.heap.size w w' := by
  have HS := hid S
  clear S
  go_enter Tryd.func3, Tryd.ntmps3
  go_wp2_with fail
  refine (same_yes_b w.heap.size (w.heap.size + 1) 12 (fun k => zs.getD k 0) _ (by omega) (fun k hk => ?_) (fun k hk => ?_)).mono ?_
  · rw [World.cell?_alloc_lt _ _ _ (by simp)]; exact zs_at w 3 k hk
  · have := zs_at (w.alloc (.cells #[.int .i64 999999, .int .i64 5, .int .i64 8, .int .i64 10, .int .i64 5, .int .i64 20, .int .i64 100, .int .i64 10, .int .i64 8000, .int .i64 10, .int .i64 80, .int .i64 16] 3)) 3 k hk
    simpa only [World.size_alloc] using this
  rintro e w1 ⟨rfl, hb1⟩
  have hb : Below w.heap.size w w1 := (((Below.refl _ _).alloc (Nat.le_refl _) _).alloc (by simp) _).trans (hb1.mono (by simp; omega))
  have S := HS.out.below hb
  have HB := hid hb
  clear hb1 hb
  have c0 := S.g0
  have c1 := S.g1
  have c2 := S.g2
  have c3 := S.g3
  have c4 := S.g4
  have c5 := S.g5
  have c6 := S.g6
  have c7 := S.g7
  have c8 := S.g8
  have c9 := S.g9
  clear S
  go_wp2_with fail
  have hbL := HB.out.alloc HB.out.size (.cells #[.iface 58 (.pointer (some (A 0))), .iface 58 (.pointer (some (A 1))), .iface 58 (.pointer (some (A 2))), .iface 58 (.pointer (some (A 3))), .iface 58 (.pointer (some (A 4))), .iface 58 (.pointer (some (A 5))), .iface 58 (.pointer (some (A 6))), .iface 58 (.pointer (some (A 7))), .iface 58 (.pointer (some (A 8))), .iface 58 (.pointer (some (A 9)))] 25)
  have HBL := hid hbL
  have HTen := hid (ten w1 A 25)
  clear hbL c0 c1 c2 c3 c4 c5 c6 c7 c8 c9
  go_loopw [4] (fun i wr => ∃ k : Nat, k ≤ 10 ∧ i = .int .i64 k ∧ Below (w1.heap.size + 1) (w1.alloc (.cells #[.iface 58 (.pointer (some (A 0))), .iface 58 (.pointer (some (A 1))), .iface 58 (.pointer (some (A 2))), .iface 58 (.pointer (some (A 3))), .iface 58 (.pointer (some (A 4))), .iface 58 (.pointer (some (A 5))), .iface 58 (.pointer (some (A 6))), .iface 58 (.pointer (some (A 7))), .iface 58 (.pointer (some (A 8))), .iface 58 (.pointer (some (A 9)))] 25)) wr) (fun i _ => 10 - (intOf i).toNat)
  case atStart => exact ⟨0, by omega, rfl, Below.refl _ _⟩
  case round =>
    obtain ⟨k, hk, rfl, hbr⟩ := hrel
    have HR := hid hbr
    have hz := hbr.size
    simp only [World.size_alloc] at hz
    clear hbr
    by_cases hlt : k < 10
    · have hc : wr.cell? ⟨w1.heap.size, k, none⟩ = some (.iface 58 (.pointer (some (A k)))) := by
        rw [HR.out.cell (by dsimp only; omega)]; exact HTen.out k hlt
      have Hc := hid hc
      have hW : Below w.heap.size w wr := HBL.out.trans (HR.out.mono (Nat.le_trans HB.out.size (by omega)))
      have S0 := HS.out.below hW
      have HW := hid hW
      have HS0 := hid S0
      clear hW S0
      go_wp2_with fail
      refine (code_fault wr.heap.size 0 7 A k _ (HS0.out.below ((Below.refl _ _).alloc (Nat.le_refl _) _)) hlt (by simp) (by simp) (by simp)).mono ?_
      rintro e w2 ⟨rfl, hb2⟩
      have hb3 : Below wr.heap.size wr w2 := ((Below.refl _ _).alloc (Nat.le_refl _) _).trans (hb2.mono (by simp))
      have hc2 : w2.cell? ⟨w1.heap.size, k, none⟩ = some (.iface 58 (.pointer (some (A k)))) := by
        rw [hb3.cell (by dsimp only; omega)]; exact Hc.out
      have HB3 := hid hb3
      clear hb2 hb3 hc
      go_wp2_with fail
      refine (coded_of _ ((k : Int) + 1) (-1) ((k : Int) + 1) _ (fun W hW => ?_) (by simp) (by simp)).mono ?_
      · rw [hW]; exact code_sen A k w2 (HS0.out.below HB3.out) hlt
      rintro e w4 ⟨rfl, hb4⟩
      have hb5 : Below wr.heap.size wr w4 := HB3.out.trans (hb4.mono HB3.out.size)
      have HB5 := hid hb5
      clear hb4 hb5
      go_wp2_with fail
      go_roundw
      case rel => exact ⟨k + 1, by omega, by go_num, HR.out.trans (HB5.out.mono (by omega))⟩
      case measure => simp [intOf]; omega
    · have hW : Below w.heap.size w wr := HBL.out.trans (HR.out.mono (Nat.le_trans HB.out.size (by omega)))
      have S0 := HS.out.below hW
      have HW := hid hW
      have HS0 := hid S0
      clear hW S0
      go_wp2_with fail
      refine (new_any _ _).mono ?_
      rintro e w2 ⟨rfl, hw2⟩
      have hb2 : Below wr.heap.size wr w2 := by rw [hw2]; exact (Below.refl _ _).alloc (Nat.le_refl _) _
      have hblk : ∃ c t, w2.heap[wr.heap.size]? = some (.cells c t (0, 0)) := ⟨_, _, by rw [hw2]; exact Array.getElem?_push_size⟩
      have hne : ∀ k, k < 10 → (⟨wr.heap.size, 0, none⟩ : Addr) ≠ A k := fun k hk he => by
        obtain ⟨c, t, e⟩ := HS0.out.blk k hk
        rw [← he] at e
        simp at e
      have HB2 := hid hb2
      have HK := hid hblk
      have HNE := hid hne
      clear hw2 hb2 hblk hne
      go_wp2_with fail
      refine (code_else _ A _ (HS0.out.below HB2.out) HNE.out HK.out).mono ?_
      rintro e w3 ⟨rfl, hb3⟩
      have hb4 : Below w.heap.size w w3 := (HW.out.trans (HB2.out.mono HW.out.size)).trans (hb3.mono (Nat.le_trans HW.out.size HB2.out.size))
      have HB4 := hid hb4
      clear hb3 hb4
      go_wp2_with fail
      refine (coded_of _ 0 (-1) 0 _ (fun W hW => ?_) (by simp) (by simp)).mono ?_
      · rw [hW]; exact (code_nil w3).mono fun e w' ⟨h1, h2⟩ => ⟨h1, by rw [h2]; exact Below.refl _ _⟩
      rintro e w5 ⟨rfl, hb5⟩
      have HB6 := hid (HB4.out.trans (hb5.mono HB4.out.size))
      clear hb5
      go_wp2_with fail
      go_ret
      exact ⟨rfl, HB6.out⟩
end Er
end Go.Proofs.YtjgmngihpmliiaaDoor
