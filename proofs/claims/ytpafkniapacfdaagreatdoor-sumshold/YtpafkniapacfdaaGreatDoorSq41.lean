
import Derived.Test.YtpafkniapacfdaaGreatDoorSq36
import Derived.Test.YtpafkniapacfdaaGreatDoorSq6
import Derived.Test.YtpafkniapacfdaaGreatDoorSq29
import Derived.Deep.RegionHeld
namespace Go.Proofs.YtpafkniapacfdaaGreatDoor
open Go.RowKit
namespace Ve
def bSum : List UInt8 := [98, 64, 118, 48, 46, 49, 46, 48, 10]
theorem sm3_sel (g : Nat) : codeE (nonE (s3Q g) [qb0]) 1 = 0 := by kernel_rfl
theorem sm3_chkG (g : Nat) : chkG (s3Q g) s3L [qb0] = (0, none) := by
  have h : (chk (s3Q g) s3L).1 = 0 := by rw [s3_chk]
  rw [chkG_ok h]
  exact Prod.ext (sm3_sel g) (codeG_fine (sm3_sel g))
theorem sm3_txt (g : Nat) : sumT (entQ (s3Q g) s3L qb0) = bSum := by kernel_rfl
theorem sm3_sum (g : Nat) : sumL (s3Q g) s3L [qb0] = [(qb0, crcL bSum)] := by
  show [(qb0, crcL (sumT (entQ (s3Q g) s3L qb0)))] = _
  rw [sm3_txt]
theorem sm3_all (g : Nat) : allX (s3Q g) s3L [qb0] = [(qb0, crcL bSum)] := by
  unfold allX
  rw [if_pos (by rw [sm3_chkG]), sm3_sum]
theorem vfW_own (m : Bm) (c : Nat) : vfW [(m, c)] (m, c) = 0 := by
  unfold vfW
  rw [List.find?_cons_of_pos (by simp)]
  simp
theorem vfF_own {Q : List Raw} {L : List Ent} {sel : List Bm} {H : List Ln} (h : (chkG Q L sel).1 = 0) (h2 : ∀ j, j < (sumL Q L sel).length → vfE H (sumL Q L sel) j = 0) : vfF Q L sel H = (0, none) := by
  unfold vfF
  rw [if_neg (by simp [h]), ← sumL_len Q L sel, codeE_none (fstE_none h2), fstE_none h2]
theorem sm3_vf (g : Nat) : vfF (s3Q g) s3L [qb0] [(qb0, crcL bSum)] = (0, none) :=
  vfF_own (by rw [sm3_chkG]) fun j hj => by
    rw [sm3_sum] at hj ⊢
    have h : ∀ c : Nat, vfE [(qb0, c)] [(qb0, c)] 0 = 0 := fun c => vfW_own qb0 c
    have : j = 0 := by simp at hj; exact hj
    rw [this]
    exact h _
theorem s3_ok : ∀ e, e ∈ s3L → OkE e := fun e he => by
  have h : s3L.all okE = true := by kernel_rfl
  exact okE_is (List.all_eq_true.1 h e he)
theorem ms_one3 {W : World} {b : Nat} {x : Bm} {fr : Nat × Nat} (h : W.heap[b]? = some (.cells #[.string x.1, .string x.2] 42 fr)) : MsAt W (.slice (some ⟨b, 0, none⟩) 1 1) [x] := by
  refine ⟨_, 1, rfl, Nat.le_refl _, fun _ => ⟨b, 0, rfl, fun j hj => ?_⟩⟩
  have : j = 0 := by simp at hj; exact hj
  subst this
  exact ⟨by rw [Lib.cell_of_heap h]; rfl, by rw [Lib.cell_of_heap h]; rfl⟩
set_option maxRecDepth 100000 in
set_option maxHeartbeats 4000000 in
theorem summed_any (A : Nat → Addr) (m : Int) (w : World) (S : Te w A m) (G : Gs w A) : Calls Tryz.prog 5 #[] w fun e w' => e = .returned (.bool true) ∧ Below w.heap.size w w' := by
  have HSM := hid (fun W => small3_any W)
  have HS := hid S
  have HG := hid G
  have HCR := hid (fun W => show Calls Tryz.prog 25 #[.string ⟨#[98, 64, 118, 48, 46, 49, 46, 48, 10]⟩] W fun e w' => e = .returned (.int .i64 (crcL bSum : Nat)) ∧ w' = W from rcrc_any ⟨#[98, 64, 118, 48, 46, 49, 46, 48, 10]⟩ W (by decide))
  have hcb : crcL bSum ≤ 4294967295 := by have := crcL_lt bSum; omega
  have HAL := hid (fun g q b (W : World) (hW : Below w.heap.size w W) (I : Ixs W (.slice (some ⟨q, 0, none⟩) 4 4) (s3Q g) s3L) (hb : MsAt W (.slice (some ⟨b, 0, none⟩) 1 1) [qb0]) => by
    have h := all_any (s3Q g) s3L [qb0] _ _ A m W (by decide) (by decide) s3_sh s3_ok (S.below hW) I hb
    rw [sm3_all, sm3_chkG] at h
    exact h)
  have HVF := hid (fun g q b (W : World) v (hW : Below w.heap.size w W) (I : Ixs W (.slice (some ⟨q, 0, none⟩) 4 4) (s3Q g) s3L) (hb : MsAt W (.slice (some ⟨b, 0, none⟩) 1 1) [qb0]) (hv : LnAt .u32 W v [(qb0, crcL bSum)]) => by
    have h := verify_any (s3Q g) s3L [qb0] [(qb0, crcL bSum)] _ _ v A m W (by decide) (by decide) (by decide) s3_sh s3_ok (S.below hW) (G.below hW) I hb hv
    rw [sm3_vf] at h
    exact h)
  clear S G
  generalize crcL bSum = c at *
  go_enter Tryz.func5, Tryz.ntmps5
  go_wp2_with fail
  refine (HSM.out w).mono ?_
  rintro e w1 ⟨g, q, rfl, hix, hb⟩
  have HB1 := hid hb
  have HAb := hid ((Below.refl w1.heap.size w1).alloc (Nat.le_refl _) (.cells #[.string ⟨#[98]⟩, .string ⟨#[118, 48, 46, 49, 46, 48]⟩] 42))
  have HA1 := hid (HAL.out g q w1.heap.size _ (HB1.out.trans (HAb.out.mono HB1.out.size)) (hix.below HAb.out) (ms_one3 (x := qb0) (heap_alloc_new w1 (.cells #[.string ⟨#[98]⟩, .string ⟨#[118, 48, 46, 49, 46, 48]⟩] 42))))
  clear hix hb
  go_wp2_with fail
  refine HA1.out.mono ?_
  rintro e w2 ⟨x, y, rfl, hx, hy, hb⟩
  obtain rfl := errAt_nilS hy
  have HB2 := hid ((HB1.out.trans (HAb.out.mono HB1.out.size)).trans (hb.mono (Nat.le_trans HB1.out.size HAb.out.size)))
  have hln := own_ln hx
  obtain ⟨xa, xc, rfl⟩ := own_slN hx
  have HLN := hid hln
  clear hx hy hb hln
  obtain ⟨xb, xo, hxa, -, -, z2⟩ := HLN.out.cells (k := 0) (Nat.zero_lt_succ _)
  subst hxa
  rw [Nat.zero_mul, Nat.add_zero] at z2
  have z2 : w2.cell? ⟨xb, xo + 2, none⟩ = some (.int .u32 (c : Nat)) := z2
  have hq : IntKind.i64.wrap (c : Int) = (c : Int) := by rw [IntKind.wrap_i64]; omega
  have hcc : ((c : Int) == (c : Int)) = true := by simp
  have HT := hid (fun W' (hW : Below w2.heap.size w2 W') => (show (fun W' => W'.cell? ⟨xb, xo + 2, none⟩ = some (.int .u32 (c : Nat))) W' from cell_below hW z2))
  have HX := hid (fun W' (hW : Below w2.heap.size w2 W') => HLN.out.below hW)
  have HW := hid (fun W' (hW : Below w2.heap.size w2 W') => HB2.out.trans (hW.mono HB2.out.size))
  clear z2 hcb
  simp only [List.length_cons, List.length_nil, Nat.zero_add] at HX ⊢
  go_wp2_with fail
  go_region_held (fun W' => W'.cell? ⟨xb, xo + 2, none⟩ = some (.int .u32 (c : Nat))) (first | exact HT.out _ (HRa.out.alloc HRa.out.size _) | exact HT.out _ HRa.out | exact HT.out _ (below_drawn_of ((Below.refl w2.heap.size w2).alloc (Nat.le_refl _) _) 1) | exact HT.out _ (below_drawn _ 1)) (first
    | (go_at_call 25; refine (HCR.out _).mono ?_; rintro e w3 ⟨rfl, rfl⟩)
    | (go_at_call 24; refine (HSM.out ((w2.alloc (.cells #[.string ⟨#[98]⟩, .string ⟨#[118, 48, 46, 49, 46, 48]⟩] 42)).drew)).mono ?_; rintro e w4 ⟨g2, q2, rfl, hix, hb⟩; have HBK := hid ((hb.block w2.heap.size (by simp)).trans (heap_alloc_new w2 (.cells #[.string ⟨#[98]⟩, .string ⟨#[118, 48, 46, 49, 46, 48]⟩] 42))); have HRa := hid ((below_drawn_of ((Below.refl w2.heap.size w2).alloc (Nat.le_refl _) (.cells #[.string ⟨#[98]⟩, .string ⟨#[118, 48, 46, 49, 46, 48]⟩] 42)) 1).trans (hb.mono (by simp))); have HIX := hid hix; clear hix hb)
    | (go_at_call 24; refine (HSM.out w2.drew).mono ?_; rintro e w4 ⟨g2, q2, rfl, hix, hb⟩; have HRa := hid ((below_drawn w2 1).trans (hb.mono (Nat.le_refl _))); have HIX := hid hix; clear hix hb)
    | (go_at_call 12; refine (HVF.out g2 q2 w2.heap.size w4 _ (HW.out _ HRa.out) HIX.out (ms_one3 (x := qb0) HBK.out) (HX.out _ HRa.out)).mono ?_; rintro e w5 ⟨y, rfl, hy, hb⟩; obtain rfl := errAt_nilS hy; have HRa := hid (HRa.out.trans (hb.mono HRa.out.size)); clear hy hb)
    | (go_at_call 12; refine (HVF.out g2 q2 w4.heap.size (w4.alloc (.cells #[.string ⟨#[98]⟩, .string ⟨#[118, 48, 46, 49, 46, 48]⟩] 42)) _ (HW.out _ (HRa.out.alloc HRa.out.size _)) (HIX.out.below ((Below.refl _ _).alloc (Nat.le_refl _) _)) (ms_one3 (x := qb0) (heap_alloc_new w4 _)) (HX.out _ (HRa.out.alloc HRa.out.size _))).mono ?_; rintro e w5 ⟨y, rfl, hy, hb⟩; obtain rfl := errAt_nilS hy; have HRa := hid ((HRa.out.alloc HRa.out.size _).trans (hb.mono (Nat.le_trans HRa.out.size (by simp)))); clear hy hb))
  all_goals
    go_wp2_with fail
    go_ret
    exact ⟨rfl, HW.out _ HRa.out⟩
end Ve
end Go.Proofs.YtpafkniapacfdaaGreatDoor
