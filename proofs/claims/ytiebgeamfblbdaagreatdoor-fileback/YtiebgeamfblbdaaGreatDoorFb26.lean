/-
  FileD
-/
import Derived.Test.YtiebgeamfblbdaaGreatDoorFb25
import Derived.Test.YtiebgeamfblbdaaGreatDoorFb21
namespace Go.Proofs.YtiebgeamfblbdaaGreatDoor
open Go.RowKit
namespace Ve
theorem mpath_is (s : ByteArray) (A : Nat → Addr) (m : Int) (w : World) (hs : s.size < 4294967281) (S : Te w A m) :
    Calls Tryz.prog 15 #[.string s] w fun e w' => e = .returned (errA A (pathErr s.data.toList)) ∧ Below w.heap.size w w' := by
  have HP := hid (readPath_any s A m w hs S)
  clear S
  go_enter Tryz.func15, Tryz.ntmps15
  go_wp2_with fail
  refine HP.out.mono ?_
  rintro e w1 ⟨⟨H, n, v, rfl, hv, _, _⟩, hb⟩
  have HV := hid hv
  have HB := hid hb
  clear hb hv
  go_wp2_with fail
  go_ret
  exact ⟨by rw [← HV.out]; rfl, HB.out⟩
theorem mem_of_not {L : List Bm} {x : Bm} (h : ∀ j (hj : j < L.length), L[j] ≠ x) : x ∉ L := fun hm => by
  obtain ⟨j, hj, e⟩ := List.getElem_of_mem hm
  exact h j hj e
set_option maxHeartbeats 1000000 in
theorem index_mods (p v : ByteArray) (L : List Bm) (b o c : Nat) (w : World) (hL : L.length ≤ 1000000)
    (hc : ∀ j (h : j < L.length), w.cell? ⟨b, o + j * 2, none⟩ = some (.string L[j].1) ∧ w.cell? ⟨b, o + j * 2 + 1, none⟩ = some (.string L[j].2)) :
    Calls Tryz.prog 60 #[.slice (some ⟨b, o, none⟩) L.length c, .agg #[.string p, .string v]] w fun e w' => ∃ r : Int, e = .returned (.int .i64 r) ∧ decide (0 ≤ r) = hasB L (p, v) ∧ Below w.heap.size w w' := by
  have HC := hid hc
  have hgd := modGuard
  have HB0 := hid ((Below.refl w.heap.size w).alloc (Nat.le_refl _) (.cells #[.string p, .string v] 26))
  clear hc
  go_enter Tryz.func60, Tryz.ntmps60
  go_wp2_with fail
  go_loopw [8] (fun i wr => ∃ k : Nat, k ≤ L.length ∧ i = .int .i64 k ∧ Hid (∀ j (hj : j < L.length), j < k → L[j] ≠ (p, v)) ∧ Hid (Below (w.heap.size + 1) (w.alloc (.cells #[.string p, .string v] 26)) wr)) (fun i _ => L.length - (intOf i).toNat)
  case atStart => exact ⟨0, Nat.zero_le _, rfl, hid (fun j _ hj => absurd hj (by omega)), hid (Below.refl _ _)⟩
  case round =>
    obtain ⟨k, hk, rfl, HE, HB⟩ := hrel
    obtain ⟨⟨r0, r1⟩, rz⟩ := res2 HB.out
    have HBW := hid (HB0.out.trans (HB.out.mono (by omega)))
    by_cases hlt : k < L.length
    · have hx := cell_below HBW.out (HC.out k hlt).1
      have hy := cell_below HBW.out (HC.out k hlt).2
      have heq := fun W => modEql p v L[k].1 L[k].2 W
      by_cases h0 : p = L[k].1 ∧ v = L[k].2
      · have HM := hid (show (p, v) ∈ L from by rw [h0.1, h0.2]; exact List.getElem_mem hlt)
        rw [decide_eq_true h0] at heq
        clear h0
        go_wp2_with fail
        go_quiet (fail)
        go_wp2_with fail
        go_ret
        exact ⟨_, rfl, by rw [hasB_iff.2 HM.out]; exact decide_eq_true (by omega), below_drawn_of HBW.out _⟩
      · have HM := hid (show L[k] ≠ (p, v) from fun e => h0 (by rw [e]; exact ⟨rfl, rfl⟩))
        rw [decide_eq_false h0] at heq
        clear h0
        go_wp2_with fail
        go_quiet (fail)
        go_wp2_with fail
        go_roundw
        case rel => exact ⟨k + 1, by omega, by go_num, hid (fun j hj hjk => by
          rcases Nat.lt_or_ge j k with h | h
          · exact HE.out j hj h
          · have : j = k := by omega
            subst this; exact HM.out), hid (below_drawn_of HB.out _)⟩
        case measure => simp [intOf]; omega
    · have HM := hid (mem_of_not (fun j hj => HE.out j hj (by omega)))
      go_wp2_with fail
      go_ret
      exact ⟨_, rfl, by rw [hasB_not HM.out]; rfl, HBW.out⟩
theorem index_none (p v : ByteArray) (a : Option Addr) (c : Nat) (w : World) :
    Calls Tryz.prog 60 #[.slice a 0 c, .agg #[.string p, .string v]] w fun e w' => ∃ r : Int, e = .returned (.int .i64 r) ∧ decide (0 ≤ r) = false ∧ Below w.heap.size w w' := by
  have HB0 := hid ((Below.refl w.heap.size w).alloc (Nat.le_refl _) (.cells #[.string p, .string v] 26))
  go_enter Tryz.func60, Tryz.ntmps60
  go_wp2_with fail
  go_loopw [8] (fun i wr => i = .int .i64 0 ∧ Hid (Below w.heap.size w wr)) (fun i _ => 0)
  case atStart => exact ⟨rfl, HB0⟩
  case round =>
    obtain ⟨rfl, HB⟩ := hrel
    go_wp2_with fail
    go_ret
    exact ⟨_, rfl, rfl, HB.out⟩
theorem indexM_any (p v : ByteArray) (L : List Bm) (u : Value) (w : World) (hL : L.length ≤ 1000000) (hu : MsAt w u L) :
    Calls Tryz.prog 60 #[u, .agg #[.string p, .string v]] w fun e w' => ∃ r : Int, e = .returned (.int .i64 r) ∧ decide (0 ≤ r) = hasB L (p, v) ∧ Below w.heap.size w w' := by
  obtain ⟨a, c, rfl, _, h⟩ := hu
  cases L with
  | nil => exact (index_none p v a c w).mono fun e w' ⟨r, h1, h2, h3⟩ => ⟨r, h1, by rw [h2]; rfl, h3⟩
  | cons x r =>
    obtain ⟨b, o, rfl, h2⟩ := h (by simp)
    exact index_mods p v (x :: r) b o c w hL h2
set_option maxHeartbeats 1000000 in
theorem hasMo_any (p v : ByteArray) (L : List Bm) (u : Value) (w : World) (hL : L.length ≤ 1000000) (hu : MsAt w u L) :
    Calls Tryz.prog 36 #[u, .agg #[.string p, .string v]] w fun e w' => e = .returned (.bool (hasB L (p, v))) ∧ Below w.heap.size w w' := by
  obtain ⟨up, un, uc, rfl⟩ := hu.slice
  have HB0 := hid ((Below.refl w.heap.size w).alloc (Nat.le_refl _) (.cells #[.string p, .string v] 26))
  have HI := hid (indexM_any p v L _ _ hL (hu.below HB0.out))
  clear hu
  go_enter Tryz.func36, Tryz.ntmps36
  go_wp2_with fail
  refine HI.out.mono ?_
  rintro e w1 ⟨r, rfl, hr, hb⟩
  have HR := hid hr
  have HB := hid (HB0.out.trans (hb.mono HB0.out.size))
  clear hb hr
  go_wp2_with fail
  go_ret
  exact ⟨ret_bool HR.out, HB.out⟩
theorem res3 {w w3 : World} {a b c : Value} {T : TypeId} (hb : Below (w.heap.size + 1) (w.alloc (.cells #[a, b, c] T)) w3) :
    (w3.cell? ⟨w.heap.size, 0, none⟩ = some a ∧ w3.cell? ⟨w.heap.size, 1, none⟩ = some b ∧ w3.cell? ⟨w.heap.size, 2, none⟩ = some c) ∧ w.heap.size < w3.heap.size := by
  refine ⟨⟨?_, ?_, ?_⟩, ?_⟩
  · rw [hb.cell (by simp)]; simp
  · rw [hb.cell (by simp)]; simp
  · rw [hb.cell (by simp)]; simp
  · have := hb.size; simp at this; omega
theorem clE_at {X L : List Bm} {i : Nat} (h : i < L.length) : clE X L i = if hasB X L[i] then 9 else 0 := by unfold clE; rw [List.getElem?_eq_getElem h]
set_option maxHeartbeats 1000000 in
theorem clKF_any (X L : List Bm) (b1 : Nat) (u : Value) (A : Nat → Addr) (m : Int) (W : World) (hX : X.length ≤ 1000000) (S : Te W A m) (h1 : W.cell? ⟨b1, 2, none⟩ = some u) (hu : MsAt W u X) (i : Nat) (hi : i < L.length) :
    Calls Tryz.prog 35 (#[.int .i64 (i : Int), .agg #[.string L[i].1, .string L[i].2]] ++ #[.pointer (some ⟨b1, 0, none⟩)]) W fun e w' => e = .returned (errA A (clE X L i)) ∧ Below W.heap.size W w' := by
  rw [clE_at hi]
  show Calls Tryz.prog 35 #[.int .i64 (i : Int), .agg #[.string L[i].1, .string L[i].2], .pointer (some ⟨b1, 0, none⟩)] W _
  obtain ⟨up, un, uc, rfl⟩ := hu.slice
  generalize hp : L[i].1 = p
  generalize hv : L[i].2 = v
  have hm : L[i] = (p, v) := by rw [← hp, ← hv]
  rw [hm]
  clear hp hv hm
  have HB0 := hid ((Below.refl W.heap.size W).alloc (Nat.le_refl _) (.cells #[.string p, .string v] 26))
  have HH := hid (hasMo_any p v X _ _ hX (hu.below HB0.out))
  have HS := hid (S.below HB0.out)
  have c1 := cell_below HB0.out h1
  have hlt := lt_of_cell h1
  clear hu h1 S
  cases h : hasB X (p, v)
  rotate_left
  · rw [if_pos rfl, errA_if A (by omega)]
    rw [h] at HH
    clear h
    go_enter Tryz.func35, Tryz.ntmps35
    go_wp2_with fail
    refine HH.out.mono ?_
    rintro e w1 ⟨rfl, hb⟩
    have HB := hid (HB0.out.trans (hb.mono HB0.out.size))
    have gg := (HS.out.below hb).sen.g8
    clear hb
    go_wp2_with fail
    go_ret
    exact ⟨rfl, HB.out⟩
  · rw [if_neg (by simp), errA0]
    rw [h] at HH
    clear h
    go_enter Tryz.func35, Tryz.ntmps35
    go_wp2_with fail
    refine HH.out.mono ?_
    rintro e w1 ⟨rfl, hb⟩
    have HB := hid (HB0.out.trans (hb.mono HB0.out.size))
    clear hb
    go_wp2_with fail
    go_ret
    exact ⟨rfl, HB.out⟩
set_option maxHeartbeats 1000000 in
theorem clash_any (p : ByteArray) (L X : List Bm) (v u : Value) (A : Nat → Addr) (m : Int) (w : World) (hL : L.length ≤ 1000000) (hX : X.length ≤ 1000000) (S : Te w A m) (hv : MsAt w v L) (hu : MsAt w u X) :
    Calls Tryz.prog 18 #[.agg #[.string p, v, u]] w fun e w' => ∃ x, e = .returned x ∧ ErrAt w' A x (codeE (clE X L) L.length) (fstE (clE X L) L.length) ∧ Below w.heap.size w w' := by
  obtain ⟨vp, vn, vc, rfl⟩ := hv.slice
  obtain ⟨up, un, uc, rfl⟩ := hu.slice
  have HB0 := hid ((Below.refl w.heap.size w).alloc (Nat.le_refl _) (.cells #[.string p, .slice vp vn vc, .slice up un uc] 24))
  have eg : ∀ args w, (callFunc 35 args).run Tryz.prog w = .ok (.enter 35 args) w := enters_of Tryz.func35 (by kernel_rfl) rfl
  have HF := hid (first_any 35 #[.pointer (some ⟨w.heap.size, 0, none⟩)] (clE X L) L _ A (w.alloc (.cells #[.string p, .slice vp vn vc, .slice up un uc] 24)) eg hL (hv.below HB0.out) (fun i hi W hW =>
    clKF_any X L w.heap.size _ A m W hX ((S.below HB0.out).below hW) (cell_below hW (by simp)) ((hu.below HB0.out).below hW) i hi))
  clear S hv hu eg
  go_enter Tryz.func18, Tryz.ntmps18
  go_wp2_with fail
  refine HF.out.mono ?_
  rintro e w1 ⟨x, rfl, he, hb⟩
  have HB := hid (HB0.out.trans (hb.mono HB0.out.size))
  have HE := hid he
  clear hb he
  go_wp2_with fail
  go_ret
  exact ⟨_, rfl, HE.out, HB.out⟩
end Ve
end Go.Proofs.YtiebgeamfblbdaaGreatDoor
