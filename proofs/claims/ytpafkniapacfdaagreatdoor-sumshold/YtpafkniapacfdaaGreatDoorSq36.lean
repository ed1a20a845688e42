
import Derived.Test.YtpafkniapacfdaaGreatDoorSq33
import Derived.Test.YtpafkniapacfdaaGreatDoorSq20
import Derived.Test.YtpafkniapacfdaaGreatDoorSq34
namespace Go.Proofs.YtpafkniapacfdaaGreatDoor
open Go.RowKit
namespace Ve
def Gs (w : World) (A : Nat → Addr) : Prop := w.cell? ⟨2, 0, none⟩ = some (.iface 291 (.pointer (some (A 9))))
theorem Gs.below {w w' : World} {A : Nat → Addr} (h : Gs w A) (hb : Below w.heap.size w w') : Gs w' A := cell_below hb h
def isL (m : Bm) (x : Ln) : Bool := decide (x.1.1 = m.1 ∧ x.1.2 = m.2)
set_option maxHeartbeats 1000000 in
theorem vlK_any (m : Bm) (x : Ln) (b : Nat) (W : World) (n : Value) (h : W.heap[b]? = some (.cells #[.string m.1, .string m.2, n] 44 (0, 0))) :
    Calls Tryz.prog 69 (#[.agg #[.string x.1.1, .string x.1.2, .int .u32 (x.2 : Nat)]] ++ #[.pointer (some ⟨b, 0, none⟩)]) W fun e w' => e = .returned (.bool (isL m x)) ∧ Below W.heap.size W w' := by
  obtain ⟨⟨p, v⟩, k⟩ := x
  have heq := fun W => modEql p v m.1 m.2 W
  have hgd := modGuard
  show Calls Tryz.prog 69 #[.agg #[.string p, .string v, .int .u32 (k : Nat)], .pointer (some ⟨b, 0, none⟩)] W _
  unfold isL
  have HB0 := hid ((Below.refl W.heap.size W).alloc (Nat.le_refl _) (.cells #[.string p, .string v, .int .u32 (k : Nat)] 44))
  have h0 : W.cell? ⟨b, 0, none⟩ = some (.string m.1) := by rw [Lib.cell_of_heap h]; rfl
  have h1 : W.cell? ⟨b, 1, none⟩ = some (.string m.2) := by rw [Lib.cell_of_heap h]; rfl
  have c0 := cell_below HB0.out h0
  have c1 := cell_below HB0.out h1
  have hbb : ¬ b = W.heap.size := by have := lt_of_cell h0; simp at this; omega
  have hbb2 : ¬ W.heap.size = b := fun h => hbb h.symm
  dsimp only
  generalize decide (p = m.1 ∧ v = m.2) = z at *
  go_enter Tryz.func69, Tryz.ntmps69
  go_wp2_with fail
  go_ret
  exact ⟨rfl, HB0.out⟩
theorem vfW_miss {H : List Ln} {x : Ln} (h : idxL (isL x.1) H = -1) : vfW H x = 5 := by
  unfold vfW
  cases hf : H.find? (fun h => decide (h.1 = x.1)) with
  | none => rfl
  | some y =>
    exfalso
    unfold idxL at h
    cases hi : H.findIdx? (isL x.1) with
    | some k => rw [hi] at h; dsimp only at h; omega
    | none =>
      have h1 := List.findIdx?_eq_none_iff.1 hi y (List.mem_of_find?_eq_some hf)
      have h2 : y.1 = x.1 := of_decide_eq_true (List.find?_some (p := fun h : Ln => decide (h.1 = x.1)) hf)
      unfold isL at h1
      rw [h2] at h1
      simp at h1
theorem isL_eq (m : Bm) : isL m = fun h : Ln => decide (h.1 = m) := funext fun x => by
  unfold isL
  refine decide_eq_decide.2 ⟨fun h => Prod.ext h.1 h.2, fun h => by rw [h]; exact ⟨rfl, rfl⟩⟩
theorem vfW_hit {H : List Ln} {x : Ln} {k : Nat} (h : idxL (isL x.1) H = (k : Int)) : ∃ hk : k < H.length, vfW H x = if H[k].2 = x.2 then 0 else 10 := by
  unfold idxL at h
  cases hi : H.findIdx? (isL x.1) with
  | none => rw [hi] at h; dsimp only at h; omega
  | some j =>
    rw [hi] at h
    have hj : j = k := by dsimp only at h; omega
    subst hj
    obtain ⟨hk, h1, h2⟩ := List.findIdx?_eq_some_iff_getElem.1 hi
    refine ⟨hk, ?_⟩
    have hf : H.find? (fun h => decide (h.1 = x.1)) = some H[j] := by
      rw [isL_eq] at h1 h2
      rw [List.find?_eq_some_iff_getElem]
      exact ⟨h1, j, hk, rfl, fun i hi' => by simpa using h2 i hi'⟩
    unfold vfW
    rw [hf]
theorem idxL_nat (P : Ln → Bool) (X : List Ln) : idxL P X = -1 ∨ ∃ k : Nat, idxL P X = (k : Int) := by
  unfold idxL
  cases X.findIdx? P with
  | none => exact Or.inl rfl
  | some k => exact Or.inr ⟨k, rfl⟩
theorem u32_ne (a b : Nat) : ((a : Int) != (b : Int)) = !decide (a = b) := by
  by_cases h : a = b
  · rw [h]; simp
  · have : (a : Int) ≠ (b : Int) := by omega
    rw [bne_iff_ne.2 this]; simp [h]
set_option maxRecDepth 100000 in
set_option maxHeartbeats 1000000 in
theorem vl_any (H : List Ln) (x : Ln) (v : Value) (A : Nat → Addr) (m : Int) (w : World) (hH : H.length ≤ 1000000) (S : Te w A m) (G : Gs w A) (hv : LnAt .u32 w v H) :
    Calls Tryz.prog 33 #[v, .agg #[.string x.1.1, .string x.1.2, .int .u32 (x.2 : Nat)]] w fun e w' => e = .returned (errA A (vfW H x)) ∧ Below w.heap.size w w' := by
  have HB0 := hid ((Below.refl w.heap.size w).alloc (Nat.le_refl _) (.cells #[.string x.1.1, .string x.1.2, .int .u32 (x.2 : Nat)] 44))
  have HBK := hid (heap_alloc_new w (.cells #[.string x.1.1, .string x.1.2, .int .u32 (x.2 : Nat)] 44))
  have HF := hid (idxFL_any 69 #[.pointer (some ⟨w.heap.size, 0, none⟩)] (isL x.1) H v (w.alloc (.cells #[.string x.1.1, .string x.1.2, .int .u32 (x.2 : Nat)] 44)) (enters_of Tryz.func69 (by kernel_rfl) rfl) hH (hv.below HB0.out)
    (fun y W _ hW => vlK_any x.1 y w.heap.size W _ ((hW.block _ (lt_of_blk HBK.out)).trans HBK.out)))
  have hg4 := S.sen.g4
  have hg9 := G
  unfold Gs at hg9
  have HV := hid hv
  obtain ⟨va, vc, rfl, -⟩ := id hv
  clear S G hv
  rcases idxL_nat (isL x.1) H with h | ⟨k, h⟩
  · rw [vfW_miss h]
    rw [h] at HF
    have e5 : errA A 5 = .iface 291 (.pointer (some (A 4))) := rfl
    rw [e5]
    clear h HV
    go_enter Tryz.func33, Tryz.ntmps33
    go_wp2_with fail
    refine HF.out.mono ?_
    rintro e w1 ⟨rfl, hb⟩
    have HB1 := hid (HB0.out.trans (hb.mono HB0.out.size))
    have c4 := cell_below HB1.out hg4
    clear hb
    go_wp2_with fail
    go_ret
    exact ⟨rfl, HB1.out⟩
  · obtain ⟨hk, hw⟩ := vfW_hit h
    rw [hw]
    rw [h] at HF
    obtain ⟨b, o, hva, y0, y1, y2⟩ := HV.out.cells hk
    subst hva
    have hk0 := ix_pos k
    have hkI : (k : Int) < (H.length : Int) := by omega
    have hne := u32_ne H[k].2 x.2
    have e0 : errA A 0 = .nilIface := rfl
    have e10 : errA A 10 = .iface 291 (.pointer (some (A 9))) := rfl
    clear h hw HV
    obtain ⟨⟨x1, x2⟩, xn⟩ := x
    generalize H[k] = y at *
    obtain ⟨⟨z1, z2⟩, zn⟩ := y
    dsimp only at y0 y1 y2 HB0 HBK HF hne ⊢
    by_cases hz : zn = xn
    · subst hz
      rw [if_pos rfl, e0]
      rw [decide_eq_true rfl] at hne
      go_enter Tryz.func33, Tryz.ntmps33
      go_wp2_with fail
      refine HF.out.mono ?_
      rintro e w1 ⟨rfl, hb⟩
      have HB1 := hid (HB0.out.trans (hb.mono HB0.out.size))
      have c2 := cell_below HB1.out y2
      have x2' : w1.cell? ⟨w.heap.size, 2, none⟩ = some (.int .u32 (zn : Nat)) := cell_below hb (by rw [Lib.cell_of_heap HBK.out]; rfl)
      clear hb
      go_wp2_with fail
      go_region_with fail
      all_goals
        go_wp2_with fail
        go_ret
        exact ⟨rfl, below_drawn_of HB1.out 1⟩
    · rw [if_neg hz, e10]
      rw [decide_eq_false hz] at hne
      go_enter Tryz.func33, Tryz.ntmps33
      go_wp2_with fail
      refine HF.out.mono ?_
      rintro e w1 ⟨rfl, hb⟩
      have HB1 := hid (HB0.out.trans (hb.mono HB0.out.size))
      have c2 := cell_below HB1.out y2
      have c9 := cell_below HB1.out hg9
      have x2' : w1.cell? ⟨w.heap.size, 2, none⟩ = some (.int .u32 (xn : Nat)) := cell_below hb (by rw [Lib.cell_of_heap HBK.out]; rfl)
      clear hb
      go_wp2_with fail
      go_region_with fail
      all_goals
        go_wp2_with fail
        go_ret
        exact ⟨rfl, below_drawn_of HB1.out 1⟩
set_option maxHeartbeats 1000000 in
theorem vfK_any (H : List Ln) (i : Int) (x : Ln) (v : Value) (b : Nat) (A : Nat → Addr) (m : Int) (W : World) (hH : H.length ≤ 1000000) (S : Te W A m) (G : Gs W A) (hv : LnAt .u32 W v H) (hb : W.cell? ⟨b, 0, none⟩ = some v) :
    Calls Tryz.prog 32 (#[.int .i64 i, .agg #[.string x.1.1, .string x.1.2, .int .u32 (x.2 : Nat)]] ++ #[.pointer (some ⟨b, 0, none⟩)]) W fun e w' => e = .returned (errA A (vfW H x)) ∧ Below W.heap.size W w' := by
  have HB0 := hid ((Below.refl W.heap.size W).alloc (Nat.le_refl _) (.cells #[.string x.1.1, .string x.1.2, .int .u32 (x.2 : Nat)] 44))
  have HL := hid (vl_any H x v A m _ hH (S.below HB0.out) (G.below HB0.out) (hv.below HB0.out))
  have c0 := cell_below HB0.out hb
  obtain ⟨va, vc, rfl, -⟩ := id hv
  show Calls Tryz.prog 32 #[.int .i64 i, .agg #[.string x.1.1, .string x.1.2, .int .u32 (x.2 : Nat)], .pointer (some ⟨b, 0, none⟩)] W _
  clear S G hv hb
  generalize errA A (vfW H x) = z at *
  go_enter Tryz.func32, Tryz.ntmps32
  go_wp2_with fail
  refine HL.out.mono ?_
  rintro e w1 ⟨rfl, hb⟩
  have HB1 := hid (HB0.out.trans (hb.mono HB0.out.size))
  clear hb
  go_wp2_with fail
  go_ret
  exact ⟨rfl, HB1.out⟩
def vfF (Q : List Raw) (L : List Ent) (sel : List Bm) (H : List Ln) : Nat × Option Nat := if (chkG Q L sel).1 ≠ 0 then chkG Q L sel else (codeE (vfE H (sumL Q L sel)) sel.length, fstE (vfE H (sumL Q L sel)) sel.length)
set_option maxRecDepth 100000 in
set_option maxHeartbeats 1000000 in
theorem verify_any (Q : List Raw) (L : List Ent) (sel : List Bm) (H : List Ln) (v u hv : Value) (A : Nat → Addr) (m : Int) (w : World) (hL : L.length ≤ 1000) (hR : sel.length ≤ 1000) (hH : H.length ≤ 1000000) (sh : ∀ e, e ∈ L → ShE e) (ok : ∀ e, e ∈ L → OkE e) (S : Te w A m) (G : Gs w A) (I : Ixs w v Q L) (hu : MsAt w u sel) (hh : LnAt .u32 w hv H) :
    Calls Tryz.prog 12 #[v, u, hv] w fun e w' => ∃ y, e = .returned y ∧ ErrAt w' A y (vfF Q L sel H).1 (vfF Q L sel H).2 ∧ Below w.heap.size w w' := by
  have HB0 := hid ((Below.refl w.heap.size w).alloc (Nat.le_refl _) (.cells #[hv] 34))
  have c0 : (w.alloc (.cells #[hv] 34)).cell? ⟨w.heap.size, 0, none⟩ = some hv := by simp
  have HA := hid (all_any Q L sel v u A m _ hL hR sh ok (S.below HB0.out) (I.below HB0.out) (hu.below HB0.out))
  have HK := hid (fun (W : World) (h : Below (w.alloc (.cells #[hv] 34)).heap.size (w.alloc (.cells #[hv] 34)) W) (i : Int) (x : Ln) => vfK_any H i x hv w.heap.size A m W hH (S.below (HB0.out.trans (h.mono HB0.out.size))) (G.below (HB0.out.trans (h.mono HB0.out.size))) (hh.below (HB0.out.trans (h.mono HB0.out.size))) (cell_below h c0))
  obtain ⟨va, vc, rfl, -⟩ := id I.es
  obtain ⟨ua, uc, rfl, -⟩ := id hu
  obtain ⟨ha, hc, rfl, -⟩ := id hh
  clear I hu hh S G sh ok
  by_cases h0 : (chkG Q L sel).1 = 0
  · have hx : allX Q L sel = sumL Q L sel := by unfold allX; rw [if_pos h0]
    have hf : vfF Q L sel H = (codeE (vfE H (sumL Q L sel)) (sumL Q L sel).length, fstE (vfE H (sumL Q L sel)) (sumL Q L sel).length) := by unfold vfF; rw [if_neg (by simp [h0]), sumL_len]
    have hl : (sumL Q L sel).length ≤ 1000000 := by rw [sumL_len]; omega
    rw [hf]
    rw [hx, h0] at HA
    clear hx hf
    generalize sumL Q L sel = X at *
    go_enter Tryz.func12, Tryz.ntmps12
    go_wp2_with fail
    refine HA.out.mono ?_
    rintro e w1 ⟨x, y, rfl, hx, hy, hb⟩
    obtain rfl := errAt_nilS hy
    have HB1 := hid (HB0.out.trans (hb.mono HB0.out.size))
    have HF := hid (firstL_any 32 #[.pointer (some ⟨w.heap.size, 0, none⟩)] (vfE H X) X x A w1 (enters_of Tryz.func32 (by kernel_rfl) rfl) hl (own_ln hx)
      (fun i hi W hW => by
        have h9 := HK.out W (hb.trans (hW.mono hb.size)) i X[i]
        have : vfE H X i = vfW H X[i] := by unfold vfE; rw [List.getElem?_eq_getElem hi]
        rw [this]; exact h9))
    obtain ⟨xa, xc, rfl⟩ := own_slN hx
    clear hx hy hb
    go_wp2_with fail
    refine HF.out.mono ?_
    rintro e w2 ⟨y, rfl, hy, hb⟩
    have HB2 := hid (HB1.out.trans (hb.mono HB1.out.size))
    have HY := hid hy
    obtain ⟨yt, rfl⟩ | ⟨T', a', rfl⟩ : (∃ t : Unit, y = .nilIface) ∨ ∃ T a, y = .iface T (.pointer (some a)) := by
      by_cases hz : codeE (vfE H X) X.length = 0
      · rw [hz] at hy; exact Or.inl ⟨(), errAt_nilS hy⟩
      · exact Or.inr (errAt_ifaceS hy hz)
    all_goals
      clear hy hb
      go_wp2_with fail
      go_ret
      exact ⟨_, rfl, HY.out, HB2.out⟩
  · have hx : allX Q L sel = [] := by unfold allX; rw [if_neg h0]
    have hf : vfF Q L sel H = chkG Q L sel := by unfold vfF; rw [if_pos h0]
    rw [hf]
    rw [hx] at HA
    have HC := hid h0
    clear hx hf h0
    generalize chkG Q L sel = r at *
    go_enter Tryz.func12, Tryz.ntmps12
    go_wp2_with fail
    refine HA.out.mono ?_
    rintro e w1 ⟨x, y, rfl, hx, hy, hb⟩
    obtain ⟨T', a', rfl⟩ := errAt_ifaceS hy HC.out
    obtain ⟨xa, xc, rfl⟩ := own_slN hx
    have HY := hid hy
    have HB1 := hid (HB0.out.trans (hb.mono HB0.out.size))
    clear hx hy hb
    go_wp2_with fail
    go_ret
    exact ⟨_, rfl, HY.out, HB1.out⟩
end Ve
end Go.Proofs.YtpafkniapacfdaaGreatDoor


namespace Go.Proofs.YtpafkniapacfdaaGreatDoor
open Go.RowKit Go.Maps
namespace Ve
theorem chkG_in {w : World} {v : Value} {Q : List Raw} {L : List Ent} {R : List Bm} (I : Ixs w v Q L) (hc : (chk Q L).1 = 0) (h : ∀ m, m ∈ R → m ∈ univ L) : (chkG Q L R).1 = 0 := by
  rw [chkG_ok hc]
  have : fstE (nonE Q R) R.length = none := fstE_none fun j hj => by
    rw [nonE_at hj]
    unfold nonW
    obtain ⟨k, hk⟩ := (found_iff I R[j]).1 (h _ (List.getElem_mem hj))
    rw [hk, if_neg (by omega)]
  exact codeE_none this
end Ve
end Go.Proofs.YtpafkniapacfdaaGreatDoor
