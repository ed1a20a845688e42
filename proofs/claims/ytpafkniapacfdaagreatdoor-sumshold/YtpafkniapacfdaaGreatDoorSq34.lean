
import Derived.Test.YtpafkniapacfdaaGreatDoorSq32
import Derived.Test.YtpafkniapacfdaaGreatDoorSq27
import Derived.Test.YtpafkniapacfdaaGreatDoorSq30
import Derived.Test.YtpafkniapacfdaaGreatDoorSq15
import Derived.Laws.OwnMore



namespace Go.Proofs.YtpafkniapacfdaaGreatDoor
open Go.RowKit
namespace Ve
theorem ln_flat {K : IntKind} {W : World} {b : Nat} : ∀ {Y : List Ln} {o : Nat}, (∀ j (h : j < Y.length), W.cell? ⟨b, o + j * 3, none⟩ = some (.string Y[j].1.1) ∧ W.cell? ⟨b, o + j * 3 + 1, none⟩ = some (.string Y[j].1.2) ∧ W.cell? ⟨b, o + j * 3 + 2, none⟩ = some (.int K (Y[j].2 : Nat))) →
    ∀ j u, (flatN K Y)[j]? = some u → W.cell? ⟨b, o + j, none⟩ = some u
  | [], _, _, j, u, h => by simp [flatN] at h
  | x :: Y, o, hc, j, u, h => by
    obtain ⟨c0, c1, c2⟩ := hc 0 (by simp)
    have ih := ln_flat (K := K) (W := W) (b := b) (Y := Y) (o := o + 3) (fun i hi => by
      have := hc (i + 1) (by simpa using hi)
      rw [show o + (i + 1) * 3 = o + 3 + i * 3 by omega] at this
      simpa using this)
    have hf : flatN K (x :: Y) = .string x.1.1 :: .string x.1.2 :: .int K (x.2 : Nat) :: flatN K Y := rfl
    rw [hf] at h
    match j, h with
    | 0, h => simp at h; subst h; simpa using c0
    | 1, h => simp at h; subst h; simpa using c1
    | 2, h => simp at h; subst h; simpa using c2
    | j + 3, h =>
      have := ih j u (by simpa using h)
      rw [show o + (j + 3) = o + 3 + j by omega]; exact this
theorem flatN_more (K : IntKind) (X Y : List Ln) : flatN K (X ++ Y) = flatN K X ++ flatN K Y := flatN_app K X Y
theorem bothN_run (X Y : List Ln) (dv : Value) (W : World) (B b o c : Nat) (hB : B ≤ W.heap.size) (hX : X.length ≤ 1000) (hY : Y.length ≤ 1000) (ho : W.ownsRow B 44 3 dv X.length (flatN .u32 X)) (hcell : ∀ j u, (flatN .u32 Y)[j]? = some u → W.cell? ⟨b, o + j, none⟩ = some u) :
    ∃ v' W', (Builtin.append_ #[34, 34] 34 #[dv, .slice (some ⟨b, o, none⟩) Y.length c]).run Tryz.prog W = .ok v' W' ∧ W'.ownsRow B 44 3 v' (X ++ Y).length (flatN .u32 (X ++ Y)) ∧ W.grownBy W' dv.ownBlock := by
  obtain ⟨i0, hi, hz0, hz1, hz2⟩ := info_parts infoLine
  obtain ⟨v', W', h3, h4, h5, _⟩ := run_append_own (P := Tryz.prog) W B 34 34 44 i0 _ 3 40 Tryz.underlying34 hi hz0 hz1 hz2 rfl (by decide) dv X.length (flatN .u32 X) ho ⟨b, o, none⟩ Y.length c (flatN .u32 Y) (flatN_len .u32 Y) (fun j u hj => by rw [Addr.add_lit]; exact hcell j u hj) (flatN_one .u32 Y) (by unfold maxLen; omega) (by omega) hB
  exact ⟨v', W', h3, by rw [List.length_append, flatN_more]; exact h4, h5⟩
theorem LnAt.put {K : IntKind} {W : World} {b o n c : Nat} {X : List Ln} (h : LnAt K W (.slice (some ⟨b, o, none⟩) n c) X) {k : Nat} (hk : k < X.length) (s : Nat) : LnAt K (W.setCell ⟨b, o + k * 3 + 2, none⟩ (.int K (s : Nat))) (.slice (some ⟨b, o, none⟩) n c) (X.set k (X[k].1, s)) := by
  obtain ⟨a', c', e, hc, h⟩ := h
  obtain ⟨b', o', e2, h2⟩ := h (fun hn => by rw [hn] at hk; simp at hk)
  subst e2
  injection e with e1 e2 e3
  injection e1 with e1
  injection e1 with e4 e5
  subst e4 e5 e3 e2
  refine ⟨_, _, by rw [List.length_set], by rw [List.length_set]; exact hc, fun _ => ⟨b, o, rfl, fun j hj => ?_⟩⟩
  have hj2 : j < X.length := by rw [List.length_set] at hj; exact hj
  obtain ⟨c0, c1, c2⟩ := h2 j hj2
  have cs : ∀ i x, W.cell? ⟨b, i, none⟩ = some x → o + k * 3 + 2 ≠ i → (W.setCell ⟨b, o + k * 3 + 2, none⟩ (.int K (s : Nat))).cell? ⟨b, i, none⟩ = some x := fun i x hx hi =>
    (World.cell?_setCell_other (h := fun e => hi (by injection e)) ..).trans hx
  rw [List.getElem_set]
  by_cases hjk : k = j
  · subst hjk
    rw [if_pos rfl]
    exact ⟨cs _ _ c0 (by omega), cs _ _ c1 (by omega), World.cell?_setCell_same (h := c2) ..⟩
  · rw [if_neg hjk]
    exact ⟨cs _ _ c0 (by omega), cs _ _ c1 (by omega), cs _ _ c2 (by omega)⟩
theorem modSameD (d : Nat) (p v : ByteArray) (w : World) : (Op.equalIn (d + 2) 42 (.agg #[.string p, .string v]) (.agg #[.string p, .string v])).run Tryz.prog w = .ok true w := by
  have u3 := Tryz.underlying9
  have a3 := Tryz.isAgg9
  have z3 := Tryz.sizeOf9
  have hS : Tryz.prog.underlying 42 = some (.struct (Tryz.prog.fieldsOf 42)) := by kernel_rfl
  have hp : Tryz.prog.stoodInHeld 42 = false := by kernel_rfl
  rw [run_equalIn_agg w (d + 1) 42 _ _ hS hp]
  simp only [Program.fieldsOf, Tryz.underlying42]
  have e1 := str_refl p
  have e2 := str_refl v
  go_simp
theorem lineSame (p v : ByteArray) (n : Int) (w : World) : (Op.equalIn 10000 44 (.agg #[.string p, .string v, .int .u32 n]) (.agg #[.string p, .string v, .int .u32 n])).run Tryz.prog w = .ok true w := by
  have u3 := Tryz.underlying24
  have a3 := Tryz.isAgg24
  have z3 := Tryz.sizeOf24
  have a4 := Tryz.isAgg42
  have z4 := Tryz.sizeOf42
  have hS : Tryz.prog.underlying 44 = some (.struct (Tryz.prog.fieldsOf 44)) := by kernel_rfl
  have hp : Tryz.prog.stoodInHeld 44 = false := by kernel_rfl
  have hm := modSameD 9997 p v w
  rw [show (10000 : Nat) = 9999 + 1 from rfl, run_equalIn_agg w 9999 44 _ _ hS hp]
  simp only [Program.fieldsOf, Tryz.underlying44]
  go_simp
theorem lineNeq (p v : ByteArray) (n : Int) (w : World) : (binOp .neq 44 (.agg #[.string p, .string v, .int .u32 n]) (.agg #[.string p, .string v, .int .u32 n])).run Tryz.prog w = .ok (.bool false) w := by
  rw [run_neq_struct, lineSame]; rfl
end Ve
end Go.Proofs.YtpafkniapacfdaaGreatDoor
