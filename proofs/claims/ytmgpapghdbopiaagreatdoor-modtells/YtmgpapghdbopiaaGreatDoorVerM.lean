/-
  What Text of package ver answers, all its ways together; and the texts that the closed fact of the statements names.
-/
import Derived.Test.YtmgpapghdbopiaaGreatDoorVerH
import Derived.Test.YtmgpapghdbopiaaGreatDoorPreT
import Derived.Test.YtmgpapghdbopiaaGreatDoorVerL
namespace Go.Proofs.YtmgpapghdbopiaaGreatDoor
open Go.RowKit
namespace Ve

theorem textOf_pre (a b c : Int) (ps : List (List UInt8)) : textOf a b c ps = if inBB a && inBB b && inBB c && pre ps == 0 then core3 a b c ++ preText ps else [] := by
  unfold textOf
  cases ps with
  | nil => simp [preText]
  | cons p r => simp [preText]

set_option maxHeartbeats 400000 in
/-- Text where the numbers are right and the pre is not. -/
theorem text_pbad (a b c : Int) (v : Value) (q : Nat) (aT aB : Addr) (w : World) (ha : inBB a = true) (hb : inBB b = true) (hc : inBB c = true) (hq : q = 1 ∨ q = 2)
    (hpre : ∀ W, Below w.heap.size w W → Calls Tryz.prog 42 #[v] W fun e w' => e = .returned (errV aT aB q) ∧ Below W.heap.size W w') :
    Calls Tryz.prog 12 #[.agg #[.int .i64 a, .int .i64 b, .int .i64 c, v]] w fun e w' => e = .returned (.string ⟨#[]⟩) ∧ Below w.heap.size w w' := by
  have HA := hid (fun W => inB_any a W)
  have HB := hid (fun W => inB_any b W)
  have HC := hid (fun W => inB_any c W)
  rw [ha] at HA
  rw [hb] at HB
  rw [hc] at HC
  have HP := hid hpre
  have HB0 := hid ((Below.refl w.heap.size w).alloc (Nat.le_refl _) (.cells #[.int .i64 a, .int .i64 b, .int .i64 c, v] 30))
  clear ha hb hc hpre
  go_enter Tryz.func12, Tryz.ntmps12
  go_wp2_with fail
  refine (HA.out _).mono ?_
  rintro e w' ⟨rfl, rfl⟩
  go_wp2_with fail
  refine (HB.out _).mono ?_
  rintro e w' ⟨rfl, rfl⟩
  go_wp2_with fail
  refine (HC.out _).mono ?_
  rintro e w' ⟨rfl, rfl⟩
  go_wp2_with fail
  refine (HP.out _ HB0.out).mono ?_
  rintro e w1 ⟨rfl, hb1⟩
  have HB1 := hid (HB0.out.trans (hb1.mono (by simp)))
  clear hb1
  rcases hq with rfl | rfl
  · rw [errV1]
    go_wp2_with fail
    go_ret
    exact ⟨rfl, HB1.out⟩
  · rw [errV2]
    go_wp2_with fail
    go_ret
    exact ⟨rfl, HB1.out⟩

/-- Text, whatever the parts: texts at the head of a row, or none. -/
theorem text_any (a b c : Int) (X : List ByteArray) (v : Value) (aT aB : Addr) (m : Int) (w : World) (S : Vs w aT aB m) (htab : Lib.TabIs Tryz.prog w powName .u64 Lib.pow10Tab) (hX : X.length ≤ 1000) (hXz : ∀ x, x ∈ X → x.size ≤ maxLen)
    (hlen : (preText (bl X)).length ≤ 1000000)
    (hv : (X = [] ∧ v = .slice none 0 0) ∨ (X ≠ [] ∧ ∃ bk cp, v = .slice (some ⟨bk, 0, none⟩) X.length cp ∧ X.length ≤ cp ∧ bk < w.heap.size ∧ ∀ j (h : j < X.length), w.cell? ⟨bk, 0 + j, none⟩ = some (.string X[j]))) :
    Calls Tryz.prog 12 #[.agg #[.int .i64 a, .int .i64 b, .int .i64 c, v]] w fun e w' => ∃ T : ByteArray, e = .returned (.string T) ∧ T.data.toList = textOf a b c (bl X) ∧ Below w.heap.size w w' := by
  have hpre : ∀ W, Below w.heap.size w W → Calls Tryz.prog 42 #[v] W fun e w' => e = .returned (errV aT aB (pre (bl X))) ∧ Below W.heap.size W w' := by
    intro W hW
    rcases hv with ⟨h1, h2⟩ | ⟨h1, bk, cp, h2, h3, h4, h5⟩
    · subst h1; subst h2
      exact pre_nil none 0 aT aB W
    · subst h2
      exact pre_some bk 0 cp X aT aB m W (S.below hW) (by omega) hXz (fun j h => cell_below hW (h5 j h))
  cases hn : (inBB a && inBB b && inBB c)
  · refine (text_nums a b c v w hn).mono fun e w' ⟨h1, h2⟩ => ⟨_, h1, ?_, h2⟩
    rw [textOf_pre, hn]; rfl
  · simp only [Bool.and_eq_true] at hn
    obtain ⟨⟨ha, hb⟩, hc⟩ := hn
    rcases pre_err (bl X) with h0 | h0
    · rw [h0] at hpre
      have hT : textOf a b c (bl X) = core3 a b c ++ preText (bl X) := by rw [textOf_pre, ha, hb, hc, h0]; rfl
      rw [hT]
      rcases hv with ⟨h1, h2⟩ | ⟨h1, bk, cp, h2, h3, h4, h5⟩
      · subst h1; subst h2
        refine (text_none a b c w ha hb hc htab hpre).mono fun e w' ⟨T, e1, e2, e3⟩ => ⟨T, e1, ?_, e3⟩
        rw [e2]; simp [bl, preText]
      · subst h2
        have hj : preText (bl X) = [45] ++ Lib.join (bl X) [46] := by
          cases X with
          | nil => exact absurd rfl h1
          | cons x r => rfl
        refine (text_some a b c bk cp X w hX h3 h1 h4 h5 (by rw [hj] at hlen; simp at hlen; omega) ha hb hc htab hpre).mono fun e w' ⟨T, e1, e2, e3⟩ => ⟨T, e1, ?_, e3⟩
        rw [e2, hj, List.append_assoc]
    · refine (text_pbad a b c v (pre (bl X)) aT aB w ha hb hc h0 hpre).mono fun e w' ⟨h1, h2⟩ => ⟨_, h1, ?_, h2⟩
      rw [textOf_pre]
      rcases h0 with h | h <;> rw [h] <;> simp
end Ve
end Go.Proofs.YtmgpapghdbopiaaGreatDoor
