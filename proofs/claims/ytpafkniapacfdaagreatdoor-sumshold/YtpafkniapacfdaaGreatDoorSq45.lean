
import Derived.Test.YtpafkniapacfdaaGreatDoorSq44
import Derived.Test.YtpafkniapacfdaaGreatDoorSq33
import Derived.Test.YtpafkniapacfdaaGreatDoorSq32
import Derived.Test.YtpafkniapacfdaaGreatDoorSq31
import Derived.Test.YtpafkniapacfdaaGreatDoorSq36
import Derived.Test.YtpafkniapacfdaaGreatDoorSq40
import Derived.Test.YtpafkniapacfdaaGreatDoorSq29
import Derived.Test.YtpafkniapacfdaaGreatDoorSq26
import Derived.Test.YtpafkniapacfdaaGreatDoorSq4
import Derived.Test.YtpafkniapacfdaaGreatDoorSq16
import Derived.Test.YtpafkniapacfdaaGreatDoorSq43
import Derived.Test.YtpafkniapacfdaaGreatDoorSq10
import Derived.Test.YtpafkniapacfdaaGreatDoorSq39
import Derived.Test.YtpafkniapacfdaaGreatDoorSq37
import Derived.Test.YtpafkniapacfdaaGreatDoorSq7
import Derived.Test.YtpafkniapacfdaaGreatDoorSq24
import Derived.Test.YtpafkniapacfdaaGreatDoorSq35
import Derived.Test.YtpafkniapacfdaaGreatDoorSq41
import Derived.Test.YtpafkniapacfdaaGreatDoorSq27
import Derived.Test.YtpafkniapacfdaaGreatDoorSq21
import Derived.Test.YtpafkniapacfdaaGreatDoorSq22
import Derived.Test.YtpafkniapacfdaaGreatDoorSq20
namespace Go.Proofs.YtpafkniapacfdaaGreatDoor
open Go.RowKit
namespace Ve
theorem sumE_le (e : Ent) : sumE e ≤ 4294967295 := by have := crcL_lt (sumT e); unfold sumE; omega
theorem sumL_le (Q : List Raw) (L : List Ent) (R : List Bm) : ∀ x, x ∈ sumL Q L R → x.2 ≤ 4294967295 := fun x hx => by
  obtain ⟨m, _, rfl⟩ := List.mem_map.1 hx
  exact sumE_le _
structure TsK (w : World) (A : Nat → Addr) (m : Int) : Prop where
  s : Te w A m
  g : Gs w A
  r : Rg w
  t : Lib.TabIs Tryz.prog w powName .u64 Lib.pow10Tab
  n : Er.Sen w A
theorem TsK.below {w w' : World} {A : Nat → Addr} {m : Int} (h : TsK w A m) (hb : Below w.heap.size w w') : TsK w' A m := ⟨h.s.below hb, h.g.below hb, h.r.below hb, tab_below h.t hb, h.n.below hb⟩
end Ve
end Go.Proofs.YtpafkniapacfdaaGreatDoor


namespace Go.Proofs.YtpafkniapacfdaaGreatDoor
open Go.RowKit
namespace Ve
theorem val_decN : ∀ n : Nat, valTo 0 (Lib.decDigits n) = (n : Int) := by
  intro n
  induction n using Nat.strongRecOn with
  | _ n ih =>
    by_cases h : n < 10
    · rw [Lib.decDigits_one h]
      have : (UInt8.ofNat (48 + n)).toNat = 48 + n := by rw [UInt8.toNat_ofNat']; omega
      show 10 * 0 + (((UInt8.ofNat (48 + n)).toNat : Int) - 48) = _
      rw [this]; omega
    · have : (UInt8.ofNat (48 + n % 10)).toNat = 48 + n % 10 := by rw [UInt8.toNat_ofNat']; omega
      rw [dec_big h, valTo_snoc, ih (n / 10) (by omega), this]
      omega
theorem rdS_dec {n : Nat} (h : n ≤ 4294967295) : rdS (Lib.decDigits n) = (0, n) := by
  unfold rdS
  have h1 : digs (Lib.decDigits n) = true := by
    unfold digs allDig
    have := dec_dig n
    simp [dec_pos n, this]
  rw [if_pos ⟨h1, dec_zero n, decN_len h⟩, val_decN, if_pos (by omega), Int.toNat_natCast]
theorem dec_no {n : Nat} {c : UInt8} (h : dig c = false) : c ∉ Lib.decDigits n := fun hx => by
  have := List.all_eq_true.1 (dec_dig n) c hx
  rw [h] at this; cases this
theorem lines_app : ∀ (a b : List UInt8), (10 : UInt8) ∉ a → linesL (a ++ 10 :: b) = (a ++ [10]) :: linesL b
  | [], b, _ => by simp [linesL]
  | c :: a, b, h => by
    have ih := lines_app a b (fun hx => h (List.mem_cons_of_mem _ hx))
    have hc : c ≠ 10 := fun e => h (by rw [e]; exact List.mem_cons_self ..)
    rw [List.cons_append, linesL, if_neg hc, ih]; rfl
theorem mod_cln {m : Bm} (h : mErr m = 0) : ((10 : UInt8) ∉ m.1.data.toList ∧ (10 : UInt8) ∉ m.2.data.toList) ∧ ((32 : UInt8) ∉ m.1.data.toList ∧ (32 : UInt8) ∉ m.2.data.toList) := by
  obtain ⟨hp, hv⟩ := mErr_zero h
  exact ⟨⟨path_no hp (by decide) (by decide), ver_no hv (by decide) (by decide) (by decide) (by decide) (by decide)⟩, ⟨path_no hp (by decide) (by decide), ver_no hv (by decide) (by decide) (by decide) (by decide) (by decide)⟩⟩
def bodyT (x : Ln) : List UInt8 := x.1.1.data.toList ++ 32 :: (x.1.2.data.toList ++ 32 :: Lib.decDigits x.2)
theorem lineT_is (x : Ln) : lineT x = bodyT x ++ [10] := by simp [lineT, bodyT]
theorem bodyT_no {x : Ln} (h : mErr x.1 = 0) : (10 : UInt8) ∉ bodyT x := fun hx => by
  have hc := mod_cln h
  unfold bodyT at hx
  rcases List.mem_append.1 hx with hx | hx
  · exact hc.1.1 hx
  · rcases List.mem_cons.1 hx with hx | hx
    · cases hx
    · rcases List.mem_append.1 hx with hx | hx
      · exact hc.1.2 hx
      · rcases List.mem_cons.1 hx with hx | hx
        · cases hx
        · exact dec_no (by decide) hx
theorem lines_flat : ∀ X : List Ln, (∀ x, x ∈ X → mErr x.1 = 0) → linesL (X.flatMap lineT) = X.map lineT
  | [], _ => rfl
  | x :: X, h => by
    rw [List.flatMap_cons, lineT_is, List.append_assoc, List.singleton_append, lines_app _ _ (bodyT_no (h x (List.mem_cons_self ..))), lines_flat X (fun y hy => h y (List.mem_cons_of_mem _ hy)), List.map_cons, lineT_is]
theorem rdT_line {x : Ln} (h : mErr x.1 = 0) (hn : x.2 ≤ 4294967295) : rdT (lineT x) = (0, x) := by
  have hc := mod_cln h
  have hd : (bodyT x ++ [10]).dropLast = bodyT x := by simp
  rw [lineT_is, rdT_yes (end_snoc _), hd]
  unfold bodyT
  rw [cut_at _ hc.2.1, cut_at _ hc.2.2, cut_not (dec_no (by decide))]
  unfold rdW
  dsimp only
  rw [rdS_dec hn, if_pos rfl, bt_of, bt_of]
theorem rd_lines {X : List Ln} (h : ∀ j, j < X.length → txE X j = 0) (hm : ∀ x, x ∈ X → mErr x.1 = 0) (hn : ∀ x, x ∈ X → x.2 ≤ 4294967295) : rdF (linesL (X.flatMap lineT)) = (0, none) ∧ rdX (linesL (X.flatMap lineT)) = X := by
  rw [lines_flat X hm]
  have hm2 : (X.map lineT).map (fun t => (rdT t).2) = X := by
    rw [List.map_map]
    refine (List.map_congr_left fun x hx => ?_).trans (List.map_id X)
    show (rdT (lineT x)).2 = x
    rw [rdT_line (hm x hx) (hn x hx)]
  have h0 : ∀ j, j < (X.map lineT).length → lnEr (X.map lineT) j = 0 := fun j hj => by
    have hj2 : j < X.length := by rw [List.length_map] at hj; exact hj
    have hg : (X.map lineT)[j] = lineT X[j] := by simp
    have h1 : (rdT (X.map lineT)[j]).1 = 0 := by rw [hg, rdT_line (hm _ (List.getElem_mem hj2)) (hn _ (List.getElem_mem hj2))]
    rw [lnEr_ok hj h1, ← lnOf_next hj]
    have h2 : lnOf ((X.map lineT).take (j + 1)) = X.take (j + 1) := by
      unfold lnOf
      rw [List.map_take, hm2]
    rw [h2]
    have h3 := h j hj2
    unfold txE exE at h3 ⊢
    rw [List.map_take, List.getElem?_take, if_pos (Nat.lt_succ_self _), prev_take]
    exact h3
  have hF := rdF_fine h0
  refine ⟨hF, ?_⟩
  unfold rdX
  rw [hF, if_pos rfl, hm2]
theorem sumL_mods (Q : List Raw) (L : List Ent) (S : List Bm) : (sumL Q L S).map (fun x => x.1) = S := by
  unfold sumL
  rw [List.map_map]
  exact (List.map_congr_left fun _ _ => rfl).trans (List.map_id S)
theorem sumL_at {Q : List Raw} {L : List Ent} {S : List Bm} {j : Nat} (h : j < (sumL Q L S).length) : (sumL Q L S)[j] = (S[j]'(by rw [← sumL_len Q L S]; exact h), sumE (entQ Q L (S[j]'(by rw [← sumL_len Q L S]; exact h)))) := by
  simp [sumL]
theorem ris_ahead {S : List Bm} (h : rising S) {j : Nat} (hj : j + 1 < S.length) : mAhead S[j] S[j + 1] = true := by
  have h1 := List.pairwise_iff_getElem.1 h j (j + 1) (by omega) hj (by omega)
  have hne : S[j].1 ≠ S[j + 1].1 := fun e => by rw [e] at h1; rw [lt_irrefl] at h1; cases h1
  unfold mAhead aheadB
  rw [if_neg (fun e => hne (str_ext e))]
  exact h1
theorem txE_sum {Q : List Raw} {L : List Ent} {S : List Bm} (hr : rising S) (hm : ∀ m, m ∈ S → mErr m = 0) : ∀ j, j < (sumL Q L S).length → txE (sumL Q L S) j = 0 := fun j hj => by
  have hj2 : j < S.length := by rw [← sumL_len Q L S]; exact hj
  unfold txE
  rw [sumL_mods]
  cases j with
  | zero => rw [exE_0 hj2, exW_none (hm _ (List.getElem_mem hj2))]
  | succ j => rw [exE_1 hj2, exW_some (hm _ (List.getElem_mem hj2)), ris_ahead hr hj2, if_pos rfl]
theorem vfW_is {H : List Ln} {x : Ln} {c : Nat} (hin : ∃ h, h ∈ H ∧ h.1 = x.1) (hall : ∀ h, h ∈ H → h.1 = x.1 → h.2 = c) : vfW H x = if c = x.2 then 0 else 10 := by
  unfold vfW
  cases hf : H.find? (fun h => decide (h.1 = x.1)) with
  | none =>
    obtain ⟨h, h1, h2⟩ := hin
    have := List.find?_eq_none.1 hf h h1
    simp [h2] at this
  | some h =>
    have h1 := List.mem_of_find?_eq_some hf
    have h2 := List.find?_some hf
    have h3 := hall h h1 (by simpa using h2)
    show (if h.2 = x.2 then 0 else 10) = _
    rw [h3]
theorem vfW_no {H : List Ln} {x : Ln} (h : ∀ y, y ∈ H → y.1 ≠ x.1) : vfW H x = 5 := by
  unfold vfW
  have hf : H.find? (fun h => decide (h.1 = x.1)) = none := List.find?_eq_none.2 fun y hy => by simp [h y hy]
  rw [hf]
theorem vfE_at {H X : List Ln} {j : Nat} (h : j < X.length) : vfE H X j = vfW H X[j] := by
  unfold vfE
  rw [List.getElem?_eq_getElem h]
theorem vf_all {Q : List Raw} {L : List Ent} {S : List Bm} (h0 : (chkG Q L S).1 = 0) : vfF Q L S (sumL Q L S) = (0, none) := by
  refine vfF_all h0 fun j hj => ?_
  rw [vfE_at hj, vfW_is (c := (sumL Q L S)[j].2) ⟨_, List.getElem_mem hj, rfl⟩ (fun h hh he => ?_), if_pos rfl]
  obtain ⟨k, hk, rfl⟩ := List.getElem_of_mem hh
  rw [sumL_at hk, sumL_at hj] at he ⊢
  have he2 : S[k]'(by rw [← sumL_len Q L S]; exact hk) = S[j]'(by rw [← sumL_len Q L S]; exact hj) := he
  show sumE (entQ Q L _) = sumE (entQ Q L _)
  rw [he2]
theorem ris_ne {S : List Bm} (h : rising S) {i j : Nat} (hi : i < S.length) (hj : j < S.length) (hij : i ≠ j) : S[i] ≠ S[j] := fun e => by
  rcases Nat.lt_or_gt_of_ne hij with h1 | h1
  · have h2 := List.pairwise_iff_getElem.1 h i j hi hj h1
    rw [e, lt_irrefl] at h2; cases h2
  · have h2 := List.pairwise_iff_getElem.1 h j i hj hi h1
    rw [e, lt_irrefl] at h2; cases h2
theorem vf_less {Q : List Raw} {L : List Ent} {S : List Bm} (hr : rising S) (h0 : (chkG Q L S).1 = 0) {k : Nat} (hk : k < (sumL Q L S).length) : vfF Q L S ((sumL Q L S).take k ++ (sumL Q L S).drop (k + 1)) = (5, some k) := by
  have hkS : k < S.length := by rw [← sumL_len Q L S]; exact hk
  have hne : ∀ j (hj : j < (sumL Q L S).length), j ≠ k → (sumL Q L S)[j].1 ≠ (sumL Q L S)[k].1 := fun j hj hjk e => by
    rw [sumL_at hj, sumL_at hk] at e
    exact ris_ne hr _ _ hjk e
  have hsub : ∀ y, y ∈ (sumL Q L S).take k ++ (sumL Q L S).drop (k + 1) → ∃ j, ∃ hj : j < (sumL Q L S).length, j ≠ k ∧ y = (sumL Q L S)[j] := fun y hy => by
    rcases List.mem_append.1 hy with hy | hy
    · obtain ⟨j, hj, rfl⟩ := List.getElem_of_mem hy
      have hj2 : j < k := by rw [List.length_take] at hj; omega
      exact ⟨j, by omega, by omega, by rw [List.getElem_take]⟩
    · obtain ⟨j, hj, rfl⟩ := List.getElem_of_mem hy
      rw [List.length_drop] at hj
      exact ⟨k + 1 + j, by omega, by omega, by rw [List.getElem_drop]⟩
  have h5 : vfE ((sumL Q L S).take k ++ (sumL Q L S).drop (k + 1)) (sumL Q L S) k = 5 := by
    rw [vfE_at hk]
    refine vfW_no fun y hy => ?_
    obtain ⟨j, hj, hjk, rfl⟩ := hsub y hy
    exact hne j hj hjk
  have := vfF_at (H := (sumL Q L S).take k ++ (sumL Q L S).drop (k + 1)) h0 (k := k) (fun j hj => ?_) hk (by rw [h5]; decide)
  · rw [h5] at this; exact this
  · have hj2 : j < (sumL Q L S).length := by omega
    rw [vfE_at hj2, vfW_is (c := (sumL Q L S)[j].2) ⟨(sumL Q L S)[j], List.mem_append.2 (Or.inl ?_), rfl⟩ (fun h hh he => ?_), if_pos rfl]
    · have : (sumL Q L S)[j] = ((sumL Q L S).take k)[j]'(by rw [List.length_take]; omega) := by rw [List.getElem_take]
      rw [this]; exact List.getElem_mem _
    · obtain ⟨i, hi, _, rfl⟩ := hsub h hh
      rw [sumL_at hi, sumL_at hj2] at he ⊢
      have he2 : S[i]'(by rw [← sumL_len Q L S]; exact hi) = S[j]'(by rw [← sumL_len Q L S]; exact hj2) := he
      show sumE (entQ Q L _) = sumE (entQ Q L _)
      rw [he2]
theorem vf_other {Q : List Raw} {L : List Ent} {S : List Bm} (hr : rising S) (h0 : (chkG Q L S).1 = 0) {k : Nat} (hk : k < (sumL Q L S).length) {c : Nat} (hc : c ≠ (sumL Q L S)[k].2) : vfF Q L S ((sumL Q L S).set k ((sumL Q L S)[k].1, c)) = (10, some k) := by
  have hne : ∀ i j (hi : i < (sumL Q L S).length) (hj : j < (sumL Q L S).length), i ≠ j → (sumL Q L S)[i].1 ≠ (sumL Q L S)[j].1 := fun i j hi hj hij e => by
    rw [sumL_at hi, sumL_at hj] at e
    exact ris_ne hr _ _ hij e
  have hget : ∀ y, y ∈ (sumL Q L S).set k ((sumL Q L S)[k].1, c) → ∃ j, ∃ hj : j < (sumL Q L S).length, y = if j = k then ((sumL Q L S)[k].1, c) else (sumL Q L S)[j] := fun y hy => by
    obtain ⟨j, hj, rfl⟩ := List.getElem_of_mem hy
    have hj2 : j < (sumL Q L S).length := by rw [List.length_set] at hj; exact hj
    refine ⟨j, hj2, ?_⟩
    rw [List.getElem_set]
    by_cases h : k = j
    · rw [if_pos h, if_pos h.symm]
    · rw [if_neg h, if_neg (fun e => h e.symm)]
  have hin : ∀ j (hj : j < (sumL Q L S).length), (if j = k then ((sumL Q L S)[k].1, c) else (sumL Q L S)[j]) ∈ (sumL Q L S).set k ((sumL Q L S)[k].1, c) := fun j hj => by
    have : (if j = k then ((sumL Q L S)[k].1, c) else (sumL Q L S)[j]) = ((sumL Q L S).set k ((sumL Q L S)[k].1, c))[j]'(by rw [List.length_set]; exact hj) := by
      rw [List.getElem_set]
      by_cases h : k = j
      · rw [if_pos h, if_pos h.symm]
      · rw [if_neg h, if_neg (fun e => h e.symm)]
    rw [this]; exact List.getElem_mem _
  have h10 : vfE ((sumL Q L S).set k ((sumL Q L S)[k].1, c)) (sumL Q L S) k = 10 := by
    rw [vfE_at hk, vfW_is (x := (sumL Q L S)[k]) (c := c) ⟨((sumL Q L S)[k].1, c), by have := hin k hk; rw [if_pos rfl] at this; exact this, rfl⟩ (fun h hh he => ?_), if_neg hc]
    obtain ⟨j, hj, rfl⟩ := hget h hh
    by_cases hjk : j = k
    · rw [if_pos hjk]
    · rw [if_neg hjk] at he
      exact absurd he (hne j k hj hk hjk)
  have := vfF_at (H := (sumL Q L S).set k ((sumL Q L S)[k].1, c)) h0 (k := k) (fun j hj => ?_) hk (by rw [h10]; decide)
  · rw [h10] at this; exact this
  · have hj2 : j < (sumL Q L S).length := by omega
    have hjk : j ≠ k := by omega
    rw [vfE_at hj2, vfW_is (c := (sumL Q L S)[j].2) ⟨(sumL Q L S)[j], by have := hin j hj2; rw [if_neg hjk] at this; exact this, rfl⟩ (fun h hh he => ?_), if_pos rfl]
    obtain ⟨i, hi, rfl⟩ := hget h hh
    by_cases hik : i = k
    · rw [if_pos hik] at he
      exact absurd he.symm (hne j k hj2 hk hjk)
    · rw [if_neg hik] at he ⊢
      by_cases hij : i = j
      · subst hij; rfl
      · exact absurd he (hne i j hi hj2 hij)
end Ve
end Go.Proofs.YtpafkniapacfdaaGreatDoor


namespace Go.Proofs.YtpafkniapacfdaaGreatDoor
open Go.ChangeShapes Go.WideShapes Go.ChangeAt Go.RowKit
namespace Ve
theorem te_of_sen {W : World} {A : Nat → Addr} {m : Int} (h : Er.Sen W A) (hm : W.cell? ⟨12, 0, none⟩ = some (.int .i64 m)) : Te W A m :=
  ⟨⟨h.g0, h.g1, h.g2, h.g3, h.g4, h.g6, h.g7, h.et⟩, ⟨h.g0, h.g1, h.blk 0 (by omega), h.blk 1 (by omega), h.inj 0 1 (by omega) (by omega) (by omega), hm⟩⟩
def rngs : List (String × Nat × List UInt8) := [("strconv.ErrRange", 14, [118, 97, 108, 117, 101, 32, 111, 117, 116, 32, 111, 102, 32, 114, 97, 110, 103, 101])]
theorem rngs_named : ∀ x, x ∈ rngs → Tryz.prog.globalNamed x.1 = some x.2.1 ∧ (Tryz.prog.globals[x.2.1]?).map (·.type) = some 30 := by
  have h : (rngs.all fun x => Tryz.prog.globalNamed x.1 == some x.2.1 && (Tryz.prog.globals[x.2.1]?).map (·.type) == some 30) = true := by kernel_rfl
  intro x hx
  simpa using List.all_eq_true.1 h x hx
theorem rg_of {W : World} (rest : List (String × DataW Unit)) (hl : laidMet Tryz.prog ((rngs.map fun x => (x.1, DataW.iface "*errors.errorString" (.ptr (.agg [.lit (.string x.2.2)])))) ++ rest) W) : Rg W := by
  obtain ⟨ps, hl, hnd, hrows⟩ := hl
  obtain ⟨al, hlen, hsub, hall⟩ := Er.sens_rest Tryz.underlying30 rowS Tryz.underlying291 Tryz.underlying293 rfl rfl Tryz.underlying9 cellsS cellsStr rest rngs ps hl rngs_named hrows
  have hone : al.length = 1 := hlen
  exact ⟨_, _, (hall 0 _ _ rfl (List.getElem?_eq_getElem (by omega))).1⟩
theorem ts_of {W : World} (hl : laidMet Tryz.prog (("math/bits.deBruijn32tab", Rows.laid_math_bits_deBruijn32tab) :: ("math/bits.deBruijn64tab", Rows.laid_math_bits_deBruijn64tab) :: (powName, Lib.tabData .u64 Lib.pow10Tab) :: ("unicode/utf8.acceptRanges", Rows.laid_unicode_utf8_acceptRanges) ::
      ((tens.map fun x => (x.1, DataW.iface "*errors.errorString" (.ptr (.agg [.lit (.string x.2.2)])))) ++ [("strconv.ErrRange", Rows.laid_strconv_ErrRange), ("strconv.ErrSyntax", Rows.laid_strconv_ErrSyntax), ("unicode/utf8.first", Rows.laid_unicode_utf8_first)])) W) (hh : handlesMet Tryz.prog [("errors.errorType", Rows.laid_errors_errorType)] W)
    (hsh : W.ShapedOpen Tryz.prog) : ∃ A m, TsK W A m := by
  have htab := Lib.tabIs_of_head powAt gPt Tryz.underlying249 Tryz.underlying122 cellsU cellsPow hl.tail.tail
  have h4 := hl.tail.tail.tail.tail
  obtain ⟨A, hA⟩ := sen_of [("strconv.ErrRange", Rows.laid_strconv_ErrRange), ("strconv.ErrSyntax", Rows.laid_strconv_ErrSyntax), ("unicode/utf8.first", Rows.laid_unicode_utf8_first)] h4 hh
  obtain ⟨m, hm⟩ := ml_of hsh
  have h14 : laidMet Tryz.prog ((rngs.map fun x => (x.1, DataW.iface "*errors.errorString" (.ptr (.agg [.lit (.string x.2.2)])))) ++ [("strconv.ErrSyntax", Rows.laid_strconv_ErrSyntax), ("unicode/utf8.first", Rows.laid_unicode_utf8_first)]) W := h4.tail.tail.tail.tail.tail.tail.tail.tail.tail.tail
  exact ⟨A, m, te_of_sen hA hm, hA.g9, rg_of _ h14, htab, hA⟩
end Ve
end Go.Proofs.YtpafkniapacfdaaGreatDoor


namespace Go.Proofs.YtpafkniapacfdaaGreatDoor
open Go.RowKit
namespace Ve
def goodN (c : List UInt8) : Prop := digs c = true ∧ zero c = false ∧ c.length ≤ 10
instance (c : List UInt8) : Decidable (goodN c) := by unfold goodN; infer_instance
end Ve
end Go.Proofs.YtpafkniapacfdaaGreatDoor


namespace Go.Proofs.YtpafkniapacfdaaGreatDoor
open Go.RowKit
namespace Ve
end Ve
end Go.Proofs.YtpafkniapacfdaaGreatDoor
