
import Derived.Test.YtemhofbhmnnijaaGreatDoorPj10
import Derived.Test.YtemhofbhmnnijaaGreatDoorPj9
namespace Go.Proofs.YtemhofbhmnnijaaGreatDoor
open Go.RowKit
namespace Ve
theorem ix_lt {i n : Nat} (h : i < n) : (i : Int) < (n : Int) := Int.ofNat_lt.2 h
theorem ix_nlt {i n : Nat} (h : ¬ i < n) : ¬ (i : Int) < (n : Int) := fun e => h (Int.ofNat_lt.1 e)
theorem ix_pos (i : Nat) : (0 : Int) ≤ (i : Int) := Int.natCast_nonneg _
theorem ix_pos1 (i : Nat) : (0 : Int) ≤ (i : Int) + 1 := by omega
theorem ix_nat1 (i : Nat) : ((i : Int) + 1).toNat = i + 1 := by omega
theorem ix_w1 {i n : Nat} (h : i < n) (hn : n ≤ 1000000) : wrap64 ((i : Int) + 1) = (i : Int) + 1 := IntWalk.wrap64_in _ (by omega)
theorem ix_k1 {i n : Nat} (h : i < n) (hn : n ≤ 1000000) : IntKind.i64.wrap ((i : Int) + 1) = (i : Int) + 1 := by rw [IntKind.wrap_i64] <;> omega
theorem nr_idx (t : Nat) : Value.int .i64 ((t : Int) + 1) = .int .i64 ((t + 1 : Nat) : Int) := rfl
theorem nr_meas {t n : Nat} (h : t < n) : n - (intOf (Value.int .i64 ((t : Int) + 1))).toNat < n - (intOf (Value.int .i64 (t : Int))).toNat := by
  show n - ((t : Int) + 1).toNat < n - ((t : Int)).toNat
  omega
end Ve
end Go.Proofs.YtemhofbhmnnijaaGreatDoor


namespace Go.Proofs.YtemhofbhmnnijaaGreatDoor
open Go.RowKit
namespace Ve
theorem cut_last (c : UInt8) (a : List UInt8) (h : a.contains c = false) : cutAt c a = [a] := by
  induction a with
  | nil => rfl
  | cons b l ih =>
    have hb : b ≠ c := by intro e; subst e; simp at h
    have hl : l.contains c = false := by simp at h ⊢; exact h.2
    simp [cutAt, hb, ih hl, ahead]
theorem cut_step (c : UInt8) (a b : List UInt8) (h : a.contains c = false) : cutAt c (a ++ c :: b) = a :: cutAt c b := by
  induction a with
  | nil => simp [cutAt]
  | cons x l ih =>
    have hb : x ≠ c := by intro e; subst e; simp at h
    have hl : l.contains c = false := by simp at h ⊢; exact h.2
    simp only [List.cons_append, cutAt, if_neg hb, ih hl, ahead]
theorem infoStr : (Tryz.prog.info? 9).map (fun i => (i.zero, i.size, i.bytes)) = some (some (.string ByteArray.empty), 1, 16) := by kernel_rfl
theorem extract_list (s : ByteArray) (f i : Nat) : (s.extract f i).data.toList = (s.data.toList.drop f).take (i - f) := by
  simp [ByteArray.data_extract]
theorem drop_split (s : ByteArray) (k j : Nat) (hkj : k ≤ j) (hlt : j < s.size) : s.data.toList.drop k = (s.data.toList.drop k).take (j - k) ++ s[j] :: s.data.toList.drop (j + 1) := by
  have h1 := (List.take_append_drop (j - k) (s.data.toList.drop k)).symm
  have h2 : s.data.toList.drop j = s[j] :: s.data.toList.drop (j + 1) := List.drop_eq_getElem_cons (by simpa using hlt)
  rw [List.drop_drop, show k + (j - k) = j by omega, h2] at h1
  exact h1
set_option maxHeartbeats 1000000 in
theorem rcut_any (s : ByteArray) (c : UInt8) (w : World) (hs : s.size < 4294967281) :
    Calls Tryz.prog 26 #[.string s, .int .u8 (c.toNat : Int)] w fun e w' => ∃ v X, e = .returned v ∧ bl X = cutAt c s.data.toList ∧ w'.ownsRow w.heap.size 9 1 v X.length (X.map Value.string) ∧ Below w.heap.size w w' := by
  obtain ⟨i0, hi, hz0, hz1, hz2⟩ := info_parts infoStr
  go_enter Tryz.func26, Tryz.ntmps26
  go_wp2_with fail
  go_loopw [5, 6, 7] (fun v f i wr => ∃ (k j : Nat) (X : List ByteArray), k ≤ j ∧ j ≤ s.size ∧ X.length ≤ k ∧ i = .int .i64 j ∧ f = .int .i64 k ∧ Hid (bl X ++ cutAt c (s.data.toList.drop k) = cutAt c s.data.toList) ∧ Hid (((s.data.toList.drop k).take (j - k)).contains c = false) ∧
      wr.ownsRow w.heap.size 9 1 v X.length (X.map Value.string) ∧ Below w.heap.size w wr) (fun _ _ i _ => s.size - (intOf i).toNat)
  case atStart => exact ⟨0, 0, [], Nat.le_refl _, Nat.zero_le _, Nat.le_refl _, rfl, rfl, hid rfl, hid rfl, World.ownsRow_nil _ _ _ _, Below.refl _ _⟩
  case round =>
    obtain ⟨k, j, X, hkj, hj, hXk, rfl, rfl, HX, HN, hown, hb⟩ := hrel
    have HO := hid hown
    have HB := hid hb
    have hz := hb.size
    clear hown hb
    by_cases hlt : j < s.size
    · have e1 : s.data.toList.drop k = (s.data.toList.drop k).take (j - k) ++ s[j] :: s.data.toList.drop (j + 1) := drop_split s k j hkj hlt
      cases hc : ((s[j].toNat : Int) == (c.toNat : Int))
      · have HN' := hid (show ((s.data.toList.drop k).take (j + 1 - k)).contains c = false by
          rw [show j + 1 - k = (j - k) + 1 by omega, e1]
          have hl : ((s.data.toList.drop k).take (j - k)).length = j - k := by simp; omega
          rw [List.take_append, hl, show j - k + 1 - (j - k) = 1 by omega, List.take_of_length_le (by omega)]
          have := HN.out
          simp at this ⊢
          refine ⟨this, ?_⟩
          intro e
          rw [e] at hc; simp at hc)
        clear e1
        go_wp2_with fail
        go_roundw
        case rel => exact ⟨k, j + 1, X, by omega, by omega, hXk, by go_num, rfl, HX, HN', HO.out, HB.out⟩
        case measure => simp [intOf]; omega
      · have hcc : s[j] = c := by
          apply UInt8.toNat_inj.1
          simp at hc; omega
        have HX' := hid (show bl (X ++ [s.extract k j]) ++ cutAt c (s.data.toList.drop (j + 1)) = cutAt c s.data.toList by
          rw [← HX.out]
          have e2 : cutAt c (s.data.toList.drop k) = (s.data.toList.drop k).take (j - k) :: cutAt c (s.data.toList.drop (j + 1)) := by
            conv => lhs; rw [e1, hcc]
            exact cut_step c _ _ HN.out
          rw [e2]
          simp [bl])
        clear e1 hcc
        go_wp2_with (at_builtin; refine wpList_append_own _ rfl _ _ 22 rfl w.heap.size 9 i0 (.string ByteArray.empty) 1 16 Tryz.underlying22 hi hz0 hz1 hz2 rfl (by decide) _ _ _ rfl (HO.out.alloc _) ⟨wr.heap.size, 0, none⟩ 1 1 [.string (s.extract k j)] rfl rfl ?c1 ?c2 ?c3 ?c4 ?c5 ?_)
        case c1 =>
          intro j u hj
          match j, hj with
          | 0, hj => simp at hj; subst hj; simp [Addr.add]
        case c2 => intro u hu; simp at hu; subst hu; rfl
        case c3 => unfold maxLen; omega
        case c4 => omega
        case c5 => simp; omega
        intro v' w3 hown' hgrow _
        have HR := hid (rel_app hz HB.out HO.out (Below.refl _ _) hgrow)
        have HO' := hid hown'
        clear hown' hgrow
        go_wp2_with fail
        go_roundw
        case rel => exact ⟨j + 1, j + 1, X ++ [s.extract k j], Nat.le_refl _, by omega, by simp; omega, by go_num, by go_num, HX', by rw [Nat.sub_self]; exact hid rfl, by simpa using HO'.out, HR.out⟩
        case measure => simp [intOf]; omega
    · have hjs : j = s.size := by omega
      have HX' := hid (show bl (X ++ [s.extract k s.size]) = cutAt c s.data.toList by
        rw [← HX.out]
        have h2 : (s.data.toList.drop k).take (j - k) = s.data.toList.drop k := List.take_of_length_le (by simp; omega)
        have h3 := HN.out
        rw [h2] at h3
        rw [cut_last c _ h3]
        simp only [bl, List.map_append, List.map_cons, List.map_nil, extract_list]
        rw [List.take_of_length_le (by simp)])
      clear hjs
      go_wp2_with (at_builtin; refine wpList_append_own _ rfl _ _ 22 rfl w.heap.size 9 i0 (.string ByteArray.empty) 1 16 Tryz.underlying22 hi hz0 hz1 hz2 rfl (by decide) _ _ _ rfl (HO.out.alloc _) ⟨wr.heap.size, 0, none⟩ 1 1 [.string (s.extract k s.size)] rfl rfl ?c1 ?c2 ?c3 ?c4 ?c5 ?_)
      case c1 =>
        intro j u hj
        match j, hj with
        | 0, hj => simp at hj; subst hj; simp [Addr.add]
      case c2 => intro u hu; simp at hu; subst hu; rfl
      case c3 => unfold maxLen; omega
      case c4 => omega
      case c5 => simp; omega
      intro v' w3 hown' hgrow _
      have HR := hid (rel_app hz HB.out HO.out (Below.refl _ _) hgrow)
      have HO' := hid hown'
      clear hown' hgrow
      go_wp2_with fail
      go_ret
      exact ⟨_, X ++ [s.extract k s.size], rfl, HX'.out, by simpa using HO'.out, HR.out⟩
end Ve
end Go.Proofs.YtemhofbhmnnijaaGreatDoor
