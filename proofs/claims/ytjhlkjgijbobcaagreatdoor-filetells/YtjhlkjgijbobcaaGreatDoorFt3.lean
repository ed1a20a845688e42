/-
  VerB ShelfB
-/
import Derived.Test.YtjhlkjgijbobcaaGreatDoorFt2
import Derived.Shelf.Strings.Builder1
import Derived.Shelf.Strings.Builder2
import Derived.Shelf.Strings.OnBuilder
import Derived.Shelf.Strings.Trim
import Derived.Shelf.Small.Utf8
import Derived.Shelf.Small.Strs
import Derived.Shelf.Small.Wraps
import Derived.Shelf.Strings.Search1
import Derived.Shelf.Strings.Search2
import Derived.Shelf.Strings.Search3
import Derived.Shelf.Strings.Cut
import Derived.Shelf.Strings.Count
import Derived.Shelf.LaysM
import Derived.Shelf.Strings.Shaped
import Derived.Shelf.Strings.Prefix
import Derived.Shelf.Strings.Split
import Derived.Shelf.Strings.Runes
import Derived.Shelf.Strings.AsciiSet
import Derived.Shelf.Unicode.DecodeSlow
import Derived.Test.YtjhlkjgijbobcaaGreatDoorProg
import Derived.Test.YtjhlkjgijbobcaaGreatDoorFt7
namespace Go.Proofs.YtjhlkjgijbobcaaGreatDoor
open Go.RowKit
namespace Ve
structure Vs (w : World) (aT aB : Addr) (m : Int) : Prop where
  t : w.cell? ⟨3, 0, none⟩ = some (.iface 201 (.pointer (some aT)))
  b : w.cell? ⟨1, 0, none⟩ = some (.iface 201 (.pointer (some aB)))
  bt : ∃ c t, w.heap[aT.block]? = some (.cells c t (0, 0))
  bb : ∃ c t, w.heap[aB.block]? = some (.cells c t (0, 0))
  ne : aT ≠ aB
  ml : w.cell? ⟨11, 0, none⟩ = some (.int .i64 m)
theorem lt_of_cell {w : World} {a : Addr} {v : Value} (h : w.cell? a = some v) : a.block < w.heap.size := by
  rcases Nat.lt_or_ge a.block w.heap.size with hh | hh
  · exact hh
  · simp [World.cell?, Array.getElem?_eq_none hh] at h
theorem lt_of_blk {w : World} {b : Nat} {o : Obj} (h : w.heap[b]? = some o) : b < w.heap.size := by
  rcases Nat.lt_or_ge b w.heap.size with hh | hh
  · exact hh
  · rw [Array.getElem?_eq_none hh] at h; cases h
theorem cell_below {w w' : World} {a : Addr} {v : Value} (hb : Below w.heap.size w w') (h : w.cell? a = some v) : w'.cell? a = some v := by
  rw [hb.cell (lt_of_cell h)]; exact h
theorem Vs.below {w w' : World} {aT aB : Addr} {m : Int} (h : Vs w aT aB m) (hb : Below w.heap.size w w') : Vs w' aT aB m := by
  refine ⟨cell_below hb h.t, cell_below hb h.b, ?_, ?_, h.ne, cell_below hb h.ml⟩
  · obtain ⟨c, t, e⟩ := h.bt
    exact ⟨c, t, by rw [hb.block _ (lt_of_blk e)]; exact e⟩
  · obtain ⟨c, t, e⟩ := h.bb
    exact ⟨c, t, by rw [hb.block _ (lt_of_blk e)]; exact e⟩
theorem below_drawn (w : World) (d : Nat) : Below w.heap.size w (w.drewN d) := ⟨rfl, rfl, rfl, Nat.le_refl _, fun _ _ => rfl⟩
def errV (aT aB : Addr) (c : Nat) : Value := if c = 0 then .nilIface else if c = 1 then .iface 201 (.pointer (some aT)) else .iface 201 (.pointer (some aB))
theorem errV0 (aT aB : Addr) : errV aT aB 0 = .nilIface := rfl
theorem errV1 (aT aB : Addr) : errV aT aB 1 = .iface 201 (.pointer (some aT)) := rfl
theorem errV2 (aT aB : Addr) : errV aT aB 2 = .iface 201 (.pointer (some aB)) := rfl
theorem digits_any (s : ByteArray) (w : World) (hs : s.size ≤ maxLen) :
    Calls Tryz.prog 106 #[.string s] w fun e w' => e = .returned (.bool (digs s.data.toList)) ∧ w' = w := by
  have HD := hid (show digs s.data.toList = (decide (0 < s.size) && allDig s.data.toList) by unfold digs; rw [len_eq])
  have HC := hid (every_dig s w hs)
  unfold maxLen at hs
  by_cases h : 0 < s.size
  · go_enter Tryz.func106, Tryz.ntmps106
    go_wp2_with fail
    refine HC.out.mono ?_
    rintro e w' ⟨rfl, rfl⟩
    go_wp2_with fail
    go_ret
    exact ⟨ret_bool (by rw [HD.out]; simp [h]), rfl⟩
  · go_enter Tryz.func106, Tryz.ntmps106
    go_wp2_with fail
    go_ret
    exact ⟨ret_bool (by rw [HD.out]; simp [h]), rfl⟩
theorem compS : (Tryz.prog.info? 201).map (·.comparable) = some true := by kernel_rfl
theorem sizeS : (Tryz.prog.info? 219).map (·.size) = some 1 := by kernel_rfl
theorem worse_any (a b : Nat) (aT aB : Addr) (m : Int) (w : World) (S : Vs w aT aB m) (ha : a = 0 ∨ a = 1 ∨ a = 2) (hb : b = 0 ∨ b = 1 ∨ b = 2) :
    Calls Tryz.prog 112 #[errV aT aB a, errV aT aB b] w fun e w' => e = .returned (errV aT aB (worse a b)) ∧ w' = w := by
  obtain ⟨i, hi, hcmp⟩ := Option.map_eq_some_iff.1 compS
  obtain ⟨j, hj, hjs⟩ := Option.map_eq_some_iff.1 sizeS
  obtain ⟨c1, t1, e1⟩ := S.bt
  obtain ⟨c2, t2, e2⟩ := S.bb
  have q0 := run_eql_iface_nil_left (P := Tryz.prog) w 201 (.pointer (some aT)) Tryz.underlying32
  have q1 := run_eql_iface_ptr_same (P := Tryz.prog) w aT Tryz.underlying32 Tryz.underlying201 hi hcmp hj
  have q2 := run_eql_iface_ptr_other (P := Tryz.prog) w Tryz.underlying32 Tryz.underlying201 hi hcmp hj (by rw [hjs]; decide) S.ne.symm e2 e1
  have g := S.t
  clear S e1 e2 hi hcmp hj hjs
  rcases ha with rfl | rfl | rfl
  · rcases hb with rfl | rfl | rfl
    · show Calls Tryz.prog 112 #[.nilIface, .nilIface] w fun e w' => e = .returned (.nilIface) ∧ w' = w
      go_enter Tryz.func112, Tryz.ntmps112
      go_wp2
      go_ret
      exact ⟨rfl, rfl⟩
    · show Calls Tryz.prog 112 #[.nilIface, .iface 201 (.pointer (some aT))] w fun e w' => e = .returned (.iface 201 (.pointer (some aT))) ∧ w' = w
      go_enter Tryz.func112, Tryz.ntmps112
      go_wp2
      go_ret
      exact ⟨rfl, rfl⟩
    · show Calls Tryz.prog 112 #[.nilIface, .iface 201 (.pointer (some aB))] w fun e w' => e = .returned (.iface 201 (.pointer (some aB))) ∧ w' = w
      go_enter Tryz.func112, Tryz.ntmps112
      go_wp2
      go_ret
      exact ⟨rfl, rfl⟩
  · rcases hb with rfl | rfl | rfl
    · show Calls Tryz.prog 112 #[.iface 201 (.pointer (some aT)), .nilIface] w fun e w' => e = .returned (.iface 201 (.pointer (some aT))) ∧ w' = w
      go_enter Tryz.func112, Tryz.ntmps112
      go_wp2
      go_ret
      exact ⟨rfl, rfl⟩
    · show Calls Tryz.prog 112 #[.iface 201 (.pointer (some aT)), .iface 201 (.pointer (some aT))] w fun e w' => e = .returned (.iface 201 (.pointer (some aT))) ∧ w' = w
      go_enter Tryz.func112, Tryz.ntmps112
      go_wp2
      go_ret
      exact ⟨rfl, rfl⟩
    · show Calls Tryz.prog 112 #[.iface 201 (.pointer (some aT)), .iface 201 (.pointer (some aB))] w fun e w' => e = .returned (.iface 201 (.pointer (some aT))) ∧ w' = w
      go_enter Tryz.func112, Tryz.ntmps112
      go_wp2
      go_ret
      exact ⟨rfl, rfl⟩
  · rcases hb with rfl | rfl | rfl
    · show Calls Tryz.prog 112 #[.iface 201 (.pointer (some aB)), .nilIface] w fun e w' => e = .returned (.iface 201 (.pointer (some aB))) ∧ w' = w
      go_enter Tryz.func112, Tryz.ntmps112
      go_wp2
      go_ret
      exact ⟨rfl, rfl⟩
    · show Calls Tryz.prog 112 #[.iface 201 (.pointer (some aB)), .iface 201 (.pointer (some aT))] w fun e w' => e = .returned (.iface 201 (.pointer (some aT))) ∧ w' = w
      go_enter Tryz.func112, Tryz.ntmps112
      go_wp2
      go_ret
      exact ⟨rfl, rfl⟩
    · show Calls Tryz.prog 112 #[.iface 201 (.pointer (some aB)), .iface 201 (.pointer (some aB))] w fun e w' => e = .returned (.iface 201 (.pointer (some aB))) ∧ w' = w
      go_enter Tryz.func112, Tryz.ntmps112
      go_wp2
      go_ret
      exact ⟨rfl, rfl⟩
theorem dig_at (s : ByteArray) (h : allDig s.data.toList = true) (k : Nat) (hk : k < s.size) : 48 ≤ (s[k].toNat : Int) ∧ (s[k].toNat : Int) ≤ 57 := by
  have h1 := List.all_eq_true.1 h s[k] (by rw [ByteArray.getElem_eq_getElem_data]; exact Array.getElem_mem_toList _)
  simpa [dig, digB] using h1
theorem dig_take (s : ByteArray) (h : allDig s.data.toList = true) (k : Nat) : (s.data.toList.take k).all dig = true := by
  rw [List.all_eq_true]
  intro x hx
  exact List.all_eq_true.1 h x (List.mem_of_mem_take hx)
theorem zero_eq (s : ByteArray) : zero s.data.toList = true ↔ ∃ h : 1 < s.size, ((s[0].toNat : Int) == 48) = true := by
  unfold zero
  rw [len_eq]
  by_cases h : 1 < s.size
  · have e : s.data.toList.headD 0 = s[0] := by
      rw [List.headD_eq_head?_getD, List.head?_eq_getElem?, List.getElem?_eq_getElem (by simp; omega)]; rfl
    rw [e]
    simp only [h, decide_true, Bool.true_and, beq_iff_eq, exists_true_left]
    constructor
    · intro h; rw [h]; rfl
    · intro h
      apply UInt8.toNat_inj.1
      show s[0].toNat = 48
      omega
  · simp [h]
set_option maxHeartbeats 400000 in
theorem numeral_any (s : ByteArray) (w : World) (hs : s.size ≤ maxLen) :
    Calls Tryz.prog 133 #[.string s] w fun e w' => e = .returned (.bool (digs s.data.toList && !zero s.data.toList)) ∧ w' = w := by
  have HC := hid (digits_any s w hs)
  have HZ := hid (zero_eq s)
  have HS : Hid (digs s.data.toList = true → 0 < s.size) := fun h => by unfold digs at h; rw [len_eq] at h; simp at h; omega
  unfold maxLen at hs
  cases hz : digs s.data.toList
  · rw [hz] at HC
    clear hz
    go_enter Tryz.func133, Tryz.ntmps133
    go_wp2_with fail
    refine HC.out.mono ?_
    rintro e w' ⟨rfl, rfl⟩
    go_wp2_with fail
    go_ret
    exact ⟨ret_bool (by simp), rfl⟩
  · have h0 := HS.out hz
    rw [hz] at HC
    clear hz HS
    by_cases h1 : 1 < s.size
    · have hl : ((s.size : Int) == 1) = false := by rw [beq_eq_false_iff_ne]; omega
      cases h2 : ((s[0].toNat : Int) == 48)
      · have h3 : ((s[0].toNat : Int) != 48) = true := by rw [bne, h2]; rfl
        have hq : zero s.data.toList = false := by
          cases hq : zero s.data.toList
          · rfl
          · obtain ⟨_, h⟩ := HZ.out.1 hq
            rw [h2] at h; cases h
        have HQ := hid hq
        clear hq HZ
        go_enter Tryz.func133, Tryz.ntmps133
        go_wp2_with fail
        refine HC.out.mono ?_
        rintro e w' ⟨rfl, rfl⟩
        go_wp2_with fail
        go_ret
        exact ⟨ret_bool (by rw [HQ.out]; rfl), rfl⟩
      · have h3 : ((s[0].toNat : Int) != 48) = false := by rw [bne, h2]; rfl
        have HQ := hid (HZ.out.2 ⟨h1, h2⟩)
        clear HZ
        go_enter Tryz.func133, Tryz.ntmps133
        go_wp2_with fail
        refine HC.out.mono ?_
        rintro e w' ⟨rfl, rfl⟩
        go_wp2_with fail
        go_ret
        exact ⟨ret_bool (by rw [HQ.out]; rfl), rfl⟩
    · have hl : ((s.size : Int) == 1) = true := by rw [beq_iff_eq]; omega
      have hq : zero s.data.toList = false := by
        cases hq : zero s.data.toList
        · rfl
        · obtain ⟨h, _⟩ := HZ.out.1 hq
          exact absurd h h1
      have HQ := hid hq
      clear hq HZ
      go_enter Tryz.func133, Tryz.ntmps133
      go_wp2_with fail
      refine HC.out.mono ?_
      rintro e w' ⟨rfl, rfl⟩
      go_wp2_with fail
      go_ret
      exact ⟨ret_bool (by rw [HQ.out]; rfl), rfl⟩
set_option maxHeartbeats 400000 in
theorem num_text (s : ByteArray) (aT aB : Addr) (m : Int) (w : World) (hs : s.size ≤ maxLen) (S : Vs w aT aB m) (hz : (digs s.data.toList && !zero s.data.toList) = false) :
    Calls Tryz.prog 107 #[.string s] w fun e w' => e = .returned (.tuple #[.int .i64 0, .iface 201 (.pointer (some aT))]) ∧ Below w.heap.size w w' := by
  have HC := hid (numeral_any s w hs)
  rw [hz] at HC
  unfold maxLen at hs
  have g := S.t
  clear S hz
  go_enter Tryz.func107, Tryz.ntmps107
  go_wp2_with fail
  refine HC.out.mono ?_
  rintro e w' ⟨rfl, rfl⟩
  go_wp2_with fail
  go_quiet (fail)
  go_wp2_with fail
  go_ret2
  exact ⟨rfl, below_drawn _ _⟩
set_option maxHeartbeats 1000000 in
theorem num_ok (s : ByteArray) (aT aB : Addr) (m : Int) (w : World) (hs : s.size ≤ maxLen) (S : Vs w aT aB m) (hz : digs s.data.toList = true) (h0 : zero s.data.toList = false) :
    Calls Tryz.prog 107 #[.string s] w fun e w' => e = .returned (.tuple #[.int .i64 (num s.data.toList).1, errV aT aB (num s.data.toList).2]) ∧ Below w.heap.size w w' := by
  have had : allDig s.data.toList = true := by unfold digs at hz; simp at hz; exact hz.2
  have HN : Hid ((numTo 0 s.data.toList ≤ 999999 → num s.data.toList = (numTo 0 s.data.toList, 0)) ∧ (¬ numTo 0 s.data.toList ≤ 999999 → num s.data.toList = (0, 2))) :=
    ⟨fun h => by simp [num, hz, h0, h], fun h => by simp [num, hz, h0, h]⟩
  have HC := hid (numeral_any s w hs)
  rw [hz, h0] at HC
  unfold maxLen at hs
  have g := S.b
  clear S h0 hz
  go_enter Tryz.func107, Tryz.ntmps107
  go_wp2_with fail
  refine HC.out.mono ?_
  rintro e w' ⟨rfl, rfl⟩
  go_wp2_with fail
  go_loop [4, 12] (fun n i => ∃ k : Nat, k ≤ s.size ∧ i = .int .i64 k ∧ n = .int .i64 (numTo 0 (s.data.toList.take k))) (fun _ i => s.size - (intOf i).toNat)
  case atStart => exact ⟨0, Nat.zero_le _, rfl, rfl⟩
  case round =>
    obtain ⟨k, hk, rfl, rfl⟩ := hrel
    obtain ⟨b0, b1⟩ := numTo_bd _ (dig_take s had k)
    by_cases hlt : k < s.size
    · obtain ⟨d0, d1⟩ := dig_at s had k hlt
      have HS := hid (numTo_snoc 0 (s.data.toList.take k) s[k])
      rw [← take_snoc s k hlt] at HS
      generalize hn : numTo 0 (s.data.toList.take k) = n at *
      clear hn
      go_wp2_with fail
      refine ⟨⟨k + 1, by omega, by go_num, ?_⟩, by simp [intOf]; omega⟩
      rw [HS.out]
      first | done | (congr 1; split <;> omega) | (congr 1; omega)
    · have hk2 : s.data.toList.take k = s.data.toList := List.take_of_length_le (by simp; omega)
      rw [hk2] at b0 b1 ⊢
      by_cases hb : numTo 0 s.data.toList ≤ 999999
      · have HF := hid (HN.out.1 hb)
        generalize hn : numTo 0 s.data.toList = n at *
        clear hn hk2
        go_wp2_with fail
        go_ret2
        exact ⟨by rw [HF.out]; rfl, Below.refl _ _⟩
      · have HF := hid (HN.out.2 (by omega))
        generalize hn : numTo 0 s.data.toList = n at *
        clear hn hk2
        go_wp2_with fail
        go_quiet (fail)
        go_wp2_with fail
        go_ret2
        exact ⟨by rw [HF.out]; rfl, below_drawn _ _⟩
theorem num_any (s : ByteArray) (aT aB : Addr) (m : Int) (w : World) (hs : s.size ≤ maxLen) (S : Vs w aT aB m) :
    Calls Tryz.prog 107 #[.string s] w fun e w' => e = .returned (.tuple #[.int .i64 (num s.data.toList).1, errV aT aB (num s.data.toList).2]) ∧ Below w.heap.size w w' := by
  cases hz : digs s.data.toList
  · have e : num s.data.toList = (0, 1) := by simp [num, hz]
    rw [e]; exact num_text s aT aB m w hs S (by rw [hz]; rfl)
  · cases h0 : zero s.data.toList
    · exact num_ok s aT aB m w hs S hz h0
    · have e : num s.data.toList = (0, 1) := by simp [num, h0]
      rw [e]; exact num_text s aT aB m w hs S (by rw [hz, h0]; rfl)
set_option maxHeartbeats 400000 in
theorem part_any (s : ByteArray) (aT aB : Addr) (m : Int) (w : World) (hs : s.size ≤ maxLen) (S : Vs w aT aB m) :
    Calls Tryz.prog 137 #[.string s] w fun e w' => e = .returned (errV aT aB (part s.data.toList)) ∧ Below w.heap.size w w' := by
  have HP := hid (show part s.data.toList = if s.size < 1 ∨ 8 < s.size ∨ allPar s.data.toList = false then 1 else if digs s.data.toList = false then 0 else (num s.data.toList).2 by unfold part; rw [len_eq])
  have HS := hid S
  have HE := hid (every_par s w hs)
  have HD := hid (digits_any s w hs)
  have HN := hid (num_any s aT aB m w hs S)
  have HR := hid (num_err s.data.toList)
  unfold maxLen at hs
  have g := S.t
  clear S
  by_cases h1 : s.size < 1
  · rw [if_pos (Or.inl h1)] at HP
    go_enter Tryz.func137, Tryz.ntmps137
    go_wp2_with fail
    go_ret
    exact ⟨by rw [HP.out]; rfl, Below.refl _ _⟩
  · by_cases h2 : 8 < s.size
    · rw [if_pos (Or.inr (Or.inl h2))] at HP
      go_enter Tryz.func137, Tryz.ntmps137
      go_wp2_with fail
      go_ret
      exact ⟨by rw [HP.out]; rfl, Below.refl _ _⟩
    · cases h3 : allPar s.data.toList
      · rw [if_pos (Or.inr (Or.inr h3))] at HP
        rw [h3] at HE
        clear h3
        go_enter Tryz.func137, Tryz.ntmps137
        go_wp2_with fail
        refine HE.out.mono ?_
        rintro e w' ⟨rfl, rfl⟩
        go_wp2_with fail
        go_ret
        exact ⟨by rw [HP.out]; rfl, Below.refl _ _⟩
      · rw [h3] at HE
        rw [if_neg (by rintro (h | h | h) <;> simp_all)] at HP
        clear h3
        cases h4 : digs s.data.toList
        · rw [if_pos h4] at HP
          rw [h4] at HD
          clear h4
          go_enter Tryz.func137, Tryz.ntmps137
          go_wp2_with fail
          refine HE.out.mono ?_
          rintro e w' ⟨rfl, rfl⟩
          go_wp2_with fail
          refine HD.out.mono ?_
          rintro e w' ⟨rfl, rfl⟩
          go_wp2_with fail
          go_ret
          exact ⟨by rw [HP.out]; rfl, Below.refl _ _⟩
        · rw [if_neg (by rw [h4]; simp)] at HP
          rw [h4] at HD
          clear h4
          generalize hq : num s.data.toList = q at *
          clear hq
          obtain ⟨q1, q2⟩ := q
          rcases HR.out with h | h | h
          all_goals
            dsimp only at h
            subst h
            go_enter Tryz.func137, Tryz.ntmps137
            go_wp2_with fail
            refine HE.out.mono ?_
            rintro e w' ⟨rfl, rfl⟩
            go_wp2_with fail
            refine HD.out.mono ?_
            rintro e w' ⟨rfl, rfl⟩
            go_wp2_with fail
            refine HN.out.mono ?_
            rintro e w' ⟨rfl, hb⟩
            have HB := hid hb
            clear hb
            go_wp2_with fail
            go_ret
            exact ⟨by rw [HP.out]; rfl, HB.out⟩
end Ve
end Go.Proofs.YtjhlkjgijbobcaaGreatDoor
namespace Go.Proofs
open Go.Shelf
def Tryz.lays169_ren : Go.Shelf.Ren := ⟨fun | 169 => 36 | n => n, fun | 70 => 64 | 9 => 9 | 0 => 0 | 72 => 67 | 37 => 65 | 127 => 101 | 3 => 3 | 5 => 5 | n => n, fun | n => n⟩
theorem Tryz.lays169 : Go.Proofs.Lays.n169 Tryz.prog Tryz.lays169_ren := {
  mixed := by kernel_rfl
  f169 := Tryz.func36.trans (congrArg some (by kernel_rfl))
  t0 := Tryz.underlying0
  a0 := Tryz.isAgg0
  z0 := Tryz.sizeOf0
  v0 := Tryz.zeroValue0
  t3 := Tryz.underlying3
  a3 := Tryz.isAgg3
  z3 := Tryz.sizeOf3
  v3 := Tryz.zeroValue3
  t9 := Tryz.underlying9
  a9 := Tryz.isAgg9
  z9 := Tryz.sizeOf9
  v9 := Tryz.zeroValue9
  t37 := Tryz.underlying65
  a37 := Tryz.isAgg65
  z37 := Tryz.sizeOf65
  v37 := Tryz.zeroValue65
  t70 := Tryz.underlying64
  a70 := Tryz.isAgg64
  z70 := Tryz.sizeOf64
  v70 := Tryz.zeroValue64
  t72 := Tryz.underlying67
  a72 := Tryz.isAgg67
  z72 := Tryz.sizeOf67
  v72 := Tryz.zeroValue67
  t127 := Tryz.underlying101
  a127 := Tryz.isAgg101
  z127 := Tryz.sizeOf101
  v127 := Tryz.zeroValue101 }
theorem Tryz.Builder_Extra_169 : Builder.Extra Tryz.prog Tryz.lays169_ren := {
  sizeBuilder := by kernel_rfl
  liesBuilder := by kernel_rfl
  t5 := Tryz.underlying5
  a5 := Tryz.isAgg5
  z5 := Tryz.sizeOf5
  v5 := Tryz.zeroValue5
  infoByte := by kernel_rfl
  cellsByte := by kernel_rfl
  sizeByte := by kernel_rfl
  neB5 := by decide }
open Go.RowKit in
theorem Tryz.Builder_String_any (B b : Nat) (l : List UInt8) (w : World) (h : Lib.IsBuilder 67 5 B b (Lib.byteCells l) w) (hBw : B ≤ w.heap.size) :
    Calls Tryz.prog 36 #[.pointer (some ⟨b, 0, none⟩)] w fun e w' => e = .returned (.string ⟨l.toArray⟩) ∧ Below B w w' := Any.Builder_String_any Tryz.lays169 Tryz.Builder_Extra_169 B b l w h hBw
def Tryz.lays104_ren : Go.Shelf.Ren := ⟨fun | 104 => 95 | 211 => 120 | 207 => 149 | n => n, fun | 9 => 9 | 4 => 4 | 24 => 138 | 3 => 3 | n => n, fun | n => n⟩
theorem Tryz.lays104 : Go.Proofs.Lays.n104 Tryz.prog Tryz.lays104_ren := {
  mixed := by kernel_rfl
  f104 := Tryz.func95.trans (congrArg some (by kernel_rfl))
  f207 := Tryz.func149.trans (congrArg some (by kernel_rfl))
  f211 := Tryz.func120.trans (congrArg some (by kernel_rfl))
  t3 := Tryz.underlying3
  a3 := Tryz.isAgg3
  z3 := Tryz.sizeOf3
  v3 := Tryz.zeroValue3
  t4 := Tryz.underlying4
  a4 := Tryz.isAgg4
  z4 := Tryz.sizeOf4
  v4 := Tryz.zeroValue4
  t9 := Tryz.underlying9
  a9 := Tryz.isAgg9
  z9 := Tryz.sizeOf9
  v9 := Tryz.zeroValue9
  t24 := Tryz.underlying138
  a24 := Tryz.isAgg138
  z24 := Tryz.sizeOf138
  v24 := Tryz.zeroValue138 }
open Go.RowKit in
theorem Tryz.strings_CutSuffix (s p : ByteArray) (w : World) (hs : s.size ≤ 9223372036854775807) :
    Calls Tryz.prog 95 #[.string s, .string p] w fun e w' => e = .returned (.tuple #[.string ⟨(Lib.trimSuffix s.data.toList p.data.toList).toArray⟩, .bool (Lib.hasSuffix s.data.toList p.data.toList)]) ∧ w' = w := Any.strings_CutSuffix Tryz.lays104 s p w hs
def Tryz.lays221_ren : Go.Shelf.Ren := ⟨fun | 221 => 94 | 268 => 117 | 138 => 118 | 143 => 119 | 195 => 145 | 197 => 146 | 218 => 147 | 219 => 148 | 260 => 159 | 217 => 160 | 225 => 161 | 224 => 162 | 267 => 163 | 266 => 168 | 314 => 169 | n => n, fun | 9 => 9 | 3 => 3 | 31 => 73 | 4 => 4 | 0 => 0 | 105 => 183 | 21 => 21 | 5 => 5 | 46 => 140 | 119 => 193 | 139 => 196 | 138 => 195 | 146 => 198 | 51 => 197 | n => n, fun | 1 => 11 | 3 => 12 | 4 => 13 | n => n⟩
theorem Tryz.lays221 : Go.Proofs.Lays.n221 Tryz.prog Tryz.lays221_ren := {
  mixed := by kernel_rfl
  f138 := Tryz.func118.trans (congrArg some (by kernel_rfl))
  f143 := Tryz.func119.trans (congrArg some (by kernel_rfl))
  f195 := Tryz.func145.trans (congrArg some (by kernel_rfl))
  f197 := Tryz.func146.trans (congrArg some (by kernel_rfl))
  f217 := Tryz.func160.trans (congrArg some (by kernel_rfl))
  f218 := Tryz.func147.trans (congrArg some (by kernel_rfl))
  f219 := Tryz.func148.trans (congrArg some (by kernel_rfl))
  f221 := Tryz.func94.trans (congrArg some (by kernel_rfl))
  f224 := Tryz.func162.trans (congrArg some (by kernel_rfl))
  f225 := Tryz.func161.trans (congrArg some (by kernel_rfl))
  f260 := Tryz.func159.trans (congrArg some (by kernel_rfl))
  f266 := Tryz.func168.trans (congrArg some (by kernel_rfl))
  f267 := Tryz.func163.trans (congrArg some (by kernel_rfl))
  f268 := Tryz.func117.trans (congrArg some (by kernel_rfl))
  f314 := Tryz.func169.trans (congrArg some (by kernel_rfl))
  t0 := Tryz.underlying0
  a0 := Tryz.isAgg0
  z0 := Tryz.sizeOf0
  v0 := Tryz.zeroValue0
  t3 := Tryz.underlying3
  a3 := Tryz.isAgg3
  z3 := Tryz.sizeOf3
  v3 := Tryz.zeroValue3
  t4 := Tryz.underlying4
  a4 := Tryz.isAgg4
  z4 := Tryz.sizeOf4
  v4 := Tryz.zeroValue4
  t5 := Tryz.underlying5
  a5 := Tryz.isAgg5
  z5 := Tryz.sizeOf5
  v5 := Tryz.zeroValue5
  t9 := Tryz.underlying9
  a9 := Tryz.isAgg9
  z9 := Tryz.sizeOf9
  v9 := Tryz.zeroValue9
  t21 := Tryz.underlying21
  a21 := Tryz.isAgg21
  z21 := Tryz.sizeOf21
  v21 := Tryz.zeroValue21
  t31 := Tryz.underlying73
  a31 := Tryz.isAgg73
  z31 := Tryz.sizeOf73
  v31 := Tryz.zeroValue73
  t46 := Tryz.underlying140
  a46 := Tryz.isAgg140
  z46 := Tryz.sizeOf140
  v46 := Tryz.zeroValue140
  t51 := Tryz.underlying197
  a51 := Tryz.isAgg197
  z51 := Tryz.sizeOf197
  v51 := Tryz.zeroValue197
  t105 := Tryz.underlying183
  a105 := Tryz.isAgg183
  z105 := Tryz.sizeOf183
  v105 := Tryz.zeroValue183
  t119 := Tryz.underlying193
  a119 := Tryz.isAgg193
  z119 := Tryz.sizeOf193
  t138 := Tryz.underlying195
  a138 := Tryz.isAgg195
  z138 := Tryz.sizeOf195
  v138 := Tryz.zeroValue195
  t139 := Tryz.underlying196
  a139 := Tryz.isAgg196
  z139 := Tryz.sizeOf196
  v139 := Tryz.zeroValue196
  t146 := Tryz.underlying198
  a146 := Tryz.isAgg198
  z146 := Tryz.sizeOf198
  v146 := Tryz.zeroValue198
  g1 := by kernel_rfl
  g3 := by kernel_rfl
  g4 := by kernel_rfl }
open Go.RowKit Go.Lib in
theorem Tryz.strings_genSplit (s sep : ByteArray) (sv : Nat) (n : Int) (N : Nat) (m : Int) (w : World) (hs : s.size < 4294967281) (hm : w.cell? ⟨11, 0, none⟩ = some (.int .i64 m)) (h1 : 1 ≤ sep.size) (hsv : sv ≤ sep.size) (hn0 : n ≠ 0) (hn63 : n ≤ 9223372036854775807) (hN : (N : Int) = min (if n < 0 then (Lib.countB s sep : Int) + 1 else n) ((s.size : Int) + 1)) :
    Calls Tryz.prog 94 #[.string s, .string sep, .int .i64 sv, .int .i64 n] w fun e w' =>
      e = .returned (.slice (some ⟨w.heap.size, 0, none⟩) (Lib.splitB sep sv (N - 1) s).length N) ∧ w' = w.alloc (.cells (Lib.cellsOf (Lib.splitB sep sv (N - 1) s) N) 9) := Any.strings_genSplit Tryz.lays221 (by kernel_rfl) s sep sv n N m w hs hm h1 hsv hn0 hn63 hN
end Go.Proofs
