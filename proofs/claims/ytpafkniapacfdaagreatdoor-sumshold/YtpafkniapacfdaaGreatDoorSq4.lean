
import Derived.Test.YtpafkniapacfdaaGreatDoorSq3
import Derived.Lib.Bytealg
import Derived.Shelf.Strings.Builder1
import Derived.Shelf.Strings.Builder2
import Derived.Shelf.Strings.OnBuilder
import Derived.Shelf.Strings.Trim
import Derived.Shelf.Small.Utf8
import Derived.Shelf.Small.Bits
import Derived.Shelf.Small.Strs
import Derived.Shelf.Small.Wraps
import Derived.Shelf.Strconv.Itoa0
import Derived.Shelf.Strconv.Itoa1
import Derived.Shelf.LaysM
import Derived.Shelf.Strconv.Itoa2
import Derived.Shelf.Strconv.Itoa3
import Derived.Ground.MpProg
import Derived.Shelf.Pu.ParseUintPublic10
import Derived.Shelf.Strings.Search1
import Derived.Shelf.Strings.Search2
import Derived.Shelf.Strings.Search3
import Derived.Shelf.Strings.Cut
import Derived.Shelf.Strings.Count
import Derived.Shelf.Strings.Shaped
import Derived.Shelf.Sort.Plain
import Derived.Shelf.Strings.Prefix
import Derived.Shelf.Strings.Split
import Derived.Shelf.Strings.Runes
import Derived.Shelf.Strings.AsciiSet
import Derived.Shelf.Unicode.DecodeSlow
import Derived.Shelf.Slices.Equal
import Derived.Shelf.Slices.CompactS
import Derived.Shelf.Slices.In.SortNone
import Derived.Shelf.Slices.Empties2
import Derived.Test.YtpafkniapacfdaaGreatDoorProg
namespace Go.Proofs.YtpafkniapacfdaaGreatDoor
open Go.RowKit
namespace Ve
structure Vs (w : World) (aT aB : Addr) (m : Int) : Prop where
  t : w.cell? ⟨4, 0, none⟩ = some (.iface 291 (.pointer (some aT)))
  b : w.cell? ⟨5, 0, none⟩ = some (.iface 291 (.pointer (some aB)))
  bt : ∃ c t, w.heap[aT.block]? = some (.cells c t (0, 0))
  bb : ∃ c t, w.heap[aB.block]? = some (.cells c t (0, 0))
  ne : aT ≠ aB
  ml : w.cell? ⟨12, 0, none⟩ = some (.int .i64 m)
theorem lt_of_cell {w : World} {a : Addr} {v : Value} (h : w.cell? a = some v) : a.block < w.heap.size := by
  rcases Nat.lt_or_ge a.block w.heap.size with hh | hh
  · exact hh
  · simp [World.cell?, Array.getElem?_eq_none hh] at h
theorem lt_of_blk {w : World} {b : Nat} {o : Obj} (h : w.heap[b]? = some o) : b < w.heap.size := by
  rcases Nat.lt_or_ge b w.heap.size with hh | hh
  · exact hh
  · rw [Array.getElem?_eq_none hh] at h; cases h
theorem cell_below {w w' : World} {a : Addr} {v : Value} (hb : Below w.heap.size w w') (h : w.cell? a = some v) : w'.cell? a = some v := by
  rw [hb.cell (lt_of_cell h)]; exact h
theorem Vs.below {w w' : World} {aT aB : Addr} {m : Int} (h : Vs w aT aB m) (hb : Below w.heap.size w w') : Vs w' aT aB m := by
  refine ⟨cell_below hb h.t, cell_below hb h.b, ?_, ?_, h.ne, cell_below hb h.ml⟩
  · obtain ⟨c, t, e⟩ := h.bt
    exact ⟨c, t, by rw [hb.block _ (lt_of_blk e)]; exact e⟩
  · obtain ⟨c, t, e⟩ := h.bb
    exact ⟨c, t, by rw [hb.block _ (lt_of_blk e)]; exact e⟩
theorem below_drawn (w : World) (d : Nat) : Below w.heap.size w (w.drewN d) := ⟨rfl, rfl, rfl, Nat.le_refl _, fun _ _ => rfl⟩
def errV (aT aB : Addr) (c : Nat) : Value := if c = 0 then .nilIface else if c = 1 then .iface 291 (.pointer (some aT)) else .iface 291 (.pointer (some aB))
theorem errV0 (aT aB : Addr) : errV aT aB 0 = .nilIface := rfl
theorem errV1 (aT aB : Addr) : errV aT aB 1 = .iface 291 (.pointer (some aT)) := rfl
theorem errV2 (aT aB : Addr) : errV aT aB 2 = .iface 291 (.pointer (some aB)) := rfl
theorem digits_any (s : ByteArray) (w : World) (hs : s.size ≤ maxLen) :
    Calls Tryz.prog 160 #[.string s] w fun e w' => e = .returned (.bool (digs s.data.toList)) ∧ w' = w := by
  have HD := hid (show digs s.data.toList = (decide (0 < s.size) && allDig s.data.toList) by unfold digs; rw [len_eq])
  have HC := hid (every_dig s w hs)
  unfold maxLen at hs
  by_cases h : 0 < s.size
  · go_enter Tryz.func160, Tryz.ntmps160
    go_wp2_with fail
    refine HC.out.mono ?_
    rintro e w' ⟨rfl, rfl⟩
    go_wp2_with fail
    go_ret
    exact ⟨ret_bool (by rw [HD.out]; simp [h]), rfl⟩
  · go_enter Tryz.func160, Tryz.ntmps160
    go_wp2_with fail
    go_ret
    exact ⟨ret_bool (by rw [HD.out]; simp [h]), rfl⟩
def inBB (n : Int) : Bool := decide (0 ≤ n ∧ n ≤ 999999)
theorem compS : (Tryz.prog.info? 291).map (·.comparable) = some true := by kernel_rfl
theorem sizeS : (Tryz.prog.info? 293).map (·.size) = some 1 := by kernel_rfl
theorem worse_any (a b : Nat) (aT aB : Addr) (m : Int) (w : World) (S : Vs w aT aB m) (ha : a = 0 ∨ a = 1 ∨ a = 2) (hb : b = 0 ∨ b = 1 ∨ b = 2) :
    Calls Tryz.prog 148 #[errV aT aB a, errV aT aB b] w fun e w' => e = .returned (errV aT aB (worse a b)) ∧ w' = w := by
  obtain ⟨i, hi, hcmp⟩ := Option.map_eq_some_iff.1 compS
  obtain ⟨j, hj, hjs⟩ := Option.map_eq_some_iff.1 sizeS
  obtain ⟨c1, t1, e1⟩ := S.bt
  obtain ⟨c2, t2, e2⟩ := S.bb
  have q0 := run_eql_iface_nil_left (P := Tryz.prog) w 291 (.pointer (some aT)) Tryz.underlying30
  have q1 := run_eql_iface_ptr_same (P := Tryz.prog) w aT Tryz.underlying30 Tryz.underlying291 hi hcmp hj
  have q2 := run_eql_iface_ptr_other (P := Tryz.prog) w Tryz.underlying30 Tryz.underlying291 hi hcmp hj (by rw [hjs]; decide) S.ne.symm e2 e1
  have g := S.t
  clear S e1 e2 hi hcmp hj hjs
  rcases ha with rfl | rfl | rfl
  · rcases hb with rfl | rfl | rfl
    · show Calls Tryz.prog 148 #[.nilIface, .nilIface] w fun e w' => e = .returned (.nilIface) ∧ w' = w
      go_enter Tryz.func148, Tryz.ntmps148
      go_wp2
      go_ret
      exact ⟨rfl, rfl⟩
    · show Calls Tryz.prog 148 #[.nilIface, .iface 291 (.pointer (some aT))] w fun e w' => e = .returned (.iface 291 (.pointer (some aT))) ∧ w' = w
      go_enter Tryz.func148, Tryz.ntmps148
      go_wp2
      go_ret
      exact ⟨rfl, rfl⟩
    · show Calls Tryz.prog 148 #[.nilIface, .iface 291 (.pointer (some aB))] w fun e w' => e = .returned (.iface 291 (.pointer (some aB))) ∧ w' = w
      go_enter Tryz.func148, Tryz.ntmps148
      go_wp2
      go_ret
      exact ⟨rfl, rfl⟩
  · rcases hb with rfl | rfl | rfl
    · show Calls Tryz.prog 148 #[.iface 291 (.pointer (some aT)), .nilIface] w fun e w' => e = .returned (.iface 291 (.pointer (some aT))) ∧ w' = w
      go_enter Tryz.func148, Tryz.ntmps148
      go_wp2
      go_ret
      exact ⟨rfl, rfl⟩
    · show Calls Tryz.prog 148 #[.iface 291 (.pointer (some aT)), .iface 291 (.pointer (some aT))] w fun e w' => e = .returned (.iface 291 (.pointer (some aT))) ∧ w' = w
      go_enter Tryz.func148, Tryz.ntmps148
      go_wp2
      go_ret
      exact ⟨rfl, rfl⟩
    · show Calls Tryz.prog 148 #[.iface 291 (.pointer (some aT)), .iface 291 (.pointer (some aB))] w fun e w' => e = .returned (.iface 291 (.pointer (some aT))) ∧ w' = w
      go_enter Tryz.func148, Tryz.ntmps148
      go_wp2
      go_ret
      exact ⟨rfl, rfl⟩
  · rcases hb with rfl | rfl | rfl
    · show Calls Tryz.prog 148 #[.iface 291 (.pointer (some aB)), .nilIface] w fun e w' => e = .returned (.iface 291 (.pointer (some aB))) ∧ w' = w
      go_enter Tryz.func148, Tryz.ntmps148
      go_wp2
      go_ret
      exact ⟨rfl, rfl⟩
    · show Calls Tryz.prog 148 #[.iface 291 (.pointer (some aB)), .iface 291 (.pointer (some aT))] w fun e w' => e = .returned (.iface 291 (.pointer (some aT))) ∧ w' = w
      go_enter Tryz.func148, Tryz.ntmps148
      go_wp2
      go_ret
      exact ⟨rfl, rfl⟩
    · show Calls Tryz.prog 148 #[.iface 291 (.pointer (some aB)), .iface 291 (.pointer (some aB))] w fun e w' => e = .returned (.iface 291 (.pointer (some aB))) ∧ w' = w
      go_enter Tryz.func148, Tryz.ntmps148
      go_wp2
      go_ret
      exact ⟨rfl, rfl⟩
theorem dig_at (s : ByteArray) (h : allDig s.data.toList = true) (k : Nat) (hk : k < s.size) : 48 ≤ (s[k].toNat : Int) ∧ (s[k].toNat : Int) ≤ 57 := by
  have h1 := List.all_eq_true.1 h s[k] (by rw [ByteArray.getElem_eq_getElem_data]; exact Array.getElem_mem_toList _)
  simpa [dig, digB] using h1
theorem dig_take (s : ByteArray) (h : allDig s.data.toList = true) (k : Nat) : (s.data.toList.take k).all dig = true := by
  rw [List.all_eq_true]
  intro x hx
  exact List.all_eq_true.1 h x (List.mem_of_mem_take hx)
theorem zero_eq (s : ByteArray) : zero s.data.toList = true ↔ ∃ h : 1 < s.size, ((s[0].toNat : Int) == 48) = true := by
  unfold zero
  rw [len_eq]
  by_cases h : 1 < s.size
  · have e : s.data.toList.headD 0 = s[0] := by
      rw [List.headD_eq_head?_getD, List.head?_eq_getElem?, List.getElem?_eq_getElem (by simp; omega)]; rfl
    rw [e]
    simp only [h, decide_true, Bool.true_and, beq_iff_eq, exists_true_left]
    constructor
    · intro h; rw [h]; rfl
    · intro h
      apply UInt8.toNat_inj.1
      show s[0].toNat = 48
      omega
  · simp [h]
set_option maxHeartbeats 400000 in
theorem numeral_any (s : ByteArray) (w : World) (hs : s.size ≤ maxLen) :
    Calls Tryz.prog 114 #[.string s] w fun e w' => e = .returned (.bool (digs s.data.toList && !zero s.data.toList)) ∧ w' = w := by
  have HC := hid (digits_any s w hs)
  have HZ := hid (zero_eq s)
  have HS : Hid (digs s.data.toList = true → 0 < s.size) := fun h => by unfold digs at h; rw [len_eq] at h; simp at h; omega
  unfold maxLen at hs
  cases hz : digs s.data.toList
  · rw [hz] at HC
    clear hz
    go_enter Tryz.func114, Tryz.ntmps114
    go_wp2_with fail
    refine HC.out.mono ?_
    rintro e w' ⟨rfl, rfl⟩
    go_wp2_with fail
    go_ret
    exact ⟨ret_bool (by simp), rfl⟩
  · have h0 := HS.out hz
    rw [hz] at HC
    clear hz HS
    by_cases h1 : 1 < s.size
    · have hl : ((s.size : Int) == 1) = false := by rw [beq_eq_false_iff_ne]; omega
      cases h2 : ((s[0].toNat : Int) == 48)
      · have h3 : ((s[0].toNat : Int) != 48) = true := by rw [bne, h2]; rfl
        have hq : zero s.data.toList = false := by
          cases hq : zero s.data.toList
          · rfl
          · obtain ⟨_, h⟩ := HZ.out.1 hq
            rw [h2] at h; cases h
        have HQ := hid hq
        clear hq HZ
        go_enter Tryz.func114, Tryz.ntmps114
        go_wp2_with fail
        refine HC.out.mono ?_
        rintro e w' ⟨rfl, rfl⟩
        go_wp2_with fail
        go_ret
        exact ⟨ret_bool (by rw [HQ.out]; rfl), rfl⟩
      · have h3 : ((s[0].toNat : Int) != 48) = false := by rw [bne, h2]; rfl
        have HQ := hid (HZ.out.2 ⟨h1, h2⟩)
        clear HZ
        go_enter Tryz.func114, Tryz.ntmps114
        go_wp2_with fail
        refine HC.out.mono ?_
        rintro e w' ⟨rfl, rfl⟩
        go_wp2_with fail
        go_ret
        exact ⟨ret_bool (by rw [HQ.out]; rfl), rfl⟩
    · have hl : ((s.size : Int) == 1) = true := by rw [beq_iff_eq]; omega
      have hq : zero s.data.toList = false := by
        cases hq : zero s.data.toList
        · rfl
        · obtain ⟨h, _⟩ := HZ.out.1 hq
          exact absurd h h1
      have HQ := hid hq
      clear hq HZ
      go_enter Tryz.func114, Tryz.ntmps114
      go_wp2_with fail
      refine HC.out.mono ?_
      rintro e w' ⟨rfl, rfl⟩
      go_wp2_with fail
      go_ret
      exact ⟨ret_bool (by rw [HQ.out]; rfl), rfl⟩
set_option maxHeartbeats 400000 in
theorem num_text (s : ByteArray) (aT aB : Addr) (m : Int) (w : World) (hs : s.size ≤ maxLen) (S : Vs w aT aB m) (hz : (digs s.data.toList && !zero s.data.toList) = false) :
    Calls Tryz.prog 187 #[.string s] w fun e w' => e = .returned (.tuple #[.int .i64 0, .iface 291 (.pointer (some aT))]) ∧ Below w.heap.size w w' := by
  have HC := hid (numeral_any s w hs)
  rw [hz] at HC
  unfold maxLen at hs
  have g := S.t
  clear S hz
  go_enter Tryz.func187, Tryz.ntmps187
  go_wp2_with fail
  refine HC.out.mono ?_
  rintro e w' ⟨rfl, rfl⟩
  go_wp2_with fail
  go_quiet (fail)
  go_wp2_with fail
  go_ret2
  exact ⟨rfl, below_drawn _ _⟩
set_option maxHeartbeats 1000000 in
theorem num_ok (s : ByteArray) (aT aB : Addr) (m : Int) (w : World) (hs : s.size ≤ maxLen) (S : Vs w aT aB m) (hz : digs s.data.toList = true) (h0 : zero s.data.toList = false) :
    Calls Tryz.prog 187 #[.string s] w fun e w' => e = .returned (.tuple #[.int .i64 (num s.data.toList).1, errV aT aB (num s.data.toList).2]) ∧ Below w.heap.size w w' := by
  have had : allDig s.data.toList = true := by unfold digs at hz; simp at hz; exact hz.2
  have HN : Hid ((numTo 0 s.data.toList ≤ 999999 → num s.data.toList = (numTo 0 s.data.toList, 0)) ∧ (¬ numTo 0 s.data.toList ≤ 999999 → num s.data.toList = (0, 2))) :=
    ⟨fun h => by simp [num, hz, h0, h], fun h => by simp [num, hz, h0, h]⟩
  have HC := hid (numeral_any s w hs)
  rw [hz, h0] at HC
  unfold maxLen at hs
  have g := S.b
  clear S h0 hz
  go_enter Tryz.func187, Tryz.ntmps187
  go_wp2_with fail
  refine HC.out.mono ?_
  rintro e w' ⟨rfl, rfl⟩
  go_wp2_with fail
  go_loop [4, 12] (fun n i => ∃ k : Nat, k ≤ s.size ∧ i = .int .i64 k ∧ n = .int .i64 (numTo 0 (s.data.toList.take k))) (fun _ i => s.size - (intOf i).toNat)
  case atStart => exact ⟨0, Nat.zero_le _, rfl, rfl⟩
  case round =>
    obtain ⟨k, hk, rfl, rfl⟩ := hrel
    obtain ⟨b0, b1⟩ := numTo_bd _ (dig_take s had k)
    by_cases hlt : k < s.size
    · obtain ⟨d0, d1⟩ := dig_at s had k hlt
      have HS := hid (numTo_snoc 0 (s.data.toList.take k) s[k])
      rw [← take_snoc s k hlt] at HS
      generalize hn : numTo 0 (s.data.toList.take k) = n at *
      clear hn
      go_wp2_with fail
      refine ⟨⟨k + 1, by omega, by go_num, ?_⟩, by simp [intOf]; omega⟩
      rw [HS.out]
      first | done | (congr 1; split <;> omega) | (congr 1; omega)
    · have hk2 : s.data.toList.take k = s.data.toList := List.take_of_length_le (by simp; omega)
      rw [hk2] at b0 b1 ⊢
      by_cases hb : numTo 0 s.data.toList ≤ 999999
      · have HF := hid (HN.out.1 hb)
        generalize hn : numTo 0 s.data.toList = n at *
        clear hn hk2
        go_wp2_with fail
        go_ret2
        exact ⟨by rw [HF.out]; rfl, Below.refl _ _⟩
      · have HF := hid (HN.out.2 (by omega))
        generalize hn : numTo 0 s.data.toList = n at *
        clear hn hk2
        go_wp2_with fail
        go_quiet (fail)
        go_wp2_with fail
        go_ret2
        exact ⟨by rw [HF.out]; rfl, below_drawn _ _⟩
theorem num_any (s : ByteArray) (aT aB : Addr) (m : Int) (w : World) (hs : s.size ≤ maxLen) (S : Vs w aT aB m) :
    Calls Tryz.prog 187 #[.string s] w fun e w' => e = .returned (.tuple #[.int .i64 (num s.data.toList).1, errV aT aB (num s.data.toList).2]) ∧ Below w.heap.size w w' := by
  cases hz : digs s.data.toList
  · have e : num s.data.toList = (0, 1) := by simp [num, hz]
    rw [e]; exact num_text s aT aB m w hs S (by rw [hz]; rfl)
  · cases h0 : zero s.data.toList
    · exact num_ok s aT aB m w hs S hz h0
    · have e : num s.data.toList = (0, 1) := by simp [num, h0]
      rw [e]; exact num_text s aT aB m w hs S (by rw [hz, h0]; rfl)
set_option maxHeartbeats 400000 in
theorem part_any (s : ByteArray) (aT aB : Addr) (m : Int) (w : World) (hs : s.size ≤ maxLen) (S : Vs w aT aB m) :
    Calls Tryz.prog 192 #[.string s] w fun e w' => e = .returned (errV aT aB (part s.data.toList)) ∧ Below w.heap.size w w' := by
  have HP := hid (show part s.data.toList = if s.size < 1 ∨ 8 < s.size ∨ allPar s.data.toList = false then 1 else if digs s.data.toList = false then 0 else (num s.data.toList).2 by unfold part; rw [len_eq])
  have HS := hid S
  have HE := hid (every_par s w hs)
  have HD := hid (digits_any s w hs)
  have HN := hid (num_any s aT aB m w hs S)
  have HR := hid (num_err s.data.toList)
  unfold maxLen at hs
  have g := S.t
  clear S
  by_cases h1 : s.size < 1
  · rw [if_pos (Or.inl h1)] at HP
    go_enter Tryz.func192, Tryz.ntmps192
    go_wp2_with fail
    go_ret
    exact ⟨by rw [HP.out]; rfl, Below.refl _ _⟩
  · by_cases h2 : 8 < s.size
    · rw [if_pos (Or.inr (Or.inl h2))] at HP
      go_enter Tryz.func192, Tryz.ntmps192
      go_wp2_with fail
      go_ret
      exact ⟨by rw [HP.out]; rfl, Below.refl _ _⟩
    · cases h3 : allPar s.data.toList
      · rw [if_pos (Or.inr (Or.inr h3))] at HP
        rw [h3] at HE
        clear h3
        go_enter Tryz.func192, Tryz.ntmps192
        go_wp2_with fail
        refine HE.out.mono ?_
        rintro e w' ⟨rfl, rfl⟩
        go_wp2_with fail
        go_ret
        exact ⟨by rw [HP.out]; rfl, Below.refl _ _⟩
      · rw [h3] at HE
        rw [if_neg (by rintro (h | h | h) <;> simp_all)] at HP
        clear h3
        cases h4 : digs s.data.toList
        · rw [if_pos h4] at HP
          rw [h4] at HD
          clear h4
          go_enter Tryz.func192, Tryz.ntmps192
          go_wp2_with fail
          refine HE.out.mono ?_
          rintro e w' ⟨rfl, rfl⟩
          go_wp2_with fail
          refine HD.out.mono ?_
          rintro e w' ⟨rfl, rfl⟩
          go_wp2_with fail
          go_ret
          exact ⟨by rw [HP.out]; rfl, Below.refl _ _⟩
        · rw [if_neg (by rw [h4]; simp)] at HP
          rw [h4] at HD
          clear h4
          generalize hq : num s.data.toList = q at *
          clear hq
          obtain ⟨q1, q2⟩ := q
          rcases HR.out with h | h | h
          all_goals
            dsimp only at h
            subst h
            go_enter Tryz.func192, Tryz.ntmps192
            go_wp2_with fail
            refine HE.out.mono ?_
            rintro e w' ⟨rfl, rfl⟩
            go_wp2_with fail
            refine HD.out.mono ?_
            rintro e w' ⟨rfl, rfl⟩
            go_wp2_with fail
            refine HN.out.mono ?_
            rintro e w' ⟨rfl, hb⟩
            have HB := hid hb
            clear hb
            go_wp2_with fail
            go_ret
            exact ⟨by rw [HP.out]; rfl, HB.out⟩
end Ve
end Go.Proofs.YtpafkniapacfdaaGreatDoor


namespace Go.Proofs.YtpafkniapacfdaaGreatDoor
namespace Ve
abbrev Bm := ByteArray × ByteArray
def bt (l : List UInt8) : ByteArray := ⟨l.toArray⟩
theorem bt_list (l : List UInt8) : (bt l).data.toList = l := by simp [bt]
theorem bt_of (a : ByteArray) : bt a.data.toList = a := by cases a; simp [bt]
theorem cut_not {c : UInt8} : ∀ {a : List UInt8}, c ∉ a → cutAt c a = [a]
  | [], _ => rfl
  | x :: a, h => by
    have h1 : x ≠ c := fun e => h (by rw [e]; exact List.mem_cons_self)
    have h2 := cut_not (c := c) (a := a) (fun e => h (List.mem_cons_of_mem _ e))
    unfold cutAt
    rw [if_neg h1, h2]; rfl
theorem cut_at {c : UInt8} (b : List UInt8) : ∀ {a : List UInt8}, c ∉ a → cutAt c (a ++ c :: b) = a :: cutAt c b
  | [], _ => by simp [cutAt]
  | x :: a, h => by
    have h1 : x ≠ c := fun e => h (by rw [e]; exact List.mem_cons_self)
    have h2 := cut_at b (c := c) (a := a) (fun e => h (List.mem_cons_of_mem _ e))
    rw [List.cons_append, cutAt, if_neg h1, h2]; rfl
end Ve
end Go.Proofs.YtpafkniapacfdaaGreatDoor


namespace Go.Proofs.YtpafkniapacfdaaGreatDoor
open Go.RowKit
namespace Ve
def linesL : List UInt8 → List (List UInt8)
  | [] => []
  | b :: l => if b = 10 then [10] :: linesL l else ahead b (linesL l)
theorem lines_none : ∀ l : List UInt8, l ≠ [] → Lib.indexByte l 10 = -1 → linesL l = [l]
  | [], h, _ => absurd rfl h
  | b :: l, _, h => by
    have hge := Lib.indexByte_ge l 10
    unfold Lib.indexByte at h
    by_cases hb : b = 10
    · subst hb; simp at h
    · have e1 : (b == 10) = false := beq_eq_false_iff_ne.2 hb
      rw [e1] at h
      have e2 : Lib.indexByte l 10 = -1 := by
        by_cases e : Lib.indexByte l 10 = -1
        · exact e
        · have e3 : (Lib.indexByte l 10 == -1) = false := beq_eq_false_iff_ne.2 e
          rw [e3] at h
          simp at h
          omega
      unfold linesL
      rw [if_neg hb]
      cases l with
      | nil => rfl
      | cons c r => rw [lines_none (c :: r) (by simp) e2]; rfl
theorem lines_some : ∀ (l : List UInt8) (i : Nat), Lib.indexByte l 10 = (i : Int) → i < l.length ∧ linesL l = l.take (i + 1) :: linesL (l.drop (i + 1))
  | [], i, h => by unfold Lib.indexByte at h; omega
  | b :: l, i, h => by
    have hge := Lib.indexByte_ge l 10
    unfold Lib.indexByte at h
    by_cases hb : b = 10
    · subst hb
      have : i = 0 := by simp at h; omega
      subst this
      exact ⟨by simp, by simp [linesL]⟩
    · have e1 : (b == 10) = false := beq_eq_false_iff_ne.2 hb
      rw [e1] at h
      by_cases e : Lib.indexByte l 10 = -1
      · rw [e] at h; simp at h
      · have e3 : (Lib.indexByte l 10 == -1) = false := beq_eq_false_iff_ne.2 e
        rw [e3] at h
        simp at h
        obtain ⟨k, rfl⟩ : ∃ k, i = k + 1 := ⟨i - 1, by omega⟩
        obtain ⟨h1, h2⟩ := lines_some l k (by omega)
        refine ⟨by simp; omega, ?_⟩
        show linesL (b :: l) = (b :: l.take (k + 1)) :: linesL (l.drop (k + 1))
        rw [linesL, if_neg hb, h2]
        rfl
theorem lines_len : ∀ l : List UInt8, (linesL l).length ≤ l.length
  | [] => Nat.le_refl _
  | b :: l => by
    have ih := lines_len l
    unfold linesL
    split
    · simp; omega
    · cases h : linesL l with
      | nil => simp [ahead]
      | cons x r => rw [h] at ih; simp [ahead] at ih ⊢; omega
theorem lines_sz : ∀ (l t : List UInt8), t ∈ linesL l → t.length ≤ l.length
  | [], t, h => by simp [linesL] at h
  | b :: l, t, h => by
    unfold linesL at h
    by_cases hb : b = 10
    · rw [if_pos hb] at h
      rcases List.mem_cons.1 h with h | h
      · subst h; simp
      · have := lines_sz l t h; simp; omega
    · rw [if_neg hb] at h
      cases hl : linesL l with
      | nil => rw [hl] at h; simp [ahead] at h; subst h; simp
      | cons x r =>
        rw [hl] at h
        simp only [ahead, List.mem_cons] at h
        rcases h with h | h
        · subst h
          have := lines_sz l x (by rw [hl]; simp)
          simp; omega
        · have := lines_sz l t (by rw [hl]; simp [h])
          simp; omega
end Ve
end Go.Proofs.YtpafkniapacfdaaGreatDoor


namespace Go.Proofs
open Go.Shelf
def Tryz.lays169_ren : Go.Shelf.Ren := ⟨fun | 169 => 38 | n => n, fun | 70 => 76 | 9 => 9 | 0 => 0 | 72 => 79 | 37 => 77 | 127 => 123 | 3 => 3 | 5 => 5 | n => n, fun | n => n⟩
theorem Tryz.lays169 : Go.Proofs.Lays.n169 Tryz.prog Tryz.lays169_ren := {
  mixed := by kernel_rfl
  f169 := Tryz.func38.trans (congrArg some (by kernel_rfl))
  t0 := Tryz.underlying0
  a0 := Tryz.isAgg0
  z0 := Tryz.sizeOf0
  v0 := Tryz.zeroValue0
  t3 := Tryz.underlying3
  a3 := Tryz.isAgg3
  z3 := Tryz.sizeOf3
  v3 := Tryz.zeroValue3
  t9 := Tryz.underlying9
  a9 := Tryz.isAgg9
  z9 := Tryz.sizeOf9
  v9 := Tryz.zeroValue9
  t37 := Tryz.underlying77
  a37 := Tryz.isAgg77
  z37 := Tryz.sizeOf77
  v37 := Tryz.zeroValue77
  t70 := Tryz.underlying76
  a70 := Tryz.isAgg76
  z70 := Tryz.sizeOf76
  v70 := Tryz.zeroValue76
  t72 := Tryz.underlying79
  a72 := Tryz.isAgg79
  z72 := Tryz.sizeOf79
  v72 := Tryz.zeroValue79
  t127 := Tryz.underlying123
  a127 := Tryz.isAgg123
  z127 := Tryz.sizeOf123
  v127 := Tryz.zeroValue123 }
theorem Tryz.Builder_Extra_169 : Builder.Extra Tryz.prog Tryz.lays169_ren := {
  sizeBuilder := by kernel_rfl
  liesBuilder := by kernel_rfl
  t5 := Tryz.underlying5
  a5 := Tryz.isAgg5
  z5 := Tryz.sizeOf5
  v5 := Tryz.zeroValue5
  infoByte := by kernel_rfl
  cellsByte := by kernel_rfl
  sizeByte := by kernel_rfl
  neB5 := by decide }
open Go.RowKit in
theorem Tryz.Builder_String_any (B b : Nat) (l : List UInt8) (w : World) (h : Lib.IsBuilder 79 5 B b (Lib.byteCells l) w) (hBw : B ≤ w.heap.size) :
    Calls Tryz.prog 38 #[.pointer (some ⟨b, 0, none⟩)] w fun e w' => e = .returned (.string ⟨l.toArray⟩) ∧ Below B w w' := Any.Builder_String_any Tryz.lays169 Tryz.Builder_Extra_169 B b l w h hBw
end Go.Proofs


namespace Go.Proofs
open Go.Shelf
def Tryz.lays190_ren : Go.Shelf.Ren := ⟨fun | 190 => 221 | 125 => 130 | 258 => 248 | 128 => 175 | 129 => 176 | 302 => 257 | 303 => 258 | 304 => 259 | 305 => 260 | 306 => 261 | 307 => 262 | 308 => 263 | 309 => 264 | 310 => 265 | 333 => 269 | 329 => 216 | 330 => 217 | 334 => 270 | 335 => 271 | 336 => 272 | 344 => 274 | n => n, fun | 31 => 53 | 9 => 9 | 3 => 3 | 46 => 136 | 0 => 0 | 51 => 24 | 53 => 122 | 4 => 4 | 183 => 229 | 182 => 228 | 131 => 233 | 5 => 5 | 218 => 259 | 222 => 263 | 228 => 278 | 229 => 92 | n => n, fun | n => n⟩
theorem Tryz.lays190 : Go.Proofs.Lays.n190 Tryz.prog Tryz.lays190_ren := {
  mixed := by kernel_rfl
  f125 := Tryz.func130.trans (congrArg some (by kernel_rfl))
  f128 := Tryz.func175.trans (congrArg some (by kernel_rfl))
  f129 := Tryz.func176.trans (congrArg some (by kernel_rfl))
  f190 := Tryz.func221.trans (congrArg some (by kernel_rfl))
  f258 := Tryz.func248.trans (congrArg some (by kernel_rfl))
  f302 := Tryz.func257.trans (congrArg some (by kernel_rfl))
  f303 := Tryz.func258.trans (congrArg some (by kernel_rfl))
  f304 := Tryz.func259.trans (congrArg some (by kernel_rfl))
  f305 := Tryz.func260.trans (congrArg some (by kernel_rfl))
  f306 := Tryz.func261.trans (congrArg some (by kernel_rfl))
  f307 := Tryz.func262.trans (congrArg some (by kernel_rfl))
  f308 := Tryz.func263.trans (congrArg some (by kernel_rfl))
  f309 := Tryz.func264.trans (congrArg some (by kernel_rfl))
  f310 := Tryz.func265.trans (congrArg some (by kernel_rfl))
  f329 := Tryz.func216.trans (congrArg some (by kernel_rfl))
  f330 := Tryz.func217.trans (congrArg some (by kernel_rfl))
  f333 := Tryz.func269.trans (congrArg some (by kernel_rfl))
  f334 := Tryz.func270.trans (congrArg some (by kernel_rfl))
  f335 := Tryz.func271.trans (congrArg some (by kernel_rfl))
  f336 := Tryz.func272.trans (congrArg some (by kernel_rfl))
  f344 := Tryz.func274.trans (congrArg some (by kernel_rfl))
  t0 := Tryz.underlying0
  a0 := Tryz.isAgg0
  z0 := Tryz.sizeOf0
  v0 := Tryz.zeroValue0
  t3 := Tryz.underlying3
  a3 := Tryz.isAgg3
  z3 := Tryz.sizeOf3
  v3 := Tryz.zeroValue3
  t4 := Tryz.underlying4
  a4 := Tryz.isAgg4
  z4 := Tryz.sizeOf4
  v4 := Tryz.zeroValue4
  t5 := Tryz.underlying5
  a5 := Tryz.isAgg5
  z5 := Tryz.sizeOf5
  v5 := Tryz.zeroValue5
  t9 := Tryz.underlying9
  a9 := Tryz.isAgg9
  z9 := Tryz.sizeOf9
  v9 := Tryz.zeroValue9
  t31 := Tryz.underlying53
  a31 := Tryz.isAgg53
  z31 := Tryz.sizeOf53
  v31 := Tryz.zeroValue53
  t46 := Tryz.underlying136
  a46 := Tryz.isAgg136
  z46 := Tryz.sizeOf136
  v46 := Tryz.zeroValue136
  t51 := Tryz.underlying24
  a51 := Tryz.isAgg24
  z51 := Tryz.sizeOf24
  v51 := Tryz.zeroValue24
  t53 := Tryz.underlying122
  a53 := Tryz.isAgg122
  z53 := Tryz.sizeOf122
  v53 := Tryz.zeroValue122
  t131 := Tryz.underlying233
  a131 := Tryz.isAgg233
  z131 := Tryz.sizeOf233
  v131 := Tryz.zeroValue233
  t182 := Tryz.underlying228
  a182 := Tryz.isAgg228
  z182 := Tryz.sizeOf228
  v182 := Tryz.zeroValue228
  t183 := Tryz.underlying229
  a183 := Tryz.isAgg229
  z183 := Tryz.sizeOf229
  v183 := Tryz.zeroValue229
  t218 := Tryz.underlying259
  a218 := Tryz.isAgg259
  z218 := Tryz.sizeOf259
  v218 := Tryz.zeroValue259
  t222 := Tryz.underlying263
  a222 := Tryz.isAgg263
  z222 := Tryz.sizeOf263
  v222 := Tryz.zeroValue263
  t228 := Tryz.underlying278
  a228 := Tryz.isAgg278
  z228 := Tryz.sizeOf278
  v228 := Tryz.zeroValue278
  t229 := Tryz.underlying92
  a229 := Tryz.isAgg92
  z229 := Tryz.sizeOf92
  v229 := Tryz.zeroValue92 }
open Go.Sort Go.RowKit in
theorem Tryz.slices_Sort_string (blk off cap : Nat) (ss : List (List UInt8)) (w : World) (hH : Holds encStr w blk off ss.toArray) (hblk : blk < w.heap.size) (hsz : ss.length < 4611686018427387904) :
    Calls Tryz.prog 221 #[.slice (some ⟨blk, off, none⟩) ss.length cap] w fun e w' =>
      e = .returned (.tuple #[]) ∧ ∃ n os, w' = grow (putRow encStr (Sort.ahead w n) blk off (ss.mergeSort fun x y => decide (x ≤ y)).toArray) os := Any.slices_Sort_string Tryz.lays190 blk off cap ss w hH hblk hsz
def Tryz.lays193_ren : Go.Shelf.Ren := ⟨fun | 193 => 137 | n => n, fun | 31 => 53 | 9 => 9 | 4 => 4 | 3 => 3 | 0 => 0 | n => n, fun | n => n⟩
theorem Tryz.lays193 : Go.Proofs.Lays.n193 Tryz.prog Tryz.lays193_ren := {
  mixed := by kernel_rfl
  f193 := Tryz.func137.trans (congrArg some (by kernel_rfl))
  t0 := Tryz.underlying0
  a0 := Tryz.isAgg0
  z0 := Tryz.sizeOf0
  v0 := Tryz.zeroValue0
  t3 := Tryz.underlying3
  a3 := Tryz.isAgg3
  z3 := Tryz.sizeOf3
  v3 := Tryz.zeroValue3
  t4 := Tryz.underlying4
  a4 := Tryz.isAgg4
  z4 := Tryz.sizeOf4
  v4 := Tryz.zeroValue4
  t9 := Tryz.underlying9
  a9 := Tryz.isAgg9
  z9 := Tryz.sizeOf9
  v9 := Tryz.zeroValue9
  t31 := Tryz.underlying53
  a31 := Tryz.isAgg53
  z31 := Tryz.sizeOf53
  v31 := Tryz.zeroValue53 }
open Go.RowKit Go.Lib in
theorem Tryz.slices_Equal_string (b1 o1 n c b2 o2 m d : Nat) (xs ys : List ByteArray) (w : World) (hx : n ≤ xs.length) (hy : m ≤ ys.length) (hbig : n ≤ 9223372036854775807) (hbig2 : m ≤ 9223372036854775807) (hc1 : ∀ j, j < xs.length → w.cell? ⟨b1, o1 + j, none⟩ = some (.string (xs.getD j ByteArray.empty))) (hc2 : ∀ j, j < ys.length → w.cell? ⟨b2, o2 + j, none⟩ = some (.string (ys.getD j ByteArray.empty))) :
    Calls Tryz.prog 137 #[.slice (some ⟨b1, o1, none⟩) n c, .slice (some ⟨b2, o2, none⟩) m d] w fun e w' => e = .returned (.bool (decide (xs.take n = ys.take m))) ∧ ∃ q, w' = w.drewN q := Any.slices_Equal_string Tryz.lays193 b1 o1 n c b2 o2 m d xs ys w hx hy hbig hbig2 hc1 hc2
open Go.RowKit Go.Lib in
theorem Tryz.slices_Equal_string_empty (a1 a2 : Option Addr) (c m d : Nat) (w : World) (hbig2 : m ≤ 9223372036854775807) :
    Calls Tryz.prog 137 #[.slice a1 0 c, .slice a2 m d] w fun e w' => e = .returned (.bool (decide (m = 0))) ∧ w' = w := Any.slices_Equal_string_empty Tryz.lays193 a1 a2 c m d w hbig2
def Tryz.lays194_ren : Go.Shelf.Ren := ⟨fun | 194 => 180 | n => n, fun | 31 => 53 | 9 => 9 | 3 => 3 | 4 => 4 | 0 => 0 | n => n, fun | n => n⟩
theorem Tryz.lays194 : Go.Proofs.Lays.n194 Tryz.prog Tryz.lays194_ren := {
  mixed := by kernel_rfl
  f194 := Tryz.func180.trans (congrArg some (by kernel_rfl))
  t0 := Tryz.underlying0
  a0 := Tryz.isAgg0
  z0 := Tryz.sizeOf0
  v0 := Tryz.zeroValue0
  t3 := Tryz.underlying3
  a3 := Tryz.isAgg3
  z3 := Tryz.sizeOf3
  v3 := Tryz.zeroValue3
  t4 := Tryz.underlying4
  a4 := Tryz.isAgg4
  z4 := Tryz.sizeOf4
  v4 := Tryz.zeroValue4
  t9 := Tryz.underlying9
  a9 := Tryz.isAgg9
  z9 := Tryz.sizeOf9
  v9 := Tryz.zeroValue9
  t31 := Tryz.underlying53
  a31 := Tryz.isAgg53
  z31 := Tryz.sizeOf53
  v31 := Tryz.zeroValue53 }
open Go.RowKit Go.Lib Go.Sort in
theorem Tryz.slices_Compact_string (blk off cap : Nat) (zs : List (List UInt8)) (w : World) (hH : Holds encStr w blk off zs.toArray) (hsz : zs.length ≤ 9223372036854775807) (hcap : zs.length ≤ cap) :
    Calls Tryz.prog 180 #[.slice (some ⟨blk, off, none⟩) zs.length cap] w fun e w' => e = .returned (.slice (some ⟨blk, off, none⟩) (Lib.compact zs).length cap) ∧ ∃ q, w' = putRow encStr (Sort.ahead w q) blk off (Lib.compact zs ++ List.replicate (zs.length - (Lib.compact zs).length) []).toArray := Any.slices_Compact_string Tryz.lays194 blk off cap zs w hH hsz hcap
open Go.RowKit Go.Lib Go.Sort in
theorem Tryz.slices_Compact_string_empty (a : Option Addr) (cap : Nat) (w : World) :
    Calls Tryz.prog 180 #[.slice a 0 cap] w fun e w' => e = .returned (.slice a 0 cap) ∧ w' = w := Any.slices_Compact_string_empty Tryz.lays194 a cap w
open Go.RowKit Go.Sort in
theorem Tryz.slices_Sort_string_none (p : Option Addr) (cap : Nat) (w : World) :
    Calls Tryz.prog 221 #[.slice p 0 cap] w fun e w' => e = .returned (.tuple #[]) ∧ w' = w := Any.slices_Sort_string_none Tryz.lays190 p cap w
open Go.RowKit Go.Lib in
theorem Tryz.slices_Equal_string_lens (a1 a2 : Option Addr) (n c m d : Nat) (w : World) (hnm : n ≠ m) :
    Calls Tryz.prog 137 #[.slice a1 n c, .slice a2 m d] w fun e w' => e = .returned (.bool false) ∧ w' = w := Any.slices_Equal_string_lens Tryz.lays193 a1 a2 n c m d w hnm
end Go.Proofs
