/-
  VerB
-/
import Derived.Test.YtnkgjddkdikikaaGreatDoorPq2
import Derived.Test.YtnkgjddkdikikaaGreatDoorPq3
namespace Go.Proofs.YtnkgjddkdikikaaGreatDoor
open Go.RowKit
namespace Ve
structure Vs (w : World) (aT aB : Addr) (m : Int) : Prop where
  t : w.cell? ⟨1, 0, none⟩ = some (.iface 311 (.pointer (some aT)))
  b : w.cell? ⟨4, 0, none⟩ = some (.iface 311 (.pointer (some aB)))
  bt : ∃ c t, w.heap[aT.block]? = some (.cells c t (0, 0))
  bb : ∃ c t, w.heap[aB.block]? = some (.cells c t (0, 0))
  ne : aT ≠ aB
  ml : w.cell? ⟨11, 0, none⟩ = some (.int .i64 m)
theorem lt_of_cell {w : World} {a : Addr} {v : Value} (h : w.cell? a = some v) : a.block < w.heap.size := by
  rcases Nat.lt_or_ge a.block w.heap.size with hh | hh
  · exact hh
  · simp [World.cell?, Array.getElem?_eq_none hh] at h
theorem lt_of_blk {w : World} {b : Nat} {o : Obj} (h : w.heap[b]? = some o) : b < w.heap.size := by
  rcases Nat.lt_or_ge b w.heap.size with hh | hh
  · exact hh
  · rw [Array.getElem?_eq_none hh] at h; cases h
theorem cell_below {w w' : World} {a : Addr} {v : Value} (hb : Below w.heap.size w w') (h : w.cell? a = some v) : w'.cell? a = some v := by
  rw [hb.cell (lt_of_cell h)]; exact h
theorem Vs.below {w w' : World} {aT aB : Addr} {m : Int} (h : Vs w aT aB m) (hb : Below w.heap.size w w') : Vs w' aT aB m := by
  refine ⟨cell_below hb h.t, cell_below hb h.b, ?_, ?_, h.ne, cell_below hb h.ml⟩
  · obtain ⟨c, t, e⟩ := h.bt
    exact ⟨c, t, by rw [hb.block _ (lt_of_blk e)]; exact e⟩
  · obtain ⟨c, t, e⟩ := h.bb
    exact ⟨c, t, by rw [hb.block _ (lt_of_blk e)]; exact e⟩
theorem below_drawn (w : World) (d : Nat) : Below w.heap.size w (w.drewN d) := ⟨rfl, rfl, rfl, Nat.le_refl _, fun _ _ => rfl⟩
def errV (aT aB : Addr) (c : Nat) : Value := if c = 0 then .nilIface else if c = 1 then .iface 311 (.pointer (some aT)) else .iface 311 (.pointer (some aB))
theorem errV0 (aT aB : Addr) : errV aT aB 0 = .nilIface := rfl
theorem errV1 (aT aB : Addr) : errV aT aB 1 = .iface 311 (.pointer (some aT)) := rfl
theorem errV2 (aT aB : Addr) : errV aT aB 2 = .iface 311 (.pointer (some aB)) := rfl
theorem digits_any (s : ByteArray) (w : World) (hs : s.size ≤ maxLen) :
    Calls Tryz.prog 198 #[.string s] w fun e w' => e = .returned (.bool (digs s.data.toList)) ∧ w' = w := by
  have HD := hid (show digs s.data.toList = (decide (0 < s.size) && allDig s.data.toList) by unfold digs; rw [len_eq])
  have HC := hid (every_dig s w hs)
  unfold maxLen at hs
  by_cases h : 0 < s.size
  · go_enter Tryz.func198, Tryz.ntmps198
    go_wp2_with fail
    refine HC.out.mono ?_
    rintro e w' ⟨rfl, rfl⟩
    go_wp2_with fail
    go_ret
    exact ⟨ret_bool (by rw [HD.out]; simp [h]), rfl⟩
  · go_enter Tryz.func198, Tryz.ntmps198
    go_wp2_with fail
    go_ret
    exact ⟨ret_bool (by rw [HD.out]; simp [h]), rfl⟩
theorem compS : (Tryz.prog.info? 311).map (·.comparable) = some true := by kernel_rfl
theorem sizeS : (Tryz.prog.info? 329).map (·.size) = some 1 := by kernel_rfl
theorem worse_any (a b : Nat) (aT aB : Addr) (m : Int) (w : World) (S : Vs w aT aB m) (ha : a = 0 ∨ a = 1 ∨ a = 2) (hb : b = 0 ∨ b = 1 ∨ b = 2) :
    Calls Tryz.prog 67 #[errV aT aB a, errV aT aB b] w fun e w' => e = .returned (errV aT aB (worse a b)) ∧ w' = w := by
  obtain ⟨i, hi, hcmp⟩ := Option.map_eq_some_iff.1 compS
  obtain ⟨j, hj, hjs⟩ := Option.map_eq_some_iff.1 sizeS
  obtain ⟨c1, t1, e1⟩ := S.bt
  obtain ⟨c2, t2, e2⟩ := S.bb
  have q0 := run_eql_iface_nil_left (P := Tryz.prog) w 311 (.pointer (some aT)) Tryz.underlying27
  have q1 := run_eql_iface_ptr_same (P := Tryz.prog) w aT Tryz.underlying27 Tryz.underlying311 hi hcmp hj
  have q2 := run_eql_iface_ptr_other (P := Tryz.prog) w Tryz.underlying27 Tryz.underlying311 hi hcmp hj (by rw [hjs]; decide) S.ne.symm e2 e1
  have g := S.t
  clear S e1 e2 hi hcmp hj hjs
  rcases ha with rfl | rfl | rfl
  · rcases hb with rfl | rfl | rfl
    · show Calls Tryz.prog 67 #[.nilIface, .nilIface] w fun e w' => e = .returned (.nilIface) ∧ w' = w
      go_enter Tryz.func67, Tryz.ntmps67
      go_wp2
      go_ret
      exact ⟨rfl, rfl⟩
    · show Calls Tryz.prog 67 #[.nilIface, .iface 311 (.pointer (some aT))] w fun e w' => e = .returned (.iface 311 (.pointer (some aT))) ∧ w' = w
      go_enter Tryz.func67, Tryz.ntmps67
      go_wp2
      go_ret
      exact ⟨rfl, rfl⟩
    · show Calls Tryz.prog 67 #[.nilIface, .iface 311 (.pointer (some aB))] w fun e w' => e = .returned (.iface 311 (.pointer (some aB))) ∧ w' = w
      go_enter Tryz.func67, Tryz.ntmps67
      go_wp2
      go_ret
      exact ⟨rfl, rfl⟩
  · rcases hb with rfl | rfl | rfl
    · show Calls Tryz.prog 67 #[.iface 311 (.pointer (some aT)), .nilIface] w fun e w' => e = .returned (.iface 311 (.pointer (some aT))) ∧ w' = w
      go_enter Tryz.func67, Tryz.ntmps67
      go_wp2
      go_ret
      exact ⟨rfl, rfl⟩
    · show Calls Tryz.prog 67 #[.iface 311 (.pointer (some aT)), .iface 311 (.pointer (some aT))] w fun e w' => e = .returned (.iface 311 (.pointer (some aT))) ∧ w' = w
      go_enter Tryz.func67, Tryz.ntmps67
      go_wp2
      go_ret
      exact ⟨rfl, rfl⟩
    · show Calls Tryz.prog 67 #[.iface 311 (.pointer (some aT)), .iface 311 (.pointer (some aB))] w fun e w' => e = .returned (.iface 311 (.pointer (some aT))) ∧ w' = w
      go_enter Tryz.func67, Tryz.ntmps67
      go_wp2
      go_ret
      exact ⟨rfl, rfl⟩
  · rcases hb with rfl | rfl | rfl
    · show Calls Tryz.prog 67 #[.iface 311 (.pointer (some aB)), .nilIface] w fun e w' => e = .returned (.iface 311 (.pointer (some aB))) ∧ w' = w
      go_enter Tryz.func67, Tryz.ntmps67
      go_wp2
      go_ret
      exact ⟨rfl, rfl⟩
    · show Calls Tryz.prog 67 #[.iface 311 (.pointer (some aB)), .iface 311 (.pointer (some aT))] w fun e w' => e = .returned (.iface 311 (.pointer (some aT))) ∧ w' = w
      go_enter Tryz.func67, Tryz.ntmps67
      go_wp2
      go_ret
      exact ⟨rfl, rfl⟩
    · show Calls Tryz.prog 67 #[.iface 311 (.pointer (some aB)), .iface 311 (.pointer (some aB))] w fun e w' => e = .returned (.iface 311 (.pointer (some aB))) ∧ w' = w
      go_enter Tryz.func67, Tryz.ntmps67
      go_wp2
      go_ret
      exact ⟨rfl, rfl⟩
theorem dig_at (s : ByteArray) (h : allDig s.data.toList = true) (k : Nat) (hk : k < s.size) : 48 ≤ (s[k].toNat : Int) ∧ (s[k].toNat : Int) ≤ 57 := by
  have h1 := List.all_eq_true.1 h s[k] (by rw [ByteArray.getElem_eq_getElem_data]; exact Array.getElem_mem_toList _)
  simpa [dig, digB] using h1
theorem dig_take (s : ByteArray) (h : allDig s.data.toList = true) (k : Nat) : (s.data.toList.take k).all dig = true := by
  rw [List.all_eq_true]
  intro x hx
  exact List.all_eq_true.1 h x (List.mem_of_mem_take hx)
theorem zero_eq (s : ByteArray) : zero s.data.toList = true ↔ ∃ h : 1 < s.size, ((s[0].toNat : Int) == 48) = true := by
  unfold zero
  rw [len_eq]
  by_cases h : 1 < s.size
  · have e : s.data.toList.headD 0 = s[0] := by
      rw [List.headD_eq_head?_getD, List.head?_eq_getElem?, List.getElem?_eq_getElem (by simp; omega)]; rfl
    rw [e]
    simp only [h, decide_true, Bool.true_and, beq_iff_eq, exists_true_left]
    constructor
    · intro h; rw [h]; rfl
    · intro h
      apply UInt8.toNat_inj.1
      show s[0].toNat = 48
      omega
  · simp [h]
set_option maxHeartbeats 400000 in
theorem numeral_any (s : ByteArray) (w : World) (hs : s.size ≤ maxLen) :
    Calls Tryz.prog 192 #[.string s] w fun e w' => e = .returned (.bool (digs s.data.toList && !zero s.data.toList)) ∧ w' = w := by
  have HC := hid (digits_any s w hs)
  have HZ := hid (zero_eq s)
  have HS : Hid (digs s.data.toList = true → 0 < s.size) := fun h => by unfold digs at h; rw [len_eq] at h; simp at h; omega
  unfold maxLen at hs
  cases hz : digs s.data.toList
  · rw [hz] at HC
    clear hz
    go_enter Tryz.func192, Tryz.ntmps192
    go_wp2_with fail
    refine HC.out.mono ?_
    rintro e w' ⟨rfl, rfl⟩
    go_wp2_with fail
    go_ret
    exact ⟨ret_bool (by simp), rfl⟩
  · have h0 := HS.out hz
    rw [hz] at HC
    clear hz HS
    by_cases h1 : 1 < s.size
    · have hl : ((s.size : Int) == 1) = false := by rw [beq_eq_false_iff_ne]; omega
      cases h2 : ((s[0].toNat : Int) == 48)
      · have h3 : ((s[0].toNat : Int) != 48) = true := by rw [bne, h2]; rfl
        have hq : zero s.data.toList = false := by
          cases hq : zero s.data.toList
          · rfl
          · obtain ⟨_, h⟩ := HZ.out.1 hq
            rw [h2] at h; cases h
        have HQ := hid hq
        clear hq HZ
        go_enter Tryz.func192, Tryz.ntmps192
        go_wp2_with fail
        refine HC.out.mono ?_
        rintro e w' ⟨rfl, rfl⟩
        go_wp2_with fail
        go_ret
        exact ⟨ret_bool (by rw [HQ.out]; rfl), rfl⟩
      · have h3 : ((s[0].toNat : Int) != 48) = false := by rw [bne, h2]; rfl
        have HQ := hid (HZ.out.2 ⟨h1, h2⟩)
        clear HZ
        go_enter Tryz.func192, Tryz.ntmps192
        go_wp2_with fail
        refine HC.out.mono ?_
        rintro e w' ⟨rfl, rfl⟩
        go_wp2_with fail
        go_ret
        exact ⟨ret_bool (by rw [HQ.out]; rfl), rfl⟩
    · have hl : ((s.size : Int) == 1) = true := by rw [beq_iff_eq]; omega
      have hq : zero s.data.toList = false := by
        cases hq : zero s.data.toList
        · rfl
        · obtain ⟨h, _⟩ := HZ.out.1 hq
          exact absurd h h1
      have HQ := hid hq
      clear hq HZ
      go_enter Tryz.func192, Tryz.ntmps192
      go_wp2_with fail
      refine HC.out.mono ?_
      rintro e w' ⟨rfl, rfl⟩
      go_wp2_with fail
      go_ret
      exact ⟨ret_bool (by rw [HQ.out]; rfl), rfl⟩
set_option maxHeartbeats 400000 in
theorem num_text (s : ByteArray) (aT aB : Addr) (m : Int) (w : World) (hs : s.size ≤ maxLen) (S : Vs w aT aB m) (hz : (digs s.data.toList && !zero s.data.toList) = false) :
    Calls Tryz.prog 131 #[.string s] w fun e w' => e = .returned (.tuple #[.int .i64 0, .iface 311 (.pointer (some aT))]) ∧ Below w.heap.size w w' := by
  have HC := hid (numeral_any s w hs)
  rw [hz] at HC
  unfold maxLen at hs
  have g := S.t
  clear S hz
  go_enter Tryz.func131, Tryz.ntmps131
  go_wp2_with fail
  refine HC.out.mono ?_
  rintro e w' ⟨rfl, rfl⟩
  go_wp2_with fail
  go_quiet (fail)
  go_wp2_with fail
  go_ret2
  exact ⟨rfl, below_drawn _ _⟩
set_option maxHeartbeats 1000000 in
theorem num_ok (s : ByteArray) (aT aB : Addr) (m : Int) (w : World) (hs : s.size ≤ maxLen) (S : Vs w aT aB m) (hz : digs s.data.toList = true) (h0 : zero s.data.toList = false) :
    Calls Tryz.prog 131 #[.string s] w fun e w' => e = .returned (.tuple #[.int .i64 (num s.data.toList).1, errV aT aB (num s.data.toList).2]) ∧ Below w.heap.size w w' := by
  have had : allDig s.data.toList = true := by unfold digs at hz; simp at hz; exact hz.2
  have HN : Hid ((numTo 0 s.data.toList ≤ 999999 → num s.data.toList = (numTo 0 s.data.toList, 0)) ∧ (¬ numTo 0 s.data.toList ≤ 999999 → num s.data.toList = (0, 2))) :=
    ⟨fun h => by simp [num, hz, h0, h], fun h => by simp [num, hz, h0, h]⟩
  have HC := hid (numeral_any s w hs)
  rw [hz, h0] at HC
  unfold maxLen at hs
  have g := S.b
  clear S h0 hz
  go_enter Tryz.func131, Tryz.ntmps131
  go_wp2_with fail
  refine HC.out.mono ?_
  rintro e w' ⟨rfl, rfl⟩
  go_wp2_with fail
  go_loop [4, 12] (fun n i => ∃ k : Nat, k ≤ s.size ∧ i = .int .i64 k ∧ n = .int .i64 (numTo 0 (s.data.toList.take k))) (fun _ i => s.size - (intOf i).toNat)
  case atStart => exact ⟨0, Nat.zero_le _, rfl, rfl⟩
  case round =>
    obtain ⟨k, hk, rfl, rfl⟩ := hrel
    obtain ⟨b0, b1⟩ := numTo_bd _ (dig_take s had k)
    by_cases hlt : k < s.size
    · obtain ⟨d0, d1⟩ := dig_at s had k hlt
      have HS := hid (numTo_snoc 0 (s.data.toList.take k) s[k])
      rw [← take_snoc s k hlt] at HS
      generalize hn : numTo 0 (s.data.toList.take k) = n at *
      clear hn
      go_wp2_with fail
      refine ⟨⟨k + 1, by omega, by go_num, ?_⟩, by simp [intOf]; omega⟩
      rw [HS.out]
      first | done | (congr 1; split <;> omega) | (congr 1; omega)
    · have hk2 : s.data.toList.take k = s.data.toList := List.take_of_length_le (by simp; omega)
      rw [hk2] at b0 b1 ⊢
      by_cases hb : numTo 0 s.data.toList ≤ 999999
      · have HF := hid (HN.out.1 hb)
        generalize hn : numTo 0 s.data.toList = n at *
        clear hn hk2
        go_wp2_with fail
        go_ret2
        exact ⟨by rw [HF.out]; rfl, Below.refl _ _⟩
      · have HF := hid (HN.out.2 (by omega))
        generalize hn : numTo 0 s.data.toList = n at *
        clear hn hk2
        go_wp2_with fail
        go_quiet (fail)
        go_wp2_with fail
        go_ret2
        exact ⟨by rw [HF.out]; rfl, below_drawn _ _⟩
theorem num_any (s : ByteArray) (aT aB : Addr) (m : Int) (w : World) (hs : s.size ≤ maxLen) (S : Vs w aT aB m) :
    Calls Tryz.prog 131 #[.string s] w fun e w' => e = .returned (.tuple #[.int .i64 (num s.data.toList).1, errV aT aB (num s.data.toList).2]) ∧ Below w.heap.size w w' := by
  cases hz : digs s.data.toList
  · have e : num s.data.toList = (0, 1) := by simp [num, hz]
    rw [e]; exact num_text s aT aB m w hs S (by rw [hz]; rfl)
  · cases h0 : zero s.data.toList
    · exact num_ok s aT aB m w hs S hz h0
    · have e : num s.data.toList = (0, 1) := by simp [num, h0]
      rw [e]; exact num_text s aT aB m w hs S (by rw [hz, h0]; rfl)
set_option maxHeartbeats 400000 in
theorem part_any (s : ByteArray) (aT aB : Addr) (m : Int) (w : World) (hs : s.size ≤ maxLen) (S : Vs w aT aB m) :
    Calls Tryz.prog 133 #[.string s] w fun e w' => e = .returned (errV aT aB (part s.data.toList)) ∧ Below w.heap.size w w' := by
  have HP := hid (show part s.data.toList = if s.size < 1 ∨ 8 < s.size ∨ allPar s.data.toList = false then 1 else if digs s.data.toList = false then 0 else (num s.data.toList).2 by unfold part; rw [len_eq])
  have HS := hid S
  have HE := hid (every_par s w hs)
  have HD := hid (digits_any s w hs)
  have HN := hid (num_any s aT aB m w hs S)
  have HR := hid (num_err s.data.toList)
  unfold maxLen at hs
  have g := S.t
  clear S
  by_cases h1 : s.size < 1
  · rw [if_pos (Or.inl h1)] at HP
    go_enter Tryz.func133, Tryz.ntmps133
    go_wp2_with fail
    go_ret
    exact ⟨by rw [HP.out]; rfl, Below.refl _ _⟩
  · by_cases h2 : 8 < s.size
    · rw [if_pos (Or.inr (Or.inl h2))] at HP
      go_enter Tryz.func133, Tryz.ntmps133
      go_wp2_with fail
      go_ret
      exact ⟨by rw [HP.out]; rfl, Below.refl _ _⟩
    · cases h3 : allPar s.data.toList
      · rw [if_pos (Or.inr (Or.inr h3))] at HP
        rw [h3] at HE
        clear h3
        go_enter Tryz.func133, Tryz.ntmps133
        go_wp2_with fail
        refine HE.out.mono ?_
        rintro e w' ⟨rfl, rfl⟩
        go_wp2_with fail
        go_ret
        exact ⟨by rw [HP.out]; rfl, Below.refl _ _⟩
      · rw [h3] at HE
        rw [if_neg (by rintro (h | h | h) <;> simp_all)] at HP
        clear h3
        cases h4 : digs s.data.toList
        · rw [if_pos h4] at HP
          rw [h4] at HD
          clear h4
          go_enter Tryz.func133, Tryz.ntmps133
          go_wp2_with fail
          refine HE.out.mono ?_
          rintro e w' ⟨rfl, rfl⟩
          go_wp2_with fail
          refine HD.out.mono ?_
          rintro e w' ⟨rfl, rfl⟩
          go_wp2_with fail
          go_ret
          exact ⟨by rw [HP.out]; rfl, Below.refl _ _⟩
        · rw [if_neg (by rw [h4]; simp)] at HP
          rw [h4] at HD
          clear h4
          generalize hq : num s.data.toList = q at *
          clear hq
          obtain ⟨q1, q2⟩ := q
          rcases HR.out with h | h | h
          all_goals
            dsimp only at h
            subst h
            go_enter Tryz.func133, Tryz.ntmps133
            go_wp2_with fail
            refine HE.out.mono ?_
            rintro e w' ⟨rfl, rfl⟩
            go_wp2_with fail
            refine HD.out.mono ?_
            rintro e w' ⟨rfl, rfl⟩
            go_wp2_with fail
            refine HN.out.mono ?_
            rintro e w' ⟨rfl, hb⟩
            have HB := hid hb
            clear hb
            go_wp2_with fail
            go_ret
            exact ⟨by rw [HP.out]; rfl, HB.out⟩
end Ve
end Go.Proofs.YtnkgjddkdikikaaGreatDoor
