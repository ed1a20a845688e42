/-
  Plain functions on lists of bytes: what package ver's readers compute. No Go here.
-/
import Derived.Below
import Derived.Test.YtmgpbejekglipabGreatDoorProg
import Derived.WalkKit
import Derived.LaidEql
import Derived.Stop.Asserts
import Derived.RowKitTokens
import Derived.Deep.QuietTactic
import Derived.BigQuiet
namespace Go.Proofs.YtmgpbejekglipabGreatDoor
namespace Ve

/-- A byte that is a digit; one that a part may hold (as numbers). -/
def digB (c : Int) : Bool := decide (48 ≤ c ∧ c ≤ 57)
def parB (c : Int) : Bool := digB c || decide (97 ≤ c ∧ c ≤ 122) || decide (65 ≤ c ∧ c ≤ 90) || c == 45
def dig (c : UInt8) : Bool := digB (c.toNat : Int)
def par (c : UInt8) : Bool := parB (c.toNat : Int)
def allDig (l : List UInt8) : Bool := l.all dig
def allPar (l : List UInt8) : Bool := l.all par
/-- Digits alone, one at least. -/
def digs (l : List UInt8) : Bool := decide (0 < l.length) && allDig l
/-- The number, held just above the bound. -/
def numTo (n : Int) (l : List UInt8) : Int := l.foldl (fun n c => min (n * 10 + ((c.toNat : Int) - 48)) 1000000) n
/-- Is there a needless zero? -/
def zero (l : List UInt8) : Bool := decide (1 < l.length) && l.headD 0 == 48
/-- readNumber: the number, and which error: 0 none, 1 text, 2 bound. -/
def num (l : List UInt8) : Int × Nat :=
  if !digs l || zero l then (0, 1) else if numTo 0 l ≤ 999999 then (numTo 0 l, 0) else (0, 2)
/-- The worse of two errors. -/
def worse (a b : Nat) : Nat := if a = 1 ∨ b = 0 then a else b
/-- checkPart. -/
def part (l : List UInt8) : Nat :=
  if l.length < 1 ∨ 8 < l.length ∨ allPar l = false then 1 else if digs l = false then 0 else (num l).2
/-- checkPre: on from an error. -/
def preTo (b : Nat) (ps : List (List UInt8)) : Nat := ps.foldl (fun b p => worse b (part p)) b
def pre (ps : List (List UInt8)) : Nat := preTo (if 5 < ps.length then 2 else 0) ps
/-- The bytes of texts. -/
def bl (xs : List ByteArray) : List (List UInt8) := xs.map fun x => x.data.toList

theorem numTo_snoc (n : Int) (l : List UInt8) (c : UInt8) : numTo n (l ++ [c]) = min (numTo n l * 10 + ((c.toNat : Int) - 48)) 1000000 := by
  simp [numTo, List.foldl_append]
theorem numTo_bd (l : List UInt8) (h : l.all dig = true) : 0 ≤ numTo 0 l ∧ numTo 0 l ≤ 1000000 := by
  have key : ∀ (l : List UInt8) (n : Int), l.all dig = true → 0 ≤ n → n ≤ 1000000 → 0 ≤ numTo n l ∧ numTo n l ≤ 1000000 := by
    intro l
    induction l with
    | nil => intro n _ h0 h1; exact ⟨h0, h1⟩
    | cons c r ih =>
      intro n ha h0 h1
      simp only [List.all_cons, Bool.and_eq_true] at ha
      have hc : 48 ≤ (c.toNat : Int) := by
        have := ha.1
        simp only [dig, digB, decide_eq_true_eq] at this
        omega
      exact ih _ ha.2 (by dsimp only; omega) (by dsimp only; omega)
  exact key l 0 h (by omega) (by omega)
theorem num_err (l : List UInt8) : (num l).2 = 0 ∨ (num l).2 = 1 ∨ (num l).2 = 2 := by
  unfold num
  split
  · simp
  · split <;> simp
theorem part_err (l : List UInt8) : part l = 0 ∨ part l = 1 ∨ part l = 2 := by
  unfold part
  split
  · simp
  · split
    · simp
    · exact num_err l
theorem worse_err {a b : Nat} (ha : a = 0 ∨ a = 1 ∨ a = 2) (hb : b = 0 ∨ b = 1 ∨ b = 2) : worse a b = 0 ∨ worse a b = 1 ∨ worse a b = 2 := by
  unfold worse; split <;> assumption
theorem all_snoc (f : UInt8 → Bool) (l : List UInt8) (c : UInt8) : (l ++ [c]).all f = (l.all f && f c) := by simp
theorem take_snoc (s : ByteArray) (k : Nat) (h : k < s.size) : s.data.toList.take (k + 1) = s.data.toList.take k ++ [s[k]] := by
  rw [List.take_succ_eq_append_getElem (by simpa using h)]; rfl
theorem take_all (s : ByteArray) : s.data.toList.take s.size = s.data.toList := List.take_of_length_le (by simp)
theorem len_eq (s : ByteArray) : s.data.toList.length = s.size := by simp
theorem preTo_snoc (b : Nat) (ps : List (List UInt8)) (p : List UInt8) : preTo b (ps ++ [p]) = worse (preTo b ps) (part p) := by simp [preTo, List.foldl_append]
theorem preTo_err (b : Nat) (ps : List (List UInt8)) (hb : b = 0 ∨ b = 1 ∨ b = 2) : preTo b ps = 0 ∨ preTo b ps = 1 ∨ preTo b ps = 2 := by
  induction ps generalizing b with
  | nil => exact hb
  | cons p r ih => exact ih _ (worse_err hb (part_err p))
theorem pre_err (ps : List (List UInt8)) : pre ps = 0 ∨ pre ps = 1 ∨ pre ps = 2 := by
  unfold pre
  refine preTo_err _ _ ?_
  split <;> simp
theorem bl_take_snoc (xs : List ByteArray) (k : Nat) (h : k < xs.length) : bl (xs.take (k + 1)) = bl (xs.take k) ++ [xs[k].data.toList] := by
  unfold bl
  rw [List.take_succ_eq_append_getElem h, List.map_append]; rfl
theorem bl_len (xs : List ByteArray) : (bl xs).length = xs.length := by simp [bl]
end Ve
end Go.Proofs.YtmgpbejekglipabGreatDoor

/-
  What the small readers of packages chars and ver answer (Digit, Small, inPart, Every), in the words of the plain functions.
-/
namespace Go.Proofs.YtmgpbejekglipabGreatDoor
open Go.RowKit
namespace Ve

theorem hid {p : Prop} (h : p) : Hid p := h

theorem ret_bool {a b : Bool} (h : a = b) : Ending.returned (.bool a) = .returned (.bool b) := by rw [h]
theorem ret_int {k : IntKind} {a b : Int} (h : a = b) : Ending.returned (.int k a) = .returned (.int k b) := by rw [h]

theorem isDigit_any (c : Int) (w : World) (h0 : 0 ≤ c) (h1 : c ≤ 255) :
    Calls Tryz.prog 202 #[.int .u8 c] w fun e w' => e = .returned (.bool (digB c)) ∧ w' = w := by
  by_cases a : 48 ≤ c
  all_goals
    go_enter Tryz.func202, Tryz.ntmps202
    go_wp2
    go_ret
    exact ⟨ret_bool (by unfold digB; rw [Bool.eq_iff_iff]; simp <;> omega), rfl⟩

theorem small_any (c : Int) (w : World) (h0 : 0 ≤ c) (h1 : c ≤ 255) :
    Calls Tryz.prog 206 #[.int .u8 c] w fun e w' => e = .returned (.bool (decide (97 ≤ c ∧ c ≤ 122))) ∧ w' = w := by
  by_cases a : 97 ≤ c
  all_goals
    go_enter Tryz.func206, Tryz.ntmps206
    go_wp2
    go_ret
    exact ⟨ret_bool (by rw [Bool.eq_iff_iff]; simp <;> omega), rfl⟩

theorem inPart_any (c : Int) (w : World) (h0 : 0 ≤ c) (h1 : c ≤ 255) :
    Calls Tryz.prog 175 #[.int .u8 c] w fun e w' => e = .returned (.bool (parB c)) ∧ w' = w := by
  have HP := hid (show parB c = (digB c || decide (97 ≤ c ∧ c ≤ 122) || decide (65 ≤ c ∧ c ≤ 90) || c == 45) from rfl)
  have HC := hid (isDigit_any c w h0 h1)
  have HS := hid (small_any c w h0 h1)
  cases hd : digB c
  · rw [hd] at HC HP
    clear hd
    cases hs : decide (97 ≤ c ∧ c ≤ 122)
    · rw [hs] at HS HP
      clear hs
      by_cases b1 : 65 ≤ c
      all_goals by_cases b2 : c ≤ 90
      all_goals try (exfalso; omega)
      all_goals
        go_enter Tryz.func175, Tryz.ntmps175
        go_wp2_with fail
        refine HC.out.mono ?_
        rintro e w' ⟨rfl, rfl⟩
        go_wp2_with fail
        refine HS.out.mono ?_
        rintro e w' ⟨rfl, rfl⟩
        go_wp2_with fail
      all_goals
        go_ret
        exact ⟨ret_bool (by rw [HP.out, Bool.eq_iff_iff]; simp <;> omega), rfl⟩
    · rw [hs] at HS HP
      clear hs
      go_enter Tryz.func175, Tryz.ntmps175
      go_wp2_with fail
      refine HC.out.mono ?_
      rintro e w' ⟨rfl, rfl⟩
      go_wp2_with fail
      refine HS.out.mono ?_
      rintro e w' ⟨rfl, rfl⟩
      go_wp2_with fail
      go_ret
      exact ⟨ret_bool (by rw [HP.out]; rfl), rfl⟩
  · rw [hd] at HC HP
    clear hd
    go_enter Tryz.func175, Tryz.ntmps175
    go_wp2_with fail
    refine HC.out.mono ?_
    rintro e w' ⟨rfl, rfl⟩
    go_wp2_with fail
    go_ret
    exact ⟨ret_bool (by rw [HP.out]; rfl), rfl⟩

set_option maxHeartbeats 400000 in
theorem every_dig (s : ByteArray) (w : World) (hs : s.size ≤ maxLen) :
    Calls Tryz.prog 174 #[.string s, .func (.func 202) #[] #[]] w fun e w' => e = .returned (.bool (allDig s.data.toList)) ∧ w' = w := by
  unfold maxLen at hs
  go_enter Tryz.func174, Tryz.ntmps174
  go_wp2_with fail
  go_loop [8] (fun i => ∃ k : Nat, k ≤ s.size ∧ i = .int .i64 k ∧ Hid ((s.data.toList.take k).all dig = true)) (fun i => s.size - (intOf i).toNat)
  case atStart => exact ⟨0, Nat.zero_le _, rfl, hid rfl⟩
  case round =>
    obtain ⟨k, hk, rfl, HA⟩ := hrel
    by_cases hlt : k < s.size
    · have HS := hid (all_snoc dig (s.data.toList.take k) s[k])
      rw [← take_snoc s k hlt, HA.out, Bool.true_and] at HS
      cases hd : dig s[k]
      · rw [hd] at HS
        have HX := hid (show allDig s.data.toList = false by
          have h2 : allDig s.data.toList = ((s.data.toList.take (k + 1)).all dig && (s.data.toList.drop (k + 1)).all dig) := by rw [← List.all_append, List.take_append_drop]; rfl
          rw [h2, HS.out]; rfl)
        have HC := hid (fun W => isDigit_any (s[k].toNat : Int) W (by omega) (by have := s[k].toNat_lt; omega))
        have HD := hid (show digB (s[k].toNat : Int) = false from hd)
        clear hd
        go_wp2_with fail
        refine (HC.out _).mono ?_
        rintro e w' ⟨rfl, rfl⟩
        rw [HD.out]
        go_wp2_with fail
        go_ret
        exact ⟨ret_bool HX.out.symm, rfl⟩
      · rw [hd] at HS
        have HC := hid (fun W => isDigit_any (s[k].toNat : Int) W (by omega) (by have := s[k].toNat_lt; omega))
        have HD := hid (show digB (s[k].toNat : Int) = true from hd)
        clear hd
        go_wp2_with fail
        refine (HC.out _).mono ?_
        rintro e w' ⟨rfl, rfl⟩
        rw [HD.out]
        go_wp2_with fail
        go_round
        case rel => exact ⟨k + 1, by omega, by go_num, HS⟩
        case measure => simp [intOf]; omega
    · have HX := hid (show allDig s.data.toList = true by
        have h2 : s.data.toList.take k = s.data.toList := List.take_of_length_le (by simp; omega)
        have := HA.out; rw [h2] at this; exact this)
      go_wp2_with fail
      go_ret
      exact ⟨ret_bool HX.out.symm, rfl⟩

set_option maxHeartbeats 400000 in
theorem every_par (s : ByteArray) (w : World) (hs : s.size ≤ maxLen) :
    Calls Tryz.prog 174 #[.string s, .func (.func 175) #[] #[]] w fun e w' => e = .returned (.bool (allPar s.data.toList)) ∧ w' = w := by
  unfold maxLen at hs
  go_enter Tryz.func174, Tryz.ntmps174
  go_wp2_with fail
  go_loop [8] (fun i => ∃ k : Nat, k ≤ s.size ∧ i = .int .i64 k ∧ Hid ((s.data.toList.take k).all par = true)) (fun i => s.size - (intOf i).toNat)
  case atStart => exact ⟨0, Nat.zero_le _, rfl, hid rfl⟩
  case round =>
    obtain ⟨k, hk, rfl, HA⟩ := hrel
    by_cases hlt : k < s.size
    · have HS := hid (all_snoc par (s.data.toList.take k) s[k])
      rw [← take_snoc s k hlt, HA.out, Bool.true_and] at HS
      cases hd : par s[k]
      · rw [hd] at HS
        have HX := hid (show allPar s.data.toList = false by
          have h2 : allPar s.data.toList = ((s.data.toList.take (k + 1)).all par && (s.data.toList.drop (k + 1)).all par) := by rw [← List.all_append, List.take_append_drop]; rfl
          rw [h2, HS.out]; rfl)
        have HC := hid (fun W => inPart_any (s[k].toNat : Int) W (by omega) (by have := s[k].toNat_lt; omega))
        have HD := hid (show parB (s[k].toNat : Int) = false from hd)
        clear hd
        go_wp2_with fail
        refine (HC.out _).mono ?_
        rintro e w' ⟨rfl, rfl⟩
        rw [HD.out]
        go_wp2_with fail
        go_ret
        exact ⟨ret_bool HX.out.symm, rfl⟩
      · rw [hd] at HS
        have HC := hid (fun W => inPart_any (s[k].toNat : Int) W (by omega) (by have := s[k].toNat_lt; omega))
        have HD := hid (show parB (s[k].toNat : Int) = true from hd)
        clear hd
        go_wp2_with fail
        refine (HC.out _).mono ?_
        rintro e w' ⟨rfl, rfl⟩
        rw [HD.out]
        go_wp2_with fail
        go_round
        case rel => exact ⟨k + 1, by omega, by go_num, HS⟩
        case measure => simp [intOf]; omega
    · have HX := hid (show allPar s.data.toList = true by
        have h2 : s.data.toList.take k = s.data.toList := List.take_of_length_le (by simp; omega)
        have := HA.out; rw [h2] at this; exact this)
      go_wp2_with fail
      go_ret
      exact ⟨ret_bool HX.out.symm, rfl⟩

end Ve
end Go.Proofs.YtmgpbejekglipabGreatDoor

/-
  What Digits and Number of package chars, and inBounds, worse, checkPart and checkPre of package ver answer, in the words of the plain functions; nothing old in memory turns.
-/
namespace Go.Proofs.YtmgpbejekglipabGreatDoor
open Go.RowKit
namespace Ve

/-- Where the two errors lie, and the library's own bound. -/
structure Vs (w : World) (aT aB : Addr) (m : Int) : Prop where
  t : w.cell? ⟨3, 0, none⟩ = some (.iface 279 (.pointer (some aT)))
  b : w.cell? ⟨1, 0, none⟩ = some (.iface 279 (.pointer (some aB)))
  bt : ∃ c t, w.heap[aT.block]? = some (.cells c t (0, 0))
  bb : ∃ c t, w.heap[aB.block]? = some (.cells c t (0, 0))
  ne : aT ≠ aB
  ml : w.cell? ⟨11, 0, none⟩ = some (.int .i64 m)

theorem lt_of_cell {w : World} {a : Addr} {v : Value} (h : w.cell? a = some v) : a.block < w.heap.size := by
  rcases Nat.lt_or_ge a.block w.heap.size with hh | hh
  · exact hh
  · simp [World.cell?, Array.getElem?_eq_none hh] at h
theorem lt_of_blk {w : World} {b : Nat} {o : Obj} (h : w.heap[b]? = some o) : b < w.heap.size := by
  rcases Nat.lt_or_ge b w.heap.size with hh | hh
  · exact hh
  · rw [Array.getElem?_eq_none hh] at h; cases h
theorem cell_below {w w' : World} {a : Addr} {v : Value} (hb : Below w.heap.size w w') (h : w.cell? a = some v) : w'.cell? a = some v := by
  rw [hb.cell (lt_of_cell h)]; exact h
theorem Vs.below {w w' : World} {aT aB : Addr} {m : Int} (h : Vs w aT aB m) (hb : Below w.heap.size w w') : Vs w' aT aB m := by
  refine ⟨cell_below hb h.t, cell_below hb h.b, ?_, ?_, h.ne, cell_below hb h.ml⟩
  · obtain ⟨c, t, e⟩ := h.bt
    exact ⟨c, t, by rw [hb.block _ (lt_of_blk e)]; exact e⟩
  · obtain ⟨c, t, e⟩ := h.bb
    exact ⟨c, t, by rw [hb.block _ (lt_of_blk e)]; exact e⟩
theorem below_drawn (w : World) (d : Nat) : Below w.heap.size w (w.drewN d) := ⟨rfl, rfl, rfl, Nat.le_refl _, fun _ _ => rfl⟩

/-- An error by its number: 0 none, 1 text, else bound. -/
def errV (aT aB : Addr) (c : Nat) : Value := if c = 0 then .nilIface else if c = 1 then .iface 279 (.pointer (some aT)) else .iface 279 (.pointer (some aB))
theorem errV0 (aT aB : Addr) : errV aT aB 0 = .nilIface := rfl
theorem errV1 (aT aB : Addr) : errV aT aB 1 = .iface 279 (.pointer (some aT)) := rfl
theorem errV2 (aT aB : Addr) : errV aT aB 2 = .iface 279 (.pointer (some aB)) := rfl

theorem digits_any (s : ByteArray) (w : World) (hs : s.size ≤ maxLen) :
    Calls Tryz.prog 170 #[.string s] w fun e w' => e = .returned (.bool (digs s.data.toList)) ∧ w' = w := by
  have HD := hid (show digs s.data.toList = (decide (0 < s.size) && allDig s.data.toList) by unfold digs; rw [len_eq])
  have HC := hid (every_dig s w hs)
  unfold maxLen at hs
  by_cases h : 0 < s.size
  · go_enter Tryz.func170, Tryz.ntmps170
    go_wp2_with fail
    refine HC.out.mono ?_
    rintro e w' ⟨rfl, rfl⟩
    go_wp2_with fail
    go_ret
    exact ⟨ret_bool (by rw [HD.out]; simp [h]), rfl⟩
  · go_enter Tryz.func170, Tryz.ntmps170
    go_wp2_with fail
    go_ret
    exact ⟨ret_bool (by rw [HD.out]; simp [h]), rfl⟩

def inBB (n : Int) : Bool := decide (0 ≤ n ∧ n ≤ 999999)
theorem inB_any (n : Int) (w : World) : Calls Tryz.prog 196 #[.int .i64 n] w fun e w' => e = .returned (.bool (inBB n)) ∧ w' = w := by
  by_cases a : 0 ≤ n
  all_goals
    go_enter Tryz.func196, Tryz.ntmps196
    go_wp2
    go_ret
    exact ⟨ret_bool (by unfold inBB; rw [Bool.eq_iff_iff]; simp <;> omega), rfl⟩

theorem compS : (Tryz.prog.info? 279).map (·.comparable) = some true := by kernel_rfl
theorem sizeS : (Tryz.prog.info? 297).map (·.size) = some 1 := by kernel_rfl

theorem worse_any (a b : Nat) (aT aB : Addr) (m : Int) (w : World) (S : Vs w aT aB m) (ha : a = 0 ∨ a = 1 ∨ a = 2) (hb : b = 0 ∨ b = 1 ∨ b = 2) :
    Calls Tryz.prog 78 #[errV aT aB a, errV aT aB b] w fun e w' => e = .returned (errV aT aB (worse a b)) ∧ w' = w := by
  obtain ⟨i, hi, hcmp⟩ := Option.map_eq_some_iff.1 compS
  obtain ⟨j, hj, hjs⟩ := Option.map_eq_some_iff.1 sizeS
  obtain ⟨c1, t1, e1⟩ := S.bt
  obtain ⟨c2, t2, e2⟩ := S.bb
  have q0 := run_eql_iface_nil_left (P := Tryz.prog) w 279 (.pointer (some aT)) Tryz.underlying32
  have q1 := run_eql_iface_ptr_same (P := Tryz.prog) w aT Tryz.underlying32 Tryz.underlying279 hi hcmp hj
  have q2 := run_eql_iface_ptr_other (P := Tryz.prog) w Tryz.underlying32 Tryz.underlying279 hi hcmp hj (by rw [hjs]; decide) S.ne.symm e2 e1
  have g := S.t
  clear S e1 e2 hi hcmp hj hjs
  rcases ha with rfl | rfl | rfl
  · rcases hb with rfl | rfl | rfl
    · show Calls Tryz.prog 78 #[.nilIface, .nilIface] w fun e w' => e = .returned (.nilIface) ∧ w' = w
      go_enter Tryz.func78, Tryz.ntmps78
      go_wp2
      go_ret
      exact ⟨rfl, rfl⟩
    · show Calls Tryz.prog 78 #[.nilIface, .iface 279 (.pointer (some aT))] w fun e w' => e = .returned (.iface 279 (.pointer (some aT))) ∧ w' = w
      go_enter Tryz.func78, Tryz.ntmps78
      go_wp2
      go_ret
      exact ⟨rfl, rfl⟩
    · show Calls Tryz.prog 78 #[.nilIface, .iface 279 (.pointer (some aB))] w fun e w' => e = .returned (.iface 279 (.pointer (some aB))) ∧ w' = w
      go_enter Tryz.func78, Tryz.ntmps78
      go_wp2
      go_ret
      exact ⟨rfl, rfl⟩
  · rcases hb with rfl | rfl | rfl
    · show Calls Tryz.prog 78 #[.iface 279 (.pointer (some aT)), .nilIface] w fun e w' => e = .returned (.iface 279 (.pointer (some aT))) ∧ w' = w
      go_enter Tryz.func78, Tryz.ntmps78
      go_wp2
      go_ret
      exact ⟨rfl, rfl⟩
    · show Calls Tryz.prog 78 #[.iface 279 (.pointer (some aT)), .iface 279 (.pointer (some aT))] w fun e w' => e = .returned (.iface 279 (.pointer (some aT))) ∧ w' = w
      go_enter Tryz.func78, Tryz.ntmps78
      go_wp2
      go_ret
      exact ⟨rfl, rfl⟩
    · show Calls Tryz.prog 78 #[.iface 279 (.pointer (some aT)), .iface 279 (.pointer (some aB))] w fun e w' => e = .returned (.iface 279 (.pointer (some aT))) ∧ w' = w
      go_enter Tryz.func78, Tryz.ntmps78
      go_wp2
      go_ret
      exact ⟨rfl, rfl⟩
  · rcases hb with rfl | rfl | rfl
    · show Calls Tryz.prog 78 #[.iface 279 (.pointer (some aB)), .nilIface] w fun e w' => e = .returned (.iface 279 (.pointer (some aB))) ∧ w' = w
      go_enter Tryz.func78, Tryz.ntmps78
      go_wp2
      go_ret
      exact ⟨rfl, rfl⟩
    · show Calls Tryz.prog 78 #[.iface 279 (.pointer (some aB)), .iface 279 (.pointer (some aT))] w fun e w' => e = .returned (.iface 279 (.pointer (some aT))) ∧ w' = w
      go_enter Tryz.func78, Tryz.ntmps78
      go_wp2
      go_ret
      exact ⟨rfl, rfl⟩
    · show Calls Tryz.prog 78 #[.iface 279 (.pointer (some aB)), .iface 279 (.pointer (some aB))] w fun e w' => e = .returned (.iface 279 (.pointer (some aB))) ∧ w' = w
      go_enter Tryz.func78, Tryz.ntmps78
      go_wp2
      go_ret
      exact ⟨rfl, rfl⟩

set_option maxHeartbeats 400000 in
theorem num_text (s : ByteArray) (aT aB : Addr) (m : Int) (w : World) (hs : s.size ≤ maxLen) (S : Vs w aT aB m) (hz : digs s.data.toList = false) :
    Calls Tryz.prog 125 #[.string s] w fun e w' => e = .returned (.tuple #[.int .i64 0, .iface 279 (.pointer (some aT))]) ∧ Below w.heap.size w w' := by
  have HC := hid (digits_any s w hs)
  rw [hz] at HC
  unfold maxLen at hs
  have g := S.t
  clear S hz
  go_enter Tryz.func125, Tryz.ntmps125
  go_wp2_with fail
  refine HC.out.mono ?_
  rintro e w' ⟨rfl, rfl⟩
  go_wp2_with fail
  go_quiet (fail)
  go_wp2_with fail
  go_ret2
  exact ⟨rfl, below_drawn _ _⟩

set_option maxHeartbeats 400000 in
theorem num_zero (s : ByteArray) (aT aB : Addr) (m : Int) (w : World) (hs : s.size ≤ maxLen) (S : Vs w aT aB m) (hz : digs s.data.toList = true) (h1 : 1 < s.size) (h0 : ((s[0].toNat : Int) == 48) = true) :
    Calls Tryz.prog 125 #[.string s] w fun e w' => e = .returned (.tuple #[.int .i64 0, .iface 279 (.pointer (some aT))]) ∧ Below w.heap.size w w' := by
  have HC := hid (digits_any s w hs)
  rw [hz] at HC
  unfold maxLen at hs
  have g := S.t
  clear S hz
  go_enter Tryz.func125, Tryz.ntmps125
  go_wp2_with fail
  refine HC.out.mono ?_
  rintro e w' ⟨rfl, rfl⟩
  go_wp2_with fail
  go_quiet (fail)
  go_wp2_with fail
  go_ret2
  exact ⟨rfl, below_drawn _ _⟩

theorem dig_at (s : ByteArray) (h : allDig s.data.toList = true) (k : Nat) (hk : k < s.size) : 48 ≤ (s[k].toNat : Int) ∧ (s[k].toNat : Int) ≤ 57 := by
  have h1 := List.all_eq_true.1 h s[k] (by rw [ByteArray.getElem_eq_getElem_data]; exact Array.getElem_mem_toList _)
  simpa [dig, digB] using h1
theorem dig_take (s : ByteArray) (h : allDig s.data.toList = true) (k : Nat) : (s.data.toList.take k).all dig = true := by
  rw [List.all_eq_true]
  intro x hx
  exact List.all_eq_true.1 h x (List.mem_of_mem_take hx)

theorem zero_eq (s : ByteArray) : zero s.data.toList = true ↔ ∃ h : 1 < s.size, ((s[0].toNat : Int) == 48) = true := by
  unfold zero
  rw [len_eq]
  by_cases h : 1 < s.size
  · have e : s.data.toList.headD 0 = s[0] := by
      rw [List.headD_eq_head?_getD, List.head?_eq_getElem?, List.getElem?_eq_getElem (by simp; omega)]; rfl
    rw [e]
    simp only [h, decide_true, Bool.true_and, beq_iff_eq, exists_true_left]
    constructor
    · intro h; rw [h]; rfl
    · intro h
      apply UInt8.toNat_inj.1
      show s[0].toNat = 48
      omega
  · simp [h]

set_option maxHeartbeats 1000000 in
theorem num_ok (s : ByteArray) (aT aB : Addr) (m : Int) (w : World) (hs : s.size ≤ maxLen) (S : Vs w aT aB m) (hz : digs s.data.toList = true) (h0 : zero s.data.toList = false) :
    Calls Tryz.prog 125 #[.string s] w fun e w' => e = .returned (.tuple #[.int .i64 (num s.data.toList).1, errV aT aB (num s.data.toList).2]) ∧ Below w.heap.size w w' := by
  have had : allDig s.data.toList = true := by unfold digs at hz; simp at hz; exact hz.2
  have HN : Hid ((numTo 0 s.data.toList ≤ 999999 → num s.data.toList = (numTo 0 s.data.toList, 0)) ∧ (¬ numTo 0 s.data.toList ≤ 999999 → num s.data.toList = (0, 2))) :=
    ⟨fun h => by simp [num, hz, h0, h], fun h => by simp [num, hz, h0, h]⟩
  have HZ : Hid (¬ ∃ h : 1 < s.size, ((s[0].toNat : Int) == 48) = true) := fun h => by have := (zero_eq s).2 h; rw [h0] at this; cases this
  have HC := hid (digits_any s w hs)
  rw [hz] at HC
  unfold maxLen at hs
  have g := S.b
  clear S h0 hz
  by_cases h1 : 1 < s.size
  · have h2 : ((s[0].toNat : Int) == 48) = false := by
      cases h : ((s[0].toNat : Int) == 48)
      · rfl
      · exact absurd ⟨h1, h⟩ HZ.out
    clear HZ
    go_enter Tryz.func125, Tryz.ntmps125
    go_wp2_with fail
    refine HC.out.mono ?_
    rintro e w' ⟨rfl, rfl⟩
    go_wp2_with fail
    go_loop [4, 22] (fun n i => ∃ k : Nat, k ≤ s.size ∧ i = .int .i64 k ∧ n = .int .i64 (numTo 0 (s.data.toList.take k))) (fun _ i => s.size - (intOf i).toNat)
    case atStart => exact ⟨0, Nat.zero_le _, rfl, rfl⟩
    case round =>
      obtain ⟨k, hk, rfl, rfl⟩ := hrel
      obtain ⟨b0, b1⟩ := numTo_bd _ (dig_take s had k)
      by_cases hlt : k < s.size
      · obtain ⟨d0, d1⟩ := dig_at s had k hlt
        have HS := hid (numTo_snoc 0 (s.data.toList.take k) s[k])
        rw [← take_snoc s k hlt] at HS
        generalize hn : numTo 0 (s.data.toList.take k) = n at *
        clear hn
        go_wp2_with fail
        refine ⟨⟨k + 1, by omega, by go_num, ?_⟩, by simp [intOf]; omega⟩
        rw [HS.out]
        congr 1
        split <;> omega
      · have hk2 : s.data.toList.take k = s.data.toList := List.take_of_length_le (by simp; omega)
        rw [hk2] at b0 b1 ⊢
        by_cases hb : numTo 0 s.data.toList ≤ 999999
        · have HF := hid (HN.out.1 hb)
          generalize hn : numTo 0 s.data.toList = n at *
          clear hn hk2
          go_wp2_with fail
          go_ret2
          exact ⟨by rw [HF.out]; rfl, Below.refl _ _⟩
        · have HF := hid (HN.out.2 (by omega))
          generalize hn : numTo 0 s.data.toList = n at *
          clear hn hk2
          go_wp2_with fail
          go_quiet (fail)
          go_wp2_with fail
          go_ret2
          exact ⟨by rw [HF.out]; rfl, below_drawn _ _⟩
  · clear HZ
    go_enter Tryz.func125, Tryz.ntmps125
    go_wp2_with fail
    refine HC.out.mono ?_
    rintro e w' ⟨rfl, rfl⟩
    go_wp2_with fail
    go_loop [4, 22] (fun n i => ∃ k : Nat, k ≤ s.size ∧ i = .int .i64 k ∧ n = .int .i64 (numTo 0 (s.data.toList.take k))) (fun _ i => s.size - (intOf i).toNat)
    case atStart => exact ⟨0, Nat.zero_le _, rfl, rfl⟩
    case round =>
      obtain ⟨k, hk, rfl, rfl⟩ := hrel
      obtain ⟨b0, b1⟩ := numTo_bd _ (dig_take s had k)
      by_cases hlt : k < s.size
      · obtain ⟨d0, d1⟩ := dig_at s had k hlt
        have HS := hid (numTo_snoc 0 (s.data.toList.take k) s[k])
        rw [← take_snoc s k hlt] at HS
        generalize hn : numTo 0 (s.data.toList.take k) = n at *
        clear hn
        go_wp2_with fail
        refine ⟨⟨k + 1, by omega, by go_num, ?_⟩, by simp [intOf]; omega⟩
        rw [HS.out]
        congr 1
        split <;> omega
      · have hk2 : s.data.toList.take k = s.data.toList := List.take_of_length_le (by simp; omega)
        rw [hk2] at b0 b1 ⊢
        by_cases hb : numTo 0 s.data.toList ≤ 999999
        · have HF := hid (HN.out.1 hb)
          generalize hn : numTo 0 s.data.toList = n at *
          clear hn hk2
          go_wp2_with fail
          go_ret2
          exact ⟨by rw [HF.out]; rfl, Below.refl _ _⟩
        · have HF := hid (HN.out.2 (by omega))
          generalize hn : numTo 0 s.data.toList = n at *
          clear hn hk2
          go_wp2_with fail
          go_quiet (fail)
          go_wp2_with fail
          go_ret2
          exact ⟨by rw [HF.out]; rfl, below_drawn _ _⟩

/-- readNumber, whatever the text. -/
theorem num_any (s : ByteArray) (aT aB : Addr) (m : Int) (w : World) (hs : s.size ≤ maxLen) (S : Vs w aT aB m) :
    Calls Tryz.prog 125 #[.string s] w fun e w' => e = .returned (.tuple #[.int .i64 (num s.data.toList).1, errV aT aB (num s.data.toList).2]) ∧ Below w.heap.size w w' := by
  cases hz : digs s.data.toList
  · have e : num s.data.toList = (0, 1) := by simp [num, hz]
    rw [e]; exact num_text s aT aB m w hs S hz
  · cases h0 : zero s.data.toList
    · exact num_ok s aT aB m w hs S hz h0
    · have e : num s.data.toList = (0, 1) := by simp [num, h0]
      obtain ⟨h1, h2⟩ := (zero_eq s).1 h0
      rw [e]; exact num_zero s aT aB m w hs S hz h1 h2

set_option maxHeartbeats 400000 in
theorem part_any (s : ByteArray) (aT aB : Addr) (m : Int) (w : World) (hs : s.size ≤ maxLen) (S : Vs w aT aB m) :
    Calls Tryz.prog 127 #[.string s] w fun e w' => e = .returned (errV aT aB (part s.data.toList)) ∧ Below w.heap.size w w' := by
  have HP := hid (show part s.data.toList = if s.size < 1 ∨ 8 < s.size ∨ allPar s.data.toList = false then 1 else if digs s.data.toList = false then 0 else (num s.data.toList).2 by unfold part; rw [len_eq])
  have HS := hid S
  have HE := hid (every_par s w hs)
  have HD := hid (digits_any s w hs)
  have HN := hid (num_any s aT aB m w hs S)
  have HR := hid (num_err s.data.toList)
  unfold maxLen at hs
  have g := S.t
  clear S
  by_cases h1 : s.size < 1
  · rw [if_pos (Or.inl h1)] at HP
    go_enter Tryz.func127, Tryz.ntmps127
    go_wp2_with fail
    go_ret
    exact ⟨by rw [HP.out]; rfl, Below.refl _ _⟩
  · by_cases h2 : 8 < s.size
    · rw [if_pos (Or.inr (Or.inl h2))] at HP
      go_enter Tryz.func127, Tryz.ntmps127
      go_wp2_with fail
      go_ret
      exact ⟨by rw [HP.out]; rfl, Below.refl _ _⟩
    · cases h3 : allPar s.data.toList
      · rw [if_pos (Or.inr (Or.inr h3))] at HP
        rw [h3] at HE
        clear h3
        go_enter Tryz.func127, Tryz.ntmps127
        go_wp2_with fail
        refine HE.out.mono ?_
        rintro e w' ⟨rfl, rfl⟩
        go_wp2_with fail
        go_ret
        exact ⟨by rw [HP.out]; rfl, Below.refl _ _⟩
      · rw [h3] at HE
        rw [if_neg (by rintro (h | h | h) <;> simp_all)] at HP
        clear h3
        cases h4 : digs s.data.toList
        · rw [if_pos h4] at HP
          rw [h4] at HD
          clear h4
          go_enter Tryz.func127, Tryz.ntmps127
          go_wp2_with fail
          refine HE.out.mono ?_
          rintro e w' ⟨rfl, rfl⟩
          go_wp2_with fail
          refine HD.out.mono ?_
          rintro e w' ⟨rfl, rfl⟩
          go_wp2_with fail
          go_ret
          exact ⟨by rw [HP.out]; rfl, Below.refl _ _⟩
        · rw [if_neg (by rw [h4]; simp)] at HP
          rw [h4] at HD
          clear h4
          generalize hq : num s.data.toList = q at *
          clear hq
          obtain ⟨q1, q2⟩ := q
          rcases HR.out with h | h | h
          all_goals
            dsimp only at h
            subst h
            go_enter Tryz.func127, Tryz.ntmps127
            go_wp2_with fail
            refine HE.out.mono ?_
            rintro e w' ⟨rfl, rfl⟩
            go_wp2_with fail
            refine HD.out.mono ?_
            rintro e w' ⟨rfl, rfl⟩
            go_wp2_with fail
            refine HN.out.mono ?_
            rintro e w' ⟨rfl, hb⟩
            have HB := hid hb
            clear hb
            go_wp2_with fail
            go_ret
            exact ⟨by rw [HP.out]; rfl, HB.out⟩
end Ve
end Go.Proofs.YtmgpbejekglipabGreatDoor

/-
  What checkPre of package ver answers for any list of texts; nothing old in memory turns.
-/
namespace Go.Proofs.YtmgpbejekglipabGreatDoor
open Go.RowKit
namespace Ve

theorem pre_nil (a : Option Addr) (c : Nat) (aT aB : Addr) (w : World) :
    Calls Tryz.prog 79 #[.slice a 0 c] w fun e w' => e = .returned (errV aT aB (pre [])) ∧ Below w.heap.size w w' := by
  have HP := hid (show errV aT aB (pre []) = .nilIface from rfl)
  go_enter Tryz.func79, Tryz.ntmps79
  go_wp2_with fail
  refine wp_loop_rounds 1 ?_
  rw [rounds_succ]
  go_wp2_with fail
  go_ret
  exact ⟨by rw [HP.out]; rfl, Below.refl _ _⟩

set_option maxHeartbeats 1000000 in
theorem pre_some (b o c : Nat) (xs : List ByteArray) (aT aB : Addr) (m : Int) (w : World) (S : Vs w aT aB m) (hn : xs.length ≤ 140737488355328) (hx : ∀ x, x ∈ xs → x.size ≤ maxLen)
    (hc : ∀ j (h : j < xs.length), w.cell? ⟨b, o + j, none⟩ = some (.string xs[j])) :
    Calls Tryz.prog 79 #[.slice (some ⟨b, o, none⟩) xs.length c] w fun e w' => e = .returned (errV aT aB (pre (bl xs))) ∧ Below w.heap.size w w' := by
  have HP := hid (show pre (bl xs) = preTo (if 5 < xs.length then 2 else 0) (bl xs) by unfold pre; rw [bl_len])
  have HS := hid S
  have HC := hid hc
  have HX := hid hx
  have g := S.b
  clear S hc hx
  by_cases h5 : 5 < xs.length
  · rw [if_pos h5] at HP
    have h5b : decide (5 < (xs.length : Int)) = true := by simp; omega
    go_enter Tryz.func79, Tryz.ntmps79
    go_wp2_with fail
    clear g
    go_loopw [3, 12] (fun bad i wr => ∃ k : Nat, k ≤ xs.length ∧ i = .int .i64 k ∧ bad = errV aT aB (preTo 2 (bl (xs.take k))) ∧ Below w.heap.size w wr) (fun _ i _ => xs.length - (intOf i).toNat)
    case atStart => exact ⟨0, Nat.zero_le _, rfl, rfl, Below.refl _ _⟩
    case round =>
      obtain ⟨k, hk, rfl, rfl, hb⟩ := hrel
      have HB := hid hb
      clear hb
      by_cases hlt : k < xs.length
      · have hcell : wr.cell? ⟨b, o + k, none⟩ = some (.string xs[k]) := cell_below HB.out (HC.out k hlt)
        have HSN := hid (preTo_snoc 2 (bl (xs.take k)) xs[k].data.toList)
        rw [← bl_take_snoc xs k hlt] at HSN
        have HE := hid (preTo_err 2 (bl (xs.take k)) (by simp))
        have HXK := hid (HX.out xs[k] (List.getElem_mem hlt))
        generalize hq : preTo 2 (bl (xs.take k)) = q at *
        clear hq
        go_wp2_with fail
        refine (part_any xs[k] aT aB m wr HXK.out (HS.out.below HB.out)).mono ?_
        rintro e w1 ⟨rfl, hb1⟩
        have HB1 := hid (HB.out.trans (hb1.mono HB.out.size))
        clear hb1
        have HPE := hid (part_err xs[k].data.toList)
        go_wp2_with fail
        refine (worse_any q _ aT aB m w1 (HS.out.below HB1.out) HE.out HPE.out).mono ?_
        rintro e w' ⟨rfl, rfl⟩
        rw [← HSN.out]
        go_wp2_with fail
        go_roundw
        case rel => exact ⟨k + 1, by omega, by go_num, rfl, HB1.out⟩
        case measure => simp [intOf]; omega
      · have hkk : xs.take k = xs := List.take_of_length_le (by omega)
        rw [hkk, ← HP.out]
        clear hkk
        go_wp2_with fail
        go_ret
        exact ⟨rfl, HB.out⟩
  · rw [if_neg h5] at HP
    have h5b : decide (5 < (xs.length : Int)) = false := by simp; omega
    go_enter Tryz.func79, Tryz.ntmps79
    go_wp2_with fail
    clear g
    go_loopw [3, 12] (fun bad i wr => ∃ k : Nat, k ≤ xs.length ∧ i = .int .i64 k ∧ bad = errV aT aB (preTo 0 (bl (xs.take k))) ∧ Below w.heap.size w wr) (fun _ i _ => xs.length - (intOf i).toNat)
    case atStart => exact ⟨0, Nat.zero_le _, rfl, rfl, Below.refl _ _⟩
    case round =>
      obtain ⟨k, hk, rfl, rfl, hb⟩ := hrel
      have HB := hid hb
      clear hb
      by_cases hlt : k < xs.length
      · have hcell : wr.cell? ⟨b, o + k, none⟩ = some (.string xs[k]) := cell_below HB.out (HC.out k hlt)
        have HSN := hid (preTo_snoc 0 (bl (xs.take k)) xs[k].data.toList)
        rw [← bl_take_snoc xs k hlt] at HSN
        have HE := hid (preTo_err 0 (bl (xs.take k)) (by simp))
        have HXK := hid (HX.out xs[k] (List.getElem_mem hlt))
        generalize hq : preTo 0 (bl (xs.take k)) = q at *
        clear hq
        go_wp2_with fail
        refine (part_any xs[k] aT aB m wr HXK.out (HS.out.below HB.out)).mono ?_
        rintro e w1 ⟨rfl, hb1⟩
        have HB1 := hid (HB.out.trans (hb1.mono HB.out.size))
        clear hb1
        have HPE := hid (part_err xs[k].data.toList)
        go_wp2_with fail
        refine (worse_any q _ aT aB m w1 (HS.out.below HB1.out) HE.out HPE.out).mono ?_
        rintro e w' ⟨rfl, rfl⟩
        rw [← HSN.out]
        go_wp2_with fail
        go_roundw
        case rel => exact ⟨k + 1, by omega, by go_num, rfl, HB1.out⟩
        case measure => simp [intOf]; omega
      · have hkk : xs.take k = xs := List.take_of_length_le (by omega)
        rw [hkk, ← HP.out]
        clear hkk
        go_wp2_with fail
        go_ret
        exact ⟨rfl, HB.out⟩
end Ve
end Go.Proofs.YtmgpbejekglipabGreatDoor
