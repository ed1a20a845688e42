/-
  RefA VerD Coded
-/
import Derived.Test.YtjhlkjgijbobcaaGreatDoorFt3
import Derived.Test.YtjhlkjgijbobcaaGreatDoorFt4
import Derived.Test.YtjhlkjgijbobcaaGreatDoorFt2
import Derived.Test.YtjhlkjgijbobcaaGreatDoorFt1
import Derived.Deep.Onto
import Derived.Deep.QuietTactic
import Derived.BigQuiet
namespace Go.Proofs.YtjhlkjgijbobcaaGreatDoor
open Go.RowKit
namespace Ve
set_option maxHeartbeats 400000 in
theorem areDigits_any (s : ByteArray) (w : World) (hs : s.size ≤ maxLen) :
    Calls Tryz.prog 89 #[.string s] w fun e w' => e = .returned (.bool (digs s.data.toList)) ∧ w' = w := by
  have HD := hid (show digs s.data.toList = (decide (0 < s.size) && allDig s.data.toList) by unfold digs; rw [len_eq])
  unfold maxLen at hs
  go_enter Tryz.func89, Tryz.ntmps89
  go_wp2_with fail
  go_loop [3] (fun i => ∃ k : Nat, k ≤ s.size ∧ i = .int .i64 k ∧ Hid ((s.data.toList.take k).all dig = true)) (fun i => s.size - (intOf i).toNat)
  case atStart => exact ⟨0, Nat.zero_le _, rfl, hid rfl⟩
  case round =>
    obtain ⟨k, hk, rfl, HA⟩ := hrel
    by_cases hlt : k < s.size
    · have HS := hid (all_snoc dig (s.data.toList.take k) s[k])
      rw [← take_snoc s k hlt, HA.out, Bool.true_and] at HS
      by_cases h1 : (s[k].toNat : Int) < 48
      · have HX := hid (show digs s.data.toList = false by
          have h2 : allDig s.data.toList = ((s.data.toList.take (k + 1)).all dig && (s.data.toList.drop (k + 1)).all dig) := by rw [← List.all_append, List.take_append_drop]; rfl
          rw [HD.out, h2, HS.out, show dig s[k] = false by simp [dig, digB]; omega]; simp)
        go_wp2_with fail
        go_ret
        exact ⟨ret_bool HX.out.symm, rfl⟩
      · by_cases h2 : 57 < (s[k].toNat : Int)
        · have HX := hid (show digs s.data.toList = false by
            have h2 : allDig s.data.toList = ((s.data.toList.take (k + 1)).all dig && (s.data.toList.drop (k + 1)).all dig) := by rw [← List.all_append, List.take_append_drop]; rfl
            rw [HD.out, h2, HS.out, show dig s[k] = false by simp [dig, digB]; omega]; simp)
          go_wp2_with fail
          go_ret
          exact ⟨ret_bool HX.out.symm, rfl⟩
        · have HY := hid (show (s.data.toList.take (k + 1)).all dig = true by rw [HS.out]; simp [dig, digB]; omega)
          go_wp2_with fail
          go_round
          case rel => exact ⟨k + 1, by omega, by go_num, HY⟩
          case measure => simp [intOf]; omega
    · have HX := hid (show digs s.data.toList = decide (0 < s.size) by
        have h2 : s.data.toList.take k = s.data.toList := List.take_of_length_le (by simp; omega)
        have := HA.out; rw [h2] at this
        rw [HD.out, show allDig s.data.toList = true from this, Bool.and_true])
      go_wp2_with fail
      go_ret
      exact ⟨ret_bool (by rw [HX.out]), rfl⟩
def valTo (n : Int) (l : List UInt8) : Int := l.foldl (fun n c => 10 * n + ((c.toNat : Int) - 48)) n
theorem valTo_snoc (n : Int) (l : List UInt8) (c : UInt8) : valTo n (l ++ [c]) = 10 * valTo n l + ((c.toNat : Int) - 48) := by simp [valTo, List.foldl_append]
theorem dig_bd {c : UInt8} (h : dig c = true) : 48 ≤ (c.toNat : Int) ∧ (c.toNat : Int) ≤ 57 := by simpa [dig, digB] using h
theorem valTo_bd : ∀ (l : List UInt8) (n : Int), l.all dig = true → 0 ≤ n → n * 10 ^ l.length ≤ valTo n l ∧ valTo n l < (n + 1) * 10 ^ l.length := by
  intro l
  induction l with
  | nil => intro n _ h; simp [valTo]; omega
  | cons c r ih =>
    intro n ha h0
    simp only [List.all_cons, Bool.and_eq_true] at ha
    have hc := dig_bd ha.1
    have := ih (10 * n + ((c.toNat : Int) - 48)) ha.2 (by omega)
    show n * 10 ^ (r.length + 1) ≤ valTo (10 * n + ((c.toNat : Int) - 48)) r ∧ valTo (10 * n + ((c.toNat : Int) - 48)) r < (n + 1) * 10 ^ (r.length + 1)
    have hp : (0 : Int) < 10 ^ r.length := Int.pow_pos (by decide)
    have e1 : n * 10 ^ (r.length + 1) = (10 * n) * 10 ^ r.length := by rw [Int.pow_succ]; rw [Int.mul_comm (10 ^ r.length) 10, ← Int.mul_assoc, Int.mul_comm n 10]
    have e2 : (n + 1) * 10 ^ (r.length + 1) = (10 * (n + 1)) * 10 ^ r.length := by rw [Int.pow_succ]; rw [Int.mul_comm (10 ^ r.length) 10, ← Int.mul_assoc, Int.mul_comm (n + 1) 10]
    rw [e1, e2]
    constructor
    · exact Int.le_trans (Int.mul_le_mul_of_nonneg_right (by omega) (Int.le_of_lt hp)) this.1
    · exact Int.lt_of_lt_of_le this.2 (Int.mul_le_mul_of_nonneg_right (by omega) (Int.le_of_lt hp))
theorem numTo_val : ∀ (l : List UInt8) (n : Int), l.all dig = true → 0 ≤ n → numTo (min n 1000000) l = min (valTo n l) 1000000 := by
  intro l
  induction l with
  | nil => intro n _ _; rfl
  | cons c r ih =>
    intro n ha h0
    simp only [List.all_cons, Bool.and_eq_true] at ha
    have hc := dig_bd ha.1
    have := ih (10 * n + ((c.toNat : Int) - 48)) ha.2 (by omega)
    show numTo (min (min n 1000000 * 10 + ((c.toNat : Int) - 48)) 1000000) r = min (valTo (10 * n + ((c.toNat : Int) - 48)) r) 1000000
    rw [← this]
    congr 1
    omega
theorem num_six (l : List UInt8) (h : digs l = true) (h0 : zero l = false) : num l = if 6 < l.length then (0, 2) else (valTo 0 l, 0) := by
  have had : l.all dig = true := by unfold digs at h; simp at h; exact h.2
  have hpos : 0 < l.length := by unfold digs at h; simp at h; exact h.1
  have e := numTo_val l 0 had (by omega)
  rw [show min (0 : Int) 1000000 = 0 by omega] at e
  have hb := valTo_bd l 0 had (by omega)
  unfold num
  rw [h, h0, e]
  simp only [Bool.not_true, Bool.or_false, Bool.false_eq_true, if_false]
  by_cases h6 : 6 < l.length
  · rw [if_pos h6]
    have hbig : 999999 < valTo 0 l := by
      cases l with
      | nil => simp at hpos
      | cons c r =>
        simp only [List.all_cons, Bool.and_eq_true] at had
        have hc := dig_bd had.1
        have hc48 : (c.toNat : Int) ≠ 48 := by
          intro hh
          have : c = 48 := by apply UInt8.toNat_inj.1; show c.toNat = 48; omega
          subst this
          simp [zero] at h0
          have : r.length + 1 > 6 := h6
          have h7 : r ≠ [] := by intro hr; subst hr; simp at this
          exact h7 h0
        have hv := (valTo_bd r (10 * 0 + ((c.toNat : Int) - 48)) had.2 (by omega)).1
        have hr : 6 ≤ r.length := by simp at h6; omega
        have hp : (1000000 : Int) ≤ 10 ^ r.length := by
          have := Nat.pow_le_pow_right (n := 10) (by omega) hr
          have h8 : ((10 ^ 6 : Nat) : Int) ≤ ((10 ^ r.length : Nat) : Int) := by exact_mod_cast this
          simpa using h8
        have h9 : (10 : Int) ^ r.length ≤ (10 * 0 + ((c.toNat : Int) - 48)) * 10 ^ r.length := by
          have := Int.mul_le_mul_of_nonneg_right (a := 1) (b := 10 * 0 + ((c.toNat : Int) - 48)) (c := 10 ^ r.length) (by omega) (by omega)
          simpa using this
        show 999999 < valTo (10 * 0 + ((c.toNat : Int) - 48)) r
        omega
    rw [if_neg (by omega)]
  · rw [if_neg h6]
    have hp : (10 : Int) ^ l.length ≤ 1000000 := by
      have := Nat.pow_le_pow_right (n := 10) (by omega) (show l.length ≤ 6 by omega)
      have h8 : ((10 ^ l.length : Nat) : Int) ≤ ((10 ^ 6 : Nat) : Int) := by exact_mod_cast this
      simpa using h8
    have : valTo 0 l < 1000000 := by have := hb.2; simp at this; omega
    rw [if_pos (by omega), show min (valTo 0 l) 1000000 = valTo 0 l by omega]
theorem val_le (l : List UInt8) (h : l.all dig = true) (h6 : l.length ≤ 6) : 0 ≤ valTo 0 l ∧ valTo 0 l < 1000000 := by
  have hb := valTo_bd l 0 h (by omega)
  have hp : (10 : Int) ^ l.length ≤ 1000000 := by
    have := Nat.pow_le_pow_right (n := 10) (by omega) h6
    have h8 : ((10 ^ l.length : Nat) : Int) ≤ ((10 ^ 6 : Nat) : Int) := by exact_mod_cast this
    simpa using h8
  have h1 := hb.1
  have h2 := hb.2
  simp at h1 h2
  omega
set_option maxHeartbeats 1000000 in
theorem numberOf_any (s : ByteArray) (w : World) (hs : s.size ≤ maxLen) :
    Calls Tryz.prog 90 #[.string s] w fun e w' => e = .returned (.tuple #[.int .i64 (num s.data.toList).1, .int .i64 ((num s.data.toList).2 : Nat)]) ∧ w' = w := by
  have HC := hid (areDigits_any s w hs)
  unfold maxLen at hs
  cases hz : digs s.data.toList
  · have HN := hid (show num s.data.toList = (0, 1) by simp [num, hz])
    rw [hz] at HC
    clear hz
    go_enter Tryz.func90, Tryz.ntmps90
    go_wp2_with fail
    refine HC.out.mono ?_
    rintro e w' ⟨rfl, rfl⟩
    go_wp2_with fail
    go_ret2
    exact ⟨by rw [HN.out]; rfl, rfl⟩
  have had : allDig s.data.toList = true := by unfold digs at hz; simp at hz; exact hz.2
  cases h0 : zero s.data.toList
  · have HN := hid (num_six s.data.toList hz h0)
    have HZ : Hid (¬ ∃ h : 1 < s.size, ((s[0].toNat : Int) == 48) = true) := fun h => by have := (zero_eq s).2 h; rw [h0] at this; cases this
    rw [len_eq] at HN
    rw [hz] at HC
    clear hz h0
    by_cases h1 : 1 < s.size
    · have h2 : ((s[0].toNat : Int) == 48) = false := by
        cases h : ((s[0].toNat : Int) == 48)
        · rfl
        · exact absurd ⟨h1, h⟩ HZ.out
      clear HZ
      by_cases h6 : 6 < s.size
      · rw [if_pos h6] at HN
        go_enter Tryz.func90, Tryz.ntmps90
        go_wp2_with fail
        refine HC.out.mono ?_
        rintro e w' ⟨rfl, rfl⟩
        go_wp2_with fail
        go_ret2
        exact ⟨by rw [HN.out]; rfl, rfl⟩
      · rw [if_neg h6] at HN
        have hl6 : s.data.toList.length ≤ 6 := by rw [len_eq]; omega
        have h6b : decide (6 < (s.size : Int)) = false := by simp; omega
        go_enter Tryz.func90, Tryz.ntmps90
        go_wp2_with fail
        refine HC.out.mono ?_
        rintro e w' ⟨rfl, rfl⟩
        go_wp2_with fail
        go_loop [5, 6] (fun n i => ∃ k : Nat, k ≤ s.size ∧ i = .int .i64 k ∧ n = .int .i64 (valTo 0 (s.data.toList.take k))) (fun _ i => s.size - (intOf i).toNat)
        case atStart => exact ⟨0, Nat.zero_le _, rfl, rfl⟩
        case round =>
          obtain ⟨k, hk, rfl, rfl⟩ := hrel
          obtain ⟨q0, q1⟩ := val_le _ (dig_take s had k) (show (s.data.toList.take k).length ≤ 6 by have := List.length_take_le k s.data.toList; omega)
          by_cases hlt : k < s.size
          · obtain ⟨d0, d1⟩ := dig_at s had k hlt
            have HS := hid (valTo_snoc 0 (s.data.toList.take k) s[k])
            rw [← take_snoc s k hlt] at HS
            generalize hn : valTo 0 (s.data.toList.take k) = n at *
            clear hn
            go_wp2_with fail
            go_round
            case rel => exact ⟨k + 1, by omega, by go_num, by rw [HS.out]⟩
            case measure => simp [intOf]; omega
          · have hk2 : s.data.toList.take k = s.data.toList := List.take_of_length_le (by simp; omega)
            rw [hk2]
            clear hk2 q0 q1
            go_wp2_with fail
            go_ret2
            exact ⟨by rw [HN.out]; rfl, rfl⟩
    · clear HZ
      have h6 : ¬ 6 < s.size := by omega
      rw [if_neg h6] at HN
      have hl6 : s.data.toList.length ≤ 6 := by rw [len_eq]; omega
      have h6b : decide (6 < (s.size : Int)) = false := by simp; omega
      have h1b : decide (1 < (s.size : Int)) = false := by simp; omega
      go_enter Tryz.func90, Tryz.ntmps90
      go_wp2_with fail
      refine HC.out.mono ?_
      rintro e w' ⟨rfl, rfl⟩
      go_wp2_with fail
      go_loop [5, 6] (fun n i => ∃ k : Nat, k ≤ s.size ∧ i = .int .i64 k ∧ n = .int .i64 (valTo 0 (s.data.toList.take k))) (fun _ i => s.size - (intOf i).toNat)
      case atStart => exact ⟨0, Nat.zero_le _, rfl, rfl⟩
      case round =>
        obtain ⟨k, hk, rfl, rfl⟩ := hrel
        obtain ⟨q0, q1⟩ := val_le _ (dig_take s had k) (show (s.data.toList.take k).length ≤ 6 by have := List.length_take_le k s.data.toList; omega)
        by_cases hlt : k < s.size
        · obtain ⟨d0, d1⟩ := dig_at s had k hlt
          have HS := hid (valTo_snoc 0 (s.data.toList.take k) s[k])
          rw [← take_snoc s k hlt] at HS
          generalize hn : valTo 0 (s.data.toList.take k) = n at *
          clear hn
          go_wp2_with fail
          go_round
          case rel => exact ⟨k + 1, by omega, by go_num, by rw [HS.out]⟩
          case measure => simp [intOf]; omega
        · have hk2 : s.data.toList.take k = s.data.toList := List.take_of_length_le (by simp; omega)
          rw [hk2]
          clear hk2 q0 q1
          go_wp2_with fail
          go_ret2
          exact ⟨by rw [HN.out]; rfl, rfl⟩
  · have HN := hid (show num s.data.toList = (0, 1) by simp [num, h0])
    obtain ⟨h1, h2⟩ := (zero_eq s).1 h0
    rw [hz] at HC
    clear hz h0
    go_enter Tryz.func90, Tryz.ntmps90
    go_wp2_with fail
    refine HC.out.mono ?_
    rintro e w' ⟨rfl, rfl⟩
    go_wp2_with fail
    go_ret2
    exact ⟨by rw [HN.out]; rfl, rfl⟩
theorem str_ext {a b : ByteArray} (h : a.data.toList = b.data.toList) : a = b := by
  cases a; cases b; congr 1; exact Array.toList_inj.1 h
theorem str_ne {a b : ByteArray} (h : ¬ a = b) : (a.toList == b.toList) = false := by
  rw [beq_eq_false_iff_ne, ByteArray.toList_eq, ByteArray.toList_eq]
  intro e; exact h (str_ext e)
end Ve
end Go.Proofs.YtjhlkjgijbobcaaGreatDoor
namespace Go.Proofs.YtjhlkjgijbobcaaGreatDoor
open Go.RowKit
namespace Ve
theorem split_any (c : UInt8) (s : ByteArray) (m : Int) (w : World) (hs : s.size < 4294967281) (hm : w.cell? ⟨11, 0, none⟩ = some (.int .i64 m)) :
    Calls Tryz.prog 77 #[.string s, .string ⟨#[c]⟩] w fun e w' => ∃ X : List ByteArray, e = .returned (.slice (some ⟨w.heap.size, 0, none⟩) X.length X.length) ∧ bl X = cutAt c s.data.toList ∧
      (∀ j (h : j < X.length), w'.cell? ⟨w.heap.size, 0 + j, none⟩ = some (.string X[j])) ∧ Below w.heap.size w w' ∧ w.heap.size < w'.heap.size := by
  refine (Tryz.strings_Split s ⟨#[c]⟩ m w hs hm (Nat.le_refl 1)).mono fun e w' ⟨h1, h2⟩ => ?_
  have hlen := Lib.splitB_all ⟨#[c]⟩ (Nat.le_refl 1) 0 _ s rfl
  refine ⟨Lib.splitB ⟨#[c]⟩ 0 (Lib.countB s ⟨#[c]⟩) s, ?_, bl_split c s, ?_, ?_, ?_⟩
  · rw [h1, hlen]
  · intro j hj
    rw [h2, World.cell?_alloc_at _ _ _ _ rfl]
    simp [hj]
  · rw [h2]; exact (Below.refl _ _).alloc (Nat.le_refl _) _
  · rw [h2]; simp
theorem piece_le {c : UInt8} {s x : ByteArray} {X : List ByteArray} (hX : bl X = cutAt c s.data.toList) (hx : x ∈ X) : x.size ≤ s.size := by
  have := cutAt_le c s.data.toList _ (hX ▸ bl_mem hx)
  simpa using this
theorem many_le {c : UInt8} {s : ByteArray} {X : List ByteArray} (hX : bl X = cutAt c s.data.toList) : X.length ≤ s.size + 1 := by
  have := cutAt_many c s.data.toList
  rw [← hX, bl_len] at this
  simpa using this
theorem infoInt : (Tryz.prog.info? 3).map (fun i => (i.zero, i.size, i.bytes)) = some (some (.int .i64 0), 1, 8) := by kernel_rfl
theorem owns_below {w w' : World} {base : Nat} {e : TypeId} {size : Nat} {v : Value} {n : Nat} {xs : List Value} (h : w.ownsRow base e size v n xs) (hb : Below w.heap.size w w') : w'.ownsRow base e size v n xs := by
  obtain ⟨hl, h | ⟨g, cap, cur, e1, e2, e3, e4, e5, e6, e7⟩⟩ := h
  · exact ⟨hl, Or.inl h⟩
  · exact ⟨hl, Or.inr ⟨g, cap, cur, e1, e2, by rw [hb.block _ (lt_of_blk e3)]; exact e3, e4, e5, e6, e7⟩⟩
theorem rel_app {B : Nat} {w wr w2 w3 : World} {e : TypeId} {v : Value} {n : Nat} {xs : List Value} {o : Obj} (hB : B ≤ wr.heap.size) (hb : Below B w wr) (hown : wr.ownsRow B e 1 v n xs) (hb2 : Below wr.heap.size wr w2)
    (hg : (w2.alloc o).grownBy w3 v.ownBlock) : Below B w w3 := by
  have h2 : Below B w w2 := hb.trans (hb2.mono hB)
  have h3 : Below B w (w2.alloc o) := h2.alloc (Nat.le_trans hB hb2.size) o
  exact h3.grown hg (by simp; exact Nat.le_succ_of_le (Nat.le_trans hB hb2.size)) (fun k hk => (hown.lt k hk).1)
set_option maxHeartbeats 1000000 in
theorem nums_any (s : ByteArray) (aT aB : Addr) (m : Int) (w : World) (hs : s.size < 4294967281) (S : Vs w aT aB m) :
    Calls Tryz.prog 111 #[.string s] w fun e w' => ∃ v, e = .returned (.tuple #[v, errV aT aB (numsErr (cutAt 46 s.data.toList))]) ∧
      w'.ownsRow w.heap.size 3 1 v (cutAt 46 s.data.toList).length ((numsOf (cutAt 46 s.data.toList)).map (Value.int .i64)) ∧ Below w.heap.size w w' := by
  obtain ⟨i0, hi, hz0, hz1, hz2⟩ := info_parts infoInt
  have HS := hid S
  clear S
  go_enter Tryz.func111, Tryz.ntmps111
  go_wp2_with fail
  refine (split_any 46 s m w hs HS.out.ml).mono ?_
  rintro e w1 ⟨X, rfl, hX, hc, hb, hz⟩
  have HX := hid hX
  have HC := hid hc
  have HB := hid hb
  have hn := many_le hX
  clear hX hc hb
  go_wp2_with fail
  go_loopw [4, 5, 13] (fun v bad i wr => ∃ k : Nat, k ≤ X.length ∧ i = .int .i64 k ∧ bad = errV aT aB (numsErr (bl (X.take k))) ∧
      wr.ownsRow w1.heap.size 3 1 v k ((numsOf (bl (X.take k))).map (Value.int .i64)) ∧ Below w1.heap.size w1 wr) (fun _ _ i _ => X.length - (intOf i).toNat)
  case atStart => exact ⟨0, Nat.zero_le _, rfl, rfl, World.ownsRow_nil _ _ _ _, Below.refl _ _⟩
  case round =>
    obtain ⟨k, hk, rfl, rfl, hown, hbr⟩ := hrel
    have HO := hid hown
    have HBR := hid hbr
    clear hown hbr
    have hz2' := HBR.out.size
    by_cases hlt : k < X.length
    · have hcell : wr.cell? ⟨w.heap.size, k, none⟩ = some (.string X[k]) := by
        have := HC.out k hlt
        rw [Nat.zero_add] at this
        exact cell_below HBR.out this
      have HE := hid (numsErr_err (bl (X.take k)))
      have HSN := hid (numsErr_snoc (bl (X.take k)) X[k].data.toList)
      have HON := hid (numsOf_snoc (bl (X.take k)) X[k].data.toList)
      rw [← bl_take_snoc X k hlt] at HSN HON
      have HXK := hid (show X[k].size ≤ maxLen by have := piece_le HX.out (List.getElem_mem hlt); unfold maxLen; omega)
      have HW := hid (HB.out.trans (HBR.out.mono HB.out.size))
      generalize hq : numsErr (bl (X.take k)) = q at *
      generalize hq2 : numsOf (bl (X.take k)) = q2 at *
      clear hq hq2
      go_wp2_with fail
      refine (num_any X[k] aT aB m wr HXK.out (HS.out.below HW.out)).mono ?_
      rintro e w2 ⟨rfl, hb2⟩
      have HB2 := hid hb2
      have HPE := hid (num_err X[k].data.toList)
      have hz3 := hb2.size
      clear hb2
      go_wp2_with fail
      refine (worse_any q _ aT aB m w2 (HS.out.below (HW.out.trans (HB2.out.mono HW.out.size))) HE.out HPE.out).mono ?_
      rintro e w' ⟨rfl, rfl⟩
      rw [← HSN.out]
      go_wp2_with (at_builtin; refine wpList_append_own _ rfl _ _ 163 rfl w1.heap.size 3 i0 (.int .i64 0) 1 8 Tryz.underlying163 hi hz0 hz1 hz2 rfl (by decide) _ _ _ rfl ((owns_below HO.out HB2.out).alloc _) ⟨w'.heap.size, 0, none⟩ 1 1 [.int .i64 (num X[k].data.toList).1] rfl rfl ?c1 ?c2 ?c3 ?c4 ?c5 ?_)
      case c1 =>
        intro j u hj
        match j, hj with
        | 0, hj => simp at hj; subst hj; simp [Addr.add]
      case c2 => intro u hu; simp at hu; subst hu; rfl
      case c3 => unfold maxLen; omega
      case c4 => omega
      case c5 => simp; omega
      intro v' w3 hown' hgrow _
      have HR := hid (rel_app hz2' HBR.out HO.out HB2.out hgrow)
      have HO' := hid hown'
      clear hown' hgrow
      go_wp2_with fail
      go_roundw
      case rel => exact ⟨k + 1, by omega, by go_num, rfl, by rw [HON.out]; simpa using HO'.out, HR.out⟩
      case measure => simp [intOf]; omega
    · have hkk : X.take k = X := List.take_of_length_le (by omega)
      have hkl : k = X.length := by omega
      rw [hkk] at HO ⊢
      subst hkl
      have HL := hid (show (cutAt 46 s.data.toList).length = X.length by rw [← HX.out, bl_len])
      have HF := hid (HB.out.trans (HBR.out.mono HB.out.size))
      clear hkk
      go_wp2_with fail
      go_ret2
      exact ⟨_, by rw [HX.out]; rfl, by rw [HL.out, ← HX.out]; exact HO.out.mono HB.out.size, HF.out⟩
end Ve
end Go.Proofs.YtjhlkjgijbobcaaGreatDoor
namespace Go.Proofs.YtjhlkjgijbobcaaGreatDoor
open Go.RowKit Go.Extern.Stop Go.Stop Go.Extern
namespace Er
set_option maxHeartbeats 1000000 in
theorem coded_of (v : Value) (c at_ n : Int) (w : World) (hc : ∀ W, W = w → Calls Tryz.prog 23 #[v] W fun e w' => e = .returned (.tuple #[.int .i64 c, .int .i64 at_]) ∧ Below w.heap.size w w') (h1 : (c == n) = true) (h2 : (at_ == -1) = true) :
    Calls Tryz.prog 18 #[v, .int .i64 n] w fun e w' => e = .returned (.bool true) ∧ Below w.heap.size w w' := by
  have HC := hid hc
  clear hc
  go_enter Tryz.func18, Tryz.ntmps18
  go_wp2_with fail
  refine (HC.out _ rfl).mono ?_
  rintro e w1 ⟨rfl, hb⟩
  have HB := hid hb
  clear hb
  go_wp2_with fail
  go_ret
  exact ⟨rfl, HB.out⟩
theorem coded_nil (w : World) : Calls Tryz.prog 18 #[.nilIface, .int .i64 0] w fun e w' => e = .returned (.bool true) ∧ Below w.heap.size w w' :=
  coded_of .nilIface 0 (-1) 0 w (fun W hW => by rw [hW]; exact (code_nil w).mono fun e w' h => ⟨h.1, by rw [h.2]; exact Below.refl _ _⟩) rfl rfl
theorem coded_sen (A : Nat → Addr) (j : Nat) (w : World) (S : Sen w A) (hj : j < 10) : Calls Tryz.prog 18 #[.iface 201 (.pointer (some (A j))), .int .i64 ((j : Int) + 1)] w fun e w' => e = .returned (.bool true) ∧ Below w.heap.size w w' :=
  coded_of _ ((j : Int) + 1) (-1) ((j : Int) + 1) w (fun W hW => by rw [hW]; exact code_sen A j w S hj) (by simp) (by simp)
end Er
end Go.Proofs.YtjhlkjgijbobcaaGreatDoor
