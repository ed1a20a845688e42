
import Derived.Test.YtpafkniapacfdaaGreatDoorProg
import Derived.Test.YtpafkniapacfdaaGreatDoorSq1
import Derived.WalkKit
import Derived.LaidEql
import Derived.Stop.Asserts
import Derived.RowKitTokens
import Derived.Deep.QuietTactic
import Derived.BigQuiet
import Derived.Lib.Split
import Derived.Lib.SplitLaws
import Derived.Lib.CutLaws
import Derived.Lib.IndexMore
import Derived.Shelf.Strings.Builder1
import Derived.Shelf.Strings.Builder2
import Derived.Shelf.Strings.OnBuilder
import Derived.Shelf.Strings.Trim
import Derived.Shelf.Small.Utf8
import Derived.Shelf.Small.Bits
import Derived.Shelf.Small.Strs
import Derived.Shelf.Small.Wraps
import Derived.Shelf.Strconv.Itoa0
import Derived.Shelf.Strconv.Itoa1
import Derived.Shelf.LaysM
import Derived.Shelf.Strconv.Itoa2
import Derived.Shelf.Strconv.Itoa3
import Derived.Shelf.Strings.Search1
import Derived.Shelf.Strings.Search2
import Derived.Shelf.Strings.Search3
import Derived.Shelf.Strings.Cut
import Derived.Shelf.Strings.Count
import Derived.Shelf.Strings.Shaped
import Derived.Shelf.Strings.Prefix
import Derived.Shelf.Strings.Split
import Derived.Shelf.Strings.Runes
import Derived.Shelf.Strings.AsciiSet
import Derived.Shelf.Unicode.DecodeSlow
import Derived.Shelf.Slices.Equal
import Derived.Shelf.Slices.CompactS
import Derived.Shelf.Slices.Empties2
import Derived.Ground.MpProg
import Derived.Shelf.Pu.ParseUintPublic10
namespace Go.Proofs.YtpafkniapacfdaaGreatDoor
open Go.RowKit
namespace Ve
theorem hid {p : Prop} (h : p) : Hid p := h
theorem ret_bool {a b : Bool} (h : a = b) : Ending.returned (.bool a) = .returned (.bool b) := by rw [h]
theorem ret_int {k : IntKind} {a b : Int} (h : a = b) : Ending.returned (.int k a) = .returned (.int k b) := by rw [h]
theorem isDigit_any (c : Int) (w : World) (h0 : 0 ≤ c) (h1 : c ≤ 255) :
    Calls Tryz.prog 208 #[.int .u8 c] w fun e w' => e = .returned (.bool (digB c)) ∧ w' = w := by
  by_cases a : 48 ≤ c
  all_goals
    go_enter Tryz.func208, Tryz.ntmps208
    go_wp2
    go_ret
    exact ⟨ret_bool (by unfold digB; rw [Bool.eq_iff_iff]; simp <;> omega), rfl⟩
theorem small_any (c : Int) (w : World) (h0 : 0 ≤ c) (h1 : c ≤ 255) :
    Calls Tryz.prog 230 #[.int .u8 c] w fun e w' => e = .returned (.bool (decide (97 ≤ c ∧ c ≤ 122))) ∧ w' = w := by
  by_cases a : 97 ≤ c
  all_goals
    go_enter Tryz.func230, Tryz.ntmps230
    go_wp2
    go_ret
    exact ⟨ret_bool (by rw [Bool.eq_iff_iff]; simp <;> omega), rfl⟩
theorem inPart_any (c : Int) (w : World) (h0 : 0 ≤ c) (h1 : c ≤ 255) :
    Calls Tryz.prog 234 #[.int .u8 c] w fun e w' => e = .returned (.bool (parB c)) ∧ w' = w := by
  have HP := hid (show parB c = (digB c || decide (97 ≤ c ∧ c ≤ 122) || decide (65 ≤ c ∧ c ≤ 90) || c == 45) from rfl)
  have HC := hid (isDigit_any c w h0 h1)
  have HS := hid (small_any c w h0 h1)
  cases hd : digB c
  · rw [hd] at HC HP
    clear hd
    cases hs : decide (97 ≤ c ∧ c ≤ 122)
    · rw [hs] at HS HP
      clear hs
      by_cases b1 : 65 ≤ c
      all_goals by_cases b2 : c ≤ 90
      all_goals try (exfalso; omega)
      all_goals
        go_enter Tryz.func234, Tryz.ntmps234
        go_wp2_with fail
        refine HC.out.mono ?_
        rintro e w' ⟨rfl, rfl⟩
        go_wp2_with fail
        refine HS.out.mono ?_
        rintro e w' ⟨rfl, rfl⟩
        go_wp2_with fail
      all_goals
        go_ret
        exact ⟨ret_bool (by rw [HP.out, Bool.eq_iff_iff]; simp <;> omega), rfl⟩
    · rw [hs] at HS HP
      clear hs
      go_enter Tryz.func234, Tryz.ntmps234
      go_wp2_with fail
      refine HC.out.mono ?_
      rintro e w' ⟨rfl, rfl⟩
      go_wp2_with fail
      refine HS.out.mono ?_
      rintro e w' ⟨rfl, rfl⟩
      go_wp2_with fail
      go_ret
      exact ⟨ret_bool (by rw [HP.out]; rfl), rfl⟩
  · rw [hd] at HC HP
    clear hd
    go_enter Tryz.func234, Tryz.ntmps234
    go_wp2_with fail
    refine HC.out.mono ?_
    rintro e w' ⟨rfl, rfl⟩
    go_wp2_with fail
    go_ret
    exact ⟨ret_bool (by rw [HP.out]; rfl), rfl⟩
set_option maxHeartbeats 400000 in
theorem every_dig (s : ByteArray) (w : World) (hs : s.size ≤ maxLen) :
    Calls Tryz.prog 185 #[.string s, .func (.func 208) #[] #[]] w fun e w' => e = .returned (.bool (allDig s.data.toList)) ∧ w' = w := by
  unfold maxLen at hs
  go_enter Tryz.func185, Tryz.ntmps185
  go_wp2_with fail
  go_loop [8] (fun i => ∃ k : Nat, k ≤ s.size ∧ i = .int .i64 k ∧ Hid ((s.data.toList.take k).all dig = true)) (fun i => s.size - (intOf i).toNat)
  case atStart => exact ⟨0, Nat.zero_le _, rfl, hid rfl⟩
  case round =>
    obtain ⟨k, hk, rfl, HA⟩ := hrel
    by_cases hlt : k < s.size
    · have HS := hid (all_snoc dig (s.data.toList.take k) s[k])
      rw [← take_snoc s k hlt, HA.out, Bool.true_and] at HS
      cases hd : dig s[k]
      · rw [hd] at HS
        have HX := hid (show allDig s.data.toList = false by
          have h2 : allDig s.data.toList = ((s.data.toList.take (k + 1)).all dig && (s.data.toList.drop (k + 1)).all dig) := by rw [← List.all_append, List.take_append_drop]; rfl
          rw [h2, HS.out]; rfl)
        have HC := hid (fun W => isDigit_any (s[k].toNat : Int) W (by omega) (by have := s[k].toNat_lt; omega))
        have HD := hid (show digB (s[k].toNat : Int) = false from hd)
        clear hd
        go_wp2_with fail
        refine (HC.out _).mono ?_
        rintro e w' ⟨rfl, rfl⟩
        rw [HD.out]
        go_wp2_with fail
        go_ret
        exact ⟨ret_bool HX.out.symm, rfl⟩
      · rw [hd] at HS
        have HC := hid (fun W => isDigit_any (s[k].toNat : Int) W (by omega) (by have := s[k].toNat_lt; omega))
        have HD := hid (show digB (s[k].toNat : Int) = true from hd)
        clear hd
        go_wp2_with fail
        refine (HC.out _).mono ?_
        rintro e w' ⟨rfl, rfl⟩
        rw [HD.out]
        go_wp2_with fail
        go_round
        case rel => exact ⟨k + 1, by omega, by go_num, HS⟩
        case measure => simp [intOf]; omega
    · have HX := hid (show allDig s.data.toList = true by
        have h2 : s.data.toList.take k = s.data.toList := List.take_of_length_le (by simp; omega)
        have := HA.out; rw [h2] at this; exact this)
      go_wp2_with fail
      go_ret
      exact ⟨ret_bool HX.out.symm, rfl⟩
set_option maxHeartbeats 400000 in
theorem every_par (s : ByteArray) (w : World) (hs : s.size ≤ maxLen) :
    Calls Tryz.prog 185 #[.string s, .func (.func 234) #[] #[]] w fun e w' => e = .returned (.bool (allPar s.data.toList)) ∧ w' = w := by
  unfold maxLen at hs
  go_enter Tryz.func185, Tryz.ntmps185
  go_wp2_with fail
  go_loop [8] (fun i => ∃ k : Nat, k ≤ s.size ∧ i = .int .i64 k ∧ Hid ((s.data.toList.take k).all par = true)) (fun i => s.size - (intOf i).toNat)
  case atStart => exact ⟨0, Nat.zero_le _, rfl, hid rfl⟩
  case round =>
    obtain ⟨k, hk, rfl, HA⟩ := hrel
    by_cases hlt : k < s.size
    · have HS := hid (all_snoc par (s.data.toList.take k) s[k])
      rw [← take_snoc s k hlt, HA.out, Bool.true_and] at HS
      cases hd : par s[k]
      · rw [hd] at HS
        have HX := hid (show allPar s.data.toList = false by
          have h2 : allPar s.data.toList = ((s.data.toList.take (k + 1)).all par && (s.data.toList.drop (k + 1)).all par) := by rw [← List.all_append, List.take_append_drop]; rfl
          rw [h2, HS.out]; rfl)
        have HC := hid (fun W => inPart_any (s[k].toNat : Int) W (by omega) (by have := s[k].toNat_lt; omega))
        have HD := hid (show parB (s[k].toNat : Int) = false from hd)
        clear hd
        go_wp2_with fail
        refine (HC.out _).mono ?_
        rintro e w' ⟨rfl, rfl⟩
        rw [HD.out]
        go_wp2_with fail
        go_ret
        exact ⟨ret_bool HX.out.symm, rfl⟩
      · rw [hd] at HS
        have HC := hid (fun W => inPart_any (s[k].toNat : Int) W (by omega) (by have := s[k].toNat_lt; omega))
        have HD := hid (show parB (s[k].toNat : Int) = true from hd)
        clear hd
        go_wp2_with fail
        refine (HC.out _).mono ?_
        rintro e w' ⟨rfl, rfl⟩
        rw [HD.out]
        go_wp2_with fail
        go_round
        case rel => exact ⟨k + 1, by omega, by go_num, HS⟩
        case measure => simp [intOf]; omega
    · have HX := hid (show allPar s.data.toList = true by
        have h2 : s.data.toList.take k = s.data.toList := List.take_of_length_le (by simp; omega)
        have := HA.out; rw [h2] at this; exact this)
      go_wp2_with fail
      go_ret
      exact ⟨ret_bool HX.out.symm, rfl⟩
end Ve
end Go.Proofs.YtpafkniapacfdaaGreatDoor


namespace Go.Proofs.YtpafkniapacfdaaGreatDoor
namespace Ve
def ahead (b : UInt8) : List (List UInt8) → List (List UInt8)
  | [] => [[b]]
  | h :: t => (b :: h) :: t
def cutAt (c : UInt8) : List UInt8 → List (List UInt8)
  | [] => [[]]
  | b :: l => if b = c then [] :: cutAt c l else ahead b (cutAt c l)
theorem ahead_len (b : UInt8) (x : List (List UInt8)) (h : x ≠ []) : (ahead b x).length = x.length := by cases x <;> simp_all [ahead]
theorem cutAt_ne (c : UInt8) (l : List UInt8) : cutAt c l ≠ [] := by
  cases l with
  | nil => simp [cutAt]
  | cons b l =>
    unfold cutAt
    split
    · simp
    · cases cutAt c l <;> simp [ahead]
theorem index_cons_ne (b c : UInt8) (l : List UInt8) (h : b ≠ c) : Lib.index (b :: l) [c] = if Lib.index l [c] == -1 then -1 else Lib.index l [c] + 1 := by
  have : ([c] : List UInt8).isPrefixOf (b :: l) = false := by simp [List.isPrefixOf]; exact fun e => h e.symm
  rw [Lib.index, this]; rfl
theorem index_cons_eq (c : UInt8) (l : List UInt8) : Lib.index (c :: l) [c] = 0 := by
  have : ([c] : List UInt8).isPrefixOf (c :: l) = true := by simp [List.isPrefixOf]
  rw [Lib.index, this]; rfl
theorem splitK_ahead (b c : UInt8) (h : b ≠ c) (k : Nat) (l : List UInt8) : Lib.splitK [c] 0 k (b :: l) = ahead b (Lib.splitK [c] 0 k l) := by
  cases k with
  | zero => rfl
  | succ k =>
    have hge := Lib.index_ge l [c]
    unfold Lib.splitK
    rw [index_cons_ne b c l h]
    by_cases e : Lib.index l [c] = -1
    · rw [e]; rfl
    · obtain ⟨i, hi⟩ : ∃ i : Nat, Lib.index l [c] = i := ⟨(Lib.index l [c]).toNat, by omega⟩
      rw [hi]
      have e1 : ((i : Int) == -1) = false := by simp
      have e2 : ((i : Int) + 1 == -1) = false := by simp; omega
      have e3 : ((i : Int) + 1).toNat = i + 1 := by omega
      simp [e1, e2, e3, ahead]
theorem splitK_cutAt (c : UInt8) (l : List UInt8) : Lib.splitK [c] 0 (Lib.count l [c]) l = cutAt c l := by
  induction l with
  | nil => simp [Lib.count_one, Lib.splitK, cutAt]
  | cons b l ih =>
    by_cases h : b = c
    · subst h
      rw [Lib.count_cons_eq, Nat.add_comm]
      unfold Lib.splitK
      rw [index_cons_eq]
      simp only [cutAt, if_true]
      simpa using ih
    · rw [Lib.count_cons_ne b c l h, splitK_ahead b c h, ih]
      simp [cutAt, h]
theorem bl_split (c : UInt8) (s : ByteArray) : bl (Lib.splitB ⟨#[c]⟩ 0 (Lib.countB s ⟨#[c]⟩) s) = cutAt c s.data.toList := by
  unfold bl
  rw [Lib.splitB_data]
  exact splitK_cutAt c s.data.toList
def one (c : UInt8) (l : List UInt8) : List UInt8 × List UInt8 × Bool := (l.takeWhile (· != c), (l.dropWhile (· != c)).drop 1, l.contains c)
theorem cut_one (c : UInt8) (l : List UInt8) : Lib.cut l [c] = one c l := by
  induction l with
  | nil => simp [Lib.cut, Lib.index, one]
  | cons b l ih =>
    by_cases h : b = c
    · subst h
      unfold Lib.cut
      rw [index_cons_eq]
      simp [one]
    · have hge := Lib.index_ge l [c]
      unfold Lib.cut at ih ⊢
      rw [index_cons_ne b c l h]
      have hb : (b != c) = true := by simp [h]
      have hc : (b :: l).contains c = l.contains c := by simp; intro e; exact absurd e.symm h
      simp only [one, List.takeWhile_cons, List.dropWhile_cons, hb, if_true, hc] at ih ⊢
      by_cases e : Lib.index l [c] = -1
      · rw [e] at ih ⊢
        simp only [show ¬ (0 : Int) ≤ -1 by decide, if_false, Prod.mk.injEq] at ih
        simp only [beq_self_eq_true, if_true, show ¬ (0 : Int) ≤ -1 by decide, if_false, Prod.mk.injEq]
        exact ⟨by rw [← ih.1], ih.2.1, ih.2.2⟩
      · obtain ⟨i, hi⟩ : ∃ i : Nat, Lib.index l [c] = i := ⟨(Lib.index l [c]).toNat, by omega⟩
        rw [hi] at ih ⊢
        have e1 : ((i : Int) == -1) = false := by simp
        have e3 : ((i : Int) + 1).toNat = i + 1 := by omega
        rw [if_pos (by omega)] at ih
        simp only [Prod.mk.injEq, Int.toNat_natCast, List.length_singleton] at ih
        rw [e1]
        simp only [Bool.false_eq_true, if_false]
        rw [if_pos (by omega), e3]
        simp only [Prod.mk.injEq, List.length_singleton, List.take_succ_cons, List.drop_succ_cons]
        exact ⟨by rw [← ih.1], ih.2.1, ih.2.2⟩
theorem cutAt_le (c : UInt8) (l : List UInt8) : ∀ p, p ∈ cutAt c l → p.length ≤ l.length := by
  induction l with
  | nil => intro p hp; simp [cutAt] at hp; simp [hp]
  | cons b l ih =>
    intro p hp
    unfold cutAt at hp
    split at hp
    · rcases List.mem_cons.1 hp with rfl | h
      · simp
      · have := ih p h; simp; omega
    · cases hq : cutAt c l with
      | nil => exact absurd hq (cutAt_ne c l)
      | cons h t =>
        rw [hq] at hp ih
        simp only [ahead, List.mem_cons] at hp
        rcases hp with rfl | hp
        · have := ih h (List.mem_cons_self); simp; omega
        · have := ih p (List.mem_cons_of_mem _ hp); simp; omega
theorem cutAt_many (c : UInt8) (l : List UInt8) : (cutAt c l).length ≤ l.length + 1 := by
  induction l with
  | nil => simp [cutAt]
  | cons b l ih =>
    unfold cutAt
    split
    · simp; omega
    · rw [ahead_len b _ (cutAt_ne c l)]; simp; omega
theorem bl_mem {X : List ByteArray} {x : ByteArray} (h : x ∈ X) : x.data.toList ∈ bl X := List.mem_map.2 ⟨x, h, rfl⟩
def numsErr (ps : List (List UInt8)) : Nat := ps.foldl (fun b p => worse b (num p).2) 0
def numsOf (ps : List (List UInt8)) : List Int := ps.map fun p => (num p).1
theorem numsErr_snoc (ps : List (List UInt8)) (p : List UInt8) : numsErr (ps ++ [p]) = worse (numsErr ps) (num p).2 := by simp [numsErr, List.foldl_append]
theorem numsErr_err (ps : List (List UInt8)) : numsErr ps = 0 ∨ numsErr ps = 1 ∨ numsErr ps = 2 := by
  have key : ∀ (ps : List (List UInt8)) (b : Nat), (b = 0 ∨ b = 1 ∨ b = 2) → ps.foldl (fun b p => worse b (num p).2) b = 0 ∨ ps.foldl (fun b p => worse b (num p).2) b = 1 ∨ ps.foldl (fun b p => worse b (num p).2) b = 2 := by
    intro ps
    induction ps with
    | nil => intro b hb; exact hb
    | cons p r ih => intro b hb; exact ih _ (worse_err hb (num_err p))
  exact key ps 0 (Or.inl rfl)
theorem numsOf_snoc (ps : List (List UInt8)) (p : List UInt8) : numsOf (ps ++ [p]) = numsOf ps ++ [(num p).1] := by simp [numsOf]
theorem numsOf_len (ps : List (List UInt8)) : (numsOf ps).length = ps.length := by simp [numsOf]
end Ve
end Go.Proofs.YtpafkniapacfdaaGreatDoor


namespace Go.Proofs
open Go.Shelf
def Tryz.lays160_ren : Go.Shelf.Ren := ⟨fun | 160 => 183 | 232 => 224 | 231 => 223 | 227 => 225 | 234 => 227 | 233 => 226 | 236 => 229 | 235 => 228 | 228 => 249 | 271 => 251 | 151 => 250 | 197 => 205 | 120 => 267 | 152 => 266 | 260 => 240 | 137 => 76 | 119 => 273 | 224 => 242 | 225 => 241 | 217 => 111 | 266 => 155 | n => n, fun | 9 => 9 | 4 => 4 | 3 => 3 | 5 => 5 | 117 => 269 | 116 => 268 | 0 => 0 | 124 => 272 | 21 => 21 | 105 => 252 | 46 => 136 | 119 => 285 | 139 => 288 | 138 => 287 | n => n, fun | 3 => 17 | 4 => 18 | n => n⟩
theorem Tryz.lays160 : Go.Proofs.Lays.n160 Tryz.prog Tryz.lays160_ren := {
  mixed := by kernel_rfl
  f119 := Tryz.func273.trans (congrArg some (by kernel_rfl))
  f120 := Tryz.func267.trans (congrArg some (by kernel_rfl))
  f137 := Tryz.func76.trans (congrArg some (by kernel_rfl))
  f151 := Tryz.func250.trans (congrArg some (by kernel_rfl))
  f152 := Tryz.func266.trans (congrArg some (by kernel_rfl))
  f160 := Tryz.func183.trans (congrArg some (by kernel_rfl))
  f197 := Tryz.func205.trans (congrArg some (by kernel_rfl))
  f217 := Tryz.func111.trans (congrArg some (by kernel_rfl))
  f224 := Tryz.func242.trans (congrArg some (by kernel_rfl))
  f225 := Tryz.func241.trans (congrArg some (by kernel_rfl))
  f227 := Tryz.func225.trans (congrArg some (by kernel_rfl))
  f228 := Tryz.func249.trans (congrArg some (by kernel_rfl))
  f231 := Tryz.func223.trans (congrArg some (by kernel_rfl))
  f232 := Tryz.func224.trans (congrArg some (by kernel_rfl))
  f233 := Tryz.func226.trans (congrArg some (by kernel_rfl))
  f234 := Tryz.func227.trans (congrArg some (by kernel_rfl))
  f235 := Tryz.func228.trans (congrArg some (by kernel_rfl))
  f236 := Tryz.func229.trans (congrArg some (by kernel_rfl))
  f260 := Tryz.func240.trans (congrArg some (by kernel_rfl))
  f266 := Tryz.func155.trans (congrArg some (by kernel_rfl))
  f271 := Tryz.func251.trans (congrArg some (by kernel_rfl))
  t0 := Tryz.underlying0
  a0 := Tryz.isAgg0
  z0 := Tryz.sizeOf0
  v0 := Tryz.zeroValue0
  t3 := Tryz.underlying3
  a3 := Tryz.isAgg3
  z3 := Tryz.sizeOf3
  v3 := Tryz.zeroValue3
  t4 := Tryz.underlying4
  a4 := Tryz.isAgg4
  z4 := Tryz.sizeOf4
  v4 := Tryz.zeroValue4
  t5 := Tryz.underlying5
  a5 := Tryz.isAgg5
  z5 := Tryz.sizeOf5
  v5 := Tryz.zeroValue5
  t9 := Tryz.underlying9
  a9 := Tryz.isAgg9
  z9 := Tryz.sizeOf9
  v9 := Tryz.zeroValue9
  t21 := Tryz.underlying21
  a21 := Tryz.isAgg21
  z21 := Tryz.sizeOf21
  v21 := Tryz.zeroValue21
  t46 := Tryz.underlying136
  a46 := Tryz.isAgg136
  z46 := Tryz.sizeOf136
  v46 := Tryz.zeroValue136
  t105 := Tryz.underlying252
  a105 := Tryz.isAgg252
  z105 := Tryz.sizeOf252
  v105 := Tryz.zeroValue252
  t116 := Tryz.underlying268
  a116 := Tryz.isAgg268
  z116 := Tryz.sizeOf268
  t117 := Tryz.underlying269
  a117 := Tryz.isAgg269
  z117 := Tryz.sizeOf269
  v117 := Tryz.zeroValue269
  t119 := Tryz.underlying285
  a119 := Tryz.isAgg285
  z119 := Tryz.sizeOf285
  t124 := Tryz.underlying272
  a124 := Tryz.isAgg272
  z124 := Tryz.sizeOf272
  v124 := Tryz.zeroValue272
  t138 := Tryz.underlying287
  a138 := Tryz.isAgg287
  z138 := Tryz.sizeOf287
  v138 := Tryz.zeroValue287
  t139 := Tryz.underlying288
  a139 := Tryz.isAgg288
  z139 := Tryz.sizeOf288
  v139 := Tryz.zeroValue288
  g3 := by kernel_rfl
  g4 := by kernel_rfl }
open Go.RowKit in
theorem Tryz.strings_Trim_one (s : ByteArray) (c : UInt8) (hc : c.toNat < 128) (w : World) (hs : s.size ≤ 9223372036854775807) :
    Calls Tryz.prog 183 #[.string s, .string ⟨#[c]⟩] w fun e w' => e = .returned (.string ⟨(Lib.trimB s.data.toList c).toArray⟩) ∧ (w' = w ∨ w' = w.drew) := Any.strings_Trim_one Tryz.lays160 s c hc w hs
def Tryz.lays144_ren : Go.Shelf.Ren := ⟨fun | 144 => 184 | 143 => 159 | 219 => 207 | 217 => 111 | 225 => 241 | 224 => 242 | 267 => 243 | 266 => 155 | 314 => 255 | n => n, fun | 9 => 9 | 4 => 4 | 3 => 3 | 5 => 5 | 46 => 136 | 146 => 289 | 51 => 24 | n => n, fun | 1 => 12 | n => n⟩
theorem Tryz.lays144 : Go.Proofs.Lays.n144 Tryz.prog Tryz.lays144_ren := {
  mixed := by kernel_rfl
  f143 := Tryz.func159.trans (congrArg some (by kernel_rfl))
  f144 := Tryz.func184.trans (congrArg some (by kernel_rfl))
  f217 := Tryz.func111.trans (congrArg some (by kernel_rfl))
  f219 := Tryz.func207.trans (congrArg some (by kernel_rfl))
  f224 := Tryz.func242.trans (congrArg some (by kernel_rfl))
  f225 := Tryz.func241.trans (congrArg some (by kernel_rfl))
  f266 := Tryz.func155.trans (congrArg some (by kernel_rfl))
  f267 := Tryz.func243.trans (congrArg some (by kernel_rfl))
  f314 := Tryz.func255.trans (congrArg some (by kernel_rfl))
  t3 := Tryz.underlying3
  a3 := Tryz.isAgg3
  z3 := Tryz.sizeOf3
  v3 := Tryz.zeroValue3
  t4 := Tryz.underlying4
  a4 := Tryz.isAgg4
  z4 := Tryz.sizeOf4
  v4 := Tryz.zeroValue4
  t5 := Tryz.underlying5
  a5 := Tryz.isAgg5
  z5 := Tryz.sizeOf5
  v5 := Tryz.zeroValue5
  t9 := Tryz.underlying9
  a9 := Tryz.isAgg9
  z9 := Tryz.sizeOf9
  v9 := Tryz.zeroValue9
  t46 := Tryz.underlying136
  a46 := Tryz.isAgg136
  z46 := Tryz.sizeOf136
  v46 := Tryz.zeroValue136
  t51 := Tryz.underlying24
  a51 := Tryz.isAgg24
  z51 := Tryz.sizeOf24
  v51 := Tryz.zeroValue24
  t146 := Tryz.underlying289
  a146 := Tryz.isAgg289
  z146 := Tryz.sizeOf289
  v146 := Tryz.zeroValue289
  g1 := by kernel_rfl }
open Go.RowKit Go.Lib in
theorem Tryz.strings_Contains (s sub : ByteArray) (m : Int) (w : World) (hs : s.size < 4294967281) (hm : w.cell? ⟨12, 0, none⟩ = some (.int .i64 m)) :
    Calls Tryz.prog 184 #[.string s, .string sub] w fun e w' => e = .returned (.bool (Lib.contains s.data.toList sub.data.toList)) ∧ w' = w := Any.strings_Contains Tryz.lays144 s sub m w hs hm
def Tryz.lays101_ren : Go.Shelf.Ren := ⟨fun | 101 => 188 | 208 => 231 | 206 => 233 | n => n, fun | 9 => 9 | 4 => 4 | 3 => 3 | n => n, fun | n => n⟩
theorem Tryz.lays101 : Go.Proofs.Lays.n101 Tryz.prog Tryz.lays101_ren := {
  mixed := by kernel_rfl
  f101 := Tryz.func188.trans (congrArg some (by kernel_rfl))
  f206 := Tryz.func233.trans (congrArg some (by kernel_rfl))
  f208 := Tryz.func231.trans (congrArg some (by kernel_rfl))
  t3 := Tryz.underlying3
  a3 := Tryz.isAgg3
  z3 := Tryz.sizeOf3
  v3 := Tryz.zeroValue3
  t4 := Tryz.underlying4
  a4 := Tryz.isAgg4
  z4 := Tryz.sizeOf4
  v4 := Tryz.zeroValue4
  t9 := Tryz.underlying9
  a9 := Tryz.isAgg9
  z9 := Tryz.sizeOf9
  v9 := Tryz.zeroValue9 }
open Go.RowKit Go.Lib in
theorem Tryz.strings_TrimPrefix (s p : ByteArray) (w : World) :
    Calls Tryz.prog 188 #[.string s, .string p] w fun e w' => e = .returned (.string ⟨(Lib.trimPrefix s.data.toList p.data.toList).toArray⟩) ∧ w' = w := Any.strings_TrimPrefix Tryz.lays101 s p w
end Go.Proofs


namespace Go.Proofs.YtpafkniapacfdaaGreatDoor
open Go.RowKit Go.Extern.Stop Go.Stop Go.Extern
namespace Er
theorem hid {p : Prop} (h : p) : Hid p := h
theorem lt_of_cell {w : World} {a : Addr} {v : Value} (h : w.cell? a = some v) : a.block < w.heap.size := by
  rcases Nat.lt_or_ge a.block w.heap.size with hh | hh
  · exact hh
  · simp [World.cell?, Array.getElem?_eq_none hh] at h
structure Sen (w : World) (A : Nat → Addr) : Prop where
  g0 : w.cell? ⟨4, 0, none⟩ = some (.iface 291 (.pointer (some (A 0))))
  g1 : w.cell? ⟨5, 0, none⟩ = some (.iface 291 (.pointer (some (A 1))))
  g2 : w.cell? ⟨6, 0, none⟩ = some (.iface 291 (.pointer (some (A 2))))
  g3 : w.cell? ⟨7, 0, none⟩ = some (.iface 291 (.pointer (some (A 3))))
  g4 : w.cell? ⟨1, 0, none⟩ = some (.iface 291 (.pointer (some (A 4))))
  g5 : w.cell? ⟨8, 0, none⟩ = some (.iface 291 (.pointer (some (A 5))))
  g6 : w.cell? ⟨0, 0, none⟩ = some (.iface 291 (.pointer (some (A 6))))
  g7 : w.cell? ⟨3, 0, none⟩ = some (.iface 291 (.pointer (some (A 7))))
  g8 : w.cell? ⟨9, 0, none⟩ = some (.iface 291 (.pointer (some (A 8))))
  g9 : w.cell? ⟨2, 0, none⟩ = some (.iface 291 (.pointer (some (A 9))))
  et : w.cell? ⟨10, 0, none⟩ = some (.iface 212 (.agg #[.pointer (some ⟨19, 30, none⟩)]))
  blk : ∀ k, k < 10 → ∃ c t, w.heap[(A k).block]? = some (.cells c t (0, 0))
  inj : ∀ i j, i < 10 → j < 10 → i ≠ j → A i ≠ A j
theorem Sen.below {w w' : World} {A : Nat → Addr} (h : Sen w A) (hb : Below w.heap.size w w') : Sen w' A := by
  refine ⟨?_, ?_, ?_, ?_, ?_, ?_, ?_, ?_, ?_, ?_, ?_, ?_, h.inj⟩
  · rw [hb.cell (lt_of_cell h.g0)]; exact h.g0
  · rw [hb.cell (lt_of_cell h.g1)]; exact h.g1
  · rw [hb.cell (lt_of_cell h.g2)]; exact h.g2
  · rw [hb.cell (lt_of_cell h.g3)]; exact h.g3
  · rw [hb.cell (lt_of_cell h.g4)]; exact h.g4
  · rw [hb.cell (lt_of_cell h.g5)]; exact h.g5
  · rw [hb.cell (lt_of_cell h.g6)]; exact h.g6
  · rw [hb.cell (lt_of_cell h.g7)]; exact h.g7
  · rw [hb.cell (lt_of_cell h.g8)]; exact h.g8
  · rw [hb.cell (lt_of_cell h.g9)]; exact h.g9
  · rw [hb.cell (lt_of_cell h.et)]; exact h.et
  · intro k hk
    obtain ⟨c, t, e⟩ := h.blk k hk
    have hlt : (A k).block < w.heap.size := by
      rcases Nat.lt_or_ge (A k).block w.heap.size with hh | hh
      · exact hh
      · rw [Array.getElem?_eq_none hh] at e; cases e
    exact ⟨c, t, by rw [hb.block _ hlt]; exact e⟩
theorem ten (w : World) (A : Nat → Addr) (T : TypeId) (k : Nat) (hk : k < 10) :
    (w.alloc (.cells #[.iface 291 (.pointer (some (A 0))), .iface 291 (.pointer (some (A 1))), .iface 291 (.pointer (some (A 2))), .iface 291 (.pointer (some (A 3))), .iface 291 (.pointer (some (A 4))), .iface 291 (.pointer (some (A 5))), .iface 291 (.pointer (some (A 6))), .iface 291 (.pointer (some (A 7))), .iface 291 (.pointer (some (A 8))), .iface 291 (.pointer (some (A 9)))] T)).cell? ⟨w.heap.size, k, none⟩ = some (.iface 291 (.pointer (some (A k)))) := by
  match k, hk with
  | 0, _ => simp
  | 1, _ => simp
  | 2, _ => simp
  | 3, _ => simp
  | 4, _ => simp
  | 5, _ => simp
  | 6, _ => simp
  | 7, _ => simp
  | 8, _ => simp
  | 9, _ => simp
set_option maxHeartbeats 1000000 in
theorem code_nil (w : World) : Calls Tryz.prog 44 #[.nilIface] w fun e w' => e = .returned (.tuple #[.int .i64 0, .int .i64 (-1)]) ∧ w' = w := by
  go_enter Tryz.func44, Tryz.ntmps44
  go_wp2
  go_ret2
  exact ⟨rfl, rfl⟩
theorem as_miss_b (e t : Addr) (w : World) (hg : w.cell? ⟨10, 0, none⟩ = some (.iface 212 (.agg #[.pointer (some ⟨19, 30, none⟩)]))) :
    Calls Tryz.prog 80 #[.iface 291 (.pointer (some e)), .iface 132 (.pointer (some t))] w fun ev w' => ev = .returned (.bool false) ∧ Below w.heap.size w w' :=
  (as_miss e t w hg).mono fun _ _ ⟨h1, h2⟩ => ⟨h1, by
    rw [h2]
    exact (((Below.refl _ _).alloc (Nat.le_refl _) _).alloc (by simp) _).alloc (by simp; omega) _⟩
set_option maxHeartbeats 1000000 in
theorem code_miss (a : Addr) (A : Nat → Addr) (j : Nat) (w : World) (S : Sen w A) (hj : j ≤ 10)
    (hY : j < 10 → ∀ W, Below w.heap.size w W → Calls Tryz.prog 81 #[.iface 291 (.pointer (some a)), .iface 291 (.pointer (some (A j)))] W fun e w' => e = .returned (.bool true) ∧ w' = W)
    (hN : ∀ k, k < 10 → k ≠ j → ∀ W, Below w.heap.size w W → Calls Tryz.prog 81 #[.iface 291 (.pointer (some a)), .iface 291 (.pointer (some (A k)))] W fun e w' => e = .returned (.bool false) ∧ w' = W) :
    Calls Tryz.prog 44 #[.iface 291 (.pointer (some a))] w fun e w' => e = .returned (.tuple #[.int .i64 (if j < 10 then (j : Int) + 1 else -1), .int .i64 (-1)]) ∧ Below w.heap.size w w' := by
  have hb0 : Below w.heap.size w (w.alloc (.cells #[.pointer none] 115)) := (Below.refl _ _).alloc (Nat.le_refl _) _
  have HY := hid hY
  have HN := hid hN
  have HS := hid S
  have HB0 := hid hb0
  clear hY hN S hb0
  go_enter Tryz.func44, Tryz.ntmps44
  go_wp2_with fail
  refine (as_miss_b a _ _ (HS.out.below HB0.out).et).mono ?_
  rintro e w1 ⟨rfl, hb1⟩
  have hb : Below w.heap.size w w1 := HB0.out.trans (hb1.mono (by simp))
  have S := HS.out.below hb
  have HB := hid hb
  clear hb1 hb
  have c0 := S.g0
  have c1 := S.g1
  have c2 := S.g2
  have c3 := S.g3
  have c4 := S.g4
  have c5 := S.g5
  have c6 := S.g6
  have c7 := S.g7
  have c8 := S.g8
  have c9 := S.g9
  clear S
  go_wp2_with fail
  have hbL := HB.out.alloc HB.out.size (.cells #[.iface 291 (.pointer (some (A 0))), .iface 291 (.pointer (some (A 1))), .iface 291 (.pointer (some (A 2))), .iface 291 (.pointer (some (A 3))), .iface 291 (.pointer (some (A 4))), .iface 291 (.pointer (some (A 5))), .iface 291 (.pointer (some (A 6))), .iface 291 (.pointer (some (A 7))), .iface 291 (.pointer (some (A 8))), .iface 291 (.pointer (some (A 9)))] 30)
  have HBL := hid hbL
  clear hbL c0 c1 c2 c3 c4 c5 c6 c7 c8 c9
  go_loop [3, 28] (fun at_ i => ∃ k : Nat, k ≤ 10 ∧ k ≤ j ∧ i = .int .i64 k ∧ at_ = .int .i64 (-1)) (fun _ i => 10 - (intOf i).toNat)
  case atStart => exact ⟨0, by omega, by omega, rfl, rfl⟩
  case round =>
    obtain ⟨k, hk, hkj, rfl, rfl⟩ := hrel
    by_cases hlt : k < 10
    · have hc := ten w1 A 30 k hlt
      by_cases hkeq : k = j
      · subst hkeq
        go_wp2_with fail
        refine (HY.out hlt _ HBL.out).mono ?_
        rintro e w' ⟨rfl, rfl⟩
        go_wp2_with fail
        go_ret2
        exact ⟨rfl, HBL.out⟩
      · go_wp2_with fail
        refine (HN.out k hlt hkeq _ HBL.out).mono ?_
        rintro e w' ⟨rfl, rfl⟩
        go_wp2_with fail
        go_round
        case rel => exact ⟨k + 1, by omega, by omega, by go_num, rfl⟩
        case measure => simp [intOf]; omega
    · have hj10 : ¬ j < 10 := by omega
      go_wp2_with fail
      go_ret2
      exact ⟨rfl, HBL.out⟩
theorem as_hit_b (e t : Addr) (old : Value) (w : World) (B : Nat) (hB : B ≤ t.block) (hg : w.cell? ⟨10, 0, none⟩ = some (.iface 212 (.agg #[.pointer (some ⟨19, 30, none⟩)]))) (ht0 : w.cell? t = some old) (hf0 : w.frozen? t = false) (htb : t.block < w.heap.size) :
    Calls Tryz.prog 80 #[.iface 115 (.pointer (some e)), .iface 132 (.pointer (some t))] w fun ev w' => ev = .returned (.bool true) ∧ Below B w w' ∧ w'.cell? t = some (.pointer (some e)) :=
  (as_hit e t old w hg ht0 hf0).mono fun _ _ ⟨h1, h2⟩ => ⟨h1, by
    rw [h2]
    exact (((((Below.refl _ _).alloc (by omega) _).alloc (by simp; omega) _).alloc (by simp; omega) _).alloc (by simp; omega) _).setCell hB _, by
    rw [h2, World.cell?_setCell_same (u := old)]
    rw [World.cell?_alloc_lt _ _ t (by simp; omega), World.cell?_alloc_lt _ _ t (by simp; omega), World.cell?_alloc_lt _ _ t (by simp; omega), World.cell?_alloc_lt _ _ t htb]; exact ht0⟩
set_option maxHeartbeats 1000000 in
theorem code_hit (fb fo : Nat) (n : Int) (A : Nat → Addr) (j : Nat) (w : World) (S : Sen w A) (hj : j ≤ 10) (hfb : fb < w.heap.size) (hn : w.cell? ⟨fb, fo, none⟩ = some (.int .i64 n))
    (hY : j < 10 → ∀ W, Below w.heap.size w W → Calls Tryz.prog 81 #[.iface 115 (.pointer (some ⟨fb, fo, none⟩)), .iface 291 (.pointer (some (A j)))] W fun e w' => e = .returned (.bool true) ∧ w' = W)
    (hN : ∀ k, k < 10 → k ≠ j → ∀ W, Below w.heap.size w W → Calls Tryz.prog 81 #[.iface 115 (.pointer (some ⟨fb, fo, none⟩)), .iface 291 (.pointer (some (A k)))] W fun e w' => e = .returned (.bool false) ∧ w' = W) :
    Calls Tryz.prog 44 #[.iface 115 (.pointer (some ⟨fb, fo, none⟩))] w fun e w' => e = .returned (.tuple #[.int .i64 (if j < 10 then (j : Int) + 1 else -1), .int .i64 n]) ∧ Below w.heap.size w w' := by
  have hb0 : Below w.heap.size w (w.alloc (.cells #[.pointer none] 115)) := (Below.refl _ _).alloc (Nat.le_refl _) _
  have HY := hid hY
  have HN := hid hN
  have HS := hid S
  have HB0 := hid hb0
  have Hn := hid hn
  clear hY hN S hb0 hn
  go_enter Tryz.func44, Tryz.ntmps44
  go_wp2_with fail
  refine (as_hit_b ⟨fb, fo, none⟩ ⟨w.heap.size, 0, none⟩ (.pointer none) _ w.heap.size (Nat.le_refl _) (HS.out.below HB0.out).et (by simp) (by simp) (by simp)).mono ?_
  rintro e w1 ⟨rfl, hb1, ht1⟩
  have hb : Below w.heap.size w w1 := HB0.out.trans hb1
  have S := HS.out.below hb
  have hn1 : w1.cell? ⟨fb, fo, none⟩ = some (.int .i64 n) := by rw [hb.cell hfb]; exact Hn.out
  have HB := hid hb
  clear hb1 hb
  have c0 := S.g0
  have c1 := S.g1
  have c2 := S.g2
  have c3 := S.g3
  have c4 := S.g4
  have c5 := S.g5
  have c6 := S.g6
  have c7 := S.g7
  have c8 := S.g8
  have c9 := S.g9
  clear S
  go_wp2_with fail
  have hbL := HB.out.alloc HB.out.size (.cells #[.iface 291 (.pointer (some (A 0))), .iface 291 (.pointer (some (A 1))), .iface 291 (.pointer (some (A 2))), .iface 291 (.pointer (some (A 3))), .iface 291 (.pointer (some (A 4))), .iface 291 (.pointer (some (A 5))), .iface 291 (.pointer (some (A 6))), .iface 291 (.pointer (some (A 7))), .iface 291 (.pointer (some (A 8))), .iface 291 (.pointer (some (A 9)))] 30)
  have HBL := hid hbL
  clear hbL c0 c1 c2 c3 c4 c5 c6 c7 c8 c9 hn1 ht1
  go_loop [3, 28] (fun at_ i => ∃ k : Nat, k ≤ 10 ∧ k ≤ j ∧ i = .int .i64 k ∧ at_ = .int .i64 n) (fun _ i => 10 - (intOf i).toNat)
  case atStart => exact ⟨0, by omega, by omega, rfl, rfl⟩
  case round =>
    obtain ⟨k, hk, hkj, rfl, rfl⟩ := hrel
    by_cases hlt : k < 10
    · have hc := ten w1 A 30 k hlt
      by_cases hkeq : k = j
      · subst hkeq
        go_wp2_with fail
        refine (HY.out hlt _ HBL.out).mono ?_
        rintro e w' ⟨rfl, rfl⟩
        go_wp2_with fail
        go_ret2
        exact ⟨rfl, HBL.out⟩
      · go_wp2_with fail
        refine (HN.out k hlt hkeq _ HBL.out).mono ?_
        rintro e w' ⟨rfl, rfl⟩
        go_wp2_with fail
        go_round
        case rel => exact ⟨k + 1, by omega, by omega, by go_num, rfl⟩
        case measure => simp [intOf]; omega
    · have hj10 : ¬ j < 10 := by omega
      go_wp2_with fail
      go_ret2
      exact ⟨rfl, HBL.out⟩
theorem blk_below {w W : World} {b : Nat} {c : Array Value} {t : TypeId} (h : w.heap[b]? = some (.cells c t (0, 0))) (hb : Below w.heap.size w W) : W.heap[b]? = some (.cells c t (0, 0)) := by
  have hlt : b < w.heap.size := by
    rcases Nat.lt_or_ge b w.heap.size with hh | hh
    · exact hh
    · rw [Array.getElem?_eq_none hh] at h; cases h
  rw [hb.block _ hlt]; exact h
theorem code_sen (A : Nat → Addr) (j : Nat) (w : World) (S : Sen w A) (hj : j < 10) :
    Calls Tryz.prog 44 #[.iface 291 (.pointer (some (A j)))] w fun e w' => e = .returned (.tuple #[.int .i64 ((j : Int) + 1), .int .i64 (-1)]) ∧ Below w.heap.size w w' := by
  refine (code_miss (A j) A j w S (Nat.le_of_lt hj) (fun _ W _ => is_same (A j) W) (fun k hk hkj W hW => ?_)).mono fun e w' ⟨h1, h2⟩ => ⟨by rw [h1, if_pos hj], h2⟩
  obtain ⟨c1, t1, e1⟩ := S.blk j hj
  obtain ⟨c2, t2, e2⟩ := S.blk k hk
  exact is_other (A j) (A k) c1 c2 t1 t2 W (S.inj j k hj hk (fun h => hkj h.symm)) (blk_below e1 hW) (blk_below e2 hW)
theorem code_fault (fb fo : Nat) (n : Int) (A : Nat → Addr) (j : Nat) (w : World) (S : Sen w A) (hj : j < 10) (hfb : fb < w.heap.size) (hn : w.cell? ⟨fb, fo, none⟩ = some (.int .i64 n)) (he : w.cell? ⟨fb, fo + 1, none⟩ = some (.iface 291 (.pointer (some (A j))))) :
    Calls Tryz.prog 44 #[.iface 115 (.pointer (some ⟨fb, fo, none⟩))] w fun e w' => e = .returned (.tuple #[.int .i64 ((j : Int) + 1), .int .i64 n]) ∧ Below w.heap.size w w' := by
  refine (code_hit fb fo n A j w S (Nat.le_of_lt hj) hfb hn (fun _ W hW => is_wrap_same fb fo (A j) W ?_) (fun k hk hkj W hW => ?_)).mono fun e w' ⟨h1, h2⟩ => ⟨by rw [h1, if_pos hj], h2⟩
  · rw [hW.cell hfb]; exact he
  · obtain ⟨c1, t1, e1⟩ := S.blk j hj
    obtain ⟨c2, t2, e2⟩ := S.blk k hk
    exact is_wrap_other fb fo (A k) (A j) c1 c2 t1 t2 W (by rw [hW.cell hfb]; exact he) (S.inj j k hj hk (fun h => hkj h.symm)) (blk_below e1 hW) (blk_below e2 hW)
end Er
end Go.Proofs.YtpafkniapacfdaaGreatDoor


namespace Go.Proofs
open Go.Shelf
def Tryz.lays137_ren : Go.Shelf.Ren := ⟨fun | 137 => 76 | 217 => 111 | 266 => 155 | n => n, fun | 9 => 9 | 5 => 5 | 3 => 3 | n => n, fun | n => n⟩
theorem Tryz.lays137 : Go.Proofs.Lays.n137 Tryz.prog Tryz.lays137_ren := {
  mixed := by kernel_rfl
  f137 := Tryz.func76.trans (congrArg some (by kernel_rfl))
  f217 := Tryz.func111.trans (congrArg some (by kernel_rfl))
  f266 := Tryz.func155.trans (congrArg some (by kernel_rfl))
  t3 := Tryz.underlying3
  a3 := Tryz.isAgg3
  z3 := Tryz.sizeOf3
  v3 := Tryz.zeroValue3
  t5 := Tryz.underlying5
  a5 := Tryz.isAgg5
  z5 := Tryz.sizeOf5
  v5 := Tryz.zeroValue5
  t9 := Tryz.underlying9
  a9 := Tryz.isAgg9
  z9 := Tryz.sizeOf9
  v9 := Tryz.zeroValue9 }
open Go.RowKit in
theorem Tryz.strings_IndexByte (s : ByteArray) (c : Int) (w : World) :
    Calls Tryz.prog 76 #[.string s, .int .u8 c] w fun e w' => e = .returned (.int .i64 (Lib.indexByte s.data.toList c.toNat.toUInt8)) ∧ w' = w := Any.strings_IndexByte Tryz.lays137 s c w
def Tryz.lays283_ren : Go.Shelf.Ren := ⟨fun | 283 => 151 | n => n, fun | 3 => 3 | 9 => 9 | 4 => 4 | n => n, fun | n => n⟩
theorem Tryz.lays283 : Go.Proofs.Lays.n283 Tryz.prog Tryz.lays283_ren := {
  mixed := by kernel_rfl
  f283 := Tryz.func151.trans (congrArg some (by kernel_rfl))
  t3 := Tryz.underlying3
  a3 := Tryz.isAgg3
  z3 := Tryz.sizeOf3
  v3 := Tryz.zeroValue3
  t4 := Tryz.underlying4
  a4 := Tryz.isAgg4
  z4 := Tryz.sizeOf4
  v4 := Tryz.zeroValue4
  t9 := Tryz.underlying9
  a9 := Tryz.isAgg9
  z9 := Tryz.sizeOf9
  v9 := Tryz.zeroValue9 }
open Go.Lib in
theorem Tryz.internal_strconv_small (i : Nat) (h : i < 100) (w : World) :
    Calls Tryz.prog 151 #[.int .i64 i] w fun e w' => e = .returned (.string ⟨(Lib.decDigits i).toArray⟩) ∧ w' = w := Any.internal_strconv_small Tryz.lays283 i h w
def Tryz.laysM284_ren : Go.Shelf.Ren := ⟨fun | 284 => 152 | 129 => 176 | 317 => 200 | 318 => 201 | n => n, fun | 53 => 122 | 3 => 3 | 212 => 249 | 0 => 0 | 4 => 4 | 46 => 136 | 5 => 5 | 9 => 9 | n => n, fun | 17 => 11 | n => n⟩
theorem Tryz.laysM284 : Go.Proofs.LaysM.n284 Tryz.prog Tryz.laysM284_ren := {
  mixed := by kernel_rfl
  f129 := Tryz.func176.trans (congrArg some (by kernel_rfl))
  f284 := Tryz.func152.trans (congrArg some (by kernel_rfl))
  f317 := Tryz.func200.trans (congrArg some (by kernel_rfl))
  f318 := Tryz.func201.trans (congrArg some (by kernel_rfl))
  t0 := Tryz.underlying0
  a0 := Tryz.isAgg0
  z0 := Tryz.sizeOf0
  v0 := Tryz.zeroValue0
  t3 := Tryz.underlying3
  a3 := Tryz.isAgg3
  z3 := Tryz.sizeOf3
  v3 := Tryz.zeroValue3
  t4 := Tryz.underlying4
  a4 := Tryz.isAgg4
  z4 := Tryz.sizeOf4
  v4 := Tryz.zeroValue4
  t5 := Tryz.underlying5
  a5 := Tryz.isAgg5
  z5 := Tryz.sizeOf5
  v5 := Tryz.zeroValue5
  t9 := Tryz.underlying9
  a9 := Tryz.isAgg9
  z9 := Tryz.sizeOf9
  v9 := Tryz.zeroValue9
  t46 := Tryz.underlying136
  a46 := Tryz.isAgg136
  z46 := Tryz.sizeOf136
  v46 := Tryz.zeroValue136
  t53 := Tryz.underlying122
  a53 := Tryz.isAgg122
  z53 := Tryz.sizeOf122
  v53 := Tryz.zeroValue122
  t212 := Tryz.underlying249
  a212 := Tryz.isAgg249
  z212 := Tryz.sizeOf249
  v212 := Tryz.zeroValue249
  g17 := by kernel_rfl
  i0 := by kernel_rfl
  i3 := by kernel_rfl
  i4 := by kernel_rfl
  i5 := by kernel_rfl
  i9 := by kernel_rfl
  i46 := by kernel_rfl
  i53 := by kernel_rfl
  i212 := by kernel_rfl
  m17 := by kernel_rfl }
open Go.Lib in
theorem Tryz.internal_strconv_numDigits (u : Nat) (h1 : 1 ≤ u) (h2 : u < 18446744073709551616) (w : World) (htab : Lib.TabIs Tryz.prog w "internal/strconv.uint64pow10" .u64 Lib.pow10Tab) :
    Calls Tryz.prog 152 #[.int .u64 u] w fun e w' => e = .returned (.int .i64 (Lib.nDigits u)) ∧ w' = w := Any.internal_strconv_numDigits Tryz.laysM284 u h1 h2 w htab
def Tryz.lays285_ren : Go.Shelf.Ren := ⟨fun | 285 => 153 | n => n, fun | 37 => 77 | 53 => 122 | 3 => 3 | 4 => 4 | 51 => 24 | 9 => 9 | 5 => 5 | 0 => 0 | n => n, fun | n => n⟩
theorem Tryz.lays285 : Go.Proofs.Lays.n285 Tryz.prog Tryz.lays285_ren := {
  mixed := by kernel_rfl
  f285 := Tryz.func153.trans (congrArg some (by kernel_rfl))
  t0 := Tryz.underlying0
  a0 := Tryz.isAgg0
  z0 := Tryz.sizeOf0
  v0 := Tryz.zeroValue0
  t3 := Tryz.underlying3
  a3 := Tryz.isAgg3
  z3 := Tryz.sizeOf3
  v3 := Tryz.zeroValue3
  t4 := Tryz.underlying4
  a4 := Tryz.isAgg4
  z4 := Tryz.sizeOf4
  v4 := Tryz.zeroValue4
  t5 := Tryz.underlying5
  a5 := Tryz.isAgg5
  z5 := Tryz.sizeOf5
  v5 := Tryz.zeroValue5
  t9 := Tryz.underlying9
  a9 := Tryz.isAgg9
  z9 := Tryz.sizeOf9
  v9 := Tryz.zeroValue9
  t37 := Tryz.underlying77
  a37 := Tryz.isAgg77
  z37 := Tryz.sizeOf77
  v37 := Tryz.zeroValue77
  t51 := Tryz.underlying24
  a51 := Tryz.isAgg24
  z51 := Tryz.sizeOf24
  v51 := Tryz.zeroValue24
  t53 := Tryz.underlying122
  a53 := Tryz.isAgg122
  z53 := Tryz.sizeOf122
  v53 := Tryz.zeroValue122 }
open Go.RowKit Go.Sort Go.Lib in
theorem Tryz.internal_strconv_formatBase10 (blk off cap : Nat) (u : Nat) (d : Array UInt8) (w : World) (hH : Holds (fun (b : UInt8) => Value.int .u8 (b.toNat : Int)) w blk off d) (hu : u < 10 ^ d.size) (hu64 : u < 18446744073709551616) (hsz : d.size < 4611686018427387904) :
    Calls Tryz.prog 153 #[.slice (some ⟨blk, off, none⟩) d.size cap, .int .u64 u] w fun e w' =>
      e = .returned (.tuple #[]) ∧ ∃ (n v' : Nat) (dk : Array UInt8), w' = (putRow (fun (b : UInt8) => Value.int .u8 (b.toNat : Int)) w blk off dk).drewN n ∧ FmtInv d.size u 0 v' dk := Any.internal_strconv_formatBase10 Tryz.lays285 blk off cap u d w hH hu hu64 hsz
def Tryz.laysPu14_ren : Go.Shelf.Ren := ⟨fun | 14 => 115 | 16 => 161 | 17 => 162 | 19 => 209 | 20 => 210 | 21 => 211 | 22 => 212 | 23 => 213 | 24 => 214 | 25 => 244 | 27 => 246 | 26 => 245 | 28 => 256 | 29 => 268 | 30 => 151 | 31 => 152 | 32 => 153 | 33 => 154 | 35 => 176 | 34 => 200 | 36 => 201 | 37 => 202 | 38 => 203 | 39 => 238 | 40 => 239 | n => n, fun | 9 => 9 | 3 => 3 | 22 => 122 | 24 => 30 | 25 => 169 | 4 => 4 | 34 => 254 | 5 => 5 | 36 => 136 | 37 => 77 | 0 => 0 | 39 => 256 | 21 => 21 | 44 => 277 | 47 => 123 | 50 => 293 | 48 => 291 | 2 => 2 | 52 => 204 | 55 => 207 | 59 => 249 | 60 => 24 | 20 => 20 | 61 => 250 | 65 => 283 | 66 => 284 | 67 => 83 | n => n, fun | 0 => 13 | 1 => 14 | 2 => 11 | 3 => 15 | 4 => 16 | n => n⟩
theorem Tryz.laysPu14 : Go.Proofs.LaysPu.n14 Tryz.prog Tryz.laysPu14_ren := {
  mixed := by kernel_rfl
  f14 := Tryz.func115.trans (congrArg some (by kernel_rfl))
  f16 := Tryz.func161.trans (congrArg some (by kernel_rfl))
  f17 := Tryz.func162.trans (congrArg some (by kernel_rfl))
  f19 := Tryz.func209.trans (congrArg some (by kernel_rfl))
  f20 := Tryz.func210.trans (congrArg some (by kernel_rfl))
  f21 := Tryz.func211.trans (congrArg some (by kernel_rfl))
  f22 := Tryz.func212.trans (congrArg some (by kernel_rfl))
  f23 := Tryz.func213.trans (congrArg some (by kernel_rfl))
  f24 := Tryz.func214.trans (congrArg some (by kernel_rfl))
  f25 := Tryz.func244.trans (congrArg some (by kernel_rfl))
  f26 := Tryz.func245.trans (congrArg some (by kernel_rfl))
  f27 := Tryz.func246.trans (congrArg some (by kernel_rfl))
  f28 := Tryz.func256.trans (congrArg some (by kernel_rfl))
  f29 := Tryz.func268.trans (congrArg some (by kernel_rfl))
  f30 := Tryz.func151.trans (congrArg some (by kernel_rfl))
  f31 := Tryz.func152.trans (congrArg some (by kernel_rfl))
  f32 := Tryz.func153.trans (congrArg some (by kernel_rfl))
  f33 := Tryz.func154.trans (congrArg some (by kernel_rfl))
  f34 := Tryz.func200.trans (congrArg some (by kernel_rfl))
  f35 := Tryz.func176.trans (congrArg some (by kernel_rfl))
  f36 := Tryz.func201.trans (congrArg some (by kernel_rfl))
  f37 := Tryz.func202.trans (congrArg some (by kernel_rfl))
  f38 := Tryz.func203.trans (congrArg some (by kernel_rfl))
  f39 := Tryz.func238.trans (congrArg some (by kernel_rfl))
  f40 := Tryz.func239.trans (congrArg some (by kernel_rfl))
  t0 := Tryz.underlying0
  a0 := Tryz.isAgg0
  z0 := Tryz.sizeOf0
  v0 := Tryz.zeroValue0
  i0 := by kernel_rfl
  t2 := Tryz.underlying2
  a2 := Tryz.isAgg2
  z2 := Tryz.sizeOf2
  v2 := Tryz.zeroValue2
  i2 := by kernel_rfl
  t3 := Tryz.underlying3
  a3 := Tryz.isAgg3
  z3 := Tryz.sizeOf3
  v3 := Tryz.zeroValue3
  i3 := by kernel_rfl
  t4 := Tryz.underlying4
  a4 := Tryz.isAgg4
  z4 := Tryz.sizeOf4
  v4 := Tryz.zeroValue4
  i4 := by kernel_rfl
  t5 := Tryz.underlying5
  a5 := Tryz.isAgg5
  z5 := Tryz.sizeOf5
  v5 := Tryz.zeroValue5
  i5 := by kernel_rfl
  t9 := Tryz.underlying9
  a9 := Tryz.isAgg9
  z9 := Tryz.sizeOf9
  v9 := Tryz.zeroValue9
  i9 := by kernel_rfl
  t20 := Tryz.underlying20
  a20 := Tryz.isAgg20
  z20 := Tryz.sizeOf20
  v20 := Tryz.zeroValue20
  i20 := by kernel_rfl
  t21 := Tryz.underlying21
  a21 := Tryz.isAgg21
  z21 := Tryz.sizeOf21
  v21 := Tryz.zeroValue21
  i21 := by kernel_rfl
  t22 := Tryz.underlying122
  a22 := Tryz.isAgg122
  z22 := Tryz.sizeOf122
  v22 := Tryz.zeroValue122
  i22 := by kernel_rfl
  t24 := Tryz.underlying30
  a24 := Tryz.isAgg30
  z24 := Tryz.sizeOf30
  v24 := Tryz.zeroValue30
  i24 := by kernel_rfl
  t25 := Tryz.underlying169
  a25 := Tryz.isAgg169
  z25 := Tryz.sizeOf169
  v25 := Tryz.zeroValue169
  i25 := by kernel_rfl
  t34 := Tryz.underlying254
  a34 := Tryz.isAgg254
  z34 := Tryz.sizeOf254
  v34 := Tryz.zeroValue254
  i34 := by kernel_rfl
  c34 := by kernel_rfl
  t36 := Tryz.underlying136
  a36 := Tryz.isAgg136
  z36 := Tryz.sizeOf136
  v36 := Tryz.zeroValue136
  i36 := by kernel_rfl
  t37 := Tryz.underlying77
  a37 := Tryz.isAgg77
  z37 := Tryz.sizeOf77
  v37 := Tryz.zeroValue77
  i37 := by kernel_rfl
  t39 := Tryz.underlying256
  a39 := Tryz.isAgg256
  z39 := Tryz.sizeOf256
  v39 := Tryz.zeroValue256
  i39 := by kernel_rfl
  t44 := Tryz.underlying277
  a44 := Tryz.isAgg277
  z44 := Tryz.sizeOf277
  v44 := Tryz.zeroValue277
  i44 := by kernel_rfl
  t47 := Tryz.underlying123
  a47 := Tryz.isAgg123
  z47 := Tryz.sizeOf123
  v47 := Tryz.zeroValue123
  i47 := by kernel_rfl
  t48 := Tryz.underlying291
  a48 := Tryz.isAgg291
  z48 := Tryz.sizeOf291
  v48 := Tryz.zeroValue291
  i48 := by kernel_rfl
  t50 := Tryz.underlying293
  a50 := Tryz.isAgg293
  z50 := Tryz.sizeOf293
  v50 := Tryz.zeroValue293
  i50 := by kernel_rfl
  t52 := Tryz.underlying204
  a52 := Tryz.isAgg204
  z52 := Tryz.sizeOf204
  v52 := Tryz.zeroValue204
  i52 := by kernel_rfl
  t55 := Tryz.underlying207
  a55 := Tryz.isAgg207
  z55 := Tryz.sizeOf207
  v55 := Tryz.zeroValue207
  i55 := by kernel_rfl
  t59 := Tryz.underlying249
  a59 := Tryz.isAgg249
  z59 := Tryz.sizeOf249
  v59 := Tryz.zeroValue249
  i59 := by kernel_rfl
  t60 := Tryz.underlying24
  a60 := Tryz.isAgg24
  z60 := Tryz.sizeOf24
  v60 := Tryz.zeroValue24
  i60 := by kernel_rfl
  t61 := Tryz.underlying250
  a61 := Tryz.isAgg250
  z61 := Tryz.sizeOf250
  t65 := Tryz.underlying283
  a65 := Tryz.isAgg283
  z65 := Tryz.sizeOf283
  v65 := Tryz.zeroValue283
  i65 := by kernel_rfl
  t66 := Tryz.underlying284
  a66 := Tryz.isAgg284
  z66 := Tryz.sizeOf284
  v66 := Tryz.zeroValue284
  i66 := by kernel_rfl
  t67 := Tryz.underlying83
  a67 := Tryz.isAgg83
  z67 := Tryz.sizeOf83
  v67 := Tryz.zeroValue83
  i67 := by kernel_rfl
  g0 := by kernel_rfl
  m0 := by kernel_rfl
  g1 := by kernel_rfl
  m1 := by kernel_rfl
  g2 := by kernel_rfl
  m2 := by kernel_rfl
  g3 := by kernel_rfl
  m3 := by kernel_rfl
  g4 := by kernel_rfl
  m4 := by kernel_rfl }
open Go.RowKit in
theorem Tryz.strconv_ParseUint_10_at32_ok (s : ByteArray) (hmax : s.size ≤ 9223372036854775806) (u : Nat) (h : Lib.parseUintB 32 s.data.toList = .ok u) (w : World) :
    Calls Tryz.prog 115 #[.string s, .int .i64 10, .int .i64 32] w fun e w' => e = .returned (.tuple #[.int .u64 u, .nilIface]) ∧ (w' = w ∨ w' = Lib.bytesWorld w 5 s) := Any.strconv_ParseUint_10_at32_ok Tryz.laysPu14 s hmax u h w
open Go.RowKit in
theorem Tryz.strconv_ParseUint_10_at32_range (s : ByteArray) (hlim : s.size ≤ 281474976710656) (h : Lib.parseUintB 32 s.data.toList = .range) (ev : Value) (w : World) (hv : w.cell? ⟨14, 0, none⟩ = some ev) (hev : ev = .nilIface ∨ ∃ te pe, ev = .iface te pe) :
    Calls Tryz.prog 115 #[.string s, .int .i64 10, .int .i64 32] w fun e w' => ∃ N, e = .returned (.tuple #[.int .u64 4294967295, .iface 256 (.pointer (some ⟨N, 0, none⟩))]) ∧ w.heap.size ≤ N ∧ w'.heap[N]? = some (.cells #[.string ⟨#[80, 97, 114, 115, 101, 85, 105, 110, 116]⟩, .string s, ev] 277 (0, 0)) ∧ Below w.heap.size w w' := Any.strconv_ParseUint_10_at32_range Tryz.laysPu14 s hlim h ev w hv hev
end Go.Proofs
