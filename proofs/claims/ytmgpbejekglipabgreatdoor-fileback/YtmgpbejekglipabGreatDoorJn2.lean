/-
  Plain lemmas: a text cut by one byte, as the library's words say it and as a recursion says it; the first such byte. No Go here.
-/
import Derived.Lib.Split
import Derived.Lib.SplitLaws
import Derived.Lib.CutLaws
import Derived.Lib.IndexMore
import Derived.Test.YtmgpbejekglipabGreatDoorJn1
import Derived.Shelf.Strings.Builder1
import Derived.Shelf.Strings.Builder2
import Derived.Shelf.Strings.OnBuilder
import Derived.Shelf.Strings.Trim
import Derived.Shelf.Small.Utf8
import Derived.Shelf.Small.Bits
import Derived.Shelf.Small.Strs
import Derived.Shelf.Small.Wraps
import Derived.Shelf.Strconv.Itoa0
import Derived.Shelf.Strconv.Itoa1
import Derived.Shelf.LaysM
import Derived.Shelf.Strconv.Itoa2
import Derived.Shelf.Strconv.Itoa3
import Derived.Shelf.Strings.Search1
import Derived.Shelf.Strings.Search2
import Derived.Shelf.Strings.Search3
import Derived.Shelf.Strings.Cut
import Derived.Shelf.Strings.Count
import Derived.Shelf.Strings.Shaped
import Derived.Shelf.Strings.Prefix
import Derived.Shelf.Strings.Split
import Derived.Shelf.Strings.Runes
import Derived.Shelf.Strings.AsciiSet
import Derived.Shelf.Unicode.DecodeSlow
import Derived.Shelf.Slices.Equal
import Derived.Shelf.Slices.Empties2
import Derived.Test.YtmgpbejekglipabGreatDoorProg
import Derived.Deep.Onto
namespace Go.Proofs.YtmgpbejekglipabGreatDoor
namespace Ve

/-- A byte ahead of the first of the pieces. -/
def ahead (b : UInt8) : List (List UInt8) → List (List UInt8)
  | [] => [[b]]
  | h :: t => (b :: h) :: t
/-- The pieces of a text between the bytes c. -/
def cutAt (c : UInt8) : List UInt8 → List (List UInt8)
  | [] => [[]]
  | b :: l => if b = c then [] :: cutAt c l else ahead b (cutAt c l)

theorem ahead_len (b : UInt8) (x : List (List UInt8)) (h : x ≠ []) : (ahead b x).length = x.length := by cases x <;> simp_all [ahead]
theorem cutAt_ne (c : UInt8) (l : List UInt8) : cutAt c l ≠ [] := by
  cases l with
  | nil => simp [cutAt]
  | cons b l =>
    unfold cutAt
    split
    · simp
    · cases cutAt c l <;> simp [ahead]

theorem index_cons_ne (b c : UInt8) (l : List UInt8) (h : b ≠ c) : Lib.index (b :: l) [c] = if Lib.index l [c] == -1 then -1 else Lib.index l [c] + 1 := by
  have : ([c] : List UInt8).isPrefixOf (b :: l) = false := by simp [List.isPrefixOf]; exact fun e => h e.symm
  rw [Lib.index, this]; rfl
theorem index_cons_eq (c : UInt8) (l : List UInt8) : Lib.index (c :: l) [c] = 0 := by
  have : ([c] : List UInt8).isPrefixOf (c :: l) = true := by simp [List.isPrefixOf]
  rw [Lib.index, this]; rfl

theorem splitK_ahead (b c : UInt8) (h : b ≠ c) (k : Nat) (l : List UInt8) : Lib.splitK [c] 0 k (b :: l) = ahead b (Lib.splitK [c] 0 k l) := by
  cases k with
  | zero => rfl
  | succ k =>
    have hge := Lib.index_ge l [c]
    unfold Lib.splitK
    rw [index_cons_ne b c l h]
    by_cases e : Lib.index l [c] = -1
    · rw [e]; rfl
    · obtain ⟨i, hi⟩ : ∃ i : Nat, Lib.index l [c] = i := ⟨(Lib.index l [c]).toNat, by omega⟩
      rw [hi]
      have e1 : ((i : Int) == -1) = false := by simp
      have e2 : ((i : Int) + 1 == -1) = false := by simp; omega
      have e3 : ((i : Int) + 1).toNat = i + 1 := by omega
      simp [e1, e2, e3, ahead]

theorem splitK_cutAt (c : UInt8) (l : List UInt8) : Lib.splitK [c] 0 (Lib.count l [c]) l = cutAt c l := by
  induction l with
  | nil => simp [Lib.count_one, Lib.splitK, cutAt]
  | cons b l ih =>
    by_cases h : b = c
    · subst h
      rw [Lib.count_cons_eq, Nat.add_comm]
      unfold Lib.splitK
      rw [index_cons_eq]
      simp only [cutAt, if_true]
      simpa using ih
    · rw [Lib.count_cons_ne b c l h, splitK_ahead b c h, ih]
      simp [cutAt, h]

/-- The library's pieces, as bytes. -/
theorem bl_split (c : UInt8) (s : ByteArray) : bl (Lib.splitB ⟨#[c]⟩ 0 (Lib.countB s ⟨#[c]⟩) s) = cutAt c s.data.toList := by
  unfold bl
  rw [Lib.splitB_data]
  exact splitK_cutAt c s.data.toList

/-- Ahead of the first c, behind it, and whether there is one. -/
def one (c : UInt8) (l : List UInt8) : List UInt8 × List UInt8 × Bool := (l.takeWhile (· != c), (l.dropWhile (· != c)).drop 1, l.contains c)
theorem cut_one (c : UInt8) (l : List UInt8) : Lib.cut l [c] = one c l := by
  induction l with
  | nil => simp [Lib.cut, Lib.index, one]
  | cons b l ih =>
    by_cases h : b = c
    · subst h
      unfold Lib.cut
      rw [index_cons_eq]
      simp [one]
    · have hge := Lib.index_ge l [c]
      unfold Lib.cut at ih ⊢
      rw [index_cons_ne b c l h]
      have hb : (b != c) = true := by simp [h]
      have hc : (b :: l).contains c = l.contains c := by simp; intro e; exact absurd e.symm h
      simp only [one, List.takeWhile_cons, List.dropWhile_cons, hb, if_true, hc] at ih ⊢
      by_cases e : Lib.index l [c] = -1
      · rw [e] at ih ⊢
        simp only [show ¬ (0 : Int) ≤ -1 by decide, if_false, Prod.mk.injEq] at ih
        simp only [beq_self_eq_true, if_true, show ¬ (0 : Int) ≤ -1 by decide, if_false, Prod.mk.injEq]
        exact ⟨by rw [← ih.1], ih.2.1, ih.2.2⟩
      · obtain ⟨i, hi⟩ : ∃ i : Nat, Lib.index l [c] = i := ⟨(Lib.index l [c]).toNat, by omega⟩
        rw [hi] at ih ⊢
        have e1 : ((i : Int) == -1) = false := by simp
        have e3 : ((i : Int) + 1).toNat = i + 1 := by omega
        rw [if_pos (by omega)] at ih
        simp only [Prod.mk.injEq, Int.toNat_natCast, List.length_singleton] at ih
        rw [e1]
        simp only [Bool.false_eq_true, if_false]
        rw [if_pos (by omega), e3]
        simp only [Prod.mk.injEq, List.length_singleton, List.take_succ_cons, List.drop_succ_cons]
        exact ⟨by rw [← ih.1], ih.2.1, ih.2.2⟩

theorem cutAt_le (c : UInt8) (l : List UInt8) : ∀ p, p ∈ cutAt c l → p.length ≤ l.length := by
  induction l with
  | nil => intro p hp; simp [cutAt] at hp; simp [hp]
  | cons b l ih =>
    intro p hp
    unfold cutAt at hp
    split at hp
    · rcases List.mem_cons.1 hp with rfl | h
      · simp
      · have := ih p h; simp; omega
    · cases hq : cutAt c l with
      | nil => exact absurd hq (cutAt_ne c l)
      | cons h t =>
        rw [hq] at hp ih
        simp only [ahead, List.mem_cons] at hp
        rcases hp with rfl | hp
        · have := ih h (List.mem_cons_self); simp; omega
        · have := ih p (List.mem_cons_of_mem _ hp); simp; omega
theorem cutAt_many (c : UInt8) (l : List UInt8) : (cutAt c l).length ≤ l.length + 1 := by
  induction l with
  | nil => simp [cutAt]
  | cons b l ih =>
    unfold cutAt
    split
    · simp; omega
    · rw [ahead_len b _ (cutAt_ne c l)]; simp; omega
theorem bl_mem {X : List ByteArray} {x : ByteArray} (h : x ∈ X) : x.data.toList ∈ bl X := List.mem_map.2 ⟨x, h, rfl⟩

/-- readNumbers: the numbers, and the worst of their errors. -/
def numsErr (ps : List (List UInt8)) : Nat := ps.foldl (fun b p => worse b (num p).2) 0
def numsOf (ps : List (List UInt8)) : List Int := ps.map fun p => (num p).1
theorem numsErr_snoc (ps : List (List UInt8)) (p : List UInt8) : numsErr (ps ++ [p]) = worse (numsErr ps) (num p).2 := by simp [numsErr, List.foldl_append]
theorem numsErr_err (ps : List (List UInt8)) : numsErr ps = 0 ∨ numsErr ps = 1 ∨ numsErr ps = 2 := by
  have key : ∀ (ps : List (List UInt8)) (b : Nat), (b = 0 ∨ b = 1 ∨ b = 2) → ps.foldl (fun b p => worse b (num p).2) b = 0 ∨ ps.foldl (fun b p => worse b (num p).2) b = 1 ∨ ps.foldl (fun b p => worse b (num p).2) b = 2 := by
    intro ps
    induction ps with
    | nil => intro b hb; exact hb
    | cons p r ih => intro b hb; exact ih _ (worse_err hb (num_err p))
  exact key ps 0 (Or.inl rfl)
theorem numsOf_snoc (ps : List (List UInt8)) (p : List UInt8) : numsOf (ps ++ [p]) = numsOf ps ++ [(num p).1] := by simp [numsOf]
theorem numsOf_len (ps : List (List UInt8)) : (numsOf ps).length = ps.length := by simp [numsOf]
theorem num_bd (l : List UInt8) : 0 ≤ (num l).1 ∧ (num l).1 ≤ 999999 := by
  unfold num
  split
  · simp
  · rename_i h
    simp only [Bool.or_eq_true, not_or] at h
    have hd : allDig l = true := by
      have h1 := h.1
      unfold digs at h1
      cases ha : allDig l
      · rw [ha] at h1; simp at h1
      · rfl
    have hb := numTo_bd l hd
    split
    · exact ⟨hb.1, by assumption⟩
    · simp
end Ve
end Go.Proofs.YtmgpbejekglipabGreatDoor

/-
  Contracts of library functions, laid at this program out of the compiled library, each by one application.
-/
namespace Go.Proofs
open Go.Shelf
def Tryz.lays156_ren : Go.Shelf.Ren := ⟨fun | 156 => 150 | 165 => 188 | 166 => 52 | 169 => 54 | 240 => 98 | 241 => 217 | 276 => 155 | 277 => 245 | n => n, fun | 31 => 56 | 9 => 9 | 3 => 3 | 4 => 4 | 0 => 0 | 20 => 20 | 72 => 87 | 76 => 88 | 70 => 84 | 37 => 85 | 75 => 32 | 127 => 140 | 164 => 163 | 5 => 5 | 80 => 91 | n => n, fun | n => n⟩
theorem Tryz.lays156 : Go.Proofs.Lays.n156 Tryz.prog Tryz.lays156_ren := {
  mixed := by kernel_rfl
  f156 := Tryz.func150.trans (congrArg some (by kernel_rfl))
  f165 := Tryz.func188.trans (congrArg some (by kernel_rfl))
  f166 := Tryz.func52.trans (congrArg some (by kernel_rfl))
  f169 := Tryz.func54.trans (congrArg some (by kernel_rfl))
  f240 := Tryz.func98.trans (congrArg some (by kernel_rfl))
  f241 := Tryz.func217.trans (congrArg some (by kernel_rfl))
  f276 := Tryz.func155.trans (congrArg some (by kernel_rfl))
  f277 := Tryz.func245.trans (congrArg some (by kernel_rfl))
  t0 := Tryz.underlying0
  a0 := Tryz.isAgg0
  z0 := Tryz.sizeOf0
  v0 := Tryz.zeroValue0
  t3 := Tryz.underlying3
  a3 := Tryz.isAgg3
  z3 := Tryz.sizeOf3
  v3 := Tryz.zeroValue3
  t4 := Tryz.underlying4
  a4 := Tryz.isAgg4
  z4 := Tryz.sizeOf4
  v4 := Tryz.zeroValue4
  t9 := Tryz.underlying9
  a9 := Tryz.isAgg9
  z9 := Tryz.sizeOf9
  v9 := Tryz.zeroValue9
  t20 := Tryz.underlying20
  a20 := Tryz.isAgg20
  z20 := Tryz.sizeOf20
  v20 := Tryz.zeroValue20
  t31 := Tryz.underlying56
  a31 := Tryz.isAgg56
  z31 := Tryz.sizeOf56
  v31 := Tryz.zeroValue56
  t37 := Tryz.underlying85
  a37 := Tryz.isAgg85
  z37 := Tryz.sizeOf85
  v37 := Tryz.zeroValue85
  t70 := Tryz.underlying84
  a70 := Tryz.isAgg84
  z70 := Tryz.sizeOf84
  v70 := Tryz.zeroValue84
  t72 := Tryz.underlying87
  a72 := Tryz.isAgg87
  z72 := Tryz.sizeOf87
  v72 := Tryz.zeroValue87
  t75 := Tryz.underlying32
  a75 := Tryz.isAgg32
  z75 := Tryz.sizeOf32
  v75 := Tryz.zeroValue32
  t76 := Tryz.underlying88
  a76 := Tryz.isAgg88
  z76 := Tryz.sizeOf88
  v76 := Tryz.zeroValue88
  t127 := Tryz.underlying140
  a127 := Tryz.isAgg140
  z127 := Tryz.sizeOf140
  v127 := Tryz.zeroValue140
  t164 := Tryz.underlying163
  a164 := Tryz.isAgg163
  z164 := Tryz.sizeOf163
  v164 := Tryz.zeroValue163 }
theorem Tryz.Builder_Extra_156 : Builder.Extra Tryz.prog Tryz.lays156_ren := {
  sizeBuilder := by kernel_rfl
  liesBuilder := by kernel_rfl
  t5 := Tryz.underlying5
  a5 := Tryz.isAgg5
  z5 := Tryz.sizeOf5
  v5 := Tryz.zeroValue5
  infoByte := by kernel_rfl
  cellsByte := by kernel_rfl
  sizeByte := by kernel_rfl
  neB5 := by decide }
open Go.RowKit in
theorem Tryz.strings_Join_none (a : Option Addr) (c : Nat) (sep : ByteArray) (w : World) :
    Calls Tryz.prog 150 #[.slice a 0 c, .string sep] w fun e w' => e = .returned (.string ⟨#[]⟩) ∧ w' = w := Any.strings_Join_none Tryz.lays156 Tryz.Builder_Extra_156 a c sep w
open Go.RowKit in
theorem Tryz.strings_Join (bk o c : Nat) (xs : List ByteArray) (sep : ByteArray) (w : World) (hcells : ∀ (j : Nat) x, xs[j]? = some x → w.cell? ⟨bk, o + j, none⟩ = some (.string x)) (hbk : bk < w.heap.size) (hN : xs.length ≤ 140737488355328) (hcap : xs.length ≤ c) (hlen : (Lib.join (xs.map (·.data.toList)) sep.data.toList).length ≤ 140737488355328) :
    Calls Tryz.prog 150 #[.slice (some ⟨bk, o, none⟩) xs.length c, .string sep] w fun e w' => e = .returned (.string ⟨(Lib.join (xs.map (·.data.toList)) sep.data.toList).toArray⟩) ∧ Below w.heap.size w w' := Any.strings_Join Tryz.lays156 Tryz.Builder_Extra_156 bk o c xs sep w hcells hbk hN hcap hlen
def Tryz.lays106_ren : Go.Shelf.Ren := ⟨fun | 106 => 107 | 213 => 157 | 265 => 190 | n => n, fun | 9 => 9 | 3 => 3 | n => n, fun | n => n⟩
theorem Tryz.lays106 : Go.Proofs.Lays.n106 Tryz.prog Tryz.lays106_ren := {
  mixed := by kernel_rfl
  f106 := Tryz.func107.trans (congrArg some (by kernel_rfl))
  f213 := Tryz.func157.trans (congrArg some (by kernel_rfl))
  f265 := Tryz.func190.trans (congrArg some (by kernel_rfl))
  t3 := Tryz.underlying3
  a3 := Tryz.isAgg3
  z3 := Tryz.sizeOf3
  v3 := Tryz.zeroValue3
  t9 := Tryz.underlying9
  a9 := Tryz.isAgg9
  z9 := Tryz.sizeOf9
  v9 := Tryz.zeroValue9 }
open Go.RowKit in
theorem Tryz.strings_Compare (a b : ByteArray) (w : World) :
    Calls Tryz.prog 107 #[.string a, .string b] w fun e w' => e = .returned (.int .i64 (Lib.compareBytes a.data.toList b.data.toList)) ∧ w' = w := Any.strings_Compare Tryz.lays106 a b w
def Tryz.lays103_ren : Go.Shelf.Ren := ⟨fun | 103 => 74 | 210 => 123 | 206 => 168 | n => n, fun | 9 => 9 | 4 => 4 | 24 => 107 | 3 => 3 | n => n, fun | n => n⟩
theorem Tryz.lays103 : Go.Proofs.Lays.n103 Tryz.prog Tryz.lays103_ren := {
  mixed := by kernel_rfl
  f103 := Tryz.func74.trans (congrArg some (by kernel_rfl))
  f206 := Tryz.func168.trans (congrArg some (by kernel_rfl))
  f210 := Tryz.func123.trans (congrArg some (by kernel_rfl))
  t3 := Tryz.underlying3
  a3 := Tryz.isAgg3
  z3 := Tryz.sizeOf3
  v3 := Tryz.zeroValue3
  t4 := Tryz.underlying4
  a4 := Tryz.isAgg4
  z4 := Tryz.sizeOf4
  v4 := Tryz.zeroValue4
  t9 := Tryz.underlying9
  a9 := Tryz.isAgg9
  z9 := Tryz.sizeOf9
  v9 := Tryz.zeroValue9
  t24 := Tryz.underlying107
  a24 := Tryz.isAgg107
  z24 := Tryz.sizeOf107
  v24 := Tryz.zeroValue107 }
open Go.RowKit in
theorem Tryz.strings_CutPrefix (s p : ByteArray) (w : World) :
    Calls Tryz.prog 74 #[.string s, .string p] w fun e w' => e = .returned (.tuple #[.string ⟨(Lib.trimPrefix s.data.toList p.data.toList).toArray⟩, .bool (Lib.hasPrefix s.data.toList p.data.toList)]) ∧ w' = w := Any.strings_CutPrefix Tryz.lays103 s p w
def Tryz.lays122_ren : Go.Shelf.Ren := ⟨fun | 122 => 130 | 215 => 176 | n => n, fun | 3 => 3 | 4 => 4 | n => n, fun | n => n⟩
theorem Tryz.lays122 : Go.Proofs.Lays.n122 Tryz.prog Tryz.lays122_ren := {
  mixed := by kernel_rfl
  f122 := Tryz.func130.trans (congrArg some (by kernel_rfl))
  f215 := Tryz.func176.trans (congrArg some (by kernel_rfl))
  t3 := Tryz.underlying3
  a3 := Tryz.isAgg3
  z3 := Tryz.sizeOf3
  v3 := Tryz.zeroValue3
  t4 := Tryz.underlying4
  a4 := Tryz.isAgg4
  z4 := Tryz.sizeOf4
  v4 := Tryz.zeroValue4 }
open Go.RowKit in
theorem Tryz.cmp_Compare_int (x y : Int) (w : World) :
    Calls Tryz.prog 130 #[.int .i64 x, .int .i64 y] w fun e w' => e = .returned (.int .i64 (Lib.compareInt x y)) ∧ w' = w := Any.cmp_Compare_int Tryz.lays122 x y w
def Tryz.laysM171_ren : Go.Shelf.Ren := ⟨fun | 171 => 197 | 243 => 238 | 246 => 255 | 283 => 260 | 284 => 261 | 285 => 262 | 286 => 263 | 129 => 229 | 317 => 266 | 318 => 267 | 319 => 268 | 320 => 269 | 337 => 270 | 338 => 271 | n => n, fun | 3 => 3 | 9 => 9 | 2 => 2 | 4 => 4 | 171 => 269 | 0 => 0 | 53 => 242 | 37 => 85 | 5 => 5 | 173 => 271 | 212 => 275 | 51 => 240 | 20 => 20 | 213 => 276 | 46 => 183 | 232 => 277 | 233 => 278 | n => n, fun | 17 => 14 | 18 => 15 | 19 => 16 | n => n⟩
theorem Tryz.laysM171 : Go.Proofs.LaysM.n171 Tryz.prog Tryz.laysM171_ren := {
  mixed := by kernel_rfl
  f129 := Tryz.func229.trans (congrArg some (by kernel_rfl))
  f171 := Tryz.func197.trans (congrArg some (by kernel_rfl))
  f243 := Tryz.func238.trans (congrArg some (by kernel_rfl))
  f246 := Tryz.func255.trans (congrArg some (by kernel_rfl))
  f283 := Tryz.func260.trans (congrArg some (by kernel_rfl))
  f284 := Tryz.func261.trans (congrArg some (by kernel_rfl))
  f285 := Tryz.func262.trans (congrArg some (by kernel_rfl))
  f286 := Tryz.func263.trans (congrArg some (by kernel_rfl))
  f317 := Tryz.func266.trans (congrArg some (by kernel_rfl))
  f318 := Tryz.func267.trans (congrArg some (by kernel_rfl))
  f319 := Tryz.func268.trans (congrArg some (by kernel_rfl))
  f320 := Tryz.func269.trans (congrArg some (by kernel_rfl))
  f337 := Tryz.func270.trans (congrArg some (by kernel_rfl))
  f338 := Tryz.func271.trans (congrArg some (by kernel_rfl))
  t0 := Tryz.underlying0
  a0 := Tryz.isAgg0
  z0 := Tryz.sizeOf0
  v0 := Tryz.zeroValue0
  t2 := Tryz.underlying2
  a2 := Tryz.isAgg2
  z2 := Tryz.sizeOf2
  v2 := Tryz.zeroValue2
  t3 := Tryz.underlying3
  a3 := Tryz.isAgg3
  z3 := Tryz.sizeOf3
  v3 := Tryz.zeroValue3
  t4 := Tryz.underlying4
  a4 := Tryz.isAgg4
  z4 := Tryz.sizeOf4
  v4 := Tryz.zeroValue4
  t5 := Tryz.underlying5
  a5 := Tryz.isAgg5
  z5 := Tryz.sizeOf5
  v5 := Tryz.zeroValue5
  t9 := Tryz.underlying9
  a9 := Tryz.isAgg9
  z9 := Tryz.sizeOf9
  v9 := Tryz.zeroValue9
  t20 := Tryz.underlying20
  a20 := Tryz.isAgg20
  z20 := Tryz.sizeOf20
  v20 := Tryz.zeroValue20
  t37 := Tryz.underlying85
  a37 := Tryz.isAgg85
  z37 := Tryz.sizeOf85
  v37 := Tryz.zeroValue85
  t46 := Tryz.underlying183
  a46 := Tryz.isAgg183
  z46 := Tryz.sizeOf183
  v46 := Tryz.zeroValue183
  t51 := Tryz.underlying240
  a51 := Tryz.isAgg240
  z51 := Tryz.sizeOf240
  v51 := Tryz.zeroValue240
  t53 := Tryz.underlying242
  a53 := Tryz.isAgg242
  z53 := Tryz.sizeOf242
  v53 := Tryz.zeroValue242
  t171 := Tryz.underlying269
  a171 := Tryz.isAgg269
  z171 := Tryz.sizeOf269
  v171 := Tryz.zeroValue269
  t173 := Tryz.underlying271
  a173 := Tryz.isAgg271
  z173 := Tryz.sizeOf271
  v173 := Tryz.zeroValue271
  t212 := Tryz.underlying275
  a212 := Tryz.isAgg275
  z212 := Tryz.sizeOf275
  v212 := Tryz.zeroValue275
  t213 := Tryz.underlying276
  a213 := Tryz.isAgg276
  z213 := Tryz.sizeOf276
  t232 := Tryz.underlying277
  a232 := Tryz.isAgg277
  z232 := Tryz.sizeOf277
  v232 := Tryz.zeroValue277
  t233 := Tryz.underlying278
  a233 := Tryz.isAgg278
  z233 := Tryz.sizeOf278
  v233 := Tryz.zeroValue278
  g17 := by kernel_rfl
  g18 := by kernel_rfl
  g19 := by kernel_rfl
  i0 := by kernel_rfl
  i2 := by kernel_rfl
  i3 := by kernel_rfl
  i4 := by kernel_rfl
  i5 := by kernel_rfl
  i9 := by kernel_rfl
  i20 := by kernel_rfl
  i37 := by kernel_rfl
  i46 := by kernel_rfl
  i51 := by kernel_rfl
  i53 := by kernel_rfl
  i171 := by kernel_rfl
  i173 := by kernel_rfl
  i212 := by kernel_rfl
  i232 := by kernel_rfl
  i233 := by kernel_rfl
  m17 := by kernel_rfl
  m18 := by kernel_rfl
  m19 := by kernel_rfl }
open Go.RowKit Go.Sort Go.Lib in
theorem Tryz.strconv_Itoa (n : Int) (h0 : -9223372036854775808 ≤ n) (h1 : n ≤ 9223372036854775807) (w : World) (htab : Lib.TabIs Tryz.prog w "internal/strconv.uint64pow10" .u64 Lib.pow10Tab) :
    Calls Tryz.prog 197 #[.int .i64 n] w fun e w' => e = .returned (.string ⟨(Lib.itoa n).toArray⟩) ∧ ∃ k os, w' = grow (w.drewN k) os := Any.strconv_Itoa Tryz.laysM171 n h0 h1 w htab
def Tryz.lays145_ren : Go.Shelf.Ren := ⟨fun | 145 => 75 | 220 => 124 | 219 => 169 | 217 => 198 | 225 => 199 | 224 => 200 | 267 => 201 | 266 => 239 | 314 => 240 | n => n, fun | 9 => 9 | 4 => 4 | 59 => 109 | 3 => 3 | 5 => 5 | 46 => 183 | 146 => 248 | 51 => 240 | n => n, fun | 1 => 11 | n => n⟩
theorem Tryz.lays145 : Go.Proofs.Lays.n145 Tryz.prog Tryz.lays145_ren := {
  mixed := by kernel_rfl
  f145 := Tryz.func75.trans (congrArg some (by kernel_rfl))
  f217 := Tryz.func198.trans (congrArg some (by kernel_rfl))
  f219 := Tryz.func169.trans (congrArg some (by kernel_rfl))
  f220 := Tryz.func124.trans (congrArg some (by kernel_rfl))
  f224 := Tryz.func200.trans (congrArg some (by kernel_rfl))
  f225 := Tryz.func199.trans (congrArg some (by kernel_rfl))
  f266 := Tryz.func239.trans (congrArg some (by kernel_rfl))
  f267 := Tryz.func201.trans (congrArg some (by kernel_rfl))
  f314 := Tryz.func240.trans (congrArg some (by kernel_rfl))
  t3 := Tryz.underlying3
  a3 := Tryz.isAgg3
  z3 := Tryz.sizeOf3
  v3 := Tryz.zeroValue3
  t4 := Tryz.underlying4
  a4 := Tryz.isAgg4
  z4 := Tryz.sizeOf4
  v4 := Tryz.zeroValue4
  t5 := Tryz.underlying5
  a5 := Tryz.isAgg5
  z5 := Tryz.sizeOf5
  v5 := Tryz.zeroValue5
  t9 := Tryz.underlying9
  a9 := Tryz.isAgg9
  z9 := Tryz.sizeOf9
  v9 := Tryz.zeroValue9
  t46 := Tryz.underlying183
  a46 := Tryz.isAgg183
  z46 := Tryz.sizeOf183
  v46 := Tryz.zeroValue183
  t51 := Tryz.underlying240
  a51 := Tryz.isAgg240
  z51 := Tryz.sizeOf240
  v51 := Tryz.zeroValue240
  t59 := Tryz.underlying109
  a59 := Tryz.isAgg109
  z59 := Tryz.sizeOf109
  v59 := Tryz.zeroValue109
  t146 := Tryz.underlying248
  a146 := Tryz.isAgg248
  z146 := Tryz.sizeOf248
  v146 := Tryz.zeroValue248
  g1 := by kernel_rfl }
open Go.RowKit Go.Lib in
theorem Tryz.strings_Cut (s sep : ByteArray) (m : Int) (w : World) (hs : s.size < 4294967281) (hm : w.cell? ⟨11, 0, none⟩ = some (.int .i64 m)) :
    Calls Tryz.prog 75 #[.string s, .string sep] w fun e w' => e = .returned (.tuple #[.string ⟨(Lib.cut s.data.toList sep.data.toList).1.toArray⟩, .string ⟨(Lib.cut s.data.toList sep.data.toList).2.1.toArray⟩, .bool (Lib.cut s.data.toList sep.data.toList).2.2]) ∧ ∃ n, w' = w.drewN n := Any.strings_Cut Tryz.lays145 s sep m w hs hm
def Tryz.lays146_ren : Go.Shelf.Ren := ⟨fun | 146 => 77 | 221 => 126 | 268 => 171 | 138 => 172 | 143 => 173 | 195 => 203 | 197 => 204 | 218 => 205 | 219 => 169 | 260 => 241 | 217 => 198 | 225 => 199 | 224 => 200 | 267 => 201 | 266 => 239 | 314 => 240 | n => n, fun | 9 => 9 | 31 => 56 | 3 => 3 | 4 => 4 | 0 => 0 | 105 => 223 | 21 => 21 | 5 => 5 | 46 => 183 | 119 => 261 | 139 => 264 | 138 => 263 | 146 => 248 | 51 => 240 | n => n, fun | 1 => 11 | 3 => 12 | 4 => 13 | n => n⟩
theorem Tryz.lays146 : Go.Proofs.Lays.n146 Tryz.prog Tryz.lays146_ren := {
  mixed := by kernel_rfl
  f138 := Tryz.func172.trans (congrArg some (by kernel_rfl))
  f143 := Tryz.func173.trans (congrArg some (by kernel_rfl))
  f146 := Tryz.func77.trans (congrArg some (by kernel_rfl))
  f195 := Tryz.func203.trans (congrArg some (by kernel_rfl))
  f197 := Tryz.func204.trans (congrArg some (by kernel_rfl))
  f217 := Tryz.func198.trans (congrArg some (by kernel_rfl))
  f218 := Tryz.func205.trans (congrArg some (by kernel_rfl))
  f219 := Tryz.func169.trans (congrArg some (by kernel_rfl))
  f221 := Tryz.func126.trans (congrArg some (by kernel_rfl))
  f224 := Tryz.func200.trans (congrArg some (by kernel_rfl))
  f225 := Tryz.func199.trans (congrArg some (by kernel_rfl))
  f260 := Tryz.func241.trans (congrArg some (by kernel_rfl))
  f266 := Tryz.func239.trans (congrArg some (by kernel_rfl))
  f267 := Tryz.func201.trans (congrArg some (by kernel_rfl))
  f268 := Tryz.func171.trans (congrArg some (by kernel_rfl))
  f314 := Tryz.func240.trans (congrArg some (by kernel_rfl))
  t0 := Tryz.underlying0
  a0 := Tryz.isAgg0
  z0 := Tryz.sizeOf0
  v0 := Tryz.zeroValue0
  t3 := Tryz.underlying3
  a3 := Tryz.isAgg3
  z3 := Tryz.sizeOf3
  v3 := Tryz.zeroValue3
  t4 := Tryz.underlying4
  a4 := Tryz.isAgg4
  z4 := Tryz.sizeOf4
  v4 := Tryz.zeroValue4
  t5 := Tryz.underlying5
  a5 := Tryz.isAgg5
  z5 := Tryz.sizeOf5
  v5 := Tryz.zeroValue5
  t9 := Tryz.underlying9
  a9 := Tryz.isAgg9
  z9 := Tryz.sizeOf9
  v9 := Tryz.zeroValue9
  t21 := Tryz.underlying21
  a21 := Tryz.isAgg21
  z21 := Tryz.sizeOf21
  v21 := Tryz.zeroValue21
  t31 := Tryz.underlying56
  a31 := Tryz.isAgg56
  z31 := Tryz.sizeOf56
  v31 := Tryz.zeroValue56
  t46 := Tryz.underlying183
  a46 := Tryz.isAgg183
  z46 := Tryz.sizeOf183
  v46 := Tryz.zeroValue183
  t51 := Tryz.underlying240
  a51 := Tryz.isAgg240
  z51 := Tryz.sizeOf240
  v51 := Tryz.zeroValue240
  t105 := Tryz.underlying223
  a105 := Tryz.isAgg223
  z105 := Tryz.sizeOf223
  v105 := Tryz.zeroValue223
  t119 := Tryz.underlying261
  a119 := Tryz.isAgg261
  z119 := Tryz.sizeOf261
  t138 := Tryz.underlying263
  a138 := Tryz.isAgg263
  z138 := Tryz.sizeOf263
  v138 := Tryz.zeroValue263
  t139 := Tryz.underlying264
  a139 := Tryz.isAgg264
  z139 := Tryz.sizeOf264
  v139 := Tryz.zeroValue264
  t146 := Tryz.underlying248
  a146 := Tryz.isAgg248
  z146 := Tryz.sizeOf248
  v146 := Tryz.zeroValue248
  g1 := by kernel_rfl
  g3 := by kernel_rfl
  g4 := by kernel_rfl }
open Go.RowKit Go.Lib in
theorem Tryz.strings_Split (s sep : ByteArray) (m : Int) (w : World) (hs : s.size < 4294967281) (hm : w.cell? ⟨11, 0, none⟩ = some (.int .i64 m)) (h1 : 1 ≤ sep.size) :
    Calls Tryz.prog 77 #[.string s, .string sep] w fun e w' =>
      e = .returned (.slice (some ⟨w.heap.size, 0, none⟩) (Lib.countB s sep + 1) (Lib.countB s sep + 1)) ∧ w' = w.alloc (.cells ((Lib.splitB sep 0 (Lib.countB s sep) s).map Value.string).toArray 9) := Any.strings_Split Tryz.lays146 (by kernel_rfl) s sep m w hs hm h1
end Go.Proofs

/-
  What readNumbers of package ver answers for any text (of fewer than 4294967281 bytes): the numbers between the dots and the worst error; nothing old in memory turns.
-/
namespace Go.Proofs.YtmgpbejekglipabGreatDoor
open Go.RowKit
namespace Ve

/-- strings.Split at one byte. -/
theorem split_any (c : UInt8) (s : ByteArray) (m : Int) (w : World) (hs : s.size < 4294967281) (hm : w.cell? ⟨11, 0, none⟩ = some (.int .i64 m)) :
    Calls Tryz.prog 77 #[.string s, .string ⟨#[c]⟩] w fun e w' => ∃ X : List ByteArray, e = .returned (.slice (some ⟨w.heap.size, 0, none⟩) X.length X.length) ∧ bl X = cutAt c s.data.toList ∧
      (∀ j (h : j < X.length), w'.cell? ⟨w.heap.size, 0 + j, none⟩ = some (.string X[j])) ∧ Below w.heap.size w w' ∧ w.heap.size < w'.heap.size := by
  refine (Tryz.strings_Split s ⟨#[c]⟩ m w hs hm (Nat.le_refl 1)).mono fun e w' ⟨h1, h2⟩ => ?_
  have hlen := Lib.splitB_all ⟨#[c]⟩ (Nat.le_refl 1) 0 _ s rfl
  refine ⟨Lib.splitB ⟨#[c]⟩ 0 (Lib.countB s ⟨#[c]⟩) s, ?_, bl_split c s, ?_, ?_, ?_⟩
  · rw [h1, hlen]
  · intro j hj
    rw [h2, World.cell?_alloc_at _ _ _ _ rfl]
    simp [hj]
  · rw [h2]; exact (Below.refl _ _).alloc (Nat.le_refl _) _
  · rw [h2]; simp

theorem piece_le {c : UInt8} {s x : ByteArray} {X : List ByteArray} (hX : bl X = cutAt c s.data.toList) (hx : x ∈ X) : x.size ≤ s.size := by
  have := cutAt_le c s.data.toList _ (hX ▸ bl_mem hx)
  simpa using this
theorem many_le {c : UInt8} {s : ByteArray} {X : List ByteArray} (hX : bl X = cutAt c s.data.toList) : X.length ≤ s.size + 1 := by
  have := cutAt_many c s.data.toList
  rw [← hX, bl_len] at this
  simpa using this

theorem infoInt : (Tryz.prog.info? 3).map (fun i => (i.zero, i.size, i.bytes)) = some (some (.int .i64 0), 1, 8) := by kernel_rfl

theorem owns_below {w w' : World} {base : Nat} {e : TypeId} {size : Nat} {v : Value} {n : Nat} {xs : List Value} (h : w.ownsRow base e size v n xs) (hb : Below w.heap.size w w') : w'.ownsRow base e size v n xs := by
  obtain ⟨hl, h | ⟨g, cap, cur, e1, e2, e3, e4, e5, e6, e7⟩⟩ := h
  · exact ⟨hl, Or.inl h⟩
  · exact ⟨hl, Or.inr ⟨g, cap, cur, e1, e2, by rw [hb.block _ (lt_of_blk e3)]; exact e3, e4, e5, e6, e7⟩⟩

theorem rel_app {B : Nat} {w wr w2 w3 : World} {e : TypeId} {v : Value} {n : Nat} {xs : List Value} {o : Obj} (hB : B ≤ wr.heap.size) (hb : Below B w wr) (hown : wr.ownsRow B e 1 v n xs) (hb2 : Below wr.heap.size wr w2)
    (hg : (w2.alloc o).grownBy w3 v.ownBlock) : Below B w w3 := by
  have h2 : Below B w w2 := hb.trans (hb2.mono hB)
  have h3 : Below B w (w2.alloc o) := h2.alloc (Nat.le_trans hB hb2.size) o
  exact h3.grown hg (by simp; exact Nat.le_succ_of_le (Nat.le_trans hB hb2.size)) (fun k hk => (hown.lt k hk).1)

set_option maxHeartbeats 1000000 in
theorem nums_any (s : ByteArray) (aT aB : Addr) (m : Int) (w : World) (hs : s.size < 4294967281) (S : Vs w aT aB m) :
    Calls Tryz.prog 76 #[.string s] w fun e w' => ∃ v, e = .returned (.tuple #[v, errV aT aB (numsErr (cutAt 46 s.data.toList))]) ∧
      w'.ownsRow w.heap.size 3 1 v (cutAt 46 s.data.toList).length ((numsOf (cutAt 46 s.data.toList)).map (Value.int .i64)) ∧ Below w.heap.size w w' := by
  obtain ⟨i0, hi, hz0, hz1, hz2⟩ := info_parts infoInt
  have HS := hid S
  clear S
  go_enter Tryz.func76, Tryz.ntmps76
  go_wp2_with fail
  refine (split_any 46 s m w hs HS.out.ml).mono ?_
  rintro e w1 ⟨X, rfl, hX, hc, hb, hz⟩
  have HX := hid hX
  have HC := hid hc
  have HB := hid hb
  have hn := many_le hX
  clear hX hc hb
  go_wp2_with fail
  go_loopw [4, 5, 13] (fun v bad i wr => ∃ k : Nat, k ≤ X.length ∧ i = .int .i64 k ∧ bad = errV aT aB (numsErr (bl (X.take k))) ∧
      wr.ownsRow w1.heap.size 3 1 v k ((numsOf (bl (X.take k))).map (Value.int .i64)) ∧ Below w1.heap.size w1 wr) (fun _ _ i _ => X.length - (intOf i).toNat)
  case atStart => exact ⟨0, Nat.zero_le _, rfl, rfl, World.ownsRow_nil _ _ _ _, Below.refl _ _⟩
  case round =>
    obtain ⟨k, hk, rfl, rfl, hown, hbr⟩ := hrel
    have HO := hid hown
    have HBR := hid hbr
    clear hown hbr
    have hz2' := HBR.out.size
    by_cases hlt : k < X.length
    · have hcell : wr.cell? ⟨w.heap.size, k, none⟩ = some (.string X[k]) := by
        have := HC.out k hlt
        rw [Nat.zero_add] at this
        exact cell_below HBR.out this
      have HE := hid (numsErr_err (bl (X.take k)))
      have HSN := hid (numsErr_snoc (bl (X.take k)) X[k].data.toList)
      have HON := hid (numsOf_snoc (bl (X.take k)) X[k].data.toList)
      rw [← bl_take_snoc X k hlt] at HSN HON
      have HXK := hid (show X[k].size ≤ maxLen by have := piece_le HX.out (List.getElem_mem hlt); unfold maxLen; omega)
      have HW := hid (HB.out.trans (HBR.out.mono HB.out.size))
      generalize hq : numsErr (bl (X.take k)) = q at *
      generalize hq2 : numsOf (bl (X.take k)) = q2 at *
      clear hq hq2
      go_wp2_with fail
      refine (num_any X[k] aT aB m wr HXK.out (HS.out.below HW.out)).mono ?_
      rintro e w2 ⟨rfl, hb2⟩
      have HB2 := hid hb2
      have HPE := hid (num_err X[k].data.toList)
      have hz3 := hb2.size
      clear hb2
      go_wp2_with fail
      refine (worse_any q _ aT aB m w2 (HS.out.below (HW.out.trans (HB2.out.mono HW.out.size))) HE.out HPE.out).mono ?_
      rintro e w' ⟨rfl, rfl⟩
      rw [← HSN.out]
      go_wp2_with (at_builtin; refine wpList_append_own _ rfl _ _ 111 rfl w1.heap.size 3 i0 (.int .i64 0) 1 8 Tryz.underlying111 hi hz0 hz1 hz2 rfl (by decide) _ _ _ rfl ((owns_below HO.out HB2.out).alloc _) ⟨w'.heap.size, 0, none⟩ 1 1 [.int .i64 (num X[k].data.toList).1] rfl rfl ?c1 ?c2 ?c3 ?c4 ?c5 ?_)
      case c1 =>
        intro j u hj
        match j, hj with
        | 0, hj => simp at hj; subst hj; simp [Addr.add]
      case c2 => intro u hu; simp at hu; subst hu; rfl
      case c3 => unfold maxLen; omega
      case c4 => omega
      case c5 => simp; omega
      intro v' w3 hown' hgrow _
      have HR := hid (rel_app hz2' HBR.out HO.out HB2.out hgrow)
      have HO' := hid hown'
      clear hown' hgrow
      go_wp2_with fail
      go_roundw
      case rel => exact ⟨k + 1, by omega, by go_num, rfl, by rw [HON.out]; simpa using HO'.out, HR.out⟩
      case measure => simp [intOf]; omega
    · have hkk : X.take k = X := List.take_of_length_le (by omega)
      have hkl : k = X.length := by omega
      rw [hkk] at HO ⊢
      subst hkl
      have HL := hid (show (cutAt 46 s.data.toList).length = X.length by rw [← HX.out, bl_len])
      have HF := hid (HB.out.trans (HBR.out.mono HB.out.size))
      clear hkk
      go_wp2_with fail
      go_ret2
      exact ⟨_, by rw [HX.out]; rfl, by rw [HL.out, ← HX.out]; exact HO.out.mono HB.out.size, HF.out⟩
end Ve
end Go.Proofs.YtmgpbejekglipabGreatDoor
