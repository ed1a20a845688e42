
import Derived.Shelf.Strings.Builder1
import Derived.Shelf.Strings.Builder2
import Derived.Shelf.Strings.OnBuilder
import Derived.Shelf.Strings.Trim
import Derived.Shelf.Small.Utf8
import Derived.Shelf.Small.Bits
import Derived.Shelf.Small.Strs
import Derived.Shelf.Small.Wraps
import Derived.Shelf.Strconv.Itoa0
import Derived.Shelf.Strconv.Itoa1
import Derived.Shelf.LaysM
import Derived.Shelf.Strconv.Itoa2
import Derived.Shelf.Strconv.Itoa3
import Derived.Ground.MpProg
import Derived.Shelf.Pu.ParseUintPublic10
import Derived.Shelf.Strings.Search1
import Derived.Shelf.Strings.Search2
import Derived.Shelf.Strings.Search3
import Derived.Shelf.Strings.Cut
import Derived.Shelf.Strings.Count
import Derived.Shelf.Strings.Shaped
import Derived.Shelf.Strings.Prefix
import Derived.Shelf.Strings.Split
import Derived.Shelf.Strings.Runes
import Derived.Shelf.Strings.AsciiSet
import Derived.Shelf.Unicode.DecodeSlow
import Derived.Shelf.Slices.Equal
import Derived.Shelf.Slices.CompactS
import Derived.Shelf.Slices.Empties2
import Derived.Test.YtpafkniapacfdaaGreatDoorProg
import Derived.Test.YtpafkniapacfdaaGreatDoorSs1
import Derived.Test.YtpafkniapacfdaaGreatDoorSs3
import Derived.Lib.Bytealg
namespace Go.Proofs
open Go.Shelf
def Tryz.lays137_ren : Go.Shelf.Ren := ⟨fun | 137 => 76 | 217 => 111 | 266 => 155 | n => n, fun | 9 => 9 | 5 => 5 | 3 => 3 | n => n, fun | n => n⟩
theorem Tryz.lays137 : Go.Proofs.Lays.n137 Tryz.prog Tryz.lays137_ren := {
  mixed := by kernel_rfl
  f137 := Tryz.func76.trans (congrArg some (by kernel_rfl))
  f217 := Tryz.func111.trans (congrArg some (by kernel_rfl))
  f266 := Tryz.func155.trans (congrArg some (by kernel_rfl))
  t3 := Tryz.underlying3
  a3 := Tryz.isAgg3
  z3 := Tryz.sizeOf3
  v3 := Tryz.zeroValue3
  t5 := Tryz.underlying5
  a5 := Tryz.isAgg5
  z5 := Tryz.sizeOf5
  v5 := Tryz.zeroValue5
  t9 := Tryz.underlying9
  a9 := Tryz.isAgg9
  z9 := Tryz.sizeOf9
  v9 := Tryz.zeroValue9 }
open Go.RowKit in
theorem Tryz.strings_IndexByte (s : ByteArray) (c : Int) (w : World) :
    Calls Tryz.prog 76 #[.string s, .int .u8 c] w fun e w' => e = .returned (.int .i64 (Lib.indexByte s.data.toList c.toNat.toUInt8)) ∧ w' = w := Any.strings_IndexByte Tryz.lays137 s c w
def Tryz.lays283_ren : Go.Shelf.Ren := ⟨fun | 283 => 151 | n => n, fun | 3 => 3 | 9 => 9 | 4 => 4 | n => n, fun | n => n⟩
theorem Tryz.lays283 : Go.Proofs.Lays.n283 Tryz.prog Tryz.lays283_ren := {
  mixed := by kernel_rfl
  f283 := Tryz.func151.trans (congrArg some (by kernel_rfl))
  t3 := Tryz.underlying3
  a3 := Tryz.isAgg3
  z3 := Tryz.sizeOf3
  v3 := Tryz.zeroValue3
  t4 := Tryz.underlying4
  a4 := Tryz.isAgg4
  z4 := Tryz.sizeOf4
  v4 := Tryz.zeroValue4
  t9 := Tryz.underlying9
  a9 := Tryz.isAgg9
  z9 := Tryz.sizeOf9
  v9 := Tryz.zeroValue9 }
open Go.Lib in
theorem Tryz.internal_strconv_small (i : Nat) (h : i < 100) (w : World) :
    Calls Tryz.prog 151 #[.int .i64 i] w fun e w' => e = .returned (.string ⟨(Lib.decDigits i).toArray⟩) ∧ w' = w := Any.internal_strconv_small Tryz.lays283 i h w
def Tryz.laysM284_ren : Go.Shelf.Ren := ⟨fun | 284 => 152 | 129 => 176 | 317 => 200 | 318 => 201 | n => n, fun | 53 => 122 | 3 => 3 | 212 => 249 | 0 => 0 | 4 => 4 | 46 => 136 | 5 => 5 | 9 => 9 | n => n, fun | 17 => 11 | n => n⟩
theorem Tryz.laysM284 : Go.Proofs.LaysM.n284 Tryz.prog Tryz.laysM284_ren := {
  mixed := by kernel_rfl
  f129 := Tryz.func176.trans (congrArg some (by kernel_rfl))
  f284 := Tryz.func152.trans (congrArg some (by kernel_rfl))
  f317 := Tryz.func200.trans (congrArg some (by kernel_rfl))
  f318 := Tryz.func201.trans (congrArg some (by kernel_rfl))
  t0 := Tryz.underlying0
  a0 := Tryz.isAgg0
  z0 := Tryz.sizeOf0
  v0 := Tryz.zeroValue0
  t3 := Tryz.underlying3
  a3 := Tryz.isAgg3
  z3 := Tryz.sizeOf3
  v3 := Tryz.zeroValue3
  t4 := Tryz.underlying4
  a4 := Tryz.isAgg4
  z4 := Tryz.sizeOf4
  v4 := Tryz.zeroValue4
  t5 := Tryz.underlying5
  a5 := Tryz.isAgg5
  z5 := Tryz.sizeOf5
  v5 := Tryz.zeroValue5
  t9 := Tryz.underlying9
  a9 := Tryz.isAgg9
  z9 := Tryz.sizeOf9
  v9 := Tryz.zeroValue9
  t46 := Tryz.underlying136
  a46 := Tryz.isAgg136
  z46 := Tryz.sizeOf136
  v46 := Tryz.zeroValue136
  t53 := Tryz.underlying122
  a53 := Tryz.isAgg122
  z53 := Tryz.sizeOf122
  v53 := Tryz.zeroValue122
  t212 := Tryz.underlying249
  a212 := Tryz.isAgg249
  z212 := Tryz.sizeOf249
  v212 := Tryz.zeroValue249
  g17 := by kernel_rfl
  i0 := by kernel_rfl
  i3 := by kernel_rfl
  i4 := by kernel_rfl
  i5 := by kernel_rfl
  i9 := by kernel_rfl
  i46 := by kernel_rfl
  i53 := by kernel_rfl
  i212 := by kernel_rfl
  m17 := by kernel_rfl }
open Go.Lib in
theorem Tryz.internal_strconv_numDigits (u : Nat) (h1 : 1 ≤ u) (h2 : u < 18446744073709551616) (w : World) (htab : Lib.TabIs Tryz.prog w "internal/strconv.uint64pow10" .u64 Lib.pow10Tab) :
    Calls Tryz.prog 152 #[.int .u64 u] w fun e w' => e = .returned (.int .i64 (Lib.nDigits u)) ∧ w' = w := Any.internal_strconv_numDigits Tryz.laysM284 u h1 h2 w htab
def Tryz.lays285_ren : Go.Shelf.Ren := ⟨fun | 285 => 153 | n => n, fun | 37 => 77 | 53 => 122 | 3 => 3 | 4 => 4 | 51 => 24 | 9 => 9 | 5 => 5 | 0 => 0 | n => n, fun | n => n⟩
theorem Tryz.lays285 : Go.Proofs.Lays.n285 Tryz.prog Tryz.lays285_ren := {
  mixed := by kernel_rfl
  f285 := Tryz.func153.trans (congrArg some (by kernel_rfl))
  t0 := Tryz.underlying0
  a0 := Tryz.isAgg0
  z0 := Tryz.sizeOf0
  v0 := Tryz.zeroValue0
  t3 := Tryz.underlying3
  a3 := Tryz.isAgg3
  z3 := Tryz.sizeOf3
  v3 := Tryz.zeroValue3
  t4 := Tryz.underlying4
  a4 := Tryz.isAgg4
  z4 := Tryz.sizeOf4
  v4 := Tryz.zeroValue4
  t5 := Tryz.underlying5
  a5 := Tryz.isAgg5
  z5 := Tryz.sizeOf5
  v5 := Tryz.zeroValue5
  t9 := Tryz.underlying9
  a9 := Tryz.isAgg9
  z9 := Tryz.sizeOf9
  v9 := Tryz.zeroValue9
  t37 := Tryz.underlying77
  a37 := Tryz.isAgg77
  z37 := Tryz.sizeOf77
  v37 := Tryz.zeroValue77
  t51 := Tryz.underlying24
  a51 := Tryz.isAgg24
  z51 := Tryz.sizeOf24
  v51 := Tryz.zeroValue24
  t53 := Tryz.underlying122
  a53 := Tryz.isAgg122
  z53 := Tryz.sizeOf122
  v53 := Tryz.zeroValue122 }
open Go.RowKit Go.Sort Go.Lib in
theorem Tryz.internal_strconv_formatBase10 (blk off cap : Nat) (u : Nat) (d : Array UInt8) (w : World) (hH : Holds (fun (b : UInt8) => Value.int .u8 (b.toNat : Int)) w blk off d) (hu : u < 10 ^ d.size) (hu64 : u < 18446744073709551616) (hsz : d.size < 4611686018427387904) :
    Calls Tryz.prog 153 #[.slice (some ⟨blk, off, none⟩) d.size cap, .int .u64 u] w fun e w' =>
      e = .returned (.tuple #[]) ∧ ∃ (n v' : Nat) (dk : Array UInt8), w' = (putRow (fun (b : UInt8) => Value.int .u8 (b.toNat : Int)) w blk off dk).drewN n ∧ FmtInv d.size u 0 v' dk := Any.internal_strconv_formatBase10 Tryz.lays285 blk off cap u d w hH hu hu64 hsz
def Tryz.laysPu14_ren : Go.Shelf.Ren := ⟨fun | 14 => 115 | 16 => 161 | 17 => 162 | 19 => 209 | 20 => 210 | 21 => 211 | 22 => 212 | 23 => 213 | 24 => 214 | 25 => 244 | 27 => 246 | 26 => 245 | 28 => 256 | 29 => 268 | 30 => 151 | 31 => 152 | 32 => 153 | 33 => 154 | 35 => 176 | 34 => 200 | 36 => 201 | 37 => 202 | 38 => 203 | 39 => 238 | 40 => 239 | n => n, fun | 9 => 9 | 3 => 3 | 22 => 122 | 24 => 30 | 25 => 169 | 4 => 4 | 34 => 254 | 5 => 5 | 36 => 136 | 37 => 77 | 0 => 0 | 39 => 256 | 21 => 21 | 44 => 277 | 47 => 123 | 50 => 293 | 48 => 291 | 2 => 2 | 52 => 204 | 55 => 207 | 59 => 249 | 60 => 24 | 20 => 20 | 61 => 250 | 65 => 283 | 66 => 284 | 67 => 83 | n => n, fun | 0 => 13 | 1 => 14 | 2 => 11 | 3 => 15 | 4 => 16 | n => n⟩
theorem Tryz.laysPu14 : Go.Proofs.LaysPu.n14 Tryz.prog Tryz.laysPu14_ren := {
  mixed := by kernel_rfl
  f14 := Tryz.func115.trans (congrArg some (by kernel_rfl))
  f16 := Tryz.func161.trans (congrArg some (by kernel_rfl))
  f17 := Tryz.func162.trans (congrArg some (by kernel_rfl))
  f19 := Tryz.func209.trans (congrArg some (by kernel_rfl))
  f20 := Tryz.func210.trans (congrArg some (by kernel_rfl))
  f21 := Tryz.func211.trans (congrArg some (by kernel_rfl))
  f22 := Tryz.func212.trans (congrArg some (by kernel_rfl))
  f23 := Tryz.func213.trans (congrArg some (by kernel_rfl))
  f24 := Tryz.func214.trans (congrArg some (by kernel_rfl))
  f25 := Tryz.func244.trans (congrArg some (by kernel_rfl))
  f26 := Tryz.func245.trans (congrArg some (by kernel_rfl))
  f27 := Tryz.func246.trans (congrArg some (by kernel_rfl))
  f28 := Tryz.func256.trans (congrArg some (by kernel_rfl))
  f29 := Tryz.func268.trans (congrArg some (by kernel_rfl))
  f30 := Tryz.func151.trans (congrArg some (by kernel_rfl))
  f31 := Tryz.func152.trans (congrArg some (by kernel_rfl))
  f32 := Tryz.func153.trans (congrArg some (by kernel_rfl))
  f33 := Tryz.func154.trans (congrArg some (by kernel_rfl))
  f34 := Tryz.func200.trans (congrArg some (by kernel_rfl))
  f35 := Tryz.func176.trans (congrArg some (by kernel_rfl))
  f36 := Tryz.func201.trans (congrArg some (by kernel_rfl))
  f37 := Tryz.func202.trans (congrArg some (by kernel_rfl))
  f38 := Tryz.func203.trans (congrArg some (by kernel_rfl))
  f39 := Tryz.func238.trans (congrArg some (by kernel_rfl))
  f40 := Tryz.func239.trans (congrArg some (by kernel_rfl))
  t0 := Tryz.underlying0
  a0 := Tryz.isAgg0
  z0 := Tryz.sizeOf0
  v0 := Tryz.zeroValue0
  i0 := by kernel_rfl
  t2 := Tryz.underlying2
  a2 := Tryz.isAgg2
  z2 := Tryz.sizeOf2
  v2 := Tryz.zeroValue2
  i2 := by kernel_rfl
  t3 := Tryz.underlying3
  a3 := Tryz.isAgg3
  z3 := Tryz.sizeOf3
  v3 := Tryz.zeroValue3
  i3 := by kernel_rfl
  t4 := Tryz.underlying4
  a4 := Tryz.isAgg4
  z4 := Tryz.sizeOf4
  v4 := Tryz.zeroValue4
  i4 := by kernel_rfl
  t5 := Tryz.underlying5
  a5 := Tryz.isAgg5
  z5 := Tryz.sizeOf5
  v5 := Tryz.zeroValue5
  i5 := by kernel_rfl
  t9 := Tryz.underlying9
  a9 := Tryz.isAgg9
  z9 := Tryz.sizeOf9
  v9 := Tryz.zeroValue9
  i9 := by kernel_rfl
  t20 := Tryz.underlying20
  a20 := Tryz.isAgg20
  z20 := Tryz.sizeOf20
  v20 := Tryz.zeroValue20
  i20 := by kernel_rfl
  t21 := Tryz.underlying21
  a21 := Tryz.isAgg21
  z21 := Tryz.sizeOf21
  v21 := Tryz.zeroValue21
  i21 := by kernel_rfl
  t22 := Tryz.underlying122
  a22 := Tryz.isAgg122
  z22 := Tryz.sizeOf122
  v22 := Tryz.zeroValue122
  i22 := by kernel_rfl
  t24 := Tryz.underlying30
  a24 := Tryz.isAgg30
  z24 := Tryz.sizeOf30
  v24 := Tryz.zeroValue30
  i24 := by kernel_rfl
  t25 := Tryz.underlying169
  a25 := Tryz.isAgg169
  z25 := Tryz.sizeOf169
  v25 := Tryz.zeroValue169
  i25 := by kernel_rfl
  t34 := Tryz.underlying254
  a34 := Tryz.isAgg254
  z34 := Tryz.sizeOf254
  v34 := Tryz.zeroValue254
  i34 := by kernel_rfl
  c34 := by kernel_rfl
  t36 := Tryz.underlying136
  a36 := Tryz.isAgg136
  z36 := Tryz.sizeOf136
  v36 := Tryz.zeroValue136
  i36 := by kernel_rfl
  t37 := Tryz.underlying77
  a37 := Tryz.isAgg77
  z37 := Tryz.sizeOf77
  v37 := Tryz.zeroValue77
  i37 := by kernel_rfl
  t39 := Tryz.underlying256
  a39 := Tryz.isAgg256
  z39 := Tryz.sizeOf256
  v39 := Tryz.zeroValue256
  i39 := by kernel_rfl
  t44 := Tryz.underlying277
  a44 := Tryz.isAgg277
  z44 := Tryz.sizeOf277
  v44 := Tryz.zeroValue277
  i44 := by kernel_rfl
  t47 := Tryz.underlying123
  a47 := Tryz.isAgg123
  z47 := Tryz.sizeOf123
  v47 := Tryz.zeroValue123
  i47 := by kernel_rfl
  t48 := Tryz.underlying291
  a48 := Tryz.isAgg291
  z48 := Tryz.sizeOf291
  v48 := Tryz.zeroValue291
  i48 := by kernel_rfl
  t50 := Tryz.underlying293
  a50 := Tryz.isAgg293
  z50 := Tryz.sizeOf293
  v50 := Tryz.zeroValue293
  i50 := by kernel_rfl
  t52 := Tryz.underlying204
  a52 := Tryz.isAgg204
  z52 := Tryz.sizeOf204
  v52 := Tryz.zeroValue204
  i52 := by kernel_rfl
  t55 := Tryz.underlying207
  a55 := Tryz.isAgg207
  z55 := Tryz.sizeOf207
  v55 := Tryz.zeroValue207
  i55 := by kernel_rfl
  t59 := Tryz.underlying249
  a59 := Tryz.isAgg249
  z59 := Tryz.sizeOf249
  v59 := Tryz.zeroValue249
  i59 := by kernel_rfl
  t60 := Tryz.underlying24
  a60 := Tryz.isAgg24
  z60 := Tryz.sizeOf24
  v60 := Tryz.zeroValue24
  i60 := by kernel_rfl
  t61 := Tryz.underlying250
  a61 := Tryz.isAgg250
  z61 := Tryz.sizeOf250
  t65 := Tryz.underlying283
  a65 := Tryz.isAgg283
  z65 := Tryz.sizeOf283
  v65 := Tryz.zeroValue283
  i65 := by kernel_rfl
  t66 := Tryz.underlying284
  a66 := Tryz.isAgg284
  z66 := Tryz.sizeOf284
  v66 := Tryz.zeroValue284
  i66 := by kernel_rfl
  t67 := Tryz.underlying83
  a67 := Tryz.isAgg83
  z67 := Tryz.sizeOf83
  v67 := Tryz.zeroValue83
  i67 := by kernel_rfl
  g0 := by kernel_rfl
  m0 := by kernel_rfl
  g1 := by kernel_rfl
  m1 := by kernel_rfl
  g2 := by kernel_rfl
  m2 := by kernel_rfl
  g3 := by kernel_rfl
  m3 := by kernel_rfl
  g4 := by kernel_rfl
  m4 := by kernel_rfl }
open Go.RowKit in
theorem Tryz.strconv_ParseUint_10_at32_ok (s : ByteArray) (hmax : s.size ≤ 9223372036854775806) (u : Nat) (h : Lib.parseUintB 32 s.data.toList = .ok u) (w : World) :
    Calls Tryz.prog 115 #[.string s, .int .i64 10, .int .i64 32] w fun e w' => e = .returned (.tuple #[.int .u64 u, .nilIface]) ∧ (w' = w ∨ w' = Lib.bytesWorld w 5 s) := Any.strconv_ParseUint_10_at32_ok Tryz.laysPu14 s hmax u h w
open Go.RowKit in
theorem Tryz.strconv_ParseUint_10_at32_range (s : ByteArray) (hlim : s.size ≤ 281474976710656) (h : Lib.parseUintB 32 s.data.toList = .range) (ev : Value) (w : World) (hv : w.cell? ⟨14, 0, none⟩ = some ev) (hev : ev = .nilIface ∨ ∃ te pe, ev = .iface te pe) :
    Calls Tryz.prog 115 #[.string s, .int .i64 10, .int .i64 32] w fun e w' => ∃ N, e = .returned (.tuple #[.int .u64 4294967295, .iface 256 (.pointer (some ⟨N, 0, none⟩))]) ∧ w.heap.size ≤ N ∧ w'.heap[N]? = some (.cells #[.string ⟨#[80, 97, 114, 115, 101, 85, 105, 110, 116]⟩, .string s, ev] 277 (0, 0)) ∧ Below w.heap.size w w' := Any.strconv_ParseUint_10_at32_range Tryz.laysPu14 s hlim h ev w hv hev
end Go.Proofs

/-
  What Digits, Numeral and Number of package chars, and inBounds, worse, checkPart and checkPre of package ver answer, in the words of the plain functions; nothing old in memory turns.
-/
namespace Go.Proofs.YtpafkniapacfdaaGreatDoor
open Go.RowKit
namespace Ve

/-- Where the two errors lie, and the library's own bound. -/
structure Vs (w : World) (aT aB : Addr) (m : Int) : Prop where
  t : w.cell? ⟨4, 0, none⟩ = some (.iface 291 (.pointer (some aT)))
  b : w.cell? ⟨5, 0, none⟩ = some (.iface 291 (.pointer (some aB)))
  bt : ∃ c t, w.heap[aT.block]? = some (.cells c t (0, 0))
  bb : ∃ c t, w.heap[aB.block]? = some (.cells c t (0, 0))
  ne : aT ≠ aB
  ml : w.cell? ⟨12, 0, none⟩ = some (.int .i64 m)

theorem lt_of_cell {w : World} {a : Addr} {v : Value} (h : w.cell? a = some v) : a.block < w.heap.size := by
  rcases Nat.lt_or_ge a.block w.heap.size with hh | hh
  · exact hh
  · simp [World.cell?, Array.getElem?_eq_none hh] at h
theorem lt_of_blk {w : World} {b : Nat} {o : Obj} (h : w.heap[b]? = some o) : b < w.heap.size := by
  rcases Nat.lt_or_ge b w.heap.size with hh | hh
  · exact hh
  · rw [Array.getElem?_eq_none hh] at h; cases h
theorem cell_below {w w' : World} {a : Addr} {v : Value} (hb : Below w.heap.size w w') (h : w.cell? a = some v) : w'.cell? a = some v := by
  rw [hb.cell (lt_of_cell h)]; exact h
theorem Vs.below {w w' : World} {aT aB : Addr} {m : Int} (h : Vs w aT aB m) (hb : Below w.heap.size w w') : Vs w' aT aB m := by
  refine ⟨cell_below hb h.t, cell_below hb h.b, ?_, ?_, h.ne, cell_below hb h.ml⟩
  · obtain ⟨c, t, e⟩ := h.bt
    exact ⟨c, t, by rw [hb.block _ (lt_of_blk e)]; exact e⟩
  · obtain ⟨c, t, e⟩ := h.bb
    exact ⟨c, t, by rw [hb.block _ (lt_of_blk e)]; exact e⟩
theorem below_drawn (w : World) (d : Nat) : Below w.heap.size w (w.drewN d) := ⟨rfl, rfl, rfl, Nat.le_refl _, fun _ _ => rfl⟩

/-- An error by its number: 0 none, 1 text, else bound. -/
def errV (aT aB : Addr) (c : Nat) : Value := if c = 0 then .nilIface else if c = 1 then .iface 291 (.pointer (some aT)) else .iface 291 (.pointer (some aB))
theorem errV0 (aT aB : Addr) : errV aT aB 0 = .nilIface := rfl
theorem errV1 (aT aB : Addr) : errV aT aB 1 = .iface 291 (.pointer (some aT)) := rfl
theorem errV2 (aT aB : Addr) : errV aT aB 2 = .iface 291 (.pointer (some aB)) := rfl

theorem digits_any (s : ByteArray) (w : World) (hs : s.size ≤ maxLen) :
    Calls Tryz.prog 160 #[.string s] w fun e w' => e = .returned (.bool (digs s.data.toList)) ∧ w' = w := by
  have HD := hid (show digs s.data.toList = (decide (0 < s.size) && allDig s.data.toList) by unfold digs; rw [len_eq])
  have HC := hid (every_dig s w hs)
  unfold maxLen at hs
  by_cases h : 0 < s.size
  · go_enter Tryz.func160, Tryz.ntmps160
    go_wp2_with fail
    refine HC.out.mono ?_
    rintro e w' ⟨rfl, rfl⟩
    go_wp2_with fail
    go_ret
    exact ⟨ret_bool (by rw [HD.out]; simp [h]), rfl⟩
  · go_enter Tryz.func160, Tryz.ntmps160
    go_wp2_with fail
    go_ret
    exact ⟨ret_bool (by rw [HD.out]; simp [h]), rfl⟩

def inBB (n : Int) : Bool := decide (0 ≤ n ∧ n ≤ 999999)
theorem compS : (Tryz.prog.info? 291).map (·.comparable) = some true := by kernel_rfl
theorem sizeS : (Tryz.prog.info? 293).map (·.size) = some 1 := by kernel_rfl

theorem worse_any (a b : Nat) (aT aB : Addr) (m : Int) (w : World) (S : Vs w aT aB m) (ha : a = 0 ∨ a = 1 ∨ a = 2) (hb : b = 0 ∨ b = 1 ∨ b = 2) :
    Calls Tryz.prog 148 #[errV aT aB a, errV aT aB b] w fun e w' => e = .returned (errV aT aB (worse a b)) ∧ w' = w := by
  obtain ⟨i, hi, hcmp⟩ := Option.map_eq_some_iff.1 compS
  obtain ⟨j, hj, hjs⟩ := Option.map_eq_some_iff.1 sizeS
  obtain ⟨c1, t1, e1⟩ := S.bt
  obtain ⟨c2, t2, e2⟩ := S.bb
  have q0 := run_eql_iface_nil_left (P := Tryz.prog) w 291 (.pointer (some aT)) Tryz.underlying30
  have q1 := run_eql_iface_ptr_same (P := Tryz.prog) w aT Tryz.underlying30 Tryz.underlying291 hi hcmp hj
  have q2 := run_eql_iface_ptr_other (P := Tryz.prog) w Tryz.underlying30 Tryz.underlying291 hi hcmp hj (by rw [hjs]; decide) S.ne.symm e2 e1
  have g := S.t
  clear S e1 e2 hi hcmp hj hjs
  rcases ha with rfl | rfl | rfl
  · rcases hb with rfl | rfl | rfl
    · show Calls Tryz.prog 148 #[.nilIface, .nilIface] w fun e w' => e = .returned (.nilIface) ∧ w' = w
      go_enter Tryz.func148, Tryz.ntmps148
      go_wp2
      go_ret
      exact ⟨rfl, rfl⟩
    · show Calls Tryz.prog 148 #[.nilIface, .iface 291 (.pointer (some aT))] w fun e w' => e = .returned (.iface 291 (.pointer (some aT))) ∧ w' = w
      go_enter Tryz.func148, Tryz.ntmps148
      go_wp2
      go_ret
      exact ⟨rfl, rfl⟩
    · show Calls Tryz.prog 148 #[.nilIface, .iface 291 (.pointer (some aB))] w fun e w' => e = .returned (.iface 291 (.pointer (some aB))) ∧ w' = w
      go_enter Tryz.func148, Tryz.ntmps148
      go_wp2
      go_ret
      exact ⟨rfl, rfl⟩
  · rcases hb with rfl | rfl | rfl
    · show Calls Tryz.prog 148 #[.iface 291 (.pointer (some aT)), .nilIface] w fun e w' => e = .returned (.iface 291 (.pointer (some aT))) ∧ w' = w
      go_enter Tryz.func148, Tryz.ntmps148
      go_wp2
      go_ret
      exact ⟨rfl, rfl⟩
    · show Calls Tryz.prog 148 #[.iface 291 (.pointer (some aT)), .iface 291 (.pointer (some aT))] w fun e w' => e = .returned (.iface 291 (.pointer (some aT))) ∧ w' = w
      go_enter Tryz.func148, Tryz.ntmps148
      go_wp2
      go_ret
      exact ⟨rfl, rfl⟩
    · show Calls Tryz.prog 148 #[.iface 291 (.pointer (some aT)), .iface 291 (.pointer (some aB))] w fun e w' => e = .returned (.iface 291 (.pointer (some aT))) ∧ w' = w
      go_enter Tryz.func148, Tryz.ntmps148
      go_wp2
      go_ret
      exact ⟨rfl, rfl⟩
  · rcases hb with rfl | rfl | rfl
    · show Calls Tryz.prog 148 #[.iface 291 (.pointer (some aB)), .nilIface] w fun e w' => e = .returned (.iface 291 (.pointer (some aB))) ∧ w' = w
      go_enter Tryz.func148, Tryz.ntmps148
      go_wp2
      go_ret
      exact ⟨rfl, rfl⟩
    · show Calls Tryz.prog 148 #[.iface 291 (.pointer (some aB)), .iface 291 (.pointer (some aT))] w fun e w' => e = .returned (.iface 291 (.pointer (some aT))) ∧ w' = w
      go_enter Tryz.func148, Tryz.ntmps148
      go_wp2
      go_ret
      exact ⟨rfl, rfl⟩
    · show Calls Tryz.prog 148 #[.iface 291 (.pointer (some aB)), .iface 291 (.pointer (some aB))] w fun e w' => e = .returned (.iface 291 (.pointer (some aB))) ∧ w' = w
      go_enter Tryz.func148, Tryz.ntmps148
      go_wp2
      go_ret
      exact ⟨rfl, rfl⟩

theorem dig_at (s : ByteArray) (h : allDig s.data.toList = true) (k : Nat) (hk : k < s.size) : 48 ≤ (s[k].toNat : Int) ∧ (s[k].toNat : Int) ≤ 57 := by
  have h1 := List.all_eq_true.1 h s[k] (by rw [ByteArray.getElem_eq_getElem_data]; exact Array.getElem_mem_toList _)
  simpa [dig, digB] using h1
theorem dig_take (s : ByteArray) (h : allDig s.data.toList = true) (k : Nat) : (s.data.toList.take k).all dig = true := by
  rw [List.all_eq_true]
  intro x hx
  exact List.all_eq_true.1 h x (List.mem_of_mem_take hx)

theorem zero_eq (s : ByteArray) : zero s.data.toList = true ↔ ∃ h : 1 < s.size, ((s[0].toNat : Int) == 48) = true := by
  unfold zero
  rw [len_eq]
  by_cases h : 1 < s.size
  · have e : s.data.toList.headD 0 = s[0] := by
      rw [List.headD_eq_head?_getD, List.head?_eq_getElem?, List.getElem?_eq_getElem (by simp; omega)]; rfl
    rw [e]
    simp only [h, decide_true, Bool.true_and, beq_iff_eq, exists_true_left]
    constructor
    · intro h; rw [h]; rfl
    · intro h
      apply UInt8.toNat_inj.1
      show s[0].toNat = 48
      omega
  · simp [h]

set_option maxHeartbeats 400000 in
theorem numeral_any (s : ByteArray) (w : World) (hs : s.size ≤ maxLen) :
    Calls Tryz.prog 114 #[.string s] w fun e w' => e = .returned (.bool (digs s.data.toList && !zero s.data.toList)) ∧ w' = w := by
  have HC := hid (digits_any s w hs)
  have HZ := hid (zero_eq s)
  have HS : Hid (digs s.data.toList = true → 0 < s.size) := fun h => by unfold digs at h; rw [len_eq] at h; simp at h; omega
  unfold maxLen at hs
  cases hz : digs s.data.toList
  · rw [hz] at HC
    clear hz
    go_enter Tryz.func114, Tryz.ntmps114
    go_wp2_with fail
    refine HC.out.mono ?_
    rintro e w' ⟨rfl, rfl⟩
    go_wp2_with fail
    go_ret
    exact ⟨ret_bool (by simp), rfl⟩
  · have h0 := HS.out hz
    rw [hz] at HC
    clear hz HS
    by_cases h1 : 1 < s.size
    · have hl : ((s.size : Int) == 1) = false := by rw [beq_eq_false_iff_ne]; omega
      cases h2 : ((s[0].toNat : Int) == 48)
      · have h3 : ((s[0].toNat : Int) != 48) = true := by rw [bne, h2]; rfl
        have hq : zero s.data.toList = false := by
          cases hq : zero s.data.toList
          · rfl
          · obtain ⟨_, h⟩ := HZ.out.1 hq
            rw [h2] at h; cases h
        have HQ := hid hq
        clear hq HZ
        go_enter Tryz.func114, Tryz.ntmps114
        go_wp2_with fail
        refine HC.out.mono ?_
        rintro e w' ⟨rfl, rfl⟩
        go_wp2_with fail
        go_ret
        exact ⟨ret_bool (by rw [HQ.out]; rfl), rfl⟩
      · have h3 : ((s[0].toNat : Int) != 48) = false := by rw [bne, h2]; rfl
        have HQ := hid (HZ.out.2 ⟨h1, h2⟩)
        clear HZ
        go_enter Tryz.func114, Tryz.ntmps114
        go_wp2_with fail
        refine HC.out.mono ?_
        rintro e w' ⟨rfl, rfl⟩
        go_wp2_with fail
        go_ret
        exact ⟨ret_bool (by rw [HQ.out]; rfl), rfl⟩
    · have hl : ((s.size : Int) == 1) = true := by rw [beq_iff_eq]; omega
      have hq : zero s.data.toList = false := by
        cases hq : zero s.data.toList
        · rfl
        · obtain ⟨h, _⟩ := HZ.out.1 hq
          exact absurd h h1
      have HQ := hid hq
      clear hq HZ
      go_enter Tryz.func114, Tryz.ntmps114
      go_wp2_with fail
      refine HC.out.mono ?_
      rintro e w' ⟨rfl, rfl⟩
      go_wp2_with fail
      go_ret
      exact ⟨ret_bool (by rw [HQ.out]; rfl), rfl⟩

set_option maxHeartbeats 400000 in
theorem num_text (s : ByteArray) (aT aB : Addr) (m : Int) (w : World) (hs : s.size ≤ maxLen) (S : Vs w aT aB m) (hz : (digs s.data.toList && !zero s.data.toList) = false) :
    Calls Tryz.prog 187 #[.string s] w fun e w' => e = .returned (.tuple #[.int .i64 0, .iface 291 (.pointer (some aT))]) ∧ Below w.heap.size w w' := by
  have HC := hid (numeral_any s w hs)
  rw [hz] at HC
  unfold maxLen at hs
  have g := S.t
  clear S hz
  go_enter Tryz.func187, Tryz.ntmps187
  go_wp2_with fail
  refine HC.out.mono ?_
  rintro e w' ⟨rfl, rfl⟩
  go_wp2_with fail
  go_quiet (fail)
  go_wp2_with fail
  go_ret2
  exact ⟨rfl, below_drawn _ _⟩

set_option maxHeartbeats 1000000 in
theorem num_ok (s : ByteArray) (aT aB : Addr) (m : Int) (w : World) (hs : s.size ≤ maxLen) (S : Vs w aT aB m) (hz : digs s.data.toList = true) (h0 : zero s.data.toList = false) :
    Calls Tryz.prog 187 #[.string s] w fun e w' => e = .returned (.tuple #[.int .i64 (num s.data.toList).1, errV aT aB (num s.data.toList).2]) ∧ Below w.heap.size w w' := by
  have had : allDig s.data.toList = true := by unfold digs at hz; simp at hz; exact hz.2
  have HN : Hid ((numTo 0 s.data.toList ≤ 999999 → num s.data.toList = (numTo 0 s.data.toList, 0)) ∧ (¬ numTo 0 s.data.toList ≤ 999999 → num s.data.toList = (0, 2))) :=
    ⟨fun h => by simp [num, hz, h0, h], fun h => by simp [num, hz, h0, h]⟩
  have HC := hid (numeral_any s w hs)
  rw [hz, h0] at HC
  unfold maxLen at hs
  have g := S.b
  clear S h0 hz
  go_enter Tryz.func187, Tryz.ntmps187
  go_wp2_with fail
  refine HC.out.mono ?_
  rintro e w' ⟨rfl, rfl⟩
  go_wp2_with fail
  go_loop [4, 12] (fun n i => ∃ k : Nat, k ≤ s.size ∧ i = .int .i64 k ∧ n = .int .i64 (numTo 0 (s.data.toList.take k))) (fun _ i => s.size - (intOf i).toNat)
  case atStart => exact ⟨0, Nat.zero_le _, rfl, rfl⟩
  case round =>
    obtain ⟨k, hk, rfl, rfl⟩ := hrel
    obtain ⟨b0, b1⟩ := numTo_bd _ (dig_take s had k)
    by_cases hlt : k < s.size
    · obtain ⟨d0, d1⟩ := dig_at s had k hlt
      have HS := hid (numTo_snoc 0 (s.data.toList.take k) s[k])
      rw [← take_snoc s k hlt] at HS
      generalize hn : numTo 0 (s.data.toList.take k) = n at *
      clear hn
      go_wp2_with fail
      refine ⟨⟨k + 1, by omega, by go_num, ?_⟩, by simp [intOf]; omega⟩
      rw [HS.out]
      first | done | (congr 1; split <;> omega) | (congr 1; omega)
    · have hk2 : s.data.toList.take k = s.data.toList := List.take_of_length_le (by simp; omega)
      rw [hk2] at b0 b1 ⊢
      by_cases hb : numTo 0 s.data.toList ≤ 999999
      · have HF := hid (HN.out.1 hb)
        generalize hn : numTo 0 s.data.toList = n at *
        clear hn hk2
        go_wp2_with fail
        go_ret2
        exact ⟨by rw [HF.out]; rfl, Below.refl _ _⟩
      · have HF := hid (HN.out.2 (by omega))
        generalize hn : numTo 0 s.data.toList = n at *
        clear hn hk2
        go_wp2_with fail
        go_quiet (fail)
        go_wp2_with fail
        go_ret2
        exact ⟨by rw [HF.out]; rfl, below_drawn _ _⟩

/-- readNumber, whatever the text. -/
theorem num_any (s : ByteArray) (aT aB : Addr) (m : Int) (w : World) (hs : s.size ≤ maxLen) (S : Vs w aT aB m) :
    Calls Tryz.prog 187 #[.string s] w fun e w' => e = .returned (.tuple #[.int .i64 (num s.data.toList).1, errV aT aB (num s.data.toList).2]) ∧ Below w.heap.size w w' := by
  cases hz : digs s.data.toList
  · have e : num s.data.toList = (0, 1) := by simp [num, hz]
    rw [e]; exact num_text s aT aB m w hs S (by rw [hz]; rfl)
  · cases h0 : zero s.data.toList
    · exact num_ok s aT aB m w hs S hz h0
    · have e : num s.data.toList = (0, 1) := by simp [num, h0]
      rw [e]; exact num_text s aT aB m w hs S (by rw [hz, h0]; rfl)

set_option maxHeartbeats 400000 in
theorem part_any (s : ByteArray) (aT aB : Addr) (m : Int) (w : World) (hs : s.size ≤ maxLen) (S : Vs w aT aB m) :
    Calls Tryz.prog 192 #[.string s] w fun e w' => e = .returned (errV aT aB (part s.data.toList)) ∧ Below w.heap.size w w' := by
  have HP := hid (show part s.data.toList = if s.size < 1 ∨ 8 < s.size ∨ allPar s.data.toList = false then 1 else if digs s.data.toList = false then 0 else (num s.data.toList).2 by unfold part; rw [len_eq])
  have HS := hid S
  have HE := hid (every_par s w hs)
  have HD := hid (digits_any s w hs)
  have HN := hid (num_any s aT aB m w hs S)
  have HR := hid (num_err s.data.toList)
  unfold maxLen at hs
  have g := S.t
  clear S
  by_cases h1 : s.size < 1
  · rw [if_pos (Or.inl h1)] at HP
    go_enter Tryz.func192, Tryz.ntmps192
    go_wp2_with fail
    go_ret
    exact ⟨by rw [HP.out]; rfl, Below.refl _ _⟩
  · by_cases h2 : 8 < s.size
    · rw [if_pos (Or.inr (Or.inl h2))] at HP
      go_enter Tryz.func192, Tryz.ntmps192
      go_wp2_with fail
      go_ret
      exact ⟨by rw [HP.out]; rfl, Below.refl _ _⟩
    · cases h3 : allPar s.data.toList
      · rw [if_pos (Or.inr (Or.inr h3))] at HP
        rw [h3] at HE
        clear h3
        go_enter Tryz.func192, Tryz.ntmps192
        go_wp2_with fail
        refine HE.out.mono ?_
        rintro e w' ⟨rfl, rfl⟩
        go_wp2_with fail
        go_ret
        exact ⟨by rw [HP.out]; rfl, Below.refl _ _⟩
      · rw [h3] at HE
        rw [if_neg (by rintro (h | h | h) <;> simp_all)] at HP
        clear h3
        cases h4 : digs s.data.toList
        · rw [if_pos h4] at HP
          rw [h4] at HD
          clear h4
          go_enter Tryz.func192, Tryz.ntmps192
          go_wp2_with fail
          refine HE.out.mono ?_
          rintro e w' ⟨rfl, rfl⟩
          go_wp2_with fail
          refine HD.out.mono ?_
          rintro e w' ⟨rfl, rfl⟩
          go_wp2_with fail
          go_ret
          exact ⟨by rw [HP.out]; rfl, Below.refl _ _⟩
        · rw [if_neg (by rw [h4]; simp)] at HP
          rw [h4] at HD
          clear h4
          generalize hq : num s.data.toList = q at *
          clear hq
          obtain ⟨q1, q2⟩ := q
          rcases HR.out with h | h | h
          all_goals
            dsimp only at h
            subst h
            go_enter Tryz.func192, Tryz.ntmps192
            go_wp2_with fail
            refine HE.out.mono ?_
            rintro e w' ⟨rfl, rfl⟩
            go_wp2_with fail
            refine HD.out.mono ?_
            rintro e w' ⟨rfl, rfl⟩
            go_wp2_with fail
            refine HN.out.mono ?_
            rintro e w' ⟨rfl, hb⟩
            have HB := hid hb
            clear hb
            go_wp2_with fail
            go_ret
            exact ⟨by rw [HP.out]; rfl, HB.out⟩
end Ve
end Go.Proofs.YtpafkniapacfdaaGreatDoor

/-
  Files as texts, plain: the lines of a file, and how lines are read; what was written is read as it was.
-/
namespace Go.Proofs.YtpafkniapacfdaaGreatDoor
namespace Ve

/-- A module: its path, its version. -/
abbrev Bm := ByteArray × ByteArray
/-- A file: its path, what it requires, what it excludes. -/
abbrev Fs := ByteArray × List Bm × List Bm
def bt (l : List UInt8) : ByteArray := ⟨l.toArray⟩
theorem bt_list (l : List UInt8) : (bt l).data.toList = l := by simp [bt]
theorem bt_of (a : ByteArray) : bt a.data.toList = a := by cases a; simp [bt]
theorem bt_of' {a : ByteArray} {l : List UInt8} (h : a.data.toList = l) : a = bt l := by rw [← h, bt_of]
def wModule : List UInt8 := [109, 111, 100, 117, 108, 101]
def wRequire : List UInt8 := [114, 101, 113, 117, 105, 114, 101]
def wExclude : List UInt8 := [101, 120, 99, 108, 117, 100, 101]
/-- What a line's words add; none: it is wrong. -/
def stepF (i : Nat) (ws : List (List UInt8)) (f : Fs) : Option Fs :=
  if i = 0 then (match ws with
    | [a, b] => if a = wModule then some (bt b, f.2) else none
    | _ => none)
  else (match ws with
    | [a, b, c] => if a = wRequire ∧ f.2.2 = [] then some (f.1, f.2.1 ++ [(bt b, bt c)], f.2.2) else if a = wExclude then some (f.1, f.2.1, f.2.2 ++ [(bt b, bt c)]) else none
    | _ => none)
/-- Lines, from the i-th on; behind the last line end there is an empty piece. -/
def readGo : Nat → List (List UInt8) → Fs → Except Nat Fs
  | _, [], f => .ok f
  | i, [l], f => if l = [] ∧ i ≠ 0 then .ok f else .error i
  | i, l :: k :: r, f => match stepF i (cutAt 32 l) f with
    | some f' => readGo (i + 1) (k :: r) f'
    | none => .error i
def noFile : Fs := (⟨#[]⟩, [], [])
def readL (s : List UInt8) : Except Nat Fs := readGo 0 (cutAt 10 s) noFile

def lineOf (w : List UInt8) (m : Bm) : List UInt8 := w ++ 32 :: (m.1.data.toList ++ 32 :: m.2.data.toList)
def linesOf (f : Fs) : List (List UInt8) := (wModule ++ 32 :: f.1.data.toList) :: (f.2.1.map (lineOf wRequire) ++ f.2.2.map (lineOf wExclude))
def ended (ls : List (List UInt8)) : List UInt8 := ls.flatMap (fun l => l ++ [10])
def fText (f : Fs) : List UInt8 := ended (linesOf f)

theorem cut_not {c : UInt8} : ∀ {a : List UInt8}, c ∉ a → cutAt c a = [a]
  | [], _ => rfl
  | x :: a, h => by
    have h1 : x ≠ c := fun e => h (by rw [e]; exact List.mem_cons_self)
    have h2 := cut_not (c := c) (a := a) (fun e => h (List.mem_cons_of_mem _ e))
    unfold cutAt
    rw [if_neg h1, h2]; rfl
theorem cut_at {c : UInt8} (b : List UInt8) : ∀ {a : List UInt8}, c ∉ a → cutAt c (a ++ c :: b) = a :: cutAt c b
  | [], _ => by simp [cutAt]
  | x :: a, h => by
    have h1 : x ≠ c := fun e => h (by rw [e]; exact List.mem_cons_self)
    have h2 := cut_at b (c := c) (a := a) (fun e => h (List.mem_cons_of_mem _ e))
    rw [List.cons_append, cutAt, if_neg h1, h2]; rfl
theorem cut_ended : ∀ {ls : List (List UInt8)}, (∀ l, l ∈ ls → (10 : UInt8) ∉ l) → cutAt 10 (ended ls) = ls ++ [[]]
  | [], _ => rfl
  | l :: r, h => by
    have h2 := cut_ended (ls := r) (fun x hx => h x (List.mem_cons_of_mem _ hx))
    have e : ended (l :: r) = l ++ 10 :: ended r := by simp [ended]
    rw [e, cut_at _ (h l List.mem_cons_self), h2]; rfl
/-- No word of a module has a blank or a line end. -/
def clean (m : Bm) : Prop := ((10 : UInt8) ∉ m.1.data.toList ∧ (10 : UInt8) ∉ m.2.data.toList) ∧ ((32 : UInt8) ∉ m.1.data.toList ∧ (32 : UInt8) ∉ m.2.data.toList)
theorem line_words {w : List UInt8} {m : Bm} (hw : (32 : UInt8) ∉ w) (h : clean m) : cutAt 32 (lineOf w m) = [w, m.1.data.toList, m.2.data.toList] := by
  unfold lineOf
  rw [cut_at _ hw, cut_at _ h.2.1, cut_not h.2.2]
theorem line_end {w : List UInt8} {m : Bm} (hw : (10 : UInt8) ∉ w) (h : clean m) : (10 : UInt8) ∉ lineOf w m := by
  unfold lineOf
  intro hm
  rcases List.mem_append.1 hm with h1 | h1
  · exact hw h1
  · rcases List.mem_cons.1 h1 with h1 | h1
    · exact absurd h1 (by decide)
    · rcases List.mem_append.1 h1 with h1 | h1
      · exact h.1.1 h1
      · rcases List.mem_cons.1 h1 with h1 | h1
        · exact absurd h1 (by decide)
        · exact h.1.2 h1
theorem go_step {i : Nat} {l : List UInt8} {r : List (List UInt8)} {f f' : Fs} (hr : r ≠ []) (h : stepF i (cutAt 32 l) f = some f') : readGo i (l :: r) f = readGo (i + 1) r f' := by
  cases r with
  | nil => exact absurd rfl hr
  | cons k r => rw [readGo, h]
theorem go_bad {i : Nat} {l : List UInt8} {r : List (List UInt8)} {f : Fs} (hr : r ≠ []) (h : stepF i (cutAt 32 l) f = none) : readGo i (l :: r) f = .error i := by
  cases r with
  | nil => exact absurd rfl hr
  | cons k r => rw [readGo, h]
theorem go_ex {p : ByteArray} {R : List Bm} : ∀ {X Y : List Bm} {i : Nat}, i ≠ 0 → (∀ m, m ∈ X → clean m) → readGo i (X.map (lineOf wExclude) ++ [[]]) (p, R, Y) = .ok (p, R, Y ++ X)
  | [], Y, i, hi, _ => by simp [readGo, hi]
  | m :: X, Y, i, hi, h => by
    have hm := line_words (w := wExclude) (by decide) (h m List.mem_cons_self)
    have hs : stepF i (cutAt 32 (lineOf wExclude m)) (p, R, Y) = some (p, R, Y ++ [m]) := by
      rw [hm]
      unfold stepF
      rw [if_neg hi]
      simp only
      rw [if_neg (fun h => absurd h.1 (by decide)), if_pos trivial, bt_of, bt_of]
    rw [List.map_cons, List.cons_append, go_step (by simp) hs, go_ex (by omega) (fun x hx => h x (List.mem_cons_of_mem _ hx))]
    simp
theorem go_req {p : ByteArray} {X : List Bm} (hX : ∀ m, m ∈ X → clean m) : ∀ {R Q : List Bm} {i : Nat}, i ≠ 0 → (∀ m, m ∈ R → clean m) → readGo i (R.map (lineOf wRequire) ++ (X.map (lineOf wExclude) ++ [[]])) (p, Q, []) = .ok (p, Q ++ R, X)
  | [], Q, i, hi, _ => by
    rw [List.map_nil, List.nil_append, go_ex hi hX]; simp
  | m :: R, Q, i, hi, h => by
    have hm := line_words (w := wRequire) (by decide) (h m List.mem_cons_self)
    have hs : stepF i (cutAt 32 (lineOf wRequire m)) (p, Q, []) = some (p, Q ++ [m], []) := by
      rw [hm]
      unfold stepF
      rw [if_neg hi]
      simp only
      rw [if_pos ⟨trivial, trivial⟩, bt_of, bt_of]
    rw [List.map_cons, List.cons_append, go_step (by simp) hs, go_req hX (by omega) (fun x hx => h x (List.mem_cons_of_mem _ hx))]
    simp
/-- What was written is read as it was. -/
theorem read_back {f : Fs} (h1 : (10 : UInt8) ∉ f.1.data.toList ∧ (32 : UInt8) ∉ f.1.data.toList) (hR : ∀ m, m ∈ f.2.1 → clean m) (hX : ∀ m, m ∈ f.2.2 → clean m) : readL (fText f) = .ok f := by
  have hls : ∀ l, l ∈ linesOf f → (10 : UInt8) ∉ l := by
    intro l hl
    unfold linesOf at hl
    rcases List.mem_cons.1 hl with rfl | hl
    · intro hm
      rcases List.mem_append.1 hm with h | h
      · exact absurd h (by decide)
      · rcases List.mem_cons.1 h with h | h
        · exact absurd h (by decide)
        · exact h1.1 h
    · rcases List.mem_append.1 hl with h | h
      · obtain ⟨m, hm, rfl⟩ := List.mem_map.1 h
        exact line_end (by decide) (hR m hm)
      · obtain ⟨m, hm, rfl⟩ := List.mem_map.1 h
        exact line_end (by decide) (hX m hm)
  unfold readL fText
  rw [cut_ended hls]
  unfold linesOf
  have hs : stepF 0 (cutAt 32 (wModule ++ 32 :: f.1.data.toList)) noFile = some (f.1, [], []) := by
    rw [cut_at _ (by decide), cut_not h1.2]
    unfold stepF
    rw [if_pos rfl]
    simp only
    rw [if_pos trivial, bt_of]; rfl
  rw [List.cons_append, go_step (by simp) hs, List.append_assoc, go_req hX (by omega) hR]
  simp
/-- How long a file's text is. -/
theorem ended_len (n : Nat) : ∀ (ls : List (List UInt8)), (∀ l, l ∈ ls → l.length ≤ n) → (ended ls).length ≤ ls.length * (n + 1)
  | [], _ => by simp [ended]
  | l :: r, h => by
    have h1 := ended_len n r (fun x hx => h x (List.mem_cons_of_mem _ hx))
    have h2 := h l List.mem_cons_self
    have e : ended (l :: r) = l ++ 10 :: ended r := by simp [ended]
    rw [e]
    simp only [List.length_append, List.length_cons]
    rw [Nat.succ_mul]
    omega
theorem fText_len {f : Fs} (h1 : f.1.size ≤ 90) (hr : f.2.1.length ≤ 20) (hx : f.2.2.length ≤ 20) (hR : ∀ m, m ∈ f.2.1 ++ f.2.2 → m.1.size ≤ 70 ∧ m.2.size ≤ 60) : (fText f).length ≤ 8000 := by
  have h := ended_len 140 (linesOf f) (fun l hl => by
    unfold linesOf at hl
    have hsz : ∀ a : ByteArray, a.data.toList.length = a.size := fun a => by simp
    rcases List.mem_cons.1 hl with rfl | hl
    · simp [wModule]; omega
    · rcases List.mem_append.1 hl with h | h
      · obtain ⟨m, hm, rfl⟩ := List.mem_map.1 h
        have := hR m (List.mem_append_left _ hm)
        simp [lineOf, wRequire]; omega
      · obtain ⟨m, hm, rfl⟩ := List.mem_map.1 h
        have := hR m (List.mem_append_right _ hm)
        simp [lineOf, wExclude]; omega)
  have hn : (linesOf f).length ≤ 41 := by simp [linesOf]; omega
  unfold fText
  have : (linesOf f).length * (140 + 1) ≤ 41 * 141 := Nat.mul_le_mul_right _ hn
  omega
end Ve
end Go.Proofs.YtpafkniapacfdaaGreatDoor


namespace Go.Proofs.YtpafkniapacfdaaGreatDoor
open Go.RowKit
namespace Ve
def linesL : List UInt8 → List (List UInt8)
  | [] => []
  | b :: l => if b = 10 then [10] :: linesL l else ahead b (linesL l)
theorem lines_none : ∀ l : List UInt8, l ≠ [] → Lib.indexByte l 10 = -1 → linesL l = [l]
  | [], h, _ => absurd rfl h
  | b :: l, _, h => by
    have hge := Lib.indexByte_ge l 10
    unfold Lib.indexByte at h
    by_cases hb : b = 10
    · subst hb; simp at h
    · have e1 : (b == 10) = false := beq_eq_false_iff_ne.2 hb
      rw [e1] at h
      have e2 : Lib.indexByte l 10 = -1 := by
        by_cases e : Lib.indexByte l 10 = -1
        · exact e
        · have e3 : (Lib.indexByte l 10 == -1) = false := beq_eq_false_iff_ne.2 e
          rw [e3] at h
          simp at h
          omega
      unfold linesL
      rw [if_neg hb]
      cases l with
      | nil => rfl
      | cons c r => rw [lines_none (c :: r) (by simp) e2]; rfl
theorem lines_some : ∀ (l : List UInt8) (i : Nat), Lib.indexByte l 10 = (i : Int) → i < l.length ∧ linesL l = l.take (i + 1) :: linesL (l.drop (i + 1))
  | [], i, h => by unfold Lib.indexByte at h; omega
  | b :: l, i, h => by
    have hge := Lib.indexByte_ge l 10
    unfold Lib.indexByte at h
    by_cases hb : b = 10
    · subst hb
      have : i = 0 := by simp at h; omega
      subst this
      exact ⟨by simp, by simp [linesL]⟩
    · have e1 : (b == 10) = false := beq_eq_false_iff_ne.2 hb
      rw [e1] at h
      by_cases e : Lib.indexByte l 10 = -1
      · rw [e] at h; simp at h
      · have e3 : (Lib.indexByte l 10 == -1) = false := beq_eq_false_iff_ne.2 e
        rw [e3] at h
        simp at h
        obtain ⟨k, rfl⟩ : ∃ k, i = k + 1 := ⟨i - 1, by omega⟩
        obtain ⟨h1, h2⟩ := lines_some l k (by omega)
        refine ⟨by simp; omega, ?_⟩
        show linesL (b :: l) = (b :: l.take (k + 1)) :: linesL (l.drop (k + 1))
        rw [linesL, if_neg hb, h2]
        rfl
theorem lines_len : ∀ l : List UInt8, (linesL l).length ≤ l.length
  | [] => Nat.le_refl _
  | b :: l => by
    have ih := lines_len l
    unfold linesL
    split
    · simp; omega
    · cases h : linesL l with
      | nil => simp [ahead]
      | cons x r => rw [h] at ih; simp [ahead] at ih ⊢; omega
theorem lines_sz : ∀ (l t : List UInt8), t ∈ linesL l → t.length ≤ l.length
  | [], t, h => by simp [linesL] at h
  | b :: l, t, h => by
    unfold linesL at h
    by_cases hb : b = 10
    · rw [if_pos hb] at h
      rcases List.mem_cons.1 h with h | h
      · subst h; simp
      · have := lines_sz l t h; simp; omega
    · rw [if_neg hb] at h
      cases hl : linesL l with
      | nil => rw [hl] at h; simp [ahead] at h; subst h; simp
      | cons x r =>
        rw [hl] at h
        simp only [ahead, List.mem_cons] at h
        rcases h with h | h
        · subst h
          have := lines_sz l x (by rw [hl]; simp)
          simp; omega
        · have := lines_sz l t (by rw [hl]; simp [h])
          simp; omega
def endsL (P : List (List UInt8)) : List (List UInt8) := P.dropLast.map (fun p => p ++ [10]) ++ (if P.getLastD [] = [] then [] else [P.getLastD []])
theorem lines_cut : ∀ l : List UInt8, linesL l = endsL (cutAt 10 l)
  | [] => rfl
  | b :: l => by
    have ih := lines_cut l
    have hne := cutAt_ne 10 l
    unfold linesL cutAt
    by_cases hb : b = 10
    · rw [if_pos hb, if_pos hb, ih]
      generalize cutAt 10 l = P at *
      cases P with
      | nil => exact absurd rfl hne
      | cons x r => simp [endsL]
    · rw [if_neg hb, if_neg hb, ih]
      generalize cutAt 10 l = P at *
      match P, hne with
      | [x], _ =>
        unfold endsL
        cases x with
        | nil => simp [ahead]
        | cons c s => simp [ahead]
      | x :: y :: r, _ => simp [endsL, ahead]
end Ve
end Go.Proofs.YtpafkniapacfdaaGreatDoor
