/-
  Shelf ShelfP VerB VerC VerR VerS OrdP
-/
import Derived.Shelf.SlSortCmp.WholeK
import Derived.Test.YtlcffhadobhfkaaGreatDoorMq5
import Derived.Test.YtlcffhadobhfkaaGreatDoorMq6
import Derived.Test.YtlcffhadobhfkaaGreatDoorMq2
import Derived.Test.YtlcffhadobhfkaaGreatDoorMq9
namespace Go.Proofs
open Go.Shelf
def Tryz.laysM171_ren : Go.Shelf.Ren:=⟨fun | 171=>289 | 243=>302 | 246=>317 | 283=>323 | 284=>324 | 285=>325 | 286=>326 | 129=>201 | 317=>328 | 318=>329 | 319=>330 | 320=>331 | 337=>332 | 338=>333 | n=>n,fun | 3=>3 | 9=>9 | 2=>2 | 4=>4 | 171=>309 | 0=>0 | 53=>230 | 37=>241 | 5=>5 | 173=>311 | 212=>315 | 51=>228 | 20=>20 | 213=>316 | 46=>181 | 232=>317 | 233=>318 | n=>n,fun | 17=>14 | 18=>15 | 19=>16 | n=>n⟩
theorem Tryz.laysM171 : Go.Proofs.LaysM.n171 Tryz.prog Tryz.laysM171_ren:={
  mixed:=by kernel_rfl
  f129:=Tryz.func201.trans (congrArg some (by kernel_rfl))
  f171:=Tryz.func289.trans (congrArg some (by kernel_rfl))
  f243:=Tryz.func302.trans (congrArg some (by kernel_rfl))
  f246:=Tryz.func317.trans (congrArg some (by kernel_rfl))
  f283:=Tryz.func323.trans (congrArg some (by kernel_rfl))
  f284:=Tryz.func324.trans (congrArg some (by kernel_rfl))
  f285:=Tryz.func325.trans (congrArg some (by kernel_rfl))
  f286:=Tryz.func326.trans (congrArg some (by kernel_rfl))
  f317:=Tryz.func328.trans (congrArg some (by kernel_rfl))
  f318:=Tryz.func329.trans (congrArg some (by kernel_rfl))
  f319:=Tryz.func330.trans (congrArg some (by kernel_rfl))
  f320:=Tryz.func331.trans (congrArg some (by kernel_rfl))
  f337:=Tryz.func332.trans (congrArg some (by kernel_rfl))
  f338:=Tryz.func333.trans (congrArg some (by kernel_rfl))
  t0:=Tryz.underlying0
  a0:=Tryz.isAgg0
  z0:=Tryz.sizeOf0
  v0:=Tryz.zeroValue0
  t2:=Tryz.underlying2
  a2:=Tryz.isAgg2
  z2:=Tryz.sizeOf2
  v2:=Tryz.zeroValue2
  t3:=Tryz.underlying3
  a3:=Tryz.isAgg3
  z3:=Tryz.sizeOf3
  v3:=Tryz.zeroValue3
  t4:=Tryz.underlying4
  a4:=Tryz.isAgg4
  z4:=Tryz.sizeOf4
  v4:=Tryz.zeroValue4
  t5:=Tryz.underlying5
  a5:=Tryz.isAgg5
  z5:=Tryz.sizeOf5
  v5:=Tryz.zeroValue5
  t9:=Tryz.underlying9
  a9:=Tryz.isAgg9
  z9:=Tryz.sizeOf9
  v9:=Tryz.zeroValue9
  t20:=Tryz.underlying20
  a20:=Tryz.isAgg20
  z20:=Tryz.sizeOf20
  v20:=Tryz.zeroValue20
  t37:=Tryz.underlying241
  a37:=Tryz.isAgg241
  z37:=Tryz.sizeOf241
  v37:=Tryz.zeroValue241
  t46:=Tryz.underlying181
  a46:=Tryz.isAgg181
  z46:=Tryz.sizeOf181
  v46:=Tryz.zeroValue181
  t51:=Tryz.underlying228
  a51:=Tryz.isAgg228
  z51:=Tryz.sizeOf228
  v51:=Tryz.zeroValue228
  t53:=Tryz.underlying230
  a53:=Tryz.isAgg230
  z53:=Tryz.sizeOf230
  v53:=Tryz.zeroValue230
  t171:=Tryz.underlying309
  a171:=Tryz.isAgg309
  z171:=Tryz.sizeOf309
  v171:=Tryz.zeroValue309
  t173:=Tryz.underlying311
  a173:=Tryz.isAgg311
  z173:=Tryz.sizeOf311
  v173:=Tryz.zeroValue311
  t212:=Tryz.underlying315
  a212:=Tryz.isAgg315
  z212:=Tryz.sizeOf315
  v212:=Tryz.zeroValue315
  t213:=Tryz.underlying316
  a213:=Tryz.isAgg316
  z213:=Tryz.sizeOf316
  t232:=Tryz.underlying317
  a232:=Tryz.isAgg317
  z232:=Tryz.sizeOf317
  v232:=Tryz.zeroValue317
  t233:=Tryz.underlying318
  a233:=Tryz.isAgg318
  z233:=Tryz.sizeOf318
  v233:=Tryz.zeroValue318
  g17:=by kernel_rfl
  g18:=by kernel_rfl
  g19:=by kernel_rfl
  i0:=by kernel_rfl
  i2:=by kernel_rfl
  i3:=by kernel_rfl
  i4:=by kernel_rfl
  i5:=by kernel_rfl
  i9:=by kernel_rfl
  i20:=by kernel_rfl
  i37:=by kernel_rfl
  i46:=by kernel_rfl
  i51:=by kernel_rfl
  i53:=by kernel_rfl
  i171:=by kernel_rfl
  i173:=by kernel_rfl
  i212:=by kernel_rfl
  i232:=by kernel_rfl
  i233:=by kernel_rfl
  m17:=by kernel_rfl
  m18:=by kernel_rfl
  m19:=by kernel_rfl }
open Go.RowKit Go.Sort Go.Lib in
theorem Tryz.strconv_Itoa (n : Int) (h0 : -9223372036854775808 ≤ n) (h1 : n ≤ 9223372036854775807) (w : World) (htab : Lib.TabIs Tryz.prog w "internal/strconv.uint64pow10" .u64 Lib.pow10Tab) :
    Calls Tryz.prog 289 #[.int .i64 n] w fun e w'=>e = .returned (.string ⟨(Lib.itoa n).toArray⟩) /\ ∃ k os,w' = grow (w.drewN k) os:=Any.strconv_Itoa Tryz.laysM171 n h0 h1 w htab
def Tryz.sortParts_ren : Go.Shelf.Ren:=⟨fun | 6=>272 | 15=>158 | 14=>287 | 28=>200 | 29=>201 | 20=>294 | 21=>295 | 22=>296 | 23=>297 | 24=>298 | 25=>299 | 26=>300 | 27=>301 | 46=>314 | 47=>229 | 48=>230 | 49=>315 | 50=>316 | 57=>322 | n=>n,fun | 22=>272 | 24=>144 | 25=>147 | 3=>3 | 39=>181 | 0=>0 | 53=>228 | 55=>230 | 4=>4 | 46=>221 | 45=>220 | 50=>225 | 5=>5 | 9=>9 | 66=>246 | 70=>250 | 76=>266 | 77=>83 | n=>n,fun | n=>n⟩
theorem Tryz.sortParts : Go.Proofs.SlLaysF0.n6 Tryz.prog Tryz.sortParts_ren:={
  mixed:=by kernel_rfl
  f6:=⟨Tryz.f272.name,by decide,Tryz.func272.trans (congrArg some (by kernel_rfl))⟩
  f14:=⟨Tryz.f287.name,by decide,Tryz.func287.trans (congrArg some (by kernel_rfl))⟩
  f15:=Tryz.func158.trans (congrArg some (by kernel_rfl))
  f20:=⟨Tryz.f294.name,by decide,Tryz.func294.trans (congrArg some (by kernel_rfl))⟩
  f21:=⟨Tryz.f295.name,by decide,Tryz.func295.trans (congrArg some (by kernel_rfl))⟩
  f22:=⟨Tryz.f296.name,by decide,Tryz.func296.trans (congrArg some (by kernel_rfl))⟩
  f23:=⟨Tryz.f297.name,by decide,Tryz.func297.trans (congrArg some (by kernel_rfl))⟩
  f24:=⟨Tryz.f298.name,by decide,Tryz.func298.trans (congrArg some (by kernel_rfl))⟩
  f25:=⟨Tryz.f299.name,by decide,Tryz.func299.trans (congrArg some (by kernel_rfl))⟩
  f26:=⟨Tryz.f300.name,by decide,Tryz.func300.trans (congrArg some (by kernel_rfl))⟩
  f27:=⟨Tryz.f301.name,by decide,Tryz.func301.trans (congrArg some (by kernel_rfl))⟩
  f28:=Tryz.func200.trans (congrArg some (by kernel_rfl))
  f29:=Tryz.func201.trans (congrArg some (by kernel_rfl))
  f46:=⟨Tryz.f314.name,by decide,Tryz.func314.trans (congrArg some (by kernel_rfl))⟩
  f47:=Tryz.func229.trans (congrArg some (by kernel_rfl))
  f48:=Tryz.func230.trans (congrArg some (by kernel_rfl))
  f49:=⟨Tryz.f315.name,by decide,Tryz.func315.trans (congrArg some (by kernel_rfl))⟩
  f50:=⟨Tryz.f316.name,by decide,Tryz.func316.trans (congrArg some (by kernel_rfl))⟩
  f57:=⟨Tryz.f322.name,by decide,Tryz.func322.trans (congrArg some (by kernel_rfl))⟩
  t0:=Tryz.underlying0
  a0:=Tryz.isAgg0
  z0:=Tryz.sizeOf0
  v0:=Tryz.zeroValue0
  t3:=Tryz.underlying3
  a3:=Tryz.isAgg3
  z3:=Tryz.sizeOf3
  v3:=Tryz.zeroValue3
  t4:=Tryz.underlying4
  a4:=Tryz.isAgg4
  z4:=Tryz.sizeOf4
  v4:=Tryz.zeroValue4
  t5:=Tryz.underlying5
  a5:=Tryz.isAgg5
  z5:=Tryz.sizeOf5
  v5:=Tryz.zeroValue5
  t9:=Tryz.underlying9
  a9:=Tryz.isAgg9
  z9:=Tryz.sizeOf9
  v9:=Tryz.zeroValue9
  t22:=Tryz.underlying272
  a22:=Tryz.isAgg272
  z22:=Tryz.sizeOf272
  v22:=Tryz.zeroValue272
  t25:=Tryz.underlying147
  a25:=Tryz.isAgg147
  z25:=Tryz.sizeOf147
  v25:=Tryz.zeroValue147
  t39:=Tryz.underlying181
  a39:=Tryz.isAgg181
  z39:=Tryz.sizeOf181
  v39:=Tryz.zeroValue181
  t45:=Tryz.underlying220
  a45:=Tryz.isAgg220
  z45:=Tryz.sizeOf220
  v45:=Tryz.zeroValue220
  t46:=Tryz.underlying221
  a46:=Tryz.isAgg221
  z46:=Tryz.sizeOf221
  v46:=Tryz.zeroValue221
  t50:=Tryz.underlying225
  a50:=Tryz.isAgg225
  z50:=Tryz.sizeOf225
  v50:=Tryz.zeroValue225
  t53:=Tryz.underlying228
  a53:=Tryz.isAgg228
  z53:=Tryz.sizeOf228
  v53:=Tryz.zeroValue228
  t55:=Tryz.underlying230
  a55:=Tryz.isAgg230
  z55:=Tryz.sizeOf230
  v55:=Tryz.zeroValue230
  t66:=Tryz.underlying246
  a66:=Tryz.isAgg246
  z66:=Tryz.sizeOf246
  v66:=Tryz.zeroValue246
  t70:=Tryz.underlying250
  a70:=Tryz.isAgg250
  z70:=Tryz.sizeOf250
  v70:=Tryz.zeroValue250
  t76:=Tryz.underlying266
  a76:=Tryz.isAgg266
  z76:=Tryz.sizeOf266
  v76:=Tryz.zeroValue266
  t77:=Tryz.underlying83
  a77:=Tryz.isAgg83
  z77:=Tryz.sizeOf83
  v77:=Tryz.zeroValue83 }
end Go.Proofs
namespace Go.Proofs.YtlcffhadobhfkaaGreatDoor
open Go.RowKit
namespace Ve
theorem inB_any (n : Int) (w : World) : Calls Tryz.prog 288 #[.int .i64 n] w fun e w'=>e = .returned (.bool (inBB n)) /\ w' = w:=by
  by_cases a : 0 <= n
  all_goals
    go_enter Tryz.func288,Tryz.ntmps288
    go_wp2
    go_ret
    exact ⟨ret_bool (by unfold inBB; rw [Bool.eq_iff_iff]; simp <;> omega),rfl⟩
theorem pre_nil (a : Option Addr) (c : Nat) (aT aB : Addr) (w : World) :
    Calls Tryz.prog 167 #[.slice a 0 c] w fun e w'=>e = .returned (errV aT aB (pre [])) /\ Below w.heap.size w w':=by
  have HP:=hid (show errV aT aB (pre []) = .nilIface from rfl)
  go_enter Tryz.func167,Tryz.ntmps167
  go_wp2_with fail
  refine wp_loop_rounds 1 ?_
  rw [rounds_succ]
  go_wp2_with fail
  go_ret
  exact ⟨by rw [HP.out]; rfl,Below.refl _ _⟩
theorem ci_range (x y : Int) : Lib.compareInt x y = -1 \/ Lib.compareInt x y = 0 \/ Lib.compareInt x y = 1:=by
  unfold Lib.compareInt; split
  · simp
  · split <;> simp
theorem fst_range {a b : Int} (ha : a = -1 \/ a = 0 \/ a = 1) (hb : b = -1 \/ b = 0 \/ b = 1) : fst a b = -1 \/ fst a b = 0 \/ fst a b = 1:=by
  unfold fst; split <;> assumption
theorem ordPart_range (a b : List UInt8) : ordPart a b = -1 \/ ordPart a b = 0 \/ ordPart a b = 1:=by
  unfold ordPart
  split
  · split
    · exact fst_range (ci_range _ _) (cb_range _ _)
    · simp
  · split
    · simp
    · exact cb_range _ _
theorem ordPs_range : ∀ (a b : List (List UInt8)),ordPs a b = -1 \/ ordPs a b = 0 \/ ordPs a b = 1
  | [],[]=>by simp [ordPs]
  | [],_ :: _=>by simp [ordPs]
  | _ :: _,[]=>by simp [ordPs]
  | a :: x,b :: y=>fst_range (ordPart_range a b) (ordPs_range x y)
theorem ordPre_range (a b : List (List UInt8)) : ordPre a b = -1 \/ ordPre a b = 0 \/ ordPre a b = 1:=by
  unfold ordPre; split
  · exact ci_range _ _
  · exact ordPs_range _ _
theorem ordN_range (x y z : Int) (p : List (List UInt8)) (x' y' z' : Int) (q : List (List UInt8)) : ordN x y z p x' y' z' q = -1 \/ ordN x y z p x' y' z' q = 0 \/ ordN x y z p x' y' z' q = 1:=
  fst_range (ci_range _ _) (fst_range (ci_range _ _) (fst_range (ci_range _ _) (ordPre_range _ _)))
def rises (l : List (List UInt8)) : Prop:=l.Pairwise fun s t=>ordV s t < 0
theorem ordV_range (s t : List UInt8) : ordV s t = -1 \/ ordV s t = 0 \/ ordV s t = 1:=ordN_range _ _ _ _ _ _ _ _
end Ve
end Go.Proofs.YtlcffhadobhfkaaGreatDoor
