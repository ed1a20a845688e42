/-
  Err Code Ten GtA RefOa ModD RtP CdA ChS GtX GtD MsT
-/
import Derived.Test.YtlcffhadobhfkaaGreatDoorChecked
import Derived.Test.YtlcffhadobhfkaaGreatDoorRows
import Derived.Stop.LaidTwo
import Derived.Test.YtlcffhadobhfkaaGreatDoorMq2
import Derived.Test.YtlcffhadobhfkaaGreatDoorMq3
import Derived.Test.YtlcffhadobhfkaaGreatDoorMq6
import Derived.Test.YtlcffhadobhfkaaGreatDoorMq5
import Derived.Test.YtlcffhadobhfkaaGreatDoorMq39
import Derived.Test.YtlcffhadobhfkaaGreatDoorMq9
import Derived.Test.YtlcffhadobhfkaaGreatDoorMq16
import Derived.Test.YtlcffhadobhfkaaGreatDoorMq20
import Derived.Test.YtlcffhadobhfkaaGreatDoorMq11
import Derived.Test.YtlcffhadobhfkaaGreatDoorMq18
import Derived.Test.YtlcffhadobhfkaaGreatDoorMq19
import Derived.Test.YtlcffhadobhfkaaGreatDoorMq22
import Derived.Test.YtlcffhadobhfkaaGreatDoorMq23
import Derived.Test.YtlcffhadobhfkaaGreatDoorMq43
import Derived.Test.YtlcffhadobhfkaaGreatDoorMq34
import Derived.Test.YtlcffhadobhfkaaGreatDoorMq45
namespace Go.Proofs.YtlcffhadobhfkaaGreatDoor
open Go.RowKit Go.Extern.Stop Go.Stop Go.Extern
namespace Er
theorem noIsS (v : Value) (xT : TypeId) (w : World) : (Instr.typeAssert (.iface 319 v) xT 216 true).run Tryz.prog w = .ok (.tuple #[.nilIface,.bool false]) w:=run_typeAssert_lacksB Tryz.underlying216 (by kernel_rfl) (by kernel_rfl) v xT w
theorem noIsP (v : Value) (xT : TypeId) (w : World) : (Instr.typeAssert (.iface 125 v) xT 216 true).run Tryz.prog w = .ok (.tuple #[.nilIface,.bool false]) w:=run_typeAssert_lacksB Tryz.underlying216 (by kernel_rfl) (by kernel_rfl) v xT w
theorem hasUnwrapP (v : Value) (xT : TypeId) (w : World) : (Instr.typeAssert (.iface 125 v) xT 212 true).run Tryz.prog w = .ok (.tuple #[.iface 125 v,.bool true]) w:=run_typeAssert_hasB Tryz.underlying212 (by kernel_rfl) v xT w
theorem methodUnwrap (v : Value) (w : World) : (Go.method 448 125 v "Unwrap").run Tryz.prog w = .ok (352, v) w := by kernel_rfl
theorem callComp (w : World) : (callFunc 358 #[.agg #[.pointer (some ⟨17,319,none⟩)]]).run Tryz.prog w = .ok (.value (.bool true)) w:=by kernel_rfl
theorem methodComparable (v : Value) (w : World) : (Go.method 448 205 v "Comparable").run Tryz.prog w = .ok (358, v) w := by kernel_rfl
theorem compS : (Tryz.prog.info? 319).map (·.comparable) = some true:=by kernel_rfl
theorem sizeS : (Tryz.prog.info? 337).map (·.size) = some 1:=by kernel_rfl
set_option maxHeartbeats 1000000 in
theorem is_same (a : Addr) (w : World) :
    Calls Tryz.prog 112 #[.iface 319 (.pointer (some a)),.iface 319 (.pointer (some a))] w fun e w'=>e = .returned (.bool true) /\ w' = w:=by
  obtain ⟨i,hi,hcmp⟩:=Option.map_eq_some_iff.1 compS
  obtain ⟨j,hj,hjs⟩:=Option.map_eq_some_iff.1 sizeS
  have h8:=@run_callFunc_extern Tryz.prog 155 _ ReflectliteType.typeOf Tryz.func155 (by kernel_rfl) (by kernel_rfl) (by kernel_rfl) (by kernel_rfl)
  have h32:=callComp
  have tT:=typeOfS
  have mR:=methodComparable
  have heq:=run_eql_iface_ptr_same (P:=Tryz.prog) w a Tryz.underlying32 Tryz.underlying319 hi hcmp hj
  go_enter Tryz.func112,Tryz.ntmps112
  go_wp2
  refine wp_loop_rounds 1 ?_
  rw [rounds_succ]
  go_wp2
  go_ret
  exact ⟨rfl,rfl⟩
set_option maxHeartbeats 1000000 in
theorem is_other (a b : Addr) (ca cb : Array Value) (ta tb : TypeId) (w : World) (hne : a ≠ b) (ha : w.heap[a.block]? = some (.cells ca ta (0,0))) (hb : w.heap[b.block]? = some (.cells cb tb (0,0))) :
    Calls Tryz.prog 112 #[.iface 319 (.pointer (some a)),.iface 319 (.pointer (some b))] w fun e w'=>e = .returned (.bool false) /\ w' = w:=by
  obtain ⟨i,hi,hcmp⟩:=Option.map_eq_some_iff.1 compS
  obtain ⟨j,hj,hjs⟩:=Option.map_eq_some_iff.1 sizeS
  have h8:=@run_callFunc_extern Tryz.prog 155 _ ReflectliteType.typeOf Tryz.func155 (by kernel_rfl) (by kernel_rfl) (by kernel_rfl) (by kernel_rfl)
  have h32:=callComp
  have tT:=typeOfS
  have mR:=methodComparable
  have nE:=noIsS
  have uE:=noUnwrapS
  have vE:=noUnwrapsS
  have heq:=run_eql_iface_ptr_other (P:=Tryz.prog) w Tryz.underlying32 Tryz.underlying319 hi hcmp hj (by rw [hjs]; decide) hne ha hb
  go_enter Tryz.func112,Tryz.ntmps112
  go_wp2
  refine wp_loop_rounds 1 ?_
  rw [rounds_succ]
  go_wp2
  go_ret
  exact ⟨rfl,rfl⟩
set_option maxHeartbeats 1000000 in
theorem is_wrap_same (pb po : Nat) (b : Addr) (w : World) (h1 : w.cell? ⟨pb,po + 1,none⟩ = some (.iface 319 (.pointer (some b)))) :
    Calls Tryz.prog 112 #[.iface 125 (.pointer (some ⟨pb,po,none⟩)),.iface 319 (.pointer (some b))] w fun e w'=>e = .returned (.bool true) /\ w' = w:=by
  obtain ⟨i,hi,hcmp⟩:=Option.map_eq_some_iff.1 compS
  obtain ⟨j,hj,hjs⟩:=Option.map_eq_some_iff.1 sizeS
  have h8:=@run_callFunc_extern Tryz.prog 155 _ ReflectliteType.typeOf Tryz.func155 (by kernel_rfl) (by kernel_rfl) (by kernel_rfl) (by kernel_rfl)
  have h32:=callComp
  have tT:=typeOfS
  have mR:=methodComparable
  have nW:=noIsP
  have uW:=hasUnwrapP
  have mU:=methodUnwrap
  have heq:=run_eql_iface_ptr_same (P:=Tryz.prog) w b Tryz.underlying32 Tryz.underlying319 hi hcmp hj
  have hty:=run_eql_iface_types (P:=Tryz.prog) 125 319 (.pointer (some ⟨pb,po,none⟩)) (.pointer (some b)) Tryz.underlying32 (by decide) w
  go_enter Tryz.func112,Tryz.ntmps112
  go_wp2
  refine wp_loop_rounds 2 ?_
  rw [rounds_succ]
  go_wp2
  rw [rounds_succ]
  go_wp2
  go_ret
  exact ⟨rfl,rfl⟩
set_option maxHeartbeats 1000000 in
theorem is_wrap_other (pb po : Nat) (b a : Addr) (ca cb : Array Value) (ta tb : TypeId) (w : World) (h1 : w.cell? ⟨pb,po + 1,none⟩ = some (.iface 319 (.pointer (some a)))) (hne : a ≠ b) (ha : w.heap[a.block]? = some (.cells ca ta (0,0))) (hb : w.heap[b.block]? = some (.cells cb tb (0,0))) :
    Calls Tryz.prog 112 #[.iface 125 (.pointer (some ⟨pb,po,none⟩)),.iface 319 (.pointer (some b))] w fun e w'=>e = .returned (.bool false) /\ w' = w:=by
  obtain ⟨i,hi,hcmp⟩:=Option.map_eq_some_iff.1 compS
  obtain ⟨j,hj,hjs⟩:=Option.map_eq_some_iff.1 sizeS
  have h8:=@run_callFunc_extern Tryz.prog 155 _ ReflectliteType.typeOf Tryz.func155 (by kernel_rfl) (by kernel_rfl) (by kernel_rfl) (by kernel_rfl)
  have h32:=callComp
  have tT:=typeOfS
  have mR:=methodComparable
  have nE:=noIsS
  have uE:=noUnwrapS
  have vE:=noUnwrapsS
  have nW:=noIsP
  have uW:=hasUnwrapP
  have mU:=methodUnwrap
  have heq:=run_eql_iface_ptr_other (P:=Tryz.prog) w Tryz.underlying32 Tryz.underlying319 hi hcmp hj (by rw [hjs]; decide) hne ha hb
  have hty:=run_eql_iface_types (P:=Tryz.prog) 125 319 (.pointer (some ⟨pb,po,none⟩)) (.pointer (some b)) Tryz.underlying32 (by decide) w
  go_enter Tryz.func112,Tryz.ntmps112
  go_wp2
  refine wp_loop_rounds 2 ?_
  rw [rounds_succ]
  go_wp2
  rw [rounds_succ]
  go_wp2
  go_ret
  exact ⟨rfl,rfl⟩
theorem ten (w : World) (A : Nat -> Addr) (T : TypeId) (k : Nat) (hk : k < 10) :
    (w.alloc (.cells #[.iface 319 (.pointer (some (A 0))),.iface 319 (.pointer (some (A 1))),.iface 319 (.pointer (some (A 2))),.iface 319 (.pointer (some (A 3))),.iface 319 (.pointer (some (A 4))),.iface 319 (.pointer (some (A 5))),.iface 319 (.pointer (some (A 6))),.iface 319 (.pointer (some (A 7))),.iface 319 (.pointer (some (A 8))),.iface 319 (.pointer (some (A 9)))] T)).cell? ⟨w.heap.size,k,none⟩ = some (.iface 319 (.pointer (some (A k)))):=by
  match k,hk with
  | 0,_=>simp
  | 1,_=>simp
  | 2,_=>simp
  | 3,_=>simp
  | 4,_=>simp
  | 5,_=>simp
  | 6,_=>simp
  | 7,_=>simp
  | 8,_=>simp
  | 9,_=>simp
set_option maxHeartbeats 1000000 in
theorem code_nil (w : World) : Calls Tryz.prog 65 #[.nilIface] w fun e w'=>e = .returned (.tuple #[.int .i64 0,.int .i64 (-1)]) /\ w' = w:=by
  go_enter Tryz.func65,Tryz.ntmps65
  go_wp2
  go_ret2
  exact ⟨rfl,rfl⟩
set_option maxHeartbeats 1000000 in
theorem code_miss (a : Addr) (A : Nat → Addr) (j : Nat) (w : World) (S : Sen w A) (hj : j ≤ 10)
    (hY : j < 10 -> ∀ W,Below w.heap.size w W -> Calls Tryz.prog 112 #[.iface 319 (.pointer (some a)),.iface 319 (.pointer (some (A j)))] W fun e w'=>e = .returned (.bool true) /\ w' = W)
    (hN : ∀ k,k < 10 -> k ≠ j -> ∀ W,Below w.heap.size w W -> Calls Tryz.prog 112 #[.iface 319 (.pointer (some a)),.iface 319 (.pointer (some (A k)))] W fun e w'=>e = .returned (.bool false) /\ w' = W) :
    Calls Tryz.prog 65 #[.iface 319 (.pointer (some a))] w fun e w'=>e = .returned (.tuple #[.int .i64 (if j < 10 then (j : Int) + 1 else -1),.int .i64 (-1)]) /\ Below w.heap.size w w':=by
  have hb0 : Below w.heap.size w (w.alloc (.cells #[.pointer none] 125)):=(Below.refl _ _).alloc (Nat.le_refl _) _
  have HY:=hid hY
  have HN:=hid hN
  have HS:=hid S
  have HB0:=hid hb0
  clear hY hN S hb0
  go_enter Tryz.func65,Tryz.ntmps65
  go_wp2_with fail
  refine (as_miss_b a _ _ (HS.out.below HB0.out).et).mono ?_
  rintro e w1 ⟨rfl,hb1⟩
  have hb : Below w.heap.size w w1:=HB0.out.trans (hb1.mono (by simp))
  have S:=HS.out.below hb
  have HB:=hid hb
  clear hb1 hb
  have c0:=S.g0
  have c1:=S.g1
  have c2:=S.g2
  have c3:=S.g3
  have c4:=S.g4
  have c5:=S.g5
  have c6:=S.g6
  have c7:=S.g7
  have c8:=S.g8
  have c9:=S.g9
  clear S
  go_wp2_with fail
  have hbL:=HB.out.alloc HB.out.size (.cells #[.iface 319 (.pointer (some (A 0))),.iface 319 (.pointer (some (A 1))),.iface 319 (.pointer (some (A 2))),.iface 319 (.pointer (some (A 3))),.iface 319 (.pointer (some (A 4))),.iface 319 (.pointer (some (A 5))),.iface 319 (.pointer (some (A 6))),.iface 319 (.pointer (some (A 7))),.iface 319 (.pointer (some (A 8))),.iface 319 (.pointer (some (A 9)))] 32)
  have HBL:=hid hbL
  clear hbL c0 c1 c2 c3 c4 c5 c6 c7 c8 c9
  go_loop [3,28] (fun at_ i=>∃ k : Nat,k <= 10 /\ k <= j /\ i = .int .i64 k /\ at_ = .int .i64 (-1)) (fun _ i=>10 - (intOf i).toNat)
  case atStart=>exact ⟨0,by omega,by omega,rfl,rfl⟩
  case round=>
    obtain ⟨k,hk,hkj,rfl,rfl⟩:=hrel
    by_cases hlt : k < 10
    · have hc:=ten w1 A 32 k hlt
      by_cases hkeq : k = j
      · subst hkeq
        go_wp2_with fail
        refine (HY.out hlt _ HBL.out).mono ?_
        rintro e w' ⟨rfl,rfl⟩
        go_wp2_with fail
        go_ret2
        exact ⟨rfl,HBL.out⟩
      · go_wp2_with fail
        refine (HN.out k hlt hkeq _ HBL.out).mono ?_
        rintro e w' ⟨rfl,rfl⟩
        go_wp2_with fail
        go_round
        case rel=>exact ⟨k + 1,by omega,by omega,by go_num,rfl⟩
        case measure=>simp [intOf]; omega
    · have hj10 : ¬ j < 10:=by omega
      go_wp2_with fail
      go_ret2
      exact ⟨rfl,HBL.out⟩
set_option maxHeartbeats 1000000 in
theorem code_hit (fb fo : Nat) (n : Int) (A : Nat → Addr) (j : Nat) (w : World) (S : Sen w A) (hj : j ≤ 10) (hfb : fb < w.heap.size) (hn : w.cell? ⟨fb, fo, none⟩ = some (.int .i64 n))
    (hY : j < 10 -> ∀ W,Below w.heap.size w W -> Calls Tryz.prog 112 #[.iface 125 (.pointer (some ⟨fb,fo,none⟩)),.iface 319 (.pointer (some (A j)))] W fun e w'=>e = .returned (.bool true) /\ w' = W)
    (hN : ∀ k,k < 10 -> k ≠ j -> ∀ W,Below w.heap.size w W -> Calls Tryz.prog 112 #[.iface 125 (.pointer (some ⟨fb,fo,none⟩)),.iface 319 (.pointer (some (A k)))] W fun e w'=>e = .returned (.bool false) /\ w' = W) :
    Calls Tryz.prog 65 #[.iface 125 (.pointer (some ⟨fb,fo,none⟩))] w fun e w'=>e = .returned (.tuple #[.int .i64 (if j < 10 then (j : Int) + 1 else -1),.int .i64 n]) /\ Below w.heap.size w w':=by
  have hb0 : Below w.heap.size w (w.alloc (.cells #[.pointer none] 125)):=(Below.refl _ _).alloc (Nat.le_refl _) _
  have HY:=hid hY
  have HN:=hid hN
  have HS:=hid S
  have HB0:=hid hb0
  have Hn:=hid hn
  clear hY hN S hb0 hn
  go_enter Tryz.func65,Tryz.ntmps65
  go_wp2_with fail
  refine (as_hit_b ⟨fb,fo,none⟩ ⟨w.heap.size,0,none⟩ (.pointer none) _ w.heap.size (Nat.le_refl _) (HS.out.below HB0.out).et (by simp) (by simp) (by simp)).mono ?_
  rintro e w1 ⟨rfl,hb1,ht1⟩
  have hb : Below w.heap.size w w1:=HB0.out.trans hb1
  have S:=HS.out.below hb
  have hn1 : w1.cell? ⟨fb,fo,none⟩ = some (.int .i64 n):=by rw [hb.cell hfb]; exact Hn.out
  have HB:=hid hb
  clear hb1 hb
  have c0:=S.g0
  have c1:=S.g1
  have c2:=S.g2
  have c3:=S.g3
  have c4:=S.g4
  have c5:=S.g5
  have c6:=S.g6
  have c7:=S.g7
  have c8:=S.g8
  have c9:=S.g9
  clear S
  go_wp2_with fail
  have hbL:=HB.out.alloc HB.out.size (.cells #[.iface 319 (.pointer (some (A 0))),.iface 319 (.pointer (some (A 1))),.iface 319 (.pointer (some (A 2))),.iface 319 (.pointer (some (A 3))),.iface 319 (.pointer (some (A 4))),.iface 319 (.pointer (some (A 5))),.iface 319 (.pointer (some (A 6))),.iface 319 (.pointer (some (A 7))),.iface 319 (.pointer (some (A 8))),.iface 319 (.pointer (some (A 9)))] 32)
  have HBL:=hid hbL
  clear hbL c0 c1 c2 c3 c4 c5 c6 c7 c8 c9 hn1 ht1
  go_loop [3,28] (fun at_ i=>∃ k : Nat,k <= 10 /\ k <= j /\ i = .int .i64 k /\ at_ = .int .i64 n) (fun _ i=>10 - (intOf i).toNat)
  case atStart=>exact ⟨0,by omega,by omega,rfl,rfl⟩
  case round=>
    obtain ⟨k,hk,hkj,rfl,rfl⟩:=hrel
    by_cases hlt : k < 10
    · have hc:=ten w1 A 32 k hlt
      by_cases hkeq : k = j
      · subst hkeq
        go_wp2_with fail
        refine (HY.out hlt _ HBL.out).mono ?_
        rintro e w' ⟨rfl,rfl⟩
        go_wp2_with fail
        go_ret2
        exact ⟨rfl,HBL.out⟩
      · go_wp2_with fail
        refine (HN.out k hlt hkeq _ HBL.out).mono ?_
        rintro e w' ⟨rfl,rfl⟩
        go_wp2_with fail
        go_round
        case rel=>exact ⟨k + 1,by omega,by omega,by go_num,rfl⟩
        case measure=>simp [intOf]; omega
    · have hj10 : ¬ j < 10:=by omega
      go_wp2_with fail
      go_ret2
      exact ⟨rfl,HBL.out⟩
theorem blk_below {w W : World} {b : Nat} {c : Array Value} {t : TypeId} (h : w.heap[b]? = some (.cells c t (0,0))) (hb : Below w.heap.size w W) : W.heap[b]? = some (.cells c t (0,0)):=by
  have hlt : b < w.heap.size:=by
    rcases Nat.lt_or_ge b w.heap.size with hh | hh
    · exact hh
    · rw [Array.getElem?_eq_none hh] at h; cases h
  rw [hb.block _ hlt]; exact h
theorem code_sen (A : Nat -> Addr) (j : Nat) (w : World) (S : Sen w A) (hj : j < 10) :
    Calls Tryz.prog 65 #[.iface 319 (.pointer (some (A j)))] w fun e w'=>e = .returned (.tuple #[.int .i64 ((j : Int) + 1),.int .i64 (-1)]) /\ Below w.heap.size w w':=by
  refine (code_miss (A j) A j w S (Nat.le_of_lt hj) (fun _ W _=>is_same (A j) W) (fun k hk hkj W hW=>?_)).mono fun e w' ⟨h1,h2⟩=>⟨by rw [h1,if_pos hj],h2⟩
  obtain ⟨c1,t1,e1⟩:=S.blk j hj
  obtain ⟨c2,t2,e2⟩:=S.blk k hk
  exact is_other (A j) (A k) c1 c2 t1 t2 W (S.inj j k hj hk (fun h=>hkj h.symm)) (blk_below e1 hW) (blk_below e2 hW)
theorem code_fault (fb fo : Nat) (n : Int) (A : Nat -> Addr) (j : Nat) (w : World) (S : Sen w A) (hj : j < 10) (hfb : fb < w.heap.size) (hn : w.cell? ⟨fb,fo,none⟩ = some (.int .i64 n)) (he : w.cell? ⟨fb,fo + 1,none⟩ = some (.iface 319 (.pointer (some (A j))))) :
    Calls Tryz.prog 65 #[.iface 125 (.pointer (some ⟨fb,fo,none⟩))] w fun e w'=>e = .returned (.tuple #[.int .i64 ((j : Int) + 1),.int .i64 n]) /\ Below w.heap.size w w':=by
  refine (code_hit fb fo n A j w S (Nat.le_of_lt hj) hfb hn (fun _ W hW=>is_wrap_same fb fo (A j) W ?_) (fun k hk hkj W hW=>?_)).mono fun e w' ⟨h1,h2⟩=>⟨by rw [h1,if_pos hj],h2⟩
  · rw [hW.cell hfb]; exact he
  · obtain ⟨c1,t1,e1⟩:=S.blk j hj
    obtain ⟨c2,t2,e2⟩:=S.blk k hk
    exact is_wrap_other fb fo (A k) (A j) c1 c2 t1 t2 W (by rw [hW.cell hfb]; exact he) (S.inj j k hj hk (fun h=>hkj h.symm)) (blk_below e1 hW) (blk_below e2 hW)
end Er
end Go.Proofs.YtlcffhadobhfkaaGreatDoor
namespace Go.Proofs.YtlcffhadobhfkaaGreatDoor
open Go.ChangeShapes Go.WideShapes Go.ChangeAt Go.RowKit
namespace Ve
theorem etName : Tryz.prog.globalNamed "errors.errorType" = some 10 := by kernel_rfl
def rtWord : String := match (Rows.laid_errors_errorType : DataW Unit) with | .iface s _ => s | _ => ""
theorem rtName : (Tryz.prog.cutTypes.find? (·.1 == rtWord)).map (·.2) = some 205:=by kernel_rfl
theorem oneRow : ((List.range 348).filter fun t=>Tryz.prog.rowNamed t [101,114,114,111,114]) = [32]:=by kernel_rfl
theorem nTypes : Tryz.prog.types.size = 348:=by kernel_rfl
theorem cellsS : Tryz.prog.cellsOf 337 = 1:=by kernel_rfl
theorem cellsStr : Tryz.prog.cellsOf 9 = 1:=by kernel_rfl
theorem star : "*" ++ "errors.errorString" = "*errors.errorString" := by decide
theorem rowS (u : TypeId) (h : Tryz.prog.typeName? 3 u = some "*errors.errorString") : u = 319 :=
  typeName_ptr_named (nm := "errors.errorString") (by rw [star]; kernel_rfl) (by kernel_rfl) (by decide) u (by rw [star]; exact h)
def tens : List (String × Nat × List UInt8):=
  [("pewholder/api.ErrText", 3, [112, 101, 119, 104, 111, 108, 100, 101, 114, 58, 32, 116, 101, 120, 116]),
   ("pewholder/api.ErrBound", 4, [112, 101, 119, 104, 111, 108, 100, 101, 114, 58, 32, 98, 111, 117, 110, 100]),
   ("pewholder/api.ErrShape", 2, [112, 101, 119, 104, 111, 108, 100, 101, 114, 58, 32, 115, 104, 97, 112, 101]),
   ("pewholder/api.ErrMajor", 5, [112, 101, 119, 104, 111, 108, 100, 101, 114, 58, 32, 109, 97, 106, 111, 114]),
   ("pewholder/api.ErrNone", 0, [112, 101, 119, 104, 111, 108, 100, 101, 114, 58, 32, 110, 111, 110, 101]),
   ("pewholder/api.ErrExist", 6, [112, 101, 119, 104, 111, 108, 100, 101, 114, 58, 32, 101, 120, 105, 115, 116]),
   ("pewholder/api.ErrFull", 7, [112, 101, 119, 104, 111, 108, 100, 101, 114, 58, 32, 102, 117, 108, 108]),
   ("pewholder/api.ErrOrder", 1, [112, 101, 119, 104, 111, 108, 100, 101, 114, 58, 32, 111, 114, 100, 101, 114]),
   ("pewholder/api.ErrClash", 8, [112, 101, 119, 104, 111, 108, 100, 101, 114, 58, 32, 99, 108, 97, 115, 104]),
   ("pewholder/api.ErrSum", 9, [112, 101, 119, 104, 111, 108, 100, 101, 114, 58, 32, 115, 117, 109])]
theorem tens_named : ∀ x,x ∈ tens -> Tryz.prog.globalNamed x.1 = some x.2.1 /\ (Tryz.prog.globals[x.2.1]?).map (·.type) = some 32:=by
  have h : (tens.all fun x=>Tryz.prog.globalNamed x.1 == some x.2.1 && (Tryz.prog.globals[x.2.1]?).map (·.type) == some 32) = true:=by kernel_rfl
  intro x hx
  simpa using List.all_eq_true.1 h x hx
theorem sen_of {W : World} (rest : List (String × DataW Unit)) (hl : laidMet Tryz.prog ((tens.map fun x => (x.1, DataW.iface "*errors.errorString" (.ptr (.agg [.lit (.string x.2.2)])))) ++ rest) W)
    (hh : handlesMet Tryz.prog [("errors.errorType", Rows.laid_errors_errorType)] W) : ∃ A, Er.Sen W A := by
  obtain ⟨ps,hl,hnd,hrows⟩:=hl
  obtain ⟨name,u,ty,e1,e2,e3,e4,e5⟩:=hh _ (List.mem_singleton.2 rfl)
  have en : name = [101,114,114,111,114]:=(Option.some.inj e1).symm
  subst en
  obtain rfl:=Option.some.inj (rtName.symm.trans e2)
  have hm : ty ∈ (List.range 348).filter fun t=>Tryz.prog.rowNamed t [101,114,114,111,114]:=List.mem_filter.2 ⟨List.mem_range.2 (by rw [<- nTypes]; exact e3),e4⟩
  rw [oneRow] at hm
  obtain rfl:=List.mem_singleton.1 hm
  have hhd : typeHandle Tryz.prog 32 = .pointer (some ⟨17,32,none⟩):=by kernel_rfl
  rw [hhd] at e5
  have het : W.cell? ⟨10,0,none⟩ = some (.iface 205 (.agg #[.pointer (some ⟨17,32,none⟩)])):=by simpa using World.var?_cell etName e5 0
  obtain ⟨al,hlen,hsub,hall⟩:=Er.sens_rest Tryz.underlying32 rowS Tryz.underlying319 Tryz.underlying337 rfl rfl Tryz.underlying9 cellsS cellsStr rest tens ps hl tens_named hrows
  have hten : al.length = 10:=hlen
  refine ⟨fun k=>al.getD k ⟨0,0,none⟩,?_⟩
  have get : ∀ k,k < 10 -> al[k]? = some (al.getD k ⟨0,0,none⟩):=fun k hk=>by
    rw [List.getD_eq_getElem?_getD,List.getElem?_eq_getElem (by omega)]; rfl
  refine ⟨(hall 0 _ _ rfl (get 0 (by omega))).1,(hall 1 _ _ rfl (get 1 (by omega))).1,(hall 2 _ _ rfl (get 2 (by omega))).1,(hall 3 _ _ rfl (get 3 (by omega))).1,(hall 4 _ _ rfl (get 4 (by omega))).1,(hall 5 _ _ rfl (get 5 (by omega))).1,(hall 6 _ _ rfl (get 6 (by omega))).1,(hall 7 _ _ rfl (get 7 (by omega))).1,(hall 8 _ _ rfl (get 8 (by omega))).1,(hall 9 _ _ rfl (get 9 (by omega))).1,het,?_,?_⟩
  · intro k hk
    have hx : ∃ x,tens[k]? = some x:=⟨tens[k]'hk,List.getElem?_eq_getElem hk⟩
    obtain ⟨x,hx⟩:=hx
    exact (hall k x _ hx (get k hk)).2
  · intro i j hi hj hij
    have:=Er.unlike hsub hnd (i:=i) (j:=j) (by omega) (by omega) hij
    intro e
    apply this
    have hi':=get i hi
    have hj':=get j hj
    rw [List.getElem?_eq_getElem (by omega)] at hi' hj'
    rw [Option.some.inj hi',Option.some.inj hj']
    exact e
theorem ml_of {W : World} (hsh : W.ShapedOpen Tryz.prog) : ∃ m,W.cell? ⟨11,0,none⟩ = some (.int .i64 m):=
  cell_of_shapedOpen_int (P:=Tryz.prog) (g:=11) (t:=3) (zero:=#[.int .i64 0]) hsh (of_decide_eq_true (by kernel_rfl)) (by kernel_rfl) rfl (by kernel_rfl) (by kernel_rfl) Tryz.underlying3
theorem At1.new {U : List Bm} {O : List Bool} {a : Nat} (ha : a < U.length) (hl : O.length = U.length) : At1 U (O.set a true) U[a]:=
  ⟨a,ha,by rw [List.length_set,hl]; exact ha,rfl,by rw [List.getElem_set_self]⟩
def Cl1 (req : Bm -> List Bm) (U : List Bm) (O : List Bool) (i : Nat) : Prop:=∀ j (h : j < U.length) (h' : j < O.length),j < i -> O[j] = true -> ∀ m,m ∈ req U[j] -> At1 U O m
theorem Mk.iff {req : Bm -> List Bm} {U roots : List Bm} {O : List Bool} (h : Mk req U roots O) (hn : U.Nodup) (hr : ∀ m,m ∈ roots -> At1 U O m) (hc : Cl1 req U O U.length) {i : Nat} (hi : i < U.length) (hi' : i < O.length) : O[i] = true ↔ Rch req roots U[i]:=by
  refine ⟨h.so i hi hi',fun hR=>?_⟩
  have all : ∀ m,Rch req roots m -> At1 U O m:=fun m hm=>by
    induction hm with
    | root hm=>exact hr _ hm
    | step _ hm ih=>
      obtain ⟨a,ha,ha',e1,e2⟩:=ih
      rw [<- e1] at hm
      exact hc a ha ha' ha e2 _ hm
  obtain ⟨a,ha,ha',e1,e2⟩:=all _ hR
  have hp:=List.pairwise_iff_getElem.1 hn
  have : a = i:=by
    rcases Nat.lt_trichotomy a i with h1 | h1 | h1
    · exact absurd e1 (hp a i ha hi h1)
    · exact h1
    · exact absurd e1.symm (hp i a hi ha h1)
  subst this
  exact e2
def atOf : Option Nat -> Int
  | none=>-1
  | some i=>(i : Int)
def faultV (r : Nat × Option Nat) : Value:=.agg #[.int .i64 (r.1 : Nat),.int .i64 (atOf r.2)]
theorem rbare_any (n : Int) (w : World) : Calls Tryz.prog 70 #[.int .i64 n] w fun e w'=>e = .returned (.agg #[.int .i64 n,.int .i64 (-1)]) /\ Below w.heap.size w w':=by
  go_enter Tryz.func70,Tryz.ntmps70
  go_wp2_with fail
  refine bodyPost_ret (v:=.agg #[.int .i64 n,.int .i64 (-1)]) (by simp [results,Tryz.results70,go_sem]) rfl ⟨rfl,?_⟩
  exact (Below.refl w.heap.size w).alloc (Nat.le_refl _) _
theorem fine_any (w : World) : Calls Tryz.prog 64 #[] w fun e w'=>e = .returned (.agg #[.int .i64 0,.int .i64 (-1)]) /\ Below w.heap.size w w':=by
  go_enter Tryz.func64,Tryz.ntmps64
  go_wp2_with fail
  refine bodyPost_ret (v:=.agg #[.int .i64 0,.int .i64 (-1)]) (by simp [results,Tryz.results64,go_sem]) rfl ⟨rfl,?_⟩
  exact (Below.refl w.heap.size w).alloc (Nat.le_refl _) _
theorem pathErr_err (l : List UInt8) : pathErr l = 0 \/ pathErr l = 1 \/ pathErr l = 2 \/ pathErr l = 4:=by
  unfold pathErr; split
  · simp
  · split
    · simp
    · split <;> simp
theorem cb_lt_iff : ∀ (a b : List UInt8), Lib.compareBytes a b < 0 ↔ a < b
  | [],[]=>by simp [Lib.compareBytes]
  | [],b :: bs=>by simp [Lib.compareBytes]
  | a :: r,[]=>by simp [Lib.compareBytes]
  | a :: r, b :: bs => by
    simp only [Lib.compareBytes]
    rw [List.cons_lt_cons_iff]
    by_cases h1 : a < b
    · rw [if_pos h1]; simp [h1]
    · rw [if_neg h1]
      by_cases h2 : b < a
      · rw [if_pos h2]
        have : ¬ a = b:=fun e=>by subst e; exact absurd h2 (UInt8.lt_irrefl _)
        simp [h1,this]
      · rw [if_neg h2]
        have : a = b:=u8_eq h1 h2
        subst this
        rw [cb_lt_iff r bs]
        simp [h1]
theorem range_get (S : List (List UInt8)) : (List.range S.length).map (fun j=>S.toArray[j]!) = S:=by
  apply List.ext_getElem
  · simp
  · intro j h1 h2
    simp [h2]
def rsT (Z : List (List UInt8)) : Prop:=∀ j (h : j + 1 < Z.length),Lib.compareBytes Z[j] Z[j + 1] < 0
theorem rsT_pair {Z : List (List UInt8)} (h : rsT Z) : Z.Pairwise fun x y=>x < y:=by
  have go : ∀ (d i : Nat) (hi : i + d + 1 < Z.length),Z[i] < Z[i + d + 1]:=fun d=>by
    induction d with
    | zero=>intro i hi; exact (cb_lt_iff _ _).1 (h i hi)
    | succ d ih=>
      intro i hi
      exact List.lt_trans (ih i (by omega)) ((cb_lt_iff _ _).1 (h (i + d + 1) hi))
  rw [List.pairwise_iff_getElem]
  intro i j hi hj hij
  obtain ⟨d,rfl⟩ : ∃ d,j = i + d + 1:=⟨j - i - 1,by omega⟩
  exact go d i hj
theorem ris_iff (Z : List (List UInt8)) : Z = risB Z ↔ rsT Z := by
  have hsrt : (srtB Z).Pairwise fun x y=>x <= y:=by
    have h:=List.pairwise_mergeSort (le:=fun x y : List UInt8=>decide (x <= y)) (fun a b c h1 h2=>by simp only [decide_eq_true_eq] at *; exact List.le_trans h1 h2) (fun a b=>by simp only [Bool.or_eq_true,decide_eq_true_eq]; exact List.le_total a b) Z
    unfold srtB
    exact h.imp fun h=>of_decide_eq_true h
  have hlen : (srtB Z).length = Z.length:=by unfold srtB; exact List.length_mergeSort Z
  constructor
  · intro h
    have hl : (risB Z).length = (srtB Z).length:=by rw [<- h,hlen]
    unfold risB Lib.compact Lib.compactUpTo at hl
    rw [List.length_map] at hl
    have hk:=List.length_filter_eq_length_iff.1 (hl.trans (by simp))
    have hk' : ∀ j,j < (srtB Z).length -> Lib.keeps (srtB Z).toArray j = true:=fun j hj=>hk j (List.mem_range.2 hj)
    have hS : Z = srtB Z:=by
      have h5 : risB Z = srtB Z:=by
        unfold risB Lib.compact
        rw [Lib.compactUpTo_all _ _ hk',range_get]
      exact h.trans h5
    intro j hj
    have h1:=hk' (j + 1) (by rw [hlen]; exact hj)
    have h2 : (srtB Z)[j + 1]'(by rw [hlen]; exact hj) ≠ (srtB Z)[j]'(by rw [hlen]; omega):=by
      have h3 : decide (j + 1 = 0 \/ (srtB Z).toArray[j + 1]! ≠ (srtB Z).toArray[j + 1 - 1]!) = true:=h1
      rcases of_decide_eq_true h3 with h4 | h4
      · omega
      · intro e
        apply h4
        rw [getElem!_pos _ _ (by simp [hlen]; exact hj),getElem!_pos _ _ (by simp [hlen]; omega)]
        simpa using e
    have h3:=List.pairwise_iff_getElem.1 hsrt j (j + 1) (by rw [hlen]; omega) (by rw [hlen]; exact hj) (by omega)
    have e1 : Z[j] = (srtB Z)[j]'(by rw [hlen]; omega):=by congr 1
    have e2 : Z[j + 1] = (srtB Z)[j + 1]'(by rw [hlen]; exact hj):=by congr 1
    rw [cb_lt_iff,e1,e2]
    rcases List.le_iff_lt_or_eq.1 h3 with h6 | h6
    · exact h6
    · exact absurd h6.symm h2
  · intro h
    have hp:=rsT_pair h
    have hS : srtB Z = Z:=by
      unfold srtB
      exact List.mergeSort_of_pairwise (hp.imp fun h=>decide_eq_true (List.le_of_lt h))
    unfold risB Lib.compact
    rw [hS,Lib.compactUpTo_all,range_get]
    intro j hj
    cases j with
    | zero=>exact Lib.keeps_lt_one _ 0 (by omega)
    | succ j=>
      refine Lib.keeps_pos ?_
      rw [getElem!_pos _ _ (by simpa using hj),getElem!_pos _ _ (by simp; omega)]
      intro e
      have h1:=List.pairwise_iff_getElem.1 hp j (j + 1) (by omega) hj (by omega)
      have e' : Z[j + 1] = Z[j]:=by simpa using e
      rw [e'] at h1
      exact absurd h1 (List.lt_irrefl _)
open Go.Maps
theorem code_at2 (A : Nat -> Addr) (x : Value) (c : Nat) (o : Option Nat) (w : World) (S : Er.Sen w A) (h : ErrAt w A x c o) (hc : c <= 10) :
    Calls Tryz.prog 65 #[x] w fun e w'=>e = .returned (.tuple #[.int .i64 (c : Nat),.int .i64 (atOf o)]) /\ Below w.heap.size w w':=by
  cases o with
  | none=>
    have h : x = errA A c:=h
    subst h
    cases c with
    | zero=>exact (Er.code_nil w).mono fun e w' h=>⟨h.1,by rw [h.2]; exact Below.refl _ _⟩
    | succ j=>exact Er.code_sen A j w S (by omega)
  | some i=>
    obtain ⟨h0,b,rfl,h1,h2⟩:=h
    obtain ⟨j,rfl⟩ : ∃ j,c = j + 1:=⟨c - 1,by omega⟩
    rw [errA_if A h0] at h2
    exact Er.code_fault b 0 i A j w S (by omega) (lt_of_cell h1) h1 h2
theorem modErr_err (p v : List UInt8) : modErr p v = 0 \/ modErr p v = 1 \/ modErr p v = 2 \/ modErr p v = 4:=by
  unfold modErr
  by_cases h0 : pathErr p = 0
  · rw [if_pos h0]
    by_cases h1 : verErr v = 0
    · rw [if_pos h1]
      cases fitsB (nAt v 0) (pathN p)
      · right; right; right; rfl
      · left; rfl
    · rw [if_neg h1]
      rcases verErr_err v with h | h | h <;> omega
  · rw [if_neg h0]; exact pathErr_err p
theorem mErr_le (m : Bm) : mErr m <= 10:=by
  have:=modErr_err m.1.data.toList m.2.data.toList
  unfold mErr; omega
theorem reqE_le (own : ByteArray) (L : List Bm) (i : Nat) : reqE own L i <= 10:=by
  unfold reqE
  split
  · omega
  · rename_i m _
    have:=mErr_le m
    unfold reqW
    repeat' split
    all_goals omega
theorem codeE_le {E : Nat -> Nat} {n : Nat} (h : ∀ i,E i <= 10) : codeE E n <= 10:=by
  cases h1 : fstE E n with
  | none=>unfold codeE; rw [h1]; simp
  | some j=>rw [codeE_some h1]; exact h j
theorem packErr_le (Z : List (List UInt8)) : packErr Z <= 10:=by
  unfold packErr
  repeat' split
  all_goals omega
theorem entR_le (e : Ent) : entR e <= 10:=by
  unfold entR
  repeat' split
  all_goals first | omega | exact codeE_le (reqE_le _ _) | exact packErr_le _
theorem entE_le (L : List Ent) (i : Nat) : entE L i <= 10:=by
  unfold entE
  split
  · omega
  · unfold entW
    repeat' split
    all_goals first | omega | exact mErr_le _ | exact entR_le _
theorem nonW_le (Q : List Raw) (m : Bm) : nonW Q m <= 10:=by
  unfold nonW
  split <;> omega
theorem nonE_le (Q : List Raw) (R : List Bm) (i : Nat) : nonE Q R i <= 10:=by
  unfold nonE
  split
  · omega
  · exact nonW_le _ _
theorem reqE2_le (Q : List Raw) (L : List Ent) (i : Nat) : reqE2 Q L i <= 10:=by
  unfold reqE2
  split
  · omega
  · exact codeE_le (nonE_le _ _)
theorem chk_le (Q : List Raw) (L : List Ent) : (chk Q L).1 <= 10:=by
  unfold chk
  repeat' split
  all_goals first | (simp only; omega) | exact entE_le _ _ | exact codeE_le (reqE2_le _ _)
theorem nonE_same {Q Q' : List Raw} (h : Q.map (fun r=>r.1) = Q'.map (fun r=>r.1)) (R : List Bm) : nonE Q R = nonE Q' R:=funext fun i=>by
  unfold nonE nonW
  split
  · rfl
  · rw [isM_same h]
theorem chk_same {Q Q' : List Raw} {L : List Ent} (h : Q.map (fun r=>r.1) = Q'.map (fun r=>r.1)) : chk Q L = chk Q' L:=by
  have hr : reqE2 Q L = reqE2 Q' L:=funext fun i=>by
    unfold reqE2
    split
    · rfl
    · rw [nonE_same h]
  unfold chk
  rw [hr]
theorem reqQ_same {Q Q' : List Raw} {L : List Ent} (h : Q.map (fun r=>r.1) = Q'.map (fun r=>r.1)) : reqQ Q L = reqQ Q' L:=funext fun m=>by
  unfold reqQ
  rw [isM_same h m]
theorem chkG_same {Q Q' : List Raw} {L : List Ent} (h : Q.map (fun r=>r.1) = Q'.map (fun r=>r.1)) (roots : List Bm) : chkG Q L roots = chkG Q' L roots:=by
  unfold chkG
  rw [chk_same h,nonE_same h]
set_option maxHeartbeats 1000000 in
theorem faulted2_any (A : Nat -> Addr) (x : Value) (r : Nat × Option Nat) (w : World) (S : Er.Sen w A) (h : ErrAt w A x r.1 r.2) (hc : r.1 <= 10) :
    Calls Tryz.prog 22 #[x,faultV r] w fun e w'=>e = .returned (.bool true) /\ Below w.heap.size w w':=by
  obtain ⟨c,o⟩:=r
  have HB0:=hid ((Below.refl w.heap.size w).alloc (Nat.le_refl _) (.cells #[.int .i64 (c : Nat),.int .i64 (atOf o)] 36))
  have HC:=hid (code_at2 A x c o _ (S.below HB0.out) (h.below HB0.out) hc)
  unfold faultV
  simp only
  generalize atOf o = y at *
  generalize (c : Int) = z at *
  have e1 : (z == z) = true:=beq_self_eq_true z
  have e2 : (y == y) = true:=beq_self_eq_true y
  clear S h hc
  go_enter Tryz.func22,Tryz.ntmps22
  go_wp2_with fail
  refine HC.out.mono ?_
  rintro e w1 ⟨rfl,hb⟩
  obtain ⟨⟨r0,r1⟩,rz⟩:=res2 (hb.mono (by simp))
  have HB:=hid (HB0.out.trans (hb.mono HB0.out.size))
  clear hb
  cases hz : (z == 0)
  all_goals
    go_wp2_with fail
    go_ret
    exact ⟨rfl,HB.out⟩
theorem chkG_le (Q : List Raw) (L : List Ent) (roots : List Bm) : (chkG Q L roots).1 <= 10:=by
  unfold chkG
  split
  · exact chk_le _ _
  · exact codeE_le (nonE_le _ _)
theorem cell_set_neD {W : World} {b o g p : Nat} {x v : Value} (h : W.cell? ⟨b,o,none⟩ = some v) (hne : b ≠ g) : (W.setCell ⟨g,p,none⟩ x).cell? ⟨b,o,none⟩ = some v:=by
  unfold World.cell? at h ⊢
  rw [Below.heap_setCell _ _ _ _ hne]
  exact h
theorem ErrAt.set2D {W : World} {A : Nat -> Addr} {y : Value} {c : Nat} {o : Option Nat} {g : Nat} {z : Value} {n : Int} {T : TypeId} (h : ErrAt W A y c o) (hg : W.heap[g]? = some (.cells #[z,.int .i64 n] T (0,0))) (a b : Value) : ErrAt ((W.setCell ⟨g,0,none⟩ a).setCell ⟨g,1,none⟩ b) A y c o:=by
  cases o with
  | none=>exact h
  | some i=>
    obtain ⟨h0,f,rfl,h1,h2⟩:=h
    have hne : f ≠ g:=fun e=>by
      subst e
      obtain ⟨_,g1,_⟩:=box_two hg
      rw [g1,errA_if A h0] at h2
      cases h2
    exact ⟨h0,f,rfl,cell_set_neD (cell_set_neD h1 hne) hne,cell_set_neD (cell_set_neD h2 hne) hne⟩
theorem box_put2D {W : World} {g : Nat} {x y : Value} {T : TypeId} (a b : Value) (h : W.heap[g]? = some (.cells #[x,y] T (0,0))) : ((W.setCell ⟨g,0,none⟩ a).setCell ⟨g,1,none⟩ b).heap[g]? = some (.cells #[a,b] T (0,0)):=
  set_block (o:=1) (x:=b) (set_block (o:=0) (x:=a) h)
theorem ms_put2D {W : World} {v : Value} {E : List Bm} {b : Nat} {n : Int} {z : Value} {T : TypeId} {x y : Value} (h : MsAt W v E) (hb : W.heap[b]? = some (.cells #[z,.int .i64 n] T (0,0))) : MsAt ((W.setCell ⟨b,0,none⟩ x).setCell ⟨b,1,none⟩ y) v E:=by
  obtain ⟨a,c,rfl,h1,h2⟩:=h
  refine ⟨a,c,rfl,h1,fun hE=>?_⟩
  obtain ⟨g,o,rfl,h3⟩:=h2 hE
  have hne : g ≠ b:=fun e=>by
    subst e
    have h0 : 0 < E.length:=List.length_pos_iff.2 hE
    obtain ⟨c0,c1⟩:=h3 0 h0
    rw [Lib.cell_of_heap hb] at c1
    have h4 : (#[z,.int .i64 n] : Array Value)[o + 0 * 2 + 1]? = some (.string E[0].2):=c1
    cases o with
    | zero=>simp at h4
    | succ o=>simp at h4
  exact ⟨g,o,rfl,fun j hj=>⟨cell_set_neD (cell_set_neD (h3 j hj).1 hne) hne,cell_set_neD (cell_set_neD (h3 j hj).2 hne) hne⟩⟩
end Ve
end Go.Proofs.YtlcffhadobhfkaaGreatDoor
