/-
  Err VerPlain Shelf ShelfM VerL FileQ
-/
import Derived.Test.YtlcffhadobhfkaaGreatDoorProg
import Derived.Stop.Asserts
import Derived.RowKitTokens
import Derived.Shelf.Strings.OnBuilder
import Derived.Shelf.Strings.Trim
import Derived.Shelf.Small.Utf8
import Derived.Shelf.Small.Bits
import Derived.Shelf.Small.Wraps
import Derived.Shelf.Strconv.Itoa3
import Derived.Shelf.Strings.Shaped
import Derived.Shelf.Sort.Plain
import Derived.Shelf.Strings.Split
import Derived.Shelf.Strings.Runes
import Derived.Shelf.Strings.AsciiSet
import Derived.Shelf.Unicode.DecodeAny
import Derived.Shelf.Slices.SearchI
import Derived.Shelf.Slices.Cells
import Derived.Shelf.Slices.In.SortNone
import Derived.Shelf.Slices.Empties2
import Derived.Deep.Onto
namespace Go.Proofs.YtlcffhadobhfkaaGreatDoor
open Go.RowKit Go.Extern.Stop Go.Stop Go.Extern
namespace Er
theorem valueOfPP (t : Addr) (w : World) : (ReflectliteValue.unpack (.iface 127 (.pointer (some t)))).run Tryz.prog w
    = .ok (.agg #[.pointer (some ⟨17,127,none⟩),.pointer (some ⟨w.heap.size,0,none⟩),.int .u64 150]) (w.alloc (.cells #[.pointer (some t)] 127)):=by kernel_rfl
theorem typePP (a : Addr) (w : World) : (ReflectliteValue.methodAny (ReflectliteValue.valueError "reflectlite.Value.Type" 0) (fun t _ _ _ => ReflectliteType.toType t) #[.agg #[.pointer (some ⟨17, 127, none⟩), .pointer (some a), .int .u64 150]]).run Tryz.prog w
    = .ok (.iface 205 (.agg #[.pointer (some ⟨17,127,none⟩)])) w:=by kernel_rfl
theorem methodKind (h : Value) (w : World) : (Go.method 448 205 (.agg #[h]) "Kind").run Tryz.prog w = .ok (348, h) w := by kernel_rfl
theorem kindPP (w : World) : ((ReflectliteType.abiMethod fun t=>(fun a : Nat=>Value.int IntKind.u8 (a : Int)) <$> Rtype.kind t) #[.pointer (some ⟨17,127,none⟩)]).run Tryz.prog w = .ok (.int .u8 22) w:=by kernel_rfl
theorem kindP (w : World) : ((ReflectliteType.abiMethod fun t=>(fun a : Nat=>Value.int IntKind.u8 (a : Int)) <$> Rtype.kind t) #[.pointer (some ⟨17,125,none⟩)]).run Tryz.prog w = .ok (.int .u8 22) w:=by kernel_rfl
theorem partsPP (a : Addr) (w : World) : (ReflectliteValue.parts (.agg #[.pointer (some ⟨17,127,none⟩),.pointer (some a),.int .u64 150])).run Tryz.prog w = .ok (some (127,a,150)) w:=by kernel_rfl
theorem isNilPP (a p : Addr) (W : World) (ha : W.cell? a = some (.pointer (some p))) :
    (ReflectliteValue.method (ReflectliteValue.valueError "reflectlite.Value.IsNil" 0) ReflectliteValue.isNil #[.agg #[.pointer (some ⟨17, 127, none⟩), .pointer (some a), .int .u64 150]]).run Tryz.prog W = .ok (.bool false) W := by
  refine (congrArg (fun s => Sem.run Tryz.prog s W) (show ReflectliteValue.method (ReflectliteValue.valueError "reflectlite.Value.IsNil" 0) ReflectliteValue.isNil #[.agg #[.pointer (some ⟨17, 127, none⟩), .pointer (some a), .int .u64 150]] = (ReflectliteValue.parts (.agg #[.pointer (some ⟨17, 127, none⟩), .pointer (some a), .int .u64 150]) >>= _) from rfl)).trans ?_
  simp only [Sem.run_bind,partsPP,Result.andThen]
  simp [ReflectliteValue.isNil,loadVar,isAgg,underlying,Tryz.underlying127,ha,Result.andThen]
theorem methodElem (h : Value) (w : World) : (Go.method 448 205 (.agg #[h]) "Elem").run Tryz.prog w = .ok (359, .agg #[h]) w := by kernel_rfl
theorem methodImplements (h : Value) (w : World) : (Go.method 448 205 (.agg #[h]) "Implements").run Tryz.prog w = .ok (360, .agg #[h]) w := by kernel_rfl
theorem methodAssignableTo (h : Value) (w : World) : (Go.method 448 205 (.agg #[h]) "AssignableTo").run Tryz.prog w = .ok (357, .agg #[h]) w := by kernel_rfl
theorem elemPP (w : World) : (ReflectliteType.method ReflectliteType.elem #[.agg #[.pointer (some ⟨17,127,none⟩)]]).run Tryz.prog w = .ok (.iface 205 (.agg #[.pointer (some ⟨17,125,none⟩)])) w:=by kernel_rfl
theorem implementsP (w : World) : (ReflectliteType.relation "Implements" ReflectliteType.implements_ #[.agg #[.pointer (some ⟨17, 125, none⟩)], .iface 205 (.agg #[.pointer (some ⟨17, 32, none⟩)])]).run Tryz.prog w = .ok (.bool true) w := by kernel_rfl
theorem typeOfP (v : Value) (w : World) : (ReflectliteType.typeOf #[.iface 125 v]).run Tryz.prog w = .ok (.iface 205 (.agg #[.pointer (some ⟨17,125,none⟩)])) w:=by kernel_rfl
theorem typeOfS (v : Value) (w : World) : (ReflectliteType.typeOf #[.iface 319 v]).run Tryz.prog w = .ok (.iface 205 (.agg #[.pointer (some ⟨17,319,none⟩)])) w:=by kernel_rfl
theorem assignableP (w : World) : (ReflectliteType.relation "AssignableTo" ReflectliteType.assignableTo #[.agg #[.pointer (some ⟨17, 125, none⟩)], .iface 205 (.agg #[.pointer (some ⟨17, 125, none⟩)])]).run Tryz.prog w = .ok (.bool true) w := by kernel_rfl
theorem assignableS (w : World) : (ReflectliteType.relation "AssignableTo" ReflectliteType.assignableTo #[.agg #[.pointer (some ⟨17, 319, none⟩)], .iface 205 (.agg #[.pointer (some ⟨17, 125, none⟩)])]).run Tryz.prog w = .ok (.bool false) w := by kernel_rfl
theorem valueOfP (e : Addr) (w : World) : (ReflectliteValue.unpack (.iface 125 (.pointer (some e)))).run Tryz.prog w
    = .ok (.agg #[.pointer (some ⟨17,125,none⟩),.pointer (some ⟨w.heap.size,0,none⟩),.int .u64 150]) (w.alloc (.cells #[.pointer (some e)] 125)):=by kernel_rfl
theorem elemOfPP (w : World) : (Rtype.elem? 127).run Tryz.prog w = .ok (some 125) w:=by kernel_rfl
theorem mkP (p : Addr) (w : World) : (ReflectliteValue.mk 125 p ReflectliteValue.flagAddr).run Tryz.prog w = .ok (.agg #[.pointer (some ⟨17,125,none⟩),.pointer (some p),.int .u64 406]) w:=by kernel_rfl
theorem elemVPP (a p : Addr) (W : World) (ha : W.cell? a = some (.pointer (some p))) :
    (ReflectliteValue.method (ReflectliteValue.valueError "reflectlite.Value.Elem" 0) ReflectliteValue.elem #[.agg #[.pointer (some ⟨17, 127, none⟩), .pointer (some a), .int .u64 150]]).run Tryz.prog W
      = .ok (.agg #[.pointer (some ⟨17,125,none⟩),.pointer (some p),.int .u64 406]) W:=by
  refine (congrArg (fun s => Sem.run Tryz.prog s W) (show ReflectliteValue.method (ReflectliteValue.valueError "reflectlite.Value.Elem" 0) ReflectliteValue.elem #[.agg #[.pointer (some ⟨17, 127, none⟩), .pointer (some a), .int .u64 150]] = (ReflectliteValue.parts (.agg #[.pointer (some ⟨17, 127, none⟩), .pointer (some a), .int .u64 150]) >>= _) from rfl)).trans ?_
  simp only [Sem.run_bind,partsPP,Result.andThen]
  simp [ReflectliteValue.elem,loadVar,isAgg,underlying,Tryz.underlying127,ha,Result.andThen,elemOfPP,mkP]
theorem partsPa (a : Addr) (w : World) : (ReflectliteValue.parts (.agg #[.pointer (some ⟨17,125,none⟩),.pointer (some a),.int .u64 406])).run Tryz.prog w = .ok (some (125,a,406)) w:=by kernel_rfl
theorem partsP (a : Addr) (w : World) : (ReflectliteValue.parts (.agg #[.pointer (some ⟨17,125,none⟩),.pointer (some a),.int .u64 150])).run Tryz.prog w = .ok (some (125,a,150)) w:=by kernel_rfl
theorem directP (w : World) : (Rtype.directlyAssignable 125 125).run Tryz.prog w = .ok true w:=by kernel_rfl
theorem setP (ta b e : Addr) (old : Value) (W : World) (hb : W.cell? b = some (.pointer (some e))) (ht : W.cell? ta = some old) (hf : W.frozen? ta = false) :
    (ReflectliteValue.set #[.agg #[.pointer (some ⟨17,125,none⟩),.pointer (some ta),.int .u64 406],.agg #[.pointer (some ⟨17,125,none⟩),.pointer (some b),.int .u64 150]]).run Tryz.prog W
      = .ok (.tuple #[]) (W.setCell ta (.pointer (some e))):=by
  refine (congrArg (fun s=>Sem.run Tryz.prog s W) (show ReflectliteValue.set #[.agg #[.pointer (some ⟨17,125,none⟩),.pointer (some ta),.int .u64 406],.agg #[.pointer (some ⟨17,125,none⟩),.pointer (some b),.int .u64 150]] = (ReflectliteValue.parts (.agg #[.pointer (some ⟨17,125,none⟩),.pointer (some ta),.int .u64 406]) >>= fun _=>(ReflectliteValue.parts (.agg #[.pointer (some ⟨17,125,none⟩),.pointer (some b),.int .u64 150]) >>= _)) from rfl)).trans ?_
  simp only [Sem.run_bind,partsPa,partsP,Result.andThen]
  simp [ReflectliteValue.flagAddr,loadVar,isAgg,underlying,Tryz.underlying125,hb,Result.andThen,directP,storeVar,Value.cells,storeCells,Addr.add]
  rw [run_store Tryz.prog W ta _ _ (by rfl)]
  simp [ht,hf]
set_option maxHeartbeats 4000000 in
theorem as_hit (e t : Addr) (old : Value) (w : World) (hg : w.cell? ⟨10,0,none⟩ = some (.iface 205 (.agg #[.pointer (some ⟨17,32,none⟩)]))) (ht0 : w.cell? t = some old) (hf0 : w.frozen? t = false) :
    Calls Tryz.prog 111 #[.iface 125 (.pointer (some e)),.iface 127 (.pointer (some t))] w fun ev w'=>ev = .returned (.bool true) /\ w' = ((((w.alloc (.cells #[.pointer (some t)] 127)).alloc (.cells #[.pointer (some ⟨17,127,none⟩),.pointer (some ⟨w.heap.size,0,none⟩),.int .u64 150] 168)).alloc (.cells #[.pointer (some ⟨17,127,none⟩),.pointer (some ⟨w.heap.size,0,none⟩),.int .u64 150] 168)).alloc (.cells #[.pointer (some e)] 125)).setCell t (.pointer (some e)):=by
  have h6:=@run_callFunc_extern Tryz.prog 151 _ (fun args=>ReflectliteValue.unpack (args.getD 0 (.tuple #[]))) Tryz.func151 (by kernel_rfl) (by kernel_rfl) (by kernel_rfl) (by kernel_rfl)
  have h7 := @run_callFunc_extern Tryz.prog 152 _ (ReflectliteValue.methodAny (ReflectliteValue.valueError "reflectlite.Value.Type" 0) (fun t _ _ _ => ReflectliteType.toType t)) Tryz.func152 (by kernel_rfl) (by kernel_rfl) (by kernel_rfl) (by kernel_rfl)
  have h8 := @run_callFunc_extern Tryz.prog 153 _ (ReflectliteValue.method (ReflectliteValue.valueError "reflectlite.Value.IsNil" 0) ReflectliteValue.isNil) Tryz.func153 (by kernel_rfl) (by kernel_rfl) (by kernel_rfl) (by kernel_rfl)
  have h27:=@run_callFunc_extern Tryz.prog 348 _ (ReflectliteType.abiMethod fun t=>do pure (.int .u8 (<- Rtype.kind t))) Tryz.func348 (by kernel_rfl) (by kernel_rfl) (by kernel_rfl) (by kernel_rfl)
  have h37:=@run_callFunc_extern Tryz.prog 359 _ (ReflectliteType.method ReflectliteType.elem) Tryz.func359 (by kernel_rfl) (by kernel_rfl) (by kernel_rfl) (by kernel_rfl)
  have h38 := @run_callFunc_extern Tryz.prog 360 _ (ReflectliteType.relation "Implements" ReflectliteType.implements_) Tryz.func360 (by kernel_rfl) (by kernel_rfl) (by kernel_rfl) (by kernel_rfl)
  have h10:=@run_callFunc_extern Tryz.prog 155 _ ReflectliteType.typeOf Tryz.func155 (by kernel_rfl) (by kernel_rfl) (by kernel_rfl) (by kernel_rfl)
  have h35 := @run_callFunc_extern Tryz.prog 357 _ (ReflectliteType.relation "AssignableTo" ReflectliteType.assignableTo) Tryz.func357 (by kernel_rfl) (by kernel_rfl) (by kernel_rfl) (by kernel_rfl)
  have h11 := @run_callFunc_extern Tryz.prog 190 _ (ReflectliteValue.method (ReflectliteValue.valueError "reflectlite.Value.Elem" 0) ReflectliteValue.elem) Tryz.func190 (by kernel_rfl) (by kernel_rfl) (by kernel_rfl) (by kernel_rfl)
  have h12:=@run_callFunc_extern Tryz.prog 191 _ ReflectliteValue.set Tryz.func191 (by kernel_rfl) (by kernel_rfl) (by kernel_rfl) (by kernel_rfl)
  have tO:=typeOfP
  have mA:=methodAssignableTo
  have a25:=assignableP
  have v25:=valueOfP
  have f6:=valueOfPP
  have f7:=typePP
  have mK:=methodKind
  have mE:=methodElem
  have mI:=methodImplements
  have k27:=kindPP
  have k25:=kindP
  have e27:=elemPP
  have i25:=implementsP
  have n8:=isNilPP ⟨w.heap.size,0,none⟩ t ((w.alloc (.cells #[.pointer (some t)] 127)).alloc (.cells #[.pointer (some ⟨17,127,none⟩),.pointer (some ⟨w.heap.size,0,none⟩),.int .u64 150] 168)) (by simp)
  have hlt : 10 < w.heap.size:=by
    rcases Nat.lt_or_ge 10 w.heap.size with h | h
    · exact h
    · simp [World.cell?,Array.getElem?_eq_none h] at hg
  have hg2 : ((w.alloc (.cells #[.pointer (some t)] 127)).alloc (.cells #[.pointer (some ⟨17,127,none⟩),.pointer (some ⟨w.heap.size,0,none⟩),.int .u64 150] 168)).cell? ⟨10,0,none⟩ = some (.iface 205 (.agg #[.pointer (some ⟨17,32,none⟩)])):=by
    rw [World.cell?_alloc_lt _ _ ⟨10,0,none⟩ (by simp; omega),World.cell?_alloc_lt _ _ ⟨10,0,none⟩ hlt]; exact hg
  have htl : t.block < w.heap.size:=by
    rcases Nat.lt_or_ge t.block w.heap.size with h | h
    · exact h
    · simp [World.cell?,Array.getElem?_eq_none h] at ht0
  have el:=elemVPP ⟨w.heap.size,0,none⟩ t (((w.alloc (.cells #[.pointer (some t)] 127)).alloc (.cells #[.pointer (some ⟨17,127,none⟩),.pointer (some ⟨w.heap.size,0,none⟩),.int .u64 150] 168)).alloc (.cells #[.pointer (some ⟨17,127,none⟩),.pointer (some ⟨w.heap.size,0,none⟩),.int .u64 150] 168)) (by rw [World.cell?_alloc_lt _ _ ⟨w.heap.size,0,none⟩ (by simp; omega)]; simp)
  have st:=setP t ⟨w.heap.size + 1 + 1 + 1,0,none⟩ e old ((((w.alloc (.cells #[.pointer (some t)] 127)).alloc (.cells #[.pointer (some ⟨17,127,none⟩),.pointer (some ⟨w.heap.size,0,none⟩),.int .u64 150] 168)).alloc (.cells #[.pointer (some ⟨17,127,none⟩),.pointer (some ⟨w.heap.size,0,none⟩),.int .u64 150] 168)).alloc (.cells #[.pointer (some e)] 125))
    (by rw [World.cell?_alloc_at _ _ _ _ (by simp)]; rfl)
    (by rw [World.cell?_alloc_lt _ _ t (by simp; omega),World.cell?_alloc_lt _ _ t (by simp; omega),World.cell?_alloc_lt _ _ t (by simp; omega),World.cell?_alloc_lt _ _ t htl]; exact ht0)
    (by rw [World.frozen?_alloc_old _ _ t (by simp; omega),World.frozen?_alloc_old _ _ t (by simp; omega),World.frozen?_alloc_old _ _ t (by simp; omega),World.frozen?_alloc_old _ _ t (Nat.ne_of_lt htl)]; exact hf0)
  go_enter Tryz.func111,Tryz.ntmps111
  go_wp2
  refine wp_loop_rounds 1 ?_
  rw [rounds_succ]
  go_wp2
  go_ret
  exact ⟨rfl,rfl⟩
theorem noAsS (v : Value) (xT : TypeId) (w : World) : (Instr.typeAssert (.iface 319 v) xT 209 true).run Tryz.prog w = .ok (.tuple #[.nilIface,.bool false]) w:=run_typeAssert_lacksB Tryz.underlying209 (by kernel_rfl) (by kernel_rfl) v xT w
theorem noUnwrapS (v : Value) (xT : TypeId) (w : World) : (Instr.typeAssert (.iface 319 v) xT 212 true).run Tryz.prog w = .ok (.tuple #[.nilIface,.bool false]) w:=run_typeAssert_lacksB Tryz.underlying212 (by kernel_rfl) (by kernel_rfl) v xT w
theorem noUnwrapsS (v : Value) (xT : TypeId) (w : World) : (Instr.typeAssert (.iface 319 v) xT 214 true).run Tryz.prog w = .ok (.tuple #[.nilIface,.bool false]) w:=run_typeAssert_lacksB Tryz.underlying214 (by kernel_rfl) (by kernel_rfl) v xT w
set_option maxHeartbeats 4000000 in
theorem as_miss (e t : Addr) (w : World) (hg : w.cell? ⟨10,0,none⟩ = some (.iface 205 (.agg #[.pointer (some ⟨17,32,none⟩)]))) :
    Calls Tryz.prog 111 #[.iface 319 (.pointer (some e)),.iface 127 (.pointer (some t))] w fun ev w'=>ev = .returned (.bool false) /\ w' = ((w.alloc (.cells #[.pointer (some t)] 127)).alloc (.cells #[.pointer (some ⟨17,127,none⟩),.pointer (some ⟨w.heap.size,0,none⟩),.int .u64 150] 168)).alloc (.cells #[.pointer (some ⟨17,127,none⟩),.pointer (some ⟨w.heap.size,0,none⟩),.int .u64 150] 168):=by
  have h6:=@run_callFunc_extern Tryz.prog 151 _ (fun args=>ReflectliteValue.unpack (args.getD 0 (.tuple #[]))) Tryz.func151 (by kernel_rfl) (by kernel_rfl) (by kernel_rfl) (by kernel_rfl)
  have h7 := @run_callFunc_extern Tryz.prog 152 _ (ReflectliteValue.methodAny (ReflectliteValue.valueError "reflectlite.Value.Type" 0) (fun t _ _ _ => ReflectliteType.toType t)) Tryz.func152 (by kernel_rfl) (by kernel_rfl) (by kernel_rfl) (by kernel_rfl)
  have h8 := @run_callFunc_extern Tryz.prog 153 _ (ReflectliteValue.method (ReflectliteValue.valueError "reflectlite.Value.IsNil" 0) ReflectliteValue.isNil) Tryz.func153 (by kernel_rfl) (by kernel_rfl) (by kernel_rfl) (by kernel_rfl)
  have h27:=@run_callFunc_extern Tryz.prog 348 _ (ReflectliteType.abiMethod fun t=>do pure (.int .u8 (<- Rtype.kind t))) Tryz.func348 (by kernel_rfl) (by kernel_rfl) (by kernel_rfl) (by kernel_rfl)
  have h37:=@run_callFunc_extern Tryz.prog 359 _ (ReflectliteType.method ReflectliteType.elem) Tryz.func359 (by kernel_rfl) (by kernel_rfl) (by kernel_rfl) (by kernel_rfl)
  have h38 := @run_callFunc_extern Tryz.prog 360 _ (ReflectliteType.relation "Implements" ReflectliteType.implements_) Tryz.func360 (by kernel_rfl) (by kernel_rfl) (by kernel_rfl) (by kernel_rfl)
  have h10:=@run_callFunc_extern Tryz.prog 155 _ ReflectliteType.typeOf Tryz.func155 (by kernel_rfl) (by kernel_rfl) (by kernel_rfl) (by kernel_rfl)
  have h35 := @run_callFunc_extern Tryz.prog 357 _ (ReflectliteType.relation "AssignableTo" ReflectliteType.assignableTo) Tryz.func357 (by kernel_rfl) (by kernel_rfl) (by kernel_rfl) (by kernel_rfl)
  have tO:=typeOfS
  have mA:=methodAssignableTo
  have a25:=assignableS
  have f6:=valueOfPP
  have f7:=typePP
  have mK:=methodKind
  have mE:=methodElem
  have mI:=methodImplements
  have k27:=kindPP
  have k25:=kindP
  have e27:=elemPP
  have i25:=implementsP
  have q1:=noAsS
  have q2:=noUnwrapS
  have q3:=noUnwrapsS
  have n8:=isNilPP ⟨w.heap.size,0,none⟩ t ((w.alloc (.cells #[.pointer (some t)] 127)).alloc (.cells #[.pointer (some ⟨17,127,none⟩),.pointer (some ⟨w.heap.size,0,none⟩),.int .u64 150] 168)) (by simp)
  have hlt : 10 < w.heap.size:=by
    rcases Nat.lt_or_ge 10 w.heap.size with h | h
    · exact h
    · simp [World.cell?,Array.getElem?_eq_none h] at hg
  have hg2 : ((w.alloc (.cells #[.pointer (some t)] 127)).alloc (.cells #[.pointer (some ⟨17,127,none⟩),.pointer (some ⟨w.heap.size,0,none⟩),.int .u64 150] 168)).cell? ⟨10,0,none⟩ = some (.iface 205 (.agg #[.pointer (some ⟨17,32,none⟩)])):=by
    rw [World.cell?_alloc_lt _ _ ⟨10,0,none⟩ (by simp; omega),World.cell?_alloc_lt _ _ ⟨10,0,none⟩ hlt]; exact hg
  go_enter Tryz.func111,Tryz.ntmps111
  go_wp2
  refine wp_loop_rounds 1 ?_
  rw [rounds_succ]
  go_wp2
  go_ret
  exact ⟨rfl,rfl⟩
end Er
end Go.Proofs.YtlcffhadobhfkaaGreatDoor
namespace Go.Proofs.YtlcffhadobhfkaaGreatDoor
namespace Ve
def digB (c : Int) : Bool:=decide (48 <= c /\ c <= 57)
def parB (c : Int) : Bool:=digB c || decide (97 <= c /\ c <= 122) || decide (65 <= c /\ c <= 90) || c == 45
def dig (c : UInt8) : Bool:=digB (c.toNat : Int)
def par (c : UInt8) : Bool:=parB (c.toNat : Int)
def allDig (l : List UInt8) : Bool:=l.all dig
def allPar (l : List UInt8) : Bool:=l.all par
def digs (l : List UInt8) : Bool:=decide (0 < l.length) && allDig l
def numTo (n : Int) (l : List UInt8) : Int:=l.foldl (fun n c=>min (n * 10 + ((c.toNat : Int) - 48)) 1000000) n
def zero (l : List UInt8) : Bool:=decide (1 < l.length) && l.headD 0 == 48
def num (l : List UInt8) : Int × Nat:=
  if !digs l || zero l then (0,1) else if numTo 0 l <= 999999 then (numTo 0 l,0) else (0,2)
def worse (a b : Nat) : Nat:=if a = 1 \/ b = 0 then a else b
def part (l : List UInt8) : Nat:=
  if l.length < 1 \/ 8 < l.length \/ allPar l = false then 1 else if digs l = false then 0 else (num l).2
def preTo (b : Nat) (ps : List (List UInt8)) : Nat:=ps.foldl (fun b p=>worse b (part p)) b
def pre (ps : List (List UInt8)) : Nat:=preTo (if 5 < ps.length then 2 else 0) ps
def bl (xs : List ByteArray) : List (List UInt8):=xs.map fun x=>x.data.toList
theorem numTo_snoc (n : Int) (l : List UInt8) (c : UInt8) : numTo n (l ++ [c]) = min (numTo n l * 10 + ((c.toNat : Int) - 48)) 1000000:=by
  simp [numTo,List.foldl_append]
theorem numTo_bd (l : List UInt8) (h : l.all dig = true) : 0 <= numTo 0 l /\ numTo 0 l <= 1000000:=by
  have key : ∀ (l : List UInt8) (n : Int),l.all dig = true -> 0 <= n -> n <= 1000000 -> 0 <= numTo n l /\ numTo n l <= 1000000:=by
    intro l
    induction l with
    | nil=>intro n _ h0 h1; exact ⟨h0,h1⟩
    | cons c r ih=>
      intro n ha h0 h1
      simp only [List.all_cons,Bool.and_eq_true] at ha
      have hc : 48 <= (c.toNat : Int):=by
        have:=ha.1
        simp only [dig,digB,decide_eq_true_eq] at this
        omega
      exact ih _ ha.2 (by dsimp only; omega) (by dsimp only; omega)
  exact key l 0 h (by omega) (by omega)
theorem num_err (l : List UInt8) : (num l).2 = 0 \/ (num l).2 = 1 \/ (num l).2 = 2:=by
  unfold num
  split
  · simp
  · split <;> simp
theorem part_err (l : List UInt8) : part l = 0 \/ part l = 1 \/ part l = 2:=by
  unfold part
  split
  · simp
  · split
    · simp
    · exact num_err l
theorem worse_err {a b : Nat} (ha : a = 0 \/ a = 1 \/ a = 2) (hb : b = 0 \/ b = 1 \/ b = 2) : worse a b = 0 \/ worse a b = 1 \/ worse a b = 2:=by
  unfold worse; split <;> assumption
theorem all_snoc (f : UInt8 -> Bool) (l : List UInt8) (c : UInt8) : (l ++ [c]).all f = (l.all f && f c):=by simp
theorem take_snoc (s : ByteArray) (k : Nat) (h : k < s.size) : s.data.toList.take (k + 1) = s.data.toList.take k ++ [s[k]]:=by
  rw [List.take_succ_eq_append_getElem (by simpa using h)]; rfl
theorem len_eq (s : ByteArray) : s.data.toList.length = s.size:=by simp
theorem preTo_snoc (b : Nat) (ps : List (List UInt8)) (p : List UInt8) : preTo b (ps ++ [p]) = worse (preTo b ps) (part p):=by simp [preTo,List.foldl_append]
theorem preTo_err (b : Nat) (ps : List (List UInt8)) (hb : b = 0 \/ b = 1 \/ b = 2) : preTo b ps = 0 \/ preTo b ps = 1 \/ preTo b ps = 2:=by
  induction ps generalizing b with
  | nil=>exact hb
  | cons p r ih=>exact ih _ (worse_err hb (part_err p))
theorem pre_err (ps : List (List UInt8)) : pre ps = 0 \/ pre ps = 1 \/ pre ps = 2:=by
  unfold pre
  refine preTo_err _ _ ?_
  split <;> simp
theorem bl_take_snoc (xs : List ByteArray) (k : Nat) (h : k < xs.length) : bl (xs.take (k + 1)) = bl (xs.take k) ++ [xs[k].data.toList]:=by
  unfold bl
  rw [List.take_succ_eq_append_getElem h,List.map_append]; rfl
theorem bl_len (xs : List ByteArray) : (bl xs).length = xs.length:=by simp [bl]
end Ve
end Go.Proofs.YtlcffhadobhfkaaGreatDoor
namespace Go.Proofs
open Go.Shelf
def Tryz.lays156_ren : Go.Shelf.Ren:=⟨fun | 156=>187 | 165=>225 | 166=>226 | 169=>227 | 240=>262 | 241=>263 | 276=>282 | 277=>283 | n=>n,fun | 31=>43 | 9=>9 | 3=>3 | 4=>4 | 0=>0 | 20=>20 | 72=>243 | 76=>41 | 70=>240 | 37=>241 | 75=>32 | 127=>265 | 164=>165 | 5=>5 | 80=>245 | n=>n,fun | n=>n⟩
theorem Tryz.lays156 : Go.Proofs.Lays.n156 Tryz.prog Tryz.lays156_ren:={
  mixed:=by kernel_rfl
  f156:=Tryz.func187.trans (congrArg some (by kernel_rfl))
  f165:=Tryz.func225.trans (congrArg some (by kernel_rfl))
  f166:=Tryz.func226.trans (congrArg some (by kernel_rfl))
  f169:=Tryz.func227.trans (congrArg some (by kernel_rfl))
  f240:=Tryz.func262.trans (congrArg some (by kernel_rfl))
  f241:=Tryz.func263.trans (congrArg some (by kernel_rfl))
  f276:=Tryz.func282.trans (congrArg some (by kernel_rfl))
  f277:=Tryz.func283.trans (congrArg some (by kernel_rfl))
  t0:=Tryz.underlying0
  a0:=Tryz.isAgg0
  z0:=Tryz.sizeOf0
  v0:=Tryz.zeroValue0
  t3:=Tryz.underlying3
  a3:=Tryz.isAgg3
  z3:=Tryz.sizeOf3
  v3:=Tryz.zeroValue3
  t4:=Tryz.underlying4
  a4:=Tryz.isAgg4
  z4:=Tryz.sizeOf4
  v4:=Tryz.zeroValue4
  t9:=Tryz.underlying9
  a9:=Tryz.isAgg9
  z9:=Tryz.sizeOf9
  v9:=Tryz.zeroValue9
  t20:=Tryz.underlying20
  a20:=Tryz.isAgg20
  z20:=Tryz.sizeOf20
  v20:=Tryz.zeroValue20
  t31:=Tryz.underlying43
  a31:=Tryz.isAgg43
  z31:=Tryz.sizeOf43
  v31:=Tryz.zeroValue43
  t37:=Tryz.underlying241
  a37:=Tryz.isAgg241
  z37:=Tryz.sizeOf241
  v37:=Tryz.zeroValue241
  t70:=Tryz.underlying240
  a70:=Tryz.isAgg240
  z70:=Tryz.sizeOf240
  v70:=Tryz.zeroValue240
  t72:=Tryz.underlying243
  a72:=Tryz.isAgg243
  z72:=Tryz.sizeOf243
  v72:=Tryz.zeroValue243
  t75:=Tryz.underlying32
  a75:=Tryz.isAgg32
  z75:=Tryz.sizeOf32
  v75:=Tryz.zeroValue32
  t76:=Tryz.underlying41
  a76:=Tryz.isAgg41
  z76:=Tryz.sizeOf41
  v76:=Tryz.zeroValue41
  t127:=Tryz.underlying265
  a127:=Tryz.isAgg265
  z127:=Tryz.sizeOf265
  v127:=Tryz.zeroValue265
  t164:=Tryz.underlying165
  a164:=Tryz.isAgg165
  z164:=Tryz.sizeOf165
  v164:=Tryz.zeroValue165 }
theorem Tryz.Builder_Extra_156 : Builder.Extra Tryz.prog Tryz.lays156_ren:={
  sizeBuilder:=by kernel_rfl
  liesBuilder:=by kernel_rfl
  t5:=Tryz.underlying5
  a5:=Tryz.isAgg5
  z5:=Tryz.sizeOf5
  v5:=Tryz.zeroValue5
  infoByte:=by kernel_rfl
  cellsByte:=by kernel_rfl
  sizeByte:=by kernel_rfl
  neB5:=by decide }
open Go.RowKit in
theorem Tryz.strings_Join (bk o c : Nat) (xs : List ByteArray) (sep : ByteArray) (w : World) (hcells : ∀ (j : Nat) x,xs[j]? = some x -> w.cell? ⟨bk,o + j,none⟩ = some (.string x)) (hbk : bk < w.heap.size) (hN : xs.length <= 140737488355328) (hcap : xs.length <= c) (hlen : (Lib.join (xs.map (·.data.toList)) sep.data.toList).length <= 140737488355328) :
    Calls Tryz.prog 187 #[.slice (some ⟨bk,o,none⟩) xs.length c,.string sep] w fun e w'=>e = .returned (.string ⟨(Lib.join (xs.map (·.data.toList)) sep.data.toList).toArray⟩) /\ Below w.heap.size w w':=Any.strings_Join Tryz.lays156 Tryz.Builder_Extra_156 bk o c xs sep w hcells hbk hN hcap hlen
def Tryz.lays106_ren : Go.Shelf.Ren:=⟨fun | 106=>159 | 213=>202 | 265=>233 | n=>n,fun | 9=>9 | 3=>3 | n=>n,fun | n=>n⟩
theorem Tryz.lays106 : Go.Proofs.Lays.n106 Tryz.prog Tryz.lays106_ren:={
  mixed:=by kernel_rfl
  f106:=Tryz.func159.trans (congrArg some (by kernel_rfl))
  f213:=Tryz.func202.trans (congrArg some (by kernel_rfl))
  f265:=Tryz.func233.trans (congrArg some (by kernel_rfl))
  t3:=Tryz.underlying3
  a3:=Tryz.isAgg3
  z3:=Tryz.sizeOf3
  v3:=Tryz.zeroValue3
  t9:=Tryz.underlying9
  a9:=Tryz.isAgg9
  z9:=Tryz.sizeOf9
  v9:=Tryz.zeroValue9 }
open Go.RowKit in
theorem Tryz.strings_Compare (a b : ByteArray) (w : World) :
    Calls Tryz.prog 159 #[.string a,.string b] w fun e w'=>e = .returned (.int .i64 (Lib.compareBytes a.data.toList b.data.toList)) /\ w' = w:=Any.strings_Compare Tryz.lays106 a b w
def Tryz.lays103_ren : Go.Shelf.Ren:=⟨fun | 103=>162 | 210=>203 | 206=>234 | n=>n,fun | 9=>9 | 4=>4 | 24=>183 | 3=>3 | n=>n,fun | n=>n⟩
theorem Tryz.lays103 : Go.Proofs.Lays.n103 Tryz.prog Tryz.lays103_ren:={
  mixed:=by kernel_rfl
  f103:=Tryz.func162.trans (congrArg some (by kernel_rfl))
  f206:=Tryz.func234.trans (congrArg some (by kernel_rfl))
  f210:=Tryz.func203.trans (congrArg some (by kernel_rfl))
  t3:=Tryz.underlying3
  a3:=Tryz.isAgg3
  z3:=Tryz.sizeOf3
  v3:=Tryz.zeroValue3
  t4:=Tryz.underlying4
  a4:=Tryz.isAgg4
  z4:=Tryz.sizeOf4
  v4:=Tryz.zeroValue4
  t9:=Tryz.underlying9
  a9:=Tryz.isAgg9
  z9:=Tryz.sizeOf9
  v9:=Tryz.zeroValue9
  t24:=Tryz.underlying183
  a24:=Tryz.isAgg183
  z24:=Tryz.sizeOf183
  v24:=Tryz.zeroValue183 }
open Go.RowKit in
theorem Tryz.strings_CutPrefix (s p : ByteArray) (w : World) :
    Calls Tryz.prog 162 #[.string s,.string p] w fun e w'=>e = .returned (.tuple #[.string ⟨(Lib.trimPrefix s.data.toList p.data.toList).toArray⟩,.bool (Lib.hasPrefix s.data.toList p.data.toList)]) /\ w' = w:=Any.strings_CutPrefix Tryz.lays103 s p w
def Tryz.lays122_ren : Go.Shelf.Ren:=⟨fun | 122=>170 | 215=>208 | n=>n,fun | 3=>3 | 4=>4 | n=>n,fun | n=>n⟩
theorem Tryz.lays122 : Go.Proofs.Lays.n122 Tryz.prog Tryz.lays122_ren:={
  mixed:=by kernel_rfl
  f122:=Tryz.func170.trans (congrArg some (by kernel_rfl))
  f215:=Tryz.func208.trans (congrArg some (by kernel_rfl))
  t3:=Tryz.underlying3
  a3:=Tryz.isAgg3
  z3:=Tryz.sizeOf3
  v3:=Tryz.zeroValue3
  t4:=Tryz.underlying4
  a4:=Tryz.isAgg4
  z4:=Tryz.sizeOf4
  v4:=Tryz.zeroValue4 }
open Go.RowKit in
theorem Tryz.cmp_Compare_int (x y : Int) (w : World) :
    Calls Tryz.prog 170 #[.int .i64 x,.int .i64 y] w fun e w'=>e = .returned (.int .i64 (Lib.compareInt x y)) /\ w' = w:=Any.cmp_Compare_int Tryz.lays122 x y w
def Tryz.lays145_ren : Go.Shelf.Ren:=⟨fun | 145=>163 | 220=>204 | 219=>235 | 217=>265 | 225=>266 | 224=>267 | 267=>268 | 266=>284 | 314=>285 | n=>n,fun | 9=>9 | 4=>4 | 59=>185 | 3=>3 | 5=>5 | 46=>181 | 146=>281 | 51=>228 | n=>n,fun | 1=>11 | n=>n⟩
theorem Tryz.lays145 : Go.Proofs.Lays.n145 Tryz.prog Tryz.lays145_ren:={
  mixed:=by kernel_rfl
  f145:=Tryz.func163.trans (congrArg some (by kernel_rfl))
  f217:=Tryz.func265.trans (congrArg some (by kernel_rfl))
  f219:=Tryz.func235.trans (congrArg some (by kernel_rfl))
  f220:=Tryz.func204.trans (congrArg some (by kernel_rfl))
  f224:=Tryz.func267.trans (congrArg some (by kernel_rfl))
  f225:=Tryz.func266.trans (congrArg some (by kernel_rfl))
  f266:=Tryz.func284.trans (congrArg some (by kernel_rfl))
  f267:=Tryz.func268.trans (congrArg some (by kernel_rfl))
  f314:=Tryz.func285.trans (congrArg some (by kernel_rfl))
  t3:=Tryz.underlying3
  a3:=Tryz.isAgg3
  z3:=Tryz.sizeOf3
  v3:=Tryz.zeroValue3
  t4:=Tryz.underlying4
  a4:=Tryz.isAgg4
  z4:=Tryz.sizeOf4
  v4:=Tryz.zeroValue4
  t5:=Tryz.underlying5
  a5:=Tryz.isAgg5
  z5:=Tryz.sizeOf5
  v5:=Tryz.zeroValue5
  t9:=Tryz.underlying9
  a9:=Tryz.isAgg9
  z9:=Tryz.sizeOf9
  v9:=Tryz.zeroValue9
  t46:=Tryz.underlying181
  a46:=Tryz.isAgg181
  z46:=Tryz.sizeOf181
  v46:=Tryz.zeroValue181
  t51:=Tryz.underlying228
  a51:=Tryz.isAgg228
  z51:=Tryz.sizeOf228
  v51:=Tryz.zeroValue228
  t59:=Tryz.underlying185
  a59:=Tryz.isAgg185
  z59:=Tryz.sizeOf185
  v59:=Tryz.zeroValue185
  t146:=Tryz.underlying281
  a146:=Tryz.isAgg281
  z146:=Tryz.sizeOf281
  v146:=Tryz.zeroValue281
  g1:=by kernel_rfl }
open Go.RowKit Go.Lib in
theorem Tryz.strings_Cut (s sep : ByteArray) (m : Int) (w : World) (hs : s.size < 4294967281) (hm : w.cell? ⟨11,0,none⟩ = some (.int .i64 m)) :
    Calls Tryz.prog 163 #[.string s,.string sep] w fun e w'=>e = .returned (.tuple #[.string ⟨(Lib.cut s.data.toList sep.data.toList).1.toArray⟩,.string ⟨(Lib.cut s.data.toList sep.data.toList).2.1.toArray⟩,.bool (Lib.cut s.data.toList sep.data.toList).2.2]) /\ ∃ n,w' = w.drewN n:=Any.strings_Cut Tryz.lays145 s sep m w hs hm
def Tryz.lays146_ren : Go.Shelf.Ren:=⟨fun | 146=>165 | 221=>206 | 268=>237 | 138=>238 | 143=>239 | 195=>269 | 197=>270 | 218=>271 | 219=>235 | 260=>286 | 217=>265 | 225=>266 | 224=>267 | 267=>268 | 266=>284 | 314=>285 | n=>n,fun | 9=>9 | 31=>43 | 3=>3 | 4=>4 | 0=>0 | 105=>270 | 21=>21 | 5=>5 | 46=>181 | 119=>288 | 139=>291 | 138=>290 | 146=>281 | 51=>228 | n=>n,fun | 1=>11 | 3=>12 | 4=>13 | n=>n⟩
theorem Tryz.lays146 : Go.Proofs.Lays.n146 Tryz.prog Tryz.lays146_ren:={
  mixed:=by kernel_rfl
  f138:=Tryz.func238.trans (congrArg some (by kernel_rfl))
  f143:=Tryz.func239.trans (congrArg some (by kernel_rfl))
  f146:=Tryz.func165.trans (congrArg some (by kernel_rfl))
  f195:=Tryz.func269.trans (congrArg some (by kernel_rfl))
  f197:=Tryz.func270.trans (congrArg some (by kernel_rfl))
  f217:=Tryz.func265.trans (congrArg some (by kernel_rfl))
  f218:=Tryz.func271.trans (congrArg some (by kernel_rfl))
  f219:=Tryz.func235.trans (congrArg some (by kernel_rfl))
  f221:=Tryz.func206.trans (congrArg some (by kernel_rfl))
  f224:=Tryz.func267.trans (congrArg some (by kernel_rfl))
  f225:=Tryz.func266.trans (congrArg some (by kernel_rfl))
  f260:=Tryz.func286.trans (congrArg some (by kernel_rfl))
  f266:=Tryz.func284.trans (congrArg some (by kernel_rfl))
  f267:=Tryz.func268.trans (congrArg some (by kernel_rfl))
  f268:=Tryz.func237.trans (congrArg some (by kernel_rfl))
  f314:=Tryz.func285.trans (congrArg some (by kernel_rfl))
  t0:=Tryz.underlying0
  a0:=Tryz.isAgg0
  z0:=Tryz.sizeOf0
  v0:=Tryz.zeroValue0
  t3:=Tryz.underlying3
  a3:=Tryz.isAgg3
  z3:=Tryz.sizeOf3
  v3:=Tryz.zeroValue3
  t4:=Tryz.underlying4
  a4:=Tryz.isAgg4
  z4:=Tryz.sizeOf4
  v4:=Tryz.zeroValue4
  t5:=Tryz.underlying5
  a5:=Tryz.isAgg5
  z5:=Tryz.sizeOf5
  v5:=Tryz.zeroValue5
  t9:=Tryz.underlying9
  a9:=Tryz.isAgg9
  z9:=Tryz.sizeOf9
  v9:=Tryz.zeroValue9
  t21:=Tryz.underlying21
  a21:=Tryz.isAgg21
  z21:=Tryz.sizeOf21
  v21:=Tryz.zeroValue21
  t31:=Tryz.underlying43
  a31:=Tryz.isAgg43
  z31:=Tryz.sizeOf43
  v31:=Tryz.zeroValue43
  t46:=Tryz.underlying181
  a46:=Tryz.isAgg181
  z46:=Tryz.sizeOf181
  v46:=Tryz.zeroValue181
  t51:=Tryz.underlying228
  a51:=Tryz.isAgg228
  z51:=Tryz.sizeOf228
  v51:=Tryz.zeroValue228
  t105:=Tryz.underlying270
  a105:=Tryz.isAgg270
  z105:=Tryz.sizeOf270
  v105:=Tryz.zeroValue270
  t119:=Tryz.underlying288
  a119:=Tryz.isAgg288
  z119:=Tryz.sizeOf288
  t138:=Tryz.underlying290
  a138:=Tryz.isAgg290
  z138:=Tryz.sizeOf290
  v138:=Tryz.zeroValue290
  t139:=Tryz.underlying291
  a139:=Tryz.isAgg291
  z139:=Tryz.sizeOf291
  v139:=Tryz.zeroValue291
  t146:=Tryz.underlying281
  a146:=Tryz.isAgg281
  z146:=Tryz.sizeOf281
  v146:=Tryz.zeroValue281
  g1:=by kernel_rfl
  g3:=by kernel_rfl
  g4:=by kernel_rfl }
open Go.RowKit Go.Lib in
theorem Tryz.strings_Split (s sep : ByteArray) (m : Int) (w : World) (hs : s.size < 4294967281) (hm : w.cell? ⟨11,0,none⟩ = some (.int .i64 m)) (h1 : 1 <= sep.size) :
    Calls Tryz.prog 165 #[.string s,.string sep] w fun e w'=>
      e = .returned (.slice (some ⟨w.heap.size,0,none⟩) (Lib.countB s sep + 1) (Lib.countB s sep + 1)) /\ w' = w.alloc (.cells ((Lib.splitB sep 0 (Lib.countB s sep) s).map Value.string).toArray 9):=Any.strings_Split Tryz.lays146 (by kernel_rfl) s sep m w hs hm h1
def Tryz.lays160_ren : Go.Shelf.Ren:=⟨fun | 160=>219 | 232=>253 | 231=>252 | 227=>254 | 234=>256 | 233=>255 | 236=>258 | 235=>257 | 228=>279 | 271=>281 | 151=>280 | 197=>270 | 120=>293 | 152=>292 | 260=>286 | 137=>312 | 119=>313 | 224=>267 | 225=>266 | 217=>265 | 266=>284 | n=>n,fun | 9=>9 | 4=>4 | 3=>3 | 5=>5 | 117=>261 | 116=>260 | 0=>0 | 124=>264 | 21=>21 | 105=>270 | 46=>181 | 119=>288 | 139=>291 | 138=>290 | n=>n,fun | 3=>12 | 4=>13 | n=>n⟩
theorem Tryz.lays160 : Go.Proofs.Lays.n160 Tryz.prog Tryz.lays160_ren:={
  mixed:=by kernel_rfl
  f119:=Tryz.func313.trans (congrArg some (by kernel_rfl))
  f120:=Tryz.func293.trans (congrArg some (by kernel_rfl))
  f137:=Tryz.func312.trans (congrArg some (by kernel_rfl))
  f151:=Tryz.func280.trans (congrArg some (by kernel_rfl))
  f152:=Tryz.func292.trans (congrArg some (by kernel_rfl))
  f160:=Tryz.func219.trans (congrArg some (by kernel_rfl))
  f197:=Tryz.func270.trans (congrArg some (by kernel_rfl))
  f217:=Tryz.func265.trans (congrArg some (by kernel_rfl))
  f224:=Tryz.func267.trans (congrArg some (by kernel_rfl))
  f225:=Tryz.func266.trans (congrArg some (by kernel_rfl))
  f227:=Tryz.func254.trans (congrArg some (by kernel_rfl))
  f228:=Tryz.func279.trans (congrArg some (by kernel_rfl))
  f231:=Tryz.func252.trans (congrArg some (by kernel_rfl))
  f232:=Tryz.func253.trans (congrArg some (by kernel_rfl))
  f233:=Tryz.func255.trans (congrArg some (by kernel_rfl))
  f234:=Tryz.func256.trans (congrArg some (by kernel_rfl))
  f235:=Tryz.func257.trans (congrArg some (by kernel_rfl))
  f236:=Tryz.func258.trans (congrArg some (by kernel_rfl))
  f260:=Tryz.func286.trans (congrArg some (by kernel_rfl))
  f266:=Tryz.func284.trans (congrArg some (by kernel_rfl))
  f271:=Tryz.func281.trans (congrArg some (by kernel_rfl))
  t0:=Tryz.underlying0
  a0:=Tryz.isAgg0
  z0:=Tryz.sizeOf0
  v0:=Tryz.zeroValue0
  t3:=Tryz.underlying3
  a3:=Tryz.isAgg3
  z3:=Tryz.sizeOf3
  v3:=Tryz.zeroValue3
  t4:=Tryz.underlying4
  a4:=Tryz.isAgg4
  z4:=Tryz.sizeOf4
  v4:=Tryz.zeroValue4
  t5:=Tryz.underlying5
  a5:=Tryz.isAgg5
  z5:=Tryz.sizeOf5
  v5:=Tryz.zeroValue5
  t9:=Tryz.underlying9
  a9:=Tryz.isAgg9
  z9:=Tryz.sizeOf9
  v9:=Tryz.zeroValue9
  t21:=Tryz.underlying21
  a21:=Tryz.isAgg21
  z21:=Tryz.sizeOf21
  v21:=Tryz.zeroValue21
  t46:=Tryz.underlying181
  a46:=Tryz.isAgg181
  z46:=Tryz.sizeOf181
  v46:=Tryz.zeroValue181
  t105:=Tryz.underlying270
  a105:=Tryz.isAgg270
  z105:=Tryz.sizeOf270
  v105:=Tryz.zeroValue270
  t116:=Tryz.underlying260
  a116:=Tryz.isAgg260
  z116:=Tryz.sizeOf260
  t117:=Tryz.underlying261
  a117:=Tryz.isAgg261
  z117:=Tryz.sizeOf261
  v117:=Tryz.zeroValue261
  t119:=Tryz.underlying288
  a119:=Tryz.isAgg288
  z119:=Tryz.sizeOf288
  t124:=Tryz.underlying264
  a124:=Tryz.isAgg264
  z124:=Tryz.sizeOf264
  v124:=Tryz.zeroValue264
  t138:=Tryz.underlying290
  a138:=Tryz.isAgg290
  z138:=Tryz.sizeOf290
  v138:=Tryz.zeroValue290
  t139:=Tryz.underlying291
  a139:=Tryz.isAgg291
  z139:=Tryz.sizeOf291
  v139:=Tryz.zeroValue291
  g3:=by kernel_rfl
  g4:=by kernel_rfl }
open Go.RowKit in
theorem Tryz.strings_Trim_one (s : ByteArray) (c : UInt8) (hc : c.toNat < 128) (w : World) (hs : s.size <= 9223372036854775807) :
    Calls Tryz.prog 219 #[.string s,.string ⟨#[c]⟩] w fun e w'=>e = .returned (.string ⟨(Lib.trimB s.data.toList c).toArray⟩) /\ (w' = w \/ w' = w.drew):=Any.strings_Trim_one Tryz.lays160 s c hc w hs
def Tryz.lays144_ren : Go.Shelf.Ren:=⟨fun | 144=>220 | 143=>239 | 219=>235 | 217=>265 | 225=>266 | 224=>267 | 267=>268 | 266=>284 | 314=>285 | n=>n,fun | 9=>9 | 4=>4 | 3=>3 | 5=>5 | 46=>181 | 146=>281 | 51=>228 | n=>n,fun | 1=>11 | n=>n⟩
theorem Tryz.lays144 : Go.Proofs.Lays.n144 Tryz.prog Tryz.lays144_ren:={
  mixed:=by kernel_rfl
  f143:=Tryz.func239.trans (congrArg some (by kernel_rfl))
  f144:=Tryz.func220.trans (congrArg some (by kernel_rfl))
  f217:=Tryz.func265.trans (congrArg some (by kernel_rfl))
  f219:=Tryz.func235.trans (congrArg some (by kernel_rfl))
  f224:=Tryz.func267.trans (congrArg some (by kernel_rfl))
  f225:=Tryz.func266.trans (congrArg some (by kernel_rfl))
  f266:=Tryz.func284.trans (congrArg some (by kernel_rfl))
  f267:=Tryz.func268.trans (congrArg some (by kernel_rfl))
  f314:=Tryz.func285.trans (congrArg some (by kernel_rfl))
  t3:=Tryz.underlying3
  a3:=Tryz.isAgg3
  z3:=Tryz.sizeOf3
  v3:=Tryz.zeroValue3
  t4:=Tryz.underlying4
  a4:=Tryz.isAgg4
  z4:=Tryz.sizeOf4
  v4:=Tryz.zeroValue4
  t5:=Tryz.underlying5
  a5:=Tryz.isAgg5
  z5:=Tryz.sizeOf5
  v5:=Tryz.zeroValue5
  t9:=Tryz.underlying9
  a9:=Tryz.isAgg9
  z9:=Tryz.sizeOf9
  v9:=Tryz.zeroValue9
  t46:=Tryz.underlying181
  a46:=Tryz.isAgg181
  z46:=Tryz.sizeOf181
  v46:=Tryz.zeroValue181
  t51:=Tryz.underlying228
  a51:=Tryz.isAgg228
  z51:=Tryz.sizeOf228
  v51:=Tryz.zeroValue228
  t146:=Tryz.underlying281
  a146:=Tryz.isAgg281
  z146:=Tryz.sizeOf281
  v146:=Tryz.zeroValue281
  g1:=by kernel_rfl }
open Go.RowKit Go.Lib in
theorem Tryz.strings_Contains (s sub : ByteArray) (m : Int) (w : World) (hs : s.size < 4294967281) (hm : w.cell? ⟨11,0,none⟩ = some (.int .i64 m)) :
    Calls Tryz.prog 220 #[.string s,.string sub] w fun e w'=>e = .returned (.bool (Lib.contains s.data.toList sub.data.toList)) /\ w' = w:=Any.strings_Contains Tryz.lays144 s sub m w hs hm
def Tryz.lays101_ren : Go.Shelf.Ren:=⟨fun | 101=>224 | 208=>261 | 206=>234 | n=>n,fun | 9=>9 | 4=>4 | 3=>3 | n=>n,fun | n=>n⟩
theorem Tryz.lays101 : Go.Proofs.Lays.n101 Tryz.prog Tryz.lays101_ren:={
  mixed:=by kernel_rfl
  f101:=Tryz.func224.trans (congrArg some (by kernel_rfl))
  f206:=Tryz.func234.trans (congrArg some (by kernel_rfl))
  f208:=Tryz.func261.trans (congrArg some (by kernel_rfl))
  t3:=Tryz.underlying3
  a3:=Tryz.isAgg3
  z3:=Tryz.sizeOf3
  v3:=Tryz.zeroValue3
  t4:=Tryz.underlying4
  a4:=Tryz.isAgg4
  z4:=Tryz.sizeOf4
  v4:=Tryz.zeroValue4
  t9:=Tryz.underlying9
  a9:=Tryz.isAgg9
  z9:=Tryz.sizeOf9
  v9:=Tryz.zeroValue9 }
open Go.RowKit Go.Lib in
theorem Tryz.strings_TrimPrefix (s p : ByteArray) (w : World) :
    Calls Tryz.prog 224 #[.string s,.string p] w fun e w'=>e = .returned (.string ⟨(Lib.trimPrefix s.data.toList p.data.toList).toArray⟩) /\ w' = w:=Any.strings_TrimPrefix Tryz.lays101 s p w
end Go.Proofs
namespace Go.Proofs.YtlcffhadobhfkaaGreatDoor
open Go.RowKit
namespace Ve
theorem three (w : World) (A B C : Array Value) (T U : TypeId) (j : Nat) :
    (((w.alloc (.cells A T)).alloc (.cells B T)).alloc (.cells C U)).cell? ⟨w.heap.size,j,none⟩ = A[j]? /\ (((w.alloc (.cells A T)).alloc (.cells B T)).alloc (.cells C U)).cell? ⟨w.heap.size + 1,j,none⟩ = B[j]? /\
    (((w.alloc (.cells A T)).alloc (.cells B T)).alloc (.cells C U)).cell? ⟨w.heap.size + 1 + 1,j,none⟩ = C[j]?:=by
  refine ⟨?_,?_,?_⟩
  · rw [World.cell?_alloc_lt _ _ _ (by simp; omega),World.cell?_alloc_lt _ _ _ (by simp),World.cell?_alloc_at _ _ _ _ rfl]
  · rw [World.cell?_alloc_lt _ _ _ (by simp),World.cell?_alloc_at _ _ _ _ (by simp)]
  · rw [World.cell?_alloc_at _ _ _ _ (by simp)]
abbrev Bm:=ByteArray × ByteArray
end Ve
end Go.Proofs.YtlcffhadobhfkaaGreatDoor
