
import Derived.Below
import Derived.Test.YtjbmjnbkibmkpaaGreatDoorProg
import Derived.WalkKit
import Derived.LaidEql
import Derived.Stop.Asserts
import Derived.RowKitTokens
import Derived.Deep.QuietTactic
import Derived.BigQuiet
import Derived.Lib.Split
import Derived.Lib.SplitLaws
import Derived.Lib.CutLaws
import Derived.Lib.IndexMore
import Derived.Shelf.Strings.Builder1
import Derived.Shelf.Strings.Builder2
import Derived.Shelf.Strings.OnBuilder
import Derived.Shelf.Strings.Trim
import Derived.Shelf.Small.Utf8
import Derived.Shelf.Small.Bits
import Derived.Shelf.Small.Strs
import Derived.Shelf.Small.Wraps
import Derived.Shelf.Strings.BuilderF
import Derived.Shelf.Strings.BuilderK
import Derived.Shelf.Strconv.Itoa0
import Derived.Shelf.Strconv.Itoa1
import Derived.Shelf.LaysM
import Derived.Shelf.Strconv.Itoa2
import Derived.Shelf.Strconv.Itoa3
import Derived.Shelf.Strings.Search1
import Derived.Shelf.Strings.Search2
import Derived.Shelf.Strings.Search3
import Derived.Shelf.Strings.Cut
import Derived.Shelf.Strings.Count
import Derived.Shelf.Strings.Shaped
import Derived.Shelf.Sort.Plain
import Derived.Shelf.Strings.Prefix
import Derived.Shelf.Strings.Split
import Derived.Shelf.Strings.Replace
import Derived.Shelf.Strings.Runes
import Derived.Shelf.Strings.AsciiSet
import Derived.Shelf.Unicode.DecodeSlow
import Derived.Shelf.Unicode.DecodeAny
import Derived.Shelf.Slices.Equal
import Derived.Shelf.Slices.CompactS
import Derived.Ground.Names2Prog
import Derived.Shelf.Slices.SearchI
import Derived.Shelf.Slices.Cells
import Derived.Shelf.Slices.In.SortNone
import Derived.Shelf.Slices.Empties2
namespace Go.Proofs.YtjbmjnbkibmkpaaGreatDoor
namespace Ve
def digB (c : Int) : Bool:=decide (48 <= c /\ c <= 57)
def parB (c : Int) : Bool:=digB c || decide (97 <= c /\ c <= 122) || decide (65 <= c /\ c <= 90) || c == 45
def dig (c : UInt8) : Bool:=digB (c.toNat : Int)
def par (c : UInt8) : Bool:=parB (c.toNat : Int)
def allDig (l : List UInt8) : Bool:=l.all dig
def allPar (l : List UInt8) : Bool:=l.all par
def digs (l : List UInt8) : Bool:=decide (0 < l.length) && allDig l
def numTo (n : Int) (l : List UInt8) : Int:=l.foldl (fun n c=>min (n * 10 + ((c.toNat : Int) - 48)) 1000000) n
def zero (l : List UInt8) : Bool:=decide (1 < l.length) && l.headD 0 == 48
def num (l : List UInt8) : Int × Nat:=
 if !digs l || zero l then (0,1) else if numTo 0 l <= 999999 then (numTo 0 l,0) else (0,2)
def worse (a b : Nat) : Nat:=if a = 1 \/ b = 0 then a else b
def part (l : List UInt8) : Nat:=
 if l.length < 1 \/ 8 < l.length \/ allPar l = false then 1 else if digs l = false then 0 else (num l).2
def preTo (b : Nat) (ps : List (List UInt8)) : Nat:=ps.foldl (fun b p=>worse b (part p)) b
def pre (ps : List (List UInt8)) : Nat:=preTo (if 5 < ps.length then 2 else 0) ps
def bl (xs : List ByteArray) : List (List UInt8):=xs.map fun x=>x.data.toList
theorem numTo_snoc (n : Int) (l : List UInt8) (c : UInt8) : numTo n (l ++ [c]) = min (numTo n l * 10 + ((c.toNat : Int) - 48)) 1000000:=by
 simp [numTo,List.foldl_append]
theorem numTo_bd (l : List UInt8) (h : l.all dig = true) : 0 <= numTo 0 l /\ numTo 0 l <= 1000000:=by
 have key : ∀ (l : List UInt8) (n : Int),l.all dig = true -> 0 <= n -> n <= 1000000 -> 0 <= numTo n l /\ numTo n l <= 1000000:=by
  intro l
  induction l with
  | nil=>intro n _ h0 h1; exact ⟨h0,h1⟩
  | cons c r ih=>
   intro n ha h0 h1
   simp only [List.all_cons,Bool.and_eq_true] at ha
   have hc : 48 <= (c.toNat : Int):=by
    have:=ha.1
    simp only [dig,digB,decide_eq_true_eq] at this
    omega
   exact ih _ ha.2 (by dsimp only; omega) (by dsimp only; omega)
 exact key l 0 h (by omega) (by omega)
theorem num_err (l : List UInt8) : (num l).2 = 0 \/ (num l).2 = 1 \/ (num l).2 = 2:=by
 unfold num
 split
 ·simp
 ·split <;> simp
theorem part_err (l : List UInt8) : part l = 0 \/ part l = 1 \/ part l = 2:=by
 unfold part
 split
 ·simp
 ·split
  ·simp
  ·exact num_err l
theorem worse_err {a b : Nat} (ha : a = 0 \/ a = 1 \/ a = 2) (hb : b = 0 \/ b = 1 \/ b = 2) : worse a b = 0 \/ worse a b = 1 \/ worse a b = 2:=by
 unfold worse; split <;> assumption
theorem all_snoc (f : UInt8 -> Bool) (l : List UInt8) (c : UInt8) : (l ++ [c]).all f = (l.all f && f c):=by simp
theorem take_snoc (s : ByteArray) (k : Nat) (h : k < s.size) : s.data.toList.take (k + 1) = s.data.toList.take k ++ [s[k]]:=by
 rw [List.take_succ_eq_append_getElem (by simpa using h)]; rfl
theorem len_eq (s : ByteArray) : s.data.toList.length = s.size:=by simp
theorem preTo_snoc (b : Nat) (ps : List (List UInt8)) (p : List UInt8) : preTo b (ps ++ [p]) = worse (preTo b ps) (part p):=by simp [preTo,List.foldl_append]
theorem preTo_err (b : Nat) (ps : List (List UInt8)) (hb : b = 0 \/ b = 1 \/ b = 2) : preTo b ps = 0 \/ preTo b ps = 1 \/ preTo b ps = 2:=by
 induction ps generalizing b with
 | nil=>exact hb
 | cons p r ih=>exact ih _ (worse_err hb (part_err p))
theorem pre_err (ps : List (List UInt8)) : pre ps = 0 \/ pre ps = 1 \/ pre ps = 2:=by
 unfold pre
 refine preTo_err _ _ ?_
 split <;> simp
theorem bl_take_snoc (xs : List ByteArray) (k : Nat) (h : k < xs.length) : bl (xs.take (k + 1)) = bl (xs.take k) ++ [xs[k].data.toList]:=by
 unfold bl
 rw [List.take_succ_eq_append_getElem h,List.map_append]; rfl
theorem bl_len (xs : List ByteArray) : (bl xs).length = xs.length:=by simp [bl]
end Ve
end Go.Proofs.YtjbmjnbkibmkpaaGreatDoor


namespace Go.Proofs.YtjbmjnbkibmkpaaGreatDoor
open Go.RowKit
namespace Ve
theorem hid {p : Prop} (h : p) : Hid p:=h
theorem ret_bool {a b : Bool} (h : a = b) : Ending.returned (.bool a) = .returned (.bool b):=by rw [h]
theorem ret_int {k : IntKind} {a b : Int} (h : a = b) : Ending.returned (.int k a) = .returned (.int k b):=by rw [h]
theorem isDigit_any (c : Int) (w : World) (h0 : 0 <= c) (h1 : c <= 255) :
  Calls Tryz.prog 212 #[.int .u8 c] w fun e w'=>e = .returned (.bool (digB c)) /\ w' = w:=by
 by_cases a : 48 <= c
 all_goals
  go_enter Tryz.func212,Tryz.ntmps212
  go_wp2
  go_ret
  exact ⟨ret_bool (by unfold digB; rw [Bool.eq_iff_iff]; simp <;> omega),rfl⟩
theorem small_any (c : Int) (w : World) (h0 : 0 <= c) (h1 : c <= 255) :
  Calls Tryz.prog 213 #[.int .u8 c] w fun e w'=>e = .returned (.bool (decide (97 <= c /\ c <= 122))) /\ w' = w:=by
 by_cases a : 97 <= c
 all_goals
  go_enter Tryz.func213,Tryz.ntmps213
  go_wp2
  go_ret
  exact ⟨ret_bool (by rw [Bool.eq_iff_iff]; simp <;> omega),rfl⟩
theorem inPart_any (c : Int) (w : World) (h0 : 0 <= c) (h1 : c <= 255) :
  Calls Tryz.prog 165 #[.int .u8 c] w fun e w'=>e = .returned (.bool (parB c)) /\ w' = w:=by
 have HP:=hid (show parB c = (digB c || decide (97 <= c /\ c <= 122) || decide (65 <= c /\ c <= 90) || c == 45) from rfl)
 have HC:=hid (isDigit_any c w h0 h1)
 have HS:=hid (small_any c w h0 h1)
 cases hd : digB c
 ·rw [hd] at HC HP
  clear hd
  cases hs : decide (97 <= c /\ c <= 122)
  ·rw [hs] at HS HP
   clear hs
   by_cases b1 : 65 <= c
   all_goals by_cases b2 : c <= 90
   all_goals try (exfalso; omega)
   all_goals
    go_enter Tryz.func165,Tryz.ntmps165
    go_wp2_with fail
    refine HC.out.mono ?_
    rintro e w' ⟨rfl,rfl⟩
    go_wp2_with fail
    refine HS.out.mono ?_
    rintro e w' ⟨rfl,rfl⟩
    go_wp2_with fail
   all_goals
    go_ret
    exact ⟨ret_bool (by rw [HP.out,Bool.eq_iff_iff]; simp <;> omega),rfl⟩
  ·rw [hs] at HS HP
   clear hs
   go_enter Tryz.func165,Tryz.ntmps165
   go_wp2_with fail
   refine HC.out.mono ?_
   rintro e w' ⟨rfl,rfl⟩
   go_wp2_with fail
   refine HS.out.mono ?_
   rintro e w' ⟨rfl,rfl⟩
   go_wp2_with fail
   go_ret
   exact ⟨ret_bool (by rw [HP.out]; rfl),rfl⟩
 ·rw [hd] at HC HP
  clear hd
  go_enter Tryz.func165,Tryz.ntmps165
  go_wp2_with fail
  refine HC.out.mono ?_
  rintro e w' ⟨rfl,rfl⟩
  go_wp2_with fail
  go_ret
  exact ⟨ret_bool (by rw [HP.out]; rfl),rfl⟩
set_option maxHeartbeats 400000 in
theorem every_dig (s : ByteArray) (w : World) (hs : s.size <= maxLen) :
  Calls Tryz.prog 164 #[.string s,.func (.func 212) #[] #[]] w fun e w'=>e = .returned (.bool (allDig s.data.toList)) /\ w' = w:=by
 unfold maxLen at hs
 go_enter Tryz.func164,Tryz.ntmps164
 go_wp2_with fail
 go_loop [8] (fun i=>∃ k : Nat,k <= s.size /\ i = .int .i64 k /\ Hid ((s.data.toList.take k).all dig = true)) (fun i=>s.size - (intOf i).toNat)
 case atStart=>exact ⟨0,Nat.zero_le _,rfl,hid rfl⟩
 case round=>
  obtain ⟨k,hk,rfl,HA⟩:=hrel
  by_cases hlt : k < s.size
  ·have HS:=hid (all_snoc dig (s.data.toList.take k) s[k])
   rw [<- take_snoc s k hlt,HA.out,Bool.true_and] at HS
   cases hd : dig s[k]
   ·rw [hd] at HS
    have HX:=hid (show allDig s.data.toList = false by
     have h2 : allDig s.data.toList = ((s.data.toList.take (k + 1)).all dig && (s.data.toList.drop (k + 1)).all dig):=by rw [<- List.all_append,List.take_append_drop]; rfl
     rw [h2,HS.out]; rfl)
    have HC:=hid (fun W=>isDigit_any (s[k].toNat : Int) W (by omega) (by have:=s[k].toNat_lt; omega))
    have HD:=hid (show digB (s[k].toNat : Int) = false from hd)
    clear hd
    go_wp2_with fail
    refine (HC.out _).mono ?_
    rintro e w' ⟨rfl,rfl⟩
    rw [HD.out]
    go_wp2_with fail
    go_ret
    exact ⟨ret_bool HX.out.symm,rfl⟩
   ·rw [hd] at HS
    have HC:=hid (fun W=>isDigit_any (s[k].toNat : Int) W (by omega) (by have:=s[k].toNat_lt; omega))
    have HD:=hid (show digB (s[k].toNat : Int) = true from hd)
    clear hd
    go_wp2_with fail
    refine (HC.out _).mono ?_
    rintro e w' ⟨rfl,rfl⟩
    rw [HD.out]
    go_wp2_with fail
    go_round
    case rel=>exact ⟨k + 1,by omega,by go_num,HS⟩
    case measure=>simp [intOf]; omega
  ·have HX:=hid (show allDig s.data.toList = true by
    have h2 : s.data.toList.take k = s.data.toList:=List.take_of_length_le (by simp; omega)
    have:=HA.out; rw [h2] at this; exact this)
   go_wp2_with fail
   go_ret
   exact ⟨ret_bool HX.out.symm,rfl⟩
set_option maxHeartbeats 400000 in
theorem every_par (s : ByteArray) (w : World) (hs : s.size <= maxLen) :
  Calls Tryz.prog 164 #[.string s,.func (.func 165) #[] #[]] w fun e w'=>e = .returned (.bool (allPar s.data.toList)) /\ w' = w:=by
 unfold maxLen at hs
 go_enter Tryz.func164,Tryz.ntmps164
 go_wp2_with fail
 go_loop [8] (fun i=>∃ k : Nat,k <= s.size /\ i = .int .i64 k /\ Hid ((s.data.toList.take k).all par = true)) (fun i=>s.size - (intOf i).toNat)
 case atStart=>exact ⟨0,Nat.zero_le _,rfl,hid rfl⟩
 case round=>
  obtain ⟨k,hk,rfl,HA⟩:=hrel
  by_cases hlt : k < s.size
  ·have HS:=hid (all_snoc par (s.data.toList.take k) s[k])
   rw [<- take_snoc s k hlt,HA.out,Bool.true_and] at HS
   cases hd : par s[k]
   ·rw [hd] at HS
    have HX:=hid (show allPar s.data.toList = false by
     have h2 : allPar s.data.toList = ((s.data.toList.take (k + 1)).all par && (s.data.toList.drop (k + 1)).all par):=by rw [<- List.all_append,List.take_append_drop]; rfl
     rw [h2,HS.out]; rfl)
    have HC:=hid (fun W=>inPart_any (s[k].toNat : Int) W (by omega) (by have:=s[k].toNat_lt; omega))
    have HD:=hid (show parB (s[k].toNat : Int) = false from hd)
    clear hd
    go_wp2_with fail
    refine (HC.out _).mono ?_
    rintro e w' ⟨rfl,rfl⟩
    rw [HD.out]
    go_wp2_with fail
    go_ret
    exact ⟨ret_bool HX.out.symm,rfl⟩
   ·rw [hd] at HS
    have HC:=hid (fun W=>inPart_any (s[k].toNat : Int) W (by omega) (by have:=s[k].toNat_lt; omega))
    have HD:=hid (show parB (s[k].toNat : Int) = true from hd)
    clear hd
    go_wp2_with fail
    refine (HC.out _).mono ?_
    rintro e w' ⟨rfl,rfl⟩
    rw [HD.out]
    go_wp2_with fail
    go_round
    case rel=>exact ⟨k + 1,by omega,by go_num,HS⟩
    case measure=>simp [intOf]; omega
  ·have HX:=hid (show allPar s.data.toList = true by
    have h2 : s.data.toList.take k = s.data.toList:=List.take_of_length_le (by simp; omega)
    have:=HA.out; rw [h2] at this; exact this)
   go_wp2_with fail
   go_ret
   exact ⟨ret_bool HX.out.symm,rfl⟩
end Ve
end Go.Proofs.YtjbmjnbkibmkpaaGreatDoor


namespace Go.Proofs.YtjbmjnbkibmkpaaGreatDoor
open Go.RowKit
namespace Ve
structure Vs (w : World) (aT aB : Addr) (m : Int) : Prop where
 t : w.cell? ⟨1,0,none⟩ = some (.iface 311 (.pointer (some aT)))
 b : w.cell? ⟨9,0,none⟩ = some (.iface 311 (.pointer (some aB)))
 bt : ∃ c t,w.heap[aT.block]? = some (.cells c t (0,0))
 bb : ∃ c t,w.heap[aB.block]? = some (.cells c t (0,0))
 ne : aT ≠ aB
 ml : w.cell? ⟨8,0,none⟩ = some (.int .i64 m)
theorem lt_of_cell {w : World} {a : Addr} {v : Value} (h : w.cell? a = some v) : a.block < w.heap.size:=by
 rcases Nat.lt_or_ge a.block w.heap.size with hh | hh
 ·exact hh
 ·simp [World.cell?,Array.getElem?_eq_none hh] at h
theorem lt_of_blk {w : World} {b : Nat} {o : Obj} (h : w.heap[b]? = some o) : b < w.heap.size:=by
 rcases Nat.lt_or_ge b w.heap.size with hh | hh
 ·exact hh
 ·rw [Array.getElem?_eq_none hh] at h; cases h
theorem cell_below {w w' : World} {a : Addr} {v : Value} (hb : Below w.heap.size w w') (h : w.cell? a = some v) : w'.cell? a = some v:=by
 rw [hb.cell (lt_of_cell h)]; exact h
theorem Vs.below {w w' : World} {aT aB : Addr} {m : Int} (h : Vs w aT aB m) (hb : Below w.heap.size w w') : Vs w' aT aB m:=by
 refine ⟨cell_below hb h.t,cell_below hb h.b,?_,?_,h.ne,cell_below hb h.ml⟩
 ·obtain ⟨c,t,e⟩:=h.bt
  exact ⟨c,t,by rw [hb.block _ (lt_of_blk e)]; exact e⟩
 ·obtain ⟨c,t,e⟩:=h.bb
  exact ⟨c,t,by rw [hb.block _ (lt_of_blk e)]; exact e⟩
theorem below_drawn (w : World) (d : Nat) : Below w.heap.size w (w.drewN d):=⟨rfl,rfl,rfl,Nat.le_refl _,fun _ _=>rfl⟩
def errV (aT aB : Addr) (c : Nat) : Value:=if c = 0 then .nilIface else if c = 1 then .iface 311 (.pointer (some aT)) else .iface 311 (.pointer (some aB))
theorem errV0 (aT aB : Addr) : errV aT aB 0 = .nilIface:=rfl
theorem errV1 (aT aB : Addr) : errV aT aB 1 = .iface 311 (.pointer (some aT)):=rfl
theorem errV2 (aT aB : Addr) : errV aT aB 2 = .iface 311 (.pointer (some aB)):=rfl
theorem digits_any (s : ByteArray) (w : World) (hs : s.size <= maxLen) :
  Calls Tryz.prog 166 #[.string s] w fun e w'=>e = .returned (.bool (digs s.data.toList)) /\ w' = w:=by
 have HD:=hid (show digs s.data.toList = (decide (0 < s.size) && allDig s.data.toList) by unfold digs; rw [len_eq])
 have HC:=hid (every_dig s w hs)
 unfold maxLen at hs
 by_cases h : 0 < s.size
 ·go_enter Tryz.func166,Tryz.ntmps166
  go_wp2_with fail
  refine HC.out.mono ?_
  rintro e w' ⟨rfl,rfl⟩
  go_wp2_with fail
  go_ret
  exact ⟨ret_bool (by rw [HD.out]; simp [h]),rfl⟩
 ·go_enter Tryz.func166,Tryz.ntmps166
  go_wp2_with fail
  go_ret
  exact ⟨ret_bool (by rw [HD.out]; simp [h]),rfl⟩
def inBB (n : Int) : Bool:=decide (0 <= n /\ n <= 999999)
theorem inB_any (n : Int) (w : World) : Calls Tryz.prog 295 #[.int .i64 n] w fun e w'=>e = .returned (.bool (inBB n)) /\ w' = w:=by
 by_cases a : 0 <= n
 all_goals
  go_enter Tryz.func295,Tryz.ntmps295
  go_wp2
  go_ret
  exact ⟨ret_bool (by unfold inBB; rw [Bool.eq_iff_iff]; simp <;> omega),rfl⟩
theorem compS : (Tryz.prog.info? 311).map (·.comparable) = some true:=by kernel_rfl
theorem sizeS : (Tryz.prog.info? 329).map (·.size) = some 1:=by kernel_rfl
theorem worse_any (a b : Nat) (aT aB : Addr) (m : Int) (w : World) (S : Vs w aT aB m) (ha : a = 0 \/ a = 1 \/ a = 2) (hb : b = 0 \/ b = 1 \/ b = 2) :
  Calls Tryz.prog 70 #[errV aT aB a,errV aT aB b] w fun e w'=>e = .returned (errV aT aB (worse a b)) /\ w' = w:=by
 obtain ⟨i,hi,hcmp⟩:=Option.map_eq_some_iff.1 compS
 obtain ⟨j,hj,hjs⟩:=Option.map_eq_some_iff.1 sizeS
 obtain ⟨c1,t1,e1⟩:=S.bt
 obtain ⟨c2,t2,e2⟩:=S.bb
 have q0:=run_eql_iface_nil_left (P:=Tryz.prog) w 311 (.pointer (some aT)) Tryz.underlying33
 have q1:=run_eql_iface_ptr_same (P:=Tryz.prog) w aT Tryz.underlying33 Tryz.underlying311 hi hcmp hj
 have q2:=run_eql_iface_ptr_other (P:=Tryz.prog) w Tryz.underlying33 Tryz.underlying311 hi hcmp hj (by rw [hjs]; decide) S.ne.symm e2 e1
 have g:=S.t
 clear S e1 e2 hi hcmp hj hjs
 rcases ha with rfl | rfl | rfl
 ·rcases hb with rfl | rfl | rfl
  ·show Calls Tryz.prog 70 #[.nilIface,.nilIface] w fun e w'=>e = .returned (.nilIface) /\ w' = w
   go_enter Tryz.func70,Tryz.ntmps70
   go_wp2
   go_ret
   exact ⟨rfl,rfl⟩
  ·show Calls Tryz.prog 70 #[.nilIface,.iface 311 (.pointer (some aT))] w fun e w'=>e = .returned (.iface 311 (.pointer (some aT))) /\ w' = w
   go_enter Tryz.func70,Tryz.ntmps70
   go_wp2
   go_ret
   exact ⟨rfl,rfl⟩
  ·show Calls Tryz.prog 70 #[.nilIface,.iface 311 (.pointer (some aB))] w fun e w'=>e = .returned (.iface 311 (.pointer (some aB))) /\ w' = w
   go_enter Tryz.func70,Tryz.ntmps70
   go_wp2
   go_ret
   exact ⟨rfl,rfl⟩
 ·rcases hb with rfl | rfl | rfl
  ·show Calls Tryz.prog 70 #[.iface 311 (.pointer (some aT)),.nilIface] w fun e w'=>e = .returned (.iface 311 (.pointer (some aT))) /\ w' = w
   go_enter Tryz.func70,Tryz.ntmps70
   go_wp2
   go_ret
   exact ⟨rfl,rfl⟩
  ·show Calls Tryz.prog 70 #[.iface 311 (.pointer (some aT)),.iface 311 (.pointer (some aT))] w fun e w'=>e = .returned (.iface 311 (.pointer (some aT))) /\ w' = w
   go_enter Tryz.func70,Tryz.ntmps70
   go_wp2
   go_ret
   exact ⟨rfl,rfl⟩
  ·show Calls Tryz.prog 70 #[.iface 311 (.pointer (some aT)),.iface 311 (.pointer (some aB))] w fun e w'=>e = .returned (.iface 311 (.pointer (some aT))) /\ w' = w
   go_enter Tryz.func70,Tryz.ntmps70
   go_wp2
   go_ret
   exact ⟨rfl,rfl⟩
 ·rcases hb with rfl | rfl | rfl
  ·show Calls Tryz.prog 70 #[.iface 311 (.pointer (some aB)),.nilIface] w fun e w'=>e = .returned (.iface 311 (.pointer (some aB))) /\ w' = w
   go_enter Tryz.func70,Tryz.ntmps70
   go_wp2
   go_ret
   exact ⟨rfl,rfl⟩
  ·show Calls Tryz.prog 70 #[.iface 311 (.pointer (some aB)),.iface 311 (.pointer (some aT))] w fun e w'=>e = .returned (.iface 311 (.pointer (some aT))) /\ w' = w
   go_enter Tryz.func70,Tryz.ntmps70
   go_wp2
   go_ret
   exact ⟨rfl,rfl⟩
  ·show Calls Tryz.prog 70 #[.iface 311 (.pointer (some aB)),.iface 311 (.pointer (some aB))] w fun e w'=>e = .returned (.iface 311 (.pointer (some aB))) /\ w' = w
   go_enter Tryz.func70,Tryz.ntmps70
   go_wp2
   go_ret
   exact ⟨rfl,rfl⟩
theorem dig_at (s : ByteArray) (h : allDig s.data.toList = true) (k : Nat) (hk : k < s.size) : 48 <= (s[k].toNat : Int) /\ (s[k].toNat : Int) <= 57:=by
 have h1:=List.all_eq_true.1 h s[k] (by rw [ByteArray.getElem_eq_getElem_data]; exact Array.getElem_mem_toList _)
 simpa [dig,digB] using h1
theorem dig_take (s : ByteArray) (h : allDig s.data.toList = true) (k : Nat) : (s.data.toList.take k).all dig = true:=by
 rw [List.all_eq_true]
 intro x hx
 exact List.all_eq_true.1 h x (List.mem_of_mem_take hx)
theorem zero_eq (s : ByteArray) : zero s.data.toList = true ↔ ∃ h : 1 < s.size,((s[0].toNat : Int) == 48) = true:=by
 unfold zero
 rw [len_eq]
 by_cases h : 1 < s.size
 ·have e : s.data.toList.headD 0 = s[0]:=by
   rw [List.headD_eq_head?_getD,List.head?_eq_getElem?,List.getElem?_eq_getElem (by simp; omega)]; rfl
  rw [e]
  simp only [h,decide_true,Bool.true_and,beq_iff_eq,exists_true_left]
  constructor
  ·intro h; rw [h]; rfl
  ·intro h
   apply UInt8.toNat_inj.1
   show s[0].toNat = 48
   omega
 ·simp [h]
set_option maxHeartbeats 400000 in
theorem numeral_any (s : ByteArray) (w : World) (hs : s.size <= maxLen) :
  Calls Tryz.prog 162 #[.string s] w fun e w'=>e = .returned (.bool (digs s.data.toList && !zero s.data.toList)) /\ w' = w:=by
 have HC:=hid (digits_any s w hs)
 have HZ:=hid (zero_eq s)
 have HS : Hid (digs s.data.toList = true -> 0 < s.size):=fun h=>by unfold digs at h; rw [len_eq] at h; simp at h; omega
 unfold maxLen at hs
 cases hz : digs s.data.toList
 ·rw [hz] at HC
  clear hz
  go_enter Tryz.func162,Tryz.ntmps162
  go_wp2_with fail
  refine HC.out.mono ?_
  rintro e w' ⟨rfl,rfl⟩
  go_wp2_with fail
  go_ret
  exact ⟨ret_bool (by simp),rfl⟩
 ·have h0:=HS.out hz
  rw [hz] at HC
  clear hz HS
  by_cases h1 : 1 < s.size
  ·have hl : ((s.size : Int) == 1) = false:=by rw [beq_eq_false_iff_ne]; omega
   cases h2 : ((s[0].toNat : Int) == 48)
   ·have h3 : ((s[0].toNat : Int) != 48) = true:=by rw [bne,h2]; rfl
    have hq : zero s.data.toList = false:=by
     cases hq : zero s.data.toList
     ·rfl
     ·obtain ⟨_,h⟩:=HZ.out.1 hq
      rw [h2] at h; cases h
    have HQ:=hid hq
    clear hq HZ
    go_enter Tryz.func162,Tryz.ntmps162
    go_wp2_with fail
    refine HC.out.mono ?_
    rintro e w' ⟨rfl,rfl⟩
    go_wp2_with fail
    go_ret
    exact ⟨ret_bool (by rw [HQ.out]; rfl),rfl⟩
   ·have h3 : ((s[0].toNat : Int) != 48) = false:=by rw [bne,h2]; rfl
    have HQ:=hid (HZ.out.2 ⟨h1,h2⟩)
    clear HZ
    go_enter Tryz.func162,Tryz.ntmps162
    go_wp2_with fail
    refine HC.out.mono ?_
    rintro e w' ⟨rfl,rfl⟩
    go_wp2_with fail
    go_ret
    exact ⟨ret_bool (by rw [HQ.out]; rfl),rfl⟩
  ·have hl : ((s.size : Int) == 1) = true:=by rw [beq_iff_eq]; omega
   have hq : zero s.data.toList = false:=by
    cases hq : zero s.data.toList
    ·rfl
    ·obtain ⟨h,_⟩:=HZ.out.1 hq
     exact absurd h h1
   have HQ:=hid hq
   clear hq HZ
   go_enter Tryz.func162,Tryz.ntmps162
   go_wp2_with fail
   refine HC.out.mono ?_
   rintro e w' ⟨rfl,rfl⟩
   go_wp2_with fail
   go_ret
   exact ⟨ret_bool (by rw [HQ.out]; rfl),rfl⟩
set_option maxHeartbeats 400000 in
theorem num_text (s : ByteArray) (aT aB : Addr) (m : Int) (w : World) (hs : s.size <= maxLen) (S : Vs w aT aB m) (hz : (digs s.data.toList && !zero s.data.toList) = false) :
  Calls Tryz.prog 115 #[.string s] w fun e w'=>e = .returned (.tuple #[.int .i64 0,.iface 311 (.pointer (some aT))]) /\ Below w.heap.size w w':=by
 have HC:=hid (numeral_any s w hs)
 rw [hz] at HC
 unfold maxLen at hs
 have g:=S.t
 clear S hz
 go_enter Tryz.func115,Tryz.ntmps115
 go_wp2_with fail
 refine HC.out.mono ?_
 rintro e w' ⟨rfl,rfl⟩
 go_wp2_with fail
 go_quiet (fail)
 go_wp2_with fail
 go_ret2
 exact ⟨rfl,below_drawn _ _⟩
set_option maxHeartbeats 1000000 in
theorem num_ok (s : ByteArray) (aT aB : Addr) (m : Int) (w : World) (hs : s.size <= maxLen) (S : Vs w aT aB m) (hz : digs s.data.toList = true) (h0 : zero s.data.toList = false) :
  Calls Tryz.prog 115 #[.string s] w fun e w'=>e = .returned (.tuple #[.int .i64 (num s.data.toList).1,errV aT aB (num s.data.toList).2]) /\ Below w.heap.size w w':=by
 have had : allDig s.data.toList = true:=by unfold digs at hz; simp at hz; exact hz.2
 have HN : Hid ((numTo 0 s.data.toList <= 999999 -> num s.data.toList = (numTo 0 s.data.toList,0)) /\ (¬ numTo 0 s.data.toList <= 999999 -> num s.data.toList = (0,2))):=
  ⟨fun h=>by simp [num,hz,h0,h],fun h=>by simp [num,hz,h0,h]⟩
 have HC:=hid (numeral_any s w hs)
 rw [hz,h0] at HC
 unfold maxLen at hs
 have g:=S.b
 clear S h0 hz
 go_enter Tryz.func115,Tryz.ntmps115
 go_wp2_with fail
 refine HC.out.mono ?_
 rintro e w' ⟨rfl,rfl⟩
 go_wp2_with fail
 go_loop [4,12] (fun n i=>∃ k : Nat,k <= s.size /\ i = .int .i64 k /\ n = .int .i64 (numTo 0 (s.data.toList.take k))) (fun _ i=>s.size - (intOf i).toNat)
 case atStart=>exact ⟨0,Nat.zero_le _,rfl,rfl⟩
 case round=>
  obtain ⟨k,hk,rfl,rfl⟩:=hrel
  obtain ⟨b0,b1⟩:=numTo_bd _ (dig_take s had k)
  by_cases hlt : k < s.size
  ·obtain ⟨d0,d1⟩:=dig_at s had k hlt
   have HS:=hid (numTo_snoc 0 (s.data.toList.take k) s[k])
   rw [<- take_snoc s k hlt] at HS
   generalize hn : numTo 0 (s.data.toList.take k) = n at *
   clear hn
   go_wp2_with fail
   refine ⟨⟨k + 1,by omega,by go_num,?_⟩,by simp [intOf]; omega⟩
   rw [HS.out]
   first | done | (congr 1; split <;> omega) | (congr 1; omega)
  ·have hk2 : s.data.toList.take k = s.data.toList:=List.take_of_length_le (by simp; omega)
   rw [hk2] at b0 b1 ⊢
   by_cases hb : numTo 0 s.data.toList <= 999999
   ·have HF:=hid (HN.out.1 hb)
    generalize hn : numTo 0 s.data.toList = n at *
    clear hn hk2
    go_wp2_with fail
    go_ret2
    exact ⟨by rw [HF.out]; rfl,Below.refl _ _⟩
   ·have HF:=hid (HN.out.2 (by omega))
    generalize hn : numTo 0 s.data.toList = n at *
    clear hn hk2
    go_wp2_with fail
    go_quiet (fail)
    go_wp2_with fail
    go_ret2
    exact ⟨by rw [HF.out]; rfl,below_drawn _ _⟩
theorem num_any (s : ByteArray) (aT aB : Addr) (m : Int) (w : World) (hs : s.size <= maxLen) (S : Vs w aT aB m) :
  Calls Tryz.prog 115 #[.string s] w fun e w'=>e = .returned (.tuple #[.int .i64 (num s.data.toList).1,errV aT aB (num s.data.toList).2]) /\ Below w.heap.size w w':=by
 cases hz : digs s.data.toList
 ·have e : num s.data.toList = (0,1):=by simp [num,hz]
  rw [e]; exact num_text s aT aB m w hs S (by rw [hz]; rfl)
 ·cases h0 : zero s.data.toList
  ·exact num_ok s aT aB m w hs S hz h0
  ·have e : num s.data.toList = (0,1):=by simp [num,h0]
   rw [e]; exact num_text s aT aB m w hs S (by rw [hz,h0]; rfl)
set_option maxHeartbeats 400000 in
theorem part_any (s : ByteArray) (aT aB : Addr) (m : Int) (w : World) (hs : s.size <= maxLen) (S : Vs w aT aB m) :
  Calls Tryz.prog 117 #[.string s] w fun e w'=>e = .returned (errV aT aB (part s.data.toList)) /\ Below w.heap.size w w':=by
 have HP:=hid (show part s.data.toList = if s.size < 1 \/ 8 < s.size \/ allPar s.data.toList = false then 1 else if digs s.data.toList = false then 0 else (num s.data.toList).2 by unfold part; rw [len_eq])
 have HS:=hid S
 have HE:=hid (every_par s w hs)
 have HD:=hid (digits_any s w hs)
 have HN:=hid (num_any s aT aB m w hs S)
 have HR:=hid (num_err s.data.toList)
 unfold maxLen at hs
 have g:=S.t
 clear S
 by_cases h1 : s.size < 1
 ·rw [if_pos (Or.inl h1)] at HP
  go_enter Tryz.func117,Tryz.ntmps117
  go_wp2_with fail
  go_ret
  exact ⟨by rw [HP.out]; rfl,Below.refl _ _⟩
 ·by_cases h2 : 8 < s.size
  ·rw [if_pos (Or.inr (Or.inl h2))] at HP
   go_enter Tryz.func117,Tryz.ntmps117
   go_wp2_with fail
   go_ret
   exact ⟨by rw [HP.out]; rfl,Below.refl _ _⟩
  ·cases h3 : allPar s.data.toList
   ·rw [if_pos (Or.inr (Or.inr h3))] at HP
    rw [h3] at HE
    clear h3
    go_enter Tryz.func117,Tryz.ntmps117
    go_wp2_with fail
    refine HE.out.mono ?_
    rintro e w' ⟨rfl,rfl⟩
    go_wp2_with fail
    go_ret
    exact ⟨by rw [HP.out]; rfl,Below.refl _ _⟩
   ·rw [h3] at HE
    rw [if_neg (by rintro (h | h | h) <;> simp_all)] at HP
    clear h3
    cases h4 : digs s.data.toList
    ·rw [if_pos h4] at HP
     rw [h4] at HD
     clear h4
     go_enter Tryz.func117,Tryz.ntmps117
     go_wp2_with fail
     refine HE.out.mono ?_
     rintro e w' ⟨rfl,rfl⟩
     go_wp2_with fail
     refine HD.out.mono ?_
     rintro e w' ⟨rfl,rfl⟩
     go_wp2_with fail
     go_ret
     exact ⟨by rw [HP.out]; rfl,Below.refl _ _⟩
    ·rw [if_neg (by rw [h4]; simp)] at HP
     rw [h4] at HD
     clear h4
     generalize hq : num s.data.toList = q at *
     clear hq
     obtain ⟨q1,q2⟩:=q
     rcases HR.out with h | h | h
     all_goals
      dsimp only at h
      subst h
      go_enter Tryz.func117,Tryz.ntmps117
      go_wp2_with fail
      refine HE.out.mono ?_
      rintro e w' ⟨rfl,rfl⟩
      go_wp2_with fail
      refine HD.out.mono ?_
      rintro e w' ⟨rfl,rfl⟩
      go_wp2_with fail
      refine HN.out.mono ?_
      rintro e w' ⟨rfl,hb⟩
      have HB:=hid hb
      clear hb
      go_wp2_with fail
      go_ret
      exact ⟨by rw [HP.out]; rfl,HB.out⟩
end Ve
end Go.Proofs.YtjbmjnbkibmkpaaGreatDoor


namespace Go.Proofs.YtjbmjnbkibmkpaaGreatDoor
open Go.RowKit
namespace Ve
theorem pre_nil (a : Option Addr) (c : Nat) (aT aB : Addr) (w : World) :
  Calls Tryz.prog 71 #[.slice a 0 c] w fun e w'=>e = .returned (errV aT aB (pre [])) /\ Below w.heap.size w w':=by
 have HP:=hid (show errV aT aB (pre []) = .nilIface from rfl)
 go_enter Tryz.func71,Tryz.ntmps71
 go_wp2_with fail
 refine wp_loop_rounds 1 ?_
 rw [rounds_succ]
 go_wp2_with fail
 go_ret
 exact ⟨by rw [HP.out]; rfl,Below.refl _ _⟩
set_option maxHeartbeats 1000000 in
theorem pre_some (b o c : Nat) (xs : List ByteArray) (aT aB : Addr) (m : Int) (w : World) (S : Vs w aT aB m) (hn : xs.length <= 140737488355328) (hx : ∀ x,x ∈ xs -> x.size <= maxLen)
  (hc : ∀ j (h : j < xs.length),w.cell? ⟨b,o + j,none⟩ = some (.string xs[j])) :
  Calls Tryz.prog 71 #[.slice (some ⟨b,o,none⟩) xs.length c] w fun e w'=>e = .returned (errV aT aB (pre (bl xs))) /\ Below w.heap.size w w':=by
 have HP:=hid (show pre (bl xs) = preTo (if 5 < xs.length then 2 else 0) (bl xs) by unfold pre; rw [bl_len])
 have HS:=hid S
 have HC:=hid hc
 have HX:=hid hx
 have g:=S.b
 clear S hc hx
 by_cases h5 : 5 < xs.length
 ·rw [if_pos h5] at HP
  have h5b : decide (5 < (xs.length : Int)) = true:=by simp; omega
  go_enter Tryz.func71,Tryz.ntmps71
  go_wp2_with fail
  clear g
  go_loopw [3,12] (fun bad i wr=>∃ k : Nat,k <= xs.length /\ i = .int .i64 k /\ bad = errV aT aB (preTo 2 (bl (xs.take k))) /\ Below w.heap.size w wr) (fun _ i _=>xs.length - (intOf i).toNat)
  case atStart=>exact ⟨0,Nat.zero_le _,rfl,rfl,Below.refl _ _⟩
  case round=>
   obtain ⟨k,hk,rfl,rfl,hb⟩:=hrel
   have HB:=hid hb
   clear hb
   by_cases hlt : k < xs.length
   ·have hcell : wr.cell? ⟨b,o + k,none⟩ = some (.string xs[k]):=cell_below HB.out (HC.out k hlt)
    have HSN:=hid (preTo_snoc 2 (bl (xs.take k)) xs[k].data.toList)
    rw [<- bl_take_snoc xs k hlt] at HSN
    have HE:=hid (preTo_err 2 (bl (xs.take k)) (by simp))
    have HXK:=hid (HX.out xs[k] (List.getElem_mem hlt))
    generalize hq : preTo 2 (bl (xs.take k)) = q at *
    clear hq
    go_wp2_with fail
    refine (part_any xs[k] aT aB m wr HXK.out (HS.out.below HB.out)).mono ?_
    rintro e w1 ⟨rfl,hb1⟩
    have HB1:=hid (HB.out.trans (hb1.mono HB.out.size))
    clear hb1
    have HPE:=hid (part_err xs[k].data.toList)
    go_wp2_with fail
    refine (worse_any q _ aT aB m w1 (HS.out.below HB1.out) HE.out HPE.out).mono ?_
    rintro e w' ⟨rfl,rfl⟩
    rw [<- HSN.out]
    go_wp2_with fail
    go_roundw
    case rel=>exact ⟨k + 1,by omega,by go_num,rfl,HB1.out⟩
    case measure=>simp [intOf]; omega
   ·have hkk : xs.take k = xs:=List.take_of_length_le (by omega)
    rw [hkk,<- HP.out]
    clear hkk
    go_wp2_with fail
    go_ret
    exact ⟨rfl,HB.out⟩
 ·rw [if_neg h5] at HP
  have h5b : decide (5 < (xs.length : Int)) = false:=by simp; omega
  go_enter Tryz.func71,Tryz.ntmps71
  go_wp2_with fail
  clear g
  go_loopw [3,12] (fun bad i wr=>∃ k : Nat,k <= xs.length /\ i = .int .i64 k /\ bad = errV aT aB (preTo 0 (bl (xs.take k))) /\ Below w.heap.size w wr) (fun _ i _=>xs.length - (intOf i).toNat)
  case atStart=>exact ⟨0,Nat.zero_le _,rfl,rfl,Below.refl _ _⟩
  case round=>
   obtain ⟨k,hk,rfl,rfl,hb⟩:=hrel
   have HB:=hid hb
   clear hb
   by_cases hlt : k < xs.length
   ·have hcell : wr.cell? ⟨b,o + k,none⟩ = some (.string xs[k]):=cell_below HB.out (HC.out k hlt)
    have HSN:=hid (preTo_snoc 0 (bl (xs.take k)) xs[k].data.toList)
    rw [<- bl_take_snoc xs k hlt] at HSN
    have HE:=hid (preTo_err 0 (bl (xs.take k)) (by simp))
    have HXK:=hid (HX.out xs[k] (List.getElem_mem hlt))
    generalize hq : preTo 0 (bl (xs.take k)) = q at *
    clear hq
    go_wp2_with fail
    refine (part_any xs[k] aT aB m wr HXK.out (HS.out.below HB.out)).mono ?_
    rintro e w1 ⟨rfl,hb1⟩
    have HB1:=hid (HB.out.trans (hb1.mono HB.out.size))
    clear hb1
    have HPE:=hid (part_err xs[k].data.toList)
    go_wp2_with fail
    refine (worse_any q _ aT aB m w1 (HS.out.below HB1.out) HE.out HPE.out).mono ?_
    rintro e w' ⟨rfl,rfl⟩
    rw [<- HSN.out]
    go_wp2_with fail
    go_roundw
    case rel=>exact ⟨k + 1,by omega,by go_num,rfl,HB1.out⟩
    case measure=>simp [intOf]; omega
   ·have hkk : xs.take k = xs:=List.take_of_length_le (by omega)
    rw [hkk,<- HP.out]
    clear hkk
    go_wp2_with fail
    go_ret
    exact ⟨rfl,HB.out⟩
end Ve
end Go.Proofs.YtjbmjnbkibmkpaaGreatDoor


namespace Go.Proofs.YtjbmjnbkibmkpaaGreatDoor
namespace Ve
def ahead (b : UInt8) : List (List UInt8) -> List (List UInt8)
 | []=>[[b]]
 | h :: t=>(b :: h) :: t
def cutAt (c : UInt8) : List UInt8 -> List (List UInt8)
 | []=>[[]]
 | b :: l=>if b = c then [] :: cutAt c l else ahead b (cutAt c l)
theorem ahead_len (b : UInt8) (x : List (List UInt8)) (h : x ≠ []) : (ahead b x).length = x.length:=by cases x <;> simp_all [ahead]
theorem cutAt_ne (c : UInt8) (l : List UInt8) : cutAt c l ≠ []:=by
 cases l with
 | nil=>simp [cutAt]
 | cons b l=>
  unfold cutAt
  split
  ·simp
  ·cases cutAt c l <;> simp [ahead]
theorem index_cons_ne (b c : UInt8) (l : List UInt8) (h : b ≠ c) : Lib.index (b :: l) [c] = if Lib.index l [c] == -1 then -1 else Lib.index l [c] + 1:=by
 have : ([c] : List UInt8).isPrefixOf (b :: l) = false:=by simp [List.isPrefixOf]; exact fun e=>h e.symm
 rw [Lib.index,this]; rfl
theorem index_cons_eq (c : UInt8) (l : List UInt8) : Lib.index (c :: l) [c] = 0:=by
 have : ([c] : List UInt8).isPrefixOf (c :: l) = true:=by simp [List.isPrefixOf]
 rw [Lib.index,this]; rfl
theorem splitK_ahead (b c : UInt8) (h : b ≠ c) (k : Nat) (l : List UInt8) : Lib.splitK [c] 0 k (b :: l) = ahead b (Lib.splitK [c] 0 k l):=by
 cases k with
 | zero=>rfl
 | succ k=>
  have hge:=Lib.index_ge l [c]
  unfold Lib.splitK
  rw [index_cons_ne b c l h]
  by_cases e : Lib.index l [c] = -1
  ·rw [e]; rfl
  ·obtain ⟨i,hi⟩ : ∃ i : Nat,Lib.index l [c] = i:=⟨(Lib.index l [c]).toNat,by omega⟩
   rw [hi]
   have e1 : ((i : Int) == -1) = false:=by simp
   have e2 : ((i : Int) + 1 == -1) = false:=by simp; omega
   have e3 : ((i : Int) + 1).toNat = i + 1:=by omega
   simp [e1,e2,e3,ahead]
theorem splitK_cutAt (c : UInt8) (l : List UInt8) : Lib.splitK [c] 0 (Lib.count l [c]) l = cutAt c l:=by
 induction l with
 | nil=>simp [Lib.count_one,Lib.splitK,cutAt]
 | cons b l ih=>
  by_cases h : b = c
  ·subst h
   rw [Lib.count_cons_eq,Nat.add_comm]
   unfold Lib.splitK
   rw [index_cons_eq]
   simp only [cutAt,if_true]
   simpa using ih
  ·rw [Lib.count_cons_ne b c l h,splitK_ahead b c h,ih]
   simp [cutAt,h]
theorem bl_split (c : UInt8) (s : ByteArray) : bl (Lib.splitB ⟨#[c]⟩ 0 (Lib.countB s ⟨#[c]⟩) s) = cutAt c s.data.toList:=by
 unfold bl
 rw [Lib.splitB_data]
 exact splitK_cutAt c s.data.toList
def one (c : UInt8) (l : List UInt8) : List UInt8 × List UInt8 × Bool:=(l.takeWhile (· != c),(l.dropWhile (· != c)).drop 1,l.contains c)
theorem cut_one (c : UInt8) (l : List UInt8) : Lib.cut l [c] = one c l:=by
 induction l with
 | nil=>simp [Lib.cut,Lib.index,one]
 | cons b l ih=>
  by_cases h : b = c
  ·subst h
   unfold Lib.cut
   rw [index_cons_eq]
   simp [one]
  ·have hge:=Lib.index_ge l [c]
   unfold Lib.cut at ih ⊢
   rw [index_cons_ne b c l h]
   have hb : (b != c) = true:=by simp [h]
   have hc : (b :: l).contains c = l.contains c:=by simp; intro e; exact absurd e.symm h
   simp only [one,List.takeWhile_cons,List.dropWhile_cons,hb,if_true,hc] at ih ⊢
   by_cases e : Lib.index l [c] = -1
   ·rw [e] at ih ⊢
    simp only [show ¬ (0 : Int) <= -1 by decide,if_false,Prod.mk.injEq] at ih
    simp only [beq_self_eq_true,if_true,show ¬ (0 : Int) <= -1 by decide,if_false,Prod.mk.injEq]
    exact ⟨by rw [<- ih.1],ih.2.1,ih.2.2⟩
   ·obtain ⟨i,hi⟩ : ∃ i : Nat,Lib.index l [c] = i:=⟨(Lib.index l [c]).toNat,by omega⟩
    rw [hi] at ih ⊢
    have e1 : ((i : Int) == -1) = false:=by simp
    have e3 : ((i : Int) + 1).toNat = i + 1:=by omega
    rw [if_pos (by omega)] at ih
    simp only [Prod.mk.injEq,Int.toNat_natCast,List.length_singleton] at ih
    rw [e1]
    simp only [Bool.false_eq_true,if_false]
    rw [if_pos (by omega),e3]
    simp only [Prod.mk.injEq,List.length_singleton,List.take_succ_cons,List.drop_succ_cons]
    exact ⟨by rw [<- ih.1],ih.2.1,ih.2.2⟩
theorem cutAt_le (c : UInt8) (l : List UInt8) : ∀ p,p ∈ cutAt c l -> p.length <= l.length:=by
 induction l with
 | nil=>intro p hp; simp [cutAt] at hp; simp [hp]
 | cons b l ih=>
  intro p hp
  unfold cutAt at hp
  split at hp
  ·rcases List.mem_cons.1 hp with rfl | h
   ·simp
   ·have:=ih p h; simp; omega
  ·cases hq : cutAt c l with
   | nil=>exact absurd hq (cutAt_ne c l)
   | cons h t=>
    rw [hq] at hp ih
    simp only [ahead,List.mem_cons] at hp
    rcases hp with rfl | hp
    ·have:=ih h (List.mem_cons_self); simp; omega
    ·have:=ih p (List.mem_cons_of_mem _ hp); simp; omega
theorem cutAt_many (c : UInt8) (l : List UInt8) : (cutAt c l).length <= l.length + 1:=by
 induction l with
 | nil=>simp [cutAt]
 | cons b l ih=>
  unfold cutAt
  split
  ·simp; omega
  ·rw [ahead_len b _ (cutAt_ne c l)]; simp; omega
theorem bl_mem {X : List ByteArray} {x : ByteArray} (h : x ∈ X) : x.data.toList ∈ bl X:=List.mem_map.2 ⟨x,h,rfl⟩
def numsErr (ps : List (List UInt8)) : Nat:=ps.foldl (fun b p=>worse b (num p).2) 0
def numsOf (ps : List (List UInt8)) : List Int:=ps.map fun p=>(num p).1
theorem numsErr_snoc (ps : List (List UInt8)) (p : List UInt8) : numsErr (ps ++ [p]) = worse (numsErr ps) (num p).2:=by simp [numsErr,List.foldl_append]
theorem numsErr_err (ps : List (List UInt8)) : numsErr ps = 0 \/ numsErr ps = 1 \/ numsErr ps = 2:=by
 have key : ∀ (ps : List (List UInt8)) (b : Nat),(b = 0 \/ b = 1 \/ b = 2) -> ps.foldl (fun b p=>worse b (num p).2) b = 0 \/ ps.foldl (fun b p=>worse b (num p).2) b = 1 \/ ps.foldl (fun b p=>worse b (num p).2) b = 2:=by
  intro ps
  induction ps with
  | nil=>intro b hb; exact hb
  | cons p r ih=>intro b hb; exact ih _ (worse_err hb (num_err p))
 exact key ps 0 (Or.inl rfl)
theorem numsOf_snoc (ps : List (List UInt8)) (p : List UInt8) : numsOf (ps ++ [p]) = numsOf ps ++ [(num p).1]:=by simp [numsOf]
theorem numsOf_len (ps : List (List UInt8)) : (numsOf ps).length = ps.length:=by simp [numsOf]
end Ve
end Go.Proofs.YtjbmjnbkibmkpaaGreatDoor


namespace Go.Proofs
open Go.Shelf
def Tryz.lays156_ren : Go.Shelf.Ren:=⟨fun | 156=>124 | 165=>157 | 166=>158 | 169=>160 | 240=>209 | 241=>210 | 276=>264 | 277=>265 | n=>n,fun | 31=>26 | 9=>9 | 3=>3 | 4=>4 | 0=>0 | 20=>20 | 72=>201 | 76=>157 | 70=>198 | 37=>199 | 75=>33 | 127=>237 | 164=>124 | 5=>5 | 80=>151 | n=>n,fun | n=>n⟩
theorem Tryz.lays156 : Go.Proofs.Lays.n156 Tryz.prog Tryz.lays156_ren:={
 mixed:=by kernel_rfl
 f156:=Tryz.func124.trans (congrArg some (by kernel_rfl))
 f165:=Tryz.func157.trans (congrArg some (by kernel_rfl))
 f166:=Tryz.func158.trans (congrArg some (by kernel_rfl))
 f169:=Tryz.func160.trans (congrArg some (by kernel_rfl))
 f240:=Tryz.func209.trans (congrArg some (by kernel_rfl))
 f241:=Tryz.func210.trans (congrArg some (by kernel_rfl))
 f276:=Tryz.func264.trans (congrArg some (by kernel_rfl))
 f277:=Tryz.func265.trans (congrArg some (by kernel_rfl))
 t0:=Tryz.underlying0
 a0:=Tryz.isAgg0
 z0:=Tryz.sizeOf0
 v0:=Tryz.zeroValue0
 t3:=Tryz.underlying3
 a3:=Tryz.isAgg3
 z3:=Tryz.sizeOf3
 v3:=Tryz.zeroValue3
 t4:=Tryz.underlying4
 a4:=Tryz.isAgg4
 z4:=Tryz.sizeOf4
 v4:=Tryz.zeroValue4
 t9:=Tryz.underlying9
 a9:=Tryz.isAgg9
 z9:=Tryz.sizeOf9
 v9:=Tryz.zeroValue9
 t20:=Tryz.underlying20
 a20:=Tryz.isAgg20
 z20:=Tryz.sizeOf20
 v20:=Tryz.zeroValue20
 t31:=Tryz.underlying26
 a31:=Tryz.isAgg26
 z31:=Tryz.sizeOf26
 v31:=Tryz.zeroValue26
 t37:=Tryz.underlying199
 a37:=Tryz.isAgg199
 z37:=Tryz.sizeOf199
 v37:=Tryz.zeroValue199
 t70:=Tryz.underlying198
 a70:=Tryz.isAgg198
 z70:=Tryz.sizeOf198
 v70:=Tryz.zeroValue198
 t72:=Tryz.underlying201
 a72:=Tryz.isAgg201
 z72:=Tryz.sizeOf201
 v72:=Tryz.zeroValue201
 t75:=Tryz.underlying33
 a75:=Tryz.isAgg33
 z75:=Tryz.sizeOf33
 v75:=Tryz.zeroValue33
 t76:=Tryz.underlying157
 a76:=Tryz.isAgg157
 z76:=Tryz.sizeOf157
 v76:=Tryz.zeroValue157
 t127:=Tryz.underlying237
 a127:=Tryz.isAgg237
 z127:=Tryz.sizeOf237
 v127:=Tryz.zeroValue237
 t164:=Tryz.underlying124
 a164:=Tryz.isAgg124
 z164:=Tryz.sizeOf124
 v164:=Tryz.zeroValue124 }
theorem Tryz.Builder_Extra_156 : Builder.Extra Tryz.prog Tryz.lays156_ren:={
 sizeBuilder:=by kernel_rfl
 liesBuilder:=by kernel_rfl
 t5:=Tryz.underlying5
 a5:=Tryz.isAgg5
 z5:=Tryz.sizeOf5
 v5:=Tryz.zeroValue5
 infoByte:=by kernel_rfl
 cellsByte:=by kernel_rfl
 sizeByte:=by kernel_rfl
 neB5:=by decide }
open Go.RowKit in
theorem Tryz.strings_Join (bk o c : Nat) (xs : List ByteArray) (sep : ByteArray) (w : World) (hcells : ∀ (j : Nat) x,xs[j]? = some x -> w.cell? ⟨bk,o + j,none⟩ = some (.string x)) (hbk : bk < w.heap.size) (hN : xs.length <= 140737488355328) (hcap : xs.length <= c) (hlen : (Lib.join (xs.map (·.data.toList)) sep.data.toList).length <= 140737488355328) :
  Calls Tryz.prog 124 #[.slice (some ⟨bk,o,none⟩) xs.length c,.string sep] w fun e w'=>e = .returned (.string ⟨(Lib.join (xs.map (·.data.toList)) sep.data.toList).toArray⟩) /\ Below w.heap.size w w':=Any.strings_Join Tryz.lays156 Tryz.Builder_Extra_156 bk o c xs sep w hcells hbk hN hcap hlen
def Tryz.lays106_ren : Go.Shelf.Ren:=⟨fun | 106=>130 | 213=>184 | 265=>234 | n=>n,fun | 9=>9 | 3=>3 | n=>n,fun | n=>n⟩
theorem Tryz.lays106 : Go.Proofs.Lays.n106 Tryz.prog Tryz.lays106_ren:={
 mixed:=by kernel_rfl
 f106:=Tryz.func130.trans (congrArg some (by kernel_rfl))
 f213:=Tryz.func184.trans (congrArg some (by kernel_rfl))
 f265:=Tryz.func234.trans (congrArg some (by kernel_rfl))
 t3:=Tryz.underlying3
 a3:=Tryz.isAgg3
 z3:=Tryz.sizeOf3
 v3:=Tryz.zeroValue3
 t9:=Tryz.underlying9
 a9:=Tryz.isAgg9
 z9:=Tryz.sizeOf9
 v9:=Tryz.zeroValue9 }
open Go.RowKit in
theorem Tryz.strings_Compare (a b : ByteArray) (w : World) :
  Calls Tryz.prog 130 #[.string a,.string b] w fun e w'=>e = .returned (.int .i64 (Lib.compareBytes a.data.toList b.data.toList)) /\ w' = w:=Any.strings_Compare Tryz.lays106 a b w
def Tryz.lays103_ren : Go.Shelf.Ren:=⟨fun | 103=>67 | 210=>114 | 206=>161 | n=>n,fun | 9=>9 | 4=>4 | 24=>99 | 3=>3 | n=>n,fun | n=>n⟩
theorem Tryz.lays103 : Go.Proofs.Lays.n103 Tryz.prog Tryz.lays103_ren:={
 mixed:=by kernel_rfl
 f103:=Tryz.func67.trans (congrArg some (by kernel_rfl))
 f206:=Tryz.func161.trans (congrArg some (by kernel_rfl))
 f210:=Tryz.func114.trans (congrArg some (by kernel_rfl))
 t3:=Tryz.underlying3
 a3:=Tryz.isAgg3
 z3:=Tryz.sizeOf3
 v3:=Tryz.zeroValue3
 t4:=Tryz.underlying4
 a4:=Tryz.isAgg4
 z4:=Tryz.sizeOf4
 v4:=Tryz.zeroValue4
 t9:=Tryz.underlying9
 a9:=Tryz.isAgg9
 z9:=Tryz.sizeOf9
 v9:=Tryz.zeroValue9
 t24:=Tryz.underlying99
 a24:=Tryz.isAgg99
 z24:=Tryz.sizeOf99
 v24:=Tryz.zeroValue99 }
open Go.RowKit in
theorem Tryz.strings_CutPrefix (s p : ByteArray) (w : World) :
  Calls Tryz.prog 67 #[.string s,.string p] w fun e w'=>e = .returned (.tuple #[.string ⟨(Lib.trimPrefix s.data.toList p.data.toList).toArray⟩,.bool (Lib.hasPrefix s.data.toList p.data.toList)]) /\ w' = w:=Any.strings_CutPrefix Tryz.lays103 s p w
def Tryz.lays122_ren : Go.Shelf.Ren:=⟨fun | 122=>224 | 215=>269 | n=>n,fun | 3=>3 | 4=>4 | n=>n,fun | n=>n⟩
theorem Tryz.lays122 : Go.Proofs.Lays.n122 Tryz.prog Tryz.lays122_ren:={
 mixed:=by kernel_rfl
 f122:=Tryz.func224.trans (congrArg some (by kernel_rfl))
 f215:=Tryz.func269.trans (congrArg some (by kernel_rfl))
 t3:=Tryz.underlying3
 a3:=Tryz.isAgg3
 z3:=Tryz.sizeOf3
 v3:=Tryz.zeroValue3
 t4:=Tryz.underlying4
 a4:=Tryz.isAgg4
 z4:=Tryz.sizeOf4
 v4:=Tryz.zeroValue4 }
open Go.RowKit in
theorem Tryz.cmp_Compare_int (x y : Int) (w : World) :
  Calls Tryz.prog 224 #[.int .i64 x,.int .i64 y] w fun e w'=>e = .returned (.int .i64 (Lib.compareInt x y)) /\ w' = w:=Any.cmp_Compare_int Tryz.lays122 x y w
def Tryz.laysM171_ren : Go.Shelf.Ren:=⟨fun | 171=>246 | 243=>282 | 246=>296 | 283=>308 | 284=>309 | 285=>310 | 286=>311 | 129=>183 | 317=>315 | 318=>316 | 319=>317 | 320=>318 | 337=>320 | 338=>321 | n=>n,fun | 3=>3 | 9=>9 | 2=>2 | 4=>4 | 171=>299 | 0=>0 | 53=>223 | 37=>199 | 5=>5 | 173=>301 | 212=>306 | 51=>221 | 20=>20 | 213=>307 | 46=>167 | 232=>309 | 233=>310 | n=>n,fun | 17=>12 | 18=>13 | 19=>14 | n=>n⟩
theorem Tryz.laysM171 : Go.Proofs.LaysM.n171 Tryz.prog Tryz.laysM171_ren:={
 mixed:=by kernel_rfl
 f129:=Tryz.func183.trans (congrArg some (by kernel_rfl))
 f171:=Tryz.func246.trans (congrArg some (by kernel_rfl))
 f243:=Tryz.func282.trans (congrArg some (by kernel_rfl))
 f246:=Tryz.func296.trans (congrArg some (by kernel_rfl))
 f283:=Tryz.func308.trans (congrArg some (by kernel_rfl))
 f284:=Tryz.func309.trans (congrArg some (by kernel_rfl))
 f285:=Tryz.func310.trans (congrArg some (by kernel_rfl))
 f286:=Tryz.func311.trans (congrArg some (by kernel_rfl))
 f317:=Tryz.func315.trans (congrArg some (by kernel_rfl))
 f318:=Tryz.func316.trans (congrArg some (by kernel_rfl))
 f319:=Tryz.func317.trans (congrArg some (by kernel_rfl))
 f320:=Tryz.func318.trans (congrArg some (by kernel_rfl))
 f337:=Tryz.func320.trans (congrArg some (by kernel_rfl))
 f338:=Tryz.func321.trans (congrArg some (by kernel_rfl))
 t0:=Tryz.underlying0
 a0:=Tryz.isAgg0
 z0:=Tryz.sizeOf0
 v0:=Tryz.zeroValue0
 t2:=Tryz.underlying2
 a2:=Tryz.isAgg2
 z2:=Tryz.sizeOf2
 v2:=Tryz.zeroValue2
 t3:=Tryz.underlying3
 a3:=Tryz.isAgg3
 z3:=Tryz.sizeOf3
 v3:=Tryz.zeroValue3
 t4:=Tryz.underlying4
 a4:=Tryz.isAgg4
 z4:=Tryz.sizeOf4
 v4:=Tryz.zeroValue4
 t5:=Tryz.underlying5
 a5:=Tryz.isAgg5
 z5:=Tryz.sizeOf5
 v5:=Tryz.zeroValue5
 t9:=Tryz.underlying9
 a9:=Tryz.isAgg9
 z9:=Tryz.sizeOf9
 v9:=Tryz.zeroValue9
 t20:=Tryz.underlying20
 a20:=Tryz.isAgg20
 z20:=Tryz.sizeOf20
 v20:=Tryz.zeroValue20
 t37:=Tryz.underlying199
 a37:=Tryz.isAgg199
 z37:=Tryz.sizeOf199
 v37:=Tryz.zeroValue199
 t46:=Tryz.underlying167
 a46:=Tryz.isAgg167
 z46:=Tryz.sizeOf167
 v46:=Tryz.zeroValue167
 t51:=Tryz.underlying221
 a51:=Tryz.isAgg221
 z51:=Tryz.sizeOf221
 v51:=Tryz.zeroValue221
 t53:=Tryz.underlying223
 a53:=Tryz.isAgg223
 z53:=Tryz.sizeOf223
 v53:=Tryz.zeroValue223
 t171:=Tryz.underlying299
 a171:=Tryz.isAgg299
 z171:=Tryz.sizeOf299
 v171:=Tryz.zeroValue299
 t173:=Tryz.underlying301
 a173:=Tryz.isAgg301
 z173:=Tryz.sizeOf301
 v173:=Tryz.zeroValue301
 t212:=Tryz.underlying306
 a212:=Tryz.isAgg306
 z212:=Tryz.sizeOf306
 v212:=Tryz.zeroValue306
 t213:=Tryz.underlying307
 a213:=Tryz.isAgg307
 z213:=Tryz.sizeOf307
 t232:=Tryz.underlying309
 a232:=Tryz.isAgg309
 z232:=Tryz.sizeOf309
 v232:=Tryz.zeroValue309
 t233:=Tryz.underlying310
 a233:=Tryz.isAgg310
 z233:=Tryz.sizeOf310
 v233:=Tryz.zeroValue310
 g17:=by kernel_rfl
 g18:=by kernel_rfl
 g19:=by kernel_rfl
 i0:=by kernel_rfl
 i2:=by kernel_rfl
 i3:=by kernel_rfl
 i4:=by kernel_rfl
 i5:=by kernel_rfl
 i9:=by kernel_rfl
 i20:=by kernel_rfl
 i37:=by kernel_rfl
 i46:=by kernel_rfl
 i51:=by kernel_rfl
 i53:=by kernel_rfl
 i171:=by kernel_rfl
 i173:=by kernel_rfl
 i212:=by kernel_rfl
 i232:=by kernel_rfl
 i233:=by kernel_rfl
 m17:=by kernel_rfl
 m18:=by kernel_rfl
 m19:=by kernel_rfl }
open Go.RowKit Go.Sort Go.Lib in
theorem Tryz.strconv_Itoa (n : Int) (h0 : -9223372036854775808 <= n) (h1 : n <= 9223372036854775807) (w : World) (htab : Lib.TabIs Tryz.prog w "internal/strconv.uint64pow10" .u64 Lib.pow10Tab) :
  Calls Tryz.prog 246 #[.int .i64 n] w fun e w'=>e = .returned (.string ⟨(Lib.itoa n).toArray⟩) /\ ∃ k os,w' = grow (w.drewN k) os:=Any.strconv_Itoa Tryz.laysM171 n h0 h1 w htab
def Tryz.lays145_ren : Go.Shelf.Ren:=⟨fun | 145=>31 | 220=>61 | 219=>111 | 217=>153 | 225=>154 | 224=>155 | 267=>156 | 266=>207 | 314=>208 | n=>n,fun | 9=>9 | 4=>4 | 59=>62 | 3=>3 | 5=>5 | 46=>167 | 146=>235 | 51=>221 | n=>n,fun | 1=>8 | n=>n⟩
theorem Tryz.lays145 : Go.Proofs.Lays.n145 Tryz.prog Tryz.lays145_ren:={
 mixed:=by kernel_rfl
 f145:=Tryz.func31.trans (congrArg some (by kernel_rfl))
 f217:=Tryz.func153.trans (congrArg some (by kernel_rfl))
 f219:=Tryz.func111.trans (congrArg some (by kernel_rfl))
 f220:=Tryz.func61.trans (congrArg some (by kernel_rfl))
 f224:=Tryz.func155.trans (congrArg some (by kernel_rfl))
 f225:=Tryz.func154.trans (congrArg some (by kernel_rfl))
 f266:=Tryz.func207.trans (congrArg some (by kernel_rfl))
 f267:=Tryz.func156.trans (congrArg some (by kernel_rfl))
 f314:=Tryz.func208.trans (congrArg some (by kernel_rfl))
 t3:=Tryz.underlying3
 a3:=Tryz.isAgg3
 z3:=Tryz.sizeOf3
 v3:=Tryz.zeroValue3
 t4:=Tryz.underlying4
 a4:=Tryz.isAgg4
 z4:=Tryz.sizeOf4
 v4:=Tryz.zeroValue4
 t5:=Tryz.underlying5
 a5:=Tryz.isAgg5
 z5:=Tryz.sizeOf5
 v5:=Tryz.zeroValue5
 t9:=Tryz.underlying9
 a9:=Tryz.isAgg9
 z9:=Tryz.sizeOf9
 v9:=Tryz.zeroValue9
 t46:=Tryz.underlying167
 a46:=Tryz.isAgg167
 z46:=Tryz.sizeOf167
 v46:=Tryz.zeroValue167
 t51:=Tryz.underlying221
 a51:=Tryz.isAgg221
 z51:=Tryz.sizeOf221
 v51:=Tryz.zeroValue221
 t59:=Tryz.underlying62
 a59:=Tryz.isAgg62
 z59:=Tryz.sizeOf62
 v59:=Tryz.zeroValue62
 t146:=Tryz.underlying235
 a146:=Tryz.isAgg235
 z146:=Tryz.sizeOf235
 v146:=Tryz.zeroValue235
 g1:=by kernel_rfl }
open Go.RowKit Go.Lib in
theorem Tryz.strings_Cut (s sep : ByteArray) (m : Int) (w : World) (hs : s.size < 4294967281) (hm : w.cell? ⟨8,0,none⟩ = some (.int .i64 m)) :
  Calls Tryz.prog 31 #[.string s,.string sep] w fun e w'=>e = .returned (.tuple #[.string ⟨(Lib.cut s.data.toList sep.data.toList).1.toArray⟩,.string ⟨(Lib.cut s.data.toList sep.data.toList).2.1.toArray⟩,.bool (Lib.cut s.data.toList sep.data.toList).2.2]) /\ ∃ n,w' = w.drewN n:=Any.strings_Cut Tryz.lays145 s sep m w hs hm
def Tryz.lays99_ren : Go.Shelf.Ren:=⟨fun | 99=>142 | 206=>161 | n=>n,fun | 9=>9 | 4=>4 | 3=>3 | n=>n,fun | n=>n⟩
theorem Tryz.lays99 : Go.Proofs.Lays.n99 Tryz.prog Tryz.lays99_ren:={
 mixed:=by kernel_rfl
 f99:=Tryz.func142.trans (congrArg some (by kernel_rfl))
 f206:=Tryz.func161.trans (congrArg some (by kernel_rfl))
 t3:=Tryz.underlying3
 a3:=Tryz.isAgg3
 z3:=Tryz.sizeOf3
 v3:=Tryz.zeroValue3
 t4:=Tryz.underlying4
 a4:=Tryz.isAgg4
 z4:=Tryz.sizeOf4
 v4:=Tryz.zeroValue4
 t9:=Tryz.underlying9
 a9:=Tryz.isAgg9
 z9:=Tryz.sizeOf9
 v9:=Tryz.zeroValue9 }
open Go.RowKit Go.Lib in
theorem Tryz.strings_HasPrefix (s p : ByteArray) (w : World) :
  Calls Tryz.prog 142 #[.string s,.string p] w fun e w'=>e = .returned (.bool (Lib.hasPrefix s.data.toList p.data.toList)) /\ w' = w:=Any.strings_HasPrefix Tryz.lays99 s p w
def Tryz.lays146_ren : Go.Shelf.Ren:=⟨fun | 146=>69 | 221=>116 | 268=>163 | 138=>30 | 143=>60 | 195=>58 | 197=>159 | 218=>59 | 219=>111 | 260=>211 | 217=>153 | 225=>154 | 224=>155 | 267=>156 | 266=>207 | 314=>208 | n=>n,fun | 9=>9 | 31=>26 | 3=>3 | 4=>4 | 0=>0 | 105=>203 | 21=>21 | 5=>5 | 46=>167 | 119=>270 | 139=>273 | 138=>272 | 146=>235 | 51=>221 | n=>n,fun | 1=>8 | 3=>10 | 4=>11 | n=>n⟩
theorem Tryz.lays146 : Go.Proofs.Lays.n146 Tryz.prog Tryz.lays146_ren:={
 mixed:=by kernel_rfl
 f138:=Tryz.func30.trans (congrArg some (by kernel_rfl))
 f143:=Tryz.func60.trans (congrArg some (by kernel_rfl))
 f146:=Tryz.func69.trans (congrArg some (by kernel_rfl))
 f195:=Tryz.func58.trans (congrArg some (by kernel_rfl))
 f197:=Tryz.func159.trans (congrArg some (by kernel_rfl))
 f217:=Tryz.func153.trans (congrArg some (by kernel_rfl))
 f218:=Tryz.func59.trans (congrArg some (by kernel_rfl))
 f219:=Tryz.func111.trans (congrArg some (by kernel_rfl))
 f221:=Tryz.func116.trans (congrArg some (by kernel_rfl))
 f224:=Tryz.func155.trans (congrArg some (by kernel_rfl))
 f225:=Tryz.func154.trans (congrArg some (by kernel_rfl))
 f260:=Tryz.func211.trans (congrArg some (by kernel_rfl))
 f266:=Tryz.func207.trans (congrArg some (by kernel_rfl))
 f267:=Tryz.func156.trans (congrArg some (by kernel_rfl))
 f268:=Tryz.func163.trans (congrArg some (by kernel_rfl))
 f314:=Tryz.func208.trans (congrArg some (by kernel_rfl))
 t0:=Tryz.underlying0
 a0:=Tryz.isAgg0
 z0:=Tryz.sizeOf0
 v0:=Tryz.zeroValue0
 t3:=Tryz.underlying3
 a3:=Tryz.isAgg3
 z3:=Tryz.sizeOf3
 v3:=Tryz.zeroValue3
 t4:=Tryz.underlying4
 a4:=Tryz.isAgg4
 z4:=Tryz.sizeOf4
 v4:=Tryz.zeroValue4
 t5:=Tryz.underlying5
 a5:=Tryz.isAgg5
 z5:=Tryz.sizeOf5
 v5:=Tryz.zeroValue5
 t9:=Tryz.underlying9
 a9:=Tryz.isAgg9
 z9:=Tryz.sizeOf9
 v9:=Tryz.zeroValue9
 t21:=Tryz.underlying21
 a21:=Tryz.isAgg21
 z21:=Tryz.sizeOf21
 v21:=Tryz.zeroValue21
 t31:=Tryz.underlying26
 a31:=Tryz.isAgg26
 z31:=Tryz.sizeOf26
 v31:=Tryz.zeroValue26
 t46:=Tryz.underlying167
 a46:=Tryz.isAgg167
 z46:=Tryz.sizeOf167
 v46:=Tryz.zeroValue167
 t51:=Tryz.underlying221
 a51:=Tryz.isAgg221
 z51:=Tryz.sizeOf221
 v51:=Tryz.zeroValue221
 t105:=Tryz.underlying203
 a105:=Tryz.isAgg203
 z105:=Tryz.sizeOf203
 v105:=Tryz.zeroValue203
 t119:=Tryz.underlying270
 a119:=Tryz.isAgg270
 z119:=Tryz.sizeOf270
 t138:=Tryz.underlying272
 a138:=Tryz.isAgg272
 z138:=Tryz.sizeOf272
 v138:=Tryz.zeroValue272
 t139:=Tryz.underlying273
 a139:=Tryz.isAgg273
 z139:=Tryz.sizeOf273
 v139:=Tryz.zeroValue273
 t146:=Tryz.underlying235
 a146:=Tryz.isAgg235
 z146:=Tryz.sizeOf235
 v146:=Tryz.zeroValue235
 g1:=by kernel_rfl
 g3:=by kernel_rfl
 g4:=by kernel_rfl }
open Go.RowKit Go.Lib in
theorem Tryz.strings_Split (s sep : ByteArray) (m : Int) (w : World) (hs : s.size < 4294967281) (hm : w.cell? ⟨8,0,none⟩ = some (.int .i64 m)) (h1 : 1 <= sep.size) :
  Calls Tryz.prog 69 #[.string s,.string sep] w fun e w'=>
   e = .returned (.slice (some ⟨w.heap.size,0,none⟩) (Lib.countB s sep + 1) (Lib.countB s sep + 1)) /\ w' = w.alloc (.cells ((Lib.splitB sep 0 (Lib.countB s sep) s).map Value.string).toArray 9):=Any.strings_Split Tryz.lays146 (by kernel_rfl) s sep m w hs hm h1
def Tryz.lays111_ren : Go.Shelf.Ren:=⟨fun | 111=>248 | n=>n,fun | 28=>101 | 3=>3 | 4=>4 | 0=>0 | n=>n,fun | n=>n⟩
theorem Tryz.lays111 : Go.Proofs.Lays.n111 Tryz.prog Tryz.lays111_ren:={
 mixed:=by kernel_rfl
 f111:=Tryz.func248.trans (congrArg some (by kernel_rfl))
 t0:=Tryz.underlying0
 a0:=Tryz.isAgg0
 z0:=Tryz.sizeOf0
 v0:=Tryz.zeroValue0
 t3:=Tryz.underlying3
 a3:=Tryz.isAgg3
 z3:=Tryz.sizeOf3
 v3:=Tryz.zeroValue3
 t4:=Tryz.underlying4
 a4:=Tryz.isAgg4
 z4:=Tryz.sizeOf4
 v4:=Tryz.zeroValue4
 t28:=Tryz.underlying101
 a28:=Tryz.isAgg101
 z28:=Tryz.sizeOf101
 v28:=Tryz.zeroValue101 }
open Go.RowKit Go.Lib in
theorem Tryz.slices_Equal_int (b1 o1 n c b2 o2 m d : Nat) (xs ys : List Int) (w : World) (hx : n <= xs.length) (hy : m <= ys.length) (hbig : n <= 9223372036854775807) (hbig2 : m <= 9223372036854775807) (hc1 : ∀ j,j < xs.length -> w.cell? ⟨b1,o1 + j,none⟩ = some (.int .i64 (xs.getD j 0))) (hc2 : ∀ j,j < ys.length -> w.cell? ⟨b2,o2 + j,none⟩ = some (.int .i64 (ys.getD j 0))) :
  Calls Tryz.prog 248 #[.slice (some ⟨b1,o1,none⟩) n c,.slice (some ⟨b2,o2,none⟩) m d] w fun e w'=>e = .returned (.bool (xs.take n == ys.take m)) /\ ∃ q,w' = w.drewN q:=Any.slices_Equal_int Tryz.lays111 b1 o1 n c b2 o2 m d xs ys w hx hy hbig hbig2 hc1 hc2
end Go.Proofs
