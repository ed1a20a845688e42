/-
  VerG RefF VerR TxA OrdA FileR
-/
import Derived.WalkSmall
import Derived.Deep.RegionHeld
import Derived.Test.YtlcffhadobhfkaaGreatDoorMq2
import Derived.Test.YtlcffhadobhfkaaGreatDoorMq6
import Derived.Test.YtlcffhadobhfkaaGreatDoorMq3
import Derived.Test.YtlcffhadobhfkaaGreatDoorMq5
namespace Go.Proofs.YtlcffhadobhfkaaGreatDoor
open Go.RowKit Go.Sort
namespace Ve
def powName : String := "internal/strconv.uint64pow10"
theorem powAt : Tryz.prog.globalNamed powName = some 14:=by kernel_rfl
theorem tab_below {w w' : World} (h : Lib.TabIs Tryz.prog w powName .u64 Lib.pow10Tab) (hb : Below w.heap.size w w') : Lib.TabIs Tryz.prog w' powName .u64 Lib.pow10Tab:=by
  have hlt : 14 < w.heap.size:=by
    have h1 : w.var? Tryz.prog powName = some _:=h
    unfold World.var? at h1
    rw [powAt] at h1
    simp only [Option.bind_some] at h1
    rcases Nat.lt_or_ge 14 w.heap.size with hh | hh
    · exact hh
    · rw [Array.getElem?_eq_none hh] at h1; cases h1
  exact var?_below hb powAt hlt h
structure Tx (w0 w : World) (N : Nat) (a b c v : Value) : Prop where
  c0 : w.cell? ⟨N,0,none⟩ = some a
  c1 : w.cell? ⟨N,1,none⟩ = some b
  c2 : w.cell? ⟨N,2,none⟩ = some c
  c3 : w.cell? ⟨N,3,none⟩ = some v
  tab : Lib.TabIs Tryz.prog w powName .u64 Lib.pow10Tab
  bl : Below w0.heap.size w0 w
theorem Tx.below {w0 w w' : World} {N : Nat} {a b c v : Value} (h : Tx w0 w N a b c v) (hb : Below w.heap.size w w') : Tx w0 w' N a b c v:=
  ⟨cell_below hb h.c0,cell_below hb h.c1,cell_below hb h.c2,cell_below hb h.c3,tab_below h.tab hb,h.bl.trans (hb.mono h.bl.size)⟩
theorem Tx.start {w : World} {a b c v : Value} {T : TypeId} (h : Lib.TabIs Tryz.prog w powName .u64 Lib.pow10Tab) : Tx w (w.alloc (.cells #[a,b,c,v] T)) w.heap.size a b c v:=
  ⟨by simp,by simp,by simp,by simp,tab_below h ((Below.refl _ _).alloc (Nat.le_refl _) _),(Below.refl _ _).alloc (Nat.le_refl _) _⟩
theorem Tx.held {w0 w : World} {N : Nat} {a b c v : Value} (h : Tx w0 w N a b c v) : w.cell? ⟨N,0,none⟩ = some a /\ w.cell? ⟨N,1,none⟩ = some b /\ w.cell? ⟨N,2,none⟩ = some c /\ w.cell? ⟨N,3,none⟩ = some v /\ Hid (Tx w0 w N a b c v):=
  ⟨h.c0,h.c1,h.c2,h.c3,h⟩
def core3 (a b c : Int) : List UInt8:=[118] ++ Lib.itoa a ++ [46] ++ Lib.itoa b ++ [46] ++ Lib.itoa c
def textOf (a b c : Int) (ps : List (List UInt8)) : List UInt8:=
  if inBB a && inBB b && inBB c && pre ps == 0 then (if ps.isEmpty then core3 a b c else core3 a b c ++ [45] ++ Lib.join ps [46]) else []
theorem rest_drop {l : List UInt8} (h : marked l = true) : restOf l = l.drop 1:=by unfold restOf; rw [if_pos h]
theorem one_no {c : UInt8} {l : List UInt8} (h : l.contains c = false) : one c l = (l,[],false):=by
  unfold one
  have h1 : ∀ x,x ∈ l -> (x != c) = true:=by
    intro x hx
    simp at h ⊢
    intro e; subst e; exact h hx
  have e1 : l.takeWhile (· != c) = l:=by
    induction l with
    | nil=>rfl
    | cons a r ih=>
      have:=h1 a (List.mem_cons_self)
      simp only [List.takeWhile_cons,this,if_true]
      rw [ih (by simp at h ⊢; exact h.2) (fun x hx=>h1 x (List.mem_cons_of_mem _ hx))]
  have e2:=List.takeWhile_append_dropWhile (p:=(· != c)) (l:=l)
  rw [e1] at e2
  have e3 : l.dropWhile (· != c) = []:=by
    have:=congrArg List.length e2
    simp at this
    exact this
  rw [e1,e3,h]; rfl
theorem cb_range : ∀ (a b : List UInt8),Lib.compareBytes a b = -1 \/ Lib.compareBytes a b = 0 \/ Lib.compareBytes a b = 1
  | [],[]=>by simp [Lib.compareBytes]
  | [],_ :: _=>by simp [Lib.compareBytes]
  | _ :: _,[]=>by simp [Lib.compareBytes]
  | a :: x,b :: y=>by
    unfold Lib.compareBytes
    split
    · simp
    · split
      · simp
      · exact cb_range x y
theorem u8_eq {a b : UInt8} (h1 : ¬ a < b) (h2 : ¬ b < a) : a = b:=UInt8.le_antisymm (UInt8.not_lt.1 h2) (UInt8.not_lt.1 h1)
theorem cb_zero : ∀ (a b : List UInt8),Lib.compareBytes a b = 0 ↔ a = b
  | [],[]=>by simp [Lib.compareBytes]
  | [],_ :: _=>by simp [Lib.compareBytes]
  | _ :: _,[]=>by simp [Lib.compareBytes]
  | a :: x,b :: y=>by
    unfold Lib.compareBytes
    by_cases h : a < b
    · rw [if_pos h]
      constructor
      · intro e; cases e
      · intro e; injection e with e1 _; subst e1; exact absurd h (UInt8.lt_irrefl a)
    · rw [if_neg h]
      by_cases h2 : b < a
      · rw [if_pos h2]
        constructor
        · intro e; cases e
        · intro e; injection e with e1 _; subst e1; exact absurd h2 (UInt8.lt_irrefl a)
      · rw [if_neg h2,cb_zero x y,u8_eq h h2]
        simp
theorem cb_swap : ∀ (a b : List UInt8),Lib.compareBytes b a = -Lib.compareBytes a b
  | [],[]=>by simp [Lib.compareBytes]
  | [],_ :: _=>by simp [Lib.compareBytes]
  | _ :: _,[]=>by simp [Lib.compareBytes]
  | a :: x,b :: y=>by
    unfold Lib.compareBytes
    by_cases h : a < b
    · have h2 : ¬ b < a:=fun h3=>UInt8.lt_irrefl a (UInt8.lt_trans h h3)
      rw [if_pos h,if_neg h2,if_pos h]; rfl
    · by_cases h2 : b < a
      · rw [if_pos h2,if_neg h,if_pos h2]
      · rw [if_neg h,if_neg h2,if_neg h2,if_neg h]; exact cb_swap x y
theorem cb_less : ∀ (a b : List UInt8),Op.bytesLess a b = decide (Lib.compareBytes a b < 0)
  | [],[]=>by simp [Lib.compareBytes,Op.bytesLess]
  | [],_ :: _=>by simp [Lib.compareBytes,Op.bytesLess]
  | _ :: _,[]=>by simp [Lib.compareBytes,Op.bytesLess]
  | a :: x,b :: y=>by
    unfold Lib.compareBytes Op.bytesLess
    by_cases h : a < b
    · rw [if_pos h]; simp [h]
    · rw [if_neg h]
      by_cases h2 : b < a
      · rw [if_pos h2]
        have : (a == b) = false:=by
          cases e : (a == b)
          · rfl
          · have:=eq_of_beq e; subst this; exact absurd h2 (UInt8.lt_irrefl a)
        simp [h,this]
      · rw [if_neg h2,u8_eq h h2,cb_less x y]
        simp [UInt8.lt_irrefl]
theorem ci_zero (x y : Int) : Lib.compareInt x y = 0 ↔ x = y:=by
  unfold Lib.compareInt; split
  · constructor <;> intro h <;> omega
  · split
    · constructor <;> intro h <;> omega
    · constructor <;> intro h <;> omega
theorem ci_swap (x y : Int) : Lib.compareInt y x = -Lib.compareInt x y:=by
  unfold Lib.compareInt
  by_cases h : x < y
  · rw [if_pos h,if_neg (by omega),if_pos h]; rfl
  · by_cases h2 : y < x
    · rw [if_pos h2,if_neg h,if_pos h2]
    · rw [if_neg h2,if_neg h,if_neg h,if_neg h2]; rfl
theorem ci_lt {x y : Int} (h : x < y) : Lib.compareInt x y = -1:=by unfold Lib.compareInt; rw [if_pos h]
theorem ci_self (x : Int) : Lib.compareInt x x = 0:=(ci_zero x x).2 rfl
def fst (a b : Int) : Int:=if a = 0 then b else a
theorem fst0 (b : Int) : fst 0 b = b:=rfl
theorem fst_ne {a : Int} (b : Int) (h : a ≠ 0) : fst a b = a:=by unfold fst; rw [if_neg h]
theorem fst_swap {a b a' b' : Int} (ha : a' = -a) (hb : b' = -b) : fst a' b' = -fst a b:=by
  subst ha; subst hb
  unfold fst
  by_cases h : a = 0
  · rw [if_pos h,if_pos (by omega)]
  · rw [if_neg h,if_neg (by omega)]
theorem fst_zero {a b : Int} : fst a b = 0 ↔ a = 0 /\ b = 0:=by
  unfold fst
  by_cases h : a = 0
  · rw [if_pos h]; simp [h]
  · rw [if_neg h]; simp [h]
def ordPart (a b : List UInt8) : Int:=
  if digs a then (if digs b then fst (Lib.compareInt a.length b.length) (Lib.compareBytes a b) else -1) else if digs b then 1 else Lib.compareBytes a b
def ordPs : List (List UInt8) -> List (List UInt8) -> Int
  | [],[]=>0
  | [],_ :: _=>-1
  | _ :: _,[]=>1
  | x :: xs,y :: ys=>fst (ordPart x y) (ordPs xs ys)
def ordPre (a b : List (List UInt8)) : Int:=if a = [] \/ b = [] then Lib.compareInt b.length a.length else ordPs a b
def ordN (x y z : Int) (p : List (List UInt8)) (x' y' z' : Int) (q : List (List UInt8)) : Int:=
  fst (Lib.compareInt x x') (fst (Lib.compareInt y y') (fst (Lib.compareInt z z') (ordPre p q)))
def ordV (s t : List UInt8) : Int:=ordN (nAt s 0) (nAt s 1) (nAt s 2) (preOf s) (nAt t 0) (nAt t 1) (nAt t 2) (preOf t)
def TxAt (w : World) (v : Value) (X : List ByteArray) : Prop:=
  ∃ (a : Option Addr) (c : Nat),v = .slice a X.length c /\ X.length <= c /\ (X ≠ [] -> ∃ b o,a = some ⟨b,o,none⟩ /\ ∀ j (h : j < X.length),w.cell? ⟨b,o + j,none⟩ = some (.string X[j]))
theorem TxAt.below {w w' : World} {v : Value} {X : List ByteArray} (h : TxAt w v X) (hb : Below w.heap.size w w') : TxAt w' v X:=by
  obtain ⟨a,c,e,hc,h⟩:=h
  refine ⟨a,c,e,hc,fun hL=>?_⟩
  obtain ⟨b,o,e2,h2⟩:=h hL
  exact ⟨b,o,e2,fun j hj=>cell_below hb (h2 j hj)⟩
theorem own_tx {w : World} {B : Nat} {e : TypeId} {v : Value} {X : List ByteArray} (h : w.ownsRow B e 1 v X.length (X.map Value.string)) : TxAt w v X:=by
  obtain ⟨_,⟨hv,hn0⟩ | ⟨g,cap,cur,hv,hg,hblk,hcap,hcm,hcs,hct⟩⟩:=h
  · exact ⟨none,0,by rw [hv,hn0],by omega,fun hL=>absurd (List.length_eq_zero_iff.1 hn0) hL⟩
  · refine ⟨_,cap,hv,hcap,fun _=>⟨g,0,rfl,fun j hj=>?_⟩⟩
    have h1 : (X.map Value.string)[j]? = some (.string X[j]):=by simp [hj]
    rw [<- hct,List.getElem?_take,if_pos (by omega)] at h1
    simp only [World.cell?,hblk]
    rw [<- h1]; simp
theorem below_drew {w w' : World} (h : Below w.heap.size w w') (n : Nat) : Below w.heap.size w (w'.drewN n):=h.trans ((below_drawn w' n).mono h.size)
structure Bw (B : Nat) (w w' : World) : Prop where
  be : Below B w w'
  dr : w.drawn <= w'.drawn
theorem Bw.refl (B : Nat) (w : World) : Bw B w w:=⟨Below.refl _ _,Nat.le_refl _⟩
theorem Bw.trans {B : Nat} {a b c : World} (h : Bw B a b) (k : Bw B b c) : Bw B a c:=⟨h.be.trans k.be,Nat.le_trans h.dr k.dr⟩
theorem Bw.mono {B B' : Nat} {w w' : World} (h : Bw B w w') (hB : B' <= B) : Bw B' w w':=⟨h.be.mono hB,h.dr⟩
theorem Bw.size {B : Nat} {w w' : World} (h : Bw B w w') : w.heap.size <= w'.heap.size:=h.be.size
theorem Bw.alloc {B : Nat} {w w' : World} (h : Bw B w w') (hB : B <= w'.heap.size) (o : Obj) : Bw B w (w'.alloc o):=⟨h.be.alloc hB o,h.dr⟩
theorem bw_drew {w w' : World} (h : Bw w.heap.size w w') (n : Nat) : Bw w.heap.size w (w'.drewN n):=⟨below_drew h.be n,Nat.le_trans h.dr (Nat.le_add_right _ _)⟩
theorem p1_any (s t : ByteArray) (A B : Nat) (w : World) (a0 : w.cell? ⟨A,0,none⟩ = some (.string s)) (b0 : w.cell? ⟨B,0,none⟩ = some (.string t)) :
    Calls Tryz.prog 241 #[.pointer (some ⟨A,0,none⟩),.pointer (some ⟨B,0,none⟩)] w fun e w'=>e = .returned (.int .i64 (Lib.compareInt (s.size : Int) (t.size : Int))) /\ w' = w:=by
  have HC:=hid (Tryz.cmp_Compare_int (s.size : Int) (t.size : Int) w)
  go_enter Tryz.func241,Tryz.ntmps241
  go_wp2_with fail
  refine HC.out.mono ?_
  rintro e w' ⟨rfl,rfl⟩
  go_wp2_with fail
  go_ret
  exact ⟨rfl,rfl⟩
theorem p2_any (s t : ByteArray) (A B : Nat) (w : World) (a0 : w.cell? ⟨A,0,none⟩ = some (.string s)) (b0 : w.cell? ⟨B,0,none⟩ = some (.string t)) :
    Calls Tryz.prog 242 #[.pointer (some ⟨A,0,none⟩),.pointer (some ⟨B,0,none⟩)] w fun e w'=>e = .returned (.int .i64 (Lib.compareBytes s.data.toList t.data.toList)) /\ w' = w:=by
  have HC:=hid (Tryz.strings_Compare s t w)
  go_enter Tryz.func242,Tryz.ntmps242
  go_wp2_with fail
  refine HC.out.mono ?_
  rintro e w' ⟨rfl,rfl⟩
  go_wp2_with fail
  go_ret
  exact ⟨rfl,rfl⟩
set_option maxHeartbeats 2000000 in
theorem first_two (k1 k2 : Int) (A B F : Nat) (w : World)
    (h1 : Calls Tryz.prog 241 #[.pointer (some ⟨A,0,none⟩),.pointer (some ⟨B,0,none⟩)] w fun e w'=>e = .returned (.int .i64 k1) /\ w' = w)
    (h2 : Calls Tryz.prog 242 #[.pointer (some ⟨A,0,none⟩),.pointer (some ⟨B,0,none⟩)] w fun e w'=>e = .returned (.int .i64 k2) /\ w' = w)
    (f0 : w.cell? ⟨F,0,none⟩ = some (.func (.func 241) #[] #[.pointer (some ⟨A,0,none⟩),.pointer (some ⟨B,0,none⟩)])) (f1 : w.cell? ⟨F,1,none⟩ = some (.func (.func 242) #[] #[.pointer (some ⟨A,0,none⟩),.pointer (some ⟨B,0,none⟩)])) :
    Calls Tryz.prog 168 #[.slice (some ⟨F,0,none⟩) 2 2] w fun e w'=>e = .returned (.int .i64 (fst k1 k2)) /\ w' = w:=by
  have HX:=hid h1
  have HY:=hid h2
  clear h1 h2
  by_cases z1 : k1 = 0
  · subst z1
    by_cases z2 : k2 = 0
    · subst z2
      go_enter Tryz.func168,Tryz.ntmps168
      go_wp2_with fail
      refine wp_loop_rounds 3 ?_
      rw [rounds_succ]
      go_wp2_with fail
      refine HX.out.mono ?_
      rintro e w' ⟨rfl,rfl⟩
      go_wp2_with fail
      rw [rounds_succ]
      go_wp2_with fail
      refine HY.out.mono ?_
      rintro e w' ⟨rfl,rfl⟩
      go_wp2_with fail
      rw [rounds_succ]
      go_wp2_with fail
      go_ret
      exact ⟨rfl,rfl⟩
    · have b2 : (k2 == 0) = false:=beq_eq_false_iff_ne.2 z2
      have HF:=hid (fst0 k2)
      clear z2
      go_enter Tryz.func168,Tryz.ntmps168
      go_wp2_with fail
      refine wp_loop_rounds 2 ?_
      rw [rounds_succ]
      go_wp2_with fail
      refine HX.out.mono ?_
      rintro e w' ⟨rfl,rfl⟩
      go_wp2_with fail
      rw [rounds_succ]
      go_wp2_with fail
      refine HY.out.mono ?_
      rintro e w' ⟨rfl,rfl⟩
      go_wp2_with fail
      go_ret
      exact ⟨ret_int HF.out.symm,rfl⟩
  · have b1 : (k1 == 0) = false:=beq_eq_false_iff_ne.2 z1
    have HF:=hid (fst_ne k2 z1)
    clear z1
    go_enter Tryz.func168,Tryz.ntmps168
    go_wp2_with fail
    refine wp_loop_rounds 1 ?_
    rw [rounds_succ]
    go_wp2_with fail
    refine HX.out.mono ?_
    rintro e w' ⟨rfl,rfl⟩
    go_wp2_with fail
    go_ret
    exact ⟨ret_int HF.out.symm,rfl⟩
theorem three' (w : World) (A B C : Array Value) (T U : TypeId) (j : Nat) :
    (((w.alloc (.cells A T)).alloc (.cells B T)).alloc (.cells C U)).cell? ⟨w.heap.size,j,none⟩ = A[j]? /\ (((w.alloc (.cells A T)).alloc (.cells B T)).alloc (.cells C U)).cell? ⟨w.heap.size + 1,j,none⟩ = B[j]? /\
    (((w.alloc (.cells A T)).alloc (.cells B T)).alloc (.cells C U)).cell? ⟨w.heap.size + 1 + 1,j,none⟩ = C[j]?:=three w A B C T U j
set_option maxHeartbeats 2000000 in
theorem cpart_bw (s t : ByteArray) (w : World) (hs : s.size <= maxLen) (ht : t.size <= maxLen) :
    Calls Tryz.prog 210 #[.string s,.string t] w fun e w'=>e = .returned (.int .i64 (ordPart s.data.toList t.data.toList)) /\ Bw w.heap.size w w':=by
  have hmf : ∀ (fn : Fn) (first cap : Array Value) (w : World),(Instr.makeFunc fn first cap).run Tryz.prog w = .ok (.func fn first cap) w:=fun _ _ _ _=>rfl
  have HO:=hid (show ordPart s.data.toList t.data.toList = if digs s.data.toList then (if digs t.data.toList then fst (Lib.compareInt (s.size : Int) (t.size : Int)) (Lib.compareBytes s.data.toList t.data.toList) else -1) else if digs t.data.toList then 1 else Lib.compareBytes s.data.toList t.data.toList by
    unfold ordPart; rw [len_eq,len_eq])
  have HS:=hid (fun W=>digits_any s W hs)
  have HT:=hid (fun W=>digits_any t W ht)
  have HC:=hid (fun W=>Tryz.strings_Compare s t W)
  have HB:=hid (((Bw.refl w.heap.size w).alloc (Nat.le_refl _) (.cells #[.string s] 9)).alloc (by simp) (.cells #[.string t] 9))
  clear hs ht
  cases h1 : digs s.data.toList
  all_goals cases h2 : digs t.data.toList
  all_goals rw [h1] at HS HO
  all_goals rw [h2] at HT HO
  all_goals clear h1 h2
  · go_enter Tryz.func210,Tryz.ntmps210
    go_wp2_with fail
    go_quiet (first
      | (go_at_call_of 223 (Value.string s); refine Calls.quiet_of_same (HS.out _))
      | (go_at_call_of 223 (Value.string t); refine Calls.quiet_of_same (HT.out _)))
    go_wp2_with fail
    refine (HC.out _).mono ?_
    rintro e w' ⟨rfl,rfl⟩
    go_wp2_with fail
    go_ret
    exact ⟨ret_int (by rw [HO.out]; rfl),bw_drew HB.out _⟩
  · go_enter Tryz.func210,Tryz.ntmps210
    go_wp2_with fail
    go_quiet (first
      | (go_at_call_of 223 (Value.string s); refine Calls.quiet_of_same (HS.out _))
      | (go_at_call_of 223 (Value.string t); refine Calls.quiet_of_same (HT.out _)))
    go_wp2_with fail
    go_ret
    exact ⟨ret_int (by rw [HO.out]; rfl),bw_drew HB.out _⟩
  · go_enter Tryz.func210,Tryz.ntmps210
    go_wp2_with fail
    go_quiet (first
      | (go_at_call_of 223 (Value.string s); refine Calls.quiet_of_same (HS.out _))
      | (go_at_call_of 223 (Value.string t); refine Calls.quiet_of_same (HT.out _)))
    go_wp2_with fail
    go_ret
    exact ⟨ret_int (by rw [HO.out]; rfl),bw_drew HB.out _⟩
  · go_enter Tryz.func210,Tryz.ntmps210
    go_wp2_with fail
    go_quiet (first
      | (go_at_call_of 223 (Value.string s); refine Calls.quiet_of_same (HS.out _))
      | (go_at_call_of 223 (Value.string t); refine Calls.quiet_of_same (HT.out _)))
    go_wp2_with fail
    refine (first_two (Lib.compareInt (s.size : Int) (t.size : Int)) (Lib.compareBytes s.data.toList t.data.toList) w.heap.size (w.heap.size + 1) (w.heap.size + 1 + 1) _ (p1_any s t _ _ _ ?_ ?_) (p2_any s t _ _ _ ?_ ?_) ?_ ?_).mono ?_
    · exact (three' w _ _ _ _ _ 0).1.trans rfl
    · exact (three' w _ _ _ _ _ 0).2.1.trans rfl
    · exact (three' w _ _ _ _ _ 0).1.trans rfl
    · exact (three' w _ _ _ _ _ 0).2.1.trans rfl
    · exact (three' w _ _ _ _ _ 0).2.2.trans rfl
    · exact (three' w _ _ _ _ _ 1).2.2.trans rfl
    rintro e w' ⟨rfl,rfl⟩
    go_wp2_with fail
    go_ret
    exact ⟨ret_int (by rw [HO.out]; rfl),(bw_drew HB.out nq).alloc (by simp [World.drewN]; omega) _⟩
theorem cbt : ∀ (a b c : List UInt8),Lib.compareBytes a b < 0 -> Lib.compareBytes b c < 0 -> Lib.compareBytes a c < 0:=by
  intro a
  induction a with
  | nil=>
    intro b c h1 h2
    cases c with
    | nil=>cases b <;> simp [Lib.compareBytes] at h2
    | cons z c=>simp [Lib.compareBytes]
  | cons x a ih=>
    intro b c h1 h2
    cases b with
    | nil=>simp [Lib.compareBytes] at h1
    | cons y b=>
      cases c with
      | nil=>simp [Lib.compareBytes] at h2
      | cons z c=>
        simp only [Lib.compareBytes] at h1 h2 ⊢
        by_cases e1 : x < y
        · by_cases e2 : y < z
          · rw [if_pos (UInt8.lt_trans e1 e2)]; omega
          · rw [if_neg e2] at h2
            by_cases e3 : z < y
            · rw [if_pos e3] at h2; omega
            · have : y = z:=UInt8.le_antisymm (UInt8.not_lt.1 e3) (UInt8.not_lt.1 e2)
              subst this
              rw [if_pos e1]; omega
        · rw [if_neg e1] at h1
          by_cases e2 : y < x
          · rw [if_pos e2] at h1; omega
          · have : x = y:=UInt8.le_antisymm (UInt8.not_lt.1 e2) (UInt8.not_lt.1 e1)
            subst this
            rw [if_neg e2] at h1
            by_cases e3 : x < z
            · rw [if_pos e3]; omega
            · rw [if_neg e3] at h2 ⊢
              by_cases e4 : z < x
              · rw [if_pos e4] at h2; omega
              · rw [if_neg e4] at h2 ⊢
                exact ih b c h1 h2
def lt (a b : ByteArray) : Bool:=decide (Lib.compareBytes a.data.toList b.data.toList < 0)
theorem lt_trans {a b c : ByteArray} (h1 : lt a b = true) (h2 : lt b c = true) : lt a c = true:=decide_eq_true (cbt _ _ _ (of_decide_eq_true h1) (of_decide_eq_true h2))
theorem lt_irrefl (a : ByteArray) : lt a a = false:=by
  unfold lt; rw [(cb_zero _ _).2 rfl]; rfl
theorem lt_asymm {a b : ByteArray} (h : lt a b = true) : lt b a = false:=by
  cases h2 : lt b a
  · rfl
  · have:=lt_trans h h2
    rw [lt_irrefl] at this; cases this
def rising (R : List Bm) : Prop:=R.Pairwise (fun a b=>lt a.1 b.1 = true)
end Ve
end Go.Proofs.YtlcffhadobhfkaaGreatDoor
