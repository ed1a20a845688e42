
import Derived.Test.YtjbmjnbkibmkpaaGreatDoorGt3
import Derived.OwnWalk
set_option maxHeartbeats 8000000
namespace Go.Proofs.YtjbmjnbkibmkpaaGreatDoor
open Go.RowKit
namespace Ve
def elems (l : List UInt8) : List (List UInt8):=cutAt 47 l
def lastOf (l : List UInt8) : List UInt8:=(elems l).getD ((elems l).length - 1) []
def badE (l : List UInt8) : Bool:=(elems l).any fun e=>!elemOk e
def longE (l : List UInt8) : Bool:=decide (5 < (elems l).length) || (elems l).any long
def sufE (l : List UInt8) : Bool:=decide (1 < (elems l).length) && likeB (lastOf l)
def pathErr (l : List UInt8) : Nat:=if badE l then 1 else if longE l then 2 else if sufE l && !sufOk (lastOf l) then 4 else 0
def pathN (l : List UInt8) : Int:=if sufE l then (num (restOf (lastOf l))).1 else 0
def pathH (l : List UInt8) : List UInt8:=if sufE l then Lib.join ((elems l).take ((elems l).length - 1)) [47] else l
theorem elems_pos (l : List UInt8) : 0 < (elems l).length:=List.length_pos_iff.2 (cutAt_ne 47 _)
theorem last_get {l : List UInt8} {X : List ByteArray} (h : bl X = elems l) (hp : X.length - 1 < X.length) : X[X.length - 1].data.toList = lastOf l:=by
 unfold lastOf
 have hl : (elems l).length = X.length:=by rw [<- h,bl_len]
 rw [hl,List.getD_eq_getElem?_getD,<- h]
 unfold bl
 rw [List.getElem?_map,List.getElem?_eq_getElem hp]; rfl
theorem path_bad (s : ByteArray) (A : Nat -> Addr) (m : Int) (w : World) (hs : s.size < 4294967281) (S : Te w A m) (h1 : badE s.data.toList = true) :
  Calls Tryz.prog 72 #[.string s] w fun e w'=>e = .returned (.tuple #[.string ⟨#[]⟩,.int .i64 0,.iface 311 (.pointer (some (A 0)))]) /\ Below w.heap.size w w':=by
 have H1:=hid (show ((elems s.data.toList).any fun e=>!elemOk e) = true from h1)
 clear h1
 have hmf : ∀ (fn : Fn) (first cap : Array Value) (w : World),(Instr.makeFunc fn first cap).run Tryz.prog w = .ok (.func fn first cap) w:=fun _ _ _ _=>rfl
 have HS:=hid S
 clear S
 go_enter Tryz.func72,Tryz.ntmps72
 go_wp2_with fail
 refine (split_any 47 s m w hs HS.out.ml).mono ?_
 rintro e w1 ⟨X,rfl,hX,hc,hb,hz⟩
 have HX:=hid (show bl X = elems s.data.toList from hX)
 have HC:=hid hc
 have HB:=hid hb
 have HS1:=hid (HS.out.below hb)
 have hn:=many_le hX
 have HXS:=hid (show ∀ x,x ∈ X -> x.size < 4294967281 from fun x hx=>by have:=piece_le hX hx; omega)
 have HLN:=hid (show X.length = (elems s.data.toList).length by rw [<- HX.out,bl_len])
 clear hX hc hb
 go_wp2_with fail
 refine (has1 w.heap.size X.length X m w1 (by omega) HC.out HS1.out.ml HXS.out).mono ?_
 rintro e w2 ⟨rfl,hb2⟩
 have HB2:=hid (HB.out.trans (hb2.mono HB.out.size))
 have HS2:=hid (HS1.out.below hb2)
 have HC2:=hid (show ∀ j (h : j < X.length),w2.cell? ⟨w.heap.size,0 + j,none⟩ = some (.string X[j]) from fun j h=>cell_below hb2 (HC.out j h))
 rw [HX.out,H1.out]
 clear hb2
 have g0:=HS2.out.sen.g0
 go_wp2_with fail
 go_quiet (fail)
 go_wp2_with fail
 go_ret3
 exact ⟨rfl,HB2.out.trans ((below_drawn _ _).mono HB2.out.size)⟩
theorem path_many (s : ByteArray) (A : Nat -> Addr) (m : Int) (w : World) (hs : s.size < 4294967281) (S : Te w A m) (h1 : badE s.data.toList = false) (h2 : 5 < (elems s.data.toList).length) :
  Calls Tryz.prog 72 #[.string s] w fun e w'=>e = .returned (.tuple #[.string ⟨#[]⟩,.int .i64 0,.iface 311 (.pointer (some (A 1)))]) /\ Below w.heap.size w w':=by
 have H1:=hid (show ((elems s.data.toList).any fun e=>!elemOk e) = false from h1)
 clear h1
 have hmf : ∀ (fn : Fn) (first cap : Array Value) (w : World),(Instr.makeFunc fn first cap).run Tryz.prog w = .ok (.func fn first cap) w:=fun _ _ _ _=>rfl
 have HS:=hid S
 clear S
 go_enter Tryz.func72,Tryz.ntmps72
 go_wp2_with fail
 refine (split_any 47 s m w hs HS.out.ml).mono ?_
 rintro e w1 ⟨X,rfl,hX,hc,hb,hz⟩
 have HX:=hid (show bl X = elems s.data.toList from hX)
 have HC:=hid hc
 have HB:=hid hb
 have HS1:=hid (HS.out.below hb)
 have hn:=many_le hX
 have HXS:=hid (show ∀ x,x ∈ X -> x.size < 4294967281 from fun x hx=>by have:=piece_le hX hx; omega)
 have HLN:=hid (show X.length = (elems s.data.toList).length by rw [<- HX.out,bl_len])
 clear hX hc hb
 go_wp2_with fail
 refine (has1 w.heap.size X.length X m w1 (by omega) HC.out HS1.out.ml HXS.out).mono ?_
 rintro e w2 ⟨rfl,hb2⟩
 have HB2:=hid (HB.out.trans (hb2.mono HB.out.size))
 have HS2:=hid (HS1.out.below hb2)
 have HC2:=hid (show ∀ j (h : j < X.length),w2.cell? ⟨w.heap.size,0 + j,none⟩ = some (.string X[j]) from fun j h=>cell_below hb2 (HC.out j h))
 rw [HX.out,H1.out]
 clear hb2
 have g1:=HS2.out.sen.g1
 have h5 : decide (5 < (X.length : Int)) = true:=decide_eq_true (by have:=HLN.out; omega)
 go_wp2_with fail
 go_quiet (fail)
 go_wp2_with fail
 go_ret3
 exact ⟨rfl,HB2.out.trans ((below_drawn _ _).mono HB2.out.size)⟩
theorem path_long (s : ByteArray) (A : Nat -> Addr) (m : Int) (w : World) (hs : s.size < 4294967281) (S : Te w A m) (h1 : badE s.data.toList = false) (h5 : (elems s.data.toList).length <= 5) (h2 : (elems s.data.toList).any long = true) :
  Calls Tryz.prog 72 #[.string s] w fun e w'=>e = .returned (.tuple #[.string ⟨#[]⟩,.int .i64 0,.iface 311 (.pointer (some (A 1)))]) /\ Below w.heap.size w w':=by
 have H1:=hid (show ((elems s.data.toList).any fun e=>!elemOk e) = false from h1)
 have H2:=hid h2
 clear h1 h2
 have hmf : ∀ (fn : Fn) (first cap : Array Value) (w : World),(Instr.makeFunc fn first cap).run Tryz.prog w = .ok (.func fn first cap) w:=fun _ _ _ _=>rfl
 have HS:=hid S
 clear S
 go_enter Tryz.func72,Tryz.ntmps72
 go_wp2_with fail
 refine (split_any 47 s m w hs HS.out.ml).mono ?_
 rintro e w1 ⟨X,rfl,hX,hc,hb,hz⟩
 have HX:=hid (show bl X = elems s.data.toList from hX)
 have HC:=hid hc
 have HB:=hid hb
 have HS1:=hid (HS.out.below hb)
 have hn:=many_le hX
 have HXS:=hid (show ∀ x,x ∈ X -> x.size < 4294967281 from fun x hx=>by have:=piece_le hX hx; omega)
 have HLN:=hid (show X.length = (elems s.data.toList).length by rw [<- HX.out,bl_len])
 clear hX hc hb
 go_wp2_with fail
 refine (has1 w.heap.size X.length X m w1 (by omega) HC.out HS1.out.ml HXS.out).mono ?_
 rintro e w2 ⟨rfl,hb2⟩
 have HB2:=hid (HB.out.trans (hb2.mono HB.out.size))
 have HS2:=hid (HS1.out.below hb2)
 have HC2:=hid (show ∀ j (h : j < X.length),w2.cell? ⟨w.heap.size,0 + j,none⟩ = some (.string X[j]) from fun j h=>cell_below hb2 (HC.out j h))
 rw [HX.out,H1.out]
 clear hb2
 have h5b : decide (5 < (X.length : Int)) = false:=decide_eq_false (by have:=HLN.out; omega)
 go_wp2_with fail
 refine (has2 w.heap.size X.length X w2 (by omega) HC2.out).mono ?_
 rintro e w3 ⟨rfl,hb3⟩
 have HB3:=hid (HB2.out.trans (hb3.mono HB2.out.size))
 have HS3:=hid (HS2.out.below hb3)
 have HC3:=hid (show ∀ j (h : j < X.length),w3.cell? ⟨w.heap.size,0 + j,none⟩ = some (.string X[j]) from fun j h=>cell_below hb3 (HC2.out j h))
 rw [HX.out,H2.out]
 clear hb3
 have g1:=HS3.out.sen.g1
 go_wp2_with fail
 go_quiet (fail)
 go_wp2_with fail
 go_ret3
 exact ⟨rfl,HB3.out.trans ((below_drawn _ _).mono HB3.out.size)⟩
theorem path_one (s : ByteArray) (A : Nat -> Addr) (m : Int) (w : World) (hs : s.size < 4294967281) (S : Te w A m) (h1 : badE s.data.toList = false) (h2 : (elems s.data.toList).any long = false) (h0 : (elems s.data.toList).length = 1) :
  Calls Tryz.prog 72 #[.string s] w fun e w'=>e = .returned (.tuple #[.string s,.int .i64 0,.nilIface]) /\ Below w.heap.size w w':=by
 have H1:=hid (show ((elems s.data.toList).any fun e=>!elemOk e) = false from h1)
 have H2:=hid h2
 clear h1 h2
 have hmf : ∀ (fn : Fn) (first cap : Array Value) (w : World),(Instr.makeFunc fn first cap).run Tryz.prog w = .ok (.func fn first cap) w:=fun _ _ _ _=>rfl
 have HS:=hid S
 clear S
 go_enter Tryz.func72,Tryz.ntmps72
 go_wp2_with fail
 refine (split_any 47 s m w hs HS.out.ml).mono ?_
 rintro e w1 ⟨X,rfl,hX,hc,hb,hz⟩
 have HX:=hid (show bl X = elems s.data.toList from hX)
 have HC:=hid hc
 have HB:=hid hb
 have HS1:=hid (HS.out.below hb)
 have hn:=many_le hX
 have HXS:=hid (show ∀ x,x ∈ X -> x.size < 4294967281 from fun x hx=>by have:=piece_le hX hx; omega)
 have HLN:=hid (show X.length = (elems s.data.toList).length by rw [<- HX.out,bl_len])
 clear hX hc hb
 go_wp2_with fail
 refine (has1 w.heap.size X.length X m w1 (by omega) HC.out HS1.out.ml HXS.out).mono ?_
 rintro e w2 ⟨rfl,hb2⟩
 have HB2:=hid (HB.out.trans (hb2.mono HB.out.size))
 have HS2:=hid (HS1.out.below hb2)
 have HC2:=hid (show ∀ j (h : j < X.length),w2.cell? ⟨w.heap.size,0 + j,none⟩ = some (.string X[j]) from fun j h=>cell_below hb2 (HC.out j h))
 rw [HX.out,H1.out]
 clear hb2
 obtain ⟨x,rfl⟩:=List.length_eq_one_iff.1 (HLN.out.trans h0)
 have h5b : decide (5 < (([x] : List ByteArray).length : Int)) = false:=decide_eq_false (by have:=HLN.out; omega)
 go_wp2_with fail
 refine (has2 w.heap.size 1 [x] w2 (by omega) HC2.out).mono ?_
 rintro e w3 ⟨rfl,hb3⟩
 have HB3:=hid (HB2.out.trans (hb3.mono HB2.out.size))
 have HS3:=hid (HS2.out.below hb3)
 have HC3:=hid (show ∀ j (h : j < ([x] : List ByteArray).length),w3.cell? ⟨w.heap.size,0 + j,none⟩ = some (.string ([x] : List ByteArray)[j]) from fun j h=>cell_below hb3 (HC2.out j h))
 rw [HX.out,H2.out]
 clear hb3
 go_wp2_with fail
 go_ret3
 exact ⟨rfl,HB3.out⟩
theorem path_unlike (s : ByteArray) (A : Nat -> Addr) (m : Int) (w : World) (hs : s.size < 4294967281) (S : Te w A m) (h1 : badE s.data.toList = false) (h5 : (elems s.data.toList).length <= 5) (h2 : (elems s.data.toList).any long = false) (h0 : 1 < (elems s.data.toList).length) (hk : likeB (lastOf s.data.toList) = false) :
  Calls Tryz.prog 72 #[.string s] w fun e w'=>e = .returned (.tuple #[.string s,.int .i64 0,.nilIface]) /\ Below w.heap.size w w':=by
 have H1:=hid (show ((elems s.data.toList).any fun e=>!elemOk e) = false from h1)
 have H2:=hid h2
 have HK:=hid hk
 clear h1 h2 hk
 have hmf : ∀ (fn : Fn) (first cap : Array Value) (w : World),(Instr.makeFunc fn first cap).run Tryz.prog w = .ok (.func fn first cap) w:=fun _ _ _ _=>rfl
 have HS:=hid S
 clear S
 go_enter Tryz.func72,Tryz.ntmps72
 go_wp2_with fail
 refine (split_any 47 s m w hs HS.out.ml).mono ?_
 rintro e w1 ⟨X,rfl,hX,hc,hb,hz⟩
 have HX:=hid (show bl X = elems s.data.toList from hX)
 have HC:=hid hc
 have HB:=hid hb
 have HS1:=hid (HS.out.below hb)
 have hn:=many_le hX
 have HXS:=hid (show ∀ x,x ∈ X -> x.size < 4294967281 from fun x hx=>by have:=piece_le hX hx; omega)
 have HLN:=hid (show X.length = (elems s.data.toList).length by rw [<- HX.out,bl_len])
 clear hX hc hb
 go_wp2_with fail
 refine (has1 w.heap.size X.length X m w1 (by omega) HC.out HS1.out.ml HXS.out).mono ?_
 rintro e w2 ⟨rfl,hb2⟩
 have HB2:=hid (HB.out.trans (hb2.mono HB.out.size))
 have HS2:=hid (HS1.out.below hb2)
 have HC2:=hid (show ∀ j (h : j < X.length),w2.cell? ⟨w.heap.size,0 + j,none⟩ = some (.string X[j]) from fun j h=>cell_below hb2 (HC.out j h))
 rw [HX.out,H1.out]
 clear hb2
 have h5b : decide (5 < (X.length : Int)) = false:=decide_eq_false (by have:=HLN.out; omega)
 go_wp2_with fail
 refine (has2 w.heap.size X.length X w2 (by omega) HC2.out).mono ?_
 rintro e w3 ⟨rfl,hb3⟩
 have HB3:=hid (HB2.out.trans (hb3.mono HB2.out.size))
 have HS3:=hid (HS2.out.below hb3)
 have HC3:=hid (show ∀ j (h : j < X.length),w3.cell? ⟨w.heap.size,0 + j,none⟩ = some (.string X[j]) from fun j h=>cell_below hb3 (HC2.out j h))
 rw [HX.out,H2.out]
 clear hb3
 have hp : X.length - 1 < X.length:=by have:=HLN.out; omega
 have hx : w3.cell? ⟨w.heap.size,X.length - 1,none⟩ = some (.string X[X.length - 1]):=by have:=HC3.out (X.length - 1) hp; rw [Nat.zero_add] at this; exact this
 have HLT:=hid (last_get HX.out hp)
 have HLS:=hid (HXS.out _ (List.getElem_mem hp))
 have hi1 : ((X.length : Int) - 1) = ((X.length - 1 : Nat) : Int):=by have:=HLN.out; omega
 have hi2 : (((X.length - 1 : Nat) : Int) == 0) = false:=beq_eq_false_iff_ne.2 (by have:=HLN.out; omega)
 generalize hZ : X[X.length - 1] = Z at *
 generalize hN : X.length - 1 = n at *
 go_wp2_with fail
 refine (like_any Z w3 HLS.out).mono ?_
 rintro e w' ⟨rfl,rfl⟩
 rw [HLT.out,HK.out]
 go_wp2_with fail
 go_ret3
 exact ⟨rfl,HB3.out⟩
theorem suffix_no (s : ByteArray) (A : Nat -> Addr) (m : Int) (w : World) (hs : s.size < 4294967281) (S : Te w A m) (h : sufOk s.data.toList = false) :
  Calls Tryz.prog 123 #[.string s] w fun e w'=>e = .returned (.tuple #[.int .i64 0,.iface 311 (.pointer (some (A 3)))]) /\ Below w.heap.size w w':=by
 have:=suffix_any s A m w hs S
 rw [h] at this
 exact this
theorem suffix_yes (s : ByteArray) (A : Nat -> Addr) (m : Int) (w : World) (hs : s.size < 4294967281) (S : Te w A m) (h : sufOk s.data.toList = true) :
  Calls Tryz.prog 123 #[.string s] w fun e w'=>e = .returned (.tuple #[.int .i64 (num (restOf s.data.toList)).1,.nilIface]) /\ Below w.heap.size w w':=by
 have:=suffix_any s A m w hs S
 rw [h] at this
 exact this
theorem join_snoc (c : UInt8) (ps : List (List UInt8)) (h : ps ≠ []) (q : List UInt8) : Lib.join (ps ++ [q]) [c] = Lib.join ps [c] ++ ([c] ++ q):=by
 cases ps with
 | nil=>exact absurd rfl h
 | cons p r=>
  simp only [List.cons_append,Lib.join_cons,Lib.joinTail]
  simp
theorem join_app (c : UInt8) (qs : List (List UInt8)) : ∀ ps : List (List UInt8),(Lib.join ps [c]).length <= (Lib.join (ps ++ qs) [c]).length:=by
 induction qs with
 | nil=>intro ps; simp
 | cons q r ih=>
  intro ps
  have h1 : (Lib.join ps [c]).length <= (Lib.join (ps ++ [q]) [c]).length:=by
   by_cases h : ps = []
   ·subst h; simp [Lib.join]
   ·rw [join_snoc c ps h q]; simp
  have h2:=ih (ps ++ [q])
  rw [List.append_assoc] at h2
  exact Nat.le_trans h1 h2
theorem join_take (X : List ByteArray) (l : List UInt8) (hX : bl X = elems l) (n : Nat) : (Lib.join (bl (X.take n)) [47]).length <= l.length:=by
 have h:=join_app 47 (bl (X.drop n)) (bl (X.take n))
 have e : bl (X.take n) ++ bl (X.drop n) = bl X:=by unfold bl; rw [<- List.map_append,List.take_append_drop]
 rw [e,hX] at h
 unfold elems at h
 rw [join_cut] at h
 exact h
theorem path_major (s : ByteArray) (A : Nat -> Addr) (m : Int) (w : World) (hs : s.size < 4294967281) (S : Te w A m) (h1 : badE s.data.toList = false) (h5 : (elems s.data.toList).length <= 5) (h2 : (elems s.data.toList).any long = false) (h0 : 1 < (elems s.data.toList).length) (hk : likeB (lastOf s.data.toList) = true) (ho : sufOk (lastOf s.data.toList) = false) :
  Calls Tryz.prog 72 #[.string s] w fun e w'=>e = .returned (.tuple #[.string ⟨#[]⟩,.int .i64 0,.iface 311 (.pointer (some (A 3)))]) /\ Below w.heap.size w w':=by
 have H1:=hid (show ((elems s.data.toList).any fun e=>!elemOk e) = false from h1)
 have H2:=hid h2
 have HK:=hid hk
 have HO:=hid ho
 clear h1 h2 hk ho
 have hmf : ∀ (fn : Fn) (first cap : Array Value) (w : World),(Instr.makeFunc fn first cap).run Tryz.prog w = .ok (.func fn first cap) w:=fun _ _ _ _=>rfl
 have HS:=hid S
 clear S
 go_enter Tryz.func72,Tryz.ntmps72
 go_wp2_with fail
 refine (split_any 47 s m w hs HS.out.ml).mono ?_
 rintro e w1 ⟨X,rfl,hX,hc,hb,hz⟩
 have HX:=hid (show bl X = elems s.data.toList from hX)
 have HC:=hid hc
 have HB:=hid hb
 have HS1:=hid (HS.out.below hb)
 have hn:=many_le hX
 have HXS:=hid (show ∀ x,x ∈ X -> x.size < 4294967281 from fun x hx=>by have:=piece_le hX hx; omega)
 have HLN:=hid (show X.length = (elems s.data.toList).length by rw [<- HX.out,bl_len])
 clear hX hc hb
 go_wp2_with fail
 refine (has1 w.heap.size X.length X m w1 (by omega) HC.out HS1.out.ml HXS.out).mono ?_
 rintro e w2 ⟨rfl,hb2⟩
 have HB2:=hid (HB.out.trans (hb2.mono HB.out.size))
 have HS2:=hid (HS1.out.below hb2)
 have HC2:=hid (show ∀ j (h : j < X.length),w2.cell? ⟨w.heap.size,0 + j,none⟩ = some (.string X[j]) from fun j h=>cell_below hb2 (HC.out j h))
 rw [HX.out,H1.out]
 clear hb2
 have h5b : decide (5 < (X.length : Int)) = false:=decide_eq_false (by have:=HLN.out; omega)
 go_wp2_with fail
 refine (has2 w.heap.size X.length X w2 (by omega) HC2.out).mono ?_
 rintro e w3 ⟨rfl,hb3⟩
 have HB3:=hid (HB2.out.trans (hb3.mono HB2.out.size))
 have HS3:=hid (HS2.out.below hb3)
 have HC3:=hid (show ∀ j (h : j < X.length),w3.cell? ⟨w.heap.size,0 + j,none⟩ = some (.string X[j]) from fun j h=>cell_below hb3 (HC2.out j h))
 rw [HX.out,H2.out]
 clear hb3
 have hp : X.length - 1 < X.length:=by have:=HLN.out; omega
 have hx : w3.cell? ⟨w.heap.size,X.length - 1,none⟩ = some (.string X[X.length - 1]):=by have:=HC3.out (X.length - 1) hp; rw [Nat.zero_add] at this; exact this
 have HLT:=hid (last_get HX.out hp)
 have HLS:=hid (HXS.out _ (List.getElem_mem hp))
 have hi1 : ((X.length : Int) - 1) = ((X.length - 1 : Nat) : Int):=by have:=HLN.out; omega
 have hi2 : (((X.length - 1 : Nat) : Int) == 0) = false:=beq_eq_false_iff_ne.2 (by have:=HLN.out; omega)
 generalize hZ : X[X.length - 1] = Z at *
 generalize hN : X.length - 1 = n at *
 go_wp2_with fail
 refine (like_any Z w3 HLS.out).mono ?_
 rintro e w' ⟨rfl,rfl⟩
 rw [HLT.out,HK.out]
 go_wp2_with fail
 refine (suffix_no Z A m w' HLS.out HS3.out (by rw [HLT.out]; exact HO.out)).mono ?_
 rintro e w4 ⟨rfl,hb4⟩
 have HB4:=hid (HB3.out.trans (hb4.mono HB3.out.size))
 clear hb4
 go_wp2_with fail
 go_ret3
 exact ⟨rfl,HB4.out⟩
theorem path_suffix (s : ByteArray) (A : Nat -> Addr) (m : Int) (w : World) (hs : s.size < 4294967281) (S : Te w A m) (h1 : badE s.data.toList = false) (h5 : (elems s.data.toList).length <= 5) (h2 : (elems s.data.toList).any long = false) (h0 : 1 < (elems s.data.toList).length) (hk : likeB (lastOf s.data.toList) = true) (ho : sufOk (lastOf s.data.toList) = true) :
  Calls Tryz.prog 72 #[.string s] w fun e w'=>(∃ H : ByteArray,e = .returned (.tuple #[.string H,.int .i64 (num (restOf (lastOf s.data.toList))).1,.nilIface]) /\ H.data.toList = Lib.join ((elems s.data.toList).take ((elems s.data.toList).length - 1)) [47]) /\ Below w.heap.size w w':=by
 have H1:=hid (show ((elems s.data.toList).any fun e=>!elemOk e) = false from h1)
 have H2:=hid h2
 have HK:=hid hk
 have HO:=hid ho
 clear h1 h2 hk ho
 have hmf : ∀ (fn : Fn) (first cap : Array Value) (w : World),(Instr.makeFunc fn first cap).run Tryz.prog w = .ok (.func fn first cap) w:=fun _ _ _ _=>rfl
 have HS:=hid S
 clear S
 go_enter Tryz.func72,Tryz.ntmps72
 go_wp2_with fail
 refine (split_any 47 s m w hs HS.out.ml).mono ?_
 rintro e w1 ⟨X,rfl,hX,hc,hb,hz⟩
 have HX:=hid (show bl X = elems s.data.toList from hX)
 have HC:=hid hc
 have HB:=hid hb
 have HS1:=hid (HS.out.below hb)
 have hn:=many_le hX
 have HXS:=hid (show ∀ x,x ∈ X -> x.size < 4294967281 from fun x hx=>by have:=piece_le hX hx; omega)
 have HLN:=hid (show X.length = (elems s.data.toList).length by rw [<- HX.out,bl_len])
 clear hX hc hb
 go_wp2_with fail
 refine (has1 w.heap.size X.length X m w1 (by omega) HC.out HS1.out.ml HXS.out).mono ?_
 rintro e w2 ⟨rfl,hb2⟩
 have HB2:=hid (HB.out.trans (hb2.mono HB.out.size))
 have HS2:=hid (HS1.out.below hb2)
 have HC2:=hid (show ∀ j (h : j < X.length),w2.cell? ⟨w.heap.size,0 + j,none⟩ = some (.string X[j]) from fun j h=>cell_below hb2 (HC.out j h))
 rw [HX.out,H1.out]
 clear hb2
 have h5b : decide (5 < (X.length : Int)) = false:=decide_eq_false (by have:=HLN.out; omega)
 go_wp2_with fail
 refine (has2 w.heap.size X.length X w2 (by omega) HC2.out).mono ?_
 rintro e w3 ⟨rfl,hb3⟩
 have HB3:=hid (HB2.out.trans (hb3.mono HB2.out.size))
 have HS3:=hid (HS2.out.below hb3)
 have HC3:=hid (show ∀ j (h : j < X.length),w3.cell? ⟨w.heap.size,0 + j,none⟩ = some (.string X[j]) from fun j h=>cell_below hb3 (HC2.out j h))
 rw [HX.out,H2.out]
 clear hb3
 have HJ:=hid (fun W (hW : Below w3.heap.size w3 W)=>Tryz.strings_Join w.heap.size 0 X.length (X.take (X.length - 1)) ⟨#[47]⟩ W (fun j x hx=>by
   have hj : j < (X.take (X.length - 1)).length:=by
    rcases Nat.lt_or_ge j (X.take (X.length - 1)).length with h | h
    ·exact h
    ·rw [List.getElem?_eq_none h] at hx; cases hx
   have hj2 : j < X.length:=by rw [List.length_take] at hj; omega
   have hx2 : X[j] = x:=by
    rw [List.getElem?_eq_getElem hj,List.getElem_take] at hx
    exact Option.some.inj hx
   rw [<- hx2]
   exact cell_below hW (HC3.out j hj2)) (by
   have h1:=lt_of_cell (HC3.out 0 (by have:=HLN.out; omega))
   have h2:=hW.size
   simp at h1; omega) (by rw [List.length_take]; omega) (by rw [List.length_take]; omega) (by
   have:=join_take X s.data.toList HX.out (X.length - 1)
   rw [len_eq] at this
   show (Lib.join (bl (X.take (X.length - 1))) [47]).length <= _
   omega))
 rw [show (X.take (X.length - 1)).length = X.length - 1 by rw [List.length_take]; omega] at HJ
 have HJT:=hid (show Lib.join (bl (X.take (X.length - 1))) [47] = Lib.join ((elems s.data.toList).take ((elems s.data.toList).length - 1)) [47] by
  rw [<- HX.out,bl_len]; unfold bl; rw [List.map_take])
 have hp : X.length - 1 < X.length:=by have:=HLN.out; omega
 have hx : w3.cell? ⟨w.heap.size,X.length - 1,none⟩ = some (.string X[X.length - 1]):=by have:=HC3.out (X.length - 1) hp; rw [Nat.zero_add] at this; exact this
 have HLT:=hid (last_get HX.out hp)
 have HLS:=hid (HXS.out _ (List.getElem_mem hp))
 have hi1 : ((X.length : Int) - 1) = ((X.length - 1 : Nat) : Int):=by have:=HLN.out; omega
 have hi2 : (((X.length - 1 : Nat) : Int) == 0) = false:=beq_eq_false_iff_ne.2 (by have:=HLN.out; omega)
 generalize hZ : X[X.length - 1] = Z at *
 generalize hN : X.length - 1 = n at *
 go_wp2_with fail
 refine (like_any Z w3 HLS.out).mono ?_
 rintro e w' ⟨rfl,rfl⟩
 rw [HLT.out,HK.out]
 go_wp2_with fail
 refine (suffix_yes Z A m w' HLS.out HS3.out (by rw [HLT.out]; exact HO.out)).mono ?_
 rintro e w4 ⟨rfl,hb4⟩
 have HB4:=hid (HB3.out.trans (hb4.mono HB3.out.size))
 have HB34:=hid hb4
 rw [HLT.out]
 clear hb4
 go_wp2_with fail
 refine (HJ.out _ HB34.out).mono ?_
 rintro e w5 ⟨rfl,hb5⟩
 have HB5:=hid (HB4.out.trans (hb5.mono HB4.out.size))
 clear hb5
 go_wp2_with fail
 go_ret3
 exact ⟨⟨_,rfl,by have:=HJT.out; unfold bl at this; rw [List.map_take] at this; exact this⟩,HB5.out⟩
def PathP (A : Nat -> Addr) (l : List UInt8) (w w' : World) (e : Ending) : Prop:=
 (∃ (H : ByteArray) (n : Int) (v : Value),e = .returned (.tuple #[.string H,.int .i64 n,v]) /\ v = errA A (pathErr l) /\ (pathErr l = 0 -> H.data.toList = pathH l /\ n = pathN l) /\ (pathErr l ≠ 0 -> H = ⟨#[]⟩ /\ n = 0)) /\ Below w.heap.size w w'
theorem readPath_any (s : ByteArray) (A : Nat -> Addr) (m : Int) (w : World) (hs : s.size < 4294967281) (S : Te w A m) : Calls Tryz.prog 72 #[.string s] w fun e w'=>PathP A s.data.toList w w' e:=by
 have hp:=elems_pos s.data.toList
 cases h1 : badE s.data.toList
 ·by_cases h5 : 5 < (elems s.data.toList).length
  ·have he : pathErr s.data.toList = 2:=by unfold pathErr longE; rw [h1,decide_eq_true h5]; rfl
   exact (path_many s A m w hs S h1 h5).mono fun e w' h=>⟨⟨_,_,_,h.1,by rw [he]; rfl,(fun h=>by rw [he] at h; cases h),fun _=>⟨rfl,rfl⟩⟩,h.2⟩
  ·have d5:=decide_eq_false h5
   cases h2 : (elems s.data.toList).any long
   ·have hl : longE s.data.toList = false:=by unfold longE; rw [d5,h2]; rfl
    by_cases h0 : 1 < (elems s.data.toList).length
    ·cases hk : likeB (lastOf s.data.toList)
     ·have hu : sufE s.data.toList = false:=by unfold sufE; rw [hk]; simp
      have he : pathErr s.data.toList = 0:=by unfold pathErr; rw [h1,hl,hu]; rfl
      exact (path_unlike s A m w hs S h1 (by omega) h2 h0 hk).mono fun e w' h=>⟨⟨_,_,_,h.1,by rw [he]; rfl,fun _=>⟨by unfold pathH; rw [hu]; rfl,by unfold pathN; rw [hu]; rfl⟩,fun h=>absurd he h⟩,h.2⟩
     ·have hu : sufE s.data.toList = true:=by unfold sufE; rw [hk,decide_eq_true h0]; rfl
      cases ho : sufOk (lastOf s.data.toList)
      ·have he : pathErr s.data.toList = 4:=by unfold pathErr; rw [h1,hl,hu,ho]; rfl
       exact (path_major s A m w hs S h1 (by omega) h2 h0 hk ho).mono fun e w' h=>⟨⟨_,_,_,h.1,by rw [he]; rfl,(fun h=>by rw [he] at h; cases h),fun _=>⟨rfl,rfl⟩⟩,h.2⟩
      ·have he : pathErr s.data.toList = 0:=by unfold pathErr; rw [h1,hl,hu,ho]; rfl
       exact (path_suffix s A m w hs S h1 (by omega) h2 h0 hk ho).mono fun e w' ⟨⟨H,e1,e2⟩,hb⟩=>⟨⟨H,_,_,e1,by rw [he]; rfl,fun _=>⟨by unfold pathH; rw [hu]; exact e2,by unfold pathN; rw [hu]; rfl⟩,fun h=>absurd he h⟩,hb⟩
    ·have hu : sufE s.data.toList = false:=by unfold sufE; rw [decide_eq_false h0]; rfl
     have he : pathErr s.data.toList = 0:=by unfold pathErr; rw [h1,hl,hu]; rfl
     exact (path_one s A m w hs S h1 h2 (by omega)).mono fun e w' h=>⟨⟨_,_,_,h.1,by rw [he]; rfl,fun _=>⟨by unfold pathH; rw [hu]; rfl,by unfold pathN; rw [hu]; rfl⟩,fun h=>absurd he h⟩,h.2⟩
   ·have he : pathErr s.data.toList = 2:=by unfold pathErr longE; rw [h1,h2]; simp
    exact (path_long s A m w hs S h1 (by omega) h2).mono fun e w' h=>⟨⟨_,_,_,h.1,by rw [he]; rfl,(fun h=>by rw [he] at h; cases h),fun _=>⟨rfl,rfl⟩⟩,h.2⟩
 ·have he : pathErr s.data.toList = 1:=by unfold pathErr; rw [h1]; rfl
  exact (path_bad s A m w hs S h1).mono fun e w' h=>⟨⟨_,_,_,h.1,by rw [he]; rfl,(fun h=>by rw [he] at h; cases h),fun _=>⟨rfl,rfl⟩⟩,h.2⟩
end Ve
end Go.Proofs.YtjbmjnbkibmkpaaGreatDoor


namespace Go.Proofs.YtjbmjnbkibmkpaaGreatDoor
open Go.RowKit
namespace Ve
theorem errV_ne {c : Nat} (aT aB : Addr) (h : c ≠ 0) : ∃ a,errV aT aB c = .iface 311 (.pointer (some a)):=by
 unfold errV
 rw [if_neg h]
 split
 ·exact ⟨aT,rfl⟩
 ·exact ⟨aB,rfl⟩
theorem StrsAt.slice {w : World} {v : Value} {X : List ByteArray} (h : StrsAt w v X) : ∃ p n c,v = .slice p n c:=by
 rcases h with ⟨_,rfl⟩ | ⟨_,b,rfl,_⟩ <;> exact ⟨_,_,_,rfl⟩
def SplitP (aT aB : Addr) (s : ByteArray) (w w' : World) (e : Ending) : Prop:=
 (verErr s.data.toList ≠ 0 /\ e = .returned (.tuple #[.agg #[.int .i64 0,.int .i64 0,.int .i64 0,.slice none 0 0],errV aT aB (verErr s.data.toList)]) \/
  verErr s.data.toList = 0 /\ ∃ v X,e = .returned (.tuple #[.agg #[.int .i64 (nAt s.data.toList 0),.int .i64 (nAt s.data.toList 1),.int .i64 (nAt s.data.toList 2),v],.nilIface]) /\ bl X = preOf s.data.toList /\ StrsAt w' v X) /\ Below w.heap.size w w'
theorem vsplit_any (s : ByteArray) (aT aB : Addr) (m : Int) (w : World) (hs : s.size < 4294967281) (S : Vs w aT aB m) : Calls Tryz.prog 35 #[.string s] w fun e w'=>SplitP aT aB s w w' e:=by
 by_cases h : verErr s.data.toList = 0
 ·exact (vsplit_good s aT aB m w hs S h).mono fun e w' ⟨v,X,h1,h2,h3,h4⟩=>⟨Or.inr ⟨h,v,X,h1,h2,h3⟩,h4⟩
 ·exact (vsplit_bad s aT aB m w hs S h).mono fun e w' ⟨h1,h2⟩=>⟨Or.inl ⟨h,h1⟩,h2⟩
def GoodP (w w' : World) (e : Ending) (x y z : Int) (X : List ByteArray) : Prop:=
 ∃ v,e = .returned (.tuple #[.agg #[.int .i64 x,.int .i64 y,.int .i64 z,v],.nilIface]) /\ StrsAt w' v X /\ Below w.heap.size w w'
theorem vsplit_is (s : ByteArray) (aT aB : Addr) (m : Int) (w : World) (hs : s.size < 4294967281) (S : Vs w aT aB m) (h : verErr s.data.toList = 0) (X : List ByteArray) (hX : bl X = preOf s.data.toList) :
  Calls Tryz.prog 35 #[.string s] w fun e w'=>GoodP w w' e (nAt s.data.toList 0) (nAt s.data.toList 1) (nAt s.data.toList 2) X:=
 (vsplit_good s aT aB m w hs S h).mono fun e w' ⟨v,X2,h1,h2,h3,h4⟩=>by
  obtain rfl : X2 = X:=bl_inj (h2.trans hX.symm)
  exact ⟨v,h1,h3,h4⟩
def BadP (w w' : World) (e : Ending) : Prop:=
 ∃ a,e = .returned (.tuple #[.agg #[.int .i64 0,.int .i64 0,.int .i64 0,.slice none 0 0],.iface 311 (.pointer (some a))]) /\ Below w.heap.size w w'
theorem vsplit_not (s : ByteArray) (aT aB : Addr) (m : Int) (w : World) (hs : s.size < 4294967281) (S : Vs w aT aB m) (h : verErr s.data.toList ≠ 0) :
  Calls Tryz.prog 35 #[.string s] w fun e w'=>BadP w w' e:=
 (vsplit_bad s aT aB m w hs S h).mono fun e w' ⟨h1,h2⟩=>by
  obtain ⟨a,ha⟩:=errV_ne aT aB h
  exact ⟨a,by rw [h1,ha],h2⟩
def strs (ps : List (List UInt8)) : List ByteArray:=ps.map fun p=>⟨p.toArray⟩
theorem bl_strs (ps : List (List UInt8)) : bl (strs ps) = ps:=by
 unfold bl strs
 rw [List.map_map]
 conv=>rhs; rw [<- List.map_id ps]
 apply List.map_congr_left
 intro p _
 rfl
theorem pre_len {l : List UInt8} : (preOf l).length <= l.length + 1:=by
 unfold preOf
 split
 ·have:=cutAt_many 46 (one 45 (restOf l)).2.1
  have h2:=(one_le 45 (restOf l)).2
  have h3:=restOf_le l
  omega
 ·simp
theorem pre_size {l p : List UInt8} (h : p ∈ preOf l) : p.length <= l.length:=by
 unfold preOf at h
 split at h
 ·have:=cutAt_le 46 _ p h
  have h2:=(one_le 45 (restOf l)).2
  have h3:=restOf_le l
  omega
 ·simp at h
end Ve
end Go.Proofs.YtjbmjnbkibmkpaaGreatDoor


namespace Go.Proofs.YtjbmjnbkibmkpaaGreatDoor
open Go.RowKit
namespace Ve
def fitsB (major suffix : Int) : Bool:=if suffix == 0 then (major == 0 || major == 1) else major == suffix
theorem fits_any (a b : Int) (w : World) : Calls Tryz.prog 78 #[.int .i64 a,.int .i64 b] w fun e w'=>e = .returned (.bool (fitsB a b)) /\ w' = w:=by
 have HF:=hid (show fitsB a b = if b == 0 then (a == 0 || a == 1) else a == b from rfl)
 cases h : (b == 0)
 ·rw [h] at HF
  go_enter Tryz.func78,Tryz.ntmps78
  go_wp2_with fail
  go_ret
  exact ⟨ret_bool (by rw [HF.out]; rfl),rfl⟩
 ·rw [h] at HF
  cases h2 : (a == 0)
  ·rw [h2] at HF
   go_enter Tryz.func78,Tryz.ntmps78
   go_wp2_with fail
   go_ret
   exact ⟨ret_bool (by rw [HF.out]; rfl),rfl⟩
  ·rw [h2] at HF
   go_enter Tryz.func78,Tryz.ntmps78
   go_wp2_with fail
   go_ret
   exact ⟨ret_bool (by rw [HF.out]; rfl),rfl⟩
def modErr (p v : List UInt8) : Nat:=if pathErr p = 0 then (if verErr v = 0 then (if fitsB (nAt v 0) (pathN p) then 0 else 4) else verErr v) else pathErr p
theorem verErr_err (l : List UInt8) : verErr l = 0 \/ verErr l = 1 \/ verErr l = 2:=by
 unfold verErr
 split
 ·simp
 ·split
  ·exact worse_err (numsErr_err _) (pre_err _)
  ·exact numsErr_err _
theorem pathErr_err (l : List UInt8) : pathErr l = 0 \/ pathErr l = 1 \/ pathErr l = 2 \/ pathErr l = 4:=by
 unfold pathErr; split
 ·simp
 ·split
  ·simp
  ·split <;> simp
theorem res2 {w w3 : World} {a b : Value} {T : TypeId} (hb : Below (w.heap.size + 1) (w.alloc (.cells #[a,b] T)) w3) :
  (w3.cell? ⟨w.heap.size,0,none⟩ = some a /\ w3.cell? ⟨w.heap.size,1,none⟩ = some b) /\ w.heap.size < w3.heap.size:=by
 refine ⟨⟨?_,?_⟩,?_⟩
 ·rw [hb.cell (by simp)]; simp
 ·rw [hb.cell (by simp)]; simp
 ·have:=hb.size; simp at this; omega
theorem mcheck_path (p v : ByteArray) (A : Nat -> Addr) (m : Int) (w : World) (hp : p.size < 4294967281) (S : Te w A m) (h0 : pathErr p.data.toList ≠ 0) :
  Calls Tryz.prog 40 #[.agg #[.string p,.string v]] w fun e w'=>e = .returned (errA A (pathErr p.data.toList)) /\ Below w.heap.size w w':=by
 have HB0:=hid ((Below.refl w.heap.size w).alloc (Nat.le_refl _) (.cells #[.string p,.string v] 47))
 have HP:=hid (readPath_any p A m _ hp (S.below HB0.out))
 obtain ⟨a9,ha9⟩:=errA_ne A h0
 have HE:=hid ha9
 clear S h0 ha9
 go_enter Tryz.func40,Tryz.ntmps40
 go_wp2_with fail
 refine HP.out.mono ?_
 rintro e w1 ⟨⟨H,n,v,rfl,hv,_,_⟩,hb⟩
 rw [HE.out] at hv
 subst hv
 have HB:=hid (HB0.out.trans (hb.mono HB0.out.size))
 clear hb
 go_wp2_with fail
 go_ret
 exact ⟨by rw [HE.out]; rfl,HB.out⟩
theorem mcheck_ver (p v : ByteArray) (A : Nat -> Addr) (m : Int) (w : World) (hp : p.size < 4294967281) (hvs : v.size < 4294967281) (S : Te w A m) (h0 : pathErr p.data.toList = 0) (h1 : verErr v.data.toList ≠ 0) :
  Calls Tryz.prog 40 #[.agg #[.string p,.string v]] w fun e w'=>e = .returned (errA A (verErr v.data.toList)) /\ Below w.heap.size w w':=by
 obtain ⟨a9,ha9⟩:=errV_ne (A 0) (A 1) h1
 have HE:=hid ha9
 have HV:=hid h1
 have HX:=hid (errA_V A (verErr v.data.toList) (verErr_err _))
 clear ha9 h1
 have HB0:=hid ((Below.refl w.heap.size w).alloc (Nat.le_refl _) (.cells #[.string p,.string v] 47))
 have HS0:=hid (S.below HB0.out)
 have HP:=hid (readPath_any p A m _ hp HS0.out)
 have H0:=hid h0
 clear S h0
 go_enter Tryz.func40,Tryz.ntmps40
 go_wp2_with fail
 refine HP.out.mono ?_
 rintro e w1 ⟨⟨H,n,ev,rfl,hv,hgood,_⟩,hb⟩
 obtain ⟨_,rfl⟩:=hgood H0.out
 rw [H0.out,errA0] at hv
 subst hv
 obtain ⟨⟨r0,r1⟩,rz⟩:=res2 (hb.mono (by simp))
 have HS1:=hid (HS0.out.below hb)
 have HB:=hid (HB0.out.trans (hb.mono HB0.out.size))
 clear hb hgood
 go_wp2_with fail
 refine (vsplit_bad v (A 0) (A 1) m w1 hvs HS1.out.vs HV.out).mono ?_
 rintro e w2 ⟨rfl,hb2⟩
 rw [HE.out]
 have HB2:=hid (HB.out.trans (hb2.mono HB.out.size))
 clear hb2
 go_wp2_with fail
 go_ret
 exact ⟨by rw [<- HX.out,HE.out]; rfl,HB2.out.alloc HB2.out.size _⟩
theorem mcheck_major (p v : ByteArray) (A : Nat -> Addr) (m : Int) (w : World) (hp : p.size < 4294967281) (hvs : v.size < 4294967281) (S : Te w A m) (h0 : pathErr p.data.toList = 0) (h1 : verErr v.data.toList = 0) (h2 : fitsB (nAt v.data.toList 0) (pathN p.data.toList) = false) :
  Calls Tryz.prog 40 #[.agg #[.string p,.string v]] w fun e w'=>e = .returned (.iface 311 (.pointer (some (A 3)))) /\ Below w.heap.size w w':=by
 have HV:=hid h1
 have HF:=hid h2
 clear h1 h2
 have HB0:=hid ((Below.refl w.heap.size w).alloc (Nat.le_refl _) (.cells #[.string p,.string v] 47))
 have HS0:=hid (S.below HB0.out)
 have HP:=hid (readPath_any p A m _ hp HS0.out)
 have H0:=hid h0
 clear S h0
 go_enter Tryz.func40,Tryz.ntmps40
 go_wp2_with fail
 refine HP.out.mono ?_
 rintro e w1 ⟨⟨H,n,ev,rfl,hv,hgood,_⟩,hb⟩
 obtain ⟨_,rfl⟩:=hgood H0.out
 rw [H0.out,errA0] at hv
 subst hv
 obtain ⟨⟨r0,r1⟩,rz⟩:=res2 (hb.mono (by simp))
 have HS1:=hid (HS0.out.below hb)
 have HB:=hid (HB0.out.trans (hb.mono HB0.out.size))
 clear hb hgood
 go_wp2_with fail
 refine (vsplit_good v (A 0) (A 1) m w1 hvs HS1.out.vs HV.out).mono ?_
 rintro e w2 ⟨u,X,rfl,_,hst,hb2⟩
 obtain ⟨pa,na,ca,rfl⟩:=hst.slice
 have HB2:=hid (HB.out.trans (hb2.mono HB.out.size))
 have HS2:=hid (HS1.out.below hb2)
 have HBA:=hid ((Below.refl w2.heap.size w2).alloc (Nat.le_refl _) (.cells #[.int .i64 (nAt v.data.toList 0),.int .i64 (nAt v.data.toList 1),.int .i64 (nAt v.data.toList 2),.slice pa na ca] 66))
 have HS3:=hid (HS2.out.below HBA.out)
 have HB3:=hid (HB2.out.trans (HBA.out.mono HB2.out.size))
 clear hb2 hst
 go_wp2_with fail
 refine (fits_any _ _ _).mono ?_
 rintro e w' ⟨rfl,rfl⟩
 rw [HF.out]
 have g3:=HS3.out.sen.g3
 go_wp2_with fail
 go_ret
 exact ⟨rfl,HB3.out⟩
theorem mcheck_ok (p v : ByteArray) (A : Nat -> Addr) (m : Int) (w : World) (hp : p.size < 4294967281) (hvs : v.size < 4294967281) (S : Te w A m) (h0 : pathErr p.data.toList = 0) (h1 : verErr v.data.toList = 0) (h2 : fitsB (nAt v.data.toList 0) (pathN p.data.toList) = true) :
  Calls Tryz.prog 40 #[.agg #[.string p,.string v]] w fun e w'=>e = .returned (.nilIface) /\ Below w.heap.size w w':=by
 have HV:=hid h1
 have HF:=hid h2
 clear h1 h2
 have HB0:=hid ((Below.refl w.heap.size w).alloc (Nat.le_refl _) (.cells #[.string p,.string v] 47))
 have HS0:=hid (S.below HB0.out)
 have HP:=hid (readPath_any p A m _ hp HS0.out)
 have H0:=hid h0
 clear S h0
 go_enter Tryz.func40,Tryz.ntmps40
 go_wp2_with fail
 refine HP.out.mono ?_
 rintro e w1 ⟨⟨H,n,ev,rfl,hv,hgood,_⟩,hb⟩
 obtain ⟨_,rfl⟩:=hgood H0.out
 rw [H0.out,errA0] at hv
 subst hv
 obtain ⟨⟨r0,r1⟩,rz⟩:=res2 (hb.mono (by simp))
 have HS1:=hid (HS0.out.below hb)
 have HB:=hid (HB0.out.trans (hb.mono HB0.out.size))
 clear hb hgood
 go_wp2_with fail
 refine (vsplit_good v (A 0) (A 1) m w1 hvs HS1.out.vs HV.out).mono ?_
 rintro e w2 ⟨u,X,rfl,_,hst,hb2⟩
 obtain ⟨pa,na,ca,rfl⟩:=hst.slice
 have HB2:=hid (HB.out.trans (hb2.mono HB.out.size))
 have HS2:=hid (HS1.out.below hb2)
 have HBA:=hid ((Below.refl w2.heap.size w2).alloc (Nat.le_refl _) (.cells #[.int .i64 (nAt v.data.toList 0),.int .i64 (nAt v.data.toList 1),.int .i64 (nAt v.data.toList 2),.slice pa na ca] 66))
 have HS3:=hid (HS2.out.below HBA.out)
 have HB3:=hid (HB2.out.trans (HBA.out.mono HB2.out.size))
 clear hb2 hst
 go_wp2_with fail
 refine (fits_any _ _ _).mono ?_
 rintro e w' ⟨rfl,rfl⟩
 rw [HF.out]
 go_wp2_with fail
 go_ret
 exact ⟨rfl,HB3.out⟩
theorem mcheck_any (p v : ByteArray) (A : Nat -> Addr) (m : Int) (w : World) (hp : p.size < 4294967281) (hv : v.size < 4294967281) (S : Te w A m) :
  Calls Tryz.prog 40 #[.agg #[.string p,.string v]] w fun e w'=>e = .returned (errA A (modErr p.data.toList v.data.toList)) /\ Below w.heap.size w w':=by
 unfold modErr
 by_cases h0 : pathErr p.data.toList = 0
 ·rw [if_pos h0]
  by_cases h1 : verErr v.data.toList = 0
  ·rw [if_pos h1]
   cases h2 : fitsB (nAt v.data.toList 0) (pathN p.data.toList)
   ·exact mcheck_major p v A m w hp hv S h0 h1 h2
   ·exact mcheck_ok p v A m w hp hv S h0 h1 h2
  ·rw [if_neg h1]; exact mcheck_ver p v A m w hp hv S h0 h1
 ·rw [if_neg h0]; exact mcheck_path p v A m w hp S h0
def modText (p v : List UInt8) : List UInt8:=if modErr p v = 0 then p ++ 64 :: v else []
theorem mtext_any (p v : ByteArray) (A : Nat -> Addr) (m : Int) (w : World) (hp : p.size < 999999) (hv : v.size < 999999) (S : Te w A m) :
  Calls Tryz.prog 19 #[.agg #[.string p,.string v]] w fun e w'=>∃ T : ByteArray,e = .returned (.string T) /\ T.data.toList = modText p.data.toList v.data.toList /\ Below w.heap.size w w':=by
 have HT:=hid (show modText p.data.toList v.data.toList = if modErr p.data.toList v.data.toList = 0 then p.data.toList ++ 64 :: v.data.toList else [] from rfl)
 have HB0:=hid ((Below.refl w.heap.size w).alloc (Nat.le_refl _) (.cells #[.string p,.string v] 47))
 have HC:=hid (mcheck_any p v A m _ (by omega) (by omega) (S.below HB0.out))
 clear S
 by_cases h0 : modErr p.data.toList v.data.toList = 0
 ·rw [h0] at HC
  rw [errA0] at HC
  rw [if_pos h0] at HT
  clear h0
  go_enter Tryz.func19,Tryz.ntmps19
  go_wp2_with fail
  refine HC.out.mono ?_
  rintro e w1 ⟨rfl,hb⟩
  obtain ⟨⟨r0,r1⟩,rz⟩:=res2 (hb.mono (by simp))
  have HB:=hid (HB0.out.trans (hb.mono HB0.out.size))
  clear hb
  go_wp2_with fail
  go_ret
  exact ⟨_,rfl,by rw [HT.out]; simp,HB.out⟩
 ·obtain ⟨a9,ha9⟩:=errA_ne A h0
  rw [ha9] at HC
  rw [if_neg h0] at HT
  clear h0 ha9
  go_enter Tryz.func19,Tryz.ntmps19
  go_wp2_with fail
  refine HC.out.mono ?_
  rintro e w1 ⟨rfl,hb⟩
  have HB:=hid (HB0.out.trans (hb.mono HB0.out.size))
  clear hb
  go_wp2_with fail
  go_ret
  exact ⟨_,rfl,by rw [HT.out],HB.out⟩
end Ve
end Go.Proofs.YtjbmjnbkibmkpaaGreatDoor


namespace Go.Proofs.YtjbmjnbkibmkpaaGreatDoor
namespace Ve
theorem cb_range : ∀ (a b : List UInt8),Lib.compareBytes a b = -1 \/ Lib.compareBytes a b = 0 \/ Lib.compareBytes a b = 1
 | [],[]=>by simp [Lib.compareBytes]
 | [],_ :: _=>by simp [Lib.compareBytes]
 | _ :: _,[]=>by simp [Lib.compareBytes]
 | a :: x,b :: y=>by
  unfold Lib.compareBytes
  split
  ·simp
  ·split
   ·simp
   ·exact cb_range x y
theorem u8_eq {a b : UInt8} (h1 : ¬ a < b) (h2 : ¬ b < a) : a = b:=UInt8.le_antisymm (UInt8.not_lt.1 h2) (UInt8.not_lt.1 h1)
theorem cb_zero : ∀ (a b : List UInt8),Lib.compareBytes a b = 0 ↔ a = b
 | [],[]=>by simp [Lib.compareBytes]
 | [],_ :: _=>by simp [Lib.compareBytes]
 | _ :: _,[]=>by simp [Lib.compareBytes]
 | a :: x,b :: y=>by
  unfold Lib.compareBytes
  by_cases h : a < b
  ·rw [if_pos h]
   constructor
   ·intro e; cases e
   ·intro e; injection e with e1 _; subst e1; exact absurd h (UInt8.lt_irrefl a)
  ·rw [if_neg h]
   by_cases h2 : b < a
   ·rw [if_pos h2]
    constructor
    ·intro e; cases e
    ·intro e; injection e with e1 _; subst e1; exact absurd h2 (UInt8.lt_irrefl a)
   ·rw [if_neg h2,cb_zero x y,u8_eq h h2]
    simp
theorem cb_swap : ∀ (a b : List UInt8),Lib.compareBytes b a = -Lib.compareBytes a b
 | [],[]=>by simp [Lib.compareBytes]
 | [],_ :: _=>by simp [Lib.compareBytes]
 | _ :: _,[]=>by simp [Lib.compareBytes]
 | a :: x,b :: y=>by
  unfold Lib.compareBytes
  by_cases h : a < b
  ·have h2 : ¬ b < a:=fun h3=>UInt8.lt_irrefl a (UInt8.lt_trans h h3)
   rw [if_pos h,if_neg h2,if_pos h]; rfl
  ·by_cases h2 : b < a
   ·rw [if_pos h2,if_neg h,if_pos h2]
   ·rw [if_neg h,if_neg h2,if_neg h2,if_neg h]; exact cb_swap x y
theorem cb_less : ∀ (a b : List UInt8),Op.bytesLess a b = decide (Lib.compareBytes a b < 0)
 | [],[]=>by simp [Lib.compareBytes,Op.bytesLess]
 | [],_ :: _=>by simp [Lib.compareBytes,Op.bytesLess]
 | _ :: _,[]=>by simp [Lib.compareBytes,Op.bytesLess]
 | a :: x,b :: y=>by
  unfold Lib.compareBytes Op.bytesLess
  by_cases h : a < b
  ·rw [if_pos h]; simp [h]
  ·rw [if_neg h]
   by_cases h2 : b < a
   ·rw [if_pos h2]
    have : (a == b) = false:=by
     cases e : (a == b)
     ·rfl
     ·have:=eq_of_beq e; subst this; exact absurd h2 (UInt8.lt_irrefl a)
    simp [h,this]
   ·rw [if_neg h2,u8_eq h h2,cb_less x y]
    simp [UInt8.lt_irrefl]
theorem ci_range (x y : Int) : Lib.compareInt x y = -1 \/ Lib.compareInt x y = 0 \/ Lib.compareInt x y = 1:=by
 unfold Lib.compareInt; split
 ·simp
 ·split <;> simp
theorem ci_zero (x y : Int) : Lib.compareInt x y = 0 ↔ x = y:=by
 unfold Lib.compareInt; split
 ·constructor <;> intro h <;> omega
 ·split
  ·constructor <;> intro h <;> omega
  ·constructor <;> intro h <;> omega
theorem ci_swap (x y : Int) : Lib.compareInt y x = -Lib.compareInt x y:=by
 unfold Lib.compareInt
 by_cases h : x < y
 ·rw [if_pos h,if_neg (by omega),if_pos h]; rfl
 ·by_cases h2 : y < x
  ·rw [if_pos h2,if_neg h,if_pos h2]
  ·rw [if_neg h2,if_neg h,if_neg h,if_neg h2]; rfl
theorem ci_lt {x y : Int} (h : x < y) : Lib.compareInt x y = -1:=by unfold Lib.compareInt; rw [if_pos h]
theorem ci_self (x : Int) : Lib.compareInt x x = 0:=(ci_zero x x).2 rfl
def fst (a b : Int) : Int:=if a = 0 then b else a
theorem fst0 (b : Int) : fst 0 b = b:=rfl
theorem fst_ne {a : Int} (b : Int) (h : a ≠ 0) : fst a b = a:=by unfold fst; rw [if_neg h]
theorem fst_range {a b : Int} (ha : a = -1 \/ a = 0 \/ a = 1) (hb : b = -1 \/ b = 0 \/ b = 1) : fst a b = -1 \/ fst a b = 0 \/ fst a b = 1:=by
 unfold fst; split <;> assumption
theorem fst_swap {a b a' b' : Int} (ha : a' = -a) (hb : b' = -b) : fst a' b' = -fst a b:=by
 subst ha; subst hb
 unfold fst
 by_cases h : a = 0
 ·rw [if_pos h,if_pos (by omega)]
 ·rw [if_neg h,if_neg (by omega)]
theorem fst_zero {a b : Int} : fst a b = 0 ↔ a = 0 /\ b = 0:=by
 unfold fst
 by_cases h : a = 0
 ·rw [if_pos h]; simp [h]
 ·rw [if_neg h]; simp [h]
def ordPart (a b : List UInt8) : Int:=
 if digs a then (if digs b then fst (Lib.compareInt a.length b.length) (Lib.compareBytes a b) else -1) else if digs b then 1 else Lib.compareBytes a b
def ordPs : List (List UInt8) -> List (List UInt8) -> Int
 | [],[]=>0
 | [],_ :: _=>-1
 | _ :: _,[]=>1
 | x :: xs,y :: ys=>fst (ordPart x y) (ordPs xs ys)
def ordPre (a b : List (List UInt8)) : Int:=if a = [] \/ b = [] then Lib.compareInt b.length a.length else ordPs a b
def ordN (x y z : Int) (p : List (List UInt8)) (x' y' z' : Int) (q : List (List UInt8)) : Int:=
 fst (Lib.compareInt x x') (fst (Lib.compareInt y y') (fst (Lib.compareInt z z') (ordPre p q)))
def ordV (s t : List UInt8) : Int:=ordN (nAt s 0) (nAt s 1) (nAt s 2) (preOf s) (nAt t 0) (nAt t 1) (nAt t 2) (preOf t)
theorem ordPart_range (a b : List UInt8) : ordPart a b = -1 \/ ordPart a b = 0 \/ ordPart a b = 1:=by
 unfold ordPart
 split
 ·split
  ·exact fst_range (ci_range _ _) (cb_range _ _)
  ·simp
 ·split
  ·simp
  ·exact cb_range _ _
theorem ordPs_range : ∀ (a b : List (List UInt8)),ordPs a b = -1 \/ ordPs a b = 0 \/ ordPs a b = 1
 | [],[]=>by simp [ordPs]
 | [],_ :: _=>by simp [ordPs]
 | _ :: _,[]=>by simp [ordPs]
 | a :: x,b :: y=>fst_range (ordPart_range a b) (ordPs_range x y)
theorem ordPre_range (a b : List (List UInt8)) : ordPre a b = -1 \/ ordPre a b = 0 \/ ordPre a b = 1:=by
 unfold ordPre; split
 ·exact ci_range _ _
 ·exact ordPs_range _ _
theorem ordN_range (x y z : Int) (p : List (List UInt8)) (x' y' z' : Int) (q : List (List UInt8)) : ordN x y z p x' y' z' q = -1 \/ ordN x y z p x' y' z' q = 0 \/ ordN x y z p x' y' z' q = 1:=
 fst_range (ci_range _ _) (fst_range (ci_range _ _) (fst_range (ci_range _ _) (ordPre_range _ _)))
theorem num0 {p : List UInt8} (h : (num p).2 = 0) : digs p = true /\ zero p = false /\ (num p).1 = valTo 0 p /\ p.all dig = true:=by
 have hd : digs p = true:=by
  cases e : digs p
  ·unfold num at h; rw [e] at h; simp at h
  ·rfl
 have hz : zero p = false:=by
  cases e : zero p
  ·rfl
  ·unfold num at h; rw [e] at h; simp at h
 have h6:=num_six p hd hz
 have : ¬ 6 < p.length:=by
  intro hh; rw [if_pos hh] at h6; rw [h6] at h; cases h
 rw [if_neg this] at h6
 refine ⟨hd,hz,by rw [h6],?_⟩
 unfold digs at hd
 simp only [Bool.and_eq_true] at hd
 exact hd.2
end Ve
end Go.Proofs.YtjbmjnbkibmkpaaGreatDoor


namespace Go.Proofs.YtjbmjnbkibmkpaaGreatDoor
open Go.RowKit
namespace Ve
theorem below_drew {w w' : World} (h : Below w.heap.size w w') (n : Nat) : Below w.heap.size w (w'.drewN n):=h.trans ((below_drawn w' n).mono h.size)
structure Bw (B : Nat) (w w' : World) : Prop where
 be : Below B w w'
 dr : w.drawn <= w'.drawn
theorem Bw.refl (B : Nat) (w : World) : Bw B w w:=⟨Below.refl _ _,Nat.le_refl _⟩
theorem Bw.trans {B : Nat} {a b c : World} (h : Bw B a b) (k : Bw B b c) : Bw B a c:=⟨h.be.trans k.be,Nat.le_trans h.dr k.dr⟩
theorem Bw.mono {B B' : Nat} {w w' : World} (h : Bw B w w') (hB : B' <= B) : Bw B' w w':=⟨h.be.mono hB,h.dr⟩
theorem Bw.size {B : Nat} {w w' : World} (h : Bw B w w') : w.heap.size <= w'.heap.size:=h.be.size
theorem Bw.alloc {B : Nat} {w w' : World} (h : Bw B w w') (hB : B <= w'.heap.size) (o : Obj) : Bw B w (w'.alloc o):=⟨h.be.alloc hB o,h.dr⟩
theorem bw_drew {w w' : World} (h : Bw w.heap.size w w') (n : Nat) : Bw w.heap.size w (w'.drewN n):=⟨below_drew h.be n,Nat.le_trans h.dr (Nat.le_add_right _ _)⟩
theorem p1_any (s t : ByteArray) (A B : Nat) (w : World) (a0 : w.cell? ⟨A,0,none⟩ = some (.string s)) (b0 : w.cell? ⟨B,0,none⟩ = some (.string t)) :
  Calls Tryz.prog 291 #[.pointer (some ⟨A,0,none⟩),.pointer (some ⟨B,0,none⟩)] w fun e w'=>e = .returned (.int .i64 (Lib.compareInt (s.size : Int) (t.size : Int))) /\ w' = w:=by
 have HC:=hid (Tryz.cmp_Compare_int (s.size : Int) (t.size : Int) w)
 go_enter Tryz.func291,Tryz.ntmps291
 go_wp2_with fail
 refine HC.out.mono ?_
 rintro e w' ⟨rfl,rfl⟩
 go_wp2_with fail
 go_ret
 exact ⟨rfl,rfl⟩
theorem p2_any (s t : ByteArray) (A B : Nat) (w : World) (a0 : w.cell? ⟨A,0,none⟩ = some (.string s)) (b0 : w.cell? ⟨B,0,none⟩ = some (.string t)) :
  Calls Tryz.prog 292 #[.pointer (some ⟨A,0,none⟩),.pointer (some ⟨B,0,none⟩)] w fun e w'=>e = .returned (.int .i64 (Lib.compareBytes s.data.toList t.data.toList)) /\ w' = w:=by
 have HC:=hid (Tryz.strings_Compare s t w)
 go_enter Tryz.func292,Tryz.ntmps292
 go_wp2_with fail
 refine HC.out.mono ?_
 rintro e w' ⟨rfl,rfl⟩
 go_wp2_with fail
 go_ret
 exact ⟨rfl,rfl⟩
theorem first_two (k1 k2 : Int) (A B F : Nat) (w : World)
  (h1 : Calls Tryz.prog 291 #[.pointer (some ⟨A,0,none⟩),.pointer (some ⟨B,0,none⟩)] w fun e w'=>e = .returned (.int .i64 k1) /\ w' = w)
  (h2 : Calls Tryz.prog 292 #[.pointer (some ⟨A,0,none⟩),.pointer (some ⟨B,0,none⟩)] w fun e w'=>e = .returned (.int .i64 k2) /\ w' = w)
  (f0 : w.cell? ⟨F,0,none⟩ = some (.func (.func 291) #[] #[.pointer (some ⟨A,0,none⟩),.pointer (some ⟨B,0,none⟩)])) (f1 : w.cell? ⟨F,1,none⟩ = some (.func (.func 292) #[] #[.pointer (some ⟨A,0,none⟩),.pointer (some ⟨B,0,none⟩)])) :
  Calls Tryz.prog 222 #[.slice (some ⟨F,0,none⟩) 2 2] w fun e w'=>e = .returned (.int .i64 (fst k1 k2)) /\ w' = w:=by
 have HX:=hid h1
 have HY:=hid h2
 clear h1 h2
 by_cases z1 : k1 = 0
 ·subst z1
  by_cases z2 : k2 = 0
  ·subst z2
   go_enter Tryz.func222,Tryz.ntmps222
   go_wp2_with fail
   refine wp_loop_rounds 3 ?_
   rw [rounds_succ]
   go_wp2_with fail
   refine HX.out.mono ?_
   rintro e w' ⟨rfl,rfl⟩
   go_wp2_with fail
   rw [rounds_succ]
   go_wp2_with fail
   refine HY.out.mono ?_
   rintro e w' ⟨rfl,rfl⟩
   go_wp2_with fail
   rw [rounds_succ]
   go_wp2_with fail
   go_ret
   exact ⟨rfl,rfl⟩
  ·have b2 : (k2 == 0) = false:=beq_eq_false_iff_ne.2 z2
   have HF:=hid (fst0 k2)
   clear z2
   go_enter Tryz.func222,Tryz.ntmps222
   go_wp2_with fail
   refine wp_loop_rounds 2 ?_
   rw [rounds_succ]
   go_wp2_with fail
   refine HX.out.mono ?_
   rintro e w' ⟨rfl,rfl⟩
   go_wp2_with fail
   rw [rounds_succ]
   go_wp2_with fail
   refine HY.out.mono ?_
   rintro e w' ⟨rfl,rfl⟩
   go_wp2_with fail
   go_ret
   exact ⟨ret_int HF.out.symm,rfl⟩
 ·have b1 : (k1 == 0) = false:=beq_eq_false_iff_ne.2 z1
  have HF:=hid (fst_ne k2 z1)
  clear z1
  go_enter Tryz.func222,Tryz.ntmps222
  go_wp2_with fail
  refine wp_loop_rounds 1 ?_
  rw [rounds_succ]
  go_wp2_with fail
  refine HX.out.mono ?_
  rintro e w' ⟨rfl,rfl⟩
  go_wp2_with fail
  go_ret
  exact ⟨ret_int HF.out.symm,rfl⟩
theorem three' (w : World) (A B C : Array Value) (T U : TypeId) (j : Nat) :
  (((w.alloc (.cells A T)).alloc (.cells B T)).alloc (.cells C U)).cell? ⟨w.heap.size,j,none⟩ = A[j]? /\ (((w.alloc (.cells A T)).alloc (.cells B T)).alloc (.cells C U)).cell? ⟨w.heap.size + 1,j,none⟩ = B[j]? /\
  (((w.alloc (.cells A T)).alloc (.cells B T)).alloc (.cells C U)).cell? ⟨w.heap.size + 1 + 1,j,none⟩ = C[j]?:=three w A B C T U j
theorem cpart_bw (s t : ByteArray) (w : World) (hs : s.size <= maxLen) (ht : t.size <= maxLen) :
  Calls Tryz.prog 271 #[.string s,.string t] w fun e w'=>e = .returned (.int .i64 (ordPart s.data.toList t.data.toList)) /\ Bw w.heap.size w w':=by
 have hmf : ∀ (fn : Fn) (first cap : Array Value) (w : World),(Instr.makeFunc fn first cap).run Tryz.prog w = .ok (.func fn first cap) w:=fun _ _ _ _=>rfl
 have HO:=hid (show ordPart s.data.toList t.data.toList = if digs s.data.toList then (if digs t.data.toList then fst (Lib.compareInt (s.size : Int) (t.size : Int)) (Lib.compareBytes s.data.toList t.data.toList) else -1) else if digs t.data.toList then 1 else Lib.compareBytes s.data.toList t.data.toList by
  unfold ordPart; rw [len_eq,len_eq])
 have HS:=hid (fun W=>digits_any s W hs)
 have HT:=hid (fun W=>digits_any t W ht)
 have HC:=hid (fun W=>Tryz.strings_Compare s t W)
 have HB:=hid (((Bw.refl w.heap.size w).alloc (Nat.le_refl _) (.cells #[.string s] 9)).alloc (by simp) (.cells #[.string t] 9))
 clear hs ht
 cases h1 : digs s.data.toList
 all_goals cases h2 : digs t.data.toList
 all_goals rw [h1] at HS HO
 all_goals rw [h2] at HT HO
 all_goals clear h1 h2
 ·go_enter Tryz.func271,Tryz.ntmps271
  go_wp2_with fail
  go_quiet (first
   | (go_at_call_of 166 (Value.string s); refine Calls.quiet_of_same (HS.out _))
   | (go_at_call_of 166 (Value.string t); refine Calls.quiet_of_same (HT.out _)))
  go_wp2_with fail
  refine (HC.out _).mono ?_
  rintro e w' ⟨rfl,rfl⟩
  go_wp2_with fail
  go_ret
  exact ⟨ret_int (by rw [HO.out]; rfl),bw_drew HB.out _⟩
 ·go_enter Tryz.func271,Tryz.ntmps271
  go_wp2_with fail
  go_quiet (first
   | (go_at_call_of 166 (Value.string s); refine Calls.quiet_of_same (HS.out _))
   | (go_at_call_of 166 (Value.string t); refine Calls.quiet_of_same (HT.out _)))
  go_wp2_with fail
  go_ret
  exact ⟨ret_int (by rw [HO.out]; rfl),bw_drew HB.out _⟩
 ·go_enter Tryz.func271,Tryz.ntmps271
  go_wp2_with fail
  go_quiet (first
   | (go_at_call_of 166 (Value.string s); refine Calls.quiet_of_same (HS.out _))
   | (go_at_call_of 166 (Value.string t); refine Calls.quiet_of_same (HT.out _)))
  go_wp2_with fail
  go_ret
  exact ⟨ret_int (by rw [HO.out]; rfl),bw_drew HB.out _⟩
 ·go_enter Tryz.func271,Tryz.ntmps271
  go_wp2_with fail
  go_quiet (first
   | (go_at_call_of 166 (Value.string s); refine Calls.quiet_of_same (HS.out _))
   | (go_at_call_of 166 (Value.string t); refine Calls.quiet_of_same (HT.out _)))
  go_wp2_with fail
  refine (first_two (Lib.compareInt (s.size : Int) (t.size : Int)) (Lib.compareBytes s.data.toList t.data.toList) w.heap.size (w.heap.size + 1) (w.heap.size + 1 + 1) _ (p1_any s t _ _ _ ?_ ?_) (p2_any s t _ _ _ ?_ ?_) ?_ ?_).mono ?_
  ·exact (three' w _ _ _ _ _ 0).1.trans rfl
  ·exact (three' w _ _ _ _ _ 0).2.1.trans rfl
  ·exact (three' w _ _ _ _ _ 0).1.trans rfl
  ·exact (three' w _ _ _ _ _ 0).2.1.trans rfl
  ·exact (three' w _ _ _ _ _ 0).2.2.trans rfl
  ·exact (three' w _ _ _ _ _ 1).2.2.trans rfl
  rintro e w' ⟨rfl,rfl⟩
  go_wp2_with fail
  go_ret
  exact ⟨ret_int (by rw [HO.out]; rfl),(bw_drew HB.out nq).alloc (by simp [World.drewN]; omega) _⟩
end Ve
end Go.Proofs.YtjbmjnbkibmkpaaGreatDoor
