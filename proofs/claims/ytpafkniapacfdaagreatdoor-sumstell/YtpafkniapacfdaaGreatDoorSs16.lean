/-
  What readPath of package mod answers for any text: what is ahead of the suffix, its number, the error; nothing old in memory turns.
-/
import Derived.Test.YtpafkniapacfdaaGreatDoorSs12
import Derived.Test.YtpafkniapacfdaaGreatDoorSs15
import Derived.OwnWalk
import Derived.Test.YtpafkniapacfdaaGreatDoorSs13
namespace Go.Proofs.YtpafkniapacfdaaGreatDoor
open Go.RowKit
namespace Ve

/-- The elements; the last one. -/
def elems (l : List UInt8) : List (List UInt8) := cutAt 47 l
def lastOf (l : List UInt8) : List UInt8 := (elems l).getD ((elems l).length - 1) []
def badE (l : List UInt8) : Bool := (elems l).any fun e => !elemOk e
def longE (l : List UInt8) : Bool := decide (5 < (elems l).length) || (elems l).any long
/-- Is there a suffix to look at? -/
def sufE (l : List UInt8) : Bool := decide (1 < (elems l).length) && likeB (lastOf l)
def pathErr (l : List UInt8) : Nat := if badE l then 1 else if longE l then 2 else if sufE l && !sufOk (lastOf l) then 4 else 0
def pathN (l : List UInt8) : Int := if sufE l then (num (restOf (lastOf l))).1 else 0
def pathH (l : List UInt8) : List UInt8 := if sufE l then Lib.join ((elems l).take ((elems l).length - 1)) [47] else l
theorem elems_pos (l : List UInt8) : 0 < (elems l).length := List.length_pos_iff.2 (cutAt_ne 47 _)
theorem last_get {l : List UInt8} {X : List ByteArray} (h : bl X = elems l) (hp : X.length - 1 < X.length) : X[X.length - 1].data.toList = lastOf l := by
  unfold lastOf
  have hl : (elems l).length = X.length := by rw [← h, bl_len]
  rw [hl, List.getD_eq_getElem?_getD, ← h]
  unfold bl
  rw [List.getElem?_map, List.getElem?_eq_getElem hp]; rfl

set_option maxHeartbeats 1000000 in
theorem path_bad (s : ByteArray) (A : Nat → Addr) (m : Int) (w : World) (hs : s.size < 4294967281) (S : Te w A m) (h1 : badE s.data.toList = true) :
    Calls Tryz.prog 105 #[.string s] w fun e w' => e = .returned (.tuple #[.string ⟨#[]⟩, .int .i64 0, .iface 291 (.pointer (some (A 0)))]) ∧ Below w.heap.size w w' := by
  have H1 := hid (show ((elems s.data.toList).any fun e => !elemOk e) = true from h1)
  clear h1
  have hmf : ∀ (fn : Fn) (first cap : Array Value) (w : World), (Instr.makeFunc fn first cap).run Tryz.prog w = .ok (.func fn first cap) w := fun _ _ _ _ => rfl
  have HS := hid S
  clear S
  go_enter Tryz.func105, Tryz.ntmps105
  go_wp2_with fail
  refine (split_any 47 s m w hs HS.out.ml).mono ?_
  rintro e w1 ⟨X, rfl, hX, hc, hb, hz⟩
  have HX := hid (show bl X = elems s.data.toList from hX)
  have HC := hid hc
  have HB := hid hb
  have HS1 := hid (HS.out.below hb)
  have hn := many_le hX
  have HXS := hid (show ∀ x, x ∈ X → x.size < 4294967281 from fun x hx => by have := piece_le hX hx; omega)
  have HLN := hid (show X.length = (elems s.data.toList).length by rw [← HX.out, bl_len])
  clear hX hc hb
  go_wp2_with fail
  refine (has1 w.heap.size X.length X m w1 (by omega) HC.out HS1.out.ml HXS.out).mono ?_
  rintro e w2 ⟨rfl, hb2⟩
  have HB2 := hid (HB.out.trans (hb2.mono HB.out.size))
  have HS2 := hid (HS1.out.below hb2)
  have HC2 := hid (show ∀ j (h : j < X.length), w2.cell? ⟨w.heap.size, 0 + j, none⟩ = some (.string X[j]) from fun j h => cell_below hb2 (HC.out j h))
  rw [HX.out, H1.out]
  clear hb2
  have g0 := HS2.out.sen.g0
  go_wp2_with fail
  go_quiet (fail)
  go_wp2_with fail
  go_ret3
  exact ⟨rfl, HB2.out.trans ((below_drawn _ _).mono HB2.out.size)⟩

set_option maxHeartbeats 1000000 in
theorem path_many (s : ByteArray) (A : Nat → Addr) (m : Int) (w : World) (hs : s.size < 4294967281) (S : Te w A m) (h1 : badE s.data.toList = false) (h2 : 5 < (elems s.data.toList).length) :
    Calls Tryz.prog 105 #[.string s] w fun e w' => e = .returned (.tuple #[.string ⟨#[]⟩, .int .i64 0, .iface 291 (.pointer (some (A 1)))]) ∧ Below w.heap.size w w' := by
  have H1 := hid (show ((elems s.data.toList).any fun e => !elemOk e) = false from h1)
  clear h1
  have hmf : ∀ (fn : Fn) (first cap : Array Value) (w : World), (Instr.makeFunc fn first cap).run Tryz.prog w = .ok (.func fn first cap) w := fun _ _ _ _ => rfl
  have HS := hid S
  clear S
  go_enter Tryz.func105, Tryz.ntmps105
  go_wp2_with fail
  refine (split_any 47 s m w hs HS.out.ml).mono ?_
  rintro e w1 ⟨X, rfl, hX, hc, hb, hz⟩
  have HX := hid (show bl X = elems s.data.toList from hX)
  have HC := hid hc
  have HB := hid hb
  have HS1 := hid (HS.out.below hb)
  have hn := many_le hX
  have HXS := hid (show ∀ x, x ∈ X → x.size < 4294967281 from fun x hx => by have := piece_le hX hx; omega)
  have HLN := hid (show X.length = (elems s.data.toList).length by rw [← HX.out, bl_len])
  clear hX hc hb
  go_wp2_with fail
  refine (has1 w.heap.size X.length X m w1 (by omega) HC.out HS1.out.ml HXS.out).mono ?_
  rintro e w2 ⟨rfl, hb2⟩
  have HB2 := hid (HB.out.trans (hb2.mono HB.out.size))
  have HS2 := hid (HS1.out.below hb2)
  have HC2 := hid (show ∀ j (h : j < X.length), w2.cell? ⟨w.heap.size, 0 + j, none⟩ = some (.string X[j]) from fun j h => cell_below hb2 (HC.out j h))
  rw [HX.out, H1.out]
  clear hb2
  have g1 := HS2.out.sen.g1
  have h5 : decide (5 < (X.length : Int)) = true := decide_eq_true (by have := HLN.out; omega)
  go_wp2_with fail
  go_quiet (fail)
  go_wp2_with fail
  go_ret3
  exact ⟨rfl, HB2.out.trans ((below_drawn _ _).mono HB2.out.size)⟩

set_option maxHeartbeats 1000000 in
theorem path_long (s : ByteArray) (A : Nat → Addr) (m : Int) (w : World) (hs : s.size < 4294967281) (S : Te w A m) (h1 : badE s.data.toList = false) (h5 : (elems s.data.toList).length ≤ 5) (h2 : (elems s.data.toList).any long = true) :
    Calls Tryz.prog 105 #[.string s] w fun e w' => e = .returned (.tuple #[.string ⟨#[]⟩, .int .i64 0, .iface 291 (.pointer (some (A 1)))]) ∧ Below w.heap.size w w' := by
  have H1 := hid (show ((elems s.data.toList).any fun e => !elemOk e) = false from h1)
  have H2 := hid h2
  clear h1 h2
  have hmf : ∀ (fn : Fn) (first cap : Array Value) (w : World), (Instr.makeFunc fn first cap).run Tryz.prog w = .ok (.func fn first cap) w := fun _ _ _ _ => rfl
  have HS := hid S
  clear S
  go_enter Tryz.func105, Tryz.ntmps105
  go_wp2_with fail
  refine (split_any 47 s m w hs HS.out.ml).mono ?_
  rintro e w1 ⟨X, rfl, hX, hc, hb, hz⟩
  have HX := hid (show bl X = elems s.data.toList from hX)
  have HC := hid hc
  have HB := hid hb
  have HS1 := hid (HS.out.below hb)
  have hn := many_le hX
  have HXS := hid (show ∀ x, x ∈ X → x.size < 4294967281 from fun x hx => by have := piece_le hX hx; omega)
  have HLN := hid (show X.length = (elems s.data.toList).length by rw [← HX.out, bl_len])
  clear hX hc hb
  go_wp2_with fail
  refine (has1 w.heap.size X.length X m w1 (by omega) HC.out HS1.out.ml HXS.out).mono ?_
  rintro e w2 ⟨rfl, hb2⟩
  have HB2 := hid (HB.out.trans (hb2.mono HB.out.size))
  have HS2 := hid (HS1.out.below hb2)
  have HC2 := hid (show ∀ j (h : j < X.length), w2.cell? ⟨w.heap.size, 0 + j, none⟩ = some (.string X[j]) from fun j h => cell_below hb2 (HC.out j h))
  rw [HX.out, H1.out]
  clear hb2
  have h5b : decide (5 < (X.length : Int)) = false := decide_eq_false (by have := HLN.out; omega)
  go_wp2_with fail
  refine (has2 w.heap.size X.length X w2 (by omega) HC2.out).mono ?_
  rintro e w3 ⟨rfl, hb3⟩
  have HB3 := hid (HB2.out.trans (hb3.mono HB2.out.size))
  have HS3 := hid (HS2.out.below hb3)
  have HC3 := hid (show ∀ j (h : j < X.length), w3.cell? ⟨w.heap.size, 0 + j, none⟩ = some (.string X[j]) from fun j h => cell_below hb3 (HC2.out j h))
  rw [HX.out, H2.out]
  clear hb3
  have g1 := HS3.out.sen.g1
  go_wp2_with fail
  go_quiet (fail)
  go_wp2_with fail
  go_ret3
  exact ⟨rfl, HB3.out.trans ((below_drawn _ _).mono HB3.out.size)⟩

set_option maxHeartbeats 1000000 in
theorem path_one (s : ByteArray) (A : Nat → Addr) (m : Int) (w : World) (hs : s.size < 4294967281) (S : Te w A m) (h1 : badE s.data.toList = false) (h2 : (elems s.data.toList).any long = false) (h0 : (elems s.data.toList).length = 1) :
    Calls Tryz.prog 105 #[.string s] w fun e w' => e = .returned (.tuple #[.string s, .int .i64 0, .nilIface]) ∧ Below w.heap.size w w' := by
  have H1 := hid (show ((elems s.data.toList).any fun e => !elemOk e) = false from h1)
  have H2 := hid h2
  clear h1 h2
  have hmf : ∀ (fn : Fn) (first cap : Array Value) (w : World), (Instr.makeFunc fn first cap).run Tryz.prog w = .ok (.func fn first cap) w := fun _ _ _ _ => rfl
  have HS := hid S
  clear S
  go_enter Tryz.func105, Tryz.ntmps105
  go_wp2_with fail
  refine (split_any 47 s m w hs HS.out.ml).mono ?_
  rintro e w1 ⟨X, rfl, hX, hc, hb, hz⟩
  have HX := hid (show bl X = elems s.data.toList from hX)
  have HC := hid hc
  have HB := hid hb
  have HS1 := hid (HS.out.below hb)
  have hn := many_le hX
  have HXS := hid (show ∀ x, x ∈ X → x.size < 4294967281 from fun x hx => by have := piece_le hX hx; omega)
  have HLN := hid (show X.length = (elems s.data.toList).length by rw [← HX.out, bl_len])
  clear hX hc hb
  go_wp2_with fail
  refine (has1 w.heap.size X.length X m w1 (by omega) HC.out HS1.out.ml HXS.out).mono ?_
  rintro e w2 ⟨rfl, hb2⟩
  have HB2 := hid (HB.out.trans (hb2.mono HB.out.size))
  have HS2 := hid (HS1.out.below hb2)
  have HC2 := hid (show ∀ j (h : j < X.length), w2.cell? ⟨w.heap.size, 0 + j, none⟩ = some (.string X[j]) from fun j h => cell_below hb2 (HC.out j h))
  rw [HX.out, H1.out]
  clear hb2
  obtain ⟨x, rfl⟩ := List.length_eq_one_iff.1 (HLN.out.trans h0)
  have h5b : decide (5 < (([x] : List ByteArray).length : Int)) = false := decide_eq_false (by have := HLN.out; omega)
  go_wp2_with fail
  refine (has2 w.heap.size 1 [x] w2 (by omega) HC2.out).mono ?_
  rintro e w3 ⟨rfl, hb3⟩
  have HB3 := hid (HB2.out.trans (hb3.mono HB2.out.size))
  have HS3 := hid (HS2.out.below hb3)
  have HC3 := hid (show ∀ j (h : j < ([x] : List ByteArray).length), w3.cell? ⟨w.heap.size, 0 + j, none⟩ = some (.string ([x] : List ByteArray)[j]) from fun j h => cell_below hb3 (HC2.out j h))
  rw [HX.out, H2.out]
  clear hb3
  go_wp2_with fail
  go_ret3
  exact ⟨rfl, HB3.out⟩

set_option maxHeartbeats 1000000 in
theorem path_unlike (s : ByteArray) (A : Nat → Addr) (m : Int) (w : World) (hs : s.size < 4294967281) (S : Te w A m) (h1 : badE s.data.toList = false) (h5 : (elems s.data.toList).length ≤ 5) (h2 : (elems s.data.toList).any long = false) (h0 : 1 < (elems s.data.toList).length) (hk : likeB (lastOf s.data.toList) = false) :
    Calls Tryz.prog 105 #[.string s] w fun e w' => e = .returned (.tuple #[.string s, .int .i64 0, .nilIface]) ∧ Below w.heap.size w w' := by
  have H1 := hid (show ((elems s.data.toList).any fun e => !elemOk e) = false from h1)
  have H2 := hid h2
  have HK := hid hk
  clear h1 h2 hk
  have hmf : ∀ (fn : Fn) (first cap : Array Value) (w : World), (Instr.makeFunc fn first cap).run Tryz.prog w = .ok (.func fn first cap) w := fun _ _ _ _ => rfl
  have HS := hid S
  clear S
  go_enter Tryz.func105, Tryz.ntmps105
  go_wp2_with fail
  refine (split_any 47 s m w hs HS.out.ml).mono ?_
  rintro e w1 ⟨X, rfl, hX, hc, hb, hz⟩
  have HX := hid (show bl X = elems s.data.toList from hX)
  have HC := hid hc
  have HB := hid hb
  have HS1 := hid (HS.out.below hb)
  have hn := many_le hX
  have HXS := hid (show ∀ x, x ∈ X → x.size < 4294967281 from fun x hx => by have := piece_le hX hx; omega)
  have HLN := hid (show X.length = (elems s.data.toList).length by rw [← HX.out, bl_len])
  clear hX hc hb
  go_wp2_with fail
  refine (has1 w.heap.size X.length X m w1 (by omega) HC.out HS1.out.ml HXS.out).mono ?_
  rintro e w2 ⟨rfl, hb2⟩
  have HB2 := hid (HB.out.trans (hb2.mono HB.out.size))
  have HS2 := hid (HS1.out.below hb2)
  have HC2 := hid (show ∀ j (h : j < X.length), w2.cell? ⟨w.heap.size, 0 + j, none⟩ = some (.string X[j]) from fun j h => cell_below hb2 (HC.out j h))
  rw [HX.out, H1.out]
  clear hb2
  have h5b : decide (5 < (X.length : Int)) = false := decide_eq_false (by have := HLN.out; omega)
  go_wp2_with fail
  refine (has2 w.heap.size X.length X w2 (by omega) HC2.out).mono ?_
  rintro e w3 ⟨rfl, hb3⟩
  have HB3 := hid (HB2.out.trans (hb3.mono HB2.out.size))
  have HS3 := hid (HS2.out.below hb3)
  have HC3 := hid (show ∀ j (h : j < X.length), w3.cell? ⟨w.heap.size, 0 + j, none⟩ = some (.string X[j]) from fun j h => cell_below hb3 (HC2.out j h))
  rw [HX.out, H2.out]
  clear hb3
  have hp : X.length - 1 < X.length := by have := HLN.out; omega
  have hx : w3.cell? ⟨w.heap.size, X.length - 1, none⟩ = some (.string X[X.length - 1]) := by have := HC3.out (X.length - 1) hp; rw [Nat.zero_add] at this; exact this
  have HLT := hid (last_get HX.out hp)
  have HLS := hid (HXS.out _ (List.getElem_mem hp))
  have hi1 : ((X.length : Int) - 1) = ((X.length - 1 : Nat) : Int) := by have := HLN.out; omega
  have hi2 : (((X.length - 1 : Nat) : Int) == 0) = false := beq_eq_false_iff_ne.2 (by have := HLN.out; omega)
  generalize hZ : X[X.length - 1] = Z at *
  generalize hN : X.length - 1 = n at *
  go_wp2_with fail
  refine (like_any Z w3 HLS.out).mono ?_
  rintro e w' ⟨rfl, rfl⟩
  rw [HLT.out, HK.out]
  go_wp2_with fail
  go_ret3
  exact ⟨rfl, HB3.out⟩

theorem suffix_no (s : ByteArray) (A : Nat → Addr) (m : Int) (w : World) (hs : s.size < 4294967281) (S : Te w A m) (h : sufOk s.data.toList = false) :
    Calls Tryz.prog 143 #[.string s] w fun e w' => e = .returned (.tuple #[.int .i64 0, .iface 291 (.pointer (some (A 3)))]) ∧ Below w.heap.size w w' := by
  have := suffix_any s A m w hs S
  rw [h] at this
  exact this
theorem suffix_yes (s : ByteArray) (A : Nat → Addr) (m : Int) (w : World) (hs : s.size < 4294967281) (S : Te w A m) (h : sufOk s.data.toList = true) :
    Calls Tryz.prog 143 #[.string s] w fun e w' => e = .returned (.tuple #[.int .i64 (num (restOf s.data.toList)).1, .nilIface]) ∧ Below w.heap.size w w' := by
  have := suffix_any s A m w hs S
  rw [h] at this
  exact this
theorem join_snoc (c : UInt8) (ps : List (List UInt8)) (h : ps ≠ []) (q : List UInt8) : Lib.join (ps ++ [q]) [c] = Lib.join ps [c] ++ ([c] ++ q) := by
  cases ps with
  | nil => exact absurd rfl h
  | cons p r =>
    simp only [List.cons_append, Lib.join_cons, Lib.joinTail]
    simp
theorem join_app (c : UInt8) (qs : List (List UInt8)) : ∀ ps : List (List UInt8), (Lib.join ps [c]).length ≤ (Lib.join (ps ++ qs) [c]).length := by
  induction qs with
  | nil => intro ps; simp
  | cons q r ih =>
    intro ps
    have h1 : (Lib.join ps [c]).length ≤ (Lib.join (ps ++ [q]) [c]).length := by
      by_cases h : ps = []
      · subst h; simp [Lib.join]
      · rw [join_snoc c ps h q]; simp
    have h2 := ih (ps ++ [q])
    rw [List.append_assoc] at h2
    exact Nat.le_trans h1 h2
theorem join_take (X : List ByteArray) (l : List UInt8) (hX : bl X = elems l) (n : Nat) : (Lib.join (bl (X.take n)) [47]).length ≤ l.length := by
  have h := join_app 47 (bl (X.drop n)) (bl (X.take n))
  have e : bl (X.take n) ++ bl (X.drop n) = bl X := by unfold bl; rw [← List.map_append, List.take_append_drop]
  rw [e, hX] at h
  unfold elems at h
  rw [join_cut] at h
  exact h

set_option maxHeartbeats 1000000 in
theorem path_major (s : ByteArray) (A : Nat → Addr) (m : Int) (w : World) (hs : s.size < 4294967281) (S : Te w A m) (h1 : badE s.data.toList = false) (h5 : (elems s.data.toList).length ≤ 5) (h2 : (elems s.data.toList).any long = false) (h0 : 1 < (elems s.data.toList).length) (hk : likeB (lastOf s.data.toList) = true) (ho : sufOk (lastOf s.data.toList) = false) :
    Calls Tryz.prog 105 #[.string s] w fun e w' => e = .returned (.tuple #[.string ⟨#[]⟩, .int .i64 0, .iface 291 (.pointer (some (A 3)))]) ∧ Below w.heap.size w w' := by
  have H1 := hid (show ((elems s.data.toList).any fun e => !elemOk e) = false from h1)
  have H2 := hid h2
  have HK := hid hk
  have HO := hid ho
  clear h1 h2 hk ho
  have hmf : ∀ (fn : Fn) (first cap : Array Value) (w : World), (Instr.makeFunc fn first cap).run Tryz.prog w = .ok (.func fn first cap) w := fun _ _ _ _ => rfl
  have HS := hid S
  clear S
  go_enter Tryz.func105, Tryz.ntmps105
  go_wp2_with fail
  refine (split_any 47 s m w hs HS.out.ml).mono ?_
  rintro e w1 ⟨X, rfl, hX, hc, hb, hz⟩
  have HX := hid (show bl X = elems s.data.toList from hX)
  have HC := hid hc
  have HB := hid hb
  have HS1 := hid (HS.out.below hb)
  have hn := many_le hX
  have HXS := hid (show ∀ x, x ∈ X → x.size < 4294967281 from fun x hx => by have := piece_le hX hx; omega)
  have HLN := hid (show X.length = (elems s.data.toList).length by rw [← HX.out, bl_len])
  clear hX hc hb
  go_wp2_with fail
  refine (has1 w.heap.size X.length X m w1 (by omega) HC.out HS1.out.ml HXS.out).mono ?_
  rintro e w2 ⟨rfl, hb2⟩
  have HB2 := hid (HB.out.trans (hb2.mono HB.out.size))
  have HS2 := hid (HS1.out.below hb2)
  have HC2 := hid (show ∀ j (h : j < X.length), w2.cell? ⟨w.heap.size, 0 + j, none⟩ = some (.string X[j]) from fun j h => cell_below hb2 (HC.out j h))
  rw [HX.out, H1.out]
  clear hb2
  have h5b : decide (5 < (X.length : Int)) = false := decide_eq_false (by have := HLN.out; omega)
  go_wp2_with fail
  refine (has2 w.heap.size X.length X w2 (by omega) HC2.out).mono ?_
  rintro e w3 ⟨rfl, hb3⟩
  have HB3 := hid (HB2.out.trans (hb3.mono HB2.out.size))
  have HS3 := hid (HS2.out.below hb3)
  have HC3 := hid (show ∀ j (h : j < X.length), w3.cell? ⟨w.heap.size, 0 + j, none⟩ = some (.string X[j]) from fun j h => cell_below hb3 (HC2.out j h))
  rw [HX.out, H2.out]
  clear hb3
  have hp : X.length - 1 < X.length := by have := HLN.out; omega
  have hx : w3.cell? ⟨w.heap.size, X.length - 1, none⟩ = some (.string X[X.length - 1]) := by have := HC3.out (X.length - 1) hp; rw [Nat.zero_add] at this; exact this
  have HLT := hid (last_get HX.out hp)
  have HLS := hid (HXS.out _ (List.getElem_mem hp))
  have hi1 : ((X.length : Int) - 1) = ((X.length - 1 : Nat) : Int) := by have := HLN.out; omega
  have hi2 : (((X.length - 1 : Nat) : Int) == 0) = false := beq_eq_false_iff_ne.2 (by have := HLN.out; omega)
  generalize hZ : X[X.length - 1] = Z at *
  generalize hN : X.length - 1 = n at *
  go_wp2_with fail
  refine (like_any Z w3 HLS.out).mono ?_
  rintro e w' ⟨rfl, rfl⟩
  rw [HLT.out, HK.out]
  go_wp2_with fail
  refine (suffix_no Z A m w' HLS.out HS3.out (by rw [HLT.out]; exact HO.out)).mono ?_
  rintro e w4 ⟨rfl, hb4⟩
  have HB4 := hid (HB3.out.trans (hb4.mono HB3.out.size))
  clear hb4
  go_wp2_with fail
  go_ret3
  exact ⟨rfl, HB4.out⟩

set_option maxHeartbeats 1000000 in
theorem path_suffix (s : ByteArray) (A : Nat → Addr) (m : Int) (w : World) (hs : s.size < 4294967281) (S : Te w A m) (h1 : badE s.data.toList = false) (h5 : (elems s.data.toList).length ≤ 5) (h2 : (elems s.data.toList).any long = false) (h0 : 1 < (elems s.data.toList).length) (hk : likeB (lastOf s.data.toList) = true) (ho : sufOk (lastOf s.data.toList) = true) :
    Calls Tryz.prog 105 #[.string s] w fun e w' => (∃ H : ByteArray, e = .returned (.tuple #[.string H, .int .i64 (num (restOf (lastOf s.data.toList))).1, .nilIface]) ∧ H.data.toList = Lib.join ((elems s.data.toList).take ((elems s.data.toList).length - 1)) [47]) ∧ Below w.heap.size w w' := by
  have H1 := hid (show ((elems s.data.toList).any fun e => !elemOk e) = false from h1)
  have H2 := hid h2
  have HK := hid hk
  have HO := hid ho
  clear h1 h2 hk ho
  have hmf : ∀ (fn : Fn) (first cap : Array Value) (w : World), (Instr.makeFunc fn first cap).run Tryz.prog w = .ok (.func fn first cap) w := fun _ _ _ _ => rfl
  have HS := hid S
  clear S
  go_enter Tryz.func105, Tryz.ntmps105
  go_wp2_with fail
  refine (split_any 47 s m w hs HS.out.ml).mono ?_
  rintro e w1 ⟨X, rfl, hX, hc, hb, hz⟩
  have HX := hid (show bl X = elems s.data.toList from hX)
  have HC := hid hc
  have HB := hid hb
  have HS1 := hid (HS.out.below hb)
  have hn := many_le hX
  have HXS := hid (show ∀ x, x ∈ X → x.size < 4294967281 from fun x hx => by have := piece_le hX hx; omega)
  have HLN := hid (show X.length = (elems s.data.toList).length by rw [← HX.out, bl_len])
  clear hX hc hb
  go_wp2_with fail
  refine (has1 w.heap.size X.length X m w1 (by omega) HC.out HS1.out.ml HXS.out).mono ?_
  rintro e w2 ⟨rfl, hb2⟩
  have HB2 := hid (HB.out.trans (hb2.mono HB.out.size))
  have HS2 := hid (HS1.out.below hb2)
  have HC2 := hid (show ∀ j (h : j < X.length), w2.cell? ⟨w.heap.size, 0 + j, none⟩ = some (.string X[j]) from fun j h => cell_below hb2 (HC.out j h))
  rw [HX.out, H1.out]
  clear hb2
  have h5b : decide (5 < (X.length : Int)) = false := decide_eq_false (by have := HLN.out; omega)
  go_wp2_with fail
  refine (has2 w.heap.size X.length X w2 (by omega) HC2.out).mono ?_
  rintro e w3 ⟨rfl, hb3⟩
  have HB3 := hid (HB2.out.trans (hb3.mono HB2.out.size))
  have HS3 := hid (HS2.out.below hb3)
  have HC3 := hid (show ∀ j (h : j < X.length), w3.cell? ⟨w.heap.size, 0 + j, none⟩ = some (.string X[j]) from fun j h => cell_below hb3 (HC2.out j h))
  rw [HX.out, H2.out]
  clear hb3
  have HJ := hid (fun W (hW : Below w3.heap.size w3 W) => Tryz.strings_Join w.heap.size 0 X.length (X.take (X.length - 1)) ⟨#[47]⟩ W (fun j x hx => by
      have hj : j < (X.take (X.length - 1)).length := by
        rcases Nat.lt_or_ge j (X.take (X.length - 1)).length with h | h
        · exact h
        · rw [List.getElem?_eq_none h] at hx; cases hx
      have hj2 : j < X.length := by rw [List.length_take] at hj; omega
      have hx2 : X[j] = x := by
        rw [List.getElem?_eq_getElem hj, List.getElem_take] at hx
        exact Option.some.inj hx
      rw [← hx2]
      exact cell_below hW (HC3.out j hj2)) (by
      have h1 := lt_of_cell (HC3.out 0 (by have := HLN.out; omega))
      have h2 := hW.size
      simp at h1; omega) (by rw [List.length_take]; omega) (by rw [List.length_take]; omega) (by
      have := join_take X s.data.toList HX.out (X.length - 1)
      rw [len_eq] at this
      show (Lib.join (bl (X.take (X.length - 1))) [47]).length ≤ _
      omega))
  rw [show (X.take (X.length - 1)).length = X.length - 1 by rw [List.length_take]; omega] at HJ
  have HJT := hid (show Lib.join (bl (X.take (X.length - 1))) [47] = Lib.join ((elems s.data.toList).take ((elems s.data.toList).length - 1)) [47] by
    rw [← HX.out, bl_len]; unfold bl; rw [List.map_take])
  have hp : X.length - 1 < X.length := by have := HLN.out; omega
  have hx : w3.cell? ⟨w.heap.size, X.length - 1, none⟩ = some (.string X[X.length - 1]) := by have := HC3.out (X.length - 1) hp; rw [Nat.zero_add] at this; exact this
  have HLT := hid (last_get HX.out hp)
  have HLS := hid (HXS.out _ (List.getElem_mem hp))
  have hi1 : ((X.length : Int) - 1) = ((X.length - 1 : Nat) : Int) := by have := HLN.out; omega
  have hi2 : (((X.length - 1 : Nat) : Int) == 0) = false := beq_eq_false_iff_ne.2 (by have := HLN.out; omega)
  generalize hZ : X[X.length - 1] = Z at *
  generalize hN : X.length - 1 = n at *
  go_wp2_with fail
  refine (like_any Z w3 HLS.out).mono ?_
  rintro e w' ⟨rfl, rfl⟩
  rw [HLT.out, HK.out]
  go_wp2_with fail
  refine (suffix_yes Z A m w' HLS.out HS3.out (by rw [HLT.out]; exact HO.out)).mono ?_
  rintro e w4 ⟨rfl, hb4⟩
  have HB4 := hid (HB3.out.trans (hb4.mono HB3.out.size))
  have HB34 := hid hb4
  rw [HLT.out]
  clear hb4
  go_wp2_with fail
  refine (HJ.out _ HB34.out).mono ?_
  rintro e w5 ⟨rfl, hb5⟩
  have HB5 := hid (HB4.out.trans (hb5.mono HB4.out.size))
  clear hb5
  go_wp2_with fail
  go_ret3
  exact ⟨⟨_, rfl, by have := HJT.out; unfold bl at this; rw [List.map_take] at this; exact this⟩, HB5.out⟩

/-- What readPath answers. -/
def PathP (A : Nat → Addr) (l : List UInt8) (w w' : World) (e : Ending) : Prop :=
  (∃ (H : ByteArray) (n : Int) (v : Value), e = .returned (.tuple #[.string H, .int .i64 n, v]) ∧ v = errA A (pathErr l) ∧ (pathErr l = 0 → H.data.toList = pathH l ∧ n = pathN l) ∧ (pathErr l ≠ 0 → H = ⟨#[]⟩ ∧ n = 0)) ∧ Below w.heap.size w w'
theorem readPath_any (s : ByteArray) (A : Nat → Addr) (m : Int) (w : World) (hs : s.size < 4294967281) (S : Te w A m) : Calls Tryz.prog 105 #[.string s] w fun e w' => PathP A s.data.toList w w' e := by
  have hp := elems_pos s.data.toList
  cases h1 : badE s.data.toList
  · by_cases h5 : 5 < (elems s.data.toList).length
    · have he : pathErr s.data.toList = 2 := by unfold pathErr longE; rw [h1, decide_eq_true h5]; rfl
      exact (path_many s A m w hs S h1 h5).mono fun e w' h => ⟨⟨_, _, _, h.1, by rw [he]; rfl, (fun h => by rw [he] at h; cases h), fun _ => ⟨rfl, rfl⟩⟩, h.2⟩
    · have d5 := decide_eq_false h5
      cases h2 : (elems s.data.toList).any long
      · have hl : longE s.data.toList = false := by unfold longE; rw [d5, h2]; rfl
        by_cases h0 : 1 < (elems s.data.toList).length
        · cases hk : likeB (lastOf s.data.toList)
          · have hu : sufE s.data.toList = false := by unfold sufE; rw [hk]; simp
            have he : pathErr s.data.toList = 0 := by unfold pathErr; rw [h1, hl, hu]; rfl
            exact (path_unlike s A m w hs S h1 (by omega) h2 h0 hk).mono fun e w' h => ⟨⟨_, _, _, h.1, by rw [he]; rfl, fun _ => ⟨by unfold pathH; rw [hu]; rfl, by unfold pathN; rw [hu]; rfl⟩, fun h => absurd he h⟩, h.2⟩
          · have hu : sufE s.data.toList = true := by unfold sufE; rw [hk, decide_eq_true h0]; rfl
            cases ho : sufOk (lastOf s.data.toList)
            · have he : pathErr s.data.toList = 4 := by unfold pathErr; rw [h1, hl, hu, ho]; rfl
              exact (path_major s A m w hs S h1 (by omega) h2 h0 hk ho).mono fun e w' h => ⟨⟨_, _, _, h.1, by rw [he]; rfl, (fun h => by rw [he] at h; cases h), fun _ => ⟨rfl, rfl⟩⟩, h.2⟩
            · have he : pathErr s.data.toList = 0 := by unfold pathErr; rw [h1, hl, hu, ho]; rfl
              exact (path_suffix s A m w hs S h1 (by omega) h2 h0 hk ho).mono fun e w' ⟨⟨H, e1, e2⟩, hb⟩ => ⟨⟨H, _, _, e1, by rw [he]; rfl, fun _ => ⟨by unfold pathH; rw [hu]; exact e2, by unfold pathN; rw [hu]; rfl⟩, fun h => absurd he h⟩, hb⟩
        · have hu : sufE s.data.toList = false := by unfold sufE; rw [decide_eq_false h0]; rfl
          have he : pathErr s.data.toList = 0 := by unfold pathErr; rw [h1, hl, hu]; rfl
          exact (path_one s A m w hs S h1 h2 (by omega)).mono fun e w' h => ⟨⟨_, _, _, h.1, by rw [he]; rfl, fun _ => ⟨by unfold pathH; rw [hu]; rfl, by unfold pathN; rw [hu]; rfl⟩, fun h => absurd he h⟩, h.2⟩
      · have he : pathErr s.data.toList = 2 := by unfold pathErr longE; rw [h1, h2]; simp
        exact (path_long s A m w hs S h1 (by omega) h2).mono fun e w' h => ⟨⟨_, _, _, h.1, by rw [he]; rfl, (fun h => by rw [he] at h; cases h), fun _ => ⟨rfl, rfl⟩⟩, h.2⟩
  · have he : pathErr s.data.toList = 1 := by unfold pathErr; rw [h1]; rfl
    exact (path_bad s A m w hs S h1).mono fun e w' h => ⟨⟨_, _, _, h.1, by rw [he]; rfl, (fun h => by rw [he] at h; cases h), fun _ => ⟨rfl, rfl⟩⟩, h.2⟩
end Ve
end Go.Proofs.YtpafkniapacfdaaGreatDoor

/-
  What Less of package ver answers; nothing old in memory turns.
-/
namespace Go.Proofs.YtpafkniapacfdaaGreatDoor
open Go.RowKit
namespace Ve

def lessB (s t : List UInt8) : Bool := decide (verErr s = 0) && (decide (verErr t = 0) && decide (ordV s t < 0))
set_option maxHeartbeats 1000000 in
theorem less_11 (k : Int) (x y z x' y' z' : Int) (X Y : List ByteArray) (s t : ByteArray) (aT aB : Addr) (m : Int) (w : World) (S : Vs w aT aB m)
    (hA : Calls Tryz.prog 106 #[.string s] w fun e w' => GoodP w w' e x y z X) (hT : ∀ W, Vs W aT aB m → Calls Tryz.prog 106 #[.string t] W fun e w' => GoodP W w' e x' y' z' Y)
    (hC : ∀ W va vb, StrsAt W va X → StrsAt W vb Y → Calls Tryz.prog 150 #[.agg #[.int .i64 x, .int .i64 y, .int .i64 z, va], .agg #[.int .i64 x', .int .i64 y', .int .i64 z', vb]] W fun e w' => e = .returned (.int .i64 k) ∧ Below W.heap.size W w') :
    Calls Tryz.prog 108 #[.string s, .string t] w fun e w' => e = .returned (.bool (decide (k < 0))) ∧ Below w.heap.size w w' := by
  have HC := hid hC
  clear hC
  have HA := hid hA
  have HT := hid hT
  have HS := hid S
  clear hA hT S
  go_enter Tryz.func108, Tryz.ntmps108
  go_wp2_with fail
  refine HA.out.mono ?_
  rintro e w1 ⟨v, rfl, hst, hb1⟩
  obtain ⟨pa, na, ca, rfl⟩ := hst.slice
  have HST := hid hst
  clear hst
  have HB1 := hid hb1
  have HB2 := hid ((Below.refl w1.heap.size w1).alloc (Nat.le_refl _) (.cells #[.int .i64 x, .int .i64 y, .int .i64 z, .slice pa na ca] 162))
  have HS1 := hid ((HS.out.below hb1).below HB2.out)
  clear hb1
  go_wp2_with fail
  refine (HT.out _ HS1.out).mono ?_
  rintro e w2 ⟨v, rfl, hst, hb2⟩
  obtain ⟨pb, nb, cb, rfl⟩ := hst.slice
  have HTT := hid hst
  clear hst
  obtain ⟨⟨r0, r1, r2, r3⟩, rf, rz⟩ := res4 (hb2.mono (by simp))
  have HB12 := hid (HB2.out.trans (hb2.mono (by simp)))
  have HB3 := hid (HB1.out.trans (HB12.out.mono HB1.out.size))
  have HBA := hid ((Below.refl w2.heap.size w2).alloc (Nat.le_refl _) (.cells #[.int .i64 x', .int .i64 y', .int .i64 z', .slice pb nb cb] 162))
  have HB4 := hid (HB3.out.trans (HBA.out.mono HB3.out.size))
  clear hb2
  have HSA := hid ((HST.out.below HB12.out).below HBA.out)
  have HSB := hid (HTT.out.below HBA.out)
  go_wp2_with fail
  refine (HC.out _ _ _ HSA.out HSB.out).mono ?_
  rintro e w3 ⟨rfl, hb3⟩
  have HB5 := hid (HB4.out.trans (hb3.mono HB4.out.size))
  clear hb3
  go_wp2_with fail
  go_ret
  exact ⟨rfl, HB5.out⟩

set_option maxHeartbeats 1000000 in
theorem less_10 (x y z : Int) (X : List ByteArray) (s t : ByteArray) (aT aB : Addr) (m : Int) (w : World) (S : Vs w aT aB m)
    (hA : Calls Tryz.prog 106 #[.string s] w fun e w' => GoodP w w' e x y z X) (hT : ∀ W, Vs W aT aB m → Calls Tryz.prog 106 #[.string t] W fun e w' => BadP W w' e) :
    Calls Tryz.prog 108 #[.string s, .string t] w fun e w' => e = .returned (.bool false) ∧ Below w.heap.size w w' := by
  have HA := hid hA
  have HT := hid hT
  have HS := hid S
  clear hA hT S
  go_enter Tryz.func108, Tryz.ntmps108
  go_wp2_with fail
  refine HA.out.mono ?_
  rintro e w1 ⟨v, rfl, hst, hb1⟩
  obtain ⟨pa, na, ca, rfl⟩ := hst.slice
  have HST := hid hst
  clear hst
  have HB1 := hid hb1
  have HB2 := hid ((Below.refl w1.heap.size w1).alloc (Nat.le_refl _) (.cells #[.int .i64 x, .int .i64 y, .int .i64 z, .slice pa na ca] 162))
  have HS1 := hid ((HS.out.below hb1).below HB2.out)
  clear hb1
  go_wp2_with fail
  refine (HT.out _ HS1.out).mono ?_
  rintro e w2 ⟨a2, rfl, hb2⟩
  obtain ⟨⟨r0, r1, r2, r3⟩, rf, rz⟩ := res4 (hb2.mono (by simp))
  have HB12 := hid (HB2.out.trans (hb2.mono (by simp)))
  have HB3 := hid (HB1.out.trans (HB12.out.mono HB1.out.size))
  have HBA := hid ((Below.refl w2.heap.size w2).alloc (Nat.le_refl _) (.cells #[.int .i64 0, .int .i64 0, .int .i64 0, .slice none 0 0] 162))
  have HB4 := hid (HB3.out.trans (HBA.out.mono HB3.out.size))
  clear hb2
  go_wp2_with fail
  go_ret
  exact ⟨rfl, HB4.out⟩

set_option maxHeartbeats 1000000 in
theorem less_01 (x' y' z' : Int) (Y : List ByteArray) (s t : ByteArray) (aT aB : Addr) (m : Int) (w : World) (S : Vs w aT aB m)
    (hA : Calls Tryz.prog 106 #[.string s] w fun e w' => BadP w w' e) (hT : ∀ W, Vs W aT aB m → Calls Tryz.prog 106 #[.string t] W fun e w' => GoodP W w' e x' y' z' Y) :
    Calls Tryz.prog 108 #[.string s, .string t] w fun e w' => e = .returned (.bool false) ∧ Below w.heap.size w w' := by
  have HA := hid hA
  have HT := hid hT
  have HS := hid S
  clear hA hT S
  go_enter Tryz.func108, Tryz.ntmps108
  go_wp2_with fail
  refine HA.out.mono ?_
  rintro e w1 ⟨a1, rfl, hb1⟩
  have HB1 := hid hb1
  have HB2 := hid ((Below.refl w1.heap.size w1).alloc (Nat.le_refl _) (.cells #[.int .i64 0, .int .i64 0, .int .i64 0, .slice none 0 0] 162))
  have HS1 := hid ((HS.out.below hb1).below HB2.out)
  clear hb1
  go_wp2_with fail
  refine (HT.out _ HS1.out).mono ?_
  rintro e w2 ⟨v, rfl, hst, hb2⟩
  obtain ⟨pb, nb, cb, rfl⟩ := hst.slice
  have HTT := hid hst
  clear hst
  obtain ⟨⟨r0, r1, r2, r3⟩, rf, rz⟩ := res4 (hb2.mono (by simp))
  have HB12 := hid (HB2.out.trans (hb2.mono (by simp)))
  have HB3 := hid (HB1.out.trans (HB12.out.mono HB1.out.size))
  have HBA := hid ((Below.refl w2.heap.size w2).alloc (Nat.le_refl _) (.cells #[.int .i64 x', .int .i64 y', .int .i64 z', .slice pb nb cb] 162))
  have HB4 := hid (HB3.out.trans (HBA.out.mono HB3.out.size))
  clear hb2
  go_wp2_with fail
  go_ret
  exact ⟨rfl, HB4.out⟩

set_option maxHeartbeats 1000000 in
theorem less_00 (s t : ByteArray) (aT aB : Addr) (m : Int) (w : World) (S : Vs w aT aB m)
    (hA : Calls Tryz.prog 106 #[.string s] w fun e w' => BadP w w' e) (hT : ∀ W, Vs W aT aB m → Calls Tryz.prog 106 #[.string t] W fun e w' => BadP W w' e) :
    Calls Tryz.prog 108 #[.string s, .string t] w fun e w' => e = .returned (.bool false) ∧ Below w.heap.size w w' := by
  have HA := hid hA
  have HT := hid hT
  have HS := hid S
  clear hA hT S
  go_enter Tryz.func108, Tryz.ntmps108
  go_wp2_with fail
  refine HA.out.mono ?_
  rintro e w1 ⟨a1, rfl, hb1⟩
  have HB1 := hid hb1
  have HB2 := hid ((Below.refl w1.heap.size w1).alloc (Nat.le_refl _) (.cells #[.int .i64 0, .int .i64 0, .int .i64 0, .slice none 0 0] 162))
  have HS1 := hid ((HS.out.below hb1).below HB2.out)
  clear hb1
  go_wp2_with fail
  refine (HT.out _ HS1.out).mono ?_
  rintro e w2 ⟨a2, rfl, hb2⟩
  obtain ⟨⟨r0, r1, r2, r3⟩, rf, rz⟩ := res4 (hb2.mono (by simp))
  have HB12 := hid (HB2.out.trans (hb2.mono (by simp)))
  have HB3 := hid (HB1.out.trans (HB12.out.mono HB1.out.size))
  have HBA := hid ((Below.refl w2.heap.size w2).alloc (Nat.le_refl _) (.cells #[.int .i64 0, .int .i64 0, .int .i64 0, .slice none 0 0] 162))
  have HB4 := hid (HB3.out.trans (HBA.out.mono HB3.out.size))
  clear hb2
  go_wp2_with fail
  go_ret
  exact ⟨rfl, HB4.out⟩

/-- A pre of a version: how many parts, how long. -/
theorem pre_bounds {s : ByteArray} {X : List ByteArray} (hs : s.size < 999999) (hX : bl X = preOf s.data.toList) : X.length ≤ 1000000 ∧ ∀ x, x ∈ X → x.size ≤ maxLen := by
  constructor
  · have := pre_len (l := s.data.toList); rw [← hX, bl_len, len_eq] at this; omega
  · intro x hx
    have hm : x.data.toList ∈ preOf s.data.toList := hX ▸ bl_mem hx
    have := pre_size hm
    rw [len_eq, len_eq] at this
    unfold maxLen; omega
theorem less_any (s t : ByteArray) (aT aB : Addr) (m : Int) (w : World) (hs : s.size < 999999) (ht : t.size < 999999) (S : Vs w aT aB m) :
    Calls Tryz.prog 108 #[.string s, .string t] w fun e w' => e = .returned (.bool (lessB s.data.toList t.data.toList)) ∧ Below w.heap.size w w' := by
  obtain ⟨X, hX⟩ : ∃ X, bl X = preOf s.data.toList := ⟨_, bl_strs _⟩
  obtain ⟨Y, hY⟩ : ∃ X, bl X = preOf t.data.toList := ⟨_, bl_strs _⟩
  obtain ⟨lX, pX⟩ := pre_bounds hs hX
  obtain ⟨lY, pY⟩ := pre_bounds ht hY
  unfold lessB
  by_cases h1 : verErr s.data.toList = 0
  all_goals by_cases h2 : verErr t.data.toList = 0
  · rw [decide_eq_true h1, decide_eq_true h2]
    refine (less_11 (ordV s.data.toList t.data.toList) _ _ _ _ _ _ X Y s t aT aB m w S (vsplit_is s aT aB m w (by omega) S h1 X hX) (fun W SW => vsplit_is t aT aB m W (by omega) SW h2 Y hY) ?_).mono fun e w' h => h
    intro W va vb ha hb
    unfold ordV
    rw [← hX, ← hY]
    exact compare_any _ _ _ _ _ _ va vb X Y W lX lY pX pY ha hb
  · rw [decide_eq_true h1, decide_eq_false h2]
    exact less_10 _ _ _ X s t aT aB m w S (vsplit_is s aT aB m w (by omega) S h1 X hX) (fun W SW => vsplit_not t aT aB m W (by omega) SW h2)
  · rw [decide_eq_false h1]
    exact less_01 _ _ _ Y s t aT aB m w S (vsplit_not s aT aB m w (by omega) S h1) (fun W SW => vsplit_is t aT aB m W (by omega) SW h2 Y hY)
  · rw [decide_eq_false h1]
    exact less_00 s t aT aB m w S (vsplit_not s aT aB m w (by omega) S h1) (fun W SW => vsplit_not t aT aB m W (by omega) SW h2)
end Ve
end Go.Proofs.YtpafkniapacfdaaGreatDoor


namespace Go.Proofs.YtpafkniapacfdaaGreatDoor
namespace Ve
end Ve
end Go.Proofs.YtpafkniapacfdaaGreatDoor


namespace Go.Proofs.YtpafkniapacfdaaGreatDoor
open Go.RowKit
namespace Ve
theorem ver_parts {l : List UInt8} (h : verErr l = 0) : ∀ p, p ∈ preOf l → part p = 0 := by
  intro p hp
  unfold verErr at h
  split at h
  · cases h
  · cases hh : hasPre l
    · unfold preOf at hp; rw [hh] at hp; simp at hp
    · rw [hh] at h
      simp only [if_true] at h
      refine pre_parts ?_ p hp
      unfold worse at h
      split at h
      · rename_i hc
        rcases hc with hc | hc
        · omega
        · exact hc
      · exact h
theorem sign_any (l m : Bool) (w : World) : Calls Tryz.prog 165 #[.bool l, .bool m] w fun e w' => e = .returned (.int .i64 (if l then -1 else if m then 1 else 0)) ∧ w' = w := by
  cases l <;> cases m
  all_goals
    go_enter Tryz.func165, Tryz.ntmps165
    go_wp2
    go_ret
    exact ⟨rfl, rfl⟩
theorem sign_is (l m : Bool) (k : Int) (w : World) (hk : (if l then (-1 : Int) else if m then 1 else 0) = k) : Calls Tryz.prog 165 #[.bool l, .bool m] w fun e w' => e = .returned (.int .i64 k) ∧ w' = w := by
  rw [← hk]; exact sign_any l m w
theorem sign_int (x y : Int) : (if decide (x < y) then (-1 : Int) else if decide (x > y) then 1 else 0) = Lib.compareInt x y := by
  unfold Lib.compareInt; simp
theorem sign_bytes (a b : List UInt8) : (if Op.bytesLess a b then (-1 : Int) else if !(Op.bytesLess a b || a == b) then 1 else 0) = Lib.compareBytes a b := by
  rw [cb_more, cb_less]
  rcases cb_range a b with h | h | h <;> rw [h] <;> rfl
theorem toList_data (s : ByteArray) : s.toList = s.data.toList := ByteArray.toList_eq s
set_option maxHeartbeats 1000000 in
theorem opart_any (s t : ByteArray) (w : World) (hs : s.size ≤ maxLen) (ht : t.size ≤ maxLen) :
    Calls Tryz.prog 166 #[.string s, .string t] w fun e w' => e = .returned (.int .i64 (ordPartN s.data.toList t.data.toList)) ∧ w' = w := by
  have HO := hid (show ordPartN s.data.toList t.data.toList = if digs s.data.toList then (if digs t.data.toList then Lib.compareInt (num s.data.toList).1 (num t.data.toList).1 else -1) else if digs t.data.toList then 1 else Lib.compareBytes s.data.toList t.data.toList from rfl)
  have HS := hid (areDigits_any s w hs)
  have HT := hid (areDigits_any t w ht)
  have NS := hid (numberOf_any s w hs)
  have NT := hid (numberOf_any t w ht)
  have HI := hid (sign_int (num s.data.toList).1 (num t.data.toList).1)
  have HB := hid ((sign_bytes s.toList t.toList).trans (by rw [toList_data, toList_data]))
  have hgt : ∀ W : World, (binOp BinOp.gtr 9 (.string s) (.string t)).run Tryz.prog W = .ok (.bool (!(Op.bytesLess s.toList t.toList || s.toList == t.toList))) W := fun _ => rfl
  clear hs ht
  cases h1 : digs s.data.toList
  all_goals cases h2 : digs t.data.toList
  all_goals rw [h1] at HS HO
  all_goals rw [h2] at HT HO
  all_goals clear h1 h2
  · go_enter Tryz.func166, Tryz.ntmps166
    go_wp2_with fail
    refine HS.out.mono ?_
    rintro e w' ⟨rfl, rfl⟩
    go_wp2_with fail
    refine HT.out.mono ?_
    rintro e w' ⟨rfl, rfl⟩
    go_wp2_with fail
    refine (sign_is _ _ (Lib.compareBytes s.data.toList t.data.toList) _ ?hk).mono ?_
    case hk => rw [← Bool.not_or]; exact HB.out
    rintro e w' ⟨rfl, rfl⟩
    go_wp2_with fail
    go_ret
    exact ⟨ret_int (by rw [HO.out]; rfl), rfl⟩
  · go_enter Tryz.func166, Tryz.ntmps166
    go_wp2_with fail
    refine HS.out.mono ?_
    rintro e w' ⟨rfl, rfl⟩
    go_wp2_with fail
    refine HT.out.mono ?_
    rintro e w' ⟨rfl, rfl⟩
    go_wp2_with fail
    refine (sign_is _ _ 1 _ rfl).mono ?_
    rintro e w' ⟨rfl, rfl⟩
    go_wp2_with fail
    go_ret
    exact ⟨ret_int (by rw [HO.out]; rfl), rfl⟩
  · go_enter Tryz.func166, Tryz.ntmps166
    go_wp2_with fail
    refine HS.out.mono ?_
    rintro e w' ⟨rfl, rfl⟩
    go_wp2_with fail
    refine HT.out.mono ?_
    rintro e w' ⟨rfl, rfl⟩
    go_wp2_with fail
    refine (sign_is _ _ (-1) _ rfl).mono ?_
    rintro e w' ⟨rfl, rfl⟩
    go_wp2_with fail
    go_ret
    exact ⟨ret_int (by rw [HO.out]; rfl), rfl⟩
  · go_enter Tryz.func166, Tryz.ntmps166
    go_wp2_with fail
    refine HS.out.mono ?_
    rintro e w' ⟨rfl, rfl⟩
    go_wp2_with fail
    refine HT.out.mono ?_
    rintro e w' ⟨rfl, rfl⟩
    go_wp2_with fail
    refine NS.out.mono ?_
    rintro e w' ⟨rfl, rfl⟩
    go_wp2_with fail
    refine NT.out.mono ?_
    rintro e w' ⟨rfl, rfl⟩
    go_wp2_with fail
    refine (sign_is _ _ _ _ HI.out).mono ?_
    rintro e w' ⟨rfl, rfl⟩
    go_wp2_with fail
    go_ret
    exact ⟨ret_int (by rw [HO.out]; rfl), rfl⟩
theorem isVer_any (s : ByteArray) (w : World) (hs : s.size < 4294967281) :
    Calls Tryz.prog 125 #[.string s] w fun e w' => e = .returned (.bool (decide (verErr s.data.toList = 0))) ∧ Below w.heap.size w w' := by
  have HV := hid (verOf_any s w hs)
  by_cases h : verErr s.data.toList = 0
  · have HH := hid h
    clear h
    go_enter Tryz.func125, Tryz.ntmps125
    go_wp2_with fail
    refine HV.out.mono ?_
    rintro e w1 ⟨h1, hb⟩
    have HB := hid hb
    clear hb
    rcases h1 with ⟨h1, _⟩ | ⟨_, sa, cap, X2, rfl, _⟩
    · exact absurd HH.out h1
    go_wp2_with fail
    go_ret
    exact ⟨ret_bool (by rw [HH.out]; rfl), HB.out.alloc HB.out.size _⟩
  · have HH := hid h
    have hz : ((verErr s.data.toList : Int) == 0) = false := beq_eq_false_iff_ne.2 (by omega)
    clear h
    go_enter Tryz.func125, Tryz.ntmps125
    go_wp2_with fail
    refine HV.out.mono ?_
    rintro e w1 ⟨h1, hb⟩
    have HB := hid hb
    clear hb
    rcases h1 with ⟨_, rfl⟩ | ⟨h1, _⟩
    · go_wp2_with fail
      go_ret
      exact ⟨ret_bool (by rw [decide_eq_false HH.out]), HB.out.alloc HB.out.size _⟩
    · exact absurd h1 HH.out
end Ve
end Go.Proofs.YtpafkniapacfdaaGreatDoor
