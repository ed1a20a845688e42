/-
  ModC
-/
import Derived.Test.YtiebgeamfblbdaaGreatDoorFb12
import Derived.Test.YtiebgeamfblbdaaGreatDoorFb14
import Derived.OwnWalk
namespace Go.Proofs.YtiebgeamfblbdaaGreatDoor
open Go.RowKit
namespace Ve
def elems (l : List UInt8) : List (List UInt8) := cutAt 47 l
def lastOf (l : List UInt8) : List UInt8 := (elems l).getD ((elems l).length - 1) []
def badE (l : List UInt8) : Bool := (elems l).any fun e => !elemOk e
def longE (l : List UInt8) : Bool := decide (5 < (elems l).length) || (elems l).any long
def sufE (l : List UInt8) : Bool := decide (1 < (elems l).length) && likeB (lastOf l)
def pathErr (l : List UInt8) : Nat := if badE l then 1 else if longE l then 2 else if sufE l && !sufOk (lastOf l) then 4 else 0
def pathN (l : List UInt8) : Int := if sufE l then (num (restOf (lastOf l))).1 else 0
def pathH (l : List UInt8) : List UInt8 := if sufE l then Lib.join ((elems l).take ((elems l).length - 1)) [47] else l
theorem elems_pos (l : List UInt8) : 0 < (elems l).length := List.length_pos_iff.2 (cutAt_ne 47 _)
theorem last_get {l : List UInt8} {X : List ByteArray} (h : bl X = elems l) (hp : X.length - 1 < X.length) : X[X.length - 1].data.toList = lastOf l := by
  unfold lastOf
  have hl : (elems l).length = X.length := by rw [← h, bl_len]
  rw [hl, List.getD_eq_getElem?_getD, ← h]
  unfold bl
  rw [List.getElem?_map, List.getElem?_eq_getElem hp]; rfl
set_option maxHeartbeats 1000000 in
theorem path_bad (s : ByteArray) (A : Nat → Addr) (m : Int) (w : World) (hs : s.size < 4294967281) (S : Te w A m) (h1 : badE s.data.toList = true) :
    Calls Tryz.prog 29 #[.string s] w fun e w' => e = .returned (.tuple #[.string ⟨#[]⟩, .int .i64 0, .iface 169 (.pointer (some (A 0)))]) ∧ Below w.heap.size w w' := by
  have H1 := hid (show ((elems s.data.toList).any fun e => !elemOk e) = true from h1)
  clear h1
  have hmf : ∀ (fn : Fn) (first cap : Array Value) (w : World), (Instr.makeFunc fn first cap).run Tryz.prog w = .ok (.func fn first cap) w := fun _ _ _ _ => rfl
  have HS := hid S
  clear S
  go_enter Tryz.func29, Tryz.ntmps29
  go_wp2_with fail
  refine (split_any 47 s m w hs HS.out.ml).mono ?_
  rintro e w1 ⟨X, rfl, hX, hc, hb, hz⟩
  have HX := hid (show bl X = elems s.data.toList from hX)
  have HC := hid hc
  have HB := hid hb
  have HS1 := hid (HS.out.below hb)
  have hn := many_le hX
  have HXS := hid (show ∀ x, x ∈ X → x.size < 4294967281 from fun x hx => by have := piece_le hX hx; omega)
  have HLN := hid (show X.length = (elems s.data.toList).length by rw [← HX.out, bl_len])
  clear hX hc hb
  go_wp2_with fail
  refine (has1 w.heap.size X.length X m w1 (by omega) HC.out HS1.out.ml HXS.out).mono ?_
  rintro e w2 ⟨rfl, hb2⟩
  have HB2 := hid (HB.out.trans (hb2.mono HB.out.size))
  have HS2 := hid (HS1.out.below hb2)
  have HC2 := hid (show ∀ j (h : j < X.length), w2.cell? ⟨w.heap.size, 0 + j, none⟩ = some (.string X[j]) from fun j h => cell_below hb2 (HC.out j h))
  rw [HX.out, H1.out]
  clear hb2
  have g0 := HS2.out.sen.g0
  go_wp2_with fail
  go_quiet (fail)
  go_wp2_with fail
  go_ret3
  exact ⟨rfl, HB2.out.trans ((below_drawn _ _).mono HB2.out.size)⟩
set_option maxHeartbeats 1000000 in
theorem path_many (s : ByteArray) (A : Nat → Addr) (m : Int) (w : World) (hs : s.size < 4294967281) (S : Te w A m) (h1 : badE s.data.toList = false) (h2 : 5 < (elems s.data.toList).length) :
    Calls Tryz.prog 29 #[.string s] w fun e w' => e = .returned (.tuple #[.string ⟨#[]⟩, .int .i64 0, .iface 169 (.pointer (some (A 1)))]) ∧ Below w.heap.size w w' := by
  have H1 := hid (show ((elems s.data.toList).any fun e => !elemOk e) = false from h1)
  clear h1
  have hmf : ∀ (fn : Fn) (first cap : Array Value) (w : World), (Instr.makeFunc fn first cap).run Tryz.prog w = .ok (.func fn first cap) w := fun _ _ _ _ => rfl
  have HS := hid S
  clear S
  go_enter Tryz.func29, Tryz.ntmps29
  go_wp2_with fail
  refine (split_any 47 s m w hs HS.out.ml).mono ?_
  rintro e w1 ⟨X, rfl, hX, hc, hb, hz⟩
  have HX := hid (show bl X = elems s.data.toList from hX)
  have HC := hid hc
  have HB := hid hb
  have HS1 := hid (HS.out.below hb)
  have hn := many_le hX
  have HXS := hid (show ∀ x, x ∈ X → x.size < 4294967281 from fun x hx => by have := piece_le hX hx; omega)
  have HLN := hid (show X.length = (elems s.data.toList).length by rw [← HX.out, bl_len])
  clear hX hc hb
  go_wp2_with fail
  refine (has1 w.heap.size X.length X m w1 (by omega) HC.out HS1.out.ml HXS.out).mono ?_
  rintro e w2 ⟨rfl, hb2⟩
  have HB2 := hid (HB.out.trans (hb2.mono HB.out.size))
  have HS2 := hid (HS1.out.below hb2)
  have HC2 := hid (show ∀ j (h : j < X.length), w2.cell? ⟨w.heap.size, 0 + j, none⟩ = some (.string X[j]) from fun j h => cell_below hb2 (HC.out j h))
  rw [HX.out, H1.out]
  clear hb2
  have g1 := HS2.out.sen.g1
  have h5 : decide (5 < (X.length : Int)) = true := decide_eq_true (by have := HLN.out; omega)
  go_wp2_with fail
  go_quiet (fail)
  go_wp2_with fail
  go_ret3
  exact ⟨rfl, HB2.out.trans ((below_drawn _ _).mono HB2.out.size)⟩
set_option maxHeartbeats 1000000 in
theorem path_long (s : ByteArray) (A : Nat → Addr) (m : Int) (w : World) (hs : s.size < 4294967281) (S : Te w A m) (h1 : badE s.data.toList = false) (h5 : (elems s.data.toList).length ≤ 5) (h2 : (elems s.data.toList).any long = true) :
    Calls Tryz.prog 29 #[.string s] w fun e w' => e = .returned (.tuple #[.string ⟨#[]⟩, .int .i64 0, .iface 169 (.pointer (some (A 1)))]) ∧ Below w.heap.size w w' := by
  have H1 := hid (show ((elems s.data.toList).any fun e => !elemOk e) = false from h1)
  have H2 := hid h2
  clear h1 h2
  have hmf : ∀ (fn : Fn) (first cap : Array Value) (w : World), (Instr.makeFunc fn first cap).run Tryz.prog w = .ok (.func fn first cap) w := fun _ _ _ _ => rfl
  have HS := hid S
  clear S
  go_enter Tryz.func29, Tryz.ntmps29
  go_wp2_with fail
  refine (split_any 47 s m w hs HS.out.ml).mono ?_
  rintro e w1 ⟨X, rfl, hX, hc, hb, hz⟩
  have HX := hid (show bl X = elems s.data.toList from hX)
  have HC := hid hc
  have HB := hid hb
  have HS1 := hid (HS.out.below hb)
  have hn := many_le hX
  have HXS := hid (show ∀ x, x ∈ X → x.size < 4294967281 from fun x hx => by have := piece_le hX hx; omega)
  have HLN := hid (show X.length = (elems s.data.toList).length by rw [← HX.out, bl_len])
  clear hX hc hb
  go_wp2_with fail
  refine (has1 w.heap.size X.length X m w1 (by omega) HC.out HS1.out.ml HXS.out).mono ?_
  rintro e w2 ⟨rfl, hb2⟩
  have HB2 := hid (HB.out.trans (hb2.mono HB.out.size))
  have HS2 := hid (HS1.out.below hb2)
  have HC2 := hid (show ∀ j (h : j < X.length), w2.cell? ⟨w.heap.size, 0 + j, none⟩ = some (.string X[j]) from fun j h => cell_below hb2 (HC.out j h))
  rw [HX.out, H1.out]
  clear hb2
  have h5b : decide (5 < (X.length : Int)) = false := decide_eq_false (by have := HLN.out; omega)
  go_wp2_with fail
  refine (has2 w.heap.size X.length X w2 (by omega) HC2.out).mono ?_
  rintro e w3 ⟨rfl, hb3⟩
  have HB3 := hid (HB2.out.trans (hb3.mono HB2.out.size))
  have HS3 := hid (HS2.out.below hb3)
  have HC3 := hid (show ∀ j (h : j < X.length), w3.cell? ⟨w.heap.size, 0 + j, none⟩ = some (.string X[j]) from fun j h => cell_below hb3 (HC2.out j h))
  rw [HX.out, H2.out]
  clear hb3
  have g1 := HS3.out.sen.g1
  go_wp2_with fail
  go_quiet (fail)
  go_wp2_with fail
  go_ret3
  exact ⟨rfl, HB3.out.trans ((below_drawn _ _).mono HB3.out.size)⟩
set_option maxHeartbeats 1000000 in
theorem path_one (s : ByteArray) (A : Nat → Addr) (m : Int) (w : World) (hs : s.size < 4294967281) (S : Te w A m) (h1 : badE s.data.toList = false) (h2 : (elems s.data.toList).any long = false) (h0 : (elems s.data.toList).length = 1) :
    Calls Tryz.prog 29 #[.string s] w fun e w' => e = .returned (.tuple #[.string s, .int .i64 0, .nilIface]) ∧ Below w.heap.size w w' := by
  have H1 := hid (show ((elems s.data.toList).any fun e => !elemOk e) = false from h1)
  have H2 := hid h2
  clear h1 h2
  have hmf : ∀ (fn : Fn) (first cap : Array Value) (w : World), (Instr.makeFunc fn first cap).run Tryz.prog w = .ok (.func fn first cap) w := fun _ _ _ _ => rfl
  have HS := hid S
  clear S
  go_enter Tryz.func29, Tryz.ntmps29
  go_wp2_with fail
  refine (split_any 47 s m w hs HS.out.ml).mono ?_
  rintro e w1 ⟨X, rfl, hX, hc, hb, hz⟩
  have HX := hid (show bl X = elems s.data.toList from hX)
  have HC := hid hc
  have HB := hid hb
  have HS1 := hid (HS.out.below hb)
  have hn := many_le hX
  have HXS := hid (show ∀ x, x ∈ X → x.size < 4294967281 from fun x hx => by have := piece_le hX hx; omega)
  have HLN := hid (show X.length = (elems s.data.toList).length by rw [← HX.out, bl_len])
  clear hX hc hb
  go_wp2_with fail
  refine (has1 w.heap.size X.length X m w1 (by omega) HC.out HS1.out.ml HXS.out).mono ?_
  rintro e w2 ⟨rfl, hb2⟩
  have HB2 := hid (HB.out.trans (hb2.mono HB.out.size))
  have HS2 := hid (HS1.out.below hb2)
  have HC2 := hid (show ∀ j (h : j < X.length), w2.cell? ⟨w.heap.size, 0 + j, none⟩ = some (.string X[j]) from fun j h => cell_below hb2 (HC.out j h))
  rw [HX.out, H1.out]
  clear hb2
  obtain ⟨x, rfl⟩ := List.length_eq_one_iff.1 (HLN.out.trans h0)
  have h5b : decide (5 < (([x] : List ByteArray).length : Int)) = false := decide_eq_false (by have := HLN.out; omega)
  go_wp2_with fail
  refine (has2 w.heap.size 1 [x] w2 (by omega) HC2.out).mono ?_
  rintro e w3 ⟨rfl, hb3⟩
  have HB3 := hid (HB2.out.trans (hb3.mono HB2.out.size))
  have HS3 := hid (HS2.out.below hb3)
  have HC3 := hid (show ∀ j (h : j < ([x] : List ByteArray).length), w3.cell? ⟨w.heap.size, 0 + j, none⟩ = some (.string ([x] : List ByteArray)[j]) from fun j h => cell_below hb3 (HC2.out j h))
  rw [HX.out, H2.out]
  clear hb3
  go_wp2_with fail
  go_ret3
  exact ⟨rfl, HB3.out⟩
set_option maxHeartbeats 1000000 in
theorem path_unlike (s : ByteArray) (A : Nat → Addr) (m : Int) (w : World) (hs : s.size < 4294967281) (S : Te w A m) (h1 : badE s.data.toList = false) (h5 : (elems s.data.toList).length ≤ 5) (h2 : (elems s.data.toList).any long = false) (h0 : 1 < (elems s.data.toList).length) (hk : likeB (lastOf s.data.toList) = false) :
    Calls Tryz.prog 29 #[.string s] w fun e w' => e = .returned (.tuple #[.string s, .int .i64 0, .nilIface]) ∧ Below w.heap.size w w' := by
  have H1 := hid (show ((elems s.data.toList).any fun e => !elemOk e) = false from h1)
  have H2 := hid h2
  have HK := hid hk
  clear h1 h2 hk
  have hmf : ∀ (fn : Fn) (first cap : Array Value) (w : World), (Instr.makeFunc fn first cap).run Tryz.prog w = .ok (.func fn first cap) w := fun _ _ _ _ => rfl
  have HS := hid S
  clear S
  go_enter Tryz.func29, Tryz.ntmps29
  go_wp2_with fail
  refine (split_any 47 s m w hs HS.out.ml).mono ?_
  rintro e w1 ⟨X, rfl, hX, hc, hb, hz⟩
  have HX := hid (show bl X = elems s.data.toList from hX)
  have HC := hid hc
  have HB := hid hb
  have HS1 := hid (HS.out.below hb)
  have hn := many_le hX
  have HXS := hid (show ∀ x, x ∈ X → x.size < 4294967281 from fun x hx => by have := piece_le hX hx; omega)
  have HLN := hid (show X.length = (elems s.data.toList).length by rw [← HX.out, bl_len])
  clear hX hc hb
  go_wp2_with fail
  refine (has1 w.heap.size X.length X m w1 (by omega) HC.out HS1.out.ml HXS.out).mono ?_
  rintro e w2 ⟨rfl, hb2⟩
  have HB2 := hid (HB.out.trans (hb2.mono HB.out.size))
  have HS2 := hid (HS1.out.below hb2)
  have HC2 := hid (show ∀ j (h : j < X.length), w2.cell? ⟨w.heap.size, 0 + j, none⟩ = some (.string X[j]) from fun j h => cell_below hb2 (HC.out j h))
  rw [HX.out, H1.out]
  clear hb2
  have h5b : decide (5 < (X.length : Int)) = false := decide_eq_false (by have := HLN.out; omega)
  go_wp2_with fail
  refine (has2 w.heap.size X.length X w2 (by omega) HC2.out).mono ?_
  rintro e w3 ⟨rfl, hb3⟩
  have HB3 := hid (HB2.out.trans (hb3.mono HB2.out.size))
  have HS3 := hid (HS2.out.below hb3)
  have HC3 := hid (show ∀ j (h : j < X.length), w3.cell? ⟨w.heap.size, 0 + j, none⟩ = some (.string X[j]) from fun j h => cell_below hb3 (HC2.out j h))
  rw [HX.out, H2.out]
  clear hb3
  have hp : X.length - 1 < X.length := by have := HLN.out; omega
  have hx : w3.cell? ⟨w.heap.size, X.length - 1, none⟩ = some (.string X[X.length - 1]) := by have := HC3.out (X.length - 1) hp; rw [Nat.zero_add] at this; exact this
  have HLT := hid (last_get HX.out hp)
  have HLS := hid (HXS.out _ (List.getElem_mem hp))
  have hi1 : ((X.length : Int) - 1) = ((X.length - 1 : Nat) : Int) := by have := HLN.out; omega
  have hi2 : (((X.length - 1 : Nat) : Int) == 0) = false := beq_eq_false_iff_ne.2 (by have := HLN.out; omega)
  generalize hZ : X[X.length - 1] = Z at *
  generalize hN : X.length - 1 = n at *
  go_wp2_with fail
  refine (like_any Z w3 HLS.out).mono ?_
  rintro e w' ⟨rfl, rfl⟩
  rw [HLT.out, HK.out]
  go_wp2_with fail
  go_ret3
  exact ⟨rfl, HB3.out⟩
theorem suffix_no (s : ByteArray) (A : Nat → Addr) (m : Int) (w : World) (hs : s.size < 4294967281) (S : Te w A m) (h : sufOk s.data.toList = false) :
    Calls Tryz.prog 55 #[.string s] w fun e w' => e = .returned (.tuple #[.int .i64 0, .iface 169 (.pointer (some (A 3)))]) ∧ Below w.heap.size w w' := by
  have := suffix_any s A m w hs S
  rw [h] at this
  exact this
theorem suffix_yes (s : ByteArray) (A : Nat → Addr) (m : Int) (w : World) (hs : s.size < 4294967281) (S : Te w A m) (h : sufOk s.data.toList = true) :
    Calls Tryz.prog 55 #[.string s] w fun e w' => e = .returned (.tuple #[.int .i64 (num (restOf s.data.toList)).1, .nilIface]) ∧ Below w.heap.size w w' := by
  have := suffix_any s A m w hs S
  rw [h] at this
  exact this
theorem join_snoc (c : UInt8) (ps : List (List UInt8)) (h : ps ≠ []) (q : List UInt8) : Lib.join (ps ++ [q]) [c] = Lib.join ps [c] ++ ([c] ++ q) := by
  cases ps with
  | nil => exact absurd rfl h
  | cons p r =>
    simp only [List.cons_append, Lib.join_cons, Lib.joinTail]
    simp
theorem join_app (c : UInt8) (qs : List (List UInt8)) : ∀ ps : List (List UInt8), (Lib.join ps [c]).length ≤ (Lib.join (ps ++ qs) [c]).length := by
  induction qs with
  | nil => intro ps; simp
  | cons q r ih =>
    intro ps
    have h1 : (Lib.join ps [c]).length ≤ (Lib.join (ps ++ [q]) [c]).length := by
      by_cases h : ps = []
      · subst h; simp [Lib.join]
      · rw [join_snoc c ps h q]; simp
    have h2 := ih (ps ++ [q])
    rw [List.append_assoc] at h2
    exact Nat.le_trans h1 h2
theorem join_take (X : List ByteArray) (l : List UInt8) (hX : bl X = elems l) (n : Nat) : (Lib.join (bl (X.take n)) [47]).length ≤ l.length := by
  have h := join_app 47 (bl (X.drop n)) (bl (X.take n))
  have e : bl (X.take n) ++ bl (X.drop n) = bl X := by unfold bl; rw [← List.map_append, List.take_append_drop]
  rw [e, hX] at h
  unfold elems at h
  rw [join_cut] at h
  exact h
set_option maxHeartbeats 1000000 in
theorem path_major (s : ByteArray) (A : Nat → Addr) (m : Int) (w : World) (hs : s.size < 4294967281) (S : Te w A m) (h1 : badE s.data.toList = false) (h5 : (elems s.data.toList).length ≤ 5) (h2 : (elems s.data.toList).any long = false) (h0 : 1 < (elems s.data.toList).length) (hk : likeB (lastOf s.data.toList) = true) (ho : sufOk (lastOf s.data.toList) = false) :
    Calls Tryz.prog 29 #[.string s] w fun e w' => e = .returned (.tuple #[.string ⟨#[]⟩, .int .i64 0, .iface 169 (.pointer (some (A 3)))]) ∧ Below w.heap.size w w' := by
  have H1 := hid (show ((elems s.data.toList).any fun e => !elemOk e) = false from h1)
  have H2 := hid h2
  have HK := hid hk
  have HO := hid ho
  clear h1 h2 hk ho
  have hmf : ∀ (fn : Fn) (first cap : Array Value) (w : World), (Instr.makeFunc fn first cap).run Tryz.prog w = .ok (.func fn first cap) w := fun _ _ _ _ => rfl
  have HS := hid S
  clear S
  go_enter Tryz.func29, Tryz.ntmps29
  go_wp2_with fail
  refine (split_any 47 s m w hs HS.out.ml).mono ?_
  rintro e w1 ⟨X, rfl, hX, hc, hb, hz⟩
  have HX := hid (show bl X = elems s.data.toList from hX)
  have HC := hid hc
  have HB := hid hb
  have HS1 := hid (HS.out.below hb)
  have hn := many_le hX
  have HXS := hid (show ∀ x, x ∈ X → x.size < 4294967281 from fun x hx => by have := piece_le hX hx; omega)
  have HLN := hid (show X.length = (elems s.data.toList).length by rw [← HX.out, bl_len])
  clear hX hc hb
  go_wp2_with fail
  refine (has1 w.heap.size X.length X m w1 (by omega) HC.out HS1.out.ml HXS.out).mono ?_
  rintro e w2 ⟨rfl, hb2⟩
  have HB2 := hid (HB.out.trans (hb2.mono HB.out.size))
  have HS2 := hid (HS1.out.below hb2)
  have HC2 := hid (show ∀ j (h : j < X.length), w2.cell? ⟨w.heap.size, 0 + j, none⟩ = some (.string X[j]) from fun j h => cell_below hb2 (HC.out j h))
  rw [HX.out, H1.out]
  clear hb2
  have h5b : decide (5 < (X.length : Int)) = false := decide_eq_false (by have := HLN.out; omega)
  go_wp2_with fail
  refine (has2 w.heap.size X.length X w2 (by omega) HC2.out).mono ?_
  rintro e w3 ⟨rfl, hb3⟩
  have HB3 := hid (HB2.out.trans (hb3.mono HB2.out.size))
  have HS3 := hid (HS2.out.below hb3)
  have HC3 := hid (show ∀ j (h : j < X.length), w3.cell? ⟨w.heap.size, 0 + j, none⟩ = some (.string X[j]) from fun j h => cell_below hb3 (HC2.out j h))
  rw [HX.out, H2.out]
  clear hb3
  have hp : X.length - 1 < X.length := by have := HLN.out; omega
  have hx : w3.cell? ⟨w.heap.size, X.length - 1, none⟩ = some (.string X[X.length - 1]) := by have := HC3.out (X.length - 1) hp; rw [Nat.zero_add] at this; exact this
  have HLT := hid (last_get HX.out hp)
  have HLS := hid (HXS.out _ (List.getElem_mem hp))
  have hi1 : ((X.length : Int) - 1) = ((X.length - 1 : Nat) : Int) := by have := HLN.out; omega
  have hi2 : (((X.length - 1 : Nat) : Int) == 0) = false := beq_eq_false_iff_ne.2 (by have := HLN.out; omega)
  generalize hZ : X[X.length - 1] = Z at *
  generalize hN : X.length - 1 = n at *
  go_wp2_with fail
  refine (like_any Z w3 HLS.out).mono ?_
  rintro e w' ⟨rfl, rfl⟩
  rw [HLT.out, HK.out]
  go_wp2_with fail
  refine (suffix_no Z A m w' HLS.out HS3.out (by rw [HLT.out]; exact HO.out)).mono ?_
  rintro e w4 ⟨rfl, hb4⟩
  have HB4 := hid (HB3.out.trans (hb4.mono HB3.out.size))
  clear hb4
  go_wp2_with fail
  go_ret3
  exact ⟨rfl, HB4.out⟩
set_option maxHeartbeats 1000000 in
theorem path_suffix (s : ByteArray) (A : Nat → Addr) (m : Int) (w : World) (hs : s.size < 4294967281) (S : Te w A m) (h1 : badE s.data.toList = false) (h5 : (elems s.data.toList).length ≤ 5) (h2 : (elems s.data.toList).any long = false) (h0 : 1 < (elems s.data.toList).length) (hk : likeB (lastOf s.data.toList) = true) (ho : sufOk (lastOf s.data.toList) = true) :
    Calls Tryz.prog 29 #[.string s] w fun e w' => (∃ H : ByteArray, e = .returned (.tuple #[.string H, .int .i64 (num (restOf (lastOf s.data.toList))).1, .nilIface]) ∧ H.data.toList = Lib.join ((elems s.data.toList).take ((elems s.data.toList).length - 1)) [47]) ∧ Below w.heap.size w w' := by
  have H1 := hid (show ((elems s.data.toList).any fun e => !elemOk e) = false from h1)
  have H2 := hid h2
  have HK := hid hk
  have HO := hid ho
  clear h1 h2 hk ho
  have hmf : ∀ (fn : Fn) (first cap : Array Value) (w : World), (Instr.makeFunc fn first cap).run Tryz.prog w = .ok (.func fn first cap) w := fun _ _ _ _ => rfl
  have HS := hid S
  clear S
  go_enter Tryz.func29, Tryz.ntmps29
  go_wp2_with fail
  refine (split_any 47 s m w hs HS.out.ml).mono ?_
  rintro e w1 ⟨X, rfl, hX, hc, hb, hz⟩
  have HX := hid (show bl X = elems s.data.toList from hX)
  have HC := hid hc
  have HB := hid hb
  have HS1 := hid (HS.out.below hb)
  have hn := many_le hX
  have HXS := hid (show ∀ x, x ∈ X → x.size < 4294967281 from fun x hx => by have := piece_le hX hx; omega)
  have HLN := hid (show X.length = (elems s.data.toList).length by rw [← HX.out, bl_len])
  clear hX hc hb
  go_wp2_with fail
  refine (has1 w.heap.size X.length X m w1 (by omega) HC.out HS1.out.ml HXS.out).mono ?_
  rintro e w2 ⟨rfl, hb2⟩
  have HB2 := hid (HB.out.trans (hb2.mono HB.out.size))
  have HS2 := hid (HS1.out.below hb2)
  have HC2 := hid (show ∀ j (h : j < X.length), w2.cell? ⟨w.heap.size, 0 + j, none⟩ = some (.string X[j]) from fun j h => cell_below hb2 (HC.out j h))
  rw [HX.out, H1.out]
  clear hb2
  have h5b : decide (5 < (X.length : Int)) = false := decide_eq_false (by have := HLN.out; omega)
  go_wp2_with fail
  refine (has2 w.heap.size X.length X w2 (by omega) HC2.out).mono ?_
  rintro e w3 ⟨rfl, hb3⟩
  have HB3 := hid (HB2.out.trans (hb3.mono HB2.out.size))
  have HS3 := hid (HS2.out.below hb3)
  have HC3 := hid (show ∀ j (h : j < X.length), w3.cell? ⟨w.heap.size, 0 + j, none⟩ = some (.string X[j]) from fun j h => cell_below hb3 (HC2.out j h))
  rw [HX.out, H2.out]
  clear hb3
  have HJ := hid (fun W (hW : Below w3.heap.size w3 W) => Tryz.strings_Join w.heap.size 0 X.length (X.take (X.length - 1)) ⟨#[47]⟩ W (fun j x hx => by
      have hj : j < (X.take (X.length - 1)).length := by
        rcases Nat.lt_or_ge j (X.take (X.length - 1)).length with h | h
        · exact h
        · rw [List.getElem?_eq_none h] at hx; cases hx
      have hj2 : j < X.length := by rw [List.length_take] at hj; omega
      have hx2 : X[j] = x := by
        rw [List.getElem?_eq_getElem hj, List.getElem_take] at hx
        exact Option.some.inj hx
      rw [← hx2]
      exact cell_below hW (HC3.out j hj2)) (by
      have h1 := lt_of_cell (HC3.out 0 (by have := HLN.out; omega))
      have h2 := hW.size
      simp at h1; omega) (by rw [List.length_take]; omega) (by rw [List.length_take]; omega) (by
      have := join_take X s.data.toList HX.out (X.length - 1)
      rw [len_eq] at this
      show (Lib.join (bl (X.take (X.length - 1))) [47]).length ≤ _
      omega))
  rw [show (X.take (X.length - 1)).length = X.length - 1 by rw [List.length_take]; omega] at HJ
  have HJT := hid (show Lib.join (bl (X.take (X.length - 1))) [47] = Lib.join ((elems s.data.toList).take ((elems s.data.toList).length - 1)) [47] by
    rw [← HX.out, bl_len]; unfold bl; rw [List.map_take])
  have hp : X.length - 1 < X.length := by have := HLN.out; omega
  have hx : w3.cell? ⟨w.heap.size, X.length - 1, none⟩ = some (.string X[X.length - 1]) := by have := HC3.out (X.length - 1) hp; rw [Nat.zero_add] at this; exact this
  have HLT := hid (last_get HX.out hp)
  have HLS := hid (HXS.out _ (List.getElem_mem hp))
  have hi1 : ((X.length : Int) - 1) = ((X.length - 1 : Nat) : Int) := by have := HLN.out; omega
  have hi2 : (((X.length - 1 : Nat) : Int) == 0) = false := beq_eq_false_iff_ne.2 (by have := HLN.out; omega)
  generalize hZ : X[X.length - 1] = Z at *
  generalize hN : X.length - 1 = n at *
  go_wp2_with fail
  refine (like_any Z w3 HLS.out).mono ?_
  rintro e w' ⟨rfl, rfl⟩
  rw [HLT.out, HK.out]
  go_wp2_with fail
  refine (suffix_yes Z A m w' HLS.out HS3.out (by rw [HLT.out]; exact HO.out)).mono ?_
  rintro e w4 ⟨rfl, hb4⟩
  have HB4 := hid (HB3.out.trans (hb4.mono HB3.out.size))
  have HB34 := hid hb4
  rw [HLT.out]
  clear hb4
  go_wp2_with fail
  refine (HJ.out _ HB34.out).mono ?_
  rintro e w5 ⟨rfl, hb5⟩
  have HB5 := hid (HB4.out.trans (hb5.mono HB4.out.size))
  clear hb5
  go_wp2_with fail
  go_ret3
  exact ⟨⟨_, rfl, by have := HJT.out; unfold bl at this; rw [List.map_take] at this; exact this⟩, HB5.out⟩
def PathP (A : Nat → Addr) (l : List UInt8) (w w' : World) (e : Ending) : Prop :=
  (∃ (H : ByteArray) (n : Int) (v : Value), e = .returned (.tuple #[.string H, .int .i64 n, v]) ∧ v = errA A (pathErr l) ∧ (pathErr l = 0 → H.data.toList = pathH l ∧ n = pathN l) ∧ (pathErr l ≠ 0 → H = ⟨#[]⟩ ∧ n = 0)) ∧ Below w.heap.size w w'
theorem readPath_any (s : ByteArray) (A : Nat → Addr) (m : Int) (w : World) (hs : s.size < 4294967281) (S : Te w A m) : Calls Tryz.prog 29 #[.string s] w fun e w' => PathP A s.data.toList w w' e := by
  have hp := elems_pos s.data.toList
  cases h1 : badE s.data.toList
  · by_cases h5 : 5 < (elems s.data.toList).length
    · have he : pathErr s.data.toList = 2 := by unfold pathErr longE; rw [h1, decide_eq_true h5]; rfl
      exact (path_many s A m w hs S h1 h5).mono fun e w' h => ⟨⟨_, _, _, h.1, by rw [he]; rfl, (fun h => by rw [he] at h; cases h), fun _ => ⟨rfl, rfl⟩⟩, h.2⟩
    · have d5 := decide_eq_false h5
      cases h2 : (elems s.data.toList).any long
      · have hl : longE s.data.toList = false := by unfold longE; rw [d5, h2]; rfl
        by_cases h0 : 1 < (elems s.data.toList).length
        · cases hk : likeB (lastOf s.data.toList)
          · have hu : sufE s.data.toList = false := by unfold sufE; rw [hk]; simp
            have he : pathErr s.data.toList = 0 := by unfold pathErr; rw [h1, hl, hu]; rfl
            exact (path_unlike s A m w hs S h1 (by omega) h2 h0 hk).mono fun e w' h => ⟨⟨_, _, _, h.1, by rw [he]; rfl, fun _ => ⟨by unfold pathH; rw [hu]; rfl, by unfold pathN; rw [hu]; rfl⟩, fun h => absurd he h⟩, h.2⟩
          · have hu : sufE s.data.toList = true := by unfold sufE; rw [hk, decide_eq_true h0]; rfl
            cases ho : sufOk (lastOf s.data.toList)
            · have he : pathErr s.data.toList = 4 := by unfold pathErr; rw [h1, hl, hu, ho]; rfl
              exact (path_major s A m w hs S h1 (by omega) h2 h0 hk ho).mono fun e w' h => ⟨⟨_, _, _, h.1, by rw [he]; rfl, (fun h => by rw [he] at h; cases h), fun _ => ⟨rfl, rfl⟩⟩, h.2⟩
            · have he : pathErr s.data.toList = 0 := by unfold pathErr; rw [h1, hl, hu, ho]; rfl
              exact (path_suffix s A m w hs S h1 (by omega) h2 h0 hk ho).mono fun e w' ⟨⟨H, e1, e2⟩, hb⟩ => ⟨⟨H, _, _, e1, by rw [he]; rfl, fun _ => ⟨by unfold pathH; rw [hu]; exact e2, by unfold pathN; rw [hu]; rfl⟩, fun h => absurd he h⟩, hb⟩
        · have hu : sufE s.data.toList = false := by unfold sufE; rw [decide_eq_false h0]; rfl
          have he : pathErr s.data.toList = 0 := by unfold pathErr; rw [h1, hl, hu]; rfl
          exact (path_one s A m w hs S h1 h2 (by omega)).mono fun e w' h => ⟨⟨_, _, _, h.1, by rw [he]; rfl, fun _ => ⟨by unfold pathH; rw [hu]; rfl, by unfold pathN; rw [hu]; rfl⟩, fun h => absurd he h⟩, h.2⟩
      · have he : pathErr s.data.toList = 2 := by unfold pathErr longE; rw [h1, h2]; simp
        exact (path_long s A m w hs S h1 (by omega) h2).mono fun e w' h => ⟨⟨_, _, _, h.1, by rw [he]; rfl, (fun h => by rw [he] at h; cases h), fun _ => ⟨rfl, rfl⟩⟩, h.2⟩
  · have he : pathErr s.data.toList = 1 := by unfold pathErr; rw [h1]; rfl
    exact (path_bad s A m w hs S h1).mono fun e w' h => ⟨⟨_, _, _, h.1, by rw [he]; rfl, (fun h => by rw [he] at h; cases h), fun _ => ⟨rfl, rfl⟩⟩, h.2⟩
end Ve
end Go.Proofs.YtiebgeamfblbdaaGreatDoor
