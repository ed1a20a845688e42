/-
  The walk of pewholderlaw1.VerTells, out of the contracts of what it calls: it answers true, and nothing old in memory turns.
-/
import Derived.Test.YtmgpapghdbopiaaGreatDoorCoded
import Derived.Test.YtmgpapghdbopiaaGreatDoorTeV
import Derived.Test.YtmgpapghdbopiaaGreatDoorOrdH
import Derived.Test.YtmgpapghdbopiaaGreatDoorVerN
namespace Go.Proofs.YtmgpapghdbopiaaGreatDoor
open Go.RowKit
namespace Ve

theorem coded_err (A : Nat → Addr) (m : Int) (c : Nat) (w : World) (S : Te w A m) (hc : c = 0 ∨ c = 1 ∨ c = 2) :
    Calls Tryz.prog 9 #[errV (A 0) (A 1) c, .int .i64 (c : Nat)] w fun e w' => e = .returned (.bool true) ∧ Below w.heap.size w w' := by
  rcases hc with rfl | rfl | rfl
  · exact Er.coded_nil w
  · exact Er.coded_sen A 0 w S.sen (by omega)
  · exact Er.coded_sen A 1 w S.sen (by omega)
theorem verErr_err (l : List UInt8) : verErr l = 0 ∨ verErr l = 1 ∨ verErr l = 2 := by
  unfold verErr
  split
  · simp
  · split
    · exact worse_err (numsErr_err _) (pre_err _)
    · exact numsErr_err _

/-- Too long a text: it is left. -/
theorem tells_long (a b h : ByteArray) (A : Nat → Addr) (m : Int) (w : World) (S : Te w A m) (hl : 80 < a.size ∨ 80 < b.size ∨ 30 < h.size) (ha : a.size ≤ maxLen) (hb : b.size ≤ maxLen) (hh : h.size ≤ maxLen) :
    Calls Tryz.prog 3 #[.string a, .string b, .string h] w fun e w' => e = .returned (.bool true) ∧ Below w.heap.size w w' := by
  have HV := hid (versed_any (A 0) (A 1) m w S.vs S.tab)
  clear S
  unfold maxLen at ha hb hh
  by_cases h1 : 80 < a.size
  · go_enter Tryz.func3, Tryz.ntmps3
    go_wp2_with fail
    refine HV.out.mono ?_
    rintro e w1 ⟨rfl, hb1⟩
    have HB := hid hb1
    clear hb1
    go_wp2_with fail
    go_ret
    exact ⟨rfl, HB.out⟩
  · by_cases h2 : 80 < b.size
    · go_enter Tryz.func3, Tryz.ntmps3
      go_wp2_with fail
      refine HV.out.mono ?_
      rintro e w1 ⟨rfl, hb1⟩
      have HB := hid hb1
      clear hb1
      go_wp2_with fail
      go_ret
      exact ⟨rfl, HB.out⟩
    · have h3 : 30 < h.size := by omega
      go_enter Tryz.func3, Tryz.ntmps3
      go_wp2_with fail
      refine HV.out.mono ?_
      rintro e w1 ⟨rfl, hb1⟩
      have HB := hid hb1
      clear hb1
      go_wp2_with fail
      go_ret
      exact ⟨rfl, HB.out⟩
/-- Where v and p lie. -/
def UpAt (w : World) (u : Value) (X : List ByteArray) : Prop := ∃ sa cap, u = .slice sa X.length cap ∧ (X = [] ∨ ∃ g, sa = some ⟨g, 0, none⟩ ∧ ∀ j (hj : j < X.length), w.cell? ⟨g, j, none⟩ = some (.string X[j]))
theorem UpAt.below {w w' : World} {u : Value} {X : List ByteArray} (h : UpAt w u X) (hb : Below w.heap.size w w') : UpAt w' u X := by
  obtain ⟨sa, cap, e, h | ⟨g, e2, h⟩⟩ := h
  · exact ⟨sa, cap, e, Or.inl h⟩
  · exact ⟨sa, cap, e, Or.inr ⟨g, e2, fun j hj => cell_below hb (h j hj)⟩⟩
theorem StrsAt.up {w : World} {v : Value} {X : List ByteArray} (h : StrsAt w v X) : UpAt w v X := by
  rcases h with ⟨rfl, rfl⟩ | ⟨_, b, rfl, _, h⟩
  · exact ⟨none, 0, rfl, Or.inl rfl⟩
  · exact ⟨_, _, rfl, Or.inr ⟨b, rfl, fun j hj => by have := h j hj; rw [Nat.zero_add] at this; exact this⟩⟩
structure Tk (w0 w : World) (A : Nat → Addr) (m : Int) (N M : Nat) (x y z : Int) (u v : Value) (X : List ByteArray) : Prop where
  te : Te w A m
  bl : Below w0.heap.size w0 w
  n0 : w.cell? ⟨N, 0, none⟩ = some (.int .i64 x)
  n1 : w.cell? ⟨N, 1, none⟩ = some (.int .i64 y)
  n2 : w.cell? ⟨N, 2, none⟩ = some (.int .i64 z)
  n3 : w.cell? ⟨N, 3, none⟩ = some u
  m0 : w.cell? ⟨M, 0, none⟩ = some (.int .i64 x)
  m1 : w.cell? ⟨M, 1, none⟩ = some (.int .i64 y)
  m2 : w.cell? ⟨M, 2, none⟩ = some (.int .i64 z)
  m3 : w.cell? ⟨M, 3, none⟩ = some v
  us : UpAt w u X
  st : StrsAt w v X
theorem Tk.below {w0 w w' : World} {A : Nat → Addr} {m : Int} {N M : Nat} {x y z : Int} {u v : Value} {X : List ByteArray} (h : Tk w0 w A m N M x y z u v X) (hb : Below w.heap.size w w') : Tk w0 w' A m N M x y z u v X :=
  ⟨h.te.below hb, h.bl.trans (hb.mono h.bl.size), cell_below hb h.n0, cell_below hb h.n1, cell_below hb h.n2, cell_below hb h.n3, cell_below hb h.m0, cell_below hb h.m1, cell_below hb h.m2, cell_below hb h.m3, h.us.below hb, h.st.below hb⟩
theorem Tk.start {w0 w2 w3 : World} {A : Nat → Addr} {m : Int} {x y z : Int} {u v : Value} {X : List ByteArray} {T U : TypeId} (h : Te w2 A m) (hu : UpAt w2 u X) (hv : StrsAt w3 v X) (hb : Below w0.heap.size w0 w2) (hb3 : Below (w2.alloc (.cells #[.int .i64 x, .int .i64 y, .int .i64 z, u] T)).heap.size (w2.alloc (.cells #[.int .i64 x, .int .i64 y, .int .i64 z, u] T)) w3) :
    Tk w0 (w3.alloc (.cells #[.int .i64 x, .int .i64 y, .int .i64 z, v] U)) A m w2.heap.size w3.heap.size x y z u v X := by
  have ha := (Below.refl w2.heap.size w2).alloc (Nat.le_refl _) (.cells #[.int .i64 x, .int .i64 y, .int .i64 z, u] T)
  have h23 : Below w2.heap.size w2 w3 := ha.trans (hb3.mono (by simp))
  have hd := (Below.refl w3.heap.size w3).alloc (Nat.le_refl _) (.cells #[.int .i64 x, .int .i64 y, .int .i64 z, v] U)
  obtain ⟨⟨r0, r1, r2, r3⟩, _, _⟩ := res4 (hb3.mono (by simp))
  refine ⟨(h.below h23).below hd, (hb.trans (h23.mono hb.size)).trans (hd.mono (hb.trans (h23.mono hb.size)).size), cell_below hd r0, cell_below hd r1, cell_below hd r2, cell_below hd r3, ?_, ?_, ?_, ?_, (hu.below h23).below hd, hv.below hd⟩ <;> simp

theorem same_up (u v : Value) (X : List ByteArray) (w : World) (hl : X.length ≤ 1000000) (hv : UpAt w v X) (hu : UpAt w u X) :
    Calls Tryz.prog 11 #[v, u] w fun e w' => e = .returned (.bool true) ∧ Below w.heap.size w w' := by
  obtain ⟨s1, c1, rfl, h1⟩ := hv
  obtain ⟨s2, c2, rfl, h2⟩ := hu
  refine (same_all s1 s2 c1 c2 X X w hl h1 (fun hne => ?_)).mono fun e w' h => ⟨by rw [h.1, decide_eq_true rfl], h.2⟩
  rcases h2 with h2 | ⟨g, e, h2⟩
  · exact absurd h2 hne
  · exact ⟨g, 0, e, fun j hj => by rw [Nat.zero_add]; exact h2 j hj⟩
theorem text_is (a : ByteArray) (X : List ByteArray) (v : Value) (A : Nat → Addr) (m : Int) (w : World) (ha : a.size < 999999) (h0 : verErr a.data.toList = 0) (hX : bl X = preOf a.data.toList) (S : Te w A m) (hv : StrsAt w v X) :
    Calls Tryz.prog 12 #[.agg #[.int .i64 (nAt a.data.toList 0), .int .i64 (nAt a.data.toList 1), .int .i64 (nAt a.data.toList 2), v]] w fun e w' => e = .returned (.string a) ∧ Below w.heap.size w w' := by
  have hb := text_back a.data.toList h0
  obtain ⟨hl, hz⟩ := pre_bounds ha hX
  have h5 : X.length ≤ 1000 := by
    have h1 : pre (preOf a.data.toList) = 0 ∨ preOf a.data.toList = [] := by
      unfold verErr at h0
      split at h0
      · cases h0
      · cases hh : hasPre a.data.toList
        · right; unfold preOf; rw [hh]; rfl
        · left
          rw [hh] at h0
          simp only [if_true] at h0
          unfold worse at h0
          split at h0
          · rename_i hc
            rcases hc with hc | hc
            · omega
            · exact hc
          · exact h0
    rw [← hX] at h1
    rcases h1 with h1 | h1
    · have : ¬ 5 < (bl X).length := by
        intro h
        unfold pre at h1
        rw [if_pos h, preTo_worst 2 (by simp)] at h1
        unfold worst at h1
        split at h1
        · cases h1
        · simp at h1
      rw [bl_len] at this; omega
    · have := bl_nil.1 h1; subst this; simp
  have hp : (preText (bl X)).length ≤ 1000000 := by
    have h2 := hb
    rw [← hX, textOf_pre] at h2
    split at h2
    · have h3 := congrArg List.length h2
      rw [List.length_append, len_eq] at h3
      omega
    · exfalso
      rw [← h2] at h0
      revert h0
      decide
  refine (text_any _ _ _ X v (A 0) (A 1) m w S.vs S.tab h5 hz hp ?_).mono fun e w' ⟨T, e1, e2, e3⟩ => ⟨?_, e3⟩
  · rcases hv with h | ⟨h1, b, h2, h3, h4⟩
    · exact Or.inl h
    · exact Or.inr ⟨h1, b, _, h2, Nat.le_refl _, h3, h4⟩
  · rw [e1, str_ext (e2.trans (by rw [hX, hb]))]

set_option maxRecDepth 100000 in
set_option maxHeartbeats 4000000 in
theorem tells_bad (a b h : ByteArray) (A : Nat → Addr) (m : Int) (w : World) (S : Te w A m) (ha : a.size ≤ 80) (hb : b.size ≤ 80) (hh : h.size ≤ 30) (h0 : verErr a.data.toList ≠ 0) :
    Calls Tryz.prog 3 #[.string a, .string b, .string h] w fun e w' => e = .returned (.bool true) ∧ Below w.heap.size w w' := by
  have HV := hid (versed_any (A 0) (A 1) m w S.vs S.tab)
  have HO := hid (fun W => verOf_any a W (by omega))
  have HP := hid (fun W (SW : Te W A m) => vsplit_bad a (A 0) (A 1) m W (by omega) SW.vs h0)
  have HC := hid (fun W (SW : Te W A m) => check_any a (A 0) (A 1) m W (by omega) SW.vs)
  have HD := hid (fun W (SW : Te W A m) => coded_err A m (verErr a.data.toList) W SW (verErr_err _))
  have HST := hid (fun W => same_all none none 0 0 [] [] W (by simp) (Or.inl rfl) (fun h => absurd rfl h))
  rw [show decide (([] : List ByteArray) = []) = true from rfl] at HST
  have HIL := hid (fun W => isLess_any a b W (by omega) (by omega))
  have HDB := hid (fun W => does_any a h W (by omega) (by omega))
  have HLS := hid (fun W (SW : Te W A m) => less_any a b (A 0) (A 1) m W (by omega) (by omega) SW.vs)
  have HMX := hid (fun W (SW : Te W A m) => max_any a b (A 0) (A 1) m W (by omega) (by omega) SW.vs)
  have HMO := hid (fun W => maxOf_any a b W (by omega) (by omega))
  have HBG := hid (fun W (SW : Te W A m) => begins_any a h (A 0) (A 1) m W (by omega) (by omega) SW.vs)
  have HS := hid S
  have H0 := hid h0
  obtain ⟨a9, ha9⟩ := errV_ne (A 0) (A 1) h0
  rw [ha9] at HP HC HD
  have hz : ((verErr a.data.toList : Int) == 0) = false := beq_eq_false_iff_ne.2 (by omega)
  generalize lessB a.data.toList b.data.toList = bl1 at *
  generalize beginB a h = bl2 at *
  generalize maxB a b = mx at *
  have hmx := str_eq mx
  clear S h0 ha9
  go_enter Tryz.func3, Tryz.ntmps3
  go_wp2_with fail
  refine HV.out.mono ?_
  rintro e w1 ⟨rfl, hb1⟩
  have HS1 := hid (HS.out.below hb1)
  have HB1 := hid hb1
  clear hb1
  go_wp2_with fail
  refine (HO.out _).mono ?_
  rintro e w2 ⟨h1, hb2⟩
  have HS2 := hid (HS1.out.below hb2)
  have HB2 := hid (HB1.out.trans (hb2.mono HB1.out.size))
  clear hb2
  obtain rfl : e = .returned (.tuple #[.agg #[.int .i64 0, .int .i64 0, .int .i64 0, .slice none 0 0], .int .i64 (verErr a.data.toList : Nat)]) := by
    rcases h1 with ⟨_, h1⟩ | ⟨h1, _⟩
    · exact h1
    · exact absurd h1 H0.out
  clear h1
  have HS2A := hid (HS2.out.below ((Below.refl w2.heap.size w2).alloc (Nat.le_refl _) (.cells #[.int .i64 0, .int .i64 0, .int .i64 0, .slice none 0 0] 26)))
  generalize ((verErr a.data.toList : Nat) : Int) = c at *
  go_wp2_with fail
  refine (HP.out _ HS2A.out).mono ?_
  rintro e w3 ⟨rfl, hb3⟩
  have HT := hid (Tk.start (T := 26) (U := 30) (X := []) HS2.out ⟨none, 0, rfl, Or.inl rfl⟩ (Or.inl ⟨rfl, rfl⟩) HB2.out hb3)
  clear hb3
  go_wp2_with fail
  refine (HC.out _ HT.out.te).mono ?_
  rintro e w4 ⟨rfl, hb4⟩
  have HT4 := hid (HT.out.below hb4)
  clear hb4 HT
  go_wp2_with fail
  refine (HD.out _ HT4.out.te).mono ?_
  rintro e w5 ⟨rfl, hb5⟩
  have HT5 := hid (HT4.out.below hb5)
  clear hb5 HT4
  go_wp2_with fail
  refine (HD.out _ HT5.out.te).mono ?_
  rintro e w6 ⟨rfl, hb6⟩
  have HT6 := hid (HT5.out.below hb6)
  clear hb6 HT5
  have n0 := HT6.out.n0
  have n1 := HT6.out.n1
  have n2 := HT6.out.n2
  have n3 := HT6.out.n3
  have m0 := HT6.out.m0
  have m1 := HT6.out.m1
  have m2 := HT6.out.m2
  have m3 := HT6.out.m3
  go_wp2_with fail
  refine (HST.out _).mono ?_
  rintro e w7 ⟨rfl, hb7⟩
  have HT7 := hid (HT6.out.below hb7)
  clear hb7 HT6 n0 n1 n2 n3 m0 m1 m2 m3
  go_wp2_with fail
  refine (HIL.out _).mono ?_
  rintro e w8 ⟨rfl, hb8⟩
  have HT8 := hid (HT7.out.below hb8)
  clear hb8 HT7
  go_wp2_with fail
  refine (HDB.out _).mono ?_
  rintro e w9 ⟨rfl, hb9⟩
  have HT9 := hid (HT8.out.below hb9)
  clear hb9 HT8
  go_wp2_with fail
  refine (HLS.out _ HT9.out.te).mono ?_
  rintro e w10 ⟨rfl, hb10⟩
  have HT10 := hid (HT9.out.below hb10)
  clear hb10 HT9
  go_wp2_with fail
  refine (HMX.out _ HT10.out.te).mono ?_
  rintro e w11 ⟨rfl, hb11⟩
  have HT11 := hid (HT10.out.below hb11)
  clear hb11 HT10
  go_wp2_with fail
  refine (HMO.out _).mono ?_
  rintro e w12 ⟨rfl, hb12⟩
  have HT12 := hid (HT11.out.below hb12)
  clear hb12 HT11
  go_wp2_with fail
  refine (HBG.out _ HT12.out.te).mono ?_
  rintro e w13 ⟨rfl, hb13⟩
  have HT13 := hid (HT12.out.below hb13)
  clear hb13 HT12
  go_wp2_with fail
  go_ret
  exact ⟨rfl, HT13.out.bl⟩

set_option maxRecDepth 100000 in
set_option maxHeartbeats 4000000 in
theorem tells_good (a b h : ByteArray) (A : Nat → Addr) (m : Int) (w : World) (S : Te w A m) (ha : a.size ≤ 80) (hb : b.size ≤ 80) (hh : h.size ≤ 30) (h0 : verErr a.data.toList = 0) :
    Calls Tryz.prog 3 #[.string a, .string b, .string h] w fun e w' => e = .returned (.bool true) ∧ Below w.heap.size w w' := by
  have HV := hid (versed_any (A 0) (A 1) m w S.vs S.tab)
  obtain ⟨X, hX⟩ : ∃ X, bl X = preOf a.data.toList := ⟨_, bl_strs _⟩
  have HO := hid (fun W => verOf_good a W (by omega) h0 X hX)
  have HP := hid (fun W (SW : Te W A m) => vsplit_is a (A 0) (A 1) m W (by omega) SW.vs h0 X hX)
  have HC := hid (fun W (SW : Te W A m) => check_any a (A 0) (A 1) m W (by omega) SW.vs)
  have HD := hid (fun W (SW : Te W A m) => coded_err A m (verErr a.data.toList) W SW (verErr_err _))
  have hlX := (pre_bounds (show a.size < 999999 by omega) hX).1
  have HST := hid (fun W u v (hu : UpAt W u X) (hv : UpAt W v X) => same_up u v X W hlX hv hu)
  have HTX := hid (fun W v (SW : Te W A m) (hv : StrsAt W v X) => text_is a X v A m W (by omega) h0 hX SW hv)
  have HIL := hid (fun W => isLess_any a b W (by omega) (by omega))
  have HDB := hid (fun W => does_any a h W (by omega) (by omega))
  have HLS := hid (fun W (SW : Te W A m) => less_any a b (A 0) (A 1) m W (by omega) (by omega) SW.vs)
  have HMX := hid (fun W (SW : Te W A m) => max_any a b (A 0) (A 1) m W (by omega) (by omega) SW.vs)
  have HMO := hid (fun W => maxOf_any a b W (by omega) (by omega))
  have HBG := hid (fun W (SW : Te W A m) => begins_any a h (A 0) (A 1) m W (by omega) (by omega) SW.vs)
  have HS := hid S
  have hse := str_eq a
  rw [h0] at HC HD
  rw [errV0] at HC HD
  generalize nAt a.data.toList 0 = x at *
  generalize nAt a.data.toList 1 = y at *
  generalize nAt a.data.toList 2 = z at *
  generalize lessB a.data.toList b.data.toList = bl1 at *
  generalize beginB a h = bl2 at *
  generalize maxB a b = mx at *
  have hmx := str_eq mx
  clear S h0 hX hlX
  go_enter Tryz.func3, Tryz.ntmps3
  go_wp2_with fail
  refine HV.out.mono ?_
  rintro e w1 ⟨rfl, hb1⟩
  have HS1 := hid (HS.out.below hb1)
  have HB1 := hid hb1
  clear hb1
  go_wp2_with fail
  refine (HO.out _).mono ?_
  rintro e w2 ⟨⟨sa, ca, rfl, hu⟩, hb2⟩
  have HS2 := hid (HS1.out.below hb2)
  have HU := hid (show UpAt w2 (.slice sa X.length ca) X from ⟨sa, ca, rfl, hu⟩)
  have HB2 := hid (HB1.out.trans (hb2.mono HB1.out.size))
  clear hb2 hu
  have HS2A := hid (HS2.out.below ((Below.refl w2.heap.size w2).alloc (Nat.le_refl _) (.cells #[.int .i64 x, .int .i64 y, .int .i64 z, .slice sa X.length ca] 26)))
  go_wp2_with fail
  refine (HP.out _ HS2A.out).mono ?_
  rintro e w3 ⟨v, rfl, hst, hb3⟩
  obtain ⟨pa, na, cp, rfl⟩ := hst.slice
  have HT := hid (Tk.start (T := 26) (U := 30) HS2.out HU.out hst HB2.out hb3)
  clear hb3 hst
  go_wp2_with fail
  refine (HC.out _ HT.out.te).mono ?_
  rintro e w4 ⟨rfl, hb4⟩
  have HT4 := hid (HT.out.below hb4)
  clear hb4 HT
  go_wp2_with fail
  refine (HD.out _ HT4.out.te).mono ?_
  rintro e w5 ⟨rfl, hb5⟩
  have HT5 := hid (HT4.out.below hb5)
  clear hb5 HT4
  go_wp2_with fail
  refine (HD.out _ HT5.out.te).mono ?_
  rintro e w6 ⟨rfl, hb6⟩
  have HT6 := hid (HT5.out.below hb6)
  clear hb6 HT5
  have n0 := HT6.out.n0
  have n1 := HT6.out.n1
  have n2 := HT6.out.n2
  have n3 := HT6.out.n3
  have m0 := HT6.out.m0
  have m1 := HT6.out.m1
  have m2 := HT6.out.m2
  have m3 := HT6.out.m3
  go_wp2_with fail
  refine (HST.out _ _ _ HT6.out.us HT6.out.st.up).mono ?_
  rintro e w7 ⟨rfl, hb7⟩
  have HT7 := hid (HT6.out.below hb7)
  clear hb7 HT6 n0 n1 n2 n3 m0 m1 m2 m3
  have m0 := HT7.out.m0
  have m1 := HT7.out.m1
  have m2 := HT7.out.m2
  have m3 := HT7.out.m3
  go_wp2_with fail
  refine (HTX.out _ _ HT7.out.te HT7.out.st).mono ?_
  rintro e w0 ⟨rfl, hb0⟩
  have HT7 := hid (HT7.out.below hb0)
  clear hb0 m0 m1 m2 m3
  go_wp2_with fail
  refine (HIL.out _).mono ?_
  rintro e w8 ⟨rfl, hb8⟩
  have HT8 := hid (HT7.out.below hb8)
  clear hb8 HT7
  go_wp2_with fail
  refine (HDB.out _).mono ?_
  rintro e w9 ⟨rfl, hb9⟩
  have HT9 := hid (HT8.out.below hb9)
  clear hb9 HT8
  go_wp2_with fail
  refine (HLS.out _ HT9.out.te).mono ?_
  rintro e w10 ⟨rfl, hb10⟩
  have HT10 := hid (HT9.out.below hb10)
  clear hb10 HT9
  go_wp2_with fail
  refine (HMX.out _ HT10.out.te).mono ?_
  rintro e w11 ⟨rfl, hb11⟩
  have HT11 := hid (HT10.out.below hb11)
  clear hb11 HT10
  go_wp2_with fail
  refine (HMO.out _).mono ?_
  rintro e w12 ⟨rfl, hb12⟩
  have HT12 := hid (HT11.out.below hb12)
  clear hb12 HT11
  go_wp2_with fail
  refine (HBG.out _ HT12.out.te).mono ?_
  rintro e w13 ⟨rfl, hb13⟩
  have HT13 := hid (HT12.out.below hb13)
  clear hb13 HT12
  go_wp2_with fail
  go_ret
  exact ⟨rfl, HT13.out.bl⟩

theorem verTells_any (a b h : ByteArray) (A : Nat → Addr) (m : Int) (w : World) (S : Te w A m) (ha : a.size ≤ maxLen) (hb : b.size ≤ maxLen) (hh : h.size ≤ maxLen) :
    Calls Tryz.prog 3 #[.string a, .string b, .string h] w fun e w' => e = .returned (.bool true) ∧ Below w.heap.size w w' := by
  by_cases hl : 80 < a.size ∨ 80 < b.size ∨ 30 < h.size
  · exact tells_long a b h A m w S hl ha hb hh
  · by_cases h0 : verErr a.data.toList = 0
    · exact tells_good a b h A m w S (by omega) (by omega) (by omega) h0
    · exact tells_bad a b h A m w S (by omega) (by omega) (by omega) h0
end Ve
end Go.Proofs.YtmgpapghdbopiaaGreatDoor
