/-
  FileH
-/
import Derived.Test.YtiebgeamfblbdaaGreatDoorFb30
namespace Go.Proofs.YtiebgeamfblbdaaGreatDoor
open Go.RowKit
namespace Ve
theorem two_X {X : List ByteArray} {a : List UInt8} {b : ByteArray} (h : bl X = [a, b.data.toList]) : X = [bt a, b] := by
  rw [bl_bt X, h]; simp only [List.map_cons, List.map_nil, bt_of]
theorem twoX {X : List ByteArray} {a b : List UInt8} (h : bl X = [a, b]) : X = [bt a, bt b] := by rw [bl_bt X, h]; rfl
theorem threeX {X : List ByteArray} {a b c : List UInt8} (h : bl X = [a, b, c]) : X = [bt a, bt b, bt c] := by rw [bl_bt X, h]; rfl
theorem bt_ne {a b : List UInt8} (h : ¬ a = b) : ((bt a).toList == (bt b).toList) = false := by
  refine str_ne (fun e => h ?_)
  rw [← bt_list a, e, bt_list]
theorem bt_ne' {a b : List UInt8} (h : ¬ a = b) : ((bt a).toList == b) = false := by
  have := bt_ne h
  rw [show (bt b).toList = b by rw [ByteArray.toList_eq, bt_list]] at this
  exact this
set_option maxHeartbeats 2000000 in
set_option maxRecDepth 100000 in
theorem line_mod (s : ByteArray) (l : List UInt8) (b : ByteArray) (i : Nat) (f : Fs) (v u : Value) (A : Nat → Addr) (m : Int) (kp : Nat × Array Value) (w0 w : World) (fb : Nat) (hs : s.size < 4294967281) (S : Te w A m) (R : Rd kp w0 w fb f v u) (h : s.data.toList = l ++ [10]) (hw : cutAt 32 l = [wModule, b.data.toList]) (hi : i = 0) :
    Calls Tryz.prog 41 #[.pointer (some ⟨fb, 0, none⟩), .int .i64 i, .string s] w fun e w' => e = .returned .nilIface ∧ Rd kp w0 w' fb (b, f.2) v u := by
  have HC := hid (cutS s l w hs h)
  have HSP := hid (split_any 32 (bt l) m w (by
    have := congrArg List.length h
    simp at this
    rw [← len_eq, bt_list]; omega) S.ml)
  rw [bt_list] at HSP
  have HRD := hid R
  have HS := hid S
  have HW := hid hw
  subst hi
  clear S R h hw
  go_enter Tryz.func41, Tryz.ntmps41
  go_wp2_with fail
  refine HC.out.mono ?_
  rintro e w ⟨rfl, rfl⟩
  go_wp2_with fail
  refine HSP.out.mono ?_
  rintro e w1 ⟨X, rfl, hX', hc, hb, hz⟩
  rw [HW.out] at hX'
  obtain rfl := two_X hX'
  have d0 : w1.cell? ⟨w.heap.size, 0, none⟩ = some (.string ⟨#[109, 111, 100, 117, 108, 101]⟩) := hc 0 (by simp)
  have d1 : w1.cell? ⟨w.heap.size, 1, none⟩ = some (.string b) := hc 1 (by simp)
  have HR1 := hid (HRD.out.below hb)
  clear hc hb hX'
  have c0 := HR1.out.c0
  have cf := HR1.out.fz 0
  have HR2 := hid (HR1.out.path b)
  go_wp2_with fail
  go_ret
  exact ⟨rfl, HR2.out⟩
set_option maxHeartbeats 2000000 in
set_option maxRecDepth 100000 in
theorem line_e1 (s : ByteArray) (l : List UInt8) (i : Nat) (f : Fs) (v u : Value) (A : Nat → Addr) (m : Int) (kp : Nat × Array Value) (w0 w : World) (fb : Nat) (hs : s.size < 4294967281) (S : Te w A m) (R : Rd kp w0 w fb f v u) (h : s.data.toList = l ++ [10]) (hw : (cutAt 32 l).length ≠ 2) (hi : i = 0) :
    Calls Tryz.prog 41 #[.pointer (some ⟨fb, 0, none⟩), .int .i64 i, .string s] w fun e w' => e = .returned (errA A 1) ∧ Rd kp w0 w' fb f v u := by
  have HC := hid (cutS s l w hs h)
  have HSP := hid (split_any 32 (bt l) m w (by
    have := congrArg List.length h
    simp at this
    rw [← len_eq, bt_list]; omega) S.ml)
  rw [bt_list] at HSP
  have HRD := hid R
  have HS := hid S
  have HW := hid hw
  subst hi
  clear S R h hw
  go_enter Tryz.func41, Tryz.ntmps41
  go_wp2_with fail
  refine HC.out.mono ?_
  rintro e w ⟨rfl, rfl⟩
  go_wp2_with fail
  refine HSP.out.mono ?_
  rintro e w1 ⟨X, rfl, hX', hc, hb, hz⟩
  have hn : ((X.length : Int) == 2) = false := by
    have : X.length = (cutAt 32 l).length := by rw [← hX', bl_len]
    have := HW.out
    simp; omega
  have HR1 := hid (HRD.out.below hb)
  have g0 := (HS.out.below hb).sen.g0
  clear hc hb hX'
  go_wp2_with fail
  go_ret
  exact ⟨rfl, HR1.out⟩
set_option maxHeartbeats 2000000 in
set_option maxRecDepth 100000 in
theorem line_e2 (s : ByteArray) (l : List UInt8) (a b : List UInt8) (i : Nat) (f : Fs) (v u : Value) (A : Nat → Addr) (m : Int) (kp : Nat × Array Value) (w0 w : World) (fb : Nat) (hs : s.size < 4294967281) (S : Te w A m) (R : Rd kp w0 w fb f v u) (h : s.data.toList = l ++ [10]) (hw : cutAt 32 l = [a, b]) (ha : ¬ a = wModule) (hi : i = 0) :
    Calls Tryz.prog 41 #[.pointer (some ⟨fb, 0, none⟩), .int .i64 i, .string s] w fun e w' => e = .returned (errA A 1) ∧ Rd kp w0 w' fb f v u := by
  have HC := hid (cutS s l w hs h)
  have HSP := hid (split_any 32 (bt l) m w (by
    have := congrArg List.length h
    simp at this
    rw [← len_eq, bt_list]; omega) S.ml)
  rw [bt_list] at HSP
  have HRD := hid R
  have HS := hid S
  have HW := hid hw
  subst hi
  have hq := bt_ne ha
  have hq' := bt_ne' ha
  unfold wModule at hq hq'
  clear ha
  clear S R h hw
  go_enter Tryz.func41, Tryz.ntmps41
  go_wp2_with fail
  refine HC.out.mono ?_
  rintro e w ⟨rfl, rfl⟩
  go_wp2_with fail
  refine HSP.out.mono ?_
  rintro e w1 ⟨X, rfl, hX', hc, hb, hz⟩
  rw [HW.out] at hX'
  obtain rfl := twoX hX'
  have d0 : w1.cell? ⟨w.heap.size, 0, none⟩ = some (.string (bt a)) := hc 0 (by simp)
  have HR1 := hid (HRD.out.below hb)
  have g0 := (HS.out.below hb).sen.g0
  clear hc hb hX'
  go_wp2_with fail
  go_ret
  exact ⟨rfl, HR1.out⟩
set_option maxHeartbeats 2000000 in
set_option maxRecDepth 100000 in
theorem line_e3 (s : ByteArray) (l : List UInt8) (i : Nat) (f : Fs) (v u : Value) (A : Nat → Addr) (m : Int) (kp : Nat × Array Value) (w0 w : World) (fb : Nat) (hs : s.size < 4294967281) (S : Te w A m) (R : Rd kp w0 w fb f v u) (h : s.data.toList = l ++ [10]) (hw : (cutAt 32 l).length ≠ 3) (hi : 0 < i) :
    Calls Tryz.prog 41 #[.pointer (some ⟨fb, 0, none⟩), .int .i64 i, .string s] w fun e w' => e = .returned (errA A 1) ∧ Rd kp w0 w' fb f v u := by
  have HC := hid (cutS s l w hs h)
  have HSP := hid (split_any 32 (bt l) m w (by
    have := congrArg List.length h
    simp at this
    rw [← len_eq, bt_list]; omega) S.ml)
  rw [bt_list] at HSP
  have HRD := hid R
  have HS := hid S
  have HW := hid hw
  have hi1 : (0 : Int) < (i : Int) := by omega
  have hi2 : ((i : Int) == 0) = false := by simp; omega
  clear S R h hw
  go_enter Tryz.func41, Tryz.ntmps41
  go_wp2_with fail
  refine HC.out.mono ?_
  rintro e w ⟨rfl, rfl⟩
  go_wp2_with fail
  refine HSP.out.mono ?_
  rintro e w1 ⟨X, rfl, hX', hc, hb, hz⟩
  have hn : ((X.length : Int) == 3) = false := by
    have : X.length = (cutAt 32 l).length := by rw [← hX', bl_len]
    have := HW.out
    simp; omega
  have HR1 := hid (HRD.out.below hb)
  have g0 := (HS.out.below hb).sen.g0
  clear hc hb hX'
  go_wp2_with fail
  go_ret
  exact ⟨rfl, HR1.out⟩
set_option maxHeartbeats 2000000 in
set_option maxRecDepth 100000 in
theorem line_e4 (s : ByteArray) (l : List UInt8) (b c : List UInt8) (i : Nat) (f : Fs) (v u : Value) (A : Nat → Addr) (m : Int) (kp : Nat × Array Value) (w0 w : World) (fb : Nat) (hs : s.size < 4294967281) (S : Te w A m) (R : Rd kp w0 w fb f v u) (h : s.data.toList = l ++ [10]) (hw : cutAt 32 l = [wRequire, b, c]) (hi : 0 < i) (hx : f.2.2 ≠ []) :
    Calls Tryz.prog 41 #[.pointer (some ⟨fb, 0, none⟩), .int .i64 i, .string s] w fun e w' => e = .returned (errA A 1) ∧ Rd kp w0 w' fb f v u := by
  have HC := hid (cutS s l w hs h)
  have HSP := hid (split_any 32 (bt l) m w (by
    have := congrArg List.length h
    simp at this
    rw [← len_eq, bt_list]; omega) S.ml)
  rw [bt_list] at HSP
  have HRD := hid R
  have HS := hid S
  have HW := hid hw
  have hi1 : (0 : Int) < (i : Int) := by omega
  have hi2 : ((i : Int) == 0) = false := by simp; omega
  obtain ⟨ua, uc, hu⟩ : ∃ a c, u = .slice a f.2.2.length c := by
    obtain ⟨a, c, e, _⟩ := own_ms R.ou
    exact ⟨a, c, e⟩
  subst hu
  have hxz : ((f.2.2.length : Int) == 0) = false := by
    have := List.length_pos_iff.2 hx
    simp; exact hx
  clear hx
  clear S R h hw
  go_enter Tryz.func41, Tryz.ntmps41
  go_wp2_with fail
  refine HC.out.mono ?_
  rintro e w ⟨rfl, rfl⟩
  go_wp2_with fail
  refine HSP.out.mono ?_
  rintro e w1 ⟨X, rfl, hX', hc, hb, hz⟩
  rw [HW.out] at hX'
  obtain rfl := threeX hX'
  have d0 : w1.cell? ⟨w.heap.size, 0, none⟩ = some (.string ⟨#[114, 101, 113, 117, 105, 114, 101]⟩) := hc 0 (by simp)
  have c2 := (HRD.out.below hb).c2
  have HR1 := hid (HRD.out.below hb)
  have g0 := (HS.out.below hb).sen.g0
  clear hc hb hX'
  go_wp2_with fail
  go_ret
  exact ⟨rfl, HR1.out⟩
set_option maxHeartbeats 2000000 in
set_option maxRecDepth 100000 in
theorem line_e5 (s : ByteArray) (l : List UInt8) (a b c : List UInt8) (i : Nat) (f : Fs) (v u : Value) (A : Nat → Addr) (m : Int) (kp : Nat × Array Value) (w0 w : World) (fb : Nat) (hs : s.size < 4294967281) (S : Te w A m) (R : Rd kp w0 w fb f v u) (h : s.data.toList = l ++ [10]) (hw : cutAt 32 l = [a, b, c]) (h1 : ¬ a = wRequire) (h2 : ¬ a = wExclude) (hi : 0 < i) :
    Calls Tryz.prog 41 #[.pointer (some ⟨fb, 0, none⟩), .int .i64 i, .string s] w fun e w' => e = .returned (errA A 1) ∧ Rd kp w0 w' fb f v u := by
  have HC := hid (cutS s l w hs h)
  have HSP := hid (split_any 32 (bt l) m w (by
    have := congrArg List.length h
    simp at this
    rw [← len_eq, bt_list]; omega) S.ml)
  rw [bt_list] at HSP
  have HRD := hid R
  have HS := hid S
  have HW := hid hw
  have hi1 : (0 : Int) < (i : Int) := by omega
  have hi2 : ((i : Int) == 0) = false := by simp; omega
  have hq := bt_ne h1
  have hq' := bt_ne' h1
  have hr := bt_ne h2
  have hr' := bt_ne' h2
  unfold wRequire at hq hq'
  unfold wExclude at hr hr'
  clear h1 h2
  clear S R h hw
  go_enter Tryz.func41, Tryz.ntmps41
  go_wp2_with fail
  refine HC.out.mono ?_
  rintro e w ⟨rfl, rfl⟩
  go_wp2_with fail
  refine HSP.out.mono ?_
  rintro e w1 ⟨X, rfl, hX', hc, hb, hz⟩
  rw [HW.out] at hX'
  obtain rfl := threeX hX'
  have d0 : w1.cell? ⟨w.heap.size, 0, none⟩ = some (.string (bt a)) := hc 0 (by simp)
  have HR1 := hid (HRD.out.below hb)
  have g0 := (HS.out.below hb).sen.g0
  clear hc hb hX'
  go_wp2_with fail
  go_ret
  exact ⟨rfl, HR1.out⟩
end Ve
end Go.Proofs.YtiebgeamfblbdaaGreatDoor
