/-
  OrdE FileH FileI
-/
import Derived.Test.YtjhlkjgijbobcaaGreatDoorFt28
import Derived.Test.YtjhlkjgijbobcaaGreatDoorFt17
import Derived.Test.YtjhlkjgijbobcaaGreatDoorFt35
namespace Go.Proofs.YtjhlkjgijbobcaaGreatDoor
open Go.RowKit
namespace Ve
set_option maxHeartbeats 1000000 in
theorem isLess_any (s t : ByteArray) (w : World) (hs : s.size < 999999) (ht : t.size < 999999) :
    Calls Tryz.prog 58 #[.string s, .string t] w fun e w' => e = .returned (.bool (lessB s.data.toList t.data.toList)) ∧ Below w.heap.size w w' := by
  have HL := hid (show lessB s.data.toList t.data.toList = (decide (verErr s.data.toList = 0) && (decide (verErr t.data.toList = 0) && decide (ordV s.data.toList t.data.toList < 0))) from rfl)
  have HA := hid (isVer_any s w (by omega))
  have HT := hid (fun W => isVer_any t W (by omega))
  by_cases h1 : verErr s.data.toList = 0
  all_goals by_cases h2 : verErr t.data.toList = 0
  · have HO := hid (fun W => orderVer_any s t W hs ht h1 h2)
    rw [decide_eq_true h1] at HA
    rw [decide_eq_true h2] at HT
    rw [decide_eq_true h1, decide_eq_true h2] at HL
    clear h1 h2
    generalize ordV s.data.toList t.data.toList = k at *
    go_enter Tryz.func58, Tryz.ntmps58
    go_wp2_with fail
    refine HA.out.mono ?_
    rintro e w1 ⟨rfl, hb1⟩
    have HB1 := hid hb1
    clear hb1
    go_wp2_with fail
    refine (HT.out _).mono ?_
    rintro e w2 ⟨rfl, hb2⟩
    have HB2 := hid (HB1.out.trans (hb2.mono HB1.out.size))
    clear hb2
    go_wp2_with fail
    refine (HO.out _).mono ?_
    rintro e w3 ⟨rfl, hb3⟩
    have HB3 := hid (HB2.out.trans (hb3.mono HB2.out.size))
    clear hb3
    go_wp2_with fail
    go_ret
    exact ⟨ret_bool (by rw [HL.out]; rfl), HB3.out⟩
  · rw [decide_eq_true h1] at HA
    rw [decide_eq_false h2] at HT
    rw [decide_eq_true h1, decide_eq_false h2] at HL
    clear h1 h2
    go_enter Tryz.func58, Tryz.ntmps58
    go_wp2_with fail
    refine HA.out.mono ?_
    rintro e w1 ⟨rfl, hb1⟩
    have HB1 := hid hb1
    clear hb1
    go_wp2_with fail
    refine (HT.out _).mono ?_
    rintro e w2 ⟨rfl, hb2⟩
    have HB2 := hid (HB1.out.trans (hb2.mono HB1.out.size))
    clear hb2
    go_wp2_with fail
    go_ret
    exact ⟨ret_bool (by rw [HL.out]; rfl), HB2.out⟩
  · rw [decide_eq_false h1] at HA
    rw [decide_eq_true h2] at HT
    rw [decide_eq_false h1] at HL
    clear h1 h2
    go_enter Tryz.func58, Tryz.ntmps58
    go_wp2_with fail
    refine HA.out.mono ?_
    rintro e w1 ⟨rfl, hb1⟩
    have HB1 := hid hb1
    clear hb1
    go_wp2_with fail
    refine (HT.out _).mono ?_
    rintro e w2 ⟨rfl, hb2⟩
    have HB2 := hid (HB1.out.trans (hb2.mono HB1.out.size))
    clear hb2
    go_wp2_with fail
    go_ret
    exact ⟨ret_bool (by rw [HL.out]; rfl), HB2.out⟩
  · rw [decide_eq_false h1] at HA
    rw [decide_eq_false h2] at HT
    rw [decide_eq_false h1] at HL
    clear h1 h2
    go_enter Tryz.func58, Tryz.ntmps58
    go_wp2_with fail
    refine HA.out.mono ?_
    rintro e w1 ⟨rfl, hb1⟩
    have HB1 := hid hb1
    clear hb1
    go_wp2_with fail
    refine (HT.out _).mono ?_
    rintro e w2 ⟨rfl, hb2⟩
    have HB2 := hid (HB1.out.trans (hb2.mono HB1.out.size))
    clear hb2
    go_wp2_with fail
    go_ret
    exact ⟨ret_bool (by rw [HL.out]; rfl), HB2.out⟩
end Ve
end Go.Proofs.YtjhlkjgijbobcaaGreatDoor
namespace Go.Proofs.YtjhlkjgijbobcaaGreatDoor
open Go.RowKit
namespace Ve
theorem two_X {X : List ByteArray} {a : List UInt8} {b : ByteArray} (h : bl X = [a, b.data.toList]) : X = [bt a, b] := by
  rw [bl_bt X, h]; simp only [List.map_cons, List.map_nil, bt_of]
theorem twoX {X : List ByteArray} {a b : List UInt8} (h : bl X = [a, b]) : X = [bt a, bt b] := by rw [bl_bt X, h]; rfl
theorem threeX {X : List ByteArray} {a b c : List UInt8} (h : bl X = [a, b, c]) : X = [bt a, bt b, bt c] := by rw [bl_bt X, h]; rfl
theorem bt_ne {a b : List UInt8} (h : ¬ a = b) : ((bt a).toList == (bt b).toList) = false := by
  refine str_ne (fun e => h ?_)
  rw [← bt_list a, e, bt_list]
theorem bt_ne' {a b : List UInt8} (h : ¬ a = b) : ((bt a).toList == b) = false := by
  have := bt_ne h
  rw [show (bt b).toList = b by rw [ByteArray.toList_eq, bt_list]] at this
  exact this
set_option maxHeartbeats 2000000 in
set_option maxRecDepth 100000 in
theorem line_mod (s : ByteArray) (l : List UInt8) (b : ByteArray) (i : Nat) (f : Fs) (v u : Value) (A : Nat → Addr) (m : Int) (kp : Nat × Array Value) (w0 w : World) (fb : Nat) (hs : s.size < 4294967281) (S : Te w A m) (R : Rd kp w0 w fb f v u) (h : s.data.toList = l ++ [10]) (hw : cutAt 32 l = [wModule, b.data.toList]) (hi : i = 0) :
    Calls Tryz.prog 63 #[.pointer (some ⟨fb, 0, none⟩), .int .i64 i, .string s] w fun e w' => e = .returned .nilIface ∧ Rd kp w0 w' fb (b, f.2) v u := by
  have HC := hid (cutS s l w hs h)
  have HSP := hid (split_any 32 (bt l) m w (by
    have := congrArg List.length h
    simp at this
    rw [← len_eq, bt_list]; omega) S.ml)
  rw [bt_list] at HSP
  have HRD := hid R
  have HS := hid S
  have HW := hid hw
  subst hi
  clear S R h hw
  go_enter Tryz.func63, Tryz.ntmps63
  go_wp2_with fail
  refine HC.out.mono ?_
  rintro e w ⟨rfl, rfl⟩
  go_wp2_with fail
  refine HSP.out.mono ?_
  rintro e w1 ⟨X, rfl, hX', hc, hb, hz⟩
  rw [HW.out] at hX'
  obtain rfl := two_X hX'
  have d0 : w1.cell? ⟨w.heap.size, 0, none⟩ = some (.string ⟨#[109, 111, 100, 117, 108, 101]⟩) := hc 0 (by simp)
  have d1 : w1.cell? ⟨w.heap.size, 1, none⟩ = some (.string b) := hc 1 (by simp)
  have HR1 := hid (HRD.out.below hb)
  clear hc hb hX'
  have c0 := HR1.out.c0
  have cf := HR1.out.fz 0
  have HR2 := hid (HR1.out.path b)
  go_wp2_with fail
  go_ret
  exact ⟨rfl, HR2.out⟩
set_option maxHeartbeats 2000000 in
set_option maxRecDepth 100000 in
theorem line_e1 (s : ByteArray) (l : List UInt8) (i : Nat) (f : Fs) (v u : Value) (A : Nat → Addr) (m : Int) (kp : Nat × Array Value) (w0 w : World) (fb : Nat) (hs : s.size < 4294967281) (S : Te w A m) (R : Rd kp w0 w fb f v u) (h : s.data.toList = l ++ [10]) (hw : (cutAt 32 l).length ≠ 2) (hi : i = 0) :
    Calls Tryz.prog 63 #[.pointer (some ⟨fb, 0, none⟩), .int .i64 i, .string s] w fun e w' => e = .returned (errA A 1) ∧ Rd kp w0 w' fb f v u := by
  have HC := hid (cutS s l w hs h)
  have HSP := hid (split_any 32 (bt l) m w (by
    have := congrArg List.length h
    simp at this
    rw [← len_eq, bt_list]; omega) S.ml)
  rw [bt_list] at HSP
  have HRD := hid R
  have HS := hid S
  have HW := hid hw
  subst hi
  clear S R h hw
  go_enter Tryz.func63, Tryz.ntmps63
  go_wp2_with fail
  refine HC.out.mono ?_
  rintro e w ⟨rfl, rfl⟩
  go_wp2_with fail
  refine HSP.out.mono ?_
  rintro e w1 ⟨X, rfl, hX', hc, hb, hz⟩
  have hn : ((X.length : Int) == 2) = false := by
    have : X.length = (cutAt 32 l).length := by rw [← hX', bl_len]
    have := HW.out
    simp; omega
  have HR1 := hid (HRD.out.below hb)
  have g0 := (HS.out.below hb).sen.g0
  clear hc hb hX'
  go_wp2_with fail
  go_ret
  exact ⟨rfl, HR1.out⟩
set_option maxHeartbeats 2000000 in
set_option maxRecDepth 100000 in
theorem line_e2 (s : ByteArray) (l : List UInt8) (a b : List UInt8) (i : Nat) (f : Fs) (v u : Value) (A : Nat → Addr) (m : Int) (kp : Nat × Array Value) (w0 w : World) (fb : Nat) (hs : s.size < 4294967281) (S : Te w A m) (R : Rd kp w0 w fb f v u) (h : s.data.toList = l ++ [10]) (hw : cutAt 32 l = [a, b]) (ha : ¬ a = wModule) (hi : i = 0) :
    Calls Tryz.prog 63 #[.pointer (some ⟨fb, 0, none⟩), .int .i64 i, .string s] w fun e w' => e = .returned (errA A 1) ∧ Rd kp w0 w' fb f v u := by
  have HC := hid (cutS s l w hs h)
  have HSP := hid (split_any 32 (bt l) m w (by
    have := congrArg List.length h
    simp at this
    rw [← len_eq, bt_list]; omega) S.ml)
  rw [bt_list] at HSP
  have HRD := hid R
  have HS := hid S
  have HW := hid hw
  subst hi
  have hq := bt_ne ha
  have hq' := bt_ne' ha
  unfold wModule at hq hq'
  clear ha
  clear S R h hw
  go_enter Tryz.func63, Tryz.ntmps63
  go_wp2_with fail
  refine HC.out.mono ?_
  rintro e w ⟨rfl, rfl⟩
  go_wp2_with fail
  refine HSP.out.mono ?_
  rintro e w1 ⟨X, rfl, hX', hc, hb, hz⟩
  rw [HW.out] at hX'
  obtain rfl := twoX hX'
  have d0 : w1.cell? ⟨w.heap.size, 0, none⟩ = some (.string (bt a)) := hc 0 (by simp)
  have HR1 := hid (HRD.out.below hb)
  have g0 := (HS.out.below hb).sen.g0
  clear hc hb hX'
  go_wp2_with fail
  go_ret
  exact ⟨rfl, HR1.out⟩
set_option maxHeartbeats 2000000 in
set_option maxRecDepth 100000 in
theorem line_e3 (s : ByteArray) (l : List UInt8) (i : Nat) (f : Fs) (v u : Value) (A : Nat → Addr) (m : Int) (kp : Nat × Array Value) (w0 w : World) (fb : Nat) (hs : s.size < 4294967281) (S : Te w A m) (R : Rd kp w0 w fb f v u) (h : s.data.toList = l ++ [10]) (hw : (cutAt 32 l).length ≠ 3) (hi : 0 < i) :
    Calls Tryz.prog 63 #[.pointer (some ⟨fb, 0, none⟩), .int .i64 i, .string s] w fun e w' => e = .returned (errA A 1) ∧ Rd kp w0 w' fb f v u := by
  have HC := hid (cutS s l w hs h)
  have HSP := hid (split_any 32 (bt l) m w (by
    have := congrArg List.length h
    simp at this
    rw [← len_eq, bt_list]; omega) S.ml)
  rw [bt_list] at HSP
  have HRD := hid R
  have HS := hid S
  have HW := hid hw
  have hi1 : (0 : Int) < (i : Int) := by omega
  have hi2 : ((i : Int) == 0) = false := by simp; omega
  clear S R h hw
  go_enter Tryz.func63, Tryz.ntmps63
  go_wp2_with fail
  refine HC.out.mono ?_
  rintro e w ⟨rfl, rfl⟩
  go_wp2_with fail
  refine HSP.out.mono ?_
  rintro e w1 ⟨X, rfl, hX', hc, hb, hz⟩
  have hn : ((X.length : Int) == 3) = false := by
    have : X.length = (cutAt 32 l).length := by rw [← hX', bl_len]
    have := HW.out
    simp; omega
  have HR1 := hid (HRD.out.below hb)
  have g0 := (HS.out.below hb).sen.g0
  clear hc hb hX'
  go_wp2_with fail
  go_ret
  exact ⟨rfl, HR1.out⟩
set_option maxHeartbeats 2000000 in
set_option maxRecDepth 100000 in
theorem line_e4 (s : ByteArray) (l : List UInt8) (b c : List UInt8) (i : Nat) (f : Fs) (v u : Value) (A : Nat → Addr) (m : Int) (kp : Nat × Array Value) (w0 w : World) (fb : Nat) (hs : s.size < 4294967281) (S : Te w A m) (R : Rd kp w0 w fb f v u) (h : s.data.toList = l ++ [10]) (hw : cutAt 32 l = [wRequire, b, c]) (hi : 0 < i) (hx : f.2.2 ≠ []) :
    Calls Tryz.prog 63 #[.pointer (some ⟨fb, 0, none⟩), .int .i64 i, .string s] w fun e w' => e = .returned (errA A 1) ∧ Rd kp w0 w' fb f v u := by
  have HC := hid (cutS s l w hs h)
  have HSP := hid (split_any 32 (bt l) m w (by
    have := congrArg List.length h
    simp at this
    rw [← len_eq, bt_list]; omega) S.ml)
  rw [bt_list] at HSP
  have HRD := hid R
  have HS := hid S
  have HW := hid hw
  have hi1 : (0 : Int) < (i : Int) := by omega
  have hi2 : ((i : Int) == 0) = false := by simp; omega
  obtain ⟨ua, uc, hu⟩ : ∃ a c, u = .slice a f.2.2.length c := by
    obtain ⟨a, c, e, _⟩ := own_ms R.ou
    exact ⟨a, c, e⟩
  subst hu
  have hxz : ((f.2.2.length : Int) == 0) = false := by
    have := List.length_pos_iff.2 hx
    simp; exact hx
  clear hx
  clear S R h hw
  go_enter Tryz.func63, Tryz.ntmps63
  go_wp2_with fail
  refine HC.out.mono ?_
  rintro e w ⟨rfl, rfl⟩
  go_wp2_with fail
  refine HSP.out.mono ?_
  rintro e w1 ⟨X, rfl, hX', hc, hb, hz⟩
  rw [HW.out] at hX'
  obtain rfl := threeX hX'
  have d0 : w1.cell? ⟨w.heap.size, 0, none⟩ = some (.string ⟨#[114, 101, 113, 117, 105, 114, 101]⟩) := hc 0 (by simp)
  have c2 := (HRD.out.below hb).c2
  have HR1 := hid (HRD.out.below hb)
  have g0 := (HS.out.below hb).sen.g0
  clear hc hb hX'
  go_wp2_with fail
  go_ret
  exact ⟨rfl, HR1.out⟩
set_option maxHeartbeats 2000000 in
set_option maxRecDepth 100000 in
theorem line_e5 (s : ByteArray) (l : List UInt8) (a b c : List UInt8) (i : Nat) (f : Fs) (v u : Value) (A : Nat → Addr) (m : Int) (kp : Nat × Array Value) (w0 w : World) (fb : Nat) (hs : s.size < 4294967281) (S : Te w A m) (R : Rd kp w0 w fb f v u) (h : s.data.toList = l ++ [10]) (hw : cutAt 32 l = [a, b, c]) (h1 : ¬ a = wRequire) (h2 : ¬ a = wExclude) (hi : 0 < i) :
    Calls Tryz.prog 63 #[.pointer (some ⟨fb, 0, none⟩), .int .i64 i, .string s] w fun e w' => e = .returned (errA A 1) ∧ Rd kp w0 w' fb f v u := by
  have HC := hid (cutS s l w hs h)
  have HSP := hid (split_any 32 (bt l) m w (by
    have := congrArg List.length h
    simp at this
    rw [← len_eq, bt_list]; omega) S.ml)
  rw [bt_list] at HSP
  have HRD := hid R
  have HS := hid S
  have HW := hid hw
  have hi1 : (0 : Int) < (i : Int) := by omega
  have hi2 : ((i : Int) == 0) = false := by simp; omega
  have hq := bt_ne h1
  have hq' := bt_ne' h1
  have hr := bt_ne h2
  have hr' := bt_ne' h2
  unfold wRequire at hq hq'
  unfold wExclude at hr hr'
  clear h1 h2
  clear S R h hw
  go_enter Tryz.func63, Tryz.ntmps63
  go_wp2_with fail
  refine HC.out.mono ?_
  rintro e w ⟨rfl, rfl⟩
  go_wp2_with fail
  refine HSP.out.mono ?_
  rintro e w1 ⟨X, rfl, hX', hc, hb, hz⟩
  rw [HW.out] at hX'
  obtain rfl := threeX hX'
  have d0 : w1.cell? ⟨w.heap.size, 0, none⟩ = some (.string (bt a)) := hc 0 (by simp)
  have HR1 := hid (HRD.out.below hb)
  have g0 := (HS.out.below hb).sen.g0
  clear hc hb hX'
  go_wp2_with fail
  go_ret
  exact ⟨rfl, HR1.out⟩
end Ve
end Go.Proofs.YtjhlkjgijbobcaaGreatDoor
namespace Go.Proofs.YtjhlkjgijbobcaaGreatDoor
open Go.RowKit
namespace Ve
def LineP (kp : Nat × Array Value) (w0 w' : World) (fb : Nat) (A : Nat → Addr) (f : Fs) (e : Ending) (o : Option Fs) : Prop := match o with
  | some f' => e = .returned .nilIface ∧ ∃ v u, Rd kp w0 w' fb f' v u
  | none => e = .returned (errA A 1) ∧ ∃ v u, Rd kp w0 w' fb f v u
theorem line_any (s : ByteArray) (l : List UInt8) (i : Nat) (f : Fs) (v u : Value) (A : Nat → Addr) (m : Int) (kp : Nat × Array Value) (w0 w : World) (fb : Nat) (hs : s.size < 4294967281) (S : Te w A m) (R : Rd kp w0 w fb f v u) (h : s.data.toList = l ++ [10]) (hn : f.2.1.length + f.2.2.length ≤ 1000000) :
    Calls Tryz.prog 63 #[.pointer (some ⟨fb, 0, none⟩), .int .i64 i, .string s] w fun e w' => LineP kp w0 w' fb A f e (stepF i (cutAt 32 l) f) := by
  by_cases hi : i = 0
  · match hw : cutAt 32 l with
    | [a, b] =>
      by_cases ha : a = wModule
      · have hst : stepF i [a, b] f = some (bt b, f.2) := by unfold stepF; rw [if_pos hi]; simp only; rw [if_pos ha]
        rw [hst]
        exact (line_mod s l (bt b) i f v u A m kp w0 w fb hs S R h (by rw [hw, ha, bt_list]) hi).mono fun e w' ⟨h1, h2⟩ => ⟨h1, _, _, h2⟩
      · have hst : stepF i [a, b] f = none := by unfold stepF; rw [if_pos hi]; simp only; rw [if_neg ha]
        rw [hst]
        exact (line_e2 s l a b i f v u A m kp w0 w fb hs S R h hw ha hi).mono fun e w' ⟨h1, h2⟩ => ⟨h1, _, _, h2⟩
    | [] => exact absurd hw (cutAt_ne 32 l)
    | [a] =>
      have hst : stepF i [a] f = none := by unfold stepF; rw [if_pos hi]
      rw [hst]
      exact (line_e1 s l i f v u A m kp w0 w fb hs S R h (by rw [hw]; simp) hi).mono fun e w' ⟨h1, h2⟩ => ⟨h1, _, _, h2⟩
    | a :: b :: c :: r =>
      have hst : stepF i (a :: b :: c :: r) f = none := by unfold stepF; rw [if_pos hi]
      rw [hst]
      exact (line_e1 s l i f v u A m kp w0 w fb hs S R h (by rw [hw]; simp) hi).mono fun e w' ⟨h1, h2⟩ => ⟨h1, _, _, h2⟩
  · have hp : 0 < i := by omega
    match hw : cutAt 32 l with
    | [a, b, c] =>
      by_cases ha : a = wRequire
      · by_cases hx : f.2.2 = []
        · have hst : stepF i [a, b, c] f = some (f.1, f.2.1 ++ [(bt b, bt c)], f.2.2) := by unfold stepF; rw [if_neg hi]; simp only; rw [if_pos ⟨ha, hx⟩]
          rw [hst]
          exact line_req s l (bt b) (bt c) i f v u A m kp w0 w fb hs S R h (by rw [hw, ha, bt_list, bt_list]) hp hx (by omega)
        · have hst : stepF i [a, b, c] f = none := by unfold stepF; rw [if_neg hi]; simp only; rw [if_neg (fun h => hx h.2), if_neg (by rw [ha]; decide)]
          rw [hst]
          exact (line_e4 s l b c i f v u A m kp w0 w fb hs S R h (by rw [hw, ha]) hp hx).mono fun e w' ⟨h1, h2⟩ => ⟨h1, _, _, h2⟩
      · by_cases he : a = wExclude
        · have hst : stepF i [a, b, c] f = some (f.1, f.2.1, f.2.2 ++ [(bt b, bt c)]) := by unfold stepF; rw [if_neg hi]; simp only; rw [if_neg (fun h => ha h.1), if_pos he]
          rw [hst]
          exact line_exc s l (bt b) (bt c) i f v u A m kp w0 w fb hs S R h (by rw [hw, he, bt_list, bt_list]) hp (by omega)
        · have hst : stepF i [a, b, c] f = none := by unfold stepF; rw [if_neg hi]; simp only; rw [if_neg (fun h => ha h.1), if_neg he]
          rw [hst]
          exact (line_e5 s l a b c i f v u A m kp w0 w fb hs S R h hw ha he hp).mono fun e w' ⟨h1, h2⟩ => ⟨h1, _, _, h2⟩
    | [] => exact absurd hw (cutAt_ne 32 l)
    | [a] =>
      have hst : stepF i [a] f = none := by unfold stepF; rw [if_neg hi]
      rw [hst]
      exact (line_e3 s l i f v u A m kp w0 w fb hs S R h (by rw [hw]; simp) hp).mono fun e w' ⟨h1, h2⟩ => ⟨h1, _, _, h2⟩
    | [a, b] =>
      have hst : stepF i [a, b] f = none := by unfold stepF; rw [if_neg hi]
      rw [hst]
      exact (line_e3 s l i f v u A m kp w0 w fb hs S R h (by rw [hw]; simp) hp).mono fun e w' ⟨h1, h2⟩ => ⟨h1, _, _, h2⟩
    | a :: b :: c :: d :: r =>
      have hst : stepF i (a :: b :: c :: d :: r) f = none := by unfold stepF; rw [if_neg hi]
      rw [hst]
      exact (line_e3 s l i f v u A m kp w0 w fb hs S R h (by rw [hw]; simp) hp).mono fun e w' ⟨h1, h2⟩ => ⟨h1, _, _, h2⟩
set_option maxHeartbeats 1000000 in
theorem lineK_end (s : ByteArray) (l : List UInt8) (i : Nat) (f : Fs) (v u : Value) (A : Nat → Addr) (m : Int) (kp : Nat × Array Value) (w0 w : World) (fb : Nat) (hs : s.size < 4294967281) (S : Te w A m) (R : Rd kp w0 w fb f v u) (h : s.data.toList = l ++ [10]) (hn : f.2.1.length + f.2.2.length ≤ 1000000) :
    Calls Tryz.prog 62 #[.int .i64 i, .string s, .pointer (some ⟨fb, 0, none⟩)] w fun e w' => LineP kp w0 w' fb A f e (stepF i (cutAt 32 l) f) := by
  have HL := hid (line_any s l i f v u A m kp w0 w fb hs S R h hn)
  have hne : ¬ s = ⟨#[]⟩ := fun e => by
    rw [e] at h
    have := congrArg List.length h
    simp at this
  have hq := str_ne hne
  have hq' : (s.toList == []) = false := by
    rw [show ((⟨#[]⟩ : ByteArray).toList) = [] by rw [ByteArray.toList_eq]] at hq; exact hq
  clear S R h hne
  generalize stepF i (cutAt 32 l) f = o at *
  cases hp : decide (0 < i)
  · have hi : i = 0 := by have := of_decide_eq_false hp; omega
    subst hi
    clear hp
    go_enter Tryz.func62, Tryz.ntmps62
    go_wp2_with fail
    refine HL.out.mono ?_
    intro e w1 he
    cases o with
    | none =>
      obtain ⟨rfl, v', u', hr⟩ := he
      have HR := hid hr
      clear hr
      go_wp2_with fail
      go_ret
      exact ⟨rfl, _, _, HR.out⟩
    | some f' =>
      obtain ⟨rfl, v', u', hr⟩ := he
      have HR := hid hr
      clear hr
      go_wp2_with fail
      go_ret
      exact ⟨rfl, _, _, HR.out⟩
  · have hi : (0 : Int) < (i : Int) := by have := of_decide_eq_true hp; omega
    clear hp
    go_enter Tryz.func62, Tryz.ntmps62
    go_wp2_with fail
    refine HL.out.mono ?_
    intro e w1 he
    cases o with
    | none =>
      obtain ⟨rfl, v', u', hr⟩ := he
      have HR := hid hr
      clear hr
      go_wp2_with fail
      go_ret
      exact ⟨rfl, _, _, HR.out⟩
    | some f' =>
      obtain ⟨rfl, v', u', hr⟩ := he
      have HR := hid hr
      clear hr
      go_wp2_with fail
      go_ret
      exact ⟨rfl, _, _, HR.out⟩
set_option maxHeartbeats 1000000 in
theorem lineK_nil (i : Nat) (w : World) (fb : Nat) (hi : 0 < i) :
    Calls Tryz.prog 62 #[.int .i64 i, .string ⟨#[]⟩, .pointer (some ⟨fb, 0, none⟩)] w fun e w' => e = .returned .nilIface ∧ w' = w := by
  have hi : (0 : Int) < (i : Int) := by omega
  go_enter Tryz.func62, Tryz.ntmps62
  go_wp2_with fail
  go_ret
  exact ⟨rfl, rfl⟩
set_option maxHeartbeats 1000000 in
theorem lineK_open (s : ByteArray) (i : Nat) (A : Nat → Addr) (m : Int) (w : World) (fb : Nat) (hs : s.size < 4294967281) (S : Te w A m) (h : (10 : UInt8) ∉ s.data.toList) (hb : i = 0 ∨ ¬ s = ⟨#[]⟩) :
    Calls Tryz.prog 62 #[.int .i64 i, .string s, .pointer (some ⟨fb, 0, none⟩)] w fun e w' => e = .returned (errA A 1) ∧ w' = w := by
  have HL := hid (line_open s i A m w fb hs S h)
  clear S h
  by_cases hi : i = 0
  · subst hi
    clear hb
    go_enter Tryz.func62, Tryz.ntmps62
    go_wp2_with fail
    refine HL.out.mono ?_
    rintro e w ⟨rfl, rfl⟩
    go_wp2_with fail
    go_ret
    exact ⟨rfl, rfl⟩
  · have hne : ¬ s = ⟨#[]⟩ := hb.resolve_left hi
    have hi : (0 : Int) < (i : Int) := by omega
    have hq := str_ne hne
    have hq' : (s.toList == []) = false := by
      rw [show ((⟨#[]⟩ : ByteArray).toList) = [] by rw [ByteArray.toList_eq]] at hq; exact hq
    clear hb hne
    go_enter Tryz.func62, Tryz.ntmps62
    go_wp2_with fail
    refine HL.out.mono ?_
    rintro e w ⟨rfl, rfl⟩
    go_wp2_with fail
    go_ret
    exact ⟨rfl, rfl⟩
set_option maxHeartbeats 1000000 in
theorem first_strs (K : Nat) (cb : Array Value) (E : Nat → Nat) (X : List ByteArray) (pb c : Nat) (I : Nat → World → Prop) (J : World → Prop) (A : Nat → Addr) (w : World) (eg : ∀ args w, (callFunc K args).run Tryz.prog w = .ok (.enter K args) w) (hX : X.length ≤ 1000000)
    (hc : ∀ k W, I k W → ∀ j (h : j < X.length), W.cell? ⟨pb, j, none⟩ = some (.string X[j])) (hJ : ∀ k W, I k W → J W) (hA : ∀ W o, J W → J (W.alloc o)) (h0 : I 0 w)
    (hK : ∀ i (h : i < X.length) W, I i W → Calls Tryz.prog K (#[.int .i64 (i : Int), .string X[i]] ++ cb) W fun e w' => e = .returned (errA A (E i)) ∧ (E i = 0 → I (i + 1) w') ∧ J w') :
    Calls Tryz.prog 60 #[.slice (some ⟨pb, 0, none⟩) X.length c, .func (.func K) #[] cb] w fun e w' => ∃ v, e = .returned v ∧ ErrAt w' A v (codeE E X.length) (fstE E X.length) ∧ (fstE E X.length = none → I X.length w') ∧ J w' := by
  have HK := hid hK
  have HC := hid hc
  have HJ := hid hJ
  have HA := hid hA
  have H0 := hid h0
  clear hK hc hJ hA h0
  go_enter Tryz.func60, Tryz.ntmps60
  go_wp2_with fail
  go_loopw [10] (fun i wr => ∃ k : Nat, k ≤ X.length ∧ i = .int .i64 k ∧ Hid (∀ j, j < k → E j = 0) ∧ Hid (I k wr)) (fun i _ => X.length - (intOf i).toNat)
  case atStart => exact ⟨0, Nat.zero_le _, rfl, hid (fun j hj => absurd hj (by omega)), H0⟩
  case round =>
    obtain ⟨k, hk, rfl, HE, HI⟩ := hrel
    by_cases hlt : k < X.length
    · have hx := HC.out k wr HI.out k hlt
      have HP := hid (HK.out k hlt wr HI.out)
      by_cases he : E k = 0
      · rw [he, errA0] at HP
        go_wp2_with fail
        refine HP.out.mono ?_
        rintro e w1 ⟨rfl, hi, _⟩
        have HI1 := hid (hi trivial)
        clear hi
        go_wp2_with fail
        go_roundw
        case rel => exact ⟨k + 1, by omega, by go_num, hid (fun j hj => by
          rcases Nat.lt_or_ge j k with h | h
          · exact HE.out j h
          · have : j = k := by omega
            rw [this]; exact he), HI1⟩
        case measure => simp [intOf]; omega
      · rw [errA_if A he] at HP
        have HF := hid (fstE_some HE.out he hlt)
        have HN := hid he
        clear he
        go_wp2_with fail
        refine HP.out.mono ?_
        rintro e w1 ⟨rfl, _, hb1⟩
        have HB1 := hid hb1
        clear hb1
        go_wp2_with fail
        go_ret
        refine ⟨_, rfl, ?_, fun h => ?_, HA.out _ _ HB1.out⟩
        · rw [codeE_some HF.out, HF.out]
          exact fault_at HN.out _
        · rw [HF.out] at h; cases h
    · have HF := hid (fstE_none (E := E) (n := X.length) (fun j hj => HE.out j (by omega)))
      have HKN := hid (show k = X.length by omega)
      go_wp2_with fail
      go_ret
      refine ⟨_, rfl, ?_, fun _ => ?_, HJ.out k _ HI.out⟩
      · rw [codeE_none HF.out, HF.out]
        rfl
      · rw [← HKN.out]; exact HI.out
end Ve
end Go.Proofs.YtjhlkjgijbobcaaGreatDoor
