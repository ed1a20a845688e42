/-
  FileG
-/
import Derived.Test.YtiebgeamfblbdaaGreatDoorFb28
import Derived.Test.YtiebgeamfblbdaaGreatDoorFb29
namespace Go.Proofs.YtiebgeamfblbdaaGreatDoor
open Go.RowKit
namespace Ve
theorem suffix_yes10 (l : List UInt8) : Lib.hasSuffix (l ++ [10]) [10] = true := by simp [Lib.hasSuffix]
theorem trim_yes10 (l : List UInt8) : Lib.trimSuffix (l ++ [10]) [10] = l := by unfold Lib.trimSuffix; rw [suffix_yes10]; simp
theorem suffix_no10 {l : List UInt8} (h : (10 : UInt8) ∉ l) : Lib.hasSuffix l [10] = false := by
  cases e : Lib.hasSuffix l [10]
  · rfl
  · unfold Lib.hasSuffix at e
    have := List.isSuffixOf_iff_suffix.1 e
    exact absurd (this.subset (List.mem_singleton.2 rfl)) h
theorem cutS (s : ByteArray) (l : List UInt8) (w : World) (hs : s.size < 4294967281) (h : s.data.toList = l ++ [10]) :
    Calls Tryz.prog 63 #[.string s, .string ⟨#[10]⟩] w fun e w' => e = .returned (.tuple #[.string (bt l), .bool true]) ∧ w' = w :=
  (Tryz.strings_CutSuffix s ⟨#[10]⟩ w (by omega)).mono fun e w' ⟨h1, h2⟩ => ⟨by
    rw [h1, h, show (⟨#[10]⟩ : ByteArray).data.toList = [10] from rfl, suffix_yes10, trim_yes10]; rfl, h2⟩
theorem cutN (s : ByteArray) (w : World) (hs : s.size < 4294967281) (h : (10 : UInt8) ∉ s.data.toList) :
    Calls Tryz.prog 63 #[.string s, .string ⟨#[10]⟩] w fun e w' => ∃ T, e = .returned (.tuple #[.string T, .bool false]) ∧ w' = w :=
  (Tryz.strings_CutSuffix s ⟨#[10]⟩ w (by omega)).mono fun e w' ⟨h1, h2⟩ => ⟨⟨(Lib.trimSuffix s.data.toList [10]).toArray⟩, by
    rw [h1, show (⟨#[10]⟩ : ByteArray).data.toList = [10] from rfl, suffix_no10 h], h2⟩
theorem bl_bt (X : List ByteArray) : X = (bl X).map bt := by
  induction X with
  | nil => rfl
  | cons x r ih =>
    show x :: r = bt x.data.toList :: (bl r).map bt
    rw [bt_of, ← ih]
theorem three_X {X : List ByteArray} {a : List UInt8} {b c : ByteArray} (h : bl X = [a, b.data.toList, c.data.toList]) : X = [bt a, b, c] := by
  rw [bl_bt X, h]; simp only [List.map_cons, List.map_nil, bt_of]
set_option maxHeartbeats 1000000 in
set_option maxRecDepth 100000 in
theorem line_open (s : ByteArray) (i : Int) (A : Nat → Addr) (m : Int) (w : World) (fb : Nat) (hs : s.size < 4294967281) (S : Te w A m) (h : (10 : UInt8) ∉ s.data.toList) :
    Calls Tryz.prog 41 #[.pointer (some ⟨fb, 0, none⟩), .int .i64 i, .string s] w fun e w' => e = .returned (errA A 1) ∧ w' = w := by
  have HC := hid (cutN s w hs h)
  have g0 := S.sen.g0
  clear S h
  go_enter Tryz.func41, Tryz.ntmps41
  go_wp2_with fail
  refine HC.out.mono ?_
  rintro e w1 ⟨T, rfl, rfl⟩
  go_wp2_with fail
  go_ret
  exact ⟨rfl, rfl⟩
set_option maxHeartbeats 2000000 in
set_option maxRecDepth 100000 in
theorem line_req (s : ByteArray) (l : List UInt8) (b c : ByteArray) (i : Nat) (f : Fs) (v u : Value) (A : Nat → Addr) (m : Int) (kp : Nat × Array Value) (w0 w : World) (fb : Nat) (hs : s.size < 4294967281) (S : Te w A m) (R : Rd kp w0 w fb f v u) (h : s.data.toList = l ++ [10])
    (hw : cutAt 32 l = [wRequire, b.data.toList, c.data.toList]) (hi : 0 < i) (hX : f.2.2 = []) (hR : f.2.1.length ≤ 1000000) :
    Calls Tryz.prog 41 #[.pointer (some ⟨fb, 0, none⟩), .int .i64 i, .string s] w fun e w' => e = .returned .nilIface ∧ ∃ v' u', Rd kp w0 w' fb (f.1, f.2.1 ++ [(b, c)], f.2.2) v' u' := by
  obtain ⟨i0, hi0, hz0, hz1, hz2⟩ := info_parts infoMod
  have HC := hid (cutS s l w hs h)
  have HSP := hid (split_any 32 (bt l) m w (by
    have := congrArg List.length h
    simp at this
    rw [← len_eq, bt_list]; omega) S.ml)
  rw [bt_list, hw] at HSP
  have HRD := hid R
  have hi1 : (0 : Int) < (i : Int) := by omega
  have hi2 : ((i : Int) == 0) = false := by simp; omega
  obtain ⟨ua, uc, hu⟩ : ∃ a c, u = .slice a 0 c := by
    obtain ⟨a, c, e, _⟩ := own_ms R.ou
    rw [hX] at e
    exact ⟨a, c, e⟩
  subst hu
  clear S R h hw
  go_enter Tryz.func41, Tryz.ntmps41
  go_wp2_with fail
  refine HC.out.mono ?_
  rintro e w ⟨rfl, rfl⟩
  go_wp2_with fail
  refine HSP.out.mono ?_
  rintro e w1 ⟨X, rfl, hX', hc, hb, hz⟩
  obtain rfl := three_X hX'
  have d0 : w1.cell? ⟨w.heap.size, 0, none⟩ = some (.string ⟨#[114, 101, 113, 117, 105, 114, 101]⟩) := hc 0 (by simp)
  have d1 : w1.cell? ⟨w.heap.size, 1, none⟩ = some (.string b) := hc 1 (by simp)
  have d2 : w1.cell? ⟨w.heap.size, 2, none⟩ = some (.string c) := hc 2 (by simp)
  have HR1 := hid (HRD.out.below hb)
  clear hc hX' hb
  have c1 := HR1.out.c1
  have c2 := HR1.out.c2
  have cf := HR1.out.fz 1
  have lf := lt_of_blk HR1.out.blk
  have nvf := HR1.out.nv
  have hne : ¬ fb = w.heap.size := by have := lt_of_blk HRD.out.blk; omega
  have hne2 : ¬ w.heap.size = fb := by omega
  have nvw : v.ownBlock ≠ some w.heap.size := fun e => by have := (own_lt HRD.out.ov e).1; omega
  have HBA := hid ((Below.refl w1.heap.size w1).alloc (Nat.le_refl _) (.cells #[.string b, .string c] 26))
  have HBD := hid (HBA.out.trans ((below_drawn (w1.alloc (.cells #[.string b, .string c] 26)) 1).mono HBA.out.size))
  have HR2 := hid (HR1.out.below HBD.out)
  have hbase := HR1.out.bl.size
  have e1 := World.new_ne w1 _ c1
  have HX1 := hid (HR2.out.c1)
  have HXF := hid (HR2.out.fz 1)
  go_wp2_with fail
  go_region_law
    ((refine step_append_lies _ (by rfl) _ _ _ (by rfl) w0.heap.size 26 i0 _ 2 32 Tryz.underlying22 hi0 hz0 hz1 hz2 rfl (by omega) v f.2.1.length (flatM f.2.1) (by rfl) HR2.out.ov
        ⟨w1.heap.size, 0, none⟩ 1 1 [.string b, .string c] (by rfl) (by rfl) (World.news_of_block (cs := #[.string b, .string c]) (t := 26) (fr := (0, 0)) (heap_alloc_new w1 _)) (by simp [Value.oneCell'])
        (by omega) (by unfold maxLen; omega) (by omega) (by simp; omega) (w1.heap.size + 1) (by simp) ?_; intro g cap w3 hown hgrow hat hlt; have c3 := (hgrow.cell_far ⟨fb, 1, none⟩ (by simp; omega) (Ne.symm nvf)).trans HX1.out; have f3 := (hgrow.frozen_far ⟨fb, 1, none⟩ (by simp; omega) (Ne.symm nvf)).trans HXF.out))
  all_goals
    have HR3 := hid (HR1.out.req (m := (b, c)) HBD.out hown hgrow (hat.imp id (fun h => h.trans (by simp))))
    clear hown hgrow hat hlt
    go_wp2_with fail
    go_ret
    exact ⟨rfl, _, _, HR3.out⟩
set_option maxHeartbeats 2000000 in
set_option maxRecDepth 100000 in
theorem line_exc (s : ByteArray) (l : List UInt8) (b c : ByteArray) (i : Nat) (f : Fs) (v u : Value) (A : Nat → Addr) (m : Int) (kp : Nat × Array Value) (w0 w : World) (fb : Nat) (hs : s.size < 4294967281) (S : Te w A m) (R : Rd kp w0 w fb f v u) (h : s.data.toList = l ++ [10])
    (hw : cutAt 32 l = [wExclude, b.data.toList, c.data.toList]) (hi : 0 < i) (hR : f.2.2.length ≤ 1000000) :
    Calls Tryz.prog 41 #[.pointer (some ⟨fb, 0, none⟩), .int .i64 i, .string s] w fun e w' => e = .returned .nilIface ∧ ∃ v' u', Rd kp w0 w' fb (f.1, f.2.1, f.2.2 ++ [(b, c)]) v' u' := by
  obtain ⟨i0, hi0, hz0, hz1, hz2⟩ := info_parts infoMod
  have HC := hid (cutS s l w hs h)
  have HSP := hid (split_any 32 (bt l) m w (by
    have := congrArg List.length h
    simp at this
    rw [← len_eq, bt_list]; omega) S.ml)
  rw [bt_list, hw] at HSP
  have HRD := hid R
  have hi1 : (0 : Int) < (i : Int) := by omega
  have hi2 : ((i : Int) == 0) = false := by simp; omega
  clear S R h hw
  go_enter Tryz.func41, Tryz.ntmps41
  go_wp2_with fail
  refine HC.out.mono ?_
  rintro e w ⟨rfl, rfl⟩
  go_wp2_with fail
  refine HSP.out.mono ?_
  rintro e w1 ⟨X, rfl, hX', hc, hb, hz⟩
  obtain rfl := three_X hX'
  have d0 : w1.cell? ⟨w.heap.size, 0, none⟩ = some (.string ⟨#[101, 120, 99, 108, 117, 100, 101]⟩) := hc 0 (by simp)
  have d1 : w1.cell? ⟨w.heap.size, 1, none⟩ = some (.string b) := hc 1 (by simp)
  have d2 : w1.cell? ⟨w.heap.size, 2, none⟩ = some (.string c) := hc 2 (by simp)
  have HR1 := hid (HRD.out.below hb)
  clear hc hX' hb
  have c2 := HR1.out.c2
  have cf := HR1.out.fz 2
  have lf := lt_of_blk HR1.out.blk
  have nvf := HR1.out.nu
  have hne : ¬ fb = w.heap.size := by have := lt_of_blk HRD.out.blk; omega
  have hne2 : ¬ w.heap.size = fb := by omega
  have nvw : u.ownBlock ≠ some w.heap.size := fun e => by have := (own_lt HRD.out.ou e).1; omega
  have HBA := hid ((Below.refl w1.heap.size w1).alloc (Nat.le_refl _) (.cells #[.string b, .string c] 26))
  have HBD := hid (HBA.out.trans ((below_drawn (w1.alloc (.cells #[.string b, .string c] 26)) 1).mono HBA.out.size))
  have HR2 := hid (HR1.out.below HBD.out)
  have hbase := HR1.out.bl.size
  have e1 := World.new_ne w1 _ c2
  have HX1 := hid (HR2.out.c2)
  have HXF := hid (HR2.out.fz 2)
  go_wp2_with fail
  go_region_law
    ((refine step_append_lies _ (by rfl) _ _ _ (by rfl) w0.heap.size 26 i0 _ 2 32 Tryz.underlying22 hi0 hz0 hz1 hz2 rfl (by omega) u f.2.2.length (flatM f.2.2) (by rfl) HR2.out.ou
        ⟨w1.heap.size, 0, none⟩ 1 1 [.string b, .string c] (by rfl) (by rfl) (World.news_of_block (cs := #[.string b, .string c]) (t := 26) (fr := (0, 0)) (heap_alloc_new w1 _)) (by simp [Value.oneCell'])
        (by omega) (by unfold maxLen; omega) (by omega) (by simp; omega) (w1.heap.size + 1) (by simp) ?_; intro g cap w3 hown hgrow hat hlt; have c3 := (hgrow.cell_far ⟨fb, 2, none⟩ (by simp; omega) (Ne.symm nvf)).trans HX1.out; have f3 := (hgrow.frozen_far ⟨fb, 2, none⟩ (by simp; omega) (Ne.symm nvf)).trans HXF.out))
  all_goals
    have HR3 := hid (HR1.out.exc (m := (b, c)) HBD.out hown hgrow (hat.imp id (fun h => h.trans (by simp))))
    clear hown hgrow hat hlt
    go_wp2_with fail
    go_ret
    exact ⟨rfl, _, _, HR3.out⟩
end Ve
end Go.Proofs.YtiebgeamfblbdaaGreatDoor
