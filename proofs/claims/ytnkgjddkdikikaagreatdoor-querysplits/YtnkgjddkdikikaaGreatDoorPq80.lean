/-
  QtC
-/
import Derived.Test.YtnkgjddkdikikaaGreatDoorPq3
import Derived.Test.YtnkgjddkdikikaaGreatDoorPq4
import Derived.Test.YtnkgjddkdikikaaGreatDoorPq7
import Derived.Test.YtnkgjddkdikikaaGreatDoorPq10
import Derived.Test.YtnkgjddkdikikaaGreatDoorPq13
import Derived.Test.YtnkgjddkdikikaaGreatDoorPq23
import Derived.Test.YtnkgjddkdikikaaGreatDoorPq27
import Derived.Test.YtnkgjddkdikikaaGreatDoorPq29
import Derived.Test.YtnkgjddkdikikaaGreatDoorPq31
import Derived.Test.YtnkgjddkdikikaaGreatDoorPq12
import Derived.Test.YtnkgjddkdikikaaGreatDoorPq5
import Derived.Test.YtnkgjddkdikikaaGreatDoorPq61
import Derived.Test.YtnkgjddkdikikaaGreatDoorPq24
import Derived.Test.YtnkgjddkdikikaaGreatDoorPq62
import Derived.Test.YtnkgjddkdikikaaGreatDoorPq66
import Derived.Test.YtnkgjddkdikikaaGreatDoorPq79
namespace Go.Proofs.YtnkgjddkdikikaaGreatDoor
open Go.RowKit Go.Maps
namespace Ve
set_option maxRecDepth 100000 in
set_option maxHeartbeats 2000000 in
theorem qs_long {T : World → Prop} (PC : PickC T) (KT : KeepT T) (Q0 : List Raw) (L : List Ent) (t x0 : ByteArray) (v : Value) (A : Nat → Addr) (m : Int) (w : World) (S : Te w A m) (hT : T w) (I : Ixs w v Q0 L) (h : okI L = false ∨ (okI L = true ∧ (30 < L.length ∨ (¬ 30 < L.length ∧ (70 < t.size ∨ (¬ 70 < t.size ∧ (50 < x0.size))))))) :
    Calls Tryz.prog 8 #[v, .string t, .string x0] w fun e w' => e = .returned (.bool true) ∧ Below w.heap.size w w' := by
  obtain ⟨a0, c0, hv0, -⟩ := id I.es
  subst hv0
  have HIN := hid (picked_any PC KT A m w S hT)
  have HLO := hid (fun W (h : Below w.heap.size w W) => longI_any Q0 L _ W (I.below h))
  rcases h with h | ⟨h, h0 | ⟨h0, h1 | ⟨h1, h2⟩⟩⟩
  · rw [h] at HLO
    clear S I h PC KT hT
    go_enter Tryz.func8, Tryz.ntmps8
    go_wp2_with fail
    refine HIN.out.mono ?_
    rintro e w1 ⟨rfl, hb⟩
    have HB1 := hid hb
    clear hb
    go_wp2_with fail
    refine (HLO.out w1 HB1.out).mono ?_
    rintro e w2 ⟨rfl, hb⟩
    have HB2 := hid (HB1.out.trans (hb.mono HB1.out.size))
    clear hb
    go_wp2_with fail
    go_ret
    exact ⟨rfl, HB2.out⟩
  · rw [if_pos h] at HLO
    have g0 : (30 : Int) < (Q0.length : Int) := by rw [I.ln]; omega
    clear S I h PC KT hT
    go_enter Tryz.func8, Tryz.ntmps8
    go_wp2_with fail
    refine HIN.out.mono ?_
    rintro e w1 ⟨rfl, hb⟩
    have HB1 := hid hb
    clear hb
    go_wp2_with fail
    refine (HLO.out w1 HB1.out).mono ?_
    rintro e w2 ⟨rfl, hb⟩
    have HB2 := hid (HB1.out.trans (hb.mono HB1.out.size))
    clear hb
    go_wp2_with fail
    go_ret
    exact ⟨rfl, HB2.out⟩
  · rw [if_pos h] at HLO
    have g0 : ¬ (30 : Int) < (Q0.length : Int) := by rw [I.ln]; omega
    have g1 : (70 : Int) < (t.size : Int) := by omega
    clear S I h PC KT hT
    go_enter Tryz.func8, Tryz.ntmps8
    go_wp2_with fail
    refine HIN.out.mono ?_
    rintro e w1 ⟨rfl, hb⟩
    have HB1 := hid hb
    clear hb
    go_wp2_with fail
    refine (HLO.out w1 HB1.out).mono ?_
    rintro e w2 ⟨rfl, hb⟩
    have HB2 := hid (HB1.out.trans (hb.mono HB1.out.size))
    clear hb
    go_wp2_with fail
    go_ret
    exact ⟨rfl, HB2.out⟩
  · rw [if_pos h] at HLO
    have g0 : ¬ (30 : Int) < (Q0.length : Int) := by rw [I.ln]; omega
    have g1 : ¬ (70 : Int) < (t.size : Int) := by omega
    have g2 : (50 : Int) < (x0.size : Int) := by omega
    clear S I h PC KT hT
    go_enter Tryz.func8, Tryz.ntmps8
    go_wp2_with fail
    refine HIN.out.mono ?_
    rintro e w1 ⟨rfl, hb⟩
    have HB1 := hid hb
    clear hb
    go_wp2_with fail
    refine (HLO.out w1 HB1.out).mono ?_
    rintro e w2 ⟨rfl, hb⟩
    have HB2 := hid (HB1.out.trans (hb.mono HB1.out.size))
    clear hb
    go_wp2_with fail
    go_ret
    exact ⟨rfl, HB2.out⟩
theorem querySplits_any {T : World → Prop} (VC : VersC) (PC : PickC T) (KT : KeepT T) (Q0 : List Raw) (L : List Ent) (t x0 : ByteArray) (v : Value) (A : Nat → Addr) (m : Int) (w : World) (S : Te w A m) (hT : T w) (htab : Lib.TabIs Tryz.prog w powName .u64 Lib.pow10Tab) (I : Ixs w v Q0 L) (em : EmI Q0 L) :
    Calls Tryz.prog 8 #[v, .string t, .string x0] w fun e w' => e = .returned (.bool true) ∧ Below w.heap.size w w' := by
  cases hok : okI L with
  | false => exact qs_long PC KT Q0 L t x0 v A m w S hT I (Or.inl hok)
  | true =>
    by_cases h0 : 30 < L.length
    · exact qs_long PC KT Q0 L t x0 v A m w S hT I (Or.inr ⟨hok, Or.inl h0⟩)
    by_cases h1 : 70 < t.size
    · exact qs_long PC KT Q0 L t x0 v A m w S hT I (Or.inr ⟨hok, Or.inr ⟨h0, Or.inl h1⟩⟩)
    by_cases h2 : 50 < x0.size
    · exact qs_long PC KT Q0 L t x0 v A m w S hT I (Or.inr ⟨hok, Or.inr ⟨h0, Or.inr ⟨h1, h2⟩⟩⟩)
    exact qs_main VC PC KT Q0 L t x0 v A m w S hT htab I em hok (by omega) (by omega) (by omega)
end Ve
end Go.Proofs.YtnkgjddkdikikaaGreatDoor
