/-
  PwM
-/
import Derived.Test.YtnkgjddkdikikaaGreatDoorPq3
import Derived.Test.YtnkgjddkdikikaaGreatDoorPq4
import Derived.Test.YtnkgjddkdikikaaGreatDoorPq7
import Derived.Test.YtnkgjddkdikikaaGreatDoorPq10
import Derived.Test.YtnkgjddkdikikaaGreatDoorPq13
import Derived.Test.YtnkgjddkdikikaaGreatDoorPq23
import Derived.Test.YtnkgjddkdikikaaGreatDoorPq27
import Derived.Test.YtnkgjddkdikikaaGreatDoorPq29
import Derived.Test.YtnkgjddkdikikaaGreatDoorPq31
import Derived.Test.YtnkgjddkdikikaaGreatDoorPq12
import Derived.Test.YtnkgjddkdikikaaGreatDoorPq5
import Derived.Test.YtnkgjddkdikikaaGreatDoorPq26
import Derived.Test.YtnkgjddkdikikaaGreatDoorPq49
import Derived.Test.YtnkgjddkdikikaaGreatDoorPq24
import Derived.Test.YtnkgjddkdikikaaGreatDoorPq32
import Derived.Test.YtnkgjddkdikikaaGreatDoorPq14
import Derived.Test.YtnkgjddkdikikaaGreatDoorPq84
import Derived.Test.YtnkgjddkdikikaaGreatDoorPq48
import Derived.Test.YtnkgjddkdikikaaGreatDoorPq87
import Derived.Test.YtnkgjddkdikikaaGreatDoorPq100
namespace Go.Proofs.YtnkgjddkdikikaaGreatDoor
open Go.RowKit Go.Maps
namespace Ve
set_option maxRecDepth 100000 in
set_option maxHeartbeats 2000000 in
theorem pw_long {T : World → Prop} (OC : OfC T) (KT : StayK T) (Q0 : List Raw) (L : List Ent) (p : ByteArray) (v : Value) (A : Nat → Addr) (m : Int) (w : World) (S : Te w A m) (hT : T w) (I : Ixs w v Q0 L) (h : okI L = false ∨ (okI L = true ∧ (¬ L.length ≤ 30 ∨ (L.length ≤ 30 ∧ 100 < p.size)))) :
    Calls Tryz.prog 11 #[v, .string p] w fun e w' => e = .returned (.bool true) ∧ Below w.heap.size w w' := by
  have HIN := hid (packed_any OC KT A m w S hT)
  have HLO := hid (fun W (h : Below w.heap.size w W) => longI_any Q0 L v W (I.below h))
  have hln := I.ln
  obtain ⟨a0, c0, hv0, -⟩ := id I.es
  subst hv0
  rcases h with h | ⟨h, h1 | ⟨h1, h2⟩⟩
  · rw [h] at HLO
    clear S I h OC KT hT hln
    go_enter Tryz.func11, Tryz.ntmps11
    go_wp2_with fail
    refine HIN.out.mono ?_
    rintro e w1 ⟨rfl, hb⟩
    have HB1 := hid hb
    clear hb
    go_wp2_with fail
    refine (HLO.out w1 HB1.out).mono ?_
    rintro e w2 ⟨rfl, hb⟩
    have HB2 := hid (HB1.out.trans (hb.mono HB1.out.size))
    clear hb
    go_wp2_with fail
    go_ret
    exact ⟨rfl, HB2.out⟩
  · rw [if_pos h] at HLO
    have g2 : (30 : Int) < (Q0.length : Int) := by omega
    clear S I h h1 OC KT hT hln
    go_enter Tryz.func11, Tryz.ntmps11
    go_wp2_with fail
    refine HIN.out.mono ?_
    rintro e w1 ⟨rfl, hb⟩
    have HB1 := hid hb
    clear hb
    go_wp2_with fail
    refine (HLO.out w1 HB1.out).mono ?_
    rintro e w2 ⟨rfl, hb⟩
    have HB2 := hid (HB1.out.trans (hb.mono HB1.out.size))
    clear hb
    go_wp2_with fail
    go_ret
    exact ⟨rfl, HB2.out⟩
  · rw [if_pos h] at HLO
    have g1 : (100 : Int) < (p.size : Int) := by omega
    have g2 : ¬ (30 : Int) < (Q0.length : Int) := by omega
    clear S I h h1 h2 OC KT hT hln
    go_enter Tryz.func11, Tryz.ntmps11
    go_wp2_with fail
    refine HIN.out.mono ?_
    rintro e w1 ⟨rfl, hb⟩
    have HB1 := hid hb
    clear hb
    go_wp2_with fail
    refine (HLO.out w1 HB1.out).mono ?_
    rintro e w2 ⟨rfl, hb⟩
    have HB2 := hid (HB1.out.trans (hb.mono HB1.out.size))
    clear hb
    go_wp2_with fail
    go_ret
    exact ⟨rfl, HB2.out⟩
theorem pkgWho_any {T : World → Prop} (OC : OfC T) (AC : AllC T) (WC : WhoC T) (LC : LatC T) (KT : StayK T) (Q0 : List Raw) (L : List Ent) (p : ByteArray) (v : Value) (A : Nat → Addr) (m : Int) (w : World) (S : Te w A m) (hT : T w) (I : Ixs w v Q0 L) (em : EmI Q0 L) :
    Calls Tryz.prog 11 #[v, .string p] w fun e w' => e = .returned (.bool true) ∧ Below w.heap.size w w' := by
  cases hok : okI L with
  | false => exact pw_long OC KT Q0 L p v A m w S hT I (Or.inl hok)
  | true =>
    by_cases h30 : L.length ≤ 30
    · by_cases hp : 100 < p.size
      · exact pw_long OC KT Q0 L p v A m w S hT I (Or.inr ⟨hok, Or.inr ⟨h30, hp⟩⟩)
      · exact pw_main OC AC WC LC KT Q0 L p v A m w S hT I em hok h30 (by omega)
    · exact pw_long OC KT Q0 L p v A m w S hT I (Or.inr ⟨hok, Or.inl h30⟩)
end Ve
end Go.Proofs.YtnkgjddkdikikaaGreatDoor
