/-
  PkM
-/
import Derived.Test.YtnkgjddkdikikaaGreatDoorPq3
import Derived.Test.YtnkgjddkdikikaaGreatDoorPq4
import Derived.Test.YtnkgjddkdikikaaGreatDoorPq7
import Derived.Test.YtnkgjddkdikikaaGreatDoorPq10
import Derived.Test.YtnkgjddkdikikaaGreatDoorPq13
import Derived.Test.YtnkgjddkdikikaaGreatDoorPq2
import Derived.Test.YtnkgjddkdikikaaGreatDoorPq23
import Derived.Test.YtnkgjddkdikikaaGreatDoorPq27
import Derived.Test.YtnkgjddkdikikaaGreatDoorPq29
import Derived.Test.YtnkgjddkdikikaaGreatDoorPq31
import Derived.Test.YtnkgjddkdikikaaGreatDoorPq12
import Derived.Test.YtnkgjddkdikikaaGreatDoorPq5
import Derived.Test.YtnkgjddkdikikaaGreatDoorPq26
import Derived.Test.YtnkgjddkdikikaaGreatDoorPq49
import Derived.Test.YtnkgjddkdikikaaGreatDoorPq24
import Derived.Test.YtnkgjddkdikikaaGreatDoorPq32
import Derived.Test.YtnkgjddkdikikaaGreatDoorPq14
import Derived.Test.YtnkgjddkdikikaaGreatDoorPq84
import Derived.Test.YtnkgjddkdikikaaGreatDoorPq48
import Derived.Test.YtnkgjddkdikikaaGreatDoorPq87
import Derived.Test.YtnkgjddkdikikaaGreatDoorPq91
namespace Go.Proofs.YtnkgjddkdikikaaGreatDoor
open Go.RowKit Go.Maps
namespace Ve
set_option maxRecDepth 100000 in
set_option maxHeartbeats 2000000 in
theorem kt_long {T : World → Prop} (OC : OfC T) (KT : StayK T) (Q0 : List Raw) (L : List Ent) (R : List Bm) (p : ByteArray) (v rv : Value) (A : Nat → Addr) (m : Int) (w : World) (S : Te w A m) (hT : T w) (I : Ixs w v Q0 L) (hr : MsAt w rv R) (h : okI L = false ∨ (okI L = true ∧ (okLN 15 R = false ∨ (okLN 15 R = true ∧ 100 < p.size)))) :
    Calls Tryz.prog 10 #[v, rv, .string p] w fun e w' => e = .returned (.bool true) ∧ Below w.heap.size w w' := by
  have HIN := hid (packed_any OC KT A m w S hT)
  have HLO := hid (fun W (h : Below w.heap.size w W) => longI_any Q0 L v W (I.below h))
  have HLM := hid (fun W (h : Below w.heap.size w W) => longN_any 15 (by decide) R rv W (hr.below h))
  obtain ⟨a0, c0, hv0, -⟩ := id I.es
  subst hv0
  obtain ⟨ra, rc, hrv, -⟩ := id hr
  subst hrv
  rcases h with h | ⟨h, h1 | ⟨h1, h2⟩⟩
  · rw [h] at HLO
    clear S I h OC KT hT hr
    go_enter Tryz.func10, Tryz.ntmps10
    go_wp2_with fail
    refine HIN.out.mono ?_
    rintro e w1 ⟨rfl, hb⟩
    have HB1 := hid hb
    clear hb
    go_wp2_with fail
    refine (HLO.out w1 HB1.out).mono ?_
    rintro e w2 ⟨rfl, hb⟩
    have HB2 := hid (HB1.out.trans (hb.mono HB1.out.size))
    clear hb
    go_wp2_with fail
    go_ret
    exact ⟨rfl, HB2.out⟩
  · rw [if_pos h] at HLO
    rw [h1] at HLM
    clear S I h h1 OC KT hT hr
    go_enter Tryz.func10, Tryz.ntmps10
    go_wp2_with fail
    refine HIN.out.mono ?_
    rintro e w1 ⟨rfl, hb⟩
    have HB1 := hid hb
    clear hb
    go_wp2_with fail
    refine (HLO.out w1 HB1.out).mono ?_
    rintro e w2 ⟨rfl, hb⟩
    have HB2 := hid (HB1.out.trans (hb.mono HB1.out.size))
    clear hb
    go_wp2_with fail
    refine (HLM.out w2 HB2.out).mono ?_
    rintro e w3 ⟨rfl, rfl⟩
    have HB3 := HB2
    go_wp2_with fail
    go_ret
    exact ⟨rfl, HB3.out⟩
  · rw [if_pos h] at HLO
    rw [if_pos h1] at HLM
    have g1 : (100 : Int) < (p.size : Int) := by omega
    clear S I h h1 OC KT hT hr
    go_enter Tryz.func10, Tryz.ntmps10
    go_wp2_with fail
    refine HIN.out.mono ?_
    rintro e w1 ⟨rfl, hb⟩
    have HB1 := hid hb
    clear hb
    go_wp2_with fail
    refine (HLO.out w1 HB1.out).mono ?_
    rintro e w2 ⟨rfl, hb⟩
    have HB2 := hid (HB1.out.trans (hb.mono HB1.out.size))
    clear hb
    go_wp2_with fail
    refine (HLM.out w2 HB2.out).mono ?_
    rintro e w3 ⟨rfl, rfl⟩
    have HB3 := HB2
    go_wp2_with fail
    go_ret
    exact ⟨rfl, HB3.out⟩
theorem pkgTells_any {T : World → Prop} (OC : OfC T) (AC : AllC T) (WC : WhoC T) (KT : StayK T) (Q0 : List Raw) (L : List Ent) (R : List Bm) (p : ByteArray) (v rv : Value) (A : Nat → Addr) (m : Int) (w : World) (S : Te w A m) (hT : T w) (N : Er.Sen w A) (I : Ixs w v Q0 L) (em : EmI Q0 L) (hr : MsAt w rv R) (hem : Em rv R) :
    Calls Tryz.prog 10 #[v, rv, .string p] w fun e w' => e = .returned (.bool true) ∧ Below w.heap.size w w' := by
  cases hok : okI L with
  | false => exact kt_long OC KT Q0 L R p v rv A m w S hT I hr (Or.inl hok)
  | true =>
    cases hokR : okLN 15 R with
    | false => exact kt_long OC KT Q0 L R p v rv A m w S hT I hr (Or.inr ⟨hok, Or.inl hokR⟩)
    | true =>
      by_cases hp : 100 < p.size
      · exact kt_long OC KT Q0 L R p v rv A m w S hT I hr (Or.inr ⟨hok, Or.inr ⟨hokR, hp⟩⟩)
      · exact kt_main OC AC WC KT Q0 L R p v rv A m w S hT N I em hr hem hok hokR (by omega)
end Ve
end Go.Proofs.YtnkgjddkdikikaaGreatDoor
