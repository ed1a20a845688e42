
import Derived.Test.YtpafkniapacfdaaGreatDoorSs48
namespace Go.Proofs.YtpafkniapacfdaaGreatDoor
open Go.RowKit
namespace Ve
set_option maxRecDepth 100000 in
set_option maxHeartbeats 2000000 in
theorem st_long (Q0 : List Raw) (L : List Ent) (R : List Bm) (X : List Li) (s : ByteArray) (v rv hv : Value) (A : Nat → Addr) (m : Int) (w : World) (K : TsK w A m) (I : Ixs w v Q0 L) (hr : MsAt w rv R) (hh : LiAt w hv X)
    (h : okI L = false ∨ (okI L = true ∧ (okLN 15 R = false ∨ (okLN 15 R = true ∧ (20 < X.length ∨ (X.length ≤ 20 ∧ 500 < s.size)))))) :
    Calls Tryz.prog 4 #[v, rv, hv, .string s] w fun e w' => e = .returned (.bool true) ∧ Below w.heap.size w w' := by
  have HIN := hid (summed_any A m w K.s K.g)
  have HLO := hid (fun W (h : Below w.heap.size w W) => longIQ_any Q0 L v W (I.below h))
  have HLM := hid (fun W (h : Below w.heap.size w W) => longN_any 15 (by decide) R rv W (hr.below h))
  obtain ⟨a0, c0, hv0, -⟩ := id I.es
  subst hv0
  obtain ⟨ra, rc, hrv, -⟩ := id hr
  subst hrv
  obtain ⟨ha, hc, hhv, -⟩ := id hh
  subst hhv
  rcases h with h | ⟨h, h1 | ⟨h1, h2 | ⟨h2, h3⟩⟩⟩
  · rw [h] at HLO
    clear K I hr hh h
    go_enter Tryz.func4, Tryz.ntmps4
    go_wp2_with fail
    refine HIN.out.mono ?_
    rintro e w1 ⟨rfl, hb⟩
    have HB1 := hid hb
    clear hb
    go_wp2_with fail
    refine (HLO.out w1 HB1.out).mono ?_
    rintro e w2 ⟨rfl, rfl⟩
    go_wp2_with fail
    go_ret
    exact ⟨rfl, HB1.out⟩
  · rw [if_pos h] at HLO
    rw [h1] at HLM
    clear K I hr hh h h1
    go_enter Tryz.func4, Tryz.ntmps4
    go_wp2_with fail
    refine HIN.out.mono ?_
    rintro e w1 ⟨rfl, hb⟩
    have HB1 := hid hb
    clear hb
    go_wp2_with fail
    refine (HLO.out w1 HB1.out).mono ?_
    rintro e w2 ⟨rfl, rfl⟩
    go_wp2_with fail
    refine (HLM.out w2 HB1.out).mono ?_
    rintro e w3 ⟨rfl, rfl⟩
    go_wp2_with fail
    go_ret
    exact ⟨rfl, HB1.out⟩
  · rw [if_pos h] at HLO
    rw [if_pos h1] at HLM
    have g1 : (20 : Int) < (X.length : Int) := by omega
    clear K I hr hh h h1 h2
    go_enter Tryz.func4, Tryz.ntmps4
    go_wp2_with fail
    refine HIN.out.mono ?_
    rintro e w1 ⟨rfl, hb⟩
    have HB1 := hid hb
    clear hb
    go_wp2_with fail
    refine (HLO.out w1 HB1.out).mono ?_
    rintro e w2 ⟨rfl, rfl⟩
    go_wp2_with fail
    refine (HLM.out w2 HB1.out).mono ?_
    rintro e w3 ⟨rfl, rfl⟩
    go_wp2_with fail
    go_ret
    exact ⟨rfl, HB1.out⟩
  · rw [if_pos h] at HLO
    rw [if_pos h1] at HLM
    have g1 : ¬ (20 : Int) < (X.length : Int) := by omega
    have g2 : (500 : Int) < (s.size : Int) := by omega
    clear K I hr hh h h1 h2 h3
    go_enter Tryz.func4, Tryz.ntmps4
    go_wp2_with fail
    refine HIN.out.mono ?_
    rintro e w1 ⟨rfl, hb⟩
    have HB1 := hid hb
    clear hb
    go_wp2_with fail
    refine (HLO.out w1 HB1.out).mono ?_
    rintro e w2 ⟨rfl, rfl⟩
    go_wp2_with fail
    refine (HLM.out w2 HB1.out).mono ?_
    rintro e w3 ⟨rfl, rfl⟩
    go_wp2_with fail
    go_ret
    exact ⟨rfl, HB1.out⟩
theorem sumsTell_any (Q0 : List Raw) (L : List Ent) (R : List Bm) (X : List Li) (s : ByteArray) (v rv hv : Value) (A : Nat → Addr) (m : Int) (w : World) (K : TsK w A m) (I : Ixs w v Q0 L) (em : EmI Q0 L) (hr : MsAt w rv R) (hem : Em rv R) (hh : LiAt w hv X) :
    Calls Tryz.prog 4 #[v, rv, hv, .string s] w fun e w' => e = .returned (.bool true) ∧ Below w.heap.size w w' := by
  cases hok : okI L with
  | false => exact st_long Q0 L R X s v rv hv A m w K I hr hh (Or.inl hok)
  | true =>
    cases hokR : okLN 15 R with
    | false => exact st_long Q0 L R X s v rv hv A m w K I hr hh (Or.inr ⟨hok, Or.inl hokR⟩)
    | true =>
      by_cases h1 : 20 < X.length
      · exact st_long Q0 L R X s v rv hv A m w K I hr hh (Or.inr ⟨hok, Or.inr ⟨hokR, Or.inl h1⟩⟩)
      · by_cases h2 : 500 < s.size
        · exact st_long Q0 L R X s v rv hv A m w K I hr hh (Or.inr ⟨hok, Or.inr ⟨hokR, Or.inr ⟨by omega, h2⟩⟩⟩)
        · exact st_main Q0 L R X s v rv hv A m w K I em hr hem hh hok hokR (by omega) (by omega)
end Ve
end Go.Proofs.YtpafkniapacfdaaGreatDoor
