/-
  PkN
-/
import Derived.Test.YtnkgjddkdikikaaGreatDoorPq2
import Derived.Test.YtnkgjddkdikikaaGreatDoorPq3
import Derived.Test.YtnkgjddkdikikaaGreatDoorPq4
import Derived.Test.YtnkgjddkdikikaaGreatDoorPq7
import Derived.Test.YtnkgjddkdikikaaGreatDoorPq10
import Derived.Test.YtnkgjddkdikikaaGreatDoorPq12
import Derived.Test.YtnkgjddkdikikaaGreatDoorPq13
import Derived.Test.YtnkgjddkdikikaaGreatDoorPq25
import Derived.Test.YtnkgjddkdikikaaGreatDoorPq23
import Derived.Test.YtnkgjddkdikikaaGreatDoorPq27
import Derived.Test.YtnkgjddkdikikaaGreatDoorPq24
import Derived.Test.YtnkgjddkdikikaaGreatDoorPq29
import Derived.Test.YtnkgjddkdikikaaGreatDoorPq31
import Derived.Test.YtnkgjddkdikikaaGreatDoorPq5
import Derived.Test.YtnkgjddkdikikaaGreatDoorPq35
import Derived.Test.YtnkgjddkdikikaaGreatDoorPq39
import Derived.Test.YtnkgjddkdikikaaGreatDoorPq26
import Derived.Test.YtnkgjddkdikikaaGreatDoorPq49
import Derived.Test.YtnkgjddkdikikaaGreatDoorPq32
import Derived.Test.YtnkgjddkdikikaaGreatDoorPq14
import Derived.Test.YtnkgjddkdikikaaGreatDoorPq48
import Derived.Test.YtnkgjddkdikikaaGreatDoorPq84
import Derived.Test.YtnkgjddkdikikaaGreatDoorPq87
namespace Go.Proofs.YtnkgjddkdikikaaGreatDoor
open Go.RowKit Go.Maps
namespace Ve
theorem wpQuiet_skip {P : Program} {ops : Array Oper} {C : World → Prop} {Q : Act → Prop} {a : Act} {o : Oper} {rest : List Oper} (h : Region.wanted o (yielded ops a.tmps) = false) (hr : wpQuiet P ops C Q rest (a.put o.dst undef)) : wpQuiet P ops C Q (o :: rest) a := by
  unfold wpQuiet
  rw [if_neg (by simp [h])]
  exact hr
def LatC (T : World → Prop) : Prop := ∀ (Q : List Raw) (t : ByteArray) (v : Value) (A : Nat → Addr) (m : Int) (w : World), Q.length ≤ 1000 → shQ Q → Te w A m → T w → EsAt w v Q →
  Calls Tryz.prog 18 #[v, .string t] w fun e w' => ∃ X, e = .returned (.string (lastT X)) ∧ KeptT Q t X ∧ Below w.heap.size w w'
theorem below_grown (w : World) (n : Nat) (os : Array Obj) : Below w.heap.size w (Go.Sort.grow (w.drewN n) os) :=
  ⟨rfl, rfl, rfl, by rw [Go.Sort.size_grow]; exact Nat.le_add_right _ _, fun k hk => Go.Sort.heap_grow_old _ _ hk⟩
theorem lat_grown {T : World → Prop} (LC : LatC T) {Q : List Raw} {t lv : ByteArray} {v : Value} {A : Nat → Addr} {m : Int} {w : World} (hQ : Q.length ≤ 1000) (hq : shQ Q) (S : Te w A m) (hT : T w) (hv : EsAt w v Q) (h : ∀ Y, KeptT Q t Y → lastT Y = lv) :
    Calls Tryz.prog 18 #[v, .string t] w fun e w' => e = .returned (.string lv) ∧ ∃ q os', w' = Go.Sort.grow (w.drewN q) os' :=
  (Mo.calls_ge (LC Q t v A m w hQ hq S hT hv) (fun _ _ ⟨X, h1, _⟩ => ⟨_, h1⟩)).mono fun _ _ ⟨⟨X, h1, h2, h3⟩, h4⟩ => ⟨by rw [h1, h X h2], grow_of_be h3 h4⟩
set_option maxRecDepth 100000 in
set_option maxHeartbeats 16000000 in
theorem pw_main {T : World → Prop} (OC : OfC T) (AC : AllC T) (WC : WhoC T) (LC : LatC T) (KT : StayK T) (Q0 : List Raw) (L : List Ent) (p : ByteArray) (v : Value) (A : Nat → Addr) (m : Int) (w : World) (S : Te w A m) (hT : T w) (I : Ixs w v Q0 L) (em : EmI Q0 L) (hok : okI L = true) (hl30 : L.length ≤ 30) (hp : p.size ≤ 100) :
    Calls Tryz.prog 11 #[v, .string p] w fun e w' => e = .returned (.bool true) ∧ Below w.heap.size w w' := by
  have hq30 : Q0.length ≤ 30 := by rw [I.ln]; exact hl30
  have g1 : ¬ (100 : Int) < (p.size : Int) := by omega
  have g2 : ¬ (30 : Int) < (Q0.length : Int) := by omega
  have HIN := hid (packed_any OC KT A m w S hT)
  have HLO := hid (fun W (h : Below w.heap.size w W) => longI_any Q0 L v W (I.below h))
  rw [if_pos hok] at HLO
  have HOW := hid (fun W (h : Below w.heap.size w W) => ownI_any Q0 L v W (by omega) (I.below h) em (okI_fits hok))
  have HPW := hid (fun Q u W (h : Below w.heap.size w W) (J : Ixs W u Q L) => WC Q L p u A m W (by omega) (okI_sh hok) (ixs_shQ J hok) (by omega) (S.below h) (KT w W hT h) J)
  have HPA := hid (fun Q u R ru W (h : Below w.heap.size w W) (hR : R.length ≤ 1000) (J : Ixs W u Q L) (hm : MsAt W ru R) => AC Q L R u ru A m W (by omega) (okI_sh hok) (ixs_shQ J hok) hR (S.below h) (KT w W hT h) J hm)
  have HPL := hid (fun Q u t W (h : Below w.heap.size w W) (J : Ixs W u Q L) => LC Q t u A m W (by rw [J.ln]; omega) (ixs_shQ J hok) (S.below h) (KT w W hT h) J.es)
  have HPP := hid (fun Q u W (_ : Below w.heap.size w W) (J : Ixs W u Q L) => paths_any Q u W (by rw [J.ln]; omega) J.es)
  have HSQ := hid (fun Q u W (J : Ixs W u Q L) => ixs_shQ (w := W) (v := u) (Q := Q) J hok)
  have HLG0 := hid (fun Q u t lv W (h : Below w.heap.size w W) (J : Ixs W u Q L) (hK : ∀ Y, KeptT Q t Y → lastT Y = lv) => lat_grown LC (by rw [J.ln]; omega) (ixs_shQ J hok) (S.below h) (KT w W hT h) J.es hK)
  have HSL := hid (okI_sh hok)
  obtain ⟨a0, c0, hv0, -⟩ := id I.es
  subst hv0
  clear S I em hok OC AC WC LC KT hT
  go_enter Tryz.func11, Tryz.ntmps11
  go_wp2_with fail
  refine HIN.out.mono ?_
  rintro e w1 ⟨rfl, hb⟩
  have HB1 := hid hb
  clear hb HIN
  go_wp2_with fail
  refine (HLO.out w1 HB1.out).mono ?_
  rintro e w2 ⟨rfl, hb⟩
  have HB2 := hid (HB1.out.trans (hb.mono HB1.out.size))
  clear hb HLO HB1
  go_wp2_with fail
  refine (HOW.out w2 HB2.out).mono ?_
  rintro e w4 ⟨ou, Q, rfl, hO, hb⟩
  have HB4 := hid (HB2.out.trans (hb.mono HB2.out.size))
  have HJ4 := hid hO.ixs
  obtain ⟨oa, oc, hou, -⟩ := id hO.ixs.es
  subst hou
  have HP4 := hid (HPW.out Q _ w4 HB4.out HJ4.out)
  clear hb hO HOW HB2 HPW
  go_wp2_with fail
  refine HP4.out.mono ?_
  rintro e w5 ⟨zv, z, rfl, hz, he, hb⟩
  have HB5 := hid (HB4.out.trans (hb.mono HB4.out.size))
  have HJ5 := hid (HJ4.out.below hb)
  have HZ5 := hid hz
  obtain ⟨za, zc, hz1, -⟩ := hz
  subst hz1
  have HSH := hid (HSQ.out _ _ _ HJ5.out)
  have HZL := hid (wh_len (L := L) (p := p) (show Q.length ≤ 1000 by rw [HJ5.out.ln]; omega))
  clear hb HP4 HJ4 HB4 HSQ
  by_cases hc : (chk Q L).1 = 0
  · rcases he.kind with ⟨-, rfl⟩ | ⟨h0, -⟩
    · have HC := hid hc
      clear he hc
      go_wp2_with fail
      go_loopw [9] (fun iv wr => ∃ i : Nat, i ≤ (whX Q L p).length ∧ iv = .int .i64 i ∧ Hid (Below w5.heap.size w5 wr)) (fun iv _ => (whX Q L p).length - (intOf iv).toNat)
      case atStart => exact ⟨0, Nat.zero_le _, rfl, hid (Below.refl _ _)⟩
      case round =>
        obtain ⟨i, hi9, rfl, HBR⟩ := hrel
        have hZl := HZL.out
        by_cases hlt : i < (whX Q L p).length
        · have hiI := ix_lt hlt
          have hi0 := ix_pos i
          have HLT := hid hlt
          obtain ⟨zb, zo, hza, y0, y1⟩ := HZ5.out.cells hlt
          subst hza
          have HBW := hid (fun W (h : Below w5.heap.size w5 W) => HB5.out.trans (h.mono HB5.out.size))
          have HLV := hid (wh_lat (List.getElem_mem hlt))
          have HCC := hid (fun W (h : Below w5.heap.size w5 W) => And.intro (cell_below h y0) (cell_below h y1))
          have HLG := hid (fun W t lv (hK : ∀ Y, KeptT Q t Y → lastT Y = lv) (h : Below w5.heap.size w5 W) => HLG0.out Q _ t lv W (HBW.out W h) (HJ5.out.below h) hK)
          have mixed : Tryz.prog.follows .mixedOrders = true := by kernel_rfl
          have HGB := hid (fun n os => HBR.out.trans ((below_grown wr n os).mono HBR.out.size))
          by_cases hz0 : 0 < i
          · obtain ⟨k, rfl⟩ : ∃ k, i = k + 1 := ⟨i - 1, by omega⟩
            clear hz0
            obtain ⟨zb', zo', hza, q0, -⟩ := HZ5.out.cells (show k < (whX Q L p).length by omega)
            injection hza with hza
            injection hza with hza1 hza2
            subst hza1 hza2
            have HDN := hid (wh_down hlt)
            have HCQ := hid (fun W (h : Below w5.heap.size w5 W) => cell_below h q0)
            generalize (whX Q L p)[k] = y at *
            generalize (whX Q L p)[k + 1] = x at *
            obtain ⟨x1, x2'⟩ := x
            have HCG := hid (show ∀ n os, Calls Tryz.prog 18 #[.slice oa Q.length oc, .string x1] (Go.Sort.grow (wr.drewN n) os) fun e w' => e = .returned (.string x2') ∧ ∃ q os', w' = Go.Sort.grow ((Go.Sort.grow (wr.drewN n) os).drewN q) os' from fun n os => HLG.out _ x1 x2' (fun Y hK => (latV_of hK).trans HLV.out.1.symm) (HGB.out n os))
            have z0 : ∀ n os, (Go.Sort.grow (wr.drewN n) os).cell? ⟨zb, zo + (k + 1) * 2, none⟩ = some (.string x1) := fun n os => (HCC.out _ (HGB.out n os)).1
            have z1 : ∀ n os, (Go.Sort.grow (wr.drewN n) os).cell? ⟨zb, zo + (k + 1) * 2 + 1, none⟩ = some (.string x2') := fun n os => (HCC.out _ (HGB.out n os)).2
            have z2 : ∀ n os, (Go.Sort.grow (wr.drewN n) os).cell? ⟨zb, zo + k * 2, none⟩ = some (.string y.1) := fun n os => HCQ.out _ (HGB.out n os)
            have hs := str_rf x2'
            have hdn : ¬ (y.1.size : Int) < (x1.size : Int) := by have := HDN.out; simp only at this; omega
            have hdd : decide ((y.1.size : Int) < (x1.size : Int)) = false := decide_eq_false hdn
            have hdN : decide (y.1.size < x1.size) = false := decide_eq_false (by omega)
            have hk4 : decide ((0 : Int) < (k : Int) + 1) = true := decide_eq_true (by omega)
            have hk5 : decide (0 < k + 1) = true := decide_eq_true (by omega)
            have hk6 : decide ((0 : Int) < ((k + 1 : Nat) : Int)) = true := decide_eq_true (by omega)
            have hk8 : wrap64 (k : Int) = (k : Int) := IntWalk.wrap64_in _ (by omega)
            have hk9 : ((k : Int)).toNat = k := by omega
            have hka := ix_pos1 k
            have hkb := ix_lt1 HLT.out
            have hkc := ix_nat1 k
            have hkd : IntKind.i64.wrap ((k : Int) + 1 - 1) = (k : Int) := by rw [IntKind.wrap_i64] <;> omega
            have hke : IntKind.i64.wrap (k : Int) = (k : Int) := by rw [IntKind.wrap_i64] <;> omega
            have hkf : (k : Int) + 1 - 1 = (k : Int) := by omega
            have hk7 : wrap64 ((k : Int) + 1 - 1) = (k : Int) := by rw [IntWalk.wrap64_in _ (by omega)]; omega
            have hkI : (k : Int) < ((whX Q L p).length : Int) := by omega
            have hk0 : (0 : Int) < ((k + 1 : Nat) : Int) := by omega
            have hk1 : wrap64 (((k + 1 : Nat) : Int) - 1) = (k : Int) := by rw [IntWalk.wrap64_in _ (by omega)]; omega
            have hk2 : (0 : Int) ≤ (k : Int) := by omega
            generalize y.1 = yp at *
            clear hlt y0 y1 q0
            go_wp2_with fail
            go_quiet_grown (first | (go_at_call 18; refine Calls.grown_of (HCG.out _ _)))
            have HR9 := hid (HGB.out nq osq)
            generalize Go.Sort.grow (wr.drewN nq) osq = wq at *
            clear z0 z1 z2 HCG
            go_wp2_with fail
            go_roundw
            case rel => exact ⟨k + 1 + 1, HLT.out, by first | exact nr_idx _ | exact nx_idx HLT.out (by omega : (whX Q L p).length ≤ 1000000), HR9⟩
            case measure => first | exact nr_meas HLT.out | exact nx_meas HLT.out (by omega : (whX Q L p).length ≤ 1000000)
          · obtain rfl : i = 0 := by omega
            clear hz0
            generalize (whX Q L p)[0] = x at *
            obtain ⟨x1, x2'⟩ := x
            have HCG := hid (show ∀ n os, Calls Tryz.prog 18 #[.slice oa Q.length oc, .string x1] (Go.Sort.grow (wr.drewN n) os) fun e w' => e = .returned (.string x2') ∧ ∃ q os', w' = Go.Sort.grow ((Go.Sort.grow (wr.drewN n) os).drewN q) os' from fun n os => HLG.out _ x1 x2' (fun Y hK => (latV_of hK).trans HLV.out.1.symm) (HGB.out n os))
            have z0 : ∀ n os, (Go.Sort.grow (wr.drewN n) os).cell? ⟨zb, zo, none⟩ = some (.string x1) := fun n os => by have := (HCC.out _ (HGB.out n os)).1; rw [Nat.zero_mul, Nat.add_zero] at this; exact this
            have z1 : ∀ n os, (Go.Sort.grow (wr.drewN n) os).cell? ⟨zb, zo + 1, none⟩ = some (.string x2') := fun n os => by have := (HCC.out _ (HGB.out n os)).2; rw [Nat.zero_mul, Nat.add_zero] at this; exact this
            have hs := str_rf x2'
            have hpl : 0 < (whX Q L p).length := HLT.out
            clear hlt y0 y1 hi9 hi0 hiI
            have hpI : (0 : Int) < ((whX Q L p).length : Int) := by omega
            generalize hZn : (whX Q L p).length = Zn at *
            have HZn := hid hZn
            clear hZn
            go_wp2_with fail
            refine wp_region_quiet_grown (by assumption) (by kernel_rfl) ?_
            iterate 3 (quiet_step (fail))
            iterate 14 (refine @wpQuiet_skip _ _ _ _ _ _ _ ?_ ?_; focus kernel_rfl)
            repeat (quiet_step (first | (go_at_call 18; refine Calls.grown_of (HCG.out _ _))))
            refine wpQuiet_nil ?_
            intro _ hw'
            obtain ⟨⟨nq, osq⟩, hw9⟩ := hw'
            subst hw9
            have HR9 := hid (HGB.out nq osq)
            generalize Go.Sort.grow (wr.drewN nq) osq = wq at *
            clear z0 z1 HCG
            go_wp2_with fail
            go_roundw
            case rel => exact ⟨1, hpl, rfl, HR9⟩
            case measure => first | (simp [intOf]; omega) | (show Zn - 1 < Zn - 0; omega)
        · have hiI := ix_nlt hlt
          clear hlt
          have HB6 := hid (HB5.out.trans (HBR.out.mono HB5.out.size))
          have HJ6 := hid (HJ5.out.below HBR.out)
          have HPX := hid (HPP.out Q _ wr HB6.out HJ6.out)
          rw [show tx (risB (bl (pathL Q))) = phX Q from tx_ris _] at HPX
          have HZ6 := hid (HZ5.out.below HBR.out)
          have HWI := hid (fun t (ht : t ∈ phX Q) => wh_in HJ5.out HC.out HSH.out (p := p) ht)
          have HLU := hid (fun t (ht : t ∈ phX Q) => lat_univ HJ5.out HC.out ht)
          have HXL := hid (show (phX Q).length ≤ 1000 from Nat.le_trans (ph_len Q) (by rw [HJ5.out.ln]; omega))
          generalize whX Q L p = Z at *
          generalize phX Q = X at *
          have hXl := HXL.out
          go_wp2_with fail
          refine HPX.out.mono ?_
          rintro e w7 ⟨u, rfl, hu, hb⟩
          have HB7 := hid (HB6.out.trans (hb.mono HB6.out.size))
          have HJ7 := hid (HJ6.out.below hb)
          have HZ7 := hid (HZ6.out.below hb)
          have HX7 := hid (own_tx hu)
          obtain ⟨ua, uc, hus⟩ := own_slN hu
          subst hus
          clear hu hb HPX HJ6 HB6 HZ6 HJ5 HB5 HZ5
          obtain ⟨w6, hw6⟩ : ∃ w6, w6 = wr := ⟨_, rfl⟩
          subst hw6
          go_wp2_with fail
          go_loopw [11] (fun iv wr => ∃ i : Nat, i ≤ X.length ∧ iv = .int .i64 i ∧ Hid (Below w7.heap.size w7 wr)) (fun iv _ => X.length - (intOf iv).toNat)
          case atStart => exact ⟨0, Nat.zero_le _, rfl, hid (Below.refl _ _)⟩
          case round =>
            obtain ⟨i, hi9, rfl, HBR⟩ := hrel
            by_cases hlt : i < X.length
            · have hiI := ix_lt hlt
              have hi0 := ix_pos i
              have HLT := hid hlt
              obtain ⟨xb, xo, hxa, y9⟩ := tx_cellK HX7.out hlt
              subst hxa
              have y0 := cell_below HBR.out y9
              have HYW := hid (fun W (h : Below wr.heap.size wr W) => cell_below h y0)
              have HWX := hid (HWI.out X[i] (List.getElem_mem hlt))
              have HUX := hid (HLU.out X[i] (List.getElem_mem hlt))
              generalize X[i] = x at *
              obtain ⟨lx, hlx⟩ : ∃ lx, latV Q x = lx := ⟨_, rfl⟩
              rw [hlx] at HWX HUX
              have HW := hid (fun W' (h : Below wr.heap.size wr W') => HBR.out.trans (h.mono HBR.out.size))
              have HWW := hid (fun W' (h : Below wr.heap.size wr W') => HB7.out.trans ((HW.out W' h).mono HB7.out.size))
              have HJW := hid (fun W' (h : Below wr.heap.size wr W') => HJ7.out.below (HW.out W' h))
              have HLX := hid (fun W' (h : Below wr.heap.size wr W') => show Calls Tryz.prog 18 #[.slice oa Q.length oc, .string x] W' fun e w' => e = .returned (.string lx) ∧ Below W'.heap.size W' w' from
                (HPL.out Q _ x W' (HWW.out W' h) (HJW.out W' h)).mono fun _ _ ⟨Y, h1, h2, h3⟩ => ⟨by rw [h1, latV_of h2, hlx], h3⟩)
              clear hlt y9 hlx
              go_wp2_with fail
              have ya : (wr.alloc (.cells #[.string ⟨#[]⟩, .string ⟨#[]⟩] 35)).cell? ⟨xb, xo + i, none⟩ = some (.string x) := HYW.out _ ((Below.refl _ _).alloc (Nat.le_refl _) _)
              have yb : (wr.drew.alloc (.cells #[.string ⟨#[]⟩, .string ⟨#[]⟩] 35)).cell? ⟨xb, xo + i, none⟩ = some (.string x) := HYW.out _ ((below_drawn wr 1).alloc (Nat.le_refl _) _)
              have hlb := lt_of_cell y0
              simp only at hlb
              have hlb2 : ¬ xb = wr.heap.size := by omega
              have hlb3 : ¬ wr.heap.size = xb := by omega
              refine wp_cut (fun mb W => Hid (W.heap[mb]? = some (.cells #[.string x, .string lx] 35 (0, 0))) ∧ Hid (Below wr.heap.size wr W)) ⟨?F, ?reg, ?cont⟩
              case reg =>
                go_region_with (first
                  | (go_at_call 18; refine (HLX.out _ (below_drawn wr 1)).mono ?_; rintro e w8 ⟨rfl, hb⟩; have HRa := hid (show Below wr.heap.size wr w8 from (below_drawn wr 1).trans (hb.mono (Nat.le_refl _))); have y7 := HYW.out _ HRa.out; have y7a := HYW.out _ (HRa.out.alloc HRa.out.size (.cells #[.string ⟨#[]⟩, .string ⟨#[]⟩] 35)); have hl7 := lt_of_cell y7; simp only at hl7; have hl8 : ¬ xb = w8.heap.size := (by omega); have hl9 : ¬ w8.heap.size = xb := (by omega); clear hb)
                  | (go_at_call 18; refine (HLX.out _ ((below_drawn wr 1).alloc (Nat.le_refl _) _)).mono ?_; rintro e w8 ⟨rfl, hb⟩; have HRa := hid (show Below wr.heap.size wr w8 from ((below_drawn wr 1).alloc (Nat.le_refl _) _).trans (hb.mono (by simp))); have y7 := HYW.out _ HRa.out; have HK7 := hid (show w8.heap[wr.heap.size]? = some (.cells #[.string ⟨#[]⟩, .string ⟨#[]⟩] 35 (0, 0)) from (hb.block _ (by simp)).trans (heap_new wr.drew _)); obtain ⟨k0, k1, kf⟩ := bx2 HK7.out; clear hb))
                all_goals
                  first
                    | (change ∃ mb, (Hid _ ∧ Hid _) ∧ _ = _
                       refine ⟨wr.heap.size, ⟨hid (by rw [set_block (set_block HK7.out)]; rfl), hid (put2_below HRa.out (Nat.le_refl _))⟩, ?_⟩
                       generalize wr.heap.size = mb
                       rfl)
                    | (change ∃ mb, (Hid _ ∧ Hid _) ∧ _ = _
                       refine ⟨w8.heap.size, ⟨hid (heap_new w8 _), hid (HRa.out.alloc HRa.out.size _)⟩, ?_⟩
                       generalize w8.heap.size = mb
                       rfl)
              case cont =>
                rintro mb wm ⟨HM8, HR8⟩
                clear ya yb y0 hlb hlb2 hlb3
                obtain ⟨k0, k1, kf⟩ := bx2 HM8.out
                have HBn := hid (HR8.out.alloc HR8.out.size (.cells #[.string x, .string lx] 35))
                have HMn := hid (show MsAt (wm.alloc (.cells #[.string x, .string lx] 35)) (.slice (some ⟨wm.heap.size, 0, none⟩) 1 1) [(x, lx)] from
                  ⟨some ⟨wm.heap.size, 0, none⟩, 1, rfl, Nat.le_refl _, fun _ => ⟨wm.heap.size, 0, rfl, fun j hj => by
                    have : j = 0 := by simp at hj; omega
                    subst this
                    exact ⟨by simp, by simp⟩⟩⟩)
                have HA := hid (HPA.out Q _ [(x, lx)] _ _ (HWW.out _ HBn.out) (by simp) (HJW.out _ HBn.out) HMn.out)
                rw [alF_ok HJ7.out HC.out (R := [(x, lx)]) (fun y hy => by rw [List.mem_singleton.1 hy]; exact HUX.out), alX_ok HJ7.out HC.out (R := [(x, lx)]) (fun y hy => by rw [List.mem_singleton.1 hy]; exact HUX.out)] at HA
                have HM9 := hid ((Below.refl wm.heap.size wm).alloc (Nat.le_refl _) (.cells #[.string x, .string lx] 35))
                go_wp2_with fail
                refine HA.out.mono ?_
                rintro e wa ⟨ov, y, rfl, ho, he, hb⟩
                have HRa := hid (HBn.out.trans (hb.mono HBn.out.size))
                have HMa := hid (show wa.heap[mb]? = some (.cells #[.string x, .string lx] 35 (0, 0)) from ((HM9.out.trans (hb.mono HM9.out.size)).block _ (lt_of_blk HM8.out)).trans HM8.out)
                have hy : y = .nilIface := by
                  rcases he.kind with ⟨-, h0⟩ | ⟨h0, -⟩
                  · exact h0
                  · exact absurd rfl h0
                subst hy
                have HIT := hid (fun W (h : Below wa.heap.size wa W) => inT_any p _ ov W (al_one HSL.out) (ho.below h))
                obtain ⟨oa', oc', ho1, -⟩ := ho
                subst ho1
                have HEQ := hid (show hasB Z (x, lx) = inB p (alN Q L [(x, lx)]) by
                  rw [Bool.eq_iff_iff, hasB_iff, inB_iff, alN_one]
                  exact HWX.out)
                have HZa := hid (fun W (h : Below wa.heap.size wa W) => HZ7.out.below (HW.out W (HRa.out.trans (h.mono HRa.out.size))))
                generalize inB p (alN Q L [(x, lx)]) = bb at *
                clear he hb HA HMn k0 k1 kf
                generalize (alN Q L [(x, lx)]).length = an at *
                go_wp2_with fail
                obtain ⟨wo, hwo⟩ : ∃ wo, wo = wr := ⟨_, rfl⟩
                subst hwo
                go_loopw [15, 16] (fun bv kv wr => ∃ k : Nat, k ≤ Z.length ∧ kv = .int .i64 k ∧ bv = .bool (hasB (Z.take k) (x, lx)) ∧ Hid (Below wa.heap.size wa wr)) (fun _ kv _ => Z.length - (intOf kv).toNat)
                case atStart => exact ⟨0, Nat.zero_le _, rfl, rfl, hid (Below.refl _ _)⟩
                case round =>
                  obtain ⟨k, hk9, rfl, rfl, HBK⟩ := hrel
                  by_cases hlk : k < Z.length
                  · have hkI := ix_lt hlk
                    have hk0 := ix_pos k
                    have HLK := hid hlk
                    obtain ⟨sb, so, hsa, z0, z1⟩ := (HZa.out _ HBK.out).cells hlk
                    subst hsa
                    have HHN := hid (hasB_next hlk (x, lx))
                    obtain ⟨d0, d1, df⟩ := bx2 ((HBK.out.block _ (lt_of_blk HMa.out)).trans HMa.out)
                    generalize Z[k] = zz at *
                    obtain ⟨x1, x2'⟩ := zz
                    generalize hasB (Z.take k) (x, lx) = hb0 at *
                    clear hlk
                    by_cases heq : x1 = x ∧ x2' = lx
                    · obtain ⟨rfl, rfl⟩ := heq
                      have hs1 := str_rf x1
                      have hs2 := str_rf x2'
                      rw [show decide ((x1, x2').1 = x1 ∧ (x1, x2').2 = x2') = true from decide_eq_true ⟨rfl, rfl⟩, Bool.or_true] at HHN
                      cases hb0
                      all_goals
                        go_wp2_with fail
                        go_quiet (fail)
                        have HBz := hid (HBK.out.trans ((below_drawn _ nq).mono HBK.out.size))
                        go_wp2_with fail
                        go_roundw
                        case rel => exact ⟨k + 1, HLK.out, by first | exact nr_idx k | exact nx_idx HLK.out (by omega : Z.length ≤ 1000000), by rw [HHN.out], HBz⟩
                        case measure => first | exact nr_meas HLK.out | exact nx_meas HLK.out (by omega : Z.length ≤ 1000000)
                    · rw [show decide (x = x1 ∧ lx = x2') = false from decide_eq_false (fun h => heq ⟨h.1.symm, h.2.symm⟩), Bool.or_false] at HHN
                      by_cases h1 : x1 = x
                      · have h2 : ¬ x2' = lx := fun h2 => heq ⟨h1, h2⟩
                        clear heq
                        subst h1
                        have hs1 := str_rf x1
                        have hs2 := str_ne h2
                        clear h2
                        cases hb0
                        all_goals
                          go_wp2_with fail
                          go_quiet (fail)
                          have HBz := hid (HBK.out.trans ((below_drawn _ nq).mono HBK.out.size))
                          go_wp2_with fail
                          go_roundw
                          case rel => exact ⟨k + 1, HLK.out, by first | exact nr_idx k | exact nx_idx HLK.out (by omega : Z.length ≤ 1000000), by rw [HHN.out], HBz⟩
                          case measure => first | exact nr_meas HLK.out | exact nx_meas HLK.out (by omega : Z.length ≤ 1000000)
                      · have hs1 := str_ne h1
                        clear heq h1
                        cases hb0
                        all_goals
                          go_wp2_with fail
                          go_quiet (fail)
                          have HBz := hid (HBK.out.trans ((below_drawn _ nq).mono HBK.out.size))
                          go_wp2_with fail
                          go_roundw
                          case rel => exact ⟨k + 1, HLK.out, by first | exact nr_idx k | exact nx_idx HLK.out (by omega : Z.length ≤ 1000000), by rw [HHN.out], HBz⟩
                          case measure => first | exact nr_meas HLK.out | exact nx_meas HLK.out (by omega : Z.length ≤ 1000000)
                  · have hkI := ix_nlt hlk
                    have HTK := hid (show hasB (Z.take k) (x, lx) = bb by rw [List.take_of_length_le (by omega)]; exact HEQ.out)
                    rw [HTK.out]
                    have HI9 := hid (HIT.out _ HBK.out)
                    have HBo := hid (HW.out _ (HRa.out.trans (HBK.out.mono HRa.out.size)))
                    clear hlk
                    cases bb
                    all_goals
                      go_wp2_with fail
                      refine HI9.out.mono ?_
                      rintro e wb ⟨rfl, rfl⟩
                      go_wp2_with fail
                      go_roundw
                      case rel => exact ⟨i + 1, HLT.out, by first | exact nr_idx i | exact nx_idx HLT.out (by omega : X.length ≤ 1000000), HBo⟩
                      case measure => first | exact nr_meas HLT.out | exact nx_meas HLT.out (by omega : X.length ≤ 1000000)
            · have hiI := ix_nlt hlt
              clear hlt
              go_wp2_with fail
              go_ret
              exact ⟨rfl, HB7.out.trans (HBR.out.mono HB7.out.size)⟩
    · exact absurd hc h0
  · have hzl : (whX Q L p).length = 0 := by unfold whX; rw [if_neg hc]; rfl
    rcases he.kind with ⟨h0, -⟩ | ⟨-, T', ea, rfl⟩
    · exact absurd h0 hc
    · rw [hzl]
      clear he hc
      go_wp2_with fail
      go_ret
      exact ⟨rfl, HB5.out⟩
end Ve
end Go.Proofs.YtnkgjddkdikikaaGreatDoor
