/-
  QcA QsA QpA QtP QtB
-/
import Derived.Test.YtnkgjddkdikikaaGreatDoorPq2
import Derived.Test.YtnkgjddkdikikaaGreatDoorPq3
import Derived.Test.YtnkgjddkdikikaaGreatDoorPq4
import Derived.Test.YtnkgjddkdikikaaGreatDoorPq7
import Derived.Test.YtnkgjddkdikikaaGreatDoorPq10
import Derived.Test.YtnkgjddkdikikaaGreatDoorPq13
import Derived.Test.YtnkgjddkdikikaaGreatDoorPq16
import Derived.Test.YtnkgjddkdikikaaGreatDoorPq23
import Derived.Test.YtnkgjddkdikikaaGreatDoorPq24
import Derived.Test.YtnkgjddkdikikaaGreatDoorPq27
import Derived.Test.YtnkgjddkdikikaaGreatDoorPq29
import Derived.Test.YtnkgjddkdikikaaGreatDoorPq18
import Derived.Test.YtnkgjddkdikikaaGreatDoorPq12
import Derived.Test.YtnkgjddkdikikaaGreatDoorPq5
import Derived.Test.YtnkgjddkdikikaaGreatDoorPq31
import Derived.Test.YtnkgjddkdikikaaGreatDoorPq8
import Derived.Test.YtnkgjddkdikikaaGreatDoorPq61
import Derived.Test.YtnkgjddkdikikaaGreatDoorPq62
import Derived.Test.YtnkgjddkdikikaaGreatDoorPq32
import Derived.Test.YtnkgjddkdikikaaGreatDoorPq34
import Derived.Test.YtnkgjddkdikikaaGreatDoorPq37
namespace Go.Proofs.YtnkgjddkdikikaaGreatDoor
open Go.RowKit
namespace Ve
theorem pword_any (q : ByteArray) (w : World) : Calls Tryz.prog 83 #[.string q] w fun e w' => e = .returned (.bool (isWd q)) ∧ w' = w := by
  have HZ := hid (show isWd q = ((q.toList == [108, 97, 116, 101, 115, 116]) || (q.toList == [117, 112, 103, 114, 97, 100, 101]) || (q.toList == [112, 97, 116, 99, 104]) || (q.toList == [110, 111, 110, 101])) by
    unfold isWd
    rw [eqW, eqW, eqW, eqW]
    rfl)
  generalize isWd q = z at *
  cases h1 : (q.toList == [108, 97, 116, 101, 115, 116])
  · cases h2 : (q.toList == [117, 112, 103, 114, 97, 100, 101])
    · cases h3 : (q.toList == [112, 97, 116, 99, 104])
      · cases h4 : (q.toList == [110, 111, 110, 101])
        · rw [h1, h2, h3, h4] at HZ
          go_enter Tryz.func83, Tryz.ntmps83
          go_wp2_with fail
          go_ret
          exact ⟨ret_bool HZ.out.symm, rfl⟩
        · rw [h1, h2, h3, h4] at HZ
          go_enter Tryz.func83, Tryz.ntmps83
          go_wp2_with fail
          go_ret
          exact ⟨ret_bool HZ.out.symm, rfl⟩
      · rw [h1, h2, h3] at HZ
        go_enter Tryz.func83, Tryz.ntmps83
        go_wp2_with fail
        go_ret
        exact ⟨ret_bool HZ.out.symm, rfl⟩
    · rw [h1, h2] at HZ
      go_enter Tryz.func83, Tryz.ntmps83
      go_wp2_with fail
      go_ret
      exact ⟨ret_bool HZ.out.symm, rfl⟩
  · rw [h1] at HZ
    go_enter Tryz.func83, Tryz.ntmps83
    go_wp2_with fail
    go_ret
    exact ⟨ret_bool HZ.out.symm, rfl⟩
theorem cutP_sign (q h : ByteArray) (w : World) : Calls Tryz.prog 63 #[.string q, .string h] w fun e w' => ∃ R, e = .returned (.tuple #[.string R, .bool (begB q h)]) ∧ (begB q h = true → R = q.extract h.size q.size) ∧ w' = w :=
  (Tryz.strings_CutPrefix q h w).mono fun e w' ⟨h1, h2⟩ => ⟨_, h1, fun hb => str_ext (by
    unfold Lib.trimPrefix
    rw [if_pos (show Lib.hasPrefix q.data.toList h.data.toList = true from hb), extract_list]
    have e1 : h.data.toList.length = h.size := len_eq h
    have e2 : q.data.toList.length = q.size := len_eq q
    rw [e1, List.take_of_length_le (by rw [List.length_drop]; omega)]), h2⟩
set_option maxRecDepth 100000 in
set_option maxHeartbeats 2000000 in
theorem cs_any (q : ByteArray) (w : World) : Calls Tryz.prog 84 #[.string q] w fun e w' => e = .returned (.tuple #[.string (sgn q).1, .string (sgn q).2]) ∧ Below w.heap.size w w' := by
  have HB0 := hid ((Below.refl w.heap.size w).alloc (Nat.le_refl _) (.cells #[.string ⟨#[60, 61]⟩, .string ⟨#[62, 61]⟩, .string ⟨#[60]⟩, .string ⟨#[62]⟩] 9))
  have hN := heap_alloc_new w (.cells #[.string ⟨#[60, 61]⟩, .string ⟨#[62, 61]⟩, .string ⟨#[60]⟩, .string ⟨#[62]⟩] 9)
  have k0 : (w.alloc (.cells #[.string ⟨#[60, 61]⟩, .string ⟨#[62, 61]⟩, .string ⟨#[60]⟩, .string ⟨#[62]⟩] 9)).cell? ⟨w.heap.size, 0, none⟩ = some (.string ⟨#[60, 61]⟩) := by rw [Lib.cell_of_heap hN]; rfl
  have k1 : (w.alloc (.cells #[.string ⟨#[60, 61]⟩, .string ⟨#[62, 61]⟩, .string ⟨#[60]⟩, .string ⟨#[62]⟩] 9)).cell? ⟨w.heap.size, 1, none⟩ = some (.string ⟨#[62, 61]⟩) := by rw [Lib.cell_of_heap hN]; rfl
  have k2 : (w.alloc (.cells #[.string ⟨#[60, 61]⟩, .string ⟨#[62, 61]⟩, .string ⟨#[60]⟩, .string ⟨#[62]⟩] 9)).cell? ⟨w.heap.size, 2, none⟩ = some (.string ⟨#[60]⟩) := by rw [Lib.cell_of_heap hN]; rfl
  have k3 : (w.alloc (.cells #[.string ⟨#[60, 61]⟩, .string ⟨#[62, 61]⟩, .string ⟨#[60]⟩, .string ⟨#[62]⟩] 9)).cell? ⟨w.heap.size, 3, none⟩ = some (.string ⟨#[62]⟩) := by rw [Lib.cell_of_heap hN]; rfl
  have HBG := hid (fun h W => cutP_sign q h W)
  clear hN
  go_enter Tryz.func84, Tryz.ntmps84
  go_wp2_with fail
  generalize w.alloc (.cells #[.string ⟨#[60, 61]⟩, .string ⟨#[62, 61]⟩, .string ⟨#[60]⟩, .string ⟨#[62]⟩] 9) = w1 at *
  go_loopw [10] (fun iv wr => ∃ k : Nat, k ≤ 4 ∧ iv = .int .i64 k ∧ Hid (∀ j, j < k → begB q (sgAt j) = false) ∧ wr = w1) (fun iv _ => 4 - (intOf iv).toNat)
  case atStart => exact ⟨0, by decide, rfl, hid (fun j hj => absurd hj (Nat.not_lt_zero _)), rfl⟩
  case round =>
    obtain ⟨k, hk, rfl, HA, rfl⟩ := hrel
    rcases (by omega : k = 0 ∨ k = 1 ∨ k = 2 ∨ k = 3 ∨ k = 4) with rfl | rfl | rfl | rfl | rfl
    · have HC := hid (HBG.out ⟨#[60, 61]⟩ wr)
      cases hb : begB q ⟨#[60, 61]⟩
      · rw [hb] at HC
        have HA2 := hid (show ∀ j, j < 1 → begB q (sgAt j) = false from fun j hj => by
          rcases Nat.lt_or_ge j 0 with h | h
          · exact HA.out j h
          · have : j = 0 := by omega
            subst this; exact hb)
        clear hb
        go_wp2_with fail
        refine HC.out.mono ?_
        rintro e w2 ⟨R, rfl, -, rfl⟩
        go_wp2_with fail
        go_roundw
        case rel => exact ⟨1, by decide, rfl, HA2, by first | rfl | trivial⟩
        case measure => simp [intOf]
      · rw [hb] at HC
        have HS := hid (sgn_0  hb)
        clear hb
        go_wp2_with fail
        refine HC.out.mono ?_
        rintro e w2 ⟨R, rfl, hR, rfl⟩
        have HR := hid (hR (by first | rfl | trivial))
        clear hR
        go_wp2_with fail
        go_ret2
        exact ⟨by rw [HS.out, HR.out]; rfl, HB0.out⟩
    · have HC := hid (HBG.out ⟨#[62, 61]⟩ wr)
      cases hb : begB q ⟨#[62, 61]⟩
      · rw [hb] at HC
        have HA2 := hid (show ∀ j, j < 2 → begB q (sgAt j) = false from fun j hj => by
          rcases Nat.lt_or_ge j 1 with h | h
          · exact HA.out j h
          · have : j = 1 := by omega
            subst this; exact hb)
        clear hb
        go_wp2_with fail
        refine HC.out.mono ?_
        rintro e w2 ⟨R, rfl, -, rfl⟩
        go_wp2_with fail
        go_roundw
        case rel => exact ⟨2, by decide, rfl, HA2, by first | rfl | trivial⟩
        case measure => simp [intOf]
      · rw [hb] at HC
        have HS := hid (sgn_1 (HA.out 0 (by decide)) hb)
        clear hb
        go_wp2_with fail
        refine HC.out.mono ?_
        rintro e w2 ⟨R, rfl, hR, rfl⟩
        have HR := hid (hR (by first | rfl | trivial))
        clear hR
        go_wp2_with fail
        go_ret2
        exact ⟨by rw [HS.out, HR.out]; rfl, HB0.out⟩
    · have HC := hid (HBG.out ⟨#[60]⟩ wr)
      cases hb : begB q ⟨#[60]⟩
      · rw [hb] at HC
        have HA2 := hid (show ∀ j, j < 3 → begB q (sgAt j) = false from fun j hj => by
          rcases Nat.lt_or_ge j 2 with h | h
          · exact HA.out j h
          · have : j = 2 := by omega
            subst this; exact hb)
        clear hb
        go_wp2_with fail
        refine HC.out.mono ?_
        rintro e w2 ⟨R, rfl, -, rfl⟩
        go_wp2_with fail
        go_roundw
        case rel => exact ⟨3, by decide, rfl, HA2, by first | rfl | trivial⟩
        case measure => simp [intOf]
      · rw [hb] at HC
        have HS := hid (sgn_2 (HA.out 0 (by decide)) (HA.out 1 (by decide)) hb)
        clear hb
        go_wp2_with fail
        refine HC.out.mono ?_
        rintro e w2 ⟨R, rfl, hR, rfl⟩
        have HR := hid (hR (by first | rfl | trivial))
        clear hR
        go_wp2_with fail
        go_ret2
        exact ⟨by rw [HS.out, HR.out]; rfl, HB0.out⟩
    · have HC := hid (HBG.out ⟨#[62]⟩ wr)
      cases hb : begB q ⟨#[62]⟩
      · rw [hb] at HC
        have HA2 := hid (show ∀ j, j < 4 → begB q (sgAt j) = false from fun j hj => by
          rcases Nat.lt_or_ge j 3 with h | h
          · exact HA.out j h
          · have : j = 3 := by omega
            subst this; exact hb)
        clear hb
        go_wp2_with fail
        refine HC.out.mono ?_
        rintro e w2 ⟨R, rfl, -, rfl⟩
        go_wp2_with fail
        go_roundw
        case rel => exact ⟨4, by decide, rfl, HA2, by first | rfl | trivial⟩
        case measure => simp [intOf]
      · rw [hb] at HC
        have HS := hid (sgn_3 (HA.out 0 (by decide)) (HA.out 1 (by decide)) (HA.out 2 (by decide)) hb)
        clear hb
        go_wp2_with fail
        refine HC.out.mono ?_
        rintro e w2 ⟨R, rfl, hR, rfl⟩
        have HR := hid (hR (by first | rfl | trivial))
        clear hR
        go_wp2_with fail
        go_ret2
        exact ⟨by rw [HS.out, HR.out]; rfl, HB0.out⟩
    · have HS := hid (sgn_4 (HA.out 0 (by decide)) (HA.out 1 (by decide)) (HA.out 2 (by decide)) (HA.out 3 (by decide)))
      go_wp2_with fail
      go_ret2
      exact ⟨by rw [HS.out]; rfl, HB0.out⟩
theorem no_sign {q : ByteArray} (h : (sgn q).1 = bE) : (sgn q).2 = q := by
  rcases sgn_kind q with e | e | e | e | e
  · rw [e] at h; exact absurd h sg_ne4
  · rw [e] at h; exact absurd h sg_ne7
  · rw [e] at h; exact absurd h sg_ne9
  · rw [e] at h; exact absurd h sg_ne10
  · exact e.2
theorem bE_list (s : ByteArray) : (s.toList == ([] : List UInt8)) = decide (s = bE) := by
  rw [eqW]; rfl
set_option maxRecDepth 100000 in
set_option maxHeartbeats 2000000 in
theorem check_c : CheckC := fun q A m w hq S => by
  have HW := hid (pword_any q w)
  have HCS := hid (cs_any q w)
  have HZ := hid (sgn_size q)
  have HV := hid (fun W (h : Below w.heap.size w W) => vcheck_is (sgn q).2 (A 0) (A 1) m W (by have := HZ.out; omega) (S.below h).vs)
  have HH := hid (fun W (h : Below w.heap.size w W) => chead_any q (A 0) (A 1) m W (by omega) (S.below h).vs)
  have HG := hid (fun W (h : Below w.heap.size w W) => (S.below h).vs)
  obtain ⟨i9, hi9, hcmp9⟩ := Option.map_eq_some_iff.1 compS
  obtain ⟨j9, hj9, hjs9⟩ := Option.map_eq_some_iff.1 sizeS
  have HQ0 := hid (fun W => run_eql_iface_nil_left (P := Tryz.prog) W 311 (.pointer (some (A 0))) Tryz.underlying27)
  have HQ1 := hid (fun W => run_eql_iface_ptr_same (P := Tryz.prog) W (A 0) Tryz.underlying27 Tryz.underlying311 hi9 hcmp9 hj9)
  have HQ2 := hid (fun W c2 t2 c1 t1 (e2 : W.heap[(A 1).block]? = some (.cells c2 t2 (0, 0))) (e1 : W.heap[(A 0).block]? = some (.cells c1 t1 (0, 0))) => run_eql_iface_ptr_other (P := Tryz.prog) W Tryz.underlying27 Tryz.underlying311 hi9 hcmp9 hj9 (by rw [hjs9]; decide) S.vs.ne.symm e2 e1)
  clear S hi9 hcmp9 hj9 hjs9
  cases hwd : isWd q
  · by_cases hs : (sgn q).1 = bE
    · have hq2 := no_sign hs
      have HE := hid (fun h3 => qErr_head hwd hs h3)
      have HE2 := hid (fun h3 => qErr_ver hwd (Or.inr h3))
      rw [hwd] at HW
      rw [hs, hq2] at HCS
      rw [hq2] at HV HE HE2
      have hbe : (bE.toList == ([] : List UInt8)) = true := by rw [bE_list]; exact decide_eq_true rfl
      have HVE := hid (verErr_err q.data.toList)
      have HHE := hid (headErr_err q.data.toList)
      clear hwd hs hq2
      rcases HVE.out with hv | hv | hv
      · have HQ := hid (HE2.out (by rw [hv]; decide))
        rw [hv, errV0] at HV
        rw [hv] at HQ
        go_enter Tryz.func35, Tryz.ntmps35
        go_wp2_with fail
        refine HW.out.mono ?_
        rintro e w1 ⟨rfl, rfl⟩
        go_wp2_with fail
        refine HCS.out.mono ?_
        rintro e w2 ⟨rfl, hb⟩
        have HB := hid hb
        clear hb
        go_wp2_with fail
        refine (HV.out _ HB.out).mono ?_
        rintro e w3 ⟨rfl, hb⟩
        have HB2 := hid (HB.out.trans (hb.mono HB.out.size))
        have g0 := (HG.out _ HB2.out).t
        have q0 := HQ0.out w3
        clear hb
        go_wp2_with fail
        go_ret
        exact ⟨by rw [HQ.out]; rfl, HB2.out⟩
      · have HQ := hid (HE.out hv)
        rw [hv, errV1] at HV
        obtain ⟨ev, hev⟩ : ∃ ev, errV (A 0) (A 1) (headErr q.data.toList) = ev := ⟨_, rfl⟩
        have HEV := hid (show errA A (qErr q) = ev by rw [HQ.out, ← errA_V A _ HHE.out]; exact hev)
        rw [hev] at HH
        clear hev
        go_enter Tryz.func35, Tryz.ntmps35
        go_wp2_with fail
        refine HW.out.mono ?_
        rintro e w1 ⟨rfl, rfl⟩
        go_wp2_with fail
        refine HCS.out.mono ?_
        rintro e w2 ⟨rfl, hb⟩
        have HB := hid hb
        clear hb
        go_wp2_with fail
        refine (HV.out _ HB.out).mono ?_
        rintro e w3 ⟨rfl, hb⟩
        have HB2 := hid (HB.out.trans (hb.mono HB.out.size))
        have g0 := (HG.out _ HB2.out).t
        have q1 := HQ1.out w3
        clear hb
        go_wp2_with fail
        refine (HH.out _ HB2.out).mono ?_
        rintro e w4 ⟨rfl, hb⟩
        have HB3 := hid (HB2.out.trans (hb.mono HB2.out.size))
        clear hb
        go_wp2_with fail
        go_ret
        exact ⟨by rw [HEV.out]; rfl, HB3.out⟩
      · have HQ := hid (HE2.out (by rw [hv]; decide))
        rw [hv, errV2] at HV
        rw [hv] at HQ
        go_enter Tryz.func35, Tryz.ntmps35
        go_wp2_with fail
        refine HW.out.mono ?_
        rintro e w1 ⟨rfl, rfl⟩
        go_wp2_with fail
        refine HCS.out.mono ?_
        rintro e w2 ⟨rfl, hb⟩
        have HB := hid hb
        clear hb
        go_wp2_with fail
        refine (HV.out _ HB.out).mono ?_
        rintro e w3 ⟨rfl, hb⟩
        have HB2 := hid (HB.out.trans (hb.mono HB.out.size))
        have g0 := (HG.out _ HB2.out).t
        obtain ⟨c1, t1, e1⟩ := (HG.out _ HB2.out).bt
        obtain ⟨c2, t2, e2⟩ := (HG.out _ HB2.out).bb
        have q2 := HQ2.out w3 _ _ _ _ e2 e1
        clear e1 e2
        clear hb
        go_wp2_with fail
        go_ret
        exact ⟨by rw [HQ.out]; rfl, HB2.out⟩
    · have HQ := hid (qErr_ver hwd (Or.inl hs))
      have hbe : ((sgn q).1.toList == ([] : List UInt8)) = false := by rw [bE_list]; exact decide_eq_false hs
      have HVE := hid (verErr_err (sgn q).2.data.toList)
      have HEV := hid (show errA A (qErr q) = errV (A 0) (A 1) (verErr (sgn q).2.data.toList) by rw [HQ.out, errA_V A _ HVE.out])
      rw [hwd] at HW
      obtain ⟨ev, hev⟩ : ∃ ev, errV (A 0) (A 1) (verErr (sgn q).2.data.toList) = ev := ⟨_, rfl⟩
      rw [hev] at HEV HV
      generalize (sgn q).1 = s1 at *
      generalize (sgn q).2 = s2 at *
      clear hwd hs HQ HVE hev
      go_enter Tryz.func35, Tryz.ntmps35
      go_wp2_with fail
      refine HW.out.mono ?_
      rintro e w1 ⟨rfl, rfl⟩
      go_wp2_with fail
      refine HCS.out.mono ?_
      rintro e w2 ⟨rfl, hb⟩
      have HB := hid hb
      clear hb
      go_wp2_with fail
      refine (HV.out _ HB.out).mono ?_
      rintro e w3 ⟨rfl, hb⟩
      have HB2 := hid (HB.out.trans (hb.mono HB.out.size))
      clear hb
      go_wp2_with fail
      go_ret
      exact ⟨by rw [HEV.out]; rfl, HB2.out⟩
  · have HE := hid (show errA A (qErr q) = .nilIface by rw [qErr_word hwd]; rfl)
    rw [hwd] at HW
    clear hwd
    go_enter Tryz.func35, Tryz.ntmps35
    go_wp2_with fail
    refine HW.out.mono ?_
    rintro e w1 ⟨rfl, rfl⟩
    go_wp2_with fail
    go_ret
    exact ⟨by rw [HE.out]; rfl, Below.refl _ _⟩
end Ve
end Go.Proofs.YtnkgjddkdikikaaGreatDoor
namespace Go.Proofs.YtnkgjddkdikikaaGreatDoor
open Go.RowKit Go.Maps
namespace Ve
theorem s3_short (g : Nat) : shortQ (s3Q g) := fun r hr => by
  rcases List.mem_cons.1 hr with rfl | hr
  · exact ⟨show qa0.1.size ≤ 80 by decide, show qa0.2.size ≤ 80 by decide⟩
  rcases List.mem_cons.1 hr with rfl | hr
  · exact ⟨show qa1.1.size ≤ 80 by decide, show qa1.2.size ≤ 80 by decide⟩
  rcases List.mem_cons.1 hr with rfl | hr
  · exact ⟨show qb0.1.size ≤ 80 by decide, show qb0.2.size ≤ 80 by decide⟩
  rw [List.mem_singleton.1 hr]
  exact ⟨show qb1.1.size ≤ 80 by decide, show qb1.2.size ≤ 80 by decide⟩
theorem qa0_v : verErr qa0.2.data.toList = 0 := by kernel_rfl
theorem qa1_v : verErr qa1.2.data.toList = 0 := by kernel_rfl
theorem qb0_v : verErr qb0.2.data.toList = 0 := by kernel_rfl
theorem qb1_v : verErr qb1.2.data.toList = 0 := by kernel_rfl
theorem s3_kept {L X : List ByteArray} (hL : L = X) (hr : rises (bl X)) (hv : ∀ x, x ∈ X → verErr x.data.toList = 0) : Kept L L.length X := by
  subst hL
  refine ⟨hr, fun t => ?_⟩
  rw [List.take_length]
  constructor
  · intro ht
    obtain ⟨x, hx, rfl⟩ := List.mem_map.1 ht
    exact ⟨ht, hv x hx⟩
  · intro h; exact h.1
theorem s3_keptA (g : Nat) : Kept (verL (ofP qa0.1 (s3Q g))) (verL (ofP qa0.1 (s3Q g))).length [qa0.2, qa1.2] := by
  refine s3_kept (by kernel_rfl) (List.pairwise_cons.2 ⟨fun t ht => ?_, List.pairwise_singleton _ _⟩) fun x hx => ?_
  · rw [List.mem_singleton.1 ht]; exact of_decide_eq_true (by kernel_rfl)
  · have : x = qa0.2 ∨ x = qa1.2 := by simpa using hx
    rcases this with h | h
    · rw [h]; exact qa0_v
    · rw [h]; exact qa1_v
theorem s3_keptB (g : Nat) : Kept (verL (ofP qb0.1 (s3Q g))) (verL (ofP qb0.1 (s3Q g))).length [qb0.2, qb1.2] := by
  refine s3_kept (by kernel_rfl) (List.pairwise_cons.2 ⟨fun t ht => ?_, List.pairwise_singleton _ _⟩) fun x hx => ?_
  · rw [List.mem_singleton.1 ht]; exact of_decide_eq_true (by kernel_rfl)
  · have : x = qb0.2 ∨ x = qb1.2 := by simpa using hx
    rcases this with h | h
    · rw [h]; exact qb0_v
    · rw [h]; exact qb1_v
def bV1 : ByteArray := ⟨#[118, 49]⟩
def bGe : ByteArray := ⟨#[62, 61, 118, 48, 46, 49, 46, 48]⟩
theorem bV1_no : ¬ bV1 = bNone := fun e => absurd (congrArg (fun m : ByteArray => m.data) e) (by decide)
theorem bGe_no : ¬ bGe = bNone := fun e => absurd (congrArg (fun m : ByteArray => m.data) e) (by decide)
theorem s3_pA (g : Nat) : pkB (s3Q g) qa0.1 bV1 bE [qa0.2, qa1.2] = qa1.2 := by kernel_rfl
theorem s3_pB (g : Nat) : pkB (s3Q g) qb0.1 bGe bE [qb0.2, qb1.2] = qb0.2 := by kernel_rfl
theorem s3_q1 : qErr bV1 = 0 := by kernel_rfl
theorem s3_q2 : qErr bGe = 0 := by kernel_rfl
theorem s3_n1 : ¬ qa1.2 = bE := fun e => absurd (congrArg (fun m : ByteArray => m.data) e) (by decide)
theorem s3_n2 : ¬ qb0.2 = bE := fun e => absurd (congrArg (fun m : ByteArray => m.data) e) (by decide)
theorem s3_u1 : ¬ bV1 = bUpgrade := fun e => absurd (congrArg (fun m : ByteArray => m.data) e) (by decide)
theorem s3_u2 : ¬ bGe = bUpgrade := fun e => absurd (congrArg (fun m : ByteArray => m.data) e) (by decide)
theorem s3_A (g : Nat) {X : List ByteArray} (hX : Kept (verL (ofP qa0.1 (s3Q g))) (verL (ofP qa0.1 (s3Q g))).length X) : pkF (s3Q g) s3L qa0.1 bV1 bE X = (0, none) ∧ pkV (s3Q g) s3L qa0.1 bV1 bE X = qa1.2 := by
  have e := kept_one hX (s3_keptA g)
  subst e
  have h1 : ¬ qErr bV1 ≠ 0 := by rw [s3_q1]; simp
  have h2 : ¬ (chk (s3Q g) s3L).1 ≠ 0 := by rw [s3_chk]; simp
  rw [pkF_m h1 h2 bV1_no, pkV_m h1 h2 bV1_no, s3_pA, if_neg s3_n1, if_neg s3_n1, if_neg s3_u1]
  exact ⟨rfl, rfl⟩
theorem s3_B (g : Nat) {X : List ByteArray} (hX : Kept (verL (ofP qb0.1 (s3Q g))) (verL (ofP qb0.1 (s3Q g))).length X) : pkF (s3Q g) s3L qb0.1 bGe bE X = (0, none) ∧ pkV (s3Q g) s3L qb0.1 bGe bE X = qb0.2 := by
  have e := kept_one hX (s3_keptB g)
  subst e
  have h1 : ¬ qErr bGe ≠ 0 := by rw [s3_q2]; simp
  have h2 : ¬ (chk (s3Q g) s3L).1 ≠ 0 := by rw [s3_chk]; simp
  rw [pkF_m h1 h2 bGe_no, pkV_m h1 h2 bGe_no, s3_pB, if_neg s3_n2, if_neg s3_n2, if_neg s3_u2]
  exact ⟨rfl, rfl⟩
set_option maxRecDepth 100000 in
set_option maxHeartbeats 4000000 in
theorem picked_any {T : World → Prop} (PC : PickC T) (KT : KeepT T) (A : Nat → Addr) (m : Int) (w : World) (S : Te w A m) (ht : T w) : Calls Tryz.prog 30 #[] w fun e w' => e = .returned (.bool true) ∧ Below w.heap.size w w' := by
  have HSM := hid small3_any
  have HS := hid (fun W (h : Below w.heap.size w W) => S.below h)
  have HPC := hid PC
  have HT := hid (fun W (h : Below w.heap.size w W) => KT w W ht h)
  clear S PC KT ht
  go_enter Tryz.func30, Tryz.ntmps30
  go_wp2_with fail
  refine (HSM.out w).mono ?_
  rintro e w1 ⟨g, q, rfl, hix, hb⟩
  have HB1 := hid hb
  have HP1 := hid (HPC.out (s3Q g) s3L ⟨#[97]⟩ ⟨#[118, 49]⟩ ⟨#[]⟩ _ A m w1 (by decide) s3_sh (s3_short g) (by decide) (by decide) (by decide) (HS.out _ hb) (HT.out _ hb) hix)
  clear hix hb
  go_wp2_with fail
  refine HP1.out.mono ?_
  rintro e w2 ⟨X, x, hK, rfl, he, hb⟩
  obtain ⟨e1, e2⟩ := s3_A g (hK ⟨s3_q1, by rw [s3_chk], bV1_no⟩)
  have e1' : pkF (s3Q g) s3L ⟨#[97]⟩ ⟨#[118, 49]⟩ ⟨#[]⟩ X = (0, none) := e1
  have e2' : pkV (s3Q g) s3L ⟨#[97]⟩ ⟨#[118, 49]⟩ ⟨#[]⟩ X = ⟨#[118, 49, 46, 49, 46, 48]⟩ := e2
  rw [e1'] at he
  have he : x = .nilIface := he
  subst he
  rw [e2']
  have HB2 := hid (HB1.out.trans (hb.mono HB1.out.size))
  clear hK hb e1 e2 e1' e2' HP1
  go_wp2_with fail
  refine (HSM.out w2).mono ?_
  rintro e w3 ⟨g3, q3, rfl, hix, hb⟩
  have HB3 := hid (HB2.out.trans (hb.mono HB2.out.size))
  have HP3 := hid (HPC.out (s3Q g3) s3L ⟨#[98]⟩ ⟨#[62, 61, 118, 48, 46, 49, 46, 48]⟩ ⟨#[]⟩ _ A m w3 (by decide) s3_sh (s3_short g3) (by decide) (by decide) (by decide) (HS.out _ HB3.out) (HT.out _ HB3.out) hix)
  clear hix hb
  go_wp2_with fail
  refine HP3.out.mono ?_
  rintro e w4 ⟨X, x, hK, rfl, he, hb⟩
  obtain ⟨e1, e2⟩ := s3_B g3 (hK ⟨s3_q2, by rw [s3_chk], bGe_no⟩)
  have e1' : pkF (s3Q g3) s3L ⟨#[98]⟩ ⟨#[62, 61, 118, 48, 46, 49, 46, 48]⟩ ⟨#[]⟩ X = (0, none) := e1
  have e2' : pkV (s3Q g3) s3L ⟨#[98]⟩ ⟨#[62, 61, 118, 48, 46, 49, 46, 48]⟩ ⟨#[]⟩ X = ⟨#[118, 48, 46, 49, 46, 48]⟩ := e2
  rw [e1'] at he
  have he : x = .nilIface := he
  subst he
  rw [e2']
  have HB4 := hid (HB3.out.trans (hb.mono HB3.out.size))
  clear hK hb e1 e2 e1' e2' HP3
  go_wp2_with fail
  go_ret
  exact ⟨rfl, HB4.out⟩
end Ve
end Go.Proofs.YtnkgjddkdikikaaGreatDoor
namespace Go.Proofs.YtnkgjddkdikikaaGreatDoor
open Go.RowKit Go.Maps
namespace Ve
theorem okI_short {w : World} {v : Value} {Q : List Raw} {L : List Ent} (I : Ixs w v Q L) (h : okI L = true) : shortQ Q := fun r hr => by
  obtain ⟨j, hj, rfl⟩ := List.getElem_of_mem hr
  have hl : j < L.length := by rw [← I.ln]; exact hj
  have hm := (I.ok j hj hl).m
  have := (okI_iff h).2 L[j] (List.getElem_mem hl)
  rw [hm]
  exact ⟨by have := this.1; omega, by have := this.2.1; omega⟩
end Ve
end Go.Proofs.YtnkgjddkdikikaaGreatDoor
namespace Go.Proofs.YtnkgjddkdikikaaGreatDoor
open Go.RowKit Go.Maps
namespace Ve
theorem app_list (a b : ByteArray) : (a ++ b).data.toList = a.data.toList ++ b.data.toList := by simp
theorem app_size (a b : ByteArray) : (a ++ b).size = a.size + b.size := by simp
theorem ver_head {v : ByteArray} (h : verErr v.data.toList = 0) : ∃ r, v.data.toList = 118 :: r := by
  unfold verErr at h
  have hm : marked v.data.toList = true := by
    cases e : marked v.data.toList with
    | true => rfl
    | false => rw [if_pos (Or.inl e)] at h; cases h
  cases hl : v.data.toList with
  | nil => rw [hl] at hm; cases hm
  | cons b r =>
    rw [hl] at hm
    unfold marked at hm
    simp at hm
    exact ⟨r, by rw [hm]⟩
theorem ext_app (a b : ByteArray) : (a ++ b).extract a.size (a ++ b).size = b := by
  apply str_ext
  rw [ext_drop, app_list]
  have : a.size = a.data.toList.length := by simp
  rw [this, List.drop_left]
theorem begB_list {q h : ByteArray} {l : List UInt8} (e : q.data.toList = l) : begB q h = h.data.toList.isPrefixOf l := by unfold begB Lib.hasPrefix; rw [e]
theorem sg_lt {v : ByteArray} (h : verErr v.data.toList = 0) : sgn (⟨#[60]⟩ ++ v) = (sLt, v) := by
  obtain ⟨r, hr⟩ := ver_head h
  have e : ((⟨#[60]⟩ : ByteArray) ++ v).data.toList = 60 :: 118 :: r := by rw [app_list, hr]; rfl
  have := sgn_2 (q := ⟨#[60]⟩ ++ v) (by rw [begB_list e]; rfl) (by rw [begB_list e]; rfl) (by rw [begB_list e]; rfl)
  rw [this]
  exact Prod.ext rfl (ext_app ⟨#[60]⟩ v)
theorem sg_gt {v : ByteArray} (h : verErr v.data.toList = 0) : sgn (⟨#[62]⟩ ++ v) = (sGt, v) := by
  obtain ⟨r, hr⟩ := ver_head h
  have e : ((⟨#[62]⟩ : ByteArray) ++ v).data.toList = 62 :: 118 :: r := by rw [app_list, hr]; rfl
  have := sgn_3 (q := ⟨#[62]⟩ ++ v) (by rw [begB_list e]; rfl) (by rw [begB_list e]; rfl) (by rw [begB_list e]; rfl) (by rw [begB_list e]; rfl)
  rw [this]
  exact Prod.ext rfl (ext_app ⟨#[62]⟩ v)
theorem sg_le {v : ByteArray} (h : verErr v.data.toList = 0) : sgn (⟨#[60, 61]⟩ ++ v) = (sLe, v) := by
  obtain ⟨r, hr⟩ := ver_head h
  have e : ((⟨#[60, 61]⟩ : ByteArray) ++ v).data.toList = 60 :: 61 :: 118 :: r := by rw [app_list, hr]; rfl
  have := sgn_0 (q := ⟨#[60, 61]⟩ ++ v) (by rw [begB_list e]; rfl)
  rw [this]
  exact Prod.ext rfl (ext_app ⟨#[60, 61]⟩ v)
theorem sg_ge {v : ByteArray} (h : verErr v.data.toList = 0) : sgn (⟨#[62, 61]⟩ ++ v) = (sGe, v) := by
  obtain ⟨r, hr⟩ := ver_head h
  have e : ((⟨#[62, 61]⟩ : ByteArray) ++ v).data.toList = 62 :: 61 :: 118 :: r := by rw [app_list, hr]; rfl
  have := sgn_1 (q := ⟨#[62, 61]⟩ ++ v) (by rw [begB_list e]; rfl) (by rw [begB_list e]; rfl)
  rw [this]
  exact Prod.ext rfl (ext_app ⟨#[62, 61]⟩ v)
theorem sg_v {v : ByteArray} (h : verErr v.data.toList = 0) : sgn v = (bE, v) := by
  obtain ⟨r, hr⟩ := ver_head h
  exact sgn_4 (by rw [begB_list hr]; rfl) (by rw [begB_list hr]; rfl) (by rw [begB_list hr]; rfl) (by rw [begB_list hr]; rfl)
theorem wd_no {q : ByteArray} {c : UInt8} {r : List UInt8} (e : q.data.toList = c :: r) (hc : c = 60 ∨ c = 62 ∨ c = 118) : isWd q = false := by
  have go : ∀ (b : ByteArray) (d : UInt8) (s : List UInt8), b.data.toList = d :: s → (d ≠ 60 ∧ d ≠ 62 ∧ d ≠ 118) → decide (q = b) = false := fun b d s hb hd => decide_eq_false fun h => by
    subst h
    rw [e] at hb
    injection hb with h1 h2
    subst h1
    rcases hc with h | h | h
    · exact hd.1 h
    · exact hd.2.1 h
    · exact hd.2.2 h
  unfold isWd
  rw [go bLatest 108 _ rfl (by decide), go bUpgrade 117 _ rfl (by decide), go bPatch 112 _ rfl (by decide), go bNone 110 _ rfl (by decide)]
  rfl
structure VerQ (q sg v : ByteArray) : Prop where
  wd : isWd q = false
  sg : sgn q = (sg, v)
  er : qErr q = 0
  no : ¬ q = bNone
  up : ¬ q = bUpgrade
theorem verQ_of {q sg v : ByteArray} {c : UInt8} {r : List UInt8} (e : q.data.toList = c :: r) (hc : c = 60 ∨ c = 62 ∨ c = 118) (hs : sgn q = (sg, v)) (h : verErr v.data.toList = 0) : VerQ q sg v := by
  have hw := wd_no e hc
  have h2 := congrArg Prod.snd hs
  simp only at h2
  refine ⟨hw, hs, ?_, fun h => ?_, fun h => ?_⟩
  · rw [qErr_ver hw (Or.inr (by rw [h2, h]; decide)), h2]; exact h
  · have : isWd bNone = true := by unfold isWd; simp
    rw [h, this] at hw; cases hw
  · have : isWd bUpgrade = true := by unfold isWd; simp
    rw [h, this] at hw; cases hw
theorem vq_lt {v : ByteArray} (h : verErr v.data.toList = 0) : VerQ (⟨#[60]⟩ ++ v) sLt v := verQ_of (by rw [app_list]; rfl) (Or.inl rfl) (sg_lt h) h
theorem vq_gt {v : ByteArray} (h : verErr v.data.toList = 0) : VerQ (⟨#[62]⟩ ++ v) sGt v := verQ_of (by rw [app_list]; rfl) (Or.inr (Or.inl rfl)) (sg_gt h) h
theorem vq_le {v : ByteArray} (h : verErr v.data.toList = 0) : VerQ (⟨#[60, 61]⟩ ++ v) sLe v := verQ_of (by rw [app_list]; rfl) (Or.inl rfl) (sg_le h) h
theorem vq_ge {v : ByteArray} (h : verErr v.data.toList = 0) : VerQ (⟨#[62, 61]⟩ ++ v) sGe v := verQ_of (by rw [app_list]; rfl) (Or.inr (Or.inl rfl)) (sg_ge h) h
theorem vq_v {v : ByteArray} (h : verErr v.data.toList = 0) : VerQ v bE v := by
  obtain ⟨r, hr⟩ := ver_head h
  exact verQ_of hr (Or.inr (Or.inr rfl)) (sg_v h) h
theorem VerQ.s1 {q sg v : ByteArray} (h : VerQ q sg v) : (sgn q).1 = sg := by rw [h.sg]
theorem VerQ.s2 {q sg v : ByteArray} (h : VerQ q sg v) : (sgn q).2 = v := by rw [h.sg]
theorem VerQ.ok {q sg v now x : ByteArray} (h : VerQ q sg v) : okQ q now x = suitB q x := okQ_suit h.wd
theorem ok_lt {q v now x : ByteArray} (h : VerQ q sLt v) : okQ q now x = lessB x.data.toList v.data.toList := by rw [h.ok, suit_lt h.s1, h.s2]
theorem ok_le {q v now x : ByteArray} (h : VerQ q sLe v) : okQ q now x = !lessB v.data.toList x.data.toList := by rw [h.ok, suit_le h.s1, h.s2]
theorem ok_gt {q v now x : ByteArray} (h : VerQ q sGt v) : okQ q now x = lessB v.data.toList x.data.toList := by rw [h.ok, suit_gt h.s1, h.s2]
theorem ok_ge {q v now x : ByteArray} (h : VerQ q sGe v) : okQ q now x = !lessB x.data.toList v.data.toList := by rw [h.ok, suit_ge h.s1, h.s2]
theorem ok_v {v now x : ByteArray} (h : VerQ v bE v) (hv : verErr v.data.toList = 0) : okQ v now x = decide (x = v) := by rw [h.ok, suit_ver h.s1 hv]
theorem likG_in {Q : List Raw} {t : ByteArray} {b : Bool} {X : List ByteArray} : (X = [] ∧ likG Q t b X = bE) ∨ likG Q t b X ∈ X := by
  by_cases h0 : X.length = 0
  · have hX : X = [] := List.eq_nil_of_length_eq_zero h0
    subst hX
    refine Or.inl ⟨rfl, ?_⟩
    unfold likG
    split <;> rfl
  · refine Or.inr ?_
    unfold likG
    split
    · obtain ⟨j, hj, _, e, _⟩ := (likNL_is (Q := Q) (t := t) (X := X) X.length (Nat.le_refl _)).p (by omega)
      rw [e]; exact List.getElem_mem hj
    · obtain ⟨j, hj, _, e, _⟩ := (likN_is (Q := Q) (t := t) (X := X) X.length (Nat.le_refl _)).p (by omega)
      rw [e]; exact List.getElem_mem hj
theorem ver_neQ {x : ByteArray} (h : verErr x.data.toList = 0) : ¬ x = bE := fun e => by
  obtain ⟨r, hr⟩ := ver_head h
  rw [e] at hr; cases hr
theorem pk_look {Q : List Raw} {L : List Ent} {t q now : ByteArray} {X : List ByteArray} (hl : look Q L q) (hv : ∀ x, x ∈ X → verErr x.data.toList = 0) :
    ((∀ x, x ∈ X → okQ q now x = false) ∧ pkF Q L t q now X = (5, none) ∧ pkV Q L t q now X = bE) ∨
    (∃ x, x ∈ X ∧ okQ q now x = true ∧ pkF Q L t q now X = (0, none) ∧ pkV Q L t q now X = if q = bUpgrade then maxB x now else x) := by
  obtain ⟨h1, h2, h3⟩ := hl
  have g1 : ¬ qErr q ≠ 0 := by rw [h1]; simp
  have g2 : ¬ (chk Q L).1 ≠ 0 := by rw [h2]; simp
  rw [pkF_m g1 g2 h3, pkV_m g1 g2 h3]
  unfold pkB
  rcases likG_in (Q := Q) (t := t) (b := leastQ q) (X := someQ q now X) with ⟨e1, e2⟩ | h
  · refine Or.inl ⟨fun x hx => ?_, by rw [if_pos e2], by rw [if_pos e2]⟩
    cases e : okQ q now x with
    | false => rfl
    | true =>
      have : x ∈ someQ q now X := List.mem_filter.2 ⟨hx, e⟩
      rw [e1] at this; cases this
  · obtain ⟨m1, m2⟩ := List.mem_filter.1 h
    have hne := ver_neQ (hv _ m1)
    exact Or.inr ⟨_, m1, m2, by rw [if_neg hne], by rw [if_neg hne]⟩
end Ve
end Go.Proofs.YtnkgjddkdikikaaGreatDoor
namespace Go.Proofs.YtnkgjddkdikikaaGreatDoor
open Go.RowKit Go.Maps
namespace Ve
def VersC : Prop := ∀ (L : List Raw) (t : ByteArray) (v : Value) (aT aB : Addr) (m : Int) (w : World), L.length ≤ 1000 → shortQ L → Vs w aT aB m → Lib.TabIs Tryz.prog w powName .u64 Lib.pow10Tab → EsAt w v L →
  Calls Tryz.prog 17 #[v, .string t] w fun e w' => ∃ u, e = .returned u ∧ ∃ X, w'.ownsRow w.heap.size 9 1 u X.length (X.map Value.string) ∧ Kept (verL (ofP t L)) (verL (ofP t L)).length X ∧ Below w.heap.size w w'
theorem versC_of : VersC := fun L t v aT aB m w h1 h2 h3 h4 h5 => vers_any L t v aT aB m w h1 h2 h3 h4 h5
end Ve
end Go.Proofs.YtnkgjddkdikikaaGreatDoor
