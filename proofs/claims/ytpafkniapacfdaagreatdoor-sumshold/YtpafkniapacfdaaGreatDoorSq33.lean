
import Derived.Test.YtpafkniapacfdaaGreatDoorSq29
import Derived.Test.YtpafkniapacfdaaGreatDoorSq32
import Derived.Test.YtpafkniapacfdaaGreatDoorSq31
import Derived.Deep.RegionHeldLaw
import Derived.Deep.AppendLies
namespace Go.Proofs.YtpafkniapacfdaaGreatDoor
open Go.RowKit
namespace Ve
end Ve
end Go.Proofs.YtpafkniapacfdaaGreatDoor


namespace Go.Proofs.YtpafkniapacfdaaGreatDoor
open Go.RowKit
namespace Ve
set_option maxRecDepth 100000 in
set_option maxHeartbeats 2000000 in
theorem all_chk (Q : List Raw) (L : List Ent) (v u : Value) (A : Nat → Addr) (m : Int) (w : World) (hL : L.length ≤ 1000) (sh : ∀ e, e ∈ L → ShE e) (S : Te w A m) (I : Ixs w v Q L) (h0 : (chk Q L).1 ≠ 0) :
    Calls Tryz.prog 11 #[v, u] w fun e w' => ∃ y, e = .returned (.tuple #[.slice none 0 0, y]) ∧ ErrAt w' A y (chk Q L).1 (chk Q L).2 ∧ Below w.heap.size w w' := by
  have HIC := hid (icheck_any Q L v A m w (by omega) sh S I)
  obtain ⟨va, vc, hv1, -⟩ := id I.es
  subst hv1
  clear I S sh
  have HC := hid h0
  clear h0
  generalize chk Q L = r at *
  go_enter Tryz.func11, Tryz.ntmps11
  go_wp2_with fail
  refine HIC.out.mono ?_
  rintro e w1 ⟨x, rfl, hx, hb⟩
  obtain ⟨T', a', rfl⟩ := errAt_ifaceS hx HC.out
  have HX := hid hx
  have HB1 := hid hb
  clear hb hx
  go_wp2_with fail
  go_ret2
  exact ⟨_, rfl, HX.out, HB1.out⟩
set_option maxRecDepth 100000 in
set_option maxHeartbeats 2000000 in
theorem all_sel (Q : List Raw) (L : List Ent) (sel : List Bm) (v u : Value) (A : Nat → Addr) (m : Int) (w : World) (hL : L.length ≤ 1000) (hR : sel.length ≤ 1000) (sh : ∀ e, e ∈ L → ShE e) (S : Te w A m) (I : Ixs w v Q L) (hu : MsAt w u sel)
    (h0 : (chk Q L).1 = 0) (h1 : codeE (nonE Q sel) sel.length ≠ 0) :
    Calls Tryz.prog 11 #[v, u] w fun e w' => ∃ y, e = .returned (.tuple #[.slice none 0 0, y]) ∧ ErrAt w' A y (codeE (nonE Q sel) sel.length) (fstE (nonE Q sel) sel.length) ∧ Below w.heap.size w w' := by
  have HIC := hid (icheck_any Q L v A m w (by omega) sh S I)
  have HCM := hid (fun W (h : Below w.heap.size w W) => cmods_any Q sel v u A m W (by rw [I.ln]; omega) (by omega) (S.below h) (I.es.below h) (hu.below h))
  rw [h0] at HIC
  obtain ⟨va, vc, hv1, -⟩ := id I.es
  subst hv1
  obtain ⟨ua, uc, hu1, -⟩ := id hu
  subst hu1
  clear I hu S sh h0 hL
  have HC := hid h1
  clear h1
  generalize codeE (nonE Q sel) sel.length = c at *
  generalize fstE (nonE Q sel) sel.length = o at *
  go_enter Tryz.func11, Tryz.ntmps11
  go_wp2_with fail
  refine HIC.out.mono ?_
  rintro e w1 ⟨x, rfl, hx, hb⟩
  obtain rfl := errAt_nilS hx
  have HB1 := hid hb
  clear hb hx
  go_wp2_with fail
  refine (HCM.out _ HB1.out).mono ?_
  rintro e w2 ⟨x, rfl, hx, hb⟩
  obtain ⟨T', a', rfl⟩ := errAt_ifaceS hx HC.out
  have HX := hid hx
  have HB2 := hid (HB1.out.trans (hb.mono HB1.out.size))
  clear hb hx
  go_wp2_with fail
  go_ret2
  exact ⟨_, rfl, HX.out, HB2.out⟩
theorem chkG_fine {Q : List Raw} {L : List Ent} {sel : List Bm} (h : (chkG Q L sel).1 = 0) : (chkG Q L sel).2 = none := by
  by_cases h0 : (chk Q L).1 = 0
  · rw [chkG_ok h0] at h ⊢; exact codeG_fine h
  · rw [chkG_bad h0] at h; exact absurd h h0
theorem all_any (Q : List Raw) (L : List Ent) (sel : List Bm) (v u : Value) (A : Nat → Addr) (m : Int) (w : World) (hL : L.length ≤ 1000) (hR : sel.length ≤ 1000) (sh : ∀ e, e ∈ L → ShE e) (ok : ∀ e, e ∈ L → OkE e) (S : Te w A m) (I : Ixs w v Q L) (hu : MsAt w u sel) :
    Calls Tryz.prog 11 #[v, u] w fun e w' => ∃ x y, e = .returned (.tuple #[x, y]) ∧ w'.ownsRow w.heap.size 44 3 x (allX Q L sel).length (flatN .u32 (allX Q L sel)) ∧ ErrAt w' A y (chkG Q L sel).1 (chkG Q L sel).2 ∧ Below w.heap.size w w' := by
  by_cases h0 : (chk Q L).1 = 0
  · by_cases h1 : codeE (nonE Q sel) sel.length = 0
    · have h2 : (chkG Q L sel).1 = 0 := by rw [chkG_ok h0]; exact h1
      have hx : allX Q L sel = sumL Q L sel := by unfold allX; rw [if_pos h2]
      rw [hx, h2, chkG_fine h2]
      exact (all_good Q L sel v u A m w hL hR sh ok S I hu h0 h1).mono fun e w' ⟨x, e1, e2, e3⟩ => ⟨x, _, e1, e2, rfl, e3⟩
    · have hx : allX Q L sel = [] := by unfold allX; rw [if_neg (by rw [chkG_ok h0]; exact h1)]
      rw [hx, chkG_ok h0]
      exact (all_sel Q L sel v u A m w hL hR sh S I hu h0 h1).mono fun e w' ⟨y, e1, e2, e3⟩ => ⟨_, y, e1, World.ownsRow_nil _ _ _ _, e2, e3⟩
  · have hx : allX Q L sel = [] := by unfold allX; rw [if_neg (by rw [chkG_bad h0]; exact h0)]
    rw [hx, chkG_bad h0]
    exact (all_chk Q L v u A m w hL sh S I h0).mono fun e w' ⟨y, e1, e2, e3⟩ => ⟨_, y, e1, World.ownsRow_nil _ _ _ _, e2, e3⟩
end Ve
end Go.Proofs.YtpafkniapacfdaaGreatDoor


namespace Go.Proofs.YtpafkniapacfdaaGreatDoor
open Go.RowKit
namespace Ve
theorem rdF_fine {T : List (List UInt8)} (h0 : ∀ j, j < T.length → lnEr T j = 0) : rdF T = (0, none) := by
  have hf := fstE_none h0
  unfold rdF
  rw [codeE_none hf, hf]
end Ve
end Go.Proofs.YtpafkniapacfdaaGreatDoor


namespace Go.Proofs.YtpafkniapacfdaaGreatDoor
open Go.RowKit Go.Maps
namespace Ve
end Ve
end Go.Proofs.YtpafkniapacfdaaGreatDoor
