
import Derived.Test.YtemhofbhmnnijaaGreatDoorPj25
import Derived.Test.YtemhofbhmnnijaaGreatDoorPj49
import Derived.Test.YtemhofbhmnnijaaGreatDoorPj41
namespace Go.Proofs.YtemhofbhmnnijaaGreatDoor
open Go.RowKit
namespace Ve
def Tw (A : Nat → Addr) (m : Int) (w : World) : Prop := Te w A m ∧ Er.Sen w A
theorem Tw.below {A : Nat → Addr} {m : Int} {w w' : World} (h : Tw A m w) (hb : Below w.heap.size w w') : Tw A m w' := ⟨h.1.below hb, h.2.below hb⟩
theorem match_c (A : Nat → Addr) (m : Int) : MatchC (Tw A m) := fun p s w hp hs hT => match_m m p s w hp hs hT.1.ml
theorem wild_c (A : Nat → Addr) (m : Int) : WildC (Tw A m) := fun p w hp hT => wild_m m p w hp hT.1.ml
theorem Tw.ds {A : Nat → Addr} {m : Int} {w : World} (h : Tw A m w) : Ds w A := ⟨h.2.blk 0 (by omega), h.2.blk 1 (by omega), h.2.blk 3 (by omega), h.2.inj 0 3 (by omega) (by omega) (by omega), h.2.inj 1 3 (by omega) (by omega) (by omega)⟩
theorem xs_ra (p : ByteArray) (m : Int) (w : World) (hp : p.size ≤ 100) (hm : w.cell? ⟨11, 0, none⟩ = some (.int .i64 m)) :
    Calls Tryz.prog 17 #[.string p, .string ⟨#[46, 46, 46]⟩, .string ⟨#[120]⟩] w fun e w' => ∃ S : ByteArray, e = .returned (.string S) ∧ S.data.toList = xsOf p.data.toList ∧ S.size ≤ 100 ∧ Below w.heap.size w w' := by
  have hc := Lib.countB_le ⟨#[46, 46, 46]⟩ (by decide) _ p (Nat.le_refl _)
  refine (Tryz.strings_ReplaceAll p ⟨#[46, 46, 46]⟩ ⟨#[120]⟩ m w (by omega) hm (by decide) (by
    show p.size + Lib.countB p ⟨#[46, 46, 46]⟩ * 1 ≤ _
    omega)).mono fun e w' ⟨h1, h2⟩ => ⟨_, h1, (xs_is _).symm, ?_, h2⟩
  have h3 := xs_len p.data.toList
  rw [len_eq, xs_is] at h3
  show (Lib.replaceAll p.data.toList dots [120]).toArray.size ≤ 100
  rw [List.size_toArray]; omega
set_option maxHeartbeats 1000000 in
theorem pchk_c (A : Nat → Addr) (m : Int) : PChkC (Tw A m) A := fun p w hp hT => by
  have HR := hid (xs_ra p m w hp hT.1.ml)
  have HP := hid (fun S W (hs : S.size ≤ 100) (h : Below w.heap.size w W) => lkp_any S A m W (by omega) (hT.1.below h) (hT.ds.below h))
  have HE := hid (show patE p = likeE (xsOf p.data.toList) from rfl)
  generalize patE p = pe at *
  clear hT
  go_enter Tryz.func7, Tryz.ntmps7
  go_wp2_with fail
  refine HR.out.mono ?_
  rintro e w1 ⟨S, rfl, hS, hz, hb⟩
  have HB1 := hid hb
  have HPP := hid (HP.out S w1 hz hb)
  rw [hS, ← HE.out] at HPP
  clear hS hz hb HP HR
  obtain ⟨ev, hev⟩ : ∃ ev, errA A pe = ev := ⟨_, rfl⟩
  have HEV := hid hev
  rw [hev] at HPP
  clear hev
  go_wp2_with fail
  refine HPP.out.mono ?_
  rintro e w2 ⟨rfl, hb⟩
  have HB2 := hid (HB1.out.trans (hb.mono HB1.out.size))
  clear hb
  go_wp2_with fail
  go_ret
  exact ⟨by rw [HEV.out]; rfl, HB2.out⟩
theorem owns_from {w : World} {B C : Nat} {e : TypeId} {size : Nat} {v : Value} {n : Nat} {xs : List Value} (h : w.ownsRow B e size v n xs) (hb : C ≤ B) : w.ownsRow C e size v n xs := by
  obtain ⟨hl, h | ⟨g, cap, cur, e1, e2, r⟩⟩ := h
  · exact ⟨hl, Or.inl h⟩
  · exact ⟨hl, Or.inr ⟨g, cap, cur, e1, Nat.le_trans hb e2, r⟩⟩
set_option maxHeartbeats 4000000 in
set_option maxRecDepth 100000 in
theorem some_c (A : Nat → Addr) (m : Int) : SomeC (Tw A m) := fun p X v w hp hl hs hT hx => by
  obtain ⟨i0, hi, hz0, hz1, hz2⟩ := info_parts infoStr
  have HM := hid (matcher_any p m w hp hT.1.ml)
  have HX := hid (fun W (h : Below w.heap.size w W) => hx.below h)
  have HS := hid hs
  obtain ⟨va, vc, hv, -⟩ := id hx
  subst hv
  clear hT hx hs
  go_enter Tryz.func13, Tryz.ntmps13
  go_wp2_with fail
  refine HM.out.mono ?_
  rintro e w1 ⟨f, rfl, ⟨K, cb, rfl, en, hK⟩, hb⟩
  have HB1 := hid hb
  have HK := hid hK
  clear hb hK HM
  go_wp2_with fail
  go_loopw [6, 13] (fun ov iv wr => ∃ k : Nat, k ≤ X.length ∧ iv = .int .i64 k ∧ Hid (wr.ownsRow w1.heap.size 9 1 ov ((X.take k).filter (ismB p)).length (((X.take k).filter (ismB p)).map Value.string)) ∧ Hid (Below w1.heap.size w1 wr)) (fun _ iv _ => X.length - (intOf iv).toNat)
  case atStart => exact ⟨0, Nat.zero_le _, rfl, hid (World.ownsRow_nil _ _ _ _), hid (Below.refl _ _)⟩
  case round =>
    obtain ⟨k, hk, rfl, HO, HN⟩ := hrel
    have HB := hid (HB1.out.trans (HN.out.mono HB1.out.size))
    by_cases hlt : k < X.length
    · have hkI := ix_lt hlt
      have hk0 := ix_pos k
      have HLT := hid hlt
      obtain ⟨la, lc, hla, -, hcells⟩ := HX.out _ HB.out
      obtain ⟨lb, lo, rfl, hcc⟩ := hcells (by intro h; rw [h] at hlt; simp at hlt)
      injection hla with hla1 hla2 hla3
      subst hla1
      have y0 := hcc k hlt
      have HLN := hid (show ((X.take k).filter (ismB p)).length ≤ 20 from Nat.le_trans (List.length_filter_le _ _) (by rw [List.length_take]; omega))
      have HFY := hid (fun h => flt_yes (p := p) hlt h)
      have HFN := hid (fun h => flt_no (p := p) hlt h)
      have HKX := hid (HK.out wr X[k] HN.out (HS.out _ (List.getElem_mem hlt)))
      clear hcells hcc hla2 hla3 HX
      generalize X[k] = x at *
      generalize (X.take k).filter (ismB p) = Y at *
      clear hlt
      cases hz : ismB p x
      · rw [hz] at HKX
        have HF := hid (HFN.out hz)
        clear hz HFY HFN
        go_wp2_with fail
        refine HKX.out.mono ?_
        rintro e w2 ⟨rfl, hb⟩
        have HO2 := hid (owns_below HO.out hb)
        have HN2 := hid (HN.out.trans (hb.mono HN.out.size))
        clear hb
        go_wp2_with fail
        go_roundw
        case rel => exact ⟨k + 1, HLT.out, by first | exact nr_idx k | exact nx_idx HLT.out (by omega : X.length ≤ 1000000), by rw [HF.out]; exact HO2, HN2⟩
        case measure => first | exact nr_meas HLT.out | exact nx_meas HLT.out (by omega : X.length ≤ 1000000)
      · rw [hz] at HKX
        have HF := hid (HFY.out hz)
        clear hz HFY HFN
        go_wp2_with fail
        refine HKX.out.mono ?_
        rintro e w2 ⟨rfl, hb⟩
        have HO2 := hid (owns_below HO.out hb)
        have HN2 := hid (HN.out.trans (hb.mono HN.out.size))
        clear hb
        go_wp2_with (at_builtin; refine wpList_append_own _ rfl _ _ 22 rfl w1.heap.size 9 i0 _ 1 16 Tryz.underlying22 hi hz0 hz1 hz2 rfl (by decide) _ _ _ rfl (HO2.out.alloc _) ⟨w2.heap.size, 0, none⟩ 1 1 [.string x] rfl rfl ?c1 ?c2 ?c3 ?c4 ?c5 ?_)
        case c1 => exact World.news_of_block (cs := #[.string x]) (heap_new _ _)
        case c2 => intro u hu; simp at hu; rw [hu]; rfl
        case c3 => have := HLN.out; unfold maxLen; omega
        case c4 => have := HLN.out; omega
        case c5 => have := HN2.out.size; simp; omega
        intro v' w3 hown hgrow _
        have HR3 := hid (rel_app HN2.out.size HN2.out HO2.out (Below.refl _ _) hgrow)
        have HO3 := hid hown
        clear hown hgrow
        go_wp2_with fail
        go_roundw
        case rel => exact ⟨k + 1, HLT.out, by first | exact nr_idx k | exact nx_idx HLT.out (by omega : X.length ≤ 1000000), by rw [HF.out, List.length_append, List.map_append]; exact HO3, HR3⟩
        case measure => first | exact nr_meas HLT.out | exact nx_meas HLT.out (by omega : X.length ≤ 1000000)
    · have HTR := hid (show X.take k = X from List.take_of_length_le (by omega))
      rw [HTR.out] at HO
      have hkI := ix_nlt hlt
      clear hlt
      go_wp2_with fail
      go_ret
      exact ⟨_, rfl, owns_from HO.out HB1.out.size, HB.out⟩
end Ve
end Go.Proofs.YtemhofbhmnnijaaGreatDoor
