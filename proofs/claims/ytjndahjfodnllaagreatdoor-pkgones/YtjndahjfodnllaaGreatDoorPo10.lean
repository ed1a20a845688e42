
import Derived.Test.YtjndahjfodnllaaGreatDoorPo9
import Derived.Test.YtjndahjfodnllaaGreatDoorCode
import Derived.Test.YtjndahjfodnllaaGreatDoorTe
import Derived.Test.YtjndahjfodnllaaGreatDoorPo8
import Derived.Test.YtjndahjfodnllaaGreatDoorPo1
import Derived.Test.YtjndahjfodnllaaGreatDoorPo4
import Derived.Test.YtjndahjfodnllaaGreatDoorPo6
import Derived.Test.YtjndahjfodnllaaGreatDoorPo7
import Derived.Deep.SlicePairs
import Derived.Lib.SmallJoins
import Derived.SliceStrings
import Derived.ProofKit
import Derived.LaidMore
import Derived.Lay
import Derived.Stop.Joined
import Derived.HandedShaped
import Derived.LaidLaws
import Derived.Below
import Derived.Test.YtjndahjfodnllaaGreatDoorRows
import Derived.LaidHandle
import Derived.Stop.LaidTwo
import Derived.Shelf.Vars
import Derived.Carry
namespace Go.Proofs.YtjndahjfodnllaaGreatDoor
open Go.RowKit Go.Maps
namespace Ve
def bAX : ByteArray := ⟨#[97, 47, 120]⟩
theorem s3_slF (g : Nat) : slF (s3Q g) [qa0] = (0, none) := Prod.ext (show codeE (nonE (s3Q g) [qa0]) 1 = 0 by kernel_rfl) (show fstE (nonE (s3Q g) [qa0]) 1 = none by kernel_rfl)
theorem s3_bst (g : Nat) : bstN (s3Q g) s3L bAX [qa0] 1 = qa0 := by kernel_rfl
theorem s3_path : pathErr bAX.data.toList = 0 := by kernel_rfl
theorem s3_ofF (g : Nat) : ofF (s3Q g) s3L [qa0] bAX = (0, none) := by
  unfold ofF
  rw [s3_chk, if_neg (by simp), s3_path, if_neg (by simp), s3_slF, if_neg (by simp)]
  show (if (bstN (s3Q g) s3L bAX [qa0] 1).1.size = 0 then (5, none) else (0, none)) = ((0, none) : Nat × Option Nat)
  rw [s3_bst, if_neg (by decide)]
theorem s3_ofM (g : Nat) : ofM (s3Q g) s3L [qa0] bAX = qa0 := by
  unfold ofM
  rw [s3_ofF, if_pos rfl]
  exact s3_bst g
theorem s3_shQ (g : Nat) : shQ (s3Q g) := fun r hr => by
  have : r.1 = qa0 ∨ r.1 = qa1 ∨ r.1 = qb0 ∨ r.1 = qb1 := by
    have h := List.mem_map_of_mem (f := fun r : Raw => r.1) hr
    simpa [s3Q] using h
  rcases this with h | h | h | h <;> rw [h] <;> exact ⟨by decide, by decide⟩
end Ve
end Go.Proofs.YtjndahjfodnllaaGreatDoor


namespace Go.Proofs.YtjndahjfodnllaaGreatDoor
open Go.RowKit
namespace Ve
end Ve
end Go.Proofs.YtjndahjfodnllaaGreatDoor


namespace Go.Proofs.YtjndahjfodnllaaGreatDoor
open Go.RowKit Go.Maps
namespace Ve
end Ve
end Go.Proofs.YtjndahjfodnllaaGreatDoor


namespace Go.Proofs.YtjndahjfodnllaaGreatDoor
open Go.RowKit Go.Maps
namespace Ve
set_option maxRecDepth 100000 in
set_option maxHeartbeats 2000000 in
theorem packed_any {T : World → Prop} (OC : OfC T) (KT : StayK T) (A : Nat → Addr) (m : Int) (w : World) (S : Te w A m) (hT : T w) :
    Calls Tryz.prog 6 #[] w fun e w' => e = .returned (.bool true) ∧ Below w.heap.size w w' := by
  have HSM := hid (fun W => small3_any W)
  have HS := hid (fun W (h : Below w.heap.size w W) => S.below h)
  have HT := hid (fun W (h : Below w.heap.size w W) => KT w W hT h)
  have HOC := hid OC
  clear S OC KT hT
  go_enter Tryz.func6, Tryz.ntmps6
  go_wp2_with fail
  refine (HSM.out w).mono ?_
  rintro e w1 ⟨g, q, rfl, hix, hb⟩
  have HB1 := hid hb
  have HIX := hid hix
  clear hb hix
  have HB2 := hid (HB1.out.alloc HB1.out.size (.cells #[.string ⟨#[97]⟩, .string ⟨#[118, 49, 46, 48, 46, 48]⟩] 38))
  have HN2 := hid ((Below.refl w1.heap.size w1).alloc (Nat.le_refl _) (.cells #[.string ⟨#[97]⟩, .string ⟨#[118, 49, 46, 48, 46, 48]⟩] 38))
  have HMS := hid (show MsAt (w1.alloc (.cells #[.string ⟨#[97]⟩, .string ⟨#[118, 49, 46, 48, 46, 48]⟩] 38)) (.slice (some ⟨w1.heap.size, 0, none⟩) 1 1) [qa0] from
    ⟨some ⟨w1.heap.size, 0, none⟩, 1, rfl, Nat.le_refl _, fun _ => ⟨w1.heap.size, 0, rfl, fun j hj => by
      have : j = 0 := by simp at hj; omega
      subst this
      exact ⟨by simp; rfl, by simp; rfl⟩⟩⟩)
  have HO := hid (HOC.out (s3Q g) s3L [qa0] bAX _ _ A m _ (by decide) s3_sh (s3_shQ g) (by decide) (Nat.le_trans (hv_all _ _ _ _) (by decide)) (by decide) (HS.out _ HB2.out) (HT.out _ HB2.out) (HIX.out.below HN2.out) HMS.out)
  rw [s3_ofM, s3_ofF] at HO
  go_wp2_with fail
  refine HO.out.mono ?_
  rintro e w2 ⟨x, rfl, hx, hb⟩
  have HB3 := hid (HB2.out.trans (hb.mono HB2.out.size))
  rcases hx.kind with ⟨-, rfl⟩ | ⟨h0, -⟩
  · clear hb hx
    have hq : (qa0.2.toList == [118, 49, 46, 48, 46, 48]) = true := by rw [ByteArray.toList_eq]; rfl
    go_wp2_with fail
    go_ret
    exact ⟨rfl, HB3.out.alloc HB3.out.size _⟩
  · exact absurd rfl h0
theorem str_rf (a : ByteArray) : (a.toList == a.toList) = true := beq_self_eq_true _
theorem ixs_shQ {w : World} {v : Value} {Q : List Raw} {L : List Ent} (I : Ixs w v Q L) (h : okI L = true) : shQ Q := ixs_sz I h
theorem pk_len {Q : List Raw} {L : List Ent} (sh : ∀ e, e ∈ L → ShE e) (m : Bm) : (pkOf Q L m).length ≤ 1000 := by
  unfold pkOf
  rw [packL_len]
  unfold entOf
  cases h : L[(idxOf (isM m) Q).toNat]? with
  | none => exact Nat.zero_le _
  | some e => exact (sh e (List.mem_of_getElem? h)).pn
theorem pkf_len {Q : List Raw} {L : List Ent} (sh : ∀ e, e ∈ L → ShE e) : ∀ R : List Bm, (R.flatMap (pkOf Q L)).length ≤ R.length * 1000
  | [] => Nat.zero_le _
  | m :: R => by
    have h1 := pk_len (Q := Q) sh m
    have h2 := pkf_len (Q := Q) sh R
    rw [List.flatMap_cons, List.length_append, List.length_cons]; omega
theorem al_len {Q : List Raw} {L : List Ent} {R : List Bm} (sh : ∀ e, e ∈ L → ShE e) (hR : R.length ≤ 1000) : (alX Q L R).length ≤ 1000000 := by
  unfold alX
  split
  · have h1 := pkf_len (Q := Q) sh R
    have h2 := fold_len (Z := R.flatMap (pkOf Q L)) (X := [])
    unfold alN
    simp only [List.length_nil] at h2
    omega
  · exact Nat.zero_le _
end Ve
end Go.Proofs.YtjndahjfodnllaaGreatDoor


namespace Go.Proofs.YtjndahjfodnllaaGreatDoor
open Go.RowKit Go.Maps
namespace Ve
theorem al_one {Q : List Raw} {L : List Ent} {x : Bm} (sh : ∀ e, e ∈ L → ShE e) : (alN Q L [x]).length ≤ 1000000 := by
  have h1 := pkf_len (Q := Q) sh [x]
  have h2 := fold_len (Z := [x].flatMap (pkOf Q L)) (X := [])
  unfold alN
  simp only [List.length_nil, List.length_cons] at h1 h2
  omega
theorem hasB_next {E : List Bm} {k : Nat} (h : k < E.length) (m : Bm) : hasB (E.take (k + 1)) m = (hasB (E.take k) m || decide (m.1 = E[k].1 ∧ m.2 = E[k].2)) := by
  unfold hasB
  rw [List.take_succ_eq_append_getElem h, List.any_append]; simp
end Ve
end Go.Proofs.YtjndahjfodnllaaGreatDoor


namespace Go.Proofs.YtjndahjfodnllaaGreatDoor
open Go.RowKit Go.Maps
namespace Ve
def PathC : Prop := ∀ (s : ByteArray) (A : Nat → Addr) (m : Int) (w : World), s.size ≤ 1000000 → Te w A m → Calls Tryz.prog 13 #[.string s] w fun e w' => e = .returned (errA A (pathErr s.data.toList)) ∧ Below w.heap.size w w'
theorem al_size {Q : List Raw} {L : List Ent} {E : List Bm} (hz : ∀ e, e ∈ L → e.1.1.size ≤ 70 ∧ e.1.2.size ≤ 60 ∧ e.2.1.length ≤ 25 ∧ (∀ m, m ∈ e.2.1 → m.1.size ≤ 70 ∧ m.2.size ≤ 60) ∧ e.2.2.1.length ≤ 15 ∧ ∀ x, x ∈ e.2.2.1 → x.size ≤ 70) {s : ByteArray} (hs : s ∈ alN Q L E) : s.size ≤ 1000 := by
  obtain ⟨m, _, hp⟩ := alN_mem.1 hs
  unfold pkOf packL at hp
  obtain ⟨x, hx, rfl⟩ := List.mem_map.1 hp
  unfold entOf at hx ⊢
  cases h : L[(idxOf (isM m) Q).toNat]? with
  | none => rw [h] at hx; cases hx
  | some e =>
    rw [h] at hx
    have he := hz e (List.mem_of_getElem? h)
    have h1 := he.2.2.2.2.2 x hx
    have h2 := he.1
    show (packT e.1.1 x).size ≤ 1000
    unfold packT
    split
    · omega
    · rw [ByteArray.size_append, ByteArray.size_append]
      show e.1.1.size + 1 + x.size ≤ 1000
      omega
theorem ms_capP {w : World} {a : Option Addr} {n c : Nat} {L : List Bm} (h : MsAt w (.slice a n c) L) : L.length ≤ c := by
  obtain ⟨a', c', e, hc, -⟩ := h
  injection e with _ _ e3
  rw [e3]; exact hc
theorem ms_oneP {w : World} {b o n c : Nat} {L : List Bm} (h : MsAt w (.slice (some ⟨b, o, none⟩) n c) L) {k : Nat} (hk : k < L.length) : MsAt w (.slice (some ⟨b, o + k * 2, none⟩) 1 (c - k)) [L[k]] := by
  have hc := ms_capP h
  obtain ⟨b', o', e, h1, h2⟩ := h.cells hk
  injection e with e
  injection e with e1 e2
  subst e1 e2
  refine ⟨_, _, rfl, by show 1 ≤ c - k; omega, fun _ => ⟨b, o + k * 2, rfl, fun j hj => ?_⟩⟩
  have : j = 0 := by simp at hj; omega
  subst this
  exact ⟨by simpa using h1, by simpa using h2⟩
set_option maxRecDepth 100000 in
set_option maxHeartbeats 16000000 in
theorem po_main {T : World → Prop} (OC : OfC T) (AC : AllC T) (PC : PathC) (KT : StayK T) (Q0 : List Raw) (L : List Ent) (R : List Bm) (v rv : Value) (A : Nat → Addr) (m : Int) (w : World) (S : Te w A m) (hT : T w) (I : Ixs w v Q0 L) (em : EmI Q0 L) (hr : MsAt w rv R) (hem : Em rv R) (hok : okI L = true) (hl30 : L.length ≤ 30) (hokR : okLN 15 R = true) :
    Calls Tryz.prog 3 #[v, rv] w fun e w' => e = .returned (.bool true) ∧ Below w.heap.size w w' := by
  have hR15 := (okLN_iff hokR).1
  have hq30 : Q0.length ≤ 30 := by rw [I.ln]; exact hl30
  have g2 : ¬ (30 : Int) < (Q0.length : Int) := by omega
  have HIN := hid (packed_any OC KT A m w S hT)
  have HLO := hid (fun W (h : Below w.heap.size w W) => longI_any Q0 L v W (I.below h))
  rw [if_pos hok] at HLO
  have HLM := hid (fun W (h : Below w.heap.size w W) => longN_any 15 (by decide) R rv W (hr.below h))
  rw [if_pos hokR] at HLM
  have HOW := hid (fun W (h : Below w.heap.size w W) => ownI_any Q0 L v W (by omega) (I.below h) em (okI_fits hok))
  have HOM := hid (fun W (h : Below w.heap.size w W) => ownM_any rv R W (by omega) (hr.below h) hem)
  have HBU := hid (fun Q u ru W (h : Below w.heap.size w W) (J : Ixs W u Q L) (hm : MsAt W ru R) => build_all Q L R u ru A m W (by omega) (by omega) (okI_sh hok) (S.below h) J hm)
  have HPA := hid (fun Q u E ru W (h : Below w.heap.size w W) (hE : E.length ≤ 1000) (J : Ixs W u Q L) (hm : MsAt W ru E) => AC Q L E u ru A m W (by omega) (okI_sh hok) (ixs_shQ J hok) hE (S.below h) (KT w W hT h) J hm)
  have HPO := hid (fun Q u E ru p W (h : Below w.heap.size w W) (hE : E.length ≤ 1000) (hf : (hvL Q L E p).length ≤ 19) (hp : p.size ≤ 1000) (J : Ixs W u Q L) (hm : MsAt W ru E) => OC Q L E p u ru A m W (by omega) (okI_sh hok) (ixs_shQ J hok) hE hf hp (S.below h) (KT w W hT h) J hm)
  have HPC := hid (fun s W (h : Below w.heap.size w W) (hs : s.size ≤ 1000) => PC s A m W (by omega) (S.below h))
  have HSZ := hid (okI_iff hok).2
  have HSH := hid (okI_sh hok)
  obtain ⟨a0, c0, hv0, -⟩ := id I.es
  subst hv0
  obtain ⟨ra, rc, hrv, -⟩ := id hr
  subst hrv
  clear S I em hr hem hok hokR OC AC PC KT hT
  go_enter Tryz.func3, Tryz.ntmps3
  go_wp2_with fail
  refine HIN.out.mono ?_
  rintro e w1 ⟨rfl, hb⟩
  have HB1 := hid hb
  clear hb HIN
  go_wp2_with fail
  refine (HLO.out w1 HB1.out).mono ?_
  rintro e w2 ⟨rfl, hb⟩
  have HB2 := hid (HB1.out.trans (hb.mono HB1.out.size))
  clear hb HLO HB1
  go_wp2_with fail
  refine (HLM.out w2 HB2.out).mono ?_
  rintro e w3 ⟨rfl, rfl⟩
  clear HLM
  go_wp2_with fail
  refine (HOW.out w3 HB2.out).mono ?_
  rintro e w4 ⟨ou, Q, rfl, hO, hb⟩
  have HB4 := hid (HB2.out.trans (hb.mono HB2.out.size))
  have HJ4 := hid hO.ixs
  obtain ⟨oa, oc, hou, -⟩ := id hO.ixs.es
  subst hou
  clear hb hO HOW HB2
  go_wp2_with fail
  refine (HOM.out w4 HB4.out).mono ?_
  rintro e w5 ⟨ru, rfl, hown, -, hb⟩
  have HB5 := hid (HB4.out.trans (hb.mono HB4.out.size))
  have HJ5 := hid (HJ4.out.below hb)
  have HP5 := hid (HBU.out Q _ ru w5 HB5.out HJ5.out (own_ms hown))
  obtain ⟨ua, un, uc, hru⟩ := own_sl hown
  subst hru
  clear hb hown HBU HJ4 HB4 HOM
  go_wp2_with fail
  refine HP5.out.mono ?_
  rintro e w6 ⟨sa, sc, x, rfl, hM, he⟩
  have HB6 := hid (HB5.out.trans (hM.1.mono HB5.out.size))
  have HJ6 := hid (HJ5.out.below hM.1)
  have HM6 := hid hM.ms
  clear HP5 HJ5 HB5
  by_cases hg : (chkG Q L R).1 = 0
  · rw [rF_good hg] at he
    have hU : ∀ m, m ∈ bX Q L R → m ∈ univ L := bX_univ
    have hc := chkG_chk hg
    have HAF := hid (alF_ok HJ6.out hc hU)
    have HAX := hid (alX_ok HJ6.out hc hU)
    have hEl : (bX Q L R).length ≤ 30 := Nat.le_trans bX_len hl30
    have HU := hid hU
    have HFW := hid (fun s => hv_few HJ6.out hc hU (rising_nd (bX_jn Q L R).ri) s)
    have HC := hid hc
    have HA6 := hid (HPA.out Q _ (bX Q L R) _ w6 HB6.out (by omega) HJ6.out HM6.out)
    rw [HAF.out, HAX.out] at HA6
    rcases he.kind with ⟨-, rfl⟩ | ⟨h0, -⟩
    · clear he hM hg hU hc
      generalize bX Q L R = E at *
      go_wp2_with fail
      refine HA6.out.mono ?_
      rintro e w7 ⟨xv, y, rfl, hx, he, hb⟩
      have HB7 := hid (HB6.out.trans (hb.mono HB6.out.size))
      have HJ7 := hid (HJ6.out.below hb)
      have HM7 := hid (HM6.out.below hb)
      have HX7 := hid hx
      obtain ⟨xa, xc, hx1, -⟩ := hx
      subst hx1
      rcases he.kind with ⟨-, rfl⟩ | ⟨h0, -⟩
      · clear he hb HA6 HB6 HJ6 HM6
        have HXS := hid (show ∀ s, s ∈ alN Q L E → s.size ≤ 1000 from fun s hs => al_size HSZ.out hs)
        have HXL := hid (show (alN Q L E).length ≤ 1000000 by rw [← HAX.out]; exact al_len HSH.out (by omega))
        have HOK := hid (fun s (hs : s ∈ alN Q L E) hp => of_ok HJ7.out HC.out HU.out hs hp)
        have HIS := hid (fun s (h : (ofF Q L E s).1 = 0) => of_is h)
        have HPR := hid (fun m (hm : m ∈ univ L) s (hs : s ∈ pkOf Q L m) => pack_pre HJ7.out hm hs)
        have HOX := hid (fun m (hm : m ∈ univ L) => And.intro (alF_ok HJ7.out HC.out (R := [m]) (fun x hx => by rw [List.mem_singleton.1 hx]; exact hm)) (alX_ok HJ7.out HC.out (R := [m]) (fun x hx => by rw [List.mem_singleton.1 hx]; exact hm)))
        generalize hXX : alN Q L E = XX at *
        clear hXX
        have hXl := HXL.out
        go_wp2_with fail
        go_loopw [10] (fun iv wr => ∃ i : Nat, i ≤ XX.length ∧ iv = .int .i64 i ∧ Hid (Below w7.heap.size w7 wr)) (fun iv _ => XX.length - (intOf iv).toNat)
        case atStart => exact ⟨0, Nat.zero_le _, rfl, hid (Below.refl _ _)⟩
        case round =>
          obtain ⟨i, hi9, rfl, HBR⟩ := hrel
          by_cases hlt : i < XX.length
          · have hiI := ix_lt hlt
            have hi0 := ix_pos i
            have HLT := hid hlt
            obtain ⟨xb, xo, hxa, y0⟩ := tx_cellK HX7.out hlt
            subst hxa
            have HYW := hid (fun W (h : Below w7.heap.size w7 W) => cell_below h y0)
            have HBW := hid (fun W (h : Below w7.heap.size w7 W) => HB7.out.trans (h.mono HB7.out.size))
            have HSS := hid (HXS.out _ (List.getElem_mem hlt))
            have HPT := hid (fun W (h : Below w7.heap.size w7 W) => HPC.out XX[i] W (HBW.out W h) HSS.out)
            have HOF := hid (fun W (h : Below w7.heap.size w7 W) => HPO.out Q _ E _ XX[i] W (HBW.out W h) (by omega) (HFW.out XX[i]) HSS.out (HJ7.out.below h) (HM7.out.below h))
            have HOK1 := hid (HOK.out XX[i] (List.getElem_mem hlt))
            have HIS1 := hid (HIS.out XX[i])
            clear y0
            have y0 := HYW.out _ HBR.out
            generalize XX[i] = s at *
            obtain ⟨wo, hwo⟩ : ∃ wo, wo = wr := ⟨_, rfl⟩
            subst hwo
            clear hlt
            obtain ⟨pe, hpe⟩ : ∃ pe, errA A (pathErr s.data.toList) = pe := ⟨_, rfl⟩
            have HPE := hid hpe
            rw [hpe] at HPT
            clear hpe
            go_wp2_with fail
            refine (HPT.out _ HBR.out).mono ?_
            rintro e w9 ⟨rfl, hb⟩
            have HB9 := hid (HBR.out.trans (hb.mono HBR.out.size))
            clear hb y0
            have y0 := HYW.out _ HB9.out
            go_wp2_with fail
            refine (HOF.out _ HB9.out).mono ?_
            rintro e w10 ⟨x, rfl, he, hb⟩
            have HB10 := hid (HB9.out.trans (hb.mono HB9.out.size))
            clear hb y0
            obtain ⟨M, hM⟩ : ∃ M, ofM Q L E s = M := ⟨_, rfl⟩
            rw [hM] at HIS1 ⊢
            clear hM
            obtain ⟨M1, M2⟩ := M
            have HBA := hid (HB10.out.alloc HB10.out.size (.cells #[.string M1, .string M2] 38))
            have HMB := hid (heap_new w10 (.cells #[.string M1, .string M2] 38))
            by_cases hf : (ofF Q L E s).1 = 0
            · rcases he.kind with ⟨-, rfl⟩ | ⟨h0, -⟩
              · have HI1 := hid (HIS1.out hf)
                clear he hf
                go_wp2_with fail
                generalize w10.alloc (.cells #[.string M1, .string M2] 38) = w11 at *
                have HNW := hid (fun W (h : Below w11.heap.size w11 W) => HBA.out.trans (h.mono HBA.out.size))
                have HSC := hid (ms_capP HM7.out)
                go_loopw [14, 15] (fun bv kv wr => ∃ k : Nat, k ≤ E.length ∧ kv = .int .i64 k ∧ bv = .bool (hasB (E.take k) (M1, M2)) ∧ Hid (Below w11.heap.size w11 wr)) (fun _ kv _ => E.length - (intOf kv).toNat)
                case atStart => exact ⟨0, Nat.zero_le _, rfl, rfl, hid (Below.refl _ _)⟩
                case round =>
                  obtain ⟨k, hk9, rfl, rfl, HBK⟩ := hrel
                  by_cases hlk : k < E.length
                  · have hkI := ix_lt hlk
                    have hk0 := ix_pos k
                    have HLK := hid hlk
                    have hsc := HSC.out
                    have hkp := ix_pos1 k
                    have hkc : (k : Int) + 1 ≤ (sc : Int) := by omega
                    have hkw := ix_w1 hlk (by omega : E.length ≤ 1000000)
                    have hkk := ix_k1 hlk (by omega : E.length ≤ 1000000)
                    have hkn := ix_nat1 k
                    have hks : ¬ sc = k := by omega
                    have hks2 : ¬ sc - k = 0 := by omega
                    obtain ⟨sb, so, hsa, y0, y1⟩ := HM7.out.cells hlk
                    subst hsa
                    have HCK := hid (fun W (h : Below w11.heap.size w11 W) => And.intro (cell_below (HNW.out W h) y0) (And.intro (cell_below (HNW.out W h) y1) (bx2 ((h.block _ (lt_of_blk HMB.out)).trans HMB.out))))
                    have HHN := hid (hasB_next hlk (M1, M2))
                    have HUK := hid (HU.out _ (List.getElem_mem hlk))
                    have HI2 := hid (HI1.out.2.2 _ (List.getElem_mem hlk))
                    have HI3 := hid HI1.out.2.1
                    have HMK := hid (fun W (h : Below w11.heap.size w11 W) => ms_oneP (HM7.out.below (HNW.out W h)) hlk)
                    clear y0 y1
                    obtain ⟨z0, z1, d0, d1, df⟩ := HCK.out _ HBK.out
                    generalize E[k] = x at *
                    obtain ⟨x1, x2'⟩ := x
                    generalize hasB (E.take k) (M1, M2) = hb0 at *
                    clear hlk
                    by_cases heq : x1 = M1 ∧ x2' = M2
                    · obtain ⟨rfl, rfl⟩ := heq
                      have hs1 := str_rf x1
                      have hs2 := str_rf x2'
                      rw [show decide ((x1, x2').1 = x1 ∧ (x1, x2').2 = x2') = true from decide_eq_true ⟨rfl, rfl⟩, Bool.or_true] at HHN
                      cases hb0
                      · go_wp2_with fail
                        go_quiet (fail)
                        have HBq := hid (HBK.out.trans ((below_drawn wr nq).mono HBK.out.size))
                        generalize wr.drewN nq = wq at *
                        clear z0 z1 d0 d1 df
                        have HA := hid (HPA.out Q _ [(x1, x2')] _ wq (HBW.out _ (HNW.out _ HBq.out)) (by simp) (HJ7.out.below (HNW.out _ HBq.out)) (HMK.out _ HBq.out))
                        rw [(HOX.out _ HUK.out).1, (HOX.out _ HUK.out).2] at HA
                        obtain ⟨z0, z1, d0, d1, df⟩ := HCK.out _ HBq.out
                        go_wp2_with fail
                        refine HA.out.mono ?_
                        rintro e wa ⟨ov, y, rfl, ho, he, hb⟩
                        have HBa := hid (HBq.out.trans (hb.mono HBq.out.size))
                        have hy : y = .nilIface := by
                          rcases he.kind with ⟨-, h0⟩ | ⟨h0, -⟩
                          · exact h0
                          · exact absurd rfl h0
                        subst hy
                        have HIT := hid (inT_any s _ ov wa (al_one HSH.out) ho)
                        obtain ⟨oa', oc', ho1, -⟩ := ho
                        subst ho1
                        clear he hb z0 z1 d0 d1 df HA
                        obtain ⟨z0, z1, d0, d1, df⟩ := HCK.out _ HBa.out
                        have q0 := HYW.out _ (HNW.out _ HBa.out)
                        have hin : inB s (alN Q L [(x1, x2')]) = true := inB_iff.2 (alN_one.2 HI3.out)
                        rw [hin] at HIT
                        clear hin
                        have hgt : ¬ (x1.size : Int) < (x1.size : Int) := by omega
                        have hgd : decide ((x1.size : Int) < (x1.size : Int)) = false := decide_eq_false hgt
                        have hgn : decide (x1.size < x1.size) = false := decide_eq_false (by omega)
                        go_wp2_with fail
                        refine HIT.out.mono ?_
                        rintro e wb ⟨rfl, rfl⟩
                        go_wp2_with fail
                        go_quiet (fail)
                        have HBz := hid (HBa.out.trans ((below_drawn _ nq).mono HBa.out.size))
                        go_wp2_with fail
                        go_roundw
                        case rel => exact ⟨k + 1, HLK.out, by first | exact nr_idx k | exact nx_idx HLK.out (by omega : E.length ≤ 1000000), by rw [HHN.out], HBz⟩
                        case measure => first | exact nr_meas HLK.out | exact nx_meas HLK.out (by omega : E.length ≤ 1000000)
                      · go_wp2_with fail
                        go_quiet (fail)
                        have HBq := hid (HBK.out.trans ((below_drawn wr nq).mono HBK.out.size))
                        generalize wr.drewN nq = wq at *
                        clear z0 z1 d0 d1 df
                        have HA := hid (HPA.out Q _ [(x1, x2')] _ wq (HBW.out _ (HNW.out _ HBq.out)) (by simp) (HJ7.out.below (HNW.out _ HBq.out)) (HMK.out _ HBq.out))
                        rw [(HOX.out _ HUK.out).1, (HOX.out _ HUK.out).2] at HA
                        obtain ⟨z0, z1, d0, d1, df⟩ := HCK.out _ HBq.out
                        go_wp2_with fail
                        refine HA.out.mono ?_
                        rintro e wa ⟨ov, y, rfl, ho, he, hb⟩
                        have HBa := hid (HBq.out.trans (hb.mono HBq.out.size))
                        have hy : y = .nilIface := by
                          rcases he.kind with ⟨-, h0⟩ | ⟨h0, -⟩
                          · exact h0
                          · exact absurd rfl h0
                        subst hy
                        have HIT := hid (inT_any s _ ov wa (al_one HSH.out) ho)
                        obtain ⟨oa', oc', ho1, -⟩ := ho
                        subst ho1
                        clear he hb z0 z1 d0 d1 df HA
                        obtain ⟨z0, z1, d0, d1, df⟩ := HCK.out _ HBa.out
                        have q0 := HYW.out _ (HNW.out _ HBa.out)
                        have hin : inB s (alN Q L [(x1, x2')]) = true := inB_iff.2 (alN_one.2 HI3.out)
                        rw [hin] at HIT
                        clear hin
                        have hgt : ¬ (x1.size : Int) < (x1.size : Int) := by omega
                        have hgd : decide ((x1.size : Int) < (x1.size : Int)) = false := decide_eq_false hgt
                        have hgn : decide (x1.size < x1.size) = false := decide_eq_false (by omega)
                        go_wp2_with fail
                        refine HIT.out.mono ?_
                        rintro e wb ⟨rfl, rfl⟩
                        go_wp2_with fail
                        go_quiet (fail)
                        have HBz := hid (HBa.out.trans ((below_drawn _ nq).mono HBa.out.size))
                        go_wp2_with fail
                        go_roundw
                        case rel => exact ⟨k + 1, HLK.out, by first | exact nr_idx k | exact nx_idx HLK.out (by omega : E.length ≤ 1000000), by rw [HHN.out], HBz⟩
                        case measure => first | exact nr_meas HLK.out | exact nx_meas HLK.out (by omega : E.length ≤ 1000000)
                    · rw [show decide (M1 = x1 ∧ M2 = x2') = false from decide_eq_false (fun h => heq ⟨h.1.symm, h.2.symm⟩), Bool.or_false] at HHN
                      by_cases h1 : x1 = M1
                      · have h2 : ¬ x2' = M2 := fun h2 => heq ⟨h1, h2⟩
                        clear heq
                        subst h1
                        have hs1 := str_rf x1
                        have hs2 := str_ne h2
                        clear h2
                        cases hb0
                        · go_wp2_with fail
                          go_quiet (fail)
                          have HBq := hid (HBK.out.trans ((below_drawn wr nq).mono HBK.out.size))
                          generalize wr.drewN nq = wq at *
                          clear z0 z1 d0 d1 df
                          have HA := hid (HPA.out Q _ [(x1, x2')] _ wq (HBW.out _ (HNW.out _ HBq.out)) (by simp) (HJ7.out.below (HNW.out _ HBq.out)) (HMK.out _ HBq.out))
                          rw [(HOX.out _ HUK.out).1, (HOX.out _ HUK.out).2] at HA
                          obtain ⟨z0, z1, d0, d1, df⟩ := HCK.out _ HBq.out
                          go_wp2_with fail
                          refine HA.out.mono ?_
                          rintro e wa ⟨ov, y, rfl, ho, he, hb⟩
                          have HBa := hid (HBq.out.trans (hb.mono HBq.out.size))
                          have hy : y = .nilIface := by
                            rcases he.kind with ⟨-, h0⟩ | ⟨h0, -⟩
                            · exact h0
                            · exact absurd rfl h0
                          subst hy
                          have HIT := hid (inT_any s _ ov wa (al_one HSH.out) ho)
                          obtain ⟨oa', oc', ho1, -⟩ := ho
                          subst ho1
                          clear he hb z0 z1 d0 d1 df HA
                          obtain ⟨z0, z1, d0, d1, df⟩ := HCK.out _ HBa.out
                          have q0 := HYW.out _ (HNW.out _ HBa.out)
                          cases hin : inB s (alN Q L [(x1, x2')])
                          · rw [hin] at HIT
                            clear hin
                            go_wp2_with fail
                            refine HIT.out.mono ?_
                            rintro e wb ⟨rfl, rfl⟩
                            go_wp2_with fail
                            go_quiet (fail)
                            have HBz := hid (HBa.out.trans ((below_drawn _ nq).mono HBa.out.size))
                            go_wp2_with fail
                            go_roundw
                            case rel => exact ⟨k + 1, HLK.out, by first | exact nr_idx k | exact nx_idx HLK.out (by omega : E.length ≤ 1000000), by rw [HHN.out], HBz⟩
                            case measure => first | exact nr_meas HLK.out | exact nx_meas HLK.out (by omega : E.length ≤ 1000000)
                          · have hle := HI2.out (alN_one.1 (inB_iff.1 hin))
                            rw [hin] at HIT
                            clear hin
                            have hgt : ¬ (x1.size : Int) < (x1.size : Int) := by omega
                            have hgd : decide ((x1.size : Int) < (x1.size : Int)) = false := decide_eq_false hgt
                            have hgn : decide (x1.size < x1.size) = false := decide_eq_false (by omega)
                            go_wp2_with fail
                            refine HIT.out.mono ?_
                            rintro e wb ⟨rfl, rfl⟩
                            go_wp2_with fail
                            go_quiet (fail)
                            have HBz := hid (HBa.out.trans ((below_drawn _ nq).mono HBa.out.size))
                            go_wp2_with fail
                            go_roundw
                            case rel => exact ⟨k + 1, HLK.out, by first | exact nr_idx k | exact nx_idx HLK.out (by omega : E.length ≤ 1000000), by rw [HHN.out], HBz⟩
                            case measure => first | exact nr_meas HLK.out | exact nx_meas HLK.out (by omega : E.length ≤ 1000000)
                        · go_wp2_with fail
                          go_quiet (fail)
                          have HBq := hid (HBK.out.trans ((below_drawn wr nq).mono HBK.out.size))
                          generalize wr.drewN nq = wq at *
                          clear z0 z1 d0 d1 df
                          have HA := hid (HPA.out Q _ [(x1, x2')] _ wq (HBW.out _ (HNW.out _ HBq.out)) (by simp) (HJ7.out.below (HNW.out _ HBq.out)) (HMK.out _ HBq.out))
                          rw [(HOX.out _ HUK.out).1, (HOX.out _ HUK.out).2] at HA
                          obtain ⟨z0, z1, d0, d1, df⟩ := HCK.out _ HBq.out
                          go_wp2_with fail
                          refine HA.out.mono ?_
                          rintro e wa ⟨ov, y, rfl, ho, he, hb⟩
                          have HBa := hid (HBq.out.trans (hb.mono HBq.out.size))
                          have hy : y = .nilIface := by
                            rcases he.kind with ⟨-, h0⟩ | ⟨h0, -⟩
                            · exact h0
                            · exact absurd rfl h0
                          subst hy
                          have HIT := hid (inT_any s _ ov wa (al_one HSH.out) ho)
                          obtain ⟨oa', oc', ho1, -⟩ := ho
                          subst ho1
                          clear he hb z0 z1 d0 d1 df HA
                          obtain ⟨z0, z1, d0, d1, df⟩ := HCK.out _ HBa.out
                          have q0 := HYW.out _ (HNW.out _ HBa.out)
                          cases hin : inB s (alN Q L [(x1, x2')])
                          · rw [hin] at HIT
                            clear hin
                            go_wp2_with fail
                            refine HIT.out.mono ?_
                            rintro e wb ⟨rfl, rfl⟩
                            go_wp2_with fail
                            go_quiet (fail)
                            have HBz := hid (HBa.out.trans ((below_drawn _ nq).mono HBa.out.size))
                            go_wp2_with fail
                            go_roundw
                            case rel => exact ⟨k + 1, HLK.out, by first | exact nr_idx k | exact nx_idx HLK.out (by omega : E.length ≤ 1000000), by rw [HHN.out], HBz⟩
                            case measure => first | exact nr_meas HLK.out | exact nx_meas HLK.out (by omega : E.length ≤ 1000000)
                          · have hle := HI2.out (alN_one.1 (inB_iff.1 hin))
                            rw [hin] at HIT
                            clear hin
                            have hgt : ¬ (x1.size : Int) < (x1.size : Int) := by omega
                            have hgd : decide ((x1.size : Int) < (x1.size : Int)) = false := decide_eq_false hgt
                            have hgn : decide (x1.size < x1.size) = false := decide_eq_false (by omega)
                            go_wp2_with fail
                            refine HIT.out.mono ?_
                            rintro e wb ⟨rfl, rfl⟩
                            go_wp2_with fail
                            go_quiet (fail)
                            have HBz := hid (HBa.out.trans ((below_drawn _ nq).mono HBa.out.size))
                            go_wp2_with fail
                            go_roundw
                            case rel => exact ⟨k + 1, HLK.out, by first | exact nr_idx k | exact nx_idx HLK.out (by omega : E.length ≤ 1000000), by rw [HHN.out], HBz⟩
                            case measure => first | exact nr_meas HLK.out | exact nx_meas HLK.out (by omega : E.length ≤ 1000000)
                      · have hs1 := str_ne h1
                        clear heq h1
                        cases hb0
                        · go_wp2_with fail
                          go_quiet (fail)
                          have HBq := hid (HBK.out.trans ((below_drawn wr nq).mono HBK.out.size))
                          generalize wr.drewN nq = wq at *
                          clear z0 z1 d0 d1 df
                          have HA := hid (HPA.out Q _ [(x1, x2')] _ wq (HBW.out _ (HNW.out _ HBq.out)) (by simp) (HJ7.out.below (HNW.out _ HBq.out)) (HMK.out _ HBq.out))
                          rw [(HOX.out _ HUK.out).1, (HOX.out _ HUK.out).2] at HA
                          obtain ⟨z0, z1, d0, d1, df⟩ := HCK.out _ HBq.out
                          go_wp2_with fail
                          refine HA.out.mono ?_
                          rintro e wa ⟨ov, y, rfl, ho, he, hb⟩
                          have HBa := hid (HBq.out.trans (hb.mono HBq.out.size))
                          have hy : y = .nilIface := by
                            rcases he.kind with ⟨-, h0⟩ | ⟨h0, -⟩
                            · exact h0
                            · exact absurd rfl h0
                          subst hy
                          have HIT := hid (inT_any s _ ov wa (al_one HSH.out) ho)
                          obtain ⟨oa', oc', ho1, -⟩ := ho
                          subst ho1
                          clear he hb z0 z1 d0 d1 df HA
                          obtain ⟨z0, z1, d0, d1, df⟩ := HCK.out _ HBa.out
                          have q0 := HYW.out _ (HNW.out _ HBa.out)
                          cases hin : inB s (alN Q L [(x1, x2')])
                          · rw [hin] at HIT
                            clear hin
                            go_wp2_with fail
                            refine HIT.out.mono ?_
                            rintro e wb ⟨rfl, rfl⟩
                            go_wp2_with fail
                            go_quiet (fail)
                            have HBz := hid (HBa.out.trans ((below_drawn _ nq).mono HBa.out.size))
                            go_wp2_with fail
                            go_roundw
                            case rel => exact ⟨k + 1, HLK.out, by first | exact nr_idx k | exact nx_idx HLK.out (by omega : E.length ≤ 1000000), by rw [HHN.out], HBz⟩
                            case measure => first | exact nr_meas HLK.out | exact nx_meas HLK.out (by omega : E.length ≤ 1000000)
                          · have hle := HI2.out (alN_one.1 (inB_iff.1 hin))
                            rw [hin] at HIT
                            clear hin
                            have hgt : ¬ (M1.size : Int) < (x1.size : Int) := by omega
                            have hgd : decide ((M1.size : Int) < (x1.size : Int)) = false := decide_eq_false hgt
                            have hgn : decide (M1.size < x1.size) = false := decide_eq_false (by omega)
                            go_wp2_with fail
                            refine HIT.out.mono ?_
                            rintro e wb ⟨rfl, rfl⟩
                            go_wp2_with fail
                            go_quiet (fail)
                            have HBz := hid (HBa.out.trans ((below_drawn _ nq).mono HBa.out.size))
                            go_wp2_with fail
                            go_roundw
                            case rel => exact ⟨k + 1, HLK.out, by first | exact nr_idx k | exact nx_idx HLK.out (by omega : E.length ≤ 1000000), by rw [HHN.out], HBz⟩
                            case measure => first | exact nr_meas HLK.out | exact nx_meas HLK.out (by omega : E.length ≤ 1000000)
                        · go_wp2_with fail
                          go_quiet (fail)
                          have HBq := hid (HBK.out.trans ((below_drawn wr nq).mono HBK.out.size))
                          generalize wr.drewN nq = wq at *
                          clear z0 z1 d0 d1 df
                          have HA := hid (HPA.out Q _ [(x1, x2')] _ wq (HBW.out _ (HNW.out _ HBq.out)) (by simp) (HJ7.out.below (HNW.out _ HBq.out)) (HMK.out _ HBq.out))
                          rw [(HOX.out _ HUK.out).1, (HOX.out _ HUK.out).2] at HA
                          obtain ⟨z0, z1, d0, d1, df⟩ := HCK.out _ HBq.out
                          go_wp2_with fail
                          refine HA.out.mono ?_
                          rintro e wa ⟨ov, y, rfl, ho, he, hb⟩
                          have HBa := hid (HBq.out.trans (hb.mono HBq.out.size))
                          have hy : y = .nilIface := by
                            rcases he.kind with ⟨-, h0⟩ | ⟨h0, -⟩
                            · exact h0
                            · exact absurd rfl h0
                          subst hy
                          have HIT := hid (inT_any s _ ov wa (al_one HSH.out) ho)
                          obtain ⟨oa', oc', ho1, -⟩ := ho
                          subst ho1
                          clear he hb z0 z1 d0 d1 df HA
                          obtain ⟨z0, z1, d0, d1, df⟩ := HCK.out _ HBa.out
                          have q0 := HYW.out _ (HNW.out _ HBa.out)
                          cases hin : inB s (alN Q L [(x1, x2')])
                          · rw [hin] at HIT
                            clear hin
                            go_wp2_with fail
                            refine HIT.out.mono ?_
                            rintro e wb ⟨rfl, rfl⟩
                            go_wp2_with fail
                            go_quiet (fail)
                            have HBz := hid (HBa.out.trans ((below_drawn _ nq).mono HBa.out.size))
                            go_wp2_with fail
                            go_roundw
                            case rel => exact ⟨k + 1, HLK.out, by first | exact nr_idx k | exact nx_idx HLK.out (by omega : E.length ≤ 1000000), by rw [HHN.out], HBz⟩
                            case measure => first | exact nr_meas HLK.out | exact nx_meas HLK.out (by omega : E.length ≤ 1000000)
                          · have hle := HI2.out (alN_one.1 (inB_iff.1 hin))
                            rw [hin] at HIT
                            clear hin
                            have hgt : ¬ (M1.size : Int) < (x1.size : Int) := by omega
                            have hgd : decide ((M1.size : Int) < (x1.size : Int)) = false := decide_eq_false hgt
                            have hgn : decide (M1.size < x1.size) = false := decide_eq_false (by omega)
                            go_wp2_with fail
                            refine HIT.out.mono ?_
                            rintro e wb ⟨rfl, rfl⟩
                            go_wp2_with fail
                            go_quiet (fail)
                            have HBz := hid (HBa.out.trans ((below_drawn _ nq).mono HBa.out.size))
                            go_wp2_with fail
                            go_roundw
                            case rel => exact ⟨k + 1, HLK.out, by first | exact nr_idx k | exact nx_idx HLK.out (by omega : E.length ≤ 1000000), by rw [HHN.out], HBz⟩
                            case measure => first | exact nr_meas HLK.out | exact nx_meas HLK.out (by omega : E.length ≤ 1000000)
                  · have hkI := ix_nlt hlk
                    have hke : k = E.length := by omega
                    have hHM : hasB (E.take k) (M1, M2) = true := by rw [hke, List.take_length]; exact hasB_iff.2 HI1.out.1
                    generalize hasB (E.take k) (M1, M2) = hb0 at *
                    subst hHM
                    have HPX := hid (HPR.out _ (HU.out _ HI1.out.1) _ HI1.out.2.1)
                    have hpl : M1.size ≤ s.size := HPX.out.1
                    have hpi : ¬ (s.size : Int) < (M1.size : Int) := by omega
                    have hpe : ((s.extract 0 M1.size).toList == M1.toList) = true := by rw [show s.extract 0 M1.size = M1 from HPX.out.2]; exact str_rf M1
                    have q0 := HYW.out _ (HNW.out _ HBK.out)
                    obtain ⟨d0, d1, df⟩ := bx2 ((HBK.out.block _ (lt_of_blk HMB.out)).trans HMB.out)
                    clear hlk
                    go_wp2_with fail
                    go_quiet (fail)
                    have HBq := hid (HBK.out.trans ((below_drawn wr nq).mono HBK.out.size))
                    generalize wr.drewN nq = wq at *
                    clear q0 d0 d1 df
                    have q0 := HYW.out _ (HNW.out _ HBq.out)
                    obtain ⟨d0, d1, df⟩ := bx2 ((HBq.out.block _ (lt_of_blk HMB.out)).trans HMB.out)
                    go_wp2_with fail
                    go_quiet (fail)
                    have HBy := hid (HBq.out.trans ((below_drawn wq nq).mono HBq.out.size))
                    go_wp2_with fail
                    go_roundw
                    case rel => exact ⟨i + 1, HLT.out, by first | exact nr_idx i | exact nx_idx HLT.out hXl, hid (HNW.out _ HBy.out)⟩
                    case measure => first | exact nr_meas HLT.out | exact nx_meas HLT.out hXl
              · exact absurd hf h0
            · rcases he.kind with ⟨h0, -⟩ | ⟨-, T', ea, rfl⟩
              · exact absurd h0 hf
              · have hpn : pathErr s.data.toList ≠ 0 := fun h => hf (HOK1.out h)
                obtain ⟨pa, hpa⟩ := errA_ne A hpn
                have hpe2 := HPE.out.symm.trans hpa
                subst hpe2
                clear he hf hpn hpa
                go_wp2_with fail
                first
                  | exact ⟨⟨i + 1, HLT.out, by first | exact nr_idx i | exact nx_idx HLT.out hXl, HBA⟩, by first | exact nr_meas HLT.out | exact nx_meas HLT.out hXl⟩
                  | (go_roundw
                     case rel => exact ⟨i + 1, HLT.out, by first | exact nr_idx i | exact nx_idx HLT.out hXl, HBA⟩
                     case measure => first | exact nr_meas HLT.out | exact nx_meas HLT.out hXl)
          · have hiI := ix_nlt hlt
            clear hlt
            go_wp2_with fail
            go_ret
            exact ⟨rfl, HB7.out.trans (HBR.out.mono HB7.out.size)⟩
      · exact absurd rfl h0
    · exact absurd rfl h0
  · have hne : (rF Q L R).1 ≠ 0 := by unfold rF; rw [if_neg hg]; exact hg
    rcases he.kind with ⟨h0, -⟩ | ⟨-, T', ea, rfl⟩
    · exact absurd h0 hne
    · clear he hM hg hne
      go_wp2_with fail
      go_ret
      exact ⟨rfl, HB6.out⟩
end Ve
end Go.Proofs.YtjndahjfodnllaaGreatDoor


namespace Go.Proofs.YtjndahjfodnllaaGreatDoor
open Go.RowKit Go.Maps
namespace Ve
set_option maxRecDepth 100000 in
set_option maxHeartbeats 2000000 in
theorem po_long {T : World → Prop} (OC : OfC T) (KT : StayK T) (Q0 : List Raw) (L : List Ent) (R : List Bm) (v rv : Value) (A : Nat → Addr) (m : Int) (w : World) (S : Te w A m) (hT : T w) (I : Ixs w v Q0 L) (hr : MsAt w rv R) (h : okI L = false ∨ (okI L = true ∧ (¬ L.length ≤ 30 ∨ (L.length ≤ 30 ∧ okLN 15 R = false)))) :
    Calls Tryz.prog 3 #[v, rv] w fun e w' => e = .returned (.bool true) ∧ Below w.heap.size w w' := by
  have HIN := hid (packed_any OC KT A m w S hT)
  have HLO := hid (fun W (h : Below w.heap.size w W) => longI_any Q0 L v W (I.below h))
  have HLM := hid (fun W (h : Below w.heap.size w W) => longN_any 15 (by decide) R rv W (hr.below h))
  have hln := I.ln
  obtain ⟨a0, c0, hv0, -⟩ := id I.es
  subst hv0
  obtain ⟨ra, rc, hrv, -⟩ := id hr
  subst hrv
  rcases h with h | ⟨h, h1 | ⟨h1, h2⟩⟩
  · rw [h] at HLO
    clear S I h OC KT hT hr hln
    go_enter Tryz.func3, Tryz.ntmps3
    go_wp2_with fail
    refine HIN.out.mono ?_
    rintro e w1 ⟨rfl, hb⟩
    have HB1 := hid hb
    clear hb
    go_wp2_with fail
    refine (HLO.out w1 HB1.out).mono ?_
    rintro e w2 ⟨rfl, hb⟩
    have HB2 := hid (HB1.out.trans (hb.mono HB1.out.size))
    clear hb
    go_wp2_with fail
    go_ret
    exact ⟨rfl, HB2.out⟩
  · rw [if_pos h] at HLO
    have g2 : (30 : Int) < (Q0.length : Int) := by omega
    clear S I h h1 OC KT hT hr hln
    go_enter Tryz.func3, Tryz.ntmps3
    go_wp2_with fail
    refine HIN.out.mono ?_
    rintro e w1 ⟨rfl, hb⟩
    have HB1 := hid hb
    clear hb
    go_wp2_with fail
    refine (HLO.out w1 HB1.out).mono ?_
    rintro e w2 ⟨rfl, hb⟩
    have HB2 := hid (HB1.out.trans (hb.mono HB1.out.size))
    clear hb
    go_wp2_with fail
    go_ret
    exact ⟨rfl, HB2.out⟩
  · rw [if_pos h] at HLO
    rw [h2] at HLM
    have g2 : ¬ (30 : Int) < (Q0.length : Int) := by omega
    clear S I h h1 h2 OC KT hT hr hln
    go_enter Tryz.func3, Tryz.ntmps3
    go_wp2_with fail
    refine HIN.out.mono ?_
    rintro e w1 ⟨rfl, hb⟩
    have HB1 := hid hb
    clear hb
    go_wp2_with fail
    refine (HLO.out w1 HB1.out).mono ?_
    rintro e w2 ⟨rfl, hb⟩
    have HB2 := hid (HB1.out.trans (hb.mono HB1.out.size))
    clear hb
    go_wp2_with fail
    refine (HLM.out w2 HB2.out).mono ?_
    rintro e w3 ⟨rfl, rfl⟩
    have HB3 := HB2
    go_wp2_with fail
    go_ret
    exact ⟨rfl, HB3.out⟩
theorem pkgOnes_any {T : World → Prop} (OC : OfC T) (AC : AllC T) (PC : PathC) (KT : StayK T) (Q0 : List Raw) (L : List Ent) (R : List Bm) (v rv : Value) (A : Nat → Addr) (m : Int) (w : World) (S : Te w A m) (hT : T w) (I : Ixs w v Q0 L) (em : EmI Q0 L) (hr : MsAt w rv R) (hem : Em rv R) :
    Calls Tryz.prog 3 #[v, rv] w fun e w' => e = .returned (.bool true) ∧ Below w.heap.size w w' := by
  cases hok : okI L with
  | false => exact po_long OC KT Q0 L R v rv A m w S hT I hr (Or.inl hok)
  | true =>
    by_cases h30 : L.length ≤ 30
    · cases hokR : okLN 15 R with
      | false => exact po_long OC KT Q0 L R v rv A m w S hT I hr (Or.inr ⟨hok, Or.inr ⟨h30, hokR⟩⟩)
      | true => exact po_main OC AC PC KT Q0 L R v rv A m w S hT I em hr hem hok h30 hokR
    · exact po_long OC KT Q0 L R v rv A m w S hT I hr (Or.inr ⟨hok, Or.inl h30⟩)
end Ve
end Go.Proofs.YtjndahjfodnllaaGreatDoor


namespace Go.Proofs.YtjndahjfodnllaaGreatDoor
open Go.ChangeShapes Go.WideShapes Go.ChangeAt Go.RowKit Go.ChangeMaps Go.Joins
namespace Ve
theorem oCellsMod : Tryz.prog.cellsOf 38 = 2 := by kernel_rfl
theorem oCellsStr : Tryz.prog.cellsOf 9 = 1 := by kernel_rfl
theorem oCellsEnt : Tryz.prog.cellsOf 61 = 5 := by kernel_rfl
theorem oCellsMods : Tryz.prog.cellsOf 23 = 1 := by kernel_rfl
theorem oCellsSstr : Tryz.prog.cellsOf 33 = 1 := by kernel_rfl
theorem oCellsBool : Tryz.prog.cellsOf 4 = 1 := by kernel_rfl
def strOf : Value → ByteArray
  | .string s => s
  | _ => ⟨#[]⟩
set_option maxRecDepth 100000 in
theorem open_ms {H : Type} {enc : TypeId × Value → H} {w : World} {base fuel : Nat} {held : Bool} {v : Value} {x : DataW H × List MemPlace}
    (h : DataW.trod enc Tryz.prog w base (fun _ => true) held fuel 23 [v] = some x) : ∃ L, MsAt w v L ∧ Em v L := by
  rcases Go.Deep.open_slice_pairs Tryz.underlying23 Tryz.underlying38 oCellsMod rfl rfl oCellsStr oCellsStr h with ⟨hcs, _⟩ | ⟨a, len, cap, m, n, V0, V1, D0, D1, P0, P1, hcs, _, hl, _, hm, _, hx⟩
  · simp only [List.cons.injEq, and_true] at hcs
    subst hcs
    exact ⟨[], ⟨none, 0, rfl, Nat.le_refl _, fun h => absurd rfl h⟩, fun a c e _ => Or.inl e.symm⟩
  · simp only [List.cons.injEq, and_true] at hcs
    subst hcs
    simp only [if_true] at hm
    subst hm
    have hlen : ((List.range len).map fun i => (strOf (V0 i), strOf (V1 i))).length = len := by simp
    refine ⟨(List.range len).map fun i => (strOf (V0 i), strOf (V1 i)), ⟨some a, m, by rw [hlen], by rw [hlen]; exact hl, fun hne => ?_⟩, fun a' c e h0 => ?_⟩
    · have h0l : 0 < len := by rw [← hlen]; exact List.length_pos_iff.2 hne
      obtain ⟨b, off, spot⟩ := a
      have hspot : spot = none := by simpa [Addr.add] using World.cell?_spot (hx 0 (by omega)).1
      subst hspot
      refine ⟨b, off, rfl, fun j hj => ?_⟩
      have hj2 : j < len := by rw [← hlen]; exact hj
      obtain ⟨g0, g1, t0, t1⟩ := hx j (by omega)
      obtain ⟨s0, e0, _, _⟩ := DataW.trod_string Tryz.underlying9 t0
      obtain ⟨s1, e1, _, _⟩ := DataW.trod_string Tryz.underlying9 t1
      simp only [List.cons.injEq, and_true] at e0 e1
      rw [e0] at g0
      rw [e1] at g1
      simp only [List.getElem_map, List.getElem_range, e0, e1]
      rw [Addr.add_lit] at g0 g1
      exact ⟨g0, g1⟩
    · have hz : len = 0 := by rw [← hlen, h0]; rfl
      rw [hlen] at e
      subst hz
      right
      injection e with e1 e2 e3
      exact ⟨a, by rw [← e1]⟩
set_option maxRecDepth 100000 in
theorem open_tx {H : Type} {enc : TypeId × Value → H} {w : World} {base fuel : Nat} {held : Bool} {v : Value} {x : DataW H × List MemPlace}
    (h : DataW.trod enc Tryz.prog w base (fun _ => true) held fuel 33 [v] = some x) : ∃ X, TxAt w v X ∧ EmT v X := by
  rcases open_strings Tryz.underlying33 Tryz.underlying9 oCellsStr h with ⟨hcs, _⟩ | ⟨a, len, cap, ss, hcs, _, hl, _, hm, _, hx, _⟩
  · simp only [List.cons.injEq, and_true] at hcs
    subst hcs
    exact ⟨[], ⟨none, 0, rfl, Nat.le_refl _, fun h => absurd rfl h⟩, fun a c e _ => Or.inl e.symm⟩
  · simp only [List.cons.injEq, and_true] at hcs
    subst hcs
    simp only [if_true] at hm
    have hlen : (ss.take len).length = len := by rw [List.length_take]; omega
    refine ⟨ss.take len, ⟨some a, cap, by rw [hlen], by rw [hlen]; exact hl, fun hne => ?_⟩, fun a' c e h0 => ?_⟩
    · have h0l : 0 < len := by rw [← hlen]; exact List.length_pos_iff.2 hne
      obtain ⟨b, off, spot⟩ := a
      have hspot : spot = none := by simpa [Addr.add] using World.cell?_spot (hx 0 (by omega))
      subst hspot
      refine ⟨b, off, rfl, fun j hj => ?_⟩
      have hj2 : j < len := by rw [← hlen]; exact hj
      have g := hx j (by omega)
      rw [Addr.add_lit, List.getD_eq_getElem?_getD, List.getElem?_eq_getElem (by omega)] at g
      rw [List.getElem_take]
      exact g
    · have hz : len = 0 := by rw [← hlen, h0]; rfl
      rw [hlen] at e
      subst hz
      right
      injection e with e1 e2 e3
      exact ⟨a, by rw [← e1]⟩
set_option maxRecDepth 100000 in
theorem open_ent {H : Type} {enc : TypeId × Value → H} {w : World} {base fuel : Nat} {held : Bool} {cs : List Value} {x : DataW H × List MemPlace}
    (h : DataW.trod enc Tryz.prog w base (fun _ => true) held fuel 61 cs = some x) : ∃ (r : Raw) (e : Ent), cs = rowR r ∧ slR r ∧ RawOk w r e ∧ Em r.2.1 e.2.1 ∧ EmT r.2.2.1 e.2.2.1 := by
  obtain ⟨y0, y1, y2, y3, n, _, hl, h0, h1, h2, h3⟩ := trod_struct4 Tryz.underlying61 h
  rw [oCellsEnt] at hl
  match cs, hl with
  | [c0, c1, c2, c3, c4], _ =>
    simp only [oCellsMod, oCellsMods, oCellsSstr, oCellsBool, List.drop, List.take] at h0 h1 h2 h3
    obtain ⟨z0, z1, n2, _, _, k0, k1⟩ := trod_struct2 Tryz.underlying38 h0
    simp only [oCellsStr, List.drop, List.take] at k0 k1
    obtain ⟨s0, e0, _, _⟩ := DataW.trod_string Tryz.underlying9 k0
    obtain ⟨s1, e1, _, _⟩ := DataW.trod_string Tryz.underlying9 k1
    obtain ⟨R, hR, hER⟩ := open_ms h1
    obtain ⟨X, hX, hEX⟩ := open_tx h2
    obtain ⟨b, e4, _⟩ := DataW.trod_bool Tryz.underlying4 h3
    simp only [List.cons.injEq, and_true] at e0 e1 e4
    subst e0 e1 e4
    refine ⟨((s0, s1), c2, c3, b), ((s0, s1), R, X, b), rfl, ⟨?_, ?_⟩, ⟨rfl, hR, hX, rfl⟩, hER, hEX⟩
    · obtain ⟨a, c, e, _⟩ := hR; exact ⟨_, _, _, e⟩
    · obtain ⟨a, c, e, _⟩ := hX; exact ⟨_, _, _, e⟩
set_option maxRecDepth 100000 in
theorem open_ix {H : Type} {enc : TypeId × Value → H} {w : World} {base fuel : Nat} {held : Bool} {v : Value} {x : DataW H × List MemPlace}
    (h : DataW.trod enc Tryz.prog w base (fun _ => true) held fuel 22 [v] = some x) : ∃ Q L, Ixs w v Q L ∧ EmI Q L := by
  rcases Go.Deep.open_slice Tryz.underlying22 h with ⟨hcs, _⟩ | ⟨a, len, cap, m, n, D, Pl, hcs, _, hl, _, hm, _, hx⟩
  · simp only [List.cons.injEq, and_true] at hcs
    subst hcs
    exact ⟨[], [], ⟨⟨none, 0, rfl, Nat.le_refl _, fun r hr => (by cases hr), fun h => absurd rfl h⟩, rfl, fun j h1 => absurd h1 (Nat.not_lt_zero _)⟩, fun j h1 => absurd h1 (Nat.not_lt_zero _)⟩
  · simp only [List.cons.injEq, and_true] at hcs
    subst hcs
    simp only [if_true] at hm
    subst hm
    have each : ∀ i, i < len → ∃ q : Raw × Ent, (∀ c (hc : c < 5), w.cell? (a.add (i * 5 + c)) = (rowR q.1)[c]?) ∧ slR q.1 ∧ RawOk w q.1 q.2 ∧ Em q.1.2.1 q.2.2.1 ∧ EmT q.1.2.2.1 q.2.2.2.1 := fun i hi => by
      obtain ⟨cs', h1, h2⟩ := hx i (by omega)
      obtain ⟨r, e, hcs, k1, k2, k3, k4⟩ := open_ent h2
      rw [oCellsEnt] at h1
      obtain ⟨_, hlen, hcell⟩ := World.cells?_some h1
      refine ⟨(r, e), fun c hc => ?_, k1, k2, k3, k4⟩
      have := hcell c (by omega)
      rw [Go.Deep.add_add] at this
      rw [this, hcs]
    obtain ⟨q, hq⟩ := Go.Deep.choose_lt each
    have hlq : ((List.range len).map fun i => (q i).1).length = len := by simp
    have hll : ((List.range len).map fun i => (q i).2).length = len := by simp
    refine ⟨(List.range len).map fun i => (q i).1, (List.range len).map fun i => (q i).2, ⟨⟨some a, m, by rw [hlq], by rw [hlq]; exact hl, fun r hr => ?_, fun hne => ?_⟩, by rw [hlq, hll], fun j h1 h2 => ?_⟩, fun j h1 h2 => ?_⟩
    · obtain ⟨i, hi, rfl⟩ := List.mem_map.1 hr
      exact (hq i (List.mem_range.1 hi)).2.1
    · have h0l : 0 < len := by rw [← hlq]; exact List.length_pos_iff.2 hne
      obtain ⟨b, off, spot⟩ := a
      have g0 := (hq 0 h0l).1 0 (by omega)
      have hspot : spot = none := by
        have : ∃ u, World.cell? w ((⟨b, off, spot⟩ : Addr).add (0 * 5 + 0)) = some u := ⟨_, g0⟩
        obtain ⟨u, hu⟩ := this
        simpa [Addr.add] using World.cell?_spot hu
      subst hspot
      refine ⟨b, off, rfl, fun j hj => ?_⟩
      have hj2 : j < len := by rw [← hlq]; exact hj
      have g := (hq j hj2).1
      simp only [List.getElem_map, List.getElem_range]
      refine ⟨?_, ?_, ?_, ?_, ?_⟩
      · have := g 0 (by omega); rw [Addr.add_lit] at this; exact this
      · have := g 1 (by omega); rw [Addr.add_lit] at this; exact this
      · have := g 2 (by omega); rw [Addr.add_lit] at this; exact this
      · have := g 3 (by omega); rw [Addr.add_lit] at this; exact this
      · have := g 4 (by omega); rw [Addr.add_lit] at this; exact this
    · have hj2 : j < len := by rw [← hlq]; exact h1
      simp only [List.getElem_map, List.getElem_range]
      exact (hq j hj2).2.2.1
    · have hj2 : j < len := by rw [← hlq]; exact h1
      simp only [List.getElem_map, List.getElem_range]
      exact (hq j hj2).2.2.2
end Ve
end Go.Proofs.YtjndahjfodnllaaGreatDoor


namespace Go.Proofs.YtjndahjfodnllaaGreatDoor
open Go.ChangeShapes Go.WideShapes Go.ChangeAt Go.RowKit
namespace Ve
theorem wrap_and_shaped {H : Type} {enc : TypeId × Value → H} {a : Assume} {C : Checked} {os : Go.Os} {f : FuncId} {fn : Func} {s : ChangeSpec} {conds : List PathCond} {apart fresh handsOn again : Bool} {X : World → Array Value → Prop}
    (hX : ∀ (w w' : World) (args : Array Value), w.heap = w'.heap → X w args → X w' args)
    (own : ownKnob C.prog.godebug = none) (started : os.Started) (noInit : C.prog.inits.idxOf? f = none) (hfn : C.prog.funcs[f]? = some fn)
    (witness : ∃ (w : World) (tape : Tape) (i : Input), w.os = os ∧ (w.forCall tape i).Shaped C.prog ∧ i.vars = [] ∧ Input.okWide C.prog (w.forCall tape i) .any w.heap.size f i ∧
      ((s.pre enc C.prog fn conds apart (w.forCall tape i).memory i.args ∧ X (w.forCall tape i).memory i.args) ∧ sizedMet enc C.prog fn (OpenSpec.ofChange s) apart (w.forCall tape i).memory i.args) ∧ a.holds C.prog (lone (Frame.enter C.prog f i.args .normal) [] (w.forCall tape i)))
    (contract : ∀ (W : World) (base : Nat) (args : Array Value) (ds gs : List (DataW H)) (before : List MemPlace),
      (∀ (j : Nat) t v, fn.params[j]? = some t → args[j]? = some v → Value.okWide C.prog W .any base t v) →
      DataW.Whole enc C.prog fn.params.toList s.vars apart W args.toList ds gs before → X W args → W.ShapedOpen C.prog →
      Calls C.prog f args W fun e W' => ∃ v, e = .returned v ∧ s.post enc C.prog fn apart fresh handsOn again W args v W') :
    ReturnsInHanded a C os f .any (fun w args => (s.pre enc C.prog fn conds apart w args ∧ X w args) ∧ sizedMet enc C.prog fn (OpenSpec.ofChange s) apart w args) (s.post enc C.prog fn apart fresh handsOn again) := by
  refine returnsInHanded_of_calls own started noInit witness ?_
  intro w tape i _ hsh _ hok hpre _
  obtain ⟨_, _, _, fn', hfn', _, _, _, _, hval⟩ := hok
  have e : fn' = fn := Option.some.inj (hfn'.symm.trans hfn)
  subst e
  obtain ⟨⟨⟨ds, gs, before, hw, _⟩, hx⟩, _⟩ := hpre
  have hw' := DataW.Whole.of_heap (w' := w.forCall tape i) (by rfl) hw
  refine (contract (w.forCall tape i) w.heap.size i.args ds gs before hval hw' (hX _ _ _ (by rfl) hx) hsh).mono fun e W' ⟨v, he, hp⟩ => ?_
  subst he
  exact ChangeSpec.post_blind hp
theorem laidMet_over {P : Program} {w0 : World} {laid : List (String × DataW Unit)} (args : Array Value)
    (hf : w0.layFits P laid [] = true) (hi : w0.layIfaces P laid (w0.layVars P laid) = true) :
    laidMet P laid ((w0.layVars P laid).forCall (fun _ _ => 0) ⟨#[], args, []⟩).memory := by
  have e1 : (laid.filter fun x => (laid.map (·.1)).contains x.1) = laid := List.filter_eq_self.2 fun x hx => List.contains_iff_mem.2 (List.mem_map.2 ⟨x, hx, rfl⟩)
  have e2 : (laid.filter fun x => !(laid.map (·.1)).contains x.1) = [] := List.filter_eq_nil_iff.2 fun x hx => by rw [List.contains_iff_mem.2 (List.mem_map.2 ⟨x, hx, rfl⟩)]; simp
  have h : laidMet P laid (w0.layVars P laid) := laidMet_layVars (w0 := w0) (laid.map (·.1)) [] (by rw [e1]) (by rw [e1]; exact hf) (by rw [e1]; exact hi) (by rw [e2]; exact LaidIn.none)
  exact h.of_heap (by simp [World.memory, World.forCall, Input.heap])
end Ve
end Go.Proofs.YtjndahjfodnllaaGreatDoor


namespace Go.Proofs.YtjndahjfodnllaaGreatDoor
namespace Er
open Go
theorem sens_rest {P : Program} {nm : String} {W : World} {ti tp te ts : TypeId} {ms : Array (String × TypeId)} {f : Field}
    (hi : P.underlying ti = some (.interface ms)) (hrow : ∀ u, P.typeName? 3 u = some nm → u = tp)
    (hp : P.underlying tp = some (.pointer te)) (he : P.underlying te = some (.struct #[f])) (hft : f.type = ts) (hfo : f.offset = 0) (hs : P.underlying ts = some .string) (hc : P.cellsOf te = 1) (hcs : P.cellsOf ts = 1) (rest : List (String × DataW Unit)) :
    ∀ (ns : List (String × Nat × List UInt8)) (ps : List MemPlace),
      DataW.LaidVars P W ((ns.map fun x => (x.1, DataW.iface nm (.ptr (.agg [.lit (.string x.2.2)])))) ++ rest) ps →
      (∀ x, x ∈ ns → P.globalNamed x.1 = some x.2.1 ∧ (P.globals[x.2.1]?).map (·.type) = some ti) →
      (∀ b off, MemPlace.cell b off ∈ ps → (∃ c t, W.heap[b]? = some (.cells c t (0, 0))) ∧ ∀ u v, W.cell? ⟨b, off, none⟩ = some (.iface u v) → Value.okWide P W .any 0 u v) →
      ∃ al : List Addr, al.length = ns.length ∧ (al.map fun a => MemPlace.cell a.block a.off).Sublist ps ∧
        ∀ (i : Nat) (x : String × Nat × List UInt8) (a : Addr), ns[i]? = some x → al[i]? = some a →
          W.cell? ⟨x.2.1, 0, none⟩ = some (.iface tp (.pointer (some a))) ∧ ∃ c t, W.heap[a.block]? = some (.cells c t (0, 0)) := by
  intro ns
  induction ns with
  | nil =>
    intro ps _ _ _
    exact ⟨[], rfl, List.nil_sublist _, fun i x a h => by simp at h⟩
  | cons n r ih =>
    intro ps hl hg hr
    obtain ⟨g, t, cs, fuel, p, q, hg0, ht0, hv0, hd0, hq, e0⟩ := hl
    obtain ⟨k1, k2⟩ := hg n (List.mem_cons_self)
    obtain rfl := Option.some.inj (k1.symm.trans hg0)
    obtain rfl := Option.some.inj (k2.symm.trans ht0)
    subst e0
    obtain ⟨l0⟩ := cs
    have ok0 : ∀ u v, l0 = [.iface u v] → Value.okWide P W .any 0 u v := fun u v e => by
      subst e
      exact (hr n.2.1 0 (by simp [MemPlace.row])).2 u v (by simpa using World.var?_cell hg0 hv0 0)
    obtain ⟨a0, s0, rfl, hc0, hs0, hz0, rfl⟩ := errorString_of_trod hi hrow hp he hft hfo hs hc hcs hd0 ok0
    obtain ⟨al, hlen, hsub, hall⟩ := ih q hq (fun x hx => hg x (List.mem_cons_of_mem _ hx)) (fun b off hm => hr b off (by simp [hm]))
    refine ⟨a0 :: al, by simp [hlen], ?_, ?_⟩
    · simp only [List.map_cons, MemPlace.row, List.range_one, List.map_nil, Nat.add_zero]
      exact List.Sublist.cons _ (List.Sublist.cons_cons _ hsub)
    · intro i x a hx ha
      cases i with
      | zero =>
        simp only [List.getElem?_cons_zero, Option.some.injEq] at hx ha
        subst hx; subst ha
        exact ⟨by simpa using World.var?_cell hg0 hv0 0, (hr a0.block a0.off (by simp [MemPlace.row])).1⟩
      | succ i =>
        simp only [List.getElem?_cons_succ] at hx ha
        exact hall i x a hx ha
theorem unlike {al : List Addr} {ps : List MemPlace} (hs : (al.map fun a => MemPlace.cell a.block a.off).Sublist ps) (hn : ps.Nodup) {i j : Nat} (hi : i < al.length) (hj : j < al.length) (hij : i ≠ j) : al[i] ≠ al[j] := by
  have h1 : (al.map fun a => MemPlace.cell a.block a.off).Nodup := hs.nodup hn
  intro e
  rw [List.Nodup, List.pairwise_iff_getElem] at h1
  rcases Nat.lt_or_gt_of_ne hij with h | h
  · exact h1 i j (by simpa using hi) (by simpa using hj) h (by simp [e])
  · exact h1 j i (by simpa using hj) (by simpa using hi) h (by simp [e])
end Er
end Go.Proofs.YtjndahjfodnllaaGreatDoor


namespace Go.Proofs.YtjndahjfodnllaaGreatDoor
open Go.ChangeShapes Go.WideShapes Go.ChangeAt Go.RowKit
namespace Ve
theorem etName : Tryz.prog.globalNamed "errors.errorType" = some 10 := by kernel_rfl
def rtWord : String := match (Rows.laid_errors_errorType : DataW Unit) with | .iface s _ => s | _ => ""
theorem rtName : (Tryz.prog.cutTypes.find? (·.1 == rtWord)).map (·.2) = some 215 := by kernel_rfl
theorem oneRow : ((List.range 321).filter fun t => Tryz.prog.rowNamed t [101, 114, 114, 111, 114]) = [29] := by kernel_rfl
theorem nTypes : Tryz.prog.types.size = 321 := by kernel_rfl
theorem cellsS : Tryz.prog.cellsOf 310 = 1 := by kernel_rfl
theorem cellsStr : Tryz.prog.cellsOf 9 = 1 := by kernel_rfl
theorem star : "*" ++ "errors.errorString" = "*errors.errorString" := by decide
theorem rowS (u : TypeId) (h : Tryz.prog.typeName? 3 u = some "*errors.errorString") : u = 292 :=
  typeName_ptr_named (nm := "errors.errorString") (by rw [star]; kernel_rfl) (by kernel_rfl) (by decide) u (by rw [star]; exact h)
def tens : List (String × Nat × List UInt8) :=
  [("pewholder/api.ErrText", 2, [112, 101, 119, 104, 111, 108, 100, 101, 114, 58, 32, 116, 101, 120, 116]),
   ("pewholder/api.ErrBound", 3, [112, 101, 119, 104, 111, 108, 100, 101, 114, 58, 32, 98, 111, 117, 110, 100]),
   ("pewholder/api.ErrShape", 5, [112, 101, 119, 104, 111, 108, 100, 101, 114, 58, 32, 115, 104, 97, 112, 101]),
   ("pewholder/api.ErrMajor", 4, [112, 101, 119, 104, 111, 108, 100, 101, 114, 58, 32, 109, 97, 106, 111, 114]),
   ("pewholder/api.ErrNone", 0, [112, 101, 119, 104, 111, 108, 100, 101, 114, 58, 32, 110, 111, 110, 101]),
   ("pewholder/api.ErrFull", 1, [112, 101, 119, 104, 111, 108, 100, 101, 114, 58, 32, 102, 117, 108, 108]),
   ("pewholder/api.ErrOrder", 7, [112, 101, 119, 104, 111, 108, 100, 101, 114, 58, 32, 111, 114, 100, 101, 114])]
theorem tens_named : ∀ x, x ∈ tens → Tryz.prog.globalNamed x.1 = some x.2.1 ∧ (Tryz.prog.globals[x.2.1]?).map (·.type) = some 29 := by
  have h : (tens.all fun x => Tryz.prog.globalNamed x.1 == some x.2.1 && (Tryz.prog.globals[x.2.1]?).map (·.type) == some 29) = true := by kernel_rfl
  intro x hx
  simpa using List.all_eq_true.1 h x hx
theorem ml_of {W : World} (hsh : W.ShapedOpen Tryz.prog) : ∃ m, W.cell? ⟨11, 0, none⟩ = some (.int .i64 m) :=
  cell_of_shapedOpen_int (P := Tryz.prog) (g := 11) (t := 3) (zero := #[.int .i64 0]) hsh (of_decide_eq_true (by kernel_rfl)) (by kernel_rfl) rfl (by kernel_rfl) (by kernel_rfl) Tryz.underlying3
end Ve
end Go.Proofs.YtjndahjfodnllaaGreatDoor


namespace Go.Proofs.YtjndahjfodnllaaGreatDoor
open Go.ChangeShapes Go.WideShapes Go.ChangeAt Go.RowKit
namespace Ve
theorem te_ds {W : World} {m : Int} (rest : List (String × DataW Unit)) (hl : laidMet Tryz.prog ((tens.map fun x => (x.1, DataW.iface "*errors.errorString" (.ptr (.agg [.lit (.string x.2.2)])))) ++ rest) W)
    (hh : handlesMet Tryz.prog [("errors.errorType", Rows.laid_errors_errorType)] W) (hm0 : W.cell? ⟨11, 0, none⟩ = some (.int .i64 m)) : ∃ A, Te W A m ∧ Ds W A := by
  obtain ⟨ps, hl, hnd, hrows⟩ := hl
  obtain ⟨name, u, ty, e1, e2, e3, e4, e5⟩ := hh _ (List.mem_singleton.2 rfl)
  have en : name = [101, 114, 114, 111, 114] := (Option.some.inj e1).symm
  subst en
  obtain rfl := Option.some.inj (rtName.symm.trans e2)
  have hm : ty ∈ (List.range 321).filter fun t => Tryz.prog.rowNamed t [101, 114, 114, 111, 114] := List.mem_filter.2 ⟨List.mem_range.2 (by rw [← nTypes]; exact e3), e4⟩
  rw [oneRow] at hm
  obtain rfl := List.mem_singleton.1 hm
  have hhd : typeHandle Tryz.prog 29 = .pointer (some ⟨17, 29, none⟩) := by kernel_rfl
  rw [hhd] at e5
  have het : W.cell? ⟨10, 0, none⟩ = some (.iface 215 (.agg #[.pointer (some ⟨17, 29, none⟩)])) := by simpa using World.var?_cell etName e5 0
  obtain ⟨al, hlen, hsub, hall⟩ := Er.sens_rest Tryz.underlying29 rowS Tryz.underlying292 Tryz.underlying310 rfl rfl Tryz.underlying9 cellsS cellsStr rest tens ps hl tens_named hrows
  have hten : al.length = 7 := hlen
  refine ⟨fun k => al.getD (if k < 5 then k else k - 1) ⟨0, 0, none⟩, ?_⟩
  have get : ∀ k, k < 7 → al[k]? = some (al.getD k ⟨0, 0, none⟩) := fun k hk => by
    rw [List.getD_eq_getElem?_getD, List.getElem?_eq_getElem (by omega)]; rfl
  have c := fun k x (hx : tens[k]? = some x) (hk : k < 7) => hall k x _ hx (get k hk)
  have ne : ∀ i j, i < 7 → j < 7 → i ≠ j → al.getD i ⟨0, 0, none⟩ ≠ al.getD j ⟨0, 0, none⟩ := fun i j hi hj hij e => by
    have := Er.unlike hsub hnd (i := i) (j := j) (by omega) (by omega) hij
    apply this
    have hi' := get i hi
    have hj' := get j hj
    rw [List.getElem?_eq_getElem (by omega)] at hi' hj'
    rw [Option.some.inj hi', Option.some.inj hj']
    exact e
  exact ⟨⟨⟨(c 0 _ rfl (by omega)).1, (c 1 _ rfl (by omega)).1, (c 2 _ rfl (by omega)).1, (c 3 _ rfl (by omega)).1, (c 4 _ rfl (by omega)).1, (c 5 _ rfl (by omega)).1, (c 6 _ rfl (by omega)).1, het⟩, ⟨(c 0 _ rfl (by omega)).1, (c 1 _ rfl (by omega)).1, (c 0 _ rfl (by omega)).2, (c 1 _ rfl (by omega)).2, ne 0 1 (by omega) (by omega) (by omega), hm0⟩⟩,
    ⟨(c 0 _ rfl (by omega)).2, (c 1 _ rfl (by omega)).2, (c 3 _ rfl (by omega)).2, ne 0 3 (by omega) (by omega) (by omega), ne 1 3 (by omega) (by omega) (by omega)⟩⟩
end Ve
end Go.Proofs.YtjndahjfodnllaaGreatDoor
