
import Derived.Test.YtjndahjfodnllaaGreatDoorPw8
import Derived.Test.YtjndahjfodnllaaGreatDoorPw7
import Derived.Test.YtjndahjfodnllaaGreatDoorPw3
import Derived.Test.YtjndahjfodnllaaGreatDoorPw4
import Derived.Test.YtjndahjfodnllaaGreatDoorPw5
import Derived.Test.YtjndahjfodnllaaGreatDoorPw1
namespace Go.Proofs.YtjndahjfodnllaaGreatDoor
open Go.RowKit
namespace Ve
theorem ph_len (Q : List Raw) : (phX Q).length ≤ Q.length := by
  unfold phX
  have := fold_len (Z := pathL Q) (X := [])
  rw [pathL_len] at this
  simpa using this
theorem lt_next {Q : List Raw} {X : List ByteArray} {k : Nat} (hk : k < X.length) : ltL Q (X.take (k + 1)) = ltL Q (X.take k) ++ [(X[k], latV Q X[k])] := by
  unfold ltL
  rw [List.take_succ_eq_append_getElem hk, List.map_append]; rfl
theorem ltL_len (Q : List Raw) (X : List ByteArray) : (ltL Q X).length = X.length := by unfold ltL; rw [List.length_map]
set_option maxRecDepth 100000 in
set_option maxHeartbeats 4000000 in
theorem lts_any (Q : List Raw) (v : Value) (A : Nat → Addr) (m : Int) (w : World) (hL : Q.length ≤ 1000) (hq : shQ Q) (S : Te w A m) (htab : Lib.TabIs Tryz.prog w powName .u64 Lib.pow10Tab) (hv : EsAt w v Q) :
    Calls Tryz.prog 45 #[v] w fun e w' => ∃ u, e = .returned u ∧ w'.ownsRow w.heap.size 38 2 u (ltL Q (phX Q)).length (flatM (ltL Q (phX Q))) ∧ Below w.heap.size w w' := by
  have HPA := hid (paths_any Q v w hL hv)
  rw [show tx (risB (bl (pathL Q))) = phX Q from tx_ris _] at HPA
  have HLA := hid (fun t W (h : Below w.heap.size w W) => show Calls Tryz.prog 23 #[v, .string t] W fun e w' => e = .returned (.string (latV Q t)) ∧ Below W.heap.size W w' from
    (latest_any Q t v (A 0) (A 1) m W hL hq (S.below h).vs (tab_below htab h) (hv.below h)).mono fun e w' ⟨X, h1, h2, h3⟩ => ⟨by rw [h1, latV_of h2], h3⟩)
  have HNX := hid (fun k (hk : k < (phX Q).length) => lt_next (Q := Q) hk)
  have HLL := hid (fun k => show (ltL Q ((phX Q).take k)).length ≤ 1000 by rw [ltL_len, List.length_take]; have := ph_len Q; omega)
  have hpl : (phX Q).length ≤ 1000 := Nat.le_trans (ph_len Q) hL
  obtain ⟨a, c, hv1, -⟩ := id hv
  subst hv1
  obtain ⟨i0, hi0, hz0, hz1, hz2⟩ := info_parts infoMod
  clear S htab hv hq
  generalize phX Q = X at *
  go_enter Tryz.func45, Tryz.ntmps45
  go_wp2_with fail
  refine HPA.out.mono ?_
  rintro e w1 ⟨u, rfl, hu, hb⟩
  have HB1 := hid hb
  have HX1 := hid (own_tx hu)
  obtain ⟨ua, uc, hus⟩ := own_slN hu
  subst hus
  clear hu hb HPA
  go_wp2_with fail
  go_loopw [3, 9] (fun ov iv wr => ∃ i : Nat, i ≤ X.length ∧ iv = .int .i64 i ∧ Hid (wr.ownsRow w1.heap.size 38 2 ov (ltL Q (X.take i)).length (flatM (ltL Q (X.take i)))) ∧ Hid (Below w1.heap.size w1 wr)) (fun _ iv _ => X.length - (intOf iv).toNat)
  case atStart => exact ⟨0, Nat.zero_le _, rfl, hid (World.ownsRow_nil _ _ _ _), hid (Below.refl _ _)⟩
  case round =>
    obtain ⟨i, hi, rfl, HOW, HBr⟩ := hrel
    by_cases hlt : i < X.length
    · have hiI := ix_lt hlt
      have hii := ix_pos i
      have HLI := hid hlt
      obtain ⟨xb, xo, hxa, y9⟩ := tx_cellK HX1.out hlt
      subst hxa
      have y0 := cell_below HBr.out y9
      have HN := hid (HNX.out i hlt)
      have HLN := hid (HLL.out i)
      have HLT := hid (HLA.out X[i])
      generalize X[i] = x at *
      obtain ⟨SX, hSX⟩ : ∃ SX, ltL Q (X.take i) = SX := ⟨_, rfl⟩
      rw [hSX] at HOW HN HLN
      generalize latV Q x = lv at *
      clear hSX hlt y9
      go_wp2_with fail
      refine (HLT.out _ (HB1.out.trans (HBr.out.mono HB1.out.size))).mono ?_
      rintro e w2 ⟨rfl, hb⟩
      have HB2 := hid (HBr.out.trans (hb.mono HBr.out.size))
      have HO2 := hid (owns_below HOW.out hb)
      have hsx := HLN.out
      clear hb y0 HOW HLT
      go_wp2_with (at_builtin; refine wpList_append_own _ rfl _ _ 23 rfl w1.heap.size 38 i0 _ 2 32 Tryz.underlying23 hi0 hz0 hz1 hz2 rfl (by decide) _ _ _ rfl (HO2.out.alloc _) ⟨w2.heap.size, 0, none⟩ 1 1 [.string x, .string lv] rfl rfl ?c1 ?c2 ?c3 ?c4 ?c5 ?_)
      case c1 => exact World.news_of_block (cs := #[.string x, .string lv]) (heap_new _ _)
      case c2 => intro u hu; simp at hu; rcases hu with rfl | rfl <;> rfl
      case c3 => unfold maxLen; omega
      case c4 => omega
      case c5 => have := HB2.out.size; simp; omega
      intro v' w6 hown hgrow _
      have HR3 := hid (rel_app2 HB2.out.size HB2.out HO2.out (Below.refl _ _) hgrow)
      have HO4 := hid (show w6.ownsRow w1.heap.size 38 2 v' (SX ++ [(x, lv)]).length (flatM (SX ++ [(x, lv)])) by rw [List.length_append, flatM_app]; exact hown)
      clear hown hgrow
      go_wp2_with fail
      go_roundw
      case rel => exact ⟨i + 1, HLI.out, by first | exact nr_idx i | exact nx_idx HLI.out (by omega : X.length ≤ 1000000), by rw [HN.out]; exact HO4, HR3⟩
      case measure => first | exact nr_meas HLI.out | exact nx_meas HLI.out (by omega : X.length ≤ 1000000)
    · have hiI := ix_nlt hlt
      have HTR := hid (show X.take i = X from List.take_of_length_le (by omega))
      rw [HTR.out] at HOW
      clear hlt
      go_wp2_with fail
      go_ret
      exact ⟨_, rfl, own_baseN HOW.out HB1.out.size, HB1.out.trans (HBr.out.mono HB1.out.size)⟩
set_option maxRecDepth 100000 in
set_option maxHeartbeats 4000000 in
theorem pwho_any (Q : List Raw) (L : List Ent) (p : ByteArray) (v : Value) (A : Nat → Addr) (m : Int) (w : World) (hL : L.length ≤ 200) (sh : ∀ e, e ∈ L → ShE e) (hq : shQ Q) (S : Te w A m) (htab : Lib.TabIs Tryz.prog w powName .u64 Lib.pow10Tab) (I : Ixs w v Q L) :
    Calls Tryz.prog 20 #[v, .string p] w fun e w' => ∃ u x, e = .returned (.tuple #[u, x]) ∧ MsAt w' u (whX Q L p) ∧ ErrAt w' A x (chk Q L).1 (chk Q L).2 ∧ Below w.heap.size w w' := by
  have HIC := hid (icheck_any Q L v A m w (by omega) sh S I)
  obtain ⟨a, c, hv1, -⟩ := id I.es
  subst hv1
  by_cases hc : (chk Q L).1 = 0
  · have hqn : Q.length ≤ 1000 := by rw [I.ln]; omega
    have HLT := hid (fun W (h : Below w.heap.size w W) => lts_any Q _ A m W hqn hq (S.below h) (tab_below htab h) (I.es.below h))
    have hU : ∀ x, x ∈ ltL Q (phX Q) → x ∈ univ L := fun x hx => by
      obtain ⟨h1, h2⟩ := ltL_mem.1 hx
      have := lat_univ I hc h1
      rw [← h2] at this
      exact this
    have HHV := hid (fun u W (h : Below w.heap.size w W) (hm : MsAt W u (ltL Q (phX Q))) => hav_any Q L (ltL Q (phX Q)) p _ u W (by omega) sh (by rw [ltL_len]; have := ph_len Q; omega) (fun x hx => by
      obtain ⟨k, hk⟩ := (found_iff I x).1 (hU x hx)
      obtain ⟨hk2, _, h3, _⟩ := pk_is I hk
      refine ⟨?_, k, hk⟩
      rw [← h3]
      have := (hq _ (List.getElem_mem hk2)).1
      omega) (I.below h) hm (hv_few I hc hU ltL_nd p))
    have HWH := hid (fun D (h : Falls plen (hvL Q L (ltL Q (phX Q)) p) D) => who_hv I hc hq h)
    have HCC := hid hc
    clear S I hq sh hc htab hU
    generalize whX Q L p = WX at *
    generalize ltL Q (phX Q) = LX at *
    go_enter Tryz.func20, Tryz.ntmps20
    go_wp2_with fail
    refine HIC.out.mono ?_
    rintro e w1 ⟨x, rfl, he, hb⟩
    have HEE := hid he
    have HB1 := hid hb
    rcases he.kind with ⟨-, rfl⟩ | ⟨h0, -⟩
    · clear he hb HIC
      go_wp2_with fail
      refine (HLT.out w1 HB1.out).mono ?_
      rintro e w2 ⟨u, rfl, hu, hb⟩
      have HB2 := hid (HB1.out.trans (hb.mono HB1.out.size))
      have HEE2 := hid (HEE.out.below hb)
      have HH2 := hid (HHV.out u w2 HB2.out (own_ms hu))
      obtain ⟨ua, uc, hus⟩ := own_slN hu
      subst hus
      clear hu hb HLT HHV HB1 HEE
      go_wp2_with fail
      refine HH2.out.mono ?_
      rintro e w3 ⟨u, D, rfl, hfa, hM⟩
      have HB3 := hid (HB2.out.trans (hM.1.mono HB2.out.size))
      have HEE3 := hid (HEE2.out.below hM.1)
      have HM3 := hid hM.ms
      rw [HWH.out D hfa] at HM3
      obtain ⟨va, vc, hvs⟩ := hM.sl
      subst hvs
      clear hM hfa HH2
      go_wp2_with fail
      go_ret2
      exact ⟨_, _, rfl, HM3.out, HEE3.out, HB3.out⟩
    · exact absurd HCC.out h0
  · have hW : whX Q L p = [] := by unfold whX; rw [if_neg hc]
    rw [hW]
    have HCC := hid hc
    clear S I hq sh hc htab hW
    go_enter Tryz.func20, Tryz.ntmps20
    go_wp2_with fail
    refine HIC.out.mono ?_
    rintro e w1 ⟨x, rfl, he, hb⟩
    have HEE := hid he
    have HB1 := hid hb
    rcases he.kind with ⟨h0, -⟩ | ⟨-, T', ea, rfl⟩
    · exact absurd h0 HCC.out
    · clear he hb HIC
      go_wp2_with fail
      go_ret2
      exact ⟨_, _, rfl, ⟨none, 0, rfl, Nat.le_refl _, fun h => absurd rfl h⟩, HEE.out, HB1.out⟩
def DsT (w : World) : Prop := ∃ A m, Te w A m ∧ Ds w A
theorem ptr_one {a b : Addr} {T : TypeId} {x : Option Value} (h1 : x = some (.iface T (.pointer (some a)))) (h2 : x = some (.iface T (.pointer (some b)))) : a = b := by
  rw [h1] at h2
  injection h2 with h2
  injection h2 with _ h2
  injection h2 with h2
  injection h2
theorem ds_of {w : World} {A : Nat → Addr} {m : Int} (h : DsT w) (S : Te w A m) : Ds w A := by
  obtain ⟨B, n, S', D⟩ := h
  have e0 : B 0 = A 0 := ptr_one S'.sen.g0 S.sen.g0
  have e1 : B 1 = A 1 := ptr_one S'.sen.g1 S.sen.g1
  have e3 : B 3 = A 3 := ptr_one S'.sen.g3 S.sen.g3
  have b0 := D.b0
  have b1 := D.b1
  have b3 := D.b3
  have n0 := D.n0
  have n1 := D.n1
  rw [e0] at b0 n0
  rw [e1] at b1 n1
  rw [e3] at b3 n0 n1
  exact ⟨b0, b1, b3, n0, n1⟩
theorem ds_stay : StayK DsT := fun _ _ ⟨A, m, S, D⟩ hb => ⟨A, m, S.below hb, D.below hb⟩
def TabP (w : World) : Prop := Lib.TabIs Tryz.prog w powName .u64 Lib.pow10Tab ∧ DsT w
theorem keep_tabP : StayK TabP := fun W W' h hb => ⟨tab_below h.1 hb, ds_stay W W' h.2 hb⟩
theorem pof_c : OfC TabP := fun Q L R p v rv A m w hL sh hq hR h19 hp S hT I hr => pof_any Q L R p v rv A m w hL sh hq hR h19 hp S (ds_of hT.2 S) I hr
theorem pall_c : AllC TabP := fun Q L R v rv A m w hL sh hq hR S _ I hr => pall_any Q L R v rv A m w hL sh hq hR S I hr
theorem pwho_c : WhoC TabP := fun Q L p v A m w hL sh hq _ S hT I => pwho_any Q L p v A m w hL sh hq S hT.1 I
end Ve
end Go.Proofs.YtjndahjfodnllaaGreatDoor


namespace Go.Proofs.YtjndahjfodnllaaGreatDoor
open Go.RowKit Go.Maps
namespace Ve
end Ve
end Go.Proofs.YtjndahjfodnllaaGreatDoor


namespace Go.Proofs.YtjndahjfodnllaaGreatDoor
open Go.RowKit Go.Maps
namespace Ve
theorem bx2 {W : World} {g : Nat} {x y : Value} {T : TypeId} (h : W.heap[g]? = some (.cells #[x, y] T (0, 0))) : W.cell? ⟨g, 0, none⟩ = some x ∧ W.cell? ⟨g, 1, none⟩ = some y ∧ ∀ o, W.frozen? ⟨g, o, none⟩ = false :=
  ⟨by rw [Lib.cell_of_heap h]; rfl, by rw [Lib.cell_of_heap h]; rfl, fun o => Lib.frozen_of_heap h o⟩
end Ve
end Go.Proofs.YtjndahjfodnllaaGreatDoor


namespace Go.Proofs.YtjndahjfodnllaaGreatDoor
open Go.RowKit Go.Maps
namespace Ve
end Ve
end Go.Proofs.YtjndahjfodnllaaGreatDoor


namespace Go.Proofs.YtjndahjfodnllaaGreatDoor
open Go.RowKit Go.Maps
namespace Ve
end Ve
end Go.Proofs.YtjndahjfodnllaaGreatDoor


namespace Go.Proofs.YtjndahjfodnllaaGreatDoor
open Go.RowKit Go.Maps
namespace Ve
end Ve
end Go.Proofs.YtjndahjfodnllaaGreatDoor


namespace Go.Proofs.YtjndahjfodnllaaGreatDoor
open Go.RowKit Go.Maps
namespace Ve
end Ve
end Go.Proofs.YtjndahjfodnllaaGreatDoor


namespace Go.Proofs.YtjndahjfodnllaaGreatDoor
open Go.RowKit Go.Maps
namespace Ve
end Ve
end Go.Proofs.YtjndahjfodnllaaGreatDoor


namespace Go.Proofs.YtjndahjfodnllaaGreatDoor
open Go.RowKit Go.Maps
namespace Ve
end Ve
end Go.Proofs.YtjndahjfodnllaaGreatDoor


namespace Go.Proofs.YtjndahjfodnllaaGreatDoor
open Go.RowKit Go.Maps
namespace Ve
end Ve
end Go.Proofs.YtjndahjfodnllaaGreatDoor


namespace Go.Proofs.YtjndahjfodnllaaGreatDoor
open Go.RowKit Go.Maps
namespace Ve
end Ve
end Go.Proofs.YtjndahjfodnllaaGreatDoor


namespace Go.Proofs.YtjndahjfodnllaaGreatDoor
open Go.RowKit Go.Maps
namespace Ve
end Ve
end Go.Proofs.YtjndahjfodnllaaGreatDoor


namespace Go.Proofs.YtjndahjfodnllaaGreatDoor
open Go.RowKit Go.Maps
namespace Ve
end Ve
end Go.Proofs.YtjndahjfodnllaaGreatDoor


namespace Go.Proofs.YtjndahjfodnllaaGreatDoor
open Go.RowKit Go.Maps
namespace Ve
def CutP (Φ : Nat → World → Prop) (F : Nat → Act) : Exit → Act → World → Prop
  | .normal, a', w' => ∃ mb, Φ mb w' ∧ a' = F mb
  | _, _, _ => False
theorem wp_cut {P : Program} {c : Code} {K : Exit → Act → World → Prop} {a : Act} {w : World} (Φ : Nat → World → Prop) (h : ∃ F : Nat → Act, c.wp P (CutP Φ F) a w ∧ ∀ mb w', Φ mb w' → K Exit.normal (F mb) w') : c.wp P K a w := by
  obtain ⟨F, h1, h2⟩ := h
  refine Code.wp_mono (fun ex a' w' q => ?_) h1
  cases ex with
  | normal =>
    obtain ⟨mb, hp, rfl⟩ := q
    exact h2 mb w' hp
  | _ => exact q.elim
end Ve
end Go.Proofs.YtjndahjfodnllaaGreatDoor


namespace Go.Proofs.YtjndahjfodnllaaGreatDoor
open Go.RowKit Go.Maps
namespace Ve
def qa0 : Bm := (⟨#[97]⟩, ⟨#[118, 49, 46, 48, 46, 48]⟩)
def qa1 : Bm := (⟨#[97]⟩, ⟨#[118, 49, 46, 49, 46, 48]⟩)
def qb0 : Bm := (⟨#[98]⟩, ⟨#[118, 48, 46, 49, 46, 48]⟩)
def qb1 : Bm := (⟨#[98]⟩, ⟨#[118, 48, 46, 50, 46, 48, 45, 114, 99]⟩)
def s3L : List Ent := [(qa0, [], [⟨#[46]⟩, ⟨#[120]⟩], false), (qa1, [qb0], [⟨#[46]⟩], false), (qb0, [], [], false), (qb1, [], [], false)]
def s3Q (g : Nat) : List Raw := [(qa0, .slice none 0 0, .slice (some ⟨g, 0, none⟩) 2 2, false), (qa1, .slice (some ⟨g + 1, 0, none⟩) 1 1, .slice (some ⟨g + 2, 0, none⟩) 1 1, false), (qb0, .slice none 0 0, .slice none 0 0, false), (qb1, .slice none 0 0, .slice none 0 0, false)]
theorem s3_e0 : entE s3L 0 = 0 := by
  show entW none _ = 0
  rw [entW_none (by kernel_rfl), entR_pack (by decide) (by kernel_rfl)]
  exact pk_rise (by decide) (by kernel_rfl) (fun j hj => by
    have : j = 0 := by simp [bl] at hj; omega
    subst this; exact of_decide_eq_true (by kernel_rfl))
theorem s3_e1 : entE s3L 1 = 0 := by
  show entW (some _) _ = 0
  rw [entW_some (by kernel_rfl) (by kernel_rfl), entR_pack (by decide) (by kernel_rfl)]
  exact pk_rise (by decide) (by kernel_rfl) (fun j hj => by simp [bl] at hj)
theorem s3_e2 : entE s3L 2 = 0 := by
  show entW (some _) _ = 0
  rw [entW_some (by kernel_rfl) (by kernel_rfl), entR_pack (by decide) (by kernel_rfl)]
  exact pk_rise (by decide) (by kernel_rfl) (fun j hj => by simp [bl] at hj)
theorem s3_e3 : entE s3L 3 = 0 := by
  show entW (some _) _ = 0
  rw [entW_some (by kernel_rfl) (by kernel_rfl), entR_pack (by decide) (by kernel_rfl)]
  exact pk_rise (by decide) (by kernel_rfl) (fun j hj => by simp [bl] at hj)
theorem s3_chk (g : Nat) : chk (s3Q g) s3L = (0, none) := by
  have h2 : ∀ j, j < 4 → entE s3L j = 0 := fun j hj => by
    rcases (by omega : j = 0 ∨ j = 1 ∨ j = 2 ∨ j = 3) with rfl | rfl | rfl | rfl
    · exact s3_e0
    · exact s3_e1
    · exact s3_e2
    · exact s3_e3
  have h : fstE (entE s3L) s3L.length = none := fstE_none h2
  rw [chk_reqs (by decide) h]
  exact Prod.ext (show codeE (reqE2 (s3Q g) s3L) s3L.length = 0 by kernel_rfl) (show fstE (reqE2 (s3Q g) s3L) s3L.length = none by kernel_rfl)
theorem s3_sh : ∀ e, e ∈ s3L → ShE e := fun e he => by
  have : e = s3L[0] ∨ e = s3L[1] ∨ e = s3L[2] ∨ e = s3L[3] := by simpa [s3L] using he
  rcases this with rfl | rfl | rfl | rfl
  · exact ⟨by decide, by decide, by decide, fun m hm => (by cases hm), by decide, fun x hx => (by
      have : x = ⟨#[46]⟩ ∨ x = ⟨#[120]⟩ := by simpa [s3L] using hx
      rcases this with rfl | rfl <;> decide)⟩
  · exact ⟨by decide, by decide, by decide, fun m hm => (by have : m = qb0 := List.mem_singleton.1 hm
                                                            subst this; exact ⟨by decide, by decide⟩), by decide, fun x hx => (by have : x = ⟨#[46]⟩ := List.mem_singleton.1 hx
                                                                                                                                  subst this; decide)⟩
  · exact ⟨by decide, by decide, by decide, fun m hm => (by cases hm), by decide, fun x hx => (by cases hx)⟩
  · exact ⟨by decide, by decide, by decide, fun m hm => (by cases hm), by decide, fun x hx => (by cases hx)⟩
theorem s3_ixs {W : World} {g q : Nat} (hb : W.heap[q]? = some (.cells #[.string ⟨#[97]⟩, .string ⟨#[118, 49, 46, 48, 46, 48]⟩, .slice none 0 0, .slice (some ⟨g, 0, none⟩) 2 2, .bool false, .string ⟨#[97]⟩, .string ⟨#[118, 49, 46, 49, 46, 48]⟩, .slice (some ⟨g + 1, 0, none⟩) 1 1, .slice (some ⟨g + 2, 0, none⟩) 1 1, .bool false, .string ⟨#[98]⟩, .string ⟨#[118, 48, 46, 49, 46, 48]⟩, .slice none 0 0, .slice none 0 0, .bool false, .string ⟨#[98]⟩, .string ⟨#[118, 48, 46, 50, 46, 48, 45, 114, 99]⟩, .slice none 0 0, .slice none 0 0, .bool false] 61 (0, 0)))
    (hp : W.heap[g]? = some (.cells #[.string ⟨#[46]⟩, .string ⟨#[120]⟩] 9 (0, 0))) (hg : W.heap[g + 1]? = some (.cells #[.string ⟨#[98]⟩, .string ⟨#[118, 48, 46, 49, 46, 48]⟩] 38 (0, 0))) (hd : W.heap[g + 2]? = some (.cells #[.string ⟨#[46]⟩] 9 (0, 0))) :
    Ixs W (.slice (some ⟨q, 0, none⟩) 4 4) (s3Q g) s3L := by
  have msn : MsAt W (.slice none 0 0) [] := ⟨none, 0, rfl, Nat.le_refl _, fun h => absurd rfl h⟩
  have txn : TxAt W (.slice none 0 0) [] := ⟨none, 0, rfl, Nat.le_refl _, fun h => absurd rfl h⟩
  have msb : MsAt W (.slice (some ⟨g + 1, 0, none⟩) 1 1) [qb0] := ⟨some ⟨g + 1, 0, none⟩, 1, rfl, Nat.le_refl _, fun _ => ⟨g + 1, 0, rfl, fun j hj => by
    have : j = 0 := by simp at hj; exact hj
    subst this
    refine ⟨?_, ?_⟩ <;> (rw [Lib.cell_of_heap hg]; rfl)⟩⟩
  have tx1 : TxAt W (.slice (some ⟨g, 0, none⟩) 2 2) [⟨#[46]⟩, ⟨#[120]⟩] := ⟨some ⟨g, 0, none⟩, 2, rfl, Nat.le_refl _, fun _ => ⟨g, 0, rfl, fun j hj => by
    have hj2 : j < 2 := hj
    rcases (by omega : j = 0 ∨ j = 1) with rfl | rfl
    · rw [Lib.cell_of_heap hp]; rfl
    · rw [Lib.cell_of_heap hp]; rfl⟩⟩
  have tx2 : TxAt W (.slice (some ⟨g + 2, 0, none⟩) 1 1) [⟨#[46]⟩] := ⟨some ⟨g + 2, 0, none⟩, 1, rfl, Nat.le_refl _, fun _ => ⟨g + 2, 0, rfl, fun j hj => by
    have : j = 0 := by simp at hj; exact hj
    subst this
    rw [Lib.cell_of_heap hd]; rfl⟩⟩
  refine ⟨⟨some ⟨q, 0, none⟩, 4, rfl, Nat.le_refl _, fun r hr => ?_, fun _ => ⟨q, 0, rfl, fun j hj => ?_⟩⟩, rfl, fun j h1 h2 => ?_⟩
  · rcases List.mem_cons.1 hr with rfl | hr
    · exact ⟨⟨none, 0, 0, rfl⟩, _, _, _, rfl⟩
    rcases List.mem_cons.1 hr with rfl | hr
    · exact ⟨⟨_, _, _, rfl⟩, _, _, _, rfl⟩
    rcases List.mem_cons.1 hr with rfl | hr
    · exact ⟨⟨none, 0, 0, rfl⟩, none, 0, 0, rfl⟩
    rw [List.mem_singleton.1 hr]
    exact ⟨⟨none, 0, 0, rfl⟩, none, 0, 0, rfl⟩
  · have hj2 : j < 4 := hj
    rcases (by omega : j = 0 ∨ j = 1 ∨ j = 2 ∨ j = 3) with rfl | rfl | rfl | rfl
    · refine ⟨?_, ?_, ?_, ?_, ?_⟩ <;> (rw [Lib.cell_of_heap hb]; rfl)
    · refine ⟨?_, ?_, ?_, ?_, ?_⟩ <;> (rw [Lib.cell_of_heap hb]; rfl)
    · refine ⟨?_, ?_, ?_, ?_, ?_⟩ <;> (rw [Lib.cell_of_heap hb]; rfl)
    · refine ⟨?_, ?_, ?_, ?_, ?_⟩ <;> (rw [Lib.cell_of_heap hb]; rfl)
  · have hj2 : j < 4 := h1
    rcases (by omega : j = 0 ∨ j = 1 ∨ j = 2 ∨ j = 3) with rfl | rfl | rfl | rfl
    · exact ⟨rfl, msn, tx1, rfl⟩
    · exact ⟨rfl, msb, tx2, rfl⟩
    · exact ⟨rfl, msn, txn, rfl⟩
    · exact ⟨rfl, msn, txn, rfl⟩
set_option maxHeartbeats 2000000 in
theorem small3_any (w : World) : Calls Tryz.prog 25 #[] w fun e w' => ∃ g q, e = .returned (.slice (some ⟨q, 0, none⟩) 4 4) ∧ Ixs w' (.slice (some ⟨q, 0, none⟩) 4 4) (s3Q g) s3L ∧ Below w.heap.size w w' := by
  have a1 := heap_new w (.cells #[.string ⟨#[46]⟩, .string ⟨#[120]⟩] 9)
  have z1 : (w.alloc (.cells #[.string ⟨#[46]⟩, .string ⟨#[120]⟩] 9)).heap.size = w.heap.size + 1 := by simp
  have b1 := (Below.refl w.heap.size w).alloc (Nat.le_refl _) (.cells #[.string ⟨#[46]⟩, .string ⟨#[120]⟩] 9)
  obtain ⟨w1, hw1⟩ : ∃ w1, w.alloc (.cells #[.string ⟨#[46]⟩, .string ⟨#[120]⟩] 9) = w1 := ⟨_, rfl⟩
  rw [hw1] at a1 z1 b1
  have a2 := heap_new w1 (.cells #[.string ⟨#[98]⟩, .string ⟨#[118, 48, 46, 49, 46, 48]⟩] 38)
  have c1 := heap_old w1 (.cells #[.string ⟨#[98]⟩, .string ⟨#[118, 48, 46, 49, 46, 48]⟩] 38) a1
  have b2 := b1.alloc b1.size (.cells #[.string ⟨#[98]⟩, .string ⟨#[118, 48, 46, 49, 46, 48]⟩] 38)
  have z2 : (w1.alloc (.cells #[.string ⟨#[98]⟩, .string ⟨#[118, 48, 46, 49, 46, 48]⟩] 38)).heap.size = w.heap.size + 2 := by simp [z1]
  rw [z1] at a2
  obtain ⟨w2, hw2⟩ : ∃ w2, w1.alloc (.cells #[.string ⟨#[98]⟩, .string ⟨#[118, 48, 46, 49, 46, 48]⟩] 38) = w2 := ⟨_, rfl⟩
  rw [hw2] at a2 c1 b2 z2
  have a3 := heap_new w2 (.cells #[.string ⟨#[46]⟩] 9)
  have c2 := heap_old w2 (.cells #[.string ⟨#[46]⟩] 9) c1
  have d2 := heap_old w2 (.cells #[.string ⟨#[46]⟩] 9) a2
  have b3 := b2.alloc b2.size (.cells #[.string ⟨#[46]⟩] 9)
  have z3 : (w2.alloc (.cells #[.string ⟨#[46]⟩] 9)).heap.size = w.heap.size + 3 := by simp [z2]
  rw [z2] at a3
  obtain ⟨w3, hw3⟩ : ∃ w3, w2.alloc (.cells #[.string ⟨#[46]⟩] 9) = w3 := ⟨_, rfl⟩
  rw [hw3] at a3 c2 d2 b3 z3
  have a4 := heap_new w3 (.cells #[.string ⟨#[97]⟩, .string ⟨#[118, 49, 46, 48, 46, 48]⟩, .slice none 0 0, .slice (some ⟨w.heap.size, 0, none⟩) 2 2, .bool false, .string ⟨#[97]⟩, .string ⟨#[118, 49, 46, 49, 46, 48]⟩, .slice (some ⟨w.heap.size + 1, 0, none⟩) 1 1, .slice (some ⟨w.heap.size + 2, 0, none⟩) 1 1, .bool false, .string ⟨#[98]⟩, .string ⟨#[118, 48, 46, 49, 46, 48]⟩, .slice none 0 0, .slice none 0 0, .bool false, .string ⟨#[98]⟩, .string ⟨#[118, 48, 46, 50, 46, 48, 45, 114, 99]⟩, .slice none 0 0, .slice none 0 0, .bool false] 61)
  have c3 := heap_old w3 (.cells #[.string ⟨#[97]⟩, .string ⟨#[118, 49, 46, 48, 46, 48]⟩, .slice none 0 0, .slice (some ⟨w.heap.size, 0, none⟩) 2 2, .bool false, .string ⟨#[97]⟩, .string ⟨#[118, 49, 46, 49, 46, 48]⟩, .slice (some ⟨w.heap.size + 1, 0, none⟩) 1 1, .slice (some ⟨w.heap.size + 2, 0, none⟩) 1 1, .bool false, .string ⟨#[98]⟩, .string ⟨#[118, 48, 46, 49, 46, 48]⟩, .slice none 0 0, .slice none 0 0, .bool false, .string ⟨#[98]⟩, .string ⟨#[118, 48, 46, 50, 46, 48, 45, 114, 99]⟩, .slice none 0 0, .slice none 0 0, .bool false] 61) c2
  have d3 := heap_old w3 (.cells #[.string ⟨#[97]⟩, .string ⟨#[118, 49, 46, 48, 46, 48]⟩, .slice none 0 0, .slice (some ⟨w.heap.size, 0, none⟩) 2 2, .bool false, .string ⟨#[97]⟩, .string ⟨#[118, 49, 46, 49, 46, 48]⟩, .slice (some ⟨w.heap.size + 1, 0, none⟩) 1 1, .slice (some ⟨w.heap.size + 2, 0, none⟩) 1 1, .bool false, .string ⟨#[98]⟩, .string ⟨#[118, 48, 46, 49, 46, 48]⟩, .slice none 0 0, .slice none 0 0, .bool false, .string ⟨#[98]⟩, .string ⟨#[118, 48, 46, 50, 46, 48, 45, 114, 99]⟩, .slice none 0 0, .slice none 0 0, .bool false] 61) d2
  have e3 := heap_old w3 (.cells #[.string ⟨#[97]⟩, .string ⟨#[118, 49, 46, 48, 46, 48]⟩, .slice none 0 0, .slice (some ⟨w.heap.size, 0, none⟩) 2 2, .bool false, .string ⟨#[97]⟩, .string ⟨#[118, 49, 46, 49, 46, 48]⟩, .slice (some ⟨w.heap.size + 1, 0, none⟩) 1 1, .slice (some ⟨w.heap.size + 2, 0, none⟩) 1 1, .bool false, .string ⟨#[98]⟩, .string ⟨#[118, 48, 46, 49, 46, 48]⟩, .slice none 0 0, .slice none 0 0, .bool false, .string ⟨#[98]⟩, .string ⟨#[118, 48, 46, 50, 46, 48, 45, 114, 99]⟩, .slice none 0 0, .slice none 0 0, .bool false] 61) a3
  have b4 := b3.alloc b3.size (.cells #[.string ⟨#[97]⟩, .string ⟨#[118, 49, 46, 48, 46, 48]⟩, .slice none 0 0, .slice (some ⟨w.heap.size, 0, none⟩) 2 2, .bool false, .string ⟨#[97]⟩, .string ⟨#[118, 49, 46, 49, 46, 48]⟩, .slice (some ⟨w.heap.size + 1, 0, none⟩) 1 1, .slice (some ⟨w.heap.size + 2, 0, none⟩) 1 1, .bool false, .string ⟨#[98]⟩, .string ⟨#[118, 48, 46, 49, 46, 48]⟩, .slice none 0 0, .slice none 0 0, .bool false, .string ⟨#[98]⟩, .string ⟨#[118, 48, 46, 50, 46, 48, 45, 114, 99]⟩, .slice none 0 0, .slice none 0 0, .bool false] 61)
  rw [z3] at a4
  have HX := hid (s3_ixs a4 c3 d3 e3)
  have HB := hid b4
  subst hw3 hw2 hw1
  clear a1 a2 a3 a4 b1 b2 b3 b4 c1 c2 c3 d2 d3 e3
  go_enter Tryz.func25, Tryz.ntmps25
  go_wp2_with fail
  go_ret
  exact ⟨w.heap.size, w.heap.size + 3, rfl, HX.out, HB.out⟩
end Ve
end Go.Proofs.YtjndahjfodnllaaGreatDoor
