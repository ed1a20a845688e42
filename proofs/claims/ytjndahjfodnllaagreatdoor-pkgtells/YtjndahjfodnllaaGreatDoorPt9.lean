
import Derived.Test.YtjndahjfodnllaaGreatDoorPt8
import Derived.Test.YtjndahjfodnllaaGreatDoorPt7
import Derived.Test.YtjndahjfodnllaaGreatDoorPt3
import Derived.Test.YtjndahjfodnllaaGreatDoorPt4
import Derived.Test.YtjndahjfodnllaaGreatDoorPt5
import Derived.Test.YtjndahjfodnllaaGreatDoorPt1
namespace Go.Proofs.YtjndahjfodnllaaGreatDoor
open Go.RowKit
namespace Ve
theorem ph_len (Q : List Raw) : (phX Q).length ≤ Q.length := by
  unfold phX
  have := fold_len (Z := pathL Q) (X := [])
  rw [pathL_len] at this
  simpa using this
theorem lt_next {Q : List Raw} {X : List ByteArray} {k : Nat} (hk : k < X.length) : ltL Q (X.take (k + 1)) = ltL Q (X.take k) ++ [(X[k], latV Q X[k])] := by
  unfold ltL
  rw [List.take_succ_eq_append_getElem hk, List.map_append]; rfl
theorem ltL_len (Q : List Raw) (X : List ByteArray) : (ltL Q X).length = X.length := by unfold ltL; rw [List.length_map]
set_option maxRecDepth 100000 in
set_option maxHeartbeats 4000000 in
theorem lts_any (Q : List Raw) (v : Value) (A : Nat → Addr) (m : Int) (w : World) (hL : Q.length ≤ 1000) (hq : shQ Q) (S : Te w A m) (htab : Lib.TabIs Tryz.prog w powName .u64 Lib.pow10Tab) (hv : EsAt w v Q) :
    Calls Tryz.prog 45 #[v] w fun e w' => ∃ u, e = .returned u ∧ w'.ownsRow w.heap.size 38 2 u (ltL Q (phX Q)).length (flatM (ltL Q (phX Q))) ∧ Below w.heap.size w w' := by
  have HPA := hid (paths_any Q v w hL hv)
  rw [show tx (risB (bl (pathL Q))) = phX Q from tx_ris _] at HPA
  have HLA := hid (fun t W (h : Below w.heap.size w W) => show Calls Tryz.prog 23 #[v, .string t] W fun e w' => e = .returned (.string (latV Q t)) ∧ Below W.heap.size W w' from
    (latest_any Q t v (A 0) (A 1) m W hL hq (S.below h).vs (tab_below htab h) (hv.below h)).mono fun e w' ⟨X, h1, h2, h3⟩ => ⟨by rw [h1, latV_of h2], h3⟩)
  have HNX := hid (fun k (hk : k < (phX Q).length) => lt_next (Q := Q) hk)
  have HLL := hid (fun k => show (ltL Q ((phX Q).take k)).length ≤ 1000 by rw [ltL_len, List.length_take]; have := ph_len Q; omega)
  have hpl : (phX Q).length ≤ 1000 := Nat.le_trans (ph_len Q) hL
  obtain ⟨a, c, hv1, -⟩ := id hv
  subst hv1
  obtain ⟨i0, hi0, hz0, hz1, hz2⟩ := info_parts infoMod
  clear S htab hv hq
  generalize phX Q = X at *
  go_enter Tryz.func45, Tryz.ntmps45
  go_wp2_with fail
  refine HPA.out.mono ?_
  rintro e w1 ⟨u, rfl, hu, hb⟩
  have HB1 := hid hb
  have HX1 := hid (own_tx hu)
  obtain ⟨ua, uc, hus⟩ := own_slN hu
  subst hus
  clear hu hb HPA
  go_wp2_with fail
  go_loopw [3, 9] (fun ov iv wr => ∃ i : Nat, i ≤ X.length ∧ iv = .int .i64 i ∧ Hid (wr.ownsRow w1.heap.size 38 2 ov (ltL Q (X.take i)).length (flatM (ltL Q (X.take i)))) ∧ Hid (Below w1.heap.size w1 wr)) (fun _ iv _ => X.length - (intOf iv).toNat)
  case atStart => exact ⟨0, Nat.zero_le _, rfl, hid (World.ownsRow_nil _ _ _ _), hid (Below.refl _ _)⟩
  case round =>
    obtain ⟨i, hi, rfl, HOW, HBr⟩ := hrel
    by_cases hlt : i < X.length
    · have hiI := ix_lt hlt
      have hii := ix_pos i
      have HLI := hid hlt
      obtain ⟨xb, xo, hxa, y9⟩ := tx_cellK HX1.out hlt
      subst hxa
      have y0 := cell_below HBr.out y9
      have HN := hid (HNX.out i hlt)
      have HLN := hid (HLL.out i)
      have HLT := hid (HLA.out X[i])
      generalize X[i] = x at *
      obtain ⟨SX, hSX⟩ : ∃ SX, ltL Q (X.take i) = SX := ⟨_, rfl⟩
      rw [hSX] at HOW HN HLN
      generalize latV Q x = lv at *
      clear hSX hlt y9
      go_wp2_with fail
      refine (HLT.out _ (HB1.out.trans (HBr.out.mono HB1.out.size))).mono ?_
      rintro e w2 ⟨rfl, hb⟩
      have HB2 := hid (HBr.out.trans (hb.mono HBr.out.size))
      have HO2 := hid (owns_below HOW.out hb)
      have hsx := HLN.out
      clear hb y0 HOW HLT
      go_wp2_with (at_builtin; refine wpList_append_own _ rfl _ _ 23 rfl w1.heap.size 38 i0 _ 2 32 Tryz.underlying23 hi0 hz0 hz1 hz2 rfl (by decide) _ _ _ rfl (HO2.out.alloc _) ⟨w2.heap.size, 0, none⟩ 1 1 [.string x, .string lv] rfl rfl ?c1 ?c2 ?c3 ?c4 ?c5 ?_)
      case c1 => exact World.news_of_block (cs := #[.string x, .string lv]) (heap_new _ _)
      case c2 => intro u hu; simp at hu; rcases hu with rfl | rfl <;> rfl
      case c3 => unfold maxLen; omega
      case c4 => omega
      case c5 => have := HB2.out.size; simp; omega
      intro v' w6 hown hgrow _
      have HR3 := hid (rel_app2 HB2.out.size HB2.out HO2.out (Below.refl _ _) hgrow)
      have HO4 := hid (show w6.ownsRow w1.heap.size 38 2 v' (SX ++ [(x, lv)]).length (flatM (SX ++ [(x, lv)])) by rw [List.length_append, flatM_app]; exact hown)
      clear hown hgrow
      go_wp2_with fail
      go_roundw
      case rel => exact ⟨i + 1, HLI.out, by first | exact nr_idx i | exact nx_idx HLI.out (by omega : X.length ≤ 1000000), by rw [HN.out]; exact HO4, HR3⟩
      case measure => first | exact nr_meas HLI.out | exact nx_meas HLI.out (by omega : X.length ≤ 1000000)
    · have hiI := ix_nlt hlt
      have HTR := hid (show X.take i = X from List.take_of_length_le (by omega))
      rw [HTR.out] at HOW
      clear hlt
      go_wp2_with fail
      go_ret
      exact ⟨_, rfl, own_baseN HOW.out HB1.out.size, HB1.out.trans (HBr.out.mono HB1.out.size)⟩
set_option maxRecDepth 100000 in
set_option maxHeartbeats 4000000 in
theorem pwho_any (Q : List Raw) (L : List Ent) (p : ByteArray) (v : Value) (A : Nat → Addr) (m : Int) (w : World) (hL : L.length ≤ 200) (sh : ∀ e, e ∈ L → ShE e) (hq : shQ Q) (S : Te w A m) (htab : Lib.TabIs Tryz.prog w powName .u64 Lib.pow10Tab) (I : Ixs w v Q L) :
    Calls Tryz.prog 20 #[v, .string p] w fun e w' => ∃ u x, e = .returned (.tuple #[u, x]) ∧ MsAt w' u (whX Q L p) ∧ ErrAt w' A x (chk Q L).1 (chk Q L).2 ∧ Below w.heap.size w w' := by
  have HIC := hid (icheck_any Q L v A m w (by omega) sh S I)
  obtain ⟨a, c, hv1, -⟩ := id I.es
  subst hv1
  by_cases hc : (chk Q L).1 = 0
  · have hqn : Q.length ≤ 1000 := by rw [I.ln]; omega
    have HLT := hid (fun W (h : Below w.heap.size w W) => lts_any Q _ A m W hqn hq (S.below h) (tab_below htab h) (I.es.below h))
    have hU : ∀ x, x ∈ ltL Q (phX Q) → x ∈ univ L := fun x hx => by
      obtain ⟨h1, h2⟩ := ltL_mem.1 hx
      have := lat_univ I hc h1
      rw [← h2] at this
      exact this
    have HHV := hid (fun u W (h : Below w.heap.size w W) (hm : MsAt W u (ltL Q (phX Q))) => hav_any Q L (ltL Q (phX Q)) p _ u W (by omega) sh (by rw [ltL_len]; have := ph_len Q; omega) (fun x hx => by
      obtain ⟨k, hk⟩ := (found_iff I x).1 (hU x hx)
      obtain ⟨hk2, _, h3, _⟩ := pk_is I hk
      refine ⟨?_, k, hk⟩
      rw [← h3]
      have := (hq _ (List.getElem_mem hk2)).1
      omega) (I.below h) hm (hv_few I hc hU ltL_nd p))
    have HWH := hid (fun D (h : Falls plen (hvL Q L (ltL Q (phX Q)) p) D) => who_hv I hc hq h)
    have HCC := hid hc
    clear S I hq sh hc htab hU
    generalize whX Q L p = WX at *
    generalize ltL Q (phX Q) = LX at *
    go_enter Tryz.func20, Tryz.ntmps20
    go_wp2_with fail
    refine HIC.out.mono ?_
    rintro e w1 ⟨x, rfl, he, hb⟩
    have HEE := hid he
    have HB1 := hid hb
    rcases he.kind with ⟨-, rfl⟩ | ⟨h0, -⟩
    · clear he hb HIC
      go_wp2_with fail
      refine (HLT.out w1 HB1.out).mono ?_
      rintro e w2 ⟨u, rfl, hu, hb⟩
      have HB2 := hid (HB1.out.trans (hb.mono HB1.out.size))
      have HEE2 := hid (HEE.out.below hb)
      have HH2 := hid (HHV.out u w2 HB2.out (own_ms hu))
      obtain ⟨ua, uc, hus⟩ := own_slN hu
      subst hus
      clear hu hb HLT HHV HB1 HEE
      go_wp2_with fail
      refine HH2.out.mono ?_
      rintro e w3 ⟨u, D, rfl, hfa, hM⟩
      have HB3 := hid (HB2.out.trans (hM.1.mono HB2.out.size))
      have HEE3 := hid (HEE2.out.below hM.1)
      have HM3 := hid hM.ms
      rw [HWH.out D hfa] at HM3
      obtain ⟨va, vc, hvs⟩ := hM.sl
      subst hvs
      clear hM hfa HH2
      go_wp2_with fail
      go_ret2
      exact ⟨_, _, rfl, HM3.out, HEE3.out, HB3.out⟩
    · exact absurd HCC.out h0
  · have hW : whX Q L p = [] := by unfold whX; rw [if_neg hc]
    rw [hW]
    have HCC := hid hc
    clear S I hq sh hc htab hW
    go_enter Tryz.func20, Tryz.ntmps20
    go_wp2_with fail
    refine HIC.out.mono ?_
    rintro e w1 ⟨x, rfl, he, hb⟩
    have HEE := hid he
    have HB1 := hid hb
    rcases he.kind with ⟨h0, -⟩ | ⟨-, T', ea, rfl⟩
    · exact absurd h0 HCC.out
    · clear he hb HIC
      go_wp2_with fail
      go_ret2
      exact ⟨_, _, rfl, ⟨none, 0, rfl, Nat.le_refl _, fun h => absurd rfl h⟩, HEE.out, HB1.out⟩
def DsT (w : World) : Prop := ∃ A m, Te w A m ∧ Ds w A
theorem ptr_one {a b : Addr} {T : TypeId} {x : Option Value} (h1 : x = some (.iface T (.pointer (some a)))) (h2 : x = some (.iface T (.pointer (some b)))) : a = b := by
  rw [h1] at h2
  injection h2 with h2
  injection h2 with _ h2
  injection h2 with h2
  injection h2
theorem ds_of {w : World} {A : Nat → Addr} {m : Int} (h : DsT w) (S : Te w A m) : Ds w A := by
  obtain ⟨B, n, S', D⟩ := h
  have e0 : B 0 = A 0 := ptr_one S'.sen.g0 S.sen.g0
  have e1 : B 1 = A 1 := ptr_one S'.sen.g1 S.sen.g1
  have e3 : B 3 = A 3 := ptr_one S'.sen.g3 S.sen.g3
  have b0 := D.b0
  have b1 := D.b1
  have b3 := D.b3
  have n0 := D.n0
  have n1 := D.n1
  rw [e0] at b0 n0
  rw [e1] at b1 n1
  rw [e3] at b3 n0 n1
  exact ⟨b0, b1, b3, n0, n1⟩
theorem ds_stay : StayK DsT := fun _ _ ⟨A, m, S, D⟩ hb => ⟨A, m, S.below hb, D.below hb⟩
def TabP (w : World) : Prop := Lib.TabIs Tryz.prog w powName .u64 Lib.pow10Tab ∧ DsT w
theorem keep_tabP : StayK TabP := fun W W' h hb => ⟨tab_below h.1 hb, ds_stay W W' h.2 hb⟩
theorem pof_c : OfC TabP := fun Q L R p v rv A m w hL sh hq hR h19 hp S hT I hr => pof_any Q L R p v rv A m w hL sh hq hR h19 hp S (ds_of hT.2 S) I hr
theorem pall_c : AllC TabP := fun Q L R v rv A m w hL sh hq hR S _ I hr => pall_any Q L R v rv A m w hL sh hq hR S I hr
theorem pwho_c : WhoC TabP := fun Q L p v A m w hL sh hq _ S hT I => pwho_any Q L p v A m w hL sh hq S hT.1 I
end Ve
end Go.Proofs.YtjndahjfodnllaaGreatDoor


namespace Go.Proofs.YtjndahjfodnllaaGreatDoor
open Go.RowKit Go.Maps
namespace Ve
set_option maxHeartbeats 4000000 in
set_option maxRecDepth 100000 in
theorem rsel_any (Q : List Raw) (R : List Bm) (v rv : Value) (w : World) (hn : Q.length ≤ 1000) (hR : R.length ≤ 1000000) (hv : EsAt w v Q) (hr : MsAt w rv R) :
    Calls Tryz.prog 39 #[v, rv] w fun e w' => e = .returned (faultV (slF Q R)) ∧ Below w.heap.size w w' := by
  have HB0 := hid ((Below.refl w.heap.size w).alloc (Nat.le_refl _) (.cells #[.int .i64 0, .int .i64 0] 44))
  have HE0 := hid (heap_new w (.cells #[.int .i64 0, .int .i64 0] 44))
  have HFO := hid (fun m W (h : Below w.heap.size w W) => findOf_all Q m v W (by omega) (hv.below h))
  have HFN := hid (fun W => fine_any W)
  have HMR := hid (fun W (h : Below w.heap.size w W) => hr.below h)
  have HGD := hid (nonE_good (Q := Q) (R := R))
  have HBD := hid (fun k (hk : k < R.length) h0 h => nonE_bad (Q := Q) hk h0 h)
  obtain ⟨a, c, hv1, -⟩ := id hv
  subst hv1
  obtain ⟨ra, rc, hrv, -⟩ := id hr
  subst hrv
  show Calls Tryz.prog 39 #[_, _] w fun e w' => e = .returned (faultV (codeE (nonE Q R) R.length, fstE (nonE Q R) R.length)) ∧ Below w.heap.size w w'
  generalize (codeE (nonE Q R) R.length, fstE (nonE Q R) R.length) = ans at *
  clear hv hr
  go_enter Tryz.func39, Tryz.ntmps39
  go_wp2_with fail
  go_loopw [5] (fun kv wr => ∃ k : Nat, k ≤ R.length ∧ kv = .int .i64 k ∧ Hid (∀ j (h : j < R.length), j < k → 0 ≤ idxOf (isM R[j]) Q) ∧ Hid (Below w.heap.size w wr) ∧ Hid (wr.heap[w.heap.size]? = some (.cells #[.int .i64 0, .int .i64 0] 44 (0, 0)))) (fun kv _ => R.length - (intOf kv).toNat)
  case atStart => exact ⟨0, Nat.zero_le _, rfl, hid (fun j _ h => absurd h (Nat.not_lt_zero _)), HB0, HE0⟩
  case round =>
    obtain ⟨k, hk, rfl, HZ3, HB3, HE3⟩ := hrel
    by_cases hlk : k < R.length
    · have hkI : (k : Int) < (R.length : Int) := by omega
      have hk0 : (0 : Int) ≤ (k : Int) := by omega
      obtain ⟨xb, xo, hxa, y0, y1⟩ := (HMR.out _ HB3.out).cells hlk
      subst hxa
      have HLK := hid hlk
      have HF := hid (HFO.out R[k] _ HB3.out)
      have HNK := hid (show 0 ≤ idxOf (isM R[k]) Q → ∀ j (h : j < R.length), j < k + 1 → 0 ≤ idxOf (isM R[j]) Q from fun h0 j h1 h3 => by
        rcases Nat.lt_or_ge j k with h | h
        · exact HZ3.out j h1 h
        · have : j = k := by omega
          subst this; exact h0)
      have HBK := hid (HBD.out k hlk HZ3.out)
      generalize R[k] = x at *
      obtain ⟨x1, x2'⟩ := x
      generalize idxOf (isM (x1, x2')) Q = ix at *
      clear hlk
      by_cases hix : ix < 0
      · have HX := hid (HBK.out hix)
        go_wp2_with fail
        refine HF.out.mono ?_
        rintro e w1 ⟨rfl, hb⟩
        have HB4 := hid (HB3.out.trans (hb.mono HB3.out.size))
        have HE4 := hid ((hb.block _ (lt_of_blk HE3.out)).trans HE3.out)
        clear hb
        have s0 : w1.cell? ⟨w.heap.size, 0, none⟩ = some (.int .i64 0) := by rw [Lib.cell_of_heap HE4.out]; rfl
        have s1 : w1.cell? ⟨w.heap.size, 1, none⟩ = some (.int .i64 0) := by rw [Lib.cell_of_heap HE4.out]; rfl
        have tf := fun o => Lib.frozen_of_heap HE4.out o
        go_wp2_with fail
        refine bodyPost_ret (v := .agg #[.int .i64 5, .int .i64 (k : Int)]) (by simp [results, Tryz.results39, go_sem, s0, s1]) rfl ⟨by rw [HX.out]; rfl, ?_⟩
        exact put2_below HB4.out (Nat.le_refl _)
      · have HN2 := hid (HNK.out (Int.not_lt.1 hix))
        go_wp2_with fail
        refine HF.out.mono ?_
        rintro e w1 ⟨rfl, hb⟩
        have HB4 := hid (HB3.out.trans (hb.mono HB3.out.size))
        have HE4 := hid ((hb.block _ (lt_of_blk HE3.out)).trans HE3.out)
        clear hb
        go_wp2_with fail
        go_roundw
        case rel => first | exact ⟨k + 1, HLK.out, nr_idx k, HN2, HB4, HE4⟩ | exact ⟨k + 1, HLK.out, nx_idx HLK.out hR, HN2, HB4, HE4⟩
        case measure => first | exact nr_meas HLK.out | exact nx_meas HLK.out hR
    · have hkI : ¬ (k : Int) < (R.length : Int) := by omega
      have HX := hid (HGD.out (fun j h => HZ3.out j h (by omega)))
      clear hlk
      go_wp2_with fail
      refine (HFN.out _).mono ?_
      rintro e w1 ⟨rfl, hb⟩
      have HB4 := hid (HB3.out.trans (hb.mono HB3.out.size))
      have HE4 := hid ((hb.block _ (lt_of_blk HE3.out)).trans HE3.out)
      clear hb
      have s0 : w1.cell? ⟨w.heap.size, 0, none⟩ = some (.int .i64 0) := by rw [Lib.cell_of_heap HE4.out]; rfl
      have s1 : w1.cell? ⟨w.heap.size, 1, none⟩ = some (.int .i64 0) := by rw [Lib.cell_of_heap HE4.out]; rfl
      have tf := fun o => Lib.frozen_of_heap HE4.out o
      go_wp2_with fail
      refine bodyPost_ret (v := .agg #[.int .i64 0, .int .i64 (-1)]) (by simp [results, Tryz.results39, go_sem, s0, s1]) rfl ⟨by rw [HX.out]; rfl, ?_⟩
      exact put2_below HB4.out (Nat.le_refl _)
end Ve
end Go.Proofs.YtjndahjfodnllaaGreatDoor


namespace Go.Proofs.YtjndahjfodnllaaGreatDoor
open Go.RowKit Go.Maps
namespace Ve
theorem bx2 {W : World} {g : Nat} {x y : Value} {T : TypeId} (h : W.heap[g]? = some (.cells #[x, y] T (0, 0))) : W.cell? ⟨g, 0, none⟩ = some x ∧ W.cell? ⟨g, 1, none⟩ = some y ∧ ∀ o, W.frozen? ⟨g, o, none⟩ = false :=
  ⟨by rw [Lib.cell_of_heap h]; rfl, by rw [Lib.cell_of_heap h]; rfl, fun o => Lib.frozen_of_heap h o⟩
theorem put22_below {W w : World} {B a b : Nat} {x y z u : Value} (h : Below B w W) (ha : B ≤ a) (hb : B ≤ b) : Below B w ((((W.setCell ⟨a, 0, none⟩ x).setCell ⟨a, 1, none⟩ y).setCell ⟨b, 0, none⟩ z).setCell ⟨b, 1, none⟩ u) :=
  put2_below (put2_below h ha) hb
set_option maxRecDepth 100000 in
set_option maxHeartbeats 2000000 in
theorem rof_chk (Q : List Raw) (L : List Ent) (p : ByteArray) (v rv : Value) (ra : Option Addr) (rn rc : Nat) (hrv : rv = .slice ra rn rc) (w : World) (hn : L.length ≤ 1000) (sh : ∀ e, e ∈ L → ShE e) (I : Ixs w v Q L) (hc : (chk Q L).1 ≠ 0) :
    Calls Tryz.prog 16 #[v, rv, .string p] w fun e w' => e = .returned (.tuple #[.agg #[.string ⟨#[]⟩, .string ⟨#[]⟩], faultV (chk Q L)]) ∧ Below w.heap.size w w' := by
  subst hrv
  have HBm := hid ((Below.refl w.heap.size w).alloc (Nat.le_refl _) (.cells #[.string ⟨#[]⟩, .string ⟨#[]⟩] 38))
  have HB0 := hid (HBm.out.alloc HBm.out.size (.cells #[.int .i64 0, .int .i64 0] 44))
  have HM0 := hid (heap_old _ (.cells #[.int .i64 0, .int .i64 0] 44) (heap_new w (.cells #[.string ⟨#[]⟩, .string ⟨#[]⟩] 38)))
  have HE0 := hid (heap_new (w.alloc (.cells #[.string ⟨#[]⟩, .string ⟨#[]⟩] 38)) (.cells #[.int .i64 0, .int .i64 0] 44))
  have HIF := hid (fun W (h : Below w.heap.size w W) => iFault_any Q L v W hn sh (I.below h))
  obtain ⟨va, vc, hv1, -⟩ := id I.es
  subst hv1
  obtain ⟨cc, oo, hco⟩ : ∃ cc oo, chk Q L = (cc, oo) := ⟨_, _, rfl⟩
  rw [hco] at HIF hc ⊢
  unfold faultV at HIF ⊢
  simp only at HIF hc ⊢
  generalize atOf oo = ao at *
  have hpos : (0 : Int) < (cc : Int) := by omega
  clear I sh hco hc
  go_enter Tryz.func16, Tryz.ntmps16
  go_wp2_with fail
  refine (HIF.out _ HB0.out).mono ?_
  rintro e w1 ⟨rfl, hb⟩
  have HBa := hid (HB0.out.trans (hb.mono HB0.out.size))
  have HMa := hid ((hb.block _ (lt_of_blk HM0.out)).trans HM0.out)
  have HEa := hid ((hb.block _ (lt_of_blk HE0.out)).trans HE0.out)
  clear hb
  have HB2 := hid (HBa.out.alloc HBa.out.size (.cells #[.int .i64 (cc : Int), .int .i64 ao] 44))
  have HM2 := hid (heap_old w1 (.cells #[.int .i64 (cc : Int), .int .i64 ao] 44) HMa.out)
  have HE2 := hid (heap_old w1 (.cells #[.int .i64 (cc : Int), .int .i64 ao] 44) HEa.out)
  have HF2 := hid (heap_new w1 (.cells #[.int .i64 (cc : Int), .int .i64 ao] 44))
  have hz0 : (w.alloc (.cells #[.string ⟨#[]⟩, .string ⟨#[]⟩] 38)).heap.size = w.heap.size + 1 := by simp
  rw [hz0] at HE2
  have hlt := lt_of_blk HMa.out
  have hlt2 := lt_of_blk HEa.out
  rw [hz0] at hlt2
  have n1 : ¬ w1.heap.size = w.heap.size := by omega
  have n2 : ¬ w1.heap.size = w.heap.size + 1 := by omega
  have n3 : ¬ w.heap.size = w1.heap.size := by omega
  have n4 : ¬ w.heap.size + 1 = w1.heap.size := by omega
  obtain ⟨f0, f1, _⟩ := bx2 HF2.out
  go_wp2_with fail
  generalize w1.alloc (.cells #[.int .i64 (cc : Int), .int .i64 ao] 44) = w3 at *
  obtain ⟨m0, m1, mf⟩ := bx2 HM2.out
  obtain ⟨s0, s1, sf⟩ := bx2 HE2.out
  go_region_with fail
  all_goals
    go_wp2_with fail
    refine bodyPost_ret (v := .tuple #[.agg #[.string ⟨#[]⟩, .string ⟨#[]⟩], .agg #[.int .i64 (cc : Int), .int .i64 ao]]) (by simp [results, Tryz.results16, go_sem, m0, m1, s0, s1]) rfl ⟨rfl, ?_⟩
    exact below_drawn_of (put22_below HB2.out (Nat.le_refl _) (Nat.le_succ _)) 1
structure Pf (w W : World) (fb : Nat) (c a : Int) : Prop where
  bl : Below w.heap.size w W
  m : W.heap[w.heap.size]? = some (.cells #[.string ⟨#[]⟩, .string ⟨#[]⟩] 38 (0, 0))
  e : W.heap[w.heap.size + 1]? = some (.cells #[.int .i64 0, .int .i64 0] 44 (0, 0))
  f : W.heap[fb]? = some (.cells #[.int .i64 c, .int .i64 a] 44 (0, 0))
  ge : w.heap.size + 2 ≤ fb
theorem Pf.below {w W W' : World} {fb : Nat} {c a : Int} (h : Pf w W fb c a) (hb : Below W.heap.size W W') : Pf w W' fb c a :=
  ⟨h.bl.trans (hb.mono h.bl.size), (hb.block _ (lt_of_blk h.m)).trans h.m, (hb.block _ (lt_of_blk h.e)).trans h.e, (hb.block _ (lt_of_blk h.f)).trans h.f, h.ge⟩
theorem Pf.start {w W : World} {c a : Int} (hb : Below (w.heap.size + 2) ((w.alloc (.cells #[.string ⟨#[]⟩, .string ⟨#[]⟩] 38)).alloc (.cells #[.int .i64 0, .int .i64 0] 44)) W) : Pf w (W.alloc (.cells #[.int .i64 c, .int .i64 a] 44)) W.heap.size c a := by
  have z1 : (w.alloc (.cells #[.string ⟨#[]⟩, .string ⟨#[]⟩] 38)).heap.size = w.heap.size + 1 := by simp
  have b0 := ((Below.refl w.heap.size w).alloc (Nat.le_refl _) (.cells #[.string ⟨#[]⟩, .string ⟨#[]⟩] 38))
  have b1 := b0.alloc b0.size (.cells #[.int .i64 0, .int .i64 0] 44)
  have hs : w.heap.size + 2 ≤ W.heap.size := by have := hb.size; simpa using this
  have b2 := b1.trans (hb.mono (Nat.le_add_right _ 2))
  have m0 := (hb.block w.heap.size (by omega)).trans (heap_old _ (.cells #[.int .i64 0, .int .i64 0] 44) (heap_new w (.cells #[.string ⟨#[]⟩, .string ⟨#[]⟩] 38)))
  have e0 := heap_new (w.alloc (.cells #[.string ⟨#[]⟩, .string ⟨#[]⟩] 38)) (.cells #[.int .i64 0, .int .i64 0] 44)
  rw [z1] at e0
  have e1 := (hb.block (w.heap.size + 1) (by omega)).trans e0
  exact ⟨b2.alloc b2.size _, heap_old _ _ m0, heap_old _ _ e1, heap_new _ _, hs⟩
theorem Pf.set {w W : World} {fb : Nat} {c a x y : Int} (h : Pf w W fb c a) : Pf w ((W.setCell ⟨fb, 0, none⟩ (.int .i64 x)).setCell ⟨fb, 1, none⟩ (.int .i64 y)) fb x y := by
  have g := h.ge
  refine ⟨put2_below h.bl (by omega), ?_, ?_, ?_, h.ge⟩
  · exact keep_set (keep_set h.m (by omega)) (by omega)
  · exact keep_set (keep_set h.e (by omega)) (by omega)
  · rw [set_block (set_block h.f)]; rfl
theorem Pf.cells {w W : World} {fb : Nat} {c a : Int} (h : Pf w W fb c a) : (W.cell? ⟨w.heap.size, 0, none⟩ = some (.string ⟨#[]⟩) ∧ W.cell? ⟨w.heap.size, 1, none⟩ = some (.string ⟨#[]⟩) ∧ ∀ o, W.frozen? ⟨w.heap.size, o, none⟩ = false) ∧
    (W.cell? ⟨w.heap.size + 1, 0, none⟩ = some (.int .i64 0) ∧ W.cell? ⟨w.heap.size + 1, 1, none⟩ = some (.int .i64 0) ∧ ∀ o, W.frozen? ⟨w.heap.size + 1, o, none⟩ = false) ∧
    (W.cell? ⟨fb, 0, none⟩ = some (.int .i64 c) ∧ W.cell? ⟨fb, 1, none⟩ = some (.int .i64 a) ∧ ∀ o, W.frozen? ⟨fb, o, none⟩ = false) := ⟨bx2 h.m, bx2 h.e, bx2 h.f⟩
set_option maxRecDepth 100000 in
set_option maxHeartbeats 2000000 in
theorem rof_path (Q : List Raw) (L : List Ent) (p : ByteArray) (v rv : Value) (ra : Option Addr) (rn rc : Nat) (hrv : rv = .slice ra rn rc) (w : World) (hn : L.length ≤ 1000) (sh : ∀ e, e ∈ L → ShE e) (I : Ixs w v Q L) (hp : p.size < 4294967281) (hc : chk Q L = (0, none)) (he : pathErr p.data.toList = 1 ∨ pathErr p.data.toList = 2) :
    Calls Tryz.prog 16 #[v, rv, .string p] w fun e w' => e = .returned (.tuple #[.agg #[.string ⟨#[]⟩, .string ⟨#[]⟩], faultV (pathErr p.data.toList, none)]) ∧ Below w.heap.size w w' := by
  subst hrv
  have HBm := hid ((Below.refl w.heap.size w).alloc (Nat.le_refl _) (.cells #[.string ⟨#[]⟩, .string ⟨#[]⟩] 38))
  have HB0 := hid (HBm.out.alloc HBm.out.size (.cells #[.int .i64 0, .int .i64 0] 44))
  have HIF := hid (fun W (h : Below w.heap.size w W) => iFault_any Q L v W hn sh (I.below h))
  have HPE := hid (fun W => pathError_any p W hp)
  have HBA := hid (fun (n : Int) W => rbare_any n W)
  obtain ⟨va, vc, hv1, -⟩ := id I.es
  subst hv1
  rw [hc] at HIF
  unfold faultV at HIF ⊢
  simp only at HIF ⊢
  have ha : atOf none = -1 := rfl
  rw [ha] at HIF ⊢
  clear I sh hc
  have hp0 : (0 : Int) < ((pathErr p.data.toList : Nat) : Int) := by omega
  have hp4 : (((pathErr p.data.toList : Nat) : Int) == 4) = false := by rw [beq_eq_false_iff_ne]; omega
  generalize ((pathErr p.data.toList : Nat) : Int) = k at *
  clear he
  go_enter Tryz.func16, Tryz.ntmps16
  go_wp2_with fail
  refine (HIF.out _ HB0.out).mono ?_
  rintro e w1 ⟨rfl, hb⟩
  have HP1 := hid (Pf.start (c := 0) (a := -1) (by simpa using hb))
  clear hb
  obtain ⟨-, -, f0, f1, ff⟩ := HP1.out.cells
  go_wp2_with fail
  generalize w1.alloc (.cells #[.int .i64 0, .int .i64 (-1)] 44) = w2 at *
  refine (HPE.out _).mono ?_
  rintro e w3 ⟨rfl, hb⟩
  have HP3 := hid (HP1.out.below hb)
  clear hb f0 f1 ff HP1
  obtain ⟨⟨m0, m1, mf⟩, ⟨s0, s1, sf⟩, f0, f1, ff⟩ := HP3.out.cells
  go_wp2_with fail
  refine (HBA.out _ _).mono ?_
  rintro e w4 ⟨rfl, hb⟩
  have HP4 := hid (HP3.out.below hb)
  clear hb f0 f1 ff HP3 m0 m1 mf s0 s1 sf
  obtain ⟨⟨m0, m1, mf⟩, ⟨s0, s1, sf⟩, f0, f1, ff⟩ := HP4.out.cells
  go_wp2_with fail
  refine bodyPost_ret (v := .tuple #[.agg #[.string ⟨#[]⟩, .string ⟨#[]⟩], .agg #[.int .i64 k, .int .i64 (-1)]]) (by simp [results, Tryz.results16, go_sem, m0, m1, s0, s1]) rfl ⟨rfl, ?_⟩
  exact put22_below HP4.out.bl (Nat.le_refl _) (Nat.le_succ _)
set_option maxRecDepth 100000 in
set_option maxHeartbeats 4000000 in
theorem rof_sel (Q : List Raw) (L : List Ent) (R : List Bm) (p : ByteArray) (v rv : Value) (w : World) (hn : L.length ≤ 1000) (sh : ∀ e, e ∈ L → ShE e) (I : Ixs w v Q L) (hR : R.length ≤ 1000000) (hr : MsAt w rv R) (hp : p.size < 4294967281) (hc : chk Q L = (0, none)) (he : pathErr p.data.toList = 0 ∨ pathErr p.data.toList = 4) (hs : (slF Q R).1 ≠ 0) :
    Calls Tryz.prog 16 #[v, rv, .string p] w fun e w' => e = .returned (.tuple #[.agg #[.string ⟨#[]⟩, .string ⟨#[]⟩], faultV (slF Q R)]) ∧ Below w.heap.size w w' := by
  have HBm := hid ((Below.refl w.heap.size w).alloc (Nat.le_refl _) (.cells #[.string ⟨#[]⟩, .string ⟨#[]⟩] 38))
  have HB0 := hid (HBm.out.alloc HBm.out.size (.cells #[.int .i64 0, .int .i64 0] 44))
  have HIF := hid (fun W (h : Below w.heap.size w W) => iFault_any Q L v W hn sh (I.below h))
  have HPE := hid (fun W => pathError_any p W hp)
  have HSF := hid (fun W (h : Below w.heap.size w W) => rsel_any Q R v rv W (by rw [I.ln]; exact hn) hR (I.es.below h) (hr.below h))
  obtain ⟨va, vc, hv1, -⟩ := id I.es
  subst hv1
  obtain ⟨ra, rc, hrv, -⟩ := id hr
  subst hrv
  rw [hc] at HIF
  obtain ⟨cc, oo, hco⟩ : ∃ cc oo, slF Q R = (cc, oo) := ⟨_, _, rfl⟩
  rw [hco] at HSF hs ⊢
  unfold faultV at HIF HSF ⊢
  simp only at HIF HSF hs ⊢
  have ha : atOf none = -1 := rfl
  rw [ha] at HIF
  generalize atOf oo = ao at *
  have hpos : (0 : Int) < (cc : Int) := by omega
  clear I sh hc hco hs hr
  rcases he with he | he
  all_goals
    rw [he] at HPE
    clear he
    go_enter Tryz.func16, Tryz.ntmps16
    go_wp2_with fail
    refine (HIF.out _ HB0.out).mono ?_
    rintro e w1 ⟨rfl, hb⟩
    have HP1 := hid (Pf.start (c := 0) (a := -1) (by simpa using hb))
    clear hb
    obtain ⟨-, -, f0, f1, ff⟩ := HP1.out.cells
    go_wp2_with fail
    generalize w1.alloc (.cells #[.int .i64 0, .int .i64 (-1)] 44) = w2 at *
    refine (HPE.out _).mono ?_
    rintro e w3 ⟨rfl, hb⟩
    have HP3 := hid (HP1.out.below hb)
    clear hb f0 f1 ff HP1
    obtain ⟨-, -, f0, f1, ff⟩ := HP3.out.cells
    go_wp2_with fail
    refine (HSF.out _ HP3.out.bl).mono ?_
    rintro e w4 ⟨rfl, hb⟩
    have HP4 := hid (HP3.out.below hb)
    clear hb f0 f1 ff HP3
    obtain ⟨⟨m0, m1, mf⟩, ⟨s0, s1, sf⟩, f0, f1, ff⟩ := HP4.out.cells
    have HP5 := hid (HP4.out.set (x := cc) (y := ao))
    have hge := HP4.out.ge
    go_wp2_with fail
    generalize (w4.setCell ⟨w1.heap.size, 0, none⟩ (.int .i64 (cc : Int))).setCell ⟨w1.heap.size, 1, none⟩ (.int .i64 ao) = w5 at *
    clear f0 f1 ff m0 m1 mf s0 s1 sf HP4
    obtain ⟨⟨m0, m1, mf⟩, ⟨s0, s1, sf⟩, f0, f1, ff⟩ := HP5.out.cells
    have n1 : ¬ w1.heap.size = w.heap.size := by omega
    have n2 : ¬ w1.heap.size = w.heap.size + 1 := by omega
    have n3 : ¬ w.heap.size = w1.heap.size := by omega
    have n4 : ¬ w.heap.size + 1 = w1.heap.size := by omega
    go_wp2_with fail
    go_region_with fail
    all_goals
      go_wp2_with fail
      refine bodyPost_ret (v := .tuple #[.agg #[.string ⟨#[]⟩, .string ⟨#[]⟩], .agg #[.int .i64 (cc : Int), .int .i64 ao]]) (by simp [results, Tryz.results16, go_sem, m0, m1, s0, s1]) rfl ⟨rfl, ?_⟩
      exact below_drawn_of (put22_below HP5.out.bl (Nat.le_refl _) (Nat.le_succ _)) 1
end Ve
end Go.Proofs.YtjndahjfodnllaaGreatDoor


namespace Go.Proofs.YtjndahjfodnllaaGreatDoor
open Go.RowKit Go.Maps
namespace Ve
structure Pg (w W : World) (fb bb : Nat) (b : Bm) : Prop where
  pf : Pf w W fb 0 (-1)
  bst : W.heap[bb]? = some (.cells #[.string b.1, .string b.2] 38 (0, 0))
  lt : fb < bb
theorem Pg.below {w W W' : World} {fb bb : Nat} {b : Bm} (h : Pg w W fb bb b) (hb : Below W.heap.size W W') : Pg w W' fb bb b :=
  ⟨h.pf.below hb, (hb.block _ (lt_of_blk h.bst)).trans h.bst, h.lt⟩
theorem Pg.start {w W : World} {fb : Nat} (h : Pf w W fb 0 (-1)) : Pg w (W.alloc (.cells #[.string ⟨#[]⟩, .string ⟨#[]⟩] 38)) fb W.heap.size (⟨#[]⟩, ⟨#[]⟩) :=
  ⟨h.below ((Below.refl _ _).alloc (Nat.le_refl _) _), heap_new _ _, lt_of_blk h.f⟩
theorem Pg.set {w W : World} {fb bb : Nat} {b : Bm} (h : Pg w W fb bb b) (m : Bm) : Pg w ((W.setCell ⟨bb, 0, none⟩ (.string m.1)).setCell ⟨bb, 1, none⟩ (.string m.2)) fb bb m := by
  have g := h.pf.ge
  have l := h.lt
  refine ⟨⟨put2_below h.pf.bl (by omega), ?_, ?_, ?_, g⟩, ?_, l⟩
  · exact keep_set (keep_set h.pf.m (by omega)) (by omega)
  · exact keep_set (keep_set h.pf.e (by omega)) (by omega)
  · exact keep_set (keep_set h.pf.f (by omega)) (by omega)
  · rw [set_block (set_block h.bst)]; rfl
theorem bst_yes {Q : List Raw} {L : List Ent} {p : ByteArray} {R : List Bm} {k : Nat} (hk : k < R.length) (h1 : inB p (pkOf Q L R[k]) = true) (h2 : (bstN Q L p R k).1.size < R[k].1.size) : bstN Q L p R (k + 1) = R[k] := by
  rw [bstN_next hk]; unfold bstS; rw [h1, decide_eq_true h2]; rfl
theorem bst_no {Q : List Raw} {L : List Ent} {p : ByteArray} {R : List Bm} {k : Nat} (hk : k < R.length) (h : ¬ (inB p (pkOf Q L R[k]) = true ∧ (bstN Q L p R k).1.size < R[k].1.size)) : bstN Q L p R (k + 1) = bstN Q L p R k := by
  rw [bstN_next hk]; unfold bstS
  rw [if_neg]
  rw [Bool.and_eq_true, decide_eq_true_iff]; exact h
theorem es_at {W : World} {a : Option Addr} {n c : Nat} {Q : List Raw} (h : EsAt W (.slice a n c) Q) {k : Nat} (hk : k < Q.length) : ∃ b o, a = some ⟨b, o, none⟩ ∧ slR Q[k] ∧ W.cell? ⟨b, o + k * 5, none⟩ = some (.string Q[k].1.1) ∧ W.cell? ⟨b, o + k * 5 + 1, none⟩ = some (.string Q[k].1.2) ∧ W.cell? ⟨b, o + k * 5 + 2, none⟩ = some Q[k].2.1 ∧ W.cell? ⟨b, o + k * 5 + 3, none⟩ = some Q[k].2.2.1 ∧ W.cell? ⟨b, o + k * 5 + 4, none⟩ = some (.bool Q[k].2.2.2) := by
  obtain ⟨a', c', e, _, hs, h⟩ := h
  injection e with e1 e2 e3
  subst e1
  obtain ⟨b', o', e4, h4⟩ := h (by intro h0; rw [h0] at hk; simp at hk)
  exact ⟨b', o', e4, hs _ (List.getElem_mem hk), h4 k hk⟩
theorem pk_open {W : World} {a : Option Addr} {n c : Nat} {Q : List Raw} {L : List Ent} (I : Ixs W (.slice a n c) Q L) (sh : ∀ e, e ∈ L → ShE e) {m : Bm} {j : Nat} (hj : idxOf (isM m) Q = (j : Int)) :
    ∃ b o t q ra rn rc pa pn pc bk X, a = some ⟨b, o, none⟩ ∧ j < Q.length ∧ W.cell? ⟨b, o + j * 5, none⟩ = some (.string t) ∧ W.cell? ⟨b, o + j * 5 + 1, none⟩ = some (.string q) ∧ W.cell? ⟨b, o + j * 5 + 2, none⟩ = some (.slice ra rn rc) ∧ W.cell? ⟨b, o + j * 5 + 3, none⟩ = some (.slice pa pn pc) ∧ W.cell? ⟨b, o + j * 5 + 4, none⟩ = some (.bool bk) ∧
      TxAt W (.slice pa pn pc) X ∧ X.length ≤ 1000 ∧ t.size < 999999 ∧ (∀ x, x ∈ X → x.size < 999999) ∧ X.map (packT t) = pkOf Q L m := by
  obtain ⟨hk, -⟩ := idx_is hj
  have hkL : j < L.length := by rw [← I.ln]; exact hk
  obtain ⟨b, o, e, ⟨⟨ra, rn, rc, h1⟩, pa, pn, pc, h2⟩, c0, c1, c2, c3, c4⟩ := es_at I.es hk
  have ok := I.ok j hk hkL
  have hS := sh _ (List.getElem_mem hkL)
  have pk := ok.pk
  rw [h2] at pk c3
  rw [h1] at c2
  refine ⟨b, o, _, _, ra, rn, rc, pa, pn, pc, _, L[j].2.2.1, e, hk, c0, c1, c2, c3, c4, pk, hS.pn, ?_, hS.ps, ?_⟩
  · rw [ok.m]; exact hS.p
  · unfold pkOf packL
    rw [entOf_at hj hkL, ok.m]
theorem rpacks_is (t q : ByteArray) (ra : Option Addr) (rn rc : Nat) (pa : Option Addr) (pn pc : Nat) (bk : Bool) (X : List ByteArray) (w : World) (hx : TxAt w (.slice pa pn pc) X) (hX : X.length ≤ 1000) (ht : t.size < 999999) (hxs : ∀ x, x ∈ X → x.size < 999999) :
    Calls Tryz.prog 40 #[.agg #[.string t, .string q, .slice ra rn rc, .slice pa pn pc, .bool bk]] w fun e w' => ∃ u, e = .returned u ∧ TxAt w' u (X.map (packT t)) ∧ Below w.heap.size w w' :=
  (rpacks_any ((t, q), .slice ra rn rc, .slice pa pn pc, bk) X w ⟨⟨ra, rn, rc, rfl⟩, pa, pn, pc, rfl⟩ hx hX ht hxs).mono fun _ _ ⟨u, h1, h2, h3⟩ => ⟨u, h1, own_tx h2, h3⟩
set_option maxRecDepth 100000 in
set_option maxHeartbeats 4000000 in
theorem rof_good (Q : List Raw) (L : List Ent) (R : List Bm) (p : ByteArray) (v rv : Value) (w : World) (hn : L.length ≤ 1000) (sh : ∀ e, e ∈ L → ShE e) (I : Ixs w v Q L) (hR : R.length ≤ 1000000) (hr : MsAt w rv R) (hp : p.size < 4294967281) (hc : chk Q L = (0, none)) (he : pathErr p.data.toList = 0 ∨ pathErr p.data.toList = 4) (hs : slF Q R = (0, none)) (hu : ∀ j (h : j < R.length), ∃ k : Nat, idxOf (isM R[j]) Q = (k : Int)) :
    Calls Tryz.prog 16 #[v, rv, .string p] w fun e w' => (e = .returned (if (bstN Q L p R R.length).1.size = 0 then .tuple #[.agg #[.string ⟨#[]⟩, .string ⟨#[]⟩], faultV (5, none)] else .tuple #[.agg #[.string (bstN Q L p R R.length).1, .string (bstN Q L p R R.length).2], faultV (0, none)])) ∧ Below w.heap.size w w' := by
  have HBm := hid ((Below.refl w.heap.size w).alloc (Nat.le_refl _) (.cells #[.string ⟨#[]⟩, .string ⟨#[]⟩] 38))
  have HB0 := hid (HBm.out.alloc HBm.out.size (.cells #[.int .i64 0, .int .i64 0] 44))
  have HIF := hid (fun W (h : Below w.heap.size w W) => iFault_any Q L v W hn sh (I.below h))
  have HPE := hid (fun W => pathError_any p W hp)
  have HSF := hid (fun W (h : Below w.heap.size w W) => rsel_any Q R v rv W (by rw [I.ln]; exact hn) hR (I.es.below h) (hr.below h))
  have HFO := hid (fun m (j : Nat) (hj : idxOf (isM m) Q = (j : Int)) W (h : Below w.heap.size w W) => by have h9 := findOf_all Q m v W (by rw [I.ln]; omega) (I.es.below h); rw [hj] at h9; exact h9)
  have HMR := hid (fun W (h : Below w.heap.size w W) => hr.below h)
  have HIX := hid (fun W (h : Below w.heap.size w W) => I.below h)
  have HSH := hid sh
  have HU := hid hu
  have HLN := hid I.ln
  obtain ⟨va, vc, hv1, -⟩ := id I.es
  subst hv1
  obtain ⟨ra, rc, hrv, -⟩ := id hr
  subst hrv
  rw [hc] at HIF
  rw [hs] at HSF
  unfold faultV at HIF HSF ⊢
  simp only at HIF HSF ⊢
  have ha : atOf none = -1 := rfl
  rw [ha] at HIF HSF ⊢
  obtain ⟨ans, hans⟩ : ∃ ans, ans = (if (bstN Q L p R R.length).1.size = 0 then Value.tuple #[.agg #[.string ⟨#[]⟩, .string ⟨#[]⟩], .agg #[.int .i64 ((5 : Nat) : Int), .int .i64 (-1)]] else .tuple #[.agg #[.string (bstN Q L p R R.length).1, .string (bstN Q L p R R.length).2], .agg #[.int .i64 ((0 : Nat) : Int), .int .i64 (-1)]]) := ⟨_, rfl⟩
  rw [← hans]
  have HANS := hid hans
  have HBA := hid (fun (n : Int) W => rbare_any n W)
  have HFN := hid (fun W => fine_any W)
  clear I sh hc hs hr hu hans
  rcases he with he | he
  all_goals
    rw [he] at HPE
    clear he
    go_enter Tryz.func16, Tryz.ntmps16
    go_wp2_with fail
    refine (HIF.out _ HB0.out).mono ?_
    rintro e w1 ⟨rfl, hb⟩
    have HP1 := hid (Pf.start (c := 0) (a := -1) (by simpa using hb))
    clear hb
    obtain ⟨-, -, f0, f1, ff⟩ := HP1.out.cells
    go_wp2_with fail
    generalize w1.alloc (.cells #[.int .i64 0, .int .i64 (-1)] 44) = w2 at *
    refine (HPE.out _).mono ?_
    rintro e w3 ⟨rfl, hb⟩
    have HP3 := hid (HP1.out.below hb)
    clear hb f0 f1 ff HP1
    obtain ⟨-, -, f0, f1, ff⟩ := HP3.out.cells
    go_wp2_with fail
    refine (HSF.out _ HP3.out.bl).mono ?_
    rintro e w4 ⟨rfl, hb⟩
    have HP4 := hid (HP3.out.below hb)
    clear hb f0 f1 ff HP3
    obtain ⟨-, -, f0, f1, ff⟩ := HP4.out.cells
    have HP5 := hid (HP4.out.set (x := 0) (y := -1))
    have HZ5 := hid (show ((w4.setCell ⟨w1.heap.size, 0, none⟩ (.int .i64 0)).setCell ⟨w1.heap.size, 1, none⟩ (.int .i64 (-1))).heap.size = w4.heap.size by simp)
    go_wp2_with fail
    generalize (w4.setCell ⟨w1.heap.size, 0, none⟩ (.int .i64 0)).setCell ⟨w1.heap.size, 1, none⟩ (.int .i64 (-1)) = w5 at *
    clear f0 f1 ff HP4
    have HG5 := hid (Pg.start HP5.out)
    rw [HZ5.out] at HG5
    go_loopw [11] (fun iv wr => ∃ k : Nat, k ≤ R.length ∧ iv = .int .i64 k ∧ Hid (Pg w wr w1.heap.size w4.heap.size (bstN Q L p R k))) (fun iv _ => R.length - (intOf iv).toNat)
    case atStart => exact ⟨0, Nat.zero_le _, rfl, HG5⟩
    case round =>
      obtain ⟨k, hk, rfl, HG⟩ := hrel
      by_cases hlt : k < R.length
      · have hkI := ix_lt hlt
        have hk0 := ix_pos k
        have HLT := hid hlt
        obtain ⟨xb, xo, hxa, y0, y1⟩ := (HMR.out _ HG.out.pf.bl).cells hlt
        subst hxa
        obtain ⟨j, hj⟩ := HU.out k hlt
        have HF := hid (HFO.out _ j hj _ HG.out.pf.bl)
        have HYN := hid (fun W (h : Below wr.heap.size wr W) => And.intro (cell_below h y0) (cell_below h y1))
        have HOP := hid (fun W (h : Below w.heap.size w W) => pk_open (HIX.out W h) HSH.out hj)
        have HY := hid (fun h1 h2 => bst_yes (Q := Q) (L := L) (p := p) hlt h1 h2)
        have HN := hid (fun h => bst_no (Q := Q) (L := L) (p := p) hlt h)
        clear hj
        generalize R[k] = x at *
        obtain ⟨x1, x2'⟩ := x
        generalize bstN Q L p R k = b at *
        obtain ⟨b1, b2⟩ := b
        clear hlt
        go_wp2_with fail
        refine HF.out.mono ?_
        rintro e w6 ⟨rfl, hb⟩
        have HG6 := hid (HG.out.below hb)
        obtain ⟨z0, z1⟩ := HYN.out _ hb
        have HB6 := hid hb
        clear hb
        obtain ⟨eb, eo, t, q, qa, qn, qc, pa, pn, pc, bk, X, hva, hjQ, c0, c1, c2, c3, c4, hX, hXl, ht, hXs, hPK⟩ := HOP.out _ HG6.out.pf.bl
        subst hva
        have hjI := ix_lt hjQ
        have hj0 := ix_pos j
        have HPS := hid (fun W (h : Below w6.heap.size w6 W) => rpacks_is t q qa qn qc pa pn pc bk X W (hX.below h) hXl ht hXs)
        rw [hPK] at HPS
        have HPL := hid (show (pkOf Q L (x1, x2')).length ≤ 1000 by rw [← hPK, List.length_map]; exact hXl)
        clear hX hXl ht hXs hPK HOP
        go_wp2_with fail
        refine (HPS.out _ (Below.refl _ _)).mono ?_
        rintro e w7 ⟨u, rfl, hu, hb⟩
        have HG7 := hid (HG6.out.below hb)
        have HB7 := hid (HB6.out.trans (hb.mono HB6.out.size))
        have HIT := hid (inT_any p _ u w7 (Nat.le_trans HPL.out (by decide)) hu)
        clear hb c0 c1 c2 c3 c4 z0 z1 HG6 HB6 HPS HPL
        obtain ⟨ua, uc, hu1, -⟩ := hu
        subst hu1
        obtain ⟨z0, z1⟩ := HYN.out _ HB7.out
        obtain ⟨d0, d1, df⟩ := bx2 HG7.out.bst
        cases hin : inB p (pkOf Q L (x1, x2'))
        · rw [hin] at HIT
          have HN2 := hid (HN.out (by rw [hin]; simp))
          clear hin
          go_wp2_with fail
          refine HIT.out.mono ?_
          rintro e w8 ⟨rfl, rfl⟩
          go_wp2_with fail
          go_quiet (fail)
          have HG8 := hid (HG7.out.below (below_drawn _ nq))
          go_wp2_with fail
          go_roundw
          case rel => exact ⟨k + 1, HLT.out, by first | exact nr_idx k | exact nx_idx HLT.out hR, by rw [HN2.out]; exact HG8⟩
          case measure => first | exact nr_meas HLT.out | exact nx_meas HLT.out hR
        · rw [hin] at HIT
          by_cases hgt : b1.size < x1.size
          · have HY2 := hid (HY.out hin hgt)
            have hgI : (b1.size : Int) < (x1.size : Int) := by omega
            clear hin hgt
            go_wp2_with fail
            refine HIT.out.mono ?_
            rintro e w8 ⟨rfl, rfl⟩
            go_wp2_with fail
            go_quiet (fail)
            have HG8 := hid (HG7.out.below (below_drawn _ nq))
            clear z0 z1 d0 d1 df
            obtain ⟨z0, z1⟩ := HYN.out _ (HB7.out.trans ((below_drawn w8 nq).mono HB7.out.size))
            generalize w8.drewN nq = w9 at *
            obtain ⟨d0, d1, df⟩ := bx2 HG8.out.bst
            have HG9 := hid (HG8.out.set (x1, x2'))
            go_wp2_with fail
            go_roundw
            case rel => exact ⟨k + 1, HLT.out, by first | exact nr_idx k | exact nx_idx HLT.out hR, by rw [HY2.out]; exact HG9⟩
            case measure => first | exact nr_meas HLT.out | exact nx_meas HLT.out hR
          · have HN2 := hid (HN.out (fun h => hgt h.2))
            have hgI : ¬ (b1.size : Int) < (x1.size : Int) := by omega
            clear hin hgt
            go_wp2_with fail
            refine HIT.out.mono ?_
            rintro e w8 ⟨rfl, rfl⟩
            go_wp2_with fail
            go_quiet (fail)
            have HG8 := hid (HG7.out.below (below_drawn _ nq))
            go_wp2_with fail
            go_roundw
            case rel => exact ⟨k + 1, HLT.out, by first | exact nr_idx k | exact nx_idx HLT.out hR, by rw [HN2.out]; exact HG8⟩
            case measure => first | exact nr_meas HLT.out | exact nx_meas HLT.out hR
      · have hkI := ix_nlt hlt
        have hke : k = R.length := by omega
        subst hke
        clear hlt
        generalize hbN : bstN Q L p R R.length = b at *
        obtain ⟨b1, b2⟩ := b
        clear hbN
        obtain ⟨⟨m0, m1, mf⟩, ⟨s0, s1, sf⟩, -⟩ := HG.out.pf.cells
        obtain ⟨d0, d1, df⟩ := bx2 HG.out.bst
        simp only at d0 d1
        by_cases hz : b1.size = 0
        · have hb1 : (b1.toList == []) = true := by
            have : b1.data.toList = [] := List.length_eq_zero_iff.1 (by rw [len_eq]; exact hz)
            rw [ByteArray.toList_eq, this]; rfl
          have HA := hid (HANS.out.trans (if_pos hz))
          clear hz
          go_wp2_with fail
          refine (HBA.out _ _).mono ?_
          rintro e w6 ⟨rfl, hb⟩
          have HG6 := hid (HG.out.below hb)
          clear hb m0 m1 mf s0 s1 sf d0 d1 df
          obtain ⟨⟨m0, m1, mf⟩, ⟨s0, s1, sf⟩, -⟩ := HG6.out.pf.cells
          go_wp2_with fail
          refine bodyPost_ret (v := .tuple #[.agg #[.string ⟨#[]⟩, .string ⟨#[]⟩], .agg #[.int .i64 5, .int .i64 (-1)]]) (by simp [results, Tryz.results16, go_sem, m0, m1, s0, s1]) rfl ⟨by rw [HA.out]; rfl, ?_⟩
          exact put22_below HG6.out.pf.bl (Nat.le_refl _) (Nat.le_succ _)
        · have hb1 : (b1.toList == []) = false := by
            rw [ByteArray.toList_eq, beq_eq_false_iff_ne]
            intro h
            have := congrArg List.length h
            rw [len_eq] at this
            exact hz this
          have HA := hid (HANS.out.trans (if_neg hz))
          clear hz
          have hge := HG.out.pf.ge
          have hlt3 := HG.out.lt
          have n1 : ¬ w4.heap.size = w.heap.size := by omega
          have n2 : ¬ w4.heap.size = w.heap.size + 1 := by omega
          have n3 : ¬ w.heap.size = w4.heap.size := by omega
          have n4 : ¬ w.heap.size + 1 = w4.heap.size := by omega
          go_wp2_with fail
          go_region_with (first
            | (go_at_call 42; refine (HFN.out _).mono ?_; rintro e w7 ⟨rfl, hb⟩; have HG7 := hid ((HG.out.below (below_drawn _ 1)).below hb); clear hb; obtain ⟨⟨m0, m1, mf⟩, ⟨s0, s1, sf⟩, -⟩ := HG7.out.pf.cells; obtain ⟨d0, d1, df⟩ := bx2 HG7.out.bst; simp only at d0 d1))
          all_goals
            go_wp2_with fail
            refine bodyPost_ret (v := .tuple #[.agg #[.string b1, .string b2], .agg #[.int .i64 0, .int .i64 (-1)]]) (by simp [results, Tryz.results16, go_sem, m0, m1, s0, s1]) rfl ⟨by rw [HA.out]; rfl, ?_⟩
            exact put22_below HG7.out.pf.bl (Nat.le_refl _) (Nat.le_succ _)
end Ve
end Go.Proofs.YtjndahjfodnllaaGreatDoor


namespace Go.Proofs.YtjndahjfodnllaaGreatDoor
open Go.RowKit Go.Maps
namespace Ve
theorem fst_pos {E : Nat → Nat} : ∀ {n i : Nat}, fstE E n = some i → E i ≠ 0
  | 0, _, h => by cases h
  | n + 1, i, h => by
    unfold fstE at h
    split at h
    · next j hj =>
      injection h with h
      subst h
      exact fst_pos hj
    · split at h
      · cases h
      · next hne =>
        injection h with h
        subst h; exact hne
theorem code_fine {E : Nat → Nat} {n : Nat} (h : codeE E n = 0) : fstE E n = none := by
  cases hf : fstE E n with
  | none => rfl
  | some i => rw [codeE_some hf] at h; exact absurd h (fst_pos hf)
theorem slF_fine {Q : List Raw} {R : List Bm} (h : (slF Q R).1 = 0) : slF Q R = (0, none) := Prod.ext h (code_fine h)
theorem chk_fine {Q : List Raw} {L : List Ent} (h : (chk Q L).1 = 0) : chk Q L = (0, none) := by
  by_cases h1 : 100 < L.length
  · rw [chk_full h1] at h; cases h
  · cases hf : fstE (entE L) L.length with
    | some i => rw [chk_each h1 hf] at h; exact absurd h (fst_pos hf)
    | none =>
      rw [chk_reqs h1 hf] at h ⊢
      exact Prod.ext h (code_fine h)
theorem sl_found {w : World} {v : Value} {Q : List Raw} {L : List Ent} (I : Ixs w v Q L) {R : List Bm} (h : (slF Q R).1 = 0) : ∀ j (hj : j < R.length), ∃ k : Nat, idxOf (isM R[j]) Q = (k : Int) := fun j hj =>
  (found_iff I R[j]).1 (nonE_found I h _ (List.getElem_mem hj))
theorem rof_any (Q : List Raw) (L : List Ent) (R : List Bm) (p : ByteArray) (v rv : Value) (w : World) (hn : L.length ≤ 1000) (sh : ∀ e, e ∈ L → ShE e) (I : Ixs w v Q L) (hR : R.length ≤ 1000000) (hr : MsAt w rv R) (hp : p.size < 4294967281) :
    Calls Tryz.prog 16 #[v, rv, .string p] w fun e w' => e = .returned (.tuple #[.agg #[.string (ofM Q L R p).1, .string (ofM Q L R p).2], faultV (ofF Q L R p)]) ∧ Below w.heap.size w w' := by
  obtain ⟨ra, rc, hrv, -⟩ := id hr
  by_cases hc : (chk Q L).1 = 0
  · have hc0 := chk_fine hc
    by_cases he : pathErr p.data.toList = 0 ∨ pathErr p.data.toList = 4
    · by_cases hs : (slF Q R).1 = 0
      · have hs0 := slF_fine hs
        have e : ofF Q L R p = if (bstN Q L p R R.length).1.size = 0 then (5, none) else (0, none) := by
          unfold ofF
          rw [if_neg (by simp [hc]), if_neg (by omega), if_neg (by simp [hs])]
        refine (rof_good Q L R p v rv w hn sh I hR hr hp hc0 he hs0 (sl_found I hs)).mono fun e' w' ⟨h1, h2⟩ => ⟨?_, h2⟩
        rw [h1]
        unfold ofM
        rw [e]
        by_cases hz : (bstN Q L p R R.length).1.size = 0
        · rw [if_pos hz, if_pos hz, if_neg (by decide)]
        · rw [if_neg hz, if_neg hz, if_pos rfl]
      · have e : ofF Q L R p = slF Q R := by
          unfold ofF
          rw [if_neg (by simp [hc]), if_neg (by omega), if_pos hs]
        refine (rof_sel Q L R p v rv w hn sh I hR hr hp hc0 he hs).mono fun e' w' ⟨h1, h2⟩ => ⟨?_, h2⟩
        rw [h1]
        unfold ofM
        rw [e, if_neg hs]
    · have e : ofF Q L R p = (pathErr p.data.toList, none) := by
        unfold ofF
        rw [if_neg (by simp [hc]), if_pos (by omega)]
      have he2 : pathErr p.data.toList = 1 ∨ pathErr p.data.toList = 2 := by
        rcases pathErr_err p.data.toList with h | h | h | h
        · exact absurd (Or.inl h) he
        · exact Or.inl h
        · exact Or.inr h
        · exact absurd (Or.inr h) he
      refine (rof_path Q L p v rv ra R.length rc hrv w hn sh I hp hc0 he2).mono fun e' w' ⟨h1, h2⟩ => ⟨?_, h2⟩
      rw [h1]
      unfold ofM
      rw [e, if_neg (by show ¬ pathErr p.data.toList = 0; omega)]
  · have e : ofF Q L R p = chk Q L := by
      unfold ofF
      rw [if_pos hc]
    refine (rof_chk Q L p v rv ra R.length rc hrv w hn sh I hc).mono fun e' w' ⟨h1, h2⟩ => ⟨?_, h2⟩
    rw [h1]
    unfold ofM
    rw [e, if_neg hc]
end Ve
end Go.Proofs.YtjndahjfodnllaaGreatDoor


namespace Go.Proofs.YtjndahjfodnllaaGreatDoor
open Go.RowKit Go.Maps
namespace Ve
structure Pb (w W : World) (fb : Nat) (c a : Int) : Prop where
  bl : Below w.heap.size w W
  e : W.heap[w.heap.size]? = some (.cells #[.int .i64 0, .int .i64 0] 44 (0, 0))
  f : W.heap[fb]? = some (.cells #[.int .i64 c, .int .i64 a] 44 (0, 0))
  ge : w.heap.size + 1 ≤ fb
theorem Pb.below {w W W' : World} {fb : Nat} {c a : Int} (h : Pb w W fb c a) (hb : Below W.heap.size W W') : Pb w W' fb c a :=
  ⟨h.bl.trans (hb.mono h.bl.size), (hb.block _ (lt_of_blk h.e)).trans h.e, (hb.block _ (lt_of_blk h.f)).trans h.f, h.ge⟩
theorem Pb.start {w W : World} {c a : Int} (hb : Below (w.heap.size + 1) (w.alloc (.cells #[.int .i64 0, .int .i64 0] 44)) W) : Pb w (W.alloc (.cells #[.int .i64 c, .int .i64 a] 44)) W.heap.size c a := by
  have b0 := ((Below.refl w.heap.size w).alloc (Nat.le_refl _) (.cells #[.int .i64 0, .int .i64 0] 44))
  have hs : w.heap.size + 1 ≤ W.heap.size := by have := hb.size; simpa using this
  have b2 := b0.trans (hb.mono (Nat.le_add_right _ 1))
  have e1 := (hb.block w.heap.size (by omega)).trans (heap_new w (.cells #[.int .i64 0, .int .i64 0] 44))
  exact ⟨b2.alloc b2.size _, heap_old _ _ e1, heap_new _ _, hs⟩
theorem Pb.set {w W : World} {fb : Nat} {c a x y : Int} (h : Pb w W fb c a) : Pb w ((W.setCell ⟨fb, 0, none⟩ (.int .i64 x)).setCell ⟨fb, 1, none⟩ (.int .i64 y)) fb x y := by
  have g := h.ge
  refine ⟨put2_below h.bl (by omega), ?_, ?_, h.ge⟩
  · exact keep_set (keep_set h.e (by omega)) (by omega)
  · rw [set_block (set_block h.f)]; rfl
theorem Pb.cells {w W : World} {fb : Nat} {c a : Int} (h : Pb w W fb c a) : (W.cell? ⟨w.heap.size, 0, none⟩ = some (.int .i64 0) ∧ W.cell? ⟨w.heap.size, 1, none⟩ = some (.int .i64 0) ∧ ∀ o, W.frozen? ⟨w.heap.size, o, none⟩ = false) ∧
    (W.cell? ⟨fb, 0, none⟩ = some (.int .i64 c) ∧ W.cell? ⟨fb, 1, none⟩ = some (.int .i64 a) ∧ ∀ o, W.frozen? ⟨fb, o, none⟩ = false) := ⟨bx2 h.e, bx2 h.f⟩
set_option maxRecDepth 100000 in
set_option maxHeartbeats 2000000 in
theorem rap_chk (Q : List Raw) (L : List Ent) (v rv : Value) (ra : Option Addr) (rn rc : Nat) (hrv : rv = .slice ra rn rc) (w : World) (hn : L.length ≤ 1000) (sh : ∀ e, e ∈ L → ShE e) (I : Ixs w v Q L) (hc : (chk Q L).1 ≠ 0) :
    Calls Tryz.prog 18 #[v, rv] w fun e w' => e = .returned (.tuple #[.slice none 0 0, faultV (chk Q L)]) ∧ Below w.heap.size w w' := by
  subst hrv
  have HB0 := hid ((Below.refl w.heap.size w).alloc (Nat.le_refl _) (.cells #[.int .i64 0, .int .i64 0] 44))
  have HIF := hid (fun W (h : Below w.heap.size w W) => iFault_any Q L v W hn sh (I.below h))
  obtain ⟨va, vc, hv1, -⟩ := id I.es
  subst hv1
  obtain ⟨cc, oo, hco⟩ : ∃ cc oo, chk Q L = (cc, oo) := ⟨_, _, rfl⟩
  rw [hco] at HIF hc ⊢
  unfold faultV at HIF ⊢
  simp only at HIF hc ⊢
  generalize atOf oo = ao at *
  have hpos : (0 : Int) < (cc : Int) := by omega
  have hne0 : ((cc : Int) == 0) = false := by rw [beq_eq_false_iff_ne]; omega
  clear I sh hco hc
  go_enter Tryz.func18, Tryz.ntmps18
  go_wp2_with fail
  refine (HIF.out _ HB0.out).mono ?_
  rintro e w1 ⟨rfl, hb⟩
  have HP1 := hid (Pb.start (c := (cc : Int)) (a := ao) (by simpa using hb))
  clear hb
  obtain ⟨⟨s0, s1, sf⟩, f0, f1, ff⟩ := HP1.out.cells
  have hge := HP1.out.ge
  have n1 : ¬ w1.heap.size = w.heap.size := by omega
  have n2 : ¬ w.heap.size = w1.heap.size := by omega
  go_wp2_with fail
  generalize w1.alloc (.cells #[.int .i64 (cc : Int), .int .i64 ao] 44) = w2 at *
  go_region_with fail
  all_goals
    go_wp2_with fail
    refine bodyPost_ret (v := .tuple #[.slice none 0 0, .agg #[.int .i64 (cc : Int), .int .i64 ao]]) (by simp [results, Tryz.results18, go_sem, s0, s1]) rfl ⟨rfl, ?_⟩
    exact below_drawn_of (put2_below HP1.out.bl (Nat.le_refl _)) 1
set_option maxRecDepth 100000 in
set_option maxHeartbeats 2000000 in
theorem rap_sel (Q : List Raw) (L : List Ent) (R : List Bm) (v rv : Value) (w : World) (hn : L.length ≤ 1000) (sh : ∀ e, e ∈ L → ShE e) (I : Ixs w v Q L) (hR : R.length ≤ 1000000) (hr : MsAt w rv R) (hc : chk Q L = (0, none)) (hs : (slF Q R).1 ≠ 0) :
    Calls Tryz.prog 18 #[v, rv] w fun e w' => e = .returned (.tuple #[.slice none 0 0, faultV (slF Q R)]) ∧ Below w.heap.size w w' := by
  have HB0 := hid ((Below.refl w.heap.size w).alloc (Nat.le_refl _) (.cells #[.int .i64 0, .int .i64 0] 44))
  have HIF := hid (fun W (h : Below w.heap.size w W) => iFault_any Q L v W hn sh (I.below h))
  have HSF := hid (fun W (h : Below w.heap.size w W) => rsel_any Q R v rv W (by rw [I.ln]; exact hn) hR (I.es.below h) (hr.below h))
  obtain ⟨va, vc, hv1, -⟩ := id I.es
  subst hv1
  obtain ⟨ra, rc, hrv, -⟩ := id hr
  subst hrv
  rw [hc] at HIF
  obtain ⟨cc, oo, hco⟩ : ∃ cc oo, slF Q R = (cc, oo) := ⟨_, _, rfl⟩
  rw [hco] at HSF hs ⊢
  unfold faultV at HIF HSF ⊢
  simp only at HIF HSF hs ⊢
  have ha : atOf none = -1 := rfl
  rw [ha] at HIF
  generalize atOf oo = ao at *
  have hpos : (0 : Int) < (cc : Int) := by omega
  clear I sh hc hco hs hr
  go_enter Tryz.func18, Tryz.ntmps18
  go_wp2_with fail
  refine (HIF.out _ HB0.out).mono ?_
  rintro e w1 ⟨rfl, hb⟩
  have HP1 := hid (Pb.start (c := 0) (a := -1) (by simpa using hb))
  clear hb
  obtain ⟨-, f0, f1, ff⟩ := HP1.out.cells
  go_wp2_with fail
  generalize w1.alloc (.cells #[.int .i64 0, .int .i64 (-1)] 44) = w2 at *
  refine (HSF.out _ HP1.out.bl).mono ?_
  rintro e w3 ⟨rfl, hb⟩
  have HP3 := hid (HP1.out.below hb)
  clear hb f0 f1 ff HP1
  obtain ⟨-, f0, f1, ff⟩ := HP3.out.cells
  have HP4 := hid (HP3.out.set (x := (cc : Int)) (y := ao))
  have hge := HP3.out.ge
  have n1 : ¬ w1.heap.size = w.heap.size := by omega
  have n2 : ¬ w.heap.size = w1.heap.size := by omega
  go_wp2_with fail
  generalize (w3.setCell ⟨w1.heap.size, 0, none⟩ (.int .i64 (cc : Int))).setCell ⟨w1.heap.size, 1, none⟩ (.int .i64 ao) = w4 at *
  clear f0 f1 ff HP3
  obtain ⟨⟨s0, s1, sf⟩, f0, f1, ff⟩ := HP4.out.cells
  go_wp2_with fail
  go_region_with fail
  all_goals
    go_wp2_with fail
    refine bodyPost_ret (v := .tuple #[.slice none 0 0, .agg #[.int .i64 (cc : Int), .int .i64 ao]]) (by simp [results, Tryz.results18, go_sem, s0, s1]) rfl ⟨rfl, ?_⟩
    exact below_drawn_of (put2_below HP4.out.bl (Nat.le_refl _)) 1
theorem fold_snoc {Z : List ByteArray} {k : Nat} {X : List ByteArray} (h : k < Z.length) : (Z.take (k + 1)).foldl insT X = insT ((Z.take k).foldl insT X) Z[k] := by
  rw [List.take_succ_eq_append_getElem h, List.foldl_append]; rfl
theorem fold_row {Q : List Raw} {L : List Ent} {R : List Bm} {k : Nat} (h : k < R.length) : (((R.take (k + 1)).flatMap (pkOf Q L)).foldl insT []) = (pkOf Q L R[k]).foldl insT (((R.take k).flatMap (pkOf Q L)).foldl insT []) := by
  rw [List.take_succ_eq_append_getElem h, List.flatMap_append, List.foldl_append]; simp
structure Pr (w W : World) (fb : Nat) (u : Value) (X : List ByteArray) : Prop where
  pb : Pb w W fb 0 (-1)
  own : W.ownsRow (fb + 1) 9 1 u X.length (X.map Value.string)
  nl : X = [] → u = .slice none 0 0
theorem Pr.below {w W W' : World} {fb : Nat} {u : Value} {X : List ByteArray} (h : Pr w W fb u X) (hb : Below W.heap.size W W') : Pr w W' fb u X :=
  ⟨h.pb.below hb, owns_below h.own hb, h.nl⟩
theorem row_set {W : World} {B fb o n : Nat} {e : TypeId} {u x : Value} {xs : List Value} (h : W.ownsRow B e 1 u n xs) (hne : ∀ b, u.ownBlock = some b → fb ≠ b) : (W.setCell ⟨fb, o, none⟩ x).ownsRow B e 1 u n xs := by
  obtain ⟨hl, h | ⟨g, cap, cur, e1, e2, e3, r⟩⟩ := h
  · exact ⟨hl, Or.inl h⟩
  · refine ⟨hl, Or.inr ⟨g, cap, cur, e1, e2, keep_set e3 (fun h => hne g (by rw [e1]; rfl) h.symm), r⟩⟩
theorem insT_ne (X : List ByteArray) (s : ByteArray) : insT X s ≠ [] := fun h => by
  have : s ∈ insT X s := insT_mem.2 (Or.inl rfl)
  rw [h] at this; cases this
set_option maxRecDepth 100000 in
set_option maxHeartbeats 4000000 in
theorem rap_good (Q : List Raw) (L : List Ent) (R : List Bm) (v rv : Value) (w : World) (hn : L.length ≤ 1000) (sh : ∀ e, e ∈ L → ShE e) (I : Ixs w v Q L) (hR : R.length ≤ 1000) (hr : MsAt w rv R) (hc : chk Q L = (0, none)) (hs : slF Q R = (0, none)) (hu : ∀ j (h : j < R.length), ∃ k : Nat, idxOf (isM R[j]) Q = (k : Int)) :
    Calls Tryz.prog 18 #[v, rv] w fun e w' => ∃ u, e = .returned (.tuple #[u, faultV (0, none)]) ∧ TxAt w' u (alN Q L R) ∧ Below w.heap.size w w' := by
  have HB0 := hid ((Below.refl w.heap.size w).alloc (Nat.le_refl _) (.cells #[.int .i64 0, .int .i64 0] 44))
  have HIF := hid (fun W (h : Below w.heap.size w W) => iFault_any Q L v W hn sh (I.below h))
  have HSF := hid (fun W (h : Below w.heap.size w W) => rsel_any Q R v rv W (by rw [I.ln]; exact hn) (by omega) (I.es.below h) (hr.below h))
  have HFO := hid (fun m (j : Nat) (hj : idxOf (isM m) Q = (j : Int)) W (h : Below w.heap.size w W) => by have h9 := findOf_all Q m v W (by rw [I.ln]; omega) (I.es.below h); rw [hj] at h9; exact h9)
  have HMR := hid (fun W (h : Below w.heap.size w W) => hr.below h)
  have HIX := hid (fun W (h : Below w.heap.size w W) => I.below h)
  have HSH := hid sh
  have HU := hid hu
  have HFN := hid (fun W => fine_any W)
  obtain ⟨va, vc, hv1, -⟩ := id I.es
  subst hv1
  obtain ⟨ra, rc, hrv, -⟩ := id hr
  subst hrv
  rw [hc] at HIF
  rw [hs] at HSF
  unfold faultV at HIF HSF ⊢
  simp only at HIF HSF ⊢
  have ha : atOf none = -1 := rfl
  rw [ha] at HIF HSF ⊢
  obtain ⟨ans, hans⟩ : ∃ ans, ans = alN Q L R := ⟨_, rfl⟩
  rw [← hans]
  have HANS := hid hans
  clear I sh hc hs hr hu hans
  go_enter Tryz.func18, Tryz.ntmps18
  go_wp2_with fail
  refine (HIF.out _ HB0.out).mono ?_
  rintro e w1 ⟨rfl, hb⟩
  have HP1 := hid (Pb.start (c := 0) (a := -1) (by simpa using hb))
  clear hb
  obtain ⟨-, f0, f1, ff⟩ := HP1.out.cells
  go_wp2_with fail
  generalize w1.alloc (.cells #[.int .i64 0, .int .i64 (-1)] 44) = w2 at *
  refine (HSF.out _ HP1.out.bl).mono ?_
  rintro e w3 ⟨rfl, hb⟩
  have HP3 := hid (HP1.out.below hb)
  clear hb f0 f1 ff HP1
  obtain ⟨-, f0, f1, ff⟩ := HP3.out.cells
  have HP4 := hid (HP3.out.set (x := 0) (y := -1))
  go_wp2_with fail
  generalize (w3.setCell ⟨w1.heap.size, 0, none⟩ (.int .i64 0)).setCell ⟨w1.heap.size, 1, none⟩ (.int .i64 (-1)) = w4 at *
  clear f0 f1 ff HP3
  obtain ⟨-, f0, f1, ff⟩ := HP4.out.cells
  go_wp2_with fail
  have HR4 := hid (show Pr w w4 w1.heap.size (.slice none 0 0) [] from ⟨HP4.out, World.ownsRow_nil _ _ _ _, fun _ => rfl⟩)
  clear f0 f1 ff
  go_loopw [7, 8] (fun ov iv wr => ∃ (i : Nat) (X : List ByteArray), i ≤ R.length ∧ iv = .int .i64 i ∧ Hid (X = ((R.take i).flatMap (pkOf Q L)).foldl insT []) ∧ X.length ≤ i * 1000 ∧ Hid (Pr w wr w1.heap.size ov X)) (fun _ iv _ => R.length - (intOf iv).toNat)
  case atStart => exact ⟨0, [], Nat.zero_le _, rfl, hid rfl, Nat.zero_le _, HR4⟩
  case round =>
    obtain ⟨i, X, hi, rfl, HX, hXl, HPR⟩ := hrel
    by_cases hlt : i < R.length
    · have hiI := ix_lt hlt
      have hi0 := ix_pos i
      have HLT := hid hlt
      obtain ⟨xb, xo, hxa, y0, y1⟩ := (HMR.out _ HPR.out.pb.bl).cells hlt
      subst hxa
      obtain ⟨j, hj⟩ := HU.out i hlt
      have HF := hid (HFO.out _ j hj _ HPR.out.pb.bl)
      have HOP := hid (fun W (h : Below w.heap.size w W) => pk_open (HIX.out W h) HSH.out hj)
      have HRW := hid (fold_row (Q := Q) (L := L) hlt)
      clear hj
      generalize R[i] = x at *
      obtain ⟨x1, x2'⟩ := x
      clear hlt
      go_wp2_with fail
      refine HF.out.mono ?_
      rintro e w6 ⟨rfl, hb⟩
      have HR6 := hid (HPR.out.below hb)
      clear hb y0 y1
      obtain ⟨eb, eo, t, q, qa, qn, qc, pa, pn, pc, bk, P, hva, hjQ, c0, c1, c2, c3, c4, hP, hPl, ht, hPs, hPK⟩ := HOP.out _ HR6.out.pb.bl
      subst hva
      have hjI := ix_lt hjQ
      have hj0 := ix_pos j
      have HPS := hid (rpacks_is t q qa qn qc pa pn pc bk P w6 hP hPl ht hPs)
      rw [hPK] at HPS
      have HPL := hid (show (pkOf Q L (x1, x2')).length ≤ 1000 by rw [← hPK, List.length_map]; exact hPl)
      clear hP hPl ht hPs hPK HOP
      generalize pkOf Q L (x1, x2') = Z at *
      go_wp2_with fail
      refine HPS.out.mono ?_
      rintro e w7 ⟨zv, rfl, hz, hb⟩
      have HR7 := hid (HR6.out.below hb)
      have HZ7 := hid hz
      obtain ⟨za, zc, hz1, -⟩ := hz
      subst hz1
      clear hb c0 c1 c2 c3 c4 HR6 HPS
      go_wp2_with fail
      obtain ⟨wo, hwo⟩ : ∃ wo, wo = wr := ⟨_, rfl⟩
      subst hwo
      have hZl := HPL.out
      go_loopw [7, 10] (fun ov kv wr => ∃ (k : Nat) (Y : List ByteArray), k ≤ Z.length ∧ kv = .int .i64 k ∧ Hid (Y = (Z.take k).foldl insT X) ∧ Y.length ≤ X.length + k ∧ Hid (Pr w wr w1.heap.size ov Y) ∧ Hid (TxAt wr (.slice za Z.length zc) Z)) (fun _ kv _ => Z.length - (intOf kv).toNat)
      case atStart => exact ⟨0, X, Nat.zero_le _, rfl, hid rfl, Nat.le_refl _, HR7, HZ7⟩
      case round =>
        obtain ⟨k, Y, hk, rfl, HY, hYl, HPR8, HZ8⟩ := hrel
        by_cases hlk : k < Z.length
        · have hkI := ix_lt hlk
          have hk0 := ix_pos k
          have HLK := hid hlk
          obtain ⟨lb, lo, rfl, q0⟩ := tx_cellK HZ8.out hlk
          have HSN := hid (fold_snoc (X := X) hlk)
          have hiR : i < R.length := HLT.out
          have HWT := hid (rwith_any Y Z[k] _ (w1.heap.size + 1) wr (lt_of_blk HPR8.out.pb.f) (by omega) HPR8.out.own HPR8.out.nl)
          generalize Z[k] = z at *
          clear hlk
          go_wp2_with fail
          refine HWT.out.mono ?_
          rintro e w9 ⟨u', rfl, hown, hb⟩
          have HPR9 := hid (show Pr w w9 w1.heap.size u' (insT Y z) from ⟨HPR8.out.pb.below hb, hown, fun h => absurd h (insT_ne _ _)⟩)
          have HZ9 := hid (HZ8.out.below hb)
          have HIL := hid (insT_len (s := z) (X := Y))
          have HSN2 := hid (show insT Y z = (Z.take (k + 1)).foldl insT X by rw [HSN.out, ← HY.out])
          clear hown hb
          go_wp2_with fail
          go_roundw
          case rel => exact ⟨k + 1, _, HLK.out, by first | exact nr_idx k | exact nx_idx HLK.out (by omega : Z.length ≤ 1000000), HSN2, by have := HIL.out; omega, HPR9, HZ9⟩
          case measure => first | exact nr_meas HLK.out | exact nx_meas HLK.out (by omega : Z.length ≤ 1000000)
        · have hkI := ix_nlt hlk
          have hke : k = Z.length := by omega
          have HYE := hid (show Y = ((R.take (i + 1)).flatMap (pkOf Q L)).foldl insT [] by
            rw [HRW.out, ← HX.out, HY.out, hke, List.take_length])
          clear hlk
          go_wp2_with fail
          go_roundw
          case rel => exact ⟨i + 1, Y, HLT.out, by first | exact nr_idx i | exact nx_idx HLT.out (by omega : R.length ≤ 1000000), HYE, by omega, HPR8⟩
          case measure => first | exact nr_meas HLT.out | exact nx_meas HLT.out (by omega : R.length ≤ 1000000)
    · have hiI := ix_nlt hlt
      have HXA := hid (show X = ans by rw [HX.out, HANS.out, List.take_of_length_le (by omega)]; rfl)
      clear hlt
      go_wp2_with fail
      refine (HFN.out _).mono ?_
      rintro e w7 ⟨rfl, hb⟩
      have HR7 := hid (HPR.out.below hb)
      clear hb
      obtain ⟨⟨s0, s1, sf⟩, -⟩ := HR7.out.pb.cells
      go_wp2_with fail
      refine bodyPost_ret (v := .tuple #[u7, .agg #[.int .i64 0, .int .i64 (-1)]]) (by simp [results, Tryz.results18, go_sem, s0, s1]) rfl ⟨_, rfl, ?_, ?_⟩
      · rw [← HXA.out]
        have hne : ∀ b, u7.ownBlock = some b → w.heap.size ≠ b := fun b hb e => by
          have h1 := (HR7.out.own.lt b hb).1
          have h2 := HR7.out.pb.ge
          omega
        exact own_tx (row_set (row_set HR7.out.own hne) hne)
      · exact put2_below HR7.out.pb.bl (Nat.le_refl _)
end Ve
end Go.Proofs.YtjndahjfodnllaaGreatDoor


namespace Go.Proofs.YtjndahjfodnllaaGreatDoor
open Go.RowKit Go.Maps
namespace Ve
theorem rap_any (Q : List Raw) (L : List Ent) (R : List Bm) (v rv : Value) (w : World) (hn : L.length ≤ 1000) (sh : ∀ e, e ∈ L → ShE e) (I : Ixs w v Q L) (hR : R.length ≤ 1000) (hr : MsAt w rv R) :
    Calls Tryz.prog 18 #[v, rv] w fun e w' => ∃ u, e = .returned (.tuple #[u, faultV (alF Q L R)]) ∧ TxAt w' u (alX Q L R) ∧ Below w.heap.size w w' := by
  obtain ⟨ra, rc, hrv, -⟩ := id hr
  have tz : ∀ W, TxAt W (.slice none 0 0) [] := fun W => ⟨none, 0, rfl, Nat.le_refl _, fun h => absurd rfl h⟩
  by_cases hc : (chk Q L).1 = 0
  · have hc0 := chk_fine hc
    have e : alF Q L R = slF Q R := by unfold alF; rw [if_neg (by simp [hc])]
    by_cases hs : (slF Q R).1 = 0
    · have hs0 := slF_fine hs
      have e2 : alX Q L R = alN Q L R := by unfold alX; rw [e, if_pos hs]
      rw [e, e2, hs0]
      exact rap_good Q L R v rv w hn sh I hR hr hc0 hs0 (sl_found I hs)
    · have e2 : alX Q L R = [] := by unfold alX; rw [e, if_neg hs]
      rw [e, e2]
      exact (rap_sel Q L R v rv w hn sh I (by omega) hr hc0 hs).mono fun _ w' ⟨h1, h2⟩ => ⟨_, h1, tz w', h2⟩
  · have e : alF Q L R = chk Q L := by unfold alF; rw [if_pos hc]
    have e2 : alX Q L R = [] := by unfold alX; rw [e, if_neg hc]
    rw [e, e2]
    exact (rap_chk Q L v rv ra R.length rc hrv w hn sh I hc).mono fun _ w' ⟨h1, h2⟩ => ⟨_, h1, tz w', h2⟩
theorem path_snoc {Q : List Raw} {k : Nat} (h : k < Q.length) : (pathL (Q.take (k + 1))).foldl insT [] = insT ((pathL (Q.take k)).foldl insT []) Q[k].1.1 := by
  rw [pathL_next h, List.foldl_append]; rfl
structure Ps (w W : World) (u : Value) (X : List ByteArray) : Prop where
  own : W.ownsRow w.heap.size 9 1 u X.length (X.map Value.string)
  nl : X = [] → u = .slice none 0 0
  bl : Below w.heap.size w W
theorem Ps.below {w W W' : World} {u : Value} {X : List ByteArray} (h : Ps w W u X) (hb : Below W.heap.size W W') : Ps w W' u X :=
  ⟨owns_below h.own hb, h.nl, h.bl.trans (hb.mono h.bl.size)⟩
theorem path_at {W : World} {b o n c : Nat} {Q : List Raw} (h : EsAt W (.slice (some ⟨b, o, none⟩) n c) Q) {k : Nat} (hk : k < Q.length) : W.cell? ⟨b, o + k * 5, none⟩ = some (.string Q[k].1.1) := by
  obtain ⟨b', o', e, -, c0, -⟩ := es_at h hk
  injection e with e
  injection e with e1 e2
  subst e1 e2
  exact c0
set_option maxRecDepth 100000 in
set_option maxHeartbeats 8000000 in
theorem rpaths_any (Q : List Raw) (v : Value) (w : World) (hn : Q.length ≤ 1000) (hv : EsAt w v Q) :
    Calls Tryz.prog 46 #[v] w fun e w' => ∃ u, e = .returned u ∧ TxAt w' u (phX Q) ∧ Below w.heap.size w w' := by
  obtain ⟨i0, hi, hz0, hz1, hz2⟩ := info_parts infoStr
  have HES := hid (fun W (h : Below w.heap.size w W) => hv.below h)
  obtain ⟨va, vc, hv1, -⟩ := id hv
  subst hv1
  obtain ⟨ans, hans⟩ : ∃ ans, ans = phX Q := ⟨_, rfl⟩
  rw [← hans]
  have HANS := hid hans
  clear hv hans
  go_enter Tryz.func46, Tryz.ntmps46
  go_wp2_with fail
  go_loopw [3, 4] (fun ov iv wr => ∃ (i : Nat) (X : List ByteArray), i ≤ Q.length ∧ iv = .int .i64 i ∧ Hid (X = (pathL (Q.take i)).foldl insT []) ∧ X.length ≤ i ∧ Hid (Ps w wr ov X)) (fun _ iv _ => Q.length - (intOf iv).toNat)
  case atStart => exact ⟨0, [], Nat.zero_le _, rfl, hid rfl, Nat.zero_le _, hid ⟨World.ownsRow_nil _ _ _ _, fun _ => rfl, Below.refl _ _⟩⟩
  case round =>
    obtain ⟨i, X, hi9, rfl, HX, hXl, HPS⟩ := hrel
    by_cases hlt : i < Q.length
    · have hiI := ix_lt hlt
      have hi0 := ix_pos i
      have HLT := hid hlt
      obtain ⟨lb, lo, rfl, -, -⟩ := es_at (HES.out _ HPS.out.bl) hlt
      have HCC := hid (fun W (h : Below w.heap.size w W) => path_at (HES.out W h) hlt)
      have HSN := hid (path_snoc hlt)
      generalize Q[i].1.1 = s at *
      obtain ⟨wo, hwo⟩ : ∃ wo, wo = wr := ⟨_, rfl⟩
      subst hwo
      clear hlt
      by_cases hX0 : X = []
      · subst hX0
        obtain rfl := HPS.out.nl rfl
        have c0 := HCC.out _ HPS.out.bl
        go_wp2_with fail
        go_loopw [5] (fun a wr => a = .int .i64 0 ∧ Hid (Ps w wr (.slice none 0 0) [])) (fun _ _ => 0)
        case atStart => exact ⟨rfl, HPS⟩
        case round =>
          obtain ⟨rfl, HPS2⟩ := hrel
          clear c0
          have c0 := HCC.out _ HPS2.out.bl
          go_wp2_with fail
          go_quiet (fail)
          have HSX := hid (HPS2.out.below (below_drawn _ nq))
          generalize wr.drewN nq = W at *
          clear c0
          have c0 := HCC.out _ HSX.out.bl
          have hwz := HSX.out.bl.size
          go_wp2_with (first
            | (at_builtin; refine wpList_append_own_none rfl _ _ 33 rfl 0 9 i0 1 Tryz.underlying33 hi _ _ _ rfl (World.ownsRow_nil _ _ _ _) rfl ?_)
            | (at_builtin; refine wpList_append_own _ rfl _ _ 33 rfl W.heap.size 9 i0 (.string ByteArray.empty) 1 16 Tryz.underlying33 hi hz0 hz1 hz2 rfl (by decide) _ _ _ rfl (World.ownsRow_nil _ _ _ _) ⟨W.heap.size, 0, none⟩ 1 1 [.string s] rfl rfl ?c1 ?c2 ?c3 ?c4 ?c5 ?_))
          case c1 =>
            intro t u ht
            match t, ht with
            | 0, ht => simp at ht; subst ht; simp [Addr.add]
          case c2 => intro u hu; simp at hu; subst hu; rfl
          case c3 => unfold maxLen; omega
          case c4 => omega
          case c5 => simp
          intro v1 W1 hown1 hgr1 _
          have HO1 := hid hown1
          have HB1 := hid (((Below.refl W.heap.size W).alloc (Nat.le_refl _) _).grown hgr1 (by simp) (fun t ht => by cases ht))
          have HS3 := hid (HSX.out.below HB1.out)
          clear hown1 hgr1 c0
          go_wp2_with (at_builtin; refine wpList_append_own_none rfl _ _ 33 rfl _ 9 i0 1 Tryz.underlying33 hi _ _ _ rfl (HO1.out) rfl ?_)
          have HPE := hid (show Ps w W1 v1 [s] from ⟨by simpa using owns_mono HO1.out hwz, (fun h => by cases h), HS3.out.bl⟩)
          have HSE := hid (show [s] = (pathL (Q.take (i + 1))).foldl insT [] by rw [HSN.out, ← HX.out]; rfl)
          go_roundw
          case rel => exact ⟨i + 1, [s], HLT.out, by first | exact nr_idx i | exact nx_idx HLT.out (by omega : Q.length ≤ 1000000), HSE, by simp, HPE⟩
          case measure => first | exact nr_meas HLT.out | exact nx_meas HLT.out (by omega : Q.length ≤ 1000000)
      · obtain ⟨g, cp, rfl, hg, -, -⟩ := owned_cells HPS.out.own hX0
        have HAT := hid (fun (a : Nat) h1 h2 h3 => insT_at (s := s) (X := X) (a := a) h1 h2 h3)
        have HTW := hid (fun (W : World) (h : Ps w W (.slice (some ⟨g, 0, none⟩) X.length cp) X) => owned_at h.own)
        have hcap := owned_cap HPS.out.own
        have hcp : cp ≤ 9223372036854775807 := hcap.2
        have HCP := hid hcap
        have HSE := hid (show insT X s = (pathL (Q.take (i + 1))).foldl insT [] by rw [HSN.out, ← HX.out])
        have HIL := hid (insT_len (s := s) (X := X))
        clear hcap
        go_wp2_with fail
        go_loopw [5] (fun a wr => ∃ j : Nat, j ≤ X.length ∧ a = .int .i64 j ∧ Hid (∀ t (ht : t < X.length), t < j → lt X[t] s = true) ∧ Hid (Ps w wr (.slice (some ⟨g, 0, none⟩) X.length cp) X)) (fun a _ => X.length - (intOf a).toNat)
        case atStart => exact ⟨0, Nat.zero_le _, rfl, hid (fun t _ h => absurd h (Nat.not_lt_zero t)), HPS⟩
        case round =>
          obtain ⟨j, hj, rfl, HLJ, HPS2⟩ := hrel
          have c0 := HCC.out _ HPS2.out.bl
          by_cases hjX : j < X.length
          · have hjI := ix_lt hjX
            have hj0 := ix_pos j
            have HJX := hid hjX
            have HXC := hid (fun W (h : Ps w W (.slice (some ⟨g, 0, none⟩) X.length cp) X) => HTW.out W h j hjX)
            have x1 := HXC.out _ HPS2.out
            have hls := lss_lt X[j] s
            cases hl : lt X[j] s
            · rw [hl] at hls
              have HIX := hid (HAT.out j hj HLJ.out (fun _ => hl))
              by_cases he : X[j] = s
              · have HIN := hid (show insT X s = X by rw [HIX.out, if_pos (by rw [List.getElem?_eq_getElem hjX]; exact congrArg some he)])
                have hss : (X[j].toList == s.toList) = true := by rw [he]; exact beq_self_eq_true _
                clear hl he HIX HLJ
                generalize X[j] = x at *
                go_wp2_with fail
                go_quiet (fail)
                have HSX := hid (HPS2.out.below (below_drawn _ nq))
                generalize wr.drewN nq = W at *
                clear c0 x1
                have c0 := HCC.out _ HSX.out.bl
                have x1 := HXC.out _ HSX.out
                go_wp2_with fail
                go_quiet (fail)
                have HSY := hid (HSX.out.below (below_drawn _ nq))
                go_wp2_with fail
                go_roundw
                case rel => exact ⟨i + 1, X, HLT.out, by first | exact nr_idx i | exact nx_idx HLT.out (by omega : Q.length ≤ 1000000), hid (by rw [← HSE.out, HIN.out]), by omega, HSY⟩
                case measure => first | exact nr_meas HLT.out | exact nx_meas HLT.out (by omega : Q.length ≤ 1000000)
              · have HIN := hid (show insT X s = X.take j ++ s :: X.drop j by rw [HIX.out, if_neg (by rw [List.getElem?_eq_getElem hjX]; exact fun e => he (Option.some.inj e))])
                have hss := str_ne he
                have t2 : (j : Int) ≤ (cp : Int) := by have := HCP.out.1; omega
                have t3 : (j : Int) ≤ (X.length : Int) := by omega
                have t4 : (X.length : Int) ≤ (cp : Int) := by have := HCP.out.1; omega
                clear hl he HIX HLJ
                generalize X[j] = x at *
                go_wp2_with fail
                go_quiet (fail)
                have HSX := hid (HPS2.out.below (below_drawn _ nq))
                generalize wr.drewN nq = W at *
                clear c0 x1
                have c0 := HCC.out _ HSX.out.bl
                have x1 := HXC.out _ HSX.out
                go_wp2_with fail
                go_quiet (fail)
                have HSY := hid (HSX.out.below (below_drawn _ nq))
                generalize W.drewN nq = W2 at *
                clear c0 x1
                have c0 := HCC.out _ HSY.out.bl
                obtain ⟨XS, hXS⟩ : ∃ XS, XS = (X.take j).map Value.string := ⟨_, rfl⟩
                have HXS := hid hXS
                have HXL := hid (show XS.length = j by rw [hXS]; simp; omega)
                have HXN := hid (show ∀ t u, XS[t]? = some u → W2.cell? ((⟨g, 0, none⟩ : Addr).add t) = some u from fun t u ht => news_at (HTW.out _ HSY.out) 0 j t u (by rw [hXS] at ht; simpa using ht))
                have HXO := hid (show ∀ u, u ∈ XS → u.oneCell' = true from fun u hu => by rw [hXS] at hu; obtain ⟨x, _, rfl⟩ := List.mem_map.1 hu; rfl)
                clear hXS
                go_wp2_with (at_builtin; refine wpList_append_own _ rfl _ _ 33 rfl W2.heap.size 9 i0 (.string ByteArray.empty) 1 16 Tryz.underlying33 hi hz0 hz1 hz2 rfl (by decide) _ _ _ rfl (World.ownsRow_nil _ _ _ _) ⟨g, 0, none⟩ j cp XS rfl ?c0 ?c1 ?c2 ?c3 ?c4 ?c5 ?_)
                first | (case c0 => rw [HXL.out]; simp) | (case c0 => exact HXL.out) | skip
                case c1 => first | exact HXN.out | (intro t u ht; have h := HXN.out t u ht; rw [Addr.add_lit] at h; simpa using h)
                case c2 => exact HXO.out
                case c3 => unfold maxLen; omega
                case c4 => omega
                first | (case c5 => exact Nat.le_refl _) | skip
                intro v1 W3 hown1 hgr1 _
                have HO1 := hid hown1
                have HB1 := hid (grown_below hgr1)
                have HS3 := hid (HSY.out.below HB1.out)
                have hw1 := HB1.out.size
                clear hown1 hgr1 c0
                have c0 := HCC.out _ HS3.out.bl
                go_wp2_with (at_builtin; refine wpList_append_own _ rfl _ _ 33 rfl W2.heap.size 9 i0 (.string ByteArray.empty) 1 16 Tryz.underlying33 hi hz0 hz1 hz2 rfl (by decide) _ _ _ rfl (HO1.out.alloc _) ⟨W3.heap.size, 0, none⟩ 1 1 [.string s] rfl rfl ?d1 ?d2 ?d3 ?d4 ?d5 ?_)
                case d1 =>
                  intro t u ht
                  match t, ht with
                  | 0, ht => simp at ht; subst ht; simp [Addr.add]
                case d2 => intro u hu; simp at hu; subst hu; rfl
                case d3 => unfold maxLen; omega
                case d4 => omega
                case d5 => simp; omega
                intro v2 W4 hown2 hgr2 _
                have HO2 := hid hown2
                have HB2 := hid (rel_app HB1.out.size HB1.out HO1.out (Below.refl _ _) hgr2)
                have HS4 := hid (HSY.out.below HB2.out)
                have HCL2 := hid (HTW.out _ HS4.out)
                have hw2 := HB2.out.size
                clear hown2 hgr2 c0
                go_wp2_with (at_builtin; refine wpList_append_own _ rfl _ _ 33 rfl W2.heap.size 9 i0 (.string ByteArray.empty) 1 16 Tryz.underlying33 hi hz0 hz1 hz2 rfl (by decide) _ _ _ rfl HO2.out ⟨g, j, none⟩ (X.length - j) (cp - j) ((X.drop j).map Value.string) rfl ?e0 ?e1 ?e2 ?e3 ?e4 ?e5 ?_)
                case e0 => simp
                case e1 => intro t u ht; exact news_at HCL2.out j (X.length - j) t u (by rw [List.take_of_length_le (by simp)]; exact ht)
                case e2 => intro u hu; obtain ⟨x, _, rfl⟩ := List.mem_map.1 hu; rfl
                case e3 => unfold maxLen; omega
                case e4 => omega
                case e5 => exact hw2
                intro v3 W5 hown3 hgr3 _
                have HB3 := hid (HB2.out.grown hgr3 hw2 (fun t ht => (HO2.out.lt t ht).1))
                have HS5 := hid (HSY.out.below HB3.out)
                have HO3 := hid (show W5.ownsRow w.heap.size 9 1 v3 (X.take j ++ s :: X.drop j).length ((X.take j ++ s :: X.drop j).map Value.string) by
                  have h := owns_mono hown3 HSY.out.bl.size
                  rw [HXS.out] at h
                  have e1 : (X.take j ++ s :: X.drop j).length = j + 1 + (X.length - j) := by simp; omega
                  rw [e1]
                  simpa using h)
                have HPE := hid (show Ps w W5 v3 (insT X s) from ⟨by rw [HIN.out]; exact HO3.out, (fun h => absurd h (insT_ne _ _)), HS5.out.bl⟩)
                clear hown3 hgr3
                go_wp2_with fail
                go_roundw
                case rel => exact ⟨i + 1, _, HLT.out, by first | exact nr_idx i | exact nx_idx HLT.out (by omega : Q.length ≤ 1000000), HSE, by have := HIL.out; omega, HPE⟩
                case measure => first | exact nr_meas HLT.out | exact nx_meas HLT.out (by omega : Q.length ≤ 1000000)
            · have HL2 := hid (show ∀ t (ht : t < X.length), t < j + 1 → lt X[t] s = true from fun t ht htj => by
                rcases Nat.lt_or_ge t j with h | h
                · exact HLJ.out t ht h
                · have : t = j := by omega
                  subst this; exact hl)
              rw [hl] at hls
              clear hl HLJ
              generalize X[j] = x at *
              go_wp2_with fail
              go_quiet (fail)
              have HSX := hid (HPS2.out.below (below_drawn _ nq))
              go_wp2_with fail
              go_roundw
              case rel => exact ⟨j + 1, HJX.out, by first | exact nr_idx j | exact nx_idx HJX.out (by omega : X.length ≤ 1000000), HL2, HSX⟩
              case measure => first | exact nr_meas HJX.out | exact nx_meas HJX.out (by omega : X.length ≤ 1000000)
          · obtain rfl : j = X.length := by omega
            have HIN := hid (show insT X s = X.take X.length ++ s :: X.drop X.length by rw [HAT.out X.length (Nat.le_refl _) HLJ.out (fun h => absurd h (Nat.lt_irrefl _)), if_neg (by simp)])
            have hjI := ix_nlt hjX
            have hjd : decide ((X.length : Int) < (X.length : Int)) = false := decide_eq_false hjI
            clear HLJ hjX
            by_cases hcx : cp = X.length
            · subst hcx
              have t1 : (0 : Int) ≤ (X.length : Int) := by omega
              have t2 : (X.length : Int) ≤ (X.length : Int) := by omega
              go_wp2_with fail
              go_quiet (fail)
              have HSY := hid (HPS2.out.below (below_drawn _ nq))
              generalize wr.drewN nq = W2 at *
              clear c0
              have c0 := HCC.out _ HSY.out.bl
              obtain ⟨XS, hXS⟩ : ∃ XS, XS = (X.take (X.length)).map Value.string := ⟨_, rfl⟩
              have HXS := hid hXS
              have HXL := hid (show XS.length = (X.length) by rw [hXS]; simp)
              have HXN := hid (show ∀ t u, XS[t]? = some u → W2.cell? ((⟨g, 0, none⟩ : Addr).add t) = some u from fun t u ht => news_at (HTW.out _ HSY.out) 0 (X.length) t u (by rw [hXS] at ht; simpa using ht))
              have HXO := hid (show ∀ u, u ∈ XS → u.oneCell' = true from fun u hu => by rw [hXS] at hu; obtain ⟨x, _, rfl⟩ := List.mem_map.1 hu; rfl)
              clear hXS
              go_wp2_with (at_builtin; refine wpList_append_own _ rfl _ _ 33 rfl W2.heap.size 9 i0 (.string ByteArray.empty) 1 16 Tryz.underlying33 hi hz0 hz1 hz2 rfl (by decide) _ _ _ rfl (World.ownsRow_nil _ _ _ _) ⟨g, 0, none⟩ (X.length) X.length XS rfl ?c0 ?c1 ?c2 ?c3 ?c4 ?c5 ?_)
              first | (case c0 => rw [HXL.out]; simp) | (case c0 => exact HXL.out) | skip
              case c1 => first | exact HXN.out | (intro t u ht; have h := HXN.out t u ht; rw [Addr.add_lit] at h; simpa using h)
              case c2 => exact HXO.out
              case c3 => unfold maxLen; omega
              case c4 => omega
              first | (case c5 => exact Nat.le_refl _) | skip
              intro v1 W3 hown1 hgr1 _
              have HO1 := hid hown1
              have HB1 := hid (grown_below hgr1)
              have HS3 := hid (HSY.out.below HB1.out)
              have hw1 := HB1.out.size
              clear hown1 hgr1 c0
              have c0 := HCC.out _ HS3.out.bl
              go_wp2_with (at_builtin; refine wpList_append_own _ rfl _ _ 33 rfl W2.heap.size 9 i0 (.string ByteArray.empty) 1 16 Tryz.underlying33 hi hz0 hz1 hz2 rfl (by decide) _ _ _ rfl (HO1.out.alloc _) ⟨W3.heap.size, 0, none⟩ 1 1 [.string s] rfl rfl ?d1 ?d2 ?d3 ?d4 ?d5 ?_)
              case d1 =>
                intro t u ht
                match t, ht with
                | 0, ht => simp at ht; subst ht; simp [Addr.add]
              case d2 => intro u hu; simp at hu; subst hu; rfl
              case d3 => unfold maxLen; omega
              case d4 => omega
              case d5 => simp; omega
              intro v2 W4 hown2 hgr2 _
              have HO2 := hid hown2
              have HB2 := hid (rel_app HB1.out.size HB1.out HO1.out (Below.refl _ _) hgr2)
              have HS4 := hid (HSY.out.below HB2.out)
              have HCL2 := hid (HTW.out _ HS4.out)
              have hw2 := HB2.out.size
              clear hown2 hgr2 c0
              go_wp2_with (at_builtin; refine wpList_append_own _ rfl _ _ 33 rfl W2.heap.size 9 i0 (.string ByteArray.empty) 1 16 Tryz.underlying33 hi hz0 hz1 hz2 rfl (by decide) _ _ _ rfl HO2.out _ _ _ [] rfl ?e0 ?e1 ?e2 ?e3 ?e4 ?e5 ?_)
              case e0 => simp
              case e1 => intro t u ht; simp at ht
              case e2 => intro u hu; cases hu
              case e3 => unfold maxLen; omega
              case e4 => omega
              case e5 => exact hw2
              intro v3 W5 hown3 hgr3 _
              have HB3 := hid (HB2.out.grown hgr3 hw2 (fun t ht => (HO2.out.lt t ht).1))
              have HS5 := hid (HSY.out.below HB3.out)
              have HO3 := hid (show W5.ownsRow w.heap.size 9 1 v3 (X.take (X.length) ++ s :: X.drop (X.length)).length ((X.take (X.length) ++ s :: X.drop (X.length)).map Value.string) by
                have h := owns_mono hown3 HSY.out.bl.size
                rw [HXS.out] at h
                have e1 : (X.take (X.length) ++ s :: X.drop (X.length)).length = X.length + 1 := by simp
                rw [e1]
                simpa using h)
              have HPE := hid (show Ps w W5 v3 (insT X s) from ⟨by rw [HIN.out]; exact HO3.out, (fun h => absurd h (insT_ne _ _)), HS5.out.bl⟩)
              clear hown3 hgr3
              go_wp2_with fail
              go_roundw
              case rel => exact ⟨i + 1, _, HLT.out, by first | exact nr_idx i | exact nx_idx HLT.out (by omega : Q.length ≤ 1000000), HSE, by have := HIL.out; omega, HPE⟩
              case measure => first | exact nr_meas HLT.out | exact nx_meas HLT.out (by omega : Q.length ≤ 1000000)
            · have hcx1 : X.length < cp := by have := HCP.out.1; omega
              have hcx2 : (X.length : Int) < (cp : Int) := by omega
              have t1 : (0 : Int) ≤ (X.length : Int) := by omega
              have t2 : (X.length : Int) ≤ (cp : Int) := by omega
              have t3 : (X.length : Int) ≤ (X.length : Int) := by omega
              go_wp2_with fail
              go_quiet (fail)
              have HSY := hid (HPS2.out.below (below_drawn _ nq))
              generalize wr.drewN nq = W2 at *
              clear c0
              have c0 := HCC.out _ HSY.out.bl
              obtain ⟨XS, hXS⟩ : ∃ XS, XS = (X.take (X.length)).map Value.string := ⟨_, rfl⟩
              have HXS := hid hXS
              have HXL := hid (show XS.length = (X.length) by rw [hXS]; simp)
              have HXN := hid (show ∀ t u, XS[t]? = some u → W2.cell? ((⟨g, 0, none⟩ : Addr).add t) = some u from fun t u ht => news_at (HTW.out _ HSY.out) 0 (X.length) t u (by rw [hXS] at ht; simpa using ht))
              have HXO := hid (show ∀ u, u ∈ XS → u.oneCell' = true from fun u hu => by rw [hXS] at hu; obtain ⟨x, _, rfl⟩ := List.mem_map.1 hu; rfl)
              clear hXS
              go_wp2_with (at_builtin; refine wpList_append_own _ rfl _ _ 33 rfl W2.heap.size 9 i0 (.string ByteArray.empty) 1 16 Tryz.underlying33 hi hz0 hz1 hz2 rfl (by decide) _ _ _ rfl (World.ownsRow_nil _ _ _ _) ⟨g, 0, none⟩ (X.length) cp XS rfl ?c0 ?c1 ?c2 ?c3 ?c4 ?c5 ?_)
              first | (case c0 => rw [HXL.out]; simp) | (case c0 => exact HXL.out) | skip
              case c1 => first | exact HXN.out | (intro t u ht; have h := HXN.out t u ht; rw [Addr.add_lit] at h; simpa using h)
              case c2 => exact HXO.out
              case c3 => unfold maxLen; omega
              case c4 => omega
              first | (case c5 => exact Nat.le_refl _) | skip
              intro v1 W3 hown1 hgr1 _
              have HO1 := hid hown1
              have HB1 := hid (grown_below hgr1)
              have HS3 := hid (HSY.out.below HB1.out)
              have hw1 := HB1.out.size
              clear hown1 hgr1 c0
              have c0 := HCC.out _ HS3.out.bl
              go_wp2_with (at_builtin; refine wpList_append_own _ rfl _ _ 33 rfl W2.heap.size 9 i0 (.string ByteArray.empty) 1 16 Tryz.underlying33 hi hz0 hz1 hz2 rfl (by decide) _ _ _ rfl (HO1.out.alloc _) ⟨W3.heap.size, 0, none⟩ 1 1 [.string s] rfl rfl ?d1 ?d2 ?d3 ?d4 ?d5 ?_)
              case d1 =>
                intro t u ht
                match t, ht with
                | 0, ht => simp at ht; subst ht; simp [Addr.add]
              case d2 => intro u hu; simp at hu; subst hu; rfl
              case d3 => unfold maxLen; omega
              case d4 => omega
              case d5 => simp; omega
              intro v2 W4 hown2 hgr2 _
              have HO2 := hid hown2
              have HB2 := hid (rel_app HB1.out.size HB1.out HO1.out (Below.refl _ _) hgr2)
              have HS4 := hid (HSY.out.below HB2.out)
              have HCL2 := hid (HTW.out _ HS4.out)
              have hw2 := HB2.out.size
              clear hown2 hgr2 c0
              go_wp2_with (at_builtin; refine wpList_append_own _ rfl _ _ 33 rfl W2.heap.size 9 i0 (.string ByteArray.empty) 1 16 Tryz.underlying33 hi hz0 hz1 hz2 rfl (by decide) _ _ _ rfl HO2.out _ _ _ [] rfl ?e0 ?e1 ?e2 ?e3 ?e4 ?e5 ?_)
              case e0 => simp
              case e1 => intro t u ht; simp at ht
              case e2 => intro u hu; cases hu
              case e3 => unfold maxLen; omega
              case e4 => omega
              case e5 => exact hw2
              intro v3 W5 hown3 hgr3 _
              have HB3 := hid (HB2.out.grown hgr3 hw2 (fun t ht => (HO2.out.lt t ht).1))
              have HS5 := hid (HSY.out.below HB3.out)
              have HO3 := hid (show W5.ownsRow w.heap.size 9 1 v3 (X.take (X.length) ++ s :: X.drop (X.length)).length ((X.take (X.length) ++ s :: X.drop (X.length)).map Value.string) by
                have h := owns_mono hown3 HSY.out.bl.size
                rw [HXS.out] at h
                have e1 : (X.take (X.length) ++ s :: X.drop (X.length)).length = X.length + 1 := by simp
                rw [e1]
                simpa using h)
              have HPE := hid (show Ps w W5 v3 (insT X s) from ⟨by rw [HIN.out]; exact HO3.out, (fun h => absurd h (insT_ne _ _)), HS5.out.bl⟩)
              clear hown3 hgr3
              go_wp2_with fail
              go_roundw
              case rel => exact ⟨i + 1, _, HLT.out, by first | exact nr_idx i | exact nx_idx HLT.out (by omega : Q.length ≤ 1000000), HSE, by have := HIL.out; omega, HPE⟩
              case measure => first | exact nr_meas HLT.out | exact nx_meas HLT.out (by omega : Q.length ≤ 1000000)
    · have hiI := ix_nlt hlt
      have HXA := hid (show X = ans by rw [HX.out, HANS.out, List.take_of_length_le (by omega)]; rfl)
      clear hlt
      go_wp2_with fail
      go_ret
      exact ⟨_, rfl, by rw [← HXA.out]; exact own_tx HPS.out.own, HPS.out.bl⟩
end Ve
end Go.Proofs.YtjndahjfodnllaaGreatDoor


namespace Go.Proofs.YtjndahjfodnllaaGreatDoor
open Go.RowKit Go.Maps
namespace Ve
def rnk (r : Raw) : Nat := if r.2.2.2 then 0 else if 0 < (preOf r.1.2.data.toList).length then 1 else 2
theorem rnk_b {r : Raw} (h : r.2.2.2 = true) : rnk r = 0 := if_pos h
theorem rnk_p {r : Raw} (h : r.2.2.2 = false) (hp : 0 < (preOf r.1.2.data.toList).length) : rnk r = 1 := by unfold rnk; rw [if_neg (by rw [h]; simp), if_pos hp]
theorem rnk_n {r : Raw} (h : r.2.2.2 = false) (hp : ¬ 0 < (preOf r.1.2.data.toList).length) : rnk r = 2 := by unfold rnk; rw [if_neg (by rw [h]; simp), if_neg hp]
theorem rnk_le (r : Raw) : rnk r ≤ 2 := by
  unfold rnk
  split
  · omega
  · split <;> omega
def rkV (Q : List Raw) (t v : ByteArray) : Nat := match Q.find? (fun r => decide (r.1.1 = t ∧ r.1.2 = v)) with
  | some r => rnk r
  | none => 0
def likS (Q : List Raw) (t : ByteArray) (s : ByteArray × Int) (v : ByteArray) : ByteArray × Int := if s.2 ≤ (rkV Q t v : Int) then (v, (rkV Q t v : Int)) else s
def likN (Q : List Raw) (t : ByteArray) (X : List ByteArray) (i : Nat) : ByteArray × Int := (X.take i).foldl (likS Q t) (⟨#[]⟩, -1)
theorem likN_next {Q : List Raw} {t : ByteArray} {X : List ByteArray} {i : Nat} (h : i < X.length) : likN Q t X (i + 1) = likS Q t (likN Q t X i) X[i] := by
  unfold likN
  rw [List.take_succ_eq_append_getElem h, List.foldl_append]; rfl
structure Lik (Q : List Raw) (t : ByteArray) (X : List ByteArray) (i : Nat) (s : ByteArray × Int) : Prop where
  z : i = 0 → s = (⟨#[]⟩, -1)
  p : 0 < i → ∃ j, ∃ hj : j < X.length, j < i ∧ s = (X[j], (rkV Q t X[j] : Int)) ∧ (∀ k (hk : k < X.length), k < i → rkV Q t X[k] ≤ rkV Q t X[j]) ∧ ∀ k (hk : k < X.length), k < i → j < k → rkV Q t X[k] < rkV Q t X[j]
theorem likN_is {Q : List Raw} {t : ByteArray} {X : List ByteArray} : ∀ i, i ≤ X.length → Lik Q t X i (likN Q t X i)
  | 0, _ => ⟨fun _ => rfl, fun h => absurd h (Nat.lt_irrefl _)⟩
  | i + 1, hi => by
    have h : i < X.length := hi
    have ih := likN_is (Q := Q) (t := t) (X := X) i (Nat.le_of_lt h)
    rw [likN_next h]
    refine ⟨fun e => by omega, fun _ => ?_⟩
    unfold likS
    by_cases h0 : i = 0
    · rw [ih.z h0]
      rw [if_pos (show (-1 : Int) ≤ (rkV Q t X[i] : Int) by omega)]
      refine ⟨i, h, by omega, rfl, fun k hk hki => ?_, fun k hk hki hik => by omega⟩
      have : k = i := by omega
      subst this; exact Nat.le_refl _
    · obtain ⟨j, hj, hji, hs, h1, h2⟩ := ih.p (by omega)
      rw [hs]
      by_cases hc : ((rkV Q t X[j] : Nat) : Int) ≤ (rkV Q t X[i] : Int)
      · rw [if_pos hc]
        refine ⟨i, h, by omega, rfl, fun k hk hki => ?_, fun k hk hki hik => by omega⟩
        rcases Nat.lt_or_ge k i with h3 | h3
        · have := h1 k hk h3; omega
        · have : k = i := by omega
          subst this; exact Nat.le_refl _
      · rw [if_neg hc]
        refine ⟨j, hj, by omega, rfl, fun k hk hki => ?_, fun k hk hki hjk => ?_⟩
        · rcases Nat.lt_or_ge k i with h3 | h3
          · exact h1 k hk h3
          · have : k = i := by omega
            subst this; omega
        · rcases Nat.lt_or_ge k i with h3 | h3
          · exact h2 k hk h3 hjk
          · have : k = i := by omega
            subst this; omega
theorem rkV_at {Q : List Raw} (g : Good Q) {r : Raw} (hr : r ∈ Q) : rkV Q r.1.1 r.1.2 = rnk r := by
  unfold rkV
  cases hf : Q.find? (fun x => decide (x.1.1 = r.1.1 ∧ x.1.2 = r.1.2)) with
  | none =>
    have := List.find?_eq_none.1 hf r hr
    simp at this
  | some s =>
    have h1 := List.find?_some hf
    have h2 := List.mem_of_find?_eq_some hf
    have h3 : s.1.1 = r.1.1 ∧ s.1.2 = r.1.2 := by simpa using h1
    rw [g.same h2 hr (Prod.ext h3.1 h3.2)]
theorem rnk_best {Q R : List Raw} (g : Good Q) (hR : ∀ r, r ∈ R → r ∈ Q) {r : Raw} (hr : r ∈ R) : r ∈ bestR R ↔ ∀ s, s ∈ R → rnk s ≤ rnk r := by
  have hv : ∀ s, s ∈ R → (isD s = true ↔ (preOf s.1.2.data.toList).length = 0) := fun s hs => by
    unfold isD preB
    rw [decide_eq_true (g.ver s (hR s hs)), Bool.true_and]
    simp
  have k2 : ∀ s, s ∈ R → (rnk s = 2 ↔ isS s = true ∧ isD s = true) := fun s hs => by
    rw [hv s hs]
    unfold isS
    cases hb : s.2.2.2
    · by_cases hp : 0 < (preOf s.1.2.data.toList).length
      · rw [rnk_p hb hp]
        exact ⟨fun h => absurd h (by decide), fun h => absurd h.2 (by omega)⟩
      · rw [rnk_n hb hp]
        exact ⟨fun _ => ⟨rfl, by omega⟩, fun _ => rfl⟩
    · rw [rnk_b hb]
      exact ⟨fun h => absurd h (by decide), fun h => absurd h.1 (by decide)⟩
  have k1 : ∀ s, s ∈ R → (0 < rnk s ↔ isS s = true) := fun s _ => by
    unfold isS
    cases hb : s.2.2.2
    · by_cases hp : 0 < (preOf s.1.2.data.toList).length
      · rw [rnk_p hb hp]; exact ⟨fun _ => rfl, fun _ => by decide⟩
      · rw [rnk_n hb hp]; exact ⟨fun _ => rfl, fun _ => by decide⟩
    · rw [rnk_b hb]; exact ⟨fun h => absurd h (by decide), fun h => absurd h (by decide)⟩
  have k3 := rnk_le
  unfold bestR
  by_cases hd : 0 < ((R.filter isS).filter isD).length
  · rw [if_pos hd]
    obtain ⟨x, hx⟩ := List.exists_mem_of_length_pos hd
    obtain ⟨hx1, hx2⟩ := List.mem_filter.1 hx
    obtain ⟨hx3, hx4⟩ := List.mem_filter.1 hx1
    have hx5 := (k2 x hx3).2 ⟨hx4, hx2⟩
    constructor
    · intro h s hs
      obtain ⟨h1, h2⟩ := List.mem_filter.1 h
      obtain ⟨h3, h4⟩ := List.mem_filter.1 h1
      rw [(k2 r h3).2 ⟨h4, h2⟩]; exact k3 s
    · intro h
      have := h x hx3
      have h2 := (k2 r hr).1 (by have := k3 r; omega)
      exact List.mem_filter.2 ⟨List.mem_filter.2 ⟨hr, h2.1⟩, h2.2⟩
  · rw [if_neg hd]
    have hno : ∀ s, s ∈ R → rnk s ≠ 2 := fun s hs h => hd (List.length_pos_of_mem (List.mem_filter.2 ⟨List.mem_filter.2 ⟨hs, ((k2 s hs).1 h).1⟩, ((k2 s hs).1 h).2⟩))
    by_cases hs2 : 0 < (R.filter isS).length
    · rw [if_pos hs2]
      obtain ⟨x, hx⟩ := List.exists_mem_of_length_pos hs2
      obtain ⟨hx1, hx2⟩ := List.mem_filter.1 hx
      have hx3 := (k1 x hx1).2 hx2
      constructor
      · intro h s hs
        obtain ⟨h1, h2⟩ := List.mem_filter.1 h
        have a1 := (k1 r h1).2 h2
        have a2 := k3 s
        have a3 := hno s hs
        omega
      · intro h
        have := h x hx1
        exact List.mem_filter.2 ⟨hr, (k1 r hr).1 (by omega)⟩
    · rw [if_neg hs2]
      constructor
      · intro _ s hs
        have : ¬ 0 < rnk s := fun h => hs2 (List.length_pos_of_mem (List.mem_filter.2 ⟨hs, (k1 s hs).1 h⟩))
        omega
      · intro _; exact hr
end Ve
end Go.Proofs.YtjndahjfodnllaaGreatDoor


namespace Go.Proofs.YtjndahjfodnllaaGreatDoor
open Go.RowKit Go.Maps
namespace Ve
theorem lik_lat {Q : List Raw} (g : Good Q) {t : ByteArray} {X Y : List ByteArray} (hK : Kept (verL (ofP t Q)) (verL (ofP t Q)).length X) (hY : KeptT Q t Y) : (likN Q t X X.length).1 = latV Q t := by
  rw [← latV_of hY]
  by_cases h0 : X.length = 0
  · have hX : X = [] := List.eq_nil_of_length_eq_zero h0
    subst hX
    have hne : ofP t Q = [] := by
      rw [List.eq_nil_iff_forall_not_mem]
      intro r hr
      have := kept_in g ofP_sub hK hr
      cases this
    have hb : bestR (ofP t Q) = [] := by rw [hne]; rfl
    cases hYc : Y with
    | nil => rfl
    | cons y s =>
      obtain ⟨r, hr, _⟩ := kept_has g (R := bestR (ofP t Q)) (fun r hr => ofP_sub r (bestR_sub hr)) hY (x := y) (by rw [hYc]; simp)
      rw [hb] at hr; cases hr
  · obtain ⟨j, hj, _, hs, h1, h2⟩ := (likN_is (Q := Q) (t := t) (X := X) X.length (Nat.le_refl _)).p (by omega)
    rw [hs]
    obtain ⟨r, hr, er⟩ := kept_has g ofP_sub hK (List.getElem_mem hj)
    have hrq := g.ofP_mem.1 hr
    have hrank : ∀ s, s ∈ ofP t Q → rkV Q t s.1.2 = rnk s := fun s hs => by
      have h := g.ofP_mem.1 hs
      rw [← h.2]; exact rkV_at g h.1
    have hbest : r ∈ bestR (ofP t Q) := (rnk_best g ofP_sub hr).2 fun s hs => by
      have hin := kept_in g ofP_sub hK hs
      obtain ⟨k, hk, e⟩ := List.getElem_of_mem hin
      have := h1 k hk hk
      rw [e, hrank s hs, ← er, hrank r hr] at this
      exact this
    have hne : bestR (ofP t Q) ≠ [] := List.ne_nil_of_mem hbest
    have hsub : ∀ r, r ∈ bestR (ofP t Q) → r ∈ Q := fun r hr => ofP_sub r (bestR_sub hr)
    obtain ⟨⟨q, hq, eq⟩, hmax⟩ := kept_last g hsub hne hY
    have hqv := g.ver q (hsub q hq)
    have hrv := g.ver r hrq.1
    have hqX := kept_in g ofP_sub hK (bestR_sub hq)
    obtain ⟨k, hk, ek⟩ := List.getElem_of_mem hqX
    have hqr : rkV Q t X[j] ≤ rkV Q t X[k] := by
      rw [ek, ← er, hrank r hr, hrank q (bestR_sub hq)]
      exact (rnk_best g ofP_sub (bestR_sub hq)).1 hq r hr
    have hkj : ¬ j < k := fun h => by have := h2 k hk hk h; omega
    have ho1 : ¬ ordV X[j].data.toList X[k].data.toList < 0 := fun h => by
      rcases Nat.lt_or_ge k j with h3 | h3
      · have hr := hK.1
        unfold rises at hr
        have hbl : (bl X).length = X.length := bl_len X
        have h4 := List.pairwise_iff_getElem.1 hr k j (by omega) (by omega) h3
        have g1 : (bl X)[k]'(by omega) = X[k].data.toList := by simp [bl]
        have g2 : (bl X)[j]'(by omega) = X[j].data.toList := by simp [bl]
        rw [g1, g2] at h4
        exact ordV_irr h h4
      · have : k = j := by omega
        subst this; exact ordV_irr h h
    have ho2 := hmax r hbest
    rw [← eq, ← ek] at ho2
    rw [er] at ho2
    have h0' : ordV X[j].data.toList X[k].data.toList = 0 := by
      rw [ordV_swap X[j].data.toList X[k].data.toList] at ho2
      omega
    have hvj : verErr X[j].data.toList = 0 := by rw [← er]; exact hrv
    have hvk : verErr X[k].data.toList = 0 := by rw [ek]; exact hqv
    have := str_ext ((ordV_zero hvj hvk).1 h0')
    rw [this, ek, eq]
end Ve
end Go.Proofs.YtjndahjfodnllaaGreatDoor


namespace Go.Proofs.YtjndahjfodnllaaGreatDoor
open Go.RowKit Go.Maps
namespace Ve
theorem es_modK {W : World} {b o n c : Nat} {Q : List Raw} (h : EsAt W (.slice (some ⟨b, o, none⟩) n c) Q) {k : Nat} (hk : k < Q.length) : W.cell? ⟨b, o + k * 5, none⟩ = some (.string Q[k].1.1) ∧ W.cell? ⟨b, o + k * 5 + 1, none⟩ = some (.string Q[k].1.2) := by
  obtain ⟨a', c', e, _, _, h⟩ := h
  injection e with e1 e2 e3
  subst e1
  obtain ⟨b', o', e4, h4⟩ := h (by intro h0; rw [h0] at hk; simp at hk)
  injection e4 with e4
  injection e4 with e5 e6
  subst e5 e6
  exact ⟨(h4 k hk).1, (h4 k hk).2.1⟩
theorem es_backK {W : World} {b o n c : Nat} {Q : List Raw} (h : EsAt W (.slice (some ⟨b, o, none⟩) n c) Q) {k : Nat} (hk : k < Q.length) : W.cell? ⟨b, o + k * 5 + 4, none⟩ = some (.bool Q[k].2.2.2) := by
  obtain ⟨a', c', e, _, _, h⟩ := h
  injection e with e1 e2 e3
  subst e1
  obtain ⟨b', o', e4, h4⟩ := h (by intro h0; rw [h0] at hk; simp at hk)
  injection e4 with e4
  injection e4 with e5 e6
  subst e5 e6
  exact (h4 k hk).2.2.2.2
theorem sortVers_nil (a : Option Addr) (c : Nat) (w : World) : Calls Tryz.prog 142 #[.slice a 0 c] w fun e w' => e = .returned (.slice none 0 0) ∧ Below w.heap.size w w' := by
  go_enter Tryz.func142, Tryz.ntmps142
  go_wp2_with fail
  go_loopw [3, 4] (fun v i wr => v = .slice none 0 0 ∧ i = .int .i64 0 ∧ wr = w) (fun _ i _ => 0)
  case atStart => exact ⟨rfl, rfl, rfl⟩
  case round =>
    obtain ⟨rfl, rfl, rfl⟩ := hrel
    go_wp2_with fail
    go_ret
    exact ⟨rfl, Below.refl _ _⟩
def pthR (t : ByteArray) (Q : List Raw) : List Raw := Q.filter fun r => decide (r.1.1 = t)
theorem pthR_yes {t : ByteArray} {Q : List Raw} {k : Nat} (h : k < Q.length) (he : Q[k].1.1 = t) : verL (pthR t (Q.take (k + 1))) = verL (pthR t (Q.take k)) ++ [Q[k].1.2] := by
  unfold pthR verL
  rw [List.take_succ_eq_append_getElem h, List.filter_append, List.map_append]
  simp [he]
theorem pthR_no {t : ByteArray} {Q : List Raw} {k : Nat} (h : k < Q.length) (he : ¬ Q[k].1.1 = t) : verL (pthR t (Q.take (k + 1))) = verL (pthR t (Q.take k)) := by
  unfold pthR verL
  rw [List.take_succ_eq_append_getElem h, List.filter_append, List.map_append]
  simp [he]
theorem pthR_len (t : ByteArray) (Q : List Raw) : (verL (pthR t Q)).length ≤ Q.length := by
  unfold pthR verL
  rw [List.length_map]
  exact List.length_filter_le _ _
theorem pthR_sz {t : ByteArray} {Q : List Raw} (hz : ∀ r, r ∈ Q → r.1.1.size ≤ 80 ∧ r.1.2.size ≤ 80) : ∀ x, x ∈ verL (pthR t Q) → x.size ≤ 80 := fun x hx => by
  obtain ⟨r, hr, rfl⟩ := List.mem_map.1 hx
  exact (hz r (List.mem_filter.1 hr).1).2
set_option maxRecDepth 100000 in
set_option maxHeartbeats 4000000 in
theorem versOf_any (Q : List Raw) (t : ByteArray) (v : Value) (w : World) (hL : Q.length ≤ 1000) (hz : ∀ r, r ∈ Q → r.1.1.size ≤ 80 ∧ r.1.2.size ≤ 80) (hv : EsAt w v Q) :
    Calls Tryz.prog 80 #[v, .string t] w fun e w' => ∃ u X, e = .returned u ∧ TxAt w' u X ∧ Kept (verL (pthR t Q)) (verL (pthR t Q)).length X ∧ Below w.heap.size w w' := by
  have HV := hid (fun W (h : Below w.heap.size w W) => hv.below h)
  have HQM := hid (show Q.length ≤ 1000000 by omega)
  have HQL := hid hL
  have HSO := hid (fun (L : List ByteArray) b o c W (hc : ∀ j (h : j < L.length), W.cell? ⟨b, o + j, none⟩ = some (.string L[j])) (h12 : L.length ≤ 1000) (hz : ∀ x, x ∈ L → x.size ≤ 80) => sortVers_some b o c L W hc h12 hz)
  have HSN := hid sortVers_nil
  have HZZ := hid (pthR_sz (t := t) hz)
  have HZL := hid (show (verL (pthR t Q)).length ≤ 1000 from Nat.le_trans (pthR_len t Q) hL)
  obtain ⟨i0, hi0, hz0, hz1, hz2⟩ := info_parts infoStr
  obtain ⟨va, vc, hv1, -⟩ := id hv
  subst hv1
  clear hv hz hL
  go_enter Tryz.func80, Tryz.ntmps80
  go_wp2_with fail
  go_loopw [5, 6] (fun ov iv wr => ∃ i : Nat, i ≤ Q.length ∧ iv = .int .i64 i ∧ Hid (wr.ownsRow w.heap.size 9 1 ov (verL (pthR t (Q.take i))).length ((verL (pthR t (Q.take i))).map Value.string)) ∧ Hid (Below w.heap.size w wr)) (fun _ iv _ => Q.length - (intOf iv).toNat)
  case atStart => exact ⟨0, Nat.zero_le _, rfl, hid (World.ownsRow_nil _ _ _ _), hid (Below.refl _ _)⟩
  case round =>
    obtain ⟨i, hi, rfl, HOW, HBr⟩ := hrel
    by_cases hlt : i < Q.length
    · have hiI := ix_lt hlt
      have hii := ix_pos i
      have HLI := hid hlt
      obtain ⟨eb, eo, hea, -⟩ := es_cells (HV.out _ HBr.out) hlt
      subst hea
      obtain ⟨y0, y1⟩ := es_modK (HV.out _ HBr.out) hlt
      have HYS := hid (fun he => pthR_yes (t := t) hlt he)
      have HNO := hid (fun he => pthR_no (t := t) hlt he)
      have HLN := hid (show (verL (pthR t (Q.take i))).length ≤ 1000 from Nat.le_trans (pthR_len t _) (Nat.le_trans (List.length_take_le' i Q) HQL.out))
      generalize Q[i] = r at *
      obtain ⟨⟨p, q⟩, r2⟩ := r
      simp only at y0 y1 HYS HNO
      obtain ⟨SX, hSX⟩ : ∃ SX, verL (pthR t (Q.take i)) = SX := ⟨_, rfl⟩
      rw [hSX] at HOW HYS HNO HLN
      clear hSX hlt
      by_cases he : p = t
      · subst he
        have HST := hid (HYS.out rfl)
        have heq := str_refl p
        clear HYS HNO
        go_wp2_with (at_builtin; refine wpList_append_own _ rfl _ _ 33 rfl w.heap.size 9 i0 _ 1 16 Tryz.underlying33 hi0 hz0 hz1 hz2 rfl (by decide) _ _ _ rfl (HOW.out.alloc _) ⟨wr.heap.size, 0, none⟩ 1 1 [.string q] rfl rfl (World.news_of_block (heap_new _ _)) (by intro u hu; simp at hu; subst hu; rfl) (Nat.le_trans (Nat.add_le_add_right HLN.out 1) (by unfold maxLen; decide)) (by have hz := HLN.out; omega) (Nat.le_trans HBr.out.size (by simp)) ?_)
        intro v' w6 hown hgrow _
        have HB6 := hid (rel_app HBr.out.size HBr.out HOW.out (Below.refl _ _) hgrow)
        have HO6 := hid (show w6.ownsRow w.heap.size 9 1 v' (SX ++ [q]).length ((SX ++ [q]).map Value.string) by rw [List.length_append, List.map_append]; exact hown)
        clear hown hgrow
        go_wp2_with fail
        go_roundw
        case rel => first | exact ⟨i + 1, HLI.out, nr_idx i, hid (by rw [HST.out]; exact HO6.out), HB6⟩ | exact ⟨i + 1, HLI.out, nx_idx HLI.out HQM.out, hid (by rw [HST.out]; exact HO6.out), HB6⟩
        case measure => first | exact nr_meas HLI.out | exact nx_meas HLI.out HQM.out
      · have HST := hid (HNO.out he)
        have heq := str_ne he
        clear HYS HNO he
        go_wp2_with fail
        go_roundw
        case rel => first | exact ⟨i + 1, HLI.out, nr_idx i, hid (by rw [HST.out]; exact HOW.out), HBr⟩ | exact ⟨i + 1, HLI.out, nx_idx HLI.out HQM.out, hid (by rw [HST.out]; exact HOW.out), HBr⟩
        case measure => first | exact nr_meas HLI.out | exact nx_meas HLI.out HQM.out
    · have hiI := ix_nlt hlt
      have HTA := hid (show Q.take i = Q from List.take_of_length_le (by omega))
      rw [HTA.out] at HOW
      obtain ⟨Z, HZ⟩ : ∃ Z, Hid (verL (pthR t Q) = Z) := ⟨_, hid rfl⟩
      rw [HZ.out] at HOW HZZ HZL
      clear hlt HTA
      obtain ⟨oa, oc, hov, -, hcell⟩ := own_tx HOW.out
      subst hov
      by_cases hZ : Z = []
      · subst hZ
        have HS0 := hid (HSN.out oa oc wr)
        go_wp2_with fail
        refine HS0.out.mono ?_
        rintro e w7 ⟨rfl, hb⟩
        have HB7 := hid (HBr.out.trans (hb.mono HBr.out.size))
        clear hb
        go_wp2_with fail
        go_ret
        refine ⟨_, [], rfl, ⟨none, 0, rfl, Nat.le_refl _, fun h => absurd rfl h⟩, ?_, HB7.out⟩
        rw [HZ.out]
        exact ⟨List.Pairwise.nil, fun t => by simp [bl]⟩
      · obtain ⟨ob, oo, hoa, hcl⟩ := hcell hZ
        subst hoa
        have HS0 := hid (HSO.out Z ob oo oc wr hcl HZL.out HZZ.out)
        clear hcl hcell
        go_wp2_with fail
        refine HS0.out.mono ?_
        rintro e w7 ⟨u7, X, rfl, ho, hK, hb⟩
        have HB7 := hid (HBr.out.trans (hb.mono HBr.out.size))
        have HK7 := hid hK
        have HT7 := hid (own_tx ho)
        obtain ⟨ua, uc, hu7⟩ := own_slN ho
        subst hu7
        clear hb hK ho
        go_wp2_with fail
        go_ret
        exact ⟨_, X, rfl, HT7.out, by rw [HZ.out]; exact HK7.out, HB7.out⟩
set_option maxRecDepth 100000 in
set_option maxHeartbeats 4000000 in
theorem rank_any (Q : List Raw) (t s : ByteArray) (k : Nat) (v : Value) (w : World) (hL : Q.length ≤ 1000) (hs : s.size < 999999) (hk : k < Q.length) (hi : idxOf (isM (t, s)) Q = (k : Int)) (hq : Q[k].1.2 = s) (he : verErr s.data.toList = 0) (hv : EsAt w v Q) :
    Calls Tryz.prog 141 #[v, .string t, .string s] w fun e w' => e = .returned (.int .i64 (rnk Q[k] : Nat)) ∧ Below w.heap.size w w' := by
  have HFO := hid (findOf_allJ Q (t, s) v w (by omega) hv)
  rw [hi] at HFO
  have HV := hid (fun W (h : Below w.heap.size w W) => hv.below h)
  have HVO := hid (fun W => verOf_any s W (by omega))
  have HRN := hid (show rnk Q[k] = if Q[k].2.2.2 then 0 else if 0 < (preOf s.data.toList).length then 1 else 2 by unfold rnk; rw [hq])
  have hkI := ix_lt hk
  have hk0 := ix_pos k
  obtain ⟨va, vc, hv1, -⟩ := id hv
  subst hv1
  obtain ⟨eb, eo, hea, -⟩ := es_cells hv hk
  subst hea
  have HBK := hid (fun W (h : Below w.heap.size w W) => es_backK (HV.out W h) hk)
  have HE := hid he
  generalize rnk Q[k] = z at *
  generalize (Q[k]'hk).2.2.2 = bk at *
  clear hv hi hq he hk
  go_enter Tryz.func141, Tryz.ntmps141
  go_wp2_with fail
  refine HFO.out.mono ?_
  rintro e w1 ⟨rfl, hb⟩
  have HB1 := hid hb
  have c0 := HBK.out w1 hb
  clear hb HFO
  cases bk with
  | true =>
    go_wp2_with fail
    go_ret
    exact ⟨by rw [HRN.out]; rfl, HB1.out⟩
  | false =>
    go_wp2_with fail
    refine (HVO.out w1).mono ?_
    rintro e w2 ⟨h | ⟨_, sa, cap, X2, rfl, hbl, -⟩, hb⟩
    · exact absurd HE.out h.1
    · have HB2 := hid (HB1.out.trans (hb.mono HB1.out.size))
      have HBL := hid (show X2.length = (preOf s.data.toList).length by rw [← hbl]; simp [bl])
      have HB3 := hid (HB2.out.alloc HB2.out.size (.cells #[.int .i64 (nAt s.data.toList 0), .int .i64 (nAt s.data.toList 1), .int .i64 (nAt s.data.toList 2), .slice sa X2.length cap] 209))
      clear hb hbl
      by_cases hp : 0 < X2.length
      · have hpI : (0 : Int) < (X2.length : Int) := by omega
        have HZ := hid (show z = 1 by rw [HRN.out, if_neg (by simp), if_pos (by rw [← HBL.out]; exact hp)])
        clear hp
        go_wp2_with fail
        go_ret
        exact ⟨by rw [HZ.out]; rfl, HB3.out⟩
      · have hpI : ¬ (0 : Int) < (X2.length : Int) := by omega
        have HZ := hid (show z = 2 by rw [HRN.out, if_neg (by simp), if_neg (by rw [← HBL.out]; exact hp)])
        clear hp
        go_wp2_with fail
        go_ret
        exact ⟨by rw [HZ.out]; rfl, HB3.out⟩
end Ve
end Go.Proofs.YtjndahjfodnllaaGreatDoor


namespace Go.Proofs.YtjndahjfodnllaaGreatDoor
open Go.RowKit Go.Maps
namespace Ve
theorem nodup_sub {α : Type} [DecidableEq α] : ∀ {a b : List α}, a.Nodup → (∀ x, x ∈ a → x ∈ b) → a.length ≤ b.length
  | [], b, _, _ => Nat.zero_le _
  | x :: r, b, hn, hs => by
    obtain ⟨h1, h2⟩ := List.nodup_cons.1 hn
    have hx := hs x (List.mem_cons_self ..)
    have := nodup_sub (a := r) (b := b.erase x) h2 fun y hy => (List.mem_erase_of_ne (fun e => h1 (by rw [← e]; exact hy))).2 (hs y (List.mem_cons_of_mem _ hy))
    rw [List.length_erase_of_mem hx] at this
    have hp := List.length_pos_of_mem hx
    simp only [List.length_cons]
    omega
structure VerOk (Q : List Raw) (t : ByteArray) (X : List ByteArray) : Prop where
  at_ : ∀ j (hj : j < X.length), ∃ k, ∃ hk : k < Q.length, idxOf (isM (t, X[j])) Q = (k : Int) ∧ Q[k].1.2 = X[j] ∧ verErr X[j].data.toList = 0 ∧ X[j].size < 999999 ∧ rkV Q t X[j] = rnk Q[k]
theorem verOk_of {Q : List Raw} {t : ByteArray} {X : List ByteArray} (g : Good Q) (hz : ∀ r, r ∈ Q → r.1.1.size ≤ 80 ∧ r.1.2.size ≤ 80) (hK : Kept (verL (ofP t Q)) (verL (ofP t Q)).length X) : VerOk Q t X := ⟨fun j hj => by
  obtain ⟨n, h⟩ := one_of g hK (List.getElem_mem hj)
  have hq := h.mem
  have h1 := g.ofP_mem.1 hq
  refine ⟨n, h.lt, h.idx, h.same, h.ver, ?_, ?_⟩
  · have := (hz _ h1.1).2
    rw [h.same] at this
    omega
  · have h2 := rkV_at g h1.1
    rw [h1.2, h.same] at h2
    exact h2⟩
set_option maxRecDepth 100000 in
set_option maxHeartbeats 4000000 in
theorem liked_any (Q : List Raw) (t : ByteArray) (X : List ByteArray) (v u : Value) (w : World) (hL : Q.length ≤ 1000) (hX : X.length ≤ 1000000) (hok : VerOk Q t X) (hv : EsAt w v Q) (hu : TxAt w u X) :
    Calls Tryz.prog 79 #[v, .string t, u, .bool false] w fun e w' => e = .returned (.string (likN Q t X X.length).1) ∧ Below w.heap.size w w' := by
  have HRK := hid (fun j (hj : j < X.length) W (h : Below w.heap.size w W) => show Calls Tryz.prog 141 #[v, .string t, .string X[j]] W fun e w' => e = .returned (.int .i64 (rkV Q t X[j] : Nat)) ∧ Below W.heap.size W w' by
    obtain ⟨k, hk, h1, h2, h3, h4, h5⟩ := hok.at_ j hj
    rw [h5]
    exact rank_any Q t X[j] k v W hL h4 hk h1 h2 h3 (hv.below h))
  have HU := hid (fun W (h : Below w.heap.size w W) => hu.below h)
  obtain ⟨va, vc, hv1, -⟩ := id hv
  subst hv1
  obtain ⟨ua, uc, hu1, -⟩ := id hu
  subst hu1
  clear hv hu hok
  go_enter Tryz.func79, Tryz.ntmps79
  go_wp2_with fail
  go_loopw [9, 10, 11] (fun bv rv iv wr => ∃ i : Nat, i ≤ X.length ∧ iv = .int .i64 i ∧ bv = .string (likN Q t X i).1 ∧ rv = .int .i64 (likN Q t X i).2 ∧ Hid (Below w.heap.size w wr)) (fun _ _ iv _ => X.length - (intOf iv).toNat)
  case atStart => exact ⟨0, Nat.zero_le _, rfl, rfl, rfl, hid (Below.refl _ _)⟩
  case round =>
    obtain ⟨i, hi, rfl, rfl, rfl, HB⟩ := hrel
    by_cases hlt : i < X.length
    · have hiI := ix_lt hlt
      have hii := ix_pos i
      have HLI := hid hlt
      obtain ⟨b, o, hua, y0⟩ := tx_cellK (HU.out _ HB.out) hlt
      subst hua
      have HRI := hid (HRK.out i hlt wr HB.out)
      have HNX := hid (likN_next (Q := Q) (t := t) hlt)
      unfold likS at HNX
      generalize X[i] = x at *
      generalize rkV Q t x = z at *
      obtain ⟨s, hs⟩ : ∃ s, likN Q t X i = s := ⟨_, rfl⟩
      rw [hs] at HNX ⊢
      obtain ⟨bs, br⟩ := s
      simp only at HNX ⊢
      clear hlt hs
      rcases Int.lt_trichotomy br (z : Int) with hc | hc | hc
      · rw [if_pos (Int.le_of_lt hc)] at HNX
        go_wp2_with fail
        refine HRI.out.mono ?_
        rintro e w1 ⟨rfl, hb⟩
        have HB1 := hid (HB.out.trans (hb.mono HB.out.size))
        have y1 := cell_below hb y0
        clear hb
        go_wp2_with fail
        go_roundw
        case rel => first | exact ⟨i + 1, HLI.out, nr_idx i, by rw [HNX.out], by rw [HNX.out], HB1⟩ | exact ⟨i + 1, HLI.out, nx_idx HLI.out hX, by rw [HNX.out], by rw [HNX.out], HB1⟩
        case measure => first | exact nr_meas HLI.out | exact nx_meas HLI.out hX
      · subst hc
        rw [if_pos (Int.le_refl _)] at HNX
        have hn1 : ¬ ((z : Nat) : Int) < ((z : Nat) : Int) := Int.lt_irrefl _
        have hn2 : (((z : Nat) : Int) == ((z : Nat) : Int)) = true := beq_self_eq_true _
        go_wp2_with fail
        refine HRI.out.mono ?_
        rintro e w1 ⟨rfl, hb⟩
        have HB1 := hid (HB.out.trans (hb.mono HB.out.size))
        have y1 := cell_below hb y0
        clear hb
        go_wp2_with fail
        go_roundw
        case rel => first | exact ⟨i + 1, HLI.out, nr_idx i, by rw [HNX.out], by rw [HNX.out], HB1⟩ | exact ⟨i + 1, HLI.out, nx_idx HLI.out hX, by rw [HNX.out], by rw [HNX.out], HB1⟩
        case measure => first | exact nr_meas HLI.out | exact nx_meas HLI.out hX
      · rw [if_neg (Int.not_le.2 hc)] at HNX
        have hn1 : ¬ br < ((z : Nat) : Int) := Int.not_lt.2 (Int.le_of_lt hc)
        have hn2 : (((z : Nat) : Int) == br) = false := by rw [beq_eq_false_iff_ne]; exact Int.ne_of_lt hc
        have hn3 : ¬ ((z : Nat) : Int) = br := Int.ne_of_lt hc
        go_wp2_with fail
        refine HRI.out.mono ?_
        rintro e w1 ⟨rfl, hb⟩
        have HB1 := hid (HB.out.trans (hb.mono HB.out.size))
        clear hb
        go_wp2_with fail
        go_roundw
        case rel => first | exact ⟨i + 1, HLI.out, nr_idx i, by rw [HNX.out], by rw [HNX.out], HB1⟩ | exact ⟨i + 1, HLI.out, nx_idx HLI.out hX, by rw [HNX.out], by rw [HNX.out], HB1⟩
        case measure => first | exact nr_meas HLI.out | exact nx_meas HLI.out hX
    · have hiI := ix_nlt hlt
      have hie : i = X.length := Nat.le_antisymm hi (Nat.le_of_not_lt hlt)
      subst hie
      clear hlt
      go_wp2_with fail
      go_ret
      exact ⟨rfl, HB.out⟩
end Ve
end Go.Proofs.YtjndahjfodnllaaGreatDoor


namespace Go.Proofs.YtjndahjfodnllaaGreatDoor
open Go.RowKit Go.Maps
namespace Ve
set_option maxHeartbeats 2000000 in
theorem sameG_len (a a' : Option Addr) (n n' c c' : Nat) (w : World) (h : n ≠ n') : Calls Tryz.prog 22 #[.slice a n c, .slice a' n' c'] w fun e w' => e = .returned (.bool false) ∧ Below w.heap.size w w' := by
  have h1 : ¬ (n : Int) = (n' : Int) := by omega
  have h2 : ((n : Int) == (n' : Int)) = false := by simp; omega
  go_enter Tryz.func22, Tryz.ntmps22
  go_wp2_with fail
  go_ret
  exact ⟨rfl, Below.refl _ _⟩
set_option maxHeartbeats 2000000 in
theorem sameG_some (L M : List Bm) (b o c b' o' c' : Nat) (w : World) (hn : L.length ≤ 1000000) (hl : M.length = L.length)
    (hc : ∀ j (h : j < L.length), w.cell? ⟨b, o + j * 2, none⟩ = some (.string L[j].1) ∧ w.cell? ⟨b, o + j * 2 + 1, none⟩ = some (.string L[j].2))
    (hd : ∀ j (h : j < M.length), w.cell? ⟨b', o' + j * 2, none⟩ = some (.string M[j].1) ∧ w.cell? ⟨b', o' + j * 2 + 1, none⟩ = some (.string M[j].2)) :
    Calls Tryz.prog 22 #[.slice (some ⟨b, o, none⟩) L.length c, .slice (some ⟨b', o', none⟩) L.length c'] w fun e w' => e = .returned (.bool (decide (L = M))) ∧ Below w.heap.size w w' := by
  have HC := hid hc
  have HD := hid hd
  have hgd := modGuard
  have HX := hid (show (∀ j (h : j < L.length) (h' : j < M.length), L[j] = M[j]) → decide (L = M) = true from fun h => decide_eq_true (List.ext_getElem hl.symm (fun j h1 h2 => h j h1 h2)))
  have HY := hid (show ∀ j (h : j < L.length) (h' : j < M.length), L[j] ≠ M[j] → decide (L = M) = false from fun j h h' hne => decide_eq_false (fun e => hne (by subst e; rfl)))
  generalize decide (L = M) = z at *
  clear hc hd
  go_enter Tryz.func22, Tryz.ntmps22
  go_wp2_with fail
  go_loopw [5] (fun i wr => ∃ k : Nat, k ≤ L.length ∧ i = .int .i64 k ∧ Hid (∀ j (h : j < L.length) (h' : j < M.length), j < k → L[j] = M[j]) ∧ Hid (Below w.heap.size w wr)) (fun i _ => L.length - (intOf i).toNat)
  case atStart => exact ⟨0, Nat.zero_le _, rfl, hid (fun j _ _ hj => absurd hj (Nat.not_lt_zero _)), hid (Below.refl _ _)⟩
  case round =>
    obtain ⟨k, hk, rfl, HE, HB⟩ := hrel
    by_cases hlt : k < L.length
    · have hlm : k < M.length := by omega
      have hx := cell_below HB.out (HC.out k hlt).1
      have hy := cell_below HB.out (HC.out k hlt).2
      have hx' := cell_below HB.out (HD.out k hlm).1
      have hy' := cell_below HB.out (HD.out k hlm).2
      have hne := fun W => modNeq L[k].1 L[k].2 M[k].1 M[k].2 W
      have hkI : (k : Int) < (L.length : Int) := by omega
      have HLT := hid hlt
      have HN := hid (show L[k] = M[k] → ∀ j (h : j < L.length) (h' : j < M.length), j < k + 1 → L[j] = M[j] from fun h0 j h1 h2 h3 => by
        rcases Nat.lt_or_ge j k with h | h
        · exact HE.out j h1 h2 h
        · have : j = k := by omega
          subst this; exact h0)
      have HYK := hid (HY.out k hlt hlm)
      generalize L[k] = x at *
      generalize M[k] = y at *
      obtain ⟨x1, x2⟩ := x
      obtain ⟨y1, y2⟩ := y
      simp only at hx hy hx' hy' hne
      clear hlt hlm
      by_cases he : x1 = y1 ∧ x2 = y2
      · rw [decide_eq_true he] at hne
        have HN2 := hid (HN.out (Prod.ext he.1 he.2))
        clear he HN
        go_wp2_with fail
        go_quiet (fail)
        go_wp2_with fail
        go_roundw
        case rel => first | exact ⟨k + 1, HLT.out, nr_idx k, HN2, hid (below_drawn_of HB.out _)⟩ | exact ⟨k + 1, HLT.out, nx_idx HLT.out hn, HN2, hid (below_drawn_of HB.out _)⟩
        case measure => first | exact nr_meas HLT.out | exact nx_meas HLT.out hn
      · rw [decide_eq_false he] at hne
        have HZ := hid (HYK.out (fun e => he (by injection e with e1 e2; exact ⟨e1, e2⟩)))
        clear he HN
        go_wp2_with fail
        go_quiet (fail)
        go_wp2_with fail
        go_ret
        exact ⟨by rw [HZ.out]; rfl, below_drawn_of HB.out _⟩
    · have hkI : ¬ (k : Int) < (L.length : Int) := by omega
      have HZ := hid (HX.out (fun j h h' => HE.out j h h' (by omega)))
      go_wp2_with fail
      go_ret
      exact ⟨by rw [HZ.out]; rfl, HB.out⟩
theorem sameG_any (L M : List Bm) (v u : Value) (w : World) (hn : L.length ≤ 1000000) (hv : MsAt w v L) (hu : MsAt w u M) : Calls Tryz.prog 22 #[v, u] w fun e w' => e = .returned (.bool (decide (L = M))) ∧ Below w.heap.size w w' := by
  obtain ⟨a, c, rfl, _, h⟩ := hv
  obtain ⟨a', c', rfl, _, h'⟩ := hu
  by_cases hl : M.length = L.length
  · cases L with
    | nil =>
      have : M = [] := List.length_eq_zero_iff.1 hl
      subst this
      exact sameM_none a a' c c' w
    | cons x r =>
      obtain ⟨b, o, rfl, h2⟩ := h (by simp)
      obtain ⟨b', o', rfl, h3⟩ := h' (fun e => by rw [e] at hl; simp at hl)
      rw [hl]
      exact sameG_some (x :: r) M b o c b' o' c' w hn hl h2 h3
  · rw [decide_eq_false (fun e => hl (by rw [e]))]
    exact sameG_len a a' _ _ c c' w (fun e => hl e.symm)
end Ve
end Go.Proofs.YtjndahjfodnllaaGreatDoor


namespace Go.Proofs.YtjndahjfodnllaaGreatDoor
open Go.RowKit Go.Maps
namespace Ve
theorem kept_lenK {L : List ByteArray} {n : Nat} {X : List ByteArray} (g : L.length ≤ 1000) (h : Kept L n X) : X.length ≤ 1000 := by
  have hs : (bl X).length ≤ (bl L).length := nodup_sub (rises_nd h.1) fun t ht => List.mem_of_mem_take (by
    have := ((h.2 t).1 ht).1
    unfold bl at this ⊢
    rw [List.map_take] at this
    exact this)
  rw [bl_len, bl_len] at hs
  omega
set_option maxRecDepth 100000 in
set_option maxHeartbeats 4000000 in
theorem latOf_any (Q : List Raw) (t : ByteArray) (v : Value) (w : World) (hL : Q.length ≤ 1000) (g : Good Q) (hz : ∀ r, r ∈ Q → r.1.1.size ≤ 80 ∧ r.1.2.size ≤ 80) (hK : ∃ Y, KeptT Q t Y) (hv : EsAt w v Q) :
    Calls Tryz.prog 47 #[v, .string t] w fun e w' => e = .returned (.string (latV Q t)) ∧ Below w.heap.size w w' := by
  have HVO := hid (versOf_any Q t v w hL hz hv)
  have HP := hid (show pthR t Q = ofP t Q from (g.ofP t).symm)
  rw [HP.out] at HVO
  have HLK := hid (fun X u W (h : Below w.heap.size w W) (hX : Kept (verL (ofP t Q)) (verL (ofP t Q)).length X) (hu : TxAt W u X) => liked_any Q t X v u W hL (Nat.le_trans (kept_lenK (by rw [verL_len]; exact Nat.le_trans (ofP_len t Q) hL) hX) (by decide)) (verOk_of g hz hX) (hv.below h) hu)
  have HEQ := hid (fun X (hX : Kept (verL (ofP t Q)) (verL (ofP t Q)).length X) => show (likN Q t X X.length).1 = latV Q t by
    obtain ⟨Y, hY⟩ := hK
    exact lik_lat g hX hY)
  obtain ⟨va, vc, hv1, -⟩ := id hv
  subst hv1
  clear hv hz hK HP
  go_enter Tryz.func47, Tryz.ntmps47
  go_wp2_with fail
  refine HVO.out.mono ?_
  rintro e w1 ⟨u, X, rfl, hu, hX, hb⟩
  have HL1 := hid (HLK.out X u w1 hb hX hu)
  rw [HEQ.out X hX] at HL1
  have HB1 := hid hb
  obtain ⟨ua, uc, hu1, -⟩ := hu
  subst hu1
  clear hb hX HVO HLK HEQ
  go_wp2_with fail
  refine HL1.out.mono ?_
  rintro e w2 ⟨rfl, hb⟩
  have HB2 := hid (HB1.out.trans (hb.mono HB1.out.size))
  clear hb
  go_wp2_with fail
  go_ret
  exact ⟨rfl, HB2.out⟩
end Ve
end Go.Proofs.YtjndahjfodnllaaGreatDoor


namespace Go.Proofs.YtjndahjfodnllaaGreatDoor
open Go.RowKit Go.Maps
namespace Ve
set_option maxRecDepth 100000 in
set_option maxHeartbeats 2000000 in
theorem rwh_chk (Q : List Raw) (L : List Ent) (p : ByteArray) (v : Value) (w : World) (hn : L.length ≤ 1000) (sh : ∀ e, e ∈ L → ShE e) (I : Ixs w v Q L) (hc : (chk Q L).1 ≠ 0) :
    Calls Tryz.prog 21 #[v, .string p] w fun e w' => e = .returned (.tuple #[.slice none 0 0, faultV (chk Q L)]) ∧ Below w.heap.size w w' := by
  have HB0 := hid ((Below.refl w.heap.size w).alloc (Nat.le_refl _) (.cells #[.int .i64 0, .int .i64 0] 44))
  have HIF := hid (fun W (h : Below w.heap.size w W) => iFault_any Q L v W hn sh (I.below h))
  obtain ⟨va, vc, hv1, -⟩ := id I.es
  subst hv1
  obtain ⟨cc, oo, hco⟩ : ∃ cc oo, chk Q L = (cc, oo) := ⟨_, _, rfl⟩
  rw [hco] at HIF hc ⊢
  unfold faultV at HIF ⊢
  simp only at HIF hc ⊢
  generalize atOf oo = ao at *
  have hpos : (0 : Int) < (cc : Int) := by omega
  clear I sh hco hc
  go_enter Tryz.func21, Tryz.ntmps21
  go_wp2_with fail
  refine (HIF.out _ HB0.out).mono ?_
  rintro e w1 ⟨rfl, hb⟩
  have HP1 := hid (Pb.start (c := (cc : Int)) (a := ao) (by simpa using hb))
  clear hb
  obtain ⟨⟨s0, s1, sf⟩, f0, f1, ff⟩ := HP1.out.cells
  have hge := HP1.out.ge
  have n1 : ¬ w1.heap.size = w.heap.size := by omega
  have n2 : ¬ w.heap.size = w1.heap.size := by omega
  go_wp2_with fail
  generalize w1.alloc (.cells #[.int .i64 (cc : Int), .int .i64 ao] 44) = w2 at *
  go_region_with fail
  all_goals
    go_wp2_with fail
    refine bodyPost_ret (v := .tuple #[.slice none 0 0, .agg #[.int .i64 (cc : Int), .int .i64 ao]]) (by simp [results, Tryz.results21, go_sem, s0, s1]) rfl ⟨rfl, ?_⟩
    exact below_drawn_of (put2_below HP1.out.bl (Nat.le_refl _)) 1
theorem Pb.keep {w W W' : World} {fb : Nat} {c a : Int} (h : Pb w W fb c a) (hb : Below (fb + 1) W W') : Pb w W' fb c a := by
  have g := h.ge
  exact ⟨h.bl.trans (hb.mono (by omega)), (hb.block _ (by omega)).trans h.e, (hb.block _ (by omega)).trans h.f, h.ge⟩
structure Pm (w W : World) (fb C : Nat) (u : Value) (A : List Bm) : Prop where
  pb : Pb w W fb 0 (-1)
  own : W.ownsRow C 38 2 u A.length (flatM A)
theorem Pm.below {w W W' : World} {fb C : Nat} {u : Value} {A : List Bm} (h : Pm w W fb C u A) (hb : Below W.heap.size W W') : Pm w W' fb C u A :=
  ⟨h.pb.below hb, owns_below h.own hb⟩
theorem whN_yes {Q : List Raw} {L : List Ent} {p : ByteArray} {X : List ByteArray} {n i : Nat} (hi : i < X.length) (h1 : X[i].size = n) (h2 : whH Q L p X[i] = true) : whN Q L p (X.take (i + 1)) n = whN Q L p (X.take i) n ++ [(X[i], latV Q X[i])] := by
  unfold whN
  rw [List.take_succ_eq_append_getElem hi, List.filter_append, List.map_append]
  simp [h1, h2]
theorem whN_no {Q : List Raw} {L : List Ent} {p : ByteArray} {X : List ByteArray} {n i : Nat} (hi : i < X.length) (h : ¬ (X[i].size = n ∧ whH Q L p X[i] = true)) : whN Q L p (X.take (i + 1)) n = whN Q L p (X.take i) n := by
  unfold whN
  rw [List.take_succ_eq_append_getElem hi, List.filter_append, List.map_append]
  have : (decide (X[i].size = n) && whH Q L p X[i]) = false := by
    rw [Bool.eq_false_iff]
    intro h2
    rw [Bool.and_eq_true, decide_eq_true_iff] at h2
    exact h h2
  simp [this]
theorem whD_pos {Q : List Raw} {L : List Ent} {p : ByteArray} {X : List ByteArray} {n : Nat} (h : 0 < n) : whD Q L p X n = whN Q L p X n ++ whD Q L p X (n - 1) := by
  cases n with
  | zero => omega
  | succ n => rfl
theorem dn_idx' {n : Nat} (h : 0 < n) : Value.int .i64 ((n : Int) - 1) = .int .i64 ((n - 1 : Nat) : Int) := by congr 1; omega
theorem dn_meas' {n : Nat} (h : 0 < n) : (intOf (Value.int .i64 ((n : Int) - 1))).toNat < (intOf (Value.int .i64 (n : Int))).toNat := by
  rw [dn_idx' h]
  show (((n - 1 : Nat) : Int)).toNat < ((n : Int)).toNat
  omega
def CutP (Φ : Nat → World → Prop) (F : Nat → Act) : Exit → Act → World → Prop
  | .normal, a', w' => ∃ mb, Φ mb w' ∧ a' = F mb
  | _, _, _ => False
theorem wp_cut {P : Program} {c : Code} {K : Exit → Act → World → Prop} {a : Act} {w : World} (Φ : Nat → World → Prop) (h : ∃ F : Nat → Act, c.wp P (CutP Φ F) a w ∧ ∀ mb w', Φ mb w' → K Exit.normal (F mb) w') : c.wp P K a w := by
  obtain ⟨F, h1, h2⟩ := h
  refine Code.wp_mono (fun ex a' w' q => ?_) h1
  cases ex with
  | normal =>
    obtain ⟨mb, hp, rfl⟩ := q
    exact h2 mb w' hp
  | _ => exact q.elim
set_option maxRecDepth 100000 in
set_option maxHeartbeats 4000000 in
theorem rwh_good (Q : List Raw) (L : List Ent) (p : ByteArray) (v : Value) (w : World) (hn : L.length ≤ 1000) (sh : ∀ e, e ∈ L → ShE e) (hz : shQ Q) (I : Ixs w v Q L) (hc : chk Q L = (0, none)) :
    Calls Tryz.prog 21 #[v, .string p] w fun e w' => ∃ u, e = .returned (.tuple #[u, faultV (0, none)]) ∧ MsAt w' u (whD Q L p (phX Q) 100) ∧ Below w.heap.size w w' := by
  obtain ⟨i0, hi7, hz0, hz1, hz2⟩ := info_parts infoMod
  have HB0 := hid ((Below.refl w.heap.size w).alloc (Nat.le_refl _) (.cells #[.int .i64 0, .int .i64 0] 44))
  have HIF := hid (fun W (h : Below w.heap.size w W) => iFault_any Q L v W hn sh (I.below h))
  have hqn : Q.length ≤ 1000 := by rw [I.ln]; exact hn
  have hg := good_of I (by rw [hc])
  have HPO := hid (fun W (h : Below w.heap.size w W) => rpaths_any Q v W hqn (I.es.below h))
  have HLA := hid (fun t W (h : Below w.heap.size w W) => latOf_any Q t v W hqn hg hz (keptT_ex hg t) (I.es.below h))
  have HFO := hid (fun m (j : Nat) (hj : idxOf (isM m) Q = (j : Int)) W (h : Below w.heap.size w W) => by have h9 := findOf_all Q m v W (by omega) (I.es.below h); rw [hj] at h9; exact h9)
  have HIX := hid (fun W (h : Below w.heap.size w W) => I.below h)
  have HSH := hid sh
  have HU := hid (fun t (ht : t ∈ phX Q) => (found_iff I (t, latV Q t)).1 (lat_univ I (by rw [hc]) ht))
  have HFN := hid (fun W => fine_any W)
  have HXL := hid (show (phX Q).length ≤ 1000 by
    have := fold_len (Z := pathL Q) (X := [])
    rw [pathL_len] at this
    unfold phX
    simp only [List.length_nil] at this
    omega)
  obtain ⟨va, vc, hv1, -⟩ := id I.es
  subst hv1
  rw [hc] at HIF
  unfold faultV at HIF ⊢
  simp only at HIF ⊢
  have ha : atOf none = -1 := rfl
  rw [ha] at HIF ⊢
  clear I sh hc hg hz
  generalize phX Q = X at *
  have hXl := HXL.out
  obtain ⟨ans, hans⟩ : ∃ ans, ans = whD Q L p X 100 := ⟨_, rfl⟩
  rw [← hans]
  have HANS := hid hans
  clear hans
  go_enter Tryz.func21, Tryz.ntmps21
  go_wp2_with fail
  refine (HIF.out _ HB0.out).mono ?_
  rintro e w1 ⟨rfl, hb⟩
  have HP1 := hid (Pb.start (c := 0) (a := -1) (by simpa using hb))
  clear hb
  obtain ⟨-, f0, f1, ff⟩ := HP1.out.cells
  go_wp2_with fail
  generalize w1.alloc (.cells #[.int .i64 0, .int .i64 (-1)] 44) = w2 at *
  refine (HPO.out _ HP1.out.bl).mono ?_
  rintro e w3 ⟨xv, rfl, hx, hb⟩
  have HP3 := hid (HP1.out.below hb)
  have HX3 := hid hx
  obtain ⟨xa, xc, hx1, -⟩ := hx
  subst hx1
  clear hb f0 f1 ff HP1
  go_wp2_with fail
  have HM3 := hid (show Pm w w3 w1.heap.size w3.heap.size (.slice none 0 0) [] from ⟨HP3.out, World.ownsRow_nil _ _ _ _⟩)
  go_loopw [8, 9] (fun ov nv wr => ∃ (n : Nat) (A : List Bm), n ≤ 100 ∧ nv = .int .i64 n ∧ Hid (A ++ whD Q L p X n = ans) ∧ A.length ≤ (100 - n) * 1000 ∧ Hid (Pm w wr w1.heap.size w3.heap.size ov A) ∧ Hid (Below w3.heap.size w3 wr)) (fun _ nv _ => (intOf nv).toNat)
  case atStart => exact ⟨100, [], Nat.le_refl _, rfl, hid HANS.out.symm, Nat.zero_le _, HM3, hid (Below.refl _ _)⟩
  case round =>
    obtain ⟨n, A, hn9, rfl, HAW, hAl, HPM, HTX⟩ := hrel
    by_cases hn0 : n = 0
    · subst hn0
      have HAA := hid (show A = ans by rw [← HAW.out]; exact (List.append_nil A).symm)
      go_wp2_with fail
      refine (HFN.out _).mono ?_
      rintro e w7 ⟨rfl, hb⟩
      have HR7 := hid (HPM.out.below hb)
      clear hb
      obtain ⟨⟨s0, s1, sf⟩, -⟩ := HR7.out.pb.cells
      go_wp2_with fail
      refine bodyPost_ret (v := .tuple #[u8, .agg #[.int .i64 0, .int .i64 (-1)]]) (by simp [results, Tryz.results21, go_sem, s0, s1]) rfl ⟨_, rfl, ?_, ?_⟩
      · rw [← HAA.out]
        have hne : u8.ownBlock ≠ some w.heap.size := fun hb => by
          have h1 := (own_lt HR7.out.own hb).2
          have h2 := lt_of_blk HP3.out.e
          omega
        exact own_ms (owns_set (owns_set HR7.out.own hne) hne)
      · exact put2_below HR7.out.pb.bl (Nat.le_refl _)
    · have hnI : (0 : Int) < (n : Int) := by omega
      have hnD : decide (0 < n) = true := decide_eq_true (by omega)
      have hnE : decide ((0 : Int) < (n : Int)) = true := decide_eq_true hnI
      obtain ⟨wo, hwo⟩ : ∃ wo, wo = wr := ⟨_, rfl⟩
      subst hwo
      go_wp2_with fail
      go_loopw [8, 10] (fun ov iv wr => ∃ (i : Nat) (B : List Bm), i ≤ X.length ∧ iv = .int .i64 i ∧ Hid (B = A ++ whN Q L p (X.take i) n) ∧ B.length ≤ A.length + i ∧ Hid (Pm w wr w1.heap.size w3.heap.size ov B) ∧ Hid (Below w3.heap.size w3 wr)) (fun _ iv _ => X.length - (intOf iv).toNat)
      case atStart => exact ⟨0, A, Nat.zero_le _, rfl, hid (List.append_nil A).symm, Nat.le_refl _, HPM, HTX⟩
      case round =>
        obtain ⟨i, B, hi9, rfl, HBW, hBl, HPM2, HTX2⟩ := hrel
        by_cases hlt : i < X.length
        · have hiI := ix_lt hlt
          have hi0 := ix_pos i
          have HLT := hid hlt
          obtain ⟨lb, lo, rfl, y0⟩ := tx_cellK (HX3.out.below HTX2.out) hlt
          have HYW := hid (fun W (h : Below wr.heap.size wr W) => cell_below h y0)
          obtain ⟨j, hj⟩ := HU.out X[i] (List.getElem_mem hlt)
          have HWY := hid (fun h1 h2 => whN_yes (Q := Q) (L := L) (p := p) (n := n) hlt h1 h2)
          have HWN := hid (fun h => whN_no (Q := Q) (L := L) (p := p) (n := n) hlt h)
          by_cases hsz : X[i].size = n
          · have HLX := hid (fun W (h : Below w.heap.size w W) => HLA.out X[i] W h)
            have HFJ := hid (fun W (h : Below w.heap.size w W) => HFO.out _ j hj W h)
            have HOP := hid (fun W (h : Below w.heap.size w W) => pk_open (HIX.out W h) HSH.out hj)
            have HHB := hid (show whH Q L p X[i] = inB p (pkOf Q L (X[i], latV Q X[i])) from rfl)
            have hsI : (((X[i].size : Nat) : Int) == (n : Int)) = true := by rw [beq_iff_eq, hsz]
            have HSZ := hid hsz
            clear hj hsz
            generalize X[i] = x at *
            clear hlt
            have HW := hid (fun W' (h : Below wr.heap.size wr W') => HPM2.out.pb.bl.trans (h.mono HPM2.out.pb.bl.size))
            go_wp2_with fail
            have ya : (wr.alloc (.cells #[.string ⟨#[]⟩, .string ⟨#[]⟩] 38)).cell? ⟨lb, lo + i, none⟩ = some (.string x) := HYW.out _ ((Below.refl _ _).alloc (Nat.le_refl _) _)
            have yb : (wr.drew.alloc (.cells #[.string ⟨#[]⟩, .string ⟨#[]⟩] 38)).cell? ⟨lb, lo + i, none⟩ = some (.string x) := HYW.out _ ((below_drawn wr 1).alloc (Nat.le_refl _) _)
            have hlb := lt_of_cell y0
            simp only at hlb
            have hlb2 : ¬ lb = wr.heap.size := by omega
            have hlb3 : ¬ wr.heap.size = lb := by omega
            refine wp_cut (fun mb W => Hid (W.heap[mb]? = some (.cells #[.string x, .string (latV Q x)] 38 (0, 0))) ∧ Hid (Below wr.heap.size wr W)) ⟨?F, ?reg, ?cont⟩
            case reg =>
              go_region_with (first
                | (go_at_call 47; refine (HLX.out _ (HW.out _ (below_drawn wr 1))).mono ?_; rintro e w7 ⟨rfl, hb⟩; have HRa := hid (show Below wr.heap.size wr w7 from (below_drawn wr 1).trans (hb.mono (Nat.le_refl _))); have y7 := HYW.out _ HRa.out; have y7a := HYW.out _ (HRa.out.alloc HRa.out.size (.cells #[.string ⟨#[]⟩, .string ⟨#[]⟩] 38)); have hl7 := lt_of_cell y7; simp only at hl7; have hl8 : ¬ lb = w7.heap.size := (by omega); have hl9 : ¬ w7.heap.size = lb := (by omega); clear hb)
                | (go_at_call 47; refine (HLX.out _ (HW.out _ ((below_drawn wr 1).alloc (Nat.le_refl _) _))).mono ?_; rintro e w7 ⟨rfl, hb⟩; have HRa := hid (show Below wr.heap.size wr w7 from ((below_drawn wr 1).alloc (Nat.le_refl _) _).trans (hb.mono (by simp))); have y7 := HYW.out _ HRa.out; have HK7 := hid (show w7.heap[wr.heap.size]? = some (.cells #[.string ⟨#[]⟩, .string ⟨#[]⟩] 38 (0, 0)) from (hb.block _ (by simp)).trans (heap_new wr.drew _)); obtain ⟨k0, k1, kf⟩ := bx2 HK7.out; clear hb))
              all_goals
                first
                  | (change ∃ mb, (Hid _ ∧ Hid _) ∧ _ = _
                     refine ⟨wr.heap.size, ⟨hid (by rw [set_block (set_block HK7.out)]; rfl), hid (put2_below HRa.out (Nat.le_refl _))⟩, ?_⟩
                     generalize wr.heap.size = mb
                     rfl)
                  | (change ∃ mb, (Hid _ ∧ Hid _) ∧ _ = _
                     refine ⟨w7.heap.size, ⟨hid (heap_new w7 _), hid (HRa.out.alloc HRa.out.size _)⟩, ?_⟩
                     generalize w7.heap.size = mb
                     rfl)
            case cont =>
              rintro mb wm ⟨HM8, HR8⟩
              clear ya yb y0 hlb hlb2 hlb3
              obtain ⟨k0, k1, kf⟩ := bx2 HM8.out
              have HFM := hid (HFJ.out _ (HW.out _ HR8.out))
              generalize latV Q x = lx at *
              go_wp2_with fail
              refine HFM.out.mono ?_
              rintro e w9 ⟨rfl, hb⟩
              have HR9 := hid (HR8.out.trans (hb.mono HR8.out.size))
              have HM9 := hid ((hb.block _ (lt_of_blk HM8.out)).trans HM8.out)
              clear hb k0 k1 kf
              obtain ⟨eb, eo, t, q, qa, qn, qc, pa, pn, pc, bk, P, hva, hjQ, c0, c1, c2, c3, c4, hP, hPl, ht, hPs, hPK⟩ := HOP.out _ (HW.out _ HR9.out)
              subst hva
              have hjI := ix_lt hjQ
              have hj0 := ix_pos j
              have HPS := hid (rpacks_is t q qa qn qc pa pn pc bk P w9 hP hPl ht hPs)
              rw [hPK] at HPS
              have HPL := hid (show (pkOf Q L (x, lx)).length ≤ 1000 by rw [← hPK, List.length_map]; exact hPl)
              clear hP hPl ht hPs hPK HOP
              generalize pkOf Q L (x, lx) = Z at *
              go_wp2_with fail
              refine HPS.out.mono ?_
              rintro e w10 ⟨zv, rfl, hz, hb⟩
              have HR10 := hid (HR9.out.trans (hb.mono HR9.out.size))
              have HM10 := hid ((hb.block _ (lt_of_blk HM9.out)).trans HM9.out)
              have HIT := hid (inT_any p Z zv w10 (Nat.le_trans HPL.out (by decide)) hz)
              obtain ⟨za, zc, hz1, -⟩ := hz
              subst hz1
              clear hb c0 c1 c2 c3 c4
              have HPM10 := hid (HPM2.out.below HR10.out)
              have HTX10 := hid (HTX2.out.trans (HR10.out.mono HTX2.out.size))
              obtain ⟨k0, k1, kf⟩ := bx2 HM10.out
              cases hin : inB p Z
              · rw [hin] at HIT HHB
                have HB2 := hid (show B = A ++ whN Q L p (X.take (i + 1)) n by rw [HWN.out (fun h => by rw [HHB.out] at h; exact absurd h.2 (by simp))]; exact HBW.out)
                clear hin
                go_wp2_with fail
                refine HIT.out.mono ?_
                rintro e w11 ⟨rfl, rfl⟩
                go_wp2_with fail
                go_roundw
                case rel => exact ⟨i + 1, B, HLT.out, by first | exact nr_idx i | exact nx_idx HLT.out (by omega : X.length ≤ 1000000), HB2, by omega, HPM10, HTX10⟩
                case measure => first | exact nr_meas HLT.out | exact nx_meas HLT.out (by omega : X.length ≤ 1000000)
              · rw [hin] at HIT HHB
                have HB2 := hid (show B ++ [(x, lx)] = A ++ whN Q L p (X.take (i + 1)) n by rw [HWY.out HSZ.out HHB.out, HBW.out, List.append_assoc])
                have HBL := hid (show B.length ≤ 200000 by omega)
                clear hin
                go_wp2_with fail
                refine HIT.out.mono ?_
                rintro e w11 ⟨rfl, rfl⟩
                go_wp2_with (at_builtin; refine wpList_append_own _ rfl _ _ 23 rfl w3.heap.size 38 i0 _ 2 32 Tryz.underlying23 hi7 hz0 hz1 hz2 rfl (by decide) _ _ _ rfl (HPM10.out.own.alloc _) ⟨w11.heap.size, 0, none⟩ 1 1 [.string x, .string lx] rfl rfl ?c1 ?c2 ?c3 ?c4 ?c5 ?_)
                case c1 => exact World.news_of_block (heap_new _ _)
                case c2 => intro u hu; simp at hu; rcases hu with rfl | rfl <;> rfl
                case c3 => have := HBL.out; unfold maxLen; omega
                case c4 => have := HBL.out; omega
                case c5 => have := HTX10.out.size; simp; omega
                intro v' w12 hown hgrow _
                have HR12 := hid (rel_app2 HTX10.out.size (Below.refl w3.heap.size w11) HPM10.out.own (Below.refl _ _) hgrow)
                have HPM12 := hid (show Pm w w12 w1.heap.size w3.heap.size v' (B ++ [(x, lx)]) from ⟨HPM10.out.pb.keep (HR12.out.mono (lt_of_blk HP3.out.f)), by rw [List.length_append, flatM_app]; exact hown⟩)
                have HTX12 := hid (HTX10.out.trans HR12.out)
                clear hown hgrow k0 k1 kf
                go_wp2_with fail
                go_roundw
                case rel => exact ⟨i + 1, _, HLT.out, by first | exact nr_idx i | exact nx_idx HLT.out (by omega : X.length ≤ 1000000), HB2, by rw [List.length_append]; show B.length + 1 ≤ _; omega, HPM12, HTX12⟩
                case measure => first | exact nr_meas HLT.out | exact nx_meas HLT.out (by omega : X.length ≤ 1000000)
          · have HB2 := hid (show B = A ++ whN Q L p (X.take (i + 1)) n by rw [HWN.out (fun h => hsz h.1)]; exact HBW.out)
            have hsI : (((X[i].size : Nat) : Int) == (n : Int)) = false := by rw [beq_eq_false_iff_ne]; omega
            clear hj hsz
            generalize X[i] = x at *
            clear hlt
            go_wp2_with fail
            first
              | exact ⟨⟨i + 1, B, HLT.out, by first | exact nr_idx i | exact nx_idx HLT.out (by omega : X.length ≤ 1000000), HB2, by omega, HPM2, HTX2⟩, by first | exact nr_meas HLT.out | exact nx_meas HLT.out (by omega : X.length ≤ 1000000)⟩
              | (go_roundw
                 case rel => exact ⟨i + 1, B, HLT.out, by first | exact nr_idx i | exact nx_idx HLT.out (by omega : X.length ≤ 1000000), HB2, by omega, HPM2, HTX2⟩
                 case measure => first | exact nr_meas HLT.out | exact nx_meas HLT.out (by omega : X.length ≤ 1000000))
        · have hiI := ix_nlt hlt
          have HWE := hid (show B ++ whD Q L p X (n - 1) = ans by
            rw [← HAW.out, HBW.out, List.take_of_length_le (by omega), List.append_assoc, whD_pos (n := n) (Nat.pos_of_ne_zero hn0)])
          clear hlt
          go_wp2_with fail
          go_roundw
          case rel => exact ⟨n - 1, B, by omega, by first | exact dn_idx (by omega) (by omega) | exact dn_idx' (by omega), HWE, by
            have h5 : (100 - (n - 1)) * 1000 = (100 - n) * 1000 + 1000 := by omega
            omega, HPM2, HTX2⟩
          case measure => first | exact dn_meas (by omega) (by omega) | exact dn_meas' (by omega)
end Ve
end Go.Proofs.YtjndahjfodnllaaGreatDoor


namespace Go.Proofs.YtjndahjfodnllaaGreatDoor
open Go.RowKit Go.Maps
namespace Ve
def qa0 : Bm := (⟨#[97]⟩, ⟨#[118, 49, 46, 48, 46, 48]⟩)
def qa1 : Bm := (⟨#[97]⟩, ⟨#[118, 49, 46, 49, 46, 48]⟩)
def qb0 : Bm := (⟨#[98]⟩, ⟨#[118, 48, 46, 49, 46, 48]⟩)
def qb1 : Bm := (⟨#[98]⟩, ⟨#[118, 48, 46, 50, 46, 48, 45, 114, 99]⟩)
def s3L : List Ent := [(qa0, [], [⟨#[46]⟩, ⟨#[120]⟩], false), (qa1, [qb0], [⟨#[46]⟩], false), (qb0, [], [], false), (qb1, [], [], false)]
def s3Q (g : Nat) : List Raw := [(qa0, .slice none 0 0, .slice (some ⟨g, 0, none⟩) 2 2, false), (qa1, .slice (some ⟨g + 1, 0, none⟩) 1 1, .slice (some ⟨g + 2, 0, none⟩) 1 1, false), (qb0, .slice none 0 0, .slice none 0 0, false), (qb1, .slice none 0 0, .slice none 0 0, false)]
theorem s3_e0 : entE s3L 0 = 0 := by
  show entW none _ = 0
  rw [entW_none (by kernel_rfl), entR_pack (by decide) (by kernel_rfl)]
  exact pk_rise (by decide) (by kernel_rfl) (fun j hj => by
    have : j = 0 := by simp [bl] at hj; omega
    subst this; exact of_decide_eq_true (by kernel_rfl))
theorem s3_e1 : entE s3L 1 = 0 := by
  show entW (some _) _ = 0
  rw [entW_some (by kernel_rfl) (by kernel_rfl), entR_pack (by decide) (by kernel_rfl)]
  exact pk_rise (by decide) (by kernel_rfl) (fun j hj => by simp [bl] at hj)
theorem s3_e2 : entE s3L 2 = 0 := by
  show entW (some _) _ = 0
  rw [entW_some (by kernel_rfl) (by kernel_rfl), entR_pack (by decide) (by kernel_rfl)]
  exact pk_rise (by decide) (by kernel_rfl) (fun j hj => by simp [bl] at hj)
theorem s3_e3 : entE s3L 3 = 0 := by
  show entW (some _) _ = 0
  rw [entW_some (by kernel_rfl) (by kernel_rfl), entR_pack (by decide) (by kernel_rfl)]
  exact pk_rise (by decide) (by kernel_rfl) (fun j hj => by simp [bl] at hj)
theorem s3_chk (g : Nat) : chk (s3Q g) s3L = (0, none) := by
  have h2 : ∀ j, j < 4 → entE s3L j = 0 := fun j hj => by
    rcases (by omega : j = 0 ∨ j = 1 ∨ j = 2 ∨ j = 3) with rfl | rfl | rfl | rfl
    · exact s3_e0
    · exact s3_e1
    · exact s3_e2
    · exact s3_e3
  have h : fstE (entE s3L) s3L.length = none := fstE_none h2
  rw [chk_reqs (by decide) h]
  exact Prod.ext (show codeE (reqE2 (s3Q g) s3L) s3L.length = 0 by kernel_rfl) (show fstE (reqE2 (s3Q g) s3L) s3L.length = none by kernel_rfl)
theorem s3_sh : ∀ e, e ∈ s3L → ShE e := fun e he => by
  have : e = s3L[0] ∨ e = s3L[1] ∨ e = s3L[2] ∨ e = s3L[3] := by simpa [s3L] using he
  rcases this with rfl | rfl | rfl | rfl
  · exact ⟨by decide, by decide, by decide, fun m hm => (by cases hm), by decide, fun x hx => (by
      have : x = ⟨#[46]⟩ ∨ x = ⟨#[120]⟩ := by simpa [s3L] using hx
      rcases this with rfl | rfl <;> decide)⟩
  · exact ⟨by decide, by decide, by decide, fun m hm => (by have : m = qb0 := List.mem_singleton.1 hm
                                                            subst this; exact ⟨by decide, by decide⟩), by decide, fun x hx => (by have : x = ⟨#[46]⟩ := List.mem_singleton.1 hx
                                                                                                                                  subst this; decide)⟩
  · exact ⟨by decide, by decide, by decide, fun m hm => (by cases hm), by decide, fun x hx => (by cases hx)⟩
  · exact ⟨by decide, by decide, by decide, fun m hm => (by cases hm), by decide, fun x hx => (by cases hx)⟩
theorem s3_ixs {W : World} {g q : Nat} (hb : W.heap[q]? = some (.cells #[.string ⟨#[97]⟩, .string ⟨#[118, 49, 46, 48, 46, 48]⟩, .slice none 0 0, .slice (some ⟨g, 0, none⟩) 2 2, .bool false, .string ⟨#[97]⟩, .string ⟨#[118, 49, 46, 49, 46, 48]⟩, .slice (some ⟨g + 1, 0, none⟩) 1 1, .slice (some ⟨g + 2, 0, none⟩) 1 1, .bool false, .string ⟨#[98]⟩, .string ⟨#[118, 48, 46, 49, 46, 48]⟩, .slice none 0 0, .slice none 0 0, .bool false, .string ⟨#[98]⟩, .string ⟨#[118, 48, 46, 50, 46, 48, 45, 114, 99]⟩, .slice none 0 0, .slice none 0 0, .bool false] 61 (0, 0)))
    (hp : W.heap[g]? = some (.cells #[.string ⟨#[46]⟩, .string ⟨#[120]⟩] 9 (0, 0))) (hg : W.heap[g + 1]? = some (.cells #[.string ⟨#[98]⟩, .string ⟨#[118, 48, 46, 49, 46, 48]⟩] 38 (0, 0))) (hd : W.heap[g + 2]? = some (.cells #[.string ⟨#[46]⟩] 9 (0, 0))) :
    Ixs W (.slice (some ⟨q, 0, none⟩) 4 4) (s3Q g) s3L := by
  have msn : MsAt W (.slice none 0 0) [] := ⟨none, 0, rfl, Nat.le_refl _, fun h => absurd rfl h⟩
  have txn : TxAt W (.slice none 0 0) [] := ⟨none, 0, rfl, Nat.le_refl _, fun h => absurd rfl h⟩
  have msb : MsAt W (.slice (some ⟨g + 1, 0, none⟩) 1 1) [qb0] := ⟨some ⟨g + 1, 0, none⟩, 1, rfl, Nat.le_refl _, fun _ => ⟨g + 1, 0, rfl, fun j hj => by
    have : j = 0 := by simp at hj; exact hj
    subst this
    refine ⟨?_, ?_⟩ <;> (rw [Lib.cell_of_heap hg]; rfl)⟩⟩
  have tx1 : TxAt W (.slice (some ⟨g, 0, none⟩) 2 2) [⟨#[46]⟩, ⟨#[120]⟩] := ⟨some ⟨g, 0, none⟩, 2, rfl, Nat.le_refl _, fun _ => ⟨g, 0, rfl, fun j hj => by
    have hj2 : j < 2 := hj
    rcases (by omega : j = 0 ∨ j = 1) with rfl | rfl
    · rw [Lib.cell_of_heap hp]; rfl
    · rw [Lib.cell_of_heap hp]; rfl⟩⟩
  have tx2 : TxAt W (.slice (some ⟨g + 2, 0, none⟩) 1 1) [⟨#[46]⟩] := ⟨some ⟨g + 2, 0, none⟩, 1, rfl, Nat.le_refl _, fun _ => ⟨g + 2, 0, rfl, fun j hj => by
    have : j = 0 := by simp at hj; exact hj
    subst this
    rw [Lib.cell_of_heap hd]; rfl⟩⟩
  refine ⟨⟨some ⟨q, 0, none⟩, 4, rfl, Nat.le_refl _, fun r hr => ?_, fun _ => ⟨q, 0, rfl, fun j hj => ?_⟩⟩, rfl, fun j h1 h2 => ?_⟩
  · rcases List.mem_cons.1 hr with rfl | hr
    · exact ⟨⟨none, 0, 0, rfl⟩, _, _, _, rfl⟩
    rcases List.mem_cons.1 hr with rfl | hr
    · exact ⟨⟨_, _, _, rfl⟩, _, _, _, rfl⟩
    rcases List.mem_cons.1 hr with rfl | hr
    · exact ⟨⟨none, 0, 0, rfl⟩, none, 0, 0, rfl⟩
    rw [List.mem_singleton.1 hr]
    exact ⟨⟨none, 0, 0, rfl⟩, none, 0, 0, rfl⟩
  · have hj2 : j < 4 := hj
    rcases (by omega : j = 0 ∨ j = 1 ∨ j = 2 ∨ j = 3) with rfl | rfl | rfl | rfl
    · refine ⟨?_, ?_, ?_, ?_, ?_⟩ <;> (rw [Lib.cell_of_heap hb]; rfl)
    · refine ⟨?_, ?_, ?_, ?_, ?_⟩ <;> (rw [Lib.cell_of_heap hb]; rfl)
    · refine ⟨?_, ?_, ?_, ?_, ?_⟩ <;> (rw [Lib.cell_of_heap hb]; rfl)
    · refine ⟨?_, ?_, ?_, ?_, ?_⟩ <;> (rw [Lib.cell_of_heap hb]; rfl)
  · have hj2 : j < 4 := h1
    rcases (by omega : j = 0 ∨ j = 1 ∨ j = 2 ∨ j = 3) with rfl | rfl | rfl | rfl
    · exact ⟨rfl, msn, tx1, rfl⟩
    · exact ⟨rfl, msb, tx2, rfl⟩
    · exact ⟨rfl, msn, txn, rfl⟩
    · exact ⟨rfl, msn, txn, rfl⟩
set_option maxHeartbeats 2000000 in
theorem small3_any (w : World) : Calls Tryz.prog 25 #[] w fun e w' => ∃ g q, e = .returned (.slice (some ⟨q, 0, none⟩) 4 4) ∧ Ixs w' (.slice (some ⟨q, 0, none⟩) 4 4) (s3Q g) s3L ∧ Below w.heap.size w w' := by
  have a1 := heap_new w (.cells #[.string ⟨#[46]⟩, .string ⟨#[120]⟩] 9)
  have z1 : (w.alloc (.cells #[.string ⟨#[46]⟩, .string ⟨#[120]⟩] 9)).heap.size = w.heap.size + 1 := by simp
  have b1 := (Below.refl w.heap.size w).alloc (Nat.le_refl _) (.cells #[.string ⟨#[46]⟩, .string ⟨#[120]⟩] 9)
  obtain ⟨w1, hw1⟩ : ∃ w1, w.alloc (.cells #[.string ⟨#[46]⟩, .string ⟨#[120]⟩] 9) = w1 := ⟨_, rfl⟩
  rw [hw1] at a1 z1 b1
  have a2 := heap_new w1 (.cells #[.string ⟨#[98]⟩, .string ⟨#[118, 48, 46, 49, 46, 48]⟩] 38)
  have c1 := heap_old w1 (.cells #[.string ⟨#[98]⟩, .string ⟨#[118, 48, 46, 49, 46, 48]⟩] 38) a1
  have b2 := b1.alloc b1.size (.cells #[.string ⟨#[98]⟩, .string ⟨#[118, 48, 46, 49, 46, 48]⟩] 38)
  have z2 : (w1.alloc (.cells #[.string ⟨#[98]⟩, .string ⟨#[118, 48, 46, 49, 46, 48]⟩] 38)).heap.size = w.heap.size + 2 := by simp [z1]
  rw [z1] at a2
  obtain ⟨w2, hw2⟩ : ∃ w2, w1.alloc (.cells #[.string ⟨#[98]⟩, .string ⟨#[118, 48, 46, 49, 46, 48]⟩] 38) = w2 := ⟨_, rfl⟩
  rw [hw2] at a2 c1 b2 z2
  have a3 := heap_new w2 (.cells #[.string ⟨#[46]⟩] 9)
  have c2 := heap_old w2 (.cells #[.string ⟨#[46]⟩] 9) c1
  have d2 := heap_old w2 (.cells #[.string ⟨#[46]⟩] 9) a2
  have b3 := b2.alloc b2.size (.cells #[.string ⟨#[46]⟩] 9)
  have z3 : (w2.alloc (.cells #[.string ⟨#[46]⟩] 9)).heap.size = w.heap.size + 3 := by simp [z2]
  rw [z2] at a3
  obtain ⟨w3, hw3⟩ : ∃ w3, w2.alloc (.cells #[.string ⟨#[46]⟩] 9) = w3 := ⟨_, rfl⟩
  rw [hw3] at a3 c2 d2 b3 z3
  have a4 := heap_new w3 (.cells #[.string ⟨#[97]⟩, .string ⟨#[118, 49, 46, 48, 46, 48]⟩, .slice none 0 0, .slice (some ⟨w.heap.size, 0, none⟩) 2 2, .bool false, .string ⟨#[97]⟩, .string ⟨#[118, 49, 46, 49, 46, 48]⟩, .slice (some ⟨w.heap.size + 1, 0, none⟩) 1 1, .slice (some ⟨w.heap.size + 2, 0, none⟩) 1 1, .bool false, .string ⟨#[98]⟩, .string ⟨#[118, 48, 46, 49, 46, 48]⟩, .slice none 0 0, .slice none 0 0, .bool false, .string ⟨#[98]⟩, .string ⟨#[118, 48, 46, 50, 46, 48, 45, 114, 99]⟩, .slice none 0 0, .slice none 0 0, .bool false] 61)
  have c3 := heap_old w3 (.cells #[.string ⟨#[97]⟩, .string ⟨#[118, 49, 46, 48, 46, 48]⟩, .slice none 0 0, .slice (some ⟨w.heap.size, 0, none⟩) 2 2, .bool false, .string ⟨#[97]⟩, .string ⟨#[118, 49, 46, 49, 46, 48]⟩, .slice (some ⟨w.heap.size + 1, 0, none⟩) 1 1, .slice (some ⟨w.heap.size + 2, 0, none⟩) 1 1, .bool false, .string ⟨#[98]⟩, .string ⟨#[118, 48, 46, 49, 46, 48]⟩, .slice none 0 0, .slice none 0 0, .bool false, .string ⟨#[98]⟩, .string ⟨#[118, 48, 46, 50, 46, 48, 45, 114, 99]⟩, .slice none 0 0, .slice none 0 0, .bool false] 61) c2
  have d3 := heap_old w3 (.cells #[.string ⟨#[97]⟩, .string ⟨#[118, 49, 46, 48, 46, 48]⟩, .slice none 0 0, .slice (some ⟨w.heap.size, 0, none⟩) 2 2, .bool false, .string ⟨#[97]⟩, .string ⟨#[118, 49, 46, 49, 46, 48]⟩, .slice (some ⟨w.heap.size + 1, 0, none⟩) 1 1, .slice (some ⟨w.heap.size + 2, 0, none⟩) 1 1, .bool false, .string ⟨#[98]⟩, .string ⟨#[118, 48, 46, 49, 46, 48]⟩, .slice none 0 0, .slice none 0 0, .bool false, .string ⟨#[98]⟩, .string ⟨#[118, 48, 46, 50, 46, 48, 45, 114, 99]⟩, .slice none 0 0, .slice none 0 0, .bool false] 61) d2
  have e3 := heap_old w3 (.cells #[.string ⟨#[97]⟩, .string ⟨#[118, 49, 46, 48, 46, 48]⟩, .slice none 0 0, .slice (some ⟨w.heap.size, 0, none⟩) 2 2, .bool false, .string ⟨#[97]⟩, .string ⟨#[118, 49, 46, 49, 46, 48]⟩, .slice (some ⟨w.heap.size + 1, 0, none⟩) 1 1, .slice (some ⟨w.heap.size + 2, 0, none⟩) 1 1, .bool false, .string ⟨#[98]⟩, .string ⟨#[118, 48, 46, 49, 46, 48]⟩, .slice none 0 0, .slice none 0 0, .bool false, .string ⟨#[98]⟩, .string ⟨#[118, 48, 46, 50, 46, 48, 45, 114, 99]⟩, .slice none 0 0, .slice none 0 0, .bool false] 61) a3
  have b4 := b3.alloc b3.size (.cells #[.string ⟨#[97]⟩, .string ⟨#[118, 49, 46, 48, 46, 48]⟩, .slice none 0 0, .slice (some ⟨w.heap.size, 0, none⟩) 2 2, .bool false, .string ⟨#[97]⟩, .string ⟨#[118, 49, 46, 49, 46, 48]⟩, .slice (some ⟨w.heap.size + 1, 0, none⟩) 1 1, .slice (some ⟨w.heap.size + 2, 0, none⟩) 1 1, .bool false, .string ⟨#[98]⟩, .string ⟨#[118, 48, 46, 49, 46, 48]⟩, .slice none 0 0, .slice none 0 0, .bool false, .string ⟨#[98]⟩, .string ⟨#[118, 48, 46, 50, 46, 48, 45, 114, 99]⟩, .slice none 0 0, .slice none 0 0, .bool false] 61)
  rw [z3] at a4
  have HX := hid (s3_ixs a4 c3 d3 e3)
  have HB := hid b4
  subst hw3 hw2 hw1
  clear a1 a2 a3 a4 b1 b2 b3 b4 c1 c2 c3 d2 d3 e3
  go_enter Tryz.func25, Tryz.ntmps25
  go_wp2_with fail
  go_ret
  exact ⟨w.heap.size, w.heap.size + 3, rfl, HX.out, HB.out⟩
end Ve
end Go.Proofs.YtjndahjfodnllaaGreatDoor
