
import Derived.Test.YtpafkniapacfdaaGreatDoorSq45
import Derived.Test.YtpafkniapacfdaaGreatDoorSq34
import Derived.Test.YtpafkniapacfdaaGreatDoorSq42
namespace Go.Proofs.YtpafkniapacfdaaGreatDoor
open Go.RowKit
namespace Ve
theorem univ_szS {L : List Ent} (h : okI L = true) : ∀ m, m ∈ univ L → m.1.size ≤ 70 ∧ m.2.size ≤ 60 := fun m hm => by
  obtain ⟨e, he, rfl⟩ := List.mem_map.1 hm
  have := (okI_iff h).2 e he
  exact ⟨this.1, this.2.1⟩
structure ShX (Q : List Raw) (L : List Ent) (S : List Bm) (X : List Ln) : Prop where
  ln : X.length = S.length
  le : X.length ≤ 101
  nm : ∀ x, x ∈ X → x.2 ≤ 4294967295
  sh : shortN X
  al : allX Q L S = X
  g0 : (chkG Q L S).1 = 0
  tf : txF X = (0, none)
  tt : txT X = X.flatMap lineT
  fl : (bt (X.flatMap lineT)).size ≤ 500000
  rf : rdF (linesL (X.flatMap lineT)) = (0, none)
  rx : rdX (linesL (X.flatMap lineT)) = X
  vf : vfF Q L S X = (0, none)
  ls : ∀ k, k < X.length → vfF Q L S (X.take k ++ X.drop (k + 1)) = (5, some k)
  ot : ∀ k (hk : k < X.length) c, c ≠ X[k].2 → vfF Q L S (X.set k (X[k].1, c)) = (10, some k)
theorem shX_of {w : World} {v : Value} {Q : List Raw} {L : List Ent} {R : List Bm} (J : Ixs w v Q L) (hok : okI L = true) (hg : (chkG Q L R).1 = 0) : ShX Q L (bX Q L R) (sumL Q L (bX Q L R)) := by
  have hl : L.length ≤ 101 := by rcases (okI_iff hok).1 with h | h <;> omega
  have hu := bX_univ (Q := Q) (L := L) (roots := R)
  have hr : rising (bX Q L R) := (bX_jn Q L R).ri
  have hm : ∀ m, m ∈ bX Q L R → mErr m = 0 := fun m h => univ_right (chkG_chk hg) m (hu m h)
  have h0 : (chkG Q L (bX Q L R)).1 = 0 := chkG_in J (chkG_chk hg) hu
  have hz : ∀ m, m ∈ bX Q L R → m.1.size ≤ 70 ∧ m.2.size ≤ 60 := fun m h => univ_szS hok m (hu m h)
  have hb : (bX Q L R).length ≤ 101 := Nat.le_trans bX_len hl
  generalize bX Q L R = S at *
  have hX : ∀ x, x ∈ sumL Q L S → x.1 ∈ S := fun x hx => by
    obtain ⟨m, h, rfl⟩ := List.mem_map.1 hx
    exact h
  have hn := sumL_le Q L S
  have hlS := sumL_len Q L S
  have htx := txE_sum hr hm (Q := Q) (L := L)
  have hF := txF_ok htx
  obtain ⟨r1, r2⟩ := rd_lines htx (fun x hx => hm _ (hX x hx)) hn
  have hfl := flat_bd lineT 143 (sumL Q L S) fun x hx => by
    have h1 := hz _ (hX x hx)
    have h2 := decN_len (hn x hx)
    have e1 := len_eq x.1.1
    have e2 := len_eq x.1.2
    unfold lineT
    simp only [List.length_append, List.length_cons, List.length_nil]
    omega
  refine ⟨hlS, by omega, hn, fun x hx => ?_, by unfold allX; rw [if_pos h0], h0, hF, txT_ok (by rw [hF]), ?_, r1, r2, vf_all h0, fun k hk => vf_less hr h0 hk, fun k hk c hc => vf_other hr h0 hk hc⟩
  · have h1 := hz _ (hX x hx)
    exact ⟨by omega, by omega⟩
  · rw [← len_eq, bt_list]
    have : 143 * (sumL Q L S).length ≤ 143 * 101 := Nat.mul_le_mul_left _ (by omega)
    omega
theorem ln_cap {K : IntKind} {W : World} {a : Option Addr} {n c : Nat} {X : List Ln} (h : LnAt K W (.slice a n c) X) : X.length ≤ c := by
  obtain ⟨_, c', e, hc, _⟩ := h
  injection e with _ _ e3
  rw [e3]; exact hc
theorem sh_ix {k n c : Nat} (hk : k < n) (hn : n ≤ 101) (hc : n ≤ c) : (k : Int) ≤ (c : Int) ∧ wrap64 ((k : Int) + 1) = (k : Int) + 1 ∧ IntKind.i64.wrap ((k : Int) + 1) = (k : Int) + 1 ∧ ((k : Int) + 1).toNat = k + 1 ∧ (0 : Int) ≤ (k : Int) + 1 ∧ (k : Int) + 1 ≤ (n : Int) ∧ (k : Int) + 1 ≤ (c : Int) ∧ (¬ (k : Int) + 1 < (c : Int) → n ≤ k + 1) :=
  ⟨by omega, ix_w1 hk (by omega), ix_k1 hk (by omega), ix_nat1 k, ix_pos1 k, by omega, by omega, by omega⟩
theorem sh_drop {X : List Ln} {k : Nat} (h : X.length ≤ k + 1) : X.drop (k + 1) = [] := List.drop_eq_nil_of_le h
theorem sh_len {X : List Ln} {k : Nat} (h : X.length ≤ 101) : (X.take k ++ X.drop (k + 1)).length ≤ 1000000 := by
  rw [List.length_append, List.length_take, List.length_drop]; omega
theorem sh_cut {wr : World} {X : List Ln} {k xb xo xc : Nat} (h : LnAt .u32 wr (.slice (some ⟨xb, xo, none⟩) X.length xc) X) (hk : k < X.length) (hl : X.length ≤ 101) :
    ∃ v1 W1, (Builtin.append_ #[34, 34] 34 #[.slice none 0 0, .slice (some ⟨xb, xo, none⟩) k xc]).run Tryz.prog wr = .ok v1 W1 ∧
      Hid (∀ o c, (o = xo + (k + 1) * 3 ∨ X.drop (k + 1) = []) → ∃ da dc w13, (Builtin.append_ #[34, 34] 34 #[v1, .slice (some ⟨xb, o, none⟩) (X.length - (k + 1)) c]).run Tryz.prog W1 = .ok (.slice da (X.take k ++ X.drop (k + 1)).length dc) w13 ∧
        Hid (LnAt .u32 w13 (.slice da (X.take k ++ X.drop (k + 1)).length dc) (X.take k ++ X.drop (k + 1)) ∧ Below wr.heap.size wr w13)) := by
  have hcl : ∀ W, LnAt .u32 W (.slice (some ⟨xb, xo, none⟩) X.length xc) X → ∀ j (hj : j < X.length), W.cell? ⟨xb, xo + j * 3, none⟩ = some (.string X[j].1.1) ∧ W.cell? ⟨xb, xo + j * 3 + 1, none⟩ = some (.string X[j].1.2) ∧ W.cell? ⟨xb, xo + j * 3 + 2, none⟩ = some (.int .u32 (X[j].2 : Nat)) := fun W h j hj => by
    obtain ⟨b', o', e, h1⟩ := h.cells hj
    injection e with e
    injection e with e4 e5
    subst e4 e5
    exact h1
  have hlk : (X.take k).length = k := by rw [List.length_take]; omega
  have hld : (X.drop (k + 1)).length = X.length - (k + 1) := by rw [List.length_drop]
  obtain ⟨v1, W1, hrun1, hown1, hg1⟩ := bothN_run [] (X.take k) (.slice none 0 0) wr wr.heap.size xb xo xc (Nat.le_refl _) (by simp) (by omega) (World.ownsRow_nil _ _ _ _) (ln_flat fun j hj => by
    have hj2 : j < X.length := by omega
    rw [List.getElem_take]
    exact hcl wr h j hj2)
  rw [hlk] at hrun1
  rw [List.nil_append] at hown1
  have hB1 : Below wr.heap.size wr W1 := (Below.refl wr.heap.size wr).grown hg1 (Nat.le_refl _) (fun k hk => by cases hk)
  have hX1 := h.below hB1
  refine ⟨v1, W1, hrun1, hid fun o c ho => ?_⟩
  obtain ⟨dv, w13, hrun, hown, hgr⟩ := bothN_run (X.take k) (X.drop (k + 1)) v1 W1 wr.heap.size xb o c hB1.size (by omega) (by omega) hown1 (fun j u hj => by
    rcases ho with rfl | h0
    · refine ln_flat (K := .u32) (fun i hi => ?_) j u hj
      have hi2 : k + 1 + i < X.length := by omega
      have := hcl W1 hX1 (k + 1 + i) hi2
      rw [List.getElem_drop, show xo + (k + 1) * 3 + i * 3 = xo + (k + 1 + i) * 3 by omega]
      exact this
    · rw [h0] at hj
      simp [flatN] at hj)
  rw [hld] at hrun
  obtain ⟨da, dc, hdv⟩ := own_slN hown
  subst hdv
  exact ⟨da, dc, w13, hrun, hid ⟨own_ln hown, hB1.grown hgr hB1.size (fun k hk => (hown1.lt k hk).1)⟩⟩
set_option maxRecDepth 100000 in
set_option maxHeartbeats 4000000 in
theorem sh_main (Q0 : List Raw) (L : List Ent) (R : List Bm) (k c : Nat) (v rv : Value) (A : Nat → Addr) (m : Int) (w : World) (K : TsK w A m) (I : Ixs w v Q0 L) (em : EmI Q0 L) (hr : MsAt w rv R) (hem : Em rv R) (hok : okI L = true) (hokR : okLN 15 R = true) :
    Calls Tryz.prog 3 #[v, rv, .int .i64 (k : Nat), .int .u32 (c : Nat)] w fun e w' => e = .returned (.bool true) ∧ Below w.heap.size w w' := by
  have hn101 : L.length ≤ 101 := by rcases (okI_iff hok).1 with h | h <;> omega
  have hR15 := (okLN_iff hokR).1
  have hOKE : ∀ e, e ∈ L → OkE e := fun e he => by
    have h2 := hok
    unfold okI at h2
    rw [Bool.and_eq_true] at h2
    exact okE_is (List.all_eq_true.1 h2.2 e he)
  have g1 : ¬ ((k : Int) < 0) := by omega
  have HIN := hid (summed_any A m w K.s K.g)
  have HLO := hid (fun W (h : Below w.heap.size w W) => longIQ_any Q0 L v W (I.below h))
  rw [if_pos hok] at HLO
  have HLM := hid (fun W (h : Below w.heap.size w W) => longN_any 15 (by decide) R rv W (hr.below h))
  rw [if_pos hokR] at HLM
  have HOW := hid (fun W (h : Below w.heap.size w W) => ownI_any Q0 L v W (by omega) (I.below h) em (okI_fits hok))
  have HOM := hid (fun W (h : Below w.heap.size w W) => ownM_any rv R W (by omega) (hr.below h) hem)
  have HBU := hid (fun Q u ru W (h : Below w.heap.size w W) (J : Ixs W u Q L) (hm : MsAt W ru R) => build_all Q L R u ru A m W (by omega) (by omega) (okI_sh hok) (K.below h).s J hm)
  have HAL := hid (fun Q S u ru W (h : Below w.heap.size w W) (J : Ixs W u Q L) (hm : MsAt W ru S) (hS : S.length ≤ 1000) => all_any Q L S u ru A m W (by omega) hS (okI_sh hok) hOKE (K.below h).s J hm)
  have HVF := hid (fun Q S u ru H av W (h : Below w.heap.size w W) (J : Ixs W u Q L) (hm : MsAt W ru S) (hS : S.length ≤ 1000) (hH : H.length ≤ 1000000) (ha : LnAt .u32 W av H) => verify_any Q L S H u ru av A m W (by omega) hS hH (okI_sh hok) hOKE (K.below h).s (K.below h).g J hm ha)
  have HFA := hid (fun r W y (h : Below w.heap.size w W) (hr : r.1 ≤ 10) (he : ErrAt W A y r.1 r.2) => faulted3_any A y r W (K.below h).n he hr)
  have HKK := hid (fun W (h : Below w.heap.size w W) => K.below h)
  have HXX := hid (fun Q W u (J : Ixs W u Q L) (hg : (chkG Q L R).1 = 0) => shX_of J hok hg)
  obtain ⟨a0, c0, hv0, -⟩ := id I.es
  subst hv0
  obtain ⟨ra, rc, hrv, -⟩ := id hr
  subst hrv
  clear K I em hr hem hok hokR hOKE hn101 hR15
  go_enter Tryz.func3, Tryz.ntmps3
  go_wp2_with fail
  refine HIN.out.mono ?_
  rintro e w1 ⟨rfl, hb⟩
  have HB1 := hid hb
  clear hb HIN
  go_wp2_with fail
  refine (HLO.out w1 HB1.out).mono ?_
  rintro e w2 ⟨rfl, rfl⟩
  clear HLO
  go_wp2_with fail
  refine (HLM.out w2 HB1.out).mono ?_
  rintro e w3 ⟨rfl, rfl⟩
  clear HLM
  go_wp2_with fail
  refine (HOW.out _ HB1.out).mono ?_
  rintro e w4 ⟨ou, Q, rfl, hO, hb⟩
  have HB4 := hid (HB1.out.trans (hb.mono HB1.out.size))
  have HJ := hid hO.ixs
  obtain ⟨oa, oc, hou, -⟩ := id hO.ixs.es
  subst hou
  clear hb hO HOW HB1
  go_wp2_with fail
  refine (HOM.out w4 HB4.out).mono ?_
  rintro e w5 ⟨ru, rfl, hown, -, hb⟩
  have HB5 := hid (HB4.out.trans (hb.mono HB4.out.size))
  have H45 := hid hb
  have HP := hid (HBU.out Q _ ru w5 HB5.out (HJ.out.below H45.out) (own_ms hown))
  obtain ⟨ua, un, uc, hru⟩ := own_sl hown
  subst hru
  clear hb hown HBU HOM
  go_wp2_with fail
  refine HP.out.mono ?_
  rintro e w6 ⟨a6, c6, x6, rfl, hm, he⟩
  have HB6 := hid (HB5.out.trans (hm.1.mono HB5.out.size))
  have H46 := hid (H45.out.trans (hm.1.mono H45.out.size))
  have HS6 := hid hm.ms
  clear hm HP HB5 H45
  by_cases hg : (chkG Q L R).1 = 0
  · rw [rF_good hg] at he
    obtain rfl := errAt_nilS he
    have HX := hid (HXX.out Q w4 _ HJ.out hg)
    clear he hg HXX
    generalize bX Q L R = S at *
    generalize sumL Q L S = X at *
    have HSL := hid (show S.length ≤ 1000 by have h1 := HX.out.ln; have h2 := HX.out.le; omega)
    have HAL2 := hid (HAL.out Q S _ _ w6 HB6.out (HJ.out.below H46.out) HS6.out HSL.out)
    rw [HX.out.al, HX.out.g0] at HAL2
    have gl : ((X.length : Int) != (S.length : Int)) = false := by rw [HX.out.ln, bne_self_eq_false]
    have gx : ((X.length : Int) != (X.length : Int)) = false := by rw [bne_self_eq_false]
    clear HAL
    go_wp2_with fail
    refine HAL2.out.mono ?_
    rintro e w7 ⟨x, y, rfl, hox, he, hb⟩
    obtain rfl := errAt_nilS he
    have HB7 := hid (HB6.out.trans (hb.mono HB6.out.size))
    have H47 := hid (H46.out.trans (hb.mono H46.out.size))
    have H67 := hid hb
    have HX7 := hid (own_ln hox)
    obtain ⟨xa, xc, hxx⟩ := own_slN hox
    subst hxx
    have HV := hid (HVF.out Q S _ _ X _ w7 HB7.out (HJ.out.below H47.out) (HS6.out.below hb) HSL.out (by have := HX.out.le; omega) HX7.out)
    rw [HX.out.vf] at HV
    clear hb he hox HAL2
    go_wp2_with fail
    refine HV.out.mono ?_
    rintro e w8 ⟨y, rfl, he, hb⟩
    obtain rfl := errAt_nilS he
    have HB8 := hid (HB7.out.trans (hb.mono HB7.out.size))
    have H48 := hid (H47.out.trans (hb.mono H47.out.size))
    have H68 := hid (H67.out.trans (hb.mono H67.out.size))
    have HX8 := hid (HX7.out.below hb)
    have HTX := hid (stext_any X _ A m w8 (by have := HX.out.le; omega) HX.out.sh HX.out.nm (HKK.out _ HB8.out).s (HKK.out _ HB8.out).t HX8.out)
    rw [HX.out.tf, HX.out.tt] at HTX
    clear hb he HV HB7 H47 H67 HX7
    go_wp2_with fail
    refine HTX.out.mono ?_
    rintro e w9 ⟨y, rfl, he, hb⟩
    obtain rfl := errAt_nilS he
    have HB9 := hid (HB8.out.trans (hb.mono HB8.out.size))
    have H49 := hid (H48.out.trans (hb.mono H48.out.size))
    have H69 := hid (H68.out.trans (hb.mono H68.out.size))
    have HX9 := hid (HX8.out.below hb)
    have HRD := hid (sread_any (bt (X.flatMap lineT)) A m w9 HX.out.fl (HKK.out _ HB9.out).s (HKK.out _ HB9.out).r)
    rw [bt_list, HX.out.rf, HX.out.rx] at HRD
    clear hb he HTX HB8 H48 H68 HX8
    generalize bt (X.flatMap lineT) = TT at *
    go_wp2_with fail
    refine HRD.out.mono ?_
    rintro e w10 ⟨yv, y, rfl, hoy, he, hb⟩
    obtain rfl := errAt_nilS he
    have HB10 := hid (HB9.out.trans (hb.mono HB9.out.size))
    have H410 := hid (H49.out.trans (hb.mono H49.out.size))
    have H610 := hid (H69.out.trans (hb.mono H69.out.size))
    have HX10 := hid (HX9.out.below hb)
    have HOY := hid hoy
    have HG9 := hid (show w.heap.size ≤ w9.heap.size ∧ w4.heap.size ≤ w9.heap.size ∧ w6.heap.size ≤ w9.heap.size from ⟨HB9.out.size, H49.out.size, H69.out.size⟩)
    obtain ⟨ya, yc, hyy⟩ := own_slN hoy
    subst hyy
    clear hb he hoy HRD HB9 H49 H69 HX9
    go_wp2_with fail
    go_loopw [16] (fun iv wr => ∃ i : Nat, i ≤ X.length ∧ iv = .int .i64 i ∧ Hid (Below w10.heap.size w10 wr)) (fun iv _ => X.length - (intOf iv).toNat)
    case atStart => exact ⟨0, Nat.zero_le _, rfl, hid (Below.refl _ _)⟩
    case round =>
      obtain ⟨i, hi, rfl, HBr⟩ := hrel
      by_cases hlt : i < X.length
      · have hiI := ix_lt hlt
        have hii := ix_pos i
        obtain ⟨xb, xo, hxa, x0, x1, x2⟩ := HX10.out.cells hlt
        subst hxa
        obtain ⟨yb, yo, hya, y0, y1, y2⟩ := (own_ln HOY.out).cells hlt
        subst hya
        generalize X[i] = z at *
        obtain ⟨⟨p, q⟩, n⟩ := z
        dsimp only at x0 x1 x2 y0 y1 y2
        have hnq := fun W => lineNeq p q (n : Nat) W
        have HLT := hid hlt
        have HT := hid (fun W' (hW : Below wr.heap.size wr W') => (show (fun W' => W'.cell? ⟨xb, xo + i * 3, none⟩ = some (.string p) ∧ W'.cell? ⟨xb, xo + i * 3 + 1, none⟩ = some (.string q) ∧ W'.cell? ⟨xb, xo + i * 3 + 2, none⟩ = some (.int .u32 (n : Nat)) ∧ W'.cell? ⟨yb, yo + i * 3, none⟩ = some (.string p) ∧ W'.cell? ⟨yb, yo + i * 3 + 1, none⟩ = some (.string q) ∧ W'.cell? ⟨yb, yo + i * 3 + 2, none⟩ = some (.int .u32 (n : Nat))) W' from
          let B := HBr.out.trans (hW.mono HBr.out.size)
          ⟨cell_below B x0, cell_below B x1, cell_below B x2, cell_below B y0, cell_below B y1, cell_below B y2⟩))
        have HBn := hid (fun W' (hW : Below wr.heap.size wr W') => HBr.out.trans (hW.mono HBr.out.size))
        clear hlt x0 x1 x2 y0 y1 y2
        go_wp2_with fail
        go_region_held (fun W' => W'.cell? ⟨xb, xo + i * 3, none⟩ = some (.string p) ∧ W'.cell? ⟨xb, xo + i * 3 + 1, none⟩ = some (.string q) ∧ W'.cell? ⟨xb, xo + i * 3 + 2, none⟩ = some (.int .u32 (n : Nat)) ∧ W'.cell? ⟨yb, yo + i * 3, none⟩ = some (.string p) ∧ W'.cell? ⟨yb, yo + i * 3 + 1, none⟩ = some (.string q) ∧ W'.cell? ⟨yb, yo + i * 3 + 2, none⟩ = some (.int .u32 (n : Nat))) (first | exact HT.out _ (below_drawn _ 1)) (fail)
        all_goals
          have HBw := hid (HBn.out _ (below_drawn wr 1))
          go_wp2_with fail
          go_roundw
          case rel => first | exact ⟨i + 1, HLT.out, nx_idx HLT.out (by have := HX.out.le; omega), HBw⟩ | exact ⟨i + 1, HLT.out, nr_idx i, HBw⟩
          case measure => first | exact nx_meas HLT.out (by have := HX.out.le; omega) | exact nr_meas HLT.out
      · have hiI := ix_nlt hlt
        clear hlt hi
        have HBk := hid (HB10.out.trans (HBr.out.mono HB10.out.size))
        by_cases hkn : k < X.length
        · have hk1 : ¬ ((X.length : Int) ≤ (k : Int)) := by omega
          have hk0 := ix_pos k
          have hkI := ix_lt hkn
          have H4k := hid (H410.out.trans (HBr.out.mono H410.out.size))
          have H6k := hid (H610.out.trans (HBr.out.mono H610.out.size))
          have HXk := hid (HX10.out.below HBr.out)
          have HLE := hid (show X.length ≤ 101 from HX.out.le)
          obtain ⟨_, ⟨_, h0⟩ | ⟨g, ycap, ycur, e1, e2, e3, _, _, _, _⟩⟩ := HOY.out
          · exact absurd h0 (by omega)
          obtain ⟨yo, hyo⟩ : ∃ yo : Nat, yo = 0 := ⟨_, rfl⟩
          rw [← hyo] at e1
          injection e1 with e1 e11 e12
          subst e1
          have HYk := hid ((own_ln HOY.out).below HBr.out)
          have HEk := hid ((HBr.out.block _ (lt_of_blk e3)).trans e3)
          have HGG := hid (show w9.heap.size ≤ g from e2)
          clear e11 e12 e2 e3 hyo HOY HX10 H410 H610 HB10
          have hxc : X.length ≤ xc := ln_cap HXk.out
          obtain ⟨xb, xo, hxa, -⟩ := HXk.out.cells hkn
          subst hxa
          obtain ⟨v1, W1, hrun1, HA2⟩ := sh_cut HXk.out hkn HLE.out
          have HR1 := hid hrun1
          obtain ⟨hk2, w1', k1', n1', p1', l1', l2', hcd⟩ := sh_ix hkn HLE.out hxc
          have HDR := hid (fun h => sh_drop (X := X) (k := k) (hcd h))
          have HLS := hid (HX.out.ls k hkn)
          have HLL := hid (sh_len (X := X) (k := k) HLE.out)
          have HKN := hid hkn
          clear hrun1 hxc hcd
          generalize X.take k ++ X.drop (k + 1) = LC at *
          go_upto_region 26 with (at_builtin; refine Lib.wpList_append_run _ rfl _ _ _ _ rfl _ _ rfl rfl _ _ HR1.out ?_)
          go_cut [17] (fun lv wx => ∃ da dc, lv = .slice da LC.length dc ∧ Hid (LnAt .u32 wx (.slice da LC.length dc) LC ∧ Below wr.heap.size wr wx))
          case first =>
            by_cases hcap : (k : Int) + 1 < (xc : Int)
            · obtain ⟨da, dc, w13, hrun, HL13⟩ := HA2.out (xo + (k + 1) * 3) (xc - (k + 1)) (Or.inl rfl)
              have HRUN := hid hrun
              clear hrun
              go_wp2_with (at_builtin; refine Lib.wpList_append_run _ rfl _ _ _ _ rfl _ _ rfl rfl _ _ HRUN.out ?_)
              go_meet
              case rel => exact ⟨_, _, rfl, HL13⟩
            · obtain ⟨da, dc, w13, hrun, HL13⟩ := HA2.out xo (xc - (k + 1)) (Or.inr (HDR.out hcap))
              have HRUN := hid hrun
              clear hrun
              go_wp2_with (at_builtin; refine Lib.wpList_append_run _ rfl _ _ _ _ rfl _ _ rfl rfl _ _ HRUN.out ?_)
              go_meet
              case rel => exact ⟨_, _, rfl, HL13⟩
          case rest =>
            obtain ⟨da, dc, rfl, HL⟩ := hcut
            have HBc := hid (HBk.out.trans (HL.out.2.mono HBk.out.size))
            have H4c := hid (H4k.out.trans (HL.out.2.mono H4k.out.size))
            have H6c := hid (H6k.out.trans (HL.out.2.mono H6k.out.size))
            have HEc := hid ((HL.out.2.block _ (lt_of_blk HEk.out)).trans HEk.out)
            have HYc := hid (HYk.out.below HL.out.2)
            have HV2 := hid (HVF.out Q S _ _ LC _ wc HBc.out (HJ.out.below H4c.out) (HS6.out.below H6c.out) HSL.out HLL.out HL.out.1)
            rw [HLS.out] at HV2
            clear HL HBk H4k H6k HEk HYk HR1 HA2 HLS HLL HDR w1' k1' n1' p1' l1' l2' hk2 HXk HBr
            go_wp2_with fail
            refine HV2.out.mono ?_
            rintro e w14 ⟨y2, rfl, he, hb⟩
            have HB14 := hid (HBc.out.trans (hb.mono HBc.out.size))
            have H414 := hid (H4c.out.trans (hb.mono H4c.out.size))
            have H614 := hid (H6c.out.trans (hb.mono H6c.out.size))
            have HE14 := hid ((hb.block _ (lt_of_blk HEc.out)).trans HEc.out)
            have HY14 := hid (HYc.out.below hb)
            have HF5 := hid (show Calls Tryz.prog 15 #[y2, .agg #[.int .i64 5, .int .i64 (k : Int)]] w14 _ from HFA.out (5, some k) w14 y2 HB14.out (show (5 : Nat) ≤ 10 by decide) he)
            clear hb he HV2 HBc H4c H6c HEc HYc
            go_wp2_with fail
            refine HF5.out.mono ?_
            rintro e w15 ⟨rfl, hb⟩
            have HB15 := hid (HB14.out.trans (hb.mono HB14.out.size))
            have H415 := hid (H414.out.trans (hb.mono H414.out.size))
            have H615 := hid (H614.out.trans (hb.mono H614.out.size))
            have HE15 := hid ((hb.block _ (lt_of_blk HE14.out)).trans HE14.out)
            have HY15 := hid (HY14.out.below hb)
            clear hb HF5 HB14 H414 H614 HE14 HY14
            obtain ⟨b', o', e, y0, y1, y2'⟩ := HY15.out.cells HKN.out
            injection e with e
            injection e with e4 e5
            subst e4 e5
            have HPUT := hid (HY15.out.put HKN.out c)
            by_cases hcn : c = X[k].2
            · have hq : (((X[k].2 : Nat) : Int) == (c : Int)) = true := by rw [hcn, beq_self_eq_true]
              generalize ((X[k].2 : Nat) : Int) = nn at *
              go_wp2_with fail
              go_ret
              exact ⟨rfl, HB15.out⟩
            · have hq : (((X[k].2 : Nat) : Int) == (c : Int)) = false := by rw [beq_eq_false_iff_ne]; omega
              have HOT := hid (HX.out.ot k HKN.out c hcn)
              have hfr := fun o => Lib.frozen_of_heap HE15.out o
              have HB16 := hid (HB15.out.setCell (p := ⟨g, yo + k * 3 + 2, none⟩) (Nat.le_trans HG9.out.1 HGG.out) (.int .u32 (c : Nat)))
              have H416 := hid (H415.out.setCell (p := ⟨g, yo + k * 3 + 2, none⟩) (Nat.le_trans HG9.out.2.1 HGG.out) (.int .u32 (c : Nat)))
              have H616 := hid (H615.out.setCell (p := ⟨g, yo + k * 3 + 2, none⟩) (Nat.le_trans HG9.out.2.2 HGG.out) (.int .u32 (c : Nat)))
              have HLZ := hid (show (X.set k (X[k].1, c)).length ≤ 1000000 by rw [List.length_set]; have := HLE.out; omega)
              generalize X.set k (X[k].1, c) = XS at *
              generalize ((X[k].2 : Nat) : Int) = nn at *
              clear HY15 hcn
              go_wp2_with fail
              generalize w15.setCell ⟨g, yo + k * 3 + 2, none⟩ (.int .u32 (c : Nat)) = w16 at *
              have HV3 := hid (HVF.out Q S _ _ XS _ w16 HB16.out (HJ.out.below H416.out) (HS6.out.below H616.out) HSL.out HLZ.out HPUT.out)
              rw [HOT.out] at HV3
              refine HV3.out.mono ?_
              rintro e w17 ⟨y3, rfl, he, hb⟩
              have HB17 := hid (HB16.out.trans (hb.mono HB16.out.size))
              have HF6 := hid (show Calls Tryz.prog 15 #[y3, .agg #[.int .i64 10, .int .i64 (k : Int)]] w17 _ from HFA.out (10, some k) w17 y3 HB17.out (show (10 : Nat) ≤ 10 by decide) he)
              clear hb he HV3 HB16 H416 H616 HPUT y0 y1 y2' hfr
              go_wp2_with fail
              refine HF6.out.mono ?_
              rintro e w18 ⟨rfl, hb⟩
              have HB18 := hid (HB17.out.trans (hb.mono HB17.out.size))
              clear hb
              go_wp2_with fail
              go_ret
              exact ⟨rfl, HB18.out⟩
        · have hk1 : (X.length : Int) ≤ (k : Int) := by omega
          go_wp2_with fail
          go_ret
          exact ⟨rfl, HBk.out⟩
  · rw [rF_bad hg] at he
    obtain ⟨T, a, hx⟩ := errAt_ifaceS he hg
    subst hx
    clear he hg
    go_wp2_with fail
    go_ret
    exact ⟨rfl, HB6.out⟩
end Ve
end Go.Proofs.YtpafkniapacfdaaGreatDoor


namespace Go.Proofs.YtpafkniapacfdaaGreatDoor
open Go.RowKit
namespace Ve
set_option maxRecDepth 100000 in
set_option maxHeartbeats 2000000 in
theorem sh_long (Q0 : List Raw) (L : List Ent) (R : List Bm) (n z : Int) (v rv : Value) (A : Nat → Addr) (m : Int) (w : World) (K : TsK w A m) (I : Ixs w v Q0 L) (hr : MsAt w rv R)
    (h : okI L = false ∨ (okI L = true ∧ (okLN 15 R = false ∨ (okLN 15 R = true ∧ n < 0)))) :
    Calls Tryz.prog 3 #[v, rv, .int .i64 n, .int .u32 z] w fun e w' => e = .returned (.bool true) ∧ Below w.heap.size w w' := by
  have HIN := hid (summed_any A m w K.s K.g)
  have HLO := hid (fun W (h : Below w.heap.size w W) => longIQ_any Q0 L v W (I.below h))
  have HLM := hid (fun W (h : Below w.heap.size w W) => longN_any 15 (by decide) R rv W (hr.below h))
  obtain ⟨a0, c0, hv0, -⟩ := id I.es
  subst hv0
  obtain ⟨ra, rc, hrv, -⟩ := id hr
  subst hrv
  rcases h with h | ⟨h, h1 | ⟨h1, h2⟩⟩
  · rw [h] at HLO
    clear K I hr h
    go_enter Tryz.func3, Tryz.ntmps3
    go_wp2_with fail
    refine HIN.out.mono ?_
    rintro e w1 ⟨rfl, hb⟩
    have HB1 := hid hb
    clear hb
    go_wp2_with fail
    refine (HLO.out w1 HB1.out).mono ?_
    rintro e w2 ⟨rfl, rfl⟩
    go_wp2_with fail
    go_ret
    exact ⟨rfl, HB1.out⟩
  · rw [if_pos h] at HLO
    rw [h1] at HLM
    clear K I hr h h1
    go_enter Tryz.func3, Tryz.ntmps3
    go_wp2_with fail
    refine HIN.out.mono ?_
    rintro e w1 ⟨rfl, hb⟩
    have HB1 := hid hb
    clear hb
    go_wp2_with fail
    refine (HLO.out w1 HB1.out).mono ?_
    rintro e w2 ⟨rfl, rfl⟩
    go_wp2_with fail
    refine (HLM.out w2 HB1.out).mono ?_
    rintro e w3 ⟨rfl, rfl⟩
    go_wp2_with fail
    go_ret
    exact ⟨rfl, HB1.out⟩
  · rw [if_pos h] at HLO
    rw [if_pos h1] at HLM
    clear K I hr h h1
    go_enter Tryz.func3, Tryz.ntmps3
    go_wp2_with fail
    refine HIN.out.mono ?_
    rintro e w1 ⟨rfl, hb⟩
    have HB1 := hid hb
    clear hb
    go_wp2_with fail
    refine (HLO.out w1 HB1.out).mono ?_
    rintro e w2 ⟨rfl, rfl⟩
    go_wp2_with fail
    refine (HLM.out w2 HB1.out).mono ?_
    rintro e w3 ⟨rfl, rfl⟩
    go_wp2_with fail
    go_ret
    exact ⟨rfl, HB1.out⟩
theorem sumsHold_any (Q0 : List Raw) (L : List Ent) (R : List Bm) (n z : Int) (v rv : Value) (A : Nat → Addr) (m : Int) (w : World) (K : TsK w A m) (I : Ixs w v Q0 L) (em : EmI Q0 L) (hr : MsAt w rv R) (hem : Em rv R) (hz : 0 ≤ z) :
    Calls Tryz.prog 3 #[v, rv, .int .i64 n, .int .u32 z] w fun e w' => e = .returned (.bool true) ∧ Below w.heap.size w w' := by
  cases hok : okI L with
  | false => exact sh_long Q0 L R n z v rv A m w K I hr (Or.inl hok)
  | true =>
    cases hokR : okLN 15 R with
    | false => exact sh_long Q0 L R n z v rv A m w K I hr (Or.inr ⟨hok, Or.inl hokR⟩)
    | true =>
      by_cases h1 : n < 0
      · exact sh_long Q0 L R n z v rv A m w K I hr (Or.inr ⟨hok, Or.inr ⟨hokR, h1⟩⟩)
      · obtain ⟨k, rfl⟩ : ∃ k : Nat, n = (k : Int) := ⟨n.toNat, by omega⟩
        obtain ⟨c, rfl⟩ : ∃ c : Nat, z = (c : Int) := ⟨z.toNat, by omega⟩
        exact sh_main Q0 L R k c v rv A m w K I em hr hem hok hokR
end Ve
end Go.Proofs.YtpafkniapacfdaaGreatDoor
