
import Derived.Test.YtpafkniapacfdaaGreatDoorSs42
import Derived.Test.YtpafkniapacfdaaGreatDoorSs41
import Derived.Test.YtpafkniapacfdaaGreatDoorSs43
import Derived.Deep.RegionHeld
namespace Go.Proofs.YtpafkniapacfdaaGreatDoor
open Go.RowKit
namespace Ve
theorem rss_any (Q : List Raw) (L : List Ent) (R : List Bm) (v rv : Value) (w : World) (hn : L.length ≤ 1000) (sh : ∀ e, e ∈ L → ShE e) (ok : ∀ e, e ∈ L → OkE e) (I : Ixs w v Q L) (hR : R.length ≤ 1000) (hr : MsAt w rv R) :
    Calls Tryz.prog 18 #[v, rv] w fun e w' => ∃ u, e = .returned (.tuple #[u, faultV (chkG Q L R)]) ∧ LnAt .i64 w' u (allX Q L R) ∧ Below w.heap.size w w' := by
  by_cases h0 : (chk Q L).1 = 0
  · have hc := chkS_fine h0
    have hg : chkG Q L R = slF Q R := chkG_ok h0
    by_cases h1 : (slF Q R).1 = 0
    · have hs : slF Q R = (0, none) := Prod.ext h1 (codeG_fine h1)
      have hx : allX Q L R = sumL Q L R := by unfold allX; rw [if_pos (by rw [hg]; exact h1)]
      rw [hx, hg, hs]
      exact rss_good Q L R v rv w hn sh ok I hR hr hc hs
    · have hx : allX Q L R = [] := by unfold allX; rw [if_neg (by rw [hg]; exact h1)]
      rw [hx, hg]
      exact (rss_sel Q L R v rv w hn sh I (by omega) hr hc h1).mono fun e w' ⟨e1, e2⟩ => ⟨_, e1, LnAt.nil _ _ _, e2⟩
  · have hg : chkG Q L R = chk Q L := chkG_bad h0
    have hx : allX Q L R = [] := by unfold allX; rw [if_neg (by rw [hg]; exact h0)]
    rw [hx, hg]
    obtain ⟨ra, rc, hrv, -⟩ := id hr
    exact (rss_chk Q L v rv ra _ rc hrv w hn sh I h0).mono fun e w' ⟨e1, e2⟩ => ⟨_, e1, LnAt.nil _ _ _, e2⟩
def Fst (H : List Ln) (m : Bm) (c : Nat) (a : Int) : Prop :=
  (a = -1 ∧ ∀ j (h : j < H.length), c ≤ j → H[j].1 ≠ m) ∨ ∃ t, ∃ h : t < H.length, c ≤ t ∧ a = (t : Int) ∧ H[t].1 = m ∧ ∀ j (hj : j < H.length), c ≤ j → j < t → H[j].1 ≠ m
theorem Fst.start (H : List Ln) (m : Bm) : Fst H m H.length (-1) := Or.inl ⟨rfl, fun j h h2 => absurd h (by omega)⟩
theorem Fst.hit {H : List Ln} {m : Bm} {c : Nat} (hc : c < H.length) (h : H[c].1 = m) : Fst H m c (c : Int) := Or.inr ⟨c, hc, Nat.le_refl _, rfl, h, fun j _ h1 h2 => absurd h1 (by omega)⟩
theorem Fst.miss {H : List Ln} {m : Bm} {c : Nat} {a : Int} (hc : c < H.length) (h : H[c].1 ≠ m) (h1 : Fst H m (c + 1) a) : Fst H m c a := by
  have st : ∀ j (hj : j < H.length), c ≤ j → (c + 1 ≤ j → H[j].1 ≠ m) → H[j].1 ≠ m := fun j hj h2 h3 => by
    rcases Nat.lt_or_ge c j with h4 | h4
    · exact h3 h4
    · have : j = c := by omega
      subst this; exact h
  rcases h1 with ⟨e, h2⟩ | ⟨t, ht, h2, e, h3, h4⟩
  · exact Or.inl ⟨e, fun j hj hcj => st j hj hcj (h2 j hj)⟩
  · exact Or.inr ⟨t, ht, by omega, e, h3, fun j hj hcj hjt => st j hj hcj fun h5 => h4 j hj h5 hjt⟩
theorem Fst.none {H : List Ln} {x : Ln} (h : Fst H x.1 0 (-1)) : vfW H x = 5 := by
  rcases h with ⟨_, h⟩ | ⟨t, _, _, e, _⟩
  · unfold vfW
    rw [List.find?_eq_none.2 fun y hy => by
      obtain ⟨j, hj, rfl⟩ := List.getElem_of_mem hy
      simpa using h j hj (Nat.zero_le _)]
  · omega
theorem Fst.some {H : List Ln} {x : Ln} {a : Int} (h : Fst H x.1 0 a) (ha : 0 ≤ a) : ∃ t, ∃ ht : t < H.length, a = (t : Int) ∧ vfW H x = if H[t].2 = x.2 then 0 else 10 := by
  rcases h with ⟨e, _⟩ | ⟨t, ht, _, e, h1, h2⟩
  · omega
  · refine ⟨t, ht, e, ?_⟩
    unfold vfW
    rw [List.find?_eq_some_iff_getElem.2 ⟨by simpa using h1, t, ht, rfl, fun i hi => by simpa using h2 i (by omega) (Nat.zero_le _) hi⟩]
theorem vfF_all {Q : List Raw} {L : List Ent} {sel : List Bm} {H : List Ln} (h : (chkG Q L sel).1 = 0) (h2 : ∀ j, j < (sumL Q L sel).length → vfE H (sumL Q L sel) j = 0) : vfF Q L sel H = (0, .none) := by
  unfold vfF
  rw [if_neg (by simp [h]), ← sumL_len Q L sel, codeE_none (fstE_none h2), fstE_none h2]
theorem vfF_at {Q : List Raw} {L : List Ent} {sel : List Bm} {H : List Ln} (h : (chkG Q L sel).1 = 0) {k : Nat} (h0 : ∀ j, j < k → vfE H (sumL Q L sel) j = 0) (hk : k < (sumL Q L sel).length) (h2 : vfE H (sumL Q L sel) k ≠ 0) : vfF Q L sel H = (vfE H (sumL Q L sel) k, Option.some k) := by
  have hf := fstE_some h0 h2 hk
  unfold vfF
  rw [if_neg (by simp [h]), ← sumL_len Q L sel, codeE_some hf, hf]
set_option maxRecDepth 100000 in
set_option maxHeartbeats 4000000 in
theorem rvo_any (Q : List Raw) (L : List Ent) (R : List Bm) (H : List Ln) (v rv hv : Value) (w : World) (hn : L.length ≤ 1000) (sh : ∀ e, e ∈ L → ShE e) (ok : ∀ e, e ∈ L → OkE e) (I : Ixs w v Q L) (hR : R.length ≤ 1000) (hr : MsAt w rv R) (hH : H.length ≤ 1000) (hh : LnAt .i64 w hv H) :
    Calls Tryz.prog 23 #[v, rv, hv] w fun e w' => e = .returned (faultV (vfF Q L R H)) ∧ Below w.heap.size w w' := by
  have HB0 := hid (Rp.start w)
  have HSO := hid (fun W (h : Below w.heap.size w W) => rss_any Q L R v rv W hn sh ok (I.below h) hR (hr.below h))
  have HHB := hid (fun W (h : Below w.heap.size w W) => hh.below h)
  have HFN := hid (fun W => fine_any W)
  obtain ⟨va, vc, rfl, -⟩ := id I.es
  obtain ⟨ra, rc, rfl, -⟩ := id hr
  obtain ⟨ha, hc, rfl, -⟩ := id hh
  have HVA := hid (fun h2 h3 => vfF_all (Q := Q) (L := L) (sel := R) (H := H) h2 h3)
  have HVT := hid (fun k h1 h2 h3 h4 => vfF_at (Q := Q) (L := L) (sel := R) (H := H) h1 (k := k) h2 h3 h4)
  have HSL := hid (show (sumL Q L R).length ≤ 1000 by rw [sumL_len]; exact hR)
  by_cases h0 : (chkG Q L R).1 = 0
  · have hx : allX Q L R = sumL Q L R := by unfold allX; rw [if_pos h0]
    have hg : chkG Q L R = (0, none) := Prod.ext h0 (chkG_fine h0)
    rw [hx, hg] at HSO
    have HVA := hid (HVA.out h0)
    have HVT := hid (fun k => HVT.out k h0)
    clear I hr hh sh ok hx h0 hg
    generalize sumL Q L R = X at *
    generalize vfF Q L R H = r at *
    unfold faultV at HSO
    simp only at HSO
    rw [show atOf none = -1 from rfl] at HSO
    go_enter Tryz.func23, Tryz.ntmps23
    go_wp2_with fail
    refine (HSO.out _ HB0.out.bl).mono ?_
    rintro e w1 ⟨x, rfl, hx, hb⟩
    have HP1 := hid (Fb.start (c := 0) (a := -1) (by simpa using hb))
    have HX2 := hid (hx.below ((Below.refl w1.heap.size w1).alloc (Nat.le_refl _) (.cells #[.int .i64 0, .int .i64 (-1)] 47)))
    obtain ⟨xa, xc, rfl, -⟩ := hx
    clear hb
    obtain ⟨-, f0, f1, ff⟩ := HP1.out.cells
    go_wp2_with fail
    generalize w1.alloc (.cells #[.int .i64 0, .int .i64 (-1)] 47) = w2 at *
    go_wp2_with fail
    have HR2 := hid (show Rp w w2 from ⟨HP1.out.bl, HP1.out.e⟩)
    clear f0 f1 ff HP1
    go_loopw [9] (fun iv wr => ∃ i : Nat, i ≤ X.length ∧ iv = .int .i64 i ∧ Hid (Rp w wr) ∧ Hid (LnAt .i64 wr (.slice xa X.length xc) X) ∧ Hid (∀ j, j < i → vfE H X j = 0)) (fun iv _ => X.length - (intOf iv).toNat)
    case atStart => exact ⟨0, Nat.zero_le _, rfl, HR2, HX2, hid (fun j hj => absurd hj (Nat.not_lt_zero _))⟩
    case round =>
      obtain ⟨i, hi, rfl, HRP, HXA, HZ⟩ := hrel
      by_cases hlt : i < X.length
      · obtain ⟨xb, xo, hxa, y0, y1, y2⟩ := HXA.out.cells hlt
        subst hxa
        have hkI := ix_lt hlt
        have hk0 := ix_pos i
        have hve : vfE H X i = vfW H X[i] := by unfold vfE; rw [List.getElem?_eq_getElem hlt]
        have HBAD := hid (fun h => HVT.out i HZ.out hlt h)
        rw [hve] at HBAD
        have HZN := hid (fun h => zero_nextS (E := vfE H X) (k := i) HZ.out (hve.trans h))
        have HLI := hid hlt
        clear hve HZ
        generalize X[i] = x at *
        clear hlt
        obtain ⟨⟨p, v⟩, n⟩ := x
        dsimp only at y0 y1 y2
        have HRP0 := hid HRP.out
        have HY := hid (⟨y0, y1, y2⟩ : wr.cell? ⟨xb, xo + i * 3, none⟩ = some (.string p) ∧ wr.cell? ⟨xb, xo + i * 3 + 1, none⟩ = some (.string v) ∧ wr.cell? ⟨xb, xo + i * 3 + 2, none⟩ = some (.int .i64 (n : Nat)))
        obtain ⟨wo, hwo⟩ : ∃ wo, wo = wr := ⟨_, rfl⟩
        subst hwo
        have hhn : (-1 : Int) < (H.length : Int) := by omega
        have hhw : IntKind.i64.wrap ((H.length : Int) - 1) = (H.length : Int) - 1 := by rw [IntKind.wrap_i64]; omega
        clear y0 y1 y2
        go_wp2_with fail
        go_loopw [10, 11] (fun av kv wr => ∃ (c : Nat) (a : Int), c ≤ H.length ∧ kv = .int .i64 ((c : Int) - 1) ∧ av = .int .i64 a ∧ Hid (Fst H (p, v) c a) ∧ Hid (Below wo.heap.size wo wr)) (fun _ kv _ => (intOf kv + 1).toNat)
        case atStart => exact ⟨H.length, -1, Nat.le_refl _, by first | rfl | (congr 1), rfl, hid (Fst.start H (p, v)), hid (Below.refl _ _)⟩
        case round =>
          obtain ⟨c, a, hcl, rfl, rfl, HFS, HBw⟩ := hrel
          cases c with
          | succ d =>
            have hdl : d < H.length := by omega
            obtain ⟨hb, ho, hha, q0, q1, -⟩ := (HHB.out _ (HRP0.out.bl.trans (HBw.out.mono HRP0.out.bl.size))).cells hdl
            subst hha
            obtain ⟨y0, y1, -⟩ := HY.out
            have z0 := cell_below HBw.out y0
            have z1 := cell_below HBw.out y1
            have gi : ((d + 1 : Nat) : Int) - 1 = (d : Int) := by omega
            have g0 := ix_pos d
            have g1 := ix_lt hdl
            have gw : IntKind.i64.wrap ((d : Int) - 1) = (d : Int) - 1 := by rw [IntKind.wrap_i64]; omega
            have HHIT := hid (fun h => Fst.hit (m := (p, v)) hdl h)
            have HMIS := hid (fun h => Fst.miss (m := (p, v)) hdl h HFS.out)
            generalize H[d] = y at *
            clear hdl
            obtain ⟨⟨q, u⟩, n'⟩ := y
            dsimp only at q0 q1
            rw [gi]
            clear y0 y1
            have heq := fun W => modEql q u p v W
            have hgd := modGuard
            have HT := hid (fun W' (hW : Below wr.heap.size wr W') => (show (fun W' => W'.cell? ⟨hb, ho + d * 3, none⟩ = some (.string q) ∧ W'.cell? ⟨hb, ho + d * 3 + 1, none⟩ = some (.string u) ∧ W'.cell? ⟨xb, xo + i * 3, none⟩ = some (.string p) ∧ W'.cell? ⟨xb, xo + i * 3 + 1, none⟩ = some (.string v)) W' from ⟨cell_below hW q0, cell_below hW q1, cell_below hW z0, cell_below hW z1⟩))
            clear q0 q1 z0 z1
            by_cases hpq : q = p ∧ u = v
            · rw [decide_eq_true hpq] at heq
              have HFN2 := hid (HHIT.out (by obtain ⟨h1, h2⟩ := hpq; rw [h1, h2]))
              clear hpq
              go_wp2_with fail
              go_region_held (fun W' => W'.cell? ⟨hb, ho + d * 3, none⟩ = some (.string q) ∧ W'.cell? ⟨hb, ho + d * 3 + 1, none⟩ = some (.string u) ∧ W'.cell? ⟨xb, xo + i * 3, none⟩ = some (.string p) ∧ W'.cell? ⟨xb, xo + i * 3 + 1, none⟩ = some (.string v)) (first | exact HT.out _ HRa.out | exact HT.out _ (below_drawn _ 1)) (fail)
              all_goals
                have HBN := hid (HBw.out.trans ((below_drawn wr 1).mono HBw.out.size))
                go_wp2_with fail
                go_roundw
                case rel => first | exact ⟨d, _, by omega, rfl, rfl, HFN2, HBN⟩ | exact ⟨d, _, by omega, by first | rfl | (simp only [go_sem]; congr 1) | congr 1, rfl, HFN2, HBN⟩
                case measure => first | (simp [intOf]; done) | (simp [intOf]; omega)
            · rw [decide_eq_false hpq] at heq
              have HFN2 := hid (HMIS.out (fun e => hpq ⟨congrArg (·.1) e, congrArg (·.2) e⟩))
              clear hpq
              go_wp2_with fail
              go_region_held (fun W' => W'.cell? ⟨hb, ho + d * 3, none⟩ = some (.string q) ∧ W'.cell? ⟨hb, ho + d * 3 + 1, none⟩ = some (.string u) ∧ W'.cell? ⟨xb, xo + i * 3, none⟩ = some (.string p) ∧ W'.cell? ⟨xb, xo + i * 3 + 1, none⟩ = some (.string v)) (first | exact HT.out _ HRa.out | exact HT.out _ (below_drawn _ 1)) (fail)
              all_goals
                have HBN := hid (HBw.out.trans ((below_drawn wr 1).mono HBw.out.size))
                go_wp2_with fail
                go_roundw
                case rel => first | exact ⟨d, _, by omega, rfl, rfl, HFN2, HBN⟩ | exact ⟨d, _, by omega, by first | rfl | (simp only [go_sem]; congr 1) | congr 1, rfl, HFN2, HBN⟩
                case measure => first | (simp [intOf]; done) | (simp [intOf]; omega)
          | zero =>
            have gi : ((0 : Nat) : Int) - 1 = -1 := rfl
            rw [gi]
            have HR5 := hid (HRP0.out.below HBw.out)
            have HX5 := hid (HXA.out.below HBw.out)
            by_cases ha0 : a < 0
            · have ha1 : a = -1 := by
                rcases HFS.out with ⟨h, _⟩ | ⟨t, _, _, h, _⟩
                · exact h
                · omega
              subst ha1
              have h5 := Fst.none (x := ((p, v), n)) HFS.out
              have HF := hid (HBAD.out (by rw [h5]; decide))
              rw [h5] at HF
              clear h5
              obtain ⟨s0, s1, sf⟩ := HR5.out.cells
              go_wp2_with fail
              refine bodyPost_ret (v := .agg #[.int .i64 5, .int .i64 (i : Int)]) (by simp [results, Tryz.results23, go_sem, s0, s1]) rfl ⟨?_, put2S_below HR5.out.bl (Nat.le_refl _)⟩
              rw [HF.out]; rfl
            · obtain ⟨t, ht, rfl, hvf⟩ := Fst.some (x := ((p, v), n)) HFS.out (by omega)
              obtain ⟨hb, ho, hha, -, -, q2⟩ := (HHB.out _ HR5.out.bl).cells ht
              subst hha
              have z2 := cell_below HBw.out HY.out.2.2
              have hne := u32_ne H[t].2 n
              have g0 := ix_pos t
              have g1 := ix_lt ht
              clear HFS
              generalize H[t].2 = m at *
              clear ht
              have HT := hid (fun W' (hW : Below wr.heap.size wr W') => (show (fun W' => W'.cell? ⟨hb, ho + t * 3 + 2, none⟩ = some (.int .i64 (m : Nat)) ∧ W'.cell? ⟨xb, xo + i * 3 + 2, none⟩ = some (.int .i64 (n : Nat))) W' from ⟨cell_below hW q2, cell_below hW z2⟩))
              clear q2 z2
              by_cases hmn : m = n
              · rw [decide_eq_true hmn] at hne
                dsimp only at hvf
                rw [if_pos hmn] at hvf
                have HZ2 := hid (HZN.out hvf)
                clear hmn hvf
                go_wp2_with fail
                go_region_held (fun W' => W'.cell? ⟨hb, ho + t * 3 + 2, none⟩ = some (.int .i64 (m : Nat)) ∧ W'.cell? ⟨xb, xo + i * 3 + 2, none⟩ = some (.int .i64 (n : Nat))) (first | exact HT.out _ HRa.out | exact HT.out _ (below_drawn _ 1)) (fail)
                all_goals
                  have HRN := hid (HR5.out.below (below_drawn wr 1))
                  have HXN := hid (HX5.out.below (below_drawn wr 1))
                  go_wp2_with fail
                  go_roundw
                  case rel => have := HSL.out; first | exact ⟨i + 1, HLI.out, nx_idx HLI.out (by omega), HRN, HXN, HZ2⟩ | exact ⟨i + 1, HLI.out, nr_idx i, HRN, HXN, HZ2⟩
                  case measure => have := HSL.out; first | exact nx_meas HLI.out (by omega) | exact nr_meas HLI.out
              · rw [decide_eq_false hmn] at hne
                dsimp only at hvf
                rw [if_neg hmn] at hvf
                have HF := hid (HBAD.out (by rw [hvf]; decide))
                rw [hvf] at HF
                clear hmn hvf
                go_wp2_with fail
                go_region_held (fun W' => W'.cell? ⟨hb, ho + t * 3 + 2, none⟩ = some (.int .i64 (m : Nat)) ∧ W'.cell? ⟨xb, xo + i * 3 + 2, none⟩ = some (.int .i64 (n : Nat))) (first | exact HT.out _ HRa.out | exact HT.out _ (below_drawn _ 1)) (fail)
                all_goals
                  have HRN := hid (show Rp w wr.drew from HR5.out.below (below_drawn wr 1))
                  obtain ⟨s0, s1, sf⟩ := HR5.out.cells
                  go_wp2_with fail
                  refine bodyPost_ret (v := .agg #[.int .i64 10, .int .i64 (i : Int)]) (by simp [results, Tryz.results23, go_sem, s0, s1]) rfl ⟨?_, put2S_below HRN.out.bl (Nat.le_refl _)⟩
                  rw [HF.out]; rfl
      · have hkI := ix_nlt hlt
        have HF := hid (HVA.out (by rw [show X.length = i by omega]; exact HZ.out))
        clear hlt
        go_wp2_with fail
        refine (HFN.out _).mono ?_
        rintro e w5 ⟨rfl, hb⟩
        have HR5 := hid (HRP.out.below hb)
        clear hb
        obtain ⟨s0, s1, sf⟩ := HR5.out.cells
        go_wp2_with fail
        refine bodyPost_ret (v := .agg #[.int .i64 0, .int .i64 (-1)]) (by simp [results, Tryz.results23, go_sem, s0, s1]) rfl ⟨?_, put2S_below HR5.out.bl (Nat.le_refl _)⟩
        rw [HF.out]; rfl
  · have hx : vfF Q L R H = chkG Q L R := by unfold vfF; rw [if_pos h0]
    rw [hx]
    obtain ⟨cc, oo, hco⟩ : ∃ cc oo, chkG Q L R = (cc, oo) := ⟨_, _, rfl⟩
    rw [hco] at HSO h0 ⊢
    unfold faultV at HSO ⊢
    simp only at HSO h0 ⊢
    generalize atOf oo = ao at *
    have hpos : (0 : Int) < (cc : Int) := by omega
    clear I hr hh sh ok hx h0 hco HVA HVT
    go_enter Tryz.func23, Tryz.ntmps23
    go_wp2_with fail
    refine (HSO.out _ HB0.out.bl).mono ?_
    rintro e w1 ⟨x, rfl, hx, hb⟩
    obtain ⟨xa, xc, rfl, -⟩ := hx
    have HP1 := hid (Fb.start (c := (cc : Int)) (a := ao) (by simpa using hb))
    clear hb
    obtain ⟨⟨s0, s1, sf⟩, f0, f1, ff⟩ := HP1.out.cells
    have hge := HP1.out.ge
    have n1 : ¬ w1.heap.size = w.heap.size := by omega
    have n2 : ¬ w.heap.size = w1.heap.size := by omega
    go_wp2_with fail
    generalize w1.alloc (.cells #[.int .i64 (cc : Int), .int .i64 ao] 47) = w2 at *
    go_wp2_with fail
    refine bodyPost_ret (v := .agg #[.int .i64 (cc : Int), .int .i64 ao]) (by simp [results, Tryz.results23, go_sem, s0, s1]) rfl ⟨rfl, put2S_below HP1.out.bl (Nat.le_refl _)⟩
end Ve
end Go.Proofs.YtpafkniapacfdaaGreatDoor
