/-
  PkJ PkK PkL
-/
import Derived.Test.YtnkgjddkdikikaaGreatDoorPq2
import Derived.Test.YtnkgjddkdikikaaGreatDoorPq3
import Derived.Test.YtnkgjddkdikikaaGreatDoorPq4
import Derived.Test.YtnkgjddkdikikaaGreatDoorPq7
import Derived.Test.YtnkgjddkdikikaaGreatDoorPq10
import Derived.Test.YtnkgjddkdikikaaGreatDoorPq12
import Derived.Test.YtnkgjddkdikikaaGreatDoorPq13
import Derived.Test.YtnkgjddkdikikaaGreatDoorPq23
import Derived.Test.YtnkgjddkdikikaaGreatDoorPq27
import Derived.Test.YtnkgjddkdikikaaGreatDoorPq24
import Derived.Test.YtnkgjddkdikikaaGreatDoorPq26
import Derived.Test.YtnkgjddkdikikaaGreatDoorPq17
import Derived.Test.YtnkgjddkdikikaaGreatDoorPq29
import Derived.Test.YtnkgjddkdikikaaGreatDoorPq31
import Derived.Test.YtnkgjddkdikikaaGreatDoorPq5
import Derived.Test.YtnkgjddkdikikaaGreatDoorPq22
import Derived.Test.YtnkgjddkdikikaaGreatDoorPq35
import Derived.Test.YtnkgjddkdikikaaGreatDoorPq49
import Derived.Test.YtnkgjddkdikikaaGreatDoorPq32
import Derived.Test.YtnkgjddkdikikaaGreatDoorPq1
import Derived.Test.YtnkgjddkdikikaaGreatDoorPq65
import Derived.Test.YtnkgjddkdikikaaGreatDoorPq14
import Derived.Test.YtnkgjddkdikikaaGreatDoorPq48
import Derived.Test.YtnkgjddkdikikaaGreatDoorPq84
import Derived.Test.YtnkgjddkdikikaaGreatDoorPq83
import Derived.Test.YtnkgjddkdikikaaGreatDoorPq89
import Derived.Test.YtnkgjddkdikikaaGreatDoorPq87
import Derived.Test.YtnkgjddkdikikaaGreatDoorPq90
import Derived.Test.YtnkgjddkdikikaaGreatDoorPq45
namespace Go.Proofs.YtnkgjddkdikikaaGreatDoor
open Go.RowKit Go.Maps
namespace Ve
set_option maxRecDepth 100000 in
set_option maxHeartbeats 2000000 in
theorem rwh_chk (Q : List Raw) (L : List Ent) (p : ByteArray) (v : Value) (w : World) (hn : L.length ≤ 1000) (sh : ∀ e, e ∈ L → ShE e) (I : Ixs w v Q L) (hc : (chk Q L).1 ≠ 0) :
    Calls Tryz.prog 50 #[v, .string p] w fun e w' => e = .returned (.tuple #[.slice none 0 0, faultV (chk Q L)]) ∧ Below w.heap.size w w' := by
  have HB0 := hid ((Below.refl w.heap.size w).alloc (Nat.le_refl _) (.cells #[.int .i64 0, .int .i64 0] 62))
  have HIF := hid (fun W (h : Below w.heap.size w W) => iFault_any Q L v W hn sh (I.below h))
  obtain ⟨va, vc, hv1, -⟩ := id I.es
  subst hv1
  obtain ⟨cc, oo, hco⟩ : ∃ cc oo, chk Q L = (cc, oo) := ⟨_, _, rfl⟩
  rw [hco] at HIF hc ⊢
  unfold faultV at HIF ⊢
  simp only at HIF hc ⊢
  generalize atOf oo = ao at *
  have hpos : (0 : Int) < (cc : Int) := by omega
  clear I sh hco hc
  go_enter Tryz.func50, Tryz.ntmps50
  go_wp2_with fail
  refine (HIF.out _ HB0.out).mono ?_
  rintro e w1 ⟨rfl, hb⟩
  have HP1 := hid (Pb.start (c := (cc : Int)) (a := ao) (by simpa using hb))
  clear hb
  obtain ⟨⟨s0, s1, sf⟩, f0, f1, ff⟩ := HP1.out.cells
  have hge := HP1.out.ge
  have n1 : ¬ w1.heap.size = w.heap.size := by omega
  have n2 : ¬ w.heap.size = w1.heap.size := by omega
  go_wp2_with fail
  generalize w1.alloc (.cells #[.int .i64 (cc : Int), .int .i64 ao] 62) = w2 at *
  go_region_with fail
  all_goals
    go_wp2_with fail
    refine bodyPost_ret (v := .tuple #[.slice none 0 0, .agg #[.int .i64 (cc : Int), .int .i64 ao]]) (by simp [results, Tryz.results50, go_sem, s0, s1]) rfl ⟨rfl, ?_⟩
    exact below_drawn_of (put2_below HP1.out.bl (Nat.le_refl _)) 1
theorem Pb.keep {w W W' : World} {fb : Nat} {c a : Int} (h : Pb w W fb c a) (hb : Below (fb + 1) W W') : Pb w W' fb c a := by
  have g := h.ge
  exact ⟨h.bl.trans (hb.mono (by omega)), (hb.block _ (by omega)).trans h.e, (hb.block _ (by omega)).trans h.f, h.ge⟩
theorem whN_yes {Q : List Raw} {L : List Ent} {p : ByteArray} {X : List ByteArray} {n i : Nat} (hi : i < X.length) (h1 : X[i].size = n) (h2 : whH Q L p X[i] = true) : whN Q L p (X.take (i + 1)) n = whN Q L p (X.take i) n ++ [(X[i], latV Q X[i])] := by
  unfold whN
  rw [List.take_succ_eq_append_getElem hi, List.filter_append, List.map_append]
  simp [h1, h2]
theorem whN_no {Q : List Raw} {L : List Ent} {p : ByteArray} {X : List ByteArray} {n i : Nat} (hi : i < X.length) (h : ¬ (X[i].size = n ∧ whH Q L p X[i] = true)) : whN Q L p (X.take (i + 1)) n = whN Q L p (X.take i) n := by
  unfold whN
  rw [List.take_succ_eq_append_getElem hi, List.filter_append, List.map_append]
  have : (decide (X[i].size = n) && whH Q L p X[i]) = false := by
    rw [Bool.eq_false_iff]
    intro h2
    rw [Bool.and_eq_true, decide_eq_true_iff] at h2
    exact h h2
  simp [this]
theorem whD_pos {Q : List Raw} {L : List Ent} {p : ByteArray} {X : List ByteArray} {n : Nat} (h : 0 < n) : whD Q L p X n = whN Q L p X n ++ whD Q L p X (n - 1) := by
  cases n with
  | zero => omega
  | succ n => rfl
theorem dn_idx {n : Nat} (h : 0 < n) (h2 : n ≤ 1000000) : Value.int .i64 (wrap64 ((n : Int) - 1)) = .int .i64 ((n - 1 : Nat) : Int) := by
  rw [IntWalk.wrap64_in _ (by omega)]; congr 1; omega
theorem dn_idx' {n : Nat} (h : 0 < n) : Value.int .i64 ((n : Int) - 1) = .int .i64 ((n - 1 : Nat) : Int) := by congr 1; omega
theorem dn_meas {n : Nat} (h : 0 < n) (h2 : n ≤ 1000000) : (intOf (Value.int .i64 (wrap64 ((n : Int) - 1)))).toNat < (intOf (Value.int .i64 (n : Int))).toNat := by
  rw [dn_idx h h2]
  show (((n - 1 : Nat) : Int)).toNat < ((n : Int)).toNat
  omega
theorem dn_meas' {n : Nat} (h : 0 < n) : (intOf (Value.int .i64 ((n : Int) - 1))).toNat < (intOf (Value.int .i64 (n : Int))).toNat := by
  rw [dn_idx' h]
  show (((n - 1 : Nat) : Int)).toNat < ((n : Int)).toNat
  omega
set_option maxRecDepth 100000 in
set_option maxHeartbeats 4000000 in
theorem rwh_good (Q : List Raw) (L : List Ent) (p : ByteArray) (v : Value) (w : World) (hn : L.length ≤ 1000) (sh : ∀ e, e ∈ L → ShE e) (hz : shQ Q) (I : Ixs w v Q L) (hc : chk Q L = (0, none)) :
    Calls Tryz.prog 50 #[v, .string p] w fun e w' => ∃ u, e = .returned (.tuple #[u, faultV (0, none)]) ∧ MsAt w' u (whD Q L p (phX Q) 100) ∧ Below w.heap.size w w' := by
  obtain ⟨i0, hi7, hz0, hz1, hz2⟩ := info_parts infoMod
  have HB0 := hid ((Below.refl w.heap.size w).alloc (Nat.le_refl _) (.cells #[.int .i64 0, .int .i64 0] 62))
  have HIF := hid (fun W (h : Below w.heap.size w W) => iFault_any Q L v W hn sh (I.below h))
  have hqn : Q.length ≤ 1000 := by rw [I.ln]; exact hn
  have hg := good_of I (by rw [hc])
  have HPO := hid (fun W (h : Below w.heap.size w W) => rpaths_any Q v W hqn (I.es.below h))
  have HLA := hid (fun t W (h : Below w.heap.size w W) => latOf_any Q t v W hqn hg hz (keptT_ex hg t) (I.es.below h))
  have HFO := hid (fun m (j : Nat) (hj : idxOf (isM m) Q = (j : Int)) W (h : Below w.heap.size w W) => by have h9 := findOf_all Q m v W (by omega) (I.es.below h); rw [hj] at h9; exact h9)
  have HIX := hid (fun W (h : Below w.heap.size w W) => I.below h)
  have HSH := hid sh
  have HU := hid (fun t (ht : t ∈ phX Q) => (found_iff I (t, latV Q t)).1 (lat_univ I (by rw [hc]) ht))
  have HFN := hid (fun W => fine_any W)
  have HXL := hid (show (phX Q).length ≤ 1000 by
    have := fold_len (Z := pathL Q) (X := [])
    rw [pathL_len] at this
    unfold phX
    simp only [List.length_nil] at this
    omega)
  obtain ⟨va, vc, hv1, -⟩ := id I.es
  subst hv1
  rw [hc] at HIF
  unfold faultV at HIF ⊢
  simp only at HIF ⊢
  have ha : atOf none = -1 := rfl
  rw [ha] at HIF ⊢
  clear I sh hc hg hz
  generalize phX Q = X at *
  have hXl := HXL.out
  obtain ⟨ans, hans⟩ : ∃ ans, ans = whD Q L p X 100 := ⟨_, rfl⟩
  rw [← hans]
  have HANS := hid hans
  clear hans
  go_enter Tryz.func50, Tryz.ntmps50
  go_wp2_with fail
  refine (HIF.out _ HB0.out).mono ?_
  rintro e w1 ⟨rfl, hb⟩
  have HP1 := hid (Pb.start (c := 0) (a := -1) (by simpa using hb))
  clear hb
  obtain ⟨-, f0, f1, ff⟩ := HP1.out.cells
  go_wp2_with fail
  generalize w1.alloc (.cells #[.int .i64 0, .int .i64 (-1)] 62) = w2 at *
  refine (HPO.out _ HP1.out.bl).mono ?_
  rintro e w3 ⟨xv, rfl, hx, hb⟩
  have HP3 := hid (HP1.out.below hb)
  have HX3 := hid hx
  obtain ⟨xa, xc, hx1, -⟩ := hx
  subst hx1
  clear hb f0 f1 ff HP1
  go_wp2_with fail
  have HM3 := hid (show Pm w w3 w1.heap.size w3.heap.size (.slice none 0 0) [] from ⟨HP3.out, World.ownsRow_nil _ _ _ _⟩)
  go_loopw [8, 9] (fun ov nv wr => ∃ (n : Nat) (A : List Bm), n ≤ 100 ∧ nv = .int .i64 n ∧ Hid (A ++ whD Q L p X n = ans) ∧ A.length ≤ (100 - n) * 1000 ∧ Hid (Pm w wr w1.heap.size w3.heap.size ov A) ∧ Hid (Below w3.heap.size w3 wr)) (fun _ nv _ => (intOf nv).toNat)
  case atStart => exact ⟨100, [], Nat.le_refl _, rfl, hid HANS.out.symm, Nat.zero_le _, HM3, hid (Below.refl _ _)⟩
  case round =>
    obtain ⟨n, A, hn9, rfl, HAW, hAl, HPM, HTX⟩ := hrel
    by_cases hn0 : n = 0
    · subst hn0
      have HAA := hid (show A = ans by rw [← HAW.out]; exact (List.append_nil A).symm)
      go_wp2_with fail
      refine (HFN.out _).mono ?_
      rintro e w7 ⟨rfl, hb⟩
      have HR7 := hid (HPM.out.below hb)
      clear hb
      obtain ⟨⟨s0, s1, sf⟩, -⟩ := HR7.out.pb.cells
      go_wp2_with fail
      refine bodyPost_ret (v := .tuple #[u8, .agg #[.int .i64 0, .int .i64 (-1)]]) (by simp [results, Tryz.results50, go_sem, s0, s1]) rfl ⟨_, rfl, ?_, ?_⟩
      · rw [← HAA.out]
        have hne : u8.ownBlock ≠ some w.heap.size := fun hb => by
          have h1 := (own_lt HR7.out.own hb).2
          have h2 := lt_of_blk HP3.out.e
          omega
        exact own_ms (owns_set (owns_set HR7.out.own hne) hne)
      · exact put2_below HR7.out.pb.bl (Nat.le_refl _)
    · have hnI : (0 : Int) < (n : Int) := by omega
      have hnD : decide (0 < n) = true := decide_eq_true (by omega)
      have hnE : decide ((0 : Int) < (n : Int)) = true := decide_eq_true hnI
      obtain ⟨wo, hwo⟩ : ∃ wo, wo = wr := ⟨_, rfl⟩
      subst hwo
      go_wp2_with fail
      go_loopw [8, 10] (fun ov iv wr => ∃ (i : Nat) (B : List Bm), i ≤ X.length ∧ iv = .int .i64 i ∧ Hid (B = A ++ whN Q L p (X.take i) n) ∧ B.length ≤ A.length + i ∧ Hid (Pm w wr w1.heap.size w3.heap.size ov B) ∧ Hid (Below w3.heap.size w3 wr)) (fun _ iv _ => X.length - (intOf iv).toNat)
      case atStart => exact ⟨0, A, Nat.zero_le _, rfl, hid (List.append_nil A).symm, Nat.le_refl _, HPM, HTX⟩
      case round =>
        obtain ⟨i, B, hi9, rfl, HBW, hBl, HPM2, HTX2⟩ := hrel
        by_cases hlt : i < X.length
        · have hiI := ix_lt hlt
          have hi0 := ix_pos i
          have HLT := hid hlt
          obtain ⟨lb, lo, rfl, y0⟩ := tx_cellK (HX3.out.below HTX2.out) hlt
          have HYW := hid (fun W (h : Below wr.heap.size wr W) => cell_below h y0)
          obtain ⟨j, hj⟩ := HU.out X[i] (List.getElem_mem hlt)
          have HWY := hid (fun h1 h2 => whN_yes (Q := Q) (L := L) (p := p) (n := n) hlt h1 h2)
          have HWN := hid (fun h => whN_no (Q := Q) (L := L) (p := p) (n := n) hlt h)
          by_cases hsz : X[i].size = n
          · have HLX := hid (fun W (h : Below w.heap.size w W) => HLA.out X[i] W h)
            have HFJ := hid (fun W (h : Below w.heap.size w W) => HFO.out _ j hj W h)
            have HOP := hid (fun W (h : Below w.heap.size w W) => pk_open (HIX.out W h) HSH.out hj)
            have HHB := hid (show whH Q L p X[i] = inB p (pkOf Q L (X[i], latV Q X[i])) from rfl)
            have hsI : (((X[i].size : Nat) : Int) == (n : Int)) = true := by rw [beq_iff_eq, hsz]
            have HSZ := hid hsz
            clear hj hsz
            generalize X[i] = x at *
            clear hlt
            have HW := hid (fun W' (h : Below wr.heap.size wr W') => HPM2.out.pb.bl.trans (h.mono HPM2.out.pb.bl.size))
            go_wp2_with fail
            have ya : (wr.alloc (.cells #[.string ⟨#[]⟩, .string ⟨#[]⟩] 35)).cell? ⟨lb, lo + i, none⟩ = some (.string x) := HYW.out _ ((Below.refl _ _).alloc (Nat.le_refl _) _)
            have yb : (wr.drew.alloc (.cells #[.string ⟨#[]⟩, .string ⟨#[]⟩] 35)).cell? ⟨lb, lo + i, none⟩ = some (.string x) := HYW.out _ ((below_drawn wr 1).alloc (Nat.le_refl _) _)
            have hlb := lt_of_cell y0
            simp only at hlb
            have hlb2 : ¬ lb = wr.heap.size := by omega
            have hlb3 : ¬ wr.heap.size = lb := by omega
            refine wp_cut (fun mb W => Hid (W.heap[mb]? = some (.cells #[.string x, .string (latV Q x)] 35 (0, 0))) ∧ Hid (Below wr.heap.size wr W)) ⟨?F, ?reg, ?cont⟩
            case reg =>
              go_region_with (first
                | (go_at_call 114; refine (HLX.out _ (HW.out _ (below_drawn wr 1))).mono ?_; rintro e w7 ⟨rfl, hb⟩; have HRa := hid (show Below wr.heap.size wr w7 from (below_drawn wr 1).trans (hb.mono (Nat.le_refl _))); have y7 := HYW.out _ HRa.out; have y7a := HYW.out _ (HRa.out.alloc HRa.out.size (.cells #[.string ⟨#[]⟩, .string ⟨#[]⟩] 35)); have hl7 := lt_of_cell y7; simp only at hl7; have hl8 : ¬ lb = w7.heap.size := (by omega); have hl9 : ¬ w7.heap.size = lb := (by omega); clear hb)
                | (go_at_call 114; refine (HLX.out _ (HW.out _ ((below_drawn wr 1).alloc (Nat.le_refl _) _))).mono ?_; rintro e w7 ⟨rfl, hb⟩; have HRa := hid (show Below wr.heap.size wr w7 from ((below_drawn wr 1).alloc (Nat.le_refl _) _).trans (hb.mono (by simp))); have y7 := HYW.out _ HRa.out; have HK7 := hid (show w7.heap[wr.heap.size]? = some (.cells #[.string ⟨#[]⟩, .string ⟨#[]⟩] 35 (0, 0)) from (hb.block _ (by simp)).trans (heap_new wr.drew _)); obtain ⟨k0, k1, kf⟩ := bx2 HK7.out; clear hb))
              all_goals
                first
                  | (change ∃ mb, (Hid _ ∧ Hid _) ∧ _ = _
                     refine ⟨wr.heap.size, ⟨hid (by rw [set_block (set_block HK7.out)]; rfl), hid (put2_below HRa.out (Nat.le_refl _))⟩, ?_⟩
                     generalize wr.heap.size = mb
                     rfl)
                  | (change ∃ mb, (Hid _ ∧ Hid _) ∧ _ = _
                     refine ⟨w7.heap.size, ⟨hid (heap_new w7 _), hid (HRa.out.alloc HRa.out.size _)⟩, ?_⟩
                     generalize w7.heap.size = mb
                     rfl)
            case cont =>
              rintro mb wm ⟨HM8, HR8⟩
              clear ya yb y0 hlb hlb2 hlb3
              obtain ⟨k0, k1, kf⟩ := bx2 HM8.out
              have HFM := hid (HFJ.out _ (HW.out _ HR8.out))
              generalize latV Q x = lx at *
              go_wp2_with fail
              refine HFM.out.mono ?_
              rintro e w9 ⟨rfl, hb⟩
              have HR9 := hid (HR8.out.trans (hb.mono HR8.out.size))
              have HM9 := hid ((hb.block _ (lt_of_blk HM8.out)).trans HM8.out)
              clear hb k0 k1 kf
              obtain ⟨eb, eo, t, q, qa, qn, qc, pa, pn, pc, bk, P, hva, hjQ, c0, c1, c2, c3, c4, hP, hPl, ht, hPs, hPK⟩ := HOP.out _ (HW.out _ HR9.out)
              subst hva
              have hjI := ix_lt hjQ
              have hj0 := ix_pos j
              have HPS := hid (rpacks_is t q qa qn qc pa pn pc bk P w9 hP hPl ht hPs)
              rw [hPK] at HPS
              have HPL := hid (show (pkOf Q L (x, lx)).length ≤ 1000 by rw [← hPK, List.length_map]; exact hPl)
              clear hP hPl ht hPs hPK HOP
              generalize pkOf Q L (x, lx) = Z at *
              go_wp2_with fail
              refine HPS.out.mono ?_
              rintro e w10 ⟨zv, rfl, hz, hb⟩
              have HR10 := hid (HR9.out.trans (hb.mono HR9.out.size))
              have HM10 := hid ((hb.block _ (lt_of_blk HM9.out)).trans HM9.out)
              have HIT := hid (inT_any p Z zv w10 (Nat.le_trans HPL.out (by decide)) hz)
              obtain ⟨za, zc, hz1, -⟩ := hz
              subst hz1
              clear hb c0 c1 c2 c3 c4
              have HPM10 := hid (HPM2.out.below HR10.out)
              have HTX10 := hid (HTX2.out.trans (HR10.out.mono HTX2.out.size))
              obtain ⟨k0, k1, kf⟩ := bx2 HM10.out
              cases hin : inB p Z
              · rw [hin] at HIT HHB
                have HB2 := hid (show B = A ++ whN Q L p (X.take (i + 1)) n by rw [HWN.out (fun h => by rw [HHB.out] at h; exact absurd h.2 (by simp))]; exact HBW.out)
                clear hin
                go_wp2_with fail
                refine HIT.out.mono ?_
                rintro e w11 ⟨rfl, rfl⟩
                go_wp2_with fail
                go_roundw
                case rel => exact ⟨i + 1, B, HLT.out, by first | exact nr_idx i | exact nx_idx HLT.out (by omega : X.length ≤ 1000000), HB2, by omega, HPM10, HTX10⟩
                case measure => first | exact nr_meas HLT.out | exact nx_meas HLT.out (by omega : X.length ≤ 1000000)
              · rw [hin] at HIT HHB
                have HB2 := hid (show B ++ [(x, lx)] = A ++ whN Q L p (X.take (i + 1)) n by rw [HWY.out HSZ.out HHB.out, HBW.out, List.append_assoc])
                have HBL := hid (show B.length ≤ 200000 by omega)
                clear hin
                go_wp2_with fail
                refine HIT.out.mono ?_
                rintro e w11 ⟨rfl, rfl⟩
                go_wp2_with (at_builtin; refine wpList_append_own _ rfl _ _ 40 rfl w3.heap.size 35 i0 _ 2 32 Tryz.underlying40 hi7 hz0 hz1 hz2 rfl (by decide) _ _ _ rfl (HPM10.out.own.alloc _) ⟨w11.heap.size, 0, none⟩ 1 1 [.string x, .string lx] rfl rfl ?c1 ?c2 ?c3 ?c4 ?c5 ?_)
                case c1 => exact World.news_of_block (heap_new _ _)
                case c2 => intro u hu; simp at hu; rcases hu with rfl | rfl <;> rfl
                case c3 => have := HBL.out; unfold maxLen; omega
                case c4 => have := HBL.out; omega
                case c5 => have := HTX10.out.size; simp; omega
                intro v' w12 hown hgrow _
                have HR12 := hid (rel_app2 HTX10.out.size (Below.refl w3.heap.size w11) HPM10.out.own (Below.refl _ _) hgrow)
                have HPM12 := hid (show Pm w w12 w1.heap.size w3.heap.size v' (B ++ [(x, lx)]) from ⟨HPM10.out.pb.keep (HR12.out.mono (lt_of_blk HP3.out.f)), by rw [List.length_append, flatM_app]; exact hown⟩)
                have HTX12 := hid (HTX10.out.trans HR12.out)
                clear hown hgrow k0 k1 kf
                go_wp2_with fail
                go_roundw
                case rel => exact ⟨i + 1, _, HLT.out, by first | exact nr_idx i | exact nx_idx HLT.out (by omega : X.length ≤ 1000000), HB2, by rw [List.length_append]; show B.length + 1 ≤ _; omega, HPM12, HTX12⟩
                case measure => first | exact nr_meas HLT.out | exact nx_meas HLT.out (by omega : X.length ≤ 1000000)
          · have HB2 := hid (show B = A ++ whN Q L p (X.take (i + 1)) n by rw [HWN.out (fun h => hsz h.1)]; exact HBW.out)
            have hsI : (((X[i].size : Nat) : Int) == (n : Int)) = false := by rw [beq_eq_false_iff_ne]; omega
            clear hj hsz
            generalize X[i] = x at *
            clear hlt
            go_wp2_with fail
            first
              | exact ⟨⟨i + 1, B, HLT.out, by first | exact nr_idx i | exact nx_idx HLT.out (by omega : X.length ≤ 1000000), HB2, by omega, HPM2, HTX2⟩, by first | exact nr_meas HLT.out | exact nx_meas HLT.out (by omega : X.length ≤ 1000000)⟩
              | (go_roundw
                 case rel => exact ⟨i + 1, B, HLT.out, by first | exact nr_idx i | exact nx_idx HLT.out (by omega : X.length ≤ 1000000), HB2, by omega, HPM2, HTX2⟩
                 case measure => first | exact nr_meas HLT.out | exact nx_meas HLT.out (by omega : X.length ≤ 1000000))
        · have hiI := ix_nlt hlt
          have HWE := hid (show B ++ whD Q L p X (n - 1) = ans by
            rw [← HAW.out, HBW.out, List.take_of_length_le (by omega), List.append_assoc, whD_pos (n := n) (Nat.pos_of_ne_zero hn0)])
          clear hlt
          go_wp2_with fail
          go_roundw
          case rel => exact ⟨n - 1, B, by omega, by first | exact dn_idx (by omega) (by omega) | exact dn_idx' (by omega), HWE, by
            have h5 : (100 - (n - 1)) * 1000 = (100 - n) * 1000 + 1000 := by omega
            omega, HPM2, HTX2⟩
          case measure => first | exact dn_meas (by omega) (by omega) | exact dn_meas' (by omega)
end Ve
end Go.Proofs.YtnkgjddkdikikaaGreatDoor
namespace Go.Proofs.YtnkgjddkdikikaaGreatDoor
open Go.RowKit Go.Maps
namespace Ve
theorem rwh_any (Q : List Raw) (L : List Ent) (p : ByteArray) (v : Value) (w : World) (hn : L.length ≤ 1000) (sh : ∀ e, e ∈ L → ShE e) (hz : shQ Q) (I : Ixs w v Q L) :
    Calls Tryz.prog 50 #[v, .string p] w fun e w' => ∃ u, e = .returned (.tuple #[u, faultV (chk Q L)]) ∧ MsAt w' u (whX Q L p) ∧ Below w.heap.size w w' := by
  by_cases hc : (chk Q L).1 = 0
  · have hc0 := chk_fine hc
    have e2 : whX Q L p = whD Q L p (phX Q) 100 := by unfold whX; rw [if_pos hc]
    rw [e2, hc0]
    exact rwh_good Q L p v w hn sh hz I hc0
  · have e2 : whX Q L p = [] := by unfold whX; rw [if_neg hc]
    rw [e2]
    exact (rwh_chk Q L p v w hn sh I hc).mono fun _ w' ⟨h1, h2⟩ => ⟨_, h1, ⟨none, 0, rfl, Nat.le_refl _, fun h => absurd rfl h⟩, h2⟩
end Ve
end Go.Proofs.YtnkgjddkdikikaaGreatDoor
namespace Go.Proofs.YtnkgjddkdikikaaGreatDoor
open Go.RowKit Go.Maps
namespace Ve
theorem ints_no {c d : Int} {k : Nat} {s : ByteArray} (h : (#[Value.int .i64 c, .int .i64 d] : Array Value)[k]? = some (.string s)) : False := by
  match k, h with
  | 0, h => simp at h
  | 1, h => simp at h
  | k + 2, h => simp at h
theorem cell_set_neP {W : World} {b o g p : Nat} {x v : Value} (h : W.cell? ⟨b, o, none⟩ = some v) (hne : b ≠ g) : (W.setCell ⟨g, p, none⟩ x).cell? ⟨b, o, none⟩ = some v := by
  unfold World.cell? at h ⊢
  rw [Below.heap_setCell _ _ _ _ hne]
  exact h
theorem TxAt.set2 {W : World} {v : Value} {X : List ByteArray} {g : Nat} {c d : Int} {T : TypeId} (h : TxAt W v X) (hg : W.heap[g]? = some (.cells #[.int .i64 c, .int .i64 d] T (0, 0))) (a b : Value) : TxAt ((W.setCell ⟨g, 0, none⟩ a).setCell ⟨g, 1, none⟩ b) v X := by
  obtain ⟨a', c', e, hc, h⟩ := h
  refine ⟨a', c', e, hc, fun hL => ?_⟩
  obtain ⟨bk, o, e2, h2⟩ := h hL
  refine ⟨bk, o, e2, fun j hj => ?_⟩
  have hne : bk ≠ g := fun e => by
    subst e
    have h3 := h2 j hj
    rw [Lib.cell_of_heap hg] at h3
    exact ints_no h3
  exact cell_set_neP (cell_set_neP (h2 j hj) hne) hne
theorem MsAt.set2 {W : World} {v : Value} {X : List Bm} {g : Nat} {c d : Int} {T : TypeId} (h : MsAt W v X) (hg : W.heap[g]? = some (.cells #[.int .i64 c, .int .i64 d] T (0, 0))) (a b : Value) : MsAt ((W.setCell ⟨g, 0, none⟩ a).setCell ⟨g, 1, none⟩ b) v X := by
  obtain ⟨a', c', e, hc, h⟩ := h
  refine ⟨a', c', e, hc, fun hL => ?_⟩
  obtain ⟨bk, o, e2, h2⟩ := h hL
  refine ⟨bk, o, e2, fun j hj => ?_⟩
  have hne : bk ≠ g := fun e => by
    subst e
    have h3 := (h2 j hj).1
    rw [Lib.cell_of_heap hg] at h3
    exact ints_no h3
  exact ⟨cell_set_neP (cell_set_neP (h2 j hj).1 hne) hne, cell_set_neP (cell_set_neP (h2 j hj).2 hne) hne⟩
theorem ErrAt.set2P {W : World} {A : Nat → Addr} {y : Value} {c : Nat} {o : Option Nat} {g : Nat} {z : Value} {n : Int} {T : TypeId} (h : ErrAt W A y c o) (hg : W.heap[g]? = some (.cells #[z, .int .i64 n] T (0, 0))) (a b : Value) : ErrAt ((W.setCell ⟨g, 0, none⟩ a).setCell ⟨g, 1, none⟩ b) A y c o := by
  cases o with
  | none => exact h
  | some i =>
    obtain ⟨h0, f, rfl, h1, h2⟩ := h
    have hne : f ≠ g := fun e => by
      subst e
      obtain ⟨_, g1, _⟩ := bx2 hg
      obtain ⟨a', ha⟩ := errA_ne A h0
      rw [g1, ha] at h2
      cases h2
    exact ⟨h0, f, rfl, cell_set_neP (cell_set_neP h1 hne) hne, cell_set_neP (cell_set_neP h2 hne) hne⟩
theorem sameT_any (X Y : List ByteArray) (v u : Value) (w : World) (hn : X.length ≤ 1000000) (hv : TxAt w v X) (hu : TxAt w u Y) : Calls Tryz.prog 48 #[v, u] w fun e w' => e = .returned (.bool (decide (X = Y))) ∧ Below w.heap.size w w' := by
  obtain ⟨a, c, rfl, _, h⟩ := hv
  obtain ⟨a', c', rfl, _, h'⟩ := hu
  by_cases hl : X.length = Y.length
  · cases X with
    | nil =>
      have : Y = [] := List.length_eq_zero_iff.1 hl.symm
      subst this
      exact (same_none a a' c c' w).mono fun _ _ ⟨h1, h2⟩ => ⟨h1, by rw [h2]; exact Below.refl _ _⟩
    | cons x r =>
      obtain ⟨b, o, rfl, h2⟩ := h (by simp)
      obtain ⟨b', o', rfl, h3⟩ := h' (fun e => by rw [e] at hl; simp at hl)
      rw [← hl]
      exact same_some b o c b' o' c' (x :: r) Y w hl hn h2 h3
  · rw [decide_eq_false (fun e => hl (by rw [e]))]
    exact (same_len a a' _ c _ c' w (by rw [beq_eq_false_iff_ne]; omega)).mono fun _ _ ⟨h1, h2⟩ => ⟨h1, by rw [h2]; exact Below.refl _ _⟩
set_option maxRecDepth 100000 in
set_option maxHeartbeats 4000000 in
theorem kt_main {T : World → Prop} (OC : OfC T) (AC : AllC T) (WC : WhoC T) (KT : StayK T) (Q0 : List Raw) (L : List Ent) (R : List Bm) (p : ByteArray) (v rv : Value) (A : Nat → Addr) (m : Int) (w : World) (S : Te w A m) (hT : T w) (N : Er.Sen w A) (I : Ixs w v Q0 L) (em : EmI Q0 L) (hr : MsAt w rv R) (hem : Em rv R) (hok : okI L = true) (hokR : okLN 15 R = true) (hp : p.size ≤ 100) :
    Calls Tryz.prog 10 #[v, rv, .string p] w fun e w' => e = .returned (.bool true) ∧ Below w.heap.size w w' := by
  have hn101 : L.length ≤ 101 := by rcases (okI_iff hok).1 with h | h <;> omega
  have hR15 := (okLN_iff hokR).1
  have g1 : ¬ (100 : Int) < (p.size : Int) := by omega
  have HIN := hid (packed_any OC KT A m w S hT)
  have HLO := hid (fun W (h : Below w.heap.size w W) => longI_any Q0 L v W (I.below h))
  rw [if_pos hok] at HLO
  have HLM := hid (fun W (h : Below w.heap.size w W) => longN_any 15 (by decide) R rv W (hr.below h))
  rw [if_pos hokR] at HLM
  have HOW := hid (fun W (h : Below w.heap.size w W) => ownI_any Q0 L v W (by omega) (I.below h) em (okI_fits hok))
  have HOM := hid (fun W (h : Below w.heap.size w W) => ownM_any rv R W (by omega) (hr.below h) hem)
  have HRO := hid (fun W (h : Below w.heap.size w W) => rof_any Q0 L R p v rv W (by omega) (okI_sh hok) (I.below h) (by omega) (hr.below h) (by omega))
  have HRA := hid (fun W (h : Below w.heap.size w W) => rap_any Q0 L R v rv W (by omega) (okI_sh hok) (I.below h) (by omega) (hr.below h))
  have HRW := hid (fun W (h : Below w.heap.size w W) => rwh_any Q0 L p v W (by omega) (okI_sh hok) (ixs_shQ I hok) (I.below h))
  have HPO := hid (fun Q u ru W (h : Below w.heap.size w W) (J : Ixs W u Q L) (hm : MsAt W ru R) => OC Q L R p u ru A m W (by omega) (okI_sh hok) (ixs_shQ J hok) (by omega) (Nat.le_trans (hv_all _ _ _ _) (by omega)) (by omega) (S.below h) (KT w W hT h) J hm)
  have HPA := hid (fun Q u ru W (h : Below w.heap.size w W) (J : Ixs W u Q L) (hm : MsAt W ru R) => AC Q L R u ru A m W (by omega) (okI_sh hok) (ixs_shQ J hok) (by omega) (S.below h) (KT w W hT h) J hm)
  have HPW := hid (fun Q u W (h : Below w.heap.size w W) (J : Ixs W u Q L) => WC Q L p u A m W (by omega) (okI_sh hok) (ixs_shQ J hok) (by omega) (S.below h) (KT w W hT h) J)
  have HFA := hid (fun r W y (h : Below w.heap.size w W) (hr : r.1 ≤ 10) (he : ErrAt W A y r.1 r.2) => faulted3_any A y r W (N.below h) he hr)
  have HCL := hid (chk_le Q0 L)
  have HQL := hid (show Q0.length ≤ 1000 by rw [I.ln]; omega)
  have HXB := hid (al_len (Q := Q0) (R := R) (okI_sh hok) (by omega))
  have HK0 := hid (keys_of I)
  obtain ⟨a0, c0, hv0, -⟩ := id I.es
  subst hv0
  obtain ⟨ra, rc, hrv, -⟩ := id hr
  subst hrv
  clear S N I em hr hem hok hokR OC AC WC KT hT
  go_enter Tryz.func10, Tryz.ntmps10
  go_wp2_with fail
  refine HIN.out.mono ?_
  rintro e w1 ⟨rfl, hb⟩
  have HB1 := hid hb
  clear hb HIN
  go_wp2_with fail
  refine (HLO.out w1 HB1.out).mono ?_
  rintro e w2 ⟨rfl, hb⟩
  have HB2 := hid (HB1.out.trans (hb.mono HB1.out.size))
  clear hb HLO HB1
  go_wp2_with fail
  refine (HLM.out w2 HB2.out).mono ?_
  rintro e w3 ⟨rfl, rfl⟩
  clear HLM
  go_wp2_with fail
  refine (HOW.out w3 HB2.out).mono ?_
  rintro e w4 ⟨ou, Q, rfl, hO, hb⟩
  have HB4 := hid (HB2.out.trans (hb.mono HB2.out.size))
  have HKQ := hid ((keys_of hO.ixs).trans HK0.out.symm)
  have HJ4 := hid hO.ixs
  obtain ⟨oa, oc, hou, -⟩ := id hO.ixs.es
  subst hou
  clear hb hO HOW HK0 HB2
  go_wp2_with fail
  refine (HOM.out w4 HB4.out).mono ?_
  rintro e w5 ⟨ru, rfl, hown, -, hb⟩
  have HB5 := hid (HB4.out.trans (hb.mono HB4.out.size))
  have HJ5 := hid (HJ4.out.below hb)
  have HP5 := hid (HPO.out Q _ ru w5 HB5.out HJ5.out (own_ms hown))
  obtain ⟨ua, un, uc, hru⟩ := own_sl hown
  subst hru
  rw [ofM_same (key_mod HKQ.out), ofF_same (key_mod HKQ.out)] at HP5
  have HOF := hid (ofF_le HCL.out R p)
  generalize (ofM Q0 L R p).1 = M1 at *
  generalize (ofM Q0 L R p).2 = M2 at *
  clear hb hown HPO HJ4 HB4
  go_wp2_with fail
  refine HP5.out.mono ?_
  rintro e w6 ⟨x, rfl, he, hb⟩
  have HB6 := hid (HB5.out.trans (hb.mono HB5.out.size))
  have HJ6 := hid (HJ5.out.below hb)
  have HE6 := hid he
  have HBA6 := hid (HB6.out.alloc HB6.out.size (.cells #[.string M1, .string M2] 35))
  have HNA6 := hid ((Below.refl w6.heap.size w6).alloc (Nat.le_refl _) (.cells #[.string M1, .string M2] 35))
  have HMB6 := hid (heap_new w6 (.cells #[.string M1, .string M2] 35))
  clear hb he HP5 HJ5 HB5
  go_wp2_with fail
  generalize w6.alloc (.cells #[.string M1, .string M2] 35) = w7 at *
  refine (HRO.out _ HBA6.out).mono ?_
  rintro e w8 ⟨rfl, hb⟩
  have HB8 := hid (HBA6.out.trans (hb.mono HBA6.out.size))
  have HN8 := hid (HNA6.out.trans (hb.mono HNA6.out.size))
  have HMB8 := hid ((hb.block _ (lt_of_blk HMB6.out)).trans HMB6.out)
  clear hb HRO HBA6 HNA6 HMB6
  obtain ⟨f1, hf1⟩ : ∃ f1, ofF Q0 L R p = f1 := ⟨_, rfl⟩
  rw [hf1] at HE6 HOF ⊢
  clear hf1
  obtain ⟨b1, b2⟩ := f1
  have HF9 := hid (fun W (h : Below w.heap.size w W) (he : ErrAt W A x b1 b2) => HFA.out (b1, b2) W x h HOF.out he)
  unfold faultV at HF9 ⊢
  simp only at HF9 HE6 ⊢
  have HA9 := hid ((Below.refl w8.heap.size w8).alloc (Nat.le_refl _) (.cells #[.string M1, .string M2] 35))
  have HA10 := hid (HA9.out.alloc HA9.out.size (.cells #[.int .i64 (b1 : Nat), .int .i64 (atOf b2)] 62))
  have HB10 := hid (HB8.out.trans (HA10.out.mono HB8.out.size))
  have HN10 := hid (HN8.out.trans (HA10.out.mono HN8.out.size))
  have HM10 := hid ((HA10.out.block _ (lt_of_blk HMB8.out)).trans HMB8.out)
  have HW10 := hid (heap_old _ (.cells #[.int .i64 (b1 : Nat), .int .i64 (atOf b2)] 62) (heap_new w8 (.cells #[.string M1, .string M2] 35)))
  have HF10 := hid (heap_new (w8.alloc (.cells #[.string M1, .string M2] 35)) (.cells #[.int .i64 (b1 : Nat), .int .i64 (atOf b2)] 62))
  have hz8 : (w8.alloc (.cells #[.string M1, .string M2] 35)).heap.size = w8.heap.size + 1 := by simp
  rw [hz8] at HF10
  generalize ((b1 : Nat) : Int) = F1 at *
  generalize atOf b2 = F2 at *
  have HQ10 := hid HA10.out
  have HJ8 := hid (HJ6.out.below HN8.out)
  have HG8 := hid HB8.out.size
  clear HA9 HA10 HB8 HN8 HMB8 hz8 HOF
  go_wp2_with fail
  generalize (w8.alloc (.cells #[.string M1, .string M2] 35)).alloc (.cells #[.int .i64 F1, .int .i64 F2] 62) = w10 at *
  have HE10 := hid (HE6.out.below HN10.out)
  refine (HF9.out _ HB10.out HE10.out).mono ?_
  rintro e w11 ⟨rfl, hb⟩
  have HB11 := hid (HB10.out.trans (hb.mono HB10.out.size))
  have HN11 := hid (HN10.out.trans (hb.mono HN10.out.size))
  have HQ11 := hid (HQ10.out.trans (hb.mono HQ10.out.size))
  have HM11 := hid ((hb.block _ (lt_of_blk HM10.out)).trans HM10.out)
  have HW11 := hid ((hb.block _ (lt_of_blk HW10.out)).trans HW10.out)
  have HF11 := hid ((hb.block _ (lt_of_blk HF10.out)).trans HF10.out)
  clear hb HF9 HB10 HN10 HM10 HW10 HF10 HE10
  obtain ⟨m0, m1, mf⟩ := bx2 HM11.out
  obtain ⟨v0, v1, vf⟩ := bx2 HW11.out
  have hs1 := str_rf M1
  have hs2 := str_rf M2
  go_wp2_with fail
  clear m0 m1 mf v0 v1 vf hs1 hs2 HM11 HW11
  have HJ11 := hid (HJ6.out.below HN11.out)
  refine (HOM.out w11 HB11.out).mono ?_
  rintro e w12 ⟨ru2, rfl, hown, -, hb⟩
  have HB12 := hid (HB11.out.trans (hb.mono HB11.out.size))
  have HJ12 := hid (HJ11.out.below hb)
  have HQ12 := hid (HQ11.out.trans (hb.mono HQ11.out.size))
  have HF12 := hid ((hb.block _ (lt_of_blk HF11.out)).trans HF11.out)
  have HP12 := hid (HPA.out Q _ ru2 w12 HB12.out HJ12.out (own_ms hown))
  obtain ⟨ua2, un2, uc2, hru2⟩ := own_sl hown
  subst hru2
  rw [alX_same (key_mod HKQ.out), alF_same (key_mod HKQ.out)] at HP12
  have HAF := hid (alF_le HCL.out R)
  clear hb hown HPA HOM HJ11 HB11 HN11 HF11 HJ6 HE6
  go_wp2_with fail
  refine HP12.out.mono ?_
  rintro e w13 ⟨xv, y, rfl, hx, he, hb⟩
  have HB13 := hid (HB12.out.trans (hb.mono HB12.out.size))
  have HQ13 := hid (HQ12.out.trans (hb.mono HQ12.out.size))
  have HF13 := hid ((hb.block _ (lt_of_blk HF12.out)).trans HF12.out)
  have HE13 := hid he
  have HX13 := hid hx
  obtain ⟨xa, xc, hx1, -⟩ := hx
  subst hx1
  clear hb he HP12 HJ12 HB12 HF12 HQ12
  go_wp2_with fail
  refine (HRA.out _ HB13.out).mono ?_
  rintro e w14 ⟨yv, rfl, hy, hb⟩
  have HB14 := hid (HB13.out.trans (hb.mono HB13.out.size))
  have HQ14 := hid (HQ13.out.trans (hb.mono HQ13.out.size))
  have HF14 := hid ((hb.block _ (lt_of_blk HF13.out)).trans HF13.out)
  have HE14 := hid (HE13.out.below hb)
  have HX14 := hid (HX13.out.below hb)
  have HY14 := hid hy
  obtain ⟨ya, yc, hy1, -⟩ := hy
  subst hy1
  clear hb HRA HB13 HF13 HE13 HX13 HQ13
  generalize alX Q0 L R = XX at *
  obtain ⟨f2, hf2⟩ : ∃ f2, alF Q0 L R = f2 := ⟨_, rfl⟩
  rw [hf2] at HE14 HAF ⊢
  clear hf2
  obtain ⟨g1, g2⟩ := f2
  have HF15 := hid (fun W (h : Below w.heap.size w W) (he : ErrAt W A y g1 g2) => HFA.out (g1, g2) W y h HAF.out he)
  unfold faultV at HF15 ⊢
  simp only at HF15 HE14 ⊢
  generalize ((g1 : Nat) : Int) = G1 at *
  generalize atOf g2 = G2 at *
  obtain ⟨f0, f1', ff⟩ := bx2 HF14.out
  have HB15 := hid (show Below w.heap.size w ((w14.setCell ⟨w8.heap.size + 1, 0, none⟩ (.int .i64 G1)).setCell ⟨w8.heap.size + 1, 1, none⟩ (.int .i64 G2)) from put2_below HB14.out (Nat.le_succ_of_le HG8.out))
  have HQ15 := hid (show Below w8.heap.size w8 ((w14.setCell ⟨w8.heap.size + 1, 0, none⟩ (.int .i64 G1)).setCell ⟨w8.heap.size + 1, 1, none⟩ (.int .i64 G2)) from put2_below HQ14.out (Nat.le_succ _))
  have HE15 := hid (HE14.out.set2P HF14.out (.int .i64 G1) (.int .i64 G2))
  have HX15 := hid (HX14.out.set2 HF14.out (.int .i64 G1) (.int .i64 G2))
  have HY15 := hid (HY14.out.set2 HF14.out (.int .i64 G1) (.int .i64 G2))
  have HFB15 := hid (show ((w14.setCell ⟨w8.heap.size + 1, 0, none⟩ (.int .i64 G1)).setCell ⟨w8.heap.size + 1, 1, none⟩ (.int .i64 G2)).heap[w8.heap.size + 1]? = some (.cells #[.int .i64 G1, .int .i64 G2] 62 (0, 0)) by rw [set_block (set_block HF14.out)]; rfl)
  go_wp2_with fail
  generalize (w14.setCell ⟨w8.heap.size + 1, 0, none⟩ (.int .i64 G1)).setCell ⟨w8.heap.size + 1, 1, none⟩ (.int .i64 G2) = w15 at *
  clear f0 f1' ff HF14 HE14 HX14 HY14 HB14 HQ14
  refine (HF15.out _ HB15.out HE15.out).mono ?_
  rintro e w16 ⟨rfl, hb⟩
  have HB16 := hid (HB15.out.trans (hb.mono HB15.out.size))
  have HQ16 := hid (HQ15.out.trans (hb.mono HQ15.out.size))
  have HX16 := hid (HX15.out.below hb)
  have HY16 := hid (HY15.out.below hb)
  have HFB16 := hid ((hb.block _ (lt_of_blk HFB15.out)).trans HFB15.out)
  have HST := hid (sameT_any XX XX _ _ w16 HXB.out HX16.out HY16.out)
  rw [decide_eq_true rfl] at HST
  clear hb HB15 HQ15 HX15 HY15 HFB15 HE15 HF15
  go_wp2_with fail
  refine HST.out.mono ?_
  rintro e w17 ⟨rfl, hb⟩
  have HB17 := hid (HB16.out.trans (hb.mono HB16.out.size))
  have HQ17 := hid (HQ16.out.trans (hb.mono HQ16.out.size))
  have HFB17 := hid ((hb.block _ (lt_of_blk HFB16.out)).trans HFB16.out)
  have HJ17 := hid (HJ8.out.below HQ17.out)
  have HP17 := hid (HPW.out Q _ w17 HB17.out HJ17.out)
  rw [whX_same HKQ.out, chk_same (key_mod HKQ.out)] at HP17
  clear hb HB16 HQ16 HFB16 HPW HST
  go_wp2_with fail
  refine HP17.out.mono ?_
  rintro e w18 ⟨zv, z, rfl, hz, he, hb⟩
  have HB18 := hid (HB17.out.trans (hb.mono HB17.out.size))
  have HFB18 := hid ((hb.block _ (lt_of_blk HFB17.out)).trans HFB17.out)
  have HE18 := hid he
  have HZ18 := hid hz
  obtain ⟨za, zc, hz1, -⟩ := hz
  subst hz1
  clear hb he HP17 HB17 HFB17
  go_wp2_with fail
  refine (HRW.out _ HB18.out).mono ?_
  rintro e w19 ⟨vv, rfl, hv, hb⟩
  have HB19 := hid (HB18.out.trans (hb.mono HB18.out.size))
  have HFB19 := hid ((hb.block _ (lt_of_blk HFB18.out)).trans HFB18.out)
  have HE19 := hid (HE18.out.below hb)
  have HZ19 := hid (HZ18.out.below hb)
  have HV19 := hid hv
  obtain ⟨va, vc, hv1, -⟩ := hv
  subst hv1
  clear hb HRW HB18 HFB18 HE18 HZ18
  have HWB := hid (wh_len (L := L) (p := p) HQL.out)
  generalize whX Q0 L p = ZZ at *
  obtain ⟨f3, hf3⟩ : ∃ f3, chk Q0 L = f3 := ⟨_, rfl⟩
  rw [hf3] at HE19 HCL ⊢
  clear hf3
  obtain ⟨h1, h2⟩ := f3
  have HF20 := hid (fun W (h : Below w.heap.size w W) (he : ErrAt W A z h1 h2) => HFA.out (h1, h2) W z h HCL.out he)
  unfold faultV at HF20 ⊢
  simp only at HF20 HE19 ⊢
  generalize ((h1 : Nat) : Int) = G3 at *
  generalize atOf h2 = G4 at *
  obtain ⟨f0, f1', ff⟩ := bx2 HFB19.out
  have HB20 := hid (show Below w.heap.size w ((w19.setCell ⟨w8.heap.size + 1, 0, none⟩ (.int .i64 G3)).setCell ⟨w8.heap.size + 1, 1, none⟩ (.int .i64 G4)) from put2_below HB19.out (Nat.le_succ_of_le HG8.out))
  have HE20 := hid (HE19.out.set2P HFB19.out (.int .i64 G3) (.int .i64 G4))
  have HZ20 := hid (HZ19.out.set2 HFB19.out (.int .i64 G3) (.int .i64 G4))
  have HV20 := hid (HV19.out.set2 HFB19.out (.int .i64 G3) (.int .i64 G4))
  go_wp2_with fail
  generalize (w19.setCell ⟨w8.heap.size + 1, 0, none⟩ (.int .i64 G3)).setCell ⟨w8.heap.size + 1, 1, none⟩ (.int .i64 G4) = w20 at *
  clear f0 f1' ff HFB19 HE19 HZ19 HV19 HB19
  refine (HF20.out _ HB20.out HE20.out).mono ?_
  rintro e w21 ⟨rfl, hb⟩
  have HB21 := hid (HB20.out.trans (hb.mono HB20.out.size))
  have HSM := hid (sameG_any ZZ ZZ _ _ w21 HWB.out (HZ20.out.below hb) (HV20.out.below hb))
  rw [decide_eq_true rfl] at HSM
  clear hb HB20 HE20 HZ20 HV20 HF20
  go_wp2_with fail
  refine HSM.out.mono ?_
  rintro e w22 ⟨rfl, hb⟩
  have HB22 := hid (HB21.out.trans (hb.mono HB21.out.size))
  clear hb
  go_wp2_with fail
  go_ret
  exact ⟨rfl, HB22.out⟩
end Ve
end Go.Proofs.YtnkgjddkdikikaaGreatDoor
