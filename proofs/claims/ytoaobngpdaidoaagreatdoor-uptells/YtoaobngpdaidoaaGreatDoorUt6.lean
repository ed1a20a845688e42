
import Derived.Test.YtoaobngpdaidoaaGreatDoorUt5
import Derived.Test.YtoaobngpdaidoaaGreatDoorUt4
import Derived.Deep.RegionHeld
import Derived.Test.YtoaobngpdaidoaaGreatDoorOrdD
import Derived.Test.YtoaobngpdaidoaaGreatDoorVerOA
import Derived.Test.YtoaobngpdaidoaaGreatDoorUt2
import Derived.Test.YtoaobngpdaidoaaGreatDoorAhead
import Derived.Test.YtoaobngpdaidoaaGreatDoorRefF
import Derived.Test.YtoaobngpdaidoaaGreatDoorUt3
namespace Go.Proofs.YtoaobngpdaidoaaGreatDoor
open Go.RowKit Go.Maps
namespace Ve
theorem ms_one {W : World} {v : Value} {E F : List Bm} (hE : MsAt W v E) (hF : MsAt W v F) : E = F := by
  obtain ⟨a, c, rfl, _, h1⟩ := hE
  obtain ⟨a', c', e, _, h2⟩ := hF
  injection e with e1 e2 e3
  subst e1
  refine List.ext_getElem e2 fun j hj hj' => ?_
  obtain ⟨b, o, rfl, k1⟩ := h1 (fun e => by rw [e] at hj; exact absurd hj (Nat.not_lt_zero _))
  obtain ⟨b', o', e4, k2⟩ := h2 (fun e => by rw [e] at hj'; exact absurd hj' (Nat.not_lt_zero _))
  injection e4 with e4
  injection e4 with e5 e6
  subst e5 e6
  have p1 := (k1 j hj).1
  have p2 := (k1 j hj).2
  rw [(k2 j hj').1] at p1
  rw [(k2 j hj').2] at p2
  injection p1 with p1
  injection p1 with p1
  injection p2 with p2
  injection p2 with p2
  exact Prod.ext p1.symm p2.symm
open Classical in
noncomputable def rdM (W : World) (v : Value) : List Bm := if h : ∃ E, MsAt W v E then h.choose else []
theorem rdM_eq {W : World} {v : Value} {E : List Bm} (h : MsAt W v E) : rdM W v = E := by
  have he : ∃ E, MsAt W v E := ⟨E, h⟩
  unfold rdM
  rw [dif_pos he]
  exact ms_one he.choose_spec h
theorem ms_single {W : World} {b : Nat} {x : Bm} {fr : Nat × Nat} (h : W.heap[b]? = some (.cells #[.string x.1, .string x.2] 46 fr)) : MsAt W (.slice (some ⟨b, 0, none⟩) 1 1) [x] := by
  refine ⟨_, 1, rfl, Nat.le_refl _, fun _ => ⟨b, 0, rfl, fun j hj => ?_⟩⟩
  have : j = 0 := by simp at hj; exact hj
  subst this
  exact ⟨by rw [Lib.cell_of_heap h]; rfl, by rw [Lib.cell_of_heap h]; rfl⟩
theorem em_some (a : Addr) (n c : Nat) (D : List Bm) : Em (.slice (some a) n c) D := fun a' c' e _ => by
  injection e with e1 e2 e3
  subst e1 e3
  exact Or.inr ⟨a, rfl⟩
set_option maxRecDepth 100000 in
set_option maxHeartbeats 2000000 in
theorem one_bad (Q : List Raw) (L : List Ent) (roots : List Bm) (x : Bm) (v rv : Value) (A : Nat → Addr) (m : Int) (w : World) (hn : L.length ≤ 1000) (hrn : roots.length ≤ 400) (sh : ∀ e, e ∈ L → ShE e) (S : Te w A m) (I : Ixs w v Q L) (hr : MsAt w rv roots) (h0 : ¬ (chkG Q L roots).1 = 0) :
    Calls Tryz.prog 25 #[v, rv, .agg #[.string x.1, .string x.2]] w fun e w' => ∃ T a, e = .returned (.tuple #[.slice none 0 0, .iface T (.pointer (some a))]) ∧ ErrAt w' A (.iface T (.pointer (some a))) (chkG Q L roots).1 (chkG Q L roots).2 ∧ Below w.heap.size w w' := by
  obtain ⟨p, q⟩ := x
  have HB0 := hid ((Below.refl w.heap.size w).alloc (Nat.le_refl _) (.cells #[.string p, .string q] 46))
  have HBU := hid (build_bad Q L roots v rv A m _ hn (by omega) sh (S.below HB0.out) (I.below HB0.out) (hr.below HB0.out) h0)
  obtain ⟨a, c, hv, -⟩ := id I.es
  subst hv
  obtain ⟨ra, rc, hrv, -⟩ := id hr
  subst hrv
  clear S I hr sh h0
  go_enter Tryz.func25, Tryz.ntmps25
  go_wp2_with fail
  refine HBU.out.mono ?_
  rintro e w1 ⟨T, xa, rfl, he, hb⟩
  have HB1 := hid (HB0.out.trans (hb.mono HB0.out.size))
  have HE := hid he
  clear hb he HBU
  go_wp2_with fail
  go_ret2
  exact ⟨_, _, rfl, HE.out, HB1.out⟩
set_option maxRecDepth 100000 in
set_option maxHeartbeats 2000000 in
theorem one_not (Q : List Raw) (L : List Ent) (roots : List Bm) (x : Bm) (v rv : Value) (A : Nat → Addr) (m : Int) (w : World) (hn : L.length ≤ 1000) (hrn : roots.length ≤ 400) (sh : ∀ e, e ∈ L → ShE e) (S : Te w A m) (I : Ixs w v Q L) (hr : MsAt w rv roots) (h0 : (chkG Q L roots).1 = 0) (hx : ¬ x ∈ univ L) :
    Calls Tryz.prog 25 #[v, rv, .agg #[.string x.1, .string x.2]] w fun e w' => e = .returned (.tuple #[.slice none 0 0, errA A 5]) ∧ Below w.heap.size w w' := by
  obtain ⟨p, q⟩ := x
  have HB0 := hid ((Below.refl w.heap.size w).alloc (Nat.le_refl _) (.cells #[.string p, .string q] 46))
  have HM0 := hid (heap_new w (.cells #[.string p, .string q] 46))
  have HBU := hid (build_good Q L roots v rv A m _ hn (by omega) sh (S.below HB0.out) (I.below HB0.out) (hr.below HB0.out) h0)
  have HFI := hid (fun W (h : Below w.heap.size w W) => find_any Q (p, q) v W (by rw [I.ln]; omega) (I.below h).es)
  obtain ⟨k, hk, hkn⟩ : ∃ k, idxOf (isM (p, q)) Q = k ∧ k < 0 := by
    rcases idx_nat (isM (p, q)) Q with h1 | ⟨k, h1⟩
    · exact ⟨_, h1, by omega⟩
    · exact absurd ((found_iff I (p, q)).2 ⟨k, h1⟩) hx
  rw [hk] at HFI
  have HS := hid (fun W (h : Below w.heap.size w W) => S.below h)
  obtain ⟨a, c, hv, -⟩ := id I.es
  subst hv
  obtain ⟨ra, rc, hrv, -⟩ := id hr
  subst hrv
  clear S I hr sh h0 hx hk
  go_enter Tryz.func25, Tryz.ntmps25
  go_wp2_with fail
  refine HBU.out.mono ?_
  rintro e w1 ⟨u, E, rfl, -, hm⟩
  have HB1 := hid (HB0.out.trans (hm.1.mono HB0.out.size))
  have HM1 := hid ((hm.1.block _ (lt_of_blk HM0.out)).trans HM0.out)
  obtain ⟨ua, uc, hu⟩ := hm.sl
  subst hu
  obtain ⟨m0, m1, mf⟩ := box2J HM1.out
  clear hm HBU
  go_wp2_with fail
  refine (HFI.out _ HB1.out).mono ?_
  rintro e w2 ⟨rfl, hb⟩
  have HB2 := hid (HB1.out.trans (hb.mono HB1.out.size))
  have g4 := (HS.out _ HB2.out).sen.g4
  clear hb m0 m1 mf
  go_wp2_with fail
  go_quiet (fail)
  go_wp2_with fail
  go_ret2
  exact ⟨rfl, below_drawn_of HB2.out _⟩
set_option maxRecDepth 100000 in
set_option maxHeartbeats 4000000 in
theorem one_good (Q : List Raw) (L : List Ent) (roots : List Bm) (x : Bm) (v rv : Value) (A : Nat → Addr) (m : Int) (w : World) (hn : L.length ≤ 1000) (hrn : roots.length ≤ 400) (sh : ∀ e, e ∈ L → ShE e) (S : Te w A m) (I : Ixs w v Q L) (hr : MsAt w rv roots) (her : Em rv roots) (h0 : (chkG Q L roots).1 = 0) (hx : x ∈ univ L) :
    Calls Tryz.prog 25 #[v, rv, .agg #[.string x.1, .string x.2]] w fun e w' => ∃ a c, e = .returned (.tuple #[.slice a (bX Q L (roots ++ [x])).length c, .nilIface]) ∧ Mr w w' (.slice a (bX Q L (roots ++ [x])).length c) (bX Q L (roots ++ [x])) := by
  have hg : (chkG Q L (roots ++ [x])).1 = 0 := chkG_in I (chkG_chk h0) fun y hy => by
    rcases List.mem_append.1 hy with h | h
    · exact (rgt_of I h0).r y h
    · rw [List.mem_singleton.1 h]; exact hx
  obtain ⟨p, q⟩ := x
  have HB0 := hid ((Below.refl w.heap.size w).alloc (Nat.le_refl _) (.cells #[.string p, .string q] 46))
  have HM0 := hid (heap_new w (.cells #[.string p, .string q] 46))
  have HBU := hid (build_good Q L roots v rv A m _ hn (by omega) sh (S.below HB0.out) (I.below HB0.out) (hr.below HB0.out) h0)
  have HFI := hid (fun W (h : Below w.heap.size w W) => find_any Q (p, q) v W (by rw [I.ln]; omega) (I.below h).es)
  obtain ⟨k, hk⟩ := (found_iff I (p, q)).1 hx
  rw [hk] at HFI
  have hk0 : ¬ (k : Int) < 0 := by omega
  have HB2 := hid (fun W u (h : Below w.heap.size w W) (hu : MsAt W u (roots ++ [(p, q)])) => build_all Q L (roots ++ [(p, q)]) v u A m W hn (by simp; omega) sh (S.below h) (I.below h) hu)
  rw [rF_good hg] at HB2
  have HR := hid (fun W (h : Below w.heap.size w W) => hr.below h)
  have HER := hid her
  obtain ⟨a, c, hv, -⟩ := id I.es
  subst hv
  obtain ⟨ra, rc, hrv, -⟩ := id hr
  subst hrv
  clear S I hr sh h0 hx hk her hg
  go_enter Tryz.func25, Tryz.ntmps25
  go_wp2_with fail
  refine HBU.out.mono ?_
  rintro e w1 ⟨u, E, rfl, -, hm⟩
  have HB1 := hid (HB0.out.trans (hm.1.mono HB0.out.size))
  have HM1 := hid ((hm.1.block _ (lt_of_blk HM0.out)).trans HM0.out)
  obtain ⟨ua, uc, hu⟩ := hm.sl
  subst hu
  obtain ⟨m0, m1, mf⟩ := box2J HM1.out
  clear hm HBU
  go_wp2_with fail
  refine (HFI.out _ HB1.out).mono ?_
  rintro e w2 ⟨rfl, hb⟩
  have HBb := hid (HB1.out.trans (hb.mono HB1.out.size))
  have HM2 := hid ((hb.block _ (lt_of_blk HM1.out)).trans HM1.out)
  clear hb m0 m1 mf
  obtain ⟨m0, m1, mf⟩ := box2J HM2.out
  have HA3 := hid ((Below.refl w2.heap.size w2).alloc (Nat.le_refl _) (.cells #[.string p, .string q] 46))
  have HN3 := hid (heap_new w2 (.cells #[.string p, .string q] 46))
  have HA4 := hid (HA3.out.alloc HA3.out.size (.cells #[.slice ra roots.length rc, .slice (some ⟨w2.heap.size, 0, none⟩) 1 1] 23))
  have HN4 := hid (heap_old _ (.cells #[.slice ra roots.length rc, .slice (some ⟨w2.heap.size, 0, none⟩) 1 1] 23) HN3.out)
  have HL4 := hid (heap_new (w2.alloc (.cells #[.string p, .string q] 46)) (.cells #[.slice ra roots.length rc, .slice (some ⟨w2.heap.size, 0, none⟩) 1 1] 23))
  have hsz : (w2.alloc (.cells #[.string p, .string q] 46)).heap.size = w2.heap.size + 1 := by simp
  rw [hsz] at HL4
  go_wp2_with fail
  generalize (w2.alloc (.cells #[.string p, .string q] 46)).alloc (.cells #[.slice ra roots.length rc, .slice (some ⟨w2.heap.size, 0, none⟩) 1 1] 23) = w4 at *
  have HB4 := hid (HBb.out.trans (HA4.out.mono HBb.out.size))
  have HCT := hid (cat_any roots [(p, q)] (.slice ra roots.length rc) (.slice (some ⟨w2.heap.size, 0, none⟩) 1 1) (w2.heap.size + 1) w4 (by rw [Lib.cell_of_heap HL4.out]; rfl) (by rw [Lib.cell_of_heap HL4.out]; rfl) (HR.out _ HB4.out) (ms_single HN4.out) HER.out (em_some _ _ _ _) (by omega) (by simp))
  clear m0 m1 mf HA3 HA4 HN3 HN4 HL4 hsz HM2 HM1 HM0
  refine HCT.out.mono ?_
  rintro e w5 ⟨cu, rfl, ho, hb⟩
  have HB5 := hid (HB4.out.trans (hb.mono HB4.out.size))
  have HBE := hid (HB2.out w5 cu HB5.out (own_ms ho))
  obtain ⟨RX, hRX⟩ : ∃ RX, roots ++ [(p, q)] = RX := ⟨_, rfl⟩
  obtain ⟨BX, hBX⟩ : ∃ BX, bX Q L (roots ++ [(p, q)]) = BX := ⟨_, rfl⟩
  have HBX := hid hBX
  rw [hBX] at HBE
  rw [hRX] at ho
  obtain ⟨ca, cc, hcu⟩ := own_slN ho
  subst hcu
  clear ho hb HCT HB2 hRX hBX
  go_wp2_with fail
  refine HBE.out.mono ?_
  rintro e w6 ⟨xa, xc, y, rfl, hm, he⟩
  have he : y = .nilIface := he
  subst he
  have HMX := hid (hm.base HB5.out)
  clear hm HBE
  go_wp2_with fail
  go_ret2
  have h := HBX.out
  subst h
  exact ⟨_, _, rfl, HMX.out⟩
set_option maxRecDepth 100000 in
set_option maxHeartbeats 2000000 in
theorem all_bad (Q : List Raw) (L : List Ent) (roots : List Bm) (v rv : Value) (A : Nat → Addr) (m : Int) (w : World) (hn : L.length ≤ 1000) (hrn : roots.length ≤ 1000000) (sh : ∀ e, e ∈ L → ShE e) (S : Te w A m) (I : Ixs w v Q L) (hr : MsAt w rv roots) (h0 : ¬ (chkG Q L roots).1 = 0) :
    Calls Tryz.prog 23 #[v, rv] w fun e w' => ∃ T a, e = .returned (.tuple #[.slice none 0 0, .iface T (.pointer (some a))]) ∧ ErrAt w' A (.iface T (.pointer (some a))) (chkG Q L roots).1 (chkG Q L roots).2 ∧ Below w.heap.size w w' := by
  have HBU := hid (build_bad Q L roots v rv A m _ hn hrn sh S I hr h0)
  obtain ⟨a, c, hv, -⟩ := id I.es
  subst hv
  obtain ⟨ra, rc, hrv, -⟩ := id hr
  subst hrv
  clear S I hr sh h0
  go_enter Tryz.func23, Tryz.ntmps23
  go_wp2_with fail
  refine HBU.out.mono ?_
  rintro e w1 ⟨T, xa, rfl, he, hb⟩
  have HB1 := hid hb
  have HE := hid he
  clear hb he HBU
  go_wp2_with fail
  go_ret2
  exact ⟨_, _, rfl, HE.out, HB1.out⟩
structure AllR (Q : List Raw) (L : List Ent) (roots E : List Bm) : Prop where
  fx : Fix Q L (bX Q L roots) E
  sl : Sl L E
  la : LatIn Q L E
  ov : undB (bX Q L roots) E = true
set_option maxRecDepth 100000 in
set_option maxHeartbeats 4000000 in
theorem all_good (Q : List Raw) (L : List Ent) (roots : List Bm) (v rv : Value) (A : Nat → Addr) (m : Int) (w : World) (hn : L.length ≤ 400) (hrn : roots.length ≤ 1000000) (hz : ∀ r, r ∈ Q → r.1.1.size ≤ 80 ∧ r.1.2.size ≤ 80) (sh : ∀ e, e ∈ L → ShE e) (S : Te w A m) (htab : Lib.TabIs Tryz.prog w powName .u64 Lib.pow10Tab) (I : Ixs w v Q L) (hr : MsAt w rv roots) (h0 : (chkG Q L roots).1 = 0) :
    Calls Tryz.prog 23 #[v, rv] w fun e w' => ∃ a c E, e = .returned (.tuple #[.slice a E.length c, .nilIface]) ∧ Mr w w' (.slice a E.length c) E ∧ AllR Q L roots E := by
  have HC := hid (chkG_chk h0)
  have HBU := hid (build_all Q L roots v rv A m w (by omega) hrn sh S I hr)
  rw [rF_good h0] at HBU
  have HI := hid (fun W (h : Below w.heap.size w W) => I.below h)
  have HLR := hid (fun E W u (h : Below w.heap.size w W) (hE : E.length ≤ L.length) (hu : MsAt W u E) => latest_row Q E v u A m W (by rw [I.ln]; omega) (by omega) hz (S.below h) (tab_below htab h) (I.below h).es hu)
  have HLI := hid (fun E (hE : Sl L E) (hK : LatK Q E) => show LatIn Q L E from fun x hx => by
    obtain ⟨X, hX⟩ := hK x hx
    exact lat_in I HC.out ⟨x, hE.un x hx, rfl⟩ hX)
  have HB2 := hid (fun E W u (hE : Sl L E) (hl : LatIn Q L E) (hEl : E.length ≤ L.length) (h : Below w.heap.size w W) (hu : MsAt W u (E ++ latL Q E)) => build_all Q L (E ++ latL Q E) v u A m W (by omega) (by rw [List.length_append, latL_len]; omega) sh (S.below h) (I.below h) hu)
  have HG2 := hid (fun E (hE : Sl L E) (hl : LatIn Q L E) => rF_good (upG I HC.out hE hl))
  have HOV := hid (fun E (hE : Sl L E) (hl : LatIn Q L E) => up_over I HC.out hE hl)
  have HLN := hid hn
  obtain ⟨a, c, hv, -⟩ := id I.es
  subst hv
  obtain ⟨ra, rc, hrv, -⟩ := id hr
  subst hrv
  have HB0 := hid (bX_sl Q L roots)
  have HBL := hid (show (bX Q L roots).length ≤ L.length from bX_len)
  have HUR := hid (undB_refl HC.out HB0.out)
  clear S I hr sh h0 htab hz
  go_enter Tryz.func23, Tryz.ntmps23
  go_wp2_with fail
  refine HBU.out.mono ?_
  rintro e w1 ⟨xa, xc, y, rfl, hm, he⟩
  have he : y = .nilIface := he
  subst he
  have HM1 := hid hm
  clear hm HBU
  go_wp2_with fail
  go_loopw [6] (fun bv wr => ∃ E, Hid (Mr w wr bv E) ∧ Hid (∃ n, E = upN Q L (bX Q L roots) n) ∧ Hid (Sl L E) ∧ Hid (E.length ≤ L.length) ∧ Hid (undB (bX Q L roots) E = true)) (fun bv wr => L.length - cntV L (rdM wr bv))
  case atStart => exact ⟨_, HM1, hid ⟨0, rfl⟩, HB0, HBL, HUR⟩
  case round =>
    obtain ⟨E, HM, HNN, HSL, HEL, HUN⟩ := hrel
    have HRD := hid (rdM_eq HM.out.ms)
    obtain ⟨ea, ec, hu6⟩ := HM.out.sl
    subst hu6
    have HLE := hid (HLR.out E wr _ HM.out.1 HEL.out HM.out.ms)
    go_wp2_with fail
    refine HLE.out.mono ?_
    rintro e w2 ⟨lu, rfl, ho, hK, hb⟩
    have HLA := hid (HLI.out E HSL.out hK)
    have HB2' := hid (HM.out.1.trans (hb.mono HM.out.1.size))
    have HML := hid (mr_own ho hb)
    have HME := hid (HM.out.below hb)
    obtain ⟨la, lc, hlu⟩ := HML.out.sl
    subst hlu
    clear ho hK hb HLE
    have HA3 := hid ((Below.refl w2.heap.size w2).alloc (Nat.le_refl _) (.cells #[.slice ea E.length ec, .slice la (latL Q E).length lc] 23))
    have HL3 := hid (heap_new w2 (.cells #[.slice ea E.length ec, .slice la (latL Q E).length lc] 23))
    go_wp2_with fail
    generalize w2.alloc (.cells #[.slice ea E.length ec, .slice la (latL Q E).length lc] 23) = w3 at *
    have HB3 := hid (HB2'.out.trans (HA3.out.mono HB2'.out.size))
    have HCT := hid (cat_any E (latL Q E) _ _ w2.heap.size w3 (by rw [Lib.cell_of_heap HL3.out]; rfl) (by rw [Lib.cell_of_heap HL3.out]; rfl) (HME.out.ms.below HA3.out) (HML.out.ms.below HA3.out) HME.out.em HML.out.em (by have := HEL.out; have := HLN.out; omega) (by rw [latL_len]; have := HEL.out; have := HLN.out; omega))
    have HME3 := hid (HME.out.below HA3.out)
    clear HA3 HL3 HML HME
    refine HCT.out.mono ?_
    rintro e w4 ⟨cu, rfl, ho, hb⟩
    have HB4 := hid (HB3.out.trans (hb.mono HB3.out.size))
    have HBE := hid (HB2.out E w4 cu HSL.out HLA.out HEL.out HB4.out (own_ms ho))
    rw [HG2.out E HSL.out HLA.out] at HBE
    have HME4 := hid (HME3.out.below hb)
    have HUF := hid (show bX Q L (E ++ latL Q E) = upF Q L E from rfl)
    rw [HUF.out] at HBE
    obtain ⟨EL, hEL⟩ : ∃ EL, E ++ latL Q E = EL := ⟨_, rfl⟩
    rw [hEL] at ho
    obtain ⟨ca, cc, hcu⟩ := own_slN ho
    subst hcu
    clear ho hb HCT HME3 hEL HUF
    go_wp2_with fail
    refine HBE.out.mono ?_
    rintro e w5 ⟨na, nc, y, rfl, hm, he⟩
    have he : y = .nilIface := he
    subst he
    have HMN := hid (hm.base HB4.out)
    have HME5 := hid (HME4.out.below hm.1)
    have HSF := hid (show Sl L (upF Q L E) from bX_sl _ _ _)
    have HFL := hid (show (upF Q L E).length ≤ L.length from bX_len)
    have HOE := hid (HOV.out E HSL.out HLA.out)
    have HEQ := hid (eqS_any (upF Q L E) E _ _ w5 (by have := HFL.out; have := HLN.out; omega) HMN.out.ms HME5.out.ms)
    clear hm HBE HME4
    by_cases hF : upF Q L E = E
    · rw [decide_eq_true hF] at HEQ
      have HAR := hid (show AllR Q L roots E from ⟨⟨HNN.out, hF⟩, HSL.out, HLA.out, HUN.out⟩)
      rw [hF] at HMN HEQ ⊢
      clear hF HSF HFL HOE
      go_wp2_with fail
      refine HEQ.out.mono ?_
      rintro e w6 ⟨rfl, hb⟩
      have HM6 := hid (HMN.out.below hb)
      clear hb
      go_wp2_with fail
      go_ret2
      exact ⟨_, _, E, rfl, HM6.out, HAR.out⟩
    · rw [decide_eq_false hF] at HEQ
      have HCN := hid (cntV_lt HC.out HSL.out HSF.out HOE.out hF)
      have HN2 := hid (show ∃ n, upF Q L E = upN Q L (bX Q L roots) n by
        obtain ⟨n, hn⟩ := HNN.out
        exact ⟨n + 1, by rw [hn]; rfl⟩)
      have HU2 := hid (undB_trans HC.out HB0.out HSL.out HSF.out HUN.out HOE.out)
      have HCE := hid (cntV_le L (upF Q L E))
      clear hF
      generalize upF Q L E = F at *
      go_wp2_with fail
      refine HEQ.out.mono ?_
      rintro e w6 ⟨rfl, hb⟩
      have HM6 := hid (HMN.out.below hb)
      clear hb
      go_wp2_with fail
      go_roundw
      case rel => exact ⟨F, HM6, HN2, HSF, HFL, HU2⟩
      case measure =>
        show L.length - cntV L (rdM w6 _) < L.length - cntV L (rdM wr _)
        rw [rdM_eq HM6.out.ms, HRD.out]
        have h1 := HCN.out
        have h2 := HCE.out
        omega
end Ve
end Go.Proofs.YtoaobngpdaidoaaGreatDoor


namespace Go.Proofs.YtoaobngpdaidoaaGreatDoor
open Go.RowKit Go.Maps
namespace Ve
noncomputable def newsL (Q : List Raw) (E : List Bm) : List Bm := (E.filter fun m => lessB (vb m) (latV Q m.1).data.toList).map fun m => (m.1, latV Q m.1)
theorem latL_get {Q : List Raw} {E : List Bm} {i : Nat} (h : i < (latL Q E).length) (h' : i < E.length) : (latL Q E)[i] = (E[i].1, latV Q E[i].1) := by simp [latL]
theorem newsL_next {Q : List Raw} {E : List Bm} {k : Nat} (h : k < E.length) : newsL Q (E.take (k + 1)) = newsL Q (E.take k) ++ (if lessB (vb E[k]) (latV Q E[k].1).data.toList then [(E[k].1, latV Q E[k].1)] else []) := by
  unfold newsL
  rw [List.take_succ_eq_append_getElem h, List.filter_append, List.map_append]
  congr 1
  cases hb : lessB (vb E[k]) (latV Q E[k].1).data.toList <;> simp [hb]
theorem newsL_len (Q : List Raw) (E : List Bm) : (newsL Q E).length ≤ E.length := by
  unfold newsL
  rw [List.length_map]
  exact List.length_filter_le _ _
theorem lat_sz {Q : List Raw} {t : ByteArray} {X : List ByteArray} (g : Good Q) (hz : ∀ r, r ∈ Q → r.1.1.size ≤ 80 ∧ r.1.2.size ≤ 80) (hK : KeptT Q t X) : (latV Q t).size ≤ 80 := by
  rw [← latV_of hK]
  cases hX : X with
  | nil => exact Nat.zero_le _
  | cons x s =>
    have hp : 0 < X.length := by rw [hX]; simp
    rw [← hX, lastT_get hp]
    obtain ⟨r, hr, e⟩ := kept_has g (R := bestR (ofP t Q)) (fun r hr => ofP_sub r (bestR_sub hr)) hK (x := X[X.length - 1]) (List.getElem_mem _)
    rw [← e]
    exact (hz r (ofP_sub r (bestR_sub hr))).2
set_option maxRecDepth 100000 in
set_option maxHeartbeats 2000000 in
theorem news_bad (Q : List Raw) (L : List Ent) (sel : List Bm) (v sv : Value) (A : Nat → Addr) (m : Int) (w : World) (hn : L.length ≤ 1000) (sh : ∀ e, e ∈ L → ShE e) (S : Te w A m) (I : Ixs w v Q L) (hs : MsAt w sv sel) (h0 : ¬ (chk Q L).1 = 0) :
    Calls Tryz.prog 24 #[v, sv] w fun e w' => ∃ T a, e = .returned (.tuple #[.slice none 0 0, .iface T (.pointer (some a))]) ∧ ErrAt w' A (.iface T (.pointer (some a))) (chk Q L).1 (chk Q L).2 ∧ Below w.heap.size w w' := by
  have HCK := hid (icheck_any Q L v A m w (by omega) sh S I)
  obtain ⟨a, c, hv, -⟩ := id I.es
  subst hv
  obtain ⟨sa, sc, hsv, -⟩ := id hs
  subst hsv
  clear S I hs sh
  go_enter Tryz.func24, Tryz.ntmps24
  go_wp2_with fail
  refine HCK.out.mono ?_
  rintro e w1 ⟨x, rfl, he, hb⟩
  have HB1 := hid hb
  have HE := hid he
  rcases he.kind with ⟨h, _⟩ | ⟨_, T, xa, rfl⟩
  · exact absurd h h0
  clear he hb HCK h0
  go_wp2_with fail
  go_ret2
  exact ⟨_, _, rfl, HE.out, HB1.out⟩
set_option maxRecDepth 100000 in
set_option maxHeartbeats 2000000 in
theorem news_ord (Q : List Raw) (L : List Ent) (sel : List Bm) (v sv : Value) (A : Nat → Addr) (m : Int) (w : World) (hn : L.length ≤ 1000) (hsn : sel.length ≤ 1000) (sh : ∀ e, e ∈ L → ShE e) (S : Te w A m) (I : Ixs w v Q L) (hs : MsAt w sv sel) (h0 : (chk Q L).1 = 0) (h1 : risB2 sel = false) :
    Calls Tryz.prog 24 #[v, sv] w fun e w' => e = .returned (.tuple #[.slice none 0 0, errA A 8]) ∧ Below w.heap.size w w' := by
  have HCK := hid (icheck_any Q L v A m w (by omega) sh S I)
  have HIS := hid (fun W (h : Below w.heap.size w W) => isSel_any sel sv W (hs.below h) (by omega))
  rw [h1] at HIS
  have HS := hid (fun W (h : Below w.heap.size w W) => S.below h)
  obtain ⟨a, c, hv, -⟩ := id I.es
  subst hv
  obtain ⟨sa, sc, hsv, -⟩ := id hs
  subst hsv
  clear S I hs sh h1
  go_enter Tryz.func24, Tryz.ntmps24
  go_wp2_with fail
  refine HCK.out.mono ?_
  rintro e w1 ⟨x, rfl, he, hb⟩
  have HB1 := hid hb
  rcases he.kind with ⟨_, rfl⟩ | ⟨h, _⟩
  · clear he hb HCK h0
    go_wp2_with fail
    refine (HIS.out _ HB1.out).mono ?_
    rintro e w2 ⟨rfl, hb⟩
    have HB2 := hid (HB1.out.trans (hb.mono HB1.out.size))
    have g7 := (HS.out _ HB2.out).sen.g7
    clear hb
    go_wp2_with fail
    go_quiet (fail)
    go_wp2_with fail
    go_ret2
    exact ⟨rfl, below_drawn_of HB2.out _⟩
  · exact absurd h0 h
set_option maxRecDepth 100000 in
set_option maxHeartbeats 4000000 in
theorem news_good (Q : List Raw) (L : List Ent) (sel : List Bm) (v sv : Value) (A : Nat → Addr) (m : Int) (w : World) (hn : L.length ≤ 1000) (hsn : sel.length ≤ 1000) (hz : ∀ r, r ∈ Q → r.1.1.size ≤ 80 ∧ r.1.2.size ≤ 80) (hsz : ∀ x, x ∈ sel → x.2.size < 999999) (sh : ∀ e, e ∈ L → ShE e) (S : Te w A m) (htab : Lib.TabIs Tryz.prog w powName .u64 Lib.pow10Tab) (I : Ixs w v Q L) (hs : MsAt w sv sel) (h0 : (chk Q L).1 = 0) (h1 : risB2 sel = true) :
    Calls Tryz.prog 24 #[v, sv] w fun e w' => ∃ u, e = .returned (.tuple #[u, .nilIface]) ∧ w'.ownsRow w.heap.size 46 2 u (newsL Q sel).length (flatM (newsL Q sel)) ∧ Below w.heap.size w w' := by
  have HCK := hid (icheck_any Q L v A m w (by omega) sh S I)
  have HIS := hid (fun W (h : Below w.heap.size w W) => isSel_any sel sv W (hs.below h) (by omega))
  rw [h1] at HIS
  have HLR := hid (fun W (h : Below w.heap.size w W) => latest_row Q sel v sv A m W (by rw [I.ln]; omega) hsn hz (S.below h) (tab_below htab h) (I.below h).es (hs.below h))
  have HLZ := hid (fun (hK : LatK Q sel) (x : Bm) (hx : x ∈ sel) => show (latV Q x.1).size < 999999 by
    obtain ⟨X, hX⟩ := hK x hx
    have := lat_sz (good_of I h0) hz hX
    omega)
  have HLS := hid (fun (s t : ByteArray) W (h : Below w.heap.size w W) (h1 : s.size < 999999) (h2 : t.size < 999999) => less_any s t (A 0) (A 1) m W h1 h2 (S.below h).vs)
  have HMS := hid (fun W (h : Below w.heap.size w W) => hs.below h)
  have HSZ := hid hsz
  have HSN := hid (show sel.length ≤ 1000000 by omega)
  have HSL := hid hsn
  obtain ⟨i0, hi0, hz0, hz1, hz2⟩ := info_parts infoMod
  obtain ⟨a, c, hv, -⟩ := id I.es
  subst hv
  obtain ⟨sa, sc, hsv, -⟩ := id hs
  subst hsv
  clear S I hs sh h1 htab hz hsz
  go_enter Tryz.func24, Tryz.ntmps24
  go_wp2_with fail
  refine HCK.out.mono ?_
  rintro e w1 ⟨x, rfl, he, hb⟩
  have HB1 := hid hb
  rcases he.kind with ⟨_, rfl⟩ | ⟨h, _⟩
  rotate_left
  · exact absurd h0 h
  clear he hb HCK h0
  go_wp2_with fail
  refine (HIS.out _ HB1.out).mono ?_
  rintro e w2 ⟨rfl, hb⟩
  have HB2 := hid (HB1.out.trans (hb.mono HB1.out.size))
  clear hb
  go_wp2_with fail
  refine (HLR.out _ HB2.out).mono ?_
  rintro e w3 ⟨lu, rfl, ho, hK, hb⟩
  have HB3 := hid (HB2.out.trans (hb.mono HB2.out.size))
  have HML := hid (own_ms ho)
  have HKZ := hid (HLZ.out hK)
  obtain ⟨la, lc, hlu⟩ := own_slN ho
  subst hlu
  clear hb ho hK HLR HIS HLZ
  have HYL := hid (latL_len Q sel)
  have HYG := hid (fun (i : Nat) (h : i < (latL Q sel).length) (h' : i < sel.length) => latL_get (Q := Q) h h')
  obtain ⟨Y, HY⟩ : ∃ Y, Hid (latL Q sel = Y) := ⟨_, hid rfl⟩
  rw [HY.out] at HML HYL HYG ⊢
  clear HY
  go_wp2_with fail
  go_loopw [7, 23] (fun ov iv wr => ∃ i : Nat, i ≤ Y.length ∧ iv = .int .i64 i ∧ Hid (wr.ownsRow w3.heap.size 46 2 ov (newsL Q (sel.take i)).length (flatM (newsL Q (sel.take i)))) ∧ Hid (Below w3.heap.size w3 wr)) (fun _ iv _ => Y.length - (intOf iv).toNat)
  case atStart => exact ⟨0, Nat.zero_le _, rfl, hid (World.ownsRow_nil _ _ _ _), hid (Below.refl _ _)⟩
  case round =>
    obtain ⟨i, hi, rfl, HOW, HBr⟩ := hrel
    have HBw := hid (HB3.out.trans (HBr.out.mono HB3.out.size))
    by_cases hlt : i < Y.length
    · have hls : i < sel.length := by rw [← HYL.out]; exact hlt
      have hiI := ix_lt hlt
      have hsI := ix_lt hls
      have hii := ix_pos i
      have HLI := hid hlt
      have HYM := hid (show Y.length ≤ 1000000 by rw [HYL.out]; exact HSN.out)
      obtain ⟨xb, xo, hxa, x0, x1⟩ := (HML.out.below HBr.out).cells hlt
      subst hxa
      obtain ⟨yb, yo, hya, y0, y1⟩ := (HMS.out _ HBw.out).cells hls
      subst hya
      rw [HYG.out i hlt hls] at x0 x1
      have HNX := hid (newsL_next (Q := Q) hls)
      have HPZ := hid (HKZ.out sel[i] (List.getElem_mem hls))
      have HQZ := hid (HSZ.out sel[i] (List.getElem_mem hls))
      have HNL := hid (show (newsL Q (sel.take i)).length ≤ 1000 from Nat.le_trans (newsL_len Q _) (Nat.le_trans (List.length_take_le' i sel) HSL.out))
      generalize sel[i] = x at *
      obtain ⟨p, q⟩ := x
      simp only at x0 x1 y0 y1 HNX HPZ HQZ
      generalize latV Q p = lv at *
      obtain ⟨SX, hSX⟩ : ∃ SX, newsL Q (sel.take i) = SX := ⟨_, rfl⟩
      rw [hSX] at HOW HNX HNL
      clear hSX hlt hls
      have HAl := hid ((Below.refl wr.heap.size wr).alloc (Nat.le_refl _) (.cells #[.string p, .string lv] 46))
      have HBa := hid (HBr.out.trans (HAl.out.mono HBr.out.size))
      have HBv := hid (HBw.out.trans (HAl.out.mono HBw.out.size))
      have HM0 := hid (heap_new wr (.cells #[.string p, .string lv] 46))
      have HOa := hid (HOW.out.alloc (.cells #[.string p, .string lv] 46))
      have HLP := hid (fun W (h : Below w.heap.size w W) => HLS.out q lv W h HQZ.out HPZ.out)
      replace y1 := cell_below HAl.out y1
      go_wp2_with fail
      obtain ⟨wa, hwa⟩ : ∃ wa, wr.alloc (.cells #[.string p, .string lv] 46) = wa := ⟨_, rfl⟩
      rw [hwa] at HAl HBa HBv HM0 HOa y1 ⊢
      clear hwa
      obtain ⟨m0, m1, mf⟩ := box2J HM0.out
      have HW := hid (fun W' (hW : Below wa.heap.size wa W') => HBv.out.trans (hW.mono HBv.out.size))
      have HT := hid (fun W' (hW : Below wa.heap.size wa W') => (show (fun W' => W'.cell? ⟨yb, yo + i * 2 + 1, none⟩ = some (.string q) ∧ W'.cell? ⟨wr.heap.size, 1, none⟩ = some (.string lv) ∧ Hid (Below wa.heap.size wa W')) W' from ⟨cell_below hW y1, cell_below hW m1, hid hW⟩))
      change Hid (newsL Q (sel.take (i + 1)) = SX ++ if lessB q.data.toList lv.data.toList then [(p, lv)] else []) at HNX
      cases hle : lessB q.data.toList lv.data.toList with
      | false =>
        rw [hle] at HLP HNX
        have HN2 := hid (show newsL Q (sel.take (i + 1)) = SX by rw [HNX.out]; simp)
        clear hle
        go_region_held (fun W' => W'.cell? ⟨yb, yo + i * 2 + 1, none⟩ = some (.string q) ∧ W'.cell? ⟨wr.heap.size, 1, none⟩ = some (.string lv) ∧ Hid (Below wa.heap.size wa W')) (first | exact HT.out _ HRa.out | exact HT.out _ (below_drawn _ 1)) (first
          | (go_at_call 48; refine (HLP.out _ (HW.out _ (below_drawn _ 1))).mono ?_; rintro e w4 ⟨rfl, hb⟩; have HRa := hid ((below_drawn wa 1).trans (hb.mono (Nat.le_refl _))); clear hb))
        all_goals
          have HB5 := hid (HBa.out.trans (HRa.out.mono HBa.out.size))
          have HO5 := hid (owns_below HOa.out HRa.out)
          go_wp2_with fail
          go_roundw
          case rel => first | exact ⟨i + 1, HLI.out, nr_idx i, hid (by rw [HN2.out]; exact HO5.out), HB5⟩ | exact ⟨i + 1, HLI.out, nx_idx HLI.out HYM.out, hid (by rw [HN2.out]; exact HO5.out), HB5⟩
          case measure => first | exact nr_meas HLI.out | exact nx_meas HLI.out HYM.out
      | true =>
        rw [hle] at HLP HNX
        have HN2 := hid (show newsL Q (sel.take (i + 1)) = SX ++ [(p, lv)] by rw [HNX.out]; simp)
        clear hle
        go_region_held (fun W' => W'.cell? ⟨yb, yo + i * 2 + 1, none⟩ = some (.string q) ∧ W'.cell? ⟨wr.heap.size, 1, none⟩ = some (.string lv) ∧ Hid (Below wa.heap.size wa W')) (first | exact HT.out _ HRa.out | exact HT.out _ (below_drawn _ 1)) (first
          | (go_at_call 48; refine (HLP.out _ (HW.out _ (below_drawn _ 1))).mono ?_; rintro e w4 ⟨rfl, hb⟩; have HRa := hid ((below_drawn wa 1).trans (hb.mono (Nat.le_refl _))); clear hb))
        all_goals
          have HB5 := hid (HBa.out.trans (HRa.out.mono HBa.out.size))
          have HO5 := hid (owns_below HOa.out HRa.out)
          have n0 := cell_below HRa.out m0
          have n1 := cell_below HRa.out m1
          clear m0 m1 mf
          go_wp2_with (at_builtin; refine wpList_append_own _ rfl _ _ 23 rfl w3.heap.size 46 i0 _ 2 32 Tryz.underlying23 hi0 hz0 hz1 hz2 rfl (by decide) _ _ _ rfl (HO5.out.alloc _) ⟨w4.heap.size, 0, none⟩ 1 1 [.string p, .string lv] rfl rfl (World.news_of_block (heap_new _ _)) (by intro u hu; simp at hu; rcases hu with rfl | rfl <;> rfl) (Nat.le_trans (Nat.add_le_add_right HNL.out 1) (by unfold maxLen; decide)) (by have hz := HNL.out; omega) (Nat.le_trans HB5.out.size (by simp)) ?_)
          intro v' w6 hown hgrow _
          have HB6 := hid (rel_app2 HB5.out.size HB5.out HO5.out (Below.refl _ _) hgrow)
          have HO6 := hid (show w6.ownsRow w3.heap.size 46 2 v' (SX ++ [(p, lv)]).length (flatM (SX ++ [(p, lv)])) by rw [List.length_append, flatM_app]; exact hown)
          clear hown hgrow
          go_wp2_with fail
          go_roundw
          case rel => first | exact ⟨i + 1, HLI.out, nr_idx i, hid (by rw [HN2.out]; exact HO6.out), HB6⟩ | exact ⟨i + 1, HLI.out, nx_idx HLI.out HYM.out, hid (by rw [HN2.out]; exact HO6.out), HB6⟩
          case measure => first | exact nr_meas HLI.out | exact nx_meas HLI.out HYM.out
    · have hiI := ix_nlt hlt
      have HTA := hid (show sel.take i = sel from List.take_of_length_le (by have := HYL.out; omega))
      rw [HTA.out] at HOW
      have HOF := hid (own_base HOW.out HB3.out.size)
      obtain ⟨oa, oc, hov⟩ := own_slN HOW.out
      subst hov
      clear hlt
      go_wp2_with fail
      go_ret2
      exact ⟨_, rfl, HOF.out, HBw.out⟩
end Ve
end Go.Proofs.YtoaobngpdaidoaaGreatDoor


namespace Go.Proofs.YtoaobngpdaidoaaGreatDoor
open Go.RowKit Go.Maps
namespace Ve
theorem bX_of {w : World} {v : Value} {Q : List Raw} {L : List Ent} {roots D E : List Bm} (I : Ixs w v Q L) (h : (chkG Q L roots).1 = 0) (hD : ∀ m, Rch (reqQ Q L) roots m ↔ m ∈ D) (j : Jn D E) : bX Q L roots = E :=
  (bX_jn Q L roots).one j (fun m _ => by rw [rX_mem I h, hD])
theorem sm_r0 (g : Nat) : reqQ (smQ g) smL ma0 = [] := by kernel_rfl
theorem sm_chkG3 (g : Nat) : (chkG (smQ g) smL [ma0]).1 = 0 := by
  rw [chkG_ok (by rw [sm_chk])]
  show codeE (nonE (smQ g) [ma0]) 1 = 0
  kernel_rfl
theorem sm_chkG4 (g : Nat) : (chkG (smQ g) smL [ma1, mb0, ma1, mb0]).1 = 0 := by
  rw [chkG_ok (by rw [sm_chk])]
  show codeE (nonE (smQ g) [ma1, mb0, ma1, mb0]) 4 = 0
  kernel_rfl
theorem rch_sm {g : Nat} {R D : List Bm} (hR : ∀ m, m ∈ R → m ∈ D) (hD : ∀ p, p ∈ D → ∀ m, m ∈ reqQ (smQ g) smL p → m ∈ D) {m : Bm} (h : Rch (reqQ (smQ g) smL) R m) : m ∈ D := by
  induction h with
  | root hr => exact hR _ hr
  | step _ hr ih => exact hD _ ih _ hr
theorem sm_in {g : Nat} {p m : Bm} (hp : p ∈ [ma0, ma1, mb0]) (hm : m ∈ reqQ (smQ g) smL p) : p = ma1 ∧ m = mb0 := by
  rcases List.mem_cons.1 hp with rfl | hp
  · rw [sm_r0] at hm; cases hm
  · rcases List.mem_cons.1 hp with rfl | hp
    · rw [sm_r1] at hm; exact ⟨rfl, List.mem_singleton.1 hm⟩
    · rw [List.mem_singleton.1 hp, sm_rb] at hm; cases hm
theorem ma0_ne : ma0 ≠ ma1 := fun e => absurd (congrArg (fun m : Bm => m.2.data) e) (by decide)
theorem rch0 {g : Nat} (m : Bm) : Rch (reqQ (smQ g) smL) [ma0] m ↔ m ∈ [ma0] := by
  refine ⟨fun h => rch_sm (fun _ h => h) (fun p hp m hm => ?_) h, fun h => .root h⟩
  have := List.mem_singleton.1 hp
  subst this
  exact absurd (sm_in (by simp) hm).1 ma0_ne
theorem rch1 {g : Nat} (m : Bm) : Rch (reqQ (smQ g) smL) [ma0, ma1] m ↔ m ∈ [ma0, ma1, mb0] := by
  refine ⟨fun h => rch_sm (fun m h => ?_) (fun p hp m hm => ?_) h, fun h => ?_⟩
  · rcases List.mem_cons.1 h with rfl | h
    · simp
    · rw [List.mem_singleton.1 h]; simp
  · rw [(sm_in hp hm).2]; simp
  · rcases List.mem_cons.1 h with rfl | h
    · exact .root (by simp)
    · rcases List.mem_cons.1 h with rfl | h
      · exact .root (by simp)
      · rw [List.mem_singleton.1 h]
        exact .step (.root (show ma1 ∈ [ma0, ma1] by simp)) (by rw [sm_r1]; simp)
theorem rch2 {g : Nat} (m : Bm) : Rch (reqQ (smQ g) smL) [ma1, mb0, ma1, mb0] m ↔ m ∈ [ma1, mb0] := by
  refine ⟨fun h => rch_sm (fun m h => ?_) (fun p hp m hm => ?_) h, fun h => .root ?_⟩
  · have h3 : m = ma1 ∨ m = mb0 ∨ m = ma1 ∨ m = mb0 := by simpa using h
    rcases h3 with rfl | rfl | rfl | rfl <;> simp
  · rw [(sm_in (List.mem_cons_of_mem _ hp) hm).2]; simp
  · rcases List.mem_cons.1 h with rfl | h
    · simp
    · rw [List.mem_singleton.1 h]; simp
theorem sm_m0 : mErr ma0 = 0 := by kernel_rfl
theorem sm_m1 : mErr ma1 = 0 := by kernel_rfl
theorem sm_mb : mErr mb0 = 0 := by kernel_rfl
theorem jn0 : Jn [ma0] [ma0] := ⟨List.pairwise_singleton _ _, fun e he => ⟨he, by rw [List.mem_singleton.1 he]; exact sm_m0⟩, fun x hx _ => ⟨x, hx, rfl, by rw [List.mem_singleton.1 hx]; exact ordV_selfJ sm_m0⟩⟩
theorem jn2 : Jn [ma1, mb0] [ma1, mb0] := by
  refine ⟨sm_jn.ri, fun e he => ⟨he, (sm_jn.sub e he).2⟩, fun x hx h0 => ⟨x, hx, rfl, ordV_selfJ h0⟩⟩
theorem sm_ordA : ordV ma0.2.data.toList ma1.2.data.toList < 0 := of_decide_eq_true (by kernel_rfl)
theorem sm_keptA (g : Nat) : KeptT (smQ g) ma0.1 [ma0.2, ma1.2] := by
  have e : verL (bestR (ofP ma0.1 (smQ g))) = [ma0.2, ma1.2] := by kernel_rfl
  unfold KeptT
  rw [e]
  refine ⟨List.pairwise_cons.2 ⟨fun t ht => ?_, List.pairwise_singleton _ _⟩, fun t => ⟨fun ht => ⟨ht, ?_⟩, fun ht => ht.1⟩⟩
  · rw [List.mem_singleton.1 ht]; exact sm_ordA
  · have : t = ma0.2.data.toList ∨ t = ma1.2.data.toList := by simpa [bl] using ht
    rcases this with rfl | rfl
    · exact (mErr_zero sm_m0).2
    · exact (mErr_zero sm_m1).2
theorem sm_keptB (g : Nat) : KeptT (smQ g) mb0.1 [mb0.2] := by
  have e : verL (bestR (ofP mb0.1 (smQ g))) = [mb0.2] := by kernel_rfl
  unfold KeptT
  rw [e]
  refine ⟨List.pairwise_singleton _ _, fun t => ⟨fun ht => ⟨ht, ?_⟩, fun ht => ht.1⟩⟩
  have : t = mb0.2.data.toList := by simpa [bl] using ht
  rw [this]
  exact (mErr_zero sm_mb).2
theorem sm_latA (g : Nat) : latV (smQ g) ma0.1 = ma1.2 := (latV_of (sm_keptA g)).symm.trans rfl
theorem sm_latB (g : Nat) : latV (smQ g) mb0.1 = mb0.2 := (latV_of (sm_keptB g)).symm.trans rfl
theorem sm_up0 {w : World} {v : Value} {g : Nat} (I : Ixs w v (smQ g) smL) : bX (smQ g) smL [ma0] = [ma0] := bX_of I (sm_chkG3 g) rch0 jn0
theorem sm_up1 {w : World} {v : Value} {g : Nat} (I : Ixs w v (smQ g) smL) : upF (smQ g) smL [ma0] = [ma1, mb0] := by
  have e : [ma0] ++ latL (smQ g) [ma0] = [ma0, ma1] := by
    show [ma0, (ma0.1, latV (smQ g) ma0.1)] = [ma0, ma1]
    rw [sm_latA]; rfl
  unfold upF
  rw [e]
  exact bX_of I (sm_chkG2 g) rch1 sm_jn
theorem sm_up2 {w : World} {v : Value} {g : Nat} (I : Ixs w v (smQ g) smL) : upF (smQ g) smL [ma1, mb0] = [ma1, mb0] := by
  have e : [ma1, mb0] ++ latL (smQ g) [ma1, mb0] = [ma1, mb0, ma1, mb0] := by
    show [ma1, mb0, (ma1.1, latV (smQ g) ma0.1), (mb0.1, latV (smQ g) mb0.1)] = [ma1, mb0, ma1, mb0]
    rw [sm_latA, sm_latB]
  unfold upF
  rw [e]
  exact bX_of I (sm_chkG4 g) rch2 jn2
theorem sm_fix {w : World} {v : Value} {g : Nat} (I : Ixs w v (smQ g) smL) : Fix (smQ g) smL (bX (smQ g) smL [ma0]) [ma1, mb0] :=
  ⟨⟨1, by show [ma1, mb0] = upF (smQ g) smL (bX (smQ g) smL [ma0]); rw [sm_up0 I, sm_up1 I]⟩, sm_up2 I⟩
theorem sm_sz (g : Nat) : ∀ r, r ∈ smQ g → r.1.1.size ≤ 80 ∧ r.1.2.size ≤ 80 := fun r hr => by
  have : r = (ma0, .slice none 0 0, .slice none 0 0, false) ∨ r = (ma1, .slice (some ⟨g, 0, none⟩) 1 1, .slice none 0 0, false) ∨ r = (mb0, .slice none 0 0, .slice none 0 0, false) := by simpa [smQ] using hr
  rcases this with rfl | rfl | rfl
  · exact ⟨show ma0.1.size ≤ 80 by decide, show ma0.2.size ≤ 80 by decide⟩
  · exact ⟨show ma1.1.size ≤ 80 by decide, show ma1.2.size ≤ 80 by decide⟩
  · exact ⟨show mb0.1.size ≤ 80 by decide, show mb0.2.size ≤ 80 by decide⟩
set_option maxRecDepth 100000 in
set_option maxHeartbeats 4000000 in
theorem upped_any (A : Nat → Addr) (m : Int) (w : World) (S : Te w A m) (htab : Lib.TabIs Tryz.prog w powName .u64 Lib.pow10Tab) : Calls Tryz.prog 22 #[] w fun e w' => e = .returned (.bool true) ∧ Below w.heap.size w w' := by
  have HSM := hid smallI_any
  have HS := hid S
  have HT := hid htab
  clear S htab
  go_enter Tryz.func22, Tryz.ntmps22
  go_wp2_with fail
  refine (HSM.out w).mono ?_
  rintro e w1 ⟨g, q, rfl, hix, hb⟩
  have hBa := (Below.refl w1.heap.size w1).alloc (Nat.le_refl _) (.cells #[.string ⟨#[97]⟩, .string ⟨#[118, 49, 46, 48, 46, 48]⟩] 46)
  have hB1 := hb.trans (hBa.mono hb.size)
  have hms : MsAt (w1.alloc (.cells #[.string ⟨#[97]⟩, .string ⟨#[118, 49, 46, 48, 46, 48]⟩] 46)) (.slice (some ⟨w1.heap.size, 0, none⟩) 1 1) [ma0] := ms_single (x := ma0) (heap_new w1 _)
  have HAL := hid (all_good (smQ g) smL [ma0] _ _ A m _ (by decide) (by decide) (sm_sz g) sm_sh (HS.out.below hB1) (tab_below HT.out hB1) (hix.below hBa) hms (sm_chkG3 g))
  have HFX := hid (sm_fix hix)
  have HB1 := hid hB1
  clear hix hb hBa hms hB1
  go_wp2_with fail
  refine HAL.out.mono ?_
  rintro e w2 ⟨ua, uc, E, rfl, hM, hR⟩
  have hE := hR.fx.one HFX.out
  subst hE
  have HB2 := hid (HB1.out.trans (hM.1.mono HB1.out.size))
  obtain ⟨_, ua', uc', he, huc, hk⟩ := hM
  injection he with he1 he2 he3
  subst he1 he3
  obtain ⟨ug, rfl, hmw⟩ : ∃ g, ua = some ⟨g, 0, none⟩ ∧ Mw _ w2 g [ma1, mb0] := by
    rcases hk with ⟨h, _⟩ | h
    · cases h
    · exact h
  have k1 : w2.cell? ⟨ug, 1, none⟩ = some (.string ⟨#[118, 49, 46, 49, 46, 48]⟩) := hmw.c1 0 (by decide)
  have s1 : ((⟨#[118, 49, 46, 49, 46, 48]⟩ : ByteArray).toList == (⟨#[118, 49, 46, 49, 46, 48]⟩ : ByteArray).toList) = true := by simp
  rw [show ([ma1, mb0] : List Bm).length = 2 from rfl]
  clear hR hk hmw HAL he2 huc HFX
  go_wp2_with fail
  go_ret
  exact ⟨rfl, HB2.out⟩
theorem findOf_noneJ (a : Option Addr) (c : Nat) (m : Bm) (w : World) : Calls Tryz.prog 26 #[.slice a 0 c, .agg #[.string m.1, .string m.2]] w fun e w' => e = .returned (.int .i64 (-1)) ∧ Below w.heap.size w w' := by
  have HB0 := hid ((Below.refl w.heap.size w).alloc (Nat.le_refl _) (.cells #[.string m.1, .string m.2] 46))
  go_enter Tryz.func26, Tryz.ntmps26
  go_wp2_with fail
  go_loopw [5] (fun i wr => i = .int .i64 0 ∧ Hid (Below w.heap.size w wr)) (fun i _ => 0)
  case atStart => exact ⟨rfl, HB0⟩
  case round =>
    obtain ⟨rfl, HB⟩ := hrel
    go_wp2_with fail
    go_ret
    exact ⟨rfl, HB.out⟩
theorem findOf_allJ (Q : List Raw) (m : Bm) (v : Value) (w : World) (hL : Q.length ≤ 1000000) (hv : EsAt w v Q) :
    Calls Tryz.prog 26 #[v, .agg #[.string m.1, .string m.2]] w fun e w' => e = .returned (.int .i64 (idxOf (isM m) Q)) ∧ Below w.heap.size w w' := by
  by_cases hQ : Q = []
  · subst hQ
    obtain ⟨a, c, rfl, _⟩ := hv
    exact findOf_noneJ a c m w
  · exact findOf_any Q m v w hL (List.length_pos_iff.2 hQ) hv
end Ve
end Go.Proofs.YtoaobngpdaidoaaGreatDoor


namespace Go.Proofs.YtoaobngpdaidoaaGreatDoor
open Go.RowKit
namespace Ve
structure Sv (w0 W : World) (b0 o0 : Nat) (L X : List ByteArray) (v : Value) : Prop where
  own : W.ownsRow w0.heap.size 9 1 v X.length (X.map Value.string)
  nl : X = [] → v = .slice none 0 0
  bl : Below w0.heap.size w0 W
  ls : ∀ j (h : j < L.length), W.cell? ⟨b0, o0 + j, none⟩ = some (.string L[j])
theorem Sv.below {w0 W W' : World} {b0 o0 : Nat} {L X : List ByteArray} {v : Value} (h : Sv w0 W b0 o0 L X v) (hb : Below W.heap.size W W') : Sv w0 W' b0 o0 L X v :=
  ⟨owns_below h.own hb, h.nl, h.bl.trans (hb.mono h.bl.size), fun j hj => cell_below hb (h.ls j hj)⟩
theorem grown_below {W W' : World} (h : W.grownBy W' none) : Below W.heap.size W W' := ⟨h.os, h.tape, h.output, h.size, fun k hk => h.block k hk (by simp)⟩
theorem owned_cap {w : World} {base : Nat} {e : TypeId} {g n cap : Nat} {xs : List Value} (h : w.ownsRow base e 1 (.slice (some ⟨g, 0, none⟩) n cap) n xs) : n ≤ cap ∧ cap ≤ maxLen := by
  rcases h.2 with ⟨h, _⟩ | ⟨g', cap', cur, h1, _, _, h4, h5, _⟩
  · cases h
  · injection h1 with _ _ h1
    subst h1
    exact ⟨h4, h5⟩
theorem owned_at {w : World} {base : Nat} {e : TypeId} {g cap : Nat} {X : List ByteArray} (h : w.ownsRow base e 1 (.slice (some ⟨g, 0, none⟩) X.length cap) X.length (X.map Value.string)) : ∀ j (hj : j < X.length), w.cell? ⟨g, j, none⟩ = some (.string X[j]) := by
  intro j hj
  obtain ⟨g', cap', e1, _, _, h2⟩ := owned_cells h (by intro e; subst e; cases hj)
  injection e1 with e1 _ _
  injection e1 with e1
  injection e1 with e1 _ _
  rw [e1]; exact h2 j hj
theorem news_at {w : World} {g : Nat} {X : List ByteArray} (h : ∀ j (hj : j < X.length), w.cell? ⟨g, j, none⟩ = some (.string X[j])) (o m : Nat) : ∀ j u, (((X.drop o).take m).map Value.string)[j]? = some u → w.cell? ((⟨g, o, none⟩ : Addr).add j) = some u := by
  intro j u hj
  rw [List.getElem?_map, List.getElem?_take] at hj
  split at hj
  · rw [List.getElem?_drop] at hj
    cases e : X[o + j]? with
    | none => rw [e] at hj; simp at hj
    | some x =>
      rw [e] at hj
      obtain ⟨hl, e2⟩ := List.getElem?_eq_some_iff.1 e
      have := h (o + j) hl
      rw [e2] at this
      simp at hj
      rw [← hj]
      rw [Addr.add_lit]; exact this
  · simp at hj
set_option maxRecDepth 100000 in
set_option maxHeartbeats 8000000 in
theorem sortVers_some (b0 o0 cap : Nat) (L : List ByteArray) (w : World) (hL : ∀ j (h : j < L.length), w.cell? ⟨b0, o0 + j, none⟩ = some (.string L[j])) (h12 : L.length ≤ 1000) (hz : ∀ x, x ∈ L → x.size ≤ 80) :
    Calls Tryz.prog 135 #[.slice (some ⟨b0, o0, none⟩) L.length cap] w fun e w' => ∃ v X, e = .returned v ∧ w'.ownsRow w.heap.size 9 1 v X.length (X.map Value.string) ∧ Kept L L.length X ∧ Below w.heap.size w w' := by
  obtain ⟨i0, hi, hz0, hz1, hz2⟩ := info_parts infoStr
  have HL := hid hL
  have HZ := hid hz
  clear hL hz
  go_enter Tryz.func135, Tryz.ntmps135
  go_wp2_with fail
  go_loopw [3, 4] (fun v i wr => ∃ (k : Nat) (X : List ByteArray), k ≤ L.length ∧ X.length ≤ k ∧ i = .int .i64 k ∧ Hid (Kept L k X) ∧ Hid (Sv w wr b0 o0 L X v)) (fun _ i _ => L.length - (intOf i).toNat)
  case atStart => exact ⟨0, [], Nat.zero_le _, Nat.le_refl _, rfl, hid ⟨List.Pairwise.nil, fun t => by simp [bl]⟩, hid ⟨World.ownsRow_nil _ _ _ _, fun _ => rfl, Below.refl _ _, HL.out⟩⟩
  case round =>
    obtain ⟨k, X, hk, hXk, rfl, HK, HS⟩ := hrel
    by_cases hkL : k < L.length
    · have hcell := HS.out.ls k hkL
      have hq80 : L[k].size ≤ 80 := HZ.out _ (List.getElem_mem hkL)
      have HIV := hid (fun W => isVer_any L[k] W (by omega))
      have HKN := hid (fun h => kept_no hkL HK.out h)
      have HKO := hid (fun h => kept_old hkL HK.out h)
      have HKW := hid (fun h (j : Nat) hj h1 h2 => kept_new hkL HK.out h (j := j) hj h1 h2)
      have HLC := hid (fun (W : World) (v' : Value) (X' : List ByteArray) (h : Sv w W b0 o0 L X' v') => h.ls k hkL)
      have HX80 := hid (show ∀ x, x ∈ X → x.size < 999999 ∧ verErr x.data.toList = 0 from fun x hx => by
        have h1 := (HK.out.2 x.data.toList).1 (bl_mem hx)
        refine ⟨?_, h1.2⟩
        obtain ⟨y, hy, e⟩ := List.mem_map.1 h1.1
        have h2 := HZ.out y (List.mem_of_mem_take hy)
        have h3 := congrArg List.length e
        rw [len_eq, len_eq] at h3
        omega)
      generalize hq : L[k] = q at *
      clear hq
      have hkl : (k : Int) < (L.length : Int) := by omega
      have hk0 : (0 : Int) ≤ (k : Int) := by omega
      by_cases hv : verErr q.data.toList = 0
      · rw [decide_eq_true hv] at HIV
        have HV := hid hv
        clear hv
        go_wp2_with fail
        refine (HIV.out _).mono ?_
        rintro e w1 ⟨rfl, hb1⟩
        have HS1 := hid (HS.out.below hb1)
        clear hb1 hcell
        go_wp2_with fail
        go_loopw [6] (fun a wr2 => ∃ j : Nat, j ≤ X.length ∧ a = .int .i64 j ∧ Hid (∀ t (ht : t < X.length), t < j → ordV X[t].data.toList q.data.toList < 0) ∧ Hid (Sv w wr2 b0 o0 L X u3)) (fun a _ => X.length - (intOf a).toNat)
        case atStart => exact ⟨0, Nat.zero_le _, rfl, hid (fun t _ h => absurd h (Nat.not_lt_zero t)), HS1⟩
        case round =>
          obtain ⟨j, hj, rfl, HLT, HS2⟩ := hrel
          by_cases hX : X = []
          · subst hX
            obtain rfl := HS2.out.nl rfl
            obtain rfl : j = 0 := by simpa using hj
            go_wp2_with fail
            go_region
            have HSX := hid (HS2.out.below (below_drawn _ 1))
            have hc := HLC.out _ _ _ HS2.out
            have hwz := HS2.out.bl.size
            go_wp2_with (first
              | (at_builtin; refine wpList_append_own_none rfl _ _ 54 rfl 0 9 i0 1 Tryz.underlying54 hi _ _ _ rfl (World.ownsRow_nil _ _ _ _) rfl ?_)
              | (at_builtin; refine wpList_append_own _ rfl _ _ 54 rfl w.heap.size 9 i0 (.string ByteArray.empty) 1 16 Tryz.underlying54 hi hz0 hz1 hz2 rfl (by decide) _ _ _ rfl (World.ownsRow_nil _ _ _ _) ⟨wr.heap.size, 0, none⟩ 1 1 [.string q] rfl rfl ?c1 ?c2 ?c3 ?c4 ?c5 ?_))
            case c1 =>
              intro t u ht
              match t, ht with
              | 0, ht => simp at ht; subst ht; simp [Addr.add]
            case c2 => intro u hu; simp at hu; subst hu; rfl
            case c3 => unfold maxLen; omega
            case c4 => omega
            case c5 => simp; omega
            intro v1 W1 hown1 hgr1 _
            have HO1 := hid hown1
            have HB1 := hid (((Below.refl wr.heap.size wr).trans ((below_drawn wr 1).alloc (Nat.le_refl _) _)).grown hgr1 (by simp) (fun t ht => by cases ht))
            have HS3 := hid (HS2.out.below HB1.out)
            clear hown1 hgr1 hc
            go_wp2_with (at_builtin; refine wpList_append_own_none rfl _ _ 54 rfl _ 9 i0 1 Tryz.underlying54 hi _ _ _ rfl (HO1.out) rfl ?_)
            go_roundw
            case rel => exact ⟨k + 1, [q], by omega, by simp, by go_num, hid (by simpa using HKW.out HV.out 0 (Nat.zero_le _) (fun t ht => absurd ht (by simp)) (fun ht => absurd ht (by simp))), hid ⟨by simpa using HO1.out, (fun h => by cases h), HS3.out.bl, HS3.out.ls⟩⟩
            case measure => simp [intOf]; omega
          · obtain ⟨g, cp, rfl, hg, hgz, _⟩ := owned_cells HS2.out.own hX
            by_cases hjX : j < X.length
            · have HTW := hid (fun (W : World) (h : Sv w W b0 o0 L X (.slice (some ⟨g, 0, none⟩) X.length cp)) => And.intro (owned_at h.own j hjX) (And.intro (HLC.out _ _ _ h) (hid h)))
              have HXJ := hid (HX80.out X[j] (List.getElem_mem hjX))
              have HXM := hid (bl_mem (List.getElem_mem hjX))
              have hj0 : (0 : Int) ≤ (j : Int) := by omega
              have hjl : (j : Int) < (X.length : Int) := by omega
              by_cases ho : ordV X[j].data.toList q.data.toList < 0
              · have HL2 := hid (show ∀ t (ht : t < X.length), t < j + 1 → ordV X[t].data.toList q.data.toList < 0 from fun t ht hl => by
                  by_cases e : t = j
                  · subst e; exact ho
                  · exact HLT.out t ht (by omega))
                have HLT := hid True.intro
                generalize hxj : X[j] = xj at *
                clear hxj
                have HOV := hid (fun W => orderVer_any xj q W HXJ.out.1 (by omega) HXJ.out.2 HV.out)
                obtain ⟨x1, x2, _⟩ := HTW.out _ HS2.out
                generalize ordV xj.data.toList q.data.toList = od at HOV ho
                go_wp2_with fail
                go_region_held (fun W => W.cell? ⟨g, j, none⟩ = some (.string xj) ∧ W.cell? ⟨b0, o0 + k, none⟩ = some (.string q) ∧ Hid (Sv w W b0 o0 L X (.slice (some ⟨g, 0, none⟩) X.length cp))) (first | exact HTW.out _ HS3.out | exact HTW.out _ (HS2.out.below (below_drawn _ 1))) (first
                  | (go_at_call 91; refine (HOV.out _).mono ?_; rintro e w' ⟨rfl, hb⟩; have HS3 := hid ((HS2.out.below (below_drawn _ 1)).below hb); clear hb))
                all_goals
                  go_wp2_with fail
                  go_roundw
                  case rel => exact ⟨j + 1, by omega, by go_num, HL2, HS3⟩
                  case measure => simp [intOf]; omega
              · by_cases he : X[j] = q
                · have HK2 := hid (HKO.out (by rw [← he]; exact HXM.out))
                  subst he
                  generalize hxj : X[j] = xj at *
                  clear hxj
                  have HOV := hid (fun W => orderVer_any xj xj W HXJ.out.1 (by omega) HXJ.out.2 HV.out)
                  obtain ⟨x1, x2, _⟩ := HTW.out _ HS2.out
                  have hss : (xj.toList == xj.toList) = true := by simp
                  generalize ordV xj.data.toList xj.data.toList = od at HOV ho
                  go_wp2_with fail
                  go_region_held (fun W => W.cell? ⟨g, j, none⟩ = some (.string xj) ∧ W.cell? ⟨b0, o0 + k, none⟩ = some (.string xj) ∧ Hid (Sv w W b0 o0 L X (.slice (some ⟨g, 0, none⟩) X.length cp))) (first | exact HTW.out _ HS3.out | exact HTW.out _ (HS2.out.below (below_drawn _ 1))) (first
                    | (go_at_call 91; refine (HOV.out _).mono ?_; rintro e w' ⟨rfl, hb⟩; have HS3 := hid ((HS2.out.below (below_drawn _ 1)).below hb); clear hb))
                  all_goals
                    clear x1 x2
                    obtain ⟨x1, x2, _⟩ := HTW.out _ HS3.out
                    go_wp2_with fail
                    go_quiet (fail)
                    go_wp2_with fail
                    go_roundw
                    case rel => exact ⟨k + 1, X, by omega, by omega, by go_num, HK2, hid (HS3.out.below (below_drawn _ _))⟩
                    case measure => simp [intOf]; omega
                · have hss := str_ne he
                  have HKX := hid (HKW.out HV.out j hj HLT.out (fun _ => ⟨by omega, fun e => he (str_ext e)⟩))
                  clear he
                  generalize hxj : X[j] = xj at *
                  clear hxj
                  have HOV := hid (fun W => orderVer_any xj q W HXJ.out.1 (by omega) HXJ.out.2 HV.out)
                  obtain ⟨x1, x2, _⟩ := HTW.out _ HS2.out
                  generalize ordV xj.data.toList q.data.toList = od at HOV ho
                  go_wp2_with fail
                  go_region_held (fun W => W.cell? ⟨g, j, none⟩ = some (.string xj) ∧ W.cell? ⟨b0, o0 + k, none⟩ = some (.string q) ∧ Hid (Sv w W b0 o0 L X (.slice (some ⟨g, 0, none⟩) X.length cp))) (first | exact HTW.out _ HS3.out | exact HTW.out _ (HS2.out.below (below_drawn _ 1))) (first
                    | (go_at_call 91; refine (HOV.out _).mono ?_; rintro e w' ⟨rfl, hb⟩; have HS3 := hid ((HS2.out.below (below_drawn _ 1)).below hb); clear hb))
                  all_goals
                    clear x1 x2
                    obtain ⟨x1, x2, _⟩ := HTW.out _ HS3.out
                    go_wp2_with fail
                    go_quiet (fail)
                    have HSX := hid (HS3.out.below (below_drawn w' nq))
                    clear x1 x2
                    generalize w'.drewN nq = W at *
                    have hcl := owned_at HSX.out.own
                    have hc := HLC.out _ _ _ HSX.out
                    have hcap := owned_cap HSX.out.own
                    have hcp : cp ≤ 9223372036854775807 := hcap.2
                    have t1 : (0 : Int) ≤ (j : Int) := by omega
                    have t2 : (j : Int) ≤ (cp : Int) := by omega
                    have t3 : (j : Int) ≤ (X.length : Int) := by omega
                    have t4 : (X.length : Int) ≤ (cp : Int) := by omega
                    have HCL := hid hcl
                    clear hcl hcap
                    go_wp2_with (at_builtin; refine wpList_append_own _ rfl _ _ 54 rfl W.heap.size 9 i0 (.string ByteArray.empty) 1 16 Tryz.underlying54 hi hz0 hz1 hz2 rfl (by decide) _ _ _ rfl (World.ownsRow_nil _ _ _ _) ⟨g, 0, none⟩ j cp ((X.take j).map Value.string) rfl ?c0 ?c1 ?c2 ?c3 ?c4 ?c5 ?_)
                    case c0 => first | (simp; done) | (simp; omega)
                    case c1 => intro t u ht; exact news_at HCL.out 0 j t u (by simpa using ht)
                    case c2 => intro u hu; obtain ⟨x, _, rfl⟩ := List.mem_map.1 hu; rfl
                    case c3 => unfold maxLen; omega
                    case c4 => omega
                    case c5 => exact Nat.le_refl _
                    intro v1 W1 hown1 hgr1 _
                    have HO1 := hid hown1
                    have HB1 := hid (grown_below hgr1)
                    have HS4 := hid (HSX.out.below HB1.out)
                    have hc1 := HLC.out _ _ _ HS4.out
                    have hw1 := HB1.out.size
                    clear hown1 hgr1 hc
                    go_wp2_with (at_builtin; refine wpList_append_own _ rfl _ _ 54 rfl W.heap.size 9 i0 (.string ByteArray.empty) 1 16 Tryz.underlying54 hi hz0 hz1 hz2 rfl (by decide) _ _ _ rfl (HO1.out.alloc _) ⟨W1.heap.size, 0, none⟩ 1 1 [.string q] rfl rfl ?c1 ?c2 ?c3 ?c4 ?c5 ?_)
                    case c1 =>
                      intro t u ht
                      match t, ht with
                      | 0, ht => simp at ht; subst ht; simp [Addr.add]
                    case c2 => intro u hu; simp at hu; subst hu; rfl
                    case c3 => unfold maxLen; omega
                    case c4 => omega
                    case c5 => simp; omega
                    intro v2 W2 hown2 hgr2 _
                    have HO2 := hid hown2
                    have HB2 := hid (rel_app HB1.out.size HB1.out HO1.out (Below.refl _ _) hgr2)
                    have HS5 := hid (HSX.out.below HB2.out)
                    have HCL2 := hid (owned_at HS5.out.own)
                    have hw2 := HB2.out.size
                    clear hown2 hgr2 hc1
                    go_wp2_with (at_builtin; refine wpList_append_own _ rfl _ _ 54 rfl W.heap.size 9 i0 (.string ByteArray.empty) 1 16 Tryz.underlying54 hi hz0 hz1 hz2 rfl (by decide) _ _ _ rfl HO2.out ⟨g, j, none⟩ (X.length - j) (cp - j) ((X.drop j).map Value.string) rfl ?c0 ?c1 ?c2 ?c3 ?c4 ?c5 ?_)
                    case c0 => simp
                    case c1 => intro t u ht; exact news_at HCL2.out j (X.length - j) t u (by rw [List.take_of_length_le (by simp)]; exact ht)
                    case c2 => intro u hu; obtain ⟨x, _, rfl⟩ := List.mem_map.1 hu; rfl
                    case c3 => unfold maxLen; omega
                    case c4 => omega
                    case c5 => exact hw2
                    intro v3 W3 hown3 hgr3 _
                    have HB3 := hid (HB2.out.grown hgr3 hw2 (fun t ht => (HO2.out.lt t ht).1))
                    have HS6 := hid (HSX.out.below HB3.out)
                    have HO3 := hid (show W3.ownsRow w.heap.size 9 1 v3 (X.take j ++ q :: X.drop j).length ((X.take j ++ q :: X.drop j).map Value.string) by
                      have h := owns_mono hown3 (HSX.out.bl.size)
                      have e1 : (X.take j ++ q :: X.drop j).length = j + 1 + (X.length - j) := by simp; omega
                      rw [e1]
                      simpa using h)
                    clear hown3 hgr3
                    go_wp2_with fail
                    go_roundw
                    case rel => exact ⟨k + 1, X.take j ++ q :: X.drop j, by omega, by simp; omega, by go_num, HKX, hid ⟨HO3.out, (fun h => by simp at h), HS6.out.bl, HS6.out.ls⟩⟩
                    case measure => simp [intOf]; omega
            · obtain rfl : j = X.length := by omega
              have HKX := hid (HKW.out HV.out X.length hj HLT.out (fun h => absurd h hjX))
              go_wp2_with fail
              go_region
              have HSX := hid (show Sv w wr.drew b0 o0 L X (.slice (some ⟨g, 0, none⟩) X.length cp) from HS2.out.below (below_drawn wr 1))
              generalize wr.drew = W at *
              have hcap0 := owned_cap HSX.out.own
              by_cases hcx : cp = X.length
              · subst hcx
                have hcl := owned_at HSX.out.own
                have hc := HLC.out _ _ _ HSX.out
                have hcap := owned_cap HSX.out.own
                have hcp : X.length ≤ 9223372036854775807 := hcap.2
                have t1 : (0 : Int) ≤ (X.length : Int) := by omega
                have t2 : (X.length : Int) ≤ (X.length : Int) := by omega
                have t3 : (X.length : Int) ≤ (X.length : Int) := by omega
                have t4 : (X.length : Int) ≤ (X.length : Int) := by omega
                have HCL := hid hcl
                clear hcl hcap
                go_wp2_with (at_builtin; refine wpList_append_own _ rfl _ _ 54 rfl W.heap.size 9 i0 (.string ByteArray.empty) 1 16 Tryz.underlying54 hi hz0 hz1 hz2 rfl (by decide) _ _ _ rfl (World.ownsRow_nil _ _ _ _) ⟨g, 0, none⟩ (X.length) X.length ((X.take (X.length)).map Value.string) rfl ?c0 ?c1 ?c2 ?c3 ?c4 ?c5 ?_)
                case c0 => first | (simp; done) | (simp; omega)
                case c1 => intro t u ht; exact news_at HCL.out 0 (X.length) t u (by simpa using ht)
                case c2 => intro u hu; obtain ⟨x, _, rfl⟩ := List.mem_map.1 hu; rfl
                case c3 => unfold maxLen; omega
                case c4 => omega
                case c5 => exact Nat.le_refl _
                intro v1 W1 hown1 hgr1 _
                have HO1 := hid hown1
                have HB1 := hid (grown_below hgr1)
                have HS4 := hid (HSX.out.below HB1.out)
                have hc1 := HLC.out _ _ _ HS4.out
                have hw1 := HB1.out.size
                clear hown1 hgr1 hc
                go_wp2_with (at_builtin; refine wpList_append_own _ rfl _ _ 54 rfl W.heap.size 9 i0 (.string ByteArray.empty) 1 16 Tryz.underlying54 hi hz0 hz1 hz2 rfl (by decide) _ _ _ rfl (HO1.out.alloc _) ⟨W1.heap.size, 0, none⟩ 1 1 [.string q] rfl rfl ?c1 ?c2 ?c3 ?c4 ?c5 ?_)
                case c1 =>
                  intro t u ht
                  match t, ht with
                  | 0, ht => simp at ht; subst ht; simp [Addr.add]
                case c2 => intro u hu; simp at hu; subst hu; rfl
                case c3 => unfold maxLen; omega
                case c4 => omega
                case c5 => simp; omega
                intro v2 W2 hown2 hgr2 _
                have HO2 := hid hown2
                have HB2 := hid (rel_app HB1.out.size HB1.out HO1.out (Below.refl _ _) hgr2)
                have HS5 := hid (HSX.out.below HB2.out)
                have HCL2 := hid (owned_at HS5.out.own)
                have hw2 := HB2.out.size
                clear hown2 hgr2 hc1
                go_wp2_with (at_builtin; refine wpList_append_own _ rfl _ _ 54 rfl W.heap.size 9 i0 (.string ByteArray.empty) 1 16 Tryz.underlying54 hi hz0 hz1 hz2 rfl (by decide) _ _ _ rfl HO2.out _ _ _ [] rfl ?c0 ?c1 ?c2 ?c3 ?c4 ?c5 ?_)
                case c0 => simp
                case c1 => intro t u ht; simp at ht
                case c2 => intro u hu; cases hu
                case c3 => unfold maxLen; omega
                case c4 => omega
                case c5 => exact hw2
                intro v3 W3 hown3 hgr3 _
                have HB3 := hid (HB2.out.grown hgr3 hw2 (fun t ht => (HO2.out.lt t ht).1))
                have HS6 := hid (HSX.out.below HB3.out)
                have HO3 := hid (show W3.ownsRow w.heap.size 9 1 v3 (X.take (X.length) ++ q :: X.drop (X.length)).length ((X.take (X.length) ++ q :: X.drop (X.length)).map Value.string) by
                  have h := owns_mono hown3 (HSX.out.bl.size)
                  have e1 : (X.take (X.length) ++ q :: X.drop (X.length)).length = X.length + 1 := by simp
                  rw [e1]
                  simpa using h)
                clear hown3 hgr3
                go_wp2_with fail
                go_roundw
                case rel => exact ⟨k + 1, X.take (X.length) ++ q :: X.drop (X.length), by omega, by simp; omega, by go_num, HKX, hid ⟨HO3.out, (fun h => by simp at h), HS6.out.bl, HS6.out.ls⟩⟩
                case measure => simp [intOf]; omega
              · have hcx1 : X.length < cp := by omega
                have hcx2 : (X.length : Int) < (cp : Int) := by omega
                have hcl := owned_at HSX.out.own
                have hc := HLC.out _ _ _ HSX.out
                have hcap := owned_cap HSX.out.own
                have hcp : cp ≤ 9223372036854775807 := hcap.2
                have t1 : (0 : Int) ≤ (X.length : Int) := by omega
                have t2 : (X.length : Int) ≤ (cp : Int) := by omega
                have t3 : (X.length : Int) ≤ (X.length : Int) := by omega
                have t4 : (X.length : Int) ≤ (cp : Int) := by omega
                have HCL := hid hcl
                clear hcl hcap
                go_wp2_with (at_builtin; refine wpList_append_own _ rfl _ _ 54 rfl W.heap.size 9 i0 (.string ByteArray.empty) 1 16 Tryz.underlying54 hi hz0 hz1 hz2 rfl (by decide) _ _ _ rfl (World.ownsRow_nil _ _ _ _) ⟨g, 0, none⟩ (X.length) cp ((X.take (X.length)).map Value.string) rfl ?c0 ?c1 ?c2 ?c3 ?c4 ?c5 ?_)
                case c0 => first | (simp; done) | (simp; omega)
                case c1 => intro t u ht; exact news_at HCL.out 0 (X.length) t u (by simpa using ht)
                case c2 => intro u hu; obtain ⟨x, _, rfl⟩ := List.mem_map.1 hu; rfl
                case c3 => unfold maxLen; omega
                case c4 => omega
                case c5 => exact Nat.le_refl _
                intro v1 W1 hown1 hgr1 _
                have HO1 := hid hown1
                have HB1 := hid (grown_below hgr1)
                have HS4 := hid (HSX.out.below HB1.out)
                have hc1 := HLC.out _ _ _ HS4.out
                have hw1 := HB1.out.size
                clear hown1 hgr1 hc
                go_wp2_with (at_builtin; refine wpList_append_own _ rfl _ _ 54 rfl W.heap.size 9 i0 (.string ByteArray.empty) 1 16 Tryz.underlying54 hi hz0 hz1 hz2 rfl (by decide) _ _ _ rfl (HO1.out.alloc _) ⟨W1.heap.size, 0, none⟩ 1 1 [.string q] rfl rfl ?c1 ?c2 ?c3 ?c4 ?c5 ?_)
                case c1 =>
                  intro t u ht
                  match t, ht with
                  | 0, ht => simp at ht; subst ht; simp [Addr.add]
                case c2 => intro u hu; simp at hu; subst hu; rfl
                case c3 => unfold maxLen; omega
                case c4 => omega
                case c5 => simp; omega
                intro v2 W2 hown2 hgr2 _
                have HO2 := hid hown2
                have HB2 := hid (rel_app HB1.out.size HB1.out HO1.out (Below.refl _ _) hgr2)
                have HS5 := hid (HSX.out.below HB2.out)
                have HCL2 := hid (owned_at HS5.out.own)
                have hw2 := HB2.out.size
                clear hown2 hgr2 hc1
                go_wp2_with (at_builtin; refine wpList_append_own _ rfl _ _ 54 rfl W.heap.size 9 i0 (.string ByteArray.empty) 1 16 Tryz.underlying54 hi hz0 hz1 hz2 rfl (by decide) _ _ _ rfl HO2.out _ _ _ [] rfl ?c0 ?c1 ?c2 ?c3 ?c4 ?c5 ?_)
                case c0 => simp
                case c1 => intro t u ht; simp at ht
                case c2 => intro u hu; cases hu
                case c3 => unfold maxLen; omega
                case c4 => omega
                case c5 => exact hw2
                intro v3 W3 hown3 hgr3 _
                have HB3 := hid (HB2.out.grown hgr3 hw2 (fun t ht => (HO2.out.lt t ht).1))
                have HS6 := hid (HSX.out.below HB3.out)
                have HO3 := hid (show W3.ownsRow w.heap.size 9 1 v3 (X.take (X.length) ++ q :: X.drop (X.length)).length ((X.take (X.length) ++ q :: X.drop (X.length)).map Value.string) by
                  have h := owns_mono hown3 (HSX.out.bl.size)
                  have e1 : (X.take (X.length) ++ q :: X.drop (X.length)).length = X.length + 1 := by simp
                  rw [e1]
                  simpa using h)
                clear hown3 hgr3
                go_wp2_with fail
                go_roundw
                case rel => exact ⟨k + 1, X.take (X.length) ++ q :: X.drop (X.length), by omega, by simp; omega, by go_num, HKX, hid ⟨HO3.out, (fun h => by simp at h), HS6.out.bl, HS6.out.ls⟩⟩
                case measure => simp [intOf]; omega
      · rw [decide_eq_false hv] at HIV
        have HK2 := hid (HKN.out hv)
        clear hv
        go_wp2_with fail
        refine (HIV.out _).mono ?_
        rintro e w1 ⟨rfl, hb1⟩
        have HS1 := hid (HS.out.below hb1)
        clear hb1 hcell
        go_wp2_with fail
        go_roundw
        case rel => exact ⟨k + 1, X, by omega, by omega, by go_num, HK2, HS1⟩
        case measure => simp [intOf]; omega
    · have hke : k = L.length := by omega
      subst hke
      go_wp2_with fail
      go_ret
      exact ⟨_, X, rfl, HS.out.own, HK.out, HS.out.bl⟩
end Ve
end Go.Proofs.YtoaobngpdaidoaaGreatDoor


namespace Go.Proofs.YtoaobngpdaidoaaGreatDoor
open Go.RowKit Go.Maps
namespace Ve
def rnk (r : Raw) : Nat := if r.2.2.2 then 0 else if 0 < (preOf r.1.2.data.toList).length then 1 else 2
theorem rnk_b {r : Raw} (h : r.2.2.2 = true) : rnk r = 0 := if_pos h
theorem rnk_p {r : Raw} (h : r.2.2.2 = false) (hp : 0 < (preOf r.1.2.data.toList).length) : rnk r = 1 := by unfold rnk; rw [if_neg (by rw [h]; simp), if_pos hp]
theorem rnk_n {r : Raw} (h : r.2.2.2 = false) (hp : ¬ 0 < (preOf r.1.2.data.toList).length) : rnk r = 2 := by unfold rnk; rw [if_neg (by rw [h]; simp), if_neg hp]
theorem rnk_le (r : Raw) : rnk r ≤ 2 := by
  unfold rnk
  split
  · omega
  · split <;> omega
def rkV (Q : List Raw) (t v : ByteArray) : Nat := match Q.find? (fun r => decide (r.1.1 = t ∧ r.1.2 = v)) with
  | some r => rnk r
  | none => 0
def likS (Q : List Raw) (t : ByteArray) (s : ByteArray × Int) (v : ByteArray) : ByteArray × Int := if s.2 ≤ (rkV Q t v : Int) then (v, (rkV Q t v : Int)) else s
def likN (Q : List Raw) (t : ByteArray) (X : List ByteArray) (i : Nat) : ByteArray × Int := (X.take i).foldl (likS Q t) (⟨#[]⟩, -1)
theorem likN_next {Q : List Raw} {t : ByteArray} {X : List ByteArray} {i : Nat} (h : i < X.length) : likN Q t X (i + 1) = likS Q t (likN Q t X i) X[i] := by
  unfold likN
  rw [List.take_succ_eq_append_getElem h, List.foldl_append]; rfl
structure Lik (Q : List Raw) (t : ByteArray) (X : List ByteArray) (i : Nat) (s : ByteArray × Int) : Prop where
  z : i = 0 → s = (⟨#[]⟩, -1)
  p : 0 < i → ∃ j, ∃ hj : j < X.length, j < i ∧ s = (X[j], (rkV Q t X[j] : Int)) ∧ (∀ k (hk : k < X.length), k < i → rkV Q t X[k] ≤ rkV Q t X[j]) ∧ ∀ k (hk : k < X.length), k < i → j < k → rkV Q t X[k] < rkV Q t X[j]
theorem likN_is {Q : List Raw} {t : ByteArray} {X : List ByteArray} : ∀ i, i ≤ X.length → Lik Q t X i (likN Q t X i)
  | 0, _ => ⟨fun _ => rfl, fun h => absurd h (Nat.lt_irrefl _)⟩
  | i + 1, hi => by
    have h : i < X.length := hi
    have ih := likN_is (Q := Q) (t := t) (X := X) i (Nat.le_of_lt h)
    rw [likN_next h]
    refine ⟨fun e => by omega, fun _ => ?_⟩
    unfold likS
    by_cases h0 : i = 0
    · rw [ih.z h0]
      rw [if_pos (show (-1 : Int) ≤ (rkV Q t X[i] : Int) by omega)]
      refine ⟨i, h, by omega, rfl, fun k hk hki => ?_, fun k hk hki hik => by omega⟩
      have : k = i := by omega
      subst this; exact Nat.le_refl _
    · obtain ⟨j, hj, hji, hs, h1, h2⟩ := ih.p (by omega)
      rw [hs]
      by_cases hc : ((rkV Q t X[j] : Nat) : Int) ≤ (rkV Q t X[i] : Int)
      · rw [if_pos hc]
        refine ⟨i, h, by omega, rfl, fun k hk hki => ?_, fun k hk hki hik => by omega⟩
        rcases Nat.lt_or_ge k i with h3 | h3
        · have := h1 k hk h3; omega
        · have : k = i := by omega
          subst this; exact Nat.le_refl _
      · rw [if_neg hc]
        refine ⟨j, hj, by omega, rfl, fun k hk hki => ?_, fun k hk hki hjk => ?_⟩
        · rcases Nat.lt_or_ge k i with h3 | h3
          · exact h1 k hk h3
          · have : k = i := by omega
            subst this; omega
        · rcases Nat.lt_or_ge k i with h3 | h3
          · exact h2 k hk h3 hjk
          · have : k = i := by omega
            subst this; omega
theorem rkV_at {Q : List Raw} (g : Good Q) {r : Raw} (hr : r ∈ Q) : rkV Q r.1.1 r.1.2 = rnk r := by
  unfold rkV
  cases hf : Q.find? (fun x => decide (x.1.1 = r.1.1 ∧ x.1.2 = r.1.2)) with
  | none =>
    have := List.find?_eq_none.1 hf r hr
    simp at this
  | some s =>
    have h1 := List.find?_some hf
    have h2 := List.mem_of_find?_eq_some hf
    have h3 : s.1.1 = r.1.1 ∧ s.1.2 = r.1.2 := by simpa using h1
    rw [g.same h2 hr (Prod.ext h3.1 h3.2)]
theorem rnk_best {Q R : List Raw} (g : Good Q) (hR : ∀ r, r ∈ R → r ∈ Q) {r : Raw} (hr : r ∈ R) : r ∈ bestR R ↔ ∀ s, s ∈ R → rnk s ≤ rnk r := by
  have hv : ∀ s, s ∈ R → (isD s = true ↔ (preOf s.1.2.data.toList).length = 0) := fun s hs => by
    unfold isD preB
    rw [decide_eq_true (g.ver s (hR s hs)), Bool.true_and]
    simp
  have k2 : ∀ s, s ∈ R → (rnk s = 2 ↔ isS s = true ∧ isD s = true) := fun s hs => by
    rw [hv s hs]
    unfold isS
    cases hb : s.2.2.2
    · by_cases hp : 0 < (preOf s.1.2.data.toList).length
      · rw [rnk_p hb hp]
        exact ⟨fun h => absurd h (by decide), fun h => absurd h.2 (by omega)⟩
      · rw [rnk_n hb hp]
        exact ⟨fun _ => ⟨rfl, by omega⟩, fun _ => rfl⟩
    · rw [rnk_b hb]
      exact ⟨fun h => absurd h (by decide), fun h => absurd h.1 (by decide)⟩
  have k1 : ∀ s, s ∈ R → (0 < rnk s ↔ isS s = true) := fun s _ => by
    unfold isS
    cases hb : s.2.2.2
    · by_cases hp : 0 < (preOf s.1.2.data.toList).length
      · rw [rnk_p hb hp]; exact ⟨fun _ => rfl, fun _ => by decide⟩
      · rw [rnk_n hb hp]; exact ⟨fun _ => rfl, fun _ => by decide⟩
    · rw [rnk_b hb]; exact ⟨fun h => absurd h (by decide), fun h => absurd h (by decide)⟩
  have k3 := rnk_le
  unfold bestR
  by_cases hd : 0 < ((R.filter isS).filter isD).length
  · rw [if_pos hd]
    obtain ⟨x, hx⟩ := List.exists_mem_of_length_pos hd
    obtain ⟨hx1, hx2⟩ := List.mem_filter.1 hx
    obtain ⟨hx3, hx4⟩ := List.mem_filter.1 hx1
    have hx5 := (k2 x hx3).2 ⟨hx4, hx2⟩
    constructor
    · intro h s hs
      obtain ⟨h1, h2⟩ := List.mem_filter.1 h
      obtain ⟨h3, h4⟩ := List.mem_filter.1 h1
      rw [(k2 r h3).2 ⟨h4, h2⟩]; exact k3 s
    · intro h
      have := h x hx3
      have h2 := (k2 r hr).1 (by have := k3 r; omega)
      exact List.mem_filter.2 ⟨List.mem_filter.2 ⟨hr, h2.1⟩, h2.2⟩
  · rw [if_neg hd]
    have hno : ∀ s, s ∈ R → rnk s ≠ 2 := fun s hs h => hd (List.length_pos_of_mem (List.mem_filter.2 ⟨List.mem_filter.2 ⟨hs, ((k2 s hs).1 h).1⟩, ((k2 s hs).1 h).2⟩))
    by_cases hs2 : 0 < (R.filter isS).length
    · rw [if_pos hs2]
      obtain ⟨x, hx⟩ := List.exists_mem_of_length_pos hs2
      obtain ⟨hx1, hx2⟩ := List.mem_filter.1 hx
      have hx3 := (k1 x hx1).2 hx2
      constructor
      · intro h s hs
        obtain ⟨h1, h2⟩ := List.mem_filter.1 h
        have a1 := (k1 r h1).2 h2
        have a2 := k3 s
        have a3 := hno s hs
        omega
      · intro h
        have := h x hx1
        exact List.mem_filter.2 ⟨hr, (k1 r hr).1 (by omega)⟩
    · rw [if_neg hs2]
      constructor
      · intro _ s hs
        have : ¬ 0 < rnk s := fun h => hs2 (List.length_pos_of_mem (List.mem_filter.2 ⟨hs, (k1 s hs).1 h⟩))
        omega
      · intro _; exact hr
theorem lik_lat {Q : List Raw} (g : Good Q) {t : ByteArray} {X Y : List ByteArray} (hK : Kept (verL (ofP t Q)) (verL (ofP t Q)).length X) (hY : KeptT Q t Y) : (likN Q t X X.length).1 = latV Q t := by
  rw [← latV_of hY]
  by_cases h0 : X.length = 0
  · have hX : X = [] := List.eq_nil_of_length_eq_zero h0
    subst hX
    have hne : ofP t Q = [] := by
      rw [List.eq_nil_iff_forall_not_mem]
      intro r hr
      have := kept_in g ofP_sub hK hr
      cases this
    have hb : bestR (ofP t Q) = [] := by rw [hne]; rfl
    cases hYc : Y with
    | nil => rfl
    | cons y s =>
      obtain ⟨r, hr, _⟩ := kept_has g (R := bestR (ofP t Q)) (fun r hr => ofP_sub r (bestR_sub hr)) hY (x := y) (by rw [hYc]; simp)
      rw [hb] at hr; cases hr
  · obtain ⟨j, hj, _, hs, h1, h2⟩ := (likN_is (Q := Q) (t := t) (X := X) X.length (Nat.le_refl _)).p (by omega)
    rw [hs]
    obtain ⟨r, hr, er⟩ := kept_has g ofP_sub hK (List.getElem_mem hj)
    have hrq := g.ofP_mem.1 hr
    have hrank : ∀ s, s ∈ ofP t Q → rkV Q t s.1.2 = rnk s := fun s hs => by
      have h := g.ofP_mem.1 hs
      rw [← h.2]; exact rkV_at g h.1
    have hbest : r ∈ bestR (ofP t Q) := (rnk_best g ofP_sub hr).2 fun s hs => by
      have hin := kept_in g ofP_sub hK hs
      obtain ⟨k, hk, e⟩ := List.getElem_of_mem hin
      have := h1 k hk hk
      rw [e, hrank s hs, ← er, hrank r hr] at this
      exact this
    have hne : bestR (ofP t Q) ≠ [] := List.ne_nil_of_mem hbest
    have hsub : ∀ r, r ∈ bestR (ofP t Q) → r ∈ Q := fun r hr => ofP_sub r (bestR_sub hr)
    obtain ⟨⟨q, hq, eq⟩, hmax⟩ := kept_last g hsub hne hY
    have hqv := g.ver q (hsub q hq)
    have hrv := g.ver r hrq.1
    have hqX := kept_in g ofP_sub hK (bestR_sub hq)
    obtain ⟨k, hk, ek⟩ := List.getElem_of_mem hqX
    have hqr : rkV Q t X[j] ≤ rkV Q t X[k] := by
      rw [ek, ← er, hrank r hr, hrank q (bestR_sub hq)]
      exact (rnk_best g ofP_sub (bestR_sub hq)).1 hq r hr
    have hkj : ¬ j < k := fun h => by have := h2 k hk hk h; omega
    have ho1 : ¬ ordV X[j].data.toList X[k].data.toList < 0 := fun h => by
      rcases Nat.lt_or_ge k j with h3 | h3
      · have hr := hK.1
        unfold rises at hr
        have hbl : (bl X).length = X.length := bl_len X
        have h4 := List.pairwise_iff_getElem.1 hr k j (by omega) (by omega) h3
        have g1 : (bl X)[k]'(by omega) = X[k].data.toList := by simp [bl]
        have g2 : (bl X)[j]'(by omega) = X[j].data.toList := by simp [bl]
        rw [g1, g2] at h4
        exact ordV_irr h h4
      · have : k = j := by omega
        subst this; exact ordV_irr h h
    have ho2 := hmax r hbest
    rw [← eq, ← ek] at ho2
    rw [er] at ho2
    have h0' : ordV X[j].data.toList X[k].data.toList = 0 := by
      rw [ordV_swap X[j].data.toList X[k].data.toList] at ho2
      omega
    have hvj : verErr X[j].data.toList = 0 := by rw [← er]; exact hrv
    have hvk : verErr X[k].data.toList = 0 := by rw [ek]; exact hqv
    have := str_ext ((ordV_zero hvj hvk).1 h0')
    rw [this, ek, eq]
end Ve
end Go.Proofs.YtoaobngpdaidoaaGreatDoor


namespace Go.Proofs.YtoaobngpdaidoaaGreatDoor
open Go.RowKit Go.Maps
namespace Ve
theorem es_modK {W : World} {b o n c : Nat} {Q : List Raw} (h : EsAt W (.slice (some ⟨b, o, none⟩) n c) Q) {k : Nat} (hk : k < Q.length) : W.cell? ⟨b, o + k * 5, none⟩ = some (.string Q[k].1.1) ∧ W.cell? ⟨b, o + k * 5 + 1, none⟩ = some (.string Q[k].1.2) := by
  obtain ⟨a', c', e, _, _, h⟩ := h
  injection e with e1 e2 e3
  subst e1
  obtain ⟨b', o', e4, h4⟩ := h (by intro h0; rw [h0] at hk; simp at hk)
  injection e4 with e4
  injection e4 with e5 e6
  subst e5 e6
  exact ⟨(h4 k hk).1, (h4 k hk).2.1⟩
theorem es_backK {W : World} {b o n c : Nat} {Q : List Raw} (h : EsAt W (.slice (some ⟨b, o, none⟩) n c) Q) {k : Nat} (hk : k < Q.length) : W.cell? ⟨b, o + k * 5 + 4, none⟩ = some (.bool Q[k].2.2.2) := by
  obtain ⟨a', c', e, _, _, h⟩ := h
  injection e with e1 e2 e3
  subst e1
  obtain ⟨b', o', e4, h4⟩ := h (by intro h0; rw [h0] at hk; simp at hk)
  injection e4 with e4
  injection e4 with e5 e6
  subst e5 e6
  exact (h4 k hk).2.2.2.2
theorem sortVers_nil (a : Option Addr) (c : Nat) (w : World) : Calls Tryz.prog 135 #[.slice a 0 c] w fun e w' => e = .returned (.slice none 0 0) ∧ Below w.heap.size w w' := by
  go_enter Tryz.func135, Tryz.ntmps135
  go_wp2_with fail
  go_loopw [3, 4] (fun v i wr => v = .slice none 0 0 ∧ i = .int .i64 0 ∧ wr = w) (fun _ i _ => 0)
  case atStart => exact ⟨rfl, rfl, rfl⟩
  case round =>
    obtain ⟨rfl, rfl, rfl⟩ := hrel
    go_wp2_with fail
    go_ret
    exact ⟨rfl, Below.refl _ _⟩
def pthR (t : ByteArray) (Q : List Raw) : List Raw := Q.filter fun r => decide (r.1.1 = t)
theorem pthR_yes {t : ByteArray} {Q : List Raw} {k : Nat} (h : k < Q.length) (he : Q[k].1.1 = t) : verL (pthR t (Q.take (k + 1))) = verL (pthR t (Q.take k)) ++ [Q[k].1.2] := by
  unfold pthR verL
  rw [List.take_succ_eq_append_getElem h, List.filter_append, List.map_append]
  simp [he]
theorem pthR_no {t : ByteArray} {Q : List Raw} {k : Nat} (h : k < Q.length) (he : ¬ Q[k].1.1 = t) : verL (pthR t (Q.take (k + 1))) = verL (pthR t (Q.take k)) := by
  unfold pthR verL
  rw [List.take_succ_eq_append_getElem h, List.filter_append, List.map_append]
  simp [he]
theorem pthR_len (t : ByteArray) (Q : List Raw) : (verL (pthR t Q)).length ≤ Q.length := by
  unfold pthR verL
  rw [List.length_map]
  exact List.length_filter_le _ _
theorem pthR_sz {t : ByteArray} {Q : List Raw} (hz : ∀ r, r ∈ Q → r.1.1.size ≤ 80 ∧ r.1.2.size ≤ 80) : ∀ x, x ∈ verL (pthR t Q) → x.size ≤ 80 := fun x hx => by
  obtain ⟨r, hr, rfl⟩ := List.mem_map.1 hx
  exact (hz r (List.mem_filter.1 hr).1).2
set_option maxRecDepth 100000 in
set_option maxHeartbeats 4000000 in
theorem versOf_any (Q : List Raw) (t : ByteArray) (v : Value) (w : World) (hL : Q.length ≤ 1000) (hz : ∀ r, r ∈ Q → r.1.1.size ≤ 80 ∧ r.1.2.size ≤ 80) (hv : EsAt w v Q) :
    Calls Tryz.prog 89 #[v, .string t] w fun e w' => ∃ u X, e = .returned u ∧ TxAt w' u X ∧ Kept (verL (pthR t Q)) (verL (pthR t Q)).length X ∧ Below w.heap.size w w' := by
  have HV := hid (fun W (h : Below w.heap.size w W) => hv.below h)
  have HQM := hid (show Q.length ≤ 1000000 by omega)
  have HQL := hid hL
  have HSO := hid (fun (L : List ByteArray) b o c W (hc : ∀ j (h : j < L.length), W.cell? ⟨b, o + j, none⟩ = some (.string L[j])) (h12 : L.length ≤ 1000) (hz : ∀ x, x ∈ L → x.size ≤ 80) => sortVers_some b o c L W hc h12 hz)
  have HSN := hid sortVers_nil
  have HZZ := hid (pthR_sz (t := t) hz)
  have HZL := hid (show (verL (pthR t Q)).length ≤ 1000 from Nat.le_trans (pthR_len t Q) hL)
  obtain ⟨i0, hi0, hz0, hz1, hz2⟩ := info_parts infoStr
  obtain ⟨va, vc, hv1, -⟩ := id hv
  subst hv1
  clear hv hz hL
  go_enter Tryz.func89, Tryz.ntmps89
  go_wp2_with fail
  go_loopw [5, 6] (fun ov iv wr => ∃ i : Nat, i ≤ Q.length ∧ iv = .int .i64 i ∧ Hid (wr.ownsRow w.heap.size 9 1 ov (verL (pthR t (Q.take i))).length ((verL (pthR t (Q.take i))).map Value.string)) ∧ Hid (Below w.heap.size w wr)) (fun _ iv _ => Q.length - (intOf iv).toNat)
  case atStart => exact ⟨0, Nat.zero_le _, rfl, hid (World.ownsRow_nil _ _ _ _), hid (Below.refl _ _)⟩
  case round =>
    obtain ⟨i, hi, rfl, HOW, HBr⟩ := hrel
    by_cases hlt : i < Q.length
    · have hiI := ix_lt hlt
      have hii := ix_pos i
      have HLI := hid hlt
      obtain ⟨eb, eo, hea, -⟩ := es_cells (HV.out _ HBr.out) hlt
      subst hea
      obtain ⟨y0, y1⟩ := es_modK (HV.out _ HBr.out) hlt
      have HYS := hid (fun he => pthR_yes (t := t) hlt he)
      have HNO := hid (fun he => pthR_no (t := t) hlt he)
      have HLN := hid (show (verL (pthR t (Q.take i))).length ≤ 1000 from Nat.le_trans (pthR_len t _) (Nat.le_trans (List.length_take_le' i Q) HQL.out))
      generalize Q[i] = r at *
      obtain ⟨⟨p, q⟩, r2⟩ := r
      simp only at y0 y1 HYS HNO
      obtain ⟨SX, hSX⟩ : ∃ SX, verL (pthR t (Q.take i)) = SX := ⟨_, rfl⟩
      rw [hSX] at HOW HYS HNO HLN
      clear hSX hlt
      by_cases he : p = t
      · subst he
        have HST := hid (HYS.out rfl)
        have heq := str_refl p
        clear HYS HNO
        go_wp2_with (at_builtin; refine wpList_append_own _ rfl _ _ 54 rfl w.heap.size 9 i0 _ 1 16 Tryz.underlying54 hi0 hz0 hz1 hz2 rfl (by decide) _ _ _ rfl (HOW.out.alloc _) ⟨wr.heap.size, 0, none⟩ 1 1 [.string q] rfl rfl (World.news_of_block (heap_new _ _)) (by intro u hu; simp at hu; subst hu; rfl) (Nat.le_trans (Nat.add_le_add_right HLN.out 1) (by unfold maxLen; decide)) (by have hz := HLN.out; omega) (Nat.le_trans HBr.out.size (by simp)) ?_)
        intro v' w6 hown hgrow _
        have HB6 := hid (rel_app HBr.out.size HBr.out HOW.out (Below.refl _ _) hgrow)
        have HO6 := hid (show w6.ownsRow w.heap.size 9 1 v' (SX ++ [q]).length ((SX ++ [q]).map Value.string) by rw [List.length_append, List.map_append]; exact hown)
        clear hown hgrow
        go_wp2_with fail
        go_roundw
        case rel => first | exact ⟨i + 1, HLI.out, nr_idx i, hid (by rw [HST.out]; exact HO6.out), HB6⟩ | exact ⟨i + 1, HLI.out, nx_idx HLI.out HQM.out, hid (by rw [HST.out]; exact HO6.out), HB6⟩
        case measure => first | exact nr_meas HLI.out | exact nx_meas HLI.out HQM.out
      · have HST := hid (HNO.out he)
        have heq := str_ne he
        clear HYS HNO he
        go_wp2_with fail
        go_roundw
        case rel => first | exact ⟨i + 1, HLI.out, nr_idx i, hid (by rw [HST.out]; exact HOW.out), HBr⟩ | exact ⟨i + 1, HLI.out, nx_idx HLI.out HQM.out, hid (by rw [HST.out]; exact HOW.out), HBr⟩
        case measure => first | exact nr_meas HLI.out | exact nx_meas HLI.out HQM.out
    · have hiI := ix_nlt hlt
      have HTA := hid (show Q.take i = Q from List.take_of_length_le (by omega))
      rw [HTA.out] at HOW
      obtain ⟨Z, HZ⟩ : ∃ Z, Hid (verL (pthR t Q) = Z) := ⟨_, hid rfl⟩
      rw [HZ.out] at HOW HZZ HZL
      clear hlt HTA
      obtain ⟨oa, oc, hov, -, hcell⟩ := own_tx HOW.out
      subst hov
      by_cases hZ : Z = []
      · subst hZ
        have HS0 := hid (HSN.out oa oc wr)
        go_wp2_with fail
        refine HS0.out.mono ?_
        rintro e w7 ⟨rfl, hb⟩
        have HB7 := hid (HBr.out.trans (hb.mono HBr.out.size))
        clear hb
        go_wp2_with fail
        go_ret
        refine ⟨_, [], rfl, ⟨none, 0, rfl, Nat.le_refl _, fun h => absurd rfl h⟩, ?_, HB7.out⟩
        rw [HZ.out]
        exact ⟨List.Pairwise.nil, fun t => by simp [bl]⟩
      · obtain ⟨ob, oo, hoa, hcl⟩ := hcell hZ
        subst hoa
        have HS0 := hid (HSO.out Z ob oo oc wr hcl HZL.out HZZ.out)
        clear hcl hcell
        go_wp2_with fail
        refine HS0.out.mono ?_
        rintro e w7 ⟨u7, X, rfl, ho, hK, hb⟩
        have HB7 := hid (HBr.out.trans (hb.mono HBr.out.size))
        have HK7 := hid hK
        have HT7 := hid (own_tx ho)
        obtain ⟨ua, uc, hu7⟩ := own_slN ho
        subst hu7
        clear hb hK ho
        go_wp2_with fail
        go_ret
        exact ⟨_, X, rfl, HT7.out, by rw [HZ.out]; exact HK7.out, HB7.out⟩
set_option maxRecDepth 100000 in
set_option maxHeartbeats 4000000 in
theorem rank_any (Q : List Raw) (t s : ByteArray) (k : Nat) (v : Value) (w : World) (hL : Q.length ≤ 1000) (hs : s.size < 999999) (hk : k < Q.length) (hi : idxOf (isM (t, s)) Q = (k : Int)) (hq : Q[k].1.2 = s) (he : verErr s.data.toList = 0) (hv : EsAt w v Q) :
    Calls Tryz.prog 134 #[v, .string t, .string s] w fun e w' => e = .returned (.int .i64 (rnk Q[k] : Nat)) ∧ Below w.heap.size w w' := by
  have HFO := hid (findOf_allJ Q (t, s) v w (by omega) hv)
  rw [hi] at HFO
  have HV := hid (fun W (h : Below w.heap.size w W) => hv.below h)
  have HVO := hid (fun W => verOf_any s W (by omega))
  have HRN := hid (show rnk Q[k] = if Q[k].2.2.2 then 0 else if 0 < (preOf s.data.toList).length then 1 else 2 by unfold rnk; rw [hq])
  have hkI := ix_lt hk
  have hk0 := ix_pos k
  obtain ⟨va, vc, hv1, -⟩ := id hv
  subst hv1
  obtain ⟨eb, eo, hea, -⟩ := es_cells hv hk
  subst hea
  have HBK := hid (fun W (h : Below w.heap.size w W) => es_backK (HV.out W h) hk)
  have HE := hid he
  generalize rnk Q[k] = z at *
  generalize (Q[k]'hk).2.2.2 = bk at *
  clear hv hi hq he hk
  go_enter Tryz.func134, Tryz.ntmps134
  go_wp2_with fail
  refine HFO.out.mono ?_
  rintro e w1 ⟨rfl, hb⟩
  have HB1 := hid hb
  have c0 := HBK.out w1 hb
  clear hb HFO
  cases bk with
  | true =>
    go_wp2_with fail
    go_ret
    exact ⟨by rw [HRN.out]; rfl, HB1.out⟩
  | false =>
    go_wp2_with fail
    refine (HVO.out w1).mono ?_
    rintro e w2 ⟨h | ⟨_, sa, cap, X2, rfl, hbl, -⟩, hb⟩
    · exact absurd HE.out h.1
    · have HB2 := hid (HB1.out.trans (hb.mono HB1.out.size))
      have HBL := hid (show X2.length = (preOf s.data.toList).length by rw [← hbl]; simp [bl])
      have HB3 := hid (HB2.out.alloc HB2.out.size (.cells #[.int .i64 (nAt s.data.toList 0), .int .i64 (nAt s.data.toList 1), .int .i64 (nAt s.data.toList 2), .slice sa X2.length cap] 107))
      clear hb hbl
      by_cases hp : 0 < X2.length
      · have hpI : (0 : Int) < (X2.length : Int) := by omega
        have HZ := hid (show z = 1 by rw [HRN.out, if_neg (by simp), if_pos (by rw [← HBL.out]; exact hp)])
        clear hp
        go_wp2_with fail
        go_ret
        exact ⟨by rw [HZ.out]; rfl, HB3.out⟩
      · have hpI : ¬ (0 : Int) < (X2.length : Int) := by omega
        have HZ := hid (show z = 2 by rw [HRN.out, if_neg (by simp), if_neg (by rw [← HBL.out]; exact hp)])
        clear hp
        go_wp2_with fail
        go_ret
        exact ⟨by rw [HZ.out]; rfl, HB3.out⟩
end Ve
end Go.Proofs.YtoaobngpdaidoaaGreatDoor


namespace Go.Proofs.YtoaobngpdaidoaaGreatDoor
open Go.RowKit Go.Maps
namespace Ve
theorem tx_cellK {W : World} {a : Option Addr} {n c : Nat} {X : List ByteArray} (h : TxAt W (.slice a n c) X) {k : Nat} (hk : k < X.length) : ∃ b o, a = some ⟨b, o, none⟩ ∧ W.cell? ⟨b, o + k, none⟩ = some (.string X[k]) := by
  obtain ⟨a', c', e, _, h⟩ := h
  injection e with e1 e2 e3
  subst e1
  obtain ⟨b', o', e4, h4⟩ := h (by intro h0; rw [h0] at hk; simp at hk)
  exact ⟨b', o', e4, h4 k hk⟩
theorem nodup_sub {α : Type} [DecidableEq α] : ∀ {a b : List α}, a.Nodup → (∀ x, x ∈ a → x ∈ b) → a.length ≤ b.length
  | [], b, _, _ => Nat.zero_le _
  | x :: r, b, hn, hs => by
    obtain ⟨h1, h2⟩ := List.nodup_cons.1 hn
    have hx := hs x (List.mem_cons_self ..)
    have := nodup_sub (a := r) (b := b.erase x) h2 fun y hy => (List.mem_erase_of_ne (fun e => h1 (by rw [← e]; exact hy))).2 (hs y (List.mem_cons_of_mem _ hy))
    rw [List.length_erase_of_mem hx] at this
    have hp := List.length_pos_of_mem hx
    simp only [List.length_cons]
    omega
structure VerOk (Q : List Raw) (t : ByteArray) (X : List ByteArray) : Prop where
  at_ : ∀ j (hj : j < X.length), ∃ k, ∃ hk : k < Q.length, idxOf (isM (t, X[j])) Q = (k : Int) ∧ Q[k].1.2 = X[j] ∧ verErr X[j].data.toList = 0 ∧ X[j].size < 999999 ∧ rkV Q t X[j] = rnk Q[k]
theorem verOk_of {Q : List Raw} {t : ByteArray} {X : List ByteArray} (g : Good Q) (hz : ∀ r, r ∈ Q → r.1.1.size ≤ 80 ∧ r.1.2.size ≤ 80) (hK : Kept (verL (ofP t Q)) (verL (ofP t Q)).length X) : VerOk Q t X := ⟨fun j hj => by
  obtain ⟨n, h⟩ := one_of g hK (List.getElem_mem hj)
  have hq := h.mem
  have h1 := g.ofP_mem.1 hq
  refine ⟨n, h.lt, h.idx, h.same, h.ver, ?_, ?_⟩
  · have := (hz _ h1.1).2
    rw [h.same] at this
    omega
  · have h2 := rkV_at g h1.1
    rw [h1.2, h.same] at h2
    exact h2⟩
set_option maxRecDepth 100000 in
set_option maxHeartbeats 4000000 in
theorem liked_any (Q : List Raw) (t : ByteArray) (X : List ByteArray) (v u : Value) (w : World) (hL : Q.length ≤ 1000) (hX : X.length ≤ 1000000) (hok : VerOk Q t X) (hv : EsAt w v Q) (hu : TxAt w u X) :
    Calls Tryz.prog 88 #[v, .string t, u, .bool false] w fun e w' => e = .returned (.string (likN Q t X X.length).1) ∧ Below w.heap.size w w' := by
  have HRK := hid (fun j (hj : j < X.length) W (h : Below w.heap.size w W) => show Calls Tryz.prog 134 #[v, .string t, .string X[j]] W fun e w' => e = .returned (.int .i64 (rkV Q t X[j] : Nat)) ∧ Below W.heap.size W w' by
    obtain ⟨k, hk, h1, h2, h3, h4, h5⟩ := hok.at_ j hj
    rw [h5]
    exact rank_any Q t X[j] k v W hL h4 hk h1 h2 h3 (hv.below h))
  have HU := hid (fun W (h : Below w.heap.size w W) => hu.below h)
  obtain ⟨va, vc, hv1, -⟩ := id hv
  subst hv1
  obtain ⟨ua, uc, hu1, -⟩ := id hu
  subst hu1
  clear hv hu hok
  go_enter Tryz.func88, Tryz.ntmps88
  go_wp2_with fail
  go_loopw [9, 10, 11] (fun bv rv iv wr => ∃ i : Nat, i ≤ X.length ∧ iv = .int .i64 i ∧ bv = .string (likN Q t X i).1 ∧ rv = .int .i64 (likN Q t X i).2 ∧ Hid (Below w.heap.size w wr)) (fun _ _ iv _ => X.length - (intOf iv).toNat)
  case atStart => exact ⟨0, Nat.zero_le _, rfl, rfl, rfl, hid (Below.refl _ _)⟩
  case round =>
    obtain ⟨i, hi, rfl, rfl, rfl, HB⟩ := hrel
    by_cases hlt : i < X.length
    · have hiI := ix_lt hlt
      have hii := ix_pos i
      have HLI := hid hlt
      obtain ⟨b, o, hua, y0⟩ := tx_cellK (HU.out _ HB.out) hlt
      subst hua
      have HRI := hid (HRK.out i hlt wr HB.out)
      have HNX := hid (likN_next (Q := Q) (t := t) hlt)
      unfold likS at HNX
      generalize X[i] = x at *
      generalize rkV Q t x = z at *
      obtain ⟨s, hs⟩ : ∃ s, likN Q t X i = s := ⟨_, rfl⟩
      rw [hs] at HNX ⊢
      obtain ⟨bs, br⟩ := s
      simp only at HNX ⊢
      clear hlt hs
      rcases Int.lt_trichotomy br (z : Int) with hc | hc | hc
      · rw [if_pos (Int.le_of_lt hc)] at HNX
        go_wp2_with fail
        refine HRI.out.mono ?_
        rintro e w1 ⟨rfl, hb⟩
        have HB1 := hid (HB.out.trans (hb.mono HB.out.size))
        have y1 := cell_below hb y0
        clear hb
        go_wp2_with fail
        go_roundw
        case rel => first | exact ⟨i + 1, HLI.out, nr_idx i, by rw [HNX.out], by rw [HNX.out], HB1⟩ | exact ⟨i + 1, HLI.out, nx_idx HLI.out hX, by rw [HNX.out], by rw [HNX.out], HB1⟩
        case measure => first | exact nr_meas HLI.out | exact nx_meas HLI.out hX
      · subst hc
        rw [if_pos (Int.le_refl _)] at HNX
        have hn1 : ¬ ((z : Nat) : Int) < ((z : Nat) : Int) := Int.lt_irrefl _
        have hn2 : (((z : Nat) : Int) == ((z : Nat) : Int)) = true := beq_self_eq_true _
        go_wp2_with fail
        refine HRI.out.mono ?_
        rintro e w1 ⟨rfl, hb⟩
        have HB1 := hid (HB.out.trans (hb.mono HB.out.size))
        have y1 := cell_below hb y0
        clear hb
        go_wp2_with fail
        go_roundw
        case rel => first | exact ⟨i + 1, HLI.out, nr_idx i, by rw [HNX.out], by rw [HNX.out], HB1⟩ | exact ⟨i + 1, HLI.out, nx_idx HLI.out hX, by rw [HNX.out], by rw [HNX.out], HB1⟩
        case measure => first | exact nr_meas HLI.out | exact nx_meas HLI.out hX
      · rw [if_neg (Int.not_le.2 hc)] at HNX
        have hn1 : ¬ br < ((z : Nat) : Int) := Int.not_lt.2 (Int.le_of_lt hc)
        have hn2 : (((z : Nat) : Int) == br) = false := by rw [beq_eq_false_iff_ne]; exact Int.ne_of_lt hc
        have hn3 : ¬ ((z : Nat) : Int) = br := Int.ne_of_lt hc
        go_wp2_with fail
        refine HRI.out.mono ?_
        rintro e w1 ⟨rfl, hb⟩
        have HB1 := hid (HB.out.trans (hb.mono HB.out.size))
        clear hb
        go_wp2_with fail
        go_roundw
        case rel => first | exact ⟨i + 1, HLI.out, nr_idx i, by rw [HNX.out], by rw [HNX.out], HB1⟩ | exact ⟨i + 1, HLI.out, nx_idx HLI.out hX, by rw [HNX.out], by rw [HNX.out], HB1⟩
        case measure => first | exact nr_meas HLI.out | exact nx_meas HLI.out hX
    · have hiI := ix_nlt hlt
      have hie : i = X.length := Nat.le_antisymm hi (Nat.le_of_not_lt hlt)
      subst hie
      clear hlt
      go_wp2_with fail
      go_ret
      exact ⟨rfl, HB.out⟩
theorem kept_lenK {L : List ByteArray} {n : Nat} {X : List ByteArray} (g : L.length ≤ 1000) (h : Kept L n X) : X.length ≤ 1000 := by
  have hs : (bl X).length ≤ (bl L).length := nodup_sub (rises_nd h.1) fun t ht => List.mem_of_mem_take (by
    have := ((h.2 t).1 ht).1
    unfold bl at this ⊢
    rw [List.map_take] at this
    exact this)
  rw [bl_len, bl_len] at hs
  omega
set_option maxRecDepth 100000 in
set_option maxHeartbeats 4000000 in
theorem latOf_any (Q : List Raw) (t : ByteArray) (v : Value) (w : World) (hL : Q.length ≤ 1000) (g : Good Q) (hz : ∀ r, r ∈ Q → r.1.1.size ≤ 80 ∧ r.1.2.size ≤ 80) (hK : ∃ Y, KeptT Q t Y) (hv : EsAt w v Q) :
    Calls Tryz.prog 58 #[v, .string t] w fun e w' => e = .returned (.string (latV Q t)) ∧ Below w.heap.size w w' := by
  have HVO := hid (versOf_any Q t v w hL hz hv)
  have HP := hid (show pthR t Q = ofP t Q from (g.ofP t).symm)
  rw [HP.out] at HVO
  have HLK := hid (fun X u W (h : Below w.heap.size w W) (hX : Kept (verL (ofP t Q)) (verL (ofP t Q)).length X) (hu : TxAt W u X) => liked_any Q t X v u W hL (Nat.le_trans (kept_lenK (by rw [verL_len]; exact Nat.le_trans (ofP_len t Q) hL) hX) (by decide)) (verOk_of g hz hX) (hv.below h) hu)
  have HEQ := hid (fun X (hX : Kept (verL (ofP t Q)) (verL (ofP t Q)).length X) => show (likN Q t X X.length).1 = latV Q t by
    obtain ⟨Y, hY⟩ := hK
    exact lik_lat g hX hY)
  obtain ⟨va, vc, hv1, -⟩ := id hv
  subst hv1
  clear hv hz hK HP
  go_enter Tryz.func58, Tryz.ntmps58
  go_wp2_with fail
  refine HVO.out.mono ?_
  rintro e w1 ⟨u, X, rfl, hu, hX, hb⟩
  have HL1 := hid (HLK.out X u w1 hb hX hu)
  rw [HEQ.out X hX] at HL1
  have HB1 := hid hb
  obtain ⟨ua, uc, hu1, -⟩ := hu
  subst hu1
  clear hb hX HVO HLK HEQ
  go_wp2_with fail
  refine HL1.out.mono ?_
  rintro e w2 ⟨rfl, hb⟩
  have HB2 := hid (HB1.out.trans (hb.mono HB1.out.size))
  clear hb
  go_wp2_with fail
  go_ret
  exact ⟨rfl, HB2.out⟩
set_option maxHeartbeats 2000000 in
theorem sameG_len (a a' : Option Addr) (n n' c c' : Nat) (w : World) (h : n ≠ n') : Calls Tryz.prog 15 #[.slice a n c, .slice a' n' c'] w fun e w' => e = .returned (.bool false) ∧ Below w.heap.size w w' := by
  have h1 : ¬ (n : Int) = (n' : Int) := by omega
  have h2 : ((n : Int) == (n' : Int)) = false := by simp; omega
  go_enter Tryz.func15, Tryz.ntmps15
  go_wp2_with fail
  go_ret
  exact ⟨rfl, Below.refl _ _⟩
set_option maxHeartbeats 2000000 in
theorem sameG_some (L M : List Bm) (b o c b' o' c' : Nat) (w : World) (hn : L.length ≤ 1000000) (hl : M.length = L.length)
    (hc : ∀ j (h : j < L.length), w.cell? ⟨b, o + j * 2, none⟩ = some (.string L[j].1) ∧ w.cell? ⟨b, o + j * 2 + 1, none⟩ = some (.string L[j].2))
    (hd : ∀ j (h : j < M.length), w.cell? ⟨b', o' + j * 2, none⟩ = some (.string M[j].1) ∧ w.cell? ⟨b', o' + j * 2 + 1, none⟩ = some (.string M[j].2)) :
    Calls Tryz.prog 15 #[.slice (some ⟨b, o, none⟩) L.length c, .slice (some ⟨b', o', none⟩) L.length c'] w fun e w' => e = .returned (.bool (decide (L = M))) ∧ Below w.heap.size w w' := by
  have HC := hid hc
  have HD := hid hd
  have hgd := modGuard
  have HX := hid (show (∀ j (h : j < L.length) (h' : j < M.length), L[j] = M[j]) → decide (L = M) = true from fun h => decide_eq_true (List.ext_getElem hl.symm (fun j h1 h2 => h j h1 h2)))
  have HY := hid (show ∀ j (h : j < L.length) (h' : j < M.length), L[j] ≠ M[j] → decide (L = M) = false from fun j h h' hne => decide_eq_false (fun e => hne (by subst e; rfl)))
  generalize decide (L = M) = z at *
  clear hc hd
  go_enter Tryz.func15, Tryz.ntmps15
  go_wp2_with fail
  go_loopw [5] (fun i wr => ∃ k : Nat, k ≤ L.length ∧ i = .int .i64 k ∧ Hid (∀ j (h : j < L.length) (h' : j < M.length), j < k → L[j] = M[j]) ∧ Hid (Below w.heap.size w wr)) (fun i _ => L.length - (intOf i).toNat)
  case atStart => exact ⟨0, Nat.zero_le _, rfl, hid (fun j _ _ hj => absurd hj (Nat.not_lt_zero _)), hid (Below.refl _ _)⟩
  case round =>
    obtain ⟨k, hk, rfl, HE, HB⟩ := hrel
    by_cases hlt : k < L.length
    · have hlm : k < M.length := by omega
      have hx := cell_below HB.out (HC.out k hlt).1
      have hy := cell_below HB.out (HC.out k hlt).2
      have hx' := cell_below HB.out (HD.out k hlm).1
      have hy' := cell_below HB.out (HD.out k hlm).2
      have hne := fun W => modNeq L[k].1 L[k].2 M[k].1 M[k].2 W
      have hkI : (k : Int) < (L.length : Int) := by omega
      have HLT := hid hlt
      have HN := hid (show L[k] = M[k] → ∀ j (h : j < L.length) (h' : j < M.length), j < k + 1 → L[j] = M[j] from fun h0 j h1 h2 h3 => by
        rcases Nat.lt_or_ge j k with h | h
        · exact HE.out j h1 h2 h
        · have : j = k := by omega
          subst this; exact h0)
      have HYK := hid (HY.out k hlt hlm)
      generalize L[k] = x at *
      generalize M[k] = y at *
      obtain ⟨x1, x2⟩ := x
      obtain ⟨y1, y2⟩ := y
      simp only at hx hy hx' hy' hne
      clear hlt hlm
      by_cases he : x1 = y1 ∧ x2 = y2
      · rw [decide_eq_true he] at hne
        have HN2 := hid (HN.out (Prod.ext he.1 he.2))
        clear he HN
        go_wp2_with fail
        go_quiet (fail)
        go_wp2_with fail
        go_roundw
        case rel => first | exact ⟨k + 1, HLT.out, nr_idx k, HN2, hid (below_drawn_of HB.out _)⟩ | exact ⟨k + 1, HLT.out, nx_idx HLT.out hn, HN2, hid (below_drawn_of HB.out _)⟩
        case measure => first | exact nr_meas HLT.out | exact nx_meas HLT.out hn
      · rw [decide_eq_false he] at hne
        have HZ := hid (HYK.out (fun e => he (by injection e with e1 e2; exact ⟨e1, e2⟩)))
        clear he HN
        go_wp2_with fail
        go_quiet (fail)
        go_wp2_with fail
        go_ret
        exact ⟨by rw [HZ.out]; rfl, below_drawn_of HB.out _⟩
    · have hkI : ¬ (k : Int) < (L.length : Int) := by omega
      have HZ := hid (HX.out (fun j h h' => HE.out j h h' (by omega)))
      go_wp2_with fail
      go_ret
      exact ⟨by rw [HZ.out]; rfl, HB.out⟩
theorem sameG_any (L M : List Bm) (v u : Value) (w : World) (hn : L.length ≤ 1000000) (hv : MsAt w v L) (hu : MsAt w u M) : Calls Tryz.prog 15 #[v, u] w fun e w' => e = .returned (.bool (decide (L = M))) ∧ Below w.heap.size w w' := by
  obtain ⟨a, c, rfl, _, h⟩ := hv
  obtain ⟨a', c', rfl, _, h'⟩ := hu
  by_cases hl : M.length = L.length
  · cases L with
    | nil =>
      have : M = [] := List.length_eq_zero_iff.1 hl
      subst this
      exact sameM_none a a' c c' w
    | cons x r =>
      obtain ⟨b, o, rfl, h2⟩ := h (by simp)
      obtain ⟨b', o', rfl, h3⟩ := h' (fun e => by rw [e] at hl; simp at hl)
      rw [hl]
      exact sameG_some (x :: r) M b o c b' o' c' w hn hl h2 h3
  · rw [decide_eq_false (fun e => hl (by rw [e]))]
    exact sameG_len a a' _ _ c c' w (fun e => hl e.symm)
end Ve
end Go.Proofs.YtoaobngpdaidoaaGreatDoor


namespace Go.Proofs.YtoaobngpdaidoaaGreatDoor
open Go.RowKit Go.Maps
namespace Ve
theorem ordV_three {s t : List UInt8} (hs : verErr s = 0) (ht : verErr t = 0) : ordV s t < 0 ∨ s = t ∨ ordV t s < 0 := by
  rcases ordV_range s t with h | h | h
  · exact Or.inl (by omega)
  · exact Or.inr (Or.inl ((ordV_zero hs ht).1 h))
  · exact Or.inr (Or.inr (by rw [ordV_swap s t]; omega))
theorem sorted_ex : ∀ L : List ByteArray, (∀ x, x ∈ L → verErr x.data.toList = 0) → ∃ X : List ByteArray, rises (bl X) ∧ ∀ t, t ∈ bl X ↔ t ∈ bl L
  | [], _ => ⟨[], List.Pairwise.nil, fun t => Iff.rfl⟩
  | x :: L, h => by
    obtain ⟨X, h1, h2⟩ := sorted_ex L fun y hy => h y (List.mem_cons_of_mem _ hy)
    have hx := h x (List.mem_cons_self ..)
    have hv : ∀ y, y ∈ X → verErr y.data.toList = 0 := fun y hy => by
      have := (h2 y.data.toList).1 (List.mem_map.2 ⟨y, hy, rfl⟩)
      obtain ⟨z, hz, e⟩ := List.mem_map.1 this
      rw [← e]; exact h z (List.mem_cons_of_mem _ hz)
    let lo := X.filter fun y => decide (ordV y.data.toList x.data.toList < 0)
    let hi := X.filter fun y => decide (ordV x.data.toList y.data.toList < 0)
    have hr : X.Pairwise fun a b => ordV a.data.toList b.data.toList < 0 := by
      have := h1
      unfold rises bl at this
      exact List.pairwise_map.1 this
    refine ⟨lo ++ (x :: hi), ?_, fun t => ?_⟩
    · unfold rises bl
      rw [List.pairwise_map, List.pairwise_append]
      refine ⟨List.Pairwise.filter _ hr, List.pairwise_cons.2 ⟨fun b hb => of_decide_eq_true (List.mem_filter.1 hb).2, List.Pairwise.filter _ hr⟩, fun a ha b hb => ?_⟩
      have ha2 := of_decide_eq_true (List.mem_filter.1 ha).2
      rcases List.mem_cons.1 hb with rfl | hb
      · exact ha2
      · exact ordV_trans ha2 (of_decide_eq_true (List.mem_filter.1 hb).2)
    · constructor
      · intro ht
        obtain ⟨y, hy, rfl⟩ := List.mem_map.1 ht
        rcases List.mem_append.1 hy with hy | hy
        · exact List.mem_cons_of_mem _ ((h2 _).1 (List.mem_map.2 ⟨y, (List.mem_filter.1 hy).1, rfl⟩))
        · rcases List.mem_cons.1 hy with rfl | hy
          · exact List.mem_cons_self ..
          · exact List.mem_cons_of_mem _ ((h2 _).1 (List.mem_map.2 ⟨y, (List.mem_filter.1 hy).1, rfl⟩))
      · intro ht
        rcases List.mem_cons.1 ht with rfl | ht
        · exact List.mem_map.2 ⟨x, List.mem_append_right _ (List.mem_cons_self ..), rfl⟩
        · obtain ⟨y, hy, rfl⟩ := List.mem_map.1 ((h2 t).2 ht)
          refine List.mem_map.2 ?_
          rcases ordV_three (hv y hy) hx with h3 | h3 | h3
          · exact ⟨y, List.mem_append_left _ (List.mem_filter.2 ⟨hy, decide_eq_true h3⟩), rfl⟩
          · exact ⟨x, List.mem_append_right _ (List.mem_cons_self ..), h3.symm⟩
          · exact ⟨y, List.mem_append_right _ (List.mem_cons_of_mem _ (List.mem_filter.2 ⟨hy, decide_eq_true h3⟩)), rfl⟩
theorem kept_ex {L : List ByteArray} (h : ∀ x, x ∈ L → verErr x.data.toList = 0) : ∃ X, Kept L L.length X := by
  obtain ⟨X, h1, h2⟩ := sorted_ex L h
  refine ⟨X, h1, fun t => ?_⟩
  rw [h2, List.take_length]
  refine ⟨fun ht => ⟨ht, ?_⟩, fun ht => ht.1⟩
  obtain ⟨y, hy, rfl⟩ := List.mem_map.1 ht
  exact h y hy
theorem keptT_ex {Q : List Raw} (g : Good Q) (t : ByteArray) : ∃ Y, KeptT Q t Y :=
  kept_ex (verL_ok g fun r hr => ofP_sub r (bestR_sub hr))
def keyR (r : Raw) : Bm × Bool := (r.1, r.2.2.2)
def bestK (K : List (Bm × Bool)) : List (Bm × Bool) := if 0 < ((K.filter fun k => !k.2).filter fun k => !preB k.1.2).length then (K.filter fun k => !k.2).filter fun k => !preB k.1.2 else if 0 < (K.filter fun k => !k.2).length then K.filter fun k => !k.2 else K
theorem key_filter (P : Bm × Bool → Bool) (p : Raw → Bool) (h : ∀ r, p r = P (keyR r)) (Q : List Raw) : (Q.filter p).map keyR = (Q.map keyR).filter P := by
  rw [List.filter_map]
  congr 1
  apply List.filter_congr
  intro r _
  exact h r
theorem key_best (R : List Raw) : (bestR R).map keyR = bestK (R.map keyR) := by
  have e1 := key_filter (fun k => !k.2) isS (fun _ => rfl) R
  have e2 := key_filter (fun k => !preB k.1.2) isD (fun _ => rfl) (R.filter isS)
  rw [e1] at e2
  unfold bestR bestK
  rw [← e2, ← e1, List.length_map, List.length_map]
  split
  · rfl
  · split <;> rfl
theorem key_ver (R : List Raw) : verL R = (R.map keyR).map fun k => k.1.2 := by
  unfold verL
  rw [List.map_map]; rfl
theorem verL_same {Q Q' : List Raw} (h : Q.map keyR = Q'.map keyR) (t : ByteArray) : verL (bestR (ofP t Q)) = verL (bestR (ofP t Q')) := by
  rw [key_ver, key_ver, key_best, key_best]
  have e := fun Q => key_filter (fun k => decide (k.1.1 = t) && decide (verErr k.1.2.data.toList = 0)) (isP t) (fun _ => rfl) Q
  unfold ofP
  rw [e Q, e Q', h]
theorem latV_same {Q Q' : List Raw} (h : Q.map keyR = Q'.map keyR) (t : ByteArray) : latV Q t = latV Q' t := by
  unfold latV KeptT
  rw [verL_same h]
theorem latL_same {Q Q' : List Raw} (h : Q.map keyR = Q'.map keyR) (E : List Bm) : latL Q E = latL Q' E := by
  unfold latL
  congr 1
  funext m
  rw [latV_same h]
theorem newsL_same {Q Q' : List Raw} (h : Q.map keyR = Q'.map keyR) (E : List Bm) : newsL Q E = newsL Q' E := by
  unfold newsL
  rw [show (fun m : Bm => lessB (vb m) (latV Q m.1).data.toList) = fun m => lessB (vb m) (latV Q' m.1).data.toList from funext fun m => by rw [latV_same h]]
  congr 1
  funext m
  rw [latV_same h]
theorem key_mod {Q Q' : List Raw} (h : Q.map keyR = Q'.map keyR) : Q.map (fun r => r.1) = Q'.map (fun r => r.1) := by
  have := congrArg (List.map Prod.fst) h
  rw [List.map_map, List.map_map] at this
  exact this
theorem upF_same {Q Q' : List Raw} {L : List Ent} (h : Q.map keyR = Q'.map keyR) (E : List Bm) : upF Q L E = upF Q' L E := by
  unfold upF
  rw [latL_same h, bX_same (key_mod h)]
theorem upN_same {Q Q' : List Raw} {L : List Ent} (h : Q.map keyR = Q'.map keyR) (E : List Bm) : ∀ n, upN Q L E n = upN Q' L E n
  | 0 => rfl
  | n + 1 => by
    show upF Q L (upN Q L E n) = upF Q' L (upN Q' L E n)
    rw [upN_same h E n, upF_same h]
theorem Fix.same {Q Q' : List Raw} {L : List Ent} {E0 E : List Bm} (h : Q.map keyR = Q'.map keyR) (f : Fix Q L E0 E) : Fix Q' L E0 E := by
  obtain ⟨n, hn⟩ := f.n
  exact ⟨⟨n, by rw [hn, upN_same h]⟩, by rw [← upF_same h]; exact f.f⟩
theorem keys_of {w : World} {v : Value} {Q : List Raw} {L : List Ent} (I : Ixs w v Q L) : Q.map keyR = L.map fun e => (e.1, e.2.2.2) := by
  apply List.ext_getElem
  · simp [I.ln]
  · intro j h1 h2
    have hq : j < Q.length := by simpa using h1
    have hl : j < L.length := by rw [← I.ln]; exact hq
    simp only [List.getElem_map]
    have h := I.ok j hq hl
    exact Prod.ext h.m h.bk
open Classical in
noncomputable def allE (Q : List Raw) (L : List Ent) (roots : List Bm) : List Bm := if h : (chkG Q L roots).1 = 0 ∧ ∃ E, Fix Q L (bX Q L roots) E then h.2.choose else []
theorem allE_of {Q : List Raw} {L : List Ent} {roots E : List Bm} (h : (chkG Q L roots).1 = 0) (f : Fix Q L (bX Q L roots) E) : E = allE Q L roots := by
  have he : (chkG Q L roots).1 = 0 ∧ ∃ E, Fix Q L (bX Q L roots) E := ⟨h, E, f⟩
  unfold allE
  rw [dif_pos he]
  exact f.one he.2.choose_spec
theorem allE_bad {Q : List Raw} {L : List Ent} {roots : List Bm} (h : ¬ (chkG Q L roots).1 = 0) : allE Q L roots = [] := by
  unfold allE
  rw [dif_neg (fun e => h e.1)]
end Ve
end Go.Proofs.YtoaobngpdaidoaaGreatDoor


namespace Go.Proofs.YtoaobngpdaidoaaGreatDoor
open Go.RowKit Go.Maps
namespace Ve
end Ve
end Go.Proofs.YtoaobngpdaidoaaGreatDoor


namespace Go.Proofs.YtoaobngpdaidoaaGreatDoor
namespace Ve
theorem dw_nil (p : UInt8 → Bool) : ∀ l : List UInt8, l.dropWhile p = [] ↔ ∀ x, x ∈ l → p x = true
  | [] => by simp
  | b :: r => by
    rw [List.dropWhile_cons]
    cases hb : p b
    · simp [hb]
    · simp [hb, dw_nil p r]
theorem trim_nil (l : List UInt8) : (Lib.trimB l 46 == []) = l.all (· == 46) := by
  have key : Lib.trimB l 46 = [] ↔ ∀ x, x ∈ l → x = 46 := by
    unfold Lib.trimB Lib.trimLeftB Lib.trimRightB
    constructor
    · intro h x hx
      have h1 : ∀ y, y ∈ (l.reverse.dropWhile (· == 46)).reverse → y = 46 := by
        intro y hy
        have := (dw_nil _ _).1 h y hy
        simpa using this
      have h2 : l.reverse.dropWhile (· == 46) = [] := by
        cases e : l.reverse.dropWhile (· == 46) with
        | nil => rfl
        | cons b r =>
          exfalso
          have hb : b = 46 := h1 b (by rw [e]; simp)
          have := List.head_dropWhile_not (· == 46) (l := l.reverse) (by rw [e]; simp)
          simp [e, hb] at this
      have := (dw_nil _ _).1 h2 x (by simpa using hx)
      simpa using this
    · intro h
      have h2 : l.reverse.dropWhile (· == 46) = [] := (dw_nil _ _).2 (fun x hx => by simpa using h x (by simpa using hx))
      rw [h2]; rfl
  rw [Bool.eq_iff_iff]
  simp only [beq_iff_eq, key, List.all_eq_true]
theorem three_iff (l : List UInt8) : Lib.contains l [46, 46, 46] = true ↔ ∃ k, 2 ≤ k ∧ k < l.length ∧ (l.drop (k - 2)).take 3 = [46, 46, 46] := by
  have hocc : ∀ i, Lib.occAt l [46, 46, 46] i = true ↔ (l.drop i).take 3 = [46, 46, 46] := by
    intro i
    unfold Lib.occAt
    rw [List.isPrefixOf_iff_prefix]
    constructor
    · rintro ⟨t, ht⟩
      rw [← ht]; rfl
    · intro h
      exact ⟨(l.drop i).drop 3, by rw [← h, List.take_append_drop]⟩
  unfold Lib.contains
  rw [decide_eq_true_iff]
  rcases Lib.index_spec l [46, 46, 46] with ⟨h1, h2⟩ | ⟨i, h1, h2, h3, h4⟩
  · constructor
    · intro h; omega
    · rintro ⟨k, hk2, hkl, h⟩
      have := h2 (k - 2) (by omega)
      rw [(hocc (k - 2)).2 h] at this
      cases this
  · constructor
    · intro _
      have h5 := (hocc i).1 h3
      have h6 := congrArg List.length h5
      simp at h6
      exact ⟨i + 2, by omega, by omega, by simpa using h5⟩
    · intro _; omega
def seenOk (l : List UInt8) (k : Nat) : Prop := (l.take k).all el = true ∧ ∀ j, 2 ≤ j → j < k → (l.drop (j - 2)).take 3 ≠ [46, 46, 46]
theorem seen_all {l : List UInt8} (h : seenOk l l.length) : elemOk l = !l.all (· == 46) := by
  unfold elemOk
  rw [trim_nil]
  have h1 : allEl l = true := by have := h.1; rw [List.take_length] at this; exact this
  have h2 : Lib.contains l [46, 46, 46] = false := by
    cases e : Lib.contains l [46, 46, 46]
    · rfl
    · obtain ⟨k, a, b, c⟩ := (three_iff l).1 e
      exact absurd c (h.2 k a b)
  rw [h1, h2]; simp
theorem seen_bad {l : List UInt8} {k : Nat} (hk : k < l.length) (h : el l[k] = false) : elemOk l = false := by
  have : allEl l = false := by
    cases e : allEl l
    · rfl
    · have := List.all_eq_true.1 e l[k] (List.getElem_mem hk)
      rw [h] at this; cases this
  unfold elemOk
  rw [this]; simp
theorem seen_three {l : List UInt8} {k : Nat} (h2 : 2 ≤ k) (hk : k < l.length) (h : (l.drop (k - 2)).take 3 = [46, 46, 46]) : elemOk l = false := by
  have : Lib.contains l [46, 46, 46] = true := (three_iff l).2 ⟨k, h2, hk, h⟩
  unfold elemOk
  rw [this]; simp
theorem seen_next {l : List UInt8} {k : Nat} (hs : seenOk l k) (hk : k < l.length) (h : el l[k] = true) (h3 : 2 ≤ k → (l.drop (k - 2)).take 3 ≠ [46, 46, 46]) : seenOk l (k + 1) := by
  refine ⟨?_, fun j h2 hj => ?_⟩
  · rw [List.take_succ_eq_append_getElem hk, all_snoc, hs.1, h]; rfl
  · by_cases e : j = k
    · subst e; exact h3 h2
    · exact hs.2 j h2 (by omega)
theorem dots_next {l : List UInt8} {k : Nat} (hk : k < l.length) : (l.take (k + 1)).all (· == 46) = ((l.take k).all (· == 46) && l[k] == 46) := by
  rw [List.take_succ_eq_append_getElem hk, all_snoc]
def sufV (l : List UInt8) : Int := if likeB l then (if sufOk l then (num (restOf l)).1 else -1) else 0
theorem suf_pos {l : List UInt8} (h : sufOk l = true) : 2 ≤ (num (restOf l)).1 := by
  unfold sufOk at h
  simp only [Bool.and_eq_true, decide_eq_true_eq] at h
  exact h.2
theorem cut_app (c : UInt8) (b : List UInt8) (hb : b.contains c = false) : ∀ a : List UInt8, cutAt c (a ++ c :: b) = cutAt c a ++ [b]
  | [] => by
    show cutAt c (c :: b) = [[]] ++ [b]
    rw [cutAt, if_pos rfl, cut_last c b hb]; rfl
  | x :: a => by
    show cutAt c (x :: (a ++ c :: b)) = cutAt c (x :: a) ++ [b]
    rw [cutAt, cutAt, cut_app c b hb a]
    by_cases hx : x = c
    · rw [if_pos hx, if_pos hx]; rfl
    · rw [if_neg hx, if_neg hx]
      cases e : cutAt c a with
      | nil => exact absurd e (cutAt_ne c a)
      | cons y r => rfl
theorem slash_split {l : List UInt8} {k : Nat} (hk : k < l.length) (h : l[k] = 47) (hn : ∀ j (hj : j < l.length), k < j → l[j] ≠ 47) :
    elems l = elems (l.take k) ++ [l.drop (k + 1)] := by
  have hb : (l.drop (k + 1)).contains 47 = false := by
    cases e : (l.drop (k + 1)).contains 47
    · rfl
    · exfalso
      have hm : (47 : UInt8) ∈ l.drop (k + 1) := by simpa using e
      obtain ⟨i, hi, e2⟩ := List.mem_iff_getElem.1 hm
      rw [List.getElem_drop] at e2
      exact hn (k + 1 + i) (by simp at hi; omega) (by omega) e2
  have e1 : l = l.take k ++ 47 :: l.drop (k + 1) := by
    have h2 := List.take_append_drop k l
    rw [← List.getElem_cons_drop (h := hk), h] at h2
    exact h2.symm
  have h3 := cut_app 47 (l.drop (k + 1)) hb (l.take k)
  rw [← e1] at h3
  exact h3
theorem slash_last {l : List UInt8} {k : Nat} (h : elems l = elems (l.take k) ++ [l.drop (k + 1)]) : 1 < (elems l).length ∧ lastOf l = l.drop (k + 1) ∧ Lib.join ((elems l).take ((elems l).length - 1)) [47] = l.take k := by
  have hp := elems_pos (l.take k)
  have hl : (elems l).length = (elems (l.take k)).length + 1 := by rw [h]; simp
  refine ⟨by omega, ?_, ?_⟩
  · unfold lastOf
    rw [hl, h]
    simp
  · rw [hl, h]
    simp only [Nat.add_sub_cancel, List.take_left']
    exact join_cut 47 _
theorem slash_none {l : List UInt8} (hn : ∀ j (hj : j < l.length), l[j] ≠ 47) : elems l = [l] := by
  refine cut_last 47 l ?_
  cases e : l.contains 47
  · rfl
  · exfalso
    have hm : (47 : UInt8) ∈ l := by simpa using e
    obtain ⟨i, hi, e2⟩ := List.mem_iff_getElem.1 hm
    exact hn i hi e2
end Ve
end Go.Proofs.YtoaobngpdaidoaaGreatDoor


namespace Go.Proofs.YtoaobngpdaidoaaGreatDoor
open Go.RowKit
namespace Ve
theorem rcut47 (s : ByteArray) (w : World) (hs : s.size < 4294967281) :
    Calls Tryz.prog 124 #[.string s, .int .u8 47] w fun e w' => ∃ v X, e = .returned v ∧ bl X = elems s.data.toList ∧ w'.ownsRow w.heap.size 9 1 v X.length (X.map Value.string) ∧ Below w.heap.size w w' := rcut_any s 47 w hs
theorem unmarked {s : ByteArray} (hp : 0 < s.size) (h : marked s.data.toList = false) : ((s[0].toNat : Int) == 118) = false := by
  unfold marked at h
  rw [List.headD_eq_head?_getD, List.head?_eq_getElem?, List.getElem?_eq_getElem (by simpa using hp)] at h
  simp only [Option.getD_some, beq_eq_false_iff_ne] at h
  have h2 : s[0] ≠ 118 := h
  refine beq_eq_false_iff_ne.2 fun e => h2 ?_
  apply UInt8.toNat_inj.1
  have : (118 : UInt8).toNat = 118 := rfl
  omega
set_option maxHeartbeats 1000000 in
theorem suffixOf_any (s : ByteArray) (w : World) (hs : s.size ≤ maxLen) :
    Calls Tryz.prog 125 #[.string s] w fun e w' => e = .returned (.int .i64 (sufV s.data.toList)) ∧ w' = w := by
  have HV := hid (show sufV s.data.toList = if likeB s.data.toList then (if sufOk s.data.toList then (num (restOf s.data.toList)).1 else -1) else 0 from rfl)
  have HO := hid (show sufOk s.data.toList = (decide ((num (restOf s.data.toList)).2 = 0) && decide (2 ≤ (num (restOf s.data.toList)).1)) from rfl)
  have HL := hid (show likeB s.data.toList = (marked s.data.toList && digs (restOf s.data.toList)) from rfl)
  have hsz : s.size ≤ 9223372036854775807 := hs
  by_cases h2 : s.size < 2
  · have hk : likeB s.data.toList = false := by
      rw [HL.out]
      cases hm : marked s.data.toList
      · rfl
      · have hd : restOf s.data.toList = [] := by rw [rest_drop hm]; exact List.length_eq_zero_iff.1 (by simp; omega)
        rw [hd]; rfl
    rw [hk] at HV
    clear hk
    go_enter Tryz.func125, Tryz.ntmps125
    go_wp2_with fail
    go_ret
    exact ⟨by rw [HV.out]; rfl, rfl⟩
  · have hpos : 0 < s.size := by omega
    cases hm : marked s.data.toList
    · have h0 := unmarked hpos hm
      rw [HL.out, hm] at HV
      clear hm
      go_enter Tryz.func125, Tryz.ntmps125
      go_wp2_with fail
      go_ret
      exact ⟨by rw [HV.out]; rfl, rfl⟩
    · obtain ⟨_, h0⟩ := marked_pos hm
      have HT := hid (show (s.extract 1 s.size).data.toList = restOf s.data.toList by rw [ext_drop, rest_drop hm])
      have hTs : (s.extract 1 s.size).size ≤ maxLen := by rw [ByteArray.size_extract]; unfold maxLen; omega
      have HA := hid (areDigits_any (s.extract 1 s.size) w hTs)
      have HN := hid (numberOf_any (s.extract 1 s.size) w hTs)
      rw [HT.out] at HA HN
      rw [hm] at HL
      have h1k : (1 : Int) ≤ (s.size : Int) := by omega
      generalize restOf s.data.toList = r at *
      clear hm
      cases hd : digs r
      · rw [hd] at HA HL
        rw [HL.out] at HV
        clear hd
        go_enter Tryz.func125, Tryz.ntmps125
        go_wp2_with fail
        refine HA.out.mono ?_
        rintro e w' ⟨rfl, rfl⟩
        go_wp2_with fail
        go_ret
        exact ⟨by rw [HV.out]; rfl, rfl⟩
      · rw [hd] at HA HL
        rw [HL.out] at HV
        clear hd
        by_cases he : (num r).2 = 0
        · rw [decide_eq_true he] at HO
          have hz : ((num r).2 : Int) = 0 := by omega
          have hz2 : ¬ (0 : Int) < ((num r).2 : Int) := by omega
          rw [hz] at HN
          clear hz he
          by_cases hn : (num r).1 < 2
          · rw [decide_eq_false (show ¬ 2 ≤ (num r).1 by omega)] at HO
            rw [HO.out] at HV
            generalize (num r).1 = n at *
            go_enter Tryz.func125, Tryz.ntmps125
            go_wp2_with fail
            refine HA.out.mono ?_
            rintro e w' ⟨rfl, rfl⟩
            go_wp2_with fail
            refine HN.out.mono ?_
            rintro e w' ⟨rfl, rfl⟩
            go_wp2_with fail
            go_ret
            exact ⟨by rw [HV.out]; rfl, rfl⟩
          · rw [decide_eq_true (show 2 ≤ (num r).1 by omega)] at HO
            rw [HO.out] at HV
            generalize (num r).1 = n at *
            go_enter Tryz.func125, Tryz.ntmps125
            go_wp2_with fail
            refine HA.out.mono ?_
            rintro e w' ⟨rfl, rfl⟩
            go_wp2_with fail
            refine HN.out.mono ?_
            rintro e w' ⟨rfl, rfl⟩
            go_wp2_with fail
            go_ret
            exact ⟨by rw [HV.out]; rfl, rfl⟩
        · rw [decide_eq_false he, Bool.false_and] at HO
          rw [HO.out] at HV
          have hz : (0 : Int) < ((num r).2 : Int) := by omega
          generalize ((num r).2 : Int) = c at *
          generalize (num r).1 = n at *
          clear he
          go_enter Tryz.func125, Tryz.ntmps125
          go_wp2_with fail
          refine HA.out.mono ?_
          rintro e w' ⟨rfl, rfl⟩
          go_wp2_with fail
          refine HN.out.mono ?_
          rintro e w' ⟨rfl, rfl⟩
          go_wp2_with fail
          go_ret
          exact ⟨by rw [HV.out]; rfl, rfl⟩
end Ve
end Go.Proofs.YtoaobngpdaidoaaGreatDoor


namespace Go.Proofs.YtoaobngpdaidoaaGreatDoor
open Go.RowKit
namespace Ve
theorem bad_one {l : List UInt8} {e : List UInt8} (h : e ∈ elems l) (hb : elemOk e = false) : pathErr l = 1 := by
  have : badE l = true := List.any_eq_true.2 ⟨e, h, by rw [hb]; rfl⟩
  unfold pathErr; rw [this]; rfl
theorem bad_none {l : List UInt8} (h : (elems l).all elemOk = true) : badE l = false := by
  unfold badE
  rw [List.any_eq_false]
  intro x hx
  rw [List.all_eq_true.1 h x hx]; decide
theorem path_2 {l : List UInt8} (h : (elems l).all elemOk = true) (h2 : longE l = true) : pathErr l = 2 := by
  unfold pathErr; rw [bad_none h, h2]; rfl
theorem path_4 {l : List UInt8} (h : (elems l).all elemOk = true) (h2 : longE l = false) (h1 : 1 < (elems l).length) (hs : sufV (lastOf l) < 0) : pathErr l = 4 := by
  unfold sufV at hs
  cases hk : likeB (lastOf l)
  · rw [hk] at hs; simp at hs
  · rw [hk] at hs
    cases ho : sufOk (lastOf l)
    · have hu : sufE l = true := by unfold sufE; rw [hk, decide_eq_true h1]; rfl
      unfold pathErr; rw [bad_none h, h2, hu, ho]; rfl
    · rw [ho] at hs
      have := suf_pos ho
      simp at hs; omega
theorem path_0 {l : List UInt8} (h : (elems l).all elemOk = true) (h2 : longE l = false) (h1 : 1 < (elems l).length) (hs : ¬ sufV (lastOf l) < 0) : pathErr l = 0 := by
  unfold sufV at hs
  cases hk : likeB (lastOf l)
  · have hu : sufE l = false := by unfold sufE; rw [hk]; simp
    unfold pathErr; rw [bad_none h, h2, hu]; rfl
  · rw [hk] at hs
    have hu : sufE l = true := by unfold sufE; rw [hk, decide_eq_true h1]; rfl
    cases ho : sufOk (lastOf l)
    · rw [ho] at hs; simp at hs
    · unfold pathErr; rw [bad_none h, h2, hu, ho]; rfl
theorem path_00 {l : List UInt8} (h : (elems l).all elemOk = true) (h2 : longE l = false) (h1 : ¬ 1 < (elems l).length) : pathErr l = 0 := by
  have hu : sufE l = false := by unfold sufE; rw [decide_eq_false h1]; rfl
  unfold pathErr; rw [bad_none h, h2, hu]; rfl
theorem el_is (c : UInt8) : el c = (decide (97 ≤ (c.toNat : Int) ∧ (c.toNat : Int) ≤ 122) || decide (48 ≤ (c.toNat : Int) ∧ (c.toNat : Int) ≤ 57) || (c.toNat : Int) == 46 || (c.toNat : Int) == 45 || (c.toNat : Int) == 95) := rfl
theorem dot_is (c : UInt8) : (c == 46) = ((c.toNat : Int) == 46) := by
  rw [Bool.eq_iff_iff]
  simp only [beq_iff_eq]
  have : (46 : UInt8).toNat = 46 := rfl
  constructor
  · intro h; rw [h]; rfl
  · intro h; exact UInt8.toNat_inj.1 (by omega)
set_option maxRecDepth 100000 in
set_option maxHeartbeats 16000000 in
theorem pathError_any (s : ByteArray) (w : World) (hs : s.size < 4294967281) :
    Calls Tryz.prog 78 #[.string s] w fun e w' => e = .returned (.int .i64 (pathErr s.data.toList : Nat)) ∧ Below w.heap.size w w' := by
  go_enter Tryz.func78, Tryz.ntmps78
  go_wp2_with fail
  refine (rcut47 s w hs).mono ?_
  rintro e w1 ⟨v, X, rfl, hX, hown, hb⟩
  have HX := hid hX
  have HB := hid hb
  have HXN := hid (show X ≠ [] from fun h => by subst h; exact cutAt_ne _ _ hX.symm)
  obtain ⟨g, cap, rfl, hg, hgz, hcells⟩ := owned_cells hown HXN.out
  have HCE := hid hcells
  have hXle := many_le hX
  have HXZ := hid (show ∀ x, x ∈ X → x.size ≤ maxLen from fun x hx => by have := piece_le hX hx; unfold maxLen; omega)
  have HXL := hid (show (elems s.data.toList).length = X.length by rw [← hX, bl_len])
  have HPOS := hid (show 0 < X.length from List.length_pos_iff.2 HXN.out)
  have HLE := hid (show longE s.data.toList = (decide (5 < (X.length : Int)) || (bl X).any long) by
    unfold longE
    rw [← hX, bl_len]
    congr 1
    rw [decide_eq_decide]; omega)
  have HLA := hid (fun hp => last_get hX hp)
  clear hX hown hb hg hgz hcells
  generalize hlg : decide (5 < (X.length : Int)) = lg at *
  go_wp2_with fail
  go_loop [4, 5] (fun lo i => ∃ k : Nat, k ≤ X.length ∧ i = .int .i64 k ∧ lo = .bool (lg || (bl (X.take k)).any long) ∧ Hid ((bl (X.take k)).all elemOk = true)) (fun _ i => X.length - (intOf i).toNat)
  case atStart => exact ⟨0, Nat.zero_le _, rfl, by simp [bl], hid (by simp [bl])⟩
  case round =>
    obtain ⟨k, hk, rfl, rfl, HOK⟩ := hrel
    generalize hbj : (lg || (bl (X.take k)).any long) = bj at *
    have HBJ := hid hbj
    clear hbj
    by_cases hkX : k < X.length
    · have hcell := HCE.out k hkX
      have HPZ := hid (HXZ.out X[k] (List.getElem_mem hkX))
      have HXJ := hid (bl_take_snoc X k hkX)
      have HMEM := hid (show X[k].data.toList ∈ elems s.data.toList by rw [← HX.out]; exact bl_mem (List.getElem_mem hkX))
      generalize X[k] = p at *
      have hpz : p.size ≤ 9223372036854775807 := HPZ.out
      go_wp2_with fail
      go_loop [6, 7, 8, 9, 10] (fun dt i _ _ _ => ∃ y : Nat, y ≤ p.size ∧ i = .int .i64 y ∧ dt = .bool ((p.data.toList.take y).all (· == 46)) ∧ Hid (seenOk p.data.toList y)) (fun _ i _ _ _ => p.size - (intOf i).toNat)
      case atStart => exact ⟨0, Nat.zero_le _, rfl, rfl, hid ⟨rfl, fun j _ h => absurd h (Nat.not_lt_zero j)⟩⟩
      case round =>
        obtain ⟨y, hy, rfl, rfl, HSE⟩ := hrel
        generalize hdt : (p.data.toList.take y).all (· == 46) = dt at *
        have HDT := hid hdt
        clear hdt
        by_cases hyl : y < p.size
        · have hyb := p[y].toNat_lt
          have HLL := hid (show y < p.data.toList.length by simpa using hyl)
          have HPY := hid (show p.data.toList[y]'(by simpa using hyl) = p[y] from rfl)
          have HEL := hid (el_is p[y])
          have HDI := hid (dot_is p[y])
          have HDN := hid (dots_next (l := p.data.toList) (k := y) (by simpa using hyl))
          rw [HPY.out, HDT.out, HDI.out] at HDN
          have HBAD := hid (show el p[y] = false → pathErr s.data.toList = 1 from fun h => bad_one HMEM.out (seen_bad (k := y) (by simpa using hyl) h))
          have HTHREE := hid (show 2 ≤ y → (p.data.toList.drop (y - 2)).take 3 = [46, 46, 46] → pathErr s.data.toList = 1 from fun h2 h => bad_one HMEM.out (seen_three h2 (by simpa using hyl) h))
          have HNEXT := hid (show el p[y] = true → (2 ≤ y → (p.data.toList.drop (y - 2)).take 3 ≠ [46, 46, 46]) → seenOk p.data.toList (y + 1) from fun h h3 => seen_next HSE.out (by simpa using hyl) h h3)
          have HRG := hid (show (p[y].toNat : Int) < 45 ∨ (p[y].toNat : Int) = 45 ∨ (p[y].toNat : Int) = 46 ∨ (p[y].toNat : Int) = 47 ∨ (48 ≤ (p[y].toNat : Int) ∧ (p[y].toNat : Int) ≤ 57) ∨ (57 < (p[y].toNat : Int) ∧ (p[y].toNat : Int) < 95) ∨ (p[y].toNat : Int) = 95 ∨ (p[y].toNat : Int) = 96 ∨ (97 ≤ (p[y].toNat : Int) ∧ (p[y].toNat : Int) ≤ 122) ∨ 122 < (p[y].toNat : Int) by omega)
          have HEXT := hid (show 2 ≤ y → (p.extract (y - 2) (y + 1)).data.toList = (p.data.toList.drop (y - 2)).take 3 from fun h2 => by rw [extract_list, show y + 1 - (y - 2) = 3 by omega])
          clear hyb
          rcases HRG.out with hr | hr | hr | hr | hr | hr | hr | hr | hr | hr
          · have a1 : ¬ 97 ≤ (p[y].toNat : Int) := by omega
            have a2 : (p[y].toNat : Int) ≤ 122 := by omega
            have d1 : ¬ 48 ≤ (p[y].toNat : Int) := by omega
            have d2 : (p[y].toNat : Int) ≤ 57 := by omega
            have e1 : ((p[y].toNat : Int) == 46) = false := beq_eq_false_iff_ne.2 (by omega)
            have e1p : ¬ (p[y].toNat : Int) = 46 := by omega
            have e1n : ((p[y].toNat : Int) != 46) = true := by rw [bne, e1]; rfl
            have e2 : ((p[y].toNat : Int) == 45) = false := beq_eq_false_iff_ne.2 (by omega)
            have e2p : ¬ (p[y].toNat : Int) = 45 := by omega
            have e2n : ((p[y].toNat : Int) != 45) = true := by rw [bne, e2]; rfl
            have e3 : ((p[y].toNat : Int) == 95) = false := beq_eq_false_iff_ne.2 (by omega)
            have e3p : ¬ (p[y].toNat : Int) = 95 := by omega
            have e3n : ((p[y].toNat : Int) != 95) = true := by rw [bne, e3]; rfl
            have HRES := hid (HBAD.out (by rw [HEL.out]; simp; omega))
            have D5 := hid (show ∀ h : ¬ (p[y].toNat : Int) ≤ 57, decide ((p[y].toNat : Int) ≤ 57) = false from fun h => decide_eq_false h)
            have D9 := hid (show ∀ h : ¬ (p[y].toNat : Int) ≤ 122, decide ((p[y].toNat : Int) ≤ 122) = false from fun h => decide_eq_false h)
            clear hr
            go_wp2_with fail
            all_goals first
              | (go_ret; exact ⟨by rw [HRES.out]; rfl, HB.out⟩)
              | exact absurd ‹((((p[y].toNat : Int) != 46) = false ∨ ((p[y].toNat : Int) != 45) = false) ∨ ((p[y].toNat : Int) != 95) = false)› (by rw [e1n, e2n, e3n]; decide)
              | exact absurd ‹((((!decide ((p[y].toNat : Int) ≤ 57)) = false ∨ ((p[y].toNat : Int) != 46) = false) ∨ ((p[y].toNat : Int) != 45) = false) ∨ ((p[y].toNat : Int) != 95) = false)› (by rw [e1n, e2n, e3n, D5.out (by omega)]; decide)
              | exact absurd ‹(((((!decide ((p[y].toNat : Int) ≤ 122)) = false ∨ (!decide ((p[y].toNat : Int) ≤ 57)) = false) ∨ ((p[y].toNat : Int) != 46) = false) ∨ ((p[y].toNat : Int) != 45) = false) ∨ ((p[y].toNat : Int) != 95) = false)› (by rw [e1n, e2n, e3n, D5.out (by omega), D9.out (by omega)]; decide)
          · have a1 : ¬ 97 ≤ (p[y].toNat : Int) := by omega
            have a2 : (p[y].toNat : Int) ≤ 122 := by omega
            have d1 : ¬ 48 ≤ (p[y].toNat : Int) := by omega
            have d2 : (p[y].toNat : Int) ≤ 57 := by omega
            have e1 : ((p[y].toNat : Int) == 46) = false := beq_eq_false_iff_ne.2 (by omega)
            have e1p : ¬ (p[y].toNat : Int) = 46 := by omega
            have e1n : ((p[y].toNat : Int) != 46) = true := by rw [bne, e1]; rfl
            have e2 : ((p[y].toNat : Int) == 45) = true := beq_iff_eq.2 (by omega)
            have e2p : (p[y].toNat : Int) = 45 := by omega
            have e2n : ((p[y].toNat : Int) != 45) = false := by rw [bne, e2]; rfl
            have e3 : ((p[y].toNat : Int) == 95) = false := beq_eq_false_iff_ne.2 (by omega)
            have e3p : ¬ (p[y].toNat : Int) = 95 := by omega
            have e3n : ((p[y].toNat : Int) != 95) = true := by rw [bne, e3]; rfl
            have HE1 := hid (show el p[y] = true by rw [HEL.out]; simp; omega)
            clear hr
            cases dt
            · have HDV := hid (show Value.bool false = Value.bool ((p.data.toList.take (y + 1)).all (· == 46)) by rw [HDN.out, e1]; rfl)
              have HDW := hid (show Value.bool false = Value.bool ((p.data.toList.take (y + 1)).all (· == 46)) by rw [HDN.out]; rfl)
              by_cases h2 : 2 ≤ y
              · have h2i : (2 : Int) ≤ (y : Int) := by omega
                have s1 : (0 : Int) ≤ (y : Int) - 2 := by omega
                have s2 : (y : Int) - 2 ≤ (y : Int) + 1 := by omega
                have s3 : (y : Int) + 1 ≤ (p.size : Int) := by omega
                have t1 : ((y : Int) - 2).toNat = y - 2 := by omega
                have h3 : (p.data.toList.drop (y - 2)).take 3 ≠ [46, 46, 46] := fun h => by
                  have h4 := congrArg (fun l => l[2]?) h
                  have h5 : ((p.data.toList.drop (y - 2)).take 3)[2]? = some p[y] := by
                    rw [List.getElem?_take_of_lt (by omega), List.getElem?_drop, show y - 2 + 2 = y by omega, List.getElem?_eq_getElem HLL.out, HPY.out]
                  have h6 : some p[y] = some 46 := h5.symm.trans h4
                  have h7 : p[y] = 46 := Option.some.inj h6
                  have h8 := HDI.out
                  rw [h7] at h8 e1
                  exact absurd e1 (by decide)
                have hx3 : ((p.extract (y - 2) (y + 1)).toList == [46, 46, 46]) = false := by rw [ByteArray.toList_eq, HEXT.out h2]; exact beq_eq_false_iff_ne.2 h3
                have HNX := hid (HNEXT.out HE1.out (fun _ => h3))
                clear h3
                go_wp2_with fail
                go_round
                case rel => first | exact ⟨y + 1, by omega, by go_num, HDV.out, hid (HNX.out)⟩ | exact ⟨y + 1, by omega, by go_num, HDW.out, hid (HNX.out)⟩
                case measure => simp [intOf]; omega
              · have h2i : ¬ (2 : Int) ≤ (y : Int) := by omega
                have HNX := hid (HNEXT.out HE1.out (fun h => absurd h h2))
                go_wp2_with fail
                go_round
                case rel => first | exact ⟨y + 1, by omega, by go_num, HDV.out, hid (HNX.out)⟩ | exact ⟨y + 1, by omega, by go_num, HDW.out, hid (HNX.out)⟩
                case measure => simp [intOf]; omega
            · have HDV := hid (show Value.bool false = Value.bool ((p.data.toList.take (y + 1)).all (· == 46)) by rw [HDN.out, e1]; rfl)
              have HDW := hid (show Value.bool ((p[y].toNat : Int) == 46) = Value.bool ((p.data.toList.take (y + 1)).all (· == 46)) by rw [HDN.out]; rfl)
              by_cases h2 : 2 ≤ y
              · have h2i : (2 : Int) ≤ (y : Int) := by omega
                have s1 : (0 : Int) ≤ (y : Int) - 2 := by omega
                have s2 : (y : Int) - 2 ≤ (y : Int) + 1 := by omega
                have s3 : (y : Int) + 1 ≤ (p.size : Int) := by omega
                have t1 : ((y : Int) - 2).toNat = y - 2 := by omega
                have h3 : (p.data.toList.drop (y - 2)).take 3 ≠ [46, 46, 46] := fun h => by
                  have h4 := congrArg (fun l => l[2]?) h
                  have h5 : ((p.data.toList.drop (y - 2)).take 3)[2]? = some p[y] := by
                    rw [List.getElem?_take_of_lt (by omega), List.getElem?_drop, show y - 2 + 2 = y by omega, List.getElem?_eq_getElem HLL.out, HPY.out]
                  have h6 : some p[y] = some 46 := h5.symm.trans h4
                  have h7 : p[y] = 46 := Option.some.inj h6
                  have h8 := HDI.out
                  rw [h7] at h8 e1
                  exact absurd e1 (by decide)
                have hx3 : ((p.extract (y - 2) (y + 1)).toList == [46, 46, 46]) = false := by rw [ByteArray.toList_eq, HEXT.out h2]; exact beq_eq_false_iff_ne.2 h3
                have HNX := hid (HNEXT.out HE1.out (fun _ => h3))
                clear h3
                go_wp2_with fail
                go_round
                case rel => first | exact ⟨y + 1, by omega, by go_num, HDV.out, hid (HNX.out)⟩ | exact ⟨y + 1, by omega, by go_num, HDW.out, hid (HNX.out)⟩
                case measure => simp [intOf]; omega
              · have h2i : ¬ (2 : Int) ≤ (y : Int) := by omega
                have HNX := hid (HNEXT.out HE1.out (fun h => absurd h h2))
                go_wp2_with fail
                go_round
                case rel => first | exact ⟨y + 1, by omega, by go_num, HDV.out, hid (HNX.out)⟩ | exact ⟨y + 1, by omega, by go_num, HDW.out, hid (HNX.out)⟩
                case measure => simp [intOf]; omega
          · have a1 : ¬ 97 ≤ (p[y].toNat : Int) := by omega
            have a2 : (p[y].toNat : Int) ≤ 122 := by omega
            have d1 : ¬ 48 ≤ (p[y].toNat : Int) := by omega
            have d2 : (p[y].toNat : Int) ≤ 57 := by omega
            have e1 : ((p[y].toNat : Int) == 46) = true := beq_iff_eq.2 (by omega)
            have e1p : (p[y].toNat : Int) = 46 := by omega
            have e1n : ((p[y].toNat : Int) != 46) = false := by rw [bne, e1]; rfl
            have e2 : ((p[y].toNat : Int) == 45) = false := beq_eq_false_iff_ne.2 (by omega)
            have e2p : ¬ (p[y].toNat : Int) = 45 := by omega
            have e2n : ((p[y].toNat : Int) != 45) = true := by rw [bne, e2]; rfl
            have e3 : ((p[y].toNat : Int) == 95) = false := beq_eq_false_iff_ne.2 (by omega)
            have e3p : ¬ (p[y].toNat : Int) = 95 := by omega
            have e3n : ((p[y].toNat : Int) != 95) = true := by rw [bne, e3]; rfl
            have HE1 := hid (show el p[y] = true by rw [HEL.out]; simp; omega)
            clear hr
            cases dt
            · have HDV := hid (show Value.bool false = Value.bool ((p.data.toList.take (y + 1)).all (· == 46)) by rw [HDN.out, e1]; rfl)
              have HDW := hid (show Value.bool false = Value.bool ((p.data.toList.take (y + 1)).all (· == 46)) by rw [HDN.out]; rfl)
              by_cases h2 : 2 ≤ y
              · have h2i : (2 : Int) ≤ (y : Int) := by omega
                have s1 : (0 : Int) ≤ (y : Int) - 2 := by omega
                have s2 : (y : Int) - 2 ≤ (y : Int) + 1 := by omega
                have s3 : (y : Int) + 1 ≤ (p.size : Int) := by omega
                have t1 : ((y : Int) - 2).toNat = y - 2 := by omega
                by_cases h3 : (p.data.toList.drop (y - 2)).take 3 = [46, 46, 46]
                · have hx3 : ((p.extract (y - 2) (y + 1)).toList == [46, 46, 46]) = true := by rw [ByteArray.toList_eq, HEXT.out h2]; exact beq_iff_eq.2 h3
                  have HRES := hid (HTHREE.out h2 h3)
                  clear h3
                  go_wp2_with fail
                  go_ret
                  exact ⟨by rw [HRES.out]; rfl, HB.out⟩
                · have hx3 : ((p.extract (y - 2) (y + 1)).toList == [46, 46, 46]) = false := by rw [ByteArray.toList_eq, HEXT.out h2]; exact beq_eq_false_iff_ne.2 h3
                  have HNX := hid (HNEXT.out HE1.out (fun _ => h3))
                  clear h3
                  go_wp2_with fail
                  go_round
                  case rel => first | exact ⟨y + 1, by omega, by go_num, HDV.out, hid (HNX.out)⟩ | exact ⟨y + 1, by omega, by go_num, HDW.out, hid (HNX.out)⟩
                  case measure => simp [intOf]; omega
              · have h2i : ¬ (2 : Int) ≤ (y : Int) := by omega
                have HNX := hid (HNEXT.out HE1.out (fun h => absurd h h2))
                go_wp2_with fail
                go_round
                case rel => first | exact ⟨y + 1, by omega, by go_num, HDV.out, hid (HNX.out)⟩ | exact ⟨y + 1, by omega, by go_num, HDW.out, hid (HNX.out)⟩
                case measure => simp [intOf]; omega
            · have HDV := hid (show Value.bool true = Value.bool ((p.data.toList.take (y + 1)).all (· == 46)) by rw [HDN.out, e1]; rfl)
              have HDW := hid (show Value.bool ((p[y].toNat : Int) == 46) = Value.bool ((p.data.toList.take (y + 1)).all (· == 46)) by rw [HDN.out]; rfl)
              by_cases h2 : 2 ≤ y
              · have h2i : (2 : Int) ≤ (y : Int) := by omega
                have s1 : (0 : Int) ≤ (y : Int) - 2 := by omega
                have s2 : (y : Int) - 2 ≤ (y : Int) + 1 := by omega
                have s3 : (y : Int) + 1 ≤ (p.size : Int) := by omega
                have t1 : ((y : Int) - 2).toNat = y - 2 := by omega
                by_cases h3 : (p.data.toList.drop (y - 2)).take 3 = [46, 46, 46]
                · have hx3 : ((p.extract (y - 2) (y + 1)).toList == [46, 46, 46]) = true := by rw [ByteArray.toList_eq, HEXT.out h2]; exact beq_iff_eq.2 h3
                  have HRES := hid (HTHREE.out h2 h3)
                  clear h3
                  go_wp2_with fail
                  go_ret
                  exact ⟨by rw [HRES.out]; rfl, HB.out⟩
                · have hx3 : ((p.extract (y - 2) (y + 1)).toList == [46, 46, 46]) = false := by rw [ByteArray.toList_eq, HEXT.out h2]; exact beq_eq_false_iff_ne.2 h3
                  have HNX := hid (HNEXT.out HE1.out (fun _ => h3))
                  clear h3
                  go_wp2_with fail
                  go_round
                  case rel => first | exact ⟨y + 1, by omega, by go_num, HDV.out, hid (HNX.out)⟩ | exact ⟨y + 1, by omega, by go_num, HDW.out, hid (HNX.out)⟩
                  case measure => simp [intOf]; omega
              · have h2i : ¬ (2 : Int) ≤ (y : Int) := by omega
                have HNX := hid (HNEXT.out HE1.out (fun h => absurd h h2))
                go_wp2_with fail
                go_round
                case rel => first | exact ⟨y + 1, by omega, by go_num, HDV.out, hid (HNX.out)⟩ | exact ⟨y + 1, by omega, by go_num, HDW.out, hid (HNX.out)⟩
                case measure => simp [intOf]; omega
          · have a1 : ¬ 97 ≤ (p[y].toNat : Int) := by omega
            have a2 : (p[y].toNat : Int) ≤ 122 := by omega
            have d1 : ¬ 48 ≤ (p[y].toNat : Int) := by omega
            have d2 : (p[y].toNat : Int) ≤ 57 := by omega
            have e1 : ((p[y].toNat : Int) == 46) = false := beq_eq_false_iff_ne.2 (by omega)
            have e1p : ¬ (p[y].toNat : Int) = 46 := by omega
            have e1n : ((p[y].toNat : Int) != 46) = true := by rw [bne, e1]; rfl
            have e2 : ((p[y].toNat : Int) == 45) = false := beq_eq_false_iff_ne.2 (by omega)
            have e2p : ¬ (p[y].toNat : Int) = 45 := by omega
            have e2n : ((p[y].toNat : Int) != 45) = true := by rw [bne, e2]; rfl
            have e3 : ((p[y].toNat : Int) == 95) = false := beq_eq_false_iff_ne.2 (by omega)
            have e3p : ¬ (p[y].toNat : Int) = 95 := by omega
            have e3n : ((p[y].toNat : Int) != 95) = true := by rw [bne, e3]; rfl
            have HRES := hid (HBAD.out (by rw [HEL.out]; simp; omega))
            have D5 := hid (show ∀ h : ¬ (p[y].toNat : Int) ≤ 57, decide ((p[y].toNat : Int) ≤ 57) = false from fun h => decide_eq_false h)
            have D9 := hid (show ∀ h : ¬ (p[y].toNat : Int) ≤ 122, decide ((p[y].toNat : Int) ≤ 122) = false from fun h => decide_eq_false h)
            clear hr
            go_wp2_with fail
            all_goals first
              | (go_ret; exact ⟨by rw [HRES.out]; rfl, HB.out⟩)
              | exact absurd ‹((((p[y].toNat : Int) != 46) = false ∨ ((p[y].toNat : Int) != 45) = false) ∨ ((p[y].toNat : Int) != 95) = false)› (by rw [e1n, e2n, e3n]; decide)
              | exact absurd ‹((((!decide ((p[y].toNat : Int) ≤ 57)) = false ∨ ((p[y].toNat : Int) != 46) = false) ∨ ((p[y].toNat : Int) != 45) = false) ∨ ((p[y].toNat : Int) != 95) = false)› (by rw [e1n, e2n, e3n, D5.out (by omega)]; decide)
              | exact absurd ‹(((((!decide ((p[y].toNat : Int) ≤ 122)) = false ∨ (!decide ((p[y].toNat : Int) ≤ 57)) = false) ∨ ((p[y].toNat : Int) != 46) = false) ∨ ((p[y].toNat : Int) != 45) = false) ∨ ((p[y].toNat : Int) != 95) = false)› (by rw [e1n, e2n, e3n, D5.out (by omega), D9.out (by omega)]; decide)
          · have a1 : ¬ 97 ≤ (p[y].toNat : Int) := by omega
            have a2 : (p[y].toNat : Int) ≤ 122 := by omega
            have d1 : 48 ≤ (p[y].toNat : Int) := by omega
            have d2 : (p[y].toNat : Int) ≤ 57 := by omega
            have e1 : ((p[y].toNat : Int) == 46) = false := beq_eq_false_iff_ne.2 (by omega)
            have e1p : ¬ (p[y].toNat : Int) = 46 := by omega
            have e1n : ((p[y].toNat : Int) != 46) = true := by rw [bne, e1]; rfl
            have e2 : ((p[y].toNat : Int) == 45) = false := beq_eq_false_iff_ne.2 (by omega)
            have e2p : ¬ (p[y].toNat : Int) = 45 := by omega
            have e2n : ((p[y].toNat : Int) != 45) = true := by rw [bne, e2]; rfl
            have e3 : ((p[y].toNat : Int) == 95) = false := beq_eq_false_iff_ne.2 (by omega)
            have e3p : ¬ (p[y].toNat : Int) = 95 := by omega
            have e3n : ((p[y].toNat : Int) != 95) = true := by rw [bne, e3]; rfl
            have HE1 := hid (show el p[y] = true by rw [HEL.out]; simp; omega)
            clear hr
            cases dt
            · have HDV := hid (show Value.bool false = Value.bool ((p.data.toList.take (y + 1)).all (· == 46)) by rw [HDN.out, e1]; rfl)
              have HDW := hid (show Value.bool false = Value.bool ((p.data.toList.take (y + 1)).all (· == 46)) by rw [HDN.out]; rfl)
              by_cases h2 : 2 ≤ y
              · have h2i : (2 : Int) ≤ (y : Int) := by omega
                have s1 : (0 : Int) ≤ (y : Int) - 2 := by omega
                have s2 : (y : Int) - 2 ≤ (y : Int) + 1 := by omega
                have s3 : (y : Int) + 1 ≤ (p.size : Int) := by omega
                have t1 : ((y : Int) - 2).toNat = y - 2 := by omega
                have h3 : (p.data.toList.drop (y - 2)).take 3 ≠ [46, 46, 46] := fun h => by
                  have h4 := congrArg (fun l => l[2]?) h
                  have h5 : ((p.data.toList.drop (y - 2)).take 3)[2]? = some p[y] := by
                    rw [List.getElem?_take_of_lt (by omega), List.getElem?_drop, show y - 2 + 2 = y by omega, List.getElem?_eq_getElem HLL.out, HPY.out]
                  have h6 : some p[y] = some 46 := h5.symm.trans h4
                  have h7 : p[y] = 46 := Option.some.inj h6
                  have h8 := HDI.out
                  rw [h7] at h8 e1
                  exact absurd e1 (by decide)
                have hx3 : ((p.extract (y - 2) (y + 1)).toList == [46, 46, 46]) = false := by rw [ByteArray.toList_eq, HEXT.out h2]; exact beq_eq_false_iff_ne.2 h3
                have HNX := hid (HNEXT.out HE1.out (fun _ => h3))
                clear h3
                go_wp2_with fail
                go_round
                case rel => first | exact ⟨y + 1, by omega, by go_num, HDV.out, hid (HNX.out)⟩ | exact ⟨y + 1, by omega, by go_num, HDW.out, hid (HNX.out)⟩
                case measure => simp [intOf]; omega
              · have h2i : ¬ (2 : Int) ≤ (y : Int) := by omega
                have HNX := hid (HNEXT.out HE1.out (fun h => absurd h h2))
                go_wp2_with fail
                go_round
                case rel => first | exact ⟨y + 1, by omega, by go_num, HDV.out, hid (HNX.out)⟩ | exact ⟨y + 1, by omega, by go_num, HDW.out, hid (HNX.out)⟩
                case measure => simp [intOf]; omega
            · have HDV := hid (show Value.bool false = Value.bool ((p.data.toList.take (y + 1)).all (· == 46)) by rw [HDN.out, e1]; rfl)
              have HDW := hid (show Value.bool ((p[y].toNat : Int) == 46) = Value.bool ((p.data.toList.take (y + 1)).all (· == 46)) by rw [HDN.out]; rfl)
              by_cases h2 : 2 ≤ y
              · have h2i : (2 : Int) ≤ (y : Int) := by omega
                have s1 : (0 : Int) ≤ (y : Int) - 2 := by omega
                have s2 : (y : Int) - 2 ≤ (y : Int) + 1 := by omega
                have s3 : (y : Int) + 1 ≤ (p.size : Int) := by omega
                have t1 : ((y : Int) - 2).toNat = y - 2 := by omega
                have h3 : (p.data.toList.drop (y - 2)).take 3 ≠ [46, 46, 46] := fun h => by
                  have h4 := congrArg (fun l => l[2]?) h
                  have h5 : ((p.data.toList.drop (y - 2)).take 3)[2]? = some p[y] := by
                    rw [List.getElem?_take_of_lt (by omega), List.getElem?_drop, show y - 2 + 2 = y by omega, List.getElem?_eq_getElem HLL.out, HPY.out]
                  have h6 : some p[y] = some 46 := h5.symm.trans h4
                  have h7 : p[y] = 46 := Option.some.inj h6
                  have h8 := HDI.out
                  rw [h7] at h8 e1
                  exact absurd e1 (by decide)
                have hx3 : ((p.extract (y - 2) (y + 1)).toList == [46, 46, 46]) = false := by rw [ByteArray.toList_eq, HEXT.out h2]; exact beq_eq_false_iff_ne.2 h3
                have HNX := hid (HNEXT.out HE1.out (fun _ => h3))
                clear h3
                go_wp2_with fail
                go_round
                case rel => first | exact ⟨y + 1, by omega, by go_num, HDV.out, hid (HNX.out)⟩ | exact ⟨y + 1, by omega, by go_num, HDW.out, hid (HNX.out)⟩
                case measure => simp [intOf]; omega
              · have h2i : ¬ (2 : Int) ≤ (y : Int) := by omega
                have HNX := hid (HNEXT.out HE1.out (fun h => absurd h h2))
                go_wp2_with fail
                go_round
                case rel => first | exact ⟨y + 1, by omega, by go_num, HDV.out, hid (HNX.out)⟩ | exact ⟨y + 1, by omega, by go_num, HDW.out, hid (HNX.out)⟩
                case measure => simp [intOf]; omega
          · have a1 : ¬ 97 ≤ (p[y].toNat : Int) := by omega
            have a2 : (p[y].toNat : Int) ≤ 122 := by omega
            have d1 : 48 ≤ (p[y].toNat : Int) := by omega
            have d2 : ¬ (p[y].toNat : Int) ≤ 57 := by omega
            have e1 : ((p[y].toNat : Int) == 46) = false := beq_eq_false_iff_ne.2 (by omega)
            have e1p : ¬ (p[y].toNat : Int) = 46 := by omega
            have e1n : ((p[y].toNat : Int) != 46) = true := by rw [bne, e1]; rfl
            have e2 : ((p[y].toNat : Int) == 45) = false := beq_eq_false_iff_ne.2 (by omega)
            have e2p : ¬ (p[y].toNat : Int) = 45 := by omega
            have e2n : ((p[y].toNat : Int) != 45) = true := by rw [bne, e2]; rfl
            have e3 : ((p[y].toNat : Int) == 95) = false := beq_eq_false_iff_ne.2 (by omega)
            have e3p : ¬ (p[y].toNat : Int) = 95 := by omega
            have e3n : ((p[y].toNat : Int) != 95) = true := by rw [bne, e3]; rfl
            have HRES := hid (HBAD.out (by rw [HEL.out]; simp; omega))
            have D5 := hid (show ∀ h : ¬ (p[y].toNat : Int) ≤ 57, decide ((p[y].toNat : Int) ≤ 57) = false from fun h => decide_eq_false h)
            have D9 := hid (show ∀ h : ¬ (p[y].toNat : Int) ≤ 122, decide ((p[y].toNat : Int) ≤ 122) = false from fun h => decide_eq_false h)
            clear hr
            go_wp2_with fail
            all_goals first
              | (go_ret; exact ⟨by rw [HRES.out]; rfl, HB.out⟩)
              | exact absurd ‹((((p[y].toNat : Int) != 46) = false ∨ ((p[y].toNat : Int) != 45) = false) ∨ ((p[y].toNat : Int) != 95) = false)› (by rw [e1n, e2n, e3n]; decide)
              | exact absurd ‹((((!decide ((p[y].toNat : Int) ≤ 57)) = false ∨ ((p[y].toNat : Int) != 46) = false) ∨ ((p[y].toNat : Int) != 45) = false) ∨ ((p[y].toNat : Int) != 95) = false)› (by rw [e1n, e2n, e3n, D5.out (by omega)]; decide)
              | exact absurd ‹(((((!decide ((p[y].toNat : Int) ≤ 122)) = false ∨ (!decide ((p[y].toNat : Int) ≤ 57)) = false) ∨ ((p[y].toNat : Int) != 46) = false) ∨ ((p[y].toNat : Int) != 45) = false) ∨ ((p[y].toNat : Int) != 95) = false)› (by rw [e1n, e2n, e3n, D5.out (by omega), D9.out (by omega)]; decide)
          · have a1 : ¬ 97 ≤ (p[y].toNat : Int) := by omega
            have a2 : (p[y].toNat : Int) ≤ 122 := by omega
            have d1 : 48 ≤ (p[y].toNat : Int) := by omega
            have d2 : ¬ (p[y].toNat : Int) ≤ 57 := by omega
            have e1 : ((p[y].toNat : Int) == 46) = false := beq_eq_false_iff_ne.2 (by omega)
            have e1p : ¬ (p[y].toNat : Int) = 46 := by omega
            have e1n : ((p[y].toNat : Int) != 46) = true := by rw [bne, e1]; rfl
            have e2 : ((p[y].toNat : Int) == 45) = false := beq_eq_false_iff_ne.2 (by omega)
            have e2p : ¬ (p[y].toNat : Int) = 45 := by omega
            have e2n : ((p[y].toNat : Int) != 45) = true := by rw [bne, e2]; rfl
            have e3 : ((p[y].toNat : Int) == 95) = true := beq_iff_eq.2 (by omega)
            have e3p : (p[y].toNat : Int) = 95 := by omega
            have e3n : ((p[y].toNat : Int) != 95) = false := by rw [bne, e3]; rfl
            have HE1 := hid (show el p[y] = true by rw [HEL.out]; simp; omega)
            clear hr
            cases dt
            · have HDV := hid (show Value.bool false = Value.bool ((p.data.toList.take (y + 1)).all (· == 46)) by rw [HDN.out, e1]; rfl)
              have HDW := hid (show Value.bool false = Value.bool ((p.data.toList.take (y + 1)).all (· == 46)) by rw [HDN.out]; rfl)
              by_cases h2 : 2 ≤ y
              · have h2i : (2 : Int) ≤ (y : Int) := by omega
                have s1 : (0 : Int) ≤ (y : Int) - 2 := by omega
                have s2 : (y : Int) - 2 ≤ (y : Int) + 1 := by omega
                have s3 : (y : Int) + 1 ≤ (p.size : Int) := by omega
                have t1 : ((y : Int) - 2).toNat = y - 2 := by omega
                have h3 : (p.data.toList.drop (y - 2)).take 3 ≠ [46, 46, 46] := fun h => by
                  have h4 := congrArg (fun l => l[2]?) h
                  have h5 : ((p.data.toList.drop (y - 2)).take 3)[2]? = some p[y] := by
                    rw [List.getElem?_take_of_lt (by omega), List.getElem?_drop, show y - 2 + 2 = y by omega, List.getElem?_eq_getElem HLL.out, HPY.out]
                  have h6 : some p[y] = some 46 := h5.symm.trans h4
                  have h7 : p[y] = 46 := Option.some.inj h6
                  have h8 := HDI.out
                  rw [h7] at h8 e1
                  exact absurd e1 (by decide)
                have hx3 : ((p.extract (y - 2) (y + 1)).toList == [46, 46, 46]) = false := by rw [ByteArray.toList_eq, HEXT.out h2]; exact beq_eq_false_iff_ne.2 h3
                have HNX := hid (HNEXT.out HE1.out (fun _ => h3))
                clear h3
                go_wp2_with fail
                all_goals (try exact absurd (‹((((!decide ((p[y].toNat : Int) ≤ 57)) = true ∧ ((p[y].toNat : Int) != 46) = true) ∧ ((p[y].toNat : Int) != 45) = true) ∧ ((p[y].toNat : Int) != 95) = true)›).2 (by rw [e3n]; decide))
                go_round
                case rel => first | exact ⟨y + 1, by omega, by go_num, HDV.out, hid (HNX.out)⟩ | exact ⟨y + 1, by omega, by go_num, HDW.out, hid (HNX.out)⟩
                case measure => simp [intOf]; omega
              · have h2i : ¬ (2 : Int) ≤ (y : Int) := by omega
                have HNX := hid (HNEXT.out HE1.out (fun h => absurd h h2))
                go_wp2_with fail
                all_goals (try exact absurd (‹((((!decide ((p[y].toNat : Int) ≤ 57)) = true ∧ ((p[y].toNat : Int) != 46) = true) ∧ ((p[y].toNat : Int) != 45) = true) ∧ ((p[y].toNat : Int) != 95) = true)›).2 (by rw [e3n]; decide))
                go_round
                case rel => first | exact ⟨y + 1, by omega, by go_num, HDV.out, hid (HNX.out)⟩ | exact ⟨y + 1, by omega, by go_num, HDW.out, hid (HNX.out)⟩
                case measure => simp [intOf]; omega
            · have HDV := hid (show Value.bool false = Value.bool ((p.data.toList.take (y + 1)).all (· == 46)) by rw [HDN.out, e1]; rfl)
              have HDW := hid (show Value.bool ((p[y].toNat : Int) == 46) = Value.bool ((p.data.toList.take (y + 1)).all (· == 46)) by rw [HDN.out]; rfl)
              by_cases h2 : 2 ≤ y
              · have h2i : (2 : Int) ≤ (y : Int) := by omega
                have s1 : (0 : Int) ≤ (y : Int) - 2 := by omega
                have s2 : (y : Int) - 2 ≤ (y : Int) + 1 := by omega
                have s3 : (y : Int) + 1 ≤ (p.size : Int) := by omega
                have t1 : ((y : Int) - 2).toNat = y - 2 := by omega
                have h3 : (p.data.toList.drop (y - 2)).take 3 ≠ [46, 46, 46] := fun h => by
                  have h4 := congrArg (fun l => l[2]?) h
                  have h5 : ((p.data.toList.drop (y - 2)).take 3)[2]? = some p[y] := by
                    rw [List.getElem?_take_of_lt (by omega), List.getElem?_drop, show y - 2 + 2 = y by omega, List.getElem?_eq_getElem HLL.out, HPY.out]
                  have h6 : some p[y] = some 46 := h5.symm.trans h4
                  have h7 : p[y] = 46 := Option.some.inj h6
                  have h8 := HDI.out
                  rw [h7] at h8 e1
                  exact absurd e1 (by decide)
                have hx3 : ((p.extract (y - 2) (y + 1)).toList == [46, 46, 46]) = false := by rw [ByteArray.toList_eq, HEXT.out h2]; exact beq_eq_false_iff_ne.2 h3
                have HNX := hid (HNEXT.out HE1.out (fun _ => h3))
                clear h3
                go_wp2_with fail
                all_goals (try exact absurd (‹((((!decide ((p[y].toNat : Int) ≤ 57)) = true ∧ ((p[y].toNat : Int) != 46) = true) ∧ ((p[y].toNat : Int) != 45) = true) ∧ ((p[y].toNat : Int) != 95) = true)›).2 (by rw [e3n]; decide))
                go_round
                case rel => first | exact ⟨y + 1, by omega, by go_num, HDV.out, hid (HNX.out)⟩ | exact ⟨y + 1, by omega, by go_num, HDW.out, hid (HNX.out)⟩
                case measure => simp [intOf]; omega
              · have h2i : ¬ (2 : Int) ≤ (y : Int) := by omega
                have HNX := hid (HNEXT.out HE1.out (fun h => absurd h h2))
                go_wp2_with fail
                all_goals (try exact absurd (‹((((!decide ((p[y].toNat : Int) ≤ 57)) = true ∧ ((p[y].toNat : Int) != 46) = true) ∧ ((p[y].toNat : Int) != 45) = true) ∧ ((p[y].toNat : Int) != 95) = true)›).2 (by rw [e3n]; decide))
                go_round
                case rel => first | exact ⟨y + 1, by omega, by go_num, HDV.out, hid (HNX.out)⟩ | exact ⟨y + 1, by omega, by go_num, HDW.out, hid (HNX.out)⟩
                case measure => simp [intOf]; omega
          · have a1 : ¬ 97 ≤ (p[y].toNat : Int) := by omega
            have a2 : (p[y].toNat : Int) ≤ 122 := by omega
            have d1 : 48 ≤ (p[y].toNat : Int) := by omega
            have d2 : ¬ (p[y].toNat : Int) ≤ 57 := by omega
            have e1 : ((p[y].toNat : Int) == 46) = false := beq_eq_false_iff_ne.2 (by omega)
            have e1p : ¬ (p[y].toNat : Int) = 46 := by omega
            have e1n : ((p[y].toNat : Int) != 46) = true := by rw [bne, e1]; rfl
            have e2 : ((p[y].toNat : Int) == 45) = false := beq_eq_false_iff_ne.2 (by omega)
            have e2p : ¬ (p[y].toNat : Int) = 45 := by omega
            have e2n : ((p[y].toNat : Int) != 45) = true := by rw [bne, e2]; rfl
            have e3 : ((p[y].toNat : Int) == 95) = false := beq_eq_false_iff_ne.2 (by omega)
            have e3p : ¬ (p[y].toNat : Int) = 95 := by omega
            have e3n : ((p[y].toNat : Int) != 95) = true := by rw [bne, e3]; rfl
            have HRES := hid (HBAD.out (by rw [HEL.out]; simp; omega))
            have D5 := hid (show ∀ h : ¬ (p[y].toNat : Int) ≤ 57, decide ((p[y].toNat : Int) ≤ 57) = false from fun h => decide_eq_false h)
            have D9 := hid (show ∀ h : ¬ (p[y].toNat : Int) ≤ 122, decide ((p[y].toNat : Int) ≤ 122) = false from fun h => decide_eq_false h)
            clear hr
            go_wp2_with fail
            all_goals first
              | (go_ret; exact ⟨by rw [HRES.out]; rfl, HB.out⟩)
              | exact absurd ‹((((p[y].toNat : Int) != 46) = false ∨ ((p[y].toNat : Int) != 45) = false) ∨ ((p[y].toNat : Int) != 95) = false)› (by rw [e1n, e2n, e3n]; decide)
              | exact absurd ‹((((!decide ((p[y].toNat : Int) ≤ 57)) = false ∨ ((p[y].toNat : Int) != 46) = false) ∨ ((p[y].toNat : Int) != 45) = false) ∨ ((p[y].toNat : Int) != 95) = false)› (by rw [e1n, e2n, e3n, D5.out (by omega)]; decide)
              | exact absurd ‹(((((!decide ((p[y].toNat : Int) ≤ 122)) = false ∨ (!decide ((p[y].toNat : Int) ≤ 57)) = false) ∨ ((p[y].toNat : Int) != 46) = false) ∨ ((p[y].toNat : Int) != 45) = false) ∨ ((p[y].toNat : Int) != 95) = false)› (by rw [e1n, e2n, e3n, D5.out (by omega), D9.out (by omega)]; decide)
          · have a1 : 97 ≤ (p[y].toNat : Int) := by omega
            have a2 : (p[y].toNat : Int) ≤ 122 := by omega
            have d1 : 48 ≤ (p[y].toNat : Int) := by omega
            have d2 : ¬ (p[y].toNat : Int) ≤ 57 := by omega
            have e1 : ((p[y].toNat : Int) == 46) = false := beq_eq_false_iff_ne.2 (by omega)
            have e1p : ¬ (p[y].toNat : Int) = 46 := by omega
            have e1n : ((p[y].toNat : Int) != 46) = true := by rw [bne, e1]; rfl
            have e2 : ((p[y].toNat : Int) == 45) = false := beq_eq_false_iff_ne.2 (by omega)
            have e2p : ¬ (p[y].toNat : Int) = 45 := by omega
            have e2n : ((p[y].toNat : Int) != 45) = true := by rw [bne, e2]; rfl
            have e3 : ((p[y].toNat : Int) == 95) = false := beq_eq_false_iff_ne.2 (by omega)
            have e3p : ¬ (p[y].toNat : Int) = 95 := by omega
            have e3n : ((p[y].toNat : Int) != 95) = true := by rw [bne, e3]; rfl
            have HE1 := hid (show el p[y] = true by rw [HEL.out]; simp; omega)
            clear hr
            cases dt
            · have HDV := hid (show Value.bool false = Value.bool ((p.data.toList.take (y + 1)).all (· == 46)) by rw [HDN.out, e1]; rfl)
              have HDW := hid (show Value.bool false = Value.bool ((p.data.toList.take (y + 1)).all (· == 46)) by rw [HDN.out]; rfl)
              by_cases h2 : 2 ≤ y
              · have h2i : (2 : Int) ≤ (y : Int) := by omega
                have s1 : (0 : Int) ≤ (y : Int) - 2 := by omega
                have s2 : (y : Int) - 2 ≤ (y : Int) + 1 := by omega
                have s3 : (y : Int) + 1 ≤ (p.size : Int) := by omega
                have t1 : ((y : Int) - 2).toNat = y - 2 := by omega
                have h3 : (p.data.toList.drop (y - 2)).take 3 ≠ [46, 46, 46] := fun h => by
                  have h4 := congrArg (fun l => l[2]?) h
                  have h5 : ((p.data.toList.drop (y - 2)).take 3)[2]? = some p[y] := by
                    rw [List.getElem?_take_of_lt (by omega), List.getElem?_drop, show y - 2 + 2 = y by omega, List.getElem?_eq_getElem HLL.out, HPY.out]
                  have h6 : some p[y] = some 46 := h5.symm.trans h4
                  have h7 : p[y] = 46 := Option.some.inj h6
                  have h8 := HDI.out
                  rw [h7] at h8 e1
                  exact absurd e1 (by decide)
                have hx3 : ((p.extract (y - 2) (y + 1)).toList == [46, 46, 46]) = false := by rw [ByteArray.toList_eq, HEXT.out h2]; exact beq_eq_false_iff_ne.2 h3
                have HNX := hid (HNEXT.out HE1.out (fun _ => h3))
                clear h3
                go_wp2_with fail
                go_round
                case rel => first | exact ⟨y + 1, by omega, by go_num, HDV.out, hid (HNX.out)⟩ | exact ⟨y + 1, by omega, by go_num, HDW.out, hid (HNX.out)⟩
                case measure => simp [intOf]; omega
              · have h2i : ¬ (2 : Int) ≤ (y : Int) := by omega
                have HNX := hid (HNEXT.out HE1.out (fun h => absurd h h2))
                go_wp2_with fail
                go_round
                case rel => first | exact ⟨y + 1, by omega, by go_num, HDV.out, hid (HNX.out)⟩ | exact ⟨y + 1, by omega, by go_num, HDW.out, hid (HNX.out)⟩
                case measure => simp [intOf]; omega
            · have HDV := hid (show Value.bool false = Value.bool ((p.data.toList.take (y + 1)).all (· == 46)) by rw [HDN.out, e1]; rfl)
              have HDW := hid (show Value.bool ((p[y].toNat : Int) == 46) = Value.bool ((p.data.toList.take (y + 1)).all (· == 46)) by rw [HDN.out]; rfl)
              by_cases h2 : 2 ≤ y
              · have h2i : (2 : Int) ≤ (y : Int) := by omega
                have s1 : (0 : Int) ≤ (y : Int) - 2 := by omega
                have s2 : (y : Int) - 2 ≤ (y : Int) + 1 := by omega
                have s3 : (y : Int) + 1 ≤ (p.size : Int) := by omega
                have t1 : ((y : Int) - 2).toNat = y - 2 := by omega
                have h3 : (p.data.toList.drop (y - 2)).take 3 ≠ [46, 46, 46] := fun h => by
                  have h4 := congrArg (fun l => l[2]?) h
                  have h5 : ((p.data.toList.drop (y - 2)).take 3)[2]? = some p[y] := by
                    rw [List.getElem?_take_of_lt (by omega), List.getElem?_drop, show y - 2 + 2 = y by omega, List.getElem?_eq_getElem HLL.out, HPY.out]
                  have h6 : some p[y] = some 46 := h5.symm.trans h4
                  have h7 : p[y] = 46 := Option.some.inj h6
                  have h8 := HDI.out
                  rw [h7] at h8 e1
                  exact absurd e1 (by decide)
                have hx3 : ((p.extract (y - 2) (y + 1)).toList == [46, 46, 46]) = false := by rw [ByteArray.toList_eq, HEXT.out h2]; exact beq_eq_false_iff_ne.2 h3
                have HNX := hid (HNEXT.out HE1.out (fun _ => h3))
                clear h3
                go_wp2_with fail
                go_round
                case rel => first | exact ⟨y + 1, by omega, by go_num, HDV.out, hid (HNX.out)⟩ | exact ⟨y + 1, by omega, by go_num, HDW.out, hid (HNX.out)⟩
                case measure => simp [intOf]; omega
              · have h2i : ¬ (2 : Int) ≤ (y : Int) := by omega
                have HNX := hid (HNEXT.out HE1.out (fun h => absurd h h2))
                go_wp2_with fail
                go_round
                case rel => first | exact ⟨y + 1, by omega, by go_num, HDV.out, hid (HNX.out)⟩ | exact ⟨y + 1, by omega, by go_num, HDW.out, hid (HNX.out)⟩
                case measure => simp [intOf]; omega
          · have a1 : 97 ≤ (p[y].toNat : Int) := by omega
            have a2 : ¬ (p[y].toNat : Int) ≤ 122 := by omega
            have d1 : 48 ≤ (p[y].toNat : Int) := by omega
            have d2 : ¬ (p[y].toNat : Int) ≤ 57 := by omega
            have e1 : ((p[y].toNat : Int) == 46) = false := beq_eq_false_iff_ne.2 (by omega)
            have e1p : ¬ (p[y].toNat : Int) = 46 := by omega
            have e1n : ((p[y].toNat : Int) != 46) = true := by rw [bne, e1]; rfl
            have e2 : ((p[y].toNat : Int) == 45) = false := beq_eq_false_iff_ne.2 (by omega)
            have e2p : ¬ (p[y].toNat : Int) = 45 := by omega
            have e2n : ((p[y].toNat : Int) != 45) = true := by rw [bne, e2]; rfl
            have e3 : ((p[y].toNat : Int) == 95) = false := beq_eq_false_iff_ne.2 (by omega)
            have e3p : ¬ (p[y].toNat : Int) = 95 := by omega
            have e3n : ((p[y].toNat : Int) != 95) = true := by rw [bne, e3]; rfl
            have HRES := hid (HBAD.out (by rw [HEL.out]; simp; omega))
            have D5 := hid (show ∀ h : ¬ (p[y].toNat : Int) ≤ 57, decide ((p[y].toNat : Int) ≤ 57) = false from fun h => decide_eq_false h)
            have D9 := hid (show ∀ h : ¬ (p[y].toNat : Int) ≤ 122, decide ((p[y].toNat : Int) ≤ 122) = false from fun h => decide_eq_false h)
            clear hr
            go_wp2_with fail
            all_goals first
              | (go_ret; exact ⟨by rw [HRES.out]; rfl, HB.out⟩)
              | exact absurd ‹((((p[y].toNat : Int) != 46) = false ∨ ((p[y].toNat : Int) != 45) = false) ∨ ((p[y].toNat : Int) != 95) = false)› (by rw [e1n, e2n, e3n]; decide)
              | exact absurd ‹((((!decide ((p[y].toNat : Int) ≤ 57)) = false ∨ ((p[y].toNat : Int) != 46) = false) ∨ ((p[y].toNat : Int) != 45) = false) ∨ ((p[y].toNat : Int) != 95) = false)› (by rw [e1n, e2n, e3n, D5.out (by omega)]; decide)
              | exact absurd ‹(((((!decide ((p[y].toNat : Int) ≤ 122)) = false ∨ (!decide ((p[y].toNat : Int) ≤ 57)) = false) ∨ ((p[y].toNat : Int) != 46) = false) ∨ ((p[y].toNat : Int) != 45) = false) ∨ ((p[y].toNat : Int) != 95) = false)› (by rw [e1n, e2n, e3n, D5.out (by omega), D9.out (by omega)]; decide)
        · have hye : y = p.size := by omega
          subst hye
          have HFIN := hid (show elemOk p.data.toList = !dt by
            have h1 : p.data.toList.length = p.size := len_eq p
            have h2 := seen_all (l := p.data.toList) (by rw [h1]; exact HSE.out)
            have h3 := HDT.out
            rw [take_all] at h3
            rw [h2, h3])
          cases dt
          · have HOK2 := hid (show (bl (X.take (k + 1))).all elemOk = true by rw [HXJ.out, List.all_append, HOK.out, List.all_cons, HFIN.out]; rfl)
            have HLJ := hid (show (lg || (bl (X.take (k + 1))).any long) = (bj || decide (10 < p.data.toList.length)) by rw [HXJ.out, List.any_append, ← HBJ.out, Bool.or_assoc]; simp [long])
            rw [len_eq] at HLJ
            by_cases h10 : 10 < p.size
            · have h10i : (10 : Int) < (p.size : Int) := by omega
              rw [decide_eq_true h10] at HLJ
              cases bj
              · have HV := hid (show Value.bool true = Value.bool (lg || (bl (X.take (k + 1))).any long) by rw [HLJ.out]; rfl)
                go_wp2_with fail
                go_round
                case rel => exact ⟨k + 1, by omega, by go_num, HV.out, HOK2⟩
                case measure => simp [intOf]; omega
              · have HV := hid (show Value.bool true = Value.bool (lg || (bl (X.take (k + 1))).any long) by rw [HLJ.out]; rfl)
                go_wp2_with fail
                go_round
                case rel => exact ⟨k + 1, by omega, by go_num, HV.out, HOK2⟩
                case measure => simp [intOf]; omega
            · have h10i : ¬ (10 : Int) < (p.size : Int) := by omega
              rw [decide_eq_false h10] at HLJ
              cases bj
              · have HV := hid (show Value.bool false = Value.bool (lg || (bl (X.take (k + 1))).any long) by rw [HLJ.out]; rfl)
                go_wp2_with fail
                go_round
                case rel => exact ⟨k + 1, by omega, by go_num, HV.out, HOK2⟩
                case measure => simp [intOf]; omega
              · have HV := hid (show Value.bool true = Value.bool (lg || (bl (X.take (k + 1))).any long) by rw [HLJ.out]; rfl)
                go_wp2_with fail
                go_round
                case rel => exact ⟨k + 1, by omega, by go_num, HV.out, HOK2⟩
                case measure => simp [intOf]; omega
          · have HRES := hid (bad_one HMEM.out HFIN.out)
            go_wp2_with fail
            go_ret
            exact ⟨by rw [HRES.out]; rfl, HB.out⟩
    · have hke : k = X.length := by omega
      subst hke
      have hXt : X.take X.length = X := List.take_length
      rw [hXt] at HOK HBJ
      rw [HBJ.out] at HLE
      rw [HX.out] at HOK
      clear hXt
      cases bj
      · by_cases h1 : 1 < X.length
        · have h1i : (1 : Int) < (X.length : Int) := by omega
          have hpl : X.length - 1 < X.length := by omega
          have hcell := HCE.out (X.length - 1) hpl
          have HSZ := hid (HXZ.out X[X.length - 1] (List.getElem_mem hpl))
          have HLG := hid (HLA.out hpl)
          generalize X[X.length - 1] = q at *
          have HSU := hid (suffixOf_any q w1 HSZ.out)
          rw [HLG.out] at HSU
          have hc1 : ((X.length : Int) - 1).toNat = X.length - 1 := by omega
          have hc2 : (0 : Int) ≤ (X.length : Int) - 1 := by omega
          have hc3 : (X.length : Int) - 1 < (X.length : Int) := by omega
          by_cases hneg : sufV (lastOf s.data.toList) < 0
          · have HRES := hid (path_4 HOK.out HLE.out (by rw [HXL.out]; exact h1) hneg)
            generalize sufV (lastOf s.data.toList) = sv at *
            go_wp2_with fail
            refine HSU.out.mono ?_
            rintro e w' ⟨rfl, rfl⟩
            go_wp2_with fail
            go_ret
            exact ⟨by rw [HRES.out]; rfl, HB.out⟩
          · have HRES := hid (path_0 HOK.out HLE.out (by rw [HXL.out]; exact h1) hneg)
            generalize sufV (lastOf s.data.toList) = sv at *
            go_wp2_with fail
            refine HSU.out.mono ?_
            rintro e w' ⟨rfl, rfl⟩
            go_wp2_with fail
            go_ret
            exact ⟨by rw [HRES.out]; rfl, HB.out⟩
        · have h1i : ¬ (1 : Int) < (X.length : Int) := by omega
          have HRES := hid (path_00 HOK.out HLE.out (by rw [HXL.out]; exact h1))
          go_wp2_with fail
          go_ret
          exact ⟨by rw [HRES.out]; rfl, HB.out⟩
      · have HRES := hid (path_2 HOK.out HLE.out)
        go_wp2_with fail
        go_ret
        exact ⟨by rw [HRES.out]; rfl, HB.out⟩
end Ve
end Go.Proofs.YtoaobngpdaidoaaGreatDoor


namespace Go.Proofs.YtoaobngpdaidoaaGreatDoor
open Go.RowKit
namespace Ve
def splitH (l : List UInt8) : List UInt8 := if pathErr l = 0 then pathH l else []
def splitN (l : List UInt8) : Int := if pathErr l = 0 then pathN l else 0
theorem suf_fits {l : List UInt8} (h : pathErr l = 0) (hs : sufE l = true) : sufOk (lastOf l) = true := by
  cases ho : sufOk (lastOf l)
  · exfalso
    unfold pathErr at h
    cases hb : badE l
    · rw [hb] at h
      cases hl : longE l
      · rw [hl, hs, ho] at h; cases h
      · rw [hl] at h; cases h
    · rw [hb] at h; cases h
  · rfl
theorem split_none {l : List UInt8} (h : pathErr l = 0) (he : elems l = [l]) : splitH l = l ∧ splitN l = 0 := by
  have hu : sufE l = false := by unfold sufE; rw [he]; rfl
  unfold splitH splitN pathH pathN
  rw [if_pos h, if_pos h, hu]
  exact ⟨rfl, rfl⟩
theorem split_pos {l : List UInt8} {k : Nat} (h : pathErr l = 0) (he : elems l = elems (l.take k) ++ [l.drop (k + 1)]) (hn : 0 < sufV (l.drop (k + 1))) : splitH l = l.take k ∧ splitN l = sufV (l.drop (k + 1)) := by
  obtain ⟨h1, h2, h3⟩ := slash_last he
  rw [← h2] at hn ⊢
  have hk : likeB (lastOf l) = true := by
    cases e : likeB (lastOf l)
    · unfold sufV at hn; rw [e] at hn; simp at hn
    · rfl
  have hu : sufE l = true := by unfold sufE; rw [hk, decide_eq_true h1]; rfl
  have ho := suf_fits h hu
  have hv : sufV (lastOf l) = (num (restOf (lastOf l))).1 := by unfold sufV; rw [hk, ho]; rfl
  unfold splitH splitN pathH pathN
  rw [if_pos h, if_pos h, hu, hv]
  exact ⟨h3, rfl⟩
theorem split_zero {l : List UInt8} {k : Nat} (h : pathErr l = 0) (he : elems l = elems (l.take k) ++ [l.drop (k + 1)]) (hn : ¬ 0 < sufV (l.drop (k + 1))) : splitH l = l ∧ splitN l = 0 := by
  obtain ⟨h1, h2, h3⟩ := slash_last he
  rw [← h2] at hn
  have hu : sufE l = false := by
    cases e : sufE l
    · rfl
    · exfalso
      have ho := suf_fits h e
      have hk : likeB (lastOf l) = true := by
        unfold sufE at e
        simp only [Bool.and_eq_true] at e
        exact e.2
      have hv : sufV (lastOf l) = (num (restOf (lastOf l))).1 := by unfold sufV; rw [hk, ho]; rfl
      have := suf_pos ho
      omega
  unfold splitH splitN pathH pathN
  rw [if_pos h, if_pos h, hu]
  exact ⟨rfl, rfl⟩
theorem slash_is {c : UInt8} : ((c.toNat : Int) == 47) = true ↔ c = 47 := by
  rw [beq_iff_eq]
  have : (47 : UInt8).toNat = 47 := rfl
  constructor
  · intro h; exact UInt8.toNat_inj.1 (by omega)
  · intro h; rw [h]; rfl
set_option maxRecDepth 100000 in
set_option maxHeartbeats 4000000 in
theorem splitPath_any (s : ByteArray) (w : World) (hs : s.size < 4294967281) :
    Calls Tryz.prog 80 #[.string s] w fun e w' => ∃ H : ByteArray, e = .returned (.tuple #[.string H, .int .i64 (splitN s.data.toList)]) ∧ H.data.toList = splitH s.data.toList ∧ Below w.heap.size w w' := by
  have HP := hid (pathError_any s w hs)
  by_cases h0 : pathErr s.data.toList = 0
  · have H0 := hid h0
    rw [h0] at HP
    clear h0
    go_enter Tryz.func80, Tryz.ntmps80
    go_wp2_with fail
    refine HP.out.mono ?_
    rintro e w1 ⟨rfl, hb⟩
    have HB := hid hb
    clear hb
    go_wp2_with fail
    go_loop [4] (fun i => ∃ j : Nat, j ≤ s.size ∧ i = .int .i64 ((j : Int) - 1) ∧ Hid (∀ t (ht : t < s.size), j ≤ t → s[t] ≠ 47)) (fun i => (intOf i + 1).toNat)
    case atStart => exact ⟨s.size, Nat.le_refl _, rfl, hid (fun t ht h => absurd ht (by omega))⟩
    case round =>
      obtain ⟨j, hj, rfl, HN⟩ := hrel
      by_cases hz : j = 0
      · subst hz
        have HR := hid (split_none H0.out (slash_none (fun t ht => HN.out t (by simpa using ht) (Nat.zero_le _))))
        go_wp2_with fail
        go_ret2
        exact ⟨s, by rw [HR.out.2]; rfl, HR.out.1.symm, HB.out⟩
      · obtain ⟨k, rfl⟩ : ∃ k, j = k + 1 := ⟨j - 1, by omega⟩
        have hki : ((k + 1 : Nat) : Int) - 1 = (k : Int) := by omega
        rw [hki]
        have hlt : k < s.size := by omega
        have hkb := s[k].toNat_lt
        have h0k : (0 : Int) ≤ (k : Int) := by omega
        cases hc : ((s[k].toNat : Int) == 47)
        · have hcn : ((s[k].toNat : Int) != 47) = true := by rw [bne, hc]; rfl
          have hcp : ¬ (s[k].toNat : Int) = 47 := by simpa using hc
          have HN2 := hid (show ∀ t (ht : t < s.size), k ≤ t → s[t] ≠ 47 from fun t ht h => by
            by_cases e : t = k
            · subst e; intro h2; rw [slash_is.2 h2] at hc; cases hc
            · exact HN.out t ht (by omega))
          go_wp2_with fail
          go_round
          case rel => exact ⟨k, by omega, by go_num, HN2⟩
          case measure => (simp [intOf]; try omega)
        · have hcn : ((s[k].toNat : Int) != 47) = false := by rw [bne, hc]; rfl
          have hcp : (s[k].toNat : Int) = 47 := by simpa using hc
          have HSP := hid (slash_split (l := s.data.toList) (k := k) (by simpa using hlt) (slash_is.1 hc) (fun t ht h => HN.out t (by simpa using ht) (by omega)))
          have HT := hid (show (s.extract (k + 1) s.size).data.toList = s.data.toList.drop (k + 1) from ext_drop s (k + 1))
          have hTs : (s.extract (k + 1) s.size).size ≤ maxLen := by rw [ByteArray.size_extract]; unfold maxLen; omega
          have HSU := hid (suffixOf_any (s.extract (k + 1) s.size) w1 hTs)
          rw [HT.out] at HSU
          have s1 : (0 : Int) ≤ (k : Int) + 1 := by omega
          have s2 : (k : Int) + 1 ≤ (s.size : Int) := by omega
          have s3 : (k : Int) ≤ (s.size : Int) := by omega
          have HK := hid (show (s.extract 0 k).data.toList = s.data.toList.take k by rw [extract_list]; simp)
          by_cases hn : 0 < sufV (s.data.toList.drop (k + 1))
          · have HR := hid (split_pos H0.out HSP.out hn)
            generalize sufV (s.data.toList.drop (k + 1)) = n at *
            go_wp2_with fail
            refine HSU.out.mono ?_
            rintro e w' ⟨rfl, rfl⟩
            go_wp2_with fail
            go_ret2
            exact ⟨s.extract 0 k, by rw [HR.out.2]; rfl, HK.out.trans HR.out.1.symm, HB.out⟩
          · have HR := hid (split_zero H0.out HSP.out hn)
            generalize sufV (s.data.toList.drop (k + 1)) = n at *
            go_wp2_with fail
            refine HSU.out.mono ?_
            rintro e w' ⟨rfl, rfl⟩
            go_wp2_with fail
            go_ret2
            exact ⟨s, by rw [HR.out.2]; rfl, HR.out.1.symm, HB.out⟩
  · have HR := hid (show splitH s.data.toList = [] ∧ splitN s.data.toList = 0 from ⟨by unfold splitH; rw [if_neg h0], by unfold splitN; rw [if_neg h0]⟩)
    rw [HR.out.2]
    have hpos : (0 : Int) < (pathErr s.data.toList : Int) := by omega
    generalize (pathErr s.data.toList : Int) = c at *
    clear h0
    go_enter Tryz.func80, Tryz.ntmps80
    go_wp2_with fail
    refine HP.out.mono ?_
    rintro e w1 ⟨rfl, hb⟩
    have HB := hid hb
    clear hb
    go_wp2_with fail
    go_ret2
    exact ⟨⟨#[]⟩, rfl, HR.out.1.symm, HB.out⟩
end Ve
end Go.Proofs.YtoaobngpdaidoaaGreatDoor


namespace Go.Proofs.YtoaobngpdaidoaaGreatDoor
open Go.RowKit
namespace Ve
theorem n0_pos {l : List UInt8} (h : verErr l = 0) : 0 ≤ nAt l 0 ∧ nAt l 0 ≤ 999999 := by
  unfold verErr at h
  by_cases hc : marked l = false ∨ (coreOf l).length ≠ 3
  · rw [if_pos hc] at h; omega
  rw [if_neg hc] at h
  have h3 : (coreOf l).length = 3 := by
    rcases Nat.decEq (coreOf l).length 3 with h | h
    · exact absurd (Or.inr h) hc
    · exact h
  have hn : numsErr (coreOf l) = 0 := by
    cases e : hasPre l
    · rw [e] at h; exact h
    · rw [e] at h
      have h' : worse (numsErr (coreOf l)) (pre (preOf l)) = 0 := h
      unfold worse at h'
      by_cases q : numsErr (coreOf l) = 1 ∨ pre (preOf l) = 0
      · rw [if_pos q] at h'; exact h'
      · rw [if_neg q] at h'; exact absurd (Or.inr h') q
  obtain ⟨p0, p1, p2, hco⟩ : ∃ p0 p1 p2, coreOf l = [p0, p1, p2] := by
    match e : coreOf l, h3 with
    | [a, b, c], _ => exact ⟨a, b, c, rfl⟩
  have hz := ncode0 hn
  rw [hco] at hz
  have n0 : nAt l 0 = (num p0).1 := by simp [nAt, numsOf, hco]
  obtain ⟨_, l0, u0⟩ := itoa_num p0 (hz p0 (by simp))
  rw [n0]; exact ⟨l0, u0⟩
theorem pathN_is {l : List UInt8} (h : pathErr l = 0) : pathN l = 0 ∨ 2 ≤ pathN l := by
  unfold pathN
  cases hu : sufE l
  · left; rfl
  · right; exact suf_pos (suf_fits h hu)
set_option maxRecDepth 100000 in
set_option maxHeartbeats 4000000 in
theorem modError_any (p v : ByteArray) (w : World) (hp : p.size < 4294967281) (hv : v.size < 4294967281) :
    Calls Tryz.prog 51 #[.agg #[.string p, .string v]] w fun e w' => e = .returned (.int .i64 (modErr p.data.toList v.data.toList : Nat)) ∧ Below w.heap.size w w' := by
  have HB0 := hid ((Below.refl w.heap.size w).alloc (Nat.le_refl _) (.cells #[.string p, .string v] 46))
  have HP := hid (pathError_any p (w.alloc (.cells #[.string p, .string v] 46)) hp)
  have HM := hid (show modErr p.data.toList v.data.toList = if pathErr p.data.toList = 0 then (if verErr v.data.toList = 0 then (if fitsB (nAt v.data.toList 0) (pathN p.data.toList) then 0 else 4) else verErr v.data.toList) else pathErr p.data.toList from rfl)
  by_cases h0 : pathErr p.data.toList = 0
  · rw [if_pos h0] at HM
    have HV := hid (fun W => verOf_any v W hv)
    by_cases h1 : verErr v.data.toList = 0
    · rw [if_pos h1] at HM
      have HSP := hid (fun W => splitPath_any p W hp)
      have e2 : splitN p.data.toList = pathN p.data.toList := by unfold splitN; rw [if_pos h0]
      rw [e2] at HSP
      have HPN := hid (pathN_is h0)
      have HN0 := hid (n0_pos h1)
      have HF := hid (show fitsB (nAt v.data.toList 0) (pathN p.data.toList) = (if pathN p.data.toList == 0 then (nAt v.data.toList 0 == 0 || nAt v.data.toList 0 == 1) else nAt v.data.toList 0 == pathN p.data.toList) from rfl)
      have H1 := hid h1
      rw [h0] at HP
      clear h0 h1 e2
      go_enter Tryz.func51, Tryz.ntmps51
      go_wp2_with fail
      refine HP.out.mono ?_
      rintro e w1 ⟨rfl, hb1⟩
      have HB1 := hid (HB0.out.trans (hb1.mono HB0.out.size))
      obtain ⟨⟨r0, r1⟩, rz⟩ := res2 (hb1.mono (by simp))
      clear hb1
      go_wp2_with fail
      refine (HV.out _).mono ?_
      rintro e w2 ⟨hv2, hb2⟩
      obtain ⟨sa, cap, X2, rfl⟩ : ∃ sa cap X2, e = .returned (.tuple #[.agg #[.int .i64 (nAt v.data.toList 0), .int .i64 (nAt v.data.toList 1), .int .i64 (nAt v.data.toList 2), .slice sa X2 cap], .int .i64 0]) := by
        rcases hv2 with ⟨h, _⟩ | ⟨_, sa, cap, X2, e1, _⟩
        · exact absurd H1.out h
        · exact ⟨sa, cap, _, e1⟩
      have HB2 := hid (HB1.out.trans (hb2.mono HB1.out.size))
      have HC0 := hid (cell_below hb2 r0)
      have HBV := hid ((Below.refl w2.heap.size w2).alloc (Nat.le_refl _) (.cells #[.int .i64 (nAt v.data.toList 0), .int .i64 (nAt v.data.toList 1), .int .i64 (nAt v.data.toList 2), .slice sa X2 cap] 107))
      have c0 := cell_below HBV.out HC0.out
      have HB3 := hid (HB2.out.trans (HBV.out.mono HB2.out.size))
      generalize nAt v.data.toList 1 = b1 at *
      generalize nAt v.data.toList 2 = b2 at *
      generalize hn0 : nAt v.data.toList 0 = b0 at *
      clear hv2 hb2 hn0 r0 r1 rz
      go_wp2_with fail
      refine (HSP.out _).mono ?_
      rintro e w4 ⟨H, rfl, _, hb4⟩
      have HB4 := hid (HB3.out.trans (hb4.mono HB3.out.size))
      obtain ⟨⟨q0, q1, q2, q3⟩, _, qz⟩ := res4 (hb4.mono (by simp))
      generalize pathN p.data.toList = n at *
      clear hb4 c0
      have hb0 := HN0.out.1
      have hb9 := HN0.out.2
      by_cases hz : n = 0
      · subst hz
        by_cases hg : 1 < b0
        · have HR := hid (show (if fitsB b0 0 then 0 else 4) = 4 by
            have : fitsB b0 0 = false := by
              rw [HF.out]
              simp; omega
            rw [this]; rfl)
          rw [HR.out] at HM
          go_wp2_with fail
          go_ret
          exact ⟨by rw [HM.out]; rfl, HB4.out⟩
        · have HR := hid (show (if fitsB b0 0 then 0 else 4) = 0 by
            have : fitsB b0 0 = true := by
              rw [HF.out]
              simp; omega
            rw [this]; rfl)
          rw [HR.out] at HM
          go_wp2_with fail
          go_ret
          exact ⟨by rw [HM.out]; rfl, HB4.out⟩
      · have hpos : 0 < n := by have := HPN.out; omega
        have hnz : (n == 0) = false := beq_eq_false_iff_ne.2 hz
        by_cases hg : b0 = n
        · subst hg
          have HR := hid (show (if fitsB b0 b0 then 0 else 4) = 0 by
            have : fitsB b0 b0 = true := by
              rw [HF.out, hnz]; simp
            rw [this]; rfl)
          rw [HR.out] at HM
          have hbb : (b0 == b0) = true := by simp
          have hbn : (b0 != b0) = false := by simp
          go_wp2_with fail
          go_ret
          exact ⟨by rw [HM.out]; rfl, HB4.out⟩
        · have hbb : (b0 == n) = false := beq_eq_false_iff_ne.2 hg
          have hbn : (b0 != n) = true := by rw [bne, hbb]; rfl
          have HR := hid (show (if fitsB b0 n then 0 else 4) = 4 by
            have : fitsB b0 n = false := by
              rw [HF.out, hnz]; simpa using hg
            rw [this]; rfl)
          rw [HR.out] at HM
          go_wp2_with fail
          go_ret
          exact ⟨by rw [HM.out]; rfl, HB4.out⟩
    · rw [if_neg h1] at HM
      have H1 := hid h1
      have hpos : (0 : Int) < (verErr v.data.toList : Int) := by omega
      rw [h0] at HP
      rw [HM.out]
      clear h0 h1
      go_enter Tryz.func51, Tryz.ntmps51
      go_wp2_with fail
      refine HP.out.mono ?_
      rintro e w1 ⟨rfl, hb1⟩
      have HB1 := hid (HB0.out.trans (hb1.mono HB0.out.size))
      obtain ⟨⟨r0, r1⟩, rz⟩ := res2 (hb1.mono (by simp))
      clear hb1
      go_wp2_with fail
      refine (HV.out _).mono ?_
      rintro e w2 ⟨hv2, hb2⟩
      obtain rfl : e = .returned (.tuple #[.agg #[.int .i64 0, .int .i64 0, .int .i64 0, .slice none 0 0], .int .i64 (verErr v.data.toList : Nat)]) := by
        rcases hv2 with ⟨_, h⟩ | ⟨h, _⟩
        · exact h
        · exact absurd h H1.out
      have HB2 := hid (HB1.out.trans (hb2.mono HB1.out.size))
      have HBV := hid ((Below.refl w2.heap.size w2).alloc (Nat.le_refl _) (.cells #[.int .i64 0, .int .i64 0, .int .i64 0, .slice none 0 0] 107))
      have HB3 := hid (HB2.out.trans (HBV.out.mono HB2.out.size))
      clear hv2 hb2 r0 r1 rz
      generalize hce : (verErr v.data.toList : Int) = c at *
      have HCE := hid hce
      clear hce
      go_wp2_with fail
      go_ret
      exact ⟨by rw [HCE.out]; rfl, HB3.out⟩
  · rw [if_neg h0] at HM
    have hpos : (0 : Int) < (pathErr p.data.toList : Int) := by omega
    rw [HM.out]
    generalize (pathErr p.data.toList : Int) = c at *
    clear h0 HM
    go_enter Tryz.func51, Tryz.ntmps51
    go_wp2_with fail
    refine HP.out.mono ?_
    rintro e w1 ⟨rfl, hb1⟩
    have HB1 := hid (HB0.out.trans (hb1.mono HB0.out.size))
    clear hb1
    go_wp2_with fail
    go_ret
    exact ⟨rfl, HB1.out⟩
end Ve
end Go.Proofs.YtoaobngpdaidoaaGreatDoor
