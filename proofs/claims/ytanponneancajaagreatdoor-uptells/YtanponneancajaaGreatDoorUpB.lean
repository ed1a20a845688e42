/-
  What up.One answers: built with one module more; what up.All answers: built on until nothing changes.
-/
import Derived.Test.YtanponneancajaaGreatDoorUpA
import Derived.Test.YtanponneancajaaGreatDoorMvI
namespace Go.Proofs.YtanponneancajaaGreatDoor
open Go.RowKit Go.Maps
namespace Ve

/-- A row of modules is one alone. -/
theorem ms_one {W : World} {v : Value} {E F : List Bm} (hE : MsAt W v E) (hF : MsAt W v F) : E = F := by
  obtain ⟨a, c, rfl, _, h1⟩ := hE
  obtain ⟨a', c', e, _, h2⟩ := hF
  injection e with e1 e2 e3
  subst e1
  refine List.ext_getElem e2 fun j hj hj' => ?_
  obtain ⟨b, o, rfl, k1⟩ := h1 (fun e => by rw [e] at hj; exact absurd hj (Nat.not_lt_zero _))
  obtain ⟨b', o', e4, k2⟩ := h2 (fun e => by rw [e] at hj'; exact absurd hj' (Nat.not_lt_zero _))
  injection e4 with e4
  injection e4 with e5 e6
  subst e5 e6
  have p1 := (k1 j hj).1
  have p2 := (k1 j hj).2
  rw [(k2 j hj').1] at p1
  rw [(k2 j hj').2] at p2
  injection p1 with p1
  injection p1 with p1
  injection p2 with p2
  injection p2 with p2
  exact Prod.ext p1.symm p2.symm
open Classical in
/-- The modules that a value holds. -/
noncomputable def rdM (W : World) (v : Value) : List Bm := if h : ∃ E, MsAt W v E then h.choose else []
theorem rdM_eq {W : World} {v : Value} {E : List Bm} (h : MsAt W v E) : rdM W v = E := by
  have he : ∃ E, MsAt W v E := ⟨E, h⟩
  unfold rdM
  rw [dif_pos he]
  exact ms_one he.choose_spec h
theorem ms_single {W : World} {b : Nat} {x : Bm} {fr : Nat × Nat} (h : W.heap[b]? = some (.cells #[.string x.1, .string x.2] 51 fr)) : MsAt W (.slice (some ⟨b, 0, none⟩) 1 1) [x] := by
  refine ⟨_, 1, rfl, Nat.le_refl _, fun _ => ⟨b, 0, rfl, fun j hj => ?_⟩⟩
  have : j = 0 := by simp at hj; exact hj
  subst this
  exact ⟨by rw [Lib.cell_of_heap h]; rfl, by rw [Lib.cell_of_heap h]; rfl⟩
theorem em_some (a : Addr) (n c : Nat) (D : List Bm) : Em (.slice (some a) n c) D := fun a' c' e _ => by
  injection e with e1 e2 e3
  subst e1 e3
  exact Or.inr ⟨a, rfl⟩
set_option maxRecDepth 100000 in
set_option maxHeartbeats 2000000 in
theorem one_bad (Q : List Raw) (L : List Ent) (roots : List Bm) (x : Bm) (v rv : Value) (A : Nat → Addr) (m : Int) (w : World) (hn : L.length ≤ 1000) (hrn : roots.length ≤ 400) (sh : ∀ e, e ∈ L → ShE e) (S : Te w A m) (I : Ixs w v Q L) (hr : MsAt w rv roots) (h0 : ¬ (chkG Q L roots).1 = 0) :
    Calls Tryz.prog 36 #[v, rv, .agg #[.string x.1, .string x.2]] w fun e w' => ∃ T a, e = .returned (.tuple #[.slice none 0 0, .iface T (.pointer (some a))]) ∧ ErrAt w' A (.iface T (.pointer (some a))) (chkG Q L roots).1 (chkG Q L roots).2 ∧ Below w.heap.size w w' := by
  obtain ⟨p, q⟩ := x
  have HB0 := hid ((Below.refl w.heap.size w).alloc (Nat.le_refl _) (.cells #[.string p, .string q] 51))
  have HBU := hid (build_bad Q L roots v rv A m _ hn (by omega) sh (S.below HB0.out) (I.below HB0.out) (hr.below HB0.out) h0)
  obtain ⟨a, c, hv, -⟩ := id I.es
  subst hv
  obtain ⟨ra, rc, hrv, -⟩ := id hr
  subst hrv
  clear S I hr sh h0
  go_enter Tryz.func36, Tryz.ntmps36
  go_wp2_with fail
  refine HBU.out.mono ?_
  rintro e w1 ⟨T, xa, rfl, he, hb⟩
  have HB1 := hid (HB0.out.trans (hb.mono HB0.out.size))
  have HE := hid he
  clear hb he HBU
  go_wp2_with fail
  go_ret2
  exact ⟨_, _, rfl, HE.out, HB1.out⟩
set_option maxRecDepth 100000 in
set_option maxHeartbeats 2000000 in
theorem one_not (Q : List Raw) (L : List Ent) (roots : List Bm) (x : Bm) (v rv : Value) (A : Nat → Addr) (m : Int) (w : World) (hn : L.length ≤ 1000) (hrn : roots.length ≤ 400) (sh : ∀ e, e ∈ L → ShE e) (S : Te w A m) (I : Ixs w v Q L) (hr : MsAt w rv roots) (h0 : (chkG Q L roots).1 = 0) (hx : ¬ x ∈ univ L) :
    Calls Tryz.prog 36 #[v, rv, .agg #[.string x.1, .string x.2]] w fun e w' => e = .returned (.tuple #[.slice none 0 0, errA A 5]) ∧ Below w.heap.size w w' := by
  obtain ⟨p, q⟩ := x
  have HB0 := hid ((Below.refl w.heap.size w).alloc (Nat.le_refl _) (.cells #[.string p, .string q] 51))
  have HM0 := hid (heap_new w (.cells #[.string p, .string q] 51))
  have HBU := hid (build_good Q L roots v rv A m _ hn (by omega) sh (S.below HB0.out) (I.below HB0.out) (hr.below HB0.out) h0)
  have HFI := hid (fun W (h : Below w.heap.size w W) => find_any Q (p, q) v W (by rw [I.ln]; omega) (I.below h).es)
  obtain ⟨k, hk, hkn⟩ : ∃ k, idxOf (isM (p, q)) Q = k ∧ k < 0 := by
    rcases idx_nat (isM (p, q)) Q with h1 | ⟨k, h1⟩
    · exact ⟨_, h1, by omega⟩
    · exact absurd ((found_iff I (p, q)).2 ⟨k, h1⟩) hx
  rw [hk] at HFI
  have HS := hid (fun W (h : Below w.heap.size w W) => S.below h)
  obtain ⟨a, c, hv, -⟩ := id I.es
  subst hv
  obtain ⟨ra, rc, hrv, -⟩ := id hr
  subst hrv
  clear S I hr sh h0 hx hk
  go_enter Tryz.func36, Tryz.ntmps36
  go_wp2_with fail
  refine HBU.out.mono ?_
  rintro e w1 ⟨u, E, rfl, -, hm⟩
  have HB1 := hid (HB0.out.trans (hm.1.mono HB0.out.size))
  have HM1 := hid ((hm.1.block _ (lt_of_blk HM0.out)).trans HM0.out)
  obtain ⟨ua, uc, hu⟩ := hm.sl
  subst hu
  obtain ⟨m0, m1, mf⟩ := box2J HM1.out
  clear hm HBU
  go_wp2_with fail
  refine (HFI.out _ HB1.out).mono ?_
  rintro e w2 ⟨rfl, hb⟩
  have HB2 := hid (HB1.out.trans (hb.mono HB1.out.size))
  have g4 := (HS.out _ HB2.out).sen.g4
  clear hb m0 m1 mf
  go_wp2_with fail
  go_quiet (fail)
  go_wp2_with fail
  go_ret2
  exact ⟨rfl, below_drawn_of HB2.out _⟩
set_option maxRecDepth 100000 in
set_option maxHeartbeats 4000000 in
theorem one_good (Q : List Raw) (L : List Ent) (roots : List Bm) (x : Bm) (v rv : Value) (A : Nat → Addr) (m : Int) (w : World) (hn : L.length ≤ 1000) (hrn : roots.length ≤ 400) (sh : ∀ e, e ∈ L → ShE e) (S : Te w A m) (I : Ixs w v Q L) (hr : MsAt w rv roots) (her : Em rv roots) (h0 : (chkG Q L roots).1 = 0) (hx : x ∈ univ L) :
    Calls Tryz.prog 36 #[v, rv, .agg #[.string x.1, .string x.2]] w fun e w' => ∃ a c, e = .returned (.tuple #[.slice a (bX Q L (roots ++ [x])).length c, .nilIface]) ∧ Mr w w' (.slice a (bX Q L (roots ++ [x])).length c) (bX Q L (roots ++ [x])) := by
  have hg : (chkG Q L (roots ++ [x])).1 = 0 := chkG_in I (chkG_chk h0) fun y hy => by
    rcases List.mem_append.1 hy with h | h
    · exact (rgt_of I h0).r y h
    · rw [List.mem_singleton.1 h]; exact hx
  obtain ⟨p, q⟩ := x
  have HB0 := hid ((Below.refl w.heap.size w).alloc (Nat.le_refl _) (.cells #[.string p, .string q] 51))
  have HM0 := hid (heap_new w (.cells #[.string p, .string q] 51))
  have HBU := hid (build_good Q L roots v rv A m _ hn (by omega) sh (S.below HB0.out) (I.below HB0.out) (hr.below HB0.out) h0)
  have HFI := hid (fun W (h : Below w.heap.size w W) => find_any Q (p, q) v W (by rw [I.ln]; omega) (I.below h).es)
  obtain ⟨k, hk⟩ := (found_iff I (p, q)).1 hx
  rw [hk] at HFI
  have hk0 : ¬ (k : Int) < 0 := by omega
  have HB2 := hid (fun W u (h : Below w.heap.size w W) (hu : MsAt W u (roots ++ [(p, q)])) => build_all Q L (roots ++ [(p, q)]) v u A m W hn (by simp; omega) sh (S.below h) (I.below h) hu)
  rw [rF_good hg] at HB2
  have HR := hid (fun W (h : Below w.heap.size w W) => hr.below h)
  have HER := hid her
  obtain ⟨a, c, hv, -⟩ := id I.es
  subst hv
  obtain ⟨ra, rc, hrv, -⟩ := id hr
  subst hrv
  clear S I hr sh h0 hx hk her hg
  go_enter Tryz.func36, Tryz.ntmps36
  go_wp2_with fail
  refine HBU.out.mono ?_
  rintro e w1 ⟨u, E, rfl, -, hm⟩
  have HB1 := hid (HB0.out.trans (hm.1.mono HB0.out.size))
  have HM1 := hid ((hm.1.block _ (lt_of_blk HM0.out)).trans HM0.out)
  obtain ⟨ua, uc, hu⟩ := hm.sl
  subst hu
  obtain ⟨m0, m1, mf⟩ := box2J HM1.out
  clear hm HBU
  go_wp2_with fail
  refine (HFI.out _ HB1.out).mono ?_
  rintro e w2 ⟨rfl, hb⟩
  have HBb := hid (HB1.out.trans (hb.mono HB1.out.size))
  have HM2 := hid ((hb.block _ (lt_of_blk HM1.out)).trans HM1.out)
  clear hb m0 m1 mf
  obtain ⟨m0, m1, mf⟩ := box2J HM2.out
  have HA3 := hid ((Below.refl w2.heap.size w2).alloc (Nat.le_refl _) (.cells #[.string p, .string q] 51))
  have HN3 := hid (heap_new w2 (.cells #[.string p, .string q] 51))
  have HA4 := hid (HA3.out.alloc HA3.out.size (.cells #[.slice ra roots.length rc, .slice (some ⟨w2.heap.size, 0, none⟩) 1 1] 52))
  have HN4 := hid (heap_old _ (.cells #[.slice ra roots.length rc, .slice (some ⟨w2.heap.size, 0, none⟩) 1 1] 52) HN3.out)
  have HL4 := hid (heap_new (w2.alloc (.cells #[.string p, .string q] 51)) (.cells #[.slice ra roots.length rc, .slice (some ⟨w2.heap.size, 0, none⟩) 1 1] 52))
  have hsz : (w2.alloc (.cells #[.string p, .string q] 51)).heap.size = w2.heap.size + 1 := by simp
  rw [hsz] at HL4
  go_wp2_with fail
  generalize (w2.alloc (.cells #[.string p, .string q] 51)).alloc (.cells #[.slice ra roots.length rc, .slice (some ⟨w2.heap.size, 0, none⟩) 1 1] 52) = w4 at *
  have HB4 := hid (HBb.out.trans (HA4.out.mono HBb.out.size))
  have HCT := hid (cat_any roots [(p, q)] (.slice ra roots.length rc) (.slice (some ⟨w2.heap.size, 0, none⟩) 1 1) (w2.heap.size + 1) w4 (by rw [Lib.cell_of_heap HL4.out]; rfl) (by rw [Lib.cell_of_heap HL4.out]; rfl) (HR.out _ HB4.out) (ms_single HN4.out) HER.out (em_some _ _ _ _) (by omega) (by simp))
  clear m0 m1 mf HA3 HA4 HN3 HN4 HL4 hsz HM2 HM1 HM0
  refine HCT.out.mono ?_
  rintro e w5 ⟨cu, rfl, ho, hb⟩
  have HB5 := hid (HB4.out.trans (hb.mono HB4.out.size))
  have HBE := hid (HB2.out w5 cu HB5.out (own_ms ho))
  obtain ⟨RX, hRX⟩ : ∃ RX, roots ++ [(p, q)] = RX := ⟨_, rfl⟩
  obtain ⟨BX, hBX⟩ : ∃ BX, bX Q L (roots ++ [(p, q)]) = BX := ⟨_, rfl⟩
  have HBX := hid hBX
  rw [hBX] at HBE
  rw [hRX] at ho
  obtain ⟨ca, cc, hcu⟩ := own_slN ho
  subst hcu
  clear ho hb HCT HB2 hRX hBX
  go_wp2_with fail
  refine HBE.out.mono ?_
  rintro e w6 ⟨xa, xc, y, rfl, hm, he⟩
  have he : y = .nilIface := he
  subst he
  have HMX := hid (hm.base HB5.out)
  clear hm HBE
  go_wp2_with fail
  go_ret2
  have h := HBX.out
  subst h
  exact ⟨_, _, rfl, HMX.out⟩
set_option maxRecDepth 100000 in
set_option maxHeartbeats 2000000 in
theorem all_bad (Q : List Raw) (L : List Ent) (roots : List Bm) (v rv : Value) (A : Nat → Addr) (m : Int) (w : World) (hn : L.length ≤ 1000) (hrn : roots.length ≤ 1000000) (sh : ∀ e, e ∈ L → ShE e) (S : Te w A m) (I : Ixs w v Q L) (hr : MsAt w rv roots) (h0 : ¬ (chkG Q L roots).1 = 0) :
    Calls Tryz.prog 32 #[v, rv] w fun e w' => ∃ T a, e = .returned (.tuple #[.slice none 0 0, .iface T (.pointer (some a))]) ∧ ErrAt w' A (.iface T (.pointer (some a))) (chkG Q L roots).1 (chkG Q L roots).2 ∧ Below w.heap.size w w' := by
  have HBU := hid (build_bad Q L roots v rv A m _ hn hrn sh S I hr h0)
  obtain ⟨a, c, hv, -⟩ := id I.es
  subst hv
  obtain ⟨ra, rc, hrv, -⟩ := id hr
  subst hrv
  clear S I hr sh h0
  go_enter Tryz.func32, Tryz.ntmps32
  go_wp2_with fail
  refine HBU.out.mono ?_
  rintro e w1 ⟨T, xa, rfl, he, hb⟩
  have HB1 := hid hb
  have HE := hid he
  clear hb he HBU
  go_wp2_with fail
  go_ret2
  exact ⟨_, _, rfl, HE.out, HB1.out⟩
/-- What up.All answers. -/
structure AllR (Q : List Raw) (L : List Ent) (roots E : List Bm) : Prop where
  fx : Fix Q L (bX Q L roots) E
  sl : Sl L E
  la : LatIn Q L E
  ov : undB (bX Q L roots) E = true
set_option maxRecDepth 100000 in
set_option maxHeartbeats 4000000 in
theorem all_good (Q : List Raw) (L : List Ent) (roots : List Bm) (v rv : Value) (A : Nat → Addr) (m : Int) (w : World) (hn : L.length ≤ 400) (hrn : roots.length ≤ 1000000) (hz : ∀ r, r ∈ Q → r.1.1.size ≤ 80 ∧ r.1.2.size ≤ 80) (sh : ∀ e, e ∈ L → ShE e) (S : Te w A m) (htab : Lib.TabIs Tryz.prog w powName .u64 Lib.pow10Tab) (I : Ixs w v Q L) (hr : MsAt w rv roots) (h0 : (chkG Q L roots).1 = 0) :
    Calls Tryz.prog 32 #[v, rv] w fun e w' => ∃ a c E, e = .returned (.tuple #[.slice a E.length c, .nilIface]) ∧ Mr w w' (.slice a E.length c) E ∧ AllR Q L roots E := by
  have HC := hid (chkG_chk h0)
  have HBU := hid (build_all Q L roots v rv A m w (by omega) hrn sh S I hr)
  rw [rF_good h0] at HBU
  have HI := hid (fun W (h : Below w.heap.size w W) => I.below h)
  have HLR := hid (fun E W u (h : Below w.heap.size w W) (hE : E.length ≤ L.length) (hu : MsAt W u E) => latest_row Q E v u A m W (by rw [I.ln]; omega) (by omega) hz (S.below h) (tab_below htab h) (I.below h).es hu)
  have HLI := hid (fun E (hE : Sl L E) (hK : LatK Q E) => show LatIn Q L E from fun x hx => by
    obtain ⟨X, hX⟩ := hK x hx
    exact lat_in I HC.out ⟨x, hE.un x hx, rfl⟩ hX)
  have HB2 := hid (fun E W u (hE : Sl L E) (hl : LatIn Q L E) (hEl : E.length ≤ L.length) (h : Below w.heap.size w W) (hu : MsAt W u (E ++ latL Q E)) => build_all Q L (E ++ latL Q E) v u A m W (by omega) (by rw [List.length_append, latL_len]; omega) sh (S.below h) (I.below h) hu)
  have HG2 := hid (fun E (hE : Sl L E) (hl : LatIn Q L E) => rF_good (upG I HC.out hE hl))
  have HOV := hid (fun E (hE : Sl L E) (hl : LatIn Q L E) => up_over I HC.out hE hl)
  have HLN := hid hn
  obtain ⟨a, c, hv, -⟩ := id I.es
  subst hv
  obtain ⟨ra, rc, hrv, -⟩ := id hr
  subst hrv
  have HB0 := hid (bX_sl Q L roots)
  have HBL := hid (show (bX Q L roots).length ≤ L.length from bX_len)
  have HUR := hid (undB_refl HC.out HB0.out)
  clear S I hr sh h0 htab hz
  go_enter Tryz.func32, Tryz.ntmps32
  go_wp2_with fail
  refine HBU.out.mono ?_
  rintro e w1 ⟨xa, xc, y, rfl, hm, he⟩
  have he : y = .nilIface := he
  subst he
  have HM1 := hid hm
  clear hm HBU
  go_wp2_with fail
  go_loopw [6] (fun bv wr => ∃ E, Hid (Mr w wr bv E) ∧ Hid (∃ n, E = upN Q L (bX Q L roots) n) ∧ Hid (Sl L E) ∧ Hid (E.length ≤ L.length) ∧ Hid (undB (bX Q L roots) E = true)) (fun bv wr => L.length - cntV L (rdM wr bv))
  case atStart => exact ⟨_, HM1, hid ⟨0, rfl⟩, HB0, HBL, HUR⟩
  case round =>
    obtain ⟨E, HM, HNN, HSL, HEL, HUN⟩ := hrel
    have HRD := hid (rdM_eq HM.out.ms)
    obtain ⟨ea, ec, hu6⟩ := HM.out.sl
    subst hu6
    have HLE := hid (HLR.out E wr _ HM.out.1 HEL.out HM.out.ms)
    go_wp2_with fail
    refine HLE.out.mono ?_
    rintro e w2 ⟨lu, rfl, ho, hK, hb⟩
    have HLA := hid (HLI.out E HSL.out hK)
    have HB2' := hid (HM.out.1.trans (hb.mono HM.out.1.size))
    have HML := hid (mr_own ho hb)
    have HME := hid (HM.out.below hb)
    obtain ⟨la, lc, hlu⟩ := HML.out.sl
    subst hlu
    clear ho hK hb HLE
    have HA3 := hid ((Below.refl w2.heap.size w2).alloc (Nat.le_refl _) (.cells #[.slice ea E.length ec, .slice la (latL Q E).length lc] 52))
    have HL3 := hid (heap_new w2 (.cells #[.slice ea E.length ec, .slice la (latL Q E).length lc] 52))
    go_wp2_with fail
    generalize w2.alloc (.cells #[.slice ea E.length ec, .slice la (latL Q E).length lc] 52) = w3 at *
    have HB3 := hid (HB2'.out.trans (HA3.out.mono HB2'.out.size))
    have HCT := hid (cat_any E (latL Q E) _ _ w2.heap.size w3 (by rw [Lib.cell_of_heap HL3.out]; rfl) (by rw [Lib.cell_of_heap HL3.out]; rfl) (HME.out.ms.below HA3.out) (HML.out.ms.below HA3.out) HME.out.em HML.out.em (by have := HEL.out; have := HLN.out; omega) (by rw [latL_len]; have := HEL.out; have := HLN.out; omega))
    have HME3 := hid (HME.out.below HA3.out)
    clear HA3 HL3 HML HME
    refine HCT.out.mono ?_
    rintro e w4 ⟨cu, rfl, ho, hb⟩
    have HB4 := hid (HB3.out.trans (hb.mono HB3.out.size))
    have HBE := hid (HB2.out E w4 cu HSL.out HLA.out HEL.out HB4.out (own_ms ho))
    rw [HG2.out E HSL.out HLA.out] at HBE
    have HME4 := hid (HME3.out.below hb)
    have HUF := hid (show bX Q L (E ++ latL Q E) = upF Q L E from rfl)
    rw [HUF.out] at HBE
    obtain ⟨EL, hEL⟩ : ∃ EL, E ++ latL Q E = EL := ⟨_, rfl⟩
    rw [hEL] at ho
    obtain ⟨ca, cc, hcu⟩ := own_slN ho
    subst hcu
    clear ho hb HCT HME3 hEL HUF
    go_wp2_with fail
    refine HBE.out.mono ?_
    rintro e w5 ⟨na, nc, y, rfl, hm, he⟩
    have he : y = .nilIface := he
    subst he
    have HMN := hid (hm.base HB4.out)
    have HME5 := hid (HME4.out.below hm.1)
    have HSF := hid (show Sl L (upF Q L E) from bX_sl _ _ _)
    have HFL := hid (show (upF Q L E).length ≤ L.length from bX_len)
    have HOE := hid (HOV.out E HSL.out HLA.out)
    have HEQ := hid (eqS_any (upF Q L E) E _ _ w5 (by have := HFL.out; have := HLN.out; omega) HMN.out.ms HME5.out.ms)
    clear hm HBE HME4
    by_cases hF : upF Q L E = E
    · rw [decide_eq_true hF] at HEQ
      have HAR := hid (show AllR Q L roots E from ⟨⟨HNN.out, hF⟩, HSL.out, HLA.out, HUN.out⟩)
      rw [hF] at HMN HEQ ⊢
      clear hF HSF HFL HOE
      go_wp2_with fail
      refine HEQ.out.mono ?_
      rintro e w6 ⟨rfl, hb⟩
      have HM6 := hid (HMN.out.below hb)
      clear hb
      go_wp2_with fail
      go_ret2
      exact ⟨_, _, E, rfl, HM6.out, HAR.out⟩
    · rw [decide_eq_false hF] at HEQ
      have HCN := hid (cntV_lt HC.out HSL.out HSF.out HOE.out hF)
      have HN2 := hid (show ∃ n, upF Q L E = upN Q L (bX Q L roots) n by
        obtain ⟨n, hn⟩ := HNN.out
        exact ⟨n + 1, by rw [hn]; rfl⟩)
      have HU2 := hid (undB_trans HC.out HB0.out HSL.out HSF.out HUN.out HOE.out)
      have HCE := hid (cntV_le L (upF Q L E))
      clear hF
      generalize upF Q L E = F at *
      go_wp2_with fail
      refine HEQ.out.mono ?_
      rintro e w6 ⟨rfl, hb⟩
      have HM6 := hid (HMN.out.below hb)
      clear hb
      go_wp2_with fail
      go_roundw
      case rel => exact ⟨F, HM6, HN2, HSF, HFL, HU2⟩
      case measure =>
        show L.length - cntV L (rdM w6 _) < L.length - cntV L (rdM wr _)
        rw [rdM_eq HM6.out.ms, HRD.out]
        have h1 := HCN.out
        have h2 := HCE.out
        omega
end Ve
end Go.Proofs.YtanponneancajaaGreatDoor
