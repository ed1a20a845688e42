/-
  pewholderlaw2.MvsTells walked: true for every input.
-/
import Derived.Test.YtoaobngpdaidoaaGreatDoorMt7
import Derived.Deep.DeepCutAuto
import Derived.Test.YtoaobngpdaidoaaGreatDoorMt1
import Derived.Deep.SlicePairs
import Derived.Lib.SmallJoins
import Derived.SliceStrings
import Derived.ProofKit
import Derived.LaidMore
import Derived.Lay
import Derived.Stop.Joined
import Derived.HandedShaped
import Derived.LaidLaws
import Derived.Below
import Derived.Test.YtoaobngpdaidoaaGreatDoorRows
import Derived.Test.YtoaobngpdaidoaaGreatDoorCode
import Derived.Test.YtoaobngpdaidoaaGreatDoorVerG
import Derived.LaidHandle
import Derived.Stop.LaidTwo
import Derived.Shelf.Vars
import Derived.Carry
namespace Go.Proofs.YtoaobngpdaidoaaGreatDoor
open Go.RowKit Go.Maps
namespace Ve

theorem cell_set_neJ {W : World} {b o g p : Nat} {x v : Value} (h : W.cell? ⟨b, o, none⟩ = some v) (hne : b ≠ g) : (W.setCell ⟨g, p, none⟩ x).cell? ⟨b, o, none⟩ = some v := by
  unfold World.cell? at h ⊢
  rw [Below.heap_setCell _ _ _ _ hne]
  exact h
theorem ErrAt.set2J {W : World} {A : Nat → Addr} {y : Value} {c : Nat} {o : Option Nat} {g : Nat} {z : Value} {n : Int} {T : TypeId} (h : ErrAt W A y c o) (hg : W.heap[g]? = some (.cells #[z, .int .i64 n] T (0, 0))) (a b : Value) : ErrAt ((W.setCell ⟨g, 0, none⟩ a).setCell ⟨g, 1, none⟩ b) A y c o := by
  cases o with
  | none => exact h
  | some i =>
    obtain ⟨h0, f, rfl, h1, h2⟩ := h
    have hne : f ≠ g := fun e => by
      subst e
      obtain ⟨_, g1, _⟩ := box_two hg
      rw [g1, errA_if A h0] at h2
      cases h2
    exact ⟨h0, f, rfl, cell_set_neJ (cell_set_neJ h1 hne) hne, cell_set_neJ (cell_set_neJ h2 hne) hne⟩
theorem cF_le (Q : List Raw) (L : List Ent) (roots sel : List Bm) : (cF Q L roots sel).1 ≤ 10 := by
  unfold cF
  split
  · simp
  · unfold chkC
    repeat' split
    all_goals first | (simp only; omega) | exact chkG_le _ _ _ | exact codeE_le (nonE_le _ _)
/-- mvs.Closed. -/
theorem closed_all (Q : List Raw) (L : List Ent) (roots sel : List Bm) (v rv sv : Value) (A : Nat → Addr) (m : Int) (w : World) (hn : L.length ≤ 1000) (hrn : roots.length ≤ 1000000) (hsn : sel.length ≤ 500) (sh : ∀ e, e ∈ L → ShE e) (S : Te w A m) (I : Ixs w v Q L) (hr : MsAt w rv roots) (hs : MsAt w sv sel) (es : Em sv sel) :
    Calls Tryz.prog 16 #[v, rv, sv] w fun e w' => ∃ x, e = .returned (.tuple #[.bool (cB Q L roots sel), x]) ∧ ErrAt w' A x (cF Q L roots sel).1 (cF Q L roots sel).2 ∧ Below w.heap.size w w' := by
  by_cases h : (chkC Q L roots sel).1 = 0
  · refine (closed_good Q L roots sel v rv sv A m w hn hrn hsn sh S I hr hs es h).mono ?_
    rintro e w' ⟨rfl, hb⟩
    unfold cB cF
    rw [if_pos h, if_pos h]
    exact ⟨_, rfl, rfl, hb⟩
  · refine (closed_bad Q L roots sel v rv sv A m w hn hrn hsn sh S I hr hs es h).mono ?_
    rintro e w' ⟨T, a, rfl, he, hb⟩
    unfold cB cF
    rw [if_neg h, if_neg h]
    exact ⟨_, rfl, he, hb⟩
set_option maxRecDepth 100000 in
set_option maxHeartbeats 8000000 in
theorem mt_main (Q0 : List Raw) (L : List Ent) (roots ra rb : List Bm) (v u s t : Value) (A : Nat → Addr) (m : Int) (w : World) (S : Te w A m) (N : Er.Sen w A) (I : Ixs w v Q0 L) (em : EmI Q0 L) (hr : MsAt w u roots) (her : Em u roots) (hr2 : MsAt w s ra) (her2 : Em s ra) (hr3 : MsAt w t rb) (her3 : Em t rb) (hok : okI L = true) (hrk : okLN 15 roots = true) (hrk2 : okLN 15 ra = true) (hrk3 : okLN 15 rb = true) :
    Calls Tryz.prog 3 #[v, u, s, t] w fun e w' => e = .returned (.bool true) ∧ Below w.heap.size w w' := by
  obtain ⟨a0, c0, hv0, -⟩ := id I.es
  subst hv0
  obtain ⟨aa, ac, hu0, -⟩ := id hr
  subst hu0
  obtain ⟨ba, bc, hs0, -⟩ := id hr2
  subst hs0
  obtain ⟨ta, tc, ht0, -⟩ := id hr3
  subst ht0
  have hn101 : L.length ≤ 101 := by rcases (okI_iff hok).1 with h | h <;> omega
  have hr15 : roots.length ≤ 15 := (okLN_iff hrk).1
  have ha15 : ra.length ≤ 15 := (okLN_iff hrk2).1
  have hb15 : rb.length ≤ 15 := (okLN_iff hrk3).1
  have HZA := hid (show ∀ x, x ∈ ra → x.1.size < 999999 ∧ x.2.size < 999999 from fun x hx => by have := (okLN_iff hrk2).2 x hx; omega)
  have HZB := hid (show ∀ x, x ∈ rb → x.1.size < 999999 ∧ x.2.size < 999999 from fun x hx => by have := (okLN_iff hrk3).2 x hx; omega)
  have HIN := hid (built_any A m w S)
  have HLO := hid (fun W (h : Below w.heap.size w W) => longI_any Q0 L _ W (I.below h))
  rw [if_pos hok] at HLO
  have HLM := hid (fun W (h : Below w.heap.size w W) => longN_any 15 (by decide) roots _ W (hr.below h))
  rw [if_pos hrk] at HLM
  have HLM2 := hid (fun W (h : Below w.heap.size w W) => longN_any 15 (by decide) ra _ W (hr2.below h))
  rw [if_pos hrk2] at HLM2
  have HLM3 := hid (fun W (h : Below w.heap.size w W) => longN_any 15 (by decide) rb _ W (hr3.below h))
  rw [if_pos hrk3] at HLM3
  have HOW := hid (fun W (h : Below w.heap.size w W) => ownI_any Q0 L _ W (by omega) (I.below h) em (okI_fits hok))
  have HOM := hid (fun W (h : Below w.heap.size w W) => ownM_any _ roots W (by omega) (hr.below h) her)
  have HOM2 := hid (fun W (h : Below w.heap.size w W) => ownM_any _ ra W (by omega) (hr2.below h) her2)
  have HOM3 := hid (fun W (h : Below w.heap.size w W) => ownM_any _ rb W (by omega) (hr3.below h) her3)
  have HSH := hid (okI_sh hok)
  have HS := hid (fun W (h : Below w.heap.size w W) => S.below h)
  have HN := hid (fun W (h : Below w.heap.size w W) => N.below h)
  have HBO := hid (fun W (h : Below w.heap.size w W) => bo_all Q0 L roots _ _ W (by omega) (by omega) (okI_sh hok) (I.below h) (hr.below h))
  have HCO := hid (fun W (h : Below w.heap.size w W) => co_all Q0 L roots ra _ _ _ W (by omega) (by omega) (by omega) (okI_sh hok) (I.below h) (hr.below h) (hr2.below h))
  have HIU := hid (fun W (h : Below w.heap.size w W) => isU_any ra rb _ _ W (by omega) (by omega) (fun x hx => (HZA.out x hx).2) (fun x hx => (HZB.out x hx).2) (hr2.below h) (hr3.below h))
  have HJO := hid (fun W (h : Below w.heap.size w W) => jo_any ra rb _ _ W (by omega) (by omega) HZA.out HZB.out (hr2.below h) (hr3.below h))
  have HU0 := hid (univ_eq I)
  clear S N I em hok hr her hr2 her2 hr3 her3 hrk hrk2 hrk3
  go_enter Tryz.func3, Tryz.ntmps3
  go_wp2_with fail
  refine HIN.out.mono ?_
  rintro e w1 ⟨rfl, hb⟩
  have HB1 := hid hb
  clear hb
  go_wp2_with fail
  refine (HLO.out w1 HB1.out).mono ?_
  rintro e w2 ⟨rfl, hb⟩
  have HB2 := hid (HB1.out.trans (hb.mono HB1.out.size))
  clear hb
  go_wp2_with fail
  refine (HLM.out w2 HB2.out).mono ?_
  rintro e w2a ⟨rfl, rfl⟩
  go_wp2_with fail
  refine (HLM2.out w2a HB2.out).mono ?_
  rintro e w2b ⟨rfl, rfl⟩
  go_wp2_with fail
  refine (HLM3.out w2b HB2.out).mono ?_
  rintro e w2c ⟨rfl, rfl⟩
  go_wp2_with fail
  refine (HOW.out w2c HB2.out).mono ?_
  rintro e w3 ⟨ou, Q, rfl, hO, hb⟩
  have HB3 := hid (HB2.out.trans (hb.mono HB2.out.size))
  have HIX3 := hid hO.ixs
  obtain ⟨oa, oc, hou, -⟩ := id hO.ixs.es
  subst hou
  have HQQ := hid (show Q.map (fun r => r.1) = Q0.map (fun r => r.1) by rw [univ_eq HIX3.out, HU0.out])
  have HBW := hid (fun W (h : Below w3.heap.size w3 W) => HB3.out.trans (h.mono HB3.out.size))
  have HBU := hid (fun W rv (h : Below w3.heap.size w3 W) (hm : MsAt W rv roots) => build_all Q L roots _ rv A m W (by omega) (by omega) HSH.out (HS.out W (HBW.out W h)) (HIX3.out.below h) hm)
  have HCL := hid (fun W rv sv (h : Below w3.heap.size w3 W) (hm : MsAt W rv roots) (hs : MsAt W sv ra) (es : Em sv ra) => closed_all Q L roots ra _ rv sv A m W (by omega) (by omega) (by omega) HSH.out (HS.out W (HBW.out W h)) (HIX3.out.below h) hm hs es)
  have HUN := hid (fun W va vb (h : Below w3.heap.size w3 W) (h1 : MsAt W va ra) (h2 : MsAt W vb rb) => und_any ra rb va vb A m W (by omega) (by omega) (fun x hx => (HZA.out x hx).2) (fun x hx => (HZB.out x hx).2) (HS.out W (HBW.out W h)) h1 h2)
  have HJN := hid (fun W va vb (h : Below w3.heap.size w3 W) (h1 : MsAt W va ra) (h2 : MsAt W vb rb) (e1 : Em va ra) (e2 : Em vb rb) => join_mods ra rb va vb A m W h1 h2 e1 e2 (by omega) (by omega) (fun r hr => by rcases List.mem_append.1 hr with h | h; exact HZA.out r h; exact HZB.out r h) (HS.out W (HBW.out W h)))
  rw [bX_same HQQ.out, rF_same HQQ.out] at HBU
  rw [cB_same HQQ.out, cF_same HQQ.out] at HCL
  have HXL := hid (show (bX Q0 L roots).length ≤ 101 from Nat.le_trans bX_len hn101)
  have HFU := hid (fun W y (h : Below w3.heap.size w3 W) (he : ErrAt W A y (rF Q0 L roots).1 (rF Q0 L roots).2) => faulted2_any A y (rF Q0 L roots) W (HN.out _ (HBW.out _ h)) he (rF_le _ _ _))
  have HFC := hid (fun W y (h : Below w3.heap.size w3 W) (he : ErrAt W A y (cF Q0 L roots ra).1 (cF Q0 L roots ra).2) => faulted2_any A y (cF Q0 L roots ra) W (HN.out _ (HBW.out _ h)) he (cF_le _ _ _ _))
  have HJE := hid (fun E (h : Jn (ra ++ rb) E) => h.one (jL_jn ra rb) (fun _ _ => Iff.rfl))
  have HJL := hid (show (jL ra rb).length ≤ 1000 by
    have h1 := jN_len [] ra
    have h2 := jN_len (ra.foldl jSt []) rb
    unfold jL
    simp only [List.length_nil] at h1
    omega)
  clear hb hO HLO HLM HLM2 HLM3 HOW HIN HB1 HB2 HS HN HIX3 HQQ HU0 HSH HZA HZB
  generalize bX Q0 L roots = X at *
  generalize cB Q0 L roots ra = z at *
  generalize undB ra rb = zu at *
  generalize jL ra rb = JL at *
  obtain ⟨fc, fo⟩ : ∃ fo, fo = rF Q0 L roots := ⟨_, rfl⟩
  rw [← fo] at HBU HBO HFU
  obtain ⟨gc, go⟩ : ∃ fo, fo = cF Q0 L roots ra := ⟨_, rfl⟩
  rw [← go] at HCL HCO HFC
  clear fo go
  obtain ⟨f1, f2⟩ := fc
  obtain ⟨g1, g2⟩ := gc
  unfold faultV at HBO HCO HFU HFC
  simp only at HBU HBO HCL HCO HFU HFC
  have hzz : (z != z) = false := by cases z <;> rfl
  have hz2 : (zu == zu) = true := by cases zu <;> rfl
  go_wp2_with fail
  have HB3' := HB3
  clear HB3
  have HB3 := hid (Below.refl w3.heap.size w3)
  refine (HOM.out w3 (HBW.out _ HB3.out)).mono ?_
  rintro e w4 ⟨u4, rfl, ho, -, hb⟩
  have HB4 := hid (HB3.out.trans (hb.mono HB3.out.size))
  have HM4 := hid (mr_own ho hb)
  obtain ⟨a4, c4, hu4⟩ := HM4.out.sl
  subst hu4
  clear ho hb
  go_wp2_with fail
  refine (HBU.out w4 _ HB4.out HM4.out.ms).mono ?_
  rintro e w5 ⟨xa, xc, y5, rfl, hm5, he5⟩
  have HB5 := hid (HB4.out.trans (hm5.1.mono HB4.out.size))
  have HMX := hid hm5.ms
  have HE5 := hid he5
  clear hm5 he5
  go_wp2_with fail
  refine (HBO.out w5 (HBW.out _ HB5.out)).mono ?_
  rintro e w6 ⟨wa, wc, rfl, hm6⟩
  have HB6 := hid (HB5.out.trans (hm6.1.mono HB5.out.size))
  have HMX6 := hid (HMX.out.below hm6.1)
  have HMW := hid hm6.ms
  have HE6 := hid (HE5.out.below hm6.1)
  clear hm6 HBO HBU
  have HA7 := hid ((Below.refl w6.heap.size w6).alloc (Nat.le_refl _) (.cells #[.int .i64 (f1 : Nat), .int .i64 (atOf f2)] 34))
  have HB7 := hid (HB6.out.trans (HA7.out.mono HB6.out.size))
  have HF7 := hid (heap_new w6 (.cells #[.int .i64 (f1 : Nat), .int .i64 (atOf f2)] 34))
  have HMX7 := hid (HMX6.out.below HA7.out)
  have HMW7 := hid (HMW.out.below HA7.out)
  have HE7 := hid (HE6.out.below HA7.out)
  have HSG := hid (show w3.heap.size ≤ w6.heap.size from HB6.out.size)
  generalize hf1 : ((f1 : Nat) : Int) = F1 at *
  generalize atOf f2 = F2 at *
  go_wp2_with fail
  generalize w6.alloc (.cells #[.int .i64 F1, .int .i64 F2] 34) = w7 at *
  generalize w6.heap.size = g at *
  clear HA7 HE6 HMW HMX6 HB6 HB5 HMX HE5 HB4 HM4
  refine (HFU.out w7 y5 HB7.out HE7.out).mono ?_
  rintro e w8 ⟨rfl, hb⟩
  have HB8 := hid (HB7.out.trans (hb.mono HB7.out.size))
  have HF8 := hid ((hb.block _ (lt_of_blk HF7.out)).trans HF7.out)
  have HSA := hid (sameM_any X _ _ w8 (by have := HXL.out; omega) (HMX7.out.below hb) (HMW7.out.below hb))
  clear hb HE7 HMX7 HMW7 HF7 HB7
  go_wp2_with fail
  refine HSA.out.mono ?_
  rintro e w9 ⟨rfl, hb⟩
  have HB9 := hid (HB8.out.trans (hb.mono HB8.out.size))
  have HF9 := hid ((hb.block _ (lt_of_blk HF8.out)).trans HF8.out)
  clear hb HSA HF8 HB8
  go_wp2_with fail
  refine (HOM.out w9 (HBW.out _ HB9.out)).mono ?_
  rintro e w10 ⟨u10, rfl, ho, -, hb⟩
  have HB10 := hid (HB9.out.trans (hb.mono HB9.out.size))
  have HM10 := hid (mr_own ho hb)
  obtain ⟨a10, c10, hu10⟩ := HM10.out.sl
  subst hu10
  have HF10 := hid ((hb.block _ (lt_of_blk HF9.out)).trans HF9.out)
  clear ho hb
  go_wp2_with fail
  refine (HOM2.out w10 (HBW.out _ HB10.out)).mono ?_
  rintro e w11 ⟨u11, rfl, ho, -, hb⟩
  have HB11 := hid (HB10.out.trans (hb.mono HB10.out.size))
  have HM11 := hid (mr_own ho hb)
  obtain ⟨a11, c11, hu11⟩ := HM11.out.sl
  subst hu11
  have HF11 := hid ((hb.block _ (lt_of_blk HF10.out)).trans HF10.out)
  have HM10b := hid (HM10.out.ms.below hb)
  clear ho hb
  go_wp2_with fail
  refine (HCL.out w11 _ _ HB11.out HM10b.out HM11.out.ms HM11.out.em).mono ?_
  rintro e w12 ⟨y12, rfl, he12, hb⟩
  have HB12 := hid (HB11.out.trans (hb.mono HB11.out.size))
  have HF12 := hid ((hb.block _ (lt_of_blk HF11.out)).trans HF11.out)
  have HE12 := hid he12
  clear hb he12 HCL HF9 HF10 HF11 HB9 HB10 HB11 HM10 HM10b HM11
  go_wp2_with fail
  refine (HCO.out w12 (HBW.out _ HB12.out)).mono ?_
  rintro e w13 ⟨rfl, hb⟩
  have HB13 := hid (HB12.out.trans (hb.mono HB12.out.size))
  have HF13 := hid ((hb.block _ (lt_of_blk HF12.out)).trans HF12.out)
  have HE13 := hid (HE12.out.below hb)
  clear hb HCO HB12 HF12 HE12
  obtain ⟨q0, q1, qf⟩ := box_two HF13.out
  have HB14 := hid (put2_below (x := .int .i64 ((g1 : Nat) : Int)) (y := .int .i64 (atOf g2)) HB13.out HSG.out)
  have HE14 := hid (HE13.out.set2J HF13.out (.int .i64 ((g1 : Nat) : Int)) (.int .i64 (atOf g2)))
  go_wp2_with fail
  generalize (w13.setCell ⟨g, 0, none⟩ (.int .i64 ((g1 : Nat) : Int))).setCell ⟨g, 1, none⟩ (.int .i64 (atOf g2)) = w14 at *
  refine (HFC.out w14 y12 HB14.out HE14.out).mono ?_
  rintro e w15 ⟨rfl, hb⟩
  have HB15 := hid (HB14.out.trans (hb.mono HB14.out.size))
  clear hb HB13 HF13 HE13 HB14 HE14 q0 q1 qf HFC HFU
  go_wp2_with fail
  refine (HIU.out w15 (HBW.out _ HB15.out)).mono ?_
  rintro e w16 ⟨rfl, hb⟩
  have HB16 := hid (HB15.out.trans (hb.mono HB15.out.size))
  clear hb HIU HB15
  go_wp2_with fail
  refine (HOM2.out w16 (HBW.out _ HB16.out)).mono ?_
  rintro e w17 ⟨u17, rfl, ho, -, hb⟩
  have HB17 := hid (HB16.out.trans (hb.mono HB16.out.size))
  have HM17 := hid (mr_own ho hb)
  obtain ⟨a17, c17, hu17⟩ := HM17.out.sl
  subst hu17
  clear ho hb
  go_wp2_with fail
  refine (HOM3.out w17 (HBW.out _ HB17.out)).mono ?_
  rintro e w18 ⟨u18, rfl, ho, -, hb⟩
  have HB18 := hid (HB17.out.trans (hb.mono HB17.out.size))
  have HM18 := hid (mr_own ho hb)
  obtain ⟨a18, c18, hu18⟩ := HM18.out.sl
  subst hu18
  have HM17b := hid (HM17.out.ms.below hb)
  clear ho hb
  go_wp2_with fail
  refine (HUN.out w18 _ _ HB18.out HM17b.out HM18.out.ms).mono ?_
  rintro e w19 ⟨rfl, hb⟩
  have HB19 := hid (HB18.out.trans (hb.mono HB18.out.size))
  clear hb HUN HB16 HB17 HB18 HM17 HM17b HM18
  go_wp2_with fail
  refine (HOM2.out w19 (HBW.out _ HB19.out)).mono ?_
  rintro e w20 ⟨u20, rfl, ho, -, hb⟩
  have HB20 := hid (HB19.out.trans (hb.mono HB19.out.size))
  have HM20 := hid (mr_own ho hb)
  obtain ⟨a20, c20, hu20⟩ := HM20.out.sl
  subst hu20
  clear ho hb
  go_wp2_with fail
  refine (HOM3.out w20 (HBW.out _ HB20.out)).mono ?_
  rintro e w21 ⟨u21, rfl, ho, -, hb⟩
  have HB21 := hid (HB20.out.trans (hb.mono HB20.out.size))
  have HM21 := hid (mr_own ho hb)
  obtain ⟨a21, c21, hu21⟩ := HM21.out.sl
  subst hu21
  have HM20b := hid (HM20.out.ms.below hb)
  clear ho hb
  go_wp2_with fail
  refine (HJN.out w21 _ _ HB21.out HM20b.out HM21.out.ms HM20.out.em HM21.out.em).mono ?_
  rintro e w22 ⟨jv, E, rfl, -, hj, hm⟩
  have hEJ := HJE.out E hj
  subst hEJ
  have HB22 := hid (HB21.out.trans (hm.1.mono HB21.out.size))
  have HMJ := hid hm.ms
  obtain ⟨ja, jc, hjv⟩ := hm.sl
  subst hjv
  clear hj hm HJN HB19 HB20 HB21 HM20 HM20b HM21
  go_wp2_with fail
  refine (HJO.out w22 (HBW.out _ HB22.out)).mono ?_
  rintro e w23 ⟨ka, kc, rfl, hm⟩
  have HB23 := hid (HB22.out.trans (hm.1.mono HB22.out.size))
  have HSA := hid (sameM_any E _ _ w23 (by have := HJL.out; omega) (HMJ.out.below hm.1) hm.ms)
  clear hm HJO
  go_wp2_with fail
  refine HSA.out.mono ?_
  rintro e w24 ⟨rfl, hb⟩
  have HB24 := hid (HBW.out _ (HB23.out.trans (hb.mono HB23.out.size)))
  clear hb
  go_wp2_with fail
  go_ret
  exact ⟨rfl, HB24.out⟩
set_option maxRecDepth 100000 in
set_option maxHeartbeats 2000000 in
theorem mt_long (Q0 : List Raw) (L : List Ent) (ra rb rs : List Bm) (v u s t : Value) (A : Nat → Addr) (m : Int) (w : World) (S : Te w A m) (I : Ixs w v Q0 L) (hr : MsAt w u ra) (hr2 : MsAt w s rb) (hr3 : MsAt w t rs) (hok : okI L = false) :
    Calls Tryz.prog 3 #[v, u, s, t] w fun e w' => e = .returned (.bool true) ∧ Below w.heap.size w w' := by
  obtain ⟨a0, c0, hv0, -⟩ := id I.es
  subst hv0
  obtain ⟨aa, ac, hu0, -⟩ := id hr
  subst hu0
  obtain ⟨ba, bc, hs0, -⟩ := id hr2
  subst hs0
  obtain ⟨ta, tc, ht0, -⟩ := id hr3
  subst ht0
  have HIN := hid (built_any A m w S)
  have HLO := hid (fun W (h : Below w.heap.size w W) => longI_any Q0 L _ W (I.below h))
  rw [hok] at HLO
  clear S I hok hr hr2 hr3
  go_enter Tryz.func3, Tryz.ntmps3
  go_wp2_with fail
  refine HIN.out.mono ?_
  rintro e w1 ⟨rfl, hb⟩
  have HB1 := hid hb
  clear hb
  go_wp2_with fail
  refine (HLO.out w1 HB1.out).mono ?_
  rintro e w2 ⟨rfl, hb⟩
  have HB2 := hid (HB1.out.trans (hb.mono HB1.out.size))
  clear hb
  go_wp2_with fail
  go_ret
  exact ⟨rfl, HB2.out⟩
set_option maxRecDepth 100000 in
set_option maxHeartbeats 4000000 in
theorem mt_long2 (Q0 : List Raw) (L : List Ent) (ra rb rs : List Bm) (v u s t : Value) (A : Nat → Addr) (m : Int) (w : World) (x y z : Int) (S : Te w A m) (I : Ixs w v Q0 L) (hr : MsAt w u ra) (hr2 : MsAt w s rb) (hr3 : MsAt w t rs) (hok : okI L = true) (hx : (if okLN 15 ra then (0 : Int) else 1) = x) (hy : (if okLN 15 rb then (0 : Int) else 1) = y) (hz : (if okLN 15 rs then (0 : Int) else 1) = z)
    (hxyz : (x = 1 ∧ y = 0 ∧ z = 0) ∨ (x = 0 ∧ y = 1 ∧ z = 0) ∨ (x = 0 ∧ y = 0 ∧ z = 1) ∨ (x = 1 ∧ y = 1 ∧ z = 0) ∨ (x = 1 ∧ y = 0 ∧ z = 1) ∨ (x = 0 ∧ y = 1 ∧ z = 1) ∨ (x = 1 ∧ y = 1 ∧ z = 1)) :
    Calls Tryz.prog 3 #[v, u, s, t] w fun e w' => e = .returned (.bool true) ∧ Below w.heap.size w w' := by
  obtain ⟨a0, c0, hv0, -⟩ := id I.es
  subst hv0
  obtain ⟨aa, ac, hu0, -⟩ := id hr
  subst hu0
  obtain ⟨ba, bc, hs0, -⟩ := id hr2
  subst hs0
  obtain ⟨ta, tc, ht0, -⟩ := id hr3
  subst ht0
  have HIN := hid (built_any A m w S)
  have HLO := hid (fun W (h : Below w.heap.size w W) => longI_any Q0 L _ W (I.below h))
  rw [if_pos hok] at HLO
  have HLM := hid (fun W (h : Below w.heap.size w W) => longN_any 15 (by decide) ra _ W (hr.below h))
  rw [hx] at HLM
  have HLM2 := hid (fun W (h : Below w.heap.size w W) => longN_any 15 (by decide) rb _ W (hr2.below h))
  rw [hy] at HLM2
  have HLM3 := hid (fun W (h : Below w.heap.size w W) => longN_any 15 (by decide) rs _ W (hr3.below h))
  rw [hz] at HLM3
  clear S I hok hr hr2 hr3 hx hy hz
  rcases hxyz with ⟨rfl, rfl, rfl⟩ | ⟨rfl, rfl, rfl⟩ | ⟨rfl, rfl, rfl⟩ | ⟨rfl, rfl, rfl⟩ | ⟨rfl, rfl, rfl⟩ | ⟨rfl, rfl, rfl⟩ | ⟨rfl, rfl, rfl⟩
  all_goals
    go_enter Tryz.func3, Tryz.ntmps3
    go_wp2_with fail
    refine HIN.out.mono ?_
    rintro e w1 ⟨rfl, hb⟩
    have HB1 := hid hb
    clear hb
    go_wp2_with fail
    refine (HLO.out w1 HB1.out).mono ?_
    rintro e w2 ⟨rfl, hb⟩
    have HB2 := hid (HB1.out.trans (hb.mono HB1.out.size))
    clear hb
    go_wp2_with fail
    refine (HLM.out w2 HB2.out).mono ?_
    rintro e w3 ⟨rfl, rfl⟩
    go_wp2_with fail
    refine (HLM2.out w3 HB2.out).mono ?_
    rintro e w4 ⟨rfl, rfl⟩
    go_wp2_with fail
    refine (HLM3.out w4 HB2.out).mono ?_
    rintro e w5 ⟨rfl, rfl⟩
    go_wp2_with fail
    go_ret
    exact ⟨rfl, HB2.out⟩
theorem mvsTells_any (Q0 : List Raw) (L : List Ent) (ra rb rs : List Bm) (v u s t : Value) (A : Nat → Addr) (m : Int) (w : World) (S : Te w A m) (N : Er.Sen w A) (I : Ixs w v Q0 L) (em : EmI Q0 L) (hr : MsAt w u ra) (her : Em u ra) (hr2 : MsAt w s rb) (her2 : Em s rb) (hr3 : MsAt w t rs) (her3 : Em t rs) :
    Calls Tryz.prog 3 #[v, u, s, t] w fun e w' => e = .returned (.bool true) ∧ Below w.heap.size w w' := by
  cases hok : okI L with
  | false => exact mt_long Q0 L ra rb rs v u s t A m w S I hr hr2 hr3 hok
  | true =>
    cases hrk : okLN 15 ra <;> cases hrk2 : okLN 15 rb <;> cases hrk3 : okLN 15 rs
    case true.true.true => exact mt_main Q0 L ra rb rs v u s t A m w S N I em hr her hr2 her2 hr3 her3 hok hrk hrk2 hrk3
    all_goals exact mt_long2 Q0 L ra rb rs v u s t A m w _ _ _ S I hr hr2 hr3 hok rfl rfl rfl (by rw [hrk, hrk2, hrk3]; decide)
end Ve
end Go.Proofs.YtoaobngpdaidoaaGreatDoor

/-
  An index and a row of modules that a caller hands in, opened.
-/
namespace Go.Proofs.YtoaobngpdaidoaaGreatDoor
open Go.ChangeShapes Go.WideShapes Go.ChangeAt Go.RowKit Go.ChangeMaps Go.Joins
namespace Ve

theorem oCellsMod : Tryz.prog.cellsOf 46 = 2 := by kernel_rfl
theorem oCellsStr : Tryz.prog.cellsOf 9 = 1 := by kernel_rfl
theorem oCellsEnt : Tryz.prog.cellsOf 56 = 5 := by kernel_rfl
theorem oCellsMods : Tryz.prog.cellsOf 23 = 1 := by kernel_rfl
theorem oCellsSstr : Tryz.prog.cellsOf 54 = 1 := by kernel_rfl
theorem oCellsBool : Tryz.prog.cellsOf 4 = 1 := by kernel_rfl
/-- The bytes of a string; none of what is no string. -/
def strOf : Value → ByteArray
  | .string s => s
  | _ => ⟨#[]⟩
set_option maxRecDepth 100000 in
/-- A row of modules, opened. -/
theorem open_ms {H : Type} {enc : TypeId × Value → H} {w : World} {base fuel : Nat} {held : Bool} {v : Value} {x : DataW H × List MemPlace}
    (h : DataW.trod enc Tryz.prog w base (fun _ => true) held fuel 23 [v] = some x) : ∃ L, MsAt w v L ∧ Em v L := by
  rcases Go.Deep.open_slice_pairs Tryz.underlying23 Tryz.underlying46 oCellsMod rfl rfl oCellsStr oCellsStr h with ⟨hcs, _⟩ | ⟨a, len, cap, m, n, V0, V1, D0, D1, P0, P1, hcs, _, hl, _, hm, _, hx⟩
  · simp only [List.cons.injEq, and_true] at hcs
    subst hcs
    exact ⟨[], ⟨none, 0, rfl, Nat.le_refl _, fun h => absurd rfl h⟩, fun a c e _ => Or.inl e.symm⟩
  · simp only [List.cons.injEq, and_true] at hcs
    subst hcs
    simp only [if_true] at hm
    subst hm
    have hlen : ((List.range len).map fun i => (strOf (V0 i), strOf (V1 i))).length = len := by simp
    refine ⟨(List.range len).map fun i => (strOf (V0 i), strOf (V1 i)), ⟨some a, m, by rw [hlen], by rw [hlen]; exact hl, fun hne => ?_⟩, fun a' c e h0 => ?_⟩
    · have h0l : 0 < len := by rw [← hlen]; exact List.length_pos_iff.2 hne
      obtain ⟨b, off, spot⟩ := a
      have hspot : spot = none := by simpa [Addr.add] using World.cell?_spot (hx 0 (by omega)).1
      subst hspot
      refine ⟨b, off, rfl, fun j hj => ?_⟩
      have hj2 : j < len := by rw [← hlen]; exact hj
      obtain ⟨g0, g1, t0, t1⟩ := hx j (by omega)
      obtain ⟨s0, e0, _, _⟩ := DataW.trod_string Tryz.underlying9 t0
      obtain ⟨s1, e1, _, _⟩ := DataW.trod_string Tryz.underlying9 t1
      simp only [List.cons.injEq, and_true] at e0 e1
      rw [e0] at g0
      rw [e1] at g1
      simp only [List.getElem_map, List.getElem_range, e0, e1]
      rw [Addr.add_lit] at g0 g1
      exact ⟨g0, g1⟩
    · have hz : len = 0 := by rw [← hlen, h0]; rfl
      rw [hlen] at e
      subst hz
      right
      injection e with e1 e2 e3
      exact ⟨a, by rw [← e1]⟩
set_option maxRecDepth 100000 in
/-- A row of texts, opened. -/
theorem open_tx {H : Type} {enc : TypeId × Value → H} {w : World} {base fuel : Nat} {held : Bool} {v : Value} {x : DataW H × List MemPlace}
    (h : DataW.trod enc Tryz.prog w base (fun _ => true) held fuel 54 [v] = some x) : ∃ X, TxAt w v X ∧ EmT v X := by
  rcases open_strings Tryz.underlying54 Tryz.underlying9 oCellsStr h with ⟨hcs, _⟩ | ⟨a, len, cap, ss, hcs, _, hl, _, hm, _, hx, _⟩
  · simp only [List.cons.injEq, and_true] at hcs
    subst hcs
    exact ⟨[], ⟨none, 0, rfl, Nat.le_refl _, fun h => absurd rfl h⟩, fun a c e _ => Or.inl e.symm⟩
  · simp only [List.cons.injEq, and_true] at hcs
    subst hcs
    simp only [if_true] at hm
    have hlen : (ss.take len).length = len := by rw [List.length_take]; omega
    refine ⟨ss.take len, ⟨some a, cap, by rw [hlen], by rw [hlen]; exact hl, fun hne => ?_⟩, fun a' c e h0 => ?_⟩
    · have h0l : 0 < len := by rw [← hlen]; exact List.length_pos_iff.2 hne
      obtain ⟨b, off, spot⟩ := a
      have hspot : spot = none := by simpa [Addr.add] using World.cell?_spot (hx 0 (by omega))
      subst hspot
      refine ⟨b, off, rfl, fun j hj => ?_⟩
      have hj2 : j < len := by rw [← hlen]; exact hj
      have g := hx j (by omega)
      rw [Addr.add_lit, List.getD_eq_getElem?_getD, List.getElem?_eq_getElem (by omega)] at g
      rw [List.getElem_take]
      exact g
    · have hz : len = 0 := by rw [← hlen, h0]; rfl
      rw [hlen] at e
      subst hz
      right
      injection e with e1 e2 e3
      exact ⟨a, by rw [← e1]⟩
set_option maxRecDepth 100000 in
/-- An entry, opened. -/
theorem open_ent {H : Type} {enc : TypeId × Value → H} {w : World} {base fuel : Nat} {held : Bool} {cs : List Value} {x : DataW H × List MemPlace}
    (h : DataW.trod enc Tryz.prog w base (fun _ => true) held fuel 56 cs = some x) : ∃ (r : Raw) (e : Ent), cs = rowR r ∧ slR r ∧ RawOk w r e ∧ Em r.2.1 e.2.1 ∧ EmT r.2.2.1 e.2.2.1 := by
  obtain ⟨y0, y1, y2, y3, n, _, hl, h0, h1, h2, h3⟩ := trod_struct4 Tryz.underlying56 h
  rw [oCellsEnt] at hl
  match cs, hl with
  | [c0, c1, c2, c3, c4], _ =>
    simp only [oCellsMod, oCellsMods, oCellsSstr, oCellsBool, List.drop, List.take] at h0 h1 h2 h3
    obtain ⟨z0, z1, n2, _, _, k0, k1⟩ := trod_struct2 Tryz.underlying46 h0
    simp only [oCellsStr, List.drop, List.take] at k0 k1
    obtain ⟨s0, e0, _, _⟩ := DataW.trod_string Tryz.underlying9 k0
    obtain ⟨s1, e1, _, _⟩ := DataW.trod_string Tryz.underlying9 k1
    obtain ⟨R, hR, hER⟩ := open_ms h1
    obtain ⟨X, hX, hEX⟩ := open_tx h2
    obtain ⟨b, e4, _⟩ := DataW.trod_bool Tryz.underlying4 h3
    simp only [List.cons.injEq, and_true] at e0 e1 e4
    subst e0 e1 e4
    refine ⟨((s0, s1), c2, c3, b), ((s0, s1), R, X, b), rfl, ⟨?_, ?_⟩, ⟨rfl, hR, hX, rfl⟩, hER, hEX⟩
    · obtain ⟨a, c, e, _⟩ := hR; exact ⟨_, _, _, e⟩
    · obtain ⟨a, c, e, _⟩ := hX; exact ⟨_, _, _, e⟩
set_option maxRecDepth 100000 in
/-- An index, opened. -/
theorem open_ix {H : Type} {enc : TypeId × Value → H} {w : World} {base fuel : Nat} {held : Bool} {v : Value} {x : DataW H × List MemPlace}
    (h : DataW.trod enc Tryz.prog w base (fun _ => true) held fuel 22 [v] = some x) : ∃ Q L, Ixs w v Q L ∧ EmI Q L := by
  rcases Go.Deep.open_slice Tryz.underlying22 h with ⟨hcs, _⟩ | ⟨a, len, cap, m, n, D, Pl, hcs, _, hl, _, hm, _, hx⟩
  · simp only [List.cons.injEq, and_true] at hcs
    subst hcs
    exact ⟨[], [], ⟨⟨none, 0, rfl, Nat.le_refl _, fun r hr => (by cases hr), fun h => absurd rfl h⟩, rfl, fun j h1 => absurd h1 (Nat.not_lt_zero _)⟩, fun j h1 => absurd h1 (Nat.not_lt_zero _)⟩
  · simp only [List.cons.injEq, and_true] at hcs
    subst hcs
    simp only [if_true] at hm
    subst hm
    have each : ∀ i, i < len → ∃ q : Raw × Ent, (∀ c (hc : c < 5), w.cell? (a.add (i * 5 + c)) = (rowR q.1)[c]?) ∧ slR q.1 ∧ RawOk w q.1 q.2 ∧ Em q.1.2.1 q.2.2.1 ∧ EmT q.1.2.2.1 q.2.2.2.1 := fun i hi => by
      obtain ⟨cs', h1, h2⟩ := hx i (by omega)
      obtain ⟨r, e, hcs, k1, k2, k3, k4⟩ := open_ent h2
      rw [oCellsEnt] at h1
      obtain ⟨_, hlen, hcell⟩ := World.cells?_some h1
      refine ⟨(r, e), fun c hc => ?_, k1, k2, k3, k4⟩
      have := hcell c (by omega)
      rw [Go.Deep.add_add] at this
      rw [this, hcs]
    obtain ⟨q, hq⟩ := Go.Deep.choose_lt each
    have hlq : ((List.range len).map fun i => (q i).1).length = len := by simp
    have hll : ((List.range len).map fun i => (q i).2).length = len := by simp
    refine ⟨(List.range len).map fun i => (q i).1, (List.range len).map fun i => (q i).2, ⟨⟨some a, m, by rw [hlq], by rw [hlq]; exact hl, fun r hr => ?_, fun hne => ?_⟩, by rw [hlq, hll], fun j h1 h2 => ?_⟩, fun j h1 h2 => ?_⟩
    · obtain ⟨i, hi, rfl⟩ := List.mem_map.1 hr
      exact (hq i (List.mem_range.1 hi)).2.1
    · have h0l : 0 < len := by rw [← hlq]; exact List.length_pos_iff.2 hne
      obtain ⟨b, off, spot⟩ := a
      have g0 := (hq 0 h0l).1 0 (by omega)
      have hspot : spot = none := by
        have : ∃ u, World.cell? w ((⟨b, off, spot⟩ : Addr).add (0 * 5 + 0)) = some u := ⟨_, g0⟩
        obtain ⟨u, hu⟩ := this
        simpa [Addr.add] using World.cell?_spot hu
      subst hspot
      refine ⟨b, off, rfl, fun j hj => ?_⟩
      have hj2 : j < len := by rw [← hlq]; exact hj
      have g := (hq j hj2).1
      simp only [List.getElem_map, List.getElem_range]
      refine ⟨?_, ?_, ?_, ?_, ?_⟩
      · have := g 0 (by omega); rw [Addr.add_lit] at this; exact this
      · have := g 1 (by omega); rw [Addr.add_lit] at this; exact this
      · have := g 2 (by omega); rw [Addr.add_lit] at this; exact this
      · have := g 3 (by omega); rw [Addr.add_lit] at this; exact this
      · have := g 4 (by omega); rw [Addr.add_lit] at this; exact this
    · have hj2 : j < len := by rw [← hlq]; exact h1
      simp only [List.getElem_map, List.getElem_range]
      exact (hq j hj2).2.2.1
    · have hj2 : j < len := by rw [← hlq]; exact h1
      simp only [List.getElem_map, List.getElem_range]
      exact (hq j hj2).2.2.2
end Ve
end Go.Proofs.YtoaobngpdaidoaaGreatDoor

/-
  The plain wrap with a condition, the world's shape kept; variables laid over a world.
-/
namespace Go.Proofs.YtoaobngpdaidoaaGreatDoor
open Go.ChangeShapes Go.WideShapes Go.ChangeAt Go.RowKit
namespace Ve

/-- The plain wrap with a condition, the world's shape kept. -/
theorem wrap_and_shaped {H : Type} {enc : TypeId × Value → H} {a : Assume} {C : Checked} {os : Go.Os} {f : FuncId} {fn : Func} {s : ChangeSpec} {conds : List PathCond} {apart fresh handsOn again : Bool} {X : World → Array Value → Prop}
    (hX : ∀ (w w' : World) (args : Array Value), w.heap = w'.heap → X w args → X w' args)
    (own : ownKnob C.prog.godebug = none) (started : os.Started) (noInit : C.prog.inits.idxOf? f = none) (hfn : C.prog.funcs[f]? = some fn)
    (witness : ∃ (w : World) (tape : Tape) (i : Input), w.os = os ∧ (w.forCall tape i).Shaped C.prog ∧ i.vars = [] ∧ Input.okWide C.prog (w.forCall tape i) .any w.heap.size f i ∧
      ((s.pre enc C.prog fn conds apart (w.forCall tape i).memory i.args ∧ X (w.forCall tape i).memory i.args) ∧ sizedMet enc C.prog fn (OpenSpec.ofChange s) apart (w.forCall tape i).memory i.args) ∧ a.holds C.prog (lone (Frame.enter C.prog f i.args .normal) [] (w.forCall tape i)))
    (contract : ∀ (W : World) (base : Nat) (args : Array Value) (ds gs : List (DataW H)) (before : List MemPlace),
      (∀ (j : Nat) t v, fn.params[j]? = some t → args[j]? = some v → Value.okWide C.prog W .any base t v) →
      DataW.Whole enc C.prog fn.params.toList s.vars apart W args.toList ds gs before → X W args → W.ShapedOpen C.prog →
      Calls C.prog f args W fun e W' => ∃ v, e = .returned v ∧ s.post enc C.prog fn apart fresh handsOn again W args v W') :
    ReturnsInHanded a C os f .any (fun w args => (s.pre enc C.prog fn conds apart w args ∧ X w args) ∧ sizedMet enc C.prog fn (OpenSpec.ofChange s) apart w args) (s.post enc C.prog fn apart fresh handsOn again) := by
  refine returnsInHanded_of_calls own started noInit witness ?_
  intro w tape i _ hsh _ hok hpre _
  obtain ⟨_, _, _, fn', hfn', _, _, _, _, hval⟩ := hok
  have e : fn' = fn := Option.some.inj (hfn'.symm.trans hfn)
  subst e
  obtain ⟨⟨⟨ds, gs, before, hw, _⟩, hx⟩, _⟩ := hpre
  have hw' := DataW.Whole.of_heap (w' := w.forCall tape i) (by rfl) hw
  refine (contract (w.forCall tape i) w.heap.size i.args ds gs before hval hw' (hX _ _ _ (by rfl) hx) hsh).mono fun e W' ⟨v, he, hp⟩ => ?_
  subst he
  exact ChangeSpec.post_blind hp

/-- All that is listed, laid over a world. -/
theorem laidMet_over {P : Program} {w0 : World} {laid : List (String × DataW Unit)} (args : Array Value)
    (hf : w0.layFits P laid [] = true) (hi : w0.layIfaces P laid (w0.layVars P laid) = true) :
    laidMet P laid ((w0.layVars P laid).forCall (fun _ _ => 0) ⟨#[], args, []⟩).memory := by
  have e1 : (laid.filter fun x => (laid.map (·.1)).contains x.1) = laid := List.filter_eq_self.2 fun x hx => List.contains_iff_mem.2 (List.mem_map.2 ⟨x, hx, rfl⟩)
  have e2 : (laid.filter fun x => !(laid.map (·.1)).contains x.1) = [] := List.filter_eq_nil_iff.2 fun x hx => by rw [List.contains_iff_mem.2 (List.mem_map.2 ⟨x, hx, rfl⟩)]; simp
  have h : laidMet P laid (w0.layVars P laid) := laidMet_layVars (w0 := w0) (laid.map (·.1)) [] (by rw [e1]) (by rw [e1]; exact hf) (by rw [e1]; exact hi) (by rw [e2]; exact LaidIn.none)
  exact h.of_heap (by simp [World.memory, World.forCall, Input.heap])
end Ve
end Go.Proofs.YtoaobngpdaidoaaGreatDoor

/-
  What a list of laid sentinels gives a walk, however long the list: each variable's cell, each pointee's block, and that no two are one.
-/
namespace Go.Proofs.YtoaobngpdaidoaaGreatDoor
namespace Er
open Go

theorem sens_rest {P : Program} {nm : String} {W : World} {ti tp te ts : TypeId} {ms : Array (String × TypeId)} {f : Field}
    (hi : P.underlying ti = some (.interface ms)) (hrow : ∀ u, P.typeName? 3 u = some nm → u = tp)
    (hp : P.underlying tp = some (.pointer te)) (he : P.underlying te = some (.struct #[f])) (hft : f.type = ts) (hfo : f.offset = 0) (hs : P.underlying ts = some .string) (hc : P.cellsOf te = 1) (hcs : P.cellsOf ts = 1) (rest : List (String × DataW Unit)) :
    ∀ (ns : List (String × Nat × List UInt8)) (ps : List MemPlace),
      DataW.LaidVars P W ((ns.map fun x => (x.1, DataW.iface nm (.ptr (.agg [.lit (.string x.2.2)])))) ++ rest) ps →
      (∀ x, x ∈ ns → P.globalNamed x.1 = some x.2.1 ∧ (P.globals[x.2.1]?).map (·.type) = some ti) →
      (∀ b off, MemPlace.cell b off ∈ ps → (∃ c t, W.heap[b]? = some (.cells c t (0, 0))) ∧ ∀ u v, W.cell? ⟨b, off, none⟩ = some (.iface u v) → Value.okWide P W .any 0 u v) →
      ∃ al : List Addr, al.length = ns.length ∧ (al.map fun a => MemPlace.cell a.block a.off).Sublist ps ∧
        ∀ (i : Nat) (x : String × Nat × List UInt8) (a : Addr), ns[i]? = some x → al[i]? = some a →
          W.cell? ⟨x.2.1, 0, none⟩ = some (.iface tp (.pointer (some a))) ∧ ∃ c t, W.heap[a.block]? = some (.cells c t (0, 0)) := by
  intro ns
  induction ns with
  | nil =>
    intro ps _ _ _
    exact ⟨[], rfl, List.nil_sublist _, fun i x a h => by simp at h⟩
  | cons n r ih =>
    intro ps hl hg hr
    obtain ⟨g, t, cs, fuel, p, q, hg0, ht0, hv0, hd0, hq, e0⟩ := hl
    obtain ⟨k1, k2⟩ := hg n (List.mem_cons_self)
    obtain rfl := Option.some.inj (k1.symm.trans hg0)
    obtain rfl := Option.some.inj (k2.symm.trans ht0)
    subst e0
    obtain ⟨l0⟩ := cs
    have ok0 : ∀ u v, l0 = [.iface u v] → Value.okWide P W .any 0 u v := fun u v e => by
      subst e
      exact (hr n.2.1 0 (by simp [MemPlace.row])).2 u v (by simpa using World.var?_cell hg0 hv0 0)
    obtain ⟨a0, s0, rfl, hc0, hs0, hz0, rfl⟩ := errorString_of_trod hi hrow hp he hft hfo hs hc hcs hd0 ok0
    obtain ⟨al, hlen, hsub, hall⟩ := ih q hq (fun x hx => hg x (List.mem_cons_of_mem _ hx)) (fun b off hm => hr b off (by simp [hm]))
    refine ⟨a0 :: al, by simp [hlen], ?_, ?_⟩
    · simp only [List.map_cons, MemPlace.row, List.range_one, List.map_nil, Nat.add_zero]
      exact List.Sublist.cons _ (List.Sublist.cons_cons _ hsub)
    · intro i x a hx ha
      cases i with
      | zero =>
        simp only [List.getElem?_cons_zero, Option.some.injEq] at hx ha
        subst hx; subst ha
        exact ⟨by simpa using World.var?_cell hg0 hv0 0, (hr a0.block a0.off (by simp [MemPlace.row])).1⟩
      | succ i =>
        simp only [List.getElem?_cons_succ] at hx ha
        exact hall i x a hx ha

theorem unlike {al : List Addr} {ps : List MemPlace} (hs : (al.map fun a => MemPlace.cell a.block a.off).Sublist ps) (hn : ps.Nodup) {i j : Nat} (hi : i < al.length) (hj : j < al.length) (hij : i ≠ j) : al[i] ≠ al[j] := by
  have h1 : (al.map fun a => MemPlace.cell a.block a.off).Nodup := hs.nodup hn
  intro e
  rw [List.Nodup, List.pairwise_iff_getElem] at h1
  rcases Nat.lt_or_gt_of_ne hij with h | h
  · exact h1 i j (by simpa using hi) (by simpa using hj) h (by simp [e])
  · exact h1 j i (by simpa using hj) (by simpa using hi) h (by simp [e])
end Er
end Go.Proofs.YtoaobngpdaidoaaGreatDoor

/-
  Of a row's laid variables and the world's shape: the ten errors, the type's handle, the library's bound and the table of tens.
-/
namespace Go.Proofs.YtoaobngpdaidoaaGreatDoor
open Go.ChangeShapes Go.WideShapes Go.ChangeAt Go.RowKit
namespace Ve

theorem etName : Tryz.prog.globalNamed "errors.errorType" = some 10 := by kernel_rfl
/-- The name of the handle's own type, off the listed datum. -/
def rtWord : String := match (Rows.laid_errors_errorType : DataW Unit) with | .iface s _ => s | _ => ""
theorem rtName : (Tryz.prog.cutTypes.find? (·.1 == rtWord)).map (·.2) = some 172 := by kernel_rfl
theorem oneRow : ((List.range 319).filter fun t => Tryz.prog.rowNamed t [101, 114, 114, 111, 114]) = [29] := by kernel_rfl
theorem nTypes : Tryz.prog.types.size = 319 := by kernel_rfl
theorem cellsS : Tryz.prog.cellsOf 308 = 1 := by kernel_rfl
theorem cellsStr : Tryz.prog.cellsOf 9 = 1 := by kernel_rfl
theorem star : "*" ++ "errors.errorString" = "*errors.errorString" := by decide
theorem rowS (u : TypeId) (h : Tryz.prog.typeName? 3 u = some "*errors.errorString") : u = 290 :=
  typeName_ptr_named (nm := "errors.errorString") (by rw [star]; kernel_rfl) (by kernel_rfl) (by decide) u (by rw [star]; exact h)
theorem gPt : (Tryz.prog.globals[(14 : Nat)]?).map (·.type) = some 285 := by kernel_rfl
theorem cellsU : Tryz.prog.cellsOf 204 = 1 := by kernel_rfl
theorem cellsPow : Tryz.prog.cellsOf 285 = 20 := by kernel_rfl

/-- The ten, in the order of package api. -/
def tens : List (String × Nat × List UInt8) :=
  [("pewholder/api.ErrText", 2, [112, 101, 119, 104, 111, 108, 100, 101, 114, 58, 32, 116, 101, 120, 116]),
   ("pewholder/api.ErrBound", 3, [112, 101, 119, 104, 111, 108, 100, 101, 114, 58, 32, 98, 111, 117, 110, 100]),
   ("pewholder/api.ErrShape", 4, [112, 101, 119, 104, 111, 108, 100, 101, 114, 58, 32, 115, 104, 97, 112, 101]),
   ("pewholder/api.ErrMajor", 5, [112, 101, 119, 104, 111, 108, 100, 101, 114, 58, 32, 109, 97, 106, 111, 114]),
   ("pewholder/api.ErrNone", 1, [112, 101, 119, 104, 111, 108, 100, 101, 114, 58, 32, 110, 111, 110, 101]),
   ("pewholder/api.ErrExist", 6, [112, 101, 119, 104, 111, 108, 100, 101, 114, 58, 32, 101, 120, 105, 115, 116]),
   ("pewholder/api.ErrFull", 7, [112, 101, 119, 104, 111, 108, 100, 101, 114, 58, 32, 102, 117, 108, 108]),
   ("pewholder/api.ErrOrder", 0, [112, 101, 119, 104, 111, 108, 100, 101, 114, 58, 32, 111, 114, 100, 101, 114]),
   ("pewholder/api.ErrClash", 8, [112, 101, 119, 104, 111, 108, 100, 101, 114, 58, 32, 99, 108, 97, 115, 104]),
   ("pewholder/api.ErrSum", 9, [112, 101, 119, 104, 111, 108, 100, 101, 114, 58, 32, 115, 117, 109])]
theorem tens_named : ∀ x, x ∈ tens → Tryz.prog.globalNamed x.1 = some x.2.1 ∧ (Tryz.prog.globals[x.2.1]?).map (·.type) = some 29 := by
  have h : (tens.all fun x => Tryz.prog.globalNamed x.1 == some x.2.1 && (Tryz.prog.globals[x.2.1]?).map (·.type) == some 29) = true := by kernel_rfl
  intro x hx
  simpa using List.all_eq_true.1 h x hx

/-- Of the laid ten (whatever is laid behind them) and of the type's handle. -/
theorem sen_of {W : World} (rest : List (String × DataW Unit)) (hl : laidMet Tryz.prog ((tens.map fun x => (x.1, DataW.iface "*errors.errorString" (.ptr (.agg [.lit (.string x.2.2)])))) ++ rest) W)
    (hh : handlesMet Tryz.prog [("errors.errorType", Rows.laid_errors_errorType)] W) : ∃ A, Er.Sen W A := by
  obtain ⟨ps, hl, hnd, hrows⟩ := hl
  obtain ⟨name, u, ty, e1, e2, e3, e4, e5⟩ := hh _ (List.mem_singleton.2 rfl)
  have en : name = [101, 114, 114, 111, 114] := (Option.some.inj e1).symm
  subst en
  obtain rfl := Option.some.inj (rtName.symm.trans e2)
  have hm : ty ∈ (List.range 319).filter fun t => Tryz.prog.rowNamed t [101, 114, 114, 111, 114] := List.mem_filter.2 ⟨List.mem_range.2 (by rw [← nTypes]; exact e3), e4⟩
  rw [oneRow] at hm
  obtain rfl := List.mem_singleton.1 hm
  have hhd : typeHandle Tryz.prog 29 = .pointer (some ⟨17, 29, none⟩) := by kernel_rfl
  rw [hhd] at e5
  have het : W.cell? ⟨10, 0, none⟩ = some (.iface 172 (.agg #[.pointer (some ⟨17, 29, none⟩)])) := by simpa using World.var?_cell etName e5 0
  obtain ⟨al, hlen, hsub, hall⟩ := Er.sens_rest Tryz.underlying29 rowS Tryz.underlying290 Tryz.underlying308 rfl rfl Tryz.underlying9 cellsS cellsStr rest tens ps hl tens_named hrows
  have hten : al.length = 10 := hlen
  refine ⟨fun k => al.getD k ⟨0, 0, none⟩, ?_⟩
  have get : ∀ k, k < 10 → al[k]? = some (al.getD k ⟨0, 0, none⟩) := fun k hk => by
    rw [List.getD_eq_getElem?_getD, List.getElem?_eq_getElem (by omega)]; rfl
  refine ⟨(hall 0 _ _ rfl (get 0 (by omega))).1, (hall 1 _ _ rfl (get 1 (by omega))).1, (hall 2 _ _ rfl (get 2 (by omega))).1, (hall 3 _ _ rfl (get 3 (by omega))).1, (hall 4 _ _ rfl (get 4 (by omega))).1, (hall 5 _ _ rfl (get 5 (by omega))).1, (hall 6 _ _ rfl (get 6 (by omega))).1, (hall 7 _ _ rfl (get 7 (by omega))).1, (hall 8 _ _ rfl (get 8 (by omega))).1, (hall 9 _ _ rfl (get 9 (by omega))).1, het, ?_, ?_⟩
  · intro k hk
    have hx : ∃ x, tens[k]? = some x := ⟨tens[k]'hk, List.getElem?_eq_getElem hk⟩
    obtain ⟨x, hx⟩ := hx
    exact (hall k x _ hx (get k hk)).2
  · intro i j hi hj hij
    have := Er.unlike hsub hnd (i := i) (j := j) (by omega) (by omega) hij
    intro e
    apply this
    have hi' := get i hi
    have hj' := get j hj
    rw [List.getElem?_eq_getElem (by omega)] at hi' hj'
    rw [Option.some.inj hi', Option.some.inj hj']
    exact e
/-- The library's bound, off the world's shape. -/
theorem ml_of {W : World} (hsh : W.ShapedOpen Tryz.prog) : ∃ m, W.cell? ⟨11, 0, none⟩ = some (.int .i64 m) :=
  cell_of_shapedOpen_int (P := Tryz.prog) (g := 11) (t := 3) (zero := #[.int .i64 0]) hsh (of_decide_eq_true (by kernel_rfl)) (by kernel_rfl) rfl (by kernel_rfl) (by kernel_rfl) Tryz.underlying3
end Ve
end Go.Proofs.YtoaobngpdaidoaaGreatDoor
