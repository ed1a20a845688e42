/-
  QuA
-/
import Derived.Test.YtnkgjddkdikikaaGreatDoorPq2
import Derived.Test.YtnkgjddkdikikaaGreatDoorPq3
import Derived.Test.YtnkgjddkdikikaaGreatDoorPq4
import Derived.Test.YtnkgjddkdikikaaGreatDoorPq7
import Derived.Test.YtnkgjddkdikikaaGreatDoorPq10
import Derived.Test.YtnkgjddkdikikaaGreatDoorPq13
import Derived.Test.YtnkgjddkdikikaaGreatDoorPq23
import Derived.Test.YtnkgjddkdikikaaGreatDoorPq27
import Derived.Test.YtnkgjddkdikikaaGreatDoorPq29
import Derived.Test.YtnkgjddkdikikaaGreatDoorPq31
import Derived.Test.YtnkgjddkdikikaaGreatDoorPq18
import Derived.Test.YtnkgjddkdikikaaGreatDoorPq5
import Derived.Test.YtnkgjddkdikikaaGreatDoorPq12
import Derived.Test.YtnkgjddkdikikaaGreatDoorPq37
import Derived.Test.YtnkgjddkdikikaaGreatDoorPq32
import Derived.Test.YtnkgjddkdikikaaGreatDoorPq8
import Derived.Test.YtnkgjddkdikikaaGreatDoorPq61
import Derived.Test.YtnkgjddkdikikaaGreatDoorPq62
import Derived.Test.YtnkgjddkdikikaaGreatDoorPq24
import Derived.Test.YtnkgjddkdikikaaGreatDoorPq66
namespace Go.Proofs.YtnkgjddkdikikaaGreatDoor
open Go.RowKit Go.Maps
namespace Ve
theorem pick_any {T : World → Prop} (PC : PickC T) {Q : List Raw} {L : List Ent} {t q now : ByteArray} {u : Value} {A : Nat → Addr} {m : Int} {W : World} {X : List ByteArray} (hn : L.length ≤ 200) (sh : ∀ e, e ∈ L → ShE e) (hz : shortQ Q) (ht : t.size ≤ 100) (hq : q.size ≤ 100) (hw : now.size ≤ 100) (S : Te W A m) (hT : T W) (I : Ixs W u Q L)
    (hK : Kept (verL (ofP t Q)) (verL (ofP t Q)).length X) (hl : look Q L q) (hv : ∀ x, x ∈ X → verErr x.data.toList = 0) :
    Calls Tryz.prog 33 #[u, .string t, .string q, .string now] W fun e w' => ((∃ Ty a, e = .returned (.tuple #[.string ⟨#[]⟩, .iface Ty (.pointer (some a))]) ∧ ∀ x, x ∈ X → okQ q now x = false) ∨ (∃ x, e = .returned (.tuple #[.string (if q = bUpgrade then maxB x now else x), .nilIface]) ∧ x ∈ X ∧ okQ q now x = true)) ∧ Below W.heap.size W w' := by
  refine (PC Q L t q now u A m W hn sh hz ht hq hw S hT I).mono ?_
  rintro e w' ⟨X', y, hK', rfl, he, hb⟩
  have := kept_one (hK' hl) hK
  subst this
  rcases pk_look (t := t) (now := now) hl hv with ⟨h1, h2, h3⟩ | ⟨x, h1, h2, h3, h4⟩
  · rw [h2] at he
    rcases he.kind with ⟨h, _⟩ | ⟨_, Ty, a, rfl⟩
    · cases h
    · exact ⟨Or.inl ⟨Ty, a, by rw [h3]; rfl, h1⟩, hb⟩
  · rw [h3] at he
    have he : y = .nilIface := he
    subst he
    exact ⟨Or.inr ⟨x, by rw [h4], h1, h2⟩, hb⟩
theorem wd_latest : isWd bLatest = true := by unfold isWd; simp
theorem wd_upgrade : isWd bUpgrade = true := by unfold isWd; simp
theorem wd_patch : isWd bPatch = true := by unfold isWd; simp
theorem bn1 : ¬ bLatest = bNone := fun e => absurd (congrArg (fun m : ByteArray => m.data) e) (by decide)
theorem bn2 : ¬ bUpgrade = bNone := fun e => absurd (congrArg (fun m : ByteArray => m.data) e) (by decide)
theorem bn3 : ¬ bPatch = bNone := fun e => absurd (congrArg (fun m : ByteArray => m.data) e) (by decide)
theorem bu1 : ¬ bLatest = bUpgrade := fun e => absurd (congrArg (fun m : ByteArray => m.data) e) (by decide)
theorem bu3 : ¬ bPatch = bUpgrade := fun e => absurd (congrArg (fun m : ByteArray => m.data) e) (by decide)
theorem bp1 : ¬ bLatest = bPatch := fun e => absurd (congrArg (fun m : ByteArray => m.data) e) (by decide)
theorem bp2 : ¬ bUpgrade = bPatch := fun e => absurd (congrArg (fun m : ByteArray => m.data) e) (by decide)
theorem maxB_no {x now : ByteArray} (hx : verErr x.data.toList = 0) (hn : verErr now.data.toList = 0) : lessB (maxB x now).data.toList now.data.toList = false := by
  unfold maxB
  rw [if_pos hx, if_pos hn]
  split
  · unfold lessB
    rw [(ordV_zero hn hn).2 rfl]
    simp
  · rename_i h
    unfold lessB
    rw [decide_eq_false h]
    simp
theorem maxB_size {x now : ByteArray} (hx : x.size < 999999) (hn : now.size < 999999) : (maxB x now).size < 999999 := by
  unfold maxB
  repeat' split
  all_goals first | exact hx | exact hn | decide
structure Qh (w W : World) (u : Value) (X : List ByteArray) (wb : Nat) (x0 : ByteArray) : Prop where
  bl : Below w.heap.size w W
  tx : TxAt W u X
  wd : W.heap[wb]? = some (.cells #[.string ⟨#[108, 97, 116, 101, 115, 116]⟩, .string ⟨#[117, 112, 103, 114, 97, 100, 101]⟩, .string ⟨#[112, 97, 116, 99, 104]⟩, .string (⟨#[60]⟩ ++ x0), .string (⟨#[60, 61]⟩ ++ x0), .string (⟨#[62]⟩ ++ x0), .string (⟨#[62, 61]⟩ ++ x0), .string x0] 9 (0, 0))
theorem Qh.below {w W W' : World} {u : Value} {X : List ByteArray} {wb : Nat} {x0 : ByteArray} (h : Qh w W u X wb x0) (hb : Below W.heap.size W W') : Qh w W' u X wb x0 :=
  ⟨h.bl.trans (hb.mono h.bl.size), h.tx.below hb, (hb.block _ (lt_of_blk h.wd)).trans h.wd⟩
theorem vchk_ok {A : Nat → Addr} {m : Int} {W : World} {s : ByteArray} (hs : s.size < 999999) (S : Te W A m) (h : verErr s.data.toList = 0) : Calls Tryz.prog 32 #[.string s] W fun e w' => e = .returned .nilIface ∧ Below W.heap.size W w' := by
  refine (vcheck_is s (A 0) (A 1) m W (by omega) S.vs).mono ?_
  rintro e w' ⟨rfl, hb⟩
  rw [h]
  exact ⟨rfl, hb⟩
theorem vchk_no {A : Nat → Addr} {m : Int} {W : World} {s : ByteArray} (hs : s.size < 999999) (S : Te W A m) (h : ¬ verErr s.data.toList = 0) : Calls Tryz.prog 32 #[.string s] W fun e w' => ∃ Ty a, e = .returned (.iface Ty (.pointer (some a))) ∧ Below W.heap.size W w' := by
  refine (vcheck_is s (A 0) (A 1) m W (by omega) S.vs).mono ?_
  rintro e w' ⟨rfl, hb⟩
  rw [errA_V A _ (verErr_err s.data.toList), errA_if A h]
  exact ⟨_, _, rfl, hb⟩
set_option maxRecDepth 100000 in
set_option maxHeartbeats 8000000 in
theorem qh_main {T : World → Prop} (VC : VersC) (PC : PickC T) (KT : KeepT T) (Q0 : List Raw) (L : List Ent) (t x0 now : ByteArray) (v : Value) (A : Nat → Addr) (m : Int) (w : World) (S : Te w A m) (hT : T w) (htab : Lib.TabIs Tryz.prog w powName .u64 Lib.pow10Tab) (I : Ixs w v Q0 L) (em : EmI Q0 L) (hok : okI L = true) (h30 : L.length ≤ 30) (ht : t.size ≤ 70) (hv : x0.size ≤ 50) (hnow : now.size ≤ 60) :
    Calls Tryz.prog 6 #[v, .string t, .string x0, .string now] w fun e w' => e = .returned (.bool true) ∧ Below w.heap.size w w' := by
  obtain ⟨a0, c0, hv0, -⟩ := id I.es
  subst hv0
  have hq30 : ¬ (30 : Int) < (Q0.length : Int) := by rw [I.ln]; omega
  have g1 : ¬ (70 : Int) < (t.size : Int) := by omega
  have g2 : ¬ (50 : Int) < (x0.size : Int) := by omega
  have g3 : ¬ (60 : Int) < (now.size : Int) := by omega
  have hx9 : x0.size < 999999 := by omega
  have hn9 : now.size < 999999 := by omega
  have HIN := hid (picked_any PC KT A m w S hT)
  have HLO := hid (fun W (h : Below w.heap.size w W) => longI_any Q0 L _ W (I.below h))
  rw [if_pos hok] at HLO
  have HOW := hid (fun W (h : Below w.heap.size w W) => ownI_any Q0 L _ W (by omega) (I.below h) em (okI_fits hok))
  have HCK := hid (fun Q u W (h : Below w.heap.size w W) (J : Ixs W u Q L) => icheck_any Q L u A m W (by omega) (okI_sh hok) (S.below h) J)
  have HVS := hid (fun Q u W (h : Below w.heap.size w W) (J : Ixs W u Q L) => VC Q t u (A 0) (A 1) m W (by rw [J.ln]; omega) (okI_short J hok) (S.below h).vs (tab_below htab h) J.es)
  have HPA := hid (fun Q u W q X (h : Below w.heap.size w W) (J : Ixs W u Q L) (hq : q.size ≤ 100) (hK : Kept (verL (ofP t Q)) (verL (ofP t Q)).length X) (hl : look Q L q) (hvx : ∀ x, x ∈ X → verErr x.data.toList = 0) => pick_any PC (now := now) (by omega) (okI_sh hok) (okI_short J hok) (by omega) hq (by omega) (S.below h) (KT w W hT h) J hK hl hvx)
  have HSQ := hid (fun Q u W (J : Ixs W u Q L) => okI_short J hok)
  have HLS := hid (fun a b W (h : Below w.heap.size w W) (ha : a.size < 999999) (hb : b.size < 999999) => less_any a b (A 0) (A 1) m W ha hb (S.below h).vs)
  have HC0 := hid (fun W (h : Below w.heap.size w W) (h0 : verErr x0.data.toList = 0) => vchk_ok hx9 (S.below h) h0)
  have HC1 := hid (fun W (h : Below w.heap.size w W) (h0 : ¬ verErr x0.data.toList = 0) => vchk_no hx9 (S.below h) h0)
  clear S I em hok PC KT hT htab VC
  go_enter Tryz.func6, Tryz.ntmps6
  go_wp2_with fail
  refine HIN.out.mono ?_
  rintro e w1 ⟨rfl, hb⟩
  have HB1 := hid hb
  clear hb
  go_wp2_with fail
  refine (HLO.out w1 HB1.out).mono ?_
  rintro e w2 ⟨rfl, hb⟩
  have HB2 := hid (HB1.out.trans (hb.mono HB1.out.size))
  clear hb
  go_wp2_with fail
  refine (HOW.out w2 HB2.out).mono ?_
  rintro e w3 ⟨u, Q, rfl, hO, hb⟩
  have HB3 := hid (HB2.out.trans (hb.mono HB2.out.size))
  have HIX := hid (fun W (h : Below w3.heap.size w3 W) => hO.ixs.below h)
  have HBW := hid (fun W (h : Below w3.heap.size w3 W) => HB3.out.trans (h.mono HB3.out.size))
  have HIQ := hid hO.ixs
  obtain ⟨oa, oc, hou, -⟩ := id hO.ixs.es
  subst hou
  clear hb hO HIN HLO HOW HB1 HB2
  go_wp2_with fail
  refine (HCK.out Q _ w3 HB3.out HIQ.out).mono ?_
  rintro e w4 ⟨y4, rfl, he, hb⟩
  have HB4 := hid hb
  rcases he.kind with ⟨hc0, rfl⟩ | ⟨-, Ty, ea, rfl⟩
  rotate_left
  · have HBe := hid (HBW.out _ HB4.out)
    clear he hb
    go_wp2_with fail
    go_ret
    exact ⟨rfl, HBe.out⟩
  have HCQ := hid hc0
  have HGD := hid (good_of HIQ.out hc0)
  clear he hb hc0 HCK
  go_wp2_with fail
  refine (HVS.out Q _ w4 (HBW.out _ HB4.out) (HIX.out _ HB4.out)).mono ?_
  rintro e w7 ⟨u7, rfl, X, ho, hK, hb⟩
  have HB7 := hid (HB4.out.trans (hb.mono HB4.out.size))
  have HK := hid hK
  have HT7 := hid (own_tx ho)
  have HXV := hid (show ∀ x, x ∈ X → verErr x.data.toList = 0 ∧ x.size < 999999 from fun x hx => by
    obtain ⟨r, hr, e⟩ := kept_has HGD.out ofP_sub hK hx
    have h1 := HGD.out.ofP_mem.1 hr
    refine ⟨?_, ?_⟩
    · rw [← e]; exact HGD.out.ver r h1.1
    · have := (HSQ.out Q _ w3 HIQ.out r h1.1).2; rw [← e]; omega)
  have HXM := hid (show X.length ≤ 1000000 by rw [kept_len HGD.out hK]; exact Nat.le_trans (ofP_len t Q) (by rw [HIQ.out.ln]; omega))
  obtain ⟨ua, uc, hu7⟩ := own_slN ho
  subst hu7
  clear ho hK hb HVS HB4 HGD HSQ
  have HIT := hid (fun s W (h : TxAt W (.slice ua X.length uc) X) => inT_any s X _ W HXM.out h)
  go_wp2_with fail
  refine (HIT.out now w7 HT7.out).mono ?_
  rintro e w8 ⟨rfl, rfl⟩
  have HPQ := hid (fun W q (h : Below w3.heap.size w3 W) hq hl => HPA.out Q _ W q X (HBW.out _ h) (HIX.out _ h) hq HK.out hl fun x hx => (HXV.out x hx).1)
  obtain ⟨here, hhere⟩ : ∃ b, inB now X = b := ⟨_, rfl⟩
  have HNV := hid (show here = true → verErr now.data.toList = 0 from fun h => (HXV.out now (inB_iff.1 (hhere.trans h))).1)
  rw [hhere]
  clear hhere HPA HIX HK
  have HW8 := hid (heap_new w8 (.cells #[.string ⟨#[108, 97, 116, 101, 115, 116]⟩, .string ⟨#[117, 112, 103, 114, 97, 100, 101]⟩, .string ⟨#[112, 97, 116, 99, 104]⟩, .string (⟨#[60]⟩ ++ x0), .string (⟨#[60, 61]⟩ ++ x0), .string (⟨#[62]⟩ ++ x0), .string (⟨#[62, 61]⟩ ++ x0), .string x0] 9))
  have HA8 := hid ((Below.refl w8.heap.size w8).alloc (Nat.le_refl _) (.cells #[.string ⟨#[108, 97, 116, 101, 115, 116]⟩, .string ⟨#[117, 112, 103, 114, 97, 100, 101]⟩, .string ⟨#[112, 97, 116, 99, 104]⟩, .string (⟨#[60]⟩ ++ x0), .string (⟨#[60, 61]⟩ ++ x0), .string (⟨#[62]⟩ ++ x0), .string (⟨#[62, 61]⟩ ++ x0), .string x0] 9))
  have HG8 := hid (show Qh w3 (w8.alloc (.cells #[.string ⟨#[108, 97, 116, 101, 115, 116]⟩, .string ⟨#[117, 112, 103, 114, 97, 100, 101]⟩, .string ⟨#[112, 97, 116, 99, 104]⟩, .string (⟨#[60]⟩ ++ x0), .string (⟨#[60, 61]⟩ ++ x0), .string (⟨#[62]⟩ ++ x0), .string (⟨#[62, 61]⟩ ++ x0), .string x0] 9)) (.slice ua X.length uc) X w8.heap.size x0 from ⟨HB7.out.trans (HA8.out.mono HB7.out.size), HT7.out.below HA8.out, HW8.out⟩)
  clear HW8 HA8 HT7 HB7
  go_wp2_with fail
  generalize w8.alloc (.cells #[.string ⟨#[108, 97, 116, 101, 115, 116]⟩, .string ⟨#[117, 112, 103, 114, 97, 100, 101]⟩, .string ⟨#[112, 97, 116, 99, 104]⟩, .string (⟨#[60]⟩ ++ x0), .string (⟨#[60, 61]⟩ ++ x0), .string (⟨#[62]⟩ ++ x0), .string (⟨#[62, 61]⟩ ++ x0), .string x0] 9) = w9 at *
  generalize w8.heap.size = wb at *
  obtain ⟨GG, hGG⟩ : ∃ GG : World → Prop, GG = fun W => Qh w3 W (.slice ua X.length uc) X wb x0 := ⟨_, rfl⟩
  have FG := hid (show ∀ W, GG W → Qh w3 W (.slice ua X.length uc) X wb x0 from fun W h => by rw [hGG] at h; exact h)
  have FB := hid (show ∀ W W', GG W → Below W.heap.size W W' → GG W' from fun W W' h hb => by rw [hGG] at h ⊢; exact h.below hb)
  have HG0 := hid (show GG w9 by rw [hGG]; exact HG8.out)
  clear hGG HG8
  go_loopw [14] (fun iv wr => ∃ k : Nat, k ≤ 8 ∧ iv = .int .i64 k ∧ Hid (GG wr)) (fun iv _ => 8 - (intOf iv).toNat)
  case atStart => exact ⟨0, by decide, rfl, HG0⟩
  case round =>
    obtain ⟨k, hk, rfl, HG⟩ := hrel
    clear HG0
    rcases (by omega : k = 0 ∨ k = 1 ∨ k = 2 ∨ k = 3 ∨ k = 4 ∨ k = 5 ∨ k = 6 ∨ k = 7 ∨ k = 8) with rfl | rfl | rfl | rfl | rfl | rfl | rfl | rfl | rfl
    · as_aux_lemma =>
      have yk : wr.cell? ⟨wb, 0, none⟩ = some (.string ⟨#[108, 97, 116, 101, 115, 116]⟩) := by rw [Lib.cell_of_heap (FG.out _ HG.out).wd]; rfl
      have HPK := hid (HPQ.out wr ⟨#[108, 97, 116, 101, 115, 116]⟩ (FG.out _ HG.out).bl (by decide) ⟨qErr_word wd_latest, HCQ.out, bn1⟩)
      go_wp2_with fail
      refine HPK.out.mono ?_
      rintro e w5 ⟨hkk, hb⟩
      have HG5 := hid (FB.out _ _ HG.out hb)
      clear hb yk
      rcases hkk with ⟨ty, pa, rfl, hno⟩ | ⟨x, rfl, hx, hok⟩
      · have hl0 : ¬ (0 : Int) < (X.length : Int) := fun h => by
          have h1 : 0 < X.length := by omega
          have h2 := hno X[0] (List.getElem_mem h1)
          have h3 : okQ ⟨#[108, 97, 116, 101, 115, 116]⟩ now X[0] = true := okQ_any (q := bLatest) wd_latest (fun e => bp1 e.1)
          rw [h3] at h2; cases h2
        have hXe : X = [] := List.eq_nil_of_length_eq_zero (by omega)
        clear hno hl0
        go_wp2_with fail
        rw [show Value.slice ua 0 uc = Value.slice ua X.length uc by rw [hXe]; rfl]
        clear hXe
        go_roundw
        case rel => exact ⟨1, by decide, rfl, HG5⟩
        case measure => simp [intOf]
      · obtain ⟨hxv, hxs⟩ := HXV.out x hx
        rw [if_neg (show ¬ (⟨#[108, 97, 116, 101, 115, 116]⟩ : ByteArray) = bUpgrade from bu1)]
        have HZS := hid hxs
        have HIX2 := hid (inB_iff.2 hx)
        clear hx hok hxv hxs
        go_wp2_with fail
        refine (HIT.out x w5 (FG.out _ HG5.out).tx).mono ?_
        rintro e w6 ⟨rfl, rfl⟩
        rw [HIX2.out]
        cases here
        · have hdone := trivial
          go_wp2_with fail
          refine (HLS.out x x0 w6 (HBW.out _ (FG.out _ HG5.out).bl) HZS.out hx9).mono ?_
          rintro e w10 ⟨rfl, hb⟩
          have HG10 := hid (FB.out _ _ HG5.out hb)
          clear hb
          generalize lessB x.data.toList x0.data.toList = zl
          go_wp2_with fail
          refine (HLS.out x0 x w10 (HBW.out _ (FG.out _ HG10.out).bl) hx9 HZS.out).mono ?_
          rintro e w11 ⟨rfl, hb⟩
          have HG11 := hid (FB.out _ _ HG10.out hb)
          clear hb
          generalize lessB x0.data.toList x.data.toList = zm
          go_wp2_with fail
          go_roundw
          case rel => exact ⟨1, by decide, rfl, HG11⟩
          case measure => simp [intOf]
        · have hdone := trivial
          go_wp2_with fail
          refine (HLS.out x x0 w6 (HBW.out _ (FG.out _ HG5.out).bl) HZS.out hx9).mono ?_
          rintro e w10 ⟨rfl, hb⟩
          have HG10 := hid (FB.out _ _ HG5.out hb)
          clear hb
          generalize lessB x.data.toList x0.data.toList = zl
          go_wp2_with fail
          refine (HLS.out x0 x w10 (HBW.out _ (FG.out _ HG10.out).bl) hx9 HZS.out).mono ?_
          rintro e w11 ⟨rfl, hb⟩
          have HG11 := hid (FB.out _ _ HG10.out hb)
          clear hb
          generalize lessB x0.data.toList x.data.toList = zm
          go_wp2_with fail
          go_roundw
          case rel => exact ⟨1, by decide, rfl, HG11⟩
          case measure => simp [intOf]
    · as_aux_lemma =>
      have yk : wr.cell? ⟨wb, 1, none⟩ = some (.string ⟨#[117, 112, 103, 114, 97, 100, 101]⟩) := by rw [Lib.cell_of_heap (FG.out _ HG.out).wd]; rfl
      have HPK := hid (HPQ.out wr ⟨#[117, 112, 103, 114, 97, 100, 101]⟩ (FG.out _ HG.out).bl (by decide) ⟨qErr_word wd_upgrade, HCQ.out, bn2⟩)
      go_wp2_with fail
      refine HPK.out.mono ?_
      rintro e w5 ⟨hkk, hb⟩
      have HG5 := hid (FB.out _ _ HG.out hb)
      clear hb yk
      rcases hkk with ⟨ty, pa, rfl, hno⟩ | ⟨x, rfl, hx, hok⟩
      · have hl0 : ¬ (0 : Int) < (X.length : Int) := fun h => by
          have h1 : 0 < X.length := by omega
          have h2 := hno X[0] (List.getElem_mem h1)
          have h3 : okQ ⟨#[117, 112, 103, 114, 97, 100, 101]⟩ now X[0] = true := okQ_any (q := bUpgrade) wd_upgrade (fun e => bp2 e.1)
          rw [h3] at h2; cases h2
        have hXe : X = [] := List.eq_nil_of_length_eq_zero (by omega)
        clear hno hl0
        go_wp2_with fail
        rw [show Value.slice ua 0 uc = Value.slice ua X.length uc by rw [hXe]; rfl]
        clear hXe
        go_roundw
        case rel => exact ⟨2, by decide, rfl, HG5⟩
        case measure => simp [intOf]
      · obtain ⟨hxv, hxs⟩ := HXV.out x hx
        have HNL := hid (show here = true → lessB (maxB x now).data.toList now.data.toList = false from fun h => maxB_no hxv (HNV.out h))
        have HZS := hid (maxB_size hxs hn9)
        rw [if_pos (show (⟨#[117, 112, 103, 114, 97, 100, 101]⟩ : ByteArray) = bUpgrade from rfl)]
        generalize maxB x now = MX at *
        clear hx hok hxv hxs
        go_wp2_with fail
        refine (HIT.out MX w5 (FG.out _ HG5.out).tx).mono ?_
        rintro e w6 ⟨rfl, rfl⟩
        generalize inB MX X = th
        cases here
        · have hdone := trivial
          cases th
          · have hdone2 := trivial
            go_wp2_with fail
            refine (HLS.out MX x0 w6 (HBW.out _ (FG.out _ HG5.out).bl) HZS.out hx9).mono ?_
            rintro e w10 ⟨rfl, hb⟩
            have HG10 := hid (FB.out _ _ HG5.out hb)
            clear hb
            generalize lessB MX.data.toList x0.data.toList = zl
            go_wp2_with fail
            refine (HLS.out x0 MX w10 (HBW.out _ (FG.out _ HG10.out).bl) hx9 HZS.out).mono ?_
            rintro e w11 ⟨rfl, hb⟩
            have HG11 := hid (FB.out _ _ HG10.out hb)
            clear hb
            generalize lessB x0.data.toList MX.data.toList = zm
            go_wp2_with fail
            go_roundw
            case rel => exact ⟨2, by decide, rfl, HG11⟩
            case measure => simp [intOf]
          · have hdone2 := trivial
            go_wp2_with fail
            refine (HLS.out MX x0 w6 (HBW.out _ (FG.out _ HG5.out).bl) HZS.out hx9).mono ?_
            rintro e w10 ⟨rfl, hb⟩
            have HG10 := hid (FB.out _ _ HG5.out hb)
            clear hb
            generalize lessB MX.data.toList x0.data.toList = zl
            go_wp2_with fail
            refine (HLS.out x0 MX w10 (HBW.out _ (FG.out _ HG10.out).bl) hx9 HZS.out).mono ?_
            rintro e w11 ⟨rfl, hb⟩
            have HG11 := hid (FB.out _ _ HG10.out hb)
            clear hb
            generalize lessB x0.data.toList MX.data.toList = zm
            go_wp2_with fail
            go_roundw
            case rel => exact ⟨2, by decide, rfl, HG11⟩
            case measure => simp [intOf]
        · have hdone := trivial
          cases th
          · have hdone2 := trivial
            go_wp2_with fail
            refine (HLS.out MX now w6 (HBW.out _ (FG.out _ HG5.out).bl) HZS.out hn9).mono ?_
            rintro e w6b ⟨rfl, hb⟩
            have HG6 := hid (FB.out _ _ HG5.out hb)
            rw [HNL.out (by first | rfl | trivial)]
            clear hb
            go_wp2_with fail
            refine (HLS.out MX x0 w6b (HBW.out _ (FG.out _ HG6.out).bl) HZS.out hx9).mono ?_
            rintro e w10 ⟨rfl, hb⟩
            have HG10 := hid (FB.out _ _ HG6.out hb)
            clear hb
            generalize lessB MX.data.toList x0.data.toList = zl
            go_wp2_with fail
            refine (HLS.out x0 MX w10 (HBW.out _ (FG.out _ HG10.out).bl) hx9 HZS.out).mono ?_
            rintro e w11 ⟨rfl, hb⟩
            have HG11 := hid (FB.out _ _ HG10.out hb)
            clear hb
            generalize lessB x0.data.toList MX.data.toList = zm
            go_wp2_with fail
            go_roundw
            case rel => exact ⟨2, by decide, rfl, HG11⟩
            case measure => simp [intOf]
          · have hdone2 := trivial
            go_wp2_with fail
            refine (HLS.out MX now w6 (HBW.out _ (FG.out _ HG5.out).bl) HZS.out hn9).mono ?_
            rintro e w6b ⟨rfl, hb⟩
            have HG6 := hid (FB.out _ _ HG5.out hb)
            rw [HNL.out (by first | rfl | trivial)]
            clear hb
            go_wp2_with fail
            refine (HLS.out MX x0 w6b (HBW.out _ (FG.out _ HG6.out).bl) HZS.out hx9).mono ?_
            rintro e w10 ⟨rfl, hb⟩
            have HG10 := hid (FB.out _ _ HG6.out hb)
            clear hb
            generalize lessB MX.data.toList x0.data.toList = zl
            go_wp2_with fail
            refine (HLS.out x0 MX w10 (HBW.out _ (FG.out _ HG10.out).bl) hx9 HZS.out).mono ?_
            rintro e w11 ⟨rfl, hb⟩
            have HG11 := hid (FB.out _ _ HG10.out hb)
            clear hb
            generalize lessB x0.data.toList MX.data.toList = zm
            go_wp2_with fail
            go_roundw
            case rel => exact ⟨2, by decide, rfl, HG11⟩
            case measure => simp [intOf]
    · as_aux_lemma =>
      have yk : wr.cell? ⟨wb, 2, none⟩ = some (.string ⟨#[112, 97, 116, 99, 104]⟩) := by rw [Lib.cell_of_heap (FG.out _ HG.out).wd]; rfl
      have HPK := hid (HPQ.out wr ⟨#[112, 97, 116, 99, 104]⟩ (FG.out _ HG.out).bl (by decide) ⟨qErr_word wd_patch, HCQ.out, bn3⟩)
      go_wp2_with fail
      refine HPK.out.mono ?_
      rintro e w5 ⟨hkk, hb⟩
      have HG5 := hid (FB.out _ _ HG.out hb)
      clear hb yk
      rcases hkk with ⟨ty, pa, rfl, hno⟩ | ⟨x, rfl, hx, hok⟩
      · clear hno
        go_wp2_with fail
        go_roundw
        case rel => exact ⟨3, by decide, rfl, HG5⟩
        case measure => simp [intOf]
      · obtain ⟨hxv, hxs⟩ := HXV.out x hx
        rw [if_neg (show ¬ (⟨#[112, 97, 116, 99, 104]⟩ : ByteArray) = bUpgrade from bu3)]
        have HZS := hid hxs
        have HIX2 := hid (inB_iff.2 hx)
        have HNL := hid (show here = true → lessB x.data.toList now.data.toList = false from fun h => by
          have h1 : okQ bPatch now x = true := hok
          rw [okQ_patch (HNV.out h)] at h1
          cases hl : lessB x.data.toList now.data.toList with
          | false => rfl
          | true => rw [hl] at h1; simp at h1)
        clear hx hok hxv hxs
        go_wp2_with fail
        refine (HIT.out x w5 (FG.out _ HG5.out).tx).mono ?_
        rintro e w6 ⟨rfl, rfl⟩
        rw [HIX2.out]
        cases here
        · have hdone := trivial
          go_wp2_with fail
          refine (HLS.out x x0 w6 (HBW.out _ (FG.out _ HG5.out).bl) HZS.out hx9).mono ?_
          rintro e w10 ⟨rfl, hb⟩
          have HG10 := hid (FB.out _ _ HG5.out hb)
          clear hb
          generalize lessB x.data.toList x0.data.toList = zl
          go_wp2_with fail
          refine (HLS.out x0 x w10 (HBW.out _ (FG.out _ HG10.out).bl) hx9 HZS.out).mono ?_
          rintro e w11 ⟨rfl, hb⟩
          have HG11 := hid (FB.out _ _ HG10.out hb)
          clear hb
          generalize lessB x0.data.toList x.data.toList = zm
          go_wp2_with fail
          go_roundw
          case rel => exact ⟨3, by decide, rfl, HG11⟩
          case measure => simp [intOf]
        · have hdone := trivial
          go_wp2_with fail
          refine (HLS.out x now w6 (HBW.out _ (FG.out _ HG5.out).bl) HZS.out hn9).mono ?_
          rintro e w6b ⟨rfl, hb⟩
          have HG6 := hid (FB.out _ _ HG5.out hb)
          rw [HNL.out (by first | rfl | trivial)]
          clear hb
          go_wp2_with fail
          refine (HLS.out x x0 w6b (HBW.out _ (FG.out _ HG6.out).bl) HZS.out hx9).mono ?_
          rintro e w10 ⟨rfl, hb⟩
          have HG10 := hid (FB.out _ _ HG6.out hb)
          clear hb
          generalize lessB x.data.toList x0.data.toList = zl
          go_wp2_with fail
          refine (HLS.out x0 x w10 (HBW.out _ (FG.out _ HG10.out).bl) hx9 HZS.out).mono ?_
          rintro e w11 ⟨rfl, hb⟩
          have HG11 := hid (FB.out _ _ HG10.out hb)
          clear hb
          generalize lessB x0.data.toList x.data.toList = zm
          go_wp2_with fail
          go_roundw
          case rel => exact ⟨3, by decide, rfl, HG11⟩
          case measure => simp [intOf]
    · as_aux_lemma =>
      have yk : wr.cell? ⟨wb, 3, none⟩ = some (.string (⟨#[60]⟩ ++ x0)) := by rw [Lib.cell_of_heap (FG.out _ HG.out).wd]; rfl
      by_cases hv0 : verErr x0.data.toList = 0
      rotate_left
      · have HCN := hid (HC1.out wr (HBW.out _ (FG.out _ HG.out).bl) hv0)
        clear hv0
        go_wp2_with fail
        refine HCN.out.mono ?_
        rintro e w5 ⟨ty, pa, rfl, hb⟩
        have HG5 := hid (FB.out _ _ HG.out hb)
        clear hb
        go_wp2_with fail
        go_roundw
        case rel => exact ⟨4, by decide, rfl, HG5⟩
        case measure => simp [intOf]
      have HV0 := hid hv0
      have HVQ := hid (vq_lt hv0)
      have HCY := hid (HC0.out wr (HBW.out _ (FG.out _ HG.out).bl) hv0)
      have zq : ((⟨#[60]⟩ ++ x0) : ByteArray).size ≤ 100 := by rw [app_size]; have : (⟨#[60]⟩ : ByteArray).size = 1 := rfl; omega
      have HZQ := hid zq
      clear hv0 zq
      go_wp2_with fail
      refine HCY.out.mono ?_
      rintro e w4b ⟨rfl, hb⟩
      have HGb := hid (FB.out _ _ HG.out hb)
      replace yk := cell_below hb yk
      clear hb HCY
      have HPK := hid (HPQ.out w4b (⟨#[60]⟩ ++ x0) (FG.out _ HGb.out).bl HZQ.out ⟨HVQ.out.er, HCQ.out, HVQ.out.no⟩)
      go_wp2_with fail
      refine HPK.out.mono ?_
      rintro e w5 ⟨hkk, hb⟩
      have HG5 := hid (FB.out _ _ HGb.out hb)
      clear hb yk
      rcases hkk with ⟨ty, pa, rfl, hno⟩ | ⟨x, rfl, hx, hok⟩
      · clear hno
        go_wp2_with fail
        go_roundw
        case rel => exact ⟨4, by decide, rfl, HG5⟩
        case measure => simp [intOf]
      · obtain ⟨hxv, hxs⟩ := HXV.out x hx
        rw [if_neg (show ¬ ((⟨#[60]⟩ ++ x0) : ByteArray) = bUpgrade from HVQ.out.up)]
        have HZS := hid hxs
        have HIX2 := hid (inB_iff.2 hx)
        have HOK := hid (show lessB x.data.toList x0.data.toList = true by rw [← ok_lt (now := now) HVQ.out]; exact hok)
        clear hx hok hxv hxs
        go_wp2_with fail
        refine (HIT.out x w5 (FG.out _ HG5.out).tx).mono ?_
        rintro e w6 ⟨rfl, rfl⟩
        rw [HIX2.out]
        cases here
        · have hdone := trivial
          go_wp2_with fail
          refine (HLS.out x x0 w6 (HBW.out _ (FG.out _ HG5.out).bl) HZS.out hx9).mono ?_
          rintro e w10 ⟨rfl, hb⟩
          have HG10 := hid (FB.out _ _ HG5.out hb)
          clear hb
          rw [HOK.out]
          go_wp2_with fail
          refine (HLS.out x0 x w10 (HBW.out _ (FG.out _ HG10.out).bl) hx9 HZS.out).mono ?_
          rintro e w11 ⟨rfl, hb⟩
          have HG11 := hid (FB.out _ _ HG10.out hb)
          clear hb
          generalize lessB x0.data.toList x.data.toList = zm
          go_wp2_with fail
          go_roundw
          case rel => exact ⟨4, by decide, rfl, HG11⟩
          case measure => simp [intOf]
        · have hdone := trivial
          go_wp2_with fail
          refine (HLS.out x x0 w6 (HBW.out _ (FG.out _ HG5.out).bl) HZS.out hx9).mono ?_
          rintro e w10 ⟨rfl, hb⟩
          have HG10 := hid (FB.out _ _ HG5.out hb)
          clear hb
          rw [HOK.out]
          go_wp2_with fail
          refine (HLS.out x0 x w10 (HBW.out _ (FG.out _ HG10.out).bl) hx9 HZS.out).mono ?_
          rintro e w11 ⟨rfl, hb⟩
          have HG11 := hid (FB.out _ _ HG10.out hb)
          clear hb
          generalize lessB x0.data.toList x.data.toList = zm
          go_wp2_with fail
          go_roundw
          case rel => exact ⟨4, by decide, rfl, HG11⟩
          case measure => simp [intOf]
    · as_aux_lemma =>
      have yk : wr.cell? ⟨wb, 4, none⟩ = some (.string (⟨#[60, 61]⟩ ++ x0)) := by rw [Lib.cell_of_heap (FG.out _ HG.out).wd]; rfl
      by_cases hv0 : verErr x0.data.toList = 0
      rotate_left
      · have HCN := hid (HC1.out wr (HBW.out _ (FG.out _ HG.out).bl) hv0)
        clear hv0
        go_wp2_with fail
        refine HCN.out.mono ?_
        rintro e w5 ⟨ty, pa, rfl, hb⟩
        have HG5 := hid (FB.out _ _ HG.out hb)
        clear hb
        go_wp2_with fail
        go_roundw
        case rel => exact ⟨5, by decide, rfl, HG5⟩
        case measure => simp [intOf]
      have HV0 := hid hv0
      have HVQ := hid (vq_le hv0)
      have HCY := hid (HC0.out wr (HBW.out _ (FG.out _ HG.out).bl) hv0)
      have zq : ((⟨#[60, 61]⟩ ++ x0) : ByteArray).size ≤ 100 := by rw [app_size]; have : (⟨#[60, 61]⟩ : ByteArray).size = 2 := rfl; omega
      have HZQ := hid zq
      clear hv0 zq
      go_wp2_with fail
      refine HCY.out.mono ?_
      rintro e w4b ⟨rfl, hb⟩
      have HGb := hid (FB.out _ _ HG.out hb)
      replace yk := cell_below hb yk
      clear hb HCY
      have HPK := hid (HPQ.out w4b (⟨#[60, 61]⟩ ++ x0) (FG.out _ HGb.out).bl HZQ.out ⟨HVQ.out.er, HCQ.out, HVQ.out.no⟩)
      go_wp2_with fail
      refine HPK.out.mono ?_
      rintro e w5 ⟨hkk, hb⟩
      have HG5 := hid (FB.out _ _ HGb.out hb)
      clear hb yk
      rcases hkk with ⟨ty, pa, rfl, hno⟩ | ⟨x, rfl, hx, hok⟩
      · clear hno
        go_wp2_with fail
        go_roundw
        case rel => exact ⟨5, by decide, rfl, HG5⟩
        case measure => simp [intOf]
      · obtain ⟨hxv, hxs⟩ := HXV.out x hx
        rw [if_neg (show ¬ ((⟨#[60, 61]⟩ ++ x0) : ByteArray) = bUpgrade from HVQ.out.up)]
        have HZS := hid hxs
        have HIX2 := hid (inB_iff.2 hx)
        have HOK := hid (show lessB x0.data.toList x.data.toList = false by have h := hok; rw [ok_le HVQ.out] at h; simpa using h)
        clear hx hok hxv hxs
        go_wp2_with fail
        refine (HIT.out x w5 (FG.out _ HG5.out).tx).mono ?_
        rintro e w6 ⟨rfl, rfl⟩
        rw [HIX2.out]
        cases here
        · have hdone := trivial
          go_wp2_with fail
          refine (HLS.out x x0 w6 (HBW.out _ (FG.out _ HG5.out).bl) HZS.out hx9).mono ?_
          rintro e w10 ⟨rfl, hb⟩
          have HG10 := hid (FB.out _ _ HG5.out hb)
          clear hb
          generalize lessB x.data.toList x0.data.toList = zl
          go_wp2_with fail
          refine (HLS.out x0 x w10 (HBW.out _ (FG.out _ HG10.out).bl) hx9 HZS.out).mono ?_
          rintro e w11 ⟨rfl, hb⟩
          have HG11 := hid (FB.out _ _ HG10.out hb)
          clear hb
          rw [HOK.out]
          go_wp2_with fail
          go_roundw
          case rel => exact ⟨5, by decide, rfl, HG11⟩
          case measure => simp [intOf]
        · have hdone := trivial
          go_wp2_with fail
          refine (HLS.out x x0 w6 (HBW.out _ (FG.out _ HG5.out).bl) HZS.out hx9).mono ?_
          rintro e w10 ⟨rfl, hb⟩
          have HG10 := hid (FB.out _ _ HG5.out hb)
          clear hb
          generalize lessB x.data.toList x0.data.toList = zl
          go_wp2_with fail
          refine (HLS.out x0 x w10 (HBW.out _ (FG.out _ HG10.out).bl) hx9 HZS.out).mono ?_
          rintro e w11 ⟨rfl, hb⟩
          have HG11 := hid (FB.out _ _ HG10.out hb)
          clear hb
          rw [HOK.out]
          go_wp2_with fail
          go_roundw
          case rel => exact ⟨5, by decide, rfl, HG11⟩
          case measure => simp [intOf]
    · as_aux_lemma =>
      have yk : wr.cell? ⟨wb, 5, none⟩ = some (.string (⟨#[62]⟩ ++ x0)) := by rw [Lib.cell_of_heap (FG.out _ HG.out).wd]; rfl
      by_cases hv0 : verErr x0.data.toList = 0
      rotate_left
      · have HCN := hid (HC1.out wr (HBW.out _ (FG.out _ HG.out).bl) hv0)
        clear hv0
        go_wp2_with fail
        refine HCN.out.mono ?_
        rintro e w5 ⟨ty, pa, rfl, hb⟩
        have HG5 := hid (FB.out _ _ HG.out hb)
        clear hb
        go_wp2_with fail
        go_roundw
        case rel => exact ⟨6, by decide, rfl, HG5⟩
        case measure => simp [intOf]
      have HV0 := hid hv0
      have HVQ := hid (vq_gt hv0)
      have HCY := hid (HC0.out wr (HBW.out _ (FG.out _ HG.out).bl) hv0)
      have zq : ((⟨#[62]⟩ ++ x0) : ByteArray).size ≤ 100 := by rw [app_size]; have : (⟨#[62]⟩ : ByteArray).size = 1 := rfl; omega
      have HZQ := hid zq
      clear hv0 zq
      go_wp2_with fail
      refine HCY.out.mono ?_
      rintro e w4b ⟨rfl, hb⟩
      have HGb := hid (FB.out _ _ HG.out hb)
      replace yk := cell_below hb yk
      clear hb HCY
      have HPK := hid (HPQ.out w4b (⟨#[62]⟩ ++ x0) (FG.out _ HGb.out).bl HZQ.out ⟨HVQ.out.er, HCQ.out, HVQ.out.no⟩)
      go_wp2_with fail
      refine HPK.out.mono ?_
      rintro e w5 ⟨hkk, hb⟩
      have HG5 := hid (FB.out _ _ HGb.out hb)
      clear hb yk
      rcases hkk with ⟨ty, pa, rfl, hno⟩ | ⟨x, rfl, hx, hok⟩
      · clear hno
        go_wp2_with fail
        go_roundw
        case rel => exact ⟨6, by decide, rfl, HG5⟩
        case measure => simp [intOf]
      · obtain ⟨hxv, hxs⟩ := HXV.out x hx
        rw [if_neg (show ¬ ((⟨#[62]⟩ ++ x0) : ByteArray) = bUpgrade from HVQ.out.up)]
        have HZS := hid hxs
        have HIX2 := hid (inB_iff.2 hx)
        have HOK := hid (show lessB x0.data.toList x.data.toList = true by rw [← ok_gt (now := now) HVQ.out]; exact hok)
        clear hx hok hxv hxs
        go_wp2_with fail
        refine (HIT.out x w5 (FG.out _ HG5.out).tx).mono ?_
        rintro e w6 ⟨rfl, rfl⟩
        rw [HIX2.out]
        cases here
        · have hdone := trivial
          go_wp2_with fail
          refine (HLS.out x x0 w6 (HBW.out _ (FG.out _ HG5.out).bl) HZS.out hx9).mono ?_
          rintro e w10 ⟨rfl, hb⟩
          have HG10 := hid (FB.out _ _ HG5.out hb)
          clear hb
          generalize lessB x.data.toList x0.data.toList = zl
          go_wp2_with fail
          refine (HLS.out x0 x w10 (HBW.out _ (FG.out _ HG10.out).bl) hx9 HZS.out).mono ?_
          rintro e w11 ⟨rfl, hb⟩
          have HG11 := hid (FB.out _ _ HG10.out hb)
          clear hb
          rw [HOK.out]
          go_wp2_with fail
          go_roundw
          case rel => exact ⟨6, by decide, rfl, HG11⟩
          case measure => simp [intOf]
        · have hdone := trivial
          go_wp2_with fail
          refine (HLS.out x x0 w6 (HBW.out _ (FG.out _ HG5.out).bl) HZS.out hx9).mono ?_
          rintro e w10 ⟨rfl, hb⟩
          have HG10 := hid (FB.out _ _ HG5.out hb)
          clear hb
          generalize lessB x.data.toList x0.data.toList = zl
          go_wp2_with fail
          refine (HLS.out x0 x w10 (HBW.out _ (FG.out _ HG10.out).bl) hx9 HZS.out).mono ?_
          rintro e w11 ⟨rfl, hb⟩
          have HG11 := hid (FB.out _ _ HG10.out hb)
          clear hb
          rw [HOK.out]
          go_wp2_with fail
          go_roundw
          case rel => exact ⟨6, by decide, rfl, HG11⟩
          case measure => simp [intOf]
    · as_aux_lemma =>
      have yk : wr.cell? ⟨wb, 6, none⟩ = some (.string (⟨#[62, 61]⟩ ++ x0)) := by rw [Lib.cell_of_heap (FG.out _ HG.out).wd]; rfl
      by_cases hv0 : verErr x0.data.toList = 0
      rotate_left
      · have HCN := hid (HC1.out wr (HBW.out _ (FG.out _ HG.out).bl) hv0)
        clear hv0
        go_wp2_with fail
        refine HCN.out.mono ?_
        rintro e w5 ⟨ty, pa, rfl, hb⟩
        have HG5 := hid (FB.out _ _ HG.out hb)
        clear hb
        go_wp2_with fail
        go_roundw
        case rel => exact ⟨7, by decide, rfl, HG5⟩
        case measure => simp [intOf]
      have HV0 := hid hv0
      have HVQ := hid (vq_ge hv0)
      have HCY := hid (HC0.out wr (HBW.out _ (FG.out _ HG.out).bl) hv0)
      have zq : ((⟨#[62, 61]⟩ ++ x0) : ByteArray).size ≤ 100 := by rw [app_size]; have : (⟨#[62, 61]⟩ : ByteArray).size = 2 := rfl; omega
      have HZQ := hid zq
      clear hv0 zq
      go_wp2_with fail
      refine HCY.out.mono ?_
      rintro e w4b ⟨rfl, hb⟩
      have HGb := hid (FB.out _ _ HG.out hb)
      replace yk := cell_below hb yk
      clear hb HCY
      have HPK := hid (HPQ.out w4b (⟨#[62, 61]⟩ ++ x0) (FG.out _ HGb.out).bl HZQ.out ⟨HVQ.out.er, HCQ.out, HVQ.out.no⟩)
      go_wp2_with fail
      refine HPK.out.mono ?_
      rintro e w5 ⟨hkk, hb⟩
      have HG5 := hid (FB.out _ _ HGb.out hb)
      clear hb yk
      rcases hkk with ⟨ty, pa, rfl, hno⟩ | ⟨x, rfl, hx, hok⟩
      · clear hno
        go_wp2_with fail
        go_roundw
        case rel => exact ⟨7, by decide, rfl, HG5⟩
        case measure => simp [intOf]
      · obtain ⟨hxv, hxs⟩ := HXV.out x hx
        rw [if_neg (show ¬ ((⟨#[62, 61]⟩ ++ x0) : ByteArray) = bUpgrade from HVQ.out.up)]
        have HZS := hid hxs
        have HIX2 := hid (inB_iff.2 hx)
        have HOK := hid (show lessB x.data.toList x0.data.toList = false by have h := hok; rw [ok_ge HVQ.out] at h; simpa using h)
        clear hx hok hxv hxs
        go_wp2_with fail
        refine (HIT.out x w5 (FG.out _ HG5.out).tx).mono ?_
        rintro e w6 ⟨rfl, rfl⟩
        rw [HIX2.out]
        cases here
        · have hdone := trivial
          go_wp2_with fail
          refine (HLS.out x x0 w6 (HBW.out _ (FG.out _ HG5.out).bl) HZS.out hx9).mono ?_
          rintro e w10 ⟨rfl, hb⟩
          have HG10 := hid (FB.out _ _ HG5.out hb)
          clear hb
          rw [HOK.out]
          go_wp2_with fail
          refine (HLS.out x0 x w10 (HBW.out _ (FG.out _ HG10.out).bl) hx9 HZS.out).mono ?_
          rintro e w11 ⟨rfl, hb⟩
          have HG11 := hid (FB.out _ _ HG10.out hb)
          clear hb
          generalize lessB x0.data.toList x.data.toList = zm
          go_wp2_with fail
          go_roundw
          case rel => exact ⟨7, by decide, rfl, HG11⟩
          case measure => simp [intOf]
        · have hdone := trivial
          go_wp2_with fail
          refine (HLS.out x x0 w6 (HBW.out _ (FG.out _ HG5.out).bl) HZS.out hx9).mono ?_
          rintro e w10 ⟨rfl, hb⟩
          have HG10 := hid (FB.out _ _ HG5.out hb)
          clear hb
          rw [HOK.out]
          go_wp2_with fail
          refine (HLS.out x0 x w10 (HBW.out _ (FG.out _ HG10.out).bl) hx9 HZS.out).mono ?_
          rintro e w11 ⟨rfl, hb⟩
          have HG11 := hid (FB.out _ _ HG10.out hb)
          clear hb
          generalize lessB x0.data.toList x.data.toList = zm
          go_wp2_with fail
          go_roundw
          case rel => exact ⟨7, by decide, rfl, HG11⟩
          case measure => simp [intOf]
    · as_aux_lemma =>
      have yk : wr.cell? ⟨wb, 7, none⟩ = some (.string x0) := by rw [Lib.cell_of_heap (FG.out _ HG.out).wd]; rfl
      by_cases hv0 : verErr x0.data.toList = 0
      rotate_left
      · have HCN := hid (HC1.out wr (HBW.out _ (FG.out _ HG.out).bl) hv0)
        clear hv0
        go_wp2_with fail
        refine HCN.out.mono ?_
        rintro e w5 ⟨ty, pa, rfl, hb⟩
        have HG5 := hid (FB.out _ _ HG.out hb)
        clear hb
        go_wp2_with fail
        go_roundw
        case rel => exact ⟨8, by decide, rfl, HG5⟩
        case measure => simp [intOf]
      have HV0 := hid hv0
      have HVQ := hid (vq_v hv0)
      have HCY := hid (HC0.out wr (HBW.out _ (FG.out _ HG.out).bl) hv0)
      have zq : (x0 : ByteArray).size ≤ 100 := by omega
      have HZQ := hid zq
      clear hv0 zq
      go_wp2_with fail
      refine HCY.out.mono ?_
      rintro e w4b ⟨rfl, hb⟩
      have HGb := hid (FB.out _ _ HG.out hb)
      replace yk := cell_below hb yk
      clear hb HCY
      have HPK := hid (HPQ.out w4b x0 (FG.out _ HGb.out).bl HZQ.out ⟨HVQ.out.er, HCQ.out, HVQ.out.no⟩)
      go_wp2_with fail
      refine HPK.out.mono ?_
      rintro e w5 ⟨hkk, hb⟩
      have HG5 := hid (FB.out _ _ HGb.out hb)
      clear hb yk
      rcases hkk with ⟨ty, pa, rfl, hno⟩ | ⟨x, rfl, hx, hok⟩
      · clear hno
        go_wp2_with fail
        go_roundw
        case rel => exact ⟨8, by decide, rfl, HG5⟩
        case measure => simp [intOf]
      · obtain ⟨hxv, hxs⟩ := HXV.out x hx
        rw [if_neg (show ¬ (x0 : ByteArray) = bUpgrade from HVQ.out.up)]
        have HZS := hid hxs
        have HIX2 := hid (inB_iff.2 hx)
        have hxe : x = x0 := by have h := hok; rw [ok_v HVQ.out HV0.out] at h; exact of_decide_eq_true h
        have hs0 := str_refl x0
        rw [← hxe] at hs0
        have hs1 : (x.toList == x0.toList) = true := by rw [← hxe]; exact hs0
        clear hxe hs0
        clear hx hok hxv hxs
        go_wp2_with fail
        refine (HIT.out x w5 (FG.out _ HG5.out).tx).mono ?_
        rintro e w6 ⟨rfl, rfl⟩
        rw [HIX2.out]
        cases here
        · have hdone := trivial
          go_wp2_with fail
          refine (HLS.out x x0 w6 (HBW.out _ (FG.out _ HG5.out).bl) HZS.out hx9).mono ?_
          rintro e w10 ⟨rfl, hb⟩
          have HG10 := hid (FB.out _ _ HG5.out hb)
          clear hb
          generalize lessB x.data.toList x0.data.toList = zl
          go_wp2_with fail
          refine (HLS.out x0 x w10 (HBW.out _ (FG.out _ HG10.out).bl) hx9 HZS.out).mono ?_
          rintro e w11 ⟨rfl, hb⟩
          have HG11 := hid (FB.out _ _ HG10.out hb)
          clear hb
          generalize lessB x0.data.toList x.data.toList = zm
          go_wp2_with fail
          refine (HC0.out w11 (HBW.out _ (FG.out _ HG11.out).bl) HV0.out).mono ?_
          rintro e w12 ⟨rfl, hb⟩
          have HG12 := hid (FB.out _ _ HG11.out hb)
          clear hb
          go_wp2_with fail
          go_roundw
          case rel => exact ⟨8, by decide, rfl, HG12⟩
          case measure => simp [intOf]
        · have hdone := trivial
          go_wp2_with fail
          refine (HLS.out x x0 w6 (HBW.out _ (FG.out _ HG5.out).bl) HZS.out hx9).mono ?_
          rintro e w10 ⟨rfl, hb⟩
          have HG10 := hid (FB.out _ _ HG5.out hb)
          clear hb
          generalize lessB x.data.toList x0.data.toList = zl
          go_wp2_with fail
          refine (HLS.out x0 x w10 (HBW.out _ (FG.out _ HG10.out).bl) hx9 HZS.out).mono ?_
          rintro e w11 ⟨rfl, hb⟩
          have HG11 := hid (FB.out _ _ HG10.out hb)
          clear hb
          generalize lessB x0.data.toList x.data.toList = zm
          go_wp2_with fail
          refine (HC0.out w11 (HBW.out _ (FG.out _ HG11.out).bl) HV0.out).mono ?_
          rintro e w12 ⟨rfl, hb⟩
          have HG12 := hid (FB.out _ _ HG11.out hb)
          clear hb
          go_wp2_with fail
          go_roundw
          case rel => exact ⟨8, by decide, rfl, HG12⟩
          case measure => simp [intOf]
    · as_aux_lemma =>
      have HBe := hid (HBW.out _ (FG.out _ HG.out).bl)
      go_wp2_with fail
      go_ret
      exact ⟨rfl, HBe.out⟩
end Ve
end Go.Proofs.YtnkgjddkdikikaaGreatDoor
