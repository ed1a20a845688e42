/-
  What mvs.Build answers; the closed fact of the statements (built).
-/
import Derived.Test.YtffjaliegglddaaGreatDoorJn5
import Derived.Test.YtffjaliegglddaaGreatDoorAhead
import Derived.Test.YtffjaliegglddaaGreatDoorRefF
import Derived.Deep.RegionHeld
import Derived.Deep.DeepCutAuto
import Derived.Test.YtffjaliegglddaaGreatDoorJn1
import Derived.Deep.SlicePairs
import Derived.Lib.SmallJoins
import Derived.SliceStrings
import Derived.ProofKit
import Derived.LaidMore
import Derived.Lay
import Derived.Stop.Joined
import Derived.HandedShaped
namespace Go.Proofs.YtffjaliegglddaaGreatDoor
open Go.RowKit Go.Maps
namespace Ve

theorem goM_sub {w : World} {v : Value} {Q : List Raw} {L : List Ent} (I : Ixs w v Q L) {T : By} {m : Bm} (h : m ∈ goM T Q) : m ∈ univ L := by
  rw [← univ_eq I]
  unfold goM goQ at h
  obtain ⟨r, hr, e⟩ := List.mem_map.1 h
  exact List.mem_map.2 ⟨r, (List.mem_filter.1 hr).1, e⟩
theorem univ_szJ {L : List Ent} (sh : ∀ e, e ∈ L → ShE e) {m : Bm} (h : m ∈ univ L) : m.1.size < 999999 ∧ m.2.size < 999999 := by
  obtain ⟨e, he, rfl⟩ := List.mem_map.1 h
  exact ⟨(sh e he).p, (sh e he).v⟩
theorem goM_lenJ {w : World} {v : Value} {Q : List Raw} {L : List Ent} (I : Ixs w v Q L) (T : By) : (goM T Q).length ≤ L.length := by
  unfold goM goQ
  rw [List.length_map, ← I.ln]
  exact List.length_filter_le _ _
theorem em_none : Em (.slice none 0 0) [] := fun a c e _ => by
  injection e with e1 e2 e3
  subst e1 e3
  exact Or.inl rfl
theorem ms_none (w : World) : MsAt w (.slice none 0 0) [] := ⟨none, 0, rfl, Nat.le_refl _, fun h => absurd rfl h⟩
set_option maxRecDepth 100000 in
set_option maxHeartbeats 2000000 in
theorem build_bad (Q : List Raw) (L : List Ent) (roots : List Bm) (v rv : Value) (A : Nat → Addr) (m : Int) (w : World) (hn : L.length ≤ 1000) (hrn : roots.length ≤ 1000000) (sh : ∀ e, e ∈ L → ShE e) (S : Te w A m) (I : Ixs w v Q L) (hr : MsAt w rv roots) (h0 : (chkG Q L roots).1 ≠ 0) :
    Calls Tryz.prog 25 #[v, rv] w fun e w' => ∃ T a, e = .returned (.tuple #[.slice none 0 0, .iface T (.pointer (some a))]) ∧ ErrAt w' A (.iface T (.pointer (some a))) (chkG Q L roots).1 (chkG Q L roots).2 ∧ Below w.heap.size w w' := by
  have HCK := hid (reach_bad Q L roots v rv A m w hn hrn sh S I hr h0)
  obtain ⟨a, c, hv, -⟩ := id I.es
  subst hv
  obtain ⟨ra, rc, hrv, -⟩ := id hr
  subst hrv
  clear S I hr sh h0
  go_enter Tryz.func25, Tryz.ntmps25
  go_wp2_with fail
  refine HCK.out.mono ?_
  rintro e w1 ⟨T, xa, rfl, he, hb⟩
  have HB := hid hb
  have HE := hid he
  clear hb he HCK
  go_wp2_with fail
  go_ret2
  exact ⟨_, _, rfl, HE.out, HB.out⟩
/-- What is built: of what is reached, of each path the greatest. -/
structure Bt (Q : List Raw) (L : List Ent) (roots E : List Bm) : Prop where
  c : ∃ T, Came (reqQ Q L) (univ L) roots T ∧ Jn (goM T Q) E ∧ E.length ≤ (goM T Q).length
set_option maxRecDepth 100000 in
set_option maxHeartbeats 2000000 in
theorem build_good (Q : List Raw) (L : List Ent) (roots : List Bm) (v rv : Value) (A : Nat → Addr) (m : Int) (w : World) (hn : L.length ≤ 1000) (hrn : roots.length ≤ 1000000) (sh : ∀ e, e ∈ L → ShE e) (S : Te w A m) (I : Ixs w v Q L) (hr : MsAt w rv roots) (h0 : (chkG Q L roots).1 = 0) :
    Calls Tryz.prog 25 #[v, rv] w fun e w' => ∃ u E, e = .returned (.tuple #[u, .nilIface]) ∧ Bt Q L roots E ∧ Mr w w' u E := by
  have HRE := hid (reach_good Q L roots v rv A m w hn hrn sh S I hr h0)
  have hl : L.length ≤ 100 := by
    by_cases hc : (chk Q L).1 = 0
    · exact (chk_each0 hc).1
    · rw [chkG_bad hc] at h0; exact absurd h0 hc
  have HS := hid S
  have HI := hid I
  have HSH := hid sh
  obtain ⟨a, c, hv, -⟩ := id I.es
  subst hv
  obtain ⟨ra, rc, hrv, -⟩ := id hr
  subst hrv
  clear S I hr sh h0
  go_enter Tryz.func25, Tryz.ntmps25
  go_wp2_with fail
  refine HRE.out.mono ?_
  rintro e w1 ⟨u, rfl, T, hcm, hown, hb⟩
  have HCM := hid hcm
  have HB := hid hb
  have hgl := goM_lenJ HI.out T
  have HM := hid (mr_own hown hb)
  have HJ := hid (join_mods (goM T Q) [] u (.slice none 0 0) A m w1 HM.out.ms (ms_none w1) HM.out.em em_none (by omega) (by simp) (fun r hr => univ_szJ HSH.out (goM_sub HI.out (by simpa using hr))) (HS.out.below hb))
  rw [List.append_nil] at HJ
  obtain ⟨ua, uc, hu⟩ := HM.out.sl
  subst hu
  clear hcm hown hb HRE HM
  go_wp2_with fail
  refine HJ.out.mono ?_
  rintro e w2 ⟨x, E, rfl, hel, hj, hm⟩
  have HMX := hid (hm.base HB.out)
  have HBT := hid (show Bt Q L roots E from ⟨T, HCM.out, hj, hel⟩)
  obtain ⟨xa, xc, hx⟩ := hm.sl
  subst hx
  clear hel hj hm HJ
  go_wp2_with fail
  go_ret2
  exact ⟨_, E, rfl, HBT.out, HMX.out⟩
theorem sm_chkG2 (g : Nat) : (chkG (smQ g) smL [ma0, ma1]).1 = 0 := by
  rw [chkG_ok (by rw [sm_chk])]
  show codeE (nonE (smQ g) [ma0, ma1]) 2 = 0
  kernel_rfl
theorem sm_go2 {g : Nat} {T : By} (h : Came (reqQ (smQ g) smL) (univ smL) [ma0, ma1] T) : goM T (smQ g) = [ma0, ma1, mb0] := by
  have c0 : cameB T ma0 = true := (h.cameB _).2 (.root (by simp))
  have c1 : cameB T ma1 = true := (h.cameB _).2 (.root (by simp))
  have cb : cameB T mb0 = true := (h.cameB _).2 (.step (.root (show ma1 ∈ [ma0, ma1] by simp)) (by rw [sm_r1]; simp))
  unfold goM goQ smQ
  simp [c0, c1, cb]
theorem sm_jn : Jn [ma0, ma1, mb0] [ma1, mb0] := by
  have e0 : decide (ordV (vb ma0) (vb ma1) ≤ 0) = true := by kernel_rfl
  have e1 : decide (ordV (vb ma1) (vb ma1) ≤ 0) = true := by kernel_rfl
  have e2 : decide (ordV (vb mb0) (vb mb0) ≤ 0) = true := by kernel_rfl
  have m1 : mErr ma1 = 0 := by kernel_rfl
  have m2 : mErr mb0 = 0 := by kernel_rfl
  have l1 : lt ma1.1 mb0.1 = true := by kernel_rfl
  refine ⟨?_, fun e he => ?_, fun x hx _ => ?_⟩
  · refine List.pairwise_cons.2 ⟨fun b hb => ?_, List.pairwise_singleton _ _⟩
    rw [List.mem_singleton.1 hb]; exact l1
  · rcases List.mem_cons.1 he with rfl | he
    · exact ⟨by simp, m1⟩
    · rw [List.mem_singleton.1 he]; exact ⟨by simp, m2⟩
  · rcases List.mem_cons.1 hx with rfl | hx
    · exact ⟨ma1, by simp, rfl, of_decide_eq_true e0⟩
    · rcases List.mem_cons.1 hx with rfl | hx
      · exact ⟨ma1, by simp, rfl, of_decide_eq_true e1⟩
      · rw [List.mem_singleton.1 hx]
        exact ⟨mb0, by simp, rfl, of_decide_eq_true e2⟩
theorem sm_bt {g : Nat} {E : List Bm} (h : Bt (smQ g) smL [ma0, ma1] E) : E = [ma1, mb0] := by
  obtain ⟨T, h1, h2, _⟩ := h.c
  rw [sm_go2 h1] at h2
  exact h2.one sm_jn (fun _ _ => Iff.rfl)
set_option maxRecDepth 100000 in
set_option maxHeartbeats 4000000 in
/-- pewholderlaw2.built. -/
theorem built_any (A : Nat → Addr) (m : Int) (w : World) (S : Te w A m) : Calls Tryz.prog 21 #[] w fun e w' => e = .returned (.bool true) ∧ Below w.heap.size w w' := by
  have HSM := hid smallI_any
  have HS := hid S
  clear S
  go_enter Tryz.func21, Tryz.ntmps21
  go_wp2_with fail
  refine (HSM.out w).mono ?_
  rintro e w1 ⟨g, q, rfl, hix, hb⟩
  have hBa := (Below.refl w1.heap.size w1).alloc (Nat.le_refl _) (.cells #[.string ⟨#[97]⟩, .string ⟨#[118, 49, 46, 48, 46, 48]⟩, .string ⟨#[97]⟩, .string ⟨#[118, 49, 46, 49, 46, 48]⟩] 25)
  have hB1 := hb.trans (hBa.mono hb.size)
  have hms : MsAt (w1.alloc (.cells #[.string ⟨#[97]⟩, .string ⟨#[118, 49, 46, 48, 46, 48]⟩, .string ⟨#[97]⟩, .string ⟨#[118, 49, 46, 49, 46, 48]⟩] 25)) (.slice (some ⟨w1.heap.size, 0, none⟩) 2 2) [ma0, ma1] := ⟨some ⟨w1.heap.size, 0, none⟩, 2, rfl, Nat.le_refl _, fun _ => ⟨w1.heap.size, 0, rfl, fun j hj => by
    have hj2 : j < 2 := hj
    rcases (by omega : j = 0 ∨ j = 1) with rfl | rfl
    · refine ⟨?_, ?_⟩ <;> (rw [Lib.cell_of_heap (heap_alloc_new w1 _)]; rfl)
    · refine ⟨?_, ?_⟩ <;> (rw [Lib.cell_of_heap (heap_alloc_new w1 _)]; rfl)⟩⟩
  have HBU := hid (build_good (smQ g) smL [ma0, ma1] _ _ A m _ (by decide) (by decide) sm_sh (HS.out.below hB1) (hix.below hBa) hms (sm_chkG2 g))
  have HB1 := hid hB1
  clear hix hb hBa hms hB1
  go_wp2_with fail
  refine HBU.out.mono ?_
  rintro e w2 ⟨u, E, rfl, hbt, hM⟩
  obtain rfl := sm_bt hbt
  have HB2 := hid (HB1.out.trans (hM.1.mono HB1.out.size))
  have hms := hM.ms
  obtain ⟨_, ua, uc, rfl, huc, hk⟩ := hM
  obtain ⟨ug, rfl, hmw⟩ : ∃ g, ua = some ⟨g, 0, none⟩ ∧ Mw _ w2 g [ma1, mb0] := by
    rcases hk with ⟨h, _⟩ | h
    · cases h
    · exact h
  have k0 : w2.cell? ⟨ug, 0, none⟩ = some (.string ⟨#[97]⟩) := hmw.c0 0 (by decide)
  have k1 : w2.cell? ⟨ug, 1, none⟩ = some (.string ⟨#[118, 49, 46, 49, 46, 48]⟩) := hmw.c1 0 (by decide)
  have hm1 : MsAt w2 (.slice (some ⟨ug, 0, none⟩) 1 uc) [ma1] := ⟨_, uc, rfl, by have h2 : 2 ≤ uc := huc; show 1 ≤ uc; omega, fun _ => ⟨ug, 0, rfl, fun j hj => by
    have hj2 : j < 1 := hj
    obtain rfl : j = 0 := by omega
    exact ⟨k0, k1⟩⟩⟩
  have HUN := hid (und_any [ma1] [ma1, mb0] _ _ A m w2 (by decide) (by decide) (fun x hx => by rw [List.mem_singleton.1 hx]; decide) (fun x hx => by
    rcases List.mem_cons.1 hx with rfl | hx
    · decide
    · rw [List.mem_singleton.1 hx]; decide) (HS.out.below HB2.out) hm1 hms)
  have hub : undB [ma1] [ma1, mb0] = true := by kernel_rfl
  rw [hub, show ([ma1, mb0] : List Bm).length = 2 from rfl] at HUN
  have s1 : ((⟨#[118, 49, 46, 49, 46, 48]⟩ : ByteArray).toList == (⟨#[118, 49, 46, 49, 46, 48]⟩ : ByteArray).toList) = true := by simp
  have huc2 : (2 : Int) ≤ (uc : Int) := by have h2 : 2 ≤ uc := huc; omega
  have huc1 : (1 : Int) ≤ (uc : Int) := by omega
  clear hbt hk hmw hms hm1 hub HBU
  go_wp2_with fail
  refine HUN.out.mono ?_
  rintro e w3 ⟨rfl, hb⟩
  have HB3 := hid (HB2.out.trans (hb.mono HB2.out.size))
  clear hb
  go_wp2_with fail
  go_ret
  exact ⟨rfl, HB3.out⟩
end Ve
end Go.Proofs.YtffjaliegglddaaGreatDoor

/-
  Elements, suffixes and slashes (plain): an element told byte by byte; the last slash; the text in two. No Go here.
-/
namespace Go.Proofs.YtffjaliegglddaaGreatDoor
namespace Ve

theorem dw_nil (p : UInt8 → Bool) : ∀ l : List UInt8, l.dropWhile p = [] ↔ ∀ x, x ∈ l → p x = true
  | [] => by simp
  | b :: r => by
    rw [List.dropWhile_cons]
    cases hb : p b
    · simp [hb]
    · simp [hb, dw_nil p r]
theorem trim_nil (l : List UInt8) : (Lib.trimB l 46 == []) = l.all (· == 46) := by
  have key : Lib.trimB l 46 = [] ↔ ∀ x, x ∈ l → x = 46 := by
    unfold Lib.trimB Lib.trimLeftB Lib.trimRightB
    constructor
    · intro h x hx
      have h1 : ∀ y, y ∈ (l.reverse.dropWhile (· == 46)).reverse → y = 46 := by
        intro y hy
        have := (dw_nil _ _).1 h y hy
        simpa using this
      have h2 : l.reverse.dropWhile (· == 46) = [] := by
        cases e : l.reverse.dropWhile (· == 46) with
        | nil => rfl
        | cons b r =>
          exfalso
          have hb : b = 46 := h1 b (by rw [e]; simp)
          have := List.head_dropWhile_not (· == 46) (l := l.reverse) (by rw [e]; simp)
          simp [e, hb] at this
      have := (dw_nil _ _).1 h2 x (by simpa using hx)
      simpa using this
    · intro h
      have h2 : l.reverse.dropWhile (· == 46) = [] := (dw_nil _ _).2 (fun x hx => by simpa using h x (by simpa using hx))
      rw [h2]; rfl
  rw [Bool.eq_iff_iff]
  simp only [beq_iff_eq, key, List.all_eq_true]
theorem three_iff (l : List UInt8) : Lib.contains l [46, 46, 46] = true ↔ ∃ k, 2 ≤ k ∧ k < l.length ∧ (l.drop (k - 2)).take 3 = [46, 46, 46] := by
  have hocc : ∀ i, Lib.occAt l [46, 46, 46] i = true ↔ (l.drop i).take 3 = [46, 46, 46] := by
    intro i
    unfold Lib.occAt
    rw [List.isPrefixOf_iff_prefix]
    constructor
    · rintro ⟨t, ht⟩
      rw [← ht]; rfl
    · intro h
      exact ⟨(l.drop i).drop 3, by rw [← h, List.take_append_drop]⟩
  unfold Lib.contains
  rw [decide_eq_true_iff]
  rcases Lib.index_spec l [46, 46, 46] with ⟨h1, h2⟩ | ⟨i, h1, h2, h3, h4⟩
  · constructor
    · intro h; omega
    · rintro ⟨k, hk2, hkl, h⟩
      have := h2 (k - 2) (by omega)
      rw [(hocc (k - 2)).2 h] at this
      cases this
  · constructor
    · intro _
      have h5 := (hocc i).1 h3
      have h6 := congrArg List.length h5
      simp at h6
      exact ⟨i + 2, by omega, by omega, by simpa using h5⟩
    · intro _; omega
/-- What an element's bytes up to k have shown: all may be there, no three dots. -/
def seenOk (l : List UInt8) (k : Nat) : Prop := (l.take k).all el = true ∧ ∀ j, 2 ≤ j → j < k → (l.drop (j - 2)).take 3 ≠ [46, 46, 46]
theorem seen_all {l : List UInt8} (h : seenOk l l.length) : elemOk l = !l.all (· == 46) := by
  unfold elemOk
  rw [trim_nil]
  have h1 : allEl l = true := by have := h.1; rw [List.take_length] at this; exact this
  have h2 : Lib.contains l [46, 46, 46] = false := by
    cases e : Lib.contains l [46, 46, 46]
    · rfl
    · obtain ⟨k, a, b, c⟩ := (three_iff l).1 e
      exact absurd c (h.2 k a b)
  rw [h1, h2]; simp
theorem seen_bad {l : List UInt8} {k : Nat} (hk : k < l.length) (h : el l[k] = false) : elemOk l = false := by
  have : allEl l = false := by
    cases e : allEl l
    · rfl
    · have := List.all_eq_true.1 e l[k] (List.getElem_mem hk)
      rw [h] at this; cases this
  unfold elemOk
  rw [this]; simp
theorem seen_three {l : List UInt8} {k : Nat} (h2 : 2 ≤ k) (hk : k < l.length) (h : (l.drop (k - 2)).take 3 = [46, 46, 46]) : elemOk l = false := by
  have : Lib.contains l [46, 46, 46] = true := (three_iff l).2 ⟨k, h2, hk, h⟩
  unfold elemOk
  rw [this]; simp
theorem seen_next {l : List UInt8} {k : Nat} (hs : seenOk l k) (hk : k < l.length) (h : el l[k] = true) (h3 : 2 ≤ k → (l.drop (k - 2)).take 3 ≠ [46, 46, 46]) : seenOk l (k + 1) := by
  refine ⟨?_, fun j h2 hj => ?_⟩
  · rw [List.take_succ_eq_append_getElem hk, all_snoc, hs.1, h]; rfl
  · by_cases e : j = k
    · subst e; exact h3 h2
    · exact hs.2 j h2 (by omega)
theorem dots_next {l : List UInt8} {k : Nat} (hk : k < l.length) : (l.take (k + 1)).all (· == 46) = ((l.take k).all (· == 46) && l[k] == 46) := by
  rw [List.take_succ_eq_append_getElem hk, all_snoc]

/-- suffixOf: the number of a suffix; nought: none; -1: like one, and none. -/
def sufV (l : List UInt8) : Int := if likeB l then (if sufOk l then (num (restOf l)).1 else -1) else 0
theorem suf_pos {l : List UInt8} (h : sufOk l = true) : 2 ≤ (num (restOf l)).1 := by
  unfold sufOk at h
  simp only [Bool.and_eq_true, decide_eq_true_eq] at h
  exact h.2

theorem cut_app (c : UInt8) (b : List UInt8) (hb : b.contains c = false) : ∀ a : List UInt8, cutAt c (a ++ c :: b) = cutAt c a ++ [b]
  | [] => by
    show cutAt c (c :: b) = [[]] ++ [b]
    rw [cutAt, if_pos rfl, cut_last c b hb]; rfl
  | x :: a => by
    show cutAt c (x :: (a ++ c :: b)) = cutAt c (x :: a) ++ [b]
    rw [cutAt, cutAt, cut_app c b hb a]
    by_cases hx : x = c
    · rw [if_pos hx, if_pos hx]; rfl
    · rw [if_neg hx, if_neg hx]
      cases e : cutAt c a with
      | nil => exact absurd e (cutAt_ne c a)
      | cons y r => rfl
theorem slash_split {l : List UInt8} {k : Nat} (hk : k < l.length) (h : l[k] = 47) (hn : ∀ j (hj : j < l.length), k < j → l[j] ≠ 47) :
    elems l = elems (l.take k) ++ [l.drop (k + 1)] := by
  have hb : (l.drop (k + 1)).contains 47 = false := by
    cases e : (l.drop (k + 1)).contains 47
    · rfl
    · exfalso
      have hm : (47 : UInt8) ∈ l.drop (k + 1) := by simpa using e
      obtain ⟨i, hi, e2⟩ := List.mem_iff_getElem.1 hm
      rw [List.getElem_drop] at e2
      exact hn (k + 1 + i) (by simp at hi; omega) (by omega) e2
  have e1 : l = l.take k ++ 47 :: l.drop (k + 1) := by
    have h2 := List.take_append_drop k l
    rw [← List.getElem_cons_drop (h := hk), h] at h2
    exact h2.symm
  have h3 := cut_app 47 (l.drop (k + 1)) hb (l.take k)
  rw [← e1] at h3
  exact h3
theorem slash_last {l : List UInt8} {k : Nat} (h : elems l = elems (l.take k) ++ [l.drop (k + 1)]) : 1 < (elems l).length ∧ lastOf l = l.drop (k + 1) ∧ Lib.join ((elems l).take ((elems l).length - 1)) [47] = l.take k := by
  have hp := elems_pos (l.take k)
  have hl : (elems l).length = (elems (l.take k)).length + 1 := by rw [h]; simp
  refine ⟨by omega, ?_, ?_⟩
  · unfold lastOf
    rw [hl, h]
    simp
  · rw [hl, h]
    simp only [Nat.add_sub_cancel, List.take_left']
    exact join_cut 47 _
theorem slash_none {l : List UInt8} (hn : ∀ j (hj : j < l.length), l[j] ≠ 47) : elems l = [l] := by
  refine cut_last 47 l ?_
  cases e : l.contains 47
  · rfl
  · exfalso
    have hm : (47 : UInt8) ∈ l := by simpa using e
    obtain ⟨i, hi, e2⟩ := List.mem_iff_getElem.1 hm
    exact hn i hi e2

theorem cut_len (c : UInt8) : ∀ l : List UInt8, (cutAt c l).length = l.count c + 1
  | [] => by simp [cutAt]
  | b :: l => by
    unfold cutAt
    by_cases h : b = c
    · rw [if_pos h, h, List.count_cons_self]; simp [cut_len c l]
    · rw [if_neg h, ahead_len b _ (cutAt_ne c l), cut_len c l, List.count_cons_of_ne (by simpa using h)]
theorem cut_two (c : UInt8) (l : List UInt8) (h : l.count c = 1) : cutAt c l = [(one c l).1, (one c l).2.1] := by
  have hm : c ∈ l := List.count_pos_iff.1 (by omega)
  have h2 : (one c l).2.2 = true := by show l.contains c = true; simpa using hm
  have hb := one_back h2
  have hn : (one c l).1.contains c = false := by
    obtain ⟨j, hj, _, hlt, e1, _⟩ := one_yes (c := c) (l := l) h2
    rw [e1]
    cases e : (l.take j).contains c
    · rfl
    · exfalso
      have hm : c ∈ l.take j := by simpa using e
      obtain ⟨i, hi, e2⟩ := List.mem_iff_getElem.1 hm
      rw [List.getElem_take] at e2
      simp at hi
      exact hlt i (by omega) (by omega) e2
  have hn2 : (one c l).2.1.contains c = false := by
    cases e : (one c l).2.1.contains c
    · rfl
    · exfalso
      have hm : c ∈ (one c l).2.1 := by simpa using e
      have := List.count_pos_iff.2 hm
      rw [hb, List.count_append, List.count_cons_self] at h
      omega
  have h3 : cutAt c ((one c l).1 ++ c :: (one c l).2.1) = [(one c l).1, (one c l).2.1] := by
    rw [cut_step c _ _ hn, cut_last c _ hn2]
  rw [← hb] at h3
  exact h3
end Ve
end Go.Proofs.YtffjaliegglddaaGreatDoor

/-
  What the document's answer says of an element's suffix (suffixOf).
-/
namespace Go.Proofs.YtffjaliegglddaaGreatDoor
open Go.RowKit
namespace Ve

theorem rcut47 (s : ByteArray) (w : World) (hs : s.size < 4294967281) :
    Calls Tryz.prog 66 #[.string s, .int .u8 47] w fun e w' => ∃ v X, e = .returned v ∧ bl X = elems s.data.toList ∧ w'.ownsRow w.heap.size 9 1 v X.length (X.map Value.string) ∧ Below w.heap.size w w' := rcut_any s 47 w hs
theorem rcut64 (s : ByteArray) (w : World) (hs : s.size < 4294967281) :
    Calls Tryz.prog 66 #[.string s, .int .u8 64] w fun e w' => ∃ v X, e = .returned v ∧ bl X = cutAt 64 s.data.toList ∧ w'.ownsRow w.heap.size 9 1 v X.length (X.map Value.string) ∧ Below w.heap.size w w' := rcut_any s 64 w hs

theorem unmarked {s : ByteArray} (hp : 0 < s.size) (h : marked s.data.toList = false) : ((s[0].toNat : Int) == 118) = false := by
  unfold marked at h
  rw [List.headD_eq_head?_getD, List.head?_eq_getElem?, List.getElem?_eq_getElem (by simpa using hp)] at h
  simp only [Option.getD_some, beq_eq_false_iff_ne] at h
  have h2 : s[0] ≠ 118 := h
  refine beq_eq_false_iff_ne.2 fun e => h2 ?_
  apply UInt8.toNat_inj.1
  have : (118 : UInt8).toNat = 118 := rfl
  omega

set_option maxHeartbeats 1000000 in
theorem suffixOf_any (s : ByteArray) (w : World) (hs : s.size ≤ maxLen) :
    Calls Tryz.prog 67 #[.string s] w fun e w' => e = .returned (.int .i64 (sufV s.data.toList)) ∧ w' = w := by
  have HV := hid (show sufV s.data.toList = if likeB s.data.toList then (if sufOk s.data.toList then (num (restOf s.data.toList)).1 else -1) else 0 from rfl)
  have HO := hid (show sufOk s.data.toList = (decide ((num (restOf s.data.toList)).2 = 0) && decide (2 ≤ (num (restOf s.data.toList)).1)) from rfl)
  have HL := hid (show likeB s.data.toList = (marked s.data.toList && digs (restOf s.data.toList)) from rfl)
  have hsz : s.size ≤ 9223372036854775807 := hs
  by_cases h2 : s.size < 2
  · have hk : likeB s.data.toList = false := by
      rw [HL.out]
      cases hm : marked s.data.toList
      · rfl
      · have hd : restOf s.data.toList = [] := by rw [rest_drop hm]; exact List.length_eq_zero_iff.1 (by simp; omega)
        rw [hd]; rfl
    rw [hk] at HV
    clear hk
    go_enter Tryz.func67, Tryz.ntmps67
    go_wp2_with fail
    go_ret
    exact ⟨by rw [HV.out]; rfl, rfl⟩
  · have hpos : 0 < s.size := by omega
    cases hm : marked s.data.toList
    · have h0 := unmarked hpos hm
      rw [HL.out, hm] at HV
      clear hm
      go_enter Tryz.func67, Tryz.ntmps67
      go_wp2_with fail
      go_ret
      exact ⟨by rw [HV.out]; rfl, rfl⟩
    · obtain ⟨_, h0⟩ := marked_pos hm
      have HT := hid (show (s.extract 1 s.size).data.toList = restOf s.data.toList by rw [ext_drop, rest_drop hm])
      have hTs : (s.extract 1 s.size).size ≤ maxLen := by rw [ByteArray.size_extract]; unfold maxLen; omega
      have HA := hid (areDigits_any (s.extract 1 s.size) w hTs)
      have HN := hid (numberOf_any (s.extract 1 s.size) w hTs)
      rw [HT.out] at HA HN
      rw [hm] at HL
      have h1k : (1 : Int) ≤ (s.size : Int) := by omega
      generalize restOf s.data.toList = r at *
      clear hm
      cases hd : digs r
      · rw [hd] at HA HL
        rw [HL.out] at HV
        clear hd
        go_enter Tryz.func67, Tryz.ntmps67
        go_wp2_with fail
        refine HA.out.mono ?_
        rintro e w' ⟨rfl, rfl⟩
        go_wp2_with fail
        go_ret
        exact ⟨by rw [HV.out]; rfl, rfl⟩
      · rw [hd] at HA HL
        rw [HL.out] at HV
        clear hd
        by_cases he : (num r).2 = 0
        · rw [decide_eq_true he] at HO
          have hz : ((num r).2 : Int) = 0 := by omega
          have hz2 : ¬ (0 : Int) < ((num r).2 : Int) := by omega
          rw [hz] at HN
          clear hz he
          by_cases hn : (num r).1 < 2
          · rw [decide_eq_false (show ¬ 2 ≤ (num r).1 by omega)] at HO
            rw [HO.out] at HV
            generalize (num r).1 = n at *
            go_enter Tryz.func67, Tryz.ntmps67
            go_wp2_with fail
            refine HA.out.mono ?_
            rintro e w' ⟨rfl, rfl⟩
            go_wp2_with fail
            refine HN.out.mono ?_
            rintro e w' ⟨rfl, rfl⟩
            go_wp2_with fail
            go_ret
            exact ⟨by rw [HV.out]; rfl, rfl⟩
          · rw [decide_eq_true (show 2 ≤ (num r).1 by omega)] at HO
            rw [HO.out] at HV
            generalize (num r).1 = n at *
            go_enter Tryz.func67, Tryz.ntmps67
            go_wp2_with fail
            refine HA.out.mono ?_
            rintro e w' ⟨rfl, rfl⟩
            go_wp2_with fail
            refine HN.out.mono ?_
            rintro e w' ⟨rfl, rfl⟩
            go_wp2_with fail
            go_ret
            exact ⟨by rw [HV.out]; rfl, rfl⟩
        · rw [decide_eq_false he, Bool.false_and] at HO
          rw [HO.out] at HV
          have hz : (0 : Int) < ((num r).2 : Int) := by omega
          generalize ((num r).2 : Int) = c at *
          generalize (num r).1 = n at *
          clear he
          go_enter Tryz.func67, Tryz.ntmps67
          go_wp2_with fail
          refine HA.out.mono ?_
          rintro e w' ⟨rfl, rfl⟩
          go_wp2_with fail
          refine HN.out.mono ?_
          rintro e w' ⟨rfl, rfl⟩
          go_wp2_with fail
          go_ret
          exact ⟨by rw [HV.out]; rfl, rfl⟩
end Ve
end Go.Proofs.YtffjaliegglddaaGreatDoor

/-
  What the document's answer says of a path (PathError).
-/
namespace Go.Proofs.YtffjaliegglddaaGreatDoor
open Go.RowKit
namespace Ve

theorem bad_one {l : List UInt8} {e : List UInt8} (h : e ∈ elems l) (hb : elemOk e = false) : pathErr l = 1 := by
  have : badE l = true := List.any_eq_true.2 ⟨e, h, by rw [hb]; rfl⟩
  unfold pathErr; rw [this]; rfl
theorem bad_none {l : List UInt8} (h : (elems l).all elemOk = true) : badE l = false := by
  unfold badE
  rw [List.any_eq_false]
  intro x hx
  rw [List.all_eq_true.1 h x hx]; decide
theorem path_2 {l : List UInt8} (h : (elems l).all elemOk = true) (h2 : longE l = true) : pathErr l = 2 := by
  unfold pathErr; rw [bad_none h, h2]; rfl
theorem path_4 {l : List UInt8} (h : (elems l).all elemOk = true) (h2 : longE l = false) (h1 : 1 < (elems l).length) (hs : sufV (lastOf l) < 0) : pathErr l = 4 := by
  unfold sufV at hs
  cases hk : likeB (lastOf l)
  · rw [hk] at hs; simp at hs
  · rw [hk] at hs
    cases ho : sufOk (lastOf l)
    · have hu : sufE l = true := by unfold sufE; rw [hk, decide_eq_true h1]; rfl
      unfold pathErr; rw [bad_none h, h2, hu, ho]; rfl
    · rw [ho] at hs
      have := suf_pos ho
      simp at hs; omega
theorem path_0 {l : List UInt8} (h : (elems l).all elemOk = true) (h2 : longE l = false) (h1 : 1 < (elems l).length) (hs : ¬ sufV (lastOf l) < 0) : pathErr l = 0 := by
  unfold sufV at hs
  cases hk : likeB (lastOf l)
  · have hu : sufE l = false := by unfold sufE; rw [hk]; simp
    unfold pathErr; rw [bad_none h, h2, hu]; rfl
  · rw [hk] at hs
    have hu : sufE l = true := by unfold sufE; rw [hk, decide_eq_true h1]; rfl
    cases ho : sufOk (lastOf l)
    · rw [ho] at hs; simp at hs
    · unfold pathErr; rw [bad_none h, h2, hu, ho]; rfl
theorem path_00 {l : List UInt8} (h : (elems l).all elemOk = true) (h2 : longE l = false) (h1 : ¬ 1 < (elems l).length) : pathErr l = 0 := by
  have hu : sufE l = false := by unfold sufE; rw [decide_eq_false h1]; rfl
  unfold pathErr; rw [bad_none h, h2, hu]; rfl
theorem el_is (c : UInt8) : el c = (decide (97 ≤ (c.toNat : Int) ∧ (c.toNat : Int) ≤ 122) || decide (48 ≤ (c.toNat : Int) ∧ (c.toNat : Int) ≤ 57) || (c.toNat : Int) == 46 || (c.toNat : Int) == 45 || (c.toNat : Int) == 95) := rfl
theorem dot_is (c : UInt8) : (c == 46) = ((c.toNat : Int) == 46) := by
  rw [Bool.eq_iff_iff]
  simp only [beq_iff_eq]
  have : (46 : UInt8).toNat = 46 := rfl
  constructor
  · intro h; rw [h]; rfl
  · intro h; exact UInt8.toNat_inj.1 (by omega)

set_option maxRecDepth 100000 in
set_option maxHeartbeats 16000000 in
theorem pathError_any (s : ByteArray) (w : World) (hs : s.size < 4294967281) :
    Calls Tryz.prog 44 #[.string s] w fun e w' => e = .returned (.int .i64 (pathErr s.data.toList : Nat)) ∧ Below w.heap.size w w' := by
  go_enter Tryz.func44, Tryz.ntmps44
  go_wp2_with fail
  refine (rcut47 s w hs).mono ?_
  rintro e w1 ⟨v, X, rfl, hX, hown, hb⟩
  have HX := hid hX
  have HB := hid hb
  have HXN := hid (show X ≠ [] from fun h => by subst h; exact cutAt_ne _ _ hX.symm)
  obtain ⟨g, cap, rfl, hg, hgz, hcells⟩ := owned_cells hown HXN.out
  have HCE := hid hcells
  have hXle := many_le hX
  have HXZ := hid (show ∀ x, x ∈ X → x.size ≤ maxLen from fun x hx => by have := piece_le hX hx; unfold maxLen; omega)
  have HXL := hid (show (elems s.data.toList).length = X.length by rw [← hX, bl_len])
  have HPOS := hid (show 0 < X.length from List.length_pos_iff.2 HXN.out)
  have HLE := hid (show longE s.data.toList = (decide (5 < (X.length : Int)) || (bl X).any long) by
    unfold longE
    rw [← hX, bl_len]
    congr 1
    rw [decide_eq_decide]; omega)
  have HLA := hid (fun hp => last_get hX hp)
  clear hX hown hb hg hgz hcells
  generalize hlg : decide (5 < (X.length : Int)) = lg at *
  go_wp2_with fail
  go_loop [4, 5] (fun lo i => ∃ k : Nat, k ≤ X.length ∧ i = .int .i64 k ∧ lo = .bool (lg || (bl (X.take k)).any long) ∧ Hid ((bl (X.take k)).all elemOk = true)) (fun _ i => X.length - (intOf i).toNat)
  case atStart => exact ⟨0, Nat.zero_le _, rfl, by simp [bl], hid (by simp [bl])⟩
  case round =>
    obtain ⟨k, hk, rfl, rfl, HOK⟩ := hrel
    generalize hbj : (lg || (bl (X.take k)).any long) = bj at *
    have HBJ := hid hbj
    clear hbj
    by_cases hkX : k < X.length
    · have hcell := HCE.out k hkX
      have HPZ := hid (HXZ.out X[k] (List.getElem_mem hkX))
      have HXJ := hid (bl_take_snoc X k hkX)
      have HMEM := hid (show X[k].data.toList ∈ elems s.data.toList by rw [← HX.out]; exact bl_mem (List.getElem_mem hkX))
      generalize X[k] = p at *
      have hpz : p.size ≤ 9223372036854775807 := HPZ.out
      go_wp2_with fail
      go_loop [6, 7, 8, 9, 10] (fun dt i _ _ _ => ∃ y : Nat, y ≤ p.size ∧ i = .int .i64 y ∧ dt = .bool ((p.data.toList.take y).all (· == 46)) ∧ Hid (seenOk p.data.toList y)) (fun _ i _ _ _ => p.size - (intOf i).toNat)
      case atStart => exact ⟨0, Nat.zero_le _, rfl, rfl, hid ⟨rfl, fun j _ h => absurd h (Nat.not_lt_zero j)⟩⟩
      case round =>
        obtain ⟨y, hy, rfl, rfl, HSE⟩ := hrel
        generalize hdt : (p.data.toList.take y).all (· == 46) = dt at *
        have HDT := hid hdt
        clear hdt
        by_cases hyl : y < p.size
        · have hyb := p[y].toNat_lt
          have HLL := hid (show y < p.data.toList.length by simpa using hyl)
          have HPY := hid (show p.data.toList[y]'(by simpa using hyl) = p[y] from rfl)
          have HEL := hid (el_is p[y])
          have HDI := hid (dot_is p[y])
          have HDN := hid (dots_next (l := p.data.toList) (k := y) (by simpa using hyl))
          rw [HPY.out, HDT.out, HDI.out] at HDN
          have HBAD := hid (show el p[y] = false → pathErr s.data.toList = 1 from fun h => bad_one HMEM.out (seen_bad (k := y) (by simpa using hyl) h))
          have HTHREE := hid (show 2 ≤ y → (p.data.toList.drop (y - 2)).take 3 = [46, 46, 46] → pathErr s.data.toList = 1 from fun h2 h => bad_one HMEM.out (seen_three h2 (by simpa using hyl) h))
          have HNEXT := hid (show el p[y] = true → (2 ≤ y → (p.data.toList.drop (y - 2)).take 3 ≠ [46, 46, 46]) → seenOk p.data.toList (y + 1) from fun h h3 => seen_next HSE.out (by simpa using hyl) h h3)
          have HRG := hid (show (p[y].toNat : Int) < 45 ∨ (p[y].toNat : Int) = 45 ∨ (p[y].toNat : Int) = 46 ∨ (p[y].toNat : Int) = 47 ∨ (48 ≤ (p[y].toNat : Int) ∧ (p[y].toNat : Int) ≤ 57) ∨ (57 < (p[y].toNat : Int) ∧ (p[y].toNat : Int) < 95) ∨ (p[y].toNat : Int) = 95 ∨ (p[y].toNat : Int) = 96 ∨ (97 ≤ (p[y].toNat : Int) ∧ (p[y].toNat : Int) ≤ 122) ∨ 122 < (p[y].toNat : Int) by omega)
          have HEXT := hid (show 2 ≤ y → (p.extract (y - 2) (y + 1)).data.toList = (p.data.toList.drop (y - 2)).take 3 from fun h2 => by rw [extract_list, show y + 1 - (y - 2) = 3 by omega])
          clear hyb
          rcases HRG.out with hr | hr | hr | hr | hr | hr | hr | hr | hr | hr
          · have a1 : ¬ 97 ≤ (p[y].toNat : Int) := by omega
            have a2 : (p[y].toNat : Int) ≤ 122 := by omega
            have d1 : ¬ 48 ≤ (p[y].toNat : Int) := by omega
            have d2 : (p[y].toNat : Int) ≤ 57 := by omega
            have e1 : ((p[y].toNat : Int) == 46) = false := beq_eq_false_iff_ne.2 (by omega)
            have e1p : ¬ (p[y].toNat : Int) = 46 := by omega
            have e1n : ((p[y].toNat : Int) != 46) = true := by rw [bne, e1]; rfl
            have e2 : ((p[y].toNat : Int) == 45) = false := beq_eq_false_iff_ne.2 (by omega)
            have e2p : ¬ (p[y].toNat : Int) = 45 := by omega
            have e2n : ((p[y].toNat : Int) != 45) = true := by rw [bne, e2]; rfl
            have e3 : ((p[y].toNat : Int) == 95) = false := beq_eq_false_iff_ne.2 (by omega)
            have e3p : ¬ (p[y].toNat : Int) = 95 := by omega
            have e3n : ((p[y].toNat : Int) != 95) = true := by rw [bne, e3]; rfl
            have HRES := hid (HBAD.out (by rw [HEL.out]; simp; omega))
            have D5 := hid (show ∀ h : ¬ (p[y].toNat : Int) ≤ 57, decide ((p[y].toNat : Int) ≤ 57) = false from fun h => decide_eq_false h)
            have D9 := hid (show ∀ h : ¬ (p[y].toNat : Int) ≤ 122, decide ((p[y].toNat : Int) ≤ 122) = false from fun h => decide_eq_false h)
            clear hr
            go_wp2_with fail
            all_goals first
              | (go_ret; exact ⟨by rw [HRES.out]; rfl, HB.out⟩)
              | exact absurd ‹((((p[y].toNat : Int) != 46) = false ∨ ((p[y].toNat : Int) != 45) = false) ∨ ((p[y].toNat : Int) != 95) = false)› (by rw [e1n, e2n, e3n]; decide)
              | exact absurd ‹((((!decide ((p[y].toNat : Int) ≤ 57)) = false ∨ ((p[y].toNat : Int) != 46) = false) ∨ ((p[y].toNat : Int) != 45) = false) ∨ ((p[y].toNat : Int) != 95) = false)› (by rw [e1n, e2n, e3n, D5.out (by omega)]; decide)
              | exact absurd ‹(((((!decide ((p[y].toNat : Int) ≤ 122)) = false ∨ (!decide ((p[y].toNat : Int) ≤ 57)) = false) ∨ ((p[y].toNat : Int) != 46) = false) ∨ ((p[y].toNat : Int) != 45) = false) ∨ ((p[y].toNat : Int) != 95) = false)› (by rw [e1n, e2n, e3n, D5.out (by omega), D9.out (by omega)]; decide)
          · have a1 : ¬ 97 ≤ (p[y].toNat : Int) := by omega
            have a2 : (p[y].toNat : Int) ≤ 122 := by omega
            have d1 : ¬ 48 ≤ (p[y].toNat : Int) := by omega
            have d2 : (p[y].toNat : Int) ≤ 57 := by omega
            have e1 : ((p[y].toNat : Int) == 46) = false := beq_eq_false_iff_ne.2 (by omega)
            have e1p : ¬ (p[y].toNat : Int) = 46 := by omega
            have e1n : ((p[y].toNat : Int) != 46) = true := by rw [bne, e1]; rfl
            have e2 : ((p[y].toNat : Int) == 45) = true := beq_iff_eq.2 (by omega)
            have e2p : (p[y].toNat : Int) = 45 := by omega
            have e2n : ((p[y].toNat : Int) != 45) = false := by rw [bne, e2]; rfl
            have e3 : ((p[y].toNat : Int) == 95) = false := beq_eq_false_iff_ne.2 (by omega)
            have e3p : ¬ (p[y].toNat : Int) = 95 := by omega
            have e3n : ((p[y].toNat : Int) != 95) = true := by rw [bne, e3]; rfl
            have HE1 := hid (show el p[y] = true by rw [HEL.out]; simp; omega)
            clear hr
            cases dt
            · have HDV := hid (show Value.bool false = Value.bool ((p.data.toList.take (y + 1)).all (· == 46)) by rw [HDN.out, e1]; rfl)
              have HDW := hid (show Value.bool false = Value.bool ((p.data.toList.take (y + 1)).all (· == 46)) by rw [HDN.out]; rfl)
              by_cases h2 : 2 ≤ y
              · have h2i : (2 : Int) ≤ (y : Int) := by omega
                have s1 : (0 : Int) ≤ (y : Int) - 2 := by omega
                have s2 : (y : Int) - 2 ≤ (y : Int) + 1 := by omega
                have s3 : (y : Int) + 1 ≤ (p.size : Int) := by omega
                have t1 : ((y : Int) - 2).toNat = y - 2 := by omega
                have h3 : (p.data.toList.drop (y - 2)).take 3 ≠ [46, 46, 46] := fun h => by
                  have h4 := congrArg (fun l => l[2]?) h
                  have h5 : ((p.data.toList.drop (y - 2)).take 3)[2]? = some p[y] := by
                    rw [List.getElem?_take_of_lt (by omega), List.getElem?_drop, show y - 2 + 2 = y by omega, List.getElem?_eq_getElem HLL.out, HPY.out]
                  have h6 : some p[y] = some 46 := h5.symm.trans h4
                  have h7 : p[y] = 46 := Option.some.inj h6
                  have h8 := HDI.out
                  rw [h7] at h8 e1
                  exact absurd e1 (by decide)
                have hx3 : ((p.extract (y - 2) (y + 1)).toList == [46, 46, 46]) = false := by rw [ByteArray.toList_eq, HEXT.out h2]; exact beq_eq_false_iff_ne.2 h3
                have HNX := hid (HNEXT.out HE1.out (fun _ => h3))
                clear h3
                go_wp2_with fail
                go_round
                case rel => first | exact ⟨y + 1, by omega, by go_num, HDV.out, hid (HNX.out)⟩ | exact ⟨y + 1, by omega, by go_num, HDW.out, hid (HNX.out)⟩
                case measure => simp [intOf]; omega
              · have h2i : ¬ (2 : Int) ≤ (y : Int) := by omega
                have HNX := hid (HNEXT.out HE1.out (fun h => absurd h h2))
                go_wp2_with fail
                go_round
                case rel => first | exact ⟨y + 1, by omega, by go_num, HDV.out, hid (HNX.out)⟩ | exact ⟨y + 1, by omega, by go_num, HDW.out, hid (HNX.out)⟩
                case measure => simp [intOf]; omega
            · have HDV := hid (show Value.bool false = Value.bool ((p.data.toList.take (y + 1)).all (· == 46)) by rw [HDN.out, e1]; rfl)
              have HDW := hid (show Value.bool ((p[y].toNat : Int) == 46) = Value.bool ((p.data.toList.take (y + 1)).all (· == 46)) by rw [HDN.out]; rfl)
              by_cases h2 : 2 ≤ y
              · have h2i : (2 : Int) ≤ (y : Int) := by omega
                have s1 : (0 : Int) ≤ (y : Int) - 2 := by omega
                have s2 : (y : Int) - 2 ≤ (y : Int) + 1 := by omega
                have s3 : (y : Int) + 1 ≤ (p.size : Int) := by omega
                have t1 : ((y : Int) - 2).toNat = y - 2 := by omega
                have h3 : (p.data.toList.drop (y - 2)).take 3 ≠ [46, 46, 46] := fun h => by
                  have h4 := congrArg (fun l => l[2]?) h
                  have h5 : ((p.data.toList.drop (y - 2)).take 3)[2]? = some p[y] := by
                    rw [List.getElem?_take_of_lt (by omega), List.getElem?_drop, show y - 2 + 2 = y by omega, List.getElem?_eq_getElem HLL.out, HPY.out]
                  have h6 : some p[y] = some 46 := h5.symm.trans h4
                  have h7 : p[y] = 46 := Option.some.inj h6
                  have h8 := HDI.out
                  rw [h7] at h8 e1
                  exact absurd e1 (by decide)
                have hx3 : ((p.extract (y - 2) (y + 1)).toList == [46, 46, 46]) = false := by rw [ByteArray.toList_eq, HEXT.out h2]; exact beq_eq_false_iff_ne.2 h3
                have HNX := hid (HNEXT.out HE1.out (fun _ => h3))
                clear h3
                go_wp2_with fail
                go_round
                case rel => first | exact ⟨y + 1, by omega, by go_num, HDV.out, hid (HNX.out)⟩ | exact ⟨y + 1, by omega, by go_num, HDW.out, hid (HNX.out)⟩
                case measure => simp [intOf]; omega
              · have h2i : ¬ (2 : Int) ≤ (y : Int) := by omega
                have HNX := hid (HNEXT.out HE1.out (fun h => absurd h h2))
                go_wp2_with fail
                go_round
                case rel => first | exact ⟨y + 1, by omega, by go_num, HDV.out, hid (HNX.out)⟩ | exact ⟨y + 1, by omega, by go_num, HDW.out, hid (HNX.out)⟩
                case measure => simp [intOf]; omega
          · have a1 : ¬ 97 ≤ (p[y].toNat : Int) := by omega
            have a2 : (p[y].toNat : Int) ≤ 122 := by omega
            have d1 : ¬ 48 ≤ (p[y].toNat : Int) := by omega
            have d2 : (p[y].toNat : Int) ≤ 57 := by omega
            have e1 : ((p[y].toNat : Int) == 46) = true := beq_iff_eq.2 (by omega)
            have e1p : (p[y].toNat : Int) = 46 := by omega
            have e1n : ((p[y].toNat : Int) != 46) = false := by rw [bne, e1]; rfl
            have e2 : ((p[y].toNat : Int) == 45) = false := beq_eq_false_iff_ne.2 (by omega)
            have e2p : ¬ (p[y].toNat : Int) = 45 := by omega
            have e2n : ((p[y].toNat : Int) != 45) = true := by rw [bne, e2]; rfl
            have e3 : ((p[y].toNat : Int) == 95) = false := beq_eq_false_iff_ne.2 (by omega)
            have e3p : ¬ (p[y].toNat : Int) = 95 := by omega
            have e3n : ((p[y].toNat : Int) != 95) = true := by rw [bne, e3]; rfl
            have HE1 := hid (show el p[y] = true by rw [HEL.out]; simp; omega)
            clear hr
            cases dt
            · have HDV := hid (show Value.bool false = Value.bool ((p.data.toList.take (y + 1)).all (· == 46)) by rw [HDN.out, e1]; rfl)
              have HDW := hid (show Value.bool false = Value.bool ((p.data.toList.take (y + 1)).all (· == 46)) by rw [HDN.out]; rfl)
              by_cases h2 : 2 ≤ y
              · have h2i : (2 : Int) ≤ (y : Int) := by omega
                have s1 : (0 : Int) ≤ (y : Int) - 2 := by omega
                have s2 : (y : Int) - 2 ≤ (y : Int) + 1 := by omega
                have s3 : (y : Int) + 1 ≤ (p.size : Int) := by omega
                have t1 : ((y : Int) - 2).toNat = y - 2 := by omega
                by_cases h3 : (p.data.toList.drop (y - 2)).take 3 = [46, 46, 46]
                · have hx3 : ((p.extract (y - 2) (y + 1)).toList == [46, 46, 46]) = true := by rw [ByteArray.toList_eq, HEXT.out h2]; exact beq_iff_eq.2 h3
                  have HRES := hid (HTHREE.out h2 h3)
                  clear h3
                  go_wp2_with fail
                  go_ret
                  exact ⟨by rw [HRES.out]; rfl, HB.out⟩
                · have hx3 : ((p.extract (y - 2) (y + 1)).toList == [46, 46, 46]) = false := by rw [ByteArray.toList_eq, HEXT.out h2]; exact beq_eq_false_iff_ne.2 h3
                  have HNX := hid (HNEXT.out HE1.out (fun _ => h3))
                  clear h3
                  go_wp2_with fail
                  go_round
                  case rel => first | exact ⟨y + 1, by omega, by go_num, HDV.out, hid (HNX.out)⟩ | exact ⟨y + 1, by omega, by go_num, HDW.out, hid (HNX.out)⟩
                  case measure => simp [intOf]; omega
              · have h2i : ¬ (2 : Int) ≤ (y : Int) := by omega
                have HNX := hid (HNEXT.out HE1.out (fun h => absurd h h2))
                go_wp2_with fail
                go_round
                case rel => first | exact ⟨y + 1, by omega, by go_num, HDV.out, hid (HNX.out)⟩ | exact ⟨y + 1, by omega, by go_num, HDW.out, hid (HNX.out)⟩
                case measure => simp [intOf]; omega
            · have HDV := hid (show Value.bool true = Value.bool ((p.data.toList.take (y + 1)).all (· == 46)) by rw [HDN.out, e1]; rfl)
              have HDW := hid (show Value.bool ((p[y].toNat : Int) == 46) = Value.bool ((p.data.toList.take (y + 1)).all (· == 46)) by rw [HDN.out]; rfl)
              by_cases h2 : 2 ≤ y
              · have h2i : (2 : Int) ≤ (y : Int) := by omega
                have s1 : (0 : Int) ≤ (y : Int) - 2 := by omega
                have s2 : (y : Int) - 2 ≤ (y : Int) + 1 := by omega
                have s3 : (y : Int) + 1 ≤ (p.size : Int) := by omega
                have t1 : ((y : Int) - 2).toNat = y - 2 := by omega
                by_cases h3 : (p.data.toList.drop (y - 2)).take 3 = [46, 46, 46]
                · have hx3 : ((p.extract (y - 2) (y + 1)).toList == [46, 46, 46]) = true := by rw [ByteArray.toList_eq, HEXT.out h2]; exact beq_iff_eq.2 h3
                  have HRES := hid (HTHREE.out h2 h3)
                  clear h3
                  go_wp2_with fail
                  go_ret
                  exact ⟨by rw [HRES.out]; rfl, HB.out⟩
                · have hx3 : ((p.extract (y - 2) (y + 1)).toList == [46, 46, 46]) = false := by rw [ByteArray.toList_eq, HEXT.out h2]; exact beq_eq_false_iff_ne.2 h3
                  have HNX := hid (HNEXT.out HE1.out (fun _ => h3))
                  clear h3
                  go_wp2_with fail
                  go_round
                  case rel => first | exact ⟨y + 1, by omega, by go_num, HDV.out, hid (HNX.out)⟩ | exact ⟨y + 1, by omega, by go_num, HDW.out, hid (HNX.out)⟩
                  case measure => simp [intOf]; omega
              · have h2i : ¬ (2 : Int) ≤ (y : Int) := by omega
                have HNX := hid (HNEXT.out HE1.out (fun h => absurd h h2))
                go_wp2_with fail
                go_round
                case rel => first | exact ⟨y + 1, by omega, by go_num, HDV.out, hid (HNX.out)⟩ | exact ⟨y + 1, by omega, by go_num, HDW.out, hid (HNX.out)⟩
                case measure => simp [intOf]; omega
          · have a1 : ¬ 97 ≤ (p[y].toNat : Int) := by omega
            have a2 : (p[y].toNat : Int) ≤ 122 := by omega
            have d1 : ¬ 48 ≤ (p[y].toNat : Int) := by omega
            have d2 : (p[y].toNat : Int) ≤ 57 := by omega
            have e1 : ((p[y].toNat : Int) == 46) = false := beq_eq_false_iff_ne.2 (by omega)
            have e1p : ¬ (p[y].toNat : Int) = 46 := by omega
            have e1n : ((p[y].toNat : Int) != 46) = true := by rw [bne, e1]; rfl
            have e2 : ((p[y].toNat : Int) == 45) = false := beq_eq_false_iff_ne.2 (by omega)
            have e2p : ¬ (p[y].toNat : Int) = 45 := by omega
            have e2n : ((p[y].toNat : Int) != 45) = true := by rw [bne, e2]; rfl
            have e3 : ((p[y].toNat : Int) == 95) = false := beq_eq_false_iff_ne.2 (by omega)
            have e3p : ¬ (p[y].toNat : Int) = 95 := by omega
            have e3n : ((p[y].toNat : Int) != 95) = true := by rw [bne, e3]; rfl
            have HRES := hid (HBAD.out (by rw [HEL.out]; simp; omega))
            have D5 := hid (show ∀ h : ¬ (p[y].toNat : Int) ≤ 57, decide ((p[y].toNat : Int) ≤ 57) = false from fun h => decide_eq_false h)
            have D9 := hid (show ∀ h : ¬ (p[y].toNat : Int) ≤ 122, decide ((p[y].toNat : Int) ≤ 122) = false from fun h => decide_eq_false h)
            clear hr
            go_wp2_with fail
            all_goals first
              | (go_ret; exact ⟨by rw [HRES.out]; rfl, HB.out⟩)
              | exact absurd ‹((((p[y].toNat : Int) != 46) = false ∨ ((p[y].toNat : Int) != 45) = false) ∨ ((p[y].toNat : Int) != 95) = false)› (by rw [e1n, e2n, e3n]; decide)
              | exact absurd ‹((((!decide ((p[y].toNat : Int) ≤ 57)) = false ∨ ((p[y].toNat : Int) != 46) = false) ∨ ((p[y].toNat : Int) != 45) = false) ∨ ((p[y].toNat : Int) != 95) = false)› (by rw [e1n, e2n, e3n, D5.out (by omega)]; decide)
              | exact absurd ‹(((((!decide ((p[y].toNat : Int) ≤ 122)) = false ∨ (!decide ((p[y].toNat : Int) ≤ 57)) = false) ∨ ((p[y].toNat : Int) != 46) = false) ∨ ((p[y].toNat : Int) != 45) = false) ∨ ((p[y].toNat : Int) != 95) = false)› (by rw [e1n, e2n, e3n, D5.out (by omega), D9.out (by omega)]; decide)
          · have a1 : ¬ 97 ≤ (p[y].toNat : Int) := by omega
            have a2 : (p[y].toNat : Int) ≤ 122 := by omega
            have d1 : 48 ≤ (p[y].toNat : Int) := by omega
            have d2 : (p[y].toNat : Int) ≤ 57 := by omega
            have e1 : ((p[y].toNat : Int) == 46) = false := beq_eq_false_iff_ne.2 (by omega)
            have e1p : ¬ (p[y].toNat : Int) = 46 := by omega
            have e1n : ((p[y].toNat : Int) != 46) = true := by rw [bne, e1]; rfl
            have e2 : ((p[y].toNat : Int) == 45) = false := beq_eq_false_iff_ne.2 (by omega)
            have e2p : ¬ (p[y].toNat : Int) = 45 := by omega
            have e2n : ((p[y].toNat : Int) != 45) = true := by rw [bne, e2]; rfl
            have e3 : ((p[y].toNat : Int) == 95) = false := beq_eq_false_iff_ne.2 (by omega)
            have e3p : ¬ (p[y].toNat : Int) = 95 := by omega
            have e3n : ((p[y].toNat : Int) != 95) = true := by rw [bne, e3]; rfl
            have HE1 := hid (show el p[y] = true by rw [HEL.out]; simp; omega)
            clear hr
            cases dt
            · have HDV := hid (show Value.bool false = Value.bool ((p.data.toList.take (y + 1)).all (· == 46)) by rw [HDN.out, e1]; rfl)
              have HDW := hid (show Value.bool false = Value.bool ((p.data.toList.take (y + 1)).all (· == 46)) by rw [HDN.out]; rfl)
              by_cases h2 : 2 ≤ y
              · have h2i : (2 : Int) ≤ (y : Int) := by omega
                have s1 : (0 : Int) ≤ (y : Int) - 2 := by omega
                have s2 : (y : Int) - 2 ≤ (y : Int) + 1 := by omega
                have s3 : (y : Int) + 1 ≤ (p.size : Int) := by omega
                have t1 : ((y : Int) - 2).toNat = y - 2 := by omega
                have h3 : (p.data.toList.drop (y - 2)).take 3 ≠ [46, 46, 46] := fun h => by
                  have h4 := congrArg (fun l => l[2]?) h
                  have h5 : ((p.data.toList.drop (y - 2)).take 3)[2]? = some p[y] := by
                    rw [List.getElem?_take_of_lt (by omega), List.getElem?_drop, show y - 2 + 2 = y by omega, List.getElem?_eq_getElem HLL.out, HPY.out]
                  have h6 : some p[y] = some 46 := h5.symm.trans h4
                  have h7 : p[y] = 46 := Option.some.inj h6
                  have h8 := HDI.out
                  rw [h7] at h8 e1
                  exact absurd e1 (by decide)
                have hx3 : ((p.extract (y - 2) (y + 1)).toList == [46, 46, 46]) = false := by rw [ByteArray.toList_eq, HEXT.out h2]; exact beq_eq_false_iff_ne.2 h3
                have HNX := hid (HNEXT.out HE1.out (fun _ => h3))
                clear h3
                go_wp2_with fail
                go_round
                case rel => first | exact ⟨y + 1, by omega, by go_num, HDV.out, hid (HNX.out)⟩ | exact ⟨y + 1, by omega, by go_num, HDW.out, hid (HNX.out)⟩
                case measure => simp [intOf]; omega
              · have h2i : ¬ (2 : Int) ≤ (y : Int) := by omega
                have HNX := hid (HNEXT.out HE1.out (fun h => absurd h h2))
                go_wp2_with fail
                go_round
                case rel => first | exact ⟨y + 1, by omega, by go_num, HDV.out, hid (HNX.out)⟩ | exact ⟨y + 1, by omega, by go_num, HDW.out, hid (HNX.out)⟩
                case measure => simp [intOf]; omega
            · have HDV := hid (show Value.bool false = Value.bool ((p.data.toList.take (y + 1)).all (· == 46)) by rw [HDN.out, e1]; rfl)
              have HDW := hid (show Value.bool ((p[y].toNat : Int) == 46) = Value.bool ((p.data.toList.take (y + 1)).all (· == 46)) by rw [HDN.out]; rfl)
              by_cases h2 : 2 ≤ y
              · have h2i : (2 : Int) ≤ (y : Int) := by omega
                have s1 : (0 : Int) ≤ (y : Int) - 2 := by omega
                have s2 : (y : Int) - 2 ≤ (y : Int) + 1 := by omega
                have s3 : (y : Int) + 1 ≤ (p.size : Int) := by omega
                have t1 : ((y : Int) - 2).toNat = y - 2 := by omega
                have h3 : (p.data.toList.drop (y - 2)).take 3 ≠ [46, 46, 46] := fun h => by
                  have h4 := congrArg (fun l => l[2]?) h
                  have h5 : ((p.data.toList.drop (y - 2)).take 3)[2]? = some p[y] := by
                    rw [List.getElem?_take_of_lt (by omega), List.getElem?_drop, show y - 2 + 2 = y by omega, List.getElem?_eq_getElem HLL.out, HPY.out]
                  have h6 : some p[y] = some 46 := h5.symm.trans h4
                  have h7 : p[y] = 46 := Option.some.inj h6
                  have h8 := HDI.out
                  rw [h7] at h8 e1
                  exact absurd e1 (by decide)
                have hx3 : ((p.extract (y - 2) (y + 1)).toList == [46, 46, 46]) = false := by rw [ByteArray.toList_eq, HEXT.out h2]; exact beq_eq_false_iff_ne.2 h3
                have HNX := hid (HNEXT.out HE1.out (fun _ => h3))
                clear h3
                go_wp2_with fail
                go_round
                case rel => first | exact ⟨y + 1, by omega, by go_num, HDV.out, hid (HNX.out)⟩ | exact ⟨y + 1, by omega, by go_num, HDW.out, hid (HNX.out)⟩
                case measure => simp [intOf]; omega
              · have h2i : ¬ (2 : Int) ≤ (y : Int) := by omega
                have HNX := hid (HNEXT.out HE1.out (fun h => absurd h h2))
                go_wp2_with fail
                go_round
                case rel => first | exact ⟨y + 1, by omega, by go_num, HDV.out, hid (HNX.out)⟩ | exact ⟨y + 1, by omega, by go_num, HDW.out, hid (HNX.out)⟩
                case measure => simp [intOf]; omega
          · have a1 : ¬ 97 ≤ (p[y].toNat : Int) := by omega
            have a2 : (p[y].toNat : Int) ≤ 122 := by omega
            have d1 : 48 ≤ (p[y].toNat : Int) := by omega
            have d2 : ¬ (p[y].toNat : Int) ≤ 57 := by omega
            have e1 : ((p[y].toNat : Int) == 46) = false := beq_eq_false_iff_ne.2 (by omega)
            have e1p : ¬ (p[y].toNat : Int) = 46 := by omega
            have e1n : ((p[y].toNat : Int) != 46) = true := by rw [bne, e1]; rfl
            have e2 : ((p[y].toNat : Int) == 45) = false := beq_eq_false_iff_ne.2 (by omega)
            have e2p : ¬ (p[y].toNat : Int) = 45 := by omega
            have e2n : ((p[y].toNat : Int) != 45) = true := by rw [bne, e2]; rfl
            have e3 : ((p[y].toNat : Int) == 95) = false := beq_eq_false_iff_ne.2 (by omega)
            have e3p : ¬ (p[y].toNat : Int) = 95 := by omega
            have e3n : ((p[y].toNat : Int) != 95) = true := by rw [bne, e3]; rfl
            have HRES := hid (HBAD.out (by rw [HEL.out]; simp; omega))
            have D5 := hid (show ∀ h : ¬ (p[y].toNat : Int) ≤ 57, decide ((p[y].toNat : Int) ≤ 57) = false from fun h => decide_eq_false h)
            have D9 := hid (show ∀ h : ¬ (p[y].toNat : Int) ≤ 122, decide ((p[y].toNat : Int) ≤ 122) = false from fun h => decide_eq_false h)
            clear hr
            go_wp2_with fail
            all_goals first
              | (go_ret; exact ⟨by rw [HRES.out]; rfl, HB.out⟩)
              | exact absurd ‹((((p[y].toNat : Int) != 46) = false ∨ ((p[y].toNat : Int) != 45) = false) ∨ ((p[y].toNat : Int) != 95) = false)› (by rw [e1n, e2n, e3n]; decide)
              | exact absurd ‹((((!decide ((p[y].toNat : Int) ≤ 57)) = false ∨ ((p[y].toNat : Int) != 46) = false) ∨ ((p[y].toNat : Int) != 45) = false) ∨ ((p[y].toNat : Int) != 95) = false)› (by rw [e1n, e2n, e3n, D5.out (by omega)]; decide)
              | exact absurd ‹(((((!decide ((p[y].toNat : Int) ≤ 122)) = false ∨ (!decide ((p[y].toNat : Int) ≤ 57)) = false) ∨ ((p[y].toNat : Int) != 46) = false) ∨ ((p[y].toNat : Int) != 45) = false) ∨ ((p[y].toNat : Int) != 95) = false)› (by rw [e1n, e2n, e3n, D5.out (by omega), D9.out (by omega)]; decide)
          · have a1 : ¬ 97 ≤ (p[y].toNat : Int) := by omega
            have a2 : (p[y].toNat : Int) ≤ 122 := by omega
            have d1 : 48 ≤ (p[y].toNat : Int) := by omega
            have d2 : ¬ (p[y].toNat : Int) ≤ 57 := by omega
            have e1 : ((p[y].toNat : Int) == 46) = false := beq_eq_false_iff_ne.2 (by omega)
            have e1p : ¬ (p[y].toNat : Int) = 46 := by omega
            have e1n : ((p[y].toNat : Int) != 46) = true := by rw [bne, e1]; rfl
            have e2 : ((p[y].toNat : Int) == 45) = false := beq_eq_false_iff_ne.2 (by omega)
            have e2p : ¬ (p[y].toNat : Int) = 45 := by omega
            have e2n : ((p[y].toNat : Int) != 45) = true := by rw [bne, e2]; rfl
            have e3 : ((p[y].toNat : Int) == 95) = true := beq_iff_eq.2 (by omega)
            have e3p : (p[y].toNat : Int) = 95 := by omega
            have e3n : ((p[y].toNat : Int) != 95) = false := by rw [bne, e3]; rfl
            have HE1 := hid (show el p[y] = true by rw [HEL.out]; simp; omega)
            clear hr
            cases dt
            · have HDV := hid (show Value.bool false = Value.bool ((p.data.toList.take (y + 1)).all (· == 46)) by rw [HDN.out, e1]; rfl)
              have HDW := hid (show Value.bool false = Value.bool ((p.data.toList.take (y + 1)).all (· == 46)) by rw [HDN.out]; rfl)
              by_cases h2 : 2 ≤ y
              · have h2i : (2 : Int) ≤ (y : Int) := by omega
                have s1 : (0 : Int) ≤ (y : Int) - 2 := by omega
                have s2 : (y : Int) - 2 ≤ (y : Int) + 1 := by omega
                have s3 : (y : Int) + 1 ≤ (p.size : Int) := by omega
                have t1 : ((y : Int) - 2).toNat = y - 2 := by omega
                have h3 : (p.data.toList.drop (y - 2)).take 3 ≠ [46, 46, 46] := fun h => by
                  have h4 := congrArg (fun l => l[2]?) h
                  have h5 : ((p.data.toList.drop (y - 2)).take 3)[2]? = some p[y] := by
                    rw [List.getElem?_take_of_lt (by omega), List.getElem?_drop, show y - 2 + 2 = y by omega, List.getElem?_eq_getElem HLL.out, HPY.out]
                  have h6 : some p[y] = some 46 := h5.symm.trans h4
                  have h7 : p[y] = 46 := Option.some.inj h6
                  have h8 := HDI.out
                  rw [h7] at h8 e1
                  exact absurd e1 (by decide)
                have hx3 : ((p.extract (y - 2) (y + 1)).toList == [46, 46, 46]) = false := by rw [ByteArray.toList_eq, HEXT.out h2]; exact beq_eq_false_iff_ne.2 h3
                have HNX := hid (HNEXT.out HE1.out (fun _ => h3))
                clear h3
                go_wp2_with fail
                all_goals (try exact absurd (‹((((!decide ((p[y].toNat : Int) ≤ 57)) = true ∧ ((p[y].toNat : Int) != 46) = true) ∧ ((p[y].toNat : Int) != 45) = true) ∧ ((p[y].toNat : Int) != 95) = true)›).2 (by rw [e3n]; decide))
                go_round
                case rel => first | exact ⟨y + 1, by omega, by go_num, HDV.out, hid (HNX.out)⟩ | exact ⟨y + 1, by omega, by go_num, HDW.out, hid (HNX.out)⟩
                case measure => simp [intOf]; omega
              · have h2i : ¬ (2 : Int) ≤ (y : Int) := by omega
                have HNX := hid (HNEXT.out HE1.out (fun h => absurd h h2))
                go_wp2_with fail
                all_goals (try exact absurd (‹((((!decide ((p[y].toNat : Int) ≤ 57)) = true ∧ ((p[y].toNat : Int) != 46) = true) ∧ ((p[y].toNat : Int) != 45) = true) ∧ ((p[y].toNat : Int) != 95) = true)›).2 (by rw [e3n]; decide))
                go_round
                case rel => first | exact ⟨y + 1, by omega, by go_num, HDV.out, hid (HNX.out)⟩ | exact ⟨y + 1, by omega, by go_num, HDW.out, hid (HNX.out)⟩
                case measure => simp [intOf]; omega
            · have HDV := hid (show Value.bool false = Value.bool ((p.data.toList.take (y + 1)).all (· == 46)) by rw [HDN.out, e1]; rfl)
              have HDW := hid (show Value.bool ((p[y].toNat : Int) == 46) = Value.bool ((p.data.toList.take (y + 1)).all (· == 46)) by rw [HDN.out]; rfl)
              by_cases h2 : 2 ≤ y
              · have h2i : (2 : Int) ≤ (y : Int) := by omega
                have s1 : (0 : Int) ≤ (y : Int) - 2 := by omega
                have s2 : (y : Int) - 2 ≤ (y : Int) + 1 := by omega
                have s3 : (y : Int) + 1 ≤ (p.size : Int) := by omega
                have t1 : ((y : Int) - 2).toNat = y - 2 := by omega
                have h3 : (p.data.toList.drop (y - 2)).take 3 ≠ [46, 46, 46] := fun h => by
                  have h4 := congrArg (fun l => l[2]?) h
                  have h5 : ((p.data.toList.drop (y - 2)).take 3)[2]? = some p[y] := by
                    rw [List.getElem?_take_of_lt (by omega), List.getElem?_drop, show y - 2 + 2 = y by omega, List.getElem?_eq_getElem HLL.out, HPY.out]
                  have h6 : some p[y] = some 46 := h5.symm.trans h4
                  have h7 : p[y] = 46 := Option.some.inj h6
                  have h8 := HDI.out
                  rw [h7] at h8 e1
                  exact absurd e1 (by decide)
                have hx3 : ((p.extract (y - 2) (y + 1)).toList == [46, 46, 46]) = false := by rw [ByteArray.toList_eq, HEXT.out h2]; exact beq_eq_false_iff_ne.2 h3
                have HNX := hid (HNEXT.out HE1.out (fun _ => h3))
                clear h3
                go_wp2_with fail
                all_goals (try exact absurd (‹((((!decide ((p[y].toNat : Int) ≤ 57)) = true ∧ ((p[y].toNat : Int) != 46) = true) ∧ ((p[y].toNat : Int) != 45) = true) ∧ ((p[y].toNat : Int) != 95) = true)›).2 (by rw [e3n]; decide))
                go_round
                case rel => first | exact ⟨y + 1, by omega, by go_num, HDV.out, hid (HNX.out)⟩ | exact ⟨y + 1, by omega, by go_num, HDW.out, hid (HNX.out)⟩
                case measure => simp [intOf]; omega
              · have h2i : ¬ (2 : Int) ≤ (y : Int) := by omega
                have HNX := hid (HNEXT.out HE1.out (fun h => absurd h h2))
                go_wp2_with fail
                all_goals (try exact absurd (‹((((!decide ((p[y].toNat : Int) ≤ 57)) = true ∧ ((p[y].toNat : Int) != 46) = true) ∧ ((p[y].toNat : Int) != 45) = true) ∧ ((p[y].toNat : Int) != 95) = true)›).2 (by rw [e3n]; decide))
                go_round
                case rel => first | exact ⟨y + 1, by omega, by go_num, HDV.out, hid (HNX.out)⟩ | exact ⟨y + 1, by omega, by go_num, HDW.out, hid (HNX.out)⟩
                case measure => simp [intOf]; omega
          · have a1 : ¬ 97 ≤ (p[y].toNat : Int) := by omega
            have a2 : (p[y].toNat : Int) ≤ 122 := by omega
            have d1 : 48 ≤ (p[y].toNat : Int) := by omega
            have d2 : ¬ (p[y].toNat : Int) ≤ 57 := by omega
            have e1 : ((p[y].toNat : Int) == 46) = false := beq_eq_false_iff_ne.2 (by omega)
            have e1p : ¬ (p[y].toNat : Int) = 46 := by omega
            have e1n : ((p[y].toNat : Int) != 46) = true := by rw [bne, e1]; rfl
            have e2 : ((p[y].toNat : Int) == 45) = false := beq_eq_false_iff_ne.2 (by omega)
            have e2p : ¬ (p[y].toNat : Int) = 45 := by omega
            have e2n : ((p[y].toNat : Int) != 45) = true := by rw [bne, e2]; rfl
            have e3 : ((p[y].toNat : Int) == 95) = false := beq_eq_false_iff_ne.2 (by omega)
            have e3p : ¬ (p[y].toNat : Int) = 95 := by omega
            have e3n : ((p[y].toNat : Int) != 95) = true := by rw [bne, e3]; rfl
            have HRES := hid (HBAD.out (by rw [HEL.out]; simp; omega))
            have D5 := hid (show ∀ h : ¬ (p[y].toNat : Int) ≤ 57, decide ((p[y].toNat : Int) ≤ 57) = false from fun h => decide_eq_false h)
            have D9 := hid (show ∀ h : ¬ (p[y].toNat : Int) ≤ 122, decide ((p[y].toNat : Int) ≤ 122) = false from fun h => decide_eq_false h)
            clear hr
            go_wp2_with fail
            all_goals first
              | (go_ret; exact ⟨by rw [HRES.out]; rfl, HB.out⟩)
              | exact absurd ‹((((p[y].toNat : Int) != 46) = false ∨ ((p[y].toNat : Int) != 45) = false) ∨ ((p[y].toNat : Int) != 95) = false)› (by rw [e1n, e2n, e3n]; decide)
              | exact absurd ‹((((!decide ((p[y].toNat : Int) ≤ 57)) = false ∨ ((p[y].toNat : Int) != 46) = false) ∨ ((p[y].toNat : Int) != 45) = false) ∨ ((p[y].toNat : Int) != 95) = false)› (by rw [e1n, e2n, e3n, D5.out (by omega)]; decide)
              | exact absurd ‹(((((!decide ((p[y].toNat : Int) ≤ 122)) = false ∨ (!decide ((p[y].toNat : Int) ≤ 57)) = false) ∨ ((p[y].toNat : Int) != 46) = false) ∨ ((p[y].toNat : Int) != 45) = false) ∨ ((p[y].toNat : Int) != 95) = false)› (by rw [e1n, e2n, e3n, D5.out (by omega), D9.out (by omega)]; decide)
          · have a1 : 97 ≤ (p[y].toNat : Int) := by omega
            have a2 : (p[y].toNat : Int) ≤ 122 := by omega
            have d1 : 48 ≤ (p[y].toNat : Int) := by omega
            have d2 : ¬ (p[y].toNat : Int) ≤ 57 := by omega
            have e1 : ((p[y].toNat : Int) == 46) = false := beq_eq_false_iff_ne.2 (by omega)
            have e1p : ¬ (p[y].toNat : Int) = 46 := by omega
            have e1n : ((p[y].toNat : Int) != 46) = true := by rw [bne, e1]; rfl
            have e2 : ((p[y].toNat : Int) == 45) = false := beq_eq_false_iff_ne.2 (by omega)
            have e2p : ¬ (p[y].toNat : Int) = 45 := by omega
            have e2n : ((p[y].toNat : Int) != 45) = true := by rw [bne, e2]; rfl
            have e3 : ((p[y].toNat : Int) == 95) = false := beq_eq_false_iff_ne.2 (by omega)
            have e3p : ¬ (p[y].toNat : Int) = 95 := by omega
            have e3n : ((p[y].toNat : Int) != 95) = true := by rw [bne, e3]; rfl
            have HE1 := hid (show el p[y] = true by rw [HEL.out]; simp; omega)
            clear hr
            cases dt
            · have HDV := hid (show Value.bool false = Value.bool ((p.data.toList.take (y + 1)).all (· == 46)) by rw [HDN.out, e1]; rfl)
              have HDW := hid (show Value.bool false = Value.bool ((p.data.toList.take (y + 1)).all (· == 46)) by rw [HDN.out]; rfl)
              by_cases h2 : 2 ≤ y
              · have h2i : (2 : Int) ≤ (y : Int) := by omega
                have s1 : (0 : Int) ≤ (y : Int) - 2 := by omega
                have s2 : (y : Int) - 2 ≤ (y : Int) + 1 := by omega
                have s3 : (y : Int) + 1 ≤ (p.size : Int) := by omega
                have t1 : ((y : Int) - 2).toNat = y - 2 := by omega
                have h3 : (p.data.toList.drop (y - 2)).take 3 ≠ [46, 46, 46] := fun h => by
                  have h4 := congrArg (fun l => l[2]?) h
                  have h5 : ((p.data.toList.drop (y - 2)).take 3)[2]? = some p[y] := by
                    rw [List.getElem?_take_of_lt (by omega), List.getElem?_drop, show y - 2 + 2 = y by omega, List.getElem?_eq_getElem HLL.out, HPY.out]
                  have h6 : some p[y] = some 46 := h5.symm.trans h4
                  have h7 : p[y] = 46 := Option.some.inj h6
                  have h8 := HDI.out
                  rw [h7] at h8 e1
                  exact absurd e1 (by decide)
                have hx3 : ((p.extract (y - 2) (y + 1)).toList == [46, 46, 46]) = false := by rw [ByteArray.toList_eq, HEXT.out h2]; exact beq_eq_false_iff_ne.2 h3
                have HNX := hid (HNEXT.out HE1.out (fun _ => h3))
                clear h3
                go_wp2_with fail
                go_round
                case rel => first | exact ⟨y + 1, by omega, by go_num, HDV.out, hid (HNX.out)⟩ | exact ⟨y + 1, by omega, by go_num, HDW.out, hid (HNX.out)⟩
                case measure => simp [intOf]; omega
              · have h2i : ¬ (2 : Int) ≤ (y : Int) := by omega
                have HNX := hid (HNEXT.out HE1.out (fun h => absurd h h2))
                go_wp2_with fail
                go_round
                case rel => first | exact ⟨y + 1, by omega, by go_num, HDV.out, hid (HNX.out)⟩ | exact ⟨y + 1, by omega, by go_num, HDW.out, hid (HNX.out)⟩
                case measure => simp [intOf]; omega
            · have HDV := hid (show Value.bool false = Value.bool ((p.data.toList.take (y + 1)).all (· == 46)) by rw [HDN.out, e1]; rfl)
              have HDW := hid (show Value.bool ((p[y].toNat : Int) == 46) = Value.bool ((p.data.toList.take (y + 1)).all (· == 46)) by rw [HDN.out]; rfl)
              by_cases h2 : 2 ≤ y
              · have h2i : (2 : Int) ≤ (y : Int) := by omega
                have s1 : (0 : Int) ≤ (y : Int) - 2 := by omega
                have s2 : (y : Int) - 2 ≤ (y : Int) + 1 := by omega
                have s3 : (y : Int) + 1 ≤ (p.size : Int) := by omega
                have t1 : ((y : Int) - 2).toNat = y - 2 := by omega
                have h3 : (p.data.toList.drop (y - 2)).take 3 ≠ [46, 46, 46] := fun h => by
                  have h4 := congrArg (fun l => l[2]?) h
                  have h5 : ((p.data.toList.drop (y - 2)).take 3)[2]? = some p[y] := by
                    rw [List.getElem?_take_of_lt (by omega), List.getElem?_drop, show y - 2 + 2 = y by omega, List.getElem?_eq_getElem HLL.out, HPY.out]
                  have h6 : some p[y] = some 46 := h5.symm.trans h4
                  have h7 : p[y] = 46 := Option.some.inj h6
                  have h8 := HDI.out
                  rw [h7] at h8 e1
                  exact absurd e1 (by decide)
                have hx3 : ((p.extract (y - 2) (y + 1)).toList == [46, 46, 46]) = false := by rw [ByteArray.toList_eq, HEXT.out h2]; exact beq_eq_false_iff_ne.2 h3
                have HNX := hid (HNEXT.out HE1.out (fun _ => h3))
                clear h3
                go_wp2_with fail
                go_round
                case rel => first | exact ⟨y + 1, by omega, by go_num, HDV.out, hid (HNX.out)⟩ | exact ⟨y + 1, by omega, by go_num, HDW.out, hid (HNX.out)⟩
                case measure => simp [intOf]; omega
              · have h2i : ¬ (2 : Int) ≤ (y : Int) := by omega
                have HNX := hid (HNEXT.out HE1.out (fun h => absurd h h2))
                go_wp2_with fail
                go_round
                case rel => first | exact ⟨y + 1, by omega, by go_num, HDV.out, hid (HNX.out)⟩ | exact ⟨y + 1, by omega, by go_num, HDW.out, hid (HNX.out)⟩
                case measure => simp [intOf]; omega
          · have a1 : 97 ≤ (p[y].toNat : Int) := by omega
            have a2 : ¬ (p[y].toNat : Int) ≤ 122 := by omega
            have d1 : 48 ≤ (p[y].toNat : Int) := by omega
            have d2 : ¬ (p[y].toNat : Int) ≤ 57 := by omega
            have e1 : ((p[y].toNat : Int) == 46) = false := beq_eq_false_iff_ne.2 (by omega)
            have e1p : ¬ (p[y].toNat : Int) = 46 := by omega
            have e1n : ((p[y].toNat : Int) != 46) = true := by rw [bne, e1]; rfl
            have e2 : ((p[y].toNat : Int) == 45) = false := beq_eq_false_iff_ne.2 (by omega)
            have e2p : ¬ (p[y].toNat : Int) = 45 := by omega
            have e2n : ((p[y].toNat : Int) != 45) = true := by rw [bne, e2]; rfl
            have e3 : ((p[y].toNat : Int) == 95) = false := beq_eq_false_iff_ne.2 (by omega)
            have e3p : ¬ (p[y].toNat : Int) = 95 := by omega
            have e3n : ((p[y].toNat : Int) != 95) = true := by rw [bne, e3]; rfl
            have HRES := hid (HBAD.out (by rw [HEL.out]; simp; omega))
            have D5 := hid (show ∀ h : ¬ (p[y].toNat : Int) ≤ 57, decide ((p[y].toNat : Int) ≤ 57) = false from fun h => decide_eq_false h)
            have D9 := hid (show ∀ h : ¬ (p[y].toNat : Int) ≤ 122, decide ((p[y].toNat : Int) ≤ 122) = false from fun h => decide_eq_false h)
            clear hr
            go_wp2_with fail
            all_goals first
              | (go_ret; exact ⟨by rw [HRES.out]; rfl, HB.out⟩)
              | exact absurd ‹((((p[y].toNat : Int) != 46) = false ∨ ((p[y].toNat : Int) != 45) = false) ∨ ((p[y].toNat : Int) != 95) = false)› (by rw [e1n, e2n, e3n]; decide)
              | exact absurd ‹((((!decide ((p[y].toNat : Int) ≤ 57)) = false ∨ ((p[y].toNat : Int) != 46) = false) ∨ ((p[y].toNat : Int) != 45) = false) ∨ ((p[y].toNat : Int) != 95) = false)› (by rw [e1n, e2n, e3n, D5.out (by omega)]; decide)
              | exact absurd ‹(((((!decide ((p[y].toNat : Int) ≤ 122)) = false ∨ (!decide ((p[y].toNat : Int) ≤ 57)) = false) ∨ ((p[y].toNat : Int) != 46) = false) ∨ ((p[y].toNat : Int) != 45) = false) ∨ ((p[y].toNat : Int) != 95) = false)› (by rw [e1n, e2n, e3n, D5.out (by omega), D9.out (by omega)]; decide)
        · have hye : y = p.size := by omega
          subst hye
          have HFIN := hid (show elemOk p.data.toList = !dt by
            have h1 : p.data.toList.length = p.size := len_eq p
            have h2 := seen_all (l := p.data.toList) (by rw [h1]; exact HSE.out)
            have h3 := HDT.out
            rw [take_all] at h3
            rw [h2, h3])
          cases dt
          · have HOK2 := hid (show (bl (X.take (k + 1))).all elemOk = true by rw [HXJ.out, List.all_append, HOK.out, List.all_cons, HFIN.out]; rfl)
            have HLJ := hid (show (lg || (bl (X.take (k + 1))).any long) = (bj || decide (10 < p.data.toList.length)) by rw [HXJ.out, List.any_append, ← HBJ.out, Bool.or_assoc]; simp [long])
            rw [len_eq] at HLJ
            by_cases h10 : 10 < p.size
            · have h10i : (10 : Int) < (p.size : Int) := by omega
              rw [decide_eq_true h10] at HLJ
              cases bj
              · have HV := hid (show Value.bool true = Value.bool (lg || (bl (X.take (k + 1))).any long) by rw [HLJ.out]; rfl)
                go_wp2_with fail
                go_round
                case rel => exact ⟨k + 1, by omega, by go_num, HV.out, HOK2⟩
                case measure => simp [intOf]; omega
              · have HV := hid (show Value.bool true = Value.bool (lg || (bl (X.take (k + 1))).any long) by rw [HLJ.out]; rfl)
                go_wp2_with fail
                go_round
                case rel => exact ⟨k + 1, by omega, by go_num, HV.out, HOK2⟩
                case measure => simp [intOf]; omega
            · have h10i : ¬ (10 : Int) < (p.size : Int) := by omega
              rw [decide_eq_false h10] at HLJ
              cases bj
              · have HV := hid (show Value.bool false = Value.bool (lg || (bl (X.take (k + 1))).any long) by rw [HLJ.out]; rfl)
                go_wp2_with fail
                go_round
                case rel => exact ⟨k + 1, by omega, by go_num, HV.out, HOK2⟩
                case measure => simp [intOf]; omega
              · have HV := hid (show Value.bool true = Value.bool (lg || (bl (X.take (k + 1))).any long) by rw [HLJ.out]; rfl)
                go_wp2_with fail
                go_round
                case rel => exact ⟨k + 1, by omega, by go_num, HV.out, HOK2⟩
                case measure => simp [intOf]; omega
          · have HRES := hid (bad_one HMEM.out HFIN.out)
            go_wp2_with fail
            go_ret
            exact ⟨by rw [HRES.out]; rfl, HB.out⟩
    · have hke : k = X.length := by omega
      subst hke
      have hXt : X.take X.length = X := List.take_length
      rw [hXt] at HOK HBJ
      rw [HBJ.out] at HLE
      rw [HX.out] at HOK
      clear hXt
      cases bj
      · by_cases h1 : 1 < X.length
        · have h1i : (1 : Int) < (X.length : Int) := by omega
          have hpl : X.length - 1 < X.length := by omega
          have hcell := HCE.out (X.length - 1) hpl
          have HSZ := hid (HXZ.out X[X.length - 1] (List.getElem_mem hpl))
          have HLG := hid (HLA.out hpl)
          generalize X[X.length - 1] = q at *
          have HSU := hid (suffixOf_any q w1 HSZ.out)
          rw [HLG.out] at HSU
          have hc1 : ((X.length : Int) - 1).toNat = X.length - 1 := by omega
          have hc2 : (0 : Int) ≤ (X.length : Int) - 1 := by omega
          have hc3 : (X.length : Int) - 1 < (X.length : Int) := by omega
          by_cases hneg : sufV (lastOf s.data.toList) < 0
          · have HRES := hid (path_4 HOK.out HLE.out (by rw [HXL.out]; exact h1) hneg)
            generalize sufV (lastOf s.data.toList) = sv at *
            go_wp2_with fail
            refine HSU.out.mono ?_
            rintro e w' ⟨rfl, rfl⟩
            go_wp2_with fail
            go_ret
            exact ⟨by rw [HRES.out]; rfl, HB.out⟩
          · have HRES := hid (path_0 HOK.out HLE.out (by rw [HXL.out]; exact h1) hneg)
            generalize sufV (lastOf s.data.toList) = sv at *
            go_wp2_with fail
            refine HSU.out.mono ?_
            rintro e w' ⟨rfl, rfl⟩
            go_wp2_with fail
            go_ret
            exact ⟨by rw [HRES.out]; rfl, HB.out⟩
        · have h1i : ¬ (1 : Int) < (X.length : Int) := by omega
          have HRES := hid (path_00 HOK.out HLE.out (by rw [HXL.out]; exact h1))
          go_wp2_with fail
          go_ret
          exact ⟨by rw [HRES.out]; rfl, HB.out⟩
      · have HRES := hid (path_2 HOK.out HLE.out)
        go_wp2_with fail
        go_ret
        exact ⟨by rw [HRES.out]; rfl, HB.out⟩
end Ve
end Go.Proofs.YtffjaliegglddaaGreatDoor

/-
  What the document's answer says of a path in two (SplitPath), and what Split of package mod says.
-/
namespace Go.Proofs.YtffjaliegglddaaGreatDoor
open Go.RowKit
namespace Ve

/-- A path in two: what is ahead of the suffix, its number. -/
def splitH (l : List UInt8) : List UInt8 := if pathErr l = 0 then pathH l else []
def splitN (l : List UInt8) : Int := if pathErr l = 0 then pathN l else 0
theorem suf_fits {l : List UInt8} (h : pathErr l = 0) (hs : sufE l = true) : sufOk (lastOf l) = true := by
  cases ho : sufOk (lastOf l)
  · exfalso
    unfold pathErr at h
    cases hb : badE l
    · rw [hb] at h
      cases hl : longE l
      · rw [hl, hs, ho] at h; cases h
      · rw [hl] at h; cases h
    · rw [hb] at h; cases h
  · rfl
theorem split_none {l : List UInt8} (h : pathErr l = 0) (he : elems l = [l]) : splitH l = l ∧ splitN l = 0 := by
  have hu : sufE l = false := by unfold sufE; rw [he]; rfl
  unfold splitH splitN pathH pathN
  rw [if_pos h, if_pos h, hu]
  exact ⟨rfl, rfl⟩
theorem split_pos {l : List UInt8} {k : Nat} (h : pathErr l = 0) (he : elems l = elems (l.take k) ++ [l.drop (k + 1)]) (hn : 0 < sufV (l.drop (k + 1))) : splitH l = l.take k ∧ splitN l = sufV (l.drop (k + 1)) := by
  obtain ⟨h1, h2, h3⟩ := slash_last he
  rw [← h2] at hn ⊢
  have hk : likeB (lastOf l) = true := by
    cases e : likeB (lastOf l)
    · unfold sufV at hn; rw [e] at hn; simp at hn
    · rfl
  have hu : sufE l = true := by unfold sufE; rw [hk, decide_eq_true h1]; rfl
  have ho := suf_fits h hu
  have hv : sufV (lastOf l) = (num (restOf (lastOf l))).1 := by unfold sufV; rw [hk, ho]; rfl
  unfold splitH splitN pathH pathN
  rw [if_pos h, if_pos h, hu, hv]
  exact ⟨h3, rfl⟩
theorem split_zero {l : List UInt8} {k : Nat} (h : pathErr l = 0) (he : elems l = elems (l.take k) ++ [l.drop (k + 1)]) (hn : ¬ 0 < sufV (l.drop (k + 1))) : splitH l = l ∧ splitN l = 0 := by
  obtain ⟨h1, h2, h3⟩ := slash_last he
  rw [← h2] at hn
  have hu : sufE l = false := by
    cases e : sufE l
    · rfl
    · exfalso
      have ho := suf_fits h e
      have hk : likeB (lastOf l) = true := by
        unfold sufE at e
        simp only [Bool.and_eq_true] at e
        exact e.2
      have hv : sufV (lastOf l) = (num (restOf (lastOf l))).1 := by unfold sufV; rw [hk, ho]; rfl
      have := suf_pos ho
      omega
  unfold splitH splitN pathH pathN
  rw [if_pos h, if_pos h, hu]
  exact ⟨rfl, rfl⟩
theorem slash_is {c : UInt8} : ((c.toNat : Int) == 47) = true ↔ c = 47 := by
  rw [beq_iff_eq]
  have : (47 : UInt8).toNat = 47 := rfl
  constructor
  · intro h; exact UInt8.toNat_inj.1 (by omega)
  · intro h; rw [h]; rfl

set_option maxRecDepth 100000 in
set_option maxHeartbeats 4000000 in
theorem splitPath_any (s : ByteArray) (w : World) (hs : s.size < 4294967281) :
    Calls Tryz.prog 46 #[.string s] w fun e w' => ∃ H : ByteArray, e = .returned (.tuple #[.string H, .int .i64 (splitN s.data.toList)]) ∧ H.data.toList = splitH s.data.toList ∧ Below w.heap.size w w' := by
  have HP := hid (pathError_any s w hs)
  by_cases h0 : pathErr s.data.toList = 0
  · have H0 := hid h0
    rw [h0] at HP
    clear h0
    go_enter Tryz.func46, Tryz.ntmps46
    go_wp2_with fail
    refine HP.out.mono ?_
    rintro e w1 ⟨rfl, hb⟩
    have HB := hid hb
    clear hb
    go_wp2_with fail
    go_loop [4] (fun i => ∃ j : Nat, j ≤ s.size ∧ i = .int .i64 ((j : Int) - 1) ∧ Hid (∀ t (ht : t < s.size), j ≤ t → s[t] ≠ 47)) (fun i => (intOf i + 1).toNat)
    case atStart => exact ⟨s.size, Nat.le_refl _, rfl, hid (fun t ht h => absurd ht (by omega))⟩
    case round =>
      obtain ⟨j, hj, rfl, HN⟩ := hrel
      by_cases hz : j = 0
      · subst hz
        have HR := hid (split_none H0.out (slash_none (fun t ht => HN.out t (by simpa using ht) (Nat.zero_le _))))
        go_wp2_with fail
        go_ret2
        exact ⟨s, by rw [HR.out.2]; rfl, HR.out.1.symm, HB.out⟩
      · obtain ⟨k, rfl⟩ : ∃ k, j = k + 1 := ⟨j - 1, by omega⟩
        have hki : ((k + 1 : Nat) : Int) - 1 = (k : Int) := by omega
        rw [hki]
        have hlt : k < s.size := by omega
        have hkb := s[k].toNat_lt
        have h0k : (0 : Int) ≤ (k : Int) := by omega
        cases hc : ((s[k].toNat : Int) == 47)
        · have hcn : ((s[k].toNat : Int) != 47) = true := by rw [bne, hc]; rfl
          have hcp : ¬ (s[k].toNat : Int) = 47 := by simpa using hc
          have HN2 := hid (show ∀ t (ht : t < s.size), k ≤ t → s[t] ≠ 47 from fun t ht h => by
            by_cases e : t = k
            · subst e; intro h2; rw [slash_is.2 h2] at hc; cases hc
            · exact HN.out t ht (by omega))
          go_wp2_with fail
          go_round
          case rel => exact ⟨k, by omega, by go_num, HN2⟩
          case measure => (simp [intOf]; try omega)
        · have hcn : ((s[k].toNat : Int) != 47) = false := by rw [bne, hc]; rfl
          have hcp : (s[k].toNat : Int) = 47 := by simpa using hc
          have HSP := hid (slash_split (l := s.data.toList) (k := k) (by simpa using hlt) (slash_is.1 hc) (fun t ht h => HN.out t (by simpa using ht) (by omega)))
          have HT := hid (show (s.extract (k + 1) s.size).data.toList = s.data.toList.drop (k + 1) from ext_drop s (k + 1))
          have hTs : (s.extract (k + 1) s.size).size ≤ maxLen := by rw [ByteArray.size_extract]; unfold maxLen; omega
          have HSU := hid (suffixOf_any (s.extract (k + 1) s.size) w1 hTs)
          rw [HT.out] at HSU
          have s1 : (0 : Int) ≤ (k : Int) + 1 := by omega
          have s2 : (k : Int) + 1 ≤ (s.size : Int) := by omega
          have s3 : (k : Int) ≤ (s.size : Int) := by omega
          have HK := hid (show (s.extract 0 k).data.toList = s.data.toList.take k by rw [extract_list]; simp)
          by_cases hn : 0 < sufV (s.data.toList.drop (k + 1))
          · have HR := hid (split_pos H0.out HSP.out hn)
            generalize sufV (s.data.toList.drop (k + 1)) = n at *
            go_wp2_with fail
            refine HSU.out.mono ?_
            rintro e w' ⟨rfl, rfl⟩
            go_wp2_with fail
            go_ret2
            exact ⟨s.extract 0 k, by rw [HR.out.2]; rfl, HK.out.trans HR.out.1.symm, HB.out⟩
          · have HR := hid (split_zero H0.out HSP.out hn)
            generalize sufV (s.data.toList.drop (k + 1)) = n at *
            go_wp2_with fail
            refine HSU.out.mono ?_
            rintro e w' ⟨rfl, rfl⟩
            go_wp2_with fail
            go_ret2
            exact ⟨s, by rw [HR.out.2]; rfl, HR.out.1.symm, HB.out⟩
  · have HR := hid (show splitH s.data.toList = [] ∧ splitN s.data.toList = 0 from ⟨by unfold splitH; rw [if_neg h0], by unfold splitN; rw [if_neg h0]⟩)
    rw [HR.out.2]
    have hpos : (0 : Int) < (pathErr s.data.toList : Int) := by omega
    generalize (pathErr s.data.toList : Int) = c at *
    clear h0
    go_enter Tryz.func46, Tryz.ntmps46
    go_wp2_with fail
    refine HP.out.mono ?_
    rintro e w1 ⟨rfl, hb⟩
    have HB := hid hb
    clear hb
    go_wp2_with fail
    go_ret2
    exact ⟨⟨#[]⟩, rfl, HR.out.1.symm, HB.out⟩

end Ve
end Go.Proofs.YtffjaliegglddaaGreatDoor

/-
  What the document's answer says of modules: ModError, ModText, IsAhead, ReadMod (a module's text).
-/
namespace Go.Proofs.YtffjaliegglddaaGreatDoor
open Go.RowKit
namespace Ve

theorem n0_pos {l : List UInt8} (h : verErr l = 0) : 0 ≤ nAt l 0 ∧ nAt l 0 ≤ 999999 := by
  unfold verErr at h
  by_cases hc : marked l = false ∨ (coreOf l).length ≠ 3
  · rw [if_pos hc] at h; omega
  rw [if_neg hc] at h
  have h3 : (coreOf l).length = 3 := by
    rcases Nat.decEq (coreOf l).length 3 with h | h
    · exact absurd (Or.inr h) hc
    · exact h
  have hn : numsErr (coreOf l) = 0 := by
    cases e : hasPre l
    · rw [e] at h; exact h
    · rw [e] at h
      have h' : worse (numsErr (coreOf l)) (pre (preOf l)) = 0 := h
      unfold worse at h'
      by_cases q : numsErr (coreOf l) = 1 ∨ pre (preOf l) = 0
      · rw [if_pos q] at h'; exact h'
      · rw [if_neg q] at h'; exact absurd (Or.inr h') q
  obtain ⟨p0, p1, p2, hco⟩ : ∃ p0 p1 p2, coreOf l = [p0, p1, p2] := by
    match e : coreOf l, h3 with
    | [a, b, c], _ => exact ⟨a, b, c, rfl⟩
  have hz := ncode0 hn
  rw [hco] at hz
  have n0 : nAt l 0 = (num p0).1 := by simp [nAt, numsOf, hco]
  obtain ⟨_, l0, u0⟩ := itoa_num p0 (hz p0 (by simp))
  rw [n0]; exact ⟨l0, u0⟩
theorem pathN_is {l : List UInt8} (h : pathErr l = 0) : pathN l = 0 ∨ 2 ≤ pathN l := by
  unfold pathN
  cases hu : sufE l
  · left; rfl
  · right; exact suf_pos (suf_fits h hu)

set_option maxRecDepth 100000 in
set_option maxHeartbeats 4000000 in
theorem modError_any (p v : ByteArray) (w : World) (hp : p.size < 4294967281) (hv : v.size < 4294967281) :
    Calls Tryz.prog 22 #[.agg #[.string p, .string v]] w fun e w' => e = .returned (.int .i64 (modErr p.data.toList v.data.toList : Nat)) ∧ Below w.heap.size w w' := by
  have HB0 := hid ((Below.refl w.heap.size w).alloc (Nat.le_refl _) (.cells #[.string p, .string v] 25))
  have HP := hid (pathError_any p (w.alloc (.cells #[.string p, .string v] 25)) hp)
  have HM := hid (show modErr p.data.toList v.data.toList = if pathErr p.data.toList = 0 then (if verErr v.data.toList = 0 then (if fitsB (nAt v.data.toList 0) (pathN p.data.toList) then 0 else 4) else verErr v.data.toList) else pathErr p.data.toList from rfl)
  by_cases h0 : pathErr p.data.toList = 0
  · rw [if_pos h0] at HM
    have HV := hid (fun W => verOf_any v W hv)
    by_cases h1 : verErr v.data.toList = 0
    · rw [if_pos h1] at HM
      have HSP := hid (fun W => splitPath_any p W hp)
      have e2 : splitN p.data.toList = pathN p.data.toList := by unfold splitN; rw [if_pos h0]
      rw [e2] at HSP
      have HPN := hid (pathN_is h0)
      have HN0 := hid (n0_pos h1)
      have HF := hid (show fitsB (nAt v.data.toList 0) (pathN p.data.toList) = (if pathN p.data.toList == 0 then (nAt v.data.toList 0 == 0 || nAt v.data.toList 0 == 1) else nAt v.data.toList 0 == pathN p.data.toList) from rfl)
      have H1 := hid h1
      rw [h0] at HP
      clear h0 h1 e2
      go_enter Tryz.func22, Tryz.ntmps22
      go_wp2_with fail
      refine HP.out.mono ?_
      rintro e w1 ⟨rfl, hb1⟩
      have HB1 := hid (HB0.out.trans (hb1.mono HB0.out.size))
      obtain ⟨⟨r0, r1⟩, rz⟩ := res2 (hb1.mono (by simp))
      clear hb1
      go_wp2_with fail
      refine (HV.out _).mono ?_
      rintro e w2 ⟨hv2, hb2⟩
      obtain ⟨sa, cap, X2, rfl⟩ : ∃ sa cap X2, e = .returned (.tuple #[.agg #[.int .i64 (nAt v.data.toList 0), .int .i64 (nAt v.data.toList 1), .int .i64 (nAt v.data.toList 2), .slice sa X2 cap], .int .i64 0]) := by
        rcases hv2 with ⟨h, _⟩ | ⟨_, sa, cap, X2, e1, _⟩
        · exact absurd H1.out h
        · exact ⟨sa, cap, _, e1⟩
      have HB2 := hid (HB1.out.trans (hb2.mono HB1.out.size))
      have HC0 := hid (cell_below hb2 r0)
      have HBV := hid ((Below.refl w2.heap.size w2).alloc (Nat.le_refl _) (.cells #[.int .i64 (nAt v.data.toList 0), .int .i64 (nAt v.data.toList 1), .int .i64 (nAt v.data.toList 2), .slice sa X2 cap] 81))
      have c0 := cell_below HBV.out HC0.out
      have HB3 := hid (HB2.out.trans (HBV.out.mono HB2.out.size))
      generalize nAt v.data.toList 1 = b1 at *
      generalize nAt v.data.toList 2 = b2 at *
      generalize hn0 : nAt v.data.toList 0 = b0 at *
      clear hv2 hb2 hn0 r0 r1 rz
      go_wp2_with fail
      refine (HSP.out _).mono ?_
      rintro e w4 ⟨H, rfl, _, hb4⟩
      have HB4 := hid (HB3.out.trans (hb4.mono HB3.out.size))
      obtain ⟨⟨q0, q1, q2, q3⟩, _, qz⟩ := res4 (hb4.mono (by simp))
      generalize pathN p.data.toList = n at *
      clear hb4 c0
      have hb0 := HN0.out.1
      have hb9 := HN0.out.2
      by_cases hz : n = 0
      · subst hz
        by_cases hg : 1 < b0
        · have HR := hid (show (if fitsB b0 0 then 0 else 4) = 4 by
            have : fitsB b0 0 = false := by
              rw [HF.out]
              simp; omega
            rw [this]; rfl)
          rw [HR.out] at HM
          go_wp2_with fail
          go_ret
          exact ⟨by rw [HM.out]; rfl, HB4.out⟩
        · have HR := hid (show (if fitsB b0 0 then 0 else 4) = 0 by
            have : fitsB b0 0 = true := by
              rw [HF.out]
              simp; omega
            rw [this]; rfl)
          rw [HR.out] at HM
          go_wp2_with fail
          go_ret
          exact ⟨by rw [HM.out]; rfl, HB4.out⟩
      · have hpos : 0 < n := by have := HPN.out; omega
        have hnz : (n == 0) = false := beq_eq_false_iff_ne.2 hz
        by_cases hg : b0 = n
        · subst hg
          have HR := hid (show (if fitsB b0 b0 then 0 else 4) = 0 by
            have : fitsB b0 b0 = true := by
              rw [HF.out, hnz]; simp
            rw [this]; rfl)
          rw [HR.out] at HM
          have hbb : (b0 == b0) = true := by simp
          have hbn : (b0 != b0) = false := by simp
          go_wp2_with fail
          go_ret
          exact ⟨by rw [HM.out]; rfl, HB4.out⟩
        · have hbb : (b0 == n) = false := beq_eq_false_iff_ne.2 hg
          have hbn : (b0 != n) = true := by rw [bne, hbb]; rfl
          have HR := hid (show (if fitsB b0 n then 0 else 4) = 4 by
            have : fitsB b0 n = false := by
              rw [HF.out, hnz]; simpa using hg
            rw [this]; rfl)
          rw [HR.out] at HM
          go_wp2_with fail
          go_ret
          exact ⟨by rw [HM.out]; rfl, HB4.out⟩
    · rw [if_neg h1] at HM
      have H1 := hid h1
      have hpos : (0 : Int) < (verErr v.data.toList : Int) := by omega
      rw [h0] at HP
      rw [HM.out]
      clear h0 h1
      go_enter Tryz.func22, Tryz.ntmps22
      go_wp2_with fail
      refine HP.out.mono ?_
      rintro e w1 ⟨rfl, hb1⟩
      have HB1 := hid (HB0.out.trans (hb1.mono HB0.out.size))
      obtain ⟨⟨r0, r1⟩, rz⟩ := res2 (hb1.mono (by simp))
      clear hb1
      go_wp2_with fail
      refine (HV.out _).mono ?_
      rintro e w2 ⟨hv2, hb2⟩
      obtain rfl : e = .returned (.tuple #[.agg #[.int .i64 0, .int .i64 0, .int .i64 0, .slice none 0 0], .int .i64 (verErr v.data.toList : Nat)]) := by
        rcases hv2 with ⟨_, h⟩ | ⟨h, _⟩
        · exact h
        · exact absurd h H1.out
      have HB2 := hid (HB1.out.trans (hb2.mono HB1.out.size))
      have HBV := hid ((Below.refl w2.heap.size w2).alloc (Nat.le_refl _) (.cells #[.int .i64 0, .int .i64 0, .int .i64 0, .slice none 0 0] 81))
      have HB3 := hid (HB2.out.trans (HBV.out.mono HB2.out.size))
      clear hv2 hb2 r0 r1 rz
      generalize hce : (verErr v.data.toList : Int) = c at *
      have HCE := hid hce
      clear hce
      go_wp2_with fail
      go_ret
      exact ⟨by rw [HCE.out]; rfl, HB3.out⟩
  · rw [if_neg h0] at HM
    have hpos : (0 : Int) < (pathErr p.data.toList : Int) := by omega
    rw [HM.out]
    generalize (pathErr p.data.toList : Int) = c at *
    clear h0 HM
    go_enter Tryz.func22, Tryz.ntmps22
    go_wp2_with fail
    refine HP.out.mono ?_
    rintro e w1 ⟨rfl, hb1⟩
    have HB1 := hid (HB0.out.trans (hb1.mono HB0.out.size))
    clear hb1
    go_wp2_with fail
    go_ret
    exact ⟨rfl, HB1.out⟩

set_option maxHeartbeats 1000000 in
theorem isAhead_any (p v q u : ByteArray) (w : World) (hv : v.size < 999999) (hu : u.size < 999999) :
    Calls Tryz.prog 86 #[.agg #[.string p, .string v], .agg #[.string q, .string u]] w fun e w' => e = .returned (.bool (aheadB p.data.toList v.data.toList q.data.toList u.data.toList)) ∧ Below w.heap.size w w' := by
  have HO := hid (show aheadB p.data.toList v.data.toList q.data.toList u.data.toList = if p.data.toList = q.data.toList then lessB v.data.toList u.data.toList else decide (Lib.compareBytes p.data.toList q.data.toList < 0) from rfl)
  have HB0 := hid (((Below.refl w.heap.size w).alloc (Nat.le_refl _) (.cells #[.string p, .string v] 25)).alloc (by simp) (.cells #[.string q, .string u] 25))
  by_cases h : p = q
  · subst h
    rw [if_pos rfl] at HO
    have he := str_refl p
    have HL := hid (fun W => isLess_any v u W hv hu)
    go_enter Tryz.func86, Tryz.ntmps86
    go_wp2_with fail
    refine (HL.out _).mono ?_
    rintro e w1 ⟨rfl, hb⟩
    have HB := hid (HB0.out.trans (hb.mono HB0.out.size))
    clear hb
    go_wp2_with fail
    go_ret
    exact ⟨ret_bool HO.out.symm, HB.out⟩
  · rw [if_neg (fun e => h (str_ext e))] at HO
    have he := str_ne h
    have HC := hid (show Op.bytesLess p.toList q.toList = decide (Lib.compareBytes p.data.toList q.data.toList < 0) by rw [cb_less, ByteArray.toList_eq, ByteArray.toList_eq])
    clear h
    go_enter Tryz.func86, Tryz.ntmps86
    go_wp2_with fail
    go_ret
    exact ⟨ret_bool (by rw [HO.out, ← HC.out]), HB0.out⟩

theorem two_of {X : List ByteArray} {a b : List UInt8} (h : bl X = [a, b]) : ∃ x y : ByteArray, X = [x, y] ∧ x.data.toList = a ∧ y.data.toList = b := by
  match X, h with
  | [x, y], h =>
    simp only [bl, List.map_cons, List.map_nil, List.cons.injEq, and_true] at h
    exact ⟨x, y, rfl, h.1, h.2⟩

end Ve
end Go.Proofs.YtffjaliegglddaaGreatDoor

/-
  pewholderlaw2.MvsJoins walked: what is joined is over both, and under what is over both; in any order.
-/
namespace Go.Proofs.YtffjaliegglddaaGreatDoor
open Go.RowKit Go.Maps
namespace Ve

/-- Joined with itself it is itself. -/
theorem Jn.self {D E : List Bm} (h : Jn D E) : Jn (E ++ E) E :=
  ⟨h.ri, fun e he => ⟨List.mem_append_left _ he, (h.sub e he).2⟩, fun x hx hr => ⟨x, by rcases List.mem_append.1 hx with h | h <;> exact h, rfl, by rw [(ordV_zero (mErr_zero hr).2 (mErr_zero hr).2).2 rfl]; omega⟩⟩
theorem Jn.turn {a b X Y : List Bm} (hX : Jn (a ++ b) X) (hY : Jn (b ++ a) Y) : X = Y :=
  hX.one hY (fun m _ => by rw [List.mem_append, List.mem_append]; exact Or.comm)
/-- Are all right? -/
def allR (L : List Bm) : Bool := L.all fun m => decide (mErr m = 0)
theorem allR_iff {L : List Bm} : allR L = true ↔ ∀ m, m ∈ L → mErr m = 0 := by
  unfold allR
  rw [List.all_eq_true]
  exact ⟨fun h m hm => of_decide_eq_true (h m hm), fun h m hm => decide_eq_true (h m hm)⟩
set_option maxRecDepth 100000 in
set_option maxHeartbeats 4000000 in
theorem mj_head (ra rb rc : List Bm) (v u s : Value) (A : Nat → Addr) (m : Int) (w : World) (S : Te w A m) (hr : MsAt w v ra) (her : Em v ra) (hr2 : MsAt w u rb) (her2 : Em u rb) (hr3 : MsAt w s rc) (hrk : okLN 15 ra = true) (hrk2 : okLN 15 rb = true) (hrk3 : okLN 15 rc = true) :
    Calls Tryz.prog 4 #[v, u, s] w fun e w' => e = .returned (.bool true) ∧ Below w.heap.size w w' := by
  obtain ⟨aa, ac, hv0, -⟩ := id hr
  subst hv0
  obtain ⟨ba, bc, hu0, -⟩ := id hr2
  subst hu0
  obtain ⟨ca, cc, hs0, -⟩ := id hr3
  subst hs0
  have ha15 : ra.length ≤ 15 := (okLN_iff hrk).1
  have hb15 : rb.length ≤ 15 := (okLN_iff hrk2).1
  have hc15 : rc.length ≤ 15 := (okLN_iff hrk3).1
  have HZA := hid (okLN_iff hrk).2
  have HZB := hid (okLN_iff hrk2).2
  have HZC := hid (okLN_iff hrk3).2
  have HIN := hid (built_any A m w S)
  have HLM := hid (fun W (h : Below w.heap.size w W) => longN_any 15 (by decide) ra _ W (hr.below h))
  rw [if_pos hrk] at HLM
  have HLM2 := hid (fun W (h : Below w.heap.size w W) => longN_any 15 (by decide) rb _ W (hr2.below h))
  rw [if_pos hrk2] at HLM2
  have HLM3 := hid (fun W (h : Below w.heap.size w W) => longN_any 15 (by decide) rc _ W (hr3.below h))
  rw [if_pos hrk3] at HLM3
  have HOM := hid (fun W (h : Below w.heap.size w W) => ownM_any _ ra W (by omega) (hr.below h) her)
  have HOM2 := hid (fun W (h : Below w.heap.size w W) => ownM_any _ rb W (by omega) (hr2.below h) her2)
  have HS := hid S
  have HR := hid hr
  have HR2 := hid hr2
  have HR3 := hid hr3
  clear S hr her hr2 her2 hr3 hrk hrk2 hrk3
  go_enter Tryz.func4, Tryz.ntmps4
  go_wp2_with fail
  refine HIN.out.mono ?_
  rintro e w1 ⟨rfl, hb⟩
  have HB1 := hid hb
  clear hb
  go_wp2_with fail
  refine (HLM.out w1 HB1.out).mono ?_
  rintro e w2 ⟨rfl, rfl⟩
  go_wp2_with fail
  refine (HLM2.out w2 HB1.out).mono ?_
  rintro e w3 ⟨rfl, rfl⟩
  go_wp2_with fail
  refine (HLM3.out w3 HB1.out).mono ?_
  rintro e w4 ⟨rfl, rfl⟩
  go_wp2_with fail
  have HBX := hid HB1.out
  clear HB1
  go_loopw [8] (fun i wr => ∃ k : Nat, k ≤ ra.length ∧ i = .int .i64 k ∧ Hid (∀ j (h : j < ra.length), j < k → mErr ra[j] = 0) ∧ Hid (Below w.heap.size w wr)) (fun i _ => ra.length - (intOf i).toNat)
  case atStart => exact ⟨0, Nat.zero_le _, rfl, hid (fun j _ hj => absurd hj (Nat.not_lt_zero _)), HBX⟩
  case round =>
    obtain ⟨k, hk, rfl, HE, HB⟩ := hrel
    by_cases hlt : k < ra.length
    · obtain ⟨xb, xo, hxa, x0, x1⟩ := (HR.out.below HB.out).cells hlt
      subst hxa
      have hkI : (k : Int) < (ra.length : Int) := by omega
      have hk0 : (0 : Int) ≤ (k : Int) := by omega
      have HLT := hid hlt
      have hsz := HZA.out ra[k] (List.getElem_mem hlt)
      have HN := hid (show mErr ra[k] = 0 → ∀ j (h : j < ra.length), j < k + 1 → mErr ra[j] = 0 from fun h0 j hj hjk => by
        rcases Nat.lt_or_ge j k with h | h
        · exact HE.out j hj h
        · have : j = k := by omega
          subst this; exact h0)
      generalize ra[k] = x at *
      obtain ⟨p, q⟩ := x
      have HM := hid (fun W => modError_any p q W (by simp only at hsz; omega) (by simp only at hsz; omega))
      have hme : mErr (p, q) = modErr p.data.toList q.data.toList := rfl
      rw [← hme] at HM
      clear hme hlt hsz
      by_cases h0 : mErr (p, q) = 0
      · rw [h0] at HM
        have HN2 := hid (HN.out h0)
        clear h0 HN
        go_wp2_with fail
        refine (HM.out _).mono ?_
        rintro e w5 ⟨rfl, hb⟩
        have HB5 := hid (HB.out.trans (hb.mono HB.out.size))
        clear hb
        go_wp2_with fail
        go_roundw
        case rel => first | exact ⟨k + 1, HLT.out, nr_idx k, HN2, HB5⟩ | exact ⟨k + 1, HLT.out, nx_idx HLT.out (by omega), HN2, HB5⟩
        case measure => first | exact nr_meas HLT.out | exact nx_meas HLT.out (by omega)
      · have hpos : (0 : Int) < ((mErr (p, q) : Nat) : Int) := by omega
        generalize mErr (p, q) = z at *
        clear h0 HN
        go_wp2_with fail
        refine (HM.out _).mono ?_
        rintro e w5 ⟨rfl, hb⟩
        have HB5 := hid (HB.out.trans (hb.mono HB.out.size))
        clear hb
        go_wp2_with fail
        go_ret
        exact ⟨rfl, HB5.out⟩
    · have hkI : ¬ (k : Int) < (ra.length : Int) := by omega
      have HRTra := hid (show ∀ x, x ∈ ra → mErr x = 0 from fun x hx => by
        obtain ⟨j, hj, rfl⟩ := List.getElem_of_mem hx
        exact HE.out j hj (by omega))
      have HBX := hid HB.out
      clear hlt HE HB
      go_wp2_with fail
      go_loopw [9] (fun i wr => ∃ k : Nat, k ≤ rb.length ∧ i = .int .i64 k ∧ Hid (∀ j (h : j < rb.length), j < k → mErr rb[j] = 0) ∧ Hid (Below w.heap.size w wr)) (fun i _ => rb.length - (intOf i).toNat)
      case atStart => exact ⟨0, Nat.zero_le _, rfl, hid (fun j _ hj => absurd hj (Nat.not_lt_zero _)), HBX⟩
      case round =>
        obtain ⟨k, hk, rfl, HE, HB⟩ := hrel
        by_cases hlt : k < rb.length
        · obtain ⟨xb, xo, hxa, x0, x1⟩ := (HR2.out.below HB.out).cells hlt
          subst hxa
          have hkI : (k : Int) < (rb.length : Int) := by omega
          have hk0 : (0 : Int) ≤ (k : Int) := by omega
          have HLT := hid hlt
          have hsz := HZB.out rb[k] (List.getElem_mem hlt)
          have HN := hid (show mErr rb[k] = 0 → ∀ j (h : j < rb.length), j < k + 1 → mErr rb[j] = 0 from fun h0 j hj hjk => by
            rcases Nat.lt_or_ge j k with h | h
            · exact HE.out j hj h
            · have : j = k := by omega
              subst this; exact h0)
          generalize rb[k] = x at *
          obtain ⟨p, q⟩ := x
          have HM := hid (fun W => modError_any p q W (by simp only at hsz; omega) (by simp only at hsz; omega))
          have hme : mErr (p, q) = modErr p.data.toList q.data.toList := rfl
          rw [← hme] at HM
          clear hme hlt hsz
          by_cases h0 : mErr (p, q) = 0
          · rw [h0] at HM
            have HN2 := hid (HN.out h0)
            clear h0 HN
            go_wp2_with fail
            refine (HM.out _).mono ?_
            rintro e w5 ⟨rfl, hb⟩
            have HB5 := hid (HB.out.trans (hb.mono HB.out.size))
            clear hb
            go_wp2_with fail
            go_roundw
            case rel => first | exact ⟨k + 1, HLT.out, nr_idx k, HN2, HB5⟩ | exact ⟨k + 1, HLT.out, nx_idx HLT.out (by omega), HN2, HB5⟩
            case measure => first | exact nr_meas HLT.out | exact nx_meas HLT.out (by omega)
          · have hpos : (0 : Int) < ((mErr (p, q) : Nat) : Int) := by omega
            generalize mErr (p, q) = z at *
            clear h0 HN
            go_wp2_with fail
            refine (HM.out _).mono ?_
            rintro e w5 ⟨rfl, hb⟩
            have HB5 := hid (HB.out.trans (hb.mono HB.out.size))
            clear hb
            go_wp2_with fail
            go_ret
            exact ⟨rfl, HB5.out⟩
        · have hkI : ¬ (k : Int) < (rb.length : Int) := by omega
          have HRTrb := hid (show ∀ x, x ∈ rb → mErr x = 0 from fun x hx => by
            obtain ⟨j, hj, rfl⟩ := List.getElem_of_mem hx
            exact HE.out j hj (by omega))
          have HBX := hid HB.out
          clear hlt HE HB
          go_wp2_with fail
          have HSZ := hid (show ∀ r, r ∈ ra ++ rb → r.1.size < 999999 ∧ r.2.size < 999999 from fun r hr => by
            rcases List.mem_append.1 hr with h | h
            · have := HZA.out r h; omega
            · have := HZB.out r h; omega)
          have HSZ2 := hid (show ∀ r, r ∈ rb ++ ra → r.1.size < 999999 ∧ r.2.size < 999999 from fun r hr => HSZ.out r (by rw [List.mem_append] at hr ⊢; exact hr.symm))
          have HR3X := hid (fun W (h : Below w.heap.size w W) => HR3.out.below h)
          clear HLM HLM2 HLM3 HIN HR HR2 HR3
          refine (HOM.out _ HBX.out).mono ?_
          rintro e w5 ⟨u1, rfl, ho1, -, hb⟩
          have HB5 := hid (HBX.out.trans (hb.mono HBX.out.size))
          have HM1 := hid (mr_own ho1 hb)
          obtain ⟨a1, c1, hu1⟩ := HM1.out.sl
          subst hu1
          clear ho1 hb HBX
          go_wp2_with fail
          refine (HOM2.out _ HB5.out).mono ?_
          rintro e w6 ⟨u2, rfl, ho2, -, hb⟩
          have HB6 := hid (HB5.out.trans (hb.mono HB5.out.size))
          have HM2 := hid (mr_own ho2 hb)
          have HJ := hid (join_mods ra rb _ _ A m w6 (HM1.out.ms.below hb) HM2.out.ms HM1.out.em HM2.out.em (by omega) (by omega) HSZ.out (HS.out.below HB6.out))
          obtain ⟨a2, c2, hu2⟩ := HM2.out.sl
          subst hu2
          clear ho2 hb HB5 HM1 HM2
          go_wp2_with fail
          refine HJ.out.mono ?_
          rintro e w7 ⟨xu, X, rfl, hxl, hjx, hmx⟩
          have HB7 := hid (HB6.out.trans (hmx.1.mono HB6.out.size))
          have HJX := hid hjx
          have HMX := hid hmx.ms
          have HEX := hid hmx.em
          have hXl : X.length ≤ 30 := by simp at hxl; omega
          have HXS := hid (show ∀ x, x ∈ X → x.1.size < 999999 ∧ x.2.size < 999999 from fun x hx => HSZ.out x (hjx.sub x hx).1)
          obtain ⟨xa, xc, hxu⟩ := hmx.sl
          subst hxu
          clear hmx hjx hxl HJ HB6
          go_wp2_with fail
          refine (HOM2.out _ HB7.out).mono ?_
          rintro e w8 ⟨u3, rfl, ho3, -, hb⟩
          have HB8 := hid (HB7.out.trans (hb.mono HB7.out.size))
          have HM3 := hid (mr_own ho3 hb)
          have HMX8 := hid (HMX.out.below hb)
          obtain ⟨a3, c3, hu3⟩ := HM3.out.sl
          subst hu3
          clear ho3 hb HB7 HMX
          go_wp2_with fail
          refine (HOM.out _ HB8.out).mono ?_
          rintro e w9 ⟨u4, rfl, ho4, -, hb⟩
          have HB9 := hid (HB8.out.trans (hb.mono HB8.out.size))
          have HM4 := hid (mr_own ho4 hb)
          have HMX9 := hid (HMX8.out.below hb)
          have HJ2 := hid (join_mods rb ra _ _ A m w9 (HM3.out.ms.below hb) HM4.out.ms HM3.out.em HM4.out.em (by omega) (by omega) HSZ2.out (HS.out.below HB9.out))
          obtain ⟨a4, c4, hu4⟩ := HM4.out.sl
          subst hu4
          clear ho4 hb HB8 HM3 HM4 HMX8
          go_wp2_with fail
          refine HJ2.out.mono ?_
          rintro e w10 ⟨yu, Y, rfl, -, hjy, hmy⟩
          have hXY := HJX.out.turn hjy
          subst hXY
          have HB10 := hid (HB9.out.trans (hmy.1.mono HB9.out.size))
          have HMX10 := hid (HMX9.out.below hmy.1)
          have HSM := hid (sameM_any X _ _ w10 (by omega) HMX10.out hmy.ms)
          obtain ⟨ya, yc, hyu⟩ := hmy.sl
          subst hyu
          clear hmy hjy HJ2 HB9 HMX9
          go_wp2_with fail
          refine HSM.out.mono ?_
          rintro e w11 ⟨rfl, hb⟩
          have HB11 := hid (HB10.out.trans (hb.mono HB10.out.size))
          have HMX11 := hid (HMX10.out.below hb)
          clear hb HSM HB10 HMX10
          go_wp2_with fail
          refine (HOM.out _ HB11.out).mono ?_
          rintro e w12 ⟨u5, rfl, ho5, -, hb⟩
          have HB12 := hid (HB11.out.trans (hb.mono HB11.out.size))
          have HM5 := hid (mr_own ho5 hb)
          have HMX12 := hid (HMX11.out.below hb)
          have HU1 := hid (und_any ra X _ _ A m w12 (by omega) (by omega) (fun x hx => by have := HZA.out x hx; omega) (fun x hx => (HXS.out x hx).2) (HS.out.below HB12.out) HM5.out.ms HMX12.out)
          rw [HJX.out.over (A := ra) (fun x hx => ⟨List.mem_append_left _ hx, HRTra.out x hx⟩)] at HU1
          obtain ⟨a5, c5, hu5⟩ := HM5.out.sl
          subst hu5
          clear ho5 hb HB11 HM5 HMX11
          go_wp2_with fail
          refine HU1.out.mono ?_
          rintro e w13 ⟨rfl, hb⟩
          have HB13 := hid (HB12.out.trans (hb.mono HB12.out.size))
          have HMX13 := hid (HMX12.out.below hb)
          clear hb HU1 HB12 HMX12
          go_wp2_with fail
          refine (HOM2.out _ HB13.out).mono ?_
          rintro e w14 ⟨u6, rfl, ho6, -, hb⟩
          have HB14 := hid (HB13.out.trans (hb.mono HB13.out.size))
          have HM6 := hid (mr_own ho6 hb)
          have HMX14 := hid (HMX13.out.below hb)
          have HU2 := hid (und_any rb X _ _ A m w14 (by omega) (by omega) (fun x hx => by have := HZB.out x hx; omega) (fun x hx => (HXS.out x hx).2) (HS.out.below HB14.out) HM6.out.ms HMX14.out)
          rw [HJX.out.over (A := rb) (fun x hx => ⟨List.mem_append_right _ hx, HRTrb.out x hx⟩)] at HU2
          obtain ⟨a6, c6, hu6⟩ := HM6.out.sl
          subst hu6
          clear ho6 hb HB13 HM6 HMX13
          go_wp2_with fail
          refine HU2.out.mono ?_
          rintro e w15 ⟨rfl, hb⟩
          have HB15 := hid (HB14.out.trans (hb.mono HB14.out.size))
          have HMX15 := hid (HMX14.out.below hb)
          have HJ3 := hid (join_mods X X _ _ A m w15 HMX15.out HMX15.out HEX.out HEX.out (by omega) (by omega) (fun r hr => HXS.out r (by rcases List.mem_append.1 hr with h | h <;> exact h)) (HS.out.below HB15.out))
          clear hb HU2 HB14 HMX14
          go_wp2_with fail
          refine HJ3.out.mono ?_
          rintro e w16 ⟨zu, Z, rfl, -, hjz, hmz⟩
          have hZX : Z = X := hjz.one HJX.out.self (fun _ _ => Iff.rfl)
          subst hZX
          have HB16 := hid (HB15.out.trans (hmz.1.mono HB15.out.size))
          have HMX16 := hid (HMX15.out.below hmz.1)
          have HSM2 := hid (sameM_any Z _ _ w16 (by omega) hmz.ms HMX16.out)
          obtain ⟨za, zc, hzu⟩ := hmz.sl
          subst hzu
          clear hmz hjz HJ3 HB15 HMX15
          go_wp2_with fail
          refine HSM2.out.mono ?_
          rintro e w17 ⟨rfl, hb⟩
          have HB17 := hid (HB16.out.trans (hb.mono HB16.out.size))
          have HMX17 := hid (HMX16.out.below hb)
          clear hb HSM2 HB16 HMX16
          go_wp2_with fail
          refine (HOM.out _ HB17.out).mono ?_
          rintro e w18 ⟨u7, rfl, ho7, -, hb⟩
          have HB18 := hid (HB17.out.trans (hb.mono HB17.out.size))
          have HM7 := hid (mr_own ho7 hb)
          have HMX18 := hid (HMX17.out.below hb)
          have HU3 := hid (und_any ra rc _ _ A m w18 (by omega) (by omega) (fun x hx => by have := HZA.out x hx; omega) (fun x hx => by have := HZC.out x hx; omega) (HS.out.below HB18.out) HM7.out.ms (HR3X.out _ HB18.out))
          obtain ⟨a7, c7, hu7⟩ := HM7.out.sl
          subst hu7
          clear ho7 hb HB17 HM7 HMX17
          have HD1 := hid (show undB ra rc = true → ∀ x, x ∈ ra → hasV rc x = true from fun h x hx => List.all_eq_true.1 h x hx)
          cases hq1 : undB ra rc
          · rw [hq1] at HU3
            clear hq1
            go_wp2_with fail
            refine HU3.out.mono ?_
            rintro e w19 ⟨rfl, hb⟩
            have HB19 := hid (HB18.out.trans (hb.mono HB18.out.size))
            clear hb
            go_wp2_with fail
            go_ret
            exact ⟨rfl, HB19.out⟩
          · rw [hq1] at HU3
            have HD1' := hid (HD1.out hq1)
            clear hq1
            go_wp2_with fail
            refine HU3.out.mono ?_
            rintro e w19 ⟨rfl, hb⟩
            have HB19 := hid (HB18.out.trans (hb.mono HB18.out.size))
            have HMX19 := hid (HMX18.out.below hb)
            clear hb HU3 HB18 HMX18
            go_wp2_with fail
            refine (HOM2.out _ HB19.out).mono ?_
            rintro e w20 ⟨u8, rfl, ho8, -, hb⟩
            have HB20 := hid (HB19.out.trans (hb.mono HB19.out.size))
            have HM8 := hid (mr_own ho8 hb)
            have HMX20 := hid (HMX19.out.below hb)
            have HU4 := hid (und_any rb rc _ _ A m w20 (by omega) (by omega) (fun x hx => by have := HZB.out x hx; omega) (fun x hx => by have := HZC.out x hx; omega) (HS.out.below HB20.out) HM8.out.ms (HR3X.out _ HB20.out))
            obtain ⟨a8, c8, hu8⟩ := HM8.out.sl
            subst hu8
            clear ho8 hb HB19 HM8 HMX19
            have HD2 := hid (show undB rb rc = true → ∀ x, x ∈ rb → hasV rc x = true from fun h x hx => List.all_eq_true.1 h x hx)
            cases hq2 : undB rb rc
            · rw [hq2] at HU4
              clear hq2
              go_wp2_with fail
              refine HU4.out.mono ?_
              rintro e w21 ⟨rfl, hb⟩
              have HB21 := hid (HB20.out.trans (hb.mono HB20.out.size))
              clear hb
              go_wp2_with fail
              go_ret
              exact ⟨rfl, HB21.out⟩
            · rw [hq2] at HU4
              have HD2' := hid (HD2.out hq2)
              clear hq2
              go_wp2_with fail
              refine HU4.out.mono ?_
              rintro e w21 ⟨rfl, hb⟩
              have HB21 := hid (HB20.out.trans (hb.mono HB20.out.size))
              have HMX21 := hid (HMX20.out.below hb)
              have HU5 := hid (und_any Z rc _ _ A m w21 (by omega) (by omega) (fun x hx => (HXS.out x hx).2) (fun x hx => by have := HZC.out x hx; omega) (HS.out.below HB21.out) HMX21.out (HR3X.out _ HB21.out))
              rw [HJX.out.least (C := rc) (fun x hx => by
                rcases List.mem_append.1 hx with h | h
                · exact HD1'.out x h
                · exact HD2'.out x h)] at HU5
              clear hb HU4 HB20 HMX20
              go_wp2_with fail
              refine HU5.out.mono ?_
              rintro e w22 ⟨rfl, hb⟩
              have HB22 := hid (HB21.out.trans (hb.mono HB21.out.size))
              clear hb
              go_wp2_with fail
              go_ret
              exact ⟨rfl, HB22.out⟩
set_option maxRecDepth 100000 in
set_option maxHeartbeats 4000000 in
theorem mj_long (ra rb rc : List Bm) (v u s : Value) (A : Nat → Addr) (m : Int) (w : World) (x y z : Int) (S : Te w A m) (hr : MsAt w v ra) (hr2 : MsAt w u rb) (hr3 : MsAt w s rc) (hx : (if okLN 15 ra then (0 : Int) else 1) = x) (hy : (if okLN 15 rb then (0 : Int) else 1) = y) (hz : (if okLN 15 rc then (0 : Int) else 1) = z)
    (hxyz : (x = 1 ∧ y = 0 ∧ z = 0) ∨ (x = 0 ∧ y = 1 ∧ z = 0) ∨ (x = 0 ∧ y = 0 ∧ z = 1) ∨ (x = 1 ∧ y = 1 ∧ z = 0) ∨ (x = 1 ∧ y = 0 ∧ z = 1) ∨ (x = 0 ∧ y = 1 ∧ z = 1) ∨ (x = 1 ∧ y = 1 ∧ z = 1)) :
    Calls Tryz.prog 4 #[v, u, s] w fun e w' => e = .returned (.bool true) ∧ Below w.heap.size w w' := by
  obtain ⟨aa, ac, hv0, -⟩ := id hr
  subst hv0
  obtain ⟨ba, bc, hu0, -⟩ := id hr2
  subst hu0
  obtain ⟨ca, cc, hs0, -⟩ := id hr3
  subst hs0
  have HIN := hid (built_any A m w S)
  have HLM := hid (fun W (h : Below w.heap.size w W) => longN_any 15 (by decide) ra _ W (hr.below h))
  rw [hx] at HLM
  have HLM2 := hid (fun W (h : Below w.heap.size w W) => longN_any 15 (by decide) rb _ W (hr2.below h))
  rw [hy] at HLM2
  have HLM3 := hid (fun W (h : Below w.heap.size w W) => longN_any 15 (by decide) rc _ W (hr3.below h))
  rw [hz] at HLM3
  clear S hr hr2 hr3 hx hy hz
  rcases hxyz with ⟨rfl, rfl, rfl⟩ | ⟨rfl, rfl, rfl⟩ | ⟨rfl, rfl, rfl⟩ | ⟨rfl, rfl, rfl⟩ | ⟨rfl, rfl, rfl⟩ | ⟨rfl, rfl, rfl⟩ | ⟨rfl, rfl, rfl⟩
  all_goals
    go_enter Tryz.func4, Tryz.ntmps4
    go_wp2_with fail
    refine HIN.out.mono ?_
    rintro e w1 ⟨rfl, hb⟩
    have HB1 := hid hb
    clear hb
    go_wp2_with fail
    refine (HLM.out w1 HB1.out).mono ?_
    rintro e w2 ⟨rfl, rfl⟩
    go_wp2_with fail
    refine (HLM2.out w2 HB1.out).mono ?_
    rintro e w3 ⟨rfl, rfl⟩
    go_wp2_with fail
    refine (HLM3.out w3 HB1.out).mono ?_
    rintro e w4 ⟨rfl, rfl⟩
    go_wp2_with fail
    go_ret
    exact ⟨rfl, HB1.out⟩
theorem mvsJoins_any (ra rb rc : List Bm) (v u s : Value) (A : Nat → Addr) (m : Int) (w : World) (S : Te w A m) (hr : MsAt w v ra) (her : Em v ra) (hr2 : MsAt w u rb) (her2 : Em u rb) (hr3 : MsAt w s rc) :
    Calls Tryz.prog 4 #[v, u, s] w fun e w' => e = .returned (.bool true) ∧ Below w.heap.size w w' := by
  cases hrk : okLN 15 ra <;> cases hrk2 : okLN 15 rb <;> cases hrk3 : okLN 15 rc
  case true.true.true => exact mj_head ra rb rc v u s A m w S hr her hr2 her2 hr3 hrk hrk2 hrk3
  all_goals exact mj_long ra rb rc v u s A m w _ _ _ S hr hr2 hr3 rfl rfl rfl (by rw [hrk, hrk2, hrk3]; decide)
end Ve
end Go.Proofs.YtffjaliegglddaaGreatDoor

/-
  An index and a row of modules that a caller hands in, opened.
-/
namespace Go.Proofs.YtffjaliegglddaaGreatDoor
open Go.ChangeShapes Go.WideShapes Go.ChangeAt Go.RowKit Go.ChangeMaps Go.Joins
namespace Ve

theorem oCellsMod : Tryz.prog.cellsOf 25 = 2 := by kernel_rfl
theorem oCellsStr : Tryz.prog.cellsOf 9 = 1 := by kernel_rfl
theorem oCellsEnt : Tryz.prog.cellsOf 45 = 5 := by kernel_rfl
theorem oCellsMods : Tryz.prog.cellsOf 23 = 1 := by kernel_rfl
theorem oCellsSstr : Tryz.prog.cellsOf 43 = 1 := by kernel_rfl
theorem oCellsBool : Tryz.prog.cellsOf 4 = 1 := by kernel_rfl
/-- The bytes of a string; none of what is no string. -/
def strOf : Value → ByteArray
  | .string s => s
  | _ => ⟨#[]⟩
set_option maxRecDepth 100000 in
/-- A row of modules, opened. -/
theorem open_ms {H : Type} {enc : TypeId × Value → H} {w : World} {base fuel : Nat} {held : Bool} {v : Value} {x : DataW H × List MemPlace}
    (h : DataW.trod enc Tryz.prog w base (fun _ => true) held fuel 23 [v] = some x) : ∃ L, MsAt w v L ∧ Em v L := by
  rcases Go.Deep.open_slice_pairs Tryz.underlying23 Tryz.underlying25 oCellsMod rfl rfl oCellsStr oCellsStr h with ⟨hcs, _⟩ | ⟨a, len, cap, m, n, V0, V1, D0, D1, P0, P1, hcs, _, hl, _, hm, _, hx⟩
  · simp only [List.cons.injEq, and_true] at hcs
    subst hcs
    exact ⟨[], ⟨none, 0, rfl, Nat.le_refl _, fun h => absurd rfl h⟩, fun a c e _ => Or.inl e.symm⟩
  · simp only [List.cons.injEq, and_true] at hcs
    subst hcs
    simp only [if_true] at hm
    subst hm
    have hlen : ((List.range len).map fun i => (strOf (V0 i), strOf (V1 i))).length = len := by simp
    refine ⟨(List.range len).map fun i => (strOf (V0 i), strOf (V1 i)), ⟨some a, m, by rw [hlen], by rw [hlen]; exact hl, fun hne => ?_⟩, fun a' c e h0 => ?_⟩
    · have h0l : 0 < len := by rw [← hlen]; exact List.length_pos_iff.2 hne
      obtain ⟨b, off, spot⟩ := a
      have hspot : spot = none := by simpa [Addr.add] using World.cell?_spot (hx 0 (by omega)).1
      subst hspot
      refine ⟨b, off, rfl, fun j hj => ?_⟩
      have hj2 : j < len := by rw [← hlen]; exact hj
      obtain ⟨g0, g1, t0, t1⟩ := hx j (by omega)
      obtain ⟨s0, e0, _, _⟩ := DataW.trod_string Tryz.underlying9 t0
      obtain ⟨s1, e1, _, _⟩ := DataW.trod_string Tryz.underlying9 t1
      simp only [List.cons.injEq, and_true] at e0 e1
      rw [e0] at g0
      rw [e1] at g1
      simp only [List.getElem_map, List.getElem_range, e0, e1]
      rw [Addr.add_lit] at g0 g1
      exact ⟨g0, g1⟩
    · have hz : len = 0 := by rw [← hlen, h0]; rfl
      rw [hlen] at e
      subst hz
      right
      injection e with e1 e2 e3
      exact ⟨a, by rw [← e1]⟩
set_option maxRecDepth 100000 in
/-- A row of texts, opened. -/
theorem open_tx {H : Type} {enc : TypeId × Value → H} {w : World} {base fuel : Nat} {held : Bool} {v : Value} {x : DataW H × List MemPlace}
    (h : DataW.trod enc Tryz.prog w base (fun _ => true) held fuel 43 [v] = some x) : ∃ X, TxAt w v X ∧ EmT v X := by
  rcases open_strings Tryz.underlying43 Tryz.underlying9 oCellsStr h with ⟨hcs, _⟩ | ⟨a, len, cap, ss, hcs, _, hl, _, hm, _, hx, _⟩
  · simp only [List.cons.injEq, and_true] at hcs
    subst hcs
    exact ⟨[], ⟨none, 0, rfl, Nat.le_refl _, fun h => absurd rfl h⟩, fun a c e _ => Or.inl e.symm⟩
  · simp only [List.cons.injEq, and_true] at hcs
    subst hcs
    simp only [if_true] at hm
    have hlen : (ss.take len).length = len := by rw [List.length_take]; omega
    refine ⟨ss.take len, ⟨some a, cap, by rw [hlen], by rw [hlen]; exact hl, fun hne => ?_⟩, fun a' c e h0 => ?_⟩
    · have h0l : 0 < len := by rw [← hlen]; exact List.length_pos_iff.2 hne
      obtain ⟨b, off, spot⟩ := a
      have hspot : spot = none := by simpa [Addr.add] using World.cell?_spot (hx 0 (by omega))
      subst hspot
      refine ⟨b, off, rfl, fun j hj => ?_⟩
      have hj2 : j < len := by rw [← hlen]; exact hj
      have g := hx j (by omega)
      rw [Addr.add_lit, List.getD_eq_getElem?_getD, List.getElem?_eq_getElem (by omega)] at g
      rw [List.getElem_take]
      exact g
    · have hz : len = 0 := by rw [← hlen, h0]; rfl
      rw [hlen] at e
      subst hz
      right
      injection e with e1 e2 e3
      exact ⟨a, by rw [← e1]⟩
set_option maxRecDepth 100000 in
/-- An entry, opened. -/
theorem open_ent {H : Type} {enc : TypeId × Value → H} {w : World} {base fuel : Nat} {held : Bool} {cs : List Value} {x : DataW H × List MemPlace}
    (h : DataW.trod enc Tryz.prog w base (fun _ => true) held fuel 45 cs = some x) : ∃ (r : Raw) (e : Ent), cs = rowR r ∧ slR r ∧ RawOk w r e ∧ Em r.2.1 e.2.1 ∧ EmT r.2.2.1 e.2.2.1 := by
  obtain ⟨y0, y1, y2, y3, n, _, hl, h0, h1, h2, h3⟩ := trod_struct4 Tryz.underlying45 h
  rw [oCellsEnt] at hl
  match cs, hl with
  | [c0, c1, c2, c3, c4], _ =>
    simp only [oCellsMod, oCellsMods, oCellsSstr, oCellsBool, List.drop, List.take] at h0 h1 h2 h3
    obtain ⟨z0, z1, n2, _, _, k0, k1⟩ := trod_struct2 Tryz.underlying25 h0
    simp only [oCellsStr, List.drop, List.take] at k0 k1
    obtain ⟨s0, e0, _, _⟩ := DataW.trod_string Tryz.underlying9 k0
    obtain ⟨s1, e1, _, _⟩ := DataW.trod_string Tryz.underlying9 k1
    obtain ⟨R, hR, hER⟩ := open_ms h1
    obtain ⟨X, hX, hEX⟩ := open_tx h2
    obtain ⟨b, e4, _⟩ := DataW.trod_bool Tryz.underlying4 h3
    simp only [List.cons.injEq, and_true] at e0 e1 e4
    subst e0 e1 e4
    refine ⟨((s0, s1), c2, c3, b), ((s0, s1), R, X, b), rfl, ⟨?_, ?_⟩, ⟨rfl, hR, hX, rfl⟩, hER, hEX⟩
    · obtain ⟨a, c, e, _⟩ := hR; exact ⟨_, _, _, e⟩
    · obtain ⟨a, c, e, _⟩ := hX; exact ⟨_, _, _, e⟩
set_option maxRecDepth 100000 in
/-- An index, opened. -/
theorem open_ix {H : Type} {enc : TypeId × Value → H} {w : World} {base fuel : Nat} {held : Bool} {v : Value} {x : DataW H × List MemPlace}
    (h : DataW.trod enc Tryz.prog w base (fun _ => true) held fuel 22 [v] = some x) : ∃ Q L, Ixs w v Q L ∧ EmI Q L := by
  rcases Go.Deep.open_slice Tryz.underlying22 h with ⟨hcs, _⟩ | ⟨a, len, cap, m, n, D, Pl, hcs, _, hl, _, hm, _, hx⟩
  · simp only [List.cons.injEq, and_true] at hcs
    subst hcs
    exact ⟨[], [], ⟨⟨none, 0, rfl, Nat.le_refl _, fun r hr => (by cases hr), fun h => absurd rfl h⟩, rfl, fun j h1 => absurd h1 (Nat.not_lt_zero _)⟩, fun j h1 => absurd h1 (Nat.not_lt_zero _)⟩
  · simp only [List.cons.injEq, and_true] at hcs
    subst hcs
    simp only [if_true] at hm
    subst hm
    have each : ∀ i, i < len → ∃ q : Raw × Ent, (∀ c (hc : c < 5), w.cell? (a.add (i * 5 + c)) = (rowR q.1)[c]?) ∧ slR q.1 ∧ RawOk w q.1 q.2 ∧ Em q.1.2.1 q.2.2.1 ∧ EmT q.1.2.2.1 q.2.2.2.1 := fun i hi => by
      obtain ⟨cs', h1, h2⟩ := hx i (by omega)
      obtain ⟨r, e, hcs, k1, k2, k3, k4⟩ := open_ent h2
      rw [oCellsEnt] at h1
      obtain ⟨_, hlen, hcell⟩ := World.cells?_some h1
      refine ⟨(r, e), fun c hc => ?_, k1, k2, k3, k4⟩
      have := hcell c (by omega)
      rw [Go.Deep.add_add] at this
      rw [this, hcs]
    obtain ⟨q, hq⟩ := Go.Deep.choose_lt each
    have hlq : ((List.range len).map fun i => (q i).1).length = len := by simp
    have hll : ((List.range len).map fun i => (q i).2).length = len := by simp
    refine ⟨(List.range len).map fun i => (q i).1, (List.range len).map fun i => (q i).2, ⟨⟨some a, m, by rw [hlq], by rw [hlq]; exact hl, fun r hr => ?_, fun hne => ?_⟩, by rw [hlq, hll], fun j h1 h2 => ?_⟩, fun j h1 h2 => ?_⟩
    · obtain ⟨i, hi, rfl⟩ := List.mem_map.1 hr
      exact (hq i (List.mem_range.1 hi)).2.1
    · have h0l : 0 < len := by rw [← hlq]; exact List.length_pos_iff.2 hne
      obtain ⟨b, off, spot⟩ := a
      have g0 := (hq 0 h0l).1 0 (by omega)
      have hspot : spot = none := by
        have : ∃ u, World.cell? w ((⟨b, off, spot⟩ : Addr).add (0 * 5 + 0)) = some u := ⟨_, g0⟩
        obtain ⟨u, hu⟩ := this
        simpa [Addr.add] using World.cell?_spot hu
      subst hspot
      refine ⟨b, off, rfl, fun j hj => ?_⟩
      have hj2 : j < len := by rw [← hlq]; exact hj
      have g := (hq j hj2).1
      simp only [List.getElem_map, List.getElem_range]
      refine ⟨?_, ?_, ?_, ?_, ?_⟩
      · have := g 0 (by omega); rw [Addr.add_lit] at this; exact this
      · have := g 1 (by omega); rw [Addr.add_lit] at this; exact this
      · have := g 2 (by omega); rw [Addr.add_lit] at this; exact this
      · have := g 3 (by omega); rw [Addr.add_lit] at this; exact this
      · have := g 4 (by omega); rw [Addr.add_lit] at this; exact this
    · have hj2 : j < len := by rw [← hlq]; exact h1
      simp only [List.getElem_map, List.getElem_range]
      exact (hq j hj2).2.2.1
    · have hj2 : j < len := by rw [← hlq]; exact h1
      simp only [List.getElem_map, List.getElem_range]
      exact (hq j hj2).2.2.2
end Ve
end Go.Proofs.YtffjaliegglddaaGreatDoor

/-
  The plain wrap with a condition, the world's shape kept; variables laid over a world.
-/
namespace Go.Proofs.YtffjaliegglddaaGreatDoor
open Go.ChangeShapes Go.WideShapes Go.ChangeAt Go.RowKit
namespace Ve

/-- The plain wrap with a condition, the world's shape kept. -/
theorem wrap_and_shaped {H : Type} {enc : TypeId × Value → H} {a : Assume} {C : Checked} {os : Go.Os} {f : FuncId} {fn : Func} {s : ChangeSpec} {conds : List PathCond} {apart fresh handsOn again : Bool} {X : World → Array Value → Prop}
    (hX : ∀ (w w' : World) (args : Array Value), w.heap = w'.heap → X w args → X w' args)
    (own : ownKnob C.prog.godebug = none) (started : os.Started) (noInit : C.prog.inits.idxOf? f = none) (hfn : C.prog.funcs[f]? = some fn)
    (witness : ∃ (w : World) (tape : Tape) (i : Input), w.os = os ∧ (w.forCall tape i).Shaped C.prog ∧ i.vars = [] ∧ Input.okWide C.prog (w.forCall tape i) .any w.heap.size f i ∧
      ((s.pre enc C.prog fn conds apart (w.forCall tape i).memory i.args ∧ X (w.forCall tape i).memory i.args) ∧ sizedMet enc C.prog fn (OpenSpec.ofChange s) apart (w.forCall tape i).memory i.args) ∧ a.holds C.prog (lone (Frame.enter C.prog f i.args .normal) [] (w.forCall tape i)))
    (contract : ∀ (W : World) (base : Nat) (args : Array Value) (ds gs : List (DataW H)) (before : List MemPlace),
      (∀ (j : Nat) t v, fn.params[j]? = some t → args[j]? = some v → Value.okWide C.prog W .any base t v) →
      DataW.Whole enc C.prog fn.params.toList s.vars apart W args.toList ds gs before → X W args → W.ShapedOpen C.prog →
      Calls C.prog f args W fun e W' => ∃ v, e = .returned v ∧ s.post enc C.prog fn apart fresh handsOn again W args v W') :
    ReturnsInHanded a C os f .any (fun w args => (s.pre enc C.prog fn conds apart w args ∧ X w args) ∧ sizedMet enc C.prog fn (OpenSpec.ofChange s) apart w args) (s.post enc C.prog fn apart fresh handsOn again) := by
  refine returnsInHanded_of_calls own started noInit witness ?_
  intro w tape i _ hsh _ hok hpre _
  obtain ⟨_, _, _, fn', hfn', _, _, _, _, hval⟩ := hok
  have e : fn' = fn := Option.some.inj (hfn'.symm.trans hfn)
  subst e
  obtain ⟨⟨⟨ds, gs, before, hw, _⟩, hx⟩, _⟩ := hpre
  have hw' := DataW.Whole.of_heap (w' := w.forCall tape i) (by rfl) hw
  refine (contract (w.forCall tape i) w.heap.size i.args ds gs before hval hw' (hX _ _ _ (by rfl) hx) hsh).mono fun e W' ⟨v, he, hp⟩ => ?_
  subst he
  exact ChangeSpec.post_blind hp

/-- All that is listed, laid over a world. -/
theorem laidMet_over {P : Program} {w0 : World} {laid : List (String × DataW Unit)} (args : Array Value)
    (hf : w0.layFits P laid [] = true) (hi : w0.layIfaces P laid (w0.layVars P laid) = true) :
    laidMet P laid ((w0.layVars P laid).forCall (fun _ _ => 0) ⟨#[], args, []⟩).memory := by
  have e1 : (laid.filter fun x => (laid.map (·.1)).contains x.1) = laid := List.filter_eq_self.2 fun x hx => List.contains_iff_mem.2 (List.mem_map.2 ⟨x, hx, rfl⟩)
  have e2 : (laid.filter fun x => !(laid.map (·.1)).contains x.1) = [] := List.filter_eq_nil_iff.2 fun x hx => by rw [List.contains_iff_mem.2 (List.mem_map.2 ⟨x, hx, rfl⟩)]; simp
  have h : laidMet P laid (w0.layVars P laid) := laidMet_layVars (w0 := w0) (laid.map (·.1)) [] (by rw [e1]) (by rw [e1]; exact hf) (by rw [e1]; exact hi) (by rw [e2]; exact LaidIn.none)
  exact h.of_heap (by simp [World.memory, World.forCall, Input.heap])
end Ve
end Go.Proofs.YtffjaliegglddaaGreatDoor
