/-
  What hasPre, ofPath and best of package index answer; nothing old in memory turns.
-/
import Derived.Test.YtdhaechjdigbbaaGreatDoorJn1
import Derived.Test.YtdhaechjdigbbaaGreatDoorSplitAny
import Derived.Test.YtdhaechjdigbbaaGreatDoorVerR
import Derived.Test.YtdhaechjdigbbaaGreatDoorVerQ
import Derived.Test.YtdhaechjdigbbaaGreatDoorOrdB
import Derived.Deep.RegionHeld
import Derived.Shelf.SlSortCmp.WholeK
import Derived.Shelf.SlGeneric
import Derived.Test.YtdhaechjdigbbaaGreatDoorProg
import Derived.Laws.AppendOwnNone
namespace Go.Proofs.YtdhaechjdigbbaaGreatDoor
open Go.RowKit
namespace Ve

set_option maxHeartbeats 1000000 in
theorem vcheck_is (s : ByteArray) (aT aB : Addr) (m : Int) (w : World) (hs : s.size < 4294967281) (S : Vs w aT aB m) :
    Calls Tryz.prog 65 #[.string s] w fun e w' => e = .returned (errV aT aB (verErr s.data.toList)) ∧ Below w.heap.size w w' := by
  have HC := hid (vsplit_any s aT aB m w hs S)
  clear S
  go_enter Tryz.func65, Tryz.ntmps65
  go_wp2_with fail
  refine HC.out.mono ?_
  rintro e w1 ⟨h1, hb⟩
  have HB := hid hb
  clear hb
  rcases h1 with ⟨h0, rfl⟩ | ⟨h0, v, X, rfl, _, hst⟩
  · obtain ⟨a, ha⟩ := errV_ne aT aB h0
    have HE := hid ha
    rw [ha]
    clear h0 ha
    go_wp2_with fail
    go_ret
    exact ⟨by rw [HE.out]; rfl, HB.out.alloc HB.out.size _⟩
  · obtain ⟨p, n, c, rfl⟩ := hst.slice
    have HE := hid (show errV aT aB (verErr s.data.toList) = .nilIface by rw [h0]; rfl)
    clear h0 hst
    go_wp2_with fail
    go_ret
    exact ⟨by rw [HE.out]; rfl, HB.out.alloc HB.out.size _⟩
/-- Has a version a pre? -/
def preB (s : ByteArray) : Bool := decide (verErr s.data.toList = 0) && decide (0 < (preOf s.data.toList).length)
theorem StrsAt.len {w : World} {v : Value} {X : List ByteArray} (h : StrsAt w v X) : ∃ p c, v = .slice p X.length c := by
  rcases h with ⟨h0, rfl⟩ | ⟨_, b, rfl, _⟩
  · exact ⟨none, 0, by rw [h0]; rfl⟩
  · exact ⟨_, _, rfl⟩
set_option maxHeartbeats 1000000 in
theorem hasPre_any (s : ByteArray) (aT aB : Addr) (m : Int) (w : World) (hs : s.size < 4294967281) (S : Vs w aT aB m) :
    Calls Tryz.prog 68 #[.string s] w fun e w' => e = .returned (.bool (preB s)) ∧ Below w.heap.size w w' := by
  have HC := hid (vsplit_any s aT aB m w hs S)
  clear S
  go_enter Tryz.func68, Tryz.ntmps68
  go_wp2_with fail
  refine HC.out.mono ?_
  rintro e w1 ⟨h1, hb⟩
  have HB := hid hb
  clear hb
  rcases h1 with ⟨h0, rfl⟩ | ⟨h0, v, X, rfl, hX, hst⟩
  · have HE := hid (show preB s = false by unfold preB; rw [decide_eq_false h0]; rfl)
    obtain ⟨a, ha⟩ := errV_ne aT aB h0
    rw [ha]
    clear h0 ha
    go_wp2_with fail
    go_ret
    exact ⟨by rw [HE.out]; rfl, HB.out.alloc HB.out.size _⟩
  · obtain ⟨p, c, rfl⟩ := hst.len
    have HE := hid (show preB s = decide (0 < X.length) by
      unfold preB; rw [decide_eq_true h0, ← hX, bl_len]; rfl)
    clear h0 hst hX
    go_wp2_with fail
    go_ret
    refine ⟨?_, HB.out.alloc HB.out.size _⟩
    rw [HE.out]
    simp
/-- Is an entry of this path, and a version? -/
def isP (t : ByteArray) (r : Raw) : Bool := decide (r.1.1 = t) && decide (verErr r.1.2.data.toList = 0)
set_option maxHeartbeats 2000000 in
theorem ofPathK_any (t : ByteArray) (r : Raw) (hs : slR r) (hz : r.1.2.size < 999999) (aT aB : Addr) (m : Int) (b : Nat) (W : World) (S : Vs W aT aB m) (h0 : W.cell? ⟨b, 0, none⟩ = some (.string t)) :
    Calls Tryz.prog 64 (#[rawV r] ++ #[.pointer (some ⟨b, 0, none⟩)]) W fun e w' => e = .returned (.bool (isP t r)) ∧ Below W.heap.size W w' := by
  obtain ⟨⟨p, v⟩, rv, pv, bk⟩ := r
  obtain ⟨⟨ra, rn, rc, hrv⟩, pa, pn, pc, hpv⟩ := hs
  simp only at hrv hpv hz
  subst hrv
  subst hpv
  show Calls Tryz.prog 64 #[.agg #[.string p, .string v, .slice ra rn rc, .slice pa pn pc, .bool bk], .pointer (some ⟨b, 0, none⟩)] W _
  have HI := hid (show isP t ((p, v), .slice ra rn rc, .slice pa pn pc, bk) = (decide (p = t) && decide (verErr v.data.toList = 0)) from rfl)
  have HB0 := hid ((Below.refl W.heap.size W).alloc (Nat.le_refl _) (.cells #[.string p, .string v, .slice ra rn rc, .slice pa pn pc, .bool bk] 42))
  have c0 := cell_below HB0.out h0
  have hbb : ¬ b = W.heap.size := by have := lt_of_cell h0; simp at this; omega
  have hbb2 : ¬ W.heap.size = b := fun h => hbb h.symm
  have HS := hid (S.below HB0.out)
  have HV := hid (fun W' (SW : Vs W' aT aB m) => vcheck_is v aT aB m W' (by omega) SW)
  generalize isP t ((p, v), .slice ra rn rc, .slice pa pn pc, bk) = z at *
  clear S
  by_cases h : p = t
  · rw [decide_eq_true h, Bool.true_and] at HI
    have hq : (p.toList == t.toList) = true := by rw [h]; exact str_refl t
    by_cases h1 : verErr v.data.toList = 0
    · rw [decide_eq_true h1] at HI
      have hz1 := HI.out
      subst hz1
      have HE := hid (show errV aT aB (verErr v.data.toList) = .nilIface by rw [h1]; rfl)
      rw [HE.out] at HV
      clear h h1 HI
      go_enter Tryz.func64, Tryz.ntmps64
      go_wp2_with fail
      refine (HV.out _ HS.out).mono ?_
      rintro e w1 ⟨rfl, hb⟩
      have HB := hid (HB0.out.trans (hb.mono HB0.out.size))
      clear hb
      go_wp2_with fail
      go_ret
      exact ⟨rfl, HB.out⟩
    · rw [decide_eq_false h1] at HI
      have hz1 := HI.out
      subst hz1
      obtain ⟨a, ha⟩ := errV_ne aT aB h1
      rw [ha] at HV
      clear h h1 HI ha
      go_enter Tryz.func64, Tryz.ntmps64
      go_wp2_with fail
      refine (HV.out _ HS.out).mono ?_
      rintro e w1 ⟨rfl, hb⟩
      have HB := hid (HB0.out.trans (hb.mono HB0.out.size))
      clear hb
      go_wp2_with fail
      go_ret
      exact ⟨rfl, HB.out⟩
  · rw [decide_eq_false h, Bool.false_and] at HI
    have hz1 := HI.out
    subst hz1
    have hq := str_ne h
    clear h HI
    go_enter Tryz.func64, Tryz.ntmps64
    go_wp2_with fail
    go_ret
    exact ⟨rfl, HB0.out⟩
/-- Versions of entries are short. -/
def shortR (L : List Raw) : Prop := ∀ r, r ∈ L → r.1.1.size < 999999 ∧ r.1.2.size < 999999
theorem shortR.filter {L : List Raw} (h : shortR L) (P : Raw → Bool) : shortR (L.filter P) := fun r hr => h r (List.mem_filter.1 hr).1
set_option maxHeartbeats 1000000 in
/-- index.ofPath. -/
theorem ofPath_any (L : List Raw) (t : ByteArray) (v : Value) (aT aB : Addr) (m : Int) (w : World) (hL : L.length ≤ 100000) (hz : shortR L) (S : Vs w aT aB m) (hv : EsAt w v L) :
    Calls Tryz.prog 32 #[v, .string t] w fun e w' => ∃ v', e = .returned v' ∧ EsAt w' v' (L.filter (isP t)) ∧ Below w.heap.size w w' := by
  obtain ⟨a, c, hv1, _, hs, _⟩ := id hv
  have HB0 := hid ((Below.refl w.heap.size w).alloc (Nat.le_refl _) (.cells #[.string t] 9))
  have eg : ∀ args w, (callFunc 64 args).run Tryz.prog w = .ok (.enter 64 args) w := enters_of Tryz.func64 (by kernel_rfl) rfl
  have HF := hid (where_any 64 #[.pointer (some ⟨w.heap.size, 0, none⟩)] (isP t) L v (w.alloc (.cells #[.string t] 9)) eg hL (hv.below HB0.out) (fun i hi W hW =>
    ofPathK_any t L[i] (hs L[i] (List.getElem_mem hi)) (hz L[i] (List.getElem_mem hi)).2 aT aB m w.heap.size W ((S.below HB0.out).below hW) (cell_below hW (by simp))))
  subst hv1
  clear hv hs eg S
  go_enter Tryz.func32, Tryz.ntmps32
  go_wp2_with fail
  refine HF.out.mono ?_
  rintro e w1 ⟨v', rfl, he, hb⟩
  obtain ⟨a1, c1, e1, _⟩ := id he
  have HE := hid he
  have HB := hid (HB0.out.trans (hb.mono HB0.out.size))
  subst e1
  clear hb he
  go_wp2_with fail
  go_ret
  exact ⟨_, rfl, HE.out, HB.out⟩
/-- Is an entry not taken back? -/
def isS (r : Raw) : Bool := !r.2.2.2
/-- Has its version no pre? -/
def isD (r : Raw) : Bool := !preB r.1.2
set_option maxHeartbeats 1000000 in
theorem bestA_any (r : Raw) (hs : slR r) (W : World) : Calls Tryz.prog 66 (#[rawV r] ++ #[]) W fun e w' => e = .returned (.bool (isS r)) ∧ Below W.heap.size W w' := by
  obtain ⟨⟨p, v⟩, rv, pv, bk⟩ := r
  obtain ⟨⟨ra, rn, rc, hrv⟩, pa, pn, pc, hpv⟩ := hs
  simp only at hrv hpv
  subst hrv
  subst hpv
  show Calls Tryz.prog 66 #[.agg #[.string p, .string v, .slice ra rn rc, .slice pa pn pc, .bool bk]] W fun e w' => e = .returned (.bool (!bk)) ∧ Below W.heap.size W w'
  have HB0 := hid ((Below.refl W.heap.size W).alloc (Nat.le_refl _) (.cells #[.string p, .string v, .slice ra rn rc, .slice pa pn pc, .bool bk] 42))
  go_enter Tryz.func66, Tryz.ntmps66
  go_wp2_with fail
  go_ret
  exact ⟨rfl, HB0.out⟩
set_option maxHeartbeats 1000000 in
theorem bestB_any (r : Raw) (hs : slR r) (hz : r.1.2.size < 999999) (aT aB : Addr) (m : Int) (W : World) (S : Vs W aT aB m) : Calls Tryz.prog 67 (#[rawV r] ++ #[]) W fun e w' => e = .returned (.bool (isD r)) ∧ Below W.heap.size W w' := by
  obtain ⟨⟨p, v⟩, rv, pv, bk⟩ := r
  obtain ⟨⟨ra, rn, rc, hrv⟩, pa, pn, pc, hpv⟩ := hs
  simp only at hrv hpv hz
  subst hrv
  subst hpv
  show Calls Tryz.prog 67 #[.agg #[.string p, .string v, .slice ra rn rc, .slice pa pn pc, .bool bk]] W fun e w' => e = .returned (.bool (!preB v)) ∧ Below W.heap.size W w'
  have HB0 := hid ((Below.refl W.heap.size W).alloc (Nat.le_refl _) (.cells #[.string p, .string v, .slice ra rn rc, .slice pa pn pc, .bool bk] 42))
  have HH := hid (hasPre_any v aT aB m _ (by omega) (S.below HB0.out))
  generalize preB v = z at *
  clear S
  go_enter Tryz.func67, Tryz.ntmps67
  go_wp2_with fail
  refine HH.out.mono ?_
  rintro e w1 ⟨rfl, hb⟩
  have HB := hid (HB0.out.trans (hb.mono HB0.out.size))
  clear hb
  go_wp2_with fail
  go_ret
  exact ⟨rfl, HB.out⟩
/-- The entries that are liked most. -/
def bestR (L : List Raw) : List Raw := if 0 < ((L.filter isS).filter isD).length then (L.filter isS).filter isD else if 0 < (L.filter isS).length then L.filter isS else L
set_option maxHeartbeats 1000000 in
/-- index.best. -/
theorem best_any (L : List Raw) (v : Value) (aT aB : Addr) (m : Int) (w : World) (hL : L.length ≤ 100000) (hz : shortR L) (S : Vs w aT aB m) (hv : EsAt w v L) :
    Calls Tryz.prog 33 #[v] w fun e w' => ∃ v', e = .returned v' ∧ EsAt w' v' (bestR L) ∧ Below w.heap.size w w' := by
  obtain ⟨a, c, hv1, _, hs, _⟩ := id hv
  have egA : ∀ args w, (callFunc 66 args).run Tryz.prog w = .ok (.enter 66 args) w := enters_of Tryz.func66 (by kernel_rfl) rfl
  have egB : ∀ args w, (callFunc 67 args).run Tryz.prog w = .ok (.enter 67 args) w := enters_of Tryz.func67 (by kernel_rfl) rfl
  have HF := hid (where_any 66 #[] isS L v w egA hL hv (fun i hi W hW => bestA_any L[i] (hs L[i] (List.getElem_mem hi)) W))
  have HG := hid (fun W (SW : Vs W aT aB m) v' (hv' : EsAt W v' (L.filter isS)) => where_any 67 #[] isD (L.filter isS) v' W egB (Nat.le_trans (List.length_filter_le _ _) hL) hv' (fun i hi W' hW => bestB_any (L.filter isS)[i] (hs _ (List.mem_filter.1 (List.getElem_mem hi)).1) (hz.filter isS _ (List.getElem_mem hi)).2 aT aB m W' (SW.below hW)))
  have HV := hid hv
  have HS := hid S
  subst hv1
  clear hv hs egA egB S
  go_enter Tryz.func33, Tryz.ntmps33
  go_wp2_with fail
  refine HF.out.mono ?_
  rintro e w1 ⟨v1, rfl, h1, hb⟩
  obtain ⟨a1, c1, e1, _⟩ := id h1
  have HE1 := hid h1
  have HB1 := hid hb
  subst e1
  clear hb h1
  go_wp2_with fail
  refine (HG.out w1 (HS.out.below HB1.out) _ HE1.out).mono ?_
  rintro e w2 ⟨v2, rfl, h2, hb⟩
  obtain ⟨a2, c2, e2, _⟩ := id h2
  have HE2 := hid h2
  have HB2 := hid (HB1.out.trans (hb.mono HB1.out.size))
  have HE3 := hid (HE1.out.below hb)
  subst e2
  clear hb h2
  have HR := hid (show bestR L = if 0 < ((L.filter isS).filter isD).length then (L.filter isS).filter isD else if 0 < (L.filter isS).length then L.filter isS else L from rfl)
  clear HF HG HE1
  generalize (L.filter isS).filter isD = D at *
  generalize L.filter isS = Q at *
  by_cases p1 : 0 < D.length
  · have q1 : (0 : Int) < (D.length : Int) := by omega
    rw [if_pos p1] at HR
    clear p1
    go_wp2_with fail
    go_ret
    exact ⟨_, rfl, by rw [HR.out]; exact HE2.out, HB2.out⟩
  · have q1 : ¬ (0 : Int) < (D.length : Int) := by omega
    rw [if_neg p1] at HR
    by_cases p2 : 0 < Q.length
    · have q2 : (0 : Int) < (Q.length : Int) := by omega
      rw [if_pos p2] at HR
      clear p1 p2
      go_wp2_with fail
      go_ret
      exact ⟨_, rfl, by rw [HR.out]; exact HE3.out, HB2.out⟩
    · have q2 : ¬ (0 : Int) < (Q.length : Int) := by omega
      rw [if_neg p2] at HR
      clear p1 p2
      go_wp2_with fail
      go_ret
      exact ⟨_, rfl, by rw [HR.out]; exact HV.out.below HB2.out, HB2.out⟩
end Ve
end Go.Proofs.YtdhaechjdigbbaaGreatDoor

/-
  The order on versions turns round, and is nought for one version alone (plain). No Go here.
-/
namespace Go.Proofs.YtdhaechjdigbbaaGreatDoor
namespace Ve

theorem ordPart_swap (a b : List UInt8) : ordPart b a = -ordPart a b := by
  unfold ordPart
  cases h1 : digs a <;> cases h2 : digs b
  · simp only [Bool.false_eq_true, if_false]; exact cb_swap a b
  · simp
  · simp
  · simp only [if_true]; exact fst_swap (ci_swap _ _) (cb_swap _ _)
theorem ordPart_zero (a b : List UInt8) : ordPart a b = 0 ↔ a = b := by
  unfold ordPart
  cases h1 : digs a <;> cases h2 : digs b
  · simp only [Bool.false_eq_true, if_false]; exact cb_zero a b
  · simp only [Bool.false_eq_true, if_false, if_true]
    constructor
    · intro h; cases h
    · intro h; subst h; rw [h1] at h2; cases h2
  · simp only [Bool.false_eq_true, if_false, if_true]
    constructor
    · intro h; cases h
    · intro h; subst h; rw [h1] at h2; cases h2
  · simp only [if_true]
    rw [fst_zero, cb_zero]
    constructor
    · intro h; exact h.2
    · intro h; subst h; exact ⟨ci_self _, rfl⟩
theorem ordPs_swap : ∀ (a b : List (List UInt8)), ordPs b a = -ordPs a b
  | [], [] => rfl
  | [], _ :: _ => rfl
  | _ :: _, [] => rfl
  | x :: xs, y :: ys => fst_swap (ordPart_swap x y) (ordPs_swap xs ys)
theorem ordPs_zero : ∀ (a b : List (List UInt8)), ordPs a b = 0 ↔ a = b
  | [], [] => by simp [ordPs]
  | [], _ :: _ => by simp [ordPs]
  | _ :: _, [] => by simp [ordPs]
  | x :: xs, y :: ys => by
    unfold ordPs
    rw [fst_zero, ordPart_zero, ordPs_zero xs ys]
    simp
theorem ordPre_swap (a b : List (List UInt8)) : ordPre b a = -ordPre a b := by
  unfold ordPre
  by_cases h : a = [] ∨ b = []
  · rw [if_pos h, if_pos h.symm]; exact ci_swap _ _
  · rw [if_neg h, if_neg (fun k => h k.symm)]; exact ordPs_swap a b
theorem ordPre_zero (a b : List (List UInt8)) : ordPre a b = 0 ↔ a = b := by
  unfold ordPre
  by_cases h : a = [] ∨ b = []
  · rw [if_pos h, ci_zero]
    constructor
    · intro e
      rcases h with h | h
      · subst h; simp at e; exact e.symm
      · subst h; simp at e; exact List.length_eq_zero_iff.1 (by omega)
    · intro e; subst e; rfl
  · rw [if_neg h]; exact ordPs_zero a b
theorem ordV_swap (s t : List UInt8) : ordV t s = -ordV s t :=
  fst_swap (ci_swap _ _) (fst_swap (ci_swap _ _) (fst_swap (ci_swap _ _) (ordPre_swap _ _)))
theorem ordV_zero {s t : List UInt8} (hs : verErr s = 0) (ht : verErr t = 0) : ordV s t = 0 ↔ s = t := by
  unfold ordV ordN
  rw [fst_zero, fst_zero, fst_zero, ci_zero, ci_zero, ci_zero, ordPre_zero]
  constructor
  · rintro ⟨h0, h1, h2, h3⟩
    rw [← text_back s hs, ← text_back t ht, h0, h1, h2, h3]
  · intro h; subst h; exact ⟨rfl, rfl, rfl, rfl⟩
theorem ordV_range (s t : List UInt8) : ordV s t = -1 ∨ ordV s t = 0 ∨ ordV s t = 1 := ordN_range _ _ _ _ _ _ _ _
end Ve
end Go.Proofs.YtdhaechjdigbbaaGreatDoor

/-
  The order on versions: what is less than what is less is less; lists that rise are told by what they hold (plain). No Go here.
-/
namespace Go.Proofs.YtdhaechjdigbbaaGreatDoor
namespace Ve

theorem fst_lt {a b : Int} : fst a b < 0 ↔ a < 0 ∨ a = 0 ∧ b < 0 := by
  unfold fst
  by_cases h : a = 0
  · rw [if_pos h]; subst h; simp
  · rw [if_neg h]; simp [h]
theorem lex_trans {a1 a2 a3 b1 b2 b3 : Int} (h12 : a1 < 0 → a2 < 0 → a3 < 0) (h0l : a1 = 0 → a3 = a2) (h0r : a2 = 0 → a3 = a1) (hb : a1 = 0 → a2 = 0 → b1 < 0 → b2 < 0 → b3 < 0) :
    fst a1 b1 < 0 → fst a2 b2 < 0 → fst a3 b3 < 0 := by
  rw [fst_lt, fst_lt, fst_lt]
  rintro (h1 | ⟨h1, k1⟩) (h2 | ⟨h2, k2⟩)
  · exact Or.inl (h12 h1 h2)
  · exact Or.inl (by rw [h0r h2]; exact h1)
  · exact Or.inl (by rw [h0l h1]; exact h2)
  · exact Or.inr ⟨by rw [h0l h1]; exact h2, hb h1 h2 k1 k2⟩
theorem ci_trans {x y z : Int} (h1 : Lib.compareInt x y < 0) (h2 : Lib.compareInt y z < 0) : Lib.compareInt x z < 0 := by
  have e1 : x < y := by
    unfold Lib.compareInt at h1
    split at h1
    · assumption
    · split at h1 <;> omega
  have e2 : y < z := by
    unfold Lib.compareInt at h2
    split at h2
    · assumption
    · split at h2 <;> omega
  rw [ci_lt (by omega)]; decide
theorem cb_trans : ∀ (a b c : List UInt8), Lib.compareBytes a b < 0 → Lib.compareBytes b c < 0 → Lib.compareBytes a c < 0
  | [], [], _, h, _ => by simp [Lib.compareBytes] at h
  | [], _ :: _, [], _, h => by simp [Lib.compareBytes] at h
  | [], _ :: _, _ :: _, _, _ => by simp [Lib.compareBytes]
  | _ :: _, [], _, h, _ => by simp [Lib.compareBytes] at h
  | _ :: _, _ :: _, [], _, h => by simp [Lib.compareBytes] at h
  | x :: a, y :: b, z :: c, h1, h2 => by
    unfold Lib.compareBytes at h1 h2 ⊢
    by_cases h3 : x < y
    · by_cases h4 : y < z
      · rw [if_pos (UInt8.lt_trans h3 h4)]; decide
      · rw [if_neg h4] at h2
        by_cases h5 : z < y
        · rw [if_pos h5] at h2; omega
        · have := u8_eq h4 h5
          subst this
          rw [if_pos h3]; decide
    · rw [if_neg h3] at h1
      by_cases h4 : y < x
      · rw [if_pos h4] at h1; omega
      · rw [if_neg h4] at h1
        have := u8_eq h3 h4
        subst this
        by_cases h5 : x < z
        · rw [if_pos h5]; decide
        · rw [if_neg h5] at h2 ⊢
          by_cases h6 : z < x
          · rw [if_pos h6] at h2; omega
          · rw [if_neg h6] at h2 ⊢
            exact cb_trans a b c h1 h2
theorem ordPart_trans {a b c : List UInt8} (h1 : ordPart a b < 0) (h2 : ordPart b c < 0) : ordPart a c < 0 := by
  unfold ordPart at *
  cases ha : digs a <;> cases hb : digs b <;> cases hc : digs c <;> rw [ha, hb] at h1 <;> rw [hb, hc] at h2
  · exact cb_trans _ _ _ h1 h2
  · exact absurd (show (1 : Int) < 0 from h2) (by decide)
  · exact absurd (show (1 : Int) < 0 from h1) (by decide)
  · exact absurd (show (1 : Int) < 0 from h1) (by decide)
  · show (-1 : Int) < 0; decide
  · exact absurd (show (1 : Int) < 0 from h2) (by decide)
  · show (-1 : Int) < 0; decide
  · refine lex_trans (fun h k => ci_trans h k) ?_ ?_ (fun _ _ h k => cb_trans _ _ _ h k) h1 h2
    · intro h; rw [(ci_zero _ _).1 h]
    · intro h; rw [(ci_zero _ _).1 h]
theorem ordPs_trans : ∀ (a b c : List (List UInt8)), ordPs a b < 0 → ordPs b c < 0 → ordPs a c < 0
  | [], [], _, h, _ => by simp [ordPs] at h
  | [], _ :: _, [], _, h => by simp [ordPs] at h
  | [], _ :: _, _ :: _, _, _ => by simp [ordPs]
  | _ :: _, [], _, h, _ => by simp [ordPs] at h
  | _ :: _, _ :: _, [], _, h => by simp [ordPs] at h
  | x :: a, y :: b, z :: c, h1, h2 => by
    unfold ordPs at h1 h2 ⊢
    refine lex_trans (fun h k => ordPart_trans h k) ?_ ?_ (fun _ _ h k => ordPs_trans a b c h k) h1 h2
    · intro h; rw [(ordPart_zero _ _).1 h]
    · intro h; rw [(ordPart_zero _ _).1 h]
theorem ordPre_trans {a b c : List (List UInt8)} (h1 : ordPre a b < 0) (h2 : ordPre b c < 0) : ordPre a c < 0 := by
  unfold ordPre at *
  by_cases ha : a = []
  · subst ha
    rw [if_pos (Or.inl rfl)] at h1
    exfalso
    have : ¬ Lib.compareInt (b.length : Int) (([] : List (List UInt8)).length : Int) < 0 := by
      unfold Lib.compareInt
      split
      · rename_i h; simp at h; omega
      · split <;> omega
    exact this h1
  · by_cases hb : b = []
    · subst hb
      rw [if_pos (Or.inl rfl)] at h2
      exfalso
      have : ¬ Lib.compareInt (c.length : Int) (([] : List (List UInt8)).length : Int) < 0 := by
        unfold Lib.compareInt
        split
        · rename_i h; simp at h; omega
        · split <;> omega
      exact this h2
    · by_cases hc : c = []
      · subst hc
        rw [if_pos (Or.inr rfl)]
        rw [ci_lt (by have := List.length_pos_iff.2 ha; simp; omega)]; decide
      · rw [if_neg (by rintro (h | h); exact ha h; exact hb h)] at h1
        rw [if_neg (by rintro (h | h); exact hb h; exact hc h)] at h2
        rw [if_neg (by rintro (h | h); exact ha h; exact hc h)]
        exact ordPs_trans a b c h1 h2
theorem ordV_trans {s t u : List UInt8} (h1 : ordV s t < 0) (h2 : ordV t u < 0) : ordV s u < 0 := by
  unfold ordV ordN at *
  refine lex_trans (fun h k => ci_trans h k) ?_ ?_ (fun _ _ => lex_trans (fun h k => ci_trans h k) ?_ ?_ (fun _ _ => lex_trans (fun h k => ci_trans h k) ?_ ?_ (fun _ _ h k => ordPre_trans h k))) h1 h2
  all_goals (intro h; rw [(ci_zero _ _).1 h])
theorem ordV_irr {s t : List UInt8} (h : ordV s t < 0) : ¬ ordV t s < 0 := by rw [ordV_swap s t]; omega

/-- Each is less than those behind it. -/
def rises (l : List (List UInt8)) : Prop := l.Pairwise fun s t => ordV s t < 0
theorem rises_same : ∀ (a b : List (List UInt8)), rises a → rises b → (∀ x, x ∈ a ↔ x ∈ b) → a = b
  | [], [], _, _, _ => rfl
  | [], y :: _, _, _, h => absurd ((h y).2 (by simp)) (by simp)
  | x :: _, [], _, _, h => absurd ((h x).1 (by simp)) (by simp)
  | x :: a, y :: b, ha, hb, h => by
    obtain ⟨ha1, ha2⟩ := List.pairwise_cons.1 ha
    obtain ⟨hb1, hb2⟩ := List.pairwise_cons.1 hb
    have exy : x = y := by
      rcases List.mem_cons.1 ((h x).1 (by simp)) with e | e
      · exact e
      · rcases List.mem_cons.1 ((h y).2 (by simp)) with k | k
        · exact k.symm
        · exact absurd (hb1 x e) (ordV_irr (ha1 y k))
    subst exy
    have hxa : x ∉ a := fun k => ordV_irr (ha1 x k) (ha1 x k)
    have hxb : x ∉ b := fun k => ordV_irr (hb1 x k) (hb1 x k)
    rw [rises_same a b ha2 hb2 (fun z => ⟨fun k => by
      rcases List.mem_cons.1 ((h z).1 (List.mem_cons_of_mem _ k)) with e | e
      · subst e; exact absurd k hxa
      · exact e, fun k => by
      rcases List.mem_cons.1 ((h z).2 (List.mem_cons_of_mem _ k)) with e | e
      · subst e; exact absurd k hxb
      · exact e⟩)]
end Ve
end Go.Proofs.YtdhaechjdigbbaaGreatDoor

/-
  A row of versions' parts in memory; what slices.insertionSortCmpFunc makes of it.
-/
namespace Go.Proofs.YtdhaechjdigbbaaGreatDoor
open Go.RowKit
namespace Ve

/-- A version's text, and the slice of its pre. -/
abbrev Rc := List UInt8 × Value
def rcells (r : Rc) : List Value := [.int .i64 (nAt r.1 0), .int .i64 (nAt r.1 1), .int .i64 (nAt r.1 2), r.2]
/-- A record's pre lies in memory, and not in block g. -/
def RcAt (W : World) (g : Nat) (r : Rc) : Prop := verErr r.1 = 0 ∧ r.1.length ≤ 80 ∧ StrsAt W r.2 (strs (preOf r.1)) ∧ ∀ b o s n c, r.2 = .slice (some ⟨b, o, s⟩) n c → b ≠ g
/-- The row of records in block g. -/
structure Rw (w0 W : World) (g : Nat) (D : List Rc) : Prop where
  bl : Below w0.heap.size w0 W
  lo : w0.heap.size ≤ g
  hi : g < W.heap.size
  fz : ∀ o, W.frozen? ⟨g, o, none⟩ = false
  rc : ∀ r, r ∈ D → RcAt W g r
  c0 : ∀ j (h : j < D.length), W.cell? ⟨g, j * 4, none⟩ = some (.int .i64 (nAt D[j].1 0))
  c1 : ∀ j (h : j < D.length), W.cell? ⟨g, j * 4 + 1, none⟩ = some (.int .i64 (nAt D[j].1 1))
  c2 : ∀ j (h : j < D.length), W.cell? ⟨g, j * 4 + 2, none⟩ = some (.int .i64 (nAt D[j].1 2))
  c3 : ∀ j (h : j < D.length), W.cell? ⟨g, j * 4 + 3, none⟩ = some D[j].2
theorem RcAt.below {W W' : World} {g : Nat} {r : Rc} (h : RcAt W g r) (hb : Below W.heap.size W W') : RcAt W' g r := ⟨h.1, h.2.1, h.2.2.1.below hb, h.2.2.2⟩
theorem Rw.below {w0 W W' : World} {g : Nat} {D : List Rc} (h : Rw w0 W g D) (hb : Below W.heap.size W W') : Rw w0 W' g D :=
  ⟨h.bl.trans (hb.mono h.bl.size), h.lo, Nat.lt_of_lt_of_le h.hi hb.size, fun o => by rw [hb.frozen h.hi]; exact h.fz o, fun r hr => (h.rc r hr).below hb,
   fun j hj => cell_below hb (h.c0 j hj), fun j hj => cell_below hb (h.c1 j hj), fun j hj => cell_below hb (h.c2 j hj), fun j hj => cell_below hb (h.c3 j hj)⟩

theorem Rw.at {w0 W : World} {g : Nat} {D : List Rc} (h : Rw w0 W g D) {j : Nat} {r : Rc} (hj : D[j]? = some r) :
    W.cell? ⟨g, j * 4, none⟩ = some (.int .i64 (nAt r.1 0)) ∧ W.cell? ⟨g, j * 4 + 1, none⟩ = some (.int .i64 (nAt r.1 1)) ∧ W.cell? ⟨g, j * 4 + 2, none⟩ = some (.int .i64 (nAt r.1 2)) ∧ W.cell? ⟨g, j * 4 + 3, none⟩ = some r.2 := by
  obtain ⟨hl, rfl⟩ := List.getElem?_eq_some_iff.1 hj
  exact ⟨h.c0 j hl, h.c1 j hl, h.c2 j hl, h.c3 j hl⟩
/-- Two neighbours' cells, and the row. -/
def Two (w0 W : World) (g j : Nat) (D : List Rc) (y x : Rc) : Prop :=
  W.cell? ⟨g, j * 4, none⟩ = some (.int .i64 (nAt y.1 0)) ∧ W.cell? ⟨g, j * 4 + 1, none⟩ = some (.int .i64 (nAt y.1 1)) ∧ W.cell? ⟨g, j * 4 + 2, none⟩ = some (.int .i64 (nAt y.1 2)) ∧ W.cell? ⟨g, j * 4 + 3, none⟩ = some y.2 ∧
  W.cell? ⟨g, (j + 1) * 4, none⟩ = some (.int .i64 (nAt x.1 0)) ∧ W.cell? ⟨g, (j + 1) * 4 + 1, none⟩ = some (.int .i64 (nAt x.1 1)) ∧ W.cell? ⟨g, (j + 1) * 4 + 2, none⟩ = some (.int .i64 (nAt x.1 2)) ∧ W.cell? ⟨g, (j + 1) * 4 + 3, none⟩ = some x.2 ∧ Hid (Rw w0 W g D)
theorem Rw.two {w0 W : World} {g : Nat} {D : List Rc} (h : Rw w0 W g D) {j : Nat} {y x : Rc} (hy : D[j]? = some y) (hx : D[j + 1]? = some x) : Two w0 W g j D y x := by
  obtain ⟨a0, a1, a2, a3⟩ := h.at hy
  obtain ⟨b0, b1, b2, b3⟩ := h.at hx
  exact ⟨a0, a1, a2, a3, b0, b1, b2, b3, h⟩
theorem strs_len (ps : List (List UInt8)) : (strs ps).length = ps.length := by simp [strs]
theorem pre_small {W : World} {g : Nat} {r : Rc} (h : RcAt W g r) : (strs (preOf r.1)).length ≤ 1000000 ∧ ∀ x, x ∈ strs (preOf r.1) → x.size ≤ maxLen := by
  have h1 := pre_len (l := r.1)
  refine ⟨by rw [strs_len]; have := h.2.1; omega, fun x hx => ?_⟩
  have h2 : x.data.toList ∈ preOf r.1 := by rw [← bl_strs (preOf r.1)]; exact bl_mem hx
  have h3 := pre_size h2
  rw [len_eq] at h3
  have := h.2.1
  unfold maxLen; omega
/-- compare of two records. -/
theorem compare_rcw (r q : Rc) (g : Nat) (W : World) (hr : RcAt W g r) (hq : RcAt W g q) :
    Calls Tryz.prog 42 #[.agg #[.int .i64 (nAt r.1 0), .int .i64 (nAt r.1 1), .int .i64 (nAt r.1 2), r.2], .agg #[.int .i64 (nAt q.1 0), .int .i64 (nAt q.1 1), .int .i64 (nAt q.1 2), q.2]] W
      fun e w' => e = .returned (.int .i64 (ordV r.1 q.1)) ∧ Bw W.heap.size W w' := by
  have h := compare_bw (nAt r.1 0) (nAt r.1 1) (nAt r.1 2) (nAt q.1 0) (nAt q.1 1) (nAt q.1 2) r.2 q.2 (strs (preOf r.1)) (strs (preOf q.1)) W (pre_small hr).1 (pre_small hq).1 (pre_small hr).2 (pre_small hq).2 hr.2.2.1 hq.2.2.1
  rw [bl_strs, bl_strs] at h
  exact h
theorem compare_rc (r q : Rc) (g : Nat) (W : World) (hr : RcAt W g r) (hq : RcAt W g q) :
    Calls Tryz.prog 42 #[.agg #[.int .i64 (nAt r.1 0), .int .i64 (nAt r.1 1), .int .i64 (nAt r.1 2), r.2], .agg #[.int .i64 (nAt q.1 0), .int .i64 (nAt q.1 1), .int .i64 (nAt q.1 2), q.2]] W
      fun e w' => e = .returned (.int .i64 (ordV r.1 q.1)) ∧ Below W.heap.size W w' := by
  have h := compare_any (nAt r.1 0) (nAt r.1 1) (nAt r.1 2) (nAt q.1 0) (nAt q.1 1) (nAt q.1 2) r.2 q.2 (strs (preOf r.1)) (strs (preOf q.1)) W (pre_small hr).1 (pre_small hq).1 (pre_small hr).2 (pre_small hq).2 hr.2.2.1 hq.2.2.1
  rw [bl_strs, bl_strs] at h
  exact h
end Ve
end Go.Proofs.YtdhaechjdigbbaaGreatDoor

/-
  Records in the worlds that a sort passes through; compare there.
-/
namespace Go.Proofs.YtdhaechjdigbbaaGreatDoor
open Go.RowKit
namespace Ve

theorem grow_of_bw {W w' : World} (h : Bw W.heap.size W w') : ∃ q os', w' = Go.Sort.grow (W.drewN q) os' := by
  refine ⟨w'.drawn - W.drawn, w'.heap.extract W.heap.size w'.heap.size, ?_⟩
  have hd := h.dr
  have hh : w'.heap = W.heap ++ w'.heap.extract W.heap.size w'.heap.size := by
    apply Array.ext_getElem?
    intro i
    by_cases hi : i < W.heap.size
    · rw [Array.getElem?_append_left hi, h.be.block i hi]
    · rw [Array.getElem?_append_right (by omega), Array.getElem?_extract]
      have hs := h.be.size
      by_cases h2 : i < w'.heap.size
      · rw [if_pos (by omega)]
        congr 1
        omega
      · rw [if_neg (by omega)]
        exact Array.getElem?_eq_none (by omega)
  obtain ⟨a, b, c, d, e⟩ := w'
  obtain ⟨a', b', c', d', e'⟩ := W
  have h1 := h.be.os
  have h2 := h.be.tape
  have h3 := h.be.output
  simp only at h1 h2 h3 hh hd
  subst h1 h2 h3
  simp only [Go.Sort.grow, World.drewN, World.mk.injEq, true_and, and_true]
  exact ⟨hh, by omega⟩

/-- The records of a world. -/
abbrev Rq (w : World) (g : Nat) := { r : Rc // RcAt w g r }
def encR {w : World} {g : Nat} (r : Rq w g) : List Value := rcells r.1
def cfR {w : World} {g : Nat} (r q : Rq w g) : Int := ordV r.1.1 q.1.1
theorem swoR (w : World) (g : Nat) : Go.Sort.SWO (ltOf (cfR (w := w) (g := g))) where
  irrefl x := by
    unfold ltOf cfR
    rw [(ordV_zero x.2.1 x.2.1).2 rfl]; rfl
  trans x y z h1 h2 := by
    unfold ltOf cfR at *
    simp only [decide_eq_true_eq] at *
    exact ordV_trans h1 h2
  ntrans x y z h1 h2 := by
    unfold ltOf cfR at *
    simp only [decide_eq_false_iff_not] at *
    intro h
    rcases ordV_range x.1.1 y.1.1 with e | e | e
    · omega
    · have := (ordV_zero x.2.1 y.2.1).1 e
      rw [this] at h
      exact h2 h
    · have h3 : ordV y.1.1 x.1.1 < 0 := by rw [ordV_swap x.1.1 y.1.1]; omega
      exact h2 (ordV_trans h3 h)
theorem encR_len {w : World} {g : Nat} (r : Rq w g) : (encR r).length = 4 := rfl
theorem RcAt.sorted {w : World} {g : Nat} {r : Rc} (h : RcAt w g r) {α : Type} [Inhabited α] (enc : α → List Value) (m : Nat) (dk : Array α) (os : Array Obj) : RcAt (sortWorldK enc 4 w g 0 m dk os) g r := by
  refine ⟨h.1, h.2.1, ?_, h.2.2.2⟩
  rcases h.2.2.1 with h0 | ⟨hne, b, e1, e2, e3⟩
  · exact Or.inl h0
  · have hbg : b ≠ g := h.2.2.2 b 0 none _ _ e1
    refine Or.inr ⟨hne, b, e1, Nat.lt_of_lt_of_le e2 (size_sortWorldK_c enc 4 w g 0 m dk os), fun j hj => ?_⟩
    unfold sortWorldK
    rw [Go.Sort.cell?_grow _ _ _ (by rw [Go.Sort.size_putRowK]; exact e2), Go.Sort.cell?_putRowK_other enc 4 _ g 0 dk _ hbg]
    exact e3 j hj
theorem cmpR (w : World) (g n : Nat) [Inhabited (Rq w g)] : CmpLays Tryz.prog 42 #[] (encR (w := w) (g := g)) 4 cfR g 0 n w := by
  intro m os dk hs x y
  have h := compare_rcw x.1 y.1 g (sortWorldK encR 4 w g 0 m dk os) (x.2.sorted encR m dk os) (y.2.sorted encR m dk os)
  have e : (#[.agg (encR x).toArray, .agg (encR y).toArray] ++ #[] : Array Value) = #[.agg #[.int .i64 (nAt x.1.1 0), .int .i64 (nAt x.1.1 1), .int .i64 (nAt x.1.1 2), x.1.2], .agg #[.int .i64 (nAt y.1.1 0), .int .i64 (nAt y.1.1 1), .int .i64 (nAt y.1.1 2), y.1.2]] := by simp [encR, rcells]
  rw [e]
  exact h.mono fun e w' ⟨he, hb⟩ => ⟨he, grow_of_bw hb⟩
end Ve
end Go.Proofs.YtdhaechjdigbbaaGreatDoor

/-
  slices.SortFunc at this program: the contract of the compiled library laid here, by one application.
-/
namespace Go.Proofs
open Go.Shelf
def Tryz.sortParts_ren : Go.Shelf.Ren := ⟨fun | 6 => 98 | 15 => 130 | 14 => 131 | 28 => 165 | 29 => 166 | 20 => 167 | 21 => 168 | 22 => 169 | 23 => 170 | 24 => 171 | 25 => 172 | 26 => 173 | 27 => 174 | 46 => 196 | 47 => 191 | 48 => 192 | 49 => 197 | 50 => 198 | 57 => 207 | n => n, fun | 22 => 129 | 24 => 37 | 25 => 73 | 3 => 3 | 39 => 165 | 0 => 0 | 53 => 194 | 55 => 196 | 4 => 4 | 46 => 187 | 45 => 186 | 50 => 191 | 5 => 5 | 9 => 9 | 66 => 212 | 70 => 216 | 76 => 228 | 77 => 81 | n => n, fun | n => n⟩
theorem Tryz.sortParts : Go.Proofs.SlLaysF0.n6 Tryz.prog Tryz.sortParts_ren := {
  mixed := by kernel_rfl
  f6 := ⟨Tryz.f98.name, by decide, Tryz.func98.trans (congrArg some (by kernel_rfl))⟩
  f14 := ⟨Tryz.f131.name, by decide, Tryz.func131.trans (congrArg some (by kernel_rfl))⟩
  f15 := Tryz.func130.trans (congrArg some (by kernel_rfl))
  f20 := ⟨Tryz.f167.name, by decide, Tryz.func167.trans (congrArg some (by kernel_rfl))⟩
  f21 := ⟨Tryz.f168.name, by decide, Tryz.func168.trans (congrArg some (by kernel_rfl))⟩
  f22 := ⟨Tryz.f169.name, by decide, Tryz.func169.trans (congrArg some (by kernel_rfl))⟩
  f23 := ⟨Tryz.f170.name, by decide, Tryz.func170.trans (congrArg some (by kernel_rfl))⟩
  f24 := ⟨Tryz.f171.name, by decide, Tryz.func171.trans (congrArg some (by kernel_rfl))⟩
  f25 := ⟨Tryz.f172.name, by decide, Tryz.func172.trans (congrArg some (by kernel_rfl))⟩
  f26 := ⟨Tryz.f173.name, by decide, Tryz.func173.trans (congrArg some (by kernel_rfl))⟩
  f27 := ⟨Tryz.f174.name, by decide, Tryz.func174.trans (congrArg some (by kernel_rfl))⟩
  f28 := Tryz.func165.trans (congrArg some (by kernel_rfl))
  f29 := Tryz.func166.trans (congrArg some (by kernel_rfl))
  f46 := ⟨Tryz.f196.name, by decide, Tryz.func196.trans (congrArg some (by kernel_rfl))⟩
  f47 := Tryz.func191.trans (congrArg some (by kernel_rfl))
  f48 := Tryz.func192.trans (congrArg some (by kernel_rfl))
  f49 := ⟨Tryz.f197.name, by decide, Tryz.func197.trans (congrArg some (by kernel_rfl))⟩
  f50 := ⟨Tryz.f198.name, by decide, Tryz.func198.trans (congrArg some (by kernel_rfl))⟩
  f57 := ⟨Tryz.f207.name, by decide, Tryz.func207.trans (congrArg some (by kernel_rfl))⟩
  t0 := Tryz.underlying0
  a0 := Tryz.isAgg0
  z0 := Tryz.sizeOf0
  v0 := Tryz.zeroValue0
  t3 := Tryz.underlying3
  a3 := Tryz.isAgg3
  z3 := Tryz.sizeOf3
  v3 := Tryz.zeroValue3
  t4 := Tryz.underlying4
  a4 := Tryz.isAgg4
  z4 := Tryz.sizeOf4
  v4 := Tryz.zeroValue4
  t5 := Tryz.underlying5
  a5 := Tryz.isAgg5
  z5 := Tryz.sizeOf5
  v5 := Tryz.zeroValue5
  t9 := Tryz.underlying9
  a9 := Tryz.isAgg9
  z9 := Tryz.sizeOf9
  v9 := Tryz.zeroValue9
  t22 := Tryz.underlying129
  a22 := Tryz.isAgg129
  z22 := Tryz.sizeOf129
  v22 := Tryz.zeroValue129
  t25 := Tryz.underlying73
  a25 := Tryz.isAgg73
  z25 := Tryz.sizeOf73
  v25 := Tryz.zeroValue73
  t39 := Tryz.underlying165
  a39 := Tryz.isAgg165
  z39 := Tryz.sizeOf165
  v39 := Tryz.zeroValue165
  t45 := Tryz.underlying186
  a45 := Tryz.isAgg186
  z45 := Tryz.sizeOf186
  v45 := Tryz.zeroValue186
  t46 := Tryz.underlying187
  a46 := Tryz.isAgg187
  z46 := Tryz.sizeOf187
  v46 := Tryz.zeroValue187
  t50 := Tryz.underlying191
  a50 := Tryz.isAgg191
  z50 := Tryz.sizeOf191
  v50 := Tryz.zeroValue191
  t53 := Tryz.underlying194
  a53 := Tryz.isAgg194
  z53 := Tryz.sizeOf194
  v53 := Tryz.zeroValue194
  t55 := Tryz.underlying196
  a55 := Tryz.isAgg196
  z55 := Tryz.sizeOf196
  v55 := Tryz.zeroValue196
  t66 := Tryz.underlying212
  a66 := Tryz.isAgg212
  z66 := Tryz.sizeOf212
  v66 := Tryz.zeroValue212
  t70 := Tryz.underlying216
  a70 := Tryz.isAgg216
  z70 := Tryz.sizeOf216
  v70 := Tryz.zeroValue216
  t76 := Tryz.underlying228
  a76 := Tryz.isAgg228
  z76 := Tryz.sizeOf228
  v76 := Tryz.zeroValue228
  t77 := Tryz.underlying81
  a77 := Tryz.isAgg81
  z77 := Tryz.sizeOf81
  v77 := Tryz.zeroValue81 }
end Go.Proofs

/-
  What slices.SortFunc with compare makes of a row of records.
-/
namespace Go.Proofs.YtdhaechjdigbbaaGreatDoor
open Go.RowKit
namespace Ve

/-- No record is greater than one behind it. -/
def srt (D : List Rc) : Prop := D.Pairwise fun r q => ordV r.1 q.1 ≤ 0

theorem sorted_below {w : World} {g : Nat} {α : Type} [Inhabited α] (enc : α → List Value) (m : Nat) (dk : Array α) (os : Array Obj) (B : Nat) (hB : B ≤ g) (hz : B ≤ w.heap.size) : Below B w (sortWorldK enc 4 w g 0 m dk os) := by
  refine ⟨rfl, rfl, rfl, size_sortWorldK_c enc 4 w g 0 m dk os, fun k hk => ?_⟩
  unfold sortWorldK
  rw [Go.Sort.heap_grow_old _ _ (by rw [Go.Sort.size_putRowK]; show k < w.heap.size; omega)]
  unfold Go.Sort.putRowK Go.Sort.putRow
  show (Array.modify (Go.Sort.ahead w m).heap g _)[k]? = _
  rw [Array.getElem?_modify, if_neg (by omega)]
  rfl

theorem holds_rw {w0 w : World} {g : Nat} {D : List Rc} (h : Rw w0 w g D) [Inhabited (Rq w g)] (d : Array (Rq w g)) (hd : d.toList.map (·.1) = D) : Go.Sort.HoldsK encR 4 w g 0 d := by
  have hl : d.size = D.length := by rw [← hd]; simp
  intro t ht
  rw [Go.Sort.size_flatK] at ht
  rw [Go.Sort.get_flatK _ _ _ _ ht]
  have hi : t / 4 < d.size := by omega
  have e : d[t / 4]!.1 = D[t / 4]'(by omega) := by
    rw [getElem!_pos d (t / 4) hi]
    simp [← hd]
  refine ⟨?_, by rw [Nat.zero_add]; exact h.fz t⟩
  show w.cell? ⟨g, 0 + t, none⟩ = some ((rcells d[t / 4]!.1)[t % 4]!)
  rw [e, Nat.zero_add]
  have hm : t % 4 < 4 := Nat.mod_lt _ (by omega)
  have hdm := Nat.div_add_mod t 4
  match hc : t % 4, hm with
  | 0, _ => have := h.c0 (t / 4) (by omega); rw [show t / 4 * 4 = t by omega] at this; exact this
  | 1, _ => have := h.c1 (t / 4) (by omega); rw [show t / 4 * 4 + 1 = t by omega] at this; exact this
  | 2, _ => have := h.c2 (t / 4) (by omega); rw [show t / 4 * 4 + 2 = t by omega] at this; exact this
  | 3, _ => have := h.c3 (t / 4) (by omega); rw [show t / 4 * 4 + 3 = t by omega] at this; exact this

theorem lift_rq {w : World} {g : Nat} : ∀ D : List Rc, (∀ r, r ∈ D → RcAt w g r) → ∃ l : List (Rq w g), l.map (·.1) = D
  | [], _ => ⟨[], rfl⟩
  | r :: R, h => by
    obtain ⟨l, e⟩ := lift_rq R (fun q hq => h q (List.mem_cons_of_mem _ hq))
    exact ⟨⟨r, h r (by simp)⟩ :: l, by simp [e]⟩
theorem sort_rw (w0 w : World) (g cap : Nat) (D : List Rc) (hD : D ≠ []) (h12 : D.length ≤ 1000) (h : Rw w0 w g D) :
    Calls Tryz.prog 98 #[.slice (some ⟨g, 0, none⟩) D.length cap, .func (.func 42) #[] #[]] w fun e w' => e = .returned (.tuple #[]) ∧ ∃ D', D'.Perm D ∧ srt D' ∧ Rw w0 w' g D' := by
  obtain ⟨r0, R, rfl⟩ : ∃ r R, D = r :: R := by
    cases D with
    | nil => exact absurd rfl hD
    | cons r R => exact ⟨r, R, rfl⟩
  letI : Inhabited (Rq w g) := ⟨⟨r0, h.rc r0 (by simp)⟩⟩
  obtain ⟨d, hd⟩ : ∃ d : Array (Rq w g), d.toList.map (·.1) = r0 :: R := by
    obtain ⟨l, e⟩ := lift_rq (r0 :: R) h.rc
    exact ⟨l.toArray, by simpa using e⟩
  have hl : d.size = (r0 :: R).length := by rw [← hd]; simp
  have hH := holds_rw h d hd
  have eg : ∀ args w, (callFunc 42 args).run Tryz.prog w = .ok (.enter 42 args) w := enters_of Tryz.func42 (by kernel_rfl) rfl
  have hcon := AnyQ.slices_SortFunc Tryz.sortParts 4 Tryz.isAgg37 Tryz.sizeOf37 encR encR_len (fun x v hv => by
    obtain ⟨px, nx, cx, e⟩ := x.2.2.2.1.slice
    simp only [encR, rcells, e, List.mem_cons, List.not_mem_nil, or_false] at hv
    rcases hv with rfl | rfl | rfl | rfl <;> rfl) cfR (swoR w g) 42 #[] g 0 cap d w eg (cmpR w g d.size) hH h.hi (by omega)
  rw [hl] at hcon
  refine Calls.mono hcon ?_
  rintro e w' ⟨he, d', n, os, hp, hs, rfl⟩
  obtain ⟨hsz, _, hperm⟩ := hp
  have hsz' : d'.size = (r0 :: R).length := hsz.trans hl
  have hHd := holdsK_sortWorldK_c encR 4 w g 0 d d' n os hH h.hi hsz
  have hpm : d'.toList.Perm d.toList := by
    have e1 : d'.extract 0 (r0 :: R).length = d' := by rw [← hsz']; simp
    have e2 : d.extract 0 (r0 :: R).length = d := by rw [← hl]; simp
    rw [e1, e2] at hperm
    exact hperm
  have hg : ∀ j (hj : j < (d'.toList.map (·.1)).length), d'[j]! = d'[j]'(by simpa using hj) := fun j hj => getElem!_pos d' j (by simpa using hj)
  have cell : ∀ j (hj : j < (d'.toList.map (·.1)).length) c (hc : c < 4), (sortWorldK encR 4 w g 0 n d' os).cell? ⟨g, j * 4 + c, none⟩ = some ((rcells (d'.toList.map (·.1))[j])[c]!) := by
    intro j hj c hc
    have h1 := (hHd.cell (i := j) (c := c) (by simpa using hj) hc).1
    rw [Nat.zero_add, hg j hj] at h1
    rw [h1]
    simp [encR]
  refine ⟨he, d'.toList.map (·.1), ?_, ?_, ?_⟩
  · rw [← hd]; exact hpm.map _
  · unfold srt
    rw [List.pairwise_iff_getElem]
    intro i j hi hj hij
    have h1 := hs i j (Nat.zero_le _) hij (by rw [← hsz']; simpa using hj)
    rw [hg i hi, hg j hj] at h1
    unfold ltOf cfR at h1
    simp only [decide_eq_false_iff_not] at h1
    simp only [List.getElem_map, Array.getElem_toList]
    have h3 : ¬ ordV (d'[j]'(by simpa using hj)).1.1 (d'[i]'(by simpa using hi)).1.1 < 0 := h1
    rw [ordV_swap (d'[i]'(by simpa using hi)).1.1 (d'[j]'(by simpa using hj)).1.1] at h3
    omega
  · refine ⟨h.bl.trans ((sorted_below encR n d' os w0.heap.size h.lo h.bl.size)), h.lo, Nat.lt_of_lt_of_le h.hi (size_sortWorldK_c encR 4 w g 0 n d' os), fun o => ?_, fun r hr => ?_, fun j hj => ?_, fun j hj => ?_, fun j hj => ?_, fun j hj => ?_⟩
    · unfold sortWorldK
      rw [Go.Sort.frozen?_grow _ _ _ (by rw [Go.Sort.size_putRowK]; exact h.hi)]
      unfold Go.Sort.putRowK
      rw [Go.Sort.frozen?_putRow]
      exact h.fz o
    · obtain ⟨x, _, rfl⟩ := List.mem_map.1 hr
      exact x.2.sorted encR n d' os
    · exact cell j hj 0 (by omega)
    · exact cell j hj 1 (by omega)
    · exact cell j hj 2 (by omega)
    · exact cell j hj 3 (by omega)
end Ve
end Go.Proofs.YtdhaechjdigbbaaGreatDoor

/-
  What the document's answer makes of a list of versions (SortVers): those that are right, each once, each less than those behind it.
-/
namespace Go.Proofs.YtdhaechjdigbbaaGreatDoor
open Go.RowKit
namespace Ve

theorem rises_ins {A B : List (List UInt8)} {x : List UInt8} (h : rises (A ++ B)) (ha : ∀ a, a ∈ A → ordV a x < 0) (hb : ∀ b, B.head? = some b → ordV x b < 0) : rises (A ++ x :: B) := by
  unfold rises at *
  rw [List.pairwise_append] at h ⊢
  obtain ⟨h1, h2, h3⟩ := h
  have hB : ∀ b, b ∈ B → ordV x b < 0 := by
    cases B with
    | nil => intro b hb; cases hb
    | cons b r =>
      have hb0 := hb b rfl
      intro c hc
      rcases List.mem_cons.1 hc with e | hc
      · rw [e]; exact hb0
      · exact ordV_trans hb0 ((List.pairwise_cons.1 h2).1 c hc)
  refine ⟨h1, List.pairwise_cons.2 ⟨hB, h2⟩, fun a ha' c hc => ?_⟩
  rcases List.mem_cons.1 hc with e | hc
  · rw [e]; exact ha a ha'
  · exact h3 a ha' c hc
theorem owns_mono {w : World} {b b' : Nat} {e : TypeId} {size : Nat} {v : Value} {n : Nat} {xs : List Value} (h : w.ownsRow b e size v n xs) (hb : b' ≤ b) : w.ownsRow b' e size v n xs := by
  refine ⟨h.1, ?_⟩
  rcases h.2 with h | ⟨g, cap, cur, h1, h2, h3⟩
  · exact Or.inl h
  · exact Or.inr ⟨g, cap, cur, h1, Nat.le_trans hb h2, h3⟩
theorem bl_take (X : List ByteArray) (k : Nat) : bl (X.take k) = (bl X).take k := by simp [bl]
theorem bl_drop (X : List ByteArray) (k : Nat) : bl (X.drop k) = (bl X).drop k := by simp [bl]
theorem bl_get {X : List ByteArray} {j : Nat} (h : j < X.length) : (bl X)[j]'(by rw [bl_len]; exact h) = X[j].data.toList := by simp [bl]
/-- What is held of the texts up to k. -/
def Kept (L : List ByteArray) (k : Nat) (X : List ByteArray) : Prop := rises (bl X) ∧ ∀ t, t ∈ bl X ↔ t ∈ bl (L.take k) ∧ verErr t = 0
theorem kept_no {L : List ByteArray} {k : Nat} {X : List ByteArray} (hk : k < L.length) (h : Kept L k X) (hv : verErr L[k].data.toList ≠ 0) : Kept L (k + 1) X := by
  refine ⟨h.1, fun t => ?_⟩
  rw [h.2 t, bl_take_snoc L k hk, List.mem_append, List.mem_singleton]
  constructor
  · rintro ⟨a, b⟩; exact ⟨Or.inl a, b⟩
  · rintro ⟨a | a, b⟩
    · exact ⟨a, b⟩
    · rw [a] at b; exact absurd b hv
theorem kept_old {L : List ByteArray} {k : Nat} {X : List ByteArray} (hk : k < L.length) (h : Kept L k X) (hm : L[k].data.toList ∈ bl X) : Kept L (k + 1) X := by
  refine ⟨h.1, fun t => ?_⟩
  rw [bl_take_snoc L k hk, List.mem_append, List.mem_singleton]
  constructor
  · intro ht
    exact ⟨Or.inl ((h.2 t).1 ht).1, ((h.2 t).1 ht).2⟩
  · rintro ⟨a | a, b⟩
    · exact (h.2 t).2 ⟨a, b⟩
    · rw [a]; exact hm
theorem kept_new {L : List ByteArray} {k : Nat} {X : List ByteArray} (hk : k < L.length) (h : Kept L k X) (hv : verErr L[k].data.toList = 0) {j : Nat} (hj : j ≤ X.length) (hlt : ∀ t (ht : t < X.length), t < j → ordV X[t].data.toList L[k].data.toList < 0)
    (hge : ∀ (ht : j < X.length), ¬ ordV X[j].data.toList L[k].data.toList < 0 ∧ X[j].data.toList ≠ L[k].data.toList) : Kept L (k + 1) (X.take j ++ L[k] :: X.drop j) := by
  have e : bl (X.take j ++ L[k] :: X.drop j) = (bl X).take j ++ L[k].data.toList :: (bl X).drop j := by simp [bl]
  refine ⟨?_, fun t => ?_⟩
  · rw [e]
    refine rises_ins (by rw [List.take_append_drop]; exact h.1) ?_ ?_
    · intro a ha
      obtain ⟨i, hi, e2⟩ := List.mem_iff_getElem.1 ha
      rw [List.getElem_take] at e2
      simp [bl_len] at hi
      rw [bl_get (by omega)] at e2
      rw [← e2]; exact hlt i (by omega) (by omega)
    · intro b hb
      rw [List.head?_drop] at hb
      obtain ⟨hl, e2⟩ := List.getElem?_eq_some_iff.1 hb
      rw [bl_len] at hl
      rw [bl_get hl] at e2
      obtain ⟨h1, h2⟩ := hge hl
      rw [e2] at h1 h2
      have hbv : verErr b = 0 := ((h.2 b).1 (by rw [← e2]; exact bl_mem (List.getElem_mem hl))).2
      rw [ordV_swap b]
      rcases ordV_range b L[k].data.toList with r | r | r
      · omega
      · exact absurd ((ordV_zero hbv hv).1 r) h2
      · omega
  · rw [e, List.mem_append, List.mem_cons, bl_take_snoc L k hk, List.mem_append, List.mem_singleton]
    have hm := h.2 t
    rw [← List.take_append_drop j (bl X), List.mem_append] at hm
    constructor
    · rintro (a | a | a)
      · exact ⟨Or.inl (hm.1 (Or.inl a)).1, (hm.1 (Or.inl a)).2⟩
      · rw [a]; exact ⟨Or.inr rfl, hv⟩
      · exact ⟨Or.inl (hm.1 (Or.inr a)).1, (hm.1 (Or.inr a)).2⟩
    · rintro ⟨a | a, b⟩
      · rcases hm.2 ⟨a, b⟩ with c | c
        · exact Or.inl c
        · exact Or.inr (Or.inr c)
      · exact Or.inr (Or.inl a)
end Ve
end Go.Proofs.YtdhaechjdigbbaaGreatDoor
