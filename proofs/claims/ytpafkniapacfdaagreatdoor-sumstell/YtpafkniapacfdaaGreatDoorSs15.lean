
import Derived.Test.YtpafkniapacfdaaGreatDoorSs13
import Derived.Test.YtpafkniapacfdaaGreatDoorSs14
namespace Go.Proofs.YtpafkniapacfdaaGreatDoor
open Go.RowKit
namespace Ve
theorem itoaB_le (n : Int) (h0 : 0 ≤ n) (h1 : n ≤ 4294967295) : (Lib.itoa n).length ≤ 10 := by
  rw [show Lib.itoa n = Lib.decDigits n.toNat by unfold Lib.itoa; rw [if_neg (by omega)], Lib.decDigits_length]
  exact nDigits_le 9 _ (by omega)
set_option maxHeartbeats 1000000 in
theorem below_big : ∀ (k u : Nat) (w : World), u < 10 ^ (k + 1) → k ≤ 10 →
    Calls Tryz.prog 91 #[.int .i64 (-(u : Int))] w fun e w' => ∃ S : ByteArray, e = .returned (.string S) ∧ S.data.toList = Lib.decDigits u ∧ Below w.heap.size w w'
  | 0, u, w, h, _ => below_small u w (by simpa using h)
  | k + 1, u, w, h, hk => by
    by_cases hu : u < 10
    · exact below_small u w hu
    · have ih := fun W => below_big k (u / 10) W (by rw [Nat.pow_succ] at h; omega) (by omega)
      have hu7 : u < 10 ^ 12 := Nat.lt_of_lt_of_le h (Nat.pow_le_pow_right (by omega) (by omega))
      have IH := hid ih
      have HB := hid (fun W => byte_any (48 - -((u % 10 : Nat) : Int)) W (by omega) (by omega))
      have HD := hid (dec_big hu)
      have HT := hid (neg_tdiv u)
      have HM := hid (neg_tmod u)
      have hl1 := nDigits_le 11 (u / 10) (by omega)
      have hgt : decide (-10 < -(u : Int)) = false := by simp; omega
      generalize hn : -(u : Int) = n at *
      have HN := hid hn
      have hn0 : n ≤ -10 := by omega
      have hn1 : -1000000000000 ≤ n := by omega
      clear hn hu ih h
      go_enter Tryz.func91, Tryz.ntmps91
      go_wp2_with fail
      rw [HT.out]
      refine (IH.out _).mono ?_
      rintro e w1 ⟨S, rfl, hS, hb⟩
      have HS := hid hS
      have hS1 : S.size ≤ 12 := by
        have := size_of' hS
        rw [Lib.decDigits_length] at this
        omega
      have HB1 := hid hb
      have hm0 : -10 ≤ n.tmod 10 := by have := HM.out; omega
      have hm1 : n.tmod 10 ≤ 0 := by have := HM.out; omega
      clear hS hb
      go_wp2_with fail
      rw [HM.out]
      refine (HB.out _).mono ?_
      rintro e w2 ⟨T, rfl, hT, hT1, hb⟩
      have HTT := hid hT
      have HB2 := hid (HB1.out.trans (hb.mono HB1.out.size))
      clear hT hb
      go_wp2_with fail
      go_ret
      refine ⟨_, rfl, ?_, HB2.out⟩
      rw [HD.out, ← HS.out]
      simp only [ByteArray.data_append, Array.toList_append, HTT.out]
      rw [show (48 - -((u % 10 : Nat) : Int)).toNat = 48 + u % 10 by omega]
set_option maxHeartbeats 400000 in
theorem decimalB_any (n : Int) (w : World) (h0 : 0 ≤ n) (h1 : n ≤ 4294967295) :
    Calls Tryz.prog 54 #[.int .i64 n] w fun e w' => ∃ S : ByteArray, e = .returned (.string S) ∧ S.data.toList = Lib.itoa n ∧ S.size ≤ 10 ∧ Below w.heap.size w w' := by
  have HI := hid (itoaB_le n h0 h1)
  have HE := hid (show Lib.itoa n = Lib.decDigits n.toNat by unfold Lib.itoa; rw [if_neg (by omega)])
  have HB := hid (fun W => below_big 9 n.toNat W (by omega) (by omega))
  rw [show -((n.toNat : Nat) : Int) = -n by omega] at HB
  have hlt : decide (n < 0) = false := by simp; omega
  go_enter Tryz.func54, Tryz.ntmps54
  go_wp2_with fail
  refine (HB.out _).mono ?_
  rintro e w1 ⟨S, rfl, hS, hb⟩
  have HS := hid hS
  have HBB := hid hb
  clear hS hb
  go_wp2_with fail
  go_ret
  exact ⟨S, rfl, by rw [HS.out, HE.out], by have := size_of' HS.out; rw [this, ← HE.out]; exact HI.out, HBB.out⟩
end Ve
end Go.Proofs.YtpafkniapacfdaaGreatDoor

/-
  A version's text read and written again is that text (plain). No Go here.
-/
namespace Go.Proofs.YtpafkniapacfdaaGreatDoor
namespace Ve

theorem val_dec : ∀ (n : Nat) (p : List UInt8), p.length = n + 1 → p.all dig = true → (n = 0 ∨ p.headD 0 ≠ 48) → Lib.decDigits (valTo 0 p).toNat = p
  | 0, p, hl, hd, _ => by
    obtain ⟨c, rfl⟩ := List.length_eq_one_iff.1 hl
    have hc : dig c = true := by simpa using hd
    have hb := dig_bd hc
    have : valTo 0 [c] = (c.toNat : Int) - 48 := by simp [valTo]
    rw [this, Lib.decDigits_one (by omega)]
    congr 1
    apply UInt8.toNat_inj.1
    rw [show 48 + ((c.toNat : Int) - 48).toNat = c.toNat by omega]
    simp
  | n + 1, p, hl, hd, hz => by
    have hne : p ≠ [] := by intro h; subst h; simp at hl
    obtain ⟨q, c, rfl⟩ : ∃ q c, p = q ++ [c] := ⟨p.dropLast, p.getLast hne, (List.dropLast_concat_getLast hne).symm⟩
    rw [all_snoc, Bool.and_eq_true] at hd
    have hql : q.length = n + 1 := by simpa using hl
    have hh : q.headD 0 ≠ 48 := by
      rcases hz with h | h
      · cases h
      · cases q with
        | nil => simp at hql
        | cons x r => simpa using h
    have ih := val_dec n q hql hd.1 (Or.inr hh)
    have hb := dig_bd hd.2
    have hpos : 1 ≤ valTo 0 q := by
      cases q with
      | nil => simp at hql
      | cons x r =>
        have hx := dig_bd (c := x) (by have := hd.1; simp at this; exact this.1)
        have hx0 : x ≠ 48 := by simpa using hh
        have hx1 : x.toNat ≠ 48 := fun e => hx0 (UInt8.toNat_inj.1 (by rw [e]; rfl))
        have h2 := (valTo_bd r ((x.toNat : Int) - 48) (by have := hd.1; simp only [List.all_cons, Bool.and_eq_true] at this; exact this.2) (by omega)).1
        have h3 : valTo 0 (x :: r) = valTo ((x.toNat : Int) - 48) r := by simp [valTo]
        have h4 : (1 : Int) ≤ 10 ^ r.length := by
          have : (0 : Int) < 10 ^ r.length := Int.pow_pos (by omega)
          omega
        rw [h3]
        have h5 : (1 : Int) * 1 ≤ ((x.toNat : Int) - 48) * 10 ^ r.length := Int.mul_le_mul (by omega) h4 (by omega) (by omega)
        omega
    rw [valTo_snoc]
    have e1 : (10 * valTo 0 q + ((c.toNat : Int) - 48)).toNat / 10 = (valTo 0 q).toNat := by omega
    have e2 : (10 * valTo 0 q + ((c.toNat : Int) - 48)).toNat % 10 = c.toNat - 48 := by omega
    rw [dec_big (by omega), e1, e2, ih]
    congr 2
    apply UInt8.toNat_inj.1
    rw [show 48 + (c.toNat - 48) = c.toNat by omega]
    simp

theorem itoa_num (p : List UInt8) (h : (num p).2 = 0) : Lib.itoa (num p).1 = p ∧ 0 ≤ (num p).1 ∧ (num p).1 ≤ 999999 := by
  have hd : digs p = true := by
    cases e : digs p
    · unfold num at h; rw [e] at h; simp at h
    · rfl
  have hz : zero p = false := by
    cases e : zero p
    · rfl
    · unfold num at h; rw [e] at h; simp at h
  have hs := num_six p hd hz
  by_cases h6 : 6 < p.length
  · rw [if_pos h6] at hs; rw [hs] at h; cases h
  · rw [if_neg h6] at hs
    have hda : p.all dig = true := by unfold digs at hd; simp only [Bool.and_eq_true] at hd; exact hd.2
    have hpos : 0 < p.length := by unfold digs at hd; simp only [Bool.and_eq_true, decide_eq_true_eq] at hd; exact hd.1
    have hb := val_le p hda (by omega)
    rw [hs]
    refine ⟨?_, hb.1, by show valTo 0 p ≤ 999999; omega⟩
    show Lib.itoa (valTo 0 p) = p
    rw [itoa_dec _ hb.1]
    refine val_dec (p.length - 1) p (by omega) hda ?_
    by_cases h1 : p.length - 1 = 0
    · exact Or.inl h1
    · refine Or.inr fun e => ?_
      unfold zero at hz
      rw [e] at hz
      simp at hz
      omega

theorem joinTail_ne {c : UInt8} : ∀ X : List (List UInt8), X ≠ [] → Lib.joinTail [c] X = c :: Lib.join X [c]
  | [], h => absurd rfl h
  | x :: r, _ => by rw [Lib.join_cons]; simp [Lib.joinTail]
theorem join_cut (c : UInt8) (l : List UInt8) : Lib.join (cutAt c l) [c] = l := by
  induction l with
  | nil => simp [cutAt, Lib.join_one]
  | cons b l ih =>
    unfold cutAt
    by_cases h : b = c
    · rw [if_pos h, Lib.join_cons, joinTail_ne _ (cutAt_ne c l), ih, h]; rfl
    · rw [if_neg h]
      obtain ⟨x, r, e⟩ : ∃ x r, cutAt c l = x :: r := by
        cases e : cutAt c l with
        | nil => exact absurd e (cutAt_ne c l)
        | cons x r => exact ⟨x, r, rfl⟩
      rw [e] at ih ⊢
      rw [Lib.join_cons] at ih
      simp only [ahead, Lib.join_cons]
      rw [← ih]
      simp
theorem one_back {c : UInt8} {l : List UInt8} (h : (one c l).2.2 = true) : l = (one c l).1 ++ c :: (one c l).2.1 := by
  obtain ⟨j, hj, e, _, e1, e2⟩ := one_yes (c := c) (l := l) h
  rw [e1, e2, ← e, List.getElem_cons_drop, List.take_append_drop]
theorem one_none {c : UInt8} {l : List UInt8} (h : (one c l).2.2 = false) : (one c l).1 = l := by rw [one_no h]

theorem worst0 {b : Nat} {cs : List Nat} (h : worst b cs = 0) : 1 ∉ cs ∧ 2 ∉ cs := by
  unfold worst at h
  by_cases h1 : b = 1 ∨ 1 ∈ cs
  · rw [if_pos h1] at h; omega
  · rw [if_neg h1] at h
    by_cases h2 : b = 2 ∨ 2 ∈ cs
    · rw [if_pos h2] at h; omega
    · exact ⟨fun h => h1 (Or.inr h), fun h => h2 (Or.inr h)⟩
theorem ncode0 {ps : List (List UInt8)} (h : numsErr ps = 0) : ∀ p, p ∈ ps → (num p).2 = 0 := by
  intro p hp
  rw [numsErr_ncode] at h
  obtain ⟨h1, h2⟩ := worst0 h
  have hm : ncode p ∈ ps.map ncode := List.mem_map_of_mem hp
  rcases num_err p with e | e | e
  · exact e
  · exact absurd (show ncode p = 1 from e) (fun e => h1 (e ▸ hm))
  · exact absurd (show ncode p = 2 from e) (fun e => h2 (e ▸ hm))

theorem text_back (l : List UInt8) (h : verErr l = 0) : textOf (nAt l 0) (nAt l 1) (nAt l 2) (preOf l) = l := by
  unfold verErr at h
  by_cases hc : marked l = false ∨ (coreOf l).length ≠ 3
  · rw [if_pos hc] at h; omega
  rw [if_neg hc] at h
  have hm : marked l = true := by
    cases e : marked l
    · exact absurd (Or.inl e) hc
    · rfl
  have h3 : (coreOf l).length = 3 := by
    rcases Nat.decEq (coreOf l).length 3 with h | h
    · exact absurd (Or.inr h) hc
    · exact h
  have hl : l = 118 :: restOf l := by
    rw [rest_drop hm]
    cases l with
    | nil => cases hm
    | cons b r =>
      have : b = 118 := by simpa [marked] using hm
      rw [this]; rfl
  obtain ⟨hn, hp⟩ : numsErr (coreOf l) = 0 ∧ pre (preOf l) = 0 := by
    cases e : hasPre l
    · rw [e] at h
      exact ⟨h, by unfold preOf; rw [e]; rfl⟩
    · rw [e] at h
      have h' : worse (numsErr (coreOf l)) (pre (preOf l)) = 0 := h
      unfold worse at h'
      by_cases q : numsErr (coreOf l) = 1 ∨ pre (preOf l) = 0
      · rw [if_pos q] at h'
        refine ⟨h', ?_⟩
        rcases q with q | q
        · omega
        · exact q
      · rw [if_neg q] at h'; exact absurd (Or.inr h') q
  obtain ⟨p0, p1, p2, hco⟩ : ∃ p0 p1 p2, coreOf l = [p0, p1, p2] := by
    match e : coreOf l, h3 with
    | [a, b, c], _ => exact ⟨a, b, c, rfl⟩
  have hz := ncode0 hn
  rw [hco] at hz
  have n0 : nAt l 0 = (num p0).1 := by simp [nAt, numsOf, hco]
  have n1 : nAt l 1 = (num p1).1 := by simp [nAt, numsOf, hco]
  have n2 : nAt l 2 = (num p2).1 := by simp [nAt, numsOf, hco]
  obtain ⟨i0, l0, u0⟩ := itoa_num p0 (hz p0 (by simp))
  obtain ⟨i1, l1, u1⟩ := itoa_num p1 (hz p1 (by simp))
  obtain ⟨i2, l2, u2⟩ := itoa_num p2 (hz p2 (by simp))
  have hin : (inBB (num p0).1 && inBB (num p1).1 && inBB (num p2).1) = true := by simp [inBB, l0, u0, l1, u1, l2, u2]
  have hj : (one 45 (restOf l)).1 = core (num p0).1 (num p1).1 (num p2).1 := by
    have e := join_cut 46 (one 45 (restOf l)).1
    have hco' : cutAt 46 (one 45 (restOf l)).1 = [p0, p1, p2] := hco
    rw [hco'] at e
    rw [← e, Lib.join_cons]
    unfold core
    rw [i0, i1, i2]
    simp [Lib.joinTail]
  rw [n0, n1, n2, textOf_pre, hin, hp]
  show core3 _ _ _ ++ preText (preOf l) = l
  rw [core3_eq]
  conv => rhs; rw [hl]
  congr 1
  cases e : hasPre l
  · have e1 : (one 45 (restOf l)).2.2 = false := e
    have e2 := one_none e1
    have e3 : preOf l = [] := by unfold preOf; rw [e]; rfl
    rw [e3, ← hj, e2]
    simp [preText]
  · have e1 : (one 45 (restOf l)).2.2 = true := e
    have e2 := one_back e1
    have e3 : preOf l = cutAt 46 (one 45 (restOf l)).2.1 := by unfold preOf; rw [e]; rfl
    have e4 : preText (preOf l) = 45 :: (one 45 (restOf l)).2.1 := by
      rw [e3]
      have e5 := join_cut 46 (one 45 (restOf l)).2.1
      obtain ⟨x, r, ex⟩ : ∃ x r, cutAt 46 (one 45 (restOf l)).2.1 = x :: r := by
        cases ex : cutAt 46 (one 45 (restOf l)).2.1 with
        | nil => exact absurd ex (cutAt_ne _ _)
        | cons x r => exact ⟨x, r, rfl⟩
      rw [ex] at e5 ⊢
      simp only [preText]
      rw [e5]; rfl
    rw [e4, ← hj]
    exact e2.symm
end Ve
end Go.Proofs.YtpafkniapacfdaaGreatDoor

/-
  What slices.CompareFunc answers with comparePart, and comparePre and compare of package ver: the order on pres and on versions; nothing old in memory turns.
-/
namespace Go.Proofs.YtpafkniapacfdaaGreatDoor
open Go.RowKit
namespace Ve

theorem ordPs_step (X Y : List ByteArray) (k : Nat) (h1 : k < X.length) (h2 : k < Y.length) :
    ordPs (bl (X.drop k)) (bl (Y.drop k)) = fst (ordPart X[k].data.toList Y[k].data.toList) (ordPs (bl (X.drop (k + 1))) (bl (Y.drop (k + 1)))) := by
  rw [List.drop_eq_getElem_cons h1, List.drop_eq_getElem_cons h2]; rfl
theorem ordPs_long (X Y : List ByteArray) (k : Nat) (h1 : k < X.length) (h2 : k = Y.length) : ordPs (bl (X.drop k)) (bl (Y.drop k)) = 1 := by
  rw [List.drop_eq_getElem_cons h1, List.drop_eq_nil_of_le (show Y.length ≤ k by omega)]; rfl
theorem ordPs_short (X Y : List ByteArray) (k : Nat) (h1 : k = X.length) (h2 : k < Y.length) : ordPs (bl (X.drop k)) (bl (Y.drop k)) = -1 := by
  rw [List.drop_eq_nil_of_le (show X.length ≤ k by omega), List.drop_eq_getElem_cons h2]; rfl
theorem ordPs_end (X Y : List ByteArray) (k : Nat) (h1 : k = X.length) (h2 : k = Y.length) : ordPs (bl (X.drop k)) (bl (Y.drop k)) = 0 := by
  rw [List.drop_eq_nil_of_le (show X.length ≤ k by omega), List.drop_eq_nil_of_le (show Y.length ≤ k by omega)]; rfl

set_option maxHeartbeats 2000000 in
theorem cfunc_any (b0 b1 c0 c1 : Nat) (X Y : List ByteArray) (w : World) (hX : X.length ≤ 1000000) (hXs : ∀ x, x ∈ X → x.size ≤ maxLen) (hYs : ∀ x, x ∈ Y → x.size ≤ maxLen)
    (hc0 : ∀ j (h : j < X.length), w.cell? ⟨b0, 0 + j, none⟩ = some (.string X[j])) (hc1 : ∀ j (h : j < Y.length), w.cell? ⟨b1, 0 + j, none⟩ = some (.string Y[j])) :
    Calls Tryz.prog 236 #[.slice (some ⟨b0, 0, none⟩) X.length c0, .slice (some ⟨b1, 0, none⟩) Y.length c1, .func (.func 237) #[] #[]] w fun e w' => e = .returned (.int .i64 (ordPs (bl X) (bl Y))) ∧ Bw w.heap.size w w' := by
  have HXS := hid hXs
  have HYS := hid hYs
  have HC0 := hid hc0
  have HC1 := hid hc1
  clear hXs hYs hc0 hc1
  go_enter Tryz.func236, Tryz.ntmps236
  go_wp2_with fail
  go_loopw [13] (fun i wr => ∃ k : Nat, k ≤ X.length ∧ k ≤ Y.length ∧ i = .int .i64 k ∧ Hid (ordPs (bl X) (bl Y) = ordPs (bl (X.drop k)) (bl (Y.drop k))) ∧ Hid (Bw w.heap.size w wr)) (fun i _ => X.length - (intOf i).toNat)
  case atStart => exact ⟨0, Nat.zero_le _, Nat.zero_le _, rfl, hid rfl, hid (Bw.refl _ _)⟩
  case round =>
    obtain ⟨k, hk, hk2, rfl, HO, HB⟩ := hrel
    by_cases hlt : k < X.length
    · by_cases hlt2 : k < Y.length
      · have hx : wr.cell? ⟨b0, k, none⟩ = some (.string X[k]) := by
          have := HC0.out k hlt
          rw [Nat.zero_add] at this
          exact cell_below HB.out.be this
        have hy : wr.cell? ⟨b1, k, none⟩ = some (.string Y[k]) := by
          have := HC1.out k hlt2
          rw [Nat.zero_add] at this
          exact cell_below HB.out.be this
        have HP := hid (cpart_bw X[k] Y[k] wr (HXS.out _ (List.getElem_mem hlt)) (HYS.out _ (List.getElem_mem hlt2)))
        have HN := hid (HO.out.trans (ordPs_step X Y k hlt hlt2))
        generalize hq : ordPart X[k].data.toList Y[k].data.toList = q at *
        clear hq HO
        by_cases hz : q = 0
        · subst hz
          go_wp2_with fail
          refine HP.out.mono ?_
          rintro e w1 ⟨rfl, hb1⟩
          have HB1 := hid (HB.out.trans (hb1.mono HB.out.size))
          clear hb1
          go_wp2_with fail
          go_roundw
          case rel => exact ⟨k + 1, by omega, by omega, by go_num, hid (HN.out.trans (fst0 _)), HB1⟩
          case measure => simp [intOf]; omega
        · have hqb : (q == 0) = false := beq_eq_false_iff_ne.2 hz
          have HF := hid (HN.out.trans (fst_ne _ hz))
          clear hz
          go_wp2_with fail
          refine HP.out.mono ?_
          rintro e w1 ⟨rfl, hb1⟩
          have HB1 := hid (HB.out.trans (hb1.mono HB.out.size))
          clear hb1
          go_wp2_with fail
          go_ret
          exact ⟨ret_int HF.out.symm, HB1.out⟩
      · have hx : wr.cell? ⟨b0, k, none⟩ = some (.string X[k]) := by
          have := HC0.out k hlt
          rw [Nat.zero_add] at this
          exact cell_below HB.out.be this
        have HF := hid (HO.out.trans (ordPs_long X Y k hlt (by omega)))
        clear HO
        go_wp2_with fail
        go_ret
        exact ⟨ret_int HF.out.symm, HB.out⟩
    · by_cases hlt2 : X.length < Y.length
      · have HF := hid (HO.out.trans (ordPs_short X Y k (by omega) (by omega)))
        clear HO
        go_wp2_with fail
        go_ret
        exact ⟨ret_int HF.out.symm, HB.out⟩
      · have HF := hid (HO.out.trans (ordPs_end X Y k (by omega) (by omega)))
        clear HO
        go_wp2_with fail
        go_ret
        exact ⟨ret_int HF.out.symm, HB.out⟩

theorem bl_nil {X : List ByteArray} : bl X = [] ↔ X = [] := by
  constructor
  · intro h; exact List.length_eq_zero_iff.1 (by rw [← bl_len, h]; rfl)
  · intro h; rw [h]; rfl

set_option maxHeartbeats 1000000 in
theorem cpre_any (va vb : Value) (X Y : List ByteArray) (w : World) (hX : X.length ≤ 1000000) (hY : Y.length ≤ 1000000) (hXs : ∀ x, x ∈ X → x.size ≤ maxLen) (hYs : ∀ x, x ∈ Y → x.size ≤ maxLen) (ha : StrsAt w va X) (hb : StrsAt w vb Y) :
    Calls Tryz.prog 199 #[va, vb] w fun e w' => e = .returned (.int .i64 (ordPre (bl X) (bl Y))) ∧ Bw w.heap.size w w' := by
  rcases ha with ⟨rfl, rfl⟩ | ⟨hXn, b0, rfl, hb0, hc0⟩
  · obtain ⟨p, c, rfl⟩ : ∃ p c, vb = .slice p Y.length c := by
      rcases hb with ⟨rfl, rfl⟩ | ⟨_, b, rfl, _⟩
      · exact ⟨none, 0, rfl⟩
      · exact ⟨_, _, rfl⟩
    have HO := hid (show ordPre (bl []) (bl Y) = Lib.compareInt (Y.length : Int) 0 by unfold ordPre; rw [if_pos (show bl [] = [] ∨ bl Y = [] from Or.inl rfl), bl_len]; rfl)
    have HC := hid (Tryz.cmp_Compare_int (Y.length : Int) 0 w)
    clear hb hXs hYs
    go_enter Tryz.func199, Tryz.ntmps199
    go_wp2_with fail
    refine HC.out.mono ?_
    rintro e w' ⟨rfl, rfl⟩
    go_wp2_with fail
    go_ret
    exact ⟨ret_int HO.out.symm, Bw.refl _ _⟩
  · have hl : 0 < X.length := List.length_pos_iff.2 hXn
    have h0 : ((X.length : Int) == 0) = false := beq_eq_false_iff_ne.2 (by omega)
    rcases hb with ⟨rfl, rfl⟩ | ⟨hYn, b1, rfl, hb1, hc1⟩
    · have HO := hid (show ordPre (bl X) (bl []) = Lib.compareInt 0 (X.length : Int) by unfold ordPre; rw [if_pos (show bl X = [] ∨ bl [] = [] from Or.inr rfl), bl_len X]; rfl)
      have HC := hid (Tryz.cmp_Compare_int 0 (X.length : Int) w)
      clear hXs hYs hc0
      go_enter Tryz.func199, Tryz.ntmps199
      go_wp2_with fail
      refine HC.out.mono ?_
      rintro e w' ⟨rfl, rfl⟩
      go_wp2_with fail
      go_ret
      exact ⟨ret_int HO.out.symm, Bw.refl _ _⟩
    · have hl2 : 0 < Y.length := List.length_pos_iff.2 hYn
      have h02 : ((Y.length : Int) == 0) = false := beq_eq_false_iff_ne.2 (by omega)
      have HO := hid (show ordPre (bl X) (bl Y) = ordPs (bl X) (bl Y) by unfold ordPre; rw [if_neg]; rintro (h | h); exact hXn (bl_nil.1 h); exact hYn (bl_nil.1 h))
      have HC := hid (cfunc_any b0 b1 X.length Y.length X Y w hX hXs hYs hc0 hc1)
      clear hXs hYs hc0 hc1
      go_enter Tryz.func199, Tryz.ntmps199
      go_wp2_with fail
      refine HC.out.mono ?_
      rintro e w' ⟨rfl, hb⟩
      have HB := hid hb
      clear hb
      go_wp2_with fail
      go_ret
      exact ⟨ret_int HO.out.symm, HB.out⟩

theorem d1_any (x y : Int) (A B : Nat) (w : World) (a0 : w.cell? ⟨A, 0, none⟩ = some (.int .i64 x)) (b0 : w.cell? ⟨B, 0, none⟩ = some (.int .i64 y)) :
    Calls Tryz.prog 194 #[.pointer (some ⟨A, 0, none⟩), .pointer (some ⟨B, 0, none⟩)] w fun e w' => e = .returned (.int .i64 (Lib.compareInt x y)) ∧ w' = w := by
  have HC := hid (Tryz.cmp_Compare_int x y w)
  go_enter Tryz.func194, Tryz.ntmps194
  go_wp2_with fail
  refine HC.out.mono ?_
  rintro e w' ⟨rfl, rfl⟩
  go_wp2_with fail
  go_ret
  exact ⟨rfl, rfl⟩
theorem d2_any (x y : Int) (A B : Nat) (w : World) (a0 : w.cell? ⟨A, 1, none⟩ = some (.int .i64 x)) (b0 : w.cell? ⟨B, 1, none⟩ = some (.int .i64 y)) :
    Calls Tryz.prog 196 #[.pointer (some ⟨A, 0, none⟩), .pointer (some ⟨B, 0, none⟩)] w fun e w' => e = .returned (.int .i64 (Lib.compareInt x y)) ∧ w' = w := by
  have HC := hid (Tryz.cmp_Compare_int x y w)
  go_enter Tryz.func196, Tryz.ntmps196
  go_wp2_with fail
  refine HC.out.mono ?_
  rintro e w' ⟨rfl, rfl⟩
  go_wp2_with fail
  go_ret
  exact ⟨rfl, rfl⟩
theorem d3_any (x y : Int) (A B : Nat) (w : World) (a0 : w.cell? ⟨A, 2, none⟩ = some (.int .i64 x)) (b0 : w.cell? ⟨B, 2, none⟩ = some (.int .i64 y)) :
    Calls Tryz.prog 197 #[.pointer (some ⟨A, 0, none⟩), .pointer (some ⟨B, 0, none⟩)] w fun e w' => e = .returned (.int .i64 (Lib.compareInt x y)) ∧ w' = w := by
  have HC := hid (Tryz.cmp_Compare_int x y w)
  go_enter Tryz.func197, Tryz.ntmps197
  go_wp2_with fail
  refine HC.out.mono ?_
  rintro e w' ⟨rfl, rfl⟩
  go_wp2_with fail
  go_ret
  exact ⟨rfl, rfl⟩
theorem d4_any (va vb : Value) (k : Int) (A B : Nat) (w : World) (a0 : w.cell? ⟨A, 3, none⟩ = some va) (b0 : w.cell? ⟨B, 3, none⟩ = some vb)
    (h : Calls Tryz.prog 199 #[va, vb] w fun e w' => e = .returned (.int .i64 k) ∧ Bw w.heap.size w w') :
    Calls Tryz.prog 198 #[.pointer (some ⟨A, 0, none⟩), .pointer (some ⟨B, 0, none⟩)] w fun e w' => e = .returned (.int .i64 k) ∧ Bw w.heap.size w w' := by
  have HC := hid h
  clear h
  go_enter Tryz.func198, Tryz.ntmps198
  go_wp2_with fail
  refine HC.out.mono ?_
  rintro e w' ⟨rfl, hb⟩
  have HB := hid hb
  clear hb
  go_wp2_with fail
  go_ret
  exact ⟨rfl, HB.out⟩

set_option maxHeartbeats 2000000 in
theorem first_four (k1 k2 k3 k4 : Int) (A B F : Nat) (w : World)
    (h1 : Calls Tryz.prog 194 #[.pointer (some ⟨A, 0, none⟩), .pointer (some ⟨B, 0, none⟩)] w fun e w' => e = .returned (.int .i64 k1) ∧ w' = w)
    (h2 : Calls Tryz.prog 196 #[.pointer (some ⟨A, 0, none⟩), .pointer (some ⟨B, 0, none⟩)] w fun e w' => e = .returned (.int .i64 k2) ∧ w' = w)
    (h3 : Calls Tryz.prog 197 #[.pointer (some ⟨A, 0, none⟩), .pointer (some ⟨B, 0, none⟩)] w fun e w' => e = .returned (.int .i64 k3) ∧ w' = w)
    (h4 : Calls Tryz.prog 198 #[.pointer (some ⟨A, 0, none⟩), .pointer (some ⟨B, 0, none⟩)] w fun e w' => e = .returned (.int .i64 k4) ∧ Bw w.heap.size w w')
    (f0 : w.cell? ⟨F, 0, none⟩ = some (.func (.func 194) #[] #[.pointer (some ⟨A, 0, none⟩), .pointer (some ⟨B, 0, none⟩)])) (f1 : w.cell? ⟨F, 1, none⟩ = some (.func (.func 196) #[] #[.pointer (some ⟨A, 0, none⟩), .pointer (some ⟨B, 0, none⟩)]))
    (f2 : w.cell? ⟨F, 2, none⟩ = some (.func (.func 197) #[] #[.pointer (some ⟨A, 0, none⟩), .pointer (some ⟨B, 0, none⟩)])) (f3 : w.cell? ⟨F, 3, none⟩ = some (.func (.func 198) #[] #[.pointer (some ⟨A, 0, none⟩), .pointer (some ⟨B, 0, none⟩)])) :
    Calls Tryz.prog 193 #[.slice (some ⟨F, 0, none⟩) 4 4] w fun e w' => e = .returned (.int .i64 (fst k1 (fst k2 (fst k3 k4)))) ∧ Bw w.heap.size w w' := by
  have HX := hid h1
  have HY := hid h2
  have HZ := hid h3
  have HP := hid h4
  clear h1 h2 h3 h4
  by_cases z1 : k1 = 0
  · subst z1
    by_cases z2 : k2 = 0
    · subst z2
      by_cases z3 : k3 = 0
      · subst z3
        by_cases z4 : k4 = 0
        · subst z4
          go_enter Tryz.func193, Tryz.ntmps193
          go_wp2_with fail
          refine wp_loop_rounds 5 ?_
          rw [rounds_succ]
          go_wp2_with fail
          refine HX.out.mono ?_
          rintro e w' ⟨rfl, rfl⟩
          go_wp2_with fail
          rw [rounds_succ]
          go_wp2_with fail
          refine HY.out.mono ?_
          rintro e w' ⟨rfl, rfl⟩
          go_wp2_with fail
          rw [rounds_succ]
          go_wp2_with fail
          refine HZ.out.mono ?_
          rintro e w' ⟨rfl, rfl⟩
          go_wp2_with fail
          rw [rounds_succ]
          go_wp2_with fail
          refine HP.out.mono ?_
          rintro e w1 ⟨rfl, hb⟩
          have HB := hid hb
          clear hb
          go_wp2_with fail
          rw [rounds_succ]
          go_wp2_with fail
          go_ret
          exact ⟨rfl, HB.out⟩
        · have b4 : (k4 == 0) = false := beq_eq_false_iff_ne.2 z4
          clear z4
          go_enter Tryz.func193, Tryz.ntmps193
          go_wp2_with fail
          refine wp_loop_rounds 4 ?_
          rw [rounds_succ]
          go_wp2_with fail
          refine HX.out.mono ?_
          rintro e w' ⟨rfl, rfl⟩
          go_wp2_with fail
          rw [rounds_succ]
          go_wp2_with fail
          refine HY.out.mono ?_
          rintro e w' ⟨rfl, rfl⟩
          go_wp2_with fail
          rw [rounds_succ]
          go_wp2_with fail
          refine HZ.out.mono ?_
          rintro e w' ⟨rfl, rfl⟩
          go_wp2_with fail
          rw [rounds_succ]
          go_wp2_with fail
          refine HP.out.mono ?_
          rintro e w1 ⟨rfl, hb⟩
          have HB := hid hb
          clear hb
          go_wp2_with fail
          go_ret
          exact ⟨ret_int rfl, HB.out⟩
      · have b3 : (k3 == 0) = false := beq_eq_false_iff_ne.2 z3
        have HF := hid (show fst 0 (fst 0 (fst k3 k4)) = k3 by rw [fst0, fst0, fst_ne _ z3])
        clear z3
        go_enter Tryz.func193, Tryz.ntmps193
        go_wp2_with fail
        refine wp_loop_rounds 3 ?_
        rw [rounds_succ]
        go_wp2_with fail
        refine HX.out.mono ?_
        rintro e w' ⟨rfl, rfl⟩
        go_wp2_with fail
        rw [rounds_succ]
        go_wp2_with fail
        refine HY.out.mono ?_
        rintro e w' ⟨rfl, rfl⟩
        go_wp2_with fail
        rw [rounds_succ]
        go_wp2_with fail
        refine HZ.out.mono ?_
        rintro e w' ⟨rfl, rfl⟩
        go_wp2_with fail
        go_ret
        exact ⟨ret_int HF.out.symm, Bw.refl _ _⟩
    · have b2 : (k2 == 0) = false := beq_eq_false_iff_ne.2 z2
      have HF := hid (show fst 0 (fst k2 (fst k3 k4)) = k2 by rw [fst0, fst_ne _ z2])
      clear z2
      go_enter Tryz.func193, Tryz.ntmps193
      go_wp2_with fail
      refine wp_loop_rounds 2 ?_
      rw [rounds_succ]
      go_wp2_with fail
      refine HX.out.mono ?_
      rintro e w' ⟨rfl, rfl⟩
      go_wp2_with fail
      rw [rounds_succ]
      go_wp2_with fail
      refine HY.out.mono ?_
      rintro e w' ⟨rfl, rfl⟩
      go_wp2_with fail
      go_ret
      exact ⟨ret_int HF.out.symm, Bw.refl _ _⟩
  · have b1 : (k1 == 0) = false := beq_eq_false_iff_ne.2 z1
    have HF := hid (fst_ne (fst k2 (fst k3 k4)) z1)
    clear z1
    go_enter Tryz.func193, Tryz.ntmps193
    go_wp2_with fail
    refine wp_loop_rounds 1 ?_
    rw [rounds_succ]
    go_wp2_with fail
    refine HX.out.mono ?_
    rintro e w' ⟨rfl, rfl⟩
    go_wp2_with fail
    go_ret
    exact ⟨ret_int HF.out.symm, Bw.refl _ _⟩

set_option maxHeartbeats 2000000 in
theorem compare_bw (x y z x' y' z' : Int) (va vb : Value) (X Y : List ByteArray) (w : World) (hX : X.length ≤ 1000000) (hY : Y.length ≤ 1000000) (hXs : ∀ x, x ∈ X → x.size ≤ maxLen) (hYs : ∀ x, x ∈ Y → x.size ≤ maxLen) (ha : StrsAt w va X) (hb : StrsAt w vb Y) :
    Calls Tryz.prog 150 #[.agg #[.int .i64 x, .int .i64 y, .int .i64 z, va], .agg #[.int .i64 x', .int .i64 y', .int .i64 z', vb]] w fun e w' => e = .returned (.int .i64 (ordN x y z (bl X) x' y' z' (bl Y))) ∧ Bw w.heap.size w w' := by
  have hmf : ∀ (fn : Fn) (first cap : Array Value) (w : World), (Instr.makeFunc fn first cap).run Tryz.prog w = .ok (.func fn first cap) w := fun _ _ _ _ => rfl
  have HXS := hid hXs
  have HYS := hid hYs
  have HA := hid ha
  have HB := hid hb
  obtain ⟨pa, na, ca, rfl⟩ : ∃ p n c, va = .slice p n c := by
    rcases ha with ⟨_, rfl⟩ | ⟨_, b, rfl, _⟩ <;> exact ⟨_, _, _, rfl⟩
  obtain ⟨pb, nb, cb, rfl⟩ : ∃ p n c, vb = .slice p n c := by
    rcases hb with ⟨_, rfl⟩ | ⟨_, b, rfl, _⟩ <;> exact ⟨_, _, _, rfl⟩
  clear hXs hYs ha hb
  go_enter Tryz.func150, Tryz.ntmps150
  go_wp2_with fail
  refine (first_four (Lib.compareInt x x') (Lib.compareInt y y') (Lib.compareInt z z') (ordPre (bl X) (bl Y)) w.heap.size (w.heap.size + 1) (w.heap.size + 1 + 1) _ (d1_any x x' _ _ _ ?_ ?_) (d2_any y y' _ _ _ ?_ ?_) (d3_any z z' _ _ _ ?_ ?_) (d4_any _ _ _ _ _ _ ?_ ?_ (cpre_any _ _ X Y _ hX hY HXS.out HYS.out (HA.out.below ?_) (HB.out.below ?_))) ?_ ?_ ?_ ?_).mono ?_
  · exact (three w _ _ _ _ _ 0).1.trans rfl
  · exact (three w _ _ _ _ _ 0).2.1.trans rfl
  · exact (three w _ _ _ _ _ 1).1.trans rfl
  · exact (three w _ _ _ _ _ 1).2.1.trans rfl
  · exact (three w _ _ _ _ _ 2).1.trans rfl
  · exact (three w _ _ _ _ _ 2).2.1.trans rfl
  · exact (three w _ _ _ _ _ 3).1.trans rfl
  · exact (three w _ _ _ _ _ 3).2.1.trans rfl
  · exact (((Below.refl _ _).alloc (Nat.le_refl _) _).alloc (by simp) _).alloc (by simp; omega) _
  · exact (((Below.refl _ _).alloc (Nat.le_refl _) _).alloc (by simp) _).alloc (by simp; omega) _
  · exact (three w _ _ _ _ _ 0).2.2.trans rfl
  · exact (three w _ _ _ _ _ 1).2.2.trans rfl
  · exact (three w _ _ _ _ _ 2).2.2.trans rfl
  · exact (three w _ _ _ _ _ 3).2.2.trans rfl
  rintro e w1 ⟨rfl, hb⟩
  have HBF := hid ((((((Bw.refl w.heap.size w).alloc (Nat.le_refl _) _).alloc (by simp) _).alloc (by simp; omega) _).trans (hb.mono (by simp; omega))))
  clear hb
  go_wp2_with fail
  go_ret
  exact ⟨rfl, HBF.out⟩
theorem compare_any (x y z x' y' z' : Int) (va vb : Value) (X Y : List ByteArray) (w : World) (hX : X.length ≤ 1000000) (hY : Y.length ≤ 1000000) (hXs : ∀ x, x ∈ X → x.size ≤ maxLen) (hYs : ∀ x, x ∈ Y → x.size ≤ maxLen) (ha : StrsAt w va X) (hb : StrsAt w vb Y) :
    Calls Tryz.prog 150 #[.agg #[.int .i64 x, .int .i64 y, .int .i64 z, va], .agg #[.int .i64 x', .int .i64 y', .int .i64 z', vb]] w fun e w' => e = .returned (.int .i64 (ordN x y z (bl X) x' y' z' (bl Y))) ∧ Below w.heap.size w w' :=
  (compare_bw x y z x' y' z' va vb X Y w hX hY hXs hYs ha hb).mono fun _ _ h => ⟨h.1, h.2.be⟩
end Ve
end Go.Proofs.YtpafkniapacfdaaGreatDoor


namespace Go.Proofs.YtpafkniapacfdaaGreatDoor
open Go.RowKit
namespace Ve
theorem verOf_any (s : ByteArray) (w : World) (hs : s.size < 4294967281) :
    Calls Tryz.prog 88 #[.string s] w fun e w' => (verErr s.data.toList ≠ 0 ∧ e = .returned (.tuple #[.agg #[.int .i64 0, .int .i64 0, .int .i64 0, .slice none 0 0], .int .i64 (verErr s.data.toList : Nat)]) ∨
      verErr s.data.toList = 0 ∧ ∃ sa cap X2, e = .returned (.tuple #[.agg #[.int .i64 (nAt s.data.toList 0), .int .i64 (nAt s.data.toList 1), .int .i64 (nAt s.data.toList 2), .slice sa X2.length cap], .int .i64 0]) ∧ bl X2 = preOf s.data.toList ∧ (X2 = [] ∨ ∃ g, sa = some ⟨g, 0, none⟩ ∧ ∀ j (hj : j < X2.length), w'.cell? ⟨g, j, none⟩ = some (.string X2[j]))) ∧ Below w.heap.size w w' := by
  by_cases hm : marked s.data.toList = false
  · have hv : verErr s.data.toList = 1 := by unfold verErr; rw [if_pos (Or.inl hm)]
    rw [hv]
    exact (verOf_head s w hs hm).mono fun e w' ⟨h1, h2⟩ => ⟨Or.inl ⟨by omega, h1⟩, h2⟩
  · have hm' : marked s.data.toList = true := by simpa using hm
    by_cases h3 : (coreOf s.data.toList).length = 3
    · have hn : ¬ (marked s.data.toList = false ∨ (coreOf s.data.toList).length ≠ 3) := by rintro (h | h); exact hm h; exact h h3
      cases hp : hasPre s.data.toList
      · have hv : verErr s.data.toList = numsErr (coreOf s.data.toList) := by unfold verErr; rw [if_neg hn, hp]; rfl
        rw [hv]
        refine (verOf_A s w hs hm' hp h3).mono fun e w' ⟨h1, h2⟩ => ⟨?_, h2⟩
        by_cases hq : numsErr (coreOf s.data.toList) = 0
        · refine Or.inr ⟨hq, none, 0, [], ?_, ?_, Or.inl rfl⟩
          · rw [h1, hq]; rfl
          · unfold preOf; rw [hp]; rfl
        · refine Or.inl ⟨hq, ?_⟩
          rw [h1]; unfold resA; rw [if_neg hq]
      · have hv : verErr s.data.toList = verB s.data.toList := by rw [verB_eq]; unfold verErr; rw [if_neg hn, hp]; rfl
        rw [hv]
        refine (verOf_B s w hs hm' hp h3).mono fun e w' ⟨h1, h2⟩ => ⟨?_, h2⟩
        rcases h1 with h1 | ⟨h0, g, cap, X2, h1, h4, h5, h6⟩
        · exact Or.inl h1
        · exact Or.inr ⟨h0, _, cap, X2, h1, h4, Or.inr ⟨g, rfl, h6⟩⟩
    · have hv : verErr s.data.toList = 1 := by unfold verErr; rw [if_pos (Or.inr h3)]
      rw [hv]
      cases hp : hasPre s.data.toList
      · exact (verOf_A1 s w hs hm' hp h3).mono fun e w' ⟨h1, h2⟩ => ⟨Or.inl ⟨by omega, h1⟩, h2⟩
      · exact (verOf_B1 s w hs hm' hp h3).mono fun e w' ⟨h1, h2⟩ => ⟨Or.inl ⟨by omega, h1⟩, h2⟩
end Ve
end Go.Proofs.YtpafkniapacfdaaGreatDoor
