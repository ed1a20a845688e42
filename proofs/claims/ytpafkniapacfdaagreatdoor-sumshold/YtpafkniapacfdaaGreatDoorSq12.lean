
import Derived.Test.YtpafkniapacfdaaGreatDoorSq10
import Derived.Test.YtpafkniapacfdaaGreatDoorSq7
import Derived.Test.YtpafkniapacfdaaGreatDoorSq11
import Derived.Test.YtpafkniapacfdaaGreatDoorSq8
namespace Go.Proofs.YtpafkniapacfdaaGreatDoor
open Go.RowKit
namespace Ve
theorem dig_of {n : Nat} (h : n < 10) : dig (UInt8.ofNat (48 + n)) = true := by
  have : (UInt8.ofNat (48 + n)).toNat = 48 + n := by simp [UInt8.toNat_ofNat']; omega
  simp only [dig, digB, this, decide_eq_true_eq]
  omega
theorem dec_dig (u : Nat) : (Lib.decDigits u).all dig = true := by
  induction u using Nat.strongRecOn with
  | _ u ih =>
    by_cases h : u < 10
    · rw [Lib.decDigits_one h, List.all_cons, dig_of h]; rfl
    · rw [dec_big h, all_snoc, ih _ (by omega), dig_of (by omega)]; rfl
theorem dec_head (u : Nat) (hu : 0 < u) : ∃ c r, Lib.decDigits u = c :: r ∧ c ≠ 48 := by
  induction u using Nat.strongRecOn with
  | _ u ih =>
    by_cases h : u < 10
    · refine ⟨_, _, Lib.decDigits_one h, fun e => ?_⟩
      have := congrArg UInt8.toNat e
      have h2 : (UInt8.ofNat (48 + u)).toNat = 48 + u := by simp [UInt8.toNat_ofNat']; omega
      rw [h2] at this
      have h3 : (48 : UInt8).toNat = 48 := rfl
      omega
    · obtain ⟨c, r, h1, h2⟩ := ih (u / 10) (by omega) (by omega)
      exact ⟨c, r ++ [UInt8.ofNat (48 + u % 10)], by rw [dec_big h, h1]; rfl, h2⟩
theorem dec_zero (u : Nat) : zero (Lib.decDigits u) = false := by
  unfold zero
  by_cases hu : u = 0
  · subst hu; rw [Lib.decDigits_one (by omega)]; rfl
  · obtain ⟨c, r, h1, h2⟩ := dec_head u (by omega)
    rw [h1]
    simp [h2]
theorem dec_pos (u : Nat) : 0 < (Lib.decDigits u).length := by rw [Lib.decDigits_length]; exact Lib.nDigits_pos u
theorem itoa_dec (a : Int) (h : 0 ≤ a) : Lib.itoa a = Lib.decDigits a.toNat := by unfold Lib.itoa; rw [if_neg (by omega)]
theorem pre_parts {ps : List (List UInt8)} (h : pre ps = 0) : ∀ p, p ∈ ps → part p = 0 := by
  intro p hp
  unfold pre at h
  rw [preTo_worst _ (by split <;> simp)] at h
  unfold worst at h
  have hm : part p ∈ ps.map part := List.mem_map_of_mem hp
  rcases part_err p with e | e | e
  · exact e
  · rw [e] at hm; rw [if_pos (Or.inr hm)] at h; cases h
  · rw [e] at hm
    exfalso
    generalize (if 5 < ps.length then 2 else 0) = q at h
    by_cases g : q = 1 ∨ 1 ∈ ps.map part
    · rw [if_pos g] at h; omega
    · rw [if_neg g, if_pos (Or.inr hm)] at h; omega
def core (a b c : Int) : List UInt8 := Lib.itoa a ++ 46 :: (Lib.itoa b ++ 46 :: Lib.itoa c)
theorem core3_eq (a b c : Int) (l : List UInt8) : core3 a b c ++ l = 118 :: (core a b c ++ l) := by simp [core3, core]
end Ve
end Go.Proofs.YtpafkniapacfdaaGreatDoor


namespace Go.Proofs.YtpafkniapacfdaaGreatDoor
open Go.RowKit
namespace Ve
theorem below_drew {w w' : World} (h : Below w.heap.size w w') (n : Nat) : Below w.heap.size w (w'.drewN n) := h.trans ((below_drawn w' n).mono h.size)
structure Bw (B : Nat) (w w' : World) : Prop where
  be : Below B w w'
  dr : w.drawn ≤ w'.drawn
theorem Bw.refl (B : Nat) (w : World) : Bw B w w := ⟨Below.refl _ _, Nat.le_refl _⟩
theorem Bw.trans {B : Nat} {a b c : World} (h : Bw B a b) (k : Bw B b c) : Bw B a c := ⟨h.be.trans k.be, Nat.le_trans h.dr k.dr⟩
theorem Bw.mono {B B' : Nat} {w w' : World} (h : Bw B w w') (hB : B' ≤ B) : Bw B' w w' := ⟨h.be.mono hB, h.dr⟩
theorem Bw.size {B : Nat} {w w' : World} (h : Bw B w w') : w.heap.size ≤ w'.heap.size := h.be.size
theorem Bw.alloc {B : Nat} {w w' : World} (h : Bw B w w') (hB : B ≤ w'.heap.size) (o : Obj) : Bw B w (w'.alloc o) := ⟨h.be.alloc hB o, h.dr⟩
theorem bw_drew {w w' : World} (h : Bw w.heap.size w w') (n : Nat) : Bw w.heap.size w (w'.drewN n) := ⟨below_drew h.be n, Nat.le_trans h.dr (Nat.le_add_right _ _)⟩
theorem p1_any (s t : ByteArray) (A B : Nat) (w : World) (a0 : w.cell? ⟨A, 0, none⟩ = some (.string s)) (b0 : w.cell? ⟨B, 0, none⟩ = some (.string t)) :
    Calls Tryz.prog 253 #[.pointer (some ⟨A, 0, none⟩), .pointer (some ⟨B, 0, none⟩)] w fun e w' => e = .returned (.int .i64 (Lib.compareInt (s.size : Int) (t.size : Int))) ∧ w' = w := by
  have HC := hid (Tryz.cmp_Compare_int (s.size : Int) (t.size : Int) w)
  go_enter Tryz.func253, Tryz.ntmps253
  go_wp2_with fail
  refine HC.out.mono ?_
  rintro e w' ⟨rfl, rfl⟩
  go_wp2_with fail
  go_ret
  exact ⟨rfl, rfl⟩
theorem p2_any (s t : ByteArray) (A B : Nat) (w : World) (a0 : w.cell? ⟨A, 0, none⟩ = some (.string s)) (b0 : w.cell? ⟨B, 0, none⟩ = some (.string t)) :
    Calls Tryz.prog 254 #[.pointer (some ⟨A, 0, none⟩), .pointer (some ⟨B, 0, none⟩)] w fun e w' => e = .returned (.int .i64 (Lib.compareBytes s.data.toList t.data.toList)) ∧ w' = w := by
  have HC := hid (Tryz.strings_Compare s t w)
  go_enter Tryz.func254, Tryz.ntmps254
  go_wp2_with fail
  refine HC.out.mono ?_
  rintro e w' ⟨rfl, rfl⟩
  go_wp2_with fail
  go_ret
  exact ⟨rfl, rfl⟩
set_option maxHeartbeats 2000000 in
theorem first_two (k1 k2 : Int) (A B F : Nat) (w : World)
    (h1 : Calls Tryz.prog 253 #[.pointer (some ⟨A, 0, none⟩), .pointer (some ⟨B, 0, none⟩)] w fun e w' => e = .returned (.int .i64 k1) ∧ w' = w)
    (h2 : Calls Tryz.prog 254 #[.pointer (some ⟨A, 0, none⟩), .pointer (some ⟨B, 0, none⟩)] w fun e w' => e = .returned (.int .i64 k2) ∧ w' = w)
    (f0 : w.cell? ⟨F, 0, none⟩ = some (.func (.func 253) #[] #[.pointer (some ⟨A, 0, none⟩), .pointer (some ⟨B, 0, none⟩)])) (f1 : w.cell? ⟨F, 1, none⟩ = some (.func (.func 254) #[] #[.pointer (some ⟨A, 0, none⟩), .pointer (some ⟨B, 0, none⟩)])) :
    Calls Tryz.prog 193 #[.slice (some ⟨F, 0, none⟩) 2 2] w fun e w' => e = .returned (.int .i64 (fst k1 k2)) ∧ w' = w := by
  have HX := hid h1
  have HY := hid h2
  clear h1 h2
  by_cases z1 : k1 = 0
  · subst z1
    by_cases z2 : k2 = 0
    · subst z2
      go_enter Tryz.func193, Tryz.ntmps193
      go_wp2_with fail
      refine wp_loop_rounds 3 ?_
      rw [rounds_succ]
      go_wp2_with fail
      refine HX.out.mono ?_
      rintro e w' ⟨rfl, rfl⟩
      go_wp2_with fail
      rw [rounds_succ]
      go_wp2_with fail
      refine HY.out.mono ?_
      rintro e w' ⟨rfl, rfl⟩
      go_wp2_with fail
      rw [rounds_succ]
      go_wp2_with fail
      go_ret
      exact ⟨rfl, rfl⟩
    · have b2 : (k2 == 0) = false := beq_eq_false_iff_ne.2 z2
      have HF := hid (fst0 k2)
      clear z2
      go_enter Tryz.func193, Tryz.ntmps193
      go_wp2_with fail
      refine wp_loop_rounds 2 ?_
      rw [rounds_succ]
      go_wp2_with fail
      refine HX.out.mono ?_
      rintro e w' ⟨rfl, rfl⟩
      go_wp2_with fail
      rw [rounds_succ]
      go_wp2_with fail
      refine HY.out.mono ?_
      rintro e w' ⟨rfl, rfl⟩
      go_wp2_with fail
      go_ret
      exact ⟨ret_int HF.out.symm, rfl⟩
  · have b1 : (k1 == 0) = false := beq_eq_false_iff_ne.2 z1
    have HF := hid (fst_ne k2 z1)
    clear z1
    go_enter Tryz.func193, Tryz.ntmps193
    go_wp2_with fail
    refine wp_loop_rounds 1 ?_
    rw [rounds_succ]
    go_wp2_with fail
    refine HX.out.mono ?_
    rintro e w' ⟨rfl, rfl⟩
    go_wp2_with fail
    go_ret
    exact ⟨ret_int HF.out.symm, rfl⟩
theorem three' (w : World) (A B C : Array Value) (T U : TypeId) (j : Nat) :
    (((w.alloc (.cells A T)).alloc (.cells B T)).alloc (.cells C U)).cell? ⟨w.heap.size, j, none⟩ = A[j]? ∧ (((w.alloc (.cells A T)).alloc (.cells B T)).alloc (.cells C U)).cell? ⟨w.heap.size + 1, j, none⟩ = B[j]? ∧
    (((w.alloc (.cells A T)).alloc (.cells B T)).alloc (.cells C U)).cell? ⟨w.heap.size + 1 + 1, j, none⟩ = C[j]? := three w A B C T U j
set_option maxHeartbeats 2000000 in
theorem cpart_bw (s t : ByteArray) (w : World) (hs : s.size ≤ maxLen) (ht : t.size ≤ maxLen) :
    Calls Tryz.prog 237 #[.string s, .string t] w fun e w' => e = .returned (.int .i64 (ordPart s.data.toList t.data.toList)) ∧ Bw w.heap.size w w' := by
  have hmf : ∀ (fn : Fn) (first cap : Array Value) (w : World), (Instr.makeFunc fn first cap).run Tryz.prog w = .ok (.func fn first cap) w := fun _ _ _ _ => rfl
  have HO := hid (show ordPart s.data.toList t.data.toList = if digs s.data.toList then (if digs t.data.toList then fst (Lib.compareInt (s.size : Int) (t.size : Int)) (Lib.compareBytes s.data.toList t.data.toList) else -1) else if digs t.data.toList then 1 else Lib.compareBytes s.data.toList t.data.toList by
    unfold ordPart; rw [len_eq, len_eq])
  have HS := hid (fun W => digits_any s W hs)
  have HT := hid (fun W => digits_any t W ht)
  have HC := hid (fun W => Tryz.strings_Compare s t W)
  have HB := hid (((Bw.refl w.heap.size w).alloc (Nat.le_refl _) (.cells #[.string s] 9)).alloc (by simp) (.cells #[.string t] 9))
  clear hs ht
  cases h1 : digs s.data.toList
  all_goals cases h2 : digs t.data.toList
  all_goals rw [h1] at HS HO
  all_goals rw [h2] at HT HO
  all_goals clear h1 h2
  · go_enter Tryz.func237, Tryz.ntmps237
    go_wp2_with fail
    go_quiet (first
      | (go_at_call_of 160 (Value.string s); refine Calls.quiet_of_same (HS.out _))
      | (go_at_call_of 160 (Value.string t); refine Calls.quiet_of_same (HT.out _)))
    go_wp2_with fail
    refine (HC.out _).mono ?_
    rintro e w' ⟨rfl, rfl⟩
    go_wp2_with fail
    go_ret
    exact ⟨ret_int (by rw [HO.out]; rfl), bw_drew HB.out _⟩
  · go_enter Tryz.func237, Tryz.ntmps237
    go_wp2_with fail
    go_quiet (first
      | (go_at_call_of 160 (Value.string s); refine Calls.quiet_of_same (HS.out _))
      | (go_at_call_of 160 (Value.string t); refine Calls.quiet_of_same (HT.out _)))
    go_wp2_with fail
    go_ret
    exact ⟨ret_int (by rw [HO.out]; rfl), bw_drew HB.out _⟩
  · go_enter Tryz.func237, Tryz.ntmps237
    go_wp2_with fail
    go_quiet (first
      | (go_at_call_of 160 (Value.string s); refine Calls.quiet_of_same (HS.out _))
      | (go_at_call_of 160 (Value.string t); refine Calls.quiet_of_same (HT.out _)))
    go_wp2_with fail
    go_ret
    exact ⟨ret_int (by rw [HO.out]; rfl), bw_drew HB.out _⟩
  · go_enter Tryz.func237, Tryz.ntmps237
    go_wp2_with fail
    go_quiet (first
      | (go_at_call_of 160 (Value.string s); refine Calls.quiet_of_same (HS.out _))
      | (go_at_call_of 160 (Value.string t); refine Calls.quiet_of_same (HT.out _)))
    go_wp2_with fail
    refine (first_two (Lib.compareInt (s.size : Int) (t.size : Int)) (Lib.compareBytes s.data.toList t.data.toList) w.heap.size (w.heap.size + 1) (w.heap.size + 1 + 1) _ (p1_any s t _ _ _ ?_ ?_) (p2_any s t _ _ _ ?_ ?_) ?_ ?_).mono ?_
    · exact (three' w _ _ _ _ _ 0).1.trans rfl
    · exact (three' w _ _ _ _ _ 0).2.1.trans rfl
    · exact (three' w _ _ _ _ _ 0).1.trans rfl
    · exact (three' w _ _ _ _ _ 0).2.1.trans rfl
    · exact (three' w _ _ _ _ _ 0).2.2.trans rfl
    · exact (three' w _ _ _ _ _ 1).2.2.trans rfl
    rintro e w' ⟨rfl, rfl⟩
    go_wp2_with fail
    go_ret
    exact ⟨ret_int (by rw [HO.out]; rfl), (bw_drew HB.out nq).alloc (by simp [World.drewN]; omega) _⟩
end Ve
end Go.Proofs.YtpafkniapacfdaaGreatDoor


namespace Go.Proofs.YtpafkniapacfdaaGreatDoor
open Go.RowKit
namespace Ve
end Ve
end Go.Proofs.YtpafkniapacfdaaGreatDoor


namespace Go.Proofs.YtpafkniapacfdaaGreatDoor
open Go.RowKit
namespace Ve
end Ve
end Go.Proofs.YtpafkniapacfdaaGreatDoor


namespace Go.Proofs.YtpafkniapacfdaaGreatDoor
namespace Ve
theorem val_dec : ∀ (n : Nat) (p : List UInt8), p.length = n + 1 → p.all dig = true → (n = 0 ∨ p.headD 0 ≠ 48) → Lib.decDigits (valTo 0 p).toNat = p
  | 0, p, hl, hd, _ => by
    obtain ⟨c, rfl⟩ := List.length_eq_one_iff.1 hl
    have hc : dig c = true := by simpa using hd
    have hb := dig_bd hc
    have : valTo 0 [c] = (c.toNat : Int) - 48 := by simp [valTo]
    rw [this, Lib.decDigits_one (by omega)]
    congr 1
    apply UInt8.toNat_inj.1
    rw [show 48 + ((c.toNat : Int) - 48).toNat = c.toNat by omega]
    simp
  | n + 1, p, hl, hd, hz => by
    have hne : p ≠ [] := by intro h; subst h; simp at hl
    obtain ⟨q, c, rfl⟩ : ∃ q c, p = q ++ [c] := ⟨p.dropLast, p.getLast hne, (List.dropLast_concat_getLast hne).symm⟩
    rw [all_snoc, Bool.and_eq_true] at hd
    have hql : q.length = n + 1 := by simpa using hl
    have hh : q.headD 0 ≠ 48 := by
      rcases hz with h | h
      · cases h
      · cases q with
        | nil => simp at hql
        | cons x r => simpa using h
    have ih := val_dec n q hql hd.1 (Or.inr hh)
    have hb := dig_bd hd.2
    have hpos : 1 ≤ valTo 0 q := by
      cases q with
      | nil => simp at hql
      | cons x r =>
        have hx := dig_bd (c := x) (by have := hd.1; simp at this; exact this.1)
        have hx0 : x ≠ 48 := by simpa using hh
        have hx1 : x.toNat ≠ 48 := fun e => hx0 (UInt8.toNat_inj.1 (by rw [e]; rfl))
        have h2 := (valTo_bd r ((x.toNat : Int) - 48) (by have := hd.1; simp only [List.all_cons, Bool.and_eq_true] at this; exact this.2) (by omega)).1
        have h3 : valTo 0 (x :: r) = valTo ((x.toNat : Int) - 48) r := by simp [valTo]
        have h4 : (1 : Int) ≤ 10 ^ r.length := by
          have : (0 : Int) < 10 ^ r.length := Int.pow_pos (by omega)
          omega
        rw [h3]
        have h5 : (1 : Int) * 1 ≤ ((x.toNat : Int) - 48) * 10 ^ r.length := Int.mul_le_mul (by omega) h4 (by omega) (by omega)
        omega
    rw [valTo_snoc]
    have e1 : (10 * valTo 0 q + ((c.toNat : Int) - 48)).toNat / 10 = (valTo 0 q).toNat := by omega
    have e2 : (10 * valTo 0 q + ((c.toNat : Int) - 48)).toNat % 10 = c.toNat - 48 := by omega
    rw [dec_big (by omega), e1, e2, ih]
    congr 2
    apply UInt8.toNat_inj.1
    rw [show 48 + (c.toNat - 48) = c.toNat by omega]
    simp
theorem itoa_num (p : List UInt8) (h : (num p).2 = 0) : Lib.itoa (num p).1 = p ∧ 0 ≤ (num p).1 ∧ (num p).1 ≤ 999999 := by
  have hd : digs p = true := by
    cases e : digs p
    · unfold num at h; rw [e] at h; simp at h
    · rfl
  have hz : zero p = false := by
    cases e : zero p
    · rfl
    · unfold num at h; rw [e] at h; simp at h
  have hs := num_six p hd hz
  by_cases h6 : 6 < p.length
  · rw [if_pos h6] at hs; rw [hs] at h; cases h
  · rw [if_neg h6] at hs
    have hda : p.all dig = true := by unfold digs at hd; simp only [Bool.and_eq_true] at hd; exact hd.2
    have hpos : 0 < p.length := by unfold digs at hd; simp only [Bool.and_eq_true, decide_eq_true_eq] at hd; exact hd.1
    have hb := val_le p hda (by omega)
    rw [hs]
    refine ⟨?_, hb.1, by show valTo 0 p ≤ 999999; omega⟩
    show Lib.itoa (valTo 0 p) = p
    rw [itoa_dec _ hb.1]
    refine val_dec (p.length - 1) p (by omega) hda ?_
    by_cases h1 : p.length - 1 = 0
    · exact Or.inl h1
    · refine Or.inr fun e => ?_
      unfold zero at hz
      rw [e] at hz
      simp at hz
      omega
theorem joinTail_ne {c : UInt8} : ∀ X : List (List UInt8), X ≠ [] → Lib.joinTail [c] X = c :: Lib.join X [c]
  | [], h => absurd rfl h
  | x :: r, _ => by rw [Lib.join_cons]; simp [Lib.joinTail]
theorem join_cut (c : UInt8) (l : List UInt8) : Lib.join (cutAt c l) [c] = l := by
  induction l with
  | nil => simp [cutAt, Lib.join_one]
  | cons b l ih =>
    unfold cutAt
    by_cases h : b = c
    · rw [if_pos h, Lib.join_cons, joinTail_ne _ (cutAt_ne c l), ih, h]; rfl
    · rw [if_neg h]
      obtain ⟨x, r, e⟩ : ∃ x r, cutAt c l = x :: r := by
        cases e : cutAt c l with
        | nil => exact absurd e (cutAt_ne c l)
        | cons x r => exact ⟨x, r, rfl⟩
      rw [e] at ih ⊢
      rw [Lib.join_cons] at ih
      simp only [ahead, Lib.join_cons]
      rw [← ih]
      simp
theorem one_back {c : UInt8} {l : List UInt8} (h : (one c l).2.2 = true) : l = (one c l).1 ++ c :: (one c l).2.1 := by
  obtain ⟨j, hj, e, _, e1, e2⟩ := one_yes (c := c) (l := l) h
  rw [e1, e2, ← e, List.getElem_cons_drop, List.take_append_drop]
theorem one_none {c : UInt8} {l : List UInt8} (h : (one c l).2.2 = false) : (one c l).1 = l := by rw [one_no h]
theorem worst0 {b : Nat} {cs : List Nat} (h : worst b cs = 0) : 1 ∉ cs ∧ 2 ∉ cs := by
  unfold worst at h
  by_cases h1 : b = 1 ∨ 1 ∈ cs
  · rw [if_pos h1] at h; omega
  · rw [if_neg h1] at h
    by_cases h2 : b = 2 ∨ 2 ∈ cs
    · rw [if_pos h2] at h; omega
    · exact ⟨fun h => h1 (Or.inr h), fun h => h2 (Or.inr h)⟩
theorem ncode0 {ps : List (List UInt8)} (h : numsErr ps = 0) : ∀ p, p ∈ ps → (num p).2 = 0 := by
  intro p hp
  rw [numsErr_ncode] at h
  obtain ⟨h1, h2⟩ := worst0 h
  have hm : ncode p ∈ ps.map ncode := List.mem_map_of_mem hp
  rcases num_err p with e | e | e
  · exact e
  · exact absurd (show ncode p = 1 from e) (fun e => h1 (e ▸ hm))
  · exact absurd (show ncode p = 2 from e) (fun e => h2 (e ▸ hm))
theorem text_back (l : List UInt8) (h : verErr l = 0) : textOf (nAt l 0) (nAt l 1) (nAt l 2) (preOf l) = l := by
  unfold verErr at h
  by_cases hc : marked l = false ∨ (coreOf l).length ≠ 3
  · rw [if_pos hc] at h; omega
  rw [if_neg hc] at h
  have hm : marked l = true := by
    cases e : marked l
    · exact absurd (Or.inl e) hc
    · rfl
  have h3 : (coreOf l).length = 3 := by
    rcases Nat.decEq (coreOf l).length 3 with h | h
    · exact absurd (Or.inr h) hc
    · exact h
  have hl : l = 118 :: restOf l := by
    rw [rest_drop hm]
    cases l with
    | nil => cases hm
    | cons b r =>
      have : b = 118 := by simpa [marked] using hm
      rw [this]; rfl
  obtain ⟨hn, hp⟩ : numsErr (coreOf l) = 0 ∧ pre (preOf l) = 0 := by
    cases e : hasPre l
    · rw [e] at h
      exact ⟨h, by unfold preOf; rw [e]; rfl⟩
    · rw [e] at h
      have h' : worse (numsErr (coreOf l)) (pre (preOf l)) = 0 := h
      unfold worse at h'
      by_cases q : numsErr (coreOf l) = 1 ∨ pre (preOf l) = 0
      · rw [if_pos q] at h'
        refine ⟨h', ?_⟩
        rcases q with q | q
        · omega
        · exact q
      · rw [if_neg q] at h'; exact absurd (Or.inr h') q
  obtain ⟨p0, p1, p2, hco⟩ : ∃ p0 p1 p2, coreOf l = [p0, p1, p2] := by
    match e : coreOf l, h3 with
    | [a, b, c], _ => exact ⟨a, b, c, rfl⟩
  have hz := ncode0 hn
  rw [hco] at hz
  have n0 : nAt l 0 = (num p0).1 := by simp [nAt, numsOf, hco]
  have n1 : nAt l 1 = (num p1).1 := by simp [nAt, numsOf, hco]
  have n2 : nAt l 2 = (num p2).1 := by simp [nAt, numsOf, hco]
  obtain ⟨i0, l0, u0⟩ := itoa_num p0 (hz p0 (by simp))
  obtain ⟨i1, l1, u1⟩ := itoa_num p1 (hz p1 (by simp))
  obtain ⟨i2, l2, u2⟩ := itoa_num p2 (hz p2 (by simp))
  have hin : (inBB (num p0).1 && inBB (num p1).1 && inBB (num p2).1) = true := by simp [inBB, l0, u0, l1, u1, l2, u2]
  have hj : (one 45 (restOf l)).1 = core (num p0).1 (num p1).1 (num p2).1 := by
    have e := join_cut 46 (one 45 (restOf l)).1
    have hco' : cutAt 46 (one 45 (restOf l)).1 = [p0, p1, p2] := hco
    rw [hco'] at e
    rw [← e, Lib.join_cons]
    unfold core
    rw [i0, i1, i2]
    simp [Lib.joinTail]
  rw [n0, n1, n2, textOf_pre, hin, hp]
  show core3 _ _ _ ++ preText (preOf l) = l
  rw [core3_eq]
  conv => rhs; rw [hl]
  congr 1
  cases e : hasPre l
  · have e1 : (one 45 (restOf l)).2.2 = false := e
    have e2 := one_none e1
    have e3 : preOf l = [] := by unfold preOf; rw [e]; rfl
    rw [e3, ← hj, e2]
    simp [preText]
  · have e1 : (one 45 (restOf l)).2.2 = true := e
    have e2 := one_back e1
    have e3 : preOf l = cutAt 46 (one 45 (restOf l)).2.1 := by unfold preOf; rw [e]; rfl
    have e4 : preText (preOf l) = 45 :: (one 45 (restOf l)).2.1 := by
      rw [e3]
      have e5 := join_cut 46 (one 45 (restOf l)).2.1
      obtain ⟨x, r, ex⟩ : ∃ x r, cutAt 46 (one 45 (restOf l)).2.1 = x :: r := by
        cases ex : cutAt 46 (one 45 (restOf l)).2.1 with
        | nil => exact absurd ex (cutAt_ne _ _)
        | cons x r => exact ⟨x, r, rfl⟩
      rw [ex] at e5 ⊢
      simp only [preText]
      rw [e5]; rfl
    rw [e4, ← hj]
    exact e2.symm
end Ve
end Go.Proofs.YtpafkniapacfdaaGreatDoor
