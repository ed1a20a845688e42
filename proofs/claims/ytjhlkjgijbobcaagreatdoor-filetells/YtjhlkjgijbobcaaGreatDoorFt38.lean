/-
  FilTA FilTB RefP
-/
import Derived.Test.YtjhlkjgijbobcaaGreatDoorFt37
import Derived.Test.YtjhlkjgijbobcaaGreatDoorFt5
import Derived.Test.YtjhlkjgijbobcaaGreatDoorFt42
import Derived.Test.YtjhlkjgijbobcaaGreatDoorFt39
namespace Go.Proofs.YtjhlkjgijbobcaaGreatDoor
open Go.RowKit
namespace Ve
theorem coded_A (A : Nat → Addr) (m : Int) (c : Nat) (w : World) (S : Te w A m) (hc : c ≤ 10) :
    Calls Tryz.prog 18 #[errA A c, .int .i64 (c : Nat)] w fun e w' => e = .returned (.bool true) ∧ Below w.heap.size w w' := by
  cases c with
  | zero => exact Er.coded_nil w
  | succ j => exact Er.coded_sen A j w S.sen (by omega)
theorem code_at (A : Nat → Addr) (m : Int) (x : Value) (c : Nat) (o : Option Nat) (w : World) (S : Te w A m) (h : ErrAt w A x c o) (hc : c ≤ 10) :
    Calls Tryz.prog 23 #[x] w fun e w' => e = .returned (.tuple #[.int .i64 (c : Nat), .int .i64 (atOf o)]) ∧ Below w.heap.size w w' := by
  cases o with
  | none =>
    have h : x = errA A c := h
    subst h
    cases c with
    | zero => exact (Er.code_nil w).mono fun e w' h => ⟨h.1, by rw [h.2]; exact Below.refl _ _⟩
    | succ j => exact Er.code_sen A j w S.sen (by omega)
  | some i =>
    obtain ⟨h0, b, rfl, h1, h2⟩ := h
    obtain ⟨j, rfl⟩ : ∃ j, c = j + 1 := ⟨c - 1, by omega⟩
    rw [errA_if A h0] at h2
    exact Er.code_fault b 0 i A j w S.sen (by omega) (lt_of_cell h1) h1 h2
set_option maxHeartbeats 1000000 in
theorem faulted_any (A : Nat → Addr) (m : Int) (x : Value) (r : Nat × Option Nat) (w : World) (S : Te w A m) (h : ErrAt w A x r.1 r.2) (hc : r.1 ≤ 10) :
    Calls Tryz.prog 8 #[x, faultV r] w fun e w' => e = .returned (.bool true) ∧ Below w.heap.size w w' := by
  obtain ⟨c, o⟩ := r
  have HB0 := hid ((Below.refl w.heap.size w).alloc (Nat.le_refl _) (.cells #[.int .i64 (c : Nat), .int .i64 (atOf o)] 35))
  have HC := hid (code_at A m x c o _ (S.below HB0.out) (h.below HB0.out) hc)
  unfold faultV
  simp only
  generalize atOf o = y at *
  generalize (c : Int) = z at *
  have e1 : (z == z) = true := beq_self_eq_true z
  have e2 : (y == y) = true := beq_self_eq_true y
  clear S h hc
  go_enter Tryz.func8, Tryz.ntmps8
  go_wp2_with fail
  refine HC.out.mono ?_
  rintro e w1 ⟨rfl, hb⟩
  obtain ⟨⟨r0, r1⟩, rz⟩ := res2 (hb.mono (by simp))
  have HB := hid (HB0.out.trans (hb.mono HB0.out.size))
  clear hb
  cases hz : (z == 0)
  all_goals
    go_wp2_with fail
    go_ret
    exact ⟨rfl, HB.out⟩
theorem modErr_err (p v : List UInt8) : modErr p v = 0 ∨ modErr p v = 1 ∨ modErr p v = 2 ∨ modErr p v = 4 := by
  unfold modErr
  by_cases h0 : pathErr p = 0
  · rw [if_pos h0]
    by_cases h1 : verErr v = 0
    · rw [if_pos h1]
      cases fitsB (nAt v 0) (pathN p)
      · right; right; right; rfl
      · left; rfl
    · rw [if_neg h1]
      rcases verErr_err v with h | h | h <;> omega
  · rw [if_neg h0]; exact pathErr_err p
theorem mErr_le (m : Bm) : mErr m ≤ 10 := by
  have := modErr_err m.1.data.toList m.2.data.toList
  unfold mErr; omega
theorem reqE_le (own : ByteArray) (L : List Bm) (i : Nat) : reqE own L i ≤ 10 := by
  unfold reqE
  split
  · omega
  · rename_i m _
    have := mErr_le m
    unfold reqW
    repeat' split
    all_goals omega
theorem exE_le (L : List Bm) (i : Nat) : exE L i ≤ 10 := by
  unfold exE
  split
  · omega
  · rename_i m _
    have := mErr_le m
    unfold exW
    repeat' split
    all_goals omega
theorem fileF_le (p : ByteArray) (R X : List Bm) : (fileF p R X).1 ≤ 10 := by
  have h1 := pathErr_err p.data.toList
  unfold fileF
  repeat' split
  all_goals simp only
  all_goals first
    | omega
    | exact reqE_le _ _ _
    | exact exE_le _ _
end Ve
end Go.Proofs.YtjhlkjgijbobcaaGreatDoor
namespace Go.Proofs.YtjhlkjgijbobcaaGreatDoor
open Go.RowKit
namespace Ve
def fitS (s : ByteArray) : Bool := decide (s.size ≤ 600) || decide (s.size = 8001)
def fitT (p : ByteArray) (R X : List Bm) (s : ByteArray) (m : Bm) : Bool := decide (p.size ≤ 90) && (okL R && okL X) && fitS s && decide (m.1.size ≤ 90) && decide (m.2.size ≤ 60)
theorem fitS_no {s : ByteArray} (h : fitS s = false) : decide ((600 : Int) < (s.size : Int)) = true ∧ ((s.size : Int) != 8001) = true := by
  unfold fitS at h
  rw [Bool.or_eq_false_iff] at h
  have h1 := of_decide_eq_false h.1
  have h2 := of_decide_eq_false h.2
  exact ⟨decide_eq_true (by omega), bne_iff_ne.2 (by omega)⟩
theorem fitS_yes {s : ByteArray} (h : fitS s = true) : decide ((600 : Int) < (s.size : Int)) = false ∨ (decide ((600 : Int) < (s.size : Int)) = true ∧ ((s.size : Int) != 8001) = false) := by
  unfold fitS at h
  rw [Bool.or_eq_true] at h
  rcases h with h | h
  · left; exact decide_eq_false (by have := of_decide_eq_true h; omega)
  · right
    have := of_decide_eq_true h
    exact ⟨decide_eq_true (by omega), by rw [bne, beq_iff_eq.2 (show (s.size : Int) = 8001 by omega)]; rfl⟩
set_option maxHeartbeats 8000000 in
set_option maxRecDepth 100000 in
theorem tells_long (p : ByteArray) (R X : List Bm) (v u : Value) (s : ByteArray) (m : Bm) (A : Nat → Addr) (k0 : Int) (w : World) (S : Te w A k0) (hr : MsAt w v R) (hx : MsAt w u X) (h : fitT p R X s m = false) :
    Calls Tryz.prog 3 #[.agg #[.string p, v, u], .string s, .agg #[.string m.1, .string m.2]] w fun e w' => e = .returned (.bool true) ∧ Below w.heap.size w w' := by
  obtain ⟨vp, vc, ev, _⟩ := id hr
  obtain ⟨up, uc, eu, _⟩ := id hx
  subst ev; subst eu
  have HB1 := hid (((Below.refl w.heap.size w).alloc (Nat.le_refl _) (.cells #[.string p, .slice vp R.length vc, .slice up X.length uc] 24)).alloc (by simp) (.cells #[.string m.1, .string m.2] 26))
  have HFD := hid (filed_any A k0 _ (S.below HB1.out))
  have HRR := hid hr
  have HXX := hid hx
  have HFT := hid h
  clear S hr hx h
  have hw0 : IntKind.i64.wrap 0 = 0 := by decide
  have hw1 : IntKind.i64.wrap 1 = 1 := by decide
  have hw2 : IntKind.i64.wrap 2 = 2 := by decide
  by_cases h1 : p.size ≤ 90
  · have q1 : decide ((90 : Int) < (p.size : Int)) = false := decide_eq_false (by omega)
    cases hR : okL R
    · cases hX : okL X
      all_goals
        go_enter Tryz.func3, Tryz.ntmps3
        go_wp2_with fail
        refine HFD.out.mono ?_
        rintro e w1 ⟨rfl, hb⟩
        have HBa := hid (show Below (w.heap.size + 1 + 1) _ w1 from hb.mono (by simp))
        obtain ⟨⟨f0, f1, f2⟩, ⟨m0, m1⟩, _, wz⟩ := bx32 HBa.out
        have HBw := hid (HB1.out.trans (hb.mono HB1.out.size))
        have HL1 := hid (fun n => long_any R _ (w1.drewN n) (HRR.out.below (below_drawn_of HBw.out n)))
        have HL2 := hid (fun n => long_any X _ (w1.drewN n) (HXX.out.below (below_drawn_of HBw.out n)))
        rw [hR] at HL1
        rw [hX] at HL2
        clear hb
        go_wp2_with fail
        go_quiet (first
          | (go_at_call_of 6 (Value.slice vp R.length vc); refine (HL1.out _).mono fun e w' h => ⟨h.1, _, h.2⟩)
          | (go_at_call_of 6 (Value.slice up X.length uc); refine (HL2.out _).mono fun e w' h => ⟨h.1, _, h.2⟩))
        go_wp2_with fail
        go_ret
        exact ⟨rfl, below_drawn_of HBw.out _⟩
    · cases hX : okL X
      · go_enter Tryz.func3, Tryz.ntmps3
        go_wp2_with fail
        refine HFD.out.mono ?_
        rintro e w1 ⟨rfl, hb⟩
        have HBa := hid (show Below (w.heap.size + 1 + 1) _ w1 from hb.mono (by simp))
        obtain ⟨⟨f0, f1, f2⟩, ⟨m0, m1⟩, _, wz⟩ := bx32 HBa.out
        have HBw := hid (HB1.out.trans (hb.mono HB1.out.size))
        have HL1 := hid (fun n => long_any R _ (w1.drewN n) (HRR.out.below (below_drawn_of HBw.out n)))
        have HL2 := hid (fun n => long_any X _ (w1.drewN n) (HXX.out.below (below_drawn_of HBw.out n)))
        rw [hR] at HL1
        rw [hX] at HL2
        clear hb
        go_wp2_with fail
        go_quiet (first
          | (go_at_call_of 6 (Value.slice vp R.length vc); refine (HL1.out _).mono fun e w' h => ⟨h.1, _, h.2⟩)
          | (go_at_call_of 6 (Value.slice up X.length uc); refine (HL2.out _).mono fun e w' h => ⟨h.1, _, h.2⟩))
        go_wp2_with fail
        go_ret
        exact ⟨rfl, below_drawn_of HBw.out _⟩
      · cases hS : fitS s
        · obtain ⟨s1, s2⟩ := fitS_no hS
          go_enter Tryz.func3, Tryz.ntmps3
          go_wp2_with fail
          refine HFD.out.mono ?_
          rintro e w1 ⟨rfl, hb⟩
          have HBa := hid (show Below (w.heap.size + 1 + 1) _ w1 from hb.mono (by simp))
          obtain ⟨⟨f0, f1, f2⟩, ⟨m0, m1⟩, _, wz⟩ := bx32 HBa.out
          have HBw := hid (HB1.out.trans (hb.mono HB1.out.size))
          have HL1 := hid (fun n => long_any R _ (w1.drewN n) (HRR.out.below (below_drawn_of HBw.out n)))
          have HL2 := hid (fun n => long_any X _ (w1.drewN n) (HXX.out.below (below_drawn_of HBw.out n)))
          rw [hR] at HL1
          rw [hX] at HL2
          clear hb
          go_wp2_with fail
          go_quiet (first
            | (go_at_call_of 6 (Value.slice vp R.length vc); refine (HL1.out _).mono fun e w' h => ⟨h.1, _, h.2⟩)
            | (go_at_call_of 6 (Value.slice up X.length uc); refine (HL2.out _).mono fun e w' h => ⟨h.1, _, h.2⟩))
          go_wp2_with fail
          go_ret
          exact ⟨rfl, below_drawn_of HBw.out _⟩
        · by_cases h3 : m.1.size ≤ 90
          · have q3 : decide ((90 : Int) < (m.1.size : Int)) = false := decide_eq_false (by omega)
            have q4 : decide ((60 : Int) < (m.2.size : Int)) = true := decide_eq_true (by
              by_cases h4 : m.2.size ≤ 60
              · have := HFT.out
                unfold fitT at this
                rw [decide_eq_true h1, hR, hX, hS, decide_eq_true h3, decide_eq_true h4] at this
                cases this
              · omega)
            rcases fitS_yes hS with s1 | ⟨s1, s2⟩
            all_goals
              go_enter Tryz.func3, Tryz.ntmps3
              go_wp2_with fail
              refine HFD.out.mono ?_
              rintro e w1 ⟨rfl, hb⟩
              have HBa := hid (show Below (w.heap.size + 1 + 1) _ w1 from hb.mono (by simp))
              obtain ⟨⟨f0, f1, f2⟩, ⟨m0, m1⟩, _, wz⟩ := bx32 HBa.out
              have HBw := hid (HB1.out.trans (hb.mono HB1.out.size))
              have HL1 := hid (fun n => long_any R _ (w1.drewN n) (HRR.out.below (below_drawn_of HBw.out n)))
              have HL2 := hid (fun n => long_any X _ (w1.drewN n) (HXX.out.below (below_drawn_of HBw.out n)))
              rw [hR] at HL1
              rw [hX] at HL2
              clear hb
              go_wp2_with fail
              go_quiet (first
                | (go_at_call_of 6 (Value.slice vp R.length vc); refine (HL1.out _).mono fun e w' h => ⟨h.1, _, h.2⟩)
                | (go_at_call_of 6 (Value.slice up X.length uc); refine (HL2.out _).mono fun e w' h => ⟨h.1, _, h.2⟩))
              go_wp2_with fail
              go_ret
              exact ⟨rfl, below_drawn_of HBw.out _⟩
          · have q3 : decide ((90 : Int) < (m.1.size : Int)) = true := decide_eq_true (by omega)
            rcases fitS_yes hS with s1 | ⟨s1, s2⟩
            all_goals
              go_enter Tryz.func3, Tryz.ntmps3
              go_wp2_with fail
              refine HFD.out.mono ?_
              rintro e w1 ⟨rfl, hb⟩
              have HBa := hid (show Below (w.heap.size + 1 + 1) _ w1 from hb.mono (by simp))
              obtain ⟨⟨f0, f1, f2⟩, ⟨m0, m1⟩, _, wz⟩ := bx32 HBa.out
              have HBw := hid (HB1.out.trans (hb.mono HB1.out.size))
              have HL1 := hid (fun n => long_any R _ (w1.drewN n) (HRR.out.below (below_drawn_of HBw.out n)))
              have HL2 := hid (fun n => long_any X _ (w1.drewN n) (HXX.out.below (below_drawn_of HBw.out n)))
              rw [hR] at HL1
              rw [hX] at HL2
              clear hb
              go_wp2_with fail
              go_quiet (first
                | (go_at_call_of 6 (Value.slice vp R.length vc); refine (HL1.out _).mono fun e w' h => ⟨h.1, _, h.2⟩)
                | (go_at_call_of 6 (Value.slice up X.length uc); refine (HL2.out _).mono fun e w' h => ⟨h.1, _, h.2⟩))
              go_wp2_with fail
              go_ret
              exact ⟨rfl, below_drawn_of HBw.out _⟩
  · have q1 : decide ((90 : Int) < (p.size : Int)) = true := decide_eq_true (by omega)
    go_enter Tryz.func3, Tryz.ntmps3
    go_wp2_with fail
    refine HFD.out.mono ?_
    rintro e w1 ⟨rfl, hb⟩
    have HBa := hid (show Below (w.heap.size + 1 + 1) _ w1 from hb.mono (by simp))
    obtain ⟨⟨f0, f1, f2⟩, ⟨m0, m1⟩, _, wz⟩ := bx32 HBa.out
    have HBw := hid (HB1.out.trans (hb.mono HB1.out.size))
    have HL1 := hid (fun n => long_any R _ (w1.drewN n) (HRR.out.below (below_drawn_of HBw.out n)))
    have HL2 := hid (fun n => long_any X _ (w1.drewN n) (HXX.out.below (below_drawn_of HBw.out n)))
    clear hb
    go_wp2_with fail
    go_quiet (first
      | (go_at_call_of 6 (Value.slice vp R.length vc); refine (HL1.out _).mono fun e w' h => ⟨h.1, _, h.2⟩)
      | (go_at_call_of 6 (Value.slice up X.length uc); refine (HL2.out _).mono fun e w' h => ⟨h.1, _, h.2⟩))
    go_wp2_with fail
    go_ret
    exact ⟨rfl, below_drawn_of HBw.out _⟩
end Ve
end Go.Proofs.YtjhlkjgijbobcaaGreatDoor
namespace Go.Proofs.YtjhlkjgijbobcaaGreatDoor
open Go.RowKit
namespace Ve
set_option maxHeartbeats 1000000 in
set_option maxRecDepth 100000 in
theorem rtext_bad (p : ByteArray) (R X : List Bm) (v u : Value) (w : World) (hp : p.size < 999999) (F : Fl w R X v u) (h : (fileF p R X).1 ≠ 0) :
    Calls Tryz.prog 12 #[.agg #[.string p, v, u]] w fun e w' => e = .returned (.string ⟨#[]⟩) ∧ Below w.heap.size w w' := by
  obtain ⟨⟨vp, vc, rfl⟩, up, uc, rfl⟩ := F.slices
  have HB0 := hid ((Below.refl w.heap.size w).alloc (Nat.le_refl _) (.cells #[.string p, .slice vp R.length vc, .slice up X.length uc] 24))
  have HFF := hid (ffault_any p R X _ _ _ hp (F.below HB0.out))
  have hpos : (0 : Int) < ((fileF p R X).1 : Int) := by omega
  unfold faultV at HFF
  generalize (fileF p R X).1 = z at *
  generalize atOf (fileF p R X).2 = y at *
  have hfd := fld0 z y
  clear F h
  go_enter Tryz.func12, Tryz.ntmps12
  go_wp2_with fail
  refine HFF.out.mono ?_
  rintro e w1 ⟨rfl, hb⟩
  have HB := hid (HB0.out.trans (hb.mono HB0.out.size))
  clear hb
  go_wp2_with fail
  go_ret
  exact ⟨rfl, HB.out⟩
theorem tx_head (p : ByteArray) : ((⟨#[109, 111, 100, 117, 108, 101, 32]⟩ : ByteArray) ++ p ++ ⟨#[10]⟩).data.toList = wModule ++ 32 :: p.data.toList ++ [10] := by simp [wModule]
theorem tx_len (p : ByteArray) : (wModule ++ 32 :: p.data.toList ++ [10]).length = p.size + 8 := by
  rw [List.length_append, List.length_append, List.length_cons, len_eq]
  show 6 + (p.size + 1) + 1 = p.size + 8
  omega
theorem tx_req (T p v : ByteArray) : (T ++ ⟨#[114, 101, 113, 117, 105, 114, 101, 32]⟩ ++ p ++ ⟨#[32]⟩ ++ v ++ ⟨#[10]⟩).data.toList = T.data.toList ++ (lineOf wRequire (p, v) ++ [10]) := by simp [lineOf, wRequire]
theorem tx_ex (T p v : ByteArray) : (T ++ ⟨#[101, 120, 99, 108, 117, 100, 101, 32]⟩ ++ p ++ ⟨#[32]⟩ ++ v ++ ⟨#[10]⟩).data.toList = T.data.toList ++ (lineOf wExclude (p, v) ++ [10]) := by simp [lineOf, wExclude]
theorem tx_next {L : List Bm} {k : Nat} (h : k < L.length) (word : List UInt8) : ended ((L.take (k + 1)).map (lineOf word)) = ended ((L.take k).map (lineOf word)) ++ (lineOf word L[k] ++ [10]) := by rw [take_next h, ended_snoc]
theorem bt_eq {T : ByteArray} {l : List UInt8} (h : T.data.toList = l) : T = bt l := by rw [← h, bt_of]
set_option maxHeartbeats 4000000 in
set_option maxRecDepth 100000 in
theorem rtext_ok (p : ByteArray) (R X : List Bm) (v u : Value) (w : World) (hp : p.size < 999999) (F : Fl w R X v u) (h : (fileF p R X).1 = 0) :
    Calls Tryz.prog 12 #[.agg #[.string p, v, u]] w fun e w' => e = .returned (.string (bt (fText (p, R, X)))) ∧ Below w.heap.size w w' := by
  obtain ⟨⟨vp, vc, rfl⟩, up, uc, rfl⟩ := F.slices
  have HB0 := hid ((Below.refl w.heap.size w).alloc (Nat.le_refl _) (.cells #[.string p, .slice vp R.length vc, .slice up X.length uc] 24))
  have HFF := hid (ffault_any p R X _ _ _ hp (F.below HB0.out))
  unfold faultV at HFF
  rw [h] at HFF
  generalize atOf (fileF p R X).2 = y at *
  have HTX := hid (fText_is p R X)
  have HFL := hid (F.below HB0.out)
  have hRn := F.rn
  have hXn := F.xn
  have hfd := fld0 0 y
  clear F h
  go_enter Tryz.func12, Tryz.ntmps12
  go_wp2_with fail
  refine HFF.out.mono ?_
  rintro e w1 ⟨rfl, hb⟩
  obtain ⟨⟨r0, r1, r2⟩, rz⟩ := res3 (hb.mono (by simp))
  have HB := hid (HB0.out.trans (hb.mono HB0.out.size))
  have HF1 := hid (HFL.out.below hb)
  have HH := hid (tx_head p)
  have HR0 := hid r0
  have HR1 := hid r1
  have HR2 := hid r2
  clear hb
  go_wp2_with fail
  clear r0 r1 r2
  go_loopw [3, 4] (fun s i wr => ∃ (k : Nat) (T : ByteArray), Hid (Below w1.heap.size w1 wr) ∧ k ≤ R.length ∧ i = .int .i64 k ∧ s = .string T ∧ Hid (T.data.toList = wModule ++ 32 :: p.data.toList ++ [10] ++ ended ((R.take k).map (lineOf wRequire)))) (fun _ i _ => R.length - (intOf i).toNat)
  case atStart => exact ⟨0, _, hid (Below.refl _ _), Nat.zero_le _, rfl, rfl, hid (by rw [HH.out]; simp [ended])⟩
  case round =>
    obtain ⟨k, T, HBr, hk, rfl, rfl, HT⟩ := hrel
    have q0 := cell_below HBr.out HR0.out
    have q1 := cell_below HBr.out HR1.out
    have q2 := cell_below HBr.out HR2.out
    by_cases hlt : k < R.length
    · obtain ⟨b, o, rfl, hc⟩ := HF1.out.r.at (by omega)
      have hx := cell_below HBr.out (hc k hlt).1
      have hy := cell_below HBr.out (hc k hlt).2
      have hkI : (k : Int) < (R.length : Int) := by omega
      have HN := hid (tx_next hlt wRequire)
      have HS1 := hid (HF1.out.rs R[k] (List.getElem_mem hlt))
      have HLT := hid hlt
      generalize R[k] = x at *
      obtain ⟨p1, v1⟩ := x
      have HQ := hid (tx_req T p1 v1)
      have hTs : T.size ≤ 4000000000000 := by
        have h1 := congrArg List.length HT.out
        have h2 := ended_bd HF1.out.rs (word := wRequire) (by decide) k
        have h5 := tx_len p
        rw [List.length_append, len_eq] at h1
        omega
      have hps : p1.size < 999999 := HS1.out.1
      have hvs : v1.size < 999999 := HS1.out.2
      clear hlt hc
      go_wp2_with fail
      go_quiet (fail)
      go_wp2_with fail
      go_roundw
      case rel => exact ⟨k + 1, _, hid (below_drawn_of HBr.out _), by have := HLT.out; omega, by go_num, rfl, hid (by rw [HQ.out, HT.out, HN.out, List.append_assoc])⟩
      case measure => have := HLT.out; simp [intOf]; omega
    · have HT1 := hid (show T.data.toList = wModule ++ 32 :: p.data.toList ++ [10] ++ ended (R.map (lineOf wRequire)) by rw [HT.out, List.take_of_length_le (by omega)])
      go_wp2_with fail
      go_loopw [3, 5] (fun s i wr => ∃ (k : Nat) (T : ByteArray), Hid (Below w1.heap.size w1 wr) ∧ k ≤ X.length ∧ i = .int .i64 k ∧ s = .string T ∧ Hid (T.data.toList = wModule ++ 32 :: p.data.toList ++ [10] ++ ended (R.map (lineOf wRequire)) ++ ended ((X.take k).map (lineOf wExclude)))) (fun _ i _ => X.length - (intOf i).toNat)
      case atStart => exact ⟨0, _, HBr, Nat.zero_le _, rfl, rfl, hid (by rw [HT1.out]; simp [ended])⟩
      case round =>
        obtain ⟨k2, T2, HBq, hk2, rfl, rfl, HT2⟩ := hrel
        clear q0 q1 q2
        have q0 := cell_below HBq.out HR0.out
        have q1 := cell_below HBq.out HR1.out
        have q2 := cell_below HBq.out HR2.out
        by_cases hlt2 : k2 < X.length
        · obtain ⟨b, o, rfl, hc⟩ := HF1.out.x.at (by omega)
          have hx := cell_below HBq.out (hc k2 hlt2).1
          have hy := cell_below HBq.out (hc k2 hlt2).2
          have hkI : (k2 : Int) < (X.length : Int) := by omega
          have HN := hid (tx_next hlt2 wExclude)
          have HS1 := hid (HF1.out.xs X[k2] (List.getElem_mem hlt2))
          have HLT := hid hlt2
          generalize X[k2] = x at *
          obtain ⟨p1, v1⟩ := x
          have HQ := hid (tx_ex T2 p1 v1)
          have hTs : T2.size ≤ 9000000000000 := by
            have h1 := congrArg List.length HT2.out
            have h2 := ended_bd HF1.out.xs (word := wExclude) (by decide) k2
            have h3 := ended_bd HF1.out.rs (word := wRequire) (by decide) R.length
            rw [List.take_of_length_le (Nat.le_refl _)] at h3
            have h5 := tx_len p
            rw [List.length_append, List.length_append, len_eq] at h1
            omega
          have hps : p1.size < 999999 := HS1.out.1
          have hvs : v1.size < 999999 := HS1.out.2
          clear hlt2 hc
          go_wp2_with fail
          go_quiet (fail)
          go_wp2_with fail
          go_roundw
          case rel => exact ⟨k2 + 1, _, hid (below_drawn_of HBq.out _), by have := HLT.out; omega, by go_num, rfl, hid (by rw [HQ.out, HT2.out, HN.out, List.append_assoc])⟩
          case measure => have := HLT.out; simp [intOf]; omega
        · have HT3 := hid (show T2 = bt (fText (p, R, X)) from bt_eq (by rw [HT2.out, HTX.out, List.take_of_length_le (by omega)]))
          go_wp2_with fail
          go_ret
          exact ⟨by rw [← HT3.out]; rfl, HB.out.trans (HBq.out.mono HB.out.size)⟩
end Ve
end Go.Proofs.YtjhlkjgijbobcaaGreatDoor
