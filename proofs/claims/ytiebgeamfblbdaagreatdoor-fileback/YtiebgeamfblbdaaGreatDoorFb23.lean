/-
  FileA FileR
-/
import Derived.Test.YtiebgeamfblbdaaGreatDoorFb21
namespace Go.Proofs.YtiebgeamfblbdaaGreatDoor
open Go.RowKit
namespace Ve
theorem below_drawn_of {B : Nat} {a w : World} (h : Below B a w) (q : Nat) : Below B a (w.drewN q) := ⟨h.os, h.tape, h.output, h.size, h.block⟩
def ErrAt (W : World) (A : Nat → Addr) (v : Value) (c : Nat) (o : Option Nat) : Prop := match o with
  | none => v = errA A c
  | some i => c ≠ 0 ∧ ∃ b, v = .iface 81 (.pointer (some ⟨b, 0, none⟩)) ∧ W.cell? ⟨b, 0, none⟩ = some (.int .i64 i) ∧ W.cell? ⟨b, 1, none⟩ = some (errA A c)
theorem ErrAt.below {W W' : World} {A : Nat → Addr} {v : Value} {c : Nat} {o : Option Nat} (h : ErrAt W A v c o) (hb : Below W.heap.size W W') : ErrAt W' A v c o := by
  cases o with
  | none => exact h
  | some i =>
    obtain ⟨h0, b, h1, h2, h3⟩ := h
    exact ⟨h0, b, h1, cell_below hb h2, cell_below hb h3⟩
def codeE (E : Nat → Nat) (n : Nat) : Nat := match fstE E n with
  | none => 0
  | some i => E i
theorem codeE_none {E : Nat → Nat} {n : Nat} (h : fstE E n = none) : codeE E n = 0 := by unfold codeE; rw [h]
theorem codeE_some {E : Nat → Nat} {n i : Nat} (h : fstE E n = some i) : codeE E n = E i := by unfold codeE; rw [h]
theorem errA_if (A : Nat → Addr) {c : Nat} (h : c ≠ 0) : errA A c = .iface 169 (.pointer (some (A (c - 1)))) := by unfold errA; rw [if_neg h]
theorem fault_at {w1 : World} {A : Nat → Addr} {i c : Nat} (hc : c ≠ 0) (T : TypeId) : ErrAt (w1.alloc (.cells #[.int .i64 i, .iface 169 (.pointer (some (A (c - 1))))] T)) A (.iface 81 (.pointer (some ⟨w1.heap.size, 0, none⟩))) c (some i) :=
  ⟨hc, w1.heap.size, rfl, by simp, by rw [errA_if A hc]; simp⟩
set_option maxHeartbeats 1000000 in
theorem first_mods (K : Nat) (cb : Array Value) (E : Nat → Nat) (L : List Bm) (b o c : Nat) (A : Nat → Addr) (w : World) (eg : ∀ args w, (callFunc K args).run Tryz.prog w = .ok (.enter K args) w) (hL : L.length ≤ 1000000)
    (hc : ∀ j (h : j < L.length), w.cell? ⟨b, o + j * 2, none⟩ = some (.string L[j].1) ∧ w.cell? ⟨b, o + j * 2 + 1, none⟩ = some (.string L[j].2))
    (hK : ∀ i (h : i < L.length) W, Below w.heap.size w W → Calls Tryz.prog K (#[.int .i64 (i : Int), .agg #[.string L[i].1, .string L[i].2]] ++ cb) W fun e w' => e = .returned (errA A (E i)) ∧ Below W.heap.size W w') :
    Calls Tryz.prog 30 #[.slice (some ⟨b, o, none⟩) L.length c, .func (.func K) #[] cb] w fun e w' => ∃ v, e = .returned v ∧ ErrAt w' A v (codeE E L.length) (fstE E L.length) ∧ Below w.heap.size w w' := by
  have HK := hid hK
  have HC := hid hc
  clear hK hc
  go_enter Tryz.func30, Tryz.ntmps30
  go_wp2_with fail
  go_loopw [10] (fun i wr => ∃ k : Nat, k ≤ L.length ∧ i = .int .i64 k ∧ Hid (∀ j, j < k → E j = 0) ∧ Hid (Below w.heap.size w wr)) (fun i _ => L.length - (intOf i).toNat)
  case atStart => exact ⟨0, Nat.zero_le _, rfl, hid (fun j hj => absurd hj (by omega)), hid (Below.refl _ _)⟩
  case round =>
    obtain ⟨k, hk, rfl, HE, HB⟩ := hrel
    by_cases hlt : k < L.length
    · have hx := cell_below HB.out (HC.out k hlt).1
      have hy := cell_below HB.out (HC.out k hlt).2
      have HBa := hid (HB.out.alloc HB.out.size (.cells #[.string L[k].1, .string L[k].2] 26))
      have HP := hid (HK.out k hlt _ HBa.out)
      by_cases h0 : E k = 0
      · rw [h0, errA0] at HP
        go_wp2_with fail
        refine HP.out.mono ?_
        rintro e w1 ⟨rfl, hb1⟩
        have HB1 := hid (HBa.out.trans (hb1.mono HBa.out.size))
        clear hb1
        go_wp2_with fail
        go_roundw
        case rel => exact ⟨k + 1, by omega, by go_num, hid (fun j hj => by
          rcases Nat.lt_or_ge j k with h | h
          · exact HE.out j h
          · have : j = k := by omega
            rw [this]; exact h0), HB1⟩
        case measure => simp [intOf]; omega
      · rw [errA_if A h0] at HP
        have HF := hid (fstE_some HE.out h0 hlt)
        have H0 := hid h0
        clear h0
        go_wp2_with fail
        refine HP.out.mono ?_
        rintro e w1 ⟨rfl, hb1⟩
        have HB1 := hid (HBa.out.trans (hb1.mono HBa.out.size))
        clear hb1
        go_wp2_with fail
        go_ret
        refine ⟨_, rfl, ?_, HB1.out.alloc HB1.out.size _⟩
        rw [codeE_some HF.out, HF.out]
        exact fault_at H0.out _
    · have HF := hid (fstE_none (E := E) (n := L.length) (fun j hj => HE.out j (by omega)))
      go_wp2_with fail
      go_ret
      refine ⟨_, rfl, ?_, HB.out⟩
      rw [codeE_none HF.out, HF.out]
      rfl
theorem first_none (K : Nat) (cb : Array Value) (E : Nat → Nat) (a : Option Addr) (c : Nat) (A : Nat → Addr) (w : World) :
    Calls Tryz.prog 30 #[.slice a 0 c, .func (.func K) #[] cb] w fun e w' => ∃ v, e = .returned v ∧ ErrAt w' A v (codeE E 0) (fstE E 0) ∧ Below w.heap.size w w' := by
  go_enter Tryz.func30, Tryz.ntmps30
  go_wp2_with fail
  go_loopw [10] (fun i wr => i = .int .i64 0 ∧ wr = w) (fun i _ => 0)
  case atStart => exact ⟨rfl, rfl⟩
  case round =>
    obtain ⟨rfl, rfl⟩ := hrel
    go_wp2_with fail
    go_ret
    exact ⟨_, rfl, rfl, Below.refl _ _⟩
theorem first_any (K : Nat) (cb : Array Value) (E : Nat → Nat) (L : List Bm) (v : Value) (A : Nat → Addr) (w : World) (eg : ∀ args w, (callFunc K args).run Tryz.prog w = .ok (.enter K args) w) (hL : L.length ≤ 1000000) (hv : MsAt w v L)
    (hK : ∀ i (h : i < L.length) W, Below w.heap.size w W → Calls Tryz.prog K (#[.int .i64 (i : Int), .agg #[.string L[i].1, .string L[i].2]] ++ cb) W fun e w' => e = .returned (errA A (E i)) ∧ Below W.heap.size W w') :
    Calls Tryz.prog 30 #[v, .func (.func K) #[] cb] w fun e w' => ∃ u, e = .returned u ∧ ErrAt w' A u (codeE E L.length) (fstE E L.length) ∧ Below w.heap.size w w' := by
  obtain ⟨a, c, rfl, _, h⟩ := hv
  cases L with
  | nil => exact first_none K cb E a c A w
  | cons x r =>
    obtain ⟨b, o, rfl, h2⟩ := h (by simp)
    exact first_mods K cb E (x :: r) b o c A w eg hL h2 hK
end Ve
end Go.Proofs.YtiebgeamfblbdaaGreatDoor
namespace Go.Proofs.YtiebgeamfblbdaaGreatDoor
open Go.RowKit
namespace Ve
theorem cbt : ∀ (a b c : List UInt8), Lib.compareBytes a b < 0 → Lib.compareBytes b c < 0 → Lib.compareBytes a c < 0 := by
  intro a
  induction a with
  | nil =>
    intro b c h1 h2
    cases c with
    | nil => cases b <;> simp [Lib.compareBytes] at h2
    | cons z c => simp [Lib.compareBytes]
  | cons x a ih =>
    intro b c h1 h2
    cases b with
    | nil => simp [Lib.compareBytes] at h1
    | cons y b =>
      cases c with
      | nil => simp [Lib.compareBytes] at h2
      | cons z c =>
        simp only [Lib.compareBytes] at h1 h2 ⊢
        by_cases e1 : x < y
        · by_cases e2 : y < z
          · rw [if_pos (UInt8.lt_trans e1 e2)]; omega
          · rw [if_neg e2] at h2
            by_cases e3 : z < y
            · rw [if_pos e3] at h2; omega
            · have : y = z := UInt8.le_antisymm (UInt8.not_lt.1 e3) (UInt8.not_lt.1 e2)
              subst this
              rw [if_pos e1]; omega
        · rw [if_neg e1] at h1
          by_cases e2 : y < x
          · rw [if_pos e2] at h1; omega
          · have : x = y := UInt8.le_antisymm (UInt8.not_lt.1 e2) (UInt8.not_lt.1 e1)
            subst this
            rw [if_neg e2] at h1
            by_cases e3 : x < z
            · rw [if_pos e3]; omega
            · rw [if_neg e3] at h2 ⊢
              by_cases e4 : z < x
              · rw [if_pos e4] at h2; omega
              · rw [if_neg e4] at h2 ⊢
                exact ih b c h1 h2
def lt (a b : ByteArray) : Bool := decide (Lib.compareBytes a.data.toList b.data.toList < 0)
theorem lt_trans {a b c : ByteArray} (h1 : lt a b = true) (h2 : lt b c = true) : lt a c = true := decide_eq_true (cbt _ _ _ (of_decide_eq_true h1) (of_decide_eq_true h2))
theorem lt_irrefl (a : ByteArray) : lt a a = false := by
  unfold lt; rw [(cb_zero _ _).2 rfl]; rfl
theorem lt_asymm {a b : ByteArray} (h : lt a b = true) : lt b a = false := by
  cases h2 : lt b a
  · rfl
  · have := lt_trans h h2
    rw [lt_irrefl] at this; cases this
theorem lt_three (a b : ByteArray) : lt a b = true ∨ a = b ∨ lt b a = true := by
  rcases cb_range a.data.toList b.data.toList with h | h | h
  · exact Or.inl (decide_eq_true (by omega))
  · exact Or.inr (Or.inl (str_ext ((cb_zero _ _).1 h)))
  · refine Or.inr (Or.inr (decide_eq_true ?_))
    rw [cb_swap]; omega
theorem noLess_lt (a b : ByteArray) : noLess a b = !lt a b := rfl
def rising (R : List Bm) : Prop := R.Pairwise (fun a b => lt a.1 b.1 = true)
theorem rising_of {own : ByteArray} {R : List Bm} (h : ∀ j, j < R.length → reqE own R j = 0) : rising R := by
  have hc : ∀ j, (hj : j + 1 < R.length) → lt R[j].1 R[j + 1].1 = true := by
    intro j hj
    have h1 := h (j + 1) hj
    unfold reqE prevOf at h1
    rw [List.getElem?_eq_getElem hj, if_neg (by omega)] at h1
    simp only [Nat.add_sub_cancel] at h1
    rw [List.getElem?_eq_getElem (show j < R.length by omega)] at h1
    unfold reqW at h1
    simp only at h1
    by_cases e1 : mErr R[j + 1] = 0
    · rw [if_pos e1] at h1
      by_cases e2 : R[j + 1].1 = own
      · rw [if_pos e2] at h1; omega
      · rw [if_neg e2] at h1
        rw [noLess_lt] at h1
        cases e3 : lt R[j].1 R[j + 1].1
        · rw [e3] at h1; simp at h1
        · rfl
    · rw [if_neg e1] at h1; exact absurd h1 e1
  unfold rising
  rw [List.pairwise_iff_getElem]
  intro i j hi hj hij
  induction j with
  | zero => omega
  | succ j ih =>
    rcases Nat.lt_or_ge i j with hh | hh
    · exact lt_trans (ih (by omega) hh) (hc j hj)
    · have : i = j := by omega
      subst this
      exact hc i hj
def loR (R : List Bm) (p : ByteArray) : List Bm := R.filter (fun m => lt m.1 p)
def hiR (R : List Bm) (p : ByteArray) : List Bm := R.filter (fun m => lt p m.1)
def eqR (R : List Bm) (p : ByteArray) : List Bm := R.filter (fun m => decide (m.1 = p))
theorem three_R {R : List Bm} (h : rising R) (p : ByteArray) : R = loR R p ++ (eqR R p ++ hiR R p) ∧ ((eqR R p = [] ∧ ∀ m, m ∈ R → m.1 ≠ p) ∨ ∃ q, eqR R p = [q] ∧ q.1 = p) := by
  induction R with
  | nil => exact ⟨rfl, Or.inl ⟨rfl, fun m hm => by cases hm⟩⟩
  | cons a r ih =>
    have hr : rising r := (List.pairwise_cons.1 h).2
    have ha : ∀ m, m ∈ r → lt a.1 m.1 = true := (List.pairwise_cons.1 h).1
    obtain ⟨e, hq⟩ := ih hr
    rcases lt_three a.1 p with h1 | h1 | h1
    · have h2 := lt_asymm h1
      have h3 : a.1 ≠ p := fun e => by rw [e, lt_irrefl] at h1; cases h1
      have e1 : loR (a :: r) p = a :: loR r p := by unfold loR; rw [List.filter_cons_of_pos (by simpa using h1)]
      have e2 : hiR (a :: r) p = hiR r p := by unfold hiR; rw [List.filter_cons_of_neg (by simp [h2])]
      have e3 : eqR (a :: r) p = eqR r p := by unfold eqR; rw [List.filter_cons_of_neg (by simp [h3])]
      rw [e1, e2, e3]
      refine ⟨by rw [List.cons_append, ← e], ?_⟩
      rcases hq with ⟨q1, q2⟩ | hq
      · refine Or.inl ⟨q1, fun m hm => ?_⟩
        rcases List.mem_cons.1 hm with rfl | hm
        · exact h3
        · exact q2 m hm
      · exact Or.inr hq
    · have hl : loR r p = [] := by
        unfold loR; rw [List.filter_eq_nil_iff]; intro m hm
        have := lt_asymm (ha m hm); rw [h1] at this; simp [this]
      have he : eqR r p = [] := by
        unfold eqR; rw [List.filter_eq_nil_iff]; intro m hm
        have := ha m hm
        simp only [decide_eq_true_eq]
        intro e; rw [h1, e, lt_irrefl] at this; cases this
      have e1 : loR (a :: r) p = [] := by unfold loR; rw [List.filter_cons_of_neg (by rw [h1, lt_irrefl]; simp)]; exact hl
      have e2 : hiR (a :: r) p = hiR r p := by unfold hiR; rw [List.filter_cons_of_neg (by rw [h1, lt_irrefl]; simp)]
      have e3 : eqR (a :: r) p = [a] := by unfold eqR; rw [List.filter_cons_of_pos (by simp [h1])]; exact congrArg (a :: ·) he
      rw [e1, e2, e3]
      rw [hl, he] at e
      exact ⟨by rw [List.nil_append, List.singleton_append]; exact congrArg (a :: ·) e, Or.inr ⟨a, rfl, h1⟩⟩
    · have hg : ∀ m, m ∈ a :: r → lt p m.1 = true := fun m hm => by
        rcases List.mem_cons.1 hm with rfl | hm
        · exact h1
        · exact lt_trans h1 (ha m hm)
      have e1 : loR (a :: r) p = [] := by
        unfold loR; rw [List.filter_eq_nil_iff]; intro m hm; rw [lt_asymm (hg m hm)]; simp
      have e3 : eqR (a :: r) p = [] := by
        unfold eqR; rw [List.filter_eq_nil_iff]; intro m hm
        have := hg m hm
        simp only [decide_eq_true_eq]
        intro e; rw [e, lt_irrefl] at this; cases this
      have e2 : hiR (a :: r) p = a :: r := by unfold hiR; rw [List.filter_eq_self]; exact hg
      rw [e1, e2, e3]
      refine ⟨rfl, Or.inl ⟨rfl, fun m hm e => ?_⟩⟩
      have := hg m hm
      rw [e, lt_irrefl] at this; cases this
def setR (R : List Bm) (m : Bm) : List Bm := loR R m.1 ++ m :: hiR R m.1
def dropR (R : List Bm) (p : ByteArray) : List Bm := loR R p ++ hiR R p
theorem loR_mem {R : List Bm} {p : ByteArray} {m : Bm} : m ∈ loR R p ↔ m ∈ R ∧ lt m.1 p = true := List.mem_filter
theorem hiR_mem {R : List Bm} {p : ByteArray} {m : Bm} : m ∈ hiR R p ↔ m ∈ R ∧ lt p m.1 = true := List.mem_filter
theorem loR_set (R : List Bm) (m : Bm) : loR (setR R m) m.1 = loR R m.1 := by
  unfold setR loR
  rw [List.filter_append, List.filter_filter, List.filter_cons_of_neg (by rw [lt_irrefl]; simp)]
  have e1 : (hiR R m.1).filter (fun x => lt x.1 m.1) = [] := by
    rw [List.filter_eq_nil_iff]; intro x hx; rw [lt_asymm (hiR_mem.1 hx).2]; simp
  rw [e1, List.append_nil]
  simp
theorem hiR_set (R : List Bm) (m : Bm) : hiR (setR R m) m.1 = hiR R m.1 := by
  unfold setR
  have e0 : ∀ (a b : List Bm), hiR (a ++ b) m.1 = hiR a m.1 ++ hiR b m.1 := fun a b => List.filter_append _ _
  rw [e0]
  have e1 : hiR (loR R m.1) m.1 = [] := by
    unfold hiR; rw [List.filter_eq_nil_iff]; intro x hx; rw [lt_asymm (loR_mem.1 hx).2]; simp
  have e2 : hiR (m :: hiR R m.1) m.1 = hiR R m.1 := by
    unfold hiR; rw [List.filter_cons_of_neg (by rw [lt_irrefl]; simp), List.filter_filter]; simp
  rw [e1, e2, List.nil_append]
theorem drop_set (R : List Bm) (m : Bm) : dropR (setR R m) m.1 = dropR R m.1 := by unfold dropR; rw [loR_set, hiR_set]
theorem drop_mem {R : List Bm} {p : ByteArray} {m : Bm} : m ∈ dropR R p ↔ m ∈ R ∧ m.1 ≠ p := by
  unfold dropR
  rw [List.mem_append, loR_mem, hiR_mem]
  constructor
  · rintro (⟨h1, h2⟩ | ⟨h1, h2⟩)
    · exact ⟨h1, fun e => by rw [e, lt_irrefl] at h2; cases h2⟩
    · exact ⟨h1, fun e => by rw [e, lt_irrefl] at h2; cases h2⟩
  · rintro ⟨h1, h2⟩
    rcases lt_three m.1 p with h | h | h
    · exact Or.inl ⟨h1, h⟩
    · exact absurd h h2
    · exact Or.inr ⟨h1, h⟩
end Ve
end Go.Proofs.YtiebgeamfblbdaaGreatDoor
