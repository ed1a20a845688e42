/-
  FileM
-/
import Derived.Test.YtiebgeamfblbdaaGreatDoorFb23
import Derived.Test.YtiebgeamfblbdaaGreatDoorFb27
import Derived.Deep.LoopGhost
namespace Go.Proofs.YtiebgeamfblbdaaGreatDoor
open Go.RowKit
namespace Ve
set_option maxHeartbeats 1000000 in
theorem findK_any (p v t : ByteArray) (w : World) :
    Calls Tryz.prog 45 #[.agg #[.string p, .string v], .string t] w fun e w' => e = .returned (.int .i64 (Lib.compareBytes p.data.toList t.data.toList)) ∧ Below w.heap.size w w' := by
  have HB0 := hid ((Below.refl w.heap.size w).alloc (Nat.le_refl _) (.cells #[.string p, .string v] 26))
  have HC := hid (Tryz.strings_Compare p t (w.alloc (.cells #[.string p, .string v] 26)))
  go_enter Tryz.func45, Tryz.ntmps45
  go_wp2_with fail
  refine HC.out.mono ?_
  rintro e w1 ⟨rfl, rfl⟩
  go_wp2_with fail
  go_ret
  exact ⟨rfl, HB0.out⟩
def thereB (R : List Bm) (p : ByteArray) (k : Nat) : Bool := match R[k]? with
  | some m => decide (m.1 = p)
  | none => false
def bound (R : List Bm) (p : ByteArray) (lo hi : Nat) : Prop := (∀ t (h : t < R.length), t < lo → lt R[t].1 p = true) ∧ ∀ t (h : t < R.length), hi ≤ t → lt R[t].1 p = false
theorem bound_up {R : List Bm} {p : ByteArray} {lo hi k : Nat} (hr : rising R) (h : bound R p lo hi) (hk : k < R.length) (hl : lt R[k].1 p = true) : bound R p (k + 1) hi := by
  refine ⟨fun t ht htk => ?_, h.2⟩
  rcases Nat.lt_or_ge t k with hh | hh
  · exact lt_trans ((List.pairwise_iff_getElem.1 hr) t k ht hk hh) hl
  · have : t = k := by omega
    subst this; exact hl
theorem bound_down {R : List Bm} {p : ByteArray} {lo hi k : Nat} (hr : rising R) (h : bound R p lo hi) (hk : k < R.length) (hl : lt R[k].1 p = false) : bound R p lo k := by
  refine ⟨h.1, fun t ht htk => ?_⟩
  rcases Nat.lt_or_ge k t with hh | hh
  · cases e : lt R[t].1 p
    · rfl
    · have := lt_trans ((List.pairwise_iff_getElem.1 hr) k t hk ht hh) e
      rw [hl] at this; cases this
  · have : t = k := by omega
    subst this; exact hl
set_option maxHeartbeats 4000000 in
set_option maxRecDepth 100000 in
theorem search_some (R : List Bm) (p : ByteArray) (b o c : Nat) (w : World) (hr : rising R) (hn : R.length ≤ 1000000)
    (hc : ∀ j (h : j < R.length), w.cell? ⟨b, o + j * 2, none⟩ = some (.string R[j].1) ∧ w.cell? ⟨b, o + j * 2 + 1, none⟩ = some (.string R[j].2)) :
    Calls Tryz.prog 44 #[.slice (some ⟨b, o, none⟩) R.length c, .string p, .func (.func 45) #[] #[]] w fun e w' => ∃ k : Nat, k ≤ R.length ∧ e = .returned (.tuple #[.int .i64 k, .bool (thereB R p k)]) ∧ bound R p k k ∧ Below w.heap.size w w' := by
  have HC := hid hc
  have HR := hid hr
  clear hc hr
  have eg : ∀ args w, (callFunc 45 args).run Tryz.prog w = .ok (.enter 45 args) w := enters_of Tryz.func45 (by kernel_rfl) rfl
  go_enter Tryz.func44, Tryz.ntmps44
  go_wp2_with fail
  go_loopg [9, 10] R.length (fun kx s9 s10 wr => ∃ lo hi : Nat, s9 = .int .i64 lo ∧ s10 = .int .i64 hi ∧ lo ≤ hi ∧ hi ≤ R.length ∧ hi - lo ≤ kx ∧ Hid (Below w.heap.size w wr) ∧ Hid (bound R p lo hi))
  case atStart => exact ⟨0, R.length, rfl, rfl, Nat.zero_le _, Nat.le_refl _, by omega, hid (Below.refl _ _), hid ⟨fun t _ ht => absurd ht (Nat.not_lt_zero _), fun t h1 h2 => by omega⟩⟩
  case round =>
    obtain ⟨lo, hi, rfl, rfl, hlh, hin, hg, HB, HI⟩ := hrel
    by_cases hlt : lo < hi
    · have hm : (lo + hi) / 2 < R.length := by omega
      have hx := cell_below HB.out (HC.out ((lo + hi) / 2) hm).1
      have hy := cell_below HB.out (HC.out ((lo + hi) / 2) hm).2
      have HU := hid (fun h => bound_up HR.out HI.out hm h)
      have HD := hid (fun h => bound_down HR.out HI.out hm h)
      generalize R[(lo + hi) / 2] = y at *
      obtain ⟨q, u⟩ := y
      have HK := hid (findK_any q u p wr)
      by_cases hyx : Lib.compareBytes q.data.toList p.data.toList < 0
      · have HI2 := hid (HU.out (decide_eq_true hyx))
        go_wp2_with fail
        refine HK.out.mono ?_
        rintro e w1 ⟨rfl, hb⟩
        have HB1 := hid (HB.out.trans (hb.mono HB.out.size))
        clear hb
        go_wp2_with fail
        go_roundg (hi - ((lo + hi) / 2 + 1))
        case measure => omega
        case rel => exact ⟨(lo + hi) / 2 + 1, hi, by rw [show ((lo : Int) + (hi : Int)) / 2 + 1 = (((lo + hi) / 2 + 1 : Nat) : Int) by omega], rfl, by omega, hin, Nat.le_refl _, HB1, HI2⟩
      · have HI2 := hid (HD.out (decide_eq_false hyx))
        go_wp2_with fail
        refine HK.out.mono ?_
        rintro e w1 ⟨rfl, hb⟩
        have HB1 := hid (HB.out.trans (hb.mono HB.out.size))
        clear hb
        go_wp2_with fail
        go_roundg ((lo + hi) / 2 - lo)
        case measure => omega
        case rel => exact ⟨lo, (lo + hi) / 2, rfl, by rw [show ((lo : Int) + (hi : Int)) / 2 = (((lo + hi) / 2 : Nat) : Int) by omega], by omega, by omega, Nat.le_refl _, HB1, HI2⟩
    · obtain rfl : hi = lo := by omega
      by_cases hn2 : hi < R.length
      · have hx := cell_below HB.out (HC.out hi hn2).1
        have hy := cell_below HB.out (HC.out hi hn2).2
        have HT := hid (show thereB R p hi = decide (R[hi].1 = p) by unfold thereB; rw [List.getElem?_eq_getElem hn2])
        generalize R[hi] = y at *
        obtain ⟨q, u⟩ := y
        have HK := hid (findK_any q u p wr)
        by_cases hyx : Lib.compareBytes q.data.toList p.data.toList = 0
        · have HE := hid (show thereB R p hi = true by rw [HT.out]; exact decide_eq_true (str_ext ((cb_zero _ _).1 hyx)))
          have hyb : (Lib.compareBytes q.data.toList p.data.toList == 0) = true := by simp [hyx]
          go_wp2_with fail
          refine HK.out.mono ?_
          rintro e w1 ⟨rfl, hb⟩
          have HB1 := hid (HB.out.trans (hb.mono HB.out.size))
          clear hb
          go_wp2_with fail
          go_ret2
          exact ⟨hi, hin, by rw [HE.out]; rfl, HI.out, HB1.out⟩
        · have HE := hid (show thereB R p hi = false by rw [HT.out]; exact decide_eq_false (fun e => hyx ((cb_zero _ _).2 (by rw [show q = p from e]))))
          have hyb : (Lib.compareBytes q.data.toList p.data.toList == 0) = false := by simp [hyx]
          go_wp2_with fail
          refine HK.out.mono ?_
          rintro e w1 ⟨rfl, hb⟩
          have HB1 := hid (HB.out.trans (hb.mono HB.out.size))
          clear hb
          go_wp2_with fail
          go_ret2
          exact ⟨hi, hin, by rw [HE.out]; rfl, HI.out, HB1.out⟩
      · have HE := hid (show thereB R p hi = false by unfold thereB; rw [List.getElem?_eq_none (by omega)])
        go_wp2_with fail
        go_ret2
        exact ⟨hi, hin, by rw [HE.out]; rfl, HI.out, HB.out⟩
set_option maxHeartbeats 1000000 in
set_option maxRecDepth 100000 in
theorem search_none (p : ByteArray) (a : Option Addr) (c : Nat) (w : World) :
    Calls Tryz.prog 44 #[.slice a 0 c, .string p, .func (.func 45) #[] #[]] w fun e w' => e = .returned (.tuple #[.int .i64 0, .bool false]) ∧ w' = w := by
  go_enter Tryz.func44, Tryz.ntmps44
  go_wp2_with fail
  go_loopg [9, 10] 0 (fun kx s9 s10 wr => s9 = .int .i64 0 ∧ s10 = .int .i64 0 ∧ wr = w)
  case atStart => exact ⟨rfl, rfl, rfl⟩
  case round =>
    obtain ⟨rfl, rfl, rfl⟩ := hrel
    go_wp2_with fail
    go_ret2
    exact ⟨rfl, rfl⟩
theorem search_any (R : List Bm) (p : ByteArray) (v : Value) (w : World) (hr : rising R) (hn : R.length ≤ 1000000) (hv : MsAt w v R) :
    Calls Tryz.prog 44 #[v, .string p, .func (.func 45) #[] #[]] w fun e w' => ∃ k : Nat, k ≤ R.length ∧ e = .returned (.tuple #[.int .i64 k, .bool (thereB R p k)]) ∧ bound R p k k ∧ Below w.heap.size w w' := by
  obtain ⟨a, c, rfl, _, h⟩ := hv
  cases R with
  | nil => exact (search_none p a c w).mono fun e w' ⟨h1, h2⟩ => ⟨0, Nat.zero_le _, h1, ⟨fun t h => by simp at h, fun t h => by simp at h⟩, by rw [h2]; exact Below.refl _ _⟩
  | cons x r =>
    obtain ⟨b, o, rfl, h2⟩ := h (by simp)
    exact search_some (x :: r) p b o c w hr hn h2
set_option maxHeartbeats 1000000 in
theorem find_any (R : List Bm) (p : ByteArray) (v : Value) (w : World) (hr : rising R) (hn : R.length ≤ 1000000) (hv : MsAt w v R) :
    Calls Tryz.prog 26 #[v, .string p] w fun e w' => ∃ k : Nat, k ≤ R.length ∧ e = .returned (.tuple #[.int .i64 k, .bool (thereB R p k)]) ∧ bound R p k k ∧ Below w.heap.size w w' := by
  have HS := hid (search_any R p v w hr hn hv)
  obtain ⟨va, vn, vc, rfl⟩ := hv.slice
  clear hr hv
  go_enter Tryz.func26, Tryz.ntmps26
  go_wp2_with fail
  refine HS.out.mono ?_
  rintro e w1 ⟨k, hk, rfl, hb, hw⟩
  have HB := hid hb
  have HW := hid hw
  clear hb hw
  go_wp2_with fail
  go_ret2
  exact ⟨k, hk, rfl, HB.out, HW.out⟩
theorem bound_split {R : List Bm} {p : ByteArray} {k : Nat} (hr : rising R) (hk : k ≤ R.length) (h : bound R p k k) : R.take k = loR R p ∧ R.drop k = eqR R p ++ hiR R p := by
  obtain ⟨e, _⟩ := three_R hr p
  have hl : (loR R p).length = k := by
    rcases Nat.lt_trichotomy (loR R p).length k with hh | hh | hh
    · exfalso
      have hlt : (loR R p).length < R.length := by omega
      have h1 := h.1 _ hlt hh
      have h2 : R[(loR R p).length] ∈ eqR R p ++ hiR R p := by
        have : R[(loR R p).length]? = (eqR R p ++ hiR R p)[0]? := by
          have h9 : R[(loR R p).length]? = (loR R p ++ (eqR R p ++ hiR R p))[(loR R p).length]? := congrArg (fun l => l[(loR R p).length]?) e
          rw [List.getElem?_append_right (Nat.le_refl _), Nat.sub_self] at h9
          exact h9
        rw [List.getElem?_eq_getElem hlt] at this
        exact List.mem_of_getElem? this.symm
      rcases List.mem_append.1 h2 with h3 | h3
      · have : R[(loR R p).length].1 = p := of_decide_eq_true (List.mem_filter.1 h3).2
        rw [this, lt_irrefl] at h1; cases h1
      · rw [lt_asymm (hiR_mem.1 h3).2] at h1; cases h1
    · exact hh
    · exfalso
      have hlt : k < R.length := by
        have := congrArg List.length e
        simp only [List.length_append] at this
        omega
      have h1 := h.2 k hlt (Nat.le_refl _)
      have h2 : R[k] ∈ loR R p := by
        have : R[k]? = (loR R p)[k]? := by
          have h9 : R[k]? = (loR R p ++ (eqR R p ++ hiR R p))[k]? := congrArg (fun l => l[k]?) e
          rw [List.getElem?_append_left hh] at h9
          exact h9
        rw [List.getElem?_eq_getElem hlt] at this
        exact List.mem_of_getElem? this.symm
      rw [(loR_mem.1 h2).2] at h1; cases h1
  constructor
  · have h9 : R.take k = (loR R p ++ (eqR R p ++ hiR R p)).take k := congrArg (fun l => l.take k) e
    rw [h9, ← hl, List.take_left]
  · have h9 : R.drop k = (loR R p ++ (eqR R p ++ hiR R p)).drop k := congrArg (fun l => l.drop k) e
    rw [h9, ← hl, List.drop_left]
theorem there_split {R : List Bm} {p : ByteArray} {k : Nat} (hr : rising R) (hk : k ≤ R.length) (h : bound R p k k) :
    (thereB R p k = true ∧ k < R.length ∧ R.drop (k + 1) = hiR R p ∧ ∃ q, eqR R p = [q] ∧ q.1 = p) ∨ (thereB R p k = false ∧ R.drop k = hiR R p ∧ eqR R p = []) := by
  obtain ⟨h1, h2⟩ := bound_split hr hk h
  rcases (three_R hr p).2 with ⟨e1, _⟩ | ⟨q, e1, e2⟩
  · refine Or.inr ⟨?_, by rw [h2, e1, List.nil_append], e1⟩
    unfold thereB
    cases e : R[k]? with
    | none => rfl
    | some m =>
      simp only
      refine decide_eq_false (fun e3 => ?_)
      have : m ∈ eqR R p := List.mem_filter.2 ⟨List.mem_of_getElem? e, decide_eq_true e3⟩
      rw [e1] at this; cases this
  · have hlt : k < R.length := by
      have := congrArg List.length h2
      rw [e1] at this
      simp at this
      omega
    have h3 := List.drop_eq_getElem_cons hlt
    rw [h2, e1] at h3
    simp only [List.singleton_append, List.cons.injEq] at h3
    refine Or.inl ⟨?_, hlt, h3.2.symm, q, e1, e2⟩
    unfold thereB
    rw [List.getElem?_eq_getElem hlt]
    simp only
    rw [← h3.1]
    exact decide_eq_true e2
end Ve
end Go.Proofs.YtiebgeamfblbdaaGreatDoor
