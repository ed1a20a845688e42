/-
  FilZD FilZE
-/
import Derived.Test.YtiebgeamfblbdaaGreatDoorFb43
import Derived.KernelRfl
import Derived.Test.YtiebgeamfblbdaaGreatDoorFb21
namespace Go.Proofs.YtiebgeamfblbdaaGreatDoor
open Go.RowKit
namespace Ve
set_option maxHeartbeats 2000000 in
theorem sameF_any (p : ByteArray) (R X : List Bm) (v u v' u' : Value) (w : World) (F : Fl w R X v u) (F' : Fl w R X v' u') :
    Calls Tryz.prog 10 #[.agg #[.string p, v, u], .agg #[.string p, v', u']] w fun e w' => e = .returned (.bool true) ∧ Below w.heap.size w w' := by
  obtain ⟨⟨vp, vc, rfl⟩, up, uc, rfl⟩ := F.slices
  obtain ⟨⟨vp', vc', rfl⟩, up', uc', rfl⟩ := F'.slices
  have HB1 := hid (((Below.refl w.heap.size w).alloc (Nat.le_refl _) (.cells #[.string p, .slice vp R.length vc, .slice up X.length uc] 24)).alloc (by simp) (.cells #[.string p, .slice vp' R.length vc', .slice up' X.length uc'] 24))
  have HF := hid F
  have HF' := hid F'
  have he := str_refl p
  clear F F'
  go_enter Tryz.func10, Tryz.ntmps10
  go_wp2_with fail
  refine (sameM_any R _ _ _ HF.out.rn (HF.out.r.below HB1.out) (HF'.out.r.below HB1.out)).mono ?_
  rintro e w1 ⟨rfl, hb⟩
  have HBa := hid (show Below (w.heap.size + 1 + 1) _ w1 from hb.mono (by simp))
  have HBw := hid (HB1.out.trans (hb.mono HB1.out.size))
  obtain ⟨⟨q0, q1, q2⟩, ⟨r0, r1, r2⟩, rf, rz⟩ := two3 HBa.out
  clear hb
  go_wp2_with fail
  refine (sameM_any X _ _ _ HF.out.xn (HF.out.x.below HBw.out) (HF'.out.x.below HBw.out)).mono ?_
  rintro e w2 ⟨rfl, hb⟩
  have HBx := hid (HBw.out.trans (hb.mono HBw.out.size))
  clear hb
  go_wp2_with fail
  go_ret
  exact ⟨rfl, HBx.out⟩
def closedT : List UInt8 := [109, 111, 100, 117, 108, 101, 32, 109, 97, 105, 110, 10, 114, 101, 113, 117, 105, 114, 101, 32, 97, 32, 118, 49, 46, 48, 46, 48, 10, 101, 120, 99, 108, 117, 100, 101, 32, 98, 32, 118, 48, 46, 49, 46, 48, 10]
def closedF : Fs := (bt [109, 97, 105, 110], [(bt [97], bt [118, 49, 46, 48, 46, 48])], [(bt [98], bt [118, 48, 46, 49, 46, 48])])
theorem closed_read : readL closedT = .ok closedF := by kernel_rfl
theorem closed_code : (fileF closedF.1 closedF.2.1 closedF.2.2).1 = 0 := by kernel_rfl
theorem closed_text : fText closedF = closedT := by kernel_rfl
set_option maxHeartbeats 2000000 in
theorem filed_any (A : Nat → Addr) (m : Int) (w : World) (S : Te w A m) :
    Calls Tryz.prog 4 #[] w fun e w' => e = .returned (.bool true) ∧ Below w.heap.size w w' := by
  have HR := hid (fread_ok (bt closedT) closedF A m w S (by decide) (by rw [bt_list]; exact closed_read) closed_code)
  have HS := hid S
  clear S
  go_enter Tryz.func4, Tryz.ntmps4
  go_wp2_with fail
  refine HR.out.mono ?_
  rintro e w1 ⟨v, u, rfl, hv, hu, hb⟩
  have HFL := hid (show Fl w1 closedF.2.1 closedF.2.2 v u from ⟨hv, hu, fun m hm => by
    have : m = (bt [97], bt [118, 49, 46, 48, 46, 48]) := by simpa [closedF] using hm
    rw [this]; decide, fun m hm => by
    have : m = (bt [98], bt [118, 48, 46, 49, 46, 48]) := by simpa [closedF] using hm
    rw [this]; decide, by decide, by decide⟩)
  have HS1 := hid (HS.out.below hb)
  obtain ⟨va, vc, ev, _⟩ := hv
  obtain ⟨ua, uc, eu, _⟩ := hu
  rw [show closedF.2.1.length = 1 from rfl] at ev
  rw [show closedF.2.2.length = 1 from rfl] at eu
  subst ev; subst eu
  have HBa := hid ((Below.refl w1.heap.size w1).alloc (Nat.le_refl _) (.cells #[.string closedF.1, .slice va 1 vc, .slice ua 1 uc] 24))
  have HTX := hid (ftext_ok closedF.1 closedF.2.1 closedF.2.2 _ _ A m _ (by decide) (HS1.out.below HBa.out) (HFL.out.below HBa.out) closed_code)
  rw [show bt (fText (closedF.1, closedF.2.1, closedF.2.2)) = (⟨#[109, 111, 100, 117, 108, 101, 32, 109, 97, 105, 110, 10, 114, 101, 113, 117, 105, 114, 101, 32, 97, 32, 118, 49, 46, 48, 46, 48, 10, 101, 120, 99, 108, 117, 100, 101, 32, 98, 32, 118, 48, 46, 49, 46, 48, 10]⟩ : ByteArray) from congrArg bt closed_text] at HTX
  have he := str_refl (⟨#[109, 111, 100, 117, 108, 101, 32, 109, 97, 105, 110, 10, 114, 101, 113, 117, 105, 114, 101, 32, 97, 32, 118, 49, 46, 48, 46, 48, 10, 101, 120, 99, 108, 117, 100, 101, 32, 98, 32, 118, 48, 46, 49, 46, 48, 10]⟩ : ByteArray)
  have HBw := hid (hb.trans (HBa.out.mono hb.size))
  generalize closedF.1 = P at *
  clear hb
  go_wp2_with fail
  refine HTX.out.mono ?_
  rintro e w2 ⟨rfl, hb⟩
  have HBx := hid (HBw.out.trans (hb.mono HBw.out.size))
  clear hb
  go_wp2_with fail
  go_ret
  exact ⟨rfl, HBx.out⟩
end Ve
end Go.Proofs.YtiebgeamfblbdaaGreatDoor
namespace Go.Proofs.YtiebgeamfblbdaaGreatDoor
open Go.RowKit
namespace Ve
theorem codes_ok {p : ByteArray} {R X : List Bm} (h : (fileF p R X).1 = 0) : pathErr p.data.toList = 0 ∧ (∀ m, m ∈ R → mErr m = 0) ∧ (∀ m, m ∈ X → mErr m = 0) := by
  by_cases h1 : pathErr p.data.toList = 0
  · by_cases h2 : 20 < R.length ∨ 20 < X.length
    · rw [fileF_full h1 h2] at h; cases h
    · cases h3 : fstE (reqE p R) R.length with
      | some i =>
        rw [fileF_req h1 h2 h3] at h
        exact absurd h (fstE_of_some h3).2.1
      | none =>
        cases h4 : fstE (exE X) X.length with
        | some i =>
          rw [fileF_ex h1 h2 h3 h4] at h
          exact absurd h (fstE_of_some h4).2.1
        | none =>
          refine ⟨h1, fun m hm => ?_, fun m hm => ?_⟩
          · obtain ⟨j, hj, rfl⟩ := List.getElem_of_mem hm
            have h5 := fstE_of_none h3 j hj
            unfold reqE at h5
            rw [List.getElem?_eq_getElem hj] at h5
            unfold reqW at h5
            simp only at h5
            by_cases h6 : mErr R[j] = 0
            · exact h6
            · rw [if_neg h6] at h5; exact absurd h5 h6
          · obtain ⟨j, hj, rfl⟩ := List.getElem_of_mem hm
            have h5 := fstE_of_none h4 j hj
            unfold exE at h5
            rw [List.getElem?_eq_getElem hj] at h5
            unfold exW at h5
            simp only at h5
            by_cases h6 : mErr X[j] = 0
            · exact h6
            · rw [if_neg h6] at h5; exact absurd h5 h6
  · rw [fileF_path h1] at h; exact absurd h h1
theorem clean_of {m : Bm} (h : mErr m = 0) : clean m := by
  obtain ⟨h1, h2⟩ := mod_right h
  exact ⟨⟨path_no h1 (by decide) (by decide), ver_no h2 (by decide) (by decide) (by decide) (by decide) (by decide)⟩, path_no h1 (by decide) (by decide), ver_no h2 (by decide) (by decide) (by decide) (by decide) (by decide)⟩
theorem back_read {p : ByteArray} {R X : List Bm} (h : (fileF p R X).1 = 0) : readL (fText (p, R, X)) = .ok (p, R, X) := by
  obtain ⟨h1, h2, h3⟩ := codes_ok h
  exact read_back (f := (p, R, X)) ⟨path_no h1 (by decide) (by decide), path_no h1 (by decide) (by decide)⟩ (fun m hm => clean_of (h2 m hm)) (fun m hm => clean_of (h3 m hm))
theorem back_len {p : ByteArray} {R X : List Bm} (h : (fileF p R X).1 = 0) (hp : p.size ≤ 90) (hR : okL R = true) (hX : okL X = true) : (fText (p, R, X)).length ≤ 8000 := by
  obtain ⟨_, h1, h2⟩ := rising_ok h
  refine fText_len (f := (p, R, X)) hp h1 h2 (fun m hm => ?_)
  rcases List.mem_append.1 hm with hm | hm
  · exact (okL_iff hR).2 m hm
  · exact (okL_iff hX).2 m hm
theorem rising_one {R : List Bm} (h : rising R) {a b : Bm} (ha : a ∈ R) (hb : b ∈ R) (he : a.1 = b.1) : a = b := by
  obtain ⟨i, hi, rfl⟩ := List.getElem_of_mem ha
  obtain ⟨j, hj, rfl⟩ := List.getElem_of_mem hb
  rcases Nat.lt_trichotomy i j with hh | hh | hh
  · have := (List.pairwise_iff_getElem.1 h) i j hi hj hh
    rw [he, lt_irrefl] at this; cases this
  · subst hh; rfl
  · have := (List.pairwise_iff_getElem.1 h) j i hj hi hh
    rw [he, lt_irrefl] at this; cases this
theorem set_mem (R : List Bm) (m : Bm) : m ∈ setR R m := by unfold setR; simp
theorem fp_set {R : List Bm} {m : Bm} {r : Int} (hr : rising (setR R m)) (h : FpP (setR R m) m.1 r) : ∃ k : Nat, r = k ∧ ∃ hk : k < (setR R m).length, (setR R m)[k] = m := by
  rcases h with ⟨_, h⟩ | ⟨k, e, hk, h⟩
  · obtain ⟨j, hj, e⟩ := List.getElem_of_mem (set_mem R m)
    exact absurd (by rw [e]) (h j hj)
  · exact ⟨k, e, hk, rising_one hr (List.getElem_mem hk) (set_mem R m) h⟩
theorem len_set {R : List Bm} {m : Bm} {r : Int} (hr : rising R) (h : FpP R m.1 r) : (r = -1 ∧ (setR R m).length = R.length + 1) ∨ (0 ≤ r ∧ (setR R m).length = R.length) := by
  obtain ⟨e, he⟩ := three_R hr m.1
  have hl : R.length = (loR R m.1).length + ((eqR R m.1).length + (hiR R m.1).length) := by
    have := congrArg List.length e
    simpa using this
  have hs : (setR R m).length = (loR R m.1).length + ((hiR R m.1).length + 1) := by unfold setR; simp
  rcases h with ⟨e1, h⟩ | ⟨k, e1, hk, h⟩
  · left
    rcases he with ⟨he, _⟩ | ⟨q, he, hq⟩
    · rw [he] at hl
      exact ⟨e1, by rw [hs, hl]; simp; omega⟩
    · have hm : q ∈ R := (List.mem_filter.1 (show q ∈ eqR R m.1 by rw [he]; simp)).1
      obtain ⟨j, hj, ej⟩ := List.getElem_of_mem hm
      exact absurd (by rw [ej]; exact hq) (h j hj)
  · right
    rcases he with ⟨_, he⟩ | ⟨q, he, _⟩
    · exact absurd h (he _ (List.getElem_mem hk))
    · rw [he] at hl
      exact ⟨by omega, by rw [hs, hl]; simp; omega⟩
theorem eq_set (R : List Bm) (m : Bm) : (eqR (setR R m) m.1).isEmpty = false := by
  have : m ∈ eqR (setR R m) m.1 := List.mem_filter.2 ⟨set_mem R m, decide_eq_true rfl⟩
  cases h : eqR (setR R m) m.1 with
  | nil => rw [h] at this; cases this
  | cons a r => rfl
theorem len_drop (R : List Bm) (m : Bm) : (dropR R m.1).length + 1 = (setR R m).length := by unfold dropR setR; simp; omega
theorem fp_drop {R : List Bm} {p : ByteArray} {r : Int} (h : FpP (dropR R p) p r) : r = -1 := by
  rcases h with ⟨e, _⟩ | ⟨k, _, hk, h⟩
  · exact e
  · exact absurd h (drop_mem.1 (List.getElem_mem hk)).2
theorem fp_each {R : List Bm} {p : ByteArray} {r : Int} {i : Nat} (hr : rising R) (hi : i < R.length) (h : FpP (dropR R p) R[i].1 r) :
    (r = -1 ∧ R[i].1 = p) ∨ (R[i].1 ≠ p ∧ ∃ k : Nat, r = k ∧ ∃ hk : k < (dropR R p).length, (dropR R p)[k] = R[i]) := by
  rcases h with ⟨e, h⟩ | ⟨k, e, hk, h⟩
  · left
    refine ⟨e, ?_⟩
    by_cases he : R[i].1 = p
    · exact he
    · obtain ⟨j, hj, ej⟩ := List.getElem_of_mem (drop_mem.2 ⟨List.getElem_mem hi, he⟩)
      exact absurd (by rw [ej]) (h j hj)
  · right
    have hm := drop_mem.1 (List.getElem_mem hk)
    have e2 := rising_one hr hm.1 (List.getElem_mem hi) h
    exact ⟨by rw [← h]; exact hm.2, k, e, hk, e2⟩
end Ve
end Go.Proofs.YtiebgeamfblbdaaGreatDoor
