/-
  What the document's answer says of a text without a pre (VerOf): its numbers, or the error; nothing old in memory turns.
-/
import Derived.Test.YtmgpapghdbopiaaDoorRefE
namespace Go.Proofs.YtmgpapghdbopiaaDoor
open Go.RowKit
namespace Ve

theorem rcut46 (s : ByteArray) (w : World) (hs : s.size < 4294967281) :
    Calls Tryd.prog 22 #[.string s, .int .u8 46] w fun e w' => ∃ v X, e = .returned v ∧ bl X = cutAt 46 s.data.toList ∧ w'.ownsRow w.heap.size 9 1 v X.length (X.map Value.string) ∧ Below w.heap.size w w' := rcut_any s 46 w hs
theorem marked_pos {s : ByteArray} (h : marked s.data.toList = true) : ∃ hp : 0 < s.size, ((s[0].toNat : Int) == 118) = true := by
  unfold marked at h
  rcases Nat.eq_zero_or_pos s.size with h0 | hp
  · have : s.data.toList = [] := List.length_eq_zero_iff.1 (by simpa using h0)
    rw [this] at h; cases h
  · refine ⟨hp, ?_⟩
    rw [List.headD_eq_head?_getD, List.head?_eq_getElem?, List.getElem?_eq_getElem (by simpa using hp)] at h
    simp only [Option.getD_some, beq_iff_eq] at h
    have h2 : s[0] = 118 := h
    rw [h2]; rfl
theorem rest_drop {l : List UInt8} (h : marked l = true) : restOf l = l.drop 1 := by unfold restOf; rw [if_pos h]
theorem ext_drop (s : ByteArray) (k : Nat) : (s.extract k s.size).data.toList = s.data.toList.drop k := by
  rw [extract_list, List.take_of_length_le (by simp)]
theorem one_no {c : UInt8} {l : List UInt8} (h : l.contains c = false) : one c l = (l, [], false) := by
  unfold one
  have h1 : ∀ x, x ∈ l → (x != c) = true := by
    intro x hx
    simp at h ⊢
    intro e; subst e; exact h hx
  have e1 : l.takeWhile (· != c) = l := by
    induction l with
    | nil => rfl
    | cons a r ih =>
      have := h1 a (List.mem_cons_self)
      simp only [List.takeWhile_cons, this, if_true]
      rw [ih (by simp at h ⊢; exact h.2) (fun x hx => h1 x (List.mem_cons_of_mem _ hx))]
  have e2 := List.takeWhile_append_dropWhile (p := (· != c)) (l := l)
  rw [e1] at e2
  have e3 : l.dropWhile (· != c) = [] := by
    have := congrArg List.length e2
    simp at this
    exact this
  rw [e1, e3, h]; rfl
theorem no_dash {s : ByteArray} (hm : marked s.data.toList = true) (h : hasPre s.data.toList = false) : (∀ k (hk : k < s.size), ((s[k].toNat : Int) == 45) = false) ∧ coreOf s.data.toList = cutAt 46 (s.data.toList.drop 1) := by
  have hr := rest_drop hm
  obtain ⟨hp, hv⟩ := marked_pos hm
  have hc : (s.data.toList.drop 1).contains 45 = false := by unfold hasPre one at h; rw [hr] at h; exact h
  refine ⟨fun k hk => ?_, by unfold coreOf; rw [hr, one_no hc]⟩
  rw [beq_eq_false_iff_ne]
  intro e
  have e2 : s[k] = 45 := by apply UInt8.toNat_inj.1; show s[k].toNat = 45; omega
  cases k with
  | zero => rw [e2] at hv; cases hv
  | succ k =>
    have hmem : (45 : UInt8) ∈ s.data.toList.drop 1 := by
      rw [← e2]
      have : s[k + 1] = (s.data.toList.drop 1)[k]'(by simp; omega) := by
        rw [List.getElem_drop]
        simp only [Nat.add_comm 1 k]
        rfl
      rw [this]
      exact List.getElem_mem _
    simp at hc
    exact hc (by simpa using hmem)

/-- The cells of a list that is owned. -/
theorem owned_cells {w : World} {base : Nat} {e : TypeId} {v : Value} {X : List ByteArray} (h : w.ownsRow base e 1 v X.length (X.map Value.string)) (hX : X ≠ []) : ∃ g cap, v = .slice (some ⟨g, 0, none⟩) X.length cap ∧ base ≤ g ∧ g < w.heap.size ∧ ∀ j (hj : j < X.length), w.cell? ⟨g, j, none⟩ = some (.string X[j]) := by
  obtain ⟨_, ⟨_, hn0⟩ | ⟨g, cap, cur, hv, hg, hblk, hcap, hcm, hcs, hct⟩⟩ := h
  · exact absurd (List.length_eq_zero_iff.1 hn0) hX
  · refine ⟨g, cap, hv, hg, lt_of_blk hblk, fun j hj => ?_⟩
    have : cur[j]? = (X.map Value.string)[j]? := by
      rw [← hct, List.getElem?_take, if_pos (by omega)]; simp
    simp only [World.cell?, hblk]
    simp [this, hj]

set_option maxRecDepth 100000 in
set_option maxHeartbeats 1000000 in
theorem verOf_A1 (s : ByteArray) (w : World) (hs : s.size < 4294967281) (hmk : marked s.data.toList = true) (hp : hasPre s.data.toList = false) (h3 : (coreOf s.data.toList).length ≠ 3) :
    Calls Tryd.prog 8 #[.string s] w fun e w' => e = .returned (.tuple #[.agg #[.int .i64 0, .int .i64 0, .int .i64 0, .slice none 0 0], .int .i64 1]) ∧ Below w.heap.size w w' := by
  have H3 := hid h3
  clear h3
  obtain ⟨hno0, hcore⟩ := no_dash hmk hp
  obtain ⟨hpos, hv0⟩ := marked_pos hmk
  have HNO := hid hno0
  have HCO := hid hcore
  have h0b : ((s.size : Int) == 0) = false := beq_eq_false_iff_ne.2 (by omega)
  clear hno0 hcore hmk hp
  go_enter Tryd.func8, Tryd.ntmps8
  go_wp2_with fail
  go_loop [4, 5, 6, 7] (fun hd pr hs i => ∃ k : Nat, k ≤ s.size ∧ i = .int .i64 k ∧ hd = .string (s.extract 1 s.size) ∧ pr = .string ⟨#[]⟩ ∧ hs = .bool false) (fun _ _ _ i => s.size - (intOf i).toNat)
  case atStart => exact ⟨0, Nat.zero_le _, rfl, rfl, rfl, rfl⟩
  case round =>
    obtain ⟨k, hk, rfl, rfl, rfl, rfl⟩ := hrel
    by_cases hlt : k < s.size
    · have hn := HNO.out k hlt
      go_wp2_with fail
      go_round
      case rel => exact ⟨k + 1, by omega, by go_num, rfl, rfl, rfl⟩
      case measure => simp [intOf]; omega
    · have hes : (s.extract 1 s.size).size < 4294967281 := by rw [ByteArray.size_extract]; omega
      have HEX := hid (ext_drop s 1)
      generalize s.extract 1 s.size = C at *
      have HB0 := hid ((Below.refl w.heap.size w).alloc (Nat.le_refl _) (.cells #[.int .i64 0, .int .i64 0, .int .i64 0, .slice none 0 0] 30))
      go_wp2_with fail
      refine (rcut46 C _ hes).mono ?_
      rintro e w2 ⟨v, X, rfl, hX, hown, hb⟩
      have hXc : bl X = coreOf s.data.toList := by rw [hX, HEX.out, HCO.out]
      have HXC := hid hXc
      have HB2 := hid (show Below (w.heap.size + 1) (w.alloc (.cells #[.int .i64 0, .int .i64 0, .int .i64 0, .slice none 0 0] 30)) w2 from hb.mono (by simp))
      have HXN := hid (show X ≠ [] from fun h => by subst h; exact cutAt_ne _ _ hX.symm)
      have hXl : X.length = (coreOf s.data.toList).length := by rw [← hXc, bl_len]
      have HXZ := hid (show ∀ x, x ∈ X → x.size ≤ maxLen from fun x hx => by have := piece_le hX hx; unfold maxLen; omega)
      obtain ⟨g, cap, rfl, hg, hgz, hcells⟩ := owned_cells hown HXN.out
      have HG := hid hg
      have HGZ := hid hgz
      have HCE := hid hcells
      have HXL := hid hXl
      have hXle := many_le hX
      clear hX hXc hown hb hXl hg hgz hcells
      have h3b : ((X.length : Int) == 3) = false := beq_eq_false_iff_ne.2 (by have := H3.out; have := HXL.out; omega)
      obtain ⟨⟨r0, r1, r2, r3⟩, rf, rz⟩ := res4 HB2.out
      have HBF := hid (HB0.out.trans (HB2.out.mono (by omega)))
      go_wp2_with fail
      refine bodyPost_ret (v := .tuple #[.agg #[.int .i64 0, .int .i64 0, .int .i64 0, .slice none 0 0], .int .i64 1]) (by simp [results, Tryd.results8, go_sem, r0, r1, r2, r3]) rfl ⟨rfl, ?_⟩
      exact (((HBF.out.setCell (Nat.le_refl _) _).setCell (Nat.le_refl _) _).setCell (Nat.le_refl _) _).setCell (Nat.le_refl _) _
end Ve
end Go.Proofs.YtmgpapghdbopiaaDoor
