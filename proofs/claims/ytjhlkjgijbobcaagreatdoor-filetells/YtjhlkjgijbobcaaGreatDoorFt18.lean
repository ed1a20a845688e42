/-
  RefF RefG
-/
import Derived.Test.YtjhlkjgijbobcaaGreatDoorFt10
namespace Go.Proofs.YtjhlkjgijbobcaaGreatDoor
open Go.RowKit
namespace Ve
theorem rcut46 (s : ByteArray) (w : World) (hs : s.size < 4294967281) :
    Calls Tryz.prog 39 #[.string s, .int .u8 46] w fun e w' => ∃ v X, e = .returned v ∧ bl X = cutAt 46 s.data.toList ∧ w'.ownsRow w.heap.size 9 1 v X.length (X.map Value.string) ∧ Below w.heap.size w w' := rcut_any s 46 w hs
theorem marked_pos {s : ByteArray} (h : marked s.data.toList = true) : ∃ hp : 0 < s.size, ((s[0].toNat : Int) == 118) = true := by
  unfold marked at h
  rcases Nat.eq_zero_or_pos s.size with h0 | hp
  · have : s.data.toList = [] := List.length_eq_zero_iff.1 (by simpa using h0)
    rw [this] at h; cases h
  · refine ⟨hp, ?_⟩
    rw [List.headD_eq_head?_getD, List.head?_eq_getElem?, List.getElem?_eq_getElem (by simpa using hp)] at h
    simp only [Option.getD_some, beq_iff_eq] at h
    have h2 : s[0] = 118 := h
    rw [h2]; rfl
theorem rest_drop {l : List UInt8} (h : marked l = true) : restOf l = l.drop 1 := by unfold restOf; rw [if_pos h]
theorem ext_drop (s : ByteArray) (k : Nat) : (s.extract k s.size).data.toList = s.data.toList.drop k := by
  rw [extract_list, List.take_of_length_le (by simp)]
theorem one_no {c : UInt8} {l : List UInt8} (h : l.contains c = false) : one c l = (l, [], false) := by
  unfold one
  have h1 : ∀ x, x ∈ l → (x != c) = true := by
    intro x hx
    simp at h ⊢
    intro e; subst e; exact h hx
  have e1 : l.takeWhile (· != c) = l := by
    induction l with
    | nil => rfl
    | cons a r ih =>
      have := h1 a (List.mem_cons_self)
      simp only [List.takeWhile_cons, this, if_true]
      rw [ih (by simp at h ⊢; exact h.2) (fun x hx => h1 x (List.mem_cons_of_mem _ hx))]
  have e2 := List.takeWhile_append_dropWhile (p := (· != c)) (l := l)
  rw [e1] at e2
  have e3 : l.dropWhile (· != c) = [] := by
    have := congrArg List.length e2
    simp at this
    exact this
  rw [e1, e3, h]; rfl
theorem no_dash {s : ByteArray} (hm : marked s.data.toList = true) (h : hasPre s.data.toList = false) : (∀ k (hk : k < s.size), ((s[k].toNat : Int) == 45) = false) ∧ coreOf s.data.toList = cutAt 46 (s.data.toList.drop 1) := by
  have hr := rest_drop hm
  obtain ⟨hp, hv⟩ := marked_pos hm
  have hc : (s.data.toList.drop 1).contains 45 = false := by unfold hasPre one at h; rw [hr] at h; exact h
  refine ⟨fun k hk => ?_, by unfold coreOf; rw [hr, one_no hc]⟩
  rw [beq_eq_false_iff_ne]
  intro e
  have e2 : s[k] = 45 := by apply UInt8.toNat_inj.1; show s[k].toNat = 45; omega
  cases k with
  | zero => rw [e2] at hv; cases hv
  | succ k =>
    have hmem : (45 : UInt8) ∈ s.data.toList.drop 1 := by
      rw [← e2]
      have : s[k + 1] = (s.data.toList.drop 1)[k]'(by simp; omega) := by
        rw [List.getElem_drop]
        simp only [Nat.add_comm 1 k]
        rfl
      rw [this]
      exact List.getElem_mem _
    simp at hc
    exact hc (by simpa using hmem)
theorem owned_cells {w : World} {base : Nat} {e : TypeId} {v : Value} {X : List ByteArray} (h : w.ownsRow base e 1 v X.length (X.map Value.string)) (hX : X ≠ []) : ∃ g cap, v = .slice (some ⟨g, 0, none⟩) X.length cap ∧ base ≤ g ∧ g < w.heap.size ∧ ∀ j (hj : j < X.length), w.cell? ⟨g, j, none⟩ = some (.string X[j]) := by
  obtain ⟨_, ⟨_, hn0⟩ | ⟨g, cap, cur, hv, hg, hblk, hcap, hcm, hcs, hct⟩⟩ := h
  · exact absurd (List.length_eq_zero_iff.1 hn0) hX
  · refine ⟨g, cap, hv, hg, lt_of_blk hblk, fun j hj => ?_⟩
    have : cur[j]? = (X.map Value.string)[j]? := by
      rw [← hct, List.getElem?_take, if_pos (by omega)]; simp
    simp only [World.cell?, hblk]
    simp [this, hj]
set_option maxRecDepth 100000 in
set_option maxHeartbeats 1000000 in
theorem verOf_A1 (s : ByteArray) (w : World) (hs : s.size < 4294967281) (hmk : marked s.data.toList = true) (hp : hasPre s.data.toList = false) (h3 : (coreOf s.data.toList).length ≠ 3) :
    Calls Tryz.prog 56 #[.string s] w fun e w' => e = .returned (.tuple #[.agg #[.int .i64 0, .int .i64 0, .int .i64 0, .slice none 0 0], .int .i64 1]) ∧ Below w.heap.size w w' := by
  have H3 := hid h3
  clear h3
  obtain ⟨hno0, hcore⟩ := no_dash hmk hp
  obtain ⟨hpos, hv0⟩ := marked_pos hmk
  have HNO := hid hno0
  have HCO := hid hcore
  have h0b : ((s.size : Int) == 0) = false := beq_eq_false_iff_ne.2 (by omega)
  clear hno0 hcore hmk hp
  go_enter Tryz.func56, Tryz.ntmps56
  go_wp2_with fail
  go_loop [4, 5, 6, 7] (fun hd pr hs i => ∃ k : Nat, k ≤ s.size ∧ i = .int .i64 k ∧ hd = .string (s.extract 1 s.size) ∧ pr = .string ⟨#[]⟩ ∧ hs = .bool false) (fun _ _ _ i => s.size - (intOf i).toNat)
  case atStart => exact ⟨0, Nat.zero_le _, rfl, rfl, rfl, rfl⟩
  case round =>
    obtain ⟨k, hk, rfl, rfl, rfl, rfl⟩ := hrel
    by_cases hlt : k < s.size
    · have hn := HNO.out k hlt
      go_wp2_with fail
      go_round
      case rel => exact ⟨k + 1, by omega, by go_num, rfl, rfl, rfl⟩
      case measure => simp [intOf]; omega
    · have hes : (s.extract 1 s.size).size < 4294967281 := by rw [ByteArray.size_extract]; omega
      have HEX := hid (ext_drop s 1)
      generalize s.extract 1 s.size = C at *
      have HB0 := hid ((Below.refl w.heap.size w).alloc (Nat.le_refl _) (.cells #[.int .i64 0, .int .i64 0, .int .i64 0, .slice none 0 0] 95))
      go_wp2_with fail
      refine (rcut46 C _ hes).mono ?_
      rintro e w2 ⟨v, X, rfl, hX, hown, hb⟩
      have hXc : bl X = coreOf s.data.toList := by rw [hX, HEX.out, HCO.out]
      have HXC := hid hXc
      have HB2 := hid (show Below (w.heap.size + 1) (w.alloc (.cells #[.int .i64 0, .int .i64 0, .int .i64 0, .slice none 0 0] 95)) w2 from hb.mono (by simp))
      have HXN := hid (show X ≠ [] from fun h => by subst h; exact cutAt_ne _ _ hX.symm)
      have hXl : X.length = (coreOf s.data.toList).length := by rw [← hXc, bl_len]
      have HXZ := hid (show ∀ x, x ∈ X → x.size ≤ maxLen from fun x hx => by have := piece_le hX hx; unfold maxLen; omega)
      obtain ⟨g, cap, rfl, hg, hgz, hcells⟩ := owned_cells hown HXN.out
      have HG := hid hg
      have HGZ := hid hgz
      have HCE := hid hcells
      have HXL := hid hXl
      have hXle := many_le hX
      clear hX hXc hown hb hXl hg hgz hcells
      have h3b : ((X.length : Int) == 3) = false := beq_eq_false_iff_ne.2 (by have := H3.out; have := HXL.out; omega)
      obtain ⟨⟨r0, r1, r2, r3⟩, rf, rz⟩ := res4 HB2.out
      have HBF := hid (HB0.out.trans (HB2.out.mono (by omega)))
      go_wp2_with fail
      refine bodyPost_ret (v := .tuple #[.agg #[.int .i64 0, .int .i64 0, .int .i64 0, .slice none 0 0], .int .i64 1]) (by simp [results, Tryz.results56, go_sem, r0, r1, r2, r3]) rfl ⟨rfl, ?_⟩
      exact (((HBF.out.setCell (Nat.le_refl _) _).setCell (Nat.le_refl _) _).setCell (Nat.le_refl _) _).setCell (Nat.le_refl _) _
end Ve
end Go.Proofs.YtjhlkjgijbobcaaGreatDoor
namespace Go.Proofs.YtjhlkjgijbobcaaGreatDoor
open Go.RowKit
namespace Ve
def ncode (p : List UInt8) : Nat := (num p).2
def nTo (l : List UInt8) (k i : Nat) : Int := if i < k then nAt l i else 0
theorem cells_set {w : World} {M k : Nat} {l : List UInt8} (h : ∀ i, i < 3 → w.cell? ⟨M, i, none⟩ = some (.int .i64 (nTo l k i))) (hk : k < 3) : ∀ i, i < 3 → (w.setCell ⟨M, k, none⟩ (.int .i64 (nAt l k))).cell? ⟨M, i, none⟩ = some (.int .i64 (nTo l (k + 1) i)) := by
  intro i hi
  by_cases e : i = k
  · subst e
    rw [World.cell?_setCell_same (u := .int .i64 (nTo l i i)) (h := h i hi)]
    simp [nTo]
  · rw [World.cell?_setCell_other (h := fun hh => e (congrArg Addr.off hh).symm), h i hi]
    unfold nTo
    by_cases hik : i < k
    · rw [if_pos hik, if_pos (by omega)]
    · rw [if_neg hik, if_neg (by omega)]
theorem nAt_eq {l : List UInt8} {X : List ByteArray} (h : bl X = coreOf l) (k : Nat) (hk : k < X.length) : (num X[k].data.toList).1 = nAt l k := by
  unfold nAt numsOf
  rw [← h]
  simp [bl, List.getD_eq_getElem?_getD, hk]
theorem worst_no1 {cs : List Nat} (h : 1 ∉ cs) : worst 0 cs = if 2 ∈ cs then 2 else 0 := by simp [worst, h]
def resA (l : List UInt8) (v : Value) (q : Nat) : Value := if q = 0 then .agg #[.int .i64 (nAt l 0), .int .i64 (nAt l 1), .int .i64 (nAt l 2), v] else .agg #[.int .i64 0, .int .i64 0, .int .i64 0, .slice none 0 0]
theorem numsErr_ncode (ps : List (List UInt8)) : numsErr ps = worst 0 (ps.map ncode) := numsErr_worst ps
set_option maxRecDepth 100000 in
set_option maxHeartbeats 2000000 in
theorem verOf_A (s : ByteArray) (w : World) (hs : s.size < 4294967281) (hmk : marked s.data.toList = true) (hp : hasPre s.data.toList = false) (h3 : (coreOf s.data.toList).length = 3) :
    Calls Tryz.prog 56 #[.string s] w fun e w' => e = .returned (.tuple #[resA s.data.toList (.slice none 0 0) (numsErr (coreOf s.data.toList)), .int .i64 (numsErr (coreOf s.data.toList) : Nat)]) ∧ Below w.heap.size w w' := by
  have H3 := hid h3
  clear h3
  obtain ⟨hno0, hcore⟩ := no_dash hmk hp
  obtain ⟨hpos, hv0⟩ := marked_pos hmk
  have HNO := hid hno0
  have HCO := hid hcore
  have h0b : ((s.size : Int) == 0) = false := beq_eq_false_iff_ne.2 (by omega)
  clear hno0 hcore hmk hp
  go_enter Tryz.func56, Tryz.ntmps56
  go_wp2_with fail
  go_loop [4, 5, 6, 7] (fun hd pr hs i => ∃ k : Nat, k ≤ s.size ∧ i = .int .i64 k ∧ hd = .string (s.extract 1 s.size) ∧ pr = .string ⟨#[]⟩ ∧ hs = .bool false) (fun _ _ _ i => s.size - (intOf i).toNat)
  case atStart => exact ⟨0, Nat.zero_le _, rfl, rfl, rfl, rfl⟩
  case round =>
    obtain ⟨k, hk, rfl, rfl, rfl, rfl⟩ := hrel
    by_cases hlt : k < s.size
    · have hn := HNO.out k hlt
      go_wp2_with fail
      go_round
      case rel => exact ⟨k + 1, by omega, by go_num, rfl, rfl, rfl⟩
      case measure => simp [intOf]; omega
    · have hes : (s.extract 1 s.size).size < 4294967281 := by rw [ByteArray.size_extract]; omega
      have HEX := hid (ext_drop s 1)
      generalize s.extract 1 s.size = C at *
      have HB0 := hid ((Below.refl w.heap.size w).alloc (Nat.le_refl _) (.cells #[.int .i64 0, .int .i64 0, .int .i64 0, .slice none 0 0] 95))
      go_wp2_with fail
      refine (rcut46 C _ hes).mono ?_
      rintro e w2 ⟨v, X, rfl, hX, hown, hb⟩
      have hXc : bl X = coreOf s.data.toList := by rw [hX, HEX.out, HCO.out]
      have HXC := hid hXc
      have HB2 := hid (show Below (w.heap.size + 1) (w.alloc (.cells #[.int .i64 0, .int .i64 0, .int .i64 0, .slice none 0 0] 95)) w2 from hb.mono (by simp))
      have HXN := hid (show X ≠ [] from fun h => by subst h; exact cutAt_ne _ _ hX.symm)
      have hXl : X.length = (coreOf s.data.toList).length := by rw [← hXc, bl_len]
      have HXZ := hid (show ∀ x, x ∈ X → x.size ≤ maxLen from fun x hx => by have := piece_le hX hx; unfold maxLen; omega)
      obtain ⟨g, cap, rfl, hg, hgz, hcells⟩ := owned_cells hown HXN.out
      have HG := hid hg
      have HGZ := hid hgz
      have HCE := hid hcells
      have HXL := hid hXl
      have hXle := many_le hX
      clear hX hXc hown hb hXl hg hgz hcells
      have hX3 : X.length = 3 := by rw [HXL.out, H3.out]
      have h3b : ((X.length : Int) == 3) = true := beq_iff_eq.2 (by omega)
      have HBM := hid ((Below.refl w2.heap.size w2).alloc (Nat.le_refl _) (.cells #[.int .i64 0, .int .i64 0, .int .i64 0, .slice none 0 0] 95))
      have hN2 : w.heap.size < w2.heap.size := by have := HB2.out.size; simp at this; omega
      go_wp2_with fail
      go_loopw [10, 11] (fun bd i wr => ∃ k : Nat, k ≤ 3 ∧ i = .int .i64 k ∧ bd = .bool (decide (2 ∈ (bl (X.take k)).map ncode)) ∧ Hid (1 ∉ (bl (X.take k)).map ncode) ∧ Hid (∀ i, i < 3 → wr.cell? ⟨w2.heap.size, i, none⟩ = some (.int .i64 (nTo s.data.toList k i))) ∧
          wr.cell? ⟨w2.heap.size, 3, none⟩ = some (.slice none 0 0) ∧ Hid (∀ o, wr.frozen? ⟨w2.heap.size, o, none⟩ = false) ∧ Below w2.heap.size w2 wr) (fun _ i _ => 3 - (intOf i).toNat)
      case atStart =>
        refine ⟨0, by omega, rfl, rfl, hid (by simp [bl]), hid ?_, by simp, hid (by simp), HBM.out⟩
        intro i hi
        match i, hi with
        | 0, _ => simp [nTo]
        | 1, _ => simp [nTo]
        | 2, _ => simp [nTo]
      case round =>
        obtain ⟨k, hk, rfl, rfl, H1, HCS, c3, HFZ, hbr⟩ := hrel
        have HBR := hid hbr
        have HBW := hid (show Below (w.heap.size + 1) (w.alloc (.cells #[.int .i64 0, .int .i64 0, .int .i64 0, .slice none 0 0] 95)) wr from HB2.out.trans (hbr.mono (by omega)))
        have HBF := hid (HB0.out.trans (HBW.out.mono (by omega)))
        obtain ⟨⟨r0, r1, r2, r3⟩, rf, rz⟩ := res4 HBW.out
        clear hbr
        by_cases hlt : k < 3
        · have hkX : k < X.length := by omega
          have hcell := cell_below HBR.out (HCE.out k hkX)
          have HNU := hid (numberOf_any X[k] wr (HXZ.out X[k] (List.getElem_mem hkX)))
          have HNA := hid (nAt_eq HXC.out k hkX)
          have HSN := hid (show (bl (X.take (k + 1))).map ncode = (bl (X.take k)).map ncode ++ [ncode X[k].data.toList] by rw [bl_take_snoc X k hkX, List.map_append]; rfl)
          have HQ := hid (show (num X[k].data.toList).2 = ncode X[k].data.toList from rfl)
          have HE := hid (show ncode X[k].data.toList = 0 ∨ ncode X[k].data.toList = 1 ∨ ncode X[k].data.toList = 2 from num_err _)
          rw [HQ.out, HNA.out] at HNU
          have hck := HCS.out k hlt
          have hfk := HFZ.out k
          rcases HE.out with hq | hq | hq
          · cases hbd : decide (2 ∈ (bl (X.take k)).map ncode)
            · have HN1 := hid (show 1 ∉ (bl (X.take (k + 1))).map ncode by rw [HSN.out, hq]; simpa using H1.out)
              have HFL := hid (show Value.bool false = Value.bool (decide (2 ∈ (bl (X.take (k + 1))).map ncode)) by
                rw [HSN.out, hq]
                congr 1
                have := hbd
                simp only [decide_eq_false_iff_not] at this
                simp [this])
              rw [hq] at HNU
              clear hq hbd
              go_wp2_with fail
              refine HNU.out.mono ?_
              rintro e w' ⟨rfl, rfl⟩
              go_wp2_with fail
              go_roundw
              case rel => exact ⟨k + 1, by omega, by go_num, HFL.out, HN1, hid (cells_set HCS.out hlt), by rw [World.cell?_setCell_other (h := fun hh => by have := congrArg Addr.off hh; simp at this; omega)]; exact c3, hid (fun o => by simpa using HFZ.out o), HBR.out.setCell (Nat.le_refl _) _⟩
              case measure => simp [intOf]; omega
            · have HN1 := hid (show 1 ∉ (bl (X.take (k + 1))).map ncode by rw [HSN.out, hq]; simpa using H1.out)
              have HFL := hid (show Value.bool true = Value.bool (decide (2 ∈ (bl (X.take (k + 1))).map ncode)) by
                rw [HSN.out, hq]
                congr 1
                have := hbd
                simp only [decide_eq_true_eq] at this
                simp [this])
              rw [hq] at HNU
              clear hq hbd
              go_wp2_with fail
              refine HNU.out.mono ?_
              rintro e w' ⟨rfl, rfl⟩
              go_wp2_with fail
              go_roundw
              case rel => exact ⟨k + 1, by omega, by go_num, HFL.out, HN1, hid (cells_set HCS.out hlt), by rw [World.cell?_setCell_other (h := fun hh => by have := congrArg Addr.off hh; simp at this; omega)]; exact c3, hid (fun o => by simpa using HFZ.out o), HBR.out.setCell (Nat.le_refl _) _⟩
              case measure => simp [intOf]; omega
          · have HRES := hid (show numsErr (coreOf s.data.toList) = 1 by
              rw [numsErr_ncode, ← HXC.out]
              have hm : 1 ∈ (bl X).map ncode := by
                rw [← hq]
                exact List.mem_map.2 ⟨_, bl_mem (List.getElem_mem hkX), rfl⟩
              simp [worst, hm])
            rw [hq] at HNU
            clear hq
            go_wp2_with fail
            refine HNU.out.mono ?_
            rintro e w' ⟨rfl, rfl⟩
            go_wp2_with fail
            refine bodyPost_ret (v := .tuple #[.agg #[.int .i64 0, .int .i64 0, .int .i64 0, .slice none 0 0], .int .i64 1]) (by simp [results, Tryz.results56, go_sem, r0, r1, r2, r3]) rfl ⟨by rw [HRES.out]; rfl, ?_⟩
            exact (((HBF.out.setCell (Nat.le_refl _) _).setCell (Nat.le_refl _) _).setCell (Nat.le_refl _) _).setCell (Nat.le_refl _) _
          · cases hbd : decide (2 ∈ (bl (X.take k)).map ncode)
            · have HN1 := hid (show 1 ∉ (bl (X.take (k + 1))).map ncode by rw [HSN.out, hq]; simpa using H1.out)
              have HFL := hid (show Value.bool true = Value.bool (decide (2 ∈ (bl (X.take (k + 1))).map ncode)) by
                rw [HSN.out, hq]
                congr 1
                have := hbd
                simp only [decide_eq_false_iff_not] at this
                simp [this])
              rw [hq] at HNU
              clear hq hbd
              go_wp2_with fail
              refine HNU.out.mono ?_
              rintro e w' ⟨rfl, rfl⟩
              go_wp2_with fail
              go_roundw
              case rel => exact ⟨k + 1, by omega, by go_num, HFL.out, HN1, hid (cells_set HCS.out hlt), by rw [World.cell?_setCell_other (h := fun hh => by have := congrArg Addr.off hh; simp at this; omega)]; exact c3, hid (fun o => by simpa using HFZ.out o), HBR.out.setCell (Nat.le_refl _) _⟩
              case measure => simp [intOf]; omega
            · have HN1 := hid (show 1 ∉ (bl (X.take (k + 1))).map ncode by rw [HSN.out, hq]; simpa using H1.out)
              have HFL := hid (show Value.bool true = Value.bool (decide (2 ∈ (bl (X.take (k + 1))).map ncode)) by
                rw [HSN.out, hq]
                congr 1
                have := hbd
                simp only [decide_eq_true_eq] at this
                simp [this])
              rw [hq] at HNU
              clear hq hbd
              go_wp2_with fail
              refine HNU.out.mono ?_
              rintro e w' ⟨rfl, rfl⟩
              go_wp2_with fail
              go_roundw
              case rel => exact ⟨k + 1, by omega, by go_num, HFL.out, HN1, hid (cells_set HCS.out hlt), by rw [World.cell?_setCell_other (h := fun hh => by have := congrArg Addr.off hh; simp at this; omega)]; exact c3, hid (fun o => by simpa using HFZ.out o), HBR.out.setCell (Nat.le_refl _) _⟩
              case measure => simp [intOf]; omega
        · have hk3 : k = 3 := by omega
          subst hk3
          have hXt : X.take 3 = X := List.take_of_length_le (by omega)
          rw [hXt, HXC.out] at H1 ⊢
          have HW := hid (show numsErr (coreOf s.data.toList) = if 2 ∈ (coreOf s.data.toList).map ncode then 2 else 0 by rw [numsErr_ncode, worst_no1 H1.out])
          have q0 : wr.cell? ⟨w2.heap.size, 0, none⟩ = some (.int .i64 (nAt s.data.toList 0)) := HCS.out 0 (by omega)
          have q1 : wr.cell? ⟨w2.heap.size, 1, none⟩ = some (.int .i64 (nAt s.data.toList 1)) := HCS.out 1 (by omega)
          have q2 : wr.cell? ⟨w2.heap.size, 2, none⟩ = some (.int .i64 (nAt s.data.toList 2)) := HCS.out 2 (by omega)
          clear hXt
          cases hbd : decide (2 ∈ (coreOf s.data.toList).map ncode)
          · have HRES := hid (show numsErr (coreOf s.data.toList) = 0 by rw [HW.out, if_neg (by simpa using hbd)])
            clear hbd
            go_wp2_with fail
            refine wp_loop_rounds 1 ?_
            rw [rounds_succ]
            go_wp2_with fail
            refine bodyPost_ret (v := .tuple #[.agg #[.int .i64 (nAt s.data.toList 0), .int .i64 (nAt s.data.toList 1), .int .i64 (nAt s.data.toList 2), .slice none 0 0], .int .i64 0]) (by simp [results, Tryz.results56, go_sem, r0, r1, r2, r3]) rfl ⟨by rw [HRES.out]; rfl, ?_⟩
            exact (((HBF.out.setCell (Nat.le_refl _) _).setCell (Nat.le_refl _) _).setCell (Nat.le_refl _) _).setCell (Nat.le_refl _) _
          · have HRES := hid (show numsErr (coreOf s.data.toList) = 2 by rw [HW.out, if_pos (by simpa using hbd)])
            clear hbd
            go_wp2_with fail
            refine wp_loop_rounds 1 ?_
            rw [rounds_succ]
            go_wp2_with fail
            refine bodyPost_ret (v := .tuple #[.agg #[.int .i64 0, .int .i64 0, .int .i64 0, .slice none 0 0], .int .i64 2]) (by simp [results, Tryz.results56, go_sem, r0, r1, r2, r3]) rfl ⟨by rw [HRES.out]; rfl, ?_⟩
            exact (((HBF.out.setCell (Nat.le_refl _) _).setCell (Nat.le_refl _) _).setCell (Nat.le_refl _) _).setCell (Nat.le_refl _) _
end Ve
end Go.Proofs.YtjhlkjgijbobcaaGreatDoor
