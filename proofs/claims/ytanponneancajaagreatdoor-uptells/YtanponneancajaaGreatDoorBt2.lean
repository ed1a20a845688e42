
import Derived.Test.YtanponneancajaaGreatDoorBt1
import Derived.OwnWalk
import Derived.Deep.AppendLies
import Derived.Laws.AppendOwnNone
import Derived.Lib.SmallJoins
import Derived.Lib.AppendZeros
import Derived.RangeFuncBox
import Derived.RangeFuncLeaves
import Derived.Shelf.Abstract
import Derived.OwnWalkIn
import Derived.TacticsInMore
import Derived.LoopNIn
import Derived.LoopIn
import Derived.Maps.AppendAt
import Derived.Shelf.Strings.Builder1
import Derived.Shelf.Strings.Builder2
import Derived.Shelf.Strings.OnBuilder
import Derived.Shelf.Strings.Trim
import Derived.Shelf.Small.Utf8
import Derived.Shelf.Small.Bits
import Derived.Shelf.Small.Strs
import Derived.Shelf.Small.Wraps
import Derived.Shelf.Strconv.Itoa0
import Derived.Shelf.Strconv.Itoa1
import Derived.Shelf.LaysM
import Derived.Shelf.Strconv.Itoa2
import Derived.Shelf.Strconv.Itoa3
import Derived.Shelf.Strings.Search1
import Derived.Shelf.Strings.Search2
import Derived.Shelf.Strings.Search3
import Derived.Shelf.Strings.Cut
import Derived.Shelf.Strings.Count
import Derived.Shelf.Strings.Shaped
import Derived.Shelf.Sort.Plain
import Derived.Shelf.Strings.Prefix
import Derived.Shelf.Strings.Split
import Derived.Shelf.Strings.Runes
import Derived.Shelf.Strings.AsciiSet
import Derived.Shelf.Unicode.DecodeSlow
import Derived.Shelf.Unicode.DecodeAny
import Derived.Shelf.Slices.Equal
import Derived.Shelf.Slices.CompactS
import Derived.Ground.Names2Prog
import Derived.Shelf.Slices.SearchI
import Derived.Shelf.Slices.Cells
import Derived.Shelf.Slices.In.SortNone
import Derived.Shelf.Slices.Empties2
import Derived.Test.YtanponneancajaaGreatDoorProg
import Derived.Test.YtanponneancajaaGreatDoorShelfM
import Derived.Sort.OwnSorted
namespace Go.Proofs.YtanponneancajaaGreatDoor
open Go.RowKit
namespace Ve
theorem infoEnt : (Tryz.prog.info? 54).map (fun i => (i.zero, i.size, i.bytes)) = some (some (.agg #[.string ⟨#[]⟩, .string ⟨#[]⟩, .slice none 0 0, .slice none 0 0, .bool false]), 5, 88) := by kernel_rfl
def rowR (r : Raw) : List Value := [.string r.1.1, .string r.1.2, r.2.1, r.2.2.1, .bool r.2.2.2]
def flatR (L : List Raw) : List Value := L.flatMap rowR
theorem flatR_app (D E : List Raw) : flatR (D ++ E) = flatR D ++ flatR E := by simp [flatR]
theorem flatR_get : ∀ (D : List Raw) (j c : Nat) (hj : j < D.length) (_ : c < 5), (flatR D)[j * 5 + c]? = (rowR D[j])[c]?
  | [], _, _, hj, _ => absurd hj (Nat.not_lt_zero _)
  | r :: R, 0, c, _, hc => by
    have : flatR (r :: R) = rowR r ++ flatR R := rfl
    rw [this, List.getElem?_append_left (by show 0 * 5 + c < 5; omega)]
    simp
  | r :: R, j + 1, c, hj, hc => by
    have : flatR (r :: R) = rowR r ++ flatR R := rfl
    rw [this, List.getElem?_append_right (by show 5 ≤ (j + 1) * 5 + c; omega), show (j + 1) * 5 + c - (rowR r).length = j * 5 + c by show (j + 1) * 5 + c - 5 = _; omega]
    exact flatR_get R j c (by simpa using hj) hc
theorem own_es {w : World} {base : Nat} {e : TypeId} {v : Value} {L : List Raw} (hs : ∀ r, r ∈ L → slR r) (h : w.ownsRow base e 5 v L.length (flatR L)) : EsAt w v L := by
  obtain ⟨_, ⟨hv, hn0⟩ | ⟨g, cap, cur, hv, hg, hblk, hcap, hcm, hcs, hct⟩⟩ := h
  · exact ⟨none, 0, by rw [hv, hn0], by omega, hs, fun hL => absurd (List.length_eq_zero_iff.1 hn0) hL⟩
  · refine ⟨_, cap, hv, hcap, hs, fun _ => ⟨g, 0, rfl, fun j hj => ?_⟩⟩
    have go : ∀ c, c < 5 → w.cell? ⟨g, 0 + j * 5 + c, none⟩ = (rowR L[j])[c]? := fun c hc => by
      have h1 := flatR_get L j c hj hc
      rw [← hct, List.getElem?_take, if_pos (by omega)] at h1
      simp only [World.cell?, hblk]
      rw [← h1]; simp
    exact ⟨by have := go 0 (by omega); simpa [rowR] using this, by have := go 1 (by omega); simpa [rowR] using this, by have := go 2 (by omega); simpa [rowR] using this, by have := go 3 (by omega); simpa [rowR] using this, by have := go 4 (by omega); simpa [rowR] using this⟩
theorem own_nextR {W : World} {B : Nat} {e : TypeId} {v : Value} {L L' : List Raw} {x : Raw} (h : W.ownsRow B e 5 v (L.length + 1) (flatR L ++ rowR x)) (hl : L' = L ++ [x]) : W.ownsRow B e 5 v L'.length (flatR L') := by
  subst hl
  rw [List.length_append, flatR_app]
  have : flatR [x] = rowR x := by simp [flatR]
  rw [this]; exact h
theorem rel_app5 {B : Nat} {w wr w2 w3 : World} {e : TypeId} {v : Value} {n : Nat} {xs : List Value} {o : Obj} (hB : B ≤ wr.heap.size) (hb : Below B w wr) (hown : wr.ownsRow B e 5 v n xs) (hb2 : Below wr.heap.size wr w2)
    (hg : (w2.alloc o).grownBy w3 v.ownBlock) : Below B w w3 := by
  have h2 : Below B w w2 := hb.trans (hb2.mono hB)
  have h3 : Below B w (w2.alloc o) := h2.alloc (Nat.le_trans hB hb2.size) o
  exact h3.grown hg (by simp; exact Nat.le_succ_of_le (Nat.le_trans hB hb2.size)) (fun k hk => (hown.lt k hk).1)
theorem filter_snoc (P : Raw → Bool) {L : List Raw} {k : Nat} (hk : k < L.length) : (L.take (k + 1)).filter P = (L.take k).filter P ++ (if P L[k] then [L[k]] else []) := by
  rw [List.take_succ_eq_append_getElem hk, List.filter_append]
  simp [List.filter_cons]
theorem filter_yes {P : Raw → Bool} {L : List Raw} {k : Nat} (hk : k < L.length) (h : P L[k] = true) : (L.take (k + 1)).filter P = (L.take k).filter P ++ [L[k]] := by rw [filter_snoc P hk, h]; rfl
theorem filter_no {P : Raw → Bool} {L : List Raw} {k : Nat} (hk : k < L.length) (h : P L[k] = false) : (L.take (k + 1)).filter P = (L.take k).filter P := by rw [filter_snoc P hk, h]; simp
set_option maxHeartbeats 4000000 in
set_option maxRecDepth 100000 in
theorem where_some (K : Nat) (cb : Array Value) (P : Raw → Bool) (L : List Raw) (b o c : Nat) (w : World) (eg : ∀ args w, (callFunc K args).run Tryz.prog w = .ok (.enter K args) w) (hL : L.length ≤ 100000) (hs : ∀ r, r ∈ L → slR r)
    (hc : ∀ j (h : j < L.length), w.cell? ⟨b, o + j * 5, none⟩ = some (.string L[j].1.1) ∧ w.cell? ⟨b, o + j * 5 + 1, none⟩ = some (.string L[j].1.2) ∧ w.cell? ⟨b, o + j * 5 + 2, none⟩ = some L[j].2.1 ∧ w.cell? ⟨b, o + j * 5 + 3, none⟩ = some L[j].2.2.1 ∧ w.cell? ⟨b, o + j * 5 + 4, none⟩ = some (.bool L[j].2.2.2))
    (hK : ∀ i (h : i < L.length) W, Below w.heap.size w W → Calls Tryz.prog K (#[rawV L[i]] ++ cb) W fun e w' => e = .returned (.bool (P L[i])) ∧ Below W.heap.size W w') :
    Calls Tryz.prog 120 #[.slice (some ⟨b, o, none⟩) L.length c, .func (.func K) #[] cb] w fun e w' => ∃ v, e = .returned v ∧ w'.ownsRow w.heap.size 54 5 v (L.filter P).length (flatR (L.filter P)) ∧ Below w.heap.size w w' := by
  obtain ⟨i0, hi0, hz0, hz1, hz2⟩ := info_parts infoEnt
  have HK := hid hK
  have HC := hid hc
  have HSL := hid hs
  clear hK hc hs
  go_enter Tryz.func120, Tryz.ntmps120
  go_wp2_with fail
  go_loopw [5, 10] (fun ov i wr => ∃ k : Nat, k ≤ L.length ∧ i = .int .i64 k ∧ Hid (wr.ownsRow w.heap.size 54 5 ov ((L.take k).filter P).length (flatR ((L.take k).filter P))) ∧ Hid (Below w.heap.size w wr)) (fun _ i _ => L.length - (intOf i).toNat)
  case atStart => exact ⟨0, Nat.zero_le _, rfl, hid (World.ownsRow_nil _ _ _ _), hid (Below.refl _ _)⟩
  case round =>
    obtain ⟨k, hk, rfl, HO, HB⟩ := hrel
    by_cases hlt : k < L.length
    · obtain ⟨y0, y1, y2, y3, y4⟩ := HC.out k hlt
      have x0 := cell_below HB.out y0
      have x1 := cell_below HB.out y1
      have x2 := cell_below HB.out y2
      have x3 := cell_below HB.out y3
      have x4 := cell_below HB.out y4
      have hsl := HSL.out L[k] (List.getElem_mem hlt)
      have hkI : (k : Int) < (L.length : Int) := by omega
      have HLT := hid hlt
      have HY := hid (fun h => filter_yes hlt h (P := P))
      have HN := hid (fun h => filter_no hlt h (P := P))
      have HKK := hid (fun W hW => HK.out k hlt W hW)
      have HLN := hid (show ((L.take k).filter P).length ≤ 100000 from Nat.le_trans (List.length_filter_le _ _) (by rw [List.length_take]; omega))
      clear y0 y1 y2 y3 y4
      generalize L[k] = x at *
      obtain ⟨⟨p, q⟩, rv, pv, bk⟩ := x
      obtain ⟨⟨ra, rn, rc, hrv⟩, pa, pn, pc, hpv⟩ := hsl
      simp only at hrv hpv
      subst hrv
      subst hpv
      have HBa := hid (HB.out.alloc HB.out.size (.cells #[.string p, .string q, .slice ra rn rc, .slice pa pn pc, .bool bk] 54))
      have HP := hid (HKK.out _ HBa.out)
      have HOa := hid (HO.out.alloc (.cells #[.string p, .string q, .slice ra rn rc, .slice pa pn pc, .bool bk] 54))
      unfold rawV at HP
      clear hlt HKK
      cases hp : P ((p, q), .slice ra rn rc, .slice pa pn pc, bk)
      · rw [hp] at HP
        have HN2 := hid (HN.out hp)
        clear hp
        go_wp2_with fail
        refine HP.out.mono ?_
        rintro e w1 ⟨rfl, hb⟩
        have HB1 := hid (HBa.out.trans (hb.mono HBa.out.size))
        have HO1 := hid (owns_below HOa.out hb)
        clear hb
        go_wp2_with fail
        go_roundw
        case rel => exact ⟨k + 1, by have := HLT.out; omega, by go_num, by rw [HN2.out]; exact HO1, HB1⟩
        case measure => have := HLT.out; simp [intOf]; omega
      · rw [hp] at HP
        have HY2 := hid (HY.out hp)
        clear hp
        go_wp2_with fail
        refine HP.out.mono ?_
        rintro e w1 ⟨rfl, hb⟩
        have HB1 := hid (HBa.out.trans (hb.mono HBa.out.size))
        have HO1 := hid (owns_below HOa.out hb)
        have HE1 := hid (show w1.heap[wr.heap.size]? = some (.cells #[.string p, .string q, .slice ra rn rc, .slice pa pn pc, .bool bk] 54 (0, 0)) by rw [hb.block _ (by simp)]; exact heap_alloc_new wr _)
        have z0 : w1.cell? ⟨wr.heap.size, 0, none⟩ = some (.string p) := by rw [Lib.cell_of_heap HE1.out]; rfl
        have z1 : w1.cell? ⟨wr.heap.size, 1, none⟩ = some (.string q) := by rw [Lib.cell_of_heap HE1.out]; rfl
        have z2 : w1.cell? ⟨wr.heap.size, 2, none⟩ = some (.slice ra rn rc) := by rw [Lib.cell_of_heap HE1.out]; rfl
        have z3 : w1.cell? ⟨wr.heap.size, 3, none⟩ = some (.slice pa pn pc) := by rw [Lib.cell_of_heap HE1.out]; rfl
        have z4 : w1.cell? ⟨wr.heap.size, 4, none⟩ = some (.bool bk) := by rw [Lib.cell_of_heap HE1.out]; rfl
        clear hb x0 x1 x2 x3 x4
        go_wp2_with (at_builtin; refine wpList_append_own _ rfl _ _ 42 rfl w.heap.size 54 i0 _ 5 88 Tryz.underlying42 hi0 hz0 hz1 hz2 rfl (by decide) _ _ _ rfl (HO1.out.alloc _) ⟨w1.heap.size, 0, none⟩ 1 1 [.string p, .string q, .slice ra rn rc, .slice pa pn pc, .bool bk] rfl rfl ?c1 ?c2 ?c3 ?c4 ?c5 ?_)
        case c1 => exact World.news_of_block (cs := #[.string p, .string q, .slice ra rn rc, .slice pa pn pc, .bool bk]) (t := 54) (fr := (0, 0)) (heap_alloc_new w1 _)
        case c2 =>
          intro u hu
          simp at hu
          rcases hu with rfl | rfl | rfl | rfl | rfl <;> rfl
        case c3 => have := HLN.out; unfold maxLen; omega
        case c4 => have := HLN.out; omega
        case c5 => have := HB1.out.size; simp; omega
        intro v' w3 hown hgrow _
        have HR3 := hid (rel_app5 HB1.out.size HB1.out HO1.out (Below.refl _ _) hgrow)
        have HO3 := hid hown
        clear hown hgrow z0 z1 z2 z3 z4
        go_wp2_with fail
        go_roundw
        case rel => exact ⟨k + 1, by have := HLT.out; omega, by go_num, hid (own_nextR (x := ((p, q), .slice ra rn rc, .slice pa pn pc, bk)) HO3.out HY2.out), HR3⟩
        case measure => have := HLT.out; simp [intOf]; omega
    · have HTR := hid (show L.take k = L from List.take_of_length_le (by omega))
      rw [HTR.out] at HO
      have hkI : ¬ (k : Int) < (L.length : Int) := by omega
      clear hlt
      go_wp2_with fail
      go_ret
      exact ⟨_, rfl, HO.out, HB.out⟩
theorem where_none (K : Nat) (cb : Array Value) (a : Option Addr) (c : Nat) (w : World) :
    Calls Tryz.prog 120 #[.slice a 0 c, .func (.func K) #[] cb] w fun e w' => e = .returned (.slice none 0 0) ∧ Below w.heap.size w w' := by
  go_enter Tryz.func120, Tryz.ntmps120
  go_wp2_with fail
  go_loopw [5, 10] (fun ov i wr => ov = .slice none 0 0 ∧ i = .int .i64 0 ∧ wr = w) (fun _ i _ => 0)
  case atStart => exact ⟨rfl, rfl, rfl⟩
  case round =>
    obtain ⟨rfl, rfl, rfl⟩ := hrel
    go_wp2_with fail
    go_ret
    exact ⟨rfl, Below.refl _ _⟩
theorem where_any (K : Nat) (cb : Array Value) (P : Raw → Bool) (L : List Raw) (v : Value) (w : World) (eg : ∀ args w, (callFunc K args).run Tryz.prog w = .ok (.enter K args) w) (hL : L.length ≤ 100000) (hv : EsAt w v L)
    (hK : ∀ i (h : i < L.length) W, Below w.heap.size w W → Calls Tryz.prog K (#[rawV L[i]] ++ cb) W fun e w' => e = .returned (.bool (P L[i])) ∧ Below W.heap.size W w') :
    Calls Tryz.prog 120 #[v, .func (.func K) #[] cb] w fun e w' => ∃ v', e = .returned v' ∧ EsAt w' v' (L.filter P) ∧ Below w.heap.size w w' := by
  obtain ⟨a, c, rfl, _, hs, h⟩ := hv
  have hsf : ∀ r, r ∈ L.filter P → slR r := fun r hr => hs r (List.mem_filter.1 hr).1
  cases L with
  | nil => exact (where_none K cb a c w).mono fun e w' ⟨h1, h2⟩ => ⟨_, h1, ⟨none, 0, rfl, Nat.le_refl _, fun r hr => absurd hr (by simp), fun h => absurd rfl h⟩, h2⟩
  | cons x r =>
    obtain ⟨b, o, rfl, h2⟩ := h (by simp)
    exact (where_some K cb P (x :: r) b o c w eg hL hs h2 hK).mono fun e w' ⟨v', h1, h2, h3⟩ => ⟨v', h1, own_es hsf h2, h3⟩
end Ve
end Go.Proofs.YtanponneancajaaGreatDoor


namespace Go.Proofs.YtanponneancajaaGreatDoor
open Go.RowKit
namespace Ve
def flatM (L : List Bm) : List Value := L.flatMap fun m => [.string m.1, .string m.2]
theorem flatM_len (L : List Bm) : (flatM L).length = L.length * 2 := by
  induction L with
  | nil => rfl
  | cons r R ih =>
    have : flatM (r :: R) = [.string r.1, .string r.2] ++ flatM R := rfl
    rw [this, List.length_append, ih]
    show 2 + R.length * 2 = (R.length + 1) * 2
    omega
theorem flatM_app (D E : List Bm) : flatM (D ++ E) = flatM D ++ flatM E := by simp [flatM]
theorem flatM_get : ∀ (D : List Bm) (j c : Nat) (hj : j < D.length) (_ : c < 2), (flatM D)[j * 2 + c]? = [Value.string D[j].1, Value.string D[j].2][c]?
  | [], _, _, hj, _ => absurd hj (Nat.not_lt_zero _)
  | r :: R, 0, c, _, hc => by
    have : flatM (r :: R) = [.string r.1, .string r.2] ++ flatM R := rfl
    rw [this, List.getElem?_append_left (by show 0 * 2 + c < 2; omega)]
    simp
  | r :: R, j + 1, c, hj, hc => by
    have : flatM (r :: R) = [.string r.1, .string r.2] ++ flatM R := rfl
    rw [this, List.getElem?_append_right (by show 2 ≤ (j + 1) * 2 + c; omega), show (j + 1) * 2 + c - [Value.string r.1, Value.string r.2].length = j * 2 + c by simp; omega]
    exact flatM_get R j c (by simpa using hj) hc
theorem own_ms {w : World} {base : Nat} {e : TypeId} {v : Value} {L : List Bm} (h : w.ownsRow base e 2 v L.length (flatM L)) : MsAt w v L := by
  obtain ⟨_, ⟨hv, hn0⟩ | ⟨g, cap, cur, hv, hg, hblk, hcap, hcm, hcs, hct⟩⟩ := h
  · exact ⟨none, 0, by rw [hv, hn0], by omega, fun hL => absurd (List.length_eq_zero_iff.1 hn0) hL⟩
  · refine ⟨_, cap, hv, hcap, fun _ => ⟨g, 0, rfl, fun j hj => ?_⟩⟩
    have go : ∀ c, c < 2 → w.cell? ⟨g, 0 + j * 2 + c, none⟩ = [Value.string L[j].1, Value.string L[j].2][c]? := fun c hc => by
      have h1 := flatM_get L j c hj hc
      rw [← hct, List.getElem?_take, if_pos (by omega)] at h1
      simp only [World.cell?, hblk]
      rw [← h1]; simp
    exact ⟨by have := go 0 (by omega); simpa using this, by have := go 1 (by omega); simpa using this⟩
theorem own_ne2 {w : World} {B : Nat} {e T : TypeId} {v : Value} {n : Nat} {xs : List Value} {b : Nat} {cs : Array Value} {fr : Nat × Nat} (hown : w.ownsRow B e 2 v n xs) (hb : w.heap[b]? = some (.cells cs T fr)) (hTe : T ≠ e) : v.ownBlock ≠ some b := by
  rcases hown.2 with ⟨rfl, _⟩ | ⟨g, cap, cur, rfl, _, hg, _⟩
  · simp [Value.ownBlock]
  · intro h
    simp only [Value.ownBlock, Option.some.injEq] at h
    subst h
    rw [hg] at hb
    simp only [Option.some.injEq, Obj.cells.injEq] at hb
    exact hTe hb.2.1.symm
theorem keep_set {W : World} {fb o b : Nat} {x : Value} {ob : Obj} (h : W.heap[b]? = some ob) (hne : b ≠ fb) : (W.setCell ⟨fb, o, none⟩ x).heap[b]? = some ob := by
  rw [Below.heap_setCell _ _ _ _ hne]; exact h
theorem set_block {W : World} {fb o : Nat} {cs : Array Value} {T : TypeId} {x : Value} (h : W.heap[fb]? = some (.cells cs T (0, 0))) : (W.setCell ⟨fb, o, none⟩ x).heap[fb]? = some (.cells (cs.setIfInBounds o x) T (0, 0)) := by
  simp [World.setCell, Array.getElem?_modify, h]
theorem owns_set {W : World} {B fb o n : Nat} {e : TypeId} {v x : Value} {xs : List Value} (h : W.ownsRow B e 2 v n xs) (hne : v.ownBlock ≠ some fb) : (W.setCell ⟨fb, o, none⟩ x).ownsRow B e 2 v n xs :=
  h.kept (row := some fb) ⟨rfl, rfl, rfl, by simp [World.setCell], fun k _ hk => Below.heap_setCell _ _ _ _ (fun e => hk (by simp [e]))⟩ (Or.inr hne)
theorem owns_far {W W3 : World} {B n : Nat} {e : TypeId} {v : Value} {xs : List Value} {row : Option Nat} (h : W.ownsRow B e 2 v n xs) (hg : W.grownBy W3 row) (hne : ∀ g, v.ownBlock = some g → row ≠ some g) : W3.ownsRow B e 2 v n xs := by
  obtain ⟨hl, h | ⟨g, cap, cur, e1, e2, e3, e4, e5, e6, e7⟩⟩ := h
  · exact ⟨hl, Or.inl h⟩
  · refine ⟨hl, Or.inr ⟨g, cap, cur, e1, e2, ?_, e4, e5, e6, e7⟩⟩
    rw [hg.block g (lt_of_blk e3) (fun h => hne g (by rw [e1]; rfl) h.symm)]; exact e3
theorem own_lt {W : World} {B n g : Nat} {e : TypeId} {v : Value} {xs : List Value} (h : W.ownsRow B e 2 v n xs) (hv : v.ownBlock = some g) : g < W.heap.size ∧ B ≤ g := by
  obtain ⟨hl, ⟨h, _⟩ | ⟨g', cap, cur, e1, e2, e3, _⟩⟩ := h
  · rw [h] at hv; cases hv
  · rw [e1] at hv
    have : g' = g := by simpa [Value.ownBlock] using hv
    subst this
    exact ⟨lt_of_blk e3, e2⟩
theorem heap_new (w : World) (o : Obj) : (w.alloc o).heap[w.heap.size]? = some o := heap_alloc_new w o
theorem heap_old (w : World) (o : Obj) {b : Nat} {x : Obj} (h : w.heap[b]? = some x) : (w.alloc o).heap[b]? = some x := by
  rw [((Below.refl w.heap.size w).alloc (Nat.le_refl _) o).block b (lt_of_blk h)]; exact h
theorem own_base {W : World} {B B' n : Nat} {e : TypeId} {v : Value} {xs : List Value} (h : W.ownsRow B e 2 v n xs) (hB : B' ≤ B) : W.ownsRow B' e 2 v n xs := by
  obtain ⟨hl, h | ⟨g, cap, cur, e1, e2, e3, e4, e5, e6, e7⟩⟩ := h
  · exact ⟨hl, Or.inl h⟩
  · exact ⟨hl, Or.inr ⟨g, cap, cur, e1, Nat.le_trans hB e2, e3, e4, e5, e6, e7⟩⟩
theorem own_sl {W : World} {B n : Nat} {e : TypeId} {v : Value} {xs : List Value} (h : W.ownsRow B e 2 v n xs) : ∃ a n c, v = .slice a n c := by
  obtain ⟨_, ⟨h, _⟩ | ⟨g, cap, cur, e1, _⟩⟩ := h
  · exact ⟨_, _, _, h⟩
  · exact ⟨_, _, _, e1⟩
theorem ms_flat {w : World} {b o : Nat} {L : List Bm} (hc : ∀ j (h : j < L.length), w.cell? ⟨b, o + j * 2, none⟩ = some (.string L[j].1) ∧ w.cell? ⟨b, o + j * 2 + 1, none⟩ = some (.string L[j].2)) : ∀ j u, (flatM L)[j]? = some u → w.cell? ⟨b, o + j, none⟩ = some u := by
  intro j u hj
  have hl : j < L.length * 2 := by rw [← flatM_len]; exact (List.getElem?_eq_some_iff.1 hj).1
  have h1 := flatM_get L (j / 2) (j % 2) (by omega) (by omega)
  rw [show j / 2 * 2 + j % 2 = j by omega, hj] at h1
  have h2 := hc (j / 2) (by omega)
  rcases Nat.mod_two_eq_zero_or_one j with e | e
  · rw [e] at h1
    have : u = .string L[j / 2].1 := by simpa using h1
    rw [this, ← h2.1]
    congr 2; omega
  · rw [e] at h1
    have : u = .string L[j / 2].2 := by simpa using h1
    rw [this, ← h2.2]
    congr 2; omega
theorem flat_one (L : List Bm) : ∀ u ∈ flatM L, u.oneCell' = true := by
  intro u hu
  obtain ⟨m, _, hm⟩ := List.mem_flatMap.1 hu
  simp at hm
  rcases hm with rfl | rfl <;> rfl
theorem infoMod : (Tryz.prog.info? 51).map (fun i => (i.zero, i.size, i.bytes)) = some (some (.agg #[.string ⟨#[]⟩, .string ⟨#[]⟩]), 2, 32) := by kernel_rfl
end Ve
end Go.Proofs.YtanponneancajaaGreatDoor


namespace Go.Proofs.YtanponneancajaaGreatDoor
open Go.RowKit
namespace Ve
def okM (m : Bm) : Bool := decide (m.1.size ≤ 70) && decide (m.2.size ≤ 60)
def okL (L : List Bm) : Bool := decide (L.length ≤ 25) && L.all okM
theorem okL_iff {L : List Bm} (h : okL L = true) : L.length ≤ 25 ∧ ∀ m, m ∈ L → m.1.size ≤ 70 ∧ m.2.size ≤ 60 := by
  unfold okL at h
  rw [Bool.and_eq_true] at h
  refine ⟨of_decide_eq_true h.1, fun m hm => ?_⟩
  have := List.all_eq_true.1 h.2 m hm
  unfold okM at this
  rw [Bool.and_eq_true] at this
  exact ⟨of_decide_eq_true this.1, of_decide_eq_true this.2⟩
theorem all_take_next {L : List Bm} {k : Nat} (hk : k < L.length) (h : (L.take k).all okM = true) (hm : okM L[k] = true) : (L.take (k + 1)).all okM = true := by
  rw [List.take_succ_eq_append_getElem hk, List.all_append, h]
  simp [hm]
theorem all_not {L : List Bm} {k : Nat} (hk : k < L.length) (hm : okM L[k] = false) : L.all okM = false := by
  cases e : L.all okM
  · rfl
  · have := List.all_eq_true.1 e L[k] (List.getElem_mem hk)
    rw [hm] at this; cases this
set_option maxHeartbeats 1000000 in
theorem long_some (L : List Bm) (b o c : Nat) (w : World) (hn : L.length ≤ 25)
    (hc : ∀ j (h : j < L.length), w.cell? ⟨b, o + j * 2, none⟩ = some (.string L[j].1) ∧ w.cell? ⟨b, o + j * 2 + 1, none⟩ = some (.string L[j].2)) :
    Calls Tryz.prog 29 #[.slice (some ⟨b, o, none⟩) L.length c, .int .i64 25] w fun e w' => e = .returned (.int .i64 (if okL L then 0 else 1)) ∧ w' = w := by
  have HC := hid hc
  have HO := hid (show okL L = L.all okM by unfold okL; rw [decide_eq_true hn, Bool.true_and])
  have hn2 : ¬ (25 : Int) < (L.length : Int) := by omega
  generalize hr : (if okL L then (0 : Int) else 1) = r
  have HR := hid hr
  clear hc hr
  go_enter Tryz.func29, Tryz.ntmps29
  go_wp2_with fail
  go_loop [5] (fun i => ∃ k : Nat, k ≤ L.length ∧ i = .int .i64 k ∧ Hid ((L.take k).all okM = true)) (fun i => L.length - (intOf i).toNat)
  case atStart => exact ⟨0, Nat.zero_le _, rfl, hid rfl⟩
  case round =>
    obtain ⟨k, hk, rfl, HA⟩ := hrel
    by_cases hlt : k < L.length
    · have hx := (HC.out k hlt).1
      have hy := (HC.out k hlt).2
      have HN := hid (fun h => all_take_next hlt HA.out h)
      have HX := hid (fun h => all_not hlt h)
      have HLT := hid hlt
      have hkI : (k : Int) < (L.length : Int) := by omega
      generalize L[k] = x at *
      clear hlt
      obtain ⟨p, v⟩ := x
      by_cases h1 : p.size ≤ 70
      · have h1' : ¬ (70 : Int) < (p.size : Int) := by omega
        by_cases h2 : v.size ≤ 60
        · have h2' : ¬ (60 : Int) < (v.size : Int) := by omega
          have HT := hid (HN.out (by unfold okM; rw [decide_eq_true h1, decide_eq_true h2]; rfl))
          go_wp2_with fail
          go_round
          case rel => exact ⟨k + 1, by have := HLT.out; omega, by go_num, HT⟩
          case measure => have := HLT.out; simp [intOf]; omega
        · have h2' : (60 : Int) < (v.size : Int) := by omega
          have HT := hid (HX.out (by unfold okM; rw [decide_eq_true h1, decide_eq_false h2]; rfl))
          go_wp2_with fail
          go_ret
          exact ⟨by rw [← HR.out, HO.out, HT.out]; rfl, rfl⟩
      · have h1' : (70 : Int) < (p.size : Int) := by omega
        have HT := hid (HX.out (by unfold okM; rw [decide_eq_false h1]; rfl))
        go_wp2_with fail
        go_ret
        exact ⟨by rw [← HR.out, HO.out, HT.out]; rfl, rfl⟩
    · have HT := hid (show L.all okM = true by have := HA.out; rw [List.take_of_length_le (by omega)] at this; exact this)
      go_wp2_with fail
      go_ret
      exact ⟨by rw [← HR.out, HO.out, HT.out]; rfl, rfl⟩
theorem long_none (a : Option Addr) (c : Nat) (w : World) : Calls Tryz.prog 29 #[.slice a 0 c, .int .i64 25] w fun e w' => e = .returned (.int .i64 0) ∧ w' = w := by
  go_enter Tryz.func29, Tryz.ntmps29
  go_wp2_with fail
  go_loop [5] (fun i => i = .int .i64 0) (fun i => 0)
  case atStart => exact rfl
  case round =>
    obtain rfl := hrel
    go_wp2_with fail
    go_ret
    exact ⟨rfl, rfl⟩
theorem long_many (a : Option Addr) (n c : Nat) (w : World) (hn : 25 < n) : Calls Tryz.prog 29 #[.slice a n c, .int .i64 25] w fun e w' => e = .returned (.int .i64 1) ∧ w' = w := by
  have hn2 : (25 : Int) < (n : Int) := by omega
  go_enter Tryz.func29, Tryz.ntmps29
  go_wp2_with fail
  go_ret
  exact ⟨rfl, rfl⟩
theorem long_any (L : List Bm) (v : Value) (w : World) (hv : MsAt w v L) : Calls Tryz.prog 29 #[v, .int .i64 25] w fun e w' => e = .returned (.int .i64 (if okL L then 0 else 1)) ∧ w' = w := by
  obtain ⟨a, c, rfl, _, h⟩ := hv
  by_cases hn : L.length ≤ 25
  · cases L with
    | nil => exact long_none a c w
    | cons x r =>
      obtain ⟨b, o, rfl, h2⟩ := h (by simp)
      exact long_some (x :: r) b o c w hn h2
  · have : okL L = false := by unfold okL; rw [decide_eq_false hn]; rfl
    rw [this]
    exact long_many a L.length c w (by omega)
set_option maxHeartbeats 1000000 in
theorem sameM_some (L : List Bm) (b o c b' o' c' : Nat) (w : World) (hn : L.length ≤ 1000000)
    (hc : ∀ j (h : j < L.length), w.cell? ⟨b, o + j * 2, none⟩ = some (.string L[j].1) ∧ w.cell? ⟨b, o + j * 2 + 1, none⟩ = some (.string L[j].2))
    (hd : ∀ j (h : j < L.length), w.cell? ⟨b', o' + j * 2, none⟩ = some (.string L[j].1) ∧ w.cell? ⟨b', o' + j * 2 + 1, none⟩ = some (.string L[j].2)) :
    Calls Tryz.prog 35 #[.slice (some ⟨b, o, none⟩) L.length c, .slice (some ⟨b', o', none⟩) L.length c'] w fun e w' => e = .returned (.bool true) ∧ Below w.heap.size w w' := by
  have HC := hid hc
  have HD := hid hd
  have hgd := modGuard
  clear hc hd
  go_enter Tryz.func35, Tryz.ntmps35
  go_wp2_with fail
  go_loopw [5] (fun i wr => ∃ k : Nat, k ≤ L.length ∧ i = .int .i64 k ∧ Hid (Below w.heap.size w wr)) (fun i _ => L.length - (intOf i).toNat)
  case atStart => exact ⟨0, Nat.zero_le _, rfl, hid (Below.refl _ _)⟩
  case round =>
    obtain ⟨k, hk, rfl, HB⟩ := hrel
    by_cases hlt : k < L.length
    · have hx := cell_below HB.out (HC.out k hlt).1
      have hy := cell_below HB.out (HC.out k hlt).2
      have hx' := cell_below HB.out (HD.out k hlt).1
      have hy' := cell_below HB.out (HD.out k hlt).2
      have hne := fun W => modNeq L[k].1 L[k].2 L[k].1 L[k].2 W
      rw [decide_eq_true ⟨rfl, rfl⟩, Bool.not_true] at hne
      have hkI : (k : Int) < (L.length : Int) := by omega
      go_wp2_with fail
      go_quiet (fail)
      go_wp2_with fail
      go_roundw
      case rel => exact ⟨k + 1, by omega, by go_num, hid (below_drawn_of HB.out _)⟩
      case measure => simp [intOf]; omega
    · go_wp2_with fail
      go_ret
      exact ⟨rfl, HB.out⟩
theorem sameM_none (a a' : Option Addr) (c c' : Nat) (w : World) : Calls Tryz.prog 35 #[.slice a 0 c, .slice a' 0 c'] w fun e w' => e = .returned (.bool true) ∧ Below w.heap.size w w' := by
  go_enter Tryz.func35, Tryz.ntmps35
  go_wp2_with fail
  go_loopw [5] (fun i wr => i = .int .i64 0 ∧ wr = w) (fun i _ => 0)
  case atStart => exact ⟨rfl, rfl⟩
  case round =>
    obtain ⟨rfl, rfl⟩ := hrel
    go_wp2_with fail
    go_ret
    exact ⟨rfl, Below.refl _ _⟩
theorem sameM_any (L : List Bm) (v u : Value) (w : World) (hn : L.length ≤ 1000000) (hv : MsAt w v L) (hu : MsAt w u L) : Calls Tryz.prog 35 #[v, u] w fun e w' => e = .returned (.bool true) ∧ Below w.heap.size w w' := by
  obtain ⟨a, c, rfl, _, h⟩ := hv
  obtain ⟨a', c', rfl, _, h'⟩ := hu
  cases L with
  | nil => exact sameM_none a a' c c' w
  | cons x r =>
    obtain ⟨b, o, rfl, h2⟩ := h (by simp)
    obtain ⟨b', o', rfl, h3⟩ := h' (by simp)
    exact sameM_some (x :: r) b o c b' o' c' w hn h2 h3
end Ve
end Go.Proofs.YtanponneancajaaGreatDoor


namespace Go.Proofs.YtanponneancajaaGreatDoor
open Go.RowKit
namespace Ve
abbrev Ent := Bm × List Bm × List ByteArray × Bool
def TxAt (w : World) (v : Value) (X : List ByteArray) : Prop :=
  ∃ (a : Option Addr) (c : Nat), v = .slice a X.length c ∧ X.length ≤ c ∧ (X ≠ [] → ∃ b o, a = some ⟨b, o, none⟩ ∧ ∀ j (h : j < X.length), w.cell? ⟨b, o + j, none⟩ = some (.string X[j]))
theorem TxAt.below {w w' : World} {v : Value} {X : List ByteArray} (h : TxAt w v X) (hb : Below w.heap.size w w') : TxAt w' v X := by
  obtain ⟨a, c, e, hc, h⟩ := h
  refine ⟨a, c, e, hc, fun hL => ?_⟩
  obtain ⟨b, o, e2, h2⟩ := h hL
  exact ⟨b, o, e2, fun j hj => cell_below hb (h2 j hj)⟩
structure RawOk (w : World) (r : Raw) (e : Ent) : Prop where
  m : r.1 = e.1
  rq : MsAt w r.2.1 e.2.1
  pk : TxAt w r.2.2.1 e.2.2.1
  bk : r.2.2.2 = e.2.2.2
theorem RawOk.below {w w' : World} {r : Raw} {e : Ent} (h : RawOk w r e) (hb : Below w.heap.size w w') : RawOk w' r e := ⟨h.m, h.rq.below hb, h.pk.below hb, h.bk⟩
structure Ixs (w : World) (v : Value) (Q : List Raw) (L : List Ent) : Prop where
  es : EsAt w v Q
  ln : Q.length = L.length
  ok : ∀ j (h : j < Q.length) (h' : j < L.length), RawOk w Q[j] L[j]
theorem Ixs.below {w w' : World} {v : Value} {Q : List Raw} {L : List Ent} (h : Ixs w v Q L) (hb : Below w.heap.size w w') : Ixs w' v Q L := ⟨h.es.below hb, h.ln, fun j h1 h2 => (h.ok j h1 h2).below hb⟩
def okP (X : List ByteArray) : Bool := X.all fun x => decide (x.size ≤ 70)
def okE (e : Ent) : Bool := decide (e.1.1.size ≤ 70) && decide (e.1.2.size ≤ 60) && okL e.2.1 && decide (e.2.2.1.length ≤ 15) && okP e.2.2.1
def okN (n : Nat) : Bool := decide (n ≤ 30) || decide (n = 101)
def okI (L : List Ent) : Bool := okN L.length && L.all okE
def pfxE (L : List Ent) (k : Nat) : Bool := (L.take k).all okE
theorem okE_next {L : List Ent} {k : Nat} (hk : k < L.length) (h : pfxE L k = true) (hm : okE L[k] = true) : pfxE L (k + 1) = true := by
  unfold pfxE at h ⊢
  rw [List.take_succ_eq_append_getElem hk, List.all_append, h]
  simp [hm]
theorem okE_not {L : List Ent} {k : Nat} (hk : k < L.length) (hm : okE L[k] = false) : L.all okE = false := by
  cases e : L.all okE
  · rfl
  · have := List.all_eq_true.1 e L[k] (List.getElem_mem hk)
    rw [hm] at this; cases this
theorem okP_next {X : List ByteArray} {k : Nat} (hk : k < X.length) (h : okP (X.take k) = true) (hm : X[k].size ≤ 70) : okP (X.take (k + 1)) = true := by
  unfold okP at h ⊢
  rw [List.take_succ_eq_append_getElem hk, List.all_append, h]
  simp [hm]
theorem okP_not {X : List ByteArray} {k : Nat} (hk : k < X.length) (hm : ¬ X[k].size ≤ 70) : okP X = false := by
  cases e : okP X
  · rfl
  · have := List.all_eq_true.1 e X[k] (List.getElem_mem hk)
    exact absurd (of_decide_eq_true this) hm
theorem longI_many (a : Option Addr) (n c : Nat) (w : World) (h : okN n = false) : Calls Tryz.prog 21 #[.slice a n c] w fun e w' => e = .returned (.int .i64 1) ∧ Below w.heap.size w w' := by
  unfold okN at h
  rw [Bool.or_eq_false_iff] at h
  have h1 := of_decide_eq_false h.1
  have h2 := of_decide_eq_false h.2
  have q1 : (30 : Int) < (n : Int) := by omega
  have q2 : ((n : Int) != 101) = true := bne_iff_ne.2 (by omega)
  clear h h1 h2
  go_enter Tryz.func21, Tryz.ntmps21
  go_wp2_with fail
  go_ret
  exact ⟨rfl, Below.refl _ _⟩
theorem okN_yes {n : Nat} (h : okN n = true) : ¬ (30 : Int) < (n : Int) ∨ ((30 : Int) < (n : Int) ∧ ((n : Int) != 101) = false) := by
  unfold okN at h
  rw [Bool.or_eq_true] at h
  rcases h with h | h
  · left; have := of_decide_eq_true h; omega
  · right
    have := of_decide_eq_true h
    exact ⟨by omega, by rw [bne, beq_iff_eq.2 (show (n : Int) = 101 by omega)]; rfl⟩
set_option maxHeartbeats 8000000 in
set_option maxRecDepth 100000 in
theorem longI_any (Q : List Raw) (L : List Ent) (v : Value) (w : World) (I : Ixs w v Q L) : Calls Tryz.prog 21 #[v] w fun e w' => e = .returned (.int .i64 (if okI L then 0 else 1)) ∧ Below w.heap.size w w' := by
  obtain ⟨a, c, rfl, _, hs, hc⟩ := id I.es
  by_cases hn : okN Q.length = true
  · have HO := hid (show okI L = L.all okE by unfold okI; rw [← I.ln, hn, Bool.true_and])
    generalize hr : (if okI L then (0 : Int) else 1) = r
    have HR := hid hr
    have HI := hid I
    have hln := I.ln
    have hqn : Q.length ≤ 101 := by
      unfold okN at hn
      rw [Bool.or_eq_true] at hn
      rcases hn with h | h
      · have := of_decide_eq_true h; omega
      · have := of_decide_eq_true h; omega
    have HC := hid hc
    have HSL := hid hs
    clear I hr hc hs
    rcases okN_yes hn with h0 | ⟨h0, h0'⟩
    all_goals
      clear hn
      go_enter Tryz.func21, Tryz.ntmps21
      go_wp2_with fail
      go_loopw [3] (fun i wr => ∃ k : Nat, k ≤ L.length ∧ i = .int .i64 k ∧ Hid (pfxE L k = true) ∧ Hid (Below w.heap.size w wr)) (fun i _ => L.length - (intOf i).toNat)
      case atStart => exact ⟨0, Nat.zero_le _, rfl, hid rfl, hid (Below.refl _ _)⟩
      case round =>
        obtain ⟨k, hk, rfl, HA, HB⟩ := hrel
        by_cases hlt : k < L.length
        · have hkq : k < Q.length := by omega
          have hO := HI.out.ok k hkq hlt
          obtain ⟨b, o, ha, hcc⟩ := HC.out (by intro h; rw [h] at hkq; simp at hkq)
          subst ha
          obtain ⟨y0, y1, y2, y3, y4⟩ := hcc k hkq
          have x0 := cell_below HB.out y0
          have x1 := cell_below HB.out y1
          have x2 := cell_below HB.out y2
          have x3 := cell_below HB.out y3
          have y3' := y3
          have hkI : (k : Int) < (Q.length : Int) := by omega
          have HLT := hid hlt
          have HN := hid (fun h => okE_next hlt HA.out h)
          have HXX := hid (fun h => okE_not hlt h)
          clear hcc y0 y1 y2 y3 y4
          generalize L[k] = e at *
          generalize Q[k] = r at *
          clear hlt hkq
          obtain ⟨⟨p, q⟩, rv, pv, bk⟩ := r
          obtain ⟨⟨p', q'⟩, eR, eP, bk'⟩ := e
          obtain ⟨hm, hrq, hpk, _⟩ := hO
          simp only at hm hrq hpk x0 x1 x2 x3 y3'
          obtain ⟨rfl, rfl⟩ : p = p' ∧ q = q' := by injection hm with h1 h2; exact ⟨h1, h2⟩
          have HL := hid (long_any eR rv wr (hrq.below HB.out))
          obtain ⟨ra, rc, hrv, _⟩ := id hrq
          obtain ⟨pa, pc, hpv, _, hpc⟩ := id hpk
          subst hrv
          subst hpv
          have HPK := hid hpc
          clear hm hrq hpk hpc
          have HE := hid (show okE ((p, q), eR, eP, bk') = (decide (p.size ≤ 70) && decide (q.size ≤ 60) && okL eR && decide (eP.length ≤ 15) && okP eP) from rfl)
          by_cases h1 : p.size ≤ 70
          · have q1 : decide ((70 : Int) < (p.size : Int)) = false := decide_eq_false (by omega)
            by_cases h2 : q.size ≤ 60
            · have q2 : decide ((60 : Int) < (q.size : Int)) = false := decide_eq_false (by omega)
              cases h3 : okL eR
              · have HX := hid (HXX.out (by rw [HE.out, h3, Bool.and_false, Bool.false_and, Bool.false_and]))
                rw [h3] at HL
                clear h1 h2 h3
                go_wp2_with fail
                refine HL.out.mono ?_
                rintro e w1 ⟨rfl, rfl⟩
                go_wp2_with fail
                go_ret
                exact ⟨by rw [← HR.out, HO.out, HX.out]; rfl, HB.out⟩
              · rw [h3] at HL
                by_cases h4 : eP.length ≤ 15
                · have q4 : decide ((15 : Int) < (eP.length : Int)) = false := decide_eq_false (by omega)
                  have HE2 := hid (show okE ((p, q), eR, eP, bk') = okP eP by rw [HE.out, decide_eq_true h1, decide_eq_true h2, h3, decide_eq_true h4]; rfl)
                  have hp15 := h4
                  clear h1 h2 h3 h4
                  go_wp2_with fail
                  refine HL.out.mono ?_
                  rintro e w1 ⟨rfl, rfl⟩
                  go_wp2_with fail
                  go_loopw [4] (fun i wr' => ∃ k' : Nat, k' ≤ eP.length ∧ i = .int .i64 k' ∧ Hid (okP (eP.take k') = true) ∧ Hid (Below w.heap.size w wr')) (fun i _ => eP.length - (intOf i).toNat)
                  case atStart => exact ⟨0, Nat.zero_le _, rfl, hid rfl, HB⟩
                  case round =>
                    obtain ⟨k', hk', rfl, HA', HBq⟩ := hrel
                    have x3' := cell_below HBq.out y3'
                    by_cases hlt' : k' < eP.length
                    · obtain ⟨b', o', ha', hp'⟩ := HPK.out (by intro h; rw [h] at hlt'; simp at hlt')
                      subst ha'
                      have z := cell_below HBq.out (hp' k' hlt')
                      have hkI' : (k' : Int) < (eP.length : Int) := by omega
                      have HLT' := hid hlt'
                      have HN' := hid (fun h => okP_next hlt' HA'.out h)
                      have HX' := hid (fun h => okP_not hlt' h)
                      generalize eP[k'] = x at *
                      clear hp' hlt'
                      by_cases h5 : x.size ≤ 70
                      · have q5 : ¬ (70 : Int) < (x.size : Int) := by omega
                        have HN2 := hid (HN'.out h5)
                        clear h5
                        go_wp2_with fail
                        go_roundw
                        case rel => exact ⟨k' + 1, by have := HLT'.out; omega, by go_num, HN2, HBq⟩
                        case measure => have := HLT'.out; simp [intOf]; omega
                      · have q5 : (70 : Int) < (x.size : Int) := by omega
                        have HX := hid (HXX.out (by rw [HE2.out, HX'.out h5]))
                        clear h5
                        go_wp2_with fail
                        go_ret
                        exact ⟨by rw [← HR.out, HO.out, HX.out]; rfl, HBq.out⟩
                    · have HT' := hid (show okP eP = true by have := HA'.out; rw [List.take_of_length_le (by omega)] at this; exact this)
                      have HN2 := hid (HN.out (by rw [HE2.out, HT'.out]))
                      have hkI' : ¬ (k' : Int) < (eP.length : Int) := by omega
                      clear hlt'
                      go_wp2_with fail
                      go_roundw
                      case rel => first | exact ⟨k + 1, by have := HLT.out; omega, by go_num, HN2, HBq⟩ | exact ⟨k + 1, by have := HLT.out; omega, by omega, HN2⟩
                      case measure => have := HLT.out; simp [intOf]; omega
                · have q4 : decide ((15 : Int) < (eP.length : Int)) = true := decide_eq_true (by omega)
                  have HX := hid (HXX.out (by rw [HE.out, decide_eq_false h4, Bool.and_false, Bool.false_and]))
                  clear h1 h2 h3 h4
                  go_wp2_with fail
                  refine HL.out.mono ?_
                  rintro e w1 ⟨rfl, rfl⟩
                  go_wp2_with fail
                  go_ret
                  exact ⟨by rw [← HR.out, HO.out, HX.out]; rfl, HB.out⟩
            · have q2 : decide ((60 : Int) < (q.size : Int)) = true := decide_eq_true (by omega)
              have HX := hid (HXX.out (by rw [HE.out, decide_eq_false h2, Bool.and_false, Bool.false_and, Bool.false_and, Bool.false_and]))
              clear h1 h2
              go_wp2_with fail
              go_ret
              exact ⟨by rw [← HR.out, HO.out, HX.out]; rfl, HB.out⟩
          · have q1 : decide ((70 : Int) < (p.size : Int)) = true := decide_eq_true (by omega)
            have HX := hid (HXX.out (by rw [HE.out, decide_eq_false h1, Bool.false_and, Bool.false_and, Bool.false_and, Bool.false_and]))
            clear h1
            go_wp2_with fail
            go_ret
            exact ⟨by rw [← HR.out, HO.out, HX.out]; rfl, HB.out⟩
        · have HT := hid (show L.all okE = true by have := HA.out; unfold pfxE at this; rw [List.take_of_length_le (by omega)] at this; exact this)
          have hkI : ¬ (k : Int) < (Q.length : Int) := by omega
          go_wp2_with fail
          go_ret
          exact ⟨by rw [← HR.out, HO.out, HT.out]; rfl, HB.out⟩
  · have hf : okN Q.length = false := by simpa using hn
    have : okI L = false := by unfold okI; rw [← I.ln, hf]; rfl
    rw [this]
    exact longI_many a Q.length c w hf
end Ve
end Go.Proofs.YtanponneancajaaGreatDoor


namespace Go.Proofs.YtanponneancajaaGreatDoor
open Go.RowKit
namespace Ve
set_option maxHeartbeats 1000000 in
theorem ownM_some (b o c : Nat) (L : List Bm) (w : World) (hn : L.length ≤ 1000000) (hL : L ≠ []) (hc : ∀ j u, (flatM L)[j]? = some u → w.cell? ⟨b, o + j, none⟩ = some u) :
    Calls Tryz.prog 31 #[.slice (some ⟨b, o, none⟩) L.length c] w fun e w' => ∃ v, e = .returned v ∧ w'.ownsRow w.heap.size 51 2 v L.length (flatM L) ∧ Below w.heap.size w w' := by
  obtain ⟨i0, hi, hz0, hz1, hz2⟩ := info_parts infoMod
  have HC := hid hc
  have hpos : 0 < L.length := List.length_pos_iff.2 hL
  clear hc hL
  go_enter Tryz.func31, Tryz.ntmps31
  go_wp2_with (at_builtin; refine wpList_append_own _ rfl _ _ 52 rfl w.heap.size 51 i0 _ 2 32 Tryz.underlying52 hi hz0 hz1 hz2 rfl (by decide) _ _ _ rfl (World.ownsRow_nil _ _ _ _) ⟨b, o, none⟩ L.length c (flatM L) rfl ?qc1 ?qc2 ?qc3 ?qc4 ?qc5 ?qc6 ?_)
  case qc1 => exact flatM_len L
  case qc2 =>
    intro j u hj
    rw [Addr.add_lit]
    exact HC.out j u hj
  case qc3 => exact flat_one L
  case qc4 => rw [Nat.zero_add]; unfold maxLen; omega
  case qc5 => rw [Nat.zero_add]; omega
  case qc6 => exact Nat.le_refl _
  intro v' w1 hown hgrow hnil
  obtain ⟨va, vn, vc, rfl⟩ := own_sl hown
  have HO := hid hown
  have HG := hid hgrow
  clear hown hgrow hnil
  go_wp2_with fail
  go_ret
  refine ⟨_, rfl, by simpa using HO.out, ?_⟩
  exact (Below.refl _ w).grown HG.out (Nat.le_refl _) (by intro k hk; simp [Value.ownBlock] at hk)
set_option maxHeartbeats 1000000 in
theorem ownM_nil (w : World) : Calls Tryz.prog 31 #[.slice none 0 0] w fun e w' => e = .returned (.slice none 0 0) ∧ w' = w := by
  obtain ⟨i0, hi, hz0, hz1, hz2⟩ := info_parts infoMod
  go_enter Tryz.func31, Tryz.ntmps31
  go_wp2_with (at_builtin; refine wpList_append_own_none rfl _ _ 52 rfl w.heap.size 51 i0 2 Tryz.underlying52 hi _ _ _ rfl (World.ownsRow_nil _ _ _ _) rfl ?_)
  go_ret
  exact ⟨rfl, rfl⟩
set_option maxHeartbeats 1000000 in
theorem ownM_none (a : Addr) (c : Nat) (w : World) : Calls Tryz.prog 31 #[.slice (some a) 0 c] w fun e w' => e = .returned (.slice none 0 0) ∧ w' = w := by
  have hrun : ∀ ty, (Builtin.append_ #[52, 52] ty #[.slice none 0 0, .slice (some a) 0 c]).run Tryz.prog w = .ok (.slice none 0 0) w := fun ty => by
    obtain ⟨i0, hi, hz0, hz1, hz2⟩ := info_parts infoMod
    have hl : (loadCells a 0).run Tryz.prog w = .ok #[] w := by simpa using run_loadCells_list (P := Tryz.prog) w a [] (by simp)
    simp [Builtin.append_, run_underlying Tryz.underlying52, Builtin.lenOf, Builtin.firstCells, Go.sizeOf, typeInfo, hi, hl]
  go_enter Tryz.func31, Tryz.ntmps31
  go_wp2_with (at_builtin; refine Lib.wpList_append_run _ rfl _ _ _ _ rfl _ _ rfl rfl _ _ (hrun _) ?_)
  go_ret
  exact ⟨rfl, rfl⟩
def Em (v : Value) (L : List Bm) : Prop := ∀ a c, v = .slice a L.length c → L = [] → (Value.slice a 0 c = .slice none 0 0 ∨ ∃ a', Value.slice a 0 c = .slice (some a') 0 c)
theorem ownM_any (v : Value) (L : List Bm) (w : World) (hn : L.length ≤ 1000000) (hv : MsAt w v L) (hem : Em v L) :
    Calls Tryz.prog 31 #[v] w fun e w' => ∃ u, e = .returned u ∧ w'.ownsRow w.heap.size 51 2 u L.length (flatM L) ∧ (L = [] → u = .slice none 0 0) ∧ Below w.heap.size w w' := by
  obtain ⟨a, c, rfl, _, h⟩ := hv
  have hz : L = [] → _ := hem a c rfl
  cases L with
  | nil =>
    rcases hz rfl with hz | ⟨a', hz⟩
    · show Calls Tryz.prog 31 #[.slice a 0 c] w _
      rw [hz]
      exact (ownM_nil w).mono fun e w' ⟨h1, h2⟩ => ⟨_, h1, World.ownsRow_nil _ _ _ _, fun _ => rfl, by rw [h2]; exact Below.refl _ _⟩
    · show Calls Tryz.prog 31 #[.slice a 0 c] w _
      rw [hz]
      exact (ownM_none a' c w).mono fun e w' ⟨h1, h2⟩ => ⟨_, h1, World.ownsRow_nil _ _ _ _, fun _ => rfl, by rw [h2]; exact Below.refl _ _⟩
  | cons x r =>
    obtain ⟨b, o, rfl, h2⟩ := h (by simp)
    exact (ownM_some b o c (x :: r) w hn (by simp) (ms_flat h2)).mono fun e w' ⟨u, h1, h2, h3⟩ => ⟨u, h1, h2, (fun h => by cases h), h3⟩
end Ve
end Go.Proofs.YtanponneancajaaGreatDoor


namespace Go.Proofs.YtanponneancajaaGreatDoor
open Go.RowKit
namespace Ve
def EmT (v : Value) (X : List ByteArray) : Prop := ∀ a c, v = .slice a X.length c → X = [] → (Value.slice a 0 c = .slice none 0 0 ∨ ∃ a', Value.slice a 0 c = .slice (some a') 0 c)
theorem packs_run (X : List ByteArray) (pv : Value) (W : World) (B : Nat) (hB : B ≤ W.heap.size) (hn : X.length ≤ 1000) (h : TxAt W pv X) (he : EmT pv X) :
    ∃ v' W', (Builtin.append_ #[24, 24] 24 #[.slice none 0 0, pv]).run Tryz.prog W = .ok v' W' ∧ W'.ownsRow B 9 1 v' X.length (X.map Value.string) ∧ W.grownBy W' none := by
  obtain ⟨i0, hi, hz0, hz1, hz2⟩ := info_parts infoStr
  obtain ⟨a, c, rfl, hc, h2⟩ := h
  cases X with
  | nil =>
    rcases he a c rfl rfl with hz | ⟨a', hz⟩
    · refine ⟨.slice none 0 0, W, ?_, World.ownsRow_nil _ _ _ _, ⟨rfl, rfl, rfl, Nat.le_refl _, fun _ _ _ => rfl⟩⟩
      show (Builtin.append_ #[24, 24] 24 #[.slice none 0 0, .slice a 0 c]).run Tryz.prog W = _
      rw [hz]
      simp [Builtin.append_, run_underlying Tryz.underlying24, Builtin.lenOf, Builtin.firstCells, Go.sizeOf, typeInfo, hi]
    · refine ⟨.slice none 0 0, W, ?_, World.ownsRow_nil _ _ _ _, ⟨rfl, rfl, rfl, Nat.le_refl _, fun _ _ _ => rfl⟩⟩
      show (Builtin.append_ #[24, 24] 24 #[.slice none 0 0, .slice a 0 c]).run Tryz.prog W = _
      rw [hz]
      have hl : (loadCells a' 0).run Tryz.prog W = .ok #[] W := by simpa using run_loadCells_list (P := Tryz.prog) W a' [] (by simp)
      simp [Builtin.append_, run_underlying Tryz.underlying24, Builtin.lenOf, Builtin.firstCells, Go.sizeOf, typeInfo, hi, hl]
  | cons x r =>
    obtain ⟨b, o, rfl, hcell⟩ := h2 (by simp)
    obtain ⟨g, cap, w', hr, h3, h4, _, _⟩ := run_append_lies (P := Tryz.prog) W 24 24 B 9 i0 (.string ByteArray.empty) 1 16 Tryz.underlying24 hi hz0 hz1 hz2 rfl (by decide) (.slice none 0 0) 0 [] (World.ownsRow_nil _ _ _ _)
      ⟨b, o, none⟩ (x :: r).length c ((x :: r).map Value.string) (by simp) (fun j u hj => by
        rw [Addr.add_lit]
        obtain ⟨hj1, hj2⟩ := List.getElem?_eq_some_iff.1 hj
        have hj3 : j < (x :: r).length := by simpa using hj1
        have := hcell j hj3
        rw [this, ← hj2]; exact congrArg some (List.getElem_map ..).symm) (fun u hu => by
        obtain ⟨y, _, rfl⟩ := List.mem_map.1 hu
        rfl) (by simp) (by unfold maxLen; omega) (by omega) hB W.heap.size rfl
    rw [Nat.zero_add, List.nil_append] at h3
    rw [Nat.zero_add] at hr
    exact ⟨_, _, hr, h3, h4⟩
theorem own_tx {w : World} {B : Nat} {e : TypeId} {v : Value} {X : List ByteArray} (h : w.ownsRow B e 1 v X.length (X.map Value.string)) : TxAt w v X := by
  obtain ⟨_, ⟨hv, hn0⟩ | ⟨g, cap, cur, hv, hg, hblk, hcap, hcm, hcs, hct⟩⟩ := h
  · exact ⟨none, 0, by rw [hv, hn0], by omega, fun hL => absurd (List.length_eq_zero_iff.1 hn0) hL⟩
  · refine ⟨_, cap, hv, hcap, fun _ => ⟨g, 0, rfl, fun j hj => ?_⟩⟩
    have h1 : (X.map Value.string)[j]? = some (.string X[j]) := by simp [hj]
    rw [← hct, List.getElem?_take, if_pos (by omega)] at h1
    simp only [World.cell?, hblk]
    rw [← h1]; simp
theorem own_slN {W : World} {B n k : Nat} {e : TypeId} {v : Value} {xs : List Value} (h : W.ownsRow B e k v n xs) : ∃ a c, v = .slice a n c := by
  obtain ⟨_, ⟨hv, hn0⟩ | ⟨g, cap, cur, hv, _⟩⟩ := h
  · exact ⟨none, 0, by rw [hv, hn0]⟩
  · exact ⟨_, _, hv⟩
theorem own_kind {W W3 : World} {B B' k k' n n' : Nat} {e e' : TypeId} {v v' : Value} {xs xs' : List Value} (h : W.ownsRow B e k v n xs) (hg : W.grownBy W3 v'.ownBlock) (h' : W.ownsRow B' e' k' v' n' xs') (hne : e ≠ e') : W3.ownsRow B e k v n xs := by
  obtain ⟨hl, h | ⟨g, cap, cur, e1, e2, e3, e4, e5, e6, e7⟩⟩ := h
  · exact ⟨hl, Or.inl h⟩
  · refine ⟨hl, Or.inr ⟨g, cap, cur, e1, e2, ?_, e4, e5, e6, e7⟩⟩
    rw [hg.block g (lt_of_blk e3) (fun hh => ?_)]; exact e3
    obtain ⟨_, ⟨hv, _⟩ | ⟨g', cap', cur', hv, _, hb, _⟩⟩ := h'
    · rw [hv] at hh; simp [Value.ownBlock] at hh
    · rw [hv] at hh
      simp only [Value.ownBlock, Option.some.injEq] at hh
      subst hh
      rw [e3] at hb
      simp only [Option.some.injEq, Obj.cells.injEq] at hb
      exact hne hb.2.1
theorem own_none {W W3 : World} {B k n : Nat} {e : TypeId} {v : Value} {xs : List Value} (h : W.ownsRow B e k v n xs) (hg : W.grownBy W3 none) : W3.ownsRow B e k v n xs := by
  obtain ⟨hl, h | ⟨g, cap, cur, e1, e2, e3, e4, e5, e6, e7⟩⟩ := h
  · exact ⟨hl, Or.inl h⟩
  · refine ⟨hl, Or.inr ⟨g, cap, cur, e1, e2, ?_, e4, e5, e6, e7⟩⟩
    rw [hg.block g (lt_of_blk e3) (by simp)]; exact e3
theorem own_baseN {W : World} {B B' k n : Nat} {e : TypeId} {v : Value} {xs : List Value} (h : W.ownsRow B e k v n xs) (hB : B' ≤ B) : W.ownsRow B' e k v n xs := by
  obtain ⟨hl, h | ⟨g, cap, cur, e1, e2, e3, e4, e5, e6, e7⟩⟩ := h
  · exact ⟨hl, Or.inl h⟩
  · exact ⟨hl, Or.inr ⟨g, cap, cur, e1, Nat.le_trans hB e2, e3, e4, e5, e6, e7⟩⟩
theorem own_setN {W : World} {B k n b o : Nat} {e T : TypeId} {v x : Value} {xs : List Value} {cs : Array Value} {fr : Nat × Nat} (h : W.ownsRow B e k v n xs) (hb : W.heap[b]? = some (.cells cs T fr)) (hne : e ≠ T) : (W.setCell ⟨b, o, none⟩ x).ownsRow B e k v n xs := by
  obtain ⟨hl, h | ⟨g, cap, cur, e1, e2, e3, e4, e5, e6, e7⟩⟩ := h
  · exact ⟨hl, Or.inl h⟩
  · refine ⟨hl, Or.inr ⟨g, cap, cur, e1, e2, ?_, e4, e5, e6, e7⟩⟩
    rw [Below.heap_setCell _ _ _ _ (fun hh => ?_)]; exact e3
    subst hh
    rw [e3] at hb
    simp only [Option.some.injEq, Obj.cells.injEq] at hb
    exact hne hb.2.1
structure OwnE (B : Nat) (w : World) (r : Raw) (e : Ent) : Prop where
  m : r.1 = e.1
  rq : w.ownsRow B 51 2 r.2.1 e.2.1.length (flatM e.2.1)
  pk : w.ownsRow B 9 1 r.2.2.1 e.2.2.1.length (e.2.2.1.map Value.string)
  bk : r.2.2.2 = e.2.2.2
theorem OwnE.ok {B : Nat} {w : World} {r : Raw} {e : Ent} (h : OwnE B w r e) : RawOk w r e := ⟨h.m, own_ms h.rq, own_tx h.pk, h.bk⟩
theorem OwnE.sl {B : Nat} {w : World} {r : Raw} {e : Ent} (h : OwnE B w r e) : slR r := by
  obtain ⟨a, c, h1⟩ := own_slN h.rq
  obtain ⟨a', c', h2⟩ := own_slN h.pk
  exact ⟨⟨_, _, _, h1⟩, _, _, _, h2⟩
theorem OwnE.below {B : Nat} {w w' : World} {r : Raw} {e : Ent} (h : OwnE B w r e) (hb : Below w.heap.size w w') : OwnE B w' r e := ⟨h.m, owns_below h.rq hb, owns_below h.pk hb, h.bk⟩
theorem OwnE.noneg {B : Nat} {w w' : World} {r : Raw} {e : Ent} (h : OwnE B w r e) (hg : w.grownBy w' none) : OwnE B w' r e := ⟨h.m, own_none h.rq hg, own_none h.pk hg, h.bk⟩
theorem OwnE.kind {B B' k n : Nat} {w w' : World} {r : Raw} {e : Ent} {v : Value} {xs : List Value} (h : OwnE B w r e) (hg : w.grownBy w' v.ownBlock) (ho : w.ownsRow B' 54 k v n xs) : OwnE B w' r e :=
  ⟨h.m, own_kind h.rq hg ho (by decide), own_kind h.pk hg ho (by decide), h.bk⟩
theorem OwnE.set {B b o : Nat} {w : World} {r : Raw} {e : Ent} {x : Value} {cs : Array Value} {fr : Nat × Nat} (h : OwnE B w r e) (hb : w.heap[b]? = some (.cells cs 54 fr)) : OwnE B (w.setCell ⟨b, o, none⟩ x) r e :=
  ⟨h.m, own_setN h.rq hb (by decide), own_setN h.pk hb (by decide), h.bk⟩
structure OwnI (B : Nat) (w : World) (v : Value) (Q : List Raw) (L : List Ent) : Prop where
  ln : Q.length = L.length
  row : w.ownsRow B 54 5 v Q.length (flatR Q)
  es : ∀ j (h : j < Q.length) (h' : j < L.length), OwnE B w Q[j] L[j]
theorem OwnI.sl {B : Nat} {w : World} {v : Value} {Q : List Raw} {L : List Ent} (h : OwnI B w v Q L) : ∀ r, r ∈ Q → slR r := fun r hr => by
  obtain ⟨j, hj, rfl⟩ := List.getElem_of_mem hr
  exact (h.es j hj (by rw [← h.ln]; exact hj)).sl
theorem OwnI.ixs {B : Nat} {w : World} {v : Value} {Q : List Raw} {L : List Ent} (h : OwnI B w v Q L) : Ixs w v Q L := ⟨own_es h.sl h.row, h.ln, fun j h1 h2 => (h.es j h1 h2).ok⟩
theorem OwnI.below {B : Nat} {w w' : World} {v : Value} {Q : List Raw} {L : List Ent} (h : OwnI B w v Q L) (hb : Below w.heap.size w w') : OwnI B w' v Q L := ⟨h.ln, owns_below h.row hb, fun j h1 h2 => (h.es j h1 h2).below hb⟩
theorem OwnI.noneg {B : Nat} {w w' : World} {v : Value} {Q : List Raw} {L : List Ent} (h : OwnI B w v Q L) (hg : w.grownBy w' none) : OwnI B w' v Q L := ⟨h.ln, own_none h.row hg, fun j h1 h2 => (h.es j h1 h2).noneg hg⟩
theorem OwnI.set {B b o : Nat} {w : World} {v x : Value} {Q : List Raw} {L : List Ent} {cs : Array Value} {fr : Nat × Nat} (h : OwnI B w v Q L) (hb : w.heap[b]? = some (.cells cs 54 fr)) (hne : v.ownBlock ≠ some b) : OwnI B (w.setCell ⟨b, o, none⟩ x) v Q L := by
  refine ⟨h.ln, ?_, fun j h1 h2 => (h.es j h1 h2).set hb⟩
  obtain ⟨hl, hr | ⟨g, cap, cur, e1, e2, e3, e4, e5, e6, e7⟩⟩ := h.row
  · exact ⟨hl, Or.inl hr⟩
  · refine ⟨hl, Or.inr ⟨g, cap, cur, e1, e2, ?_, e4, e5, e6, e7⟩⟩
    rw [Below.heap_setCell _ _ _ _ (fun hh => hne (by rw [e1, hh]; rfl))]; exact e3
theorem OwnI.more {B : Nat} {w w' : World} {v v' : Value} {Q : List Raw} {L : List Ent} {k : Nat} {r : Raw} (hk : k < L.length) (h : OwnI B w v Q (L.take k)) (he : OwnE B w r L[k]) (hg : w.grownBy w' v.ownBlock)
    (ho : w'.ownsRow B 54 5 v' (Q.length + 1) (flatR Q ++ rowR r)) : OwnI B w' v' (Q ++ [r]) (L.take (k + 1)) := by
  have hl := h.ln
  have hlk : (L.take k).length = k := by rw [List.length_take]; omega
  refine ⟨?_, own_nextR ho rfl, fun j h1 h2 => ?_⟩
  · rw [List.length_append, hl, hlk, List.length_take]; show k + 1 = _; omega
  · by_cases hj : j < Q.length
    · have := (h.es j hj (by omega)).kind hg h.row
      rw [List.getElem_append_left hj, List.getElem_take]
      rw [List.getElem_take] at this; exact this
    · have hjk : j = k := by rw [List.length_append] at h1; simp at h1; omega
      subst hjk
      have hq : Q.length = j := by omega
      rw [List.getElem_append_right (by omega), List.getElem_take]
      simp only [hq, Nat.sub_self, List.getElem_cons_zero]
      exact he.kind hg h.row
def EmI (Q : List Raw) (L : List Ent) : Prop := ∀ j (h : j < Q.length) (h' : j < L.length), Em Q[j].2.1 L[j].2.1 ∧ EmT Q[j].2.2.1 L[j].2.2.1
structure Fits (e : Ent) : Prop where
  rq : e.2.1.length ≤ 1000
  pk : e.2.2.1.length ≤ 1000
set_option maxHeartbeats 8000000 in
set_option maxRecDepth 100000 in
theorem ownI_any (Q : List Raw) (L : List Ent) (v : Value) (w : World) (hn : L.length ≤ 1000) (I : Ixs w v Q L) (em : EmI Q L) (hf : ∀ e, e ∈ L → Fits e) :
    Calls Tryz.prog 22 #[v] w fun e w' => ∃ u Q', e = .returned u ∧ OwnI w.heap.size w' u Q' L ∧ Below w.heap.size w w' := by
  obtain ⟨i0, hi0, hz0, hz1, hz2⟩ := info_parts infoEnt
  obtain ⟨a, c, rfl, _, hs, hc⟩ := id I.es
  have HC := hid hc
  have HSL := hid hs
  have HI := hid I
  have HEM := hid em
  have HF := hid hf
  have hln := I.ln
  rw [hln]
  clear I hc hs em hf
  go_enter Tryz.func22, Tryz.ntmps22
  go_wp2_with fail
  go_loopw [3, 4] (fun ov i wr => ∃ k : Nat, k ≤ L.length ∧ i = .int .i64 k ∧ Hid (∃ Q', OwnI w.heap.size wr ov Q' (L.take k)) ∧ Hid (Below w.heap.size w wr)) (fun _ i _ => L.length - (intOf i).toNat)
  case atStart => exact ⟨0, Nat.zero_le _, rfl, hid ⟨[], rfl, World.ownsRow_nil _ _ _ _, fun j h => absurd h (Nat.not_lt_zero _)⟩, hid (Below.refl _ _)⟩
  case round =>
    obtain ⟨k, hk, rfl, HO, HB⟩ := hrel
    by_cases hlt : k < L.length
    · have hkq : k < Q.length := by omega
      have hO := HI.out.ok k hkq hlt
      have hE := HEM.out k hkq hlt
      have HFF := hid (HF.out L[k] (List.getElem_mem hlt))
      obtain ⟨Q', hQ'⟩ := HO.out
      have HQ := hid hQ'
      have hql : Q'.length = k := by rw [hQ'.ln, List.length_take]; omega
      obtain ⟨b, o, ha, hcc⟩ := HC.out (by intro h; rw [h] at hkq; simp at hkq)
      subst ha
      obtain ⟨y0, y1, y2, y3, y4⟩ := hcc k hkq
      have x0 := cell_below HB.out y0
      have x1 := cell_below HB.out y1
      have x2 := cell_below HB.out y2
      have x3 := cell_below HB.out y3
      have x4 := cell_below HB.out y4
      have hkI : (k : Int) < (L.length : Int) := by omega
      have HLT := hid hlt
      have HM := hid (fun (W W' : World) (u u' : Value) (r : Raw) (h : OwnI w.heap.size W u Q' (L.take k)) (he : OwnE w.heap.size W r L[k]) hg ho => OwnI.more (w' := W') (v' := u') hlt h he hg ho)
      have hsl := HSL.out Q[k] (List.getElem_mem hkq)
      have hnb : u3.ownBlock ≠ some wr.heap.size := fun hh => Nat.lt_irrefl _ (hQ'.row.lt _ hh).2
      clear hcc y0 y1 y2 y3 y4 hQ' HO
      generalize L[k] = e at *
      generalize Q[k] = r at *
      clear hlt hkq
      obtain ⟨⟨p, q⟩, rv, pv, bk⟩ := r
      obtain ⟨⟨p', q'⟩, eR, eP, bk'⟩ := e
      obtain ⟨hm, hrq, hpk, hbk⟩ := hO
      simp only at hm hrq hpk hbk x0 x1 x2 x3 x4 hE
      subst hbk
      obtain ⟨rfl, rfl⟩ : p = p' ∧ q = q' := by injection hm with h1 h2; exact ⟨h1, h2⟩
      have HRQ := hid (hrq.below HB.out)
      have HPK := hid (hpk.below HB.out)
      have HEE := hid hE
      obtain ⟨⟨ra, rn, rc, hrv⟩, pa, pn, pc, hpv⟩ := hsl
      simp only at hrv hpv
      subst hrv
      subst hpv
      clear hm hrq hpk hE
      have HB1 := hid (HB.out.alloc HB.out.size (.cells #[.string p, .string q, .slice ra rn rc, .slice pa pn pc, .bool bk] 54))
      have HBx := hid ((Below.refl wr.heap.size wr).alloc (Nat.le_refl _) (.cells #[.string p, .string q, .slice ra rn rc, .slice pa pn pc, .bool bk] 54))
      have HQ1 := hid (HQ.out.below HBx.out)
      have HOM := hid (ownM_any _ eR _ (Nat.le_trans HFF.out.rq (by decide)) (HRQ.out.below HBx.out) HEE.out.1)
      go_wp2_with fail
      refine HOM.out.mono ?_
      rintro e w1 ⟨u, rfl, hown, -, hb⟩
      have HU := hid (own_baseN hown (show w.heap.size ≤ _ from Nat.le_trans HB.out.size (by simp)))
      have HB2 := hid (HB1.out.trans (hb.mono HB1.out.size))
      have HQ2 := hid (HQ1.out.below hb)
      have HE2 := hid (show w1.heap[wr.heap.size]? = some (.cells #[.string p, .string q, .slice ra rn rc, .slice pa pn pc, .bool bk] 54 (0, 0)) by rw [hb.block _ (by simp)]; exact heap_alloc_new wr _)
      have HPK2 := hid (fun x => HPK.out.below ((HBx.out.trans (hb.mono (by simp))).setCell (p := ⟨wr.heap.size, 2, none⟩) (Nat.le_refl _) x))
      have hsz : w.heap.size ≤ wr.heap.size := HB.out.size
      have hsz1 : wr.heap.size < w1.heap.size := by have := hb.size; simp at this; omega
      obtain ⟨ua, uc, hu⟩ := own_slN hown
      subst hu
      have fz : ∀ o, w1.frozen? ⟨wr.heap.size, o, none⟩ = false := fun o => by simp [World.frozen?, HE2.out]
      clear hown hb x0 x1 x2 x3 x4 HOM
      have z0 : w1.cell? ⟨wr.heap.size, 0, none⟩ = some (.string p) := by rw [Lib.cell_of_heap HE2.out]; rfl
      have z1 : w1.cell? ⟨wr.heap.size, 1, none⟩ = some (.string q) := by rw [Lib.cell_of_heap HE2.out]; rfl
      have z2 : w1.cell? ⟨wr.heap.size, 2, none⟩ = some (.slice ra rn rc) := by rw [Lib.cell_of_heap HE2.out]; rfl
      have z3 : w1.cell? ⟨wr.heap.size, 3, none⟩ = some (.slice pa pn pc) := by rw [Lib.cell_of_heap HE2.out]; rfl
      have z4 : w1.cell? ⟨wr.heap.size, 4, none⟩ = some (.bool bk) := by rw [Lib.cell_of_heap HE2.out]; rfl
      have HRUN := hid (packs_run eP (.slice pa pn pc) (w1.setCell ⟨wr.heap.size, 2, none⟩ (.slice ua eR.length uc)) w.heap.size (by simp [World.setCell]; omega) HFF.out.pk (HPK2.out _) HEE.out.2)
      obtain ⟨pv', w3, hrun, hown3, hg3⟩ := HRUN.out
      have HRR := hid hrun
      have HB3 := hid ((HB2.out.setCell (p := ⟨wr.heap.size, 2, none⟩) hsz (.slice ua eR.length uc)).grown hg3 (by simp [World.setCell]; omega) (fun k hk => by cases hk))
      have HE3 := hid (show w3.heap[wr.heap.size]? = some (.cells #[.string p, .string q, .slice ua eR.length uc, .slice pa pn pc, .bool bk] 54 (0, 0)) by
        rw [hg3.block _ (by simp [World.setCell]; omega) (by simp)]; exact set_block HE2.out)
      have HPV := hid hown3
      have HUU := hid (own_none (own_setN HU.out HE2.out (o := 2) (x := .slice ua eR.length uc) (by decide)) hg3)
      have HQ3 := hid ((HQ2.out.set HE2.out hnb).noneg hg3)
      have hsz3 : wr.heap.size < w3.heap.size := lt_of_blk HE3.out
      obtain ⟨va, vc, hv⟩ := own_slN hown3
      subst hv
      clear hown3 hg3 HRUN hrun
      have fz3 : ∀ o, w3.frozen? ⟨wr.heap.size, o, none⟩ = false := fun o => by simp [World.frozen?, HE3.out]
      have y0 : w3.cell? ⟨wr.heap.size, 0, none⟩ = some (.string p) := by rw [Lib.cell_of_heap HE3.out]; rfl
      have y1 : w3.cell? ⟨wr.heap.size, 1, none⟩ = some (.string q) := by rw [Lib.cell_of_heap HE3.out]; rfl
      have y2 : w3.cell? ⟨wr.heap.size, 2, none⟩ = some (.slice ua eR.length uc) := by rw [Lib.cell_of_heap HE3.out]; rfl
      have y3 : w3.cell? ⟨wr.heap.size, 3, none⟩ = some (.slice pa pn pc) := by rw [Lib.cell_of_heap HE3.out]; rfl
      have y4 : w3.cell? ⟨wr.heap.size, 4, none⟩ = some (.bool bk) := by rw [Lib.cell_of_heap HE3.out]; rfl
      have HB4 := hid (HB3.out.setCell (p := ⟨wr.heap.size, 3, none⟩) hsz (.slice va eP.length vc))
      have HQ4 := hid (HQ3.out.set (o := 3) (x := .slice va eP.length vc) HE3.out hnb)
      have HEN := hid (show OwnE w.heap.size (w3.setCell ⟨wr.heap.size, 3, none⟩ (.slice va eP.length vc)) ((p, q), .slice ua eR.length uc, .slice va eP.length vc, bk) ((p, q), eR, eP, bk) from
        ⟨rfl, own_setN HUU.out HE3.out (by decide), own_setN HPV.out HE3.out (by decide), rfl⟩)
      have hk1000 : k < 1000 := by omega
      go_wp2_with (at_builtin; first
        | refine wpList_append_own _ rfl _ _ 42 rfl w.heap.size 54 i0 _ 5 88 Tryz.underlying42 hi0 hz0 hz1 hz2 rfl (by decide) _ _ _ rfl (HQ4.out.row.alloc _) ⟨w3.heap.size, 0, none⟩ 1 1 [.string p, .string q, .slice ua eR.length uc, .slice va eP.length vc, .bool bk] rfl rfl ?c1 ?c2 ?c3 ?c4 ?c5 ?_
        | refine Lib.wpList_append_run _ rfl _ _ _ _ rfl _ _ rfl rfl _ _ HRR.out ?_)
      case c1 => exact World.news_of_block (cs := #[.string p, .string q, .slice ua eR.length uc, .slice va eP.length vc, .bool bk]) (t := 54) (fr := (0, 0)) (by have := heap_alloc_new (w3.setCell ⟨wr.heap.size, 3, none⟩ (.slice va eP.length vc)) (.cells #[.string p, .string q, .slice ua eR.length uc, .slice va eP.length vc, .bool bk] 54); simpa [World.setCell] using this)
      case c2 =>
        intro u hu
        simp at hu
        rcases hu with rfl | rfl | rfl | rfl | rfl <;> rfl
      case c3 => unfold maxLen; omega
      case c4 => omega
      case c5 => simp [World.setCell]; omega
      intro v' w5 hown hgrow _
      have HBA := hid (HB4.out.alloc HB4.out.size (.cells #[.string p, .string q, .slice ua eR.length uc, .slice va eP.length vc, .bool bk] 54))
      have HB5 := hid (HBA.out.grown hgrow HBA.out.size (fun k hk => (HQ4.out.row.lt k hk).1))
      have HBy := hid ((Below.refl _ (w3.setCell ⟨wr.heap.size, 3, none⟩ (.slice va eP.length vc))).alloc (Nat.le_refl _) (.cells #[.string p, .string q, .slice ua eR.length uc, .slice va eP.length vc, .bool bk] 54))
      have HR := hid (HM.out _ _ _ _ ((p, q), .slice ua eR.length uc, .slice va eP.length vc, bk) (HQ4.out.below HBy.out) (HEN.out.below HBy.out) hgrow (by rw [hql]; exact hown))
      clear hown hgrow y0 y1 y2 y3 y4 fz3 z0 z1 z2 z3 z4 fz
      go_wp2_with fail
      go_roundw
      case rel => exact ⟨k + 1, by have := HLT.out; omega, by go_num, hid ⟨_, HR.out⟩, HB5⟩
      case measure => have := HLT.out; simp [intOf]; omega
    · have HTR := hid (show L.take k = L from List.take_of_length_le (by omega))
      have hkI : ¬ (k : Int) < (L.length : Int) := by omega
      clear hlt
      go_wp2_with fail
      go_ret
      obtain ⟨Q', hQ'⟩ := HO.out
      rw [HTR.out] at hQ'
      exact ⟨_, rfl, ⟨Q', hQ'⟩, HB.out⟩
end Ve
end Go.Proofs.YtanponneancajaaGreatDoor


namespace Go.Proofs.YtanponneancajaaGreatDoor
open Go.RowKit Go.Shelf
namespace Ve
attribute [local go_sem] Oper.semAt_some
def upT (f : Nat → ByteArray) (k : Nat) : List ByteArray := (List.range k).map f
theorem upT_succ (f : Nat → ByteArray) (k : Nat) : upT f (k + 1) = upT f k ++ [f k] := by simp [upT, List.range_succ]
theorem upT_length (f : Nat → ByteArray) (k : Nat) : (upT f k).length = k := by simp [upT]
theorem upT_take (X : List ByteArray) {k : Nat} (hk : k ≤ X.length) : upT (fun j => X[j]?.getD ByteArray.empty) k = X.take k := by
  apply List.ext_getElem
  · simp [upT, hk]
  · intro i h1 h2
    have : i < X.length := by simp [upT] at h1; omega
    simp [upT, this]
set_option maxRecDepth 100000 in
set_option maxHeartbeats 4000000 in
theorem values1_in (F : Fence) (n : Nat) (hf : F.fn 159) (hro : F.round = none) (hn : 1 ≤ n) (l Bs n₀ b off len cap : Nat) (X : List ByteArray) (hreach : len ≤ 1000000) (hb : b < n₀) (J Jx : List ByteArray → World → Prop)
    (hY : ∀ pre x W, J pre W → pre.length < len → YieldAt F (n - 1) Tryz.prog l #[.string x] W fun e W' =>
      (e = .returned (.bool true) ∧ J (pre ++ [x]) W' ∧ Below n₀ W W') ∨ (e = .returned (.bool false) ∧ Jx (pre ++ [x]) W'))
    (W : World) (hBs : W.cell? ⟨Bs, 0, none⟩ = some (.slice (some ⟨b, off, none⟩) len cap)) (hc : ∀ j, j < len → W.cell? ⟨b, off + j, none⟩ = some (.string (X[j]?.getD ByteArray.empty))) (h0 : J [] W) :
    CallsIn F n Tryz.prog 159 #[.func (.yield l) #[] #[], .pointer (some ⟨Bs, 0, none⟩)] W fun e W' => (∃ v, e = .returned v) ∧
      ((∃ ys, ys = upT (fun j => X[j]?.getD ByteArray.empty) len ∧ J ys W') ∨ (∃ pre, (∃ k, k ≤ len ∧ pre = upT (fun j => X[j]?.getD ByteArray.empty) k) ∧ Jx pre W')) := by
  refine callsIn_of_wp Tryz.func159 rfl hf ?_ hro
  simp only [Tryz.ntmps159, List.size_toArray, List.length_cons, List.length_nil, Nat.reduceAdd, Nat.reduceSub, Array.replicate_succ, Array.replicate_zero, List.push_toArray, List.append_toArray, List.nil_append, List.cons_append]
  gi_wp2
  gi_loopw [7] (fun i wr => ∃ k : Nat, k ≤ len ∧ i = .int .i64 k ∧ J (upT (fun j => X[j]?.getD ByteArray.empty) k) wr ∧ Below n₀ W wr)
    (fun i _ => len - (intOf i).toNat)
  case atStart => exact ⟨0, Nat.zero_le _, rfl, h0, Below.refl _ _⟩
  case round =>
    obtain ⟨k, hk, rfl, hJs, hnx⟩ := hrel
    have hcx : k < len → wr.cell? ⟨b, off + k, none⟩ = some (.string (X[k]?.getD ByteArray.empty)) := fun h => (hnx.cell (p := ⟨b, off + k, none⟩) hb).trans (hc k h)
    by_cases hlt : k < len
    · obtain ⟨fn, tmps, assign, body, hy, hR⟩ := hY _ (X[k]?.getD ByteArray.empty) wr hJs (by rw [upT_length]; exact hlt)
      have hcx' := hcx hlt
      gi_wp2
      refine hR.mono ?_
      rintro e W3 (⟨rfl, hJ3, hk3⟩ | ⟨rfl, hJx3⟩)
      · gi_wp2
        go_roundw
        case rel => exact ⟨k + 1, by omega, by simp, by rw [upT_succ]; exact hJ3, hnx.trans hk3⟩
        case measure => simp [intOf]; omega
      · gi_wp2
        refine bodyPost_ret (results_none rfl _ _ _) rfl ?_
        exact ⟨⟨_, rfl⟩, .inr ⟨_, ⟨k + 1, by omega, (upT_succ _ _).symm⟩, hJx3⟩⟩
    · obtain rfl : k = len := by omega
      gi_wp2
      go_end0
      exact ⟨⟨_, rfl⟩, .inl ⟨_, rfl, hJs⟩⟩
set_option maxRecDepth 100000 in
set_option maxHeartbeats 1000000 in
theorem values1_nil (F : Fence) (n : Nat) (hf : F.fn 159) (hro : F.round = none) (l Bs : Nat) (a : Option Addr) (c : Nat) (J : List ByteArray → World → Prop) (W : World) (hBs : W.cell? ⟨Bs, 0, none⟩ = some (.slice a 0 c)) (h0 : J [] W) :
    CallsIn F n Tryz.prog 159 #[.func (.yield l) #[] #[], .pointer (some ⟨Bs, 0, none⟩)] W fun e W' => (∃ v, e = .returned v) ∧ J [] W' := by
  refine callsIn_of_wp Tryz.func159 rfl hf ?_ hro
  simp only [Tryz.ntmps159, List.size_toArray, List.length_cons, List.length_nil, Nat.reduceAdd, Nat.reduceSub, Array.replicate_succ, Array.replicate_zero, List.push_toArray, List.append_toArray, List.nil_append, List.cons_append]
  gi_wp2
  gi_loopw [7] (fun i wr => i = .int .i64 0 ∧ J [] wr) (fun _ _ => 0)
  case atStart => exact ⟨rfl, h0⟩
  case round =>
    obtain ⟨rfl, hJs⟩ := hrel
    gi_wp2
    go_end0
    exact ⟨⟨_, rfl⟩, hJs⟩
set_option maxHeartbeats 1000000 in
theorem values_in (F : Fence) (n : Nat) (hf : F.fn 118) (hro : F.round = none) (a : Option Addr) (len cap : Nat) (w : World) :
    CallsIn F n Tryz.prog 118 #[.slice a len cap] w fun e w' => e = .returned (.func (.func 159) #[] #[.pointer (some ⟨w.heap.size, 0, none⟩)]) ∧ w' = w.alloc (.cells #[.slice a len cap] 24) := by
  refine callsIn_of_wp Tryz.func118 rfl hf ?_ hro
  simp only [Tryz.ntmps118, List.size_toArray, List.length_cons, List.length_nil, Nat.reduceAdd, Nat.reduceSub, Array.replicate_succ, Array.replicate_zero, List.push_toArray, List.append_toArray, List.nil_append, List.cons_append]
  gi_wp2
  go_ret
  exact ⟨rfl, rfl⟩
theorem values_stops (F : Fence) (n : Nat) (hf : F.fn 159) (hro : F.round = none) (hn : 1 ≤ n) (Bs n₀ : Nat) (sv : Value) (X : List ByteArray) (hreach : X.length ≤ 1000000) (w : World) (hBs : Bs < w.heap.size) (hn₀ : n₀ ≤ w.heap.size)
    (hc : w.cell? ⟨Bs, 0, none⟩ = some sv) (w0 : World) (hw0 : w0.heap.size = n₀) (hI : TxAt w0 sv X) (hbl : Below n₀ w0 w) :
    SeqStopsK F n Tryz.prog 159 #[.pointer (some ⟨Bs, 0, none⟩)] (fun x : ByteArray => #[Value.string x]) (Below n₀) (fun ys => ys = X) (fun pre => pre <+: X) X.length w := fun l J Jx W hW _ _ hY h0 => by
  have hc' := (hW.cell (p := ⟨Bs, 0, none⟩) hBs).trans hc
  obtain ⟨a, cap, rfl, _, hcs⟩ := hI
  cases X with
  | nil => exact (values1_nil F n hf hro l Bs a cap J W hc' h0).mono fun e W' ⟨he, hj⟩ => ⟨he, .inl ⟨_, rfl, hj⟩⟩
  | cons x r =>
    obtain ⟨b, o, rfl, hcc⟩ := hcs (by simp)
    have hb : b < n₀ := by
      have := hcc 0 (by simp)
      rw [← hw0]
      exact lt_of_cell this
    refine (values1_in F n hf hro hn l Bs n₀ b o (x :: r).length cap (x :: r) hreach hb J Jx hY W hc' (fun j hj => ?_) h0).mono ?_
    · rw [(hbl.trans (hW.mono hn₀)).cell (p := ⟨b, o + j, none⟩) hb, hcc j hj, List.getElem?_eq_getElem hj]; rfl
    · rintro e W' ⟨he, ⟨ys, rfl, hj⟩ | ⟨pre, ⟨k, hk, rfl⟩, hj⟩⟩
      · exact ⟨he, .inl ⟨_, by rw [upT_take _ (Nat.le_refl _), List.take_length], hj⟩⟩
      · exact ⟨he, .inr ⟨_, by rw [upT_take _ hk]; exact List.take_prefix _ _, hj⟩⟩
set_option maxRecDepth 100000 in
set_option maxHeartbeats 4000000 in
theorem appSeq_in (F : Fence) (n : Nat) (hfa : F.fn 210) (hf : F.fn 159) (hro : F.round = none) (hn : 3 ≤ n) (X : List ByteArray) (hX : X.length ≤ 1000000) (sv : Value) (w : World) (Bs : Nat) (hBs : Bs < w.heap.size)
    (hc : w.cell? ⟨Bs, 0, none⟩ = some sv) (hI : TxAt w sv X) :
    CallsIn F n Tryz.prog 210 #[.slice none 0 0, .func (.func 159) #[] #[.pointer (some ⟨Bs, 0, none⟩)]] w fun e W' => ∃ v, e = .returned v ∧ W'.ownsRow w.heap.size 9 1 v X.length (X.map Value.string) ∧ (v = .slice none 0 0 ↔ X = []) ∧ Below w.heap.size w W' := by
  have h1 : 1 ≤ n := by omega
  obtain ⟨i0, hi, hz0, hz1, hz2⟩ := info_parts infoStr
  refine callsIn_of_wp_marks Tryz.func210 rfl hfa ?_ hro
  simp only [Tryz.ntmps210, List.size_toArray, List.length_cons, List.length_nil, Nat.reduceAdd, Nat.reduceSub, Array.replicate_succ, Array.replicate_zero, List.push_toArray, List.append_toArray, List.nil_append, List.cons_append]
  gi_wp2
  have bO := Boxed.new w 24 (.slice none 0 0)
  have hB0 : Below w.heap.size w (w.alloc (.cells #[.slice none 0 0] 24)) := (Below.refl _ w).alloc (Nat.le_refl _) _
  refine wpIn_rangeFunc_ownG hro h1 (gf := 159) (lb := #[.pointer (some ⟨Bs, 0, none⟩)]) rfl hf (enters_of Tryz.func159 (by kernel_rfl) rfl)
    (values_stops F (n - 1) hf hro (by omega) Bs w.heap.size sv X hX _ (by simp; omega) (by simp) ((hB0.cell (p := ⟨Bs, 0, none⟩) hBs).trans hc) w rfl hI hB0) belowK_t (belowK_b (by simp)) (Below.refl _ _) (fun _ => rfl)
    (fun pre W => (∃ v, Boxed W w.heap.size 24 v ∧ W.ownsRow w.heap.size 9 1 v pre.length (pre.map Value.string) ∧ (v = .slice none 0 0 ↔ pre = [])) ∧ Below w.heap.size w W)
    (fun _ _ _ => False)
    (OwnFrom.and (Own.from (holdsRow_own w.heap.size w.heap.size 24 9 1 (fun pre => pre.length) (fun pre => pre.map Value.string) (fun pre v => v = .slice none 0 0 ↔ pre = [])) _) (ownFrom_below (Nat.le_refl _) (by simp)))
    (fun _ _ _ _ _ hs _ _ => hs)
    ⟨⟨_, bO, World.ownsRow_nil _ _ _ _, by simp⟩, hB0⟩
    (fun x => { tmps := #[.slice none 0 0, .func (.func 159) #[] #[.pointer (some ⟨Bs, 0, none⟩)], .pointer (some ⟨w.heap.size, 0, none⟩), undef, .slice none 0 0, .string x, .func (.func 159) #[] #[.pointer (some ⟨Bs, 0, none⟩)], .string x, undef, undef, undef, undef, undef], defers := [] }) ?assign ?body ?done ?stop
  case assign =>
    intro l x W K hK
    gi_wp2
    exact hK
  case body =>
    rintro l pre x W ⟨⟨v, hv, hrow, hnil⟩, hB⟩ hlt
    have hc := hv.cell
    gi_wp2_with (gi_at_builtin; refine wpListIn_append_own _ rfl _ _ 24 rfl w.heap.size 9 i0 (.string ByteArray.empty) 1 16 Tryz.underlying24 hi hz0 hz1 hz2 rfl (by decide) _ _ _ rfl (hrow.alloc _) ⟨W.heap.size, 0, none⟩ 1 1 [.string x] rfl rfl (cell_one_new _ _ _) (by simp [Value.oneCell']) (by unfold maxLen; omega) (by omega) (by have := hB.size; simp; omega) ?_; intro v' w1 hown' hgrow _; obtain ⟨g', cap', rfl⟩ := ownsRow_succ hown'; obtain ⟨hv1, hv2, hr2, hk2, hb2⟩ := hv.appended (by decide) hrow hB.size (Nat.le_refl _) hown' hgrow; have hc1 := hv1.cell; have hf1 := hv1.frozen)
    exact ⟨hk2.from _, hb2, ⟨_, hv2, by simpa using hr2, by simp⟩, hB.trans hb2⟩
  case done =>
    rintro D ys W hD rfl ⟨⟨v, hv, hrow, hnil⟩, hB⟩ hK
    have hc := hv.cell
    gi_wp2
    refine ⟨by simp, .inl ⟨_, _, rfl, run_takeDeferred hK, ?_⟩⟩
    exact ⟨_, results_tmp rfl _ _ _, v, rfl, ownsRow_putObj hrow _ hK rfl, hnil, hB.trans (belowK_b (w := w) (Nat.le_refl _) W D _ _ (by simp at hD; omega) hK rfl rfl)⟩
  case stop =>
    rintro D c pre W _ _ h _
    exact h.elim
set_option maxHeartbeats 1000000 in
theorem collect_in (F : Fence) (n : Nat) (hfc : F.fn 157) (hfa : F.fn 210) (hf : F.fn 159) (hro : F.round = none) (hn : 4 ≤ n) (X : List ByteArray) (hX : X.length ≤ 1000000) (sv : Value) (w : World) (Bs : Nat) (hBs : Bs < w.heap.size)
    (hc : w.cell? ⟨Bs, 0, none⟩ = some sv) (hI : TxAt w sv X) :
    CallsIn F n Tryz.prog 157 #[.func (.func 159) #[] #[.pointer (some ⟨Bs, 0, none⟩)]] w fun e W' => ∃ v, e = .returned v ∧ W'.ownsRow w.heap.size 9 1 v X.length (X.map Value.string) ∧ (v = .slice none 0 0 ↔ X = []) ∧ Below w.heap.size w W' := by
  have h1 : 1 ≤ n := by omega
  refine callsIn_of_wp Tryz.func157 rfl hfc ?_ hro
  simp only [Tryz.ntmps157, List.size_toArray, List.length_cons, List.length_nil, Nat.reduceAdd, Nat.reduceSub, Array.replicate_succ, Array.replicate_zero, List.push_toArray, List.append_toArray, List.nil_append, List.cons_append]
  gi_wp2_with (gi_at_call 210; refine (appSeq_in F (n - 1) hfa hf hro (by omega) X hX sv _ Bs hBs hc hI).mono ?_; rintro e w' ⟨v, rfl, hrow, hnil, hb⟩)
  go_ret
  exact ⟨v, rfl, hrow, hnil, hb⟩
theorem collect_any (X : List ByteArray) (hX : X.length ≤ 1000000) (sv : Value) (w : World) (Bs : Nat) (hBs : Bs < w.heap.size) (hc : w.cell? ⟨Bs, 0, none⟩ = some sv) (hI : TxAt w sv X) :
    Calls Tryz.prog 157 #[.func (.func 159) #[] #[.pointer (some ⟨Bs, 0, none⟩)]] w fun e W' => ∃ v, e = .returned v ∧ W'.ownsRow w.heap.size 9 1 v X.length (X.map Value.string) ∧ (v = .slice none 0 0 ↔ X = []) ∧ Below w.heap.size w W' :=
  (callsIn_wide (n := 4)).1 (collect_in Fence.wide 4 trivial trivial trivial rfl (by omega) X hX sv w Bs hBs hc hI)
end Ve
end Go.Proofs.YtanponneancajaaGreatDoor


namespace Go.Proofs
open Go.Shelf
def Tryz.lays190_ren : Go.Shelf.Ren := ⟨fun | 190 => 158 | 125 => 212 | 258 => 211 | 128 => 240 | 129 => 222 | 302 => 231 | 303 => 232 | 304 => 233 | 305 => 234 | 306 => 235 | 307 => 236 | 308 => 237 | 309 => 238 | 310 => 239 | 333 => 268 | 329 => 269 | 330 => 270 | 334 => 271 | 335 => 272 | 336 => 273 | 344 => 283 | n => n, fun | 31 => 24 | 9 => 9 | 3 => 3 | 46 => 195 | 0 => 0 | 51 => 231 | 53 => 214 | 4 => 4 | 183 => 239 | 182 => 238 | 131 => 243 | 5 => 5 | 218 => 267 | 222 => 271 | 228 => 280 | 229 => 71 | n => n, fun | n => n⟩
theorem Tryz.lays190 : Go.Proofs.Lays.n190 Tryz.prog Tryz.lays190_ren := {
  mixed := by kernel_rfl
  f125 := Tryz.func212.trans (congrArg some (by kernel_rfl))
  f128 := Tryz.func240.trans (congrArg some (by kernel_rfl))
  f129 := Tryz.func222.trans (congrArg some (by kernel_rfl))
  f190 := Tryz.func158.trans (congrArg some (by kernel_rfl))
  f258 := Tryz.func211.trans (congrArg some (by kernel_rfl))
  f302 := Tryz.func231.trans (congrArg some (by kernel_rfl))
  f303 := Tryz.func232.trans (congrArg some (by kernel_rfl))
  f304 := Tryz.func233.trans (congrArg some (by kernel_rfl))
  f305 := Tryz.func234.trans (congrArg some (by kernel_rfl))
  f306 := Tryz.func235.trans (congrArg some (by kernel_rfl))
  f307 := Tryz.func236.trans (congrArg some (by kernel_rfl))
  f308 := Tryz.func237.trans (congrArg some (by kernel_rfl))
  f309 := Tryz.func238.trans (congrArg some (by kernel_rfl))
  f310 := Tryz.func239.trans (congrArg some (by kernel_rfl))
  f329 := Tryz.func269.trans (congrArg some (by kernel_rfl))
  f330 := Tryz.func270.trans (congrArg some (by kernel_rfl))
  f333 := Tryz.func268.trans (congrArg some (by kernel_rfl))
  f334 := Tryz.func271.trans (congrArg some (by kernel_rfl))
  f335 := Tryz.func272.trans (congrArg some (by kernel_rfl))
  f336 := Tryz.func273.trans (congrArg some (by kernel_rfl))
  f344 := Tryz.func283.trans (congrArg some (by kernel_rfl))
  t0 := Tryz.underlying0
  a0 := Tryz.isAgg0
  z0 := Tryz.sizeOf0
  v0 := Tryz.zeroValue0
  t3 := Tryz.underlying3
  a3 := Tryz.isAgg3
  z3 := Tryz.sizeOf3
  v3 := Tryz.zeroValue3
  t4 := Tryz.underlying4
  a4 := Tryz.isAgg4
  z4 := Tryz.sizeOf4
  v4 := Tryz.zeroValue4
  t5 := Tryz.underlying5
  a5 := Tryz.isAgg5
  z5 := Tryz.sizeOf5
  v5 := Tryz.zeroValue5
  t9 := Tryz.underlying9
  a9 := Tryz.isAgg9
  z9 := Tryz.sizeOf9
  v9 := Tryz.zeroValue9
  t31 := Tryz.underlying24
  a31 := Tryz.isAgg24
  z31 := Tryz.sizeOf24
  v31 := Tryz.zeroValue24
  t46 := Tryz.underlying195
  a46 := Tryz.isAgg195
  z46 := Tryz.sizeOf195
  v46 := Tryz.zeroValue195
  t51 := Tryz.underlying231
  a51 := Tryz.isAgg231
  z51 := Tryz.sizeOf231
  v51 := Tryz.zeroValue231
  t53 := Tryz.underlying214
  a53 := Tryz.isAgg214
  z53 := Tryz.sizeOf214
  v53 := Tryz.zeroValue214
  t131 := Tryz.underlying243
  a131 := Tryz.isAgg243
  z131 := Tryz.sizeOf243
  v131 := Tryz.zeroValue243
  t182 := Tryz.underlying238
  a182 := Tryz.isAgg238
  z182 := Tryz.sizeOf238
  v182 := Tryz.zeroValue238
  t183 := Tryz.underlying239
  a183 := Tryz.isAgg239
  z183 := Tryz.sizeOf239
  v183 := Tryz.zeroValue239
  t218 := Tryz.underlying267
  a218 := Tryz.isAgg267
  z218 := Tryz.sizeOf267
  v218 := Tryz.zeroValue267
  t222 := Tryz.underlying271
  a222 := Tryz.isAgg271
  z222 := Tryz.sizeOf271
  v222 := Tryz.zeroValue271
  t228 := Tryz.underlying280
  a228 := Tryz.isAgg280
  z228 := Tryz.sizeOf280
  v228 := Tryz.zeroValue280
  t229 := Tryz.underlying71
  a229 := Tryz.isAgg71
  z229 := Tryz.sizeOf71
  v229 := Tryz.zeroValue71 }
open Go.Sort Go.RowKit in
theorem Tryz.slices_Sort_string (blk off cap : Nat) (ss : List (List UInt8)) (w : World) (hH : Holds encStr w blk off ss.toArray) (hblk : blk < w.heap.size) (hsz : ss.length < 4611686018427387904) :
    Calls Tryz.prog 158 #[.slice (some ⟨blk, off, none⟩) ss.length cap] w fun e w' =>
      e = .returned (.tuple #[]) ∧ ∃ n os, w' = grow (putRow encStr (Sort.ahead w n) blk off (ss.mergeSort fun x y => decide (x ≤ y)).toArray) os := Any.slices_Sort_string Tryz.lays190 blk off cap ss w hH hblk hsz
def Tryz.lays193_ren : Go.Shelf.Ren := ⟨fun | 193 => 156 | n => n, fun | 31 => 24 | 9 => 9 | 4 => 4 | 3 => 3 | 0 => 0 | n => n, fun | n => n⟩
theorem Tryz.lays193 : Go.Proofs.Lays.n193 Tryz.prog Tryz.lays193_ren := {
  mixed := by kernel_rfl
  f193 := Tryz.func156.trans (congrArg some (by kernel_rfl))
  t0 := Tryz.underlying0
  a0 := Tryz.isAgg0
  z0 := Tryz.sizeOf0
  v0 := Tryz.zeroValue0
  t3 := Tryz.underlying3
  a3 := Tryz.isAgg3
  z3 := Tryz.sizeOf3
  v3 := Tryz.zeroValue3
  t4 := Tryz.underlying4
  a4 := Tryz.isAgg4
  z4 := Tryz.sizeOf4
  v4 := Tryz.zeroValue4
  t9 := Tryz.underlying9
  a9 := Tryz.isAgg9
  z9 := Tryz.sizeOf9
  v9 := Tryz.zeroValue9
  t31 := Tryz.underlying24
  a31 := Tryz.isAgg24
  z31 := Tryz.sizeOf24
  v31 := Tryz.zeroValue24 }
open Go.RowKit Go.Lib in
theorem Tryz.slices_Equal_string (b1 o1 n c b2 o2 m d : Nat) (xs ys : List ByteArray) (w : World) (hx : n ≤ xs.length) (hy : m ≤ ys.length) (hbig : n ≤ 9223372036854775807) (hbig2 : m ≤ 9223372036854775807) (hc1 : ∀ j, j < xs.length → w.cell? ⟨b1, o1 + j, none⟩ = some (.string (xs.getD j ByteArray.empty))) (hc2 : ∀ j, j < ys.length → w.cell? ⟨b2, o2 + j, none⟩ = some (.string (ys.getD j ByteArray.empty))) :
    Calls Tryz.prog 156 #[.slice (some ⟨b1, o1, none⟩) n c, .slice (some ⟨b2, o2, none⟩) m d] w fun e w' => e = .returned (.bool (decide (xs.take n = ys.take m))) ∧ ∃ q, w' = w.drewN q := Any.slices_Equal_string Tryz.lays193 b1 o1 n c b2 o2 m d xs ys w hx hy hbig hbig2 hc1 hc2
open Go.RowKit Go.Lib in
theorem Tryz.slices_Equal_string_empty (a1 a2 : Option Addr) (c m d : Nat) (w : World) (hbig2 : m ≤ 9223372036854775807) :
    Calls Tryz.prog 156 #[.slice a1 0 c, .slice a2 m d] w fun e w' => e = .returned (.bool (decide (m = 0))) ∧ w' = w := Any.slices_Equal_string_empty Tryz.lays193 a1 a2 c m d w hbig2
def Tryz.lays194_ren : Go.Shelf.Ren := ⟨fun | 194 => 116 | n => n, fun | 31 => 24 | 9 => 9 | 3 => 3 | 4 => 4 | 0 => 0 | n => n, fun | n => n⟩
theorem Tryz.lays194 : Go.Proofs.Lays.n194 Tryz.prog Tryz.lays194_ren := {
  mixed := by kernel_rfl
  f194 := Tryz.func116.trans (congrArg some (by kernel_rfl))
  t0 := Tryz.underlying0
  a0 := Tryz.isAgg0
  z0 := Tryz.sizeOf0
  v0 := Tryz.zeroValue0
  t3 := Tryz.underlying3
  a3 := Tryz.isAgg3
  z3 := Tryz.sizeOf3
  v3 := Tryz.zeroValue3
  t4 := Tryz.underlying4
  a4 := Tryz.isAgg4
  z4 := Tryz.sizeOf4
  v4 := Tryz.zeroValue4
  t9 := Tryz.underlying9
  a9 := Tryz.isAgg9
  z9 := Tryz.sizeOf9
  v9 := Tryz.zeroValue9
  t31 := Tryz.underlying24
  a31 := Tryz.isAgg24
  z31 := Tryz.sizeOf24
  v31 := Tryz.zeroValue24 }
open Go.RowKit Go.Lib Go.Sort in
theorem Tryz.slices_Compact_string (blk off cap : Nat) (zs : List (List UInt8)) (w : World) (hH : Holds encStr w blk off zs.toArray) (hsz : zs.length ≤ 9223372036854775807) (hcap : zs.length ≤ cap) :
    Calls Tryz.prog 116 #[.slice (some ⟨blk, off, none⟩) zs.length cap] w fun e w' => e = .returned (.slice (some ⟨blk, off, none⟩) (Lib.compact zs).length cap) ∧ ∃ q, w' = putRow encStr (Sort.ahead w q) blk off (Lib.compact zs ++ List.replicate (zs.length - (Lib.compact zs).length) []).toArray := Any.slices_Compact_string Tryz.lays194 blk off cap zs w hH hsz hcap
open Go.RowKit Go.Lib Go.Sort in
theorem Tryz.slices_Compact_string_empty (a : Option Addr) (cap : Nat) (w : World) :
    Calls Tryz.prog 116 #[.slice a 0 cap] w fun e w' => e = .returned (.slice a 0 cap) ∧ w' = w := Any.slices_Compact_string_empty Tryz.lays194 a cap w
open Go.RowKit Go.Sort in
theorem Tryz.slices_Sort_string_none (p : Option Addr) (cap : Nat) (w : World) :
    Calls Tryz.prog 158 #[.slice p 0 cap] w fun e w' => e = .returned (.tuple #[]) ∧ w' = w := Any.slices_Sort_string_none Tryz.lays190 p cap w
open Go.RowKit Go.Lib in
theorem Tryz.slices_Equal_string_lens (a1 a2 : Option Addr) (n c m d : Nat) (w : World) (hnm : n ≠ m) :
    Calls Tryz.prog 156 #[.slice a1 n c, .slice a2 m d] w fun e w' => e = .returned (.bool false) ∧ w' = w := Any.slices_Equal_string_lens Tryz.lays193 a1 a2 n c m d w hnm
end Go.Proofs


namespace Go.Proofs.YtanponneancajaaGreatDoor
open Go.RowKit Go.Shelf Go.Sort
namespace Ve
theorem map_bl (X : List ByteArray) : (bl X).map encStr = X.map Value.string := by simp [bl]
def ba' (t : List UInt8) : ByteArray := ⟨t.toArray⟩
def srtB (Z : List (List UInt8)) : List (List UInt8) := Z.mergeSort fun x y => decide (x ≤ y)
def risB (Z : List (List UInt8)) : List (List UInt8) := Lib.compact (srtB Z)
theorem srtB_len (Z : List (List UInt8)) : (srtB Z).length = Z.length := by simp [srtB]
theorem values_any (a : Option Addr) (len cap : Nat) (w : World) :
    Calls Tryz.prog 118 #[.slice a len cap] w fun e w' => e = .returned (.func (.func 159) #[] #[.pointer (some ⟨w.heap.size, 0, none⟩)]) ∧ w' = w.alloc (.cells #[.slice a len cap] 24) :=
  (callsIn_wide (n := 4)).1 (values_in Fence.wide 4 trivial rfl a len cap w)
set_option maxRecDepth 100000 in
set_option maxHeartbeats 2000000 in
theorem sorted_any (X : List ByteArray) (hX : X.length ≤ 1000000) (sv : Value) (w : World) (Bs : Nat) (hBs : Bs < w.heap.size) (hc : w.cell? ⟨Bs, 0, none⟩ = some sv) (hI : TxAt w sv X) :
    Calls Tryz.prog 117 #[.func (.func 159) #[] #[.pointer (some ⟨Bs, 0, none⟩)]] w fun e W' => ∃ v, e = .returned v ∧ W'.ownsRow w.heap.size 9 1 v X.length ((srtB (bl X)).map encStr) ∧ Below w.heap.size w W' := by
  have HCL := hid (collect_any X hX sv w Bs hBs hc hI)
  clear hc hI
  go_enter Tryz.func117, Tryz.ntmps117
  go_wp2_with fail
  refine HCL.out.mono ?_
  rintro e W ⟨v, rfl, hrow, hnil, hb⟩
  have HB := hid hb
  have HROW := hid hrow
  rcases hrow.2 with ⟨rfl, hz⟩ | ⟨gb, cap, cur, rfl, hbase, hgb, r1, r2, r3, r4⟩
  · have hss : X = [] := List.eq_nil_of_length_eq_zero hz
    subst hss
    have HS := hid (Tryz.slices_Sort_string_none none 0 W)
    clear hrow hnil hb hz
    go_wp2_with fail
    refine HS.out.mono ?_
    rintro e w1 ⟨rfl, rfl⟩
    go_wp2_with fail
    go_ret
    exact ⟨_, rfl, by simpa [srtB, bl] using World.ownsRow_nil w1 w.heap.size 9 1, HB.out⟩
  · have hlen : (bl X).length = X.length := bl_len X
    have hH : Holds encStr W gb 0 (bl X).toArray := holds_of_block hgb (by rw [map_bl, hlen]; simpa using r4)
    have hgl : gb < W.heap.size := (Array.getElem?_eq_some_iff.1 hgb).1
    have HS := hid (Tryz.slices_Sort_string gb 0 cap (bl X) W hH hgl (by rw [hlen]; omega))
    rw [hlen] at HS
    have HO := hid (fun n os => ownsRow_sorted (n := n) (os := os) (ss := bl X) (ts := srtB (bl X)) (srtB_len _) hbase hgb (by rw [hlen]; exact r1) r2 r3)
    have HBS := hid hbase
    clear hrow hnil hb hH r1 r2 r3 r4 hgb
    go_wp2_with fail
    refine HS.out.mono ?_
    rintro e w1 ⟨rfl, nn, os, rfl⟩
    have HBB := hid (HB.out.grown (grownBy_sorted (w := W) (g := gb) (n := nn) (os := os) (srtB (bl X)).toArray) HB.out.size (fun j hj => by cases hj; exact HBS.out))
    have HOO := hid (HO.out nn os)
    rw [hlen] at HOO
    have HWW := hid (show ∃ W2, grow (putRow encStr (Sort.ahead W nn) gb 0 ((bl X).mergeSort fun x y => decide (x ≤ y)).toArray) os = W2 from ⟨_, rfl⟩)
    obtain ⟨W2, hW2⟩ := HWW.out
    have HOO2 := hid (show W2.ownsRow w.heap.size 9 1 (.slice (some ⟨gb, 0, none⟩) X.length cap) X.length ((srtB (bl X)).map encStr) by rw [← hW2]; exact HOO.out)
    have HBB2 := hid (show Below w.heap.size w W2 by rw [← hW2]; exact HBB.out)
    rw [hW2]
    clear HOO HBB HO HWW hW2
    go_wp2_with fail
    go_ret
    exact ⟨_, rfl, HOO2.out, HBB2.out⟩
theorem owns_compact {w : World} {base g cap n : Nat} {e : TypeId} {cur : Array Value} {C R : List (List UInt8)} (hbase : base ≤ g) (hb : w.heap[g]? = some (.cells cur e (0, 0)))
    (h1 : C.length + R.length ≤ cap) (h2 : cap ≤ maxLen) (h3 : cur.size = cap * 1) :
    (putRow encStr (Sort.ahead w n) g 0 (C ++ R).toArray).ownsRow base e 1 (.slice (some ⟨g, 0, none⟩) C.length cap) C.length (C.map encStr) := by
  have hs := heap_sorted (n := n) (os := #[]) (C ++ R).toArray hb
  rw [grow_empty] at hs
  refine ⟨by simp, .inr ⟨g, cap, _, rfl, hbase, hs, by omega, h2, by simp [putCells, h3], ?_⟩⟩
  have ht := take_putCells cur (C ++ R) (by rw [List.length_append]; omega)
  have := congrArg (List.take C.length) ht
  rw [List.take_take, List.length_append, Nat.min_eq_left (by omega), List.map_append, List.take_append_of_le_length (by simp), List.take_of_length_le (l := List.map encStr C) (by simp)] at this
  rw [Nat.mul_one]; exact this
theorem grownBy_compact {w : World} {g n : Nat} (d : Array (List UInt8)) : w.grownBy (putRow encStr (Sort.ahead w n) g 0 d) (some g) := by
  have := grownBy_sorted (w := w) (g := g) (n := n) (os := #[]) d
  rwa [grow_empty] at this
theorem compact_le (zs : List (List UInt8)) : (Lib.compact zs).length ≤ zs.length := by
  unfold Lib.compact Lib.compactUpTo
  rw [List.length_map]
  exact Nat.le_trans (List.length_filter_le _ _) (by simp)
def tx (Z : List (List UInt8)) : List ByteArray := Z.map ba'
theorem tx_str (Z : List (List UInt8)) : (tx Z).map Value.string = Z.map encStr := by simp [tx, ba']
theorem bl_tx (Z : List (List UInt8)) : bl (tx Z) = Z := by
  unfold bl tx
  rw [List.map_map]
  exact (List.map_congr_left fun t _ => show (ba' t).data.toList = t by simp [ba']).trans (List.map_id _)
theorem tx_len (Z : List (List UInt8)) : (tx Z).length = Z.length := by simp [tx]
theorem own_txB {w : World} {B : Nat} {e : TypeId} {v : Value} {Z : List (List UInt8)} (h : w.ownsRow B e 1 v Z.length (Z.map encStr)) : w.ownsRow B e 1 v (tx Z).length ((tx Z).map Value.string) := by
  rw [tx_str, tx_len]; exact h
set_option maxRecDepth 100000 in
set_option maxHeartbeats 2000000 in
theorem rising_any (X : List ByteArray) (hX : X.length ≤ 1000000) (sv : Value) (w : World) (hI : TxAt w sv X) :
    Calls Tryz.prog 66 #[sv] w fun e W' => ∃ v, e = .returned v ∧ W'.ownsRow w.heap.size 9 1 v (tx (risB (bl X))).length ((tx (risB (bl X))).map Value.string) ∧ Below w.heap.size w W' := by
  obtain ⟨a, c, rfl, hac, _⟩ := id hI
  have HV := hid (values_any a X.length c w)
  have HB1 := hid ((Below.refl w.heap.size w).alloc (Nat.le_refl _) (.cells #[.slice a X.length c] 24))
  have HSO := hid (sorted_any X hX (.slice a X.length c) (w.alloc (.cells #[.slice a X.length c] 24)) w.heap.size (by simp) (by rw [Lib.cell_of_heap (heap_alloc_new w _)]; rfl) (hI.below HB1.out))
  clear hI hac
  go_enter Tryz.func66, Tryz.ntmps66
  go_wp2_with fail
  refine HV.out.mono ?_
  rintro e w1 ⟨rfl, rfl⟩
  go_wp2_with fail
  refine HSO.out.mono ?_
  rintro e W ⟨v, rfl, hrow, hb⟩
  have HB := hid (HB1.out.trans (hb.mono (by simp)))
  rcases hrow.2 with ⟨rfl, hz⟩ | ⟨gb, cap, cur, rfl, hbase, hgb, r1, r2, r3, r4⟩
  · have hss : X = [] := List.eq_nil_of_length_eq_zero hz
    subst hss
    have HS := hid (Tryz.slices_Compact_string_empty none 0 W)
    clear hrow hb hz
    go_wp2_with fail
    refine HS.out.mono ?_
    rintro e w1 ⟨rfl, rfl⟩
    go_wp2_with fail
    go_ret
    exact ⟨_, rfl, by simpa [risB, srtB, bl, tx, Lib.compact, Lib.compactUpTo] using World.ownsRow_nil w1 w.heap.size 9 1, HB.out⟩
  · have hlen : (srtB (bl X)).length = X.length := by rw [srtB_len, bl_len]
    have hH : Holds encStr W gb 0 (srtB (bl X)).toArray := holds_of_block hgb (by rw [hlen]; simpa using r4)
    have HS := hid (Tryz.slices_Compact_string gb 0 cap (srtB (bl X)) W hH (by rw [hlen]; omega) (by rw [hlen]; exact r1))
    rw [hlen] at HS
    have hcl := compact_le (srtB (bl X))
    have hgw : w.heap.size ≤ gb := by simp at hbase; omega
    have HO := hid (fun n => owns_compact (n := n) (base := w.heap.size) (C := risB (bl X)) (R := List.replicate (X.length - (Lib.compact (srtB (bl X))).length) []) hgw hgb (by rw [List.length_replicate]; unfold risB; omega) r2 r3)
    have HBS := hid hgw
    clear hrow hb hH r1 r2 r3 r4 hgb hbase
    go_wp2_with fail
    refine HS.out.mono ?_
    rintro e w1 ⟨rfl, nn, hw1⟩
    have HBB := hid (HB.out.grown (grownBy_compact (w := W) (g := gb) (n := nn) (Lib.compact (srtB (bl X)) ++ List.replicate (X.length - (Lib.compact (srtB (bl X))).length) []).toArray) HB.out.size (fun j hj => by cases hj; exact HBS.out))
    have HOO := hid (HO.out nn)
    rw [← hw1] at HBB
    have HOO2 := hid (show w1.ownsRow w.heap.size 9 1 (.slice (some ⟨gb, 0, none⟩) (risB (bl X)).length cap) (risB (bl X)).length ((risB (bl X)).map encStr) by rw [hw1]; exact HOO.out)
    clear HOO HO hw1
    go_wp2_with fail
    go_ret
    exact ⟨_, rfl, own_txB HOO2.out, HBB.out⟩
end Ve
end Go.Proofs.YtanponneancajaaGreatDoor


namespace Go.Proofs.YtanponneancajaaGreatDoor
open Go.RowKit
namespace Ve
set_option maxHeartbeats 4000000 in
set_option maxRecDepth 100000 in
theorem first_ents (K : Nat) (cb : Array Value) (E : Nat → Nat) (L : List Raw) (b o c : Nat) (A : Nat → Addr) (w : World) (eg : ∀ args w, (callFunc K args).run Tryz.prog w = .ok (.enter K args) w) (hL : L.length ≤ 1000000) (hs : ∀ r, r ∈ L → slR r)
    (hc : ∀ j (h : j < L.length), w.cell? ⟨b, o + j * 5, none⟩ = some (.string L[j].1.1) ∧ w.cell? ⟨b, o + j * 5 + 1, none⟩ = some (.string L[j].1.2) ∧ w.cell? ⟨b, o + j * 5 + 2, none⟩ = some L[j].2.1 ∧ w.cell? ⟨b, o + j * 5 + 3, none⟩ = some L[j].2.2.1 ∧ w.cell? ⟨b, o + j * 5 + 4, none⟩ = some (.bool L[j].2.2.2))
    (hK : ∀ i (h : i < L.length) W, Below w.heap.size w W → Calls Tryz.prog K (#[.int .i64 (i : Int), rawV L[i]] ++ cb) W fun e w' => e = .returned (errA A (E i)) ∧ Below W.heap.size W w') :
    Calls Tryz.prog 62 #[.slice (some ⟨b, o, none⟩) L.length c, .func (.func K) #[] cb] w fun e w' => ∃ v, e = .returned v ∧ ErrAt w' A v (codeE E L.length) (fstE E L.length) ∧ Below w.heap.size w w' := by
  have HK := hid hK
  have HC := hid hc
  have HSL := hid hs
  clear hK hc hs
  go_enter Tryz.func62, Tryz.ntmps62
  go_wp2_with fail
  go_loopw [10] (fun i wr => ∃ k : Nat, k ≤ L.length ∧ i = .int .i64 k ∧ Hid (∀ j, j < k → E j = 0) ∧ Hid (Below w.heap.size w wr)) (fun i _ => L.length - (intOf i).toNat)
  case atStart => exact ⟨0, Nat.zero_le _, rfl, hid (fun j hj => absurd hj (by omega)), hid (Below.refl _ _)⟩
  case round =>
    obtain ⟨k, hk, rfl, HE, HB⟩ := hrel
    by_cases hlt : k < L.length
    · obtain ⟨y0, y1, y2, y3, y4⟩ := HC.out k hlt
      have x0 := cell_below HB.out y0
      have x1 := cell_below HB.out y1
      have x2 := cell_below HB.out y2
      have x3 := cell_below HB.out y3
      have x4 := cell_below HB.out y4
      have hsl := HSL.out L[k] (List.getElem_mem hlt)
      have hkI : (k : Int) < (L.length : Int) := by omega
      have HLT := hid hlt
      have HKK := hid (fun W hW => HK.out k hlt W hW)
      clear y0 y1 y2 y3 y4
      generalize L[k] = x at *
      obtain ⟨⟨p, q⟩, rv, pv, bk⟩ := x
      obtain ⟨⟨ra, rn, rc, hrv⟩, pa, pn, pc, hpv⟩ := hsl
      simp only at hrv hpv
      subst hrv
      subst hpv
      have HBa := hid (HB.out.alloc HB.out.size (.cells #[.string p, .string q, .slice ra rn rc, .slice pa pn pc, .bool bk] 54))
      have HP := hid (HKK.out _ HBa.out)
      unfold rawV at HP
      clear hlt HKK
      by_cases h0 : E k = 0
      · rw [h0, errA0] at HP
        have H0 := hid h0
        clear h0
        go_wp2_with fail
        refine HP.out.mono ?_
        rintro e w1 ⟨rfl, hb1⟩
        have HB1 := hid (HBa.out.trans (hb1.mono HBa.out.size))
        clear hb1
        go_wp2_with fail
        go_roundw
        case rel => exact ⟨k + 1, by have := HLT.out; omega, by go_num, hid (fun j hj => by
          rcases Nat.lt_or_ge j k with h | h
          · exact HE.out j h
          · have : j = k := by omega
            rw [this]; exact H0.out), HB1⟩
        case measure => have := HLT.out; simp [intOf]; omega
      · rw [errA_if A h0] at HP
        have HF := hid (fstE_some HE.out h0 HLT.out)
        have H0 := hid h0
        clear h0
        go_wp2_with fail
        refine HP.out.mono ?_
        rintro e w1 ⟨rfl, hb1⟩
        have HB1 := hid (HBa.out.trans (hb1.mono HBa.out.size))
        clear hb1
        go_wp2_with fail
        go_ret
        refine ⟨_, rfl, ?_, HB1.out.alloc HB1.out.size _⟩
        rw [codeE_some HF.out, HF.out]
        exact fault_at H0.out _
    · have HF := hid (fstE_none (E := E) (n := L.length) (fun j hj => HE.out j (by omega)))
      have hkI : ¬ (k : Int) < (L.length : Int) := by omega
      clear hlt
      go_wp2_with fail
      go_ret
      refine ⟨_, rfl, ?_, HB.out⟩
      rw [codeE_none HF.out, HF.out]
      rfl
theorem firstE_none (K : Nat) (cb : Array Value) (E : Nat → Nat) (a : Option Addr) (c : Nat) (A : Nat → Addr) (w : World) :
    Calls Tryz.prog 62 #[.slice a 0 c, .func (.func K) #[] cb] w fun e w' => ∃ v, e = .returned v ∧ ErrAt w' A v (codeE E 0) (fstE E 0) ∧ Below w.heap.size w w' := by
  go_enter Tryz.func62, Tryz.ntmps62
  go_wp2_with fail
  go_loopw [10] (fun i wr => i = .int .i64 0 ∧ wr = w) (fun i _ => 0)
  case atStart => exact ⟨rfl, rfl⟩
  case round =>
    obtain ⟨rfl, rfl⟩ := hrel
    go_wp2_with fail
    go_ret
    exact ⟨_, rfl, rfl, Below.refl _ _⟩
theorem firstE_any (K : Nat) (cb : Array Value) (E : Nat → Nat) (L : List Raw) (v : Value) (A : Nat → Addr) (w : World) (eg : ∀ args w, (callFunc K args).run Tryz.prog w = .ok (.enter K args) w) (hL : L.length ≤ 1000000) (hv : EsAt w v L)
    (hK : ∀ i (h : i < L.length) W, Below w.heap.size w W → Calls Tryz.prog K (#[.int .i64 (i : Int), rawV L[i]] ++ cb) W fun e w' => e = .returned (errA A (E i)) ∧ Below W.heap.size W w') :
    Calls Tryz.prog 62 #[v, .func (.func K) #[] cb] w fun e w' => ∃ u, e = .returned u ∧ ErrAt w' A u (codeE E L.length) (fstE E L.length) ∧ Below w.heap.size w w' := by
  obtain ⟨a, c, rfl, _, hs, h⟩ := hv
  cases L with
  | nil => exact firstE_none K cb E a c A w
  | cons x r =>
    obtain ⟨b, o, rfl, h2⟩ := h (by simp)
    exact first_ents K cb E (x :: r) b o c A w eg hL hs h2 hK
theorem mpath_ix (s : ByteArray) (A : Nat → Addr) (m : Int) (w : World) (hs : s.size < 4294967281) (S : Te w A m) :
    Calls Tryz.prog 209 #[.string s] w fun e w' => e = .returned (errA A (pathErr s.data.toList)) ∧ Below w.heap.size w w' := by
  have HP := hid (readPath_any s A m w hs S)
  clear S
  go_enter Tryz.func209, Tryz.ntmps209
  go_wp2_with fail
  refine HP.out.mono ?_
  rintro e w1 ⟨⟨H, n, v, rfl, hv, _, _⟩, hb⟩
  have HV := hid hv
  have HB := hid hb
  clear hb hv
  go_wp2_with fail
  go_ret
  exact ⟨by rw [← HV.out]; rfl, HB.out⟩
def noPk (l : List UInt8) : Bool := decide (l ≠ [46]) && decide (pathErr l ≠ 0)
set_option maxHeartbeats 1000000 in
theorem noPack_any (s : ByteArray) (A : Nat → Addr) (m : Int) (w : World) (hs : s.size < 4294967281) (S : Te w A m) :
    Calls Tryz.prog 155 #[.string s] w fun e w' => e = .returned (.bool (noPk s.data.toList)) ∧ Below w.heap.size w w' := by
  have HP := hid (mpath_ix s A m w hs S)
  clear S
  generalize hr : noPk s.data.toList = r
  have HR := hid hr
  clear hr
  by_cases h1 : s.data.toList = [46]
  · have hq : (s.toList == [46]) = true := by rw [ByteArray.toList_eq]; exact beq_iff_eq.2 h1
    have HX := hid (show noPk s.data.toList = false by unfold noPk; rw [h1]; rfl)
    clear h1
    go_enter Tryz.func155, Tryz.ntmps155
    go_wp2_with fail
    go_ret
    exact ⟨by rw [← HR.out, HX.out]; rfl, Below.refl _ _⟩
  · have hq : (s.toList == [46]) = false := by rw [ByteArray.toList_eq]; exact beq_eq_false_iff_ne.2 h1
    by_cases h2 : pathErr s.data.toList = 0
    · rw [h2, errA0] at HP
      have HX := hid (show noPk s.data.toList = false by unfold noPk; rw [h2]; simp)
      clear h1 h2
      go_enter Tryz.func155, Tryz.ntmps155
      go_wp2_with fail
      refine HP.out.mono ?_
      rintro e w1 ⟨rfl, hb⟩
      have HB := hid hb
      clear hb
      go_wp2_with fail
      go_ret
      exact ⟨by rw [← HR.out, HX.out]; rfl, HB.out⟩
    · rw [errA_if A h2] at HP
      have HX := hid (show noPk s.data.toList = true by unfold noPk; rw [decide_eq_true h1, decide_eq_true h2]; rfl)
      clear h1 h2
      go_enter Tryz.func155, Tryz.ntmps155
      go_wp2_with fail
      refine HP.out.mono ?_
      rintro e w1 ⟨rfl, hb⟩
      have HB := hid hb
      clear hb
      go_wp2_with fail
      go_ret
      exact ⟨by rw [← HR.out, HX.out]; rfl, HB.out⟩
set_option maxHeartbeats 1000000 in
theorem idxT_some (K : Nat) (P : List UInt8 → Bool) (b0 o0 c0 : Nat) (X : List ByteArray) (w : World) (eg : ∀ args w, (callFunc K args).run Tryz.prog w = .ok (.enter K args) w) (hX : X.length ≤ 1000000) (hc0 : ∀ j (h : j < X.length), w.cell? ⟨b0, o0 + j, none⟩ = some (.string X[j]))
    (hK : ∀ i (h : i < X.length) W, Below w.heap.size w W → Calls Tryz.prog K #[.string X[i]] W fun e w' => e = .returned (.bool (P X[i].data.toList)) ∧ Below W.heap.size W w') :
    Calls Tryz.prog 208 #[.slice (some ⟨b0, o0, none⟩) X.length c0, .func (.func K) #[] #[]] w fun e w' => ∃ i : Int, e = .returned (.int .i64 i) ∧ decide (0 ≤ i) = (bl X).any P ∧ Below w.heap.size w w' := by
  have HC0 := hid hc0
  have HK := hid hK
  clear hK hc0
  go_enter Tryz.func208, Tryz.ntmps208
  go_wp2_with fail
  go_loopw [8] (fun i wr => ∃ k : Nat, k ≤ X.length ∧ i = .int .i64 k ∧ Hid ((bl X).any P = (bl (X.drop k)).any P) ∧ Hid (Below w.heap.size w wr)) (fun i _ => X.length - (intOf i).toNat)
  case atStart => exact ⟨0, Nat.zero_le _, rfl, hid rfl, hid (Below.refl _ _)⟩
  case round =>
    obtain ⟨k, hk, rfl, HO, HB⟩ := hrel
    by_cases hlt : k < X.length
    · have hx : wr.cell? ⟨b0, o0 + k, none⟩ = some (.string X[k]) := cell_below HB.out (HC0.out k hlt)
      have HP := hid (HK.out k hlt wr HB.out)
      have HN := hid (HO.out.trans (any_step P X k hlt))
      generalize hq : P X[k].data.toList = q at *
      clear hq HO
      cases q
      · go_wp2_with fail
        refine HP.out.mono ?_
        rintro e w1 ⟨rfl, hb1⟩
        have HB1 := hid (HB.out.trans (hb1.mono HB.out.size))
        clear hb1
        go_wp2_with fail
        go_roundw
        case rel => exact ⟨k + 1, by omega, by go_num, hid (HN.out.trans (Bool.false_or _)), HB1⟩
        case measure => simp [intOf]; omega
      · go_wp2_with fail
        refine HP.out.mono ?_
        rintro e w1 ⟨rfl, hb1⟩
        have HB1 := hid (HB.out.trans (hb1.mono HB.out.size))
        clear hb1
        go_wp2_with fail
        go_ret
        exact ⟨k, rfl, by rw [HN.out, Bool.true_or]; exact decide_eq_true (by omega), HB1.out⟩
    · have HE := hid (show (bl (X.drop k)).any P = false by rw [List.drop_eq_nil_of_le (by omega)]; rfl)
      go_wp2_with fail
      go_ret
      exact ⟨-1, rfl, by rw [HO.out, HE.out]; rfl, HB.out⟩
theorem idxT_none (K : Nat) (a : Option Addr) (c : Nat) (w : World) : Calls Tryz.prog 208 #[.slice a 0 c, .func (.func K) #[] #[]] w fun e w' => e = .returned (.int .i64 (-1)) ∧ Below w.heap.size w w' := by
  go_enter Tryz.func208, Tryz.ntmps208
  go_wp2_with fail
  go_loopw [8] (fun i wr => i = .int .i64 0 ∧ wr = w) (fun i _ => 0)
  case atStart => exact ⟨rfl, rfl⟩
  case round =>
    obtain ⟨rfl, rfl⟩ := hrel
    go_wp2_with fail
    go_ret
    exact ⟨rfl, Below.refl _ _⟩
theorem idxT_any (K : Nat) (P : List UInt8 → Bool) (X : List ByteArray) (v : Value) (w : World) (eg : ∀ args w, (callFunc K args).run Tryz.prog w = .ok (.enter K args) w) (hX : X.length ≤ 1000000) (hv : TxAt w v X)
    (hK : ∀ i (h : i < X.length) W, Below w.heap.size w W → Calls Tryz.prog K #[.string X[i]] W fun e w' => e = .returned (.bool (P X[i].data.toList)) ∧ Below W.heap.size W w') :
    Calls Tryz.prog 208 #[v, .func (.func K) #[] #[]] w fun e w' => ∃ i : Int, e = .returned (.int .i64 i) ∧ decide (0 ≤ i) = (bl X).any P ∧ Below w.heap.size w w' := by
  obtain ⟨a, c, rfl, _, h⟩ := hv
  cases X with
  | nil => exact (idxT_none K a c w).mono fun e w' ⟨h1, h2⟩ => ⟨-1, h1, rfl, h2⟩
  | cons x r =>
    obtain ⟨b, o, rfl, h2⟩ := h (by simp)
    exact idxT_some K P b o c (x :: r) w eg hX h2 hK
theorem hasT_any (K : Nat) (P : List UInt8 → Bool) (X : List ByteArray) (v : Value) (w : World) (eg : ∀ args w, (callFunc K args).run Tryz.prog w = .ok (.enter K args) w) (hX : X.length ≤ 1000000) (hv : TxAt w v X)
    (hK : ∀ i (h : i < X.length) W, Below w.heap.size w W → Calls Tryz.prog K #[.string X[i]] W fun e w' => e = .returned (.bool (P X[i].data.toList)) ∧ Below W.heap.size W w') :
    Calls Tryz.prog 154 #[v, .func (.func K) #[] #[]] w fun e w' => e = .returned (.bool ((bl X).any P)) ∧ Below w.heap.size w w' := by
  have HI := hid (idxT_any K P X v w eg hX hv hK)
  obtain ⟨a, c, rfl, _⟩ := hv
  clear hK
  go_enter Tryz.func154, Tryz.ntmps154
  go_wp2_with fail
  refine HI.out.mono ?_
  rintro e w1 ⟨i, rfl, hi, hb⟩
  have HB := hid hb
  have HQ := hid hi
  clear hb hi
  go_wp2_with fail
  go_ret
  exact ⟨ret_bool HQ.out, HB.out⟩
theorem eqT_any (X Y : List ByteArray) (v u : Value) (w : World) (hX : X.length ≤ 1000000) (hY : Y.length ≤ 1000000) (hv : TxAt w v X) (hu : TxAt w u Y) :
    Calls Tryz.prog 156 #[v, u] w fun e w' => e = .returned (.bool (decide (X = Y))) ∧ Below w.heap.size w w' := by
  obtain ⟨a, c, rfl, _, h⟩ := hv
  obtain ⟨a', c', rfl, _, h'⟩ := hu
  cases X with
  | nil =>
    refine (Tryz.slices_Equal_string_empty a a' c Y.length c' w (by omega)).mono fun e w' ⟨h1, h2⟩ => ⟨?_, by rw [h2]; exact Below.refl _ _⟩
    rw [h1]
    congr 2
    cases Y with
    | nil => rfl
    | cons y s => simp
  | cons x r =>
    by_cases hl : (x :: r).length = Y.length
    · obtain ⟨b, o, rfl, h2⟩ := h (by simp)
      obtain ⟨b', o', rfl, h3⟩ := h' (by intro hy; rw [hy] at hl; simp at hl)
      refine (Tryz.slices_Equal_string b o (x :: r).length c b' o' Y.length c' (x :: r) Y w (Nat.le_refl _) (Nat.le_refl _) (by omega) (by omega) (fun j hj => ?_) (fun j hj => ?_)).mono fun e w' ⟨h1, q, h4⟩ => ⟨?_, by rw [h4]; exact below_drawn_of (Below.refl _ w) q⟩
      · rw [h2 j hj]; simp [List.getD, List.getElem?_eq_getElem hj]
      · rw [h3 j hj]; simp [List.getD, List.getElem?_eq_getElem hj]
      · rw [h1, List.take_length, List.take_length]
    · refine (Tryz.slices_Equal_string_lens a a' (x :: r).length c Y.length c' w hl).mono fun e w' ⟨h1, h2⟩ => ⟨?_, by rw [h2]; exact Below.refl _ _⟩
      rw [h1]
      congr 2
      exact (decide_eq_false (fun hh => hl (by rw [hh]))).symm
def packErr (Z : List (List UInt8)) : Nat := if 10 < Z.length then 7 else if Z.any noPk then 1 else if Z = risB Z then 0 else 8
theorem pk_full {Z : List (List UInt8)} (h : 10 < Z.length) : packErr Z = 7 := by unfold packErr; rw [if_pos h]
theorem pk_text {Z : List (List UInt8)} (h : ¬ 10 < Z.length) (h1 : Z.any noPk = true) : packErr Z = 1 := by unfold packErr; rw [if_neg h, if_pos h1]
theorem pk_ok {Z : List (List UInt8)} (h : ¬ 10 < Z.length) (h1 : Z.any noPk = false) (h2 : Z = risB Z) : packErr Z = 0 := by unfold packErr; rw [if_neg h, h1, if_neg (by simp), if_pos h2]
theorem pk_order {Z : List (List UInt8)} (h : ¬ 10 < Z.length) (h1 : Z.any noPk = false) (h2 : ¬ Z = risB Z) : packErr Z = 8 := by unfold packErr; rw [if_neg h, h1, if_neg (by simp), if_neg h2]
theorem eq_ris (X : List ByteArray) : decide (X = tx (risB (bl X))) = decide (bl X = risB (bl X)) := by
  congr 1
  apply propext
  constructor
  · intro h; have := congrArg bl h; rwa [bl_tx] at this
  · intro h; exact bl_inj (by rw [bl_tx]; exact h)
theorem risB_len (Z : List (List UInt8)) : (risB Z).length ≤ Z.length := by
  unfold risB
  exact Nat.le_trans (compact_le _) (by rw [srtB_len]; exact Nat.le_refl _)
set_option maxHeartbeats 2000000 in
theorem packs_any (X : List ByteArray) (v : Value) (A : Nat → Addr) (m : Int) (w : World) (hX : X.length ≤ 1000) (hz : ∀ x, x ∈ X → x.size < 999999) (S : Te w A m) (hv : TxAt w v X) :
    Calls Tryz.prog 113 #[v] w fun e w' => e = .returned (errA A (packErr (bl X))) ∧ Below w.heap.size w w' := by
  obtain ⟨a, c, rfl, _⟩ := id hv
  have hbl : (bl X).length = X.length := bl_len X
  have HS := hid S
  have g6 := S.sen.g6
  have egN : ∀ args w, (callFunc 155 args).run Tryz.prog w = .ok (.enter 155 args) w := enters_of Tryz.func155 (by kernel_rfl) rfl
  by_cases h1 : 10 < X.length
  · have q1 : (10 : Int) < (X.length : Int) := by omega
    rw [pk_full (by rw [hbl]; exact h1)]
    clear hv S h1 egN
    go_enter Tryz.func113, Tryz.ntmps113
    go_wp2_with fail
    go_ret
    exact ⟨rfl, Below.refl _ _⟩
  · have q1 : ¬ (10 : Int) < (X.length : Int) := by omega
    have HH := hid (hasT_any 155 noPk X _ w egN (by omega) hv (fun i hi W hW => noPack_any X[i] A m W (by have := hz _ (List.getElem_mem hi); omega) (S.below hW)))
    have HV := hid hv
    have hb10 : ¬ 10 < (bl X).length := by rw [hbl]; exact h1
    have H10 := hid hb10
    clear hv S h1 egN hb10
    cases h2 : (bl X).any noPk
    · rw [h2] at HH
      have H2 := hid h2
      clear h2
      go_enter Tryz.func113, Tryz.ntmps113
      go_wp2_with fail
      refine HH.out.mono ?_
      rintro e w1 ⟨rfl, hb⟩
      have HRI := hid (rising_any X (by omega) _ w1 (HV.out.below hb))
      have HB := hid hb
      clear hb
      go_wp2_with fail
      refine HRI.out.mono ?_
      rintro e w2 ⟨u, rfl, ho, hb⟩
      have HB2 := hid (HB.out.trans (hb.mono HB.out.size))
      have HEQ := hid (eqT_any X (tx (risB (bl X))) _ u w2 (by omega) (by rw [tx_len]; have := risB_len (bl X); omega) (HV.out.below HB2.out) (own_tx ho))
      rw [eq_ris] at HEQ
      obtain ⟨ua, uc, hu⟩ := own_slN ho
      subst hu
      have g7 := (HS.out.below HB2.out).sen.g7
      clear hb ho g6
      by_cases h3 : bl X = risB (bl X)
      · rw [decide_eq_true h3] at HEQ
        have HX := hid (pk_ok H10.out H2.out h3)
        clear h3
        go_wp2_with fail
        refine HEQ.out.mono ?_
        rintro e w3 ⟨rfl, hb⟩
        have HB3 := hid (HB2.out.trans (hb.mono HB2.out.size))
        clear hb
        go_wp2_with fail
        go_ret
        exact ⟨by rw [HX.out]; rfl, HB3.out⟩
      · rw [decide_eq_false h3] at HEQ
        have HX := hid (pk_order H10.out H2.out h3)
        have HG := hid (fun W (h : Below w.heap.size w W) => (HS.out.below h).sen.g7)
        clear h3 g7
        go_wp2_with fail
        refine HEQ.out.mono ?_
        rintro e w3 ⟨rfl, hb⟩
        have HB3 := hid (HB2.out.trans (hb.mono HB2.out.size))
        have g7 := HG.out _ HB3.out
        clear hb
        go_wp2_with fail
        go_ret
        exact ⟨by rw [HX.out]; rfl, HB3.out⟩
    · rw [h2] at HH
      have HX := hid (pk_text H10.out h2)
      have HG := hid (fun W (h : Below w.heap.size w W) => (HS.out.below h).sen.g0)
      clear h2 g6
      go_enter Tryz.func113, Tryz.ntmps113
      go_wp2_with fail
      refine HH.out.mono ?_
      rintro e w1 ⟨rfl, hb⟩
      have HB := hid hb
      have g0 := HG.out _ HB.out
      clear hb
      go_wp2_with fail
      go_ret
      exact ⟨by rw [HX.out]; rfl, HB.out⟩
end Ve
end Go.Proofs.YtanponneancajaaGreatDoor
